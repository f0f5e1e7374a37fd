/-
 Of layer 9: two operations of VectorKeeps in runs: an append of nothing; five numbers compared with themselves. No condition.
-/
import Derived.Test.YtjoalcaooccbiaaMk22
import Derived.Deep.Upon
namespace Go.Proofs.Ytjoalcaooccbiaa
open Go.RowKit VecM Ev
namespace Vc
theorem info8 : ∃ i, Try.prog.info? 22 = some i := by
 cases h : Try.prog.info? 22 with
 | none => exact absurd (show (Try.prog.info? 22).isSome = true by kernel_rfl) (by rw [h]; decide)
 | some i => exact ⟨i, rfl⟩
theorem cellsU8 : Try.prog.cellsOf 22 = 1 := by kernel_rfl
def a5 (x0 x1 x2 x3 x4 : Int) : Array Value := #[.int .u64 x0, .int .u64 x1, .int .u64 x2, .int .u64 x3, .int .u64 x4]
theorem a5_get (x0 x1 x2 x3 x4 : Int) (j : Nat) (h : j < 5) : ∃ z, (a5 x0 x1 x2 x3 x4)[j]? = some (.int .u64 z) := by
 match j, h with
 | 0, _ => exact ⟨_, rfl⟩
 | 1, _ => exact ⟨_, rfl⟩
 | 2, _ => exact ⟨_, rfl⟩
 | 3, _ => exact ⟨_, rfl⟩
 | 4, _ => exact ⟨_, rfl⟩
theorem eqItems_5 (x0 x1 x2 x3 x4 : Int) (d : Nat) (w : World) : ∀ is : List Nat, (∀ i ∈ is, i < 5) → (Op.eqItems (d + 1) 22 1 (a5 x0 x1 x2 x3 x4) (a5 x0 x1 x2 x3 x4) is).run Try.prog w = .ok true w
 | [], _ => by simp [Op.eqItems]
 | i :: is, h => by
  have hi := h i (by simp)
  have ih := eqItems_5 x0 x1 x2 x3 x4 d w is fun j hj => h j (by simp [hj])
  obtain ⟨z, hz⟩ := a5_get x0 x1 x2 x3 x4 i hi
  have h1 : (part 22 (a5 x0 x1 x2 x3 x4) i).run Try.prog w = .ok (.int .u64 z) w := by
   simp [part, isAgg, run_underlying Try.underlying22, hz]
  have h3 : (Op.equalIn (d + 1) 22 (.int .u64 z) (.int .u64 z)).run Try.prog w = .ok true w := by
   simp [Op.equalIn, run_underlying Try.underlying22]
  simp only [Op.eqItems, Nat.mul_one, Sem.run_bind, h1, h3, Result.andThen_ok]
  simp [ih]
theorem eq_5 (x0 x1 x2 x3 x4 : Int) (w : World) : (Op.equalIn 10000 61 (.agg (a5 x0 x1 x2 x3 x4)) (.agg (a5 x0 x1 x2 x3 x4))).run Try.prog w = .ok true w := by
 obtain ⟨i, hi⟩ := info8
 rw [show (10000 : Nat) = 9999 + 1 from rfl, run_equalIn_array w 9999 _ _ Try.underlying61 hi, cellsU8]
 exact eqItems_5 x0 x1 x2 x3 x4 9998 w _ fun i hi => List.mem_range.1 hi
theorem run_neq5 {o : Oper} {a : Act} {x y : Operand} {t : TypeId} {x0 x1 x2 x3 x4 : Int} (ho : o.op = .binOp .neq 61 x y t) (hx : a.eval x = .agg (a5 x0 x1 x2 x3 x4)) (hy : a.eval y = .agg (a5 x0 x1 x2 x3 x4)) (w : World) :
  (execOp a.eval o).run Try.prog w = .ok (.value (.bool false)) w := by
 have hq := eq_5 x0 x1 x2 x3 x4 w
 unfold execOp
 simp only [ho, hx, hy]
 go_simp
/-- five numbers against themselves; an append of nothing -/
noncomputable def keOph (o : Oper) (T : Tm) (M : List Rw) : Option OHole :=
 match appOf o with
 | some (x, y, t) => match evalT T y, evalT T x with
  | .slice none 0 0, .slice b n c => match appT Try.prog t with
   | some _ => some ⟨T.n, [], M, [Nat.ble n c], some (.slice b n c), M⟩
   | none => none
  | _, _ => none
 | none => match o.op with
  | .binOp .neq t (.tmp i) (.tmp j) _ => match Nat.beq t 61 with
   | true => match tget T i with
    | .agg ⟨[.int .u64 x0, .int .u64 x1, .int .u64 x2, .int .u64 x3, .int .u64 x4]⟩ => some ⟨T.n, [(j, .agg ⟨[.int .u64 x0, .int .u64 x1, .int .u64 x2, .int .u64 x3, .int .u64 x4]⟩)], M, [], some (.bool false), M⟩
    | _ => none
   | false => none
  | _ => none
theorem src_none (w : World) (e : TypeId) (z : Nat) (t : TypeId) (h : Try.prog.underlying t = some (.slice e)) : Src Try.prog z t (.slice none 0 0) 0 [] w where
 kind := .inl ⟨e, h⟩
 len := fun w' => by simp [Builtin.lenOf]
 cells := by simp [Builtin.firstCells]
 cellsD := by simp [Builtin.firstCells]
 newsLen := by simp
 one := fun u hu => by cases hu
theorem keOph_ok : ∀ o T M H, keOph o T M = some H → T.n = H.n → (∀ p ∈ H.need, tget T p.1 = p.2) → M = H.rows → (∀ b ∈ H.pre, b = true) → ∀ w0 w : World, SG w0 M w →
  ∃ w', (execOp (evalT T) o).run Try.prog w = .ok (match H.v with | some v => .value v | none => .skip) w' ∧ SG w0 H.rows1 w' := by
 intro o T M H hq hn hneed hrows hpre w0 w hS
 unfold keOph at hq
 split at hq
 ·rename_i x y t hap
  split at hq
  ·rename_i b n c hy hx
   split at hq
   ·rename_i p hp
    obtain ⟨e, size, bytes⟩ := p
    obtain ⟨hu, i, z, hi, _, _, _, _, _⟩ := appT_inv hp
    cases hq
    have hle := Nat.le_of_ble_eq_true (hpre _ (List.mem_cons_self ..))
    refine ⟨w, ?_, hS⟩
    refine exec_app hap ?_
    rw [hx, hy]
    exact run_append_nothing w t t o.type e i hu hi b n c hle _ (src_none w e _ t hu)
   ·cases hq
  ·cases hq
 ·split at hq
  ·rename_i t i j t' hop
   split at hq
   ·rename_i ht
    obtain rfl := Nat.eq_of_beq_eq_true ht
    split at hq
    ·rename_i x0 x1 x2 x3 x4 hi
     cases hq
     have hj := hneed _ (List.mem_cons_self ..)
     simp only at hj
     refine ⟨w, ?_, hS⟩
     have he := eval_T T []
     rw [← he]
     exact run_neq5 (a := ⟨T.toArray, []⟩) hop (by rw [he]; exact hi) (by rw [he]; exact hj) w
    ·cases hq
   ·cases hq
  ·cases hq
end Vc
end Go.Proofs.Ytjoalcaooccbiaa
