/-
  Texts of this seat, joined: TgOp, TgW, TgX, TgR. Each says what it proves.
-/
import Derived.Test.YtifjgocfdnhdeaaMr9
import Derived.Test.YtifjgocfdnhdeaaMr10
import Derived.ChangeSame
import Derived.JoinedCond
/- TgOp -/
namespace Go.Proofs.Ytifjgocfdnhdeaa
open Go.RowKit Go.ChangeShapes Go.WideShapes
namespace Tg
theorem bulk_len {H : Type} : ∀ l : List (DataW H), l.length ≤ Rows.uptoBulkAll l
 | [] => by simp [Rows.uptoBulkAll]
 | x :: r => by
  have h1 := bulk_len r
  have h2 : 1 ≤ Rows.uptoBulk x := by
   cases x with
   | lit l => cases l <;> simp [Rows.uptoBulk]
   | nil => simp [Rows.uptoBulk]
   | ptr d => simp [Rows.uptoBulk]
   | slice elems spare => simp [Rows.uptoBulk]
   | agg parts => simp [Rows.uptoBulk]
   | iface t d => simp [Rows.uptoBulk]
   | map entries => simp [Rows.uptoBulk]
   | held h => simp [Rows.uptoBulk]
  simp only [Rows.uptoBulkAll, List.length_cons]; omega
theorem bulk_mem {H : Type} : ∀ (l : List (DataW H)) (d : DataW H), d ∈ l → Rows.uptoBulk d ≤ Rows.uptoBulkAll l
 | [], _, h => by cases h
 | x :: r, d, h => by
  rcases List.mem_cons.1 h with rfl | h
  ·simp only [Rows.uptoBulkAll]; omega
  ·have := bulk_mem r d h
   simp only [Rows.uptoBulkAll]; omega
theorem one_of {L : List Value} {a : Nat} {u : Value} (h : (L.drop a).take 1 = [u]) : L[a]? = some u := by
 have h2 := congrArg (·[0]?) h
 simp only [List.getElem?_take_of_lt (show 0 < 1 by decide), List.getElem?_drop, Nat.add_zero] at h2
 exact h2
def NilZ (v : Value) : Prop := ∀ n c, v = .slice none n c → n = 0 ∧ c = 0
theorem open_rows {H : Type} {enc : TypeId × Value → H} {W : World} {α : Type} (g : α → Array Value) (z : Nat) (hz : ∀ x, (g x).size = z) (h0 : 0 < z) {ts te : TypeId} (ht : Try.prog.underlying ts = some (.slice te)) (hce : Try.prog.cellsOf te = z) (Q : α → Nat → Prop)
  (hel : ∀ fuel cs (y : DataW H × List MemPlace), DataW.trod enc Try.prog W 0 (fun _ => true) true fuel te cs = some y → ∃ x, cs = (g x).toList ∧ Q x (Rows.uptoBulk y.1))
  {fuel : Nat} {cs : List Value} {y : DataW H × List MemPlace} (h : DataW.trod enc Try.prog W 0 (fun _ => true) true fuel ts cs = some y) :
  ∃ v l, cs = [v] ∧ RwR W v l.length (flat g l) ∧ l.length + 1 ≤ Rows.uptoBulk y.1 ∧ (∀ x ∈ l, ∃ b, b ≤ Rows.uptoBulk y.1 ∧ Q x b) ∧ NilZ v := by
 rcases DataW.trod_slice ht h with ⟨rfl, rfl⟩ | ⟨a, len, cap, elems, rest, n, _, rfl, rfl, _, hl, hm, hlen, he, _, _⟩
 ·exact ⟨_, [], rfl, ⟨none, 0, rfl, fun j u hu => by cases hu⟩, by simp [Rows.uptoBulk], (fun x hx => by cases hx), (fun n c e => by injection e with _ e1 e2; exact ⟨e1.symm, e2.symm⟩)⟩
 ·rw [hce] at he
  have key : ∀ m, m ≤ len → ∃ l : List α, l.length = m ∧ (∀ x ∈ l, ∃ b, b ≤ Rows.uptoBulkAll (elems.map (·.1)) ∧ Q x b) ∧ ∀ (k : Nat) x, l[k]? = some x → ∀ i u, (g x)[i]? = some u → W.cell? ((a.add (k * z)).add i) = some u := by
   intro m
   induction m with
   | zero => exact fun _ => ⟨([] : List α), rfl, (fun x hx => by cases hx), (fun k x hk => by simp at hk)⟩
   | succ m ih =>
    intro hm1
    obtain ⟨l, hll, hq, hc⟩ := ih (by omega)
    have h1 := he m (by omega)
    rw [List.getElem?_eq_getElem (by omega), Option.bind_eq_some_iff] at h1
    obtain ⟨cs, hcs, hy⟩ := h1
    have hsp := World.cells?_some hcs
    obtain ⟨x, rfl, hQ⟩ := hel _ _ _ hy
    refine ⟨l ++ [x], by simp [hll], fun x' hx' => ?_, fun k x' hk i u hu => ?_⟩
    ·rcases List.mem_append.1 hx' with h | h
     ·exact hq x' h
     ·obtain rfl := List.mem_singleton.1 h
      exact ⟨_, bulk_mem (elems.map (·.1)) _ (List.mem_map_of_mem (List.getElem_mem (by omega))), hQ⟩
    ·by_cases hkm : k < m
     ·rw [List.getElem?_append_left (by omega)] at hk
      exact hc k x' hk i u hu
     ·have hk2 := (List.getElem?_eq_some_iff.1 hk).1
      simp only [List.length_append, List.length_singleton] at hk2
      obtain rfl : k = m := by omega
      rw [List.getElem?_append_right (by omega), hll, Nat.sub_self] at hk
      obtain rfl : x = x' := by simpa using hk
      have hi := (Array.getElem?_eq_some_iff.1 hu).1
      rw [hz] at hi
      rw [hsp.2.2 i hi, Array.getElem?_toList]
      exact hu
  obtain ⟨l, hll, hq, hc⟩ := key len (Nat.le_refl _)
  refine ⟨_, l, by rw [hll], ⟨some a, cap, rfl, fun j u hu => ?_⟩, ?_, fun x hx => ?_, fun n c e => by cases e⟩
  ·have hj := (List.getElem?_eq_some_iff.1 hu).1
   have hfl : ∀ l : List α, (flat g l).length = l.length * z := fun l => by
    induction l with
    | nil => simp [flat]
    | cons x r ih => rw [flat, List.length_append, ih, Array.length_toList, hz, List.length_cons, Nat.add_mul, Nat.one_mul, Nat.add_comm]
   rw [hfl] at hj
   have hq0 : j / z < l.length := Nat.div_lt_of_lt_mul (by rw [Nat.mul_comm]; exact hj)
   have hm0 : j % z < z := Nat.mod_lt _ h0
   obtain ⟨x, hx⟩ : ∃ x, l[j / z]? = some x := ⟨_, List.getElem?_eq_getElem hq0⟩
   have e1 : j / z * z + j % z = j := Nat.div_add_mod' j z
   have h6 := flat_at g z hz l (j / z) x (j % z) hx hm0
   rw [e1] at h6
   rw [h6] at hu
   have h7 := hc _ x hx _ u hu
   obtain ⟨x0, hx0⟩ : ∃ x, l[0]? = some x := ⟨_, List.getElem?_eq_getElem (Nat.lt_of_le_of_lt (Nat.zero_le _) hq0)⟩
   have h8 := hc 0 x0 hx0 0 _ (Array.getElem?_eq_getElem (by rw [hz]; exact h0))
   obtain ⟨b, off, spot⟩ := a
   have hspot : spot = none := by simpa [Addr.add] using World.cell?_spot h8
   subst hspot
   rw [add_at, add_at, Nat.add_assoc, e1] at h7
   exact ⟨b, off, rfl, h7⟩
  ·have := bulk_len (elems.map (·.1))
   simp only [Rows.uptoBulk]
   rw [List.length_map] at this
   omega
  ·obtain ⟨b, hb, hQ⟩ := hq x hx
   exact ⟨b, by simp only [Rows.uptoBulk]; omega, hQ⟩
theorem flat_ivs : ∀ l : List Int, flat (fun x : Int => #[Value.int .i64 x]) l = ivs l
 | [] => rfl
 | x :: r => by
  rw [flat, flat_ivs r]
  rfl
theorem open_iv {H : Type} {enc : TypeId × Value → H} {W : World} {fuel : Nat} {cs : List Value} {y : DataW H × List MemPlace} (h : DataW.trod enc Try.prog W 0 (fun _ => true) true fuel 25 cs = some y) :
  ∃ v l, cs = [v] ∧ RwR W v l.length (ivs l) ∧ l.length + 1 ≤ Rows.uptoBulk y.1 := by
 obtain ⟨v, l, h1, h2, h3, _⟩ := open_rows (fun x : Int => #[Value.int .i64 x]) 1 (fun _ => rfl) (by decide) Try.underlying25 (by kernel_rfl) (fun _ _ => True) (fun fuel cs y hy => by
  obtain ⟨x, e, _, _⟩ := DataW.trod_int Try.underlying3 hy
  exact ⟨x, e, trivial⟩) h
 exact ⟨v, l, h1, flat_ivs l ▸ h2, h3⟩
theorem cellsSi : Try.prog.cellsOf 53 = 2 := by kernel_rfl
theorem cellsCe : Try.prog.cellsOf 47 = 3 := by kernel_rfl
theorem cellsFn : Try.prog.cellsOf 39 = 7 := by kernel_rfl
theorem cellsPr : Try.prog.cellsOf 34 = 2 := by kernel_rfl
theorem list2 {L : List Value} {a b : Value} (h : L.length = 2) (h0 : L[0]? = some a) (h1 : L[1]? = some b) : L = [a, b] := by
 match L, h with
 | [x, y], _ => simp at h0 h1; rw [h0, h1]
theorem list3 {L : List Value} {a b c : Value} (h : L.length = 3) (h0 : L[0]? = some a) (h1 : L[1]? = some b) (h2 : L[2]? = some c) : L = [a, b, c] := by
 match L, h with
 | [x, y, z], _ => simp at h0 h1 h2; rw [h0, h1, h2]
theorem list7 {L : List Value} {a b c d e f m : Value} (h : L.length = 7) (h0 : L[0]? = some a) (h1 : L[1]? = some b) (h2 : L[2]? = some c) (h3 : L[3]? = some d) (h4 : L[4]? = some e) (h5 : L[5]? = some f) (h6 : L[6]? = some m) : L = [a, b, c, d, e, f, m] := by
 match L, h with
 | [_, _, _, _, _, _, _], _ => simp at h0 h1 h2 h3 h4 h5 h6; rw [h0, h1, h2, h3, h4, h5, h6]
set_option maxRecDepth 100000 in
theorem open_si {H : Type} {enc : TypeId × Value → H} {W : World} {fuel : Nat} {cs : List Value} {y : DataW H × List MemPlace} (h : DataW.trod enc Try.prog W 0 (fun _ => true) true fuel 53 cs = some y) :
  ∃ s : SiV, cs = (siA s).toList ∧ RwR W s.iv s.s.i.length (ivs s.s.i) ∧ RwR W s.ov s.s.o.length (ivs s.s.o) ∧ s.s.i.length ≤ Rows.uptoBulk y.1 ∧ s.s.o.length ≤ Rows.uptoBulk y.1 := by
 obtain ⟨xs, m, rfl, rfl, hl, hn, hall⟩ := DataW.trod_struct Try.underlying53 h
 rw [cellsSi] at hl
 have hn2 : xs.length = 2 := hn
 have h0 := hall 0 _ rfl
 have h1 := hall 1 _ rfl
 clear hall
 rw [List.getElem?_eq_getElem (by omega)] at h0 h1
 obtain ⟨iv, li, e0, r0, b0⟩ := open_iv h0
 obtain ⟨ov, lo, e1, r1, b1⟩ := open_iv h1
 have m0 := bulk_mem (xs.map (·.1)) xs[0].1 (List.mem_map_of_mem (List.getElem_mem (by omega)))
 have m1 := bulk_mem (xs.map (·.1)) xs[1].1 (List.mem_map_of_mem (List.getElem_mem (by omega)))
 refine ⟨⟨⟨li, lo⟩, iv, ov⟩, list2 hl (one_of (a := 0) e0) (one_of (a := 1) e1), r0, r1, ?_, ?_⟩
 ·simp only [Rows.uptoBulk]; omega
 ·simp only [Rows.uptoBulk]; omega
set_option maxRecDepth 100000 in
theorem open_ce {H : Type} {enc : TypeId × Value → H} {W : World} {fuel : Nat} {cs : List Value} {y : DataW H × List MemPlace} (h : DataW.trod enc Try.prog W 0 (fun _ => true) true fuel 47 cs = some y) :
  ∃ c : Ce, cs = (ceA c).toList ∧ CeB c := by
 obtain ⟨xs, m, rfl, rfl, hl, hn, hall⟩ := DataW.trod_struct Try.underlying47 h
 rw [cellsCe] at hl
 have hn3 : xs.length = 3 := hn
 have h0 := hall 0 _ rfl
 have h1 := hall 1 _ rfl
 have h2 := hall 2 _ rfl
 clear hall
 rw [List.getElem?_eq_getElem (by omega)] at h0 h1 h2
 obtain ⟨z0, e0, _, w0⟩ := DataW.trod_int Try.underlying3 h0
 obtain ⟨z1, e1, _, w1⟩ := DataW.trod_int Try.underlying3 h1
 obtain ⟨z2, e2, _, w2⟩ := DataW.trod_int Try.underlying45 h2
 have b2 := bounds_u64 w2
 exact ⟨⟨z0, z1, z2⟩, list3 hl (one_of (a := 0) e0) (one_of (a := 1) e1) (one_of (a := 2) e2), ⟨bounds_i64 w0, bounds_i64 w1, ⟨b2.1, by have := b2.2; dsimp only; omega⟩⟩⟩
set_option maxRecDepth 100000 in
theorem open_fn {H : Type} {enc : TypeId × Value → H} {W : World} {fuel : Nat} {cs : List Value} {y : DataW H × List MemPlace} (h : DataW.trod enc Try.prog W 0 (fun _ => true) true fuel 39 cs = some y) :
  ∃ f : FuV, cs = (fuA f).toList ∧ (f.f.cs.length ≤ 1099511627776 → FuR W f) ∧ f.f.cs.length ≤ Rows.uptoBulk y.1 ∧ NilZ f.cv := by
 obtain ⟨xs, m, rfl, rfl, hl, hn, hall⟩ := DataW.trod_struct Try.underlying39 h
 rw [cellsFn] at hl
 have hn7 : xs.length = 7 := hn
 have h0 := hall 0 _ rfl
 have h1 := hall 1 _ rfl
 have h2 := hall 2 _ rfl
 have h3 := hall 3 _ rfl
 have h4 := hall 4 _ rfl
 have h5 := hall 5 _ rfl
 have h6 := hall 6 _ rfl
 clear hall
 rw [List.getElem?_eq_getElem (by omega)] at h0 h1 h2 h3 h4 h5 h6
 obtain ⟨z0, e0, _, w0⟩ := DataW.trod_int Try.underlying3 h0
 obtain ⟨z1, e1, _, w1⟩ := DataW.trod_int Try.underlying3 h1
 obtain ⟨z2, e2, _, w2⟩ := DataW.trod_int Try.underlying3 h2
 obtain ⟨z3, e3, _, w3⟩ := DataW.trod_int Try.underlying3 h3
 obtain ⟨z4, e4, _, w4⟩ := DataW.trod_int Try.underlying3 h4
 obtain ⟨cv, l, e5, r5, b5, q5, z5⟩ := open_rows ceA 3 (fun _ => rfl) (by decide) Try.underlying37 cellsCe (fun c _ => CeB c) (fun fuel cs y hy => open_ce hy) h5
 obtain ⟨mv, lm, e6, r6, _⟩ := open_iv h6
 have m5 := bulk_mem (xs.map (·.1)) xs[5].1 (List.mem_map_of_mem (List.getElem_mem (by omega)))
 refine ⟨⟨⟨z0, z1, z2, z3, z4, l⟩, cv, mv⟩, list7 hl (one_of (a := 0) e0) (one_of (a := 1) e1) (one_of (a := 2) e2) (one_of (a := 3) e3) (one_of (a := 4) e4) (one_of (a := 5) e5) (one_of (a := 6) e6), fun hlen => ⟨r5, ?_, hlen, bounds_i64 w0, bounds_i64 w1, bounds_i64 w2, bounds_i64 w3, bounds_i64 w4, fun c hc => (q5 c hc).elim fun _ h => h.2⟩, ?_, z5⟩
 ·obtain ⟨x, c, e, _⟩ := r6
  exact ⟨x, _, c, e⟩
 ·simp only [Rows.uptoBulk]
  omega
set_option maxRecDepth 100000 in
theorem open_prog {H : Type} {enc : TypeId × Value → H} {W : World} {r : Reach} {base : Nat} {v : Value} {d : DataW H} {p : List MemPlace}
  (hok : Value.okWide Try.prog W r base 34 v) (h : DataW.Trod enc Try.prog W 0 (fun _ => true) true 34 v d p) (hb : Rows.uptoBulk d ≤ 1048576) :
  ∃ (sv fv : Value) (P : Pr), v = .agg #[sv, fv] ∧ PrR W sv fv P ∧ SmP P ∧ ∀ f ∈ P.fs, NilZ f.cv := by
 obtain ⟨cs, rfl, hsz⟩ := okWide_struct Try.underlying34 hok
 rw [cellsPr] at hsz
 obtain ⟨fuel, hf⟩ := h
 obtain ⟨xs, m, rfl, hx, hl, hn, hall⟩ := DataW.trod_struct Try.underlying34 hf
 have hn2 : xs.length = 2 := hn
 have h0 := hall 0 _ rfl
 have h1 := hall 1 _ rfl
 clear hall
 rw [List.getElem?_eq_getElem (by omega)] at h0 h1
 simp only [Value.cells] at h0 h1
 obtain ⟨sv, ss, e0, r0, b0, q0, _⟩ := open_rows siA 2 (fun _ => rfl) (by decide) Try.underlying31 cellsSi (fun s b => RwR W s.iv s.s.i.length (ivs s.s.i) ∧ RwR W s.ov s.s.o.length (ivs s.s.o) ∧ s.s.i.length ≤ b ∧ s.s.o.length ≤ b) (fun fuel cs y hy => open_si hy) h0
 obtain ⟨fv, fs, e1, r1, b1, q1, _⟩ := open_rows fuA 7 (fun _ => rfl) (by decide) Try.underlying32 cellsFn (fun f b => (f.f.cs.length ≤ 1099511627776 → FuR W f) ∧ f.f.cs.length ≤ b ∧ NilZ f.cv) (fun fuel cs y hy => open_fn hy) h1
 have m0 := bulk_mem (xs.map (·.1)) xs[0].1 (List.mem_map_of_mem (List.getElem_mem (by omega)))
 have m1 := bulk_mem (xs.map (·.1)) xs[1].1 (List.mem_map_of_mem (List.getElem_mem (by omega)))
 have hd : Rows.uptoBulkAll (xs.map (·.1)) ≤ 1048576 := by
  have e := congrArg Prod.fst hx
  simp only at e
  subst e
  simp only [Rows.uptoBulk] at hb
  omega
 refine ⟨sv, fv, ⟨ss, fs⟩, ?_, ⟨r0, r1, fun s hs => ?_, fun f hf => ?_, by dsimp only; omega, by dsimp only; omega⟩, ⟨by dsimp only; omega, by dsimp only; omega, fun s hs => ?_, fun f hf => ?_⟩, fun f hf => ?_⟩
 ·have e := list2 (by simpa using hsz) (one_of (a := 0) e0) (one_of (a := 1) e1)
  exact congrArg Value.agg (Array.toList_inj.1 e)
 ·obtain ⟨b, hb', g1, g2, g3, g4⟩ := q0 s hs
  exact ⟨g1, g2, by omega, by omega⟩
 ·obtain ⟨b, hb', g1, g2, _⟩ := q1 f hf
  exact g1 (by omega)
 ·obtain ⟨b, hb', g1, g2, g3, g4⟩ := q0 s hs
  exact ⟨by omega, by omega⟩
 ·obtain ⟨b, hb', g1, g2, _⟩ := q1 f hf
  omega
 ·exact (q1 f hf).elim fun _ h => h.2.2.2
end Tg
end Go.Proofs.Ytifjgocfdnhdeaa
/- TgW -/
namespace Go.Proofs.Ytifjgocfdnhdeaa
open Go.RowKit
namespace Tg
open Ins
theorem src_nilz {w : World} {v : Value} {n : Nat} {xs : List Value} (h : RwR w v n xs) (hz : NilZ v) (h0 : xs = [] → n = 0) : Src w v n xs := by
 obtain ⟨x, c, rfl, hc⟩ := h
 cases x with
 | none =>
  obtain ⟨rfl, rfl⟩ := hz _ _ rfl
  refine .inl ⟨rfl, rfl, ?_⟩
  cases xs with
  | nil => rfl
  | cons y r => obtain ⟨b, off, e, _⟩ := hc 0 y rfl; cases e
 | some a =>
  refine .inr ⟨a, c, rfl, fun j u hu => ?_⟩
  obtain ⟨b, off, e, hcell⟩ := hc j u hu
  obtain rfl := Option.some.inj e
  rw [add_at]
  exact hcell
theorem own_ty {w : World} {base : Nat} {e : TypeId} {z : Nat} {v : Value} {n : Nat} {xs : List Value} (h : w.ownsRow base e z v n xs) {k : Nat} {c : Array Value} {t : TypeId} {q : Nat × Nat} (hk : w.heap[k]? = some (.cells c t q)) (ht : t ≠ e) : v.ownBlock ≠ some k := fun hb => by
 rcases h.2 with ⟨rfl, _⟩ | ⟨g, cap, cur, rfl, _, hg, _⟩
 ·cases hb
 ·obtain rfl : g = k := Option.some.inj hb
  rw [hg] at hk
  injection hk with hk
  injection hk with _ h2
  exact ht h2.symm
theorem heap_lt {w : World} {k : Nat} {o : Obj} (h : w.heap[k]? = some o) : k < w.heap.size := (Array.getElem?_eq_some_iff.1 h).1
theorem infoFz : (Try.prog.info? 39).map (fun i => (i.zero, i.size, i.bytes)) = some (some (.agg #[.int .i64 0, .int .i64 0, .int .i64 0, .int .i64 0, .int .i64 0, .slice none 0 0, .slice none 0 0]), 7, 88) := by kernel_rfl
theorem infoCz : (Try.prog.info? 47).map (fun i => (i.zero, i.size, i.bytes)) = some (some (.agg #[.int .i64 0, .int .i64 0, .int .u64 0]), 3, 24) := by kernel_rfl
set_option maxRecDepth 100000 in
set_option maxHeartbeats 8000000 in
theorem with_any {w : World} {sv fv : Value} {P : Pr} (h : PrR w sv fv P) (hsm : SmP P) {i : Nat} {g : FuV} (hg : P.fs[i]? = some g) (hz : NilZ g.cv) : Calls Try.prog 14 #[.agg #[sv, fv], .int .i64 i] w fun e w' => ∃ fv' cv', e = .returned (.agg #[sv, fv']) ∧ Gr w w' ∧ w'.ownsRow w.heap.size 39 7 fv' P.fs.length (flat fuA (P.fs.set i ⟨g.f, cv', g.mv⟩)) ∧ w'.ownsRow w.heap.size 47 3 cv' g.f.cs.length (flat ceA g.f.cs) := by
 have HP := Lib.hid (pr_hid h)
 have hi := (List.getElem?_eq_some_iff.1 hg).1
 obtain ⟨xs, cs, rfl, -⟩ := id h.ss
 obtain ⟨xf, cf, rfl, -⟩ := id h.fs
 obtain ⟨b, off, rfl, hcl⟩ := rwR_at (z := 7) (fun _ => rfl) h.fs hg (by decide)
 have hfr := h.fus g (List.mem_of_getElem? hg)
 obtain ⟨f, cv, mv⟩ := g
 obtain ⟨xc, cc, e1, -⟩ := id hfr.cs
 dsimp only at e1
 subst e1
 obtain ⟨ns, hns⟩ : ∃ n, P.ss.length = n := ⟨_, rfl⟩
 obtain ⟨nf, hnf⟩ : ∃ n, P.fs.length = n := ⟨_, rfl⟩
 obtain ⟨nc, hnc⟩ : ∃ n, f.cs.length = n := ⟨_, rfl⟩
 have HNF := Lib.hid hnf
 have HNC := Lib.hid hnc
 have HLF := Lib.hid (show nf ≤ 1048576 from hnf ▸ hsm.fs)
 have HLC := Lib.hid (show nc ≤ 1048576 from hnc ▸ hsm.cs _ (List.mem_of_getElem? hg))
 have HLEN := Lib.hid (show (flat fuA P.fs).length = nf * 7 by rw [flat_len fuA 7 (fun _ => rfl), hnf])
 have HLENC := Lib.hid (show (flat ceA f.cs).length = nc * 3 by rw [flat_len ceA 3 (fun _ => rfl), hnc])
 have HONE := Lib.hid (flat_one fuA P.fs (fun f hf => fu_one (h.fus f hf)))
 have HONEC := Lib.hid (flat_one ceA f.cs (fun c _ => ce_one c))
 have HFS := Lib.hid (fun wx (hg : Gr w wx) => src_of_rw (rwR_gr h.fs hg) (by rw [flat_len fuA 7 (fun _ => rfl)]; omega))
 have HCS := Lib.hid (fun wx (hg : Gr w wx) => src_nilz (rwR_gr hfr.cs hg) hz (fun e => by
  have := flat_len ceA 3 (fun _ => rfl) f.cs
  rw [e, List.length_nil] at this
  show f.cs.length = 0
  omega))
 have HD := Lib.hid (fun wx (hg : Gr w wx) => gr_cell hg (hcl 5 _ rfl))
 have HGF := Lib.hid hg
 rw [hns, hnf] at HP
 rw [hnf] at HFS
 dsimp only at HCS
 rw [hnc] at HCS
 rw [hns, hnf]
 dsimp only
 rw [hnc] at HD ⊢
 rw [hnf] at hi
 have HIL := Lib.hid hi
 clear h hsm hns hnf hi hg hcl hfr hz hnc
 obtain ⟨i7, hi, hz0, hz1, hz2⟩ := info_parts infoFz
 have HI7 := Lib.hid hi
 have HZ07 := Lib.hid hz0
 have HZ17 := Lib.hid hz1
 have HZ27 := Lib.hid hz2
 clear hi hz0 hz1 hz2
 obtain ⟨i3, hi, hz0, hz1, hz2⟩ := info_parts infoCz
 have HI3 := Lib.hid hi
 have HZ03 := Lib.hid hz0
 have HZ13 := Lib.hid hz1
 have HZ23 := Lib.hid hz2
 clear hi hz0 hz1 hz2
 go_enter Try.func14, Try.ntmps14
 go_upto_region 1 with fail
 obtain ⟨hg1, hb1, hb4⟩ := box2 w #[.slice xs ns cs, .slice (some ⟨b, off, none⟩) nf cf] #[.slice none 0 0, .slice none 0 0] 34 34
 generalize hw1 : (w.alloc (.cells #[.slice xs ns cs, .slice (some ⟨b, off, none⟩) nf cf] 34)).alloc (.cells #[.slice none 0 0, .slice none 0 0] 34) = w1 at *
 have HG1 := Lib.hid hg1
 have HB1 := Lib.hid hb1
 have HB4 := Lib.hid hb4
 obtain ⟨p0, p1⟩ := cells2 hb1
 clear hg1 hb1 hb4 hw1
 go_upto_region 2 with (refine wpList_store_row rfl 34 _ _ rfl w1.heap.size #[.slice xs ns cs, .slice (some ⟨b, off, none⟩) nf cf] rfl rfl 34 #[.slice none 0 0, .slice none 0 0] (heap_alloc_new w1 _) infoPr rfl (by kernel_rfl) ?_)
 have hsep := Sep.setRow (ex := fun q => q = w1.heap.size) (w1.alloc (.cells #[.slice none 0 0, .slice none 0 0] 34)) rfl #[.slice xs ns cs, .slice (some ⟨b, off, none⟩) nf cf]
 have hgr2 := Sep.toGr ((Gr.refl w1).alloc #[.slice none 0 0, .slice none 0 0] 34) hsep (fun q hq => by have e' : q = w1.heap.size := hq; omega)
 have hbk := setRow_block (c := #[.slice xs ns cs, .slice (some ⟨b, off, none⟩) nf cf]) (heap_alloc_new w1 (.cells #[.slice none 0 0, .slice none 0 0] 34))
 have HG2 := Lib.hid (gr_trans HG1.out hgr2)
 have HGS := Lib.hid hgr2
 have HB5 := Lib.hid hbk
 have HZQ := Lib.hid (show w.heap.size < w1.heap.size from (Array.getElem?_eq_some_iff.1 HB1.out).1)
 have HZR := Lib.hid (show w.heap.size + 1 < w1.heap.size from (Array.getElem?_eq_some_iff.1 HB4.out).1)
 clear hsep hgr2 hbk p0 p1
 generalize (w1.alloc (.cells #[.slice none 0 0, .slice none 0 0] 34)).setRow w1.heap.size #[.slice xs ns cs, .slice (some ⟨b, off, none⟩) nf cf] = w2 at *
 generalize hgq : w1.heap.size = gq at *
 obtain ⟨p0, p1⟩ := cells2 (gr_block HGS.out HB1.out)
 have p1' := gr_cell ((Gr.refl w2).alloc #[] 39) p1
 go_upto_region 3 with (first | (at_builtin; refine wpList_append_at rfl _ _ 32 rfl w.heap.size 39 i7 (.agg #[.int .i64 0, .int .i64 0, .int .i64 0, .int .i64 0, .int .i64 0, .slice none 0 0, .slice none 0 0]) 7 88 Try.underlying32 HI7.out HZ07.out HZ17.out HZ27.out rfl (by decide) (.slice (some ⟨w2.heap.size, 0, none⟩) 0 0) 0 [] rfl (World.ownsRow_lit (base := w.heap.size) (e := 39) (size := 7) w2 #[] 0 HG2.out.size (by decide) rfl) (.slice (some ⟨b, off, none⟩) nf cf) nf (flat fuA P.fs) rfl (HFS.out _ (gr_trans HG2.out ((Gr.refl w2).alloc _ _))) HLEN.out HONE.out (by have := HLF.out; unfold maxLen; omega) (by have := HLF.out; omega) (by have := HG2.out.size; simp; omega) ?_))
 intro v3 w3 hown hgb hbk
 obtain ⟨g4, c4, rfl, hc4, hb4, hl4, _⟩ := own_some hown (by have := HIL.out; omega)
 have hgr3 : Gr w2 w3 := Sep.toGr ((Gr.refl w2).alloc #[] 39) (Sep.grown (ex := fun q => q = w2.heap.size) hgb (fun q hq => (Option.some.inj hq).symm)) (fun q hq => by have e' : q = w2.heap.size := hq; omega)
 have hne4 : g4 ≠ gq := fun e => by
  have h5 := (Array.getElem?_eq_some_iff.1 HB5.out).1
  rcases hbk g4 rfl with h6 | h6
  ·have e2 : w2.heap.size = g4 := Option.some.inj h6
   omega
  ·first | omega | (simp at h6; omega)
 have HNE := Lib.hid hne4
 have HNQ := Lib.hid (show ∀ q, q ≤ gq → q ≠ g4 from fun q hq e => by
  have h5 := (Array.getElem?_eq_some_iff.1 HB5.out).1
  rcases hbk g4 rfl with h6 | h6
  ·have e2 : w2.heap.size = g4 := Option.some.inj h6
   omega
  ·first | omega | (simp at h6; omega))
 have HOW := Lib.hid hown
 have HB5' := Lib.hid (gr_block hgr3 HB5.out)
 have HB1' := Lib.hid (gr_block (gr_trans HGS.out hgr3) HB1.out)
 have HB4' := Lib.hid (gr_block (gr_trans HGS.out hgr3) HB4.out)
 have HG3 := Lib.hid (gr_trans HG2.out hgr3)
 have fz := froz HB5'.out 1
 obtain ⟨q0, q1⟩ := cells2 HB5'.out
 clear hown hgb hbk hgr3 hne4 p0 p1 p1'
 go_upto_region 3 with fail
 have hsep := Sep.setCell (ex := fun q => q = gq) w3 (p := ⟨gq, 1, none⟩) rfl (.slice (some ⟨g4, 0, none⟩) nf c4)
 have HOW4 := Lib.hid (hsep.owns HOW.out (fun q hq e => HNE.out (by obtain rfl : g4 = q := Option.some.inj hq; exact e)))
 have HGP := Lib.hid (show w.heap.size < gq from HZQ.out)
 have HBQ := Lib.hid (heap_setCell_same w3 gq 1 _ _ (.slice (some ⟨g4, 0, none⟩) nf c4) HB5'.out)
 have HBP := Lib.hid (hsep.at_ (fun e : w.heap.size = gq => by have := HZQ.out; omega) HB1'.out)
 have HBR := Lib.hid (hsep.at_ (fun e : w.heap.size + 1 = gq => by have := HZR.out; omega) HB4'.out)
 have HG4 := Lib.hid (Sep.toGr HG3.out hsep (fun q hq => by have e' : q = gq := hq; have := HZQ.out; omega))
 have HNP := Lib.hid (show ∀ q, q ≤ gq → q ≠ g4 from HNQ.out)
 clear hsep fz q0 q1 HB5' HB1' HB4' HB1 HB4 HB5 HG3 HOW
 generalize w3.setCell ⟨gq, 1, none⟩ (.slice (some ⟨g4, 0, none⟩) nf c4) = w4 at *
 have HBG := Lib.hid (HOW4.out.lt g4 rfl)
 have HXD := Lib.hid (show ∀ wx, Sep (fun j => ∃ k, (k = 10 ∧ w4.heap.size ≤ j) ∨ (k = 13 ∧ j = g4)) w4.drew wx → Gr w wx from fun wx hs => Sep.toGr (gr_trans HG4.out (Gr.drew (Gr.refl _))) hs (fun q hq => by
  obtain ⟨k, hq | hq⟩ := hq
  ·have := HG4.out.size; omega
  ·have := HBG.out.1; omega))
 refine wp_region_facs [0, 1, 0, 0, 0, 16, 0, 112, 240, 496, 1016, 2047, 4095, 8191] [(fun wx => wx.heap[gq]? = some (.cells #[.slice xs ns cs, .slice (some ⟨g4, 0, none⟩) nf c4] 34 (0, 0)), []), (fun wx => wx.heap[w.heap.size]? = some (.cells #[.slice xs ns cs, .slice (some ⟨b, off, none⟩) nf cf] 34 (0, 0)), []), (fun wx => wx.heap[w.heap.size + 1]? = some (.cells #[.slice none 0 0, .slice none 0 0] 34 (0, 0)), []), (fun wx => wx.ownsRow w.heap.size 39 7 (.slice (some ⟨g4, 0, none⟩) nf c4) nf (flat fuA P.fs), [13])] (fun jφ => match jφ with | 3 => [10] | _ => []) (fun kx q => (kx = 10 ∧ w4.heap.size ≤ q) ∨ (kx = 13 ∧ q = g4)) (fun jφ v wn => match jφ with | 0 => v = .pointer (some ⟨gq, 1, none⟩) | 1 => v = .slice (some ⟨g4, 0, none⟩) nf c4 | 2 => v = .int .i64 (i : Int) | 3 => ∃ g5, v = .slice (some ⟨g5, 0, none⟩) 0 0 ∧ w4.heap.size ≤ g5 ∧ wn.ownsRow w.heap.size 47 3 v 0 [] | 4 => v = .pointer (some ⟨w.heap.size, 1, none⟩) | 5 => v = .slice (some ⟨b, off, none⟩) nf cf | 6 => v = .int .i64 (i : Int) | 7 => v = .pointer (some ⟨b, off + i * 7, none⟩) | 8 => v = .pointer (some ⟨b, off + i * 7 + 5, none⟩) | 9 => v = .slice xc nc cc | 10 => wn.ownsRow w.heap.size 47 3 v nc (flat ceA f.cs) ∧ ∀ q, v.ownBlock = some q → w4.heap.size ≤ q | 11 => v = .pointer (some ⟨g4, i * 7, none⟩) | 12 => v = .pointer (some ⟨g4, i * 7 + 5, none⟩) | 13 => ∃ v, wn.ownsRow w.heap.size 47 3 v nc (flat ceA f.cs) ∧ wn.ownsRow w.heap.size 39 7 (.slice (some ⟨g4, 0, none⟩) nf c4) nf (flat fuA (P.fs.set i ⟨f, v, mv⟩)) | _ => True) (by kernel_rfl) (by kernel_rfl) (by kernel_rfl) ?_ ?_ ?_ ?_ ?_
 ·exact ⟨HBQ.out, HBP.out, HBR.out, World.ownsRow.drew HOW4.out, trivial⟩
 ·exact ⟨(fun k hk w1 w2 hs h => hs.at_ (fun hx => hx.elim (fun hx => by have := heap_lt HBQ.out; have := hx.2; omega) (fun hx => HNE.out hx.2.symm)) h), (fun k hk w1 w2 hs h => hs.at_ (fun hx => hx.elim (fun hx => by have := heap_lt HBP.out; have := hx.2; omega) (fun hx => HNP.out _ (Nat.le_of_lt HZQ.out) hx.2)) h), (fun k hk w1 w2 hs h => hs.at_ (fun hx => hx.elim (fun hx => by have := heap_lt HBR.out; have := hx.2; omega) (fun hx => HNP.out _ (Nat.le_of_lt HZR.out) hx.2)) h), (fun k hk w1 w2 hs h => hs.owns h (fun q hq hx => hx.elim (fun hx => by obtain rfl : g4 = q := Option.some.inj hq; have := HBG.out.2; have := hx.2; omega) (fun hx => hk (by simp [hx.1])))), trivial⟩
 ·intro j k hjk hb haf v w1 w2 hS h
  match j, hjk, hb, haf, h with
  | 0, hjk, hb, haf, h => exact h
  | 1, hjk, hb, haf, h => exact h
  | 2, hjk, hb, haf, h => exact h
  | 3, hjk, hb, haf, h => obtain ⟨g5, h1, h2, h3⟩ := h; exact ⟨g5, h1, h2, hS.owns h3 (fun q hq hx => hx.elim (fun hx => hb (by simp [hx.1])) (fun hx => by subst h1; obtain rfl : g5 = q := Option.some.inj hq; have := HBG.out.2; have := hx.2; omega))⟩
  | 4, hjk, hb, haf, h => exact h
  | 5, hjk, hb, haf, h => exact h
  | 6, hjk, hb, haf, h => exact h
  | 7, hjk, hb, haf, h => exact h
  | 8, hjk, hb, haf, h => exact h
  | 9, hjk, hb, haf, h => exact h
  | 10, hjk, hb, haf, h => exact ⟨hS.owns h.1 (fun q hq hx => hx.elim (fun hx => hjk hx.1) (fun hx => by have := h.2 q hq; have := HBG.out.2; have := hx.2; omega)), h.2⟩
  | 11, hjk, hb, haf, h => exact h
  | 12, hjk, hb, haf, h => exact h
  | 13, hjk, hb, haf, h => obtain ⟨cv2, h1, h2⟩ := h; have hg := gr_of_sep (hS.mono fun q hq => hq.elim (fun h => not_aft haf (m := 10) (by kernel_rfl) h.1) (fun h => hjk h.1)); exact ⟨cv2, owns_gr h1 hg, owns_gr h2 hg⟩
  | _ + 14, _, _, _, _ => trivial
 ·refine ⟨?_, ?_, ?_, ?_, ?_, ?_, ?_, ?_, ?_, ?_, ?_, ?_, ?_, ?_, trivial⟩
  ·refine FacStep.of rfl fun ρ wx hu => ?_
   have e5 : ρ (.tmp 5) = (.pointer (some ⟨gq, 0, none⟩)) := hu.slot 5 (by kernel_rfl)
   go_simp
   exact ⟨rfl, Sep.refl _⟩
  ·refine FacStep.of rfl fun ρ wx hu => ?_
   have e12 : ρ (.tmp 12) = (.pointer (some ⟨gq, 1, none⟩)) := hu.dep 0 12 (by kernel_rfl)
   have hc := (cells2 (hu.fac 0 _ _ rfl (by kernel_rfl))).2
   go_simp
   exact ⟨rfl, Sep.refl _⟩
  ·refine FacStep.of rfl fun ρ wx hu => ?_
   have e1 : ρ (.tmp 1) = (.int .i64 (i : Int)) := hu.slot 1 (by kernel_rfl)
   go_simp
   exact ⟨rfl, Sep.refl _⟩
  ·refine FacStep.of rfl fun ρ wx hu => ?_
   go_simp
   exact ⟨⟨_, rfl, hu.sep.size, World.ownsRow_lit (base := w.heap.size) (e := 47) (size := 3) wx #[] 0 (HXD.out _ hu.sep).size (by decide) rfl⟩, Sep.of_gr ((Gr.refl _).allocO _)⟩
  ·refine FacStep.of rfl fun ρ wx hu => ?_
   have e2 : ρ (.tmp 2) = (.pointer (some ⟨w.heap.size, 0, none⟩)) := hu.slot 2 (by kernel_rfl)
   go_simp
   exact ⟨rfl, Sep.refl _⟩
  ·refine FacStep.of rfl fun ρ wx hu => ?_
   have e16 : ρ (.tmp 16) = (.pointer (some ⟨w.heap.size, 1, none⟩)) := hu.dep 4 16 (by kernel_rfl)
   have hc := (cells2 (hu.fac 1 _ _ rfl (by kernel_rfl))).2
   go_simp
   exact ⟨rfl, Sep.refl _⟩
  ·refine FacStep.of rfl fun ρ wx hu => ?_
   have e1 : ρ (.tmp 1) = (.int .i64 (i : Int)) := hu.slot 1 (by kernel_rfl)
   go_simp
   exact ⟨rfl, Sep.refl _⟩
  ·refine FacStep.of rfl fun ρ wx hu => ?_
   have e17 : ρ (.tmp 17) = (.slice (some ⟨b, off, none⟩) nf cf) := hu.dep 5 17 (by kernel_rfl)
   have e18 : ρ (.tmp 18) = (.int .i64 (i : Int)) := hu.dep 6 18 (by kernel_rfl)
   have tk1 : (i : Int) < (nf : Int) := by have := HIL.out; omega
   go_simp
   exact ⟨rfl, Sep.refl _⟩
  ·refine FacStep.of rfl fun ρ wx hu => ?_
   have e19 : ρ (.tmp 19) = (.pointer (some ⟨b, off + i * 7, none⟩)) := hu.dep 7 19 (by kernel_rfl)
   go_simp
   exact ⟨rfl, Sep.refl _⟩
  ·refine FacStep.of rfl fun ρ wx hu => ?_
   have e20 : ρ (.tmp 20) = (.pointer (some ⟨b, off + i * 7 + 5, none⟩)) := hu.dep 8 20 (by kernel_rfl)
   have hc := HD.out _ (HXD.out _ hu.sep)
   go_simp
   exact ⟨rfl, Sep.refl _⟩
  ·refine FacStep.of rfl fun ρ wx hu => ?_
   have e21 : ρ (.tmp 21) = (.slice xc nc cc) := hu.dep 9 21 (by kernel_rfl)
   obtain ⟨g5, e15, hz5, ho⟩ : ∃ g5, ρ (.tmp 15) = .slice (some ⟨g5, 0, none⟩) 0 0 ∧ w4.heap.size ≤ g5 ∧ wx.ownsRow w.heap.size 47 3 (ρ (.tmp 15)) 0 [] := hu.dep 3 15 (by kernel_rfl)
   rw [e15] at ho
   have hsz := hu.sep.size
   refine fac_append _ _ 37 rfl w.heap.size 47 i3 (.agg #[.int .i64 0, .int .i64 0, .int .u64 0]) 3 24 Try.underlying37 HI3.out HZ03.out HZ13.out HZ23.out rfl (by decide) _ 0 [] e15 ho _ nc (flat ceA f.cs) e21 (HCS.out _ (HXD.out _ hu.sep)) HLENC.out HONEC.out (by unfold maxLen; have := HLC.out; omega) (by have := HLC.out; omega) (HXD.out _ hu.sep).size (fun q hq => .inl ⟨rfl, by obtain rfl : g5 = q := Option.some.inj hq; exact hz5⟩) ?_
   intro v2 w2 h2 h3 h4
   rw [Nat.zero_add, List.nil_append] at h2
   exact ⟨h2, fun q hq => by
    rcases h4 q hq with h5 | h5
    ·obtain rfl : g5 = q := Option.some.inj h5
     exact hz5
    ·have h6 : w4.heap.size ≤ wx.heap.size := hsz
     omega⟩
  ·refine FacStep.of rfl fun ρ wx hu => ?_
   have e13 : ρ (.tmp 13) = (.slice (some ⟨g4, 0, none⟩) nf c4) := hu.dep 1 13 (by kernel_rfl)
   have e14 : ρ (.tmp 14) = (.int .i64 (i : Int)) := hu.dep 2 14 (by kernel_rfl)
   have tk1 : (i : Int) < (nf : Int) := by have := HIL.out; omega
   go_simp
   exact ⟨rfl, Sep.refl _⟩
  ·refine FacStep.of rfl fun ρ wx hu => ?_
   have e23 : ρ (.tmp 23) = (.pointer (some ⟨g4, i * 7, none⟩)) := hu.dep 11 23 (by kernel_rfl)
   go_simp
   exact ⟨rfl, Sep.refl _⟩
  ·refine FacStep.of rfl fun ρ wx hu => ?_
   have e24 : ρ (.tmp 24) = (.pointer (some ⟨g4, i * 7 + 5, none⟩)) := hu.dep 12 24 (by kernel_rfl)
   obtain ⟨hoc, hoq⟩ : wx.ownsRow w.heap.size 47 3 (ρ (.tmp 22)) nc (flat ceA f.cs) ∧ ∀ q, (ρ (.tmp 22)).ownBlock = some q → w4.heap.size ≤ q := hu.dep 10 22 (by kernel_rfl)
   obtain ⟨cv2, e22⟩ : ∃ v, ρ (.tmp 22) = v := ⟨_, rfl⟩
   rw [e22] at hoc hoq
   obtain ⟨x2, c2, rfl⟩ := own_slice hoc
   have hof := hu.fac 3 _ _ rfl (by kernel_rfl)
   have hcl := hof.cellAt (i * 7 + 5) (by have := HIL.out; omega)
   rw [flat_at fuA 7 (fun _ => rfl) P.fs i _ 5 HGF.out (by decide)] at hcl
   have hc5 : wx.cell? ⟨g4, i * 7 + 5, none⟩ = some (.slice xc nc cc) := hcl.trans (by rw [← HNC.out]; rfl)
   have fz := hof.frozenAt (i * 7 + 5)
   have h9 := (hof.stored (i * 7 + 5) (.slice x2 nc c2)).1
   rw [flat_set fuA 7 (fun _ => rfl) 5 (.slice x2 nc c2) P.fs i _ ⟨f, .slice x2 nc c2, mv⟩ HGF.out (by decide) rfl] at h9
   have HH9 := Lib.hid h9
   have HOC := Lib.hid hoc
   have HOQ := Lib.hid hoq
   clear hcl hof h9 hoc hoq
   go_simp
   have hs9 := Sep.setCell (ex := fun q => q = g4) wx (p := ⟨g4, i * 7 + 5, none⟩) rfl (.slice x2 nc c2)
   exact ⟨⟨_, hs9.owns HOC.out (fun q hq e => by have := HOQ.out q hq; have := HBG.out.2; have e2 : q = g4 := e; omega), HH9.out⟩, hs9.mono (fun q hq => by first | exact hq | exact .inr ⟨rfl, hq⟩ | simpa using hq)⟩
 ·intro V wN hS hV hC
  obtain ⟨cv2, b1, b2⟩ := hV 13 _ rfl rfl
  have HOC := Lib.hid b1
  have HOF := Lib.hid b2
  have HGN := Lib.hid (HXD.out _ hS)
  have hq := hC 0 _ rfl
  have HR := Lib.hid (hC 2 _ rfl)
  obtain ⟨q0, q1⟩ := cells2 hq
  clear b1 b2 hV hC hS hq
  simp only [putAll, Act.put, Option.map_some, Option.getD_some, List.setIfInBounds_toArray, List.set_cons_succ, List.set_cons_zero]
  go_upto_region 9 with (refine wpList_store_row rfl 34 _ _ rfl (w.heap.size + 1) #[.slice xs ns cs, .slice (some ⟨g4, 0, none⟩) nf c4] rfl rfl 34 #[.slice none 0 0, .slice none 0 0] HR.out infoPr rfl (by kernel_rfl) ?_)
  have hs5 := Sep.setRow (ex := fun q => q = w.heap.size + 1) wN rfl #[.slice xs ns cs, .slice (some ⟨g4, 0, none⟩) nf c4]
  have hbk := setRow_block (c := #[.slice xs ns cs, .slice (some ⟨g4, 0, none⟩) nf c4]) HR.out
  exact bodyPost_ret (v := .agg #[.slice xs ns cs, .slice (some ⟨g4, 0, none⟩) nf c4]) (results_cell_row Try.results14 _ _ (w.heap.size + 1) 34 _ (0, 0) _ rfl hbk Try.underlying34 rfl infoPr) rfl ⟨_, cv2, rfl, Sep.toGr HGN.out hs5 (fun q hq => by have e2 : q = w.heap.size + 1 := hq; omega), hs5.owns HOF.out (fun q hq e => own_ty HOF.out HR.out (by decide) (by rw [hq, show q = w.heap.size + 1 from e])), hs5.owns HOC.out (fun q hq e => own_ty HOC.out HR.out (by decide) (by rw [hq, show q = w.heap.size + 1 from e]))⟩
theorem prR_own {w w' : World} {sv fv : Value} {P : Pr} (h : PrR w sv fv P) (hg : Gr w w') {i : Nat} {g : FuV} (hi : P.fs[i]? = some g) {b b' : Nat} {fv' cv' : Value} (f' : Fu)
  (hf : w'.ownsRow b 39 7 fv' P.fs.length (flat fuA (P.fs.set i ⟨f', cv', g.mv⟩))) (hc : w'.ownsRow b' 47 3 cv' f'.cs.length (flat ceA f'.cs))
  (hl : f'.cs.length ≤ 1099511627776) (h1 : Bd f'.host) (h2 : Bd f'.sig) (h3 : Bd f'.inn) (h4 : Bd f'.out) (h5 : Bd f'.loc) (hb : ∀ c ∈ f'.cs, CeB c) : PrR w' sv fv' ⟨P.ss, P.fs.set i ⟨f', cv', g.mv⟩⟩ := by
 refine ⟨rwR_gr h.ss hg, ?_, fun s hs => siR_gr (h.sis s hs) hg, fun f hm => ?_, h.ls, ?_⟩
 ·have := own_rwz hf
  dsimp only
  rw [List.length_set]
  exact this
 ·rcases List.mem_or_eq_of_mem_set hm with hm | rfl
  ·exact fuR_gr (h.fus f hm) hg
  ·exact ⟨own_rwz hc, (h.fus g (List.mem_of_getElem? hi)).mv, hl, h1, h2, h3, h4, h5, hb⟩
 ·dsimp only
  rw [List.length_set]
  exact h.lf
end Tg
end Go.Proofs.Ytifjgocfdnhdeaa
/- TgX -/
namespace Go.Proofs.Ytifjgocfdnhdeaa
open Go.RowKit
namespace Tg
open Ins
theorem idx_of (f : Int) {nf : Nat} (h : 0 < nf) (h2 : nf ≤ 1048576) : ∃ i : Nat, i < nf ∧ IntKind.u64.wrap (nf : Int) = (nf : Int) ∧ (IntKind.u64.wrap f).tmod (nf : Int) = (i : Int) ∧ wrap64 (i : Int) = (i : Int) := by
 have h1 : 0 ≤ IntKind.u64.wrap f := by rw [IntKind.wrap_u64]; exact Int.emod_nonneg _ (by decide)
 have h3 := Int.emod_nonneg (IntKind.u64.wrap f) (show (nf : Int) ≠ 0 by omega)
 have h4 := Int.emod_lt_of_pos (IntKind.u64.wrap f) (show (0 : Int) < nf by omega)
 rw [← Int.tmod_eq_emod_of_nonneg h1] at h3 h4
 obtain ⟨i, hi⟩ : ∃ i : Nat, (IntKind.u64.wrap f).tmod (nf : Int) = (i : Int) := ⟨((IntKind.u64.wrap f).tmod (nf : Int)).toNat, by omega⟩
 exact ⟨i, by omega, by rw [IntKind.wrap_u64]; omega, hi, by unfold wrap64; omega⟩
end Tg
end Go.Proofs.Ytifjgocfdnhdeaa
/- TgR -/
namespace Go.Proofs.Ytifjgocfdnhdeaa
open Go.RowKit
namespace Tg
open Ins
theorem set3 {l : List Ce} {j : Nat} {c : Ce} (h : l[j]? = some c) (c' : Ce) : (((flat ceA l).set (j * 3 + 0) (.int .i64 c'.op)).set (j * 3 + 1) (.int .i64 c'.a)).set (j * 3 + 2) (.int .u64 c'.n) = flat ceA (l.set j c') := by
 have hj := (List.getElem?_eq_some_iff.1 h).1
 have g : ∀ x : Ce, (l.set j x)[j]? = some x := fun x => by rw [List.getElem?_set, if_pos rfl, if_pos hj]
 rw [flat_set ceA 3 (fun _ => rfl) 0 (.int .i64 c'.op) l j c ⟨c'.op, c.a, c.n⟩ h (by decide) rfl, flat_set ceA 3 (fun _ => rfl) 1 (.int .i64 c'.a) _ j ⟨c'.op, c.a, c.n⟩ ⟨c'.op, c'.a, c.n⟩ (g _) (by decide) rfl, List.set_set, flat_set ceA 3 (fun _ => rfl) 2 (.int .u64 c'.n) _ j ⟨c'.op, c'.a, c.n⟩ c' (g _) (by decide) rfl, List.set_set]
theorem own_cell3 {w : World} {base gk n cap : Nat} {l : List Ce} {j : Nat} {c : Ce} (h : w.ownsRow base 47 3 (.slice (some ⟨gk, 0, none⟩) n cap) n (flat ceA l)) (hj : l[j]? = some c) (c' : Ce) :
  (w.setCells gk (j * 3) (ceA c').toList).ownsRow base 47 3 (.slice (some ⟨gk, 0, none⟩) n cap) n (flat ceA (l.set j c')) := by
 have h1 := (h.stored (j * 3 + 0) (.int .i64 c'.op)).1
 have h2 := (h1.stored (j * 3 + 1) (.int .i64 c'.a)).1
 have h3 := (h2.stored (j * 3 + 2) (.int .u64 c'.n)).1
 rw [set3 hj] at h3
 exact h3
theorem flat_cong {α : Type} (g : α → Array Value) {a b : α} (e : g a = g b) : ∀ (l : List α) (i : Nat), flat g (l.set i a) = flat g (l.set i b)
 | [], _ => rfl
 | x :: r, 0 => by
  show (g a).toList ++ flat g r = (g b).toList ++ flat g r
  rw [e]
 | x :: r, i + 1 => by
  show (g x).toList ++ flat g (r.set i a) = (g x).toList ++ flat g (r.set i b)
  rw [flat_cong g e r i]
theorem own_field {w : World} {base gf nf cf : Nat} {fs : List FuV} {i : Nat} {a : FuV} (h : w.ownsRow base 39 7 (.slice (some ⟨gf, 0, none⟩) nf cf) nf (flat fuA (fs.set i a))) (hi : i < fs.length) (j : Nat) (hj : j < 7) (u : Value) (b : FuV) (e : (fuA b).toList = (fuA a).toList.set j u) :
  (w.setCell ⟨gf, i * 7 + j, none⟩ u).ownsRow base 39 7 (.slice (some ⟨gf, 0, none⟩) nf cf) nf (flat fuA (fs.set i b)) := by
 have h1 := (h.stored (i * 7 + j) u).1
 rw [flat_set fuA 7 (fun _ => rfl) j u (fs.set i a) i a b (by rw [List.getElem?_set, if_pos rfl, if_pos hi]) hj e, List.set_set] at h1
 exact h1
theorem set_at {fs : List FuV} {i : Nat} (hi : i < fs.length) (a : FuV) : (fs.set i a)[i]? = some a := by rw [List.getElem?_set, if_pos rfl, if_pos hi]
theorem ref_cell {ss : List SiV} {fs : List FuV} {i j : Nat} {f : Fu} {cv mv : Value} {c : Ce} (hi : i < fs.length) (hj : f.cs[j]? = some c) (h : stdB ⟨ss, fs.set i ⟨f, cv, mv⟩⟩ f (j : Nat) c = false) : ¬ ChkP ⟨ss, fs.set i ⟨f, cv, mv⟩⟩ := fun hc => by
 have h1 := (hc.2 i _ (set_at hi _)).2 j c hj
 rw [h] at h1
 cases h1
theorem ref_whole {ss : List SiV} {fs : List FuV} {i : Nat} {f : Fu} {cv mv : Value} (hi : i < fs.length) (h : whlB ⟨ss, fs.set i ⟨f, cv, mv⟩⟩ f = false) : ¬ ChkP ⟨ss, fs.set i ⟨f, cv, mv⟩⟩ := fun hc => by
 have h1 := (hc.2 i _ (set_at hi _)).1
 rw [h] at h1
 cases h1
def tl (nf ns n : Nat) (s : Int) : List Ce := [⟨65, 0, 0⟩, ⟨64878, 0, 0⟩, ⟨16, (nf : Nat), 0⟩, ⟨17, (ns : Nat), 0⟩, ⟨32, s, 0⟩, ⟨12, (n : Nat), 0⟩]
theorem bel_self (n : Int) : belB n n = false := by unfold belB; simp
theorem ref_tl {P : Pr} {f : Fu} {nf ns n : Nat} {s : Int} (h1 : P.fs.length = nf) (h2 : P.ss.length = ns) (h3 : f.cs.length = n) (h4 : wrap64 (f.inn + f.loc) = s) (at_ : Int) : ∀ (k : Nat) (c : Ce), (tl nf ns n s)[k]? = some c → stdB P f at_ c = false
 | 0, c, h => by
  obtain rfl := Option.some.inj h
  have e : stdB P f at_ ⟨65, 0, 0⟩ = false := by kernel_rfl
  exact e
 | 1, c, h => by
  obtain rfl := Option.some.inj h
  have e : stdB P f at_ ⟨64878, 0, 0⟩ = false := by kernel_rfl
  exact e
 | 2, c, h => by
  obtain rfl := Option.some.inj h
  have e : stdB P f at_ ⟨16, (nf : Nat), 0⟩ = belB (nf : Nat) P.fs.length := by unfold stdB; simp
  rw [e, h1, bel_self]
 | 3, c, h => by
  obtain rfl := Option.some.inj h
  have e : stdB P f at_ ⟨17, (ns : Nat), 0⟩ = belB (ns : Nat) P.ss.length := by unfold stdB; simp
  rw [e, h2, bel_self]
 | 4, c, h => by
  obtain rfl := Option.some.inj h
  have e : stdB P f at_ ⟨32, s, 0⟩ = belB s (wrap64 (f.inn + f.loc)) := by unfold stdB; simp
  rw [e, h4, bel_self]
 | 5, c, h => by
  obtain rfl := Option.some.inj h
  have e : stdB P f at_ ⟨12, (n : Nat), 0⟩ = belB (n : Nat) f.cs.length := by unfold stdB; simp
  rw [e, h3, bel_self]
 | k + 6, c, h => by cases h
theorem tl_ok {nf ns n : Nat} {s : Int} (h1 : nf ≤ 1048576) (h2 : ns ≤ 1048576) (h3 : n ≤ 1048576) (h4 : 0 ≤ s ∧ s ≤ 1099511627776) : ∀ c ∈ tl nf ns n s, CeB c := fun c hc => by
 simp only [tl, List.mem_cons, List.not_mem_nil, or_false] at hc
 rcases hc with rfl | rfl | rfl | rfl | rfl | rfl <;> exact ⟨⟨by dsimp only; omega, by dsimp only; omega⟩, ⟨by dsimp only; omega, by dsimp only; omega⟩, by dsimp only; omega, by dsimp only; omega⟩
theorem whl_all {P : Pr} {f : Fu} (h : whlB P f = true) (hs : SmP P) : -1 ≤ f.host ∧ 0 ≤ f.sig ∧ f.sig < P.ss.length ∧ (∃ s, P.ss[f.sig.toNat]? = some s ∧ f.inn = s.s.i.length ∧ f.out = s.s.o.length) ∧ 0 ≤ f.inn ∧ f.inn ≤ 1048576 ∧ 0 ≤ f.loc ∧ f.loc ≤ 4096 ∧ decide (f.host = -1) = decide (0 < f.cs.length) := by
 unfold whlB at h
 simp only [Bool.and_eq_true, decide_eq_true_eq] at h
 obtain ⟨⟨⟨h1, h2⟩, h3⟩, h4⟩ := h
 cases hx : P.ss[f.sig.toNat]? with
 | none => rw [hx] at h4; cases h4
 | some s =>
  rw [hx] at h4
  simp only [Bool.and_eq_true, decide_eq_true_eq, beq_iff_eq] at h4
  obtain ⟨⟨⟨⟨a, b⟩, c⟩, d⟩, e⟩ := h4
  have := (hs.si s (List.mem_of_getElem? hx)).1
  exact ⟨h1, h2, h3, ⟨s, rfl, a, b⟩, by omega, by omega, c, d, e⟩
section
variable {ss : List SiV} {fs : List FuV} {f : Fu}
theorem whl_inn (h : ∃ s, ss[f.sig.toNat]? = some s ∧ f.inn = s.s.i.length ∧ f.out = s.s.o.length) (P : Pr) (e : P.ss = ss) : whlB P { f with inn := f.inn + 1 } = false := by
 obtain ⟨s, h1, h2, h3⟩ := h
 unfold whlB
 dsimp only
 rw [e, h1]
 have : (f.inn + 1 == (s.s.i.length : Nat)) = false := by rw [beq_eq_false_iff_ne]; omega
 dsimp only
 rw [this]
 simp
theorem whl_sg {n : Nat} (P : Pr) (e : P.ss.length = n) : whlB P { f with sig := (n : Nat) } = false := by
 unfold whlB
 dsimp only
 rw [e]
 simp
theorem whl_loc (P : Pr) : whlB P { f with loc := 4097 } = false := by
 unfold whlB
 dsimp only
 cases P.ss[f.sig.toNat]? with
 | none => simp
 | some s => simp
theorem whl_host2 (P : Pr) : whlB P { f with host := -2 } = false := by
 unfold whlB
 simp
theorem whl_hx (P : Pr) {x : Int} (h : decide (x = -1) ≠ decide (0 < f.cs.length)) : whlB P { f with host := x } = false := by
 unfold whlB
 dsimp only
 have : (decide (x = -1) == decide (0 < f.cs.length)) = false := by rw [beq_eq_false_iff_ne]; exact h
 cases P.ss[f.sig.toNat]? with
 | none => simp
 | some s => dsimp only; rw [this]; simp
end
theorem ref_sigs {ss : List SiV} {fs : List FuV} {iv ov : Value} : ¬ ChkP ⟨ss ++ [⟨⟨[123], []⟩, iv, ov⟩], fs⟩ := fun h => by
 have h1 := (h.1 ss.length ⟨⟨[123], []⟩, iv, ov⟩ (by simp)).1
 have h2 : numsB [123] = false := by decide
 rw [show (⟨⟨[123], []⟩, iv, ov⟩ : SiV).s.i = [123] from rfl, h2] at h1
 cases h1
theorem own_two {w : World} {b b' : Nat} {e e' : TypeId} {z z' : Nat} {v v' : Value} {n n' : Nat} {xs xs' : List Value} (h : w.ownsRow b e z v n xs) (h' : w.ownsRow b' e' z' v' n' xs') (ht : e' ≠ e) : ∀ q, v'.ownBlock = some q → v.ownBlock ≠ some q := fun q hq => by
 rcases h'.2 with ⟨rfl, _⟩ | ⟨g, cap, cur, rfl, _, hg, _⟩
 ·cases hq
 ·obtain rfl : g = q := Option.some.inj hq
  exact own_ty h hg ht
theorem infoA6 : (Try.prog.info? 50).map (·.size) = some 18 := by kernel_rfl
theorem tl_cells {w : World} {g : Nat} {nf ns n : Nat} {s : Int} (h : w.heap[g]? = some (.cells (flat ceA (tl nf ns n s)).toArray 50 (0, 0))) {k : Nat} {c : Ce} (hc : (tl nf ns n s)[k]? = some c) : ∀ j u, (ceA c).toList[j]? = some u → w.cell? ⟨g, k * 3 + j, none⟩ = some u := fun j u hu => by
 have hj : j < 3 := (List.getElem?_eq_some_iff.1 hu).1
 rw [cell_of_row _ _ (k * 3 + j) _ _ _ h, List.getElem?_toArray, flat_at ceA 3 (fun _ => rfl) _ k c j hc hj, ← Array.getElem?_toList]
 exact hu
theorem src_row {w : World} {g : Nat} {A : Array Value} {t : TypeId} (h : w.heap[g]? = some (.cells A t (0, 0))) (m c : Nat) : Src w (.slice (some ⟨g, 0, none⟩) m c) m A.toList :=
 .inr ⟨_, _, rfl, fun j u hu => by rw [add_at, Nat.zero_add, cell_of_row _ _ j _ _ _ h, ← Array.getElem?_toList]; exact hu⟩
theorem si_one {w : World} {s : SiV} (h : SiR w s) : ∀ u ∈ (siA s).toList, u.oneCell' = true := fun u hu => by
 obtain ⟨x, c, e, _⟩ := h.iv
 obtain ⟨x', c', e', _⟩ := h.ov
 simp only [siA, e, e', List.mem_cons, List.not_mem_nil, or_false] at hu
 rcases hu with rfl | rfl <;> rfl
theorem flat_snoc {α : Type} (g : α → Array Value) (x : α) : ∀ l : List α, flat g (l ++ [x]) = flat g l ++ (g x).toList
 | [] => by simp [flat]
 | y :: r => by
  show (g y).toList ++ flat g (r ++ [x]) = (g y).toList ++ flat g r ++ (g x).toList
  rw [flat_snoc g x r, List.append_assoc]
theorem prR_app {w : World} {sv fv : Value} {P : Pr} (h : PrR w sv fv P) {b : Nat} {sv' : Value} {g n : Nat} (hn : P.ss.length = n) (hs : w.ownsRow b 53 2 sv' (n + 1) (flat siA P.ss ++ [.slice (some ⟨g, 0, none⟩) 1 1, .slice none 0 0])) (hg : w.heap[g]? = some (.cells #[.int .i64 123] 3 (0, 0))) (hl : n + 1 ≤ 1099511627776) :
  PrR w sv' fv ⟨P.ss ++ [⟨⟨[123], []⟩, .slice (some ⟨g, 0, none⟩) 1 1, .slice none 0 0⟩], P.fs⟩ := by
 refine ⟨?_, h.fs, fun s hs => ?_, h.fus, ?_, h.lf⟩
 ·have h1 := own_rwz hs
  dsimp only
  rw [flat_snoc, List.length_append, hn]
  exact h1
 ·rcases List.mem_append.1 hs with hs | hs
  ·exact h.sis s hs
  ·obtain rfl := List.mem_singleton.1 hs
   exact ⟨⟨_, _, rfl, fun j u hu => ⟨g, 0, rfl, by rw [Nat.zero_add, cell_of_row _ _ j _ _ _ hg, ← Array.getElem?_toList]; exact hu⟩⟩, ⟨none, 0, rfl, fun j u hu => by cases hu⟩, show 1 ≤ 1099511627776 by decide, Nat.zero_le _⟩
 ·dsimp only
  rw [List.length_append, hn]
  exact hl
theorem infoSz : (Try.prog.info? 53).map (fun i => (i.zero, i.size, i.bytes)) = some (some (.agg #[.slice none 0 0, .slice none 0 0]), 2, 48) := by kernel_rfl
theorem pos_of {x : Int} {n : Nat} (h : 0 ≤ x) (h2 : x < (n : Int)) : 0 < n := by omega
theorem sg_max {n : Nat} (h : n ≤ 1048576) : 0 + n ≤ maxLen ∧ (0 + n) * 48 ≤ 140737488355328 ∧ n + 1 ≤ maxLen ∧ (n + 1) * 48 ≤ 140737488355328 ∧ n + 1 ≤ 1099511627776 := by unfold maxLen; omega
theorem k_cases {k : Nat} (h : k < 6) : k = 0 ∨ k = 1 ∨ k = 2 ∨ k = 3 ∨ k = 4 ∨ k = 5 := by omega
theorem wrj {j n : Nat} (h : j < n) (h1 : n ≤ 1048576) : IntKind.i64.wrap (j : Int) = (j : Int) := by rw [IntKind.wrap_i64]; omega
theorem wr6 {k : Nat} (h : k < 6) : wrap64 ((k : Int) + 1) = (k : Int) + 1 := by unfold wrap64; omega
end Tg
end Go.Proofs.Ytifjgocfdnhdeaa
