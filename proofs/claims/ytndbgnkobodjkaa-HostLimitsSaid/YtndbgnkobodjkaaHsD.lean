/-
  Of layer 16: slices.Grow of nothing, slices.Concat of two slices, Reply.
-/
import Derived.Test.YtndbgnkobodjkaaHsP
namespace Go.Proofs.Ytndbgnkobodjkaa
open Go.RowKit VecM
namespace Hs
theorem run_append_nil_zeros {P : Program} (w : World) (t tn ty e : TypeId) (kn : IntKind) (ht : P.underlying t = some (.slice e)) (htn : P.underlying tn = some (.int kn)) {i : TypeInfo} (hi : P.info? e = some i) (hs : i.size = 1) {z : Value} (hz : i.zero = some z) (hz1 : z.cells.size = 1)
    (bytes : Nat) (hb : i.bytes = bytes) (m : Nat) (h0 : 0 < m) (hm : m * bytes ≤ 140737488355328) (hm2 : m ≤ 70368744177664) :
    ∃ cur : Array Value, cur.size = grownCap w m 0 e * 1 ∧ (Builtin.append_ #[t, tn] ty #[.slice none 0 0, .int .i64 (m : Int)]).run P w =
      .ok (.slice (some ⟨w.heap.size, 0, none⟩) m (grownCap w m 0 e)) (w.drew.alloc (.cells cur e)) := by
  have hw : IntKind.i64.wrap (m : Int) = m := by rw [IntKind.wrap_i64]; omega
  have hneg : ¬ ((m : Int) < 0) := by omega
  have h48i : ¬ (281474976710656 < (m : Int) * (bytes : Int)) := by
    omega
  have h0' : ¬ m = 0 := by omega
  have h63' : ¬ (9223372036854775807 < (m : Int)) := by omega
  have h48' : ¬ (281474976710656 < Builtin.nextslicecap m 0 * bytes) := by rw [nextslicecap_zero h0]; omega
  have hge := grownCap_ge w m 0 e
  refine ⟨Builtin.zeroCells z.cells m ++ Builtin.zeroCells z.cells (grownCap w m 0 e - m), ?_, ?_⟩
  · simp [Builtin.zeroCells, hz1]; omega
  · simp [Builtin.append_, run_underlying ht, run_underlying htn, sizeOf, typeInfo, zeroValue, hi, hs, hb, hz, asInt, asIntOf, hw, hneg, h48i, h0', h63', h48', Question.forced, run_firstCells_none, newRow, grownCap]
theorem wpList_append_nil_zeros {P : Program} {w : World} {ops : Array Oper} {rest : List Oper} {o : Oper} {a : Act} {Q : Exit → Act → World → Prop} (hgd : o.guard = none) (s x : Operand) (t tn : TypeId)
    (ho : o.op = .call { callee := .builtin .append, args := #[s, x], argTypes := #[t, tn] }) (e : TypeId) (kn : IntKind) (ht : P.underlying t = some (.slice e)) (htn : P.underlying tn = some (.int kn)) {i : TypeInfo} (hi : P.info? e = some i) (hs : i.size = 1) {z : Value} (hz : i.zero = some z) (hz1 : z.cells.size = 1)
    (bytes : Nat) (hb : i.bytes = bytes) (m : Nat) (hsv : a.eval s = .slice none 0 0) (hx : a.eval x = .int .i64 (m : Int)) (h0 : 0 < m) (hm : m * bytes ≤ 140737488355328) (hm2 : m ≤ 70368744177664)
    (h : ∀ (cap : Nat) (cur : Array Value), m ≤ cap → cap ≤ maxLen → cur.size = cap * 1 → wpList P ops Q rest (a.put o.dst (.slice (some ⟨w.heap.size, 0, none⟩) m cap)) (w.drew.alloc (.cells cur e))) : wpList P ops Q (o :: rest) a w := by
  refine wpList_plain hgd fun K hK => ?_
  obtain ⟨cur, h1, hr⟩ := run_append_nil_zeros (P := P) w t tn o.type e kn ht htn hi hs hz hz1 bytes hb m h0 hm hm2
  unfold Oper.wp execOp
  simp only [ho, resolve, invoke, builtin, Sem.run_bind, Sem.run_pure, Result.andThen_ok, List.map_toArray, List.map_cons, List.map_nil, hsv, hx, hr]
  exact hK _ _ (h _ cur (grownCap_ge _ _ _ _) (grownCap_le_maxLen _ _ _ _ (by unfold maxLen; omega)) h1)
set_option maxHeartbeats 1000000 in
theorem grow_nil (w : World) (n : Nat) (hn : n ≤ 1099511627776) : Calls Try.prog 39 #[.slice none 0 0, .int .i64 n] w fun e w' => ∃ sv, e = .returned sv ∧ Gr w w' ∧ w'.ownsRow w.heap.size 53 1 sv 0 [] := by
  obtain ⟨i0, hi, hz0, hz1, hz2⟩ := info_parts info64
  have HI := Lib.hid hi
  have HZ0 := Lib.hid hz0
  have HZ1 := Lib.hid hz1
  have HZ2 := Lib.hid hz2
  clear hi hz0 hz1 hz2
  have t1 : ¬ (n : Int) < 0 := by omega
  by_cases h0 : n = 0
  · subst h0
    go_enter Try.func39, Try.ntmps39
    go_wp2
    go_ret
    exact ⟨_, rfl, Gr.refl _, World.ownsRow_nil _ _ _ _⟩
  · have t2 : (0 : Int) < (n : Int) := by omega
    have HN := Lib.hid hn
    have H0 := Lib.hid (show 0 < n by omega)
    clear h0
    go_enter Try.func39, Try.ntmps39
    go_wp2_with (at_builtin; refine wpList_append_nil_zeros rfl _ _ 22 3 rfl 53 .i64 Try.underlying22 Try.underlying3 HI.out HZ1.out HZ0.out (z := .int .u64 0) rfl 8 HZ2.out n rfl rfl H0.out ?c1 ?c2 ?_)
    case c1 => have := HN.out; omega
    case c2 => have := HN.out; omega
    intro cap cur h1 h2 h3
    have HO2 := Lib.hid (World.ownsRow_made (base := w.heap.size) (e := 53) (size := 1) w.drew cur cap (Nat.le_refl _) h2 (by omega))
    have t3 : (0 : Int) ≤ (cap : Int) := by omega
    clear h2 h3
    go_wp2
    go_ret
    exact ⟨_, rfl, ((Gr.refl w).drew).allocO _, HO2.out⟩
end Hs
end Go.Proofs.Ytndbgnkobodjkaa
