/-
  Of layer 21: SplitBack: for all types and values the law returns true.
-/
import Derived.Test.YthpnhanabcipmaaSpBm
import Derived.Test.YthpnhanabcipmaaPutAny
import Derived.Test.YthpnhanabcipmaaTakeAny
import Derived.Test.YthpnhanabcipmaaImages
namespace Go.Proofs.Ythpnhanabcipmaa
open Go.RowKit VecM Ev
namespace Sp
theorem putX_yes {ts : Nat → Int} {n m : Nat} (h : okT ts n ∧ n = m) : putX ts n m = 0 := if_pos h
theorem putX_no {ts : Nat → Int} {n m : Nat} (h : ¬ (okT ts n ∧ n = m)) : putX ts n m = 1 := if_neg h
theorem putR_yes {ts : Nat → Int} {vs : Nat → Nat → Int} {n m : Nat} (h : okT ts n ∧ n = m) : putR ts vs n m = putL ts vs n := if_pos h
set_option maxRecDepth 100000 in
set_option maxHeartbeats 4000000 in
theorem back_no (x0 : Option Addr) (n c0 : Nat) (z : Nat → Int) (vv : Value) (m : Nat) (vs : Nat → Nat → Int) (hB : ∀ j, Byt (vs j)) (w : World) (hl : n ≤ 1048576) (h0 : I64s w (.slice x0 n c0) n z) (h1 : Vecs w vv m vs) (hno : ¬ (okT z n ∧ n = m)) :
    Calls Try.prog 5 #[.slice x0 n c0, vv] w fun e w' => e = .returned (.bool true) ∧ Gr w w' := by
  have A1 := Lib.hid (fun w1 (h : Gr w w1) => put_any (w := w1) hB (by omega) (i64s_gr h0 h) (vecs_gr h1 h))
  have A2 := Lib.hid (putX_no hno)
  obtain ⟨xv, cv, rfl⟩ := slice_vecs h1
  clear h0 h1 hno
  go_enter Try.func5, Try.ntmps5
  go_wp2_with fail
  refine (awake_any _).mono ?_
  rintro e w1 ⟨rfl, hg1⟩
  have HG1 := Lib.hid hg1
  clear hg1
  go_wp2_with fail
  refine (A1.out _ HG1.out).mono ?_
  rintro e w2 ⟨sv, rfl, hg2, _⟩
  rw [A2.out]
  have HG2 := Lib.hid (gr_trans HG1.out hg2)
  clear hg2
  go_wp2
  go_ret
  exact ⟨rfl, HG2.out⟩
end Sp
end Go.Proofs.Ythpnhanabcipmaa
