/-
  Of layer 21: the laws' awake answers true, proved; SameSig on images that are alike.
-/
import Derived.Test.YthpnhanabcipmaaSpAw
namespace Go.Proofs.Ythpnhanabcipmaa
open Go.RowKit VecM Ev
namespace Sp
theorem nosum_ok (E : Env) (h : E.sum = fun _ _ => none) : SumOk E := fun f args cs mk hq => by rw [h] at hq; cases hq
theorem awake_any (w : World) : Calls Try.prog 9 #[] w fun e w' => e = .returned (.bool true) ∧ Gr w w' :=
  ev_path (E := envA) (E' := envA) rfl (nosum_ok _ rfl) (fuel := 4000) (args := []) (args' := []) [] t_aw (fun p hp => by cases hp) (fun β => (by kernel_rfl : tagOL [] t_aw (awPath β) = tagOR [] t_aw (awPath β))) w (ho := envA_ok)
set_option maxHeartbeats 1000000 in
theorem same_sig (x1 x2 y1 y2 : Option Addr) (n1 n2 c1 c2 d1 d2 : Nat) (z1 z2 u1 u2 : Nat → Int) (w : World) (hn1 : n1 ≤ 1099511627776) (hn2 : n2 ≤ 1099511627776) (h1 : I64s w (.slice x1 n1 c1) n1 z1) (h2 : I64s w (.slice x2 n2 c2) n2 z2)
    (k1 : I64s w (.slice y1 n1 d1) n1 u1) (k2 : I64s w (.slice y2 n2 d2) n2 u2) (e1 : ∀ j, j < n1 → z1 j = u1 j) (e2 : ∀ j, j < n2 → z2 j = u2 j) :
    Calls Try.prog 18 #[.agg (sgV (.slice x1 n1 c1) (.slice x2 n2 c2)), .agg (sgV (.slice y1 n1 d1) (.slice y2 n2 d2))] w fun e w' => e = .returned (.bool true) ∧ Gr w w' := by
  have H1 := Lib.hid (fun w1 (h : Gr w w1) => same_types _ _ n1 z1 u1 w1 hn1 (i64s_gr h1 h) (i64s_gr k1 h) e1)
  have H2 := Lib.hid (fun w1 (h : Gr w w1) => same_types _ _ n2 z2 u2 w1 hn2 (i64s_gr h2 h) (i64s_gr k2 h) e2)
  clear h1 h2 k1 k2 e1 e2
  unfold sgV
  go_enter Try.func18, Try.ntmps18
  go_wp2_with fail
  refine (H1.out _ (((Gr.refl w).alloc _ _).alloc _ _)).mono ?_
  rintro e w1 ⟨rfl, hg1⟩
  obtain ⟨_, a1⟩ := cells2 (gr_block hg1 (heap_alloc2_old w _ _))
  obtain ⟨_, b1⟩ := cells2 (gr_block hg1 (heap_alloc2_new w _ _))
  have HG1 := Lib.hid (gr_trans (((Gr.refl w).alloc _ _).alloc _ _) hg1)
  clear hg1
  go_wp2_with fail
  refine (H2.out _ HG1.out).mono ?_
  rintro e w2 ⟨rfl, hg2⟩
  have HG2 := Lib.hid (gr_trans HG1.out hg2)
  clear hg2 a1 b1
  go_wp2
  go_ret
  exact ⟨rfl, HG2.out⟩
end Sp
end Go.Proofs.Ythpnhanabcipmaa
