/-
  Of layer 21: SplitTypes: for all types the law returns true.
-/
import Derived.Test.YthpnhanabcipmaaSpAk
namespace Go.Proofs.Ythpnhanabcipmaa
open Go.RowKit VecM Ev
namespace Sp
theorem ls_refl (l : List Int) : ∀ j, j < l.length → l.getD j 0 = l.getD j 0 := fun _ _ => rfl
set_option maxHeartbeats 4000000 in
theorem types_law (x0 x1 : Option Addr) (n0 n1 c0 c1 : Nat) (z0 z1 : Nat → Int) (w : World) (hl0 : n0 ≤ 1048576) (hl1 : n1 ≤ 1048576) (h0 : I64s w (.slice x0 n0 c0) n0 z0) (h1 : I64c w (.slice x1 n1 c1) n1 z1) :
    Calls Try.prog 3 #[.slice x0 n0 c0, .slice x1 n1 c1] w fun e w' => e = .returned (.bool true) ∧ Gr w w' := by
  have l0 := imL_len z0 n0
  have l1 := imL_len z1 n1
  have l2 : (ofL z1 n1).length ≤ 1048576 := by rw [ofL_len]; omega
  have A1 := Lib.hid (fun w1 (h : Gr w w1) => sig_any (w := w1) (by omega) (by omega) (i64s_gr h0 h) (i64s_gr (i64s_of_c h1) h))
  have A2 := Lib.hid (fun w1 (h : Gr w w1) => rsig_any (w := w1) (by omega) (by omega) (i64s_gr h0 h) (i64s_gr (i64s_of_c h1) h))
  have A3 := Lib.hid (fun w1 (h : Gr w w1) => width_any (w := w1) (by omega) (i64s_gr h0 h))
  have A4 := Lib.hid (fun w1 (h : Gr w w1) => rtypes_any (w := w1) (by omega) (i64s_gr h0 h))
  have A5 := Lib.hid (fun w1 (h : Gr w w1) => types_any (w := w1) (by omega) (i64s_gr h0 h))
  have A6 := Lib.hid (fun w1 (h : Gr w w1) => offsets_any (w := w1) (by omega) (i64s_gr (i64s_of_c h1) h))
  have A7 := Lib.hid (fun w1 (h : Gr w w1) => roffsets_any (w := w1) (by omega) (i64c_gr h1 h))
  clear h0 h1
  generalize imL z0 n0 = L0 at *
  generalize imL z1 n1 = L1 at *
  generalize ofL z1 n1 = L2 at *
  go_enter Try.func3, Try.ntmps3
  go_wp2_with fail
  refine (awake_any _).mono ?_
  rintro e w1 ⟨rfl, hg1⟩
  have HG1 := Lib.hid hg1
  clear hg1
  go_wp2_with fail
  refine (A1.out _ HG1.out).mono ?_
  rintro e w2 ⟨vi, vo, rfl, hg2, hi2, ho2⟩
  obtain ⟨xi, ci, rfl⟩ := own_slice hi2
  obtain ⟨xo, co, rfl⟩ := own_slice ho2
  have HI2 := Lib.hid (ls_of_owns hi2)
  have HO2 := Lib.hid (ls_of_owns ho2)
  have HG2 := Lib.hid (gr_trans HG1.out hg2)
  have HR2 := Lib.hid (heap_alloc_new w2 (.cells (sgV (.slice none 0 0) (.slice none 0 0)) 25))
  clear hg2 hi2 ho2
  go_wp2_with (refine wpList_store_row rfl 25 _ _ rfl w2.heap.size (sgV _ _) rfl rfl 25 (sgV (.slice none 0 0) (.slice none 0 0)) HR2.out infoSg rfl (sg_one _ _ _ _ _ _) ?_)
  have HRs := Lib.hid (setRow_block (c := sgV (.slice xi L0.length ci) (.slice xo L1.length co)) HR2.out)
  have HG3 := Lib.hid (show Gr w ((w2.alloc (.cells (sgV (.slice none 0 0) (.slice none 0 0)) 25)).setRow w2.heap.size (sgV (.slice xi L0.length ci) (.slice xo L1.length co))) from gr_setRow (gr_trans HG2.out ((Gr.refl _).alloc _ _)) HG2.out.size _)
  have HI3 := Lib.hid (show Ls ((w2.alloc (.cells (sgV (.slice none 0 0) (.slice none 0 0)) 25)).setRow w2.heap.size (sgV (.slice xi L0.length ci) (.slice xo L1.length co))) _ L0 from ls_gr HI2.out (gr_setRow ((Gr.refl w2).alloc _ _) (Nat.le_refl _) _))
  have HO3 := Lib.hid (show Ls ((w2.alloc (.cells (sgV (.slice none 0 0) (.slice none 0 0)) 25)).setRow w2.heap.size (sgV (.slice xi L0.length ci) (.slice xo L1.length co))) _ L1 from ls_gr HO2.out (gr_setRow ((Gr.refl w2).alloc _ _) (Nat.le_refl _) _))
  clear HR2 HG2 HI2 HO2
  unfold sgV at *
  generalize hW3 : ((w2.alloc (.cells #[.slice none 0 0, .slice none 0 0] 25)).setRow w2.heap.size #[.slice xi L0.length ci, .slice xo L1.length co]) = w3 at *
  generalize w2.heap.size = g2 at *
  refine (A2.out _ HG3.out).mono ?_
  rintro e w4 ⟨vi', vo', rfl, hg4, hi4, ho4⟩
  obtain ⟨xi', ci', rfl⟩ := own_slice hi4
  obtain ⟨xo', co', rfl⟩ := own_slice ho4
  have HI4 := Lib.hid (ls_of_owns hi4)
  have HO4 := Lib.hid (ls_of_owns ho4)
  have HS4 := Lib.hid hg4
  have HR4 := Lib.hid (heap_alloc_new w4 (.cells (sgV (.slice none 0 0) (.slice none 0 0)) 25))
  clear hg4 hi4 ho4 hW3
  go_wp2_with (refine wpList_store_row rfl 25 _ _ rfl w4.heap.size (sgV _ _) rfl rfl 25 (sgV (.slice none 0 0) (.slice none 0 0)) HR4.out infoSg rfl (sg_one _ _ _ _ _ _) ?_)
  have HRt := Lib.hid (setRow_block (c := sgV (.slice xi' L0.length ci') (.slice xo' L1.length co')) HR4.out)
  have HS5 := Lib.hid (show Gr w4 ((w4.alloc (.cells (sgV (.slice none 0 0) (.slice none 0 0)) 25)).setRow w4.heap.size (sgV (.slice xi' L0.length ci') (.slice xo' L1.length co'))) from gr_setRow ((Gr.refl _).alloc _ _) (Nat.le_refl _) _)
  have HRs5 := Lib.hid (gr_block (gr_trans HS4.out HS5.out) HRs.out)
  have HI5 := Lib.hid (ls_gr HI4.out HS5.out)
  have HO5 := Lib.hid (ls_gr HO4.out HS5.out)
  have HI6 := Lib.hid (ls_gr HI3.out (gr_trans HS4.out HS5.out))
  have HO6 := Lib.hid (ls_gr HO3.out (gr_trans HS4.out HS5.out))
  have HG5 := Lib.hid (gr_trans HG3.out (gr_trans HS4.out HS5.out))
  clear HR4 HS4 HS5 HI4 HO4 HI3 HO3 HRs HG3
  unfold sgV at *
  generalize hW5 : ((w4.alloc (.cells #[.slice none 0 0, .slice none 0 0] 25)).setRow w4.heap.size #[.slice xi' L0.length ci', .slice xo' L1.length co']) = w5 at *
  generalize w4.heap.size = g4 at *
  clear hW5
  refine (A3.out _ HG5.out).mono ?_
  rintro e w6 ⟨rfl, hg6⟩
  have HG6 := Lib.hid (gr_trans HG5.out hg6)
  have HS6 := Lib.hid hg6
  clear hg6
  go_wp2_with fail
  refine (A4.out _ HG6.out).mono ?_
  rintro e w7 ⟨v7, rfl, hg7, ho7⟩
  obtain ⟨x7, c7, rfl⟩ := own_slice ho7
  have HG7 := Lib.hid (gr_trans HG6.out hg7)
  have HS7 := Lib.hid (gr_trans HS6.out hg7)
  clear hg7 ho7 HS6
  go_wp2_with fail
  refine (A5.out _ HG7.out).mono ?_
  rintro e w8 ⟨v8, rfl, hg8, ho8⟩
  obtain ⟨x8, c8, rfl⟩ := own_slice ho8
  have HL8 := Lib.hid (ls_of_owns ho8)
  have HG8 := Lib.hid (gr_trans HG7.out hg8)
  have HS8 := Lib.hid (gr_trans HS7.out hg8)
  clear hg8 ho8 HS7
  go_wp2_with fail
  refine (A4.out _ HG8.out).mono ?_
  rintro e w9 ⟨v9, rfl, hg9, ho9⟩
  obtain ⟨x9, c9, rfl⟩ := own_slice ho9
  have HM := Lib.hid (same_types _ _ L0.length _ _ w9 (by omega) (ls_gr HL8.out hg9) (ls_of_owns ho9) (ls_refl L0))
  have HG9 := Lib.hid (gr_trans HG8.out hg9)
  have HS9 := Lib.hid (gr_trans HS8.out hg9)
  clear hg9 ho9 HS8 HL8
  go_wp2_with fail
  refine HM.out.mono ?_
  rintro e wA ⟨rfl, hgA⟩
  have HGA := Lib.hid (gr_trans HG9.out hgA)
  have HSA := Lib.hid (gr_trans HS9.out hgA)
  clear hgA HS9 HM
  go_wp2_with fail
  refine (A6.out _ HGA.out).mono ?_
  rintro e wB ⟨vB, rfl, hgB, hoB⟩
  obtain ⟨xB, cB, rfl⟩ := own_slice hoB
  have HLB := Lib.hid (ls_of_owns hoB)
  have HGB := Lib.hid (gr_trans HGA.out hgB)
  have HSB := Lib.hid (gr_trans HSA.out hgB)
  clear hgB hoB HSA
  go_wp2_with fail
  refine (A7.out _ HGB.out).mono ?_
  rintro e wC ⟨vC, rfl, hgC, hoC⟩
  obtain ⟨xC, cC, rfl⟩ := own_slice hoC
  have HM := Lib.hid (same_types _ _ L2.length _ _ wC (by omega) (ls_gr HLB.out hgC) (ls_of_owns hoC) (ls_refl L2))
  have HGC := Lib.hid (gr_trans HGB.out hgC)
  have HSC := Lib.hid (gr_trans HSB.out hgC)
  clear hgC hoC HSB HLB
  go_wp2_with fail
  refine HM.out.mono ?_
  rintro e wD ⟨rfl, hgD⟩
  have HGD := Lib.hid (gr_trans HGC.out hgD)
  have HSD := gr_trans HSC.out hgD
  have hr1 := gr_block HSD HRs5.out
  have hr2 := gr_block HSD HRt.out
  obtain ⟨a0, a1⟩ := cells2 hr1
  obtain ⟨b0, b1⟩ := cells2 hr2
  have HM2 := Lib.hid (same_sig xi xo xi' xo' L0.length L1.length ci co ci' co' _ _ _ _ wD (by omega) (by omega) (ls_gr HI6.out HSD) (ls_gr HO6.out HSD) (ls_gr HI5.out HSD) (ls_gr HO5.out HSD) (ls_refl L0) (ls_refl L1))
  have q1 := hr1
  have q2 := hr2
  clear hgD HSC HM HSD
  go_wp2_with fail
  refine HM2.out.mono ?_
  rintro e wE ⟨rfl, hgE⟩
  have HGE := Lib.hid (gr_trans HGD.out hgE)
  clear hgE
  go_wp2
  go_ret
  exact ⟨rfl, HGE.out⟩
theorem split_types {v0 v1 : Value} {n0 n1 : Nat} {z0 z1 : Nat → Int} {w : World} (l0 : n0 ≤ 1048576) (l1 : n1 ≤ 1048576) (h0 : I64c w v0 n0 z0) (h1 : I64c w v1 n1 z1) :
    Calls Try.prog 3 #[v0, v1] w fun e w' => e = .returned (.bool true) ∧ Gr w w' := by
  obtain ⟨x0, c0, rfl⟩ := ls_slice (i64s_of_c h0)
  obtain ⟨x1, c1, rfl⟩ := ls_slice (i64s_of_c h1)
  exact types_law x0 x1 n0 n1 c0 c1 z0 z1 w l0 l1 (i64s_of_c h0) h1
end Sp
end Go.Proofs.Ythpnhanabcipmaa
