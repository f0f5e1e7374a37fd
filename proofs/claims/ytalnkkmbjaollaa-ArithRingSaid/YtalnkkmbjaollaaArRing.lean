/-
  ArithRing: for all three vectors the law returns true. Condition: bytes.
-/
import Derived.Test.YtalnkkmbjaollaaArRM
namespace Go.Proofs.Ytalnkkmbjaollaa
open Go.RowKit VecM
namespace Ar
set_option maxRecDepth 100000 in
set_option maxHeartbeats 32000000 in
theorem ring_walk (a b c : Nat → Int) (ha : Byt a) (hb : Byt b) (hc : Byt c) (w : World) : Calls Try.prog 7 #[.agg (bs a), .agg (bs b), .agg (bs c)] w fun e w' => e = .returned (.bool true) ∧ Gr w w' := by
  have HA := Lib.hid ha
  have HB := Lib.hid hb
  have HC := Lib.hid hc
  clear ha hb hc
  have hS := St.start w
  go_enter Try.func7, Try.ntmps7
  go_upto_region 0 with (fail)
  refine wp_region_lit ?_
  refine sl_box hS rfl _ 23 (box_vec rfl rfl) ?_
  clear hS
  intro p wk hS
  refine sl_box hS rfl _ 23 (box_vec rfl rfl) ?_
  clear hS
  intro q wk hS
  refine sl_box hS rfl _ 23 (box_vec rfl rfl) ?_
  clear hS
  intro r wk hS
  go_upto_region 3 with (first | (refine sl_load hS rfl 23 _ rfl rfl (by repeat (first | exact Has.hd | apply Has.tl)) Try.underlying23 rfl (by exact infoV) ?_) | (refine sl_store hS rfl 23 _ _ rfl rfl rfl (by repeat (first | exact Rep.hd | apply Rep.tl)) (by exact infoV) (by rfl) (bs_one _) ?_; clear hS; intro wk hS) | (refine sl_box hS rfl _ 23 (box_vec rfl rfl) ?_; clear hS; intro bk wk hS) | (refine sl_box hS rfl _ 23 (alloc_vec rfl) ?_; clear hS; intro bk wk hS) | (refine onlyN_end ?_) | (refine onlyN_now ?_) | ((go_at_call 11); (with_reducible refine sl_call hS (awake _) ?_); clear hS; intro wk hS))
  refine wp_region_lit ?_
  refine wpList_build_at rfl 23 _ rfl (bs fun _ => 0) (by first | (simp only [List.map_toArray, List.map_nil]; kernel_rfl) | (simp only [Array.map_empty]; kernel_rfl) | (simp; kernel_rfl)) ?_
  go_wp2_with (first | (refine sl_load hS rfl 23 _ rfl rfl (by repeat (first | exact Has.hd | apply Has.tl)) Try.underlying23 rfl (by exact infoV) ?_) | (refine sl_store hS rfl 23 _ _ rfl rfl rfl (by repeat (first | exact Rep.hd | apply Rep.tl)) (by exact infoV) (by rfl) (bs_one _) ?_; clear hS; intro wk hS) | (refine sl_box hS rfl _ 23 (box_vec rfl rfl) ?_; clear hS; intro bk wk hS) | (refine sl_box hS rfl _ 23 (alloc_vec rfl) ?_; clear hS; intro z wk hS) | (refine onlyN_end ?_) | (refine onlyN_now ?_))
  go_loopw [8] (fun u wr => ∃ v : Int, (v = 8 ∨ v = 16 ∨ v = 32 ∨ v = 64 ∨ v = 128) ∧ u = .int .i64 v ∧ St w [⟨z, bs (fun _ => 0), 23⟩, ⟨r, bs c, 23⟩, ⟨q, bs b, 23⟩, ⟨p, bs a, 23⟩] wr) (fun u _ => (256 - intOf u).toNat)
  case atStart => exact ⟨8, by omega, rfl, hS⟩
  case round =>
    obtain ⟨v, hv, rfl, hS⟩ := hrel
    rcases hv with rfl | rfl | rfl | rfl | rfl
    · as_aux_lemma =>
      have F := ringF (v := 8) (by omega) HA.out HB.out
      have C1 := fun w => two_B 8 14 a b (by omega) (by omega) HA.out HB.out w
      have C2 := fun w => two_B 8 14 b a (by omega) (by omega) HB.out HA.out w
      rw [F.r1] at C2
      have C3 := fun w => two_B 8 17 (B 8 14 a b) b (by omega) (by omega) (B_byt _ _ _ _) HB.out w
      rw [F.r2] at C3
      have C4 := fun w => two_B 8 17 (fun _ => 0) a (by omega) (by omega) byt0 HA.out w
      rw [F.r3] at C4
      have C5 := fun w => one_U 8 1 a (by omega) (by omega) HA.out w
      have C6 := fun w => one_U 8 1 b (by omega) (by omega) HB.out w
      have C7 := fun w => two_B 8 14 a (U 8 1 b) (by omega) (by omega) HA.out (U_byt _ _ HB.out) w
      rw [F.r4] at C7
      have C8 := fun w => two_B 8 17 a b (by omega) (by omega) HA.out HB.out w
      have C9 := fun w => two_B 8 14 a (fun _ => 0) (by omega) (by omega) HA.out byt0 w
      rw [F.r5] at C9
      have C10 := fun w => one_U 8 0 (U 8 1 a) (by omega) (by omega) (U_byt _ _ HA.out) w
      rw [F.r6] at C10
      have C11 := fun w => one_U 8 0 a (by omega) (by omega) HA.out w
      clear F
      have HN := Lib.hid (U_byt 8 1 HA.out)
      have H0 := Lib.hid (U_byt 8 0 HA.out)
      have HL := Lib.hid (fun (k : Nat) (hj : thereB 8 k = true) => abs_lane (v := 8) (by omega) HA.out hj)
      generalize (B 8 14 a b) = sm at *
      generalize (U 8 1 a) = n1 at *
      generalize (U 8 1 b) = n2 at *
      generalize (B 8 17 a b) = df at *
      generalize (U 8 0 a) = ab at *
      have XC1 := Lib.hid C1
      clear C1
      have XC2 := Lib.hid C2
      clear C2
      have XC3 := Lib.hid C3
      clear C3
      have XC4 := Lib.hid C4
      clear C4
      have XC5 := Lib.hid C5
      clear C5
      have XC6 := Lib.hid C6
      clear C6
      have XC7 := Lib.hid C7
      clear C7
      have XC8 := Lib.hid C8
      clear C8
      have XC9 := Lib.hid C9
      clear C9
      have XC10 := Lib.hid C10
      clear C10
      have XC11 := Lib.hid C11
      clear C11
      go_upto_region 8 with (first | (refine sl_load hS rfl 23 _ rfl rfl (by repeat (first | exact Has.hd | apply Has.tl)) Try.underlying23 rfl (by exact infoV) ?_) | (refine sl_store hS rfl 23 _ _ rfl rfl rfl (by repeat (first | exact Rep.hd | apply Rep.tl)) (by exact infoV) (by rfl) (bs_one _) ?_; clear hS; intro wk hS) | (refine sl_box hS rfl _ 23 (box_vec rfl rfl) ?_; clear hS; intro bk wk hS) | (refine sl_box hS rfl _ 23 (alloc_vec rfl) ?_; clear hS; intro ps wk hS) | (refine onlyN_end ?_) | (refine onlyN_now ?_) | ((go_at_call 19); (with_reducible refine sl_call hS (XC1.out _) ?_); clear hS; intro wk hS) | ((go_at_call 19); (with_reducible refine sl_call hS (XC2.out _) ?_); clear hS; intro wk hS) | ((go_at_call 19); (with_reducible refine sl_call hS (XC3.out _) ?_); clear hS; intro wk hS) | ((go_at_call 19); (with_reducible refine sl_call hS (XC4.out _) ?_); clear hS; intro wk hS) | ((go_at_call 19); (with_reducible refine sl_call hS (XC7.out _) ?_); clear hS; intro wk hS) | ((go_at_call 19); (with_reducible refine sl_call hS (XC8.out _) ?_); clear hS; intro wk hS) | ((go_at_call 19); (with_reducible refine sl_call hS (XC9.out _) ?_); clear hS; intro wk hS) | ((go_at_call 20); (with_reducible refine sl_call hS (XC5.out _) ?_); clear hS; intro wk hS) | ((go_at_call 20); (with_reducible refine sl_call hS (XC6.out _) ?_); clear hS; intro wk hS) | ((go_at_call 20); (with_reducible refine sl_call hS (XC10.out _) ?_); clear hS; intro wk hS) | ((go_at_call 20); (with_reducible refine sl_call hS (XC11.out _) ?_); clear hS; intro wk hS))
      have hq0 := fun w => eq_same sm w
      have hq1 := fun w => eq_same a w
      have hq2 := fun w => eq_same n1 w
      have hq3 := fun w => eq_same df w
      have hq4 := fun w => eq_same ab w
      refine sd_all hS (by kernel_rfl) (by kernel_rfl) ?_
      iterate 56 (refine sd_step (fun K hK => ?_); (first | (refine sd_load rfl 23 _ rfl rfl (by repeat (first | exact Has.hd | apply Has.tl)) Try.underlying23 rfl (by exact infoV) ?_) | (apply sd_yes rfl; focus (intro wx hx; go_simp; first | (apply sd_enter; first | fail | with_reducible exact XC1.out wx | with_reducible exact XC2.out wx | with_reducible exact XC3.out wx | with_reducible exact XC4.out wx | with_reducible exact XC7.out wx | with_reducible exact XC8.out wx | with_reducible exact XC9.out wx | with_reducible exact XC5.out wx | with_reducible exact XC6.out wx | with_reducible exact XC10.out wx | with_reducible exact XC11.out wx) | exact ⟨rfl, Gr.refl _⟩)) | (refine sd_no rfl ?_)); go_simp; refine hK _ ?_; clear hK K)
      refine sd_nil ?_
      clear hS hq0 hq1 hq2 hq3 hq4
      intro wk hS
      go_upto_region 10 with (first | (refine sl_load hS rfl 23 _ rfl rfl (by repeat (first | exact Has.hd | apply Has.tl)) Try.underlying23 rfl (by exact infoV) ?_) | (refine sl_store hS rfl 23 _ _ rfl rfl rfl (by repeat (first | exact Rep.hd | apply Rep.tl)) (by exact infoV) (by rfl) (bs_one _) ?_; clear hS; intro wk hS) | (refine sl_box hS rfl _ 23 (box_vec rfl rfl) ?_; clear hS; intro bk wk hS) | (refine sl_box hS rfl _ 23 (alloc_vec rfl) ?_; clear hS; intro bk wk hS) | (refine onlyN_end ?_) | (refine onlyN_now ?_))
      refine sd_all hS (by kernel_rfl) (by kernel_rfl) ?_
      iterate 48 (refine sd_step (fun K hK => ?_); (first | (refine sd_load rfl 23 _ rfl rfl (by repeat (first | exact Has.hd | apply Has.tl)) Try.underlying23 rfl (by exact infoV) ?_) | (apply sd_yes rfl; focus (intro wx hx; go_simp; first | (apply sd_enter; first | fail | with_reducible exact XC1.out wx | with_reducible exact XC2.out wx | with_reducible exact XC3.out wx | with_reducible exact XC4.out wx | with_reducible exact XC7.out wx | with_reducible exact XC8.out wx | with_reducible exact XC9.out wx | with_reducible exact XC5.out wx | with_reducible exact XC6.out wx | with_reducible exact XC10.out wx | with_reducible exact XC11.out wx) | exact ⟨rfl, Gr.refl _⟩)) | (refine sd_no rfl ?_)); go_simp; refine hK _ ?_; clear hK K)
      refine sd_nil ?_
      clear hS
      intro wk hS
      go_upto_region 13 with (first | (refine sl_load hS rfl 23 _ rfl rfl (by repeat (first | exact Has.hd | apply Has.tl)) Try.underlying23 rfl (by exact infoV) ?_) | (refine sl_store hS rfl 23 _ _ rfl rfl rfl (by repeat (first | exact Rep.hd | apply Rep.tl)) (by exact infoV) (by rfl) (bs_one _) ?_; clear hS; intro wk hS) | (refine sl_box hS rfl _ 23 (box_vec rfl rfl) ?_; clear hS; intro bk wk hS) | (refine sl_box hS rfl _ 23 (alloc_vec rfl) ?_; clear hS; intro pa wk hS) | (refine onlyN_end ?_) | (refine onlyN_now ?_) | ((go_at_call 19); (with_reducible refine sl_call hS (XC1.out _) ?_); clear hS; intro wk hS) | ((go_at_call 19); (with_reducible refine sl_call hS (XC2.out _) ?_); clear hS; intro wk hS) | ((go_at_call 19); (with_reducible refine sl_call hS (XC3.out _) ?_); clear hS; intro wk hS) | ((go_at_call 19); (with_reducible refine sl_call hS (XC4.out _) ?_); clear hS; intro wk hS) | ((go_at_call 19); (with_reducible refine sl_call hS (XC7.out _) ?_); clear hS; intro wk hS) | ((go_at_call 19); (with_reducible refine sl_call hS (XC8.out _) ?_); clear hS; intro wk hS) | ((go_at_call 19); (with_reducible refine sl_call hS (XC9.out _) ?_); clear hS; intro wk hS) | ((go_at_call 20); (with_reducible refine sl_call hS (XC5.out _) ?_); clear hS; intro wk hS) | ((go_at_call 20); (with_reducible refine sl_call hS (XC6.out _) ?_); clear hS; intro wk hS) | ((go_at_call 20); (with_reducible refine sl_call hS (XC10.out _) ?_); clear hS; intro wk hS) | ((go_at_call 20); (with_reducible refine sl_call hS (XC11.out _) ?_); clear hS; intro wk hS))
      go_wp2_with (first | (refine sl_load hS rfl 23 _ rfl rfl (by repeat (first | exact Has.hd | apply Has.tl)) Try.underlying23 rfl (by exact infoV) ?_) | (refine sl_store hS rfl 23 _ _ rfl rfl rfl (by repeat (first | exact Rep.hd | apply Rep.tl)) (by exact infoV) (by rfl) (bs_one _) ?_; clear hS; intro wk hS) | (refine sl_box hS rfl _ 23 (box_vec rfl rfl) ?_; clear hS; intro bk wk hS) | (refine sl_box hS rfl _ 23 (alloc_vec rfl) ?_; clear hS; intro bk wk hS) | (refine onlyN_end ?_) | (refine onlyN_now ?_))
      go_loopw [11] (fun u wr => ∃ k : Nat, k ≤ 16 ∧ u = .int .i64 k ∧ St w (⟨pa, bs ab, 23⟩ :: ⟨ps, bs sm, 23⟩ :: [⟨z, bs (fun _ => 0), 23⟩, ⟨r, bs c, 23⟩, ⟨q, bs b, 23⟩, ⟨p, bs a, 23⟩]) wr) (fun u _ => 16 - (intOf u).toNat)
      case atStart => exact ⟨0, by omega, rfl, hS⟩
      case round =>
        obtain ⟨k, hk, rfl, hS⟩ := hrel
        by_cases hlt : k < 16
        · have hj : thereB 8 k = true := there_iff.2 ⟨by omega, by show (k : Int) < 16; omega⟩
          obtain ⟨h1, h2⟩ := HL.out k hj
          have E1 := fun w => get_any a HA.out 8 k w
          have E2 := fun w => get_any ab H0.out 8 k w
          have E3 := fun w => get_any n1 HN.out 8 k w
          have E4 := fun w => signed_any ab H0.out 8 k w
          generalize getI a 8 k = g at *
          generalize getI ab 8 k = x at *
          generalize getI n1 8 k = n at *
          generalize sgnI ab 8 k = t at *
          rw [show (2 : Int) ^ ((8 : Int).toNat - 1) = 128 from rfl] at h2
          have XE1 := Lib.hid E1
          clear E1
          have XE2 := Lib.hid E2
          clear E2
          have XE3 := Lib.hid E3
          clear E3
          have XE4 := Lib.hid E4
          clear E4
          by_cases hxg : x = g
          · subst hxg
            rcases h2 with h2 | rfl
            all_goals
              go_wp2_with (first | (refine sl_load hS rfl 23 _ rfl rfl (by repeat (first | exact Has.hd | apply Has.tl)) Try.underlying23 rfl (by exact infoV) ?_) | (refine sl_store hS rfl 23 _ _ rfl rfl rfl (by repeat (first | exact Rep.hd | apply Rep.tl)) (by exact infoV) (by rfl) (bs_one _) ?_; clear hS; intro wk hS) | (refine sl_box hS rfl _ 23 (box_vec rfl rfl) ?_; clear hS; intro bk wk hS) | (refine sl_box hS rfl _ 23 (alloc_vec rfl) ?_; clear hS; intro bk wk hS) | (refine onlyN_end ?_) | (refine onlyN_now ?_) | ((go_at_call 16); (with_reducible refine sl_call hS (XE1.out _) ?_); clear hS; intro wk hS) | ((go_at_call 16); (with_reducible refine sl_call hS (XE2.out _) ?_); clear hS; intro wk hS) | ((go_at_call 16); (with_reducible refine sl_call hS (XE3.out _) ?_); clear hS; intro wk hS) | ((go_at_call 17); (with_reducible refine sl_call hS (XE4.out _) ?_); clear hS; intro wk hS) | ((go_at_call 19); (with_reducible refine sl_call hS (XC1.out _) ?_); clear hS; intro wk hS) | ((go_at_call 19); (with_reducible refine sl_call hS (XC2.out _) ?_); clear hS; intro wk hS) | ((go_at_call 19); (with_reducible refine sl_call hS (XC3.out _) ?_); clear hS; intro wk hS) | ((go_at_call 19); (with_reducible refine sl_call hS (XC4.out _) ?_); clear hS; intro wk hS) | ((go_at_call 19); (with_reducible refine sl_call hS (XC7.out _) ?_); clear hS; intro wk hS) | ((go_at_call 19); (with_reducible refine sl_call hS (XC8.out _) ?_); clear hS; intro wk hS) | ((go_at_call 19); (with_reducible refine sl_call hS (XC9.out _) ?_); clear hS; intro wk hS) | ((go_at_call 20); (with_reducible refine sl_call hS (XC5.out _) ?_); clear hS; intro wk hS) | ((go_at_call 20); (with_reducible refine sl_call hS (XC6.out _) ?_); clear hS; intro wk hS) | ((go_at_call 20); (with_reducible refine sl_call hS (XC10.out _) ?_); clear hS; intro wk hS) | ((go_at_call 20); (with_reducible refine sl_call hS (XC11.out _) ?_); clear hS; intro wk hS))
              all_goals exact ⟨⟨k + 1, by omega, by go_num, hS⟩, by simp [intOf]; omega⟩
          · have h3 : x = n := by omega
            subst h3
            have hb1 : (x == g) = false := beq_eq_false_iff_ne.2 hxg
            have hb2 : (x != g) = true := by simp [bne, hb1]
            rcases h2 with h2 | rfl
            all_goals
              go_wp2_with (first | (refine sl_load hS rfl 23 _ rfl rfl (by repeat (first | exact Has.hd | apply Has.tl)) Try.underlying23 rfl (by exact infoV) ?_) | (refine sl_store hS rfl 23 _ _ rfl rfl rfl (by repeat (first | exact Rep.hd | apply Rep.tl)) (by exact infoV) (by rfl) (bs_one _) ?_; clear hS; intro wk hS) | (refine sl_box hS rfl _ 23 (box_vec rfl rfl) ?_; clear hS; intro bk wk hS) | (refine sl_box hS rfl _ 23 (alloc_vec rfl) ?_; clear hS; intro bk wk hS) | (refine onlyN_end ?_) | (refine onlyN_now ?_) | ((go_at_call 16); (with_reducible refine sl_call hS (XE1.out _) ?_); clear hS; intro wk hS) | ((go_at_call 16); (with_reducible refine sl_call hS (XE2.out _) ?_); clear hS; intro wk hS) | ((go_at_call 16); (with_reducible refine sl_call hS (XE3.out _) ?_); clear hS; intro wk hS) | ((go_at_call 17); (with_reducible refine sl_call hS (XE4.out _) ?_); clear hS; intro wk hS) | ((go_at_call 19); (with_reducible refine sl_call hS (XC1.out _) ?_); clear hS; intro wk hS) | ((go_at_call 19); (with_reducible refine sl_call hS (XC2.out _) ?_); clear hS; intro wk hS) | ((go_at_call 19); (with_reducible refine sl_call hS (XC3.out _) ?_); clear hS; intro wk hS) | ((go_at_call 19); (with_reducible refine sl_call hS (XC4.out _) ?_); clear hS; intro wk hS) | ((go_at_call 19); (with_reducible refine sl_call hS (XC7.out _) ?_); clear hS; intro wk hS) | ((go_at_call 19); (with_reducible refine sl_call hS (XC8.out _) ?_); clear hS; intro wk hS) | ((go_at_call 19); (with_reducible refine sl_call hS (XC9.out _) ?_); clear hS; intro wk hS) | ((go_at_call 20); (with_reducible refine sl_call hS (XC5.out _) ?_); clear hS; intro wk hS) | ((go_at_call 20); (with_reducible refine sl_call hS (XC6.out _) ?_); clear hS; intro wk hS) | ((go_at_call 20); (with_reducible refine sl_call hS (XC10.out _) ?_); clear hS; intro wk hS) | ((go_at_call 20); (with_reducible refine sl_call hS (XC11.out _) ?_); clear hS; intro wk hS))
              all_goals exact ⟨⟨k + 1, by omega, by go_num, hS⟩, by simp [intOf]; omega⟩
        · obtain rfl : k = 16 := by omega
          go_wp2_with (first | (refine sl_load hS rfl 23 _ rfl rfl (by repeat (first | exact Has.hd | apply Has.tl)) Try.underlying23 rfl (by exact infoV) ?_) | (refine sl_store hS rfl 23 _ _ rfl rfl rfl (by repeat (first | exact Rep.hd | apply Rep.tl)) (by exact infoV) (by rfl) (bs_one _) ?_; clear hS; intro wk hS) | (refine sl_box hS rfl _ 23 (box_vec rfl rfl) ?_; clear hS; intro bk wk hS) | (refine sl_box hS rfl _ 23 (alloc_vec rfl) ?_; clear hS; intro bk wk hS) | (refine onlyN_end ?_) | (refine onlyN_now ?_))
          exact ⟨⟨16, by omega, rfl, hS.tail.tail⟩, by simp [intOf]⟩
    · as_aux_lemma =>
      have F := ringF (v := 16) (by omega) HA.out HB.out
      have C1 := fun w => two_B 16 14 a b (by omega) (by omega) HA.out HB.out w
      have C2 := fun w => two_B 16 14 b a (by omega) (by omega) HB.out HA.out w
      rw [F.r1] at C2
      have C3 := fun w => two_B 16 17 (B 16 14 a b) b (by omega) (by omega) (B_byt _ _ _ _) HB.out w
      rw [F.r2] at C3
      have C4 := fun w => two_B 16 17 (fun _ => 0) a (by omega) (by omega) byt0 HA.out w
      rw [F.r3] at C4
      have C5 := fun w => one_U 16 1 a (by omega) (by omega) HA.out w
      have C6 := fun w => one_U 16 1 b (by omega) (by omega) HB.out w
      have C7 := fun w => two_B 16 14 a (U 16 1 b) (by omega) (by omega) HA.out (U_byt _ _ HB.out) w
      rw [F.r4] at C7
      have C8 := fun w => two_B 16 17 a b (by omega) (by omega) HA.out HB.out w
      have C9 := fun w => two_B 16 14 a (fun _ => 0) (by omega) (by omega) HA.out byt0 w
      rw [F.r5] at C9
      have C10 := fun w => one_U 16 0 (U 16 1 a) (by omega) (by omega) (U_byt _ _ HA.out) w
      rw [F.r6] at C10
      have C11 := fun w => one_U 16 0 a (by omega) (by omega) HA.out w
      have G := ringP (v := 16) (by omega) (by omega) (a := a) (b := b) (c := c)
      have C12 := fun w => two_B 16 21 a b (by omega) (by omega) HA.out HB.out w
      have C13 := fun w => two_B 16 21 b a (by omega) (by omega) HB.out HA.out w
      rw [G.r7] at C13
      have C14 := fun w => two_B 16 14 b c (by omega) (by omega) HB.out HC.out w
      have C15 := fun w => two_B 16 21 a (B 16 14 b c) (by omega) (by omega) HA.out (B_byt _ _ _ _) w
      rw [G.r8] at C15
      have C16 := fun w => two_B 16 21 a c (by omega) (by omega) HA.out HC.out w
      have C17 := fun w => two_B 16 14 (B 16 21 a b) (B 16 21 a c) (by omega) (by omega) (B_byt _ _ _ _) (B_byt _ _ _ _) w
      have C18 := fun w => two_B 16 21 (U 16 1 a) b (by omega) (by omega) (U_byt _ _ HA.out) HB.out w
      rw [G.r9] at C18
      have C19 := fun w => one_U 16 1 (B 16 21 a b) (by omega) (by omega) (B_byt _ _ _ _) w
      clear F G
      have HN := Lib.hid (U_byt 16 1 HA.out)
      have H0 := Lib.hid (U_byt 16 0 HA.out)
      have HL := Lib.hid (fun (k : Nat) (hj : thereB 16 k = true) => abs_lane (v := 16) (by omega) HA.out hj)
      generalize (B 16 14 (B 16 21 a b) (B 16 21 a c)) = zt at *
      generalize (U 16 1 (B 16 21 a b)) = y at *
      generalize (B 16 21 a b) = pr at *
      generalize (B 16 14 b c) = qs at *
      generalize (B 16 21 a c) = rp at *
      generalize (B 16 14 a b) = sm at *
      generalize (U 16 1 a) = n1 at *
      generalize (U 16 1 b) = n2 at *
      generalize (B 16 17 a b) = df at *
      generalize (U 16 0 a) = ab at *
      have XC1 := Lib.hid C1
      clear C1
      have XC2 := Lib.hid C2
      clear C2
      have XC3 := Lib.hid C3
      clear C3
      have XC4 := Lib.hid C4
      clear C4
      have XC5 := Lib.hid C5
      clear C5
      have XC6 := Lib.hid C6
      clear C6
      have XC7 := Lib.hid C7
      clear C7
      have XC8 := Lib.hid C8
      clear C8
      have XC9 := Lib.hid C9
      clear C9
      have XC10 := Lib.hid C10
      clear C10
      have XC11 := Lib.hid C11
      clear C11
      have XC12 := Lib.hid C12
      clear C12
      have XC13 := Lib.hid C13
      clear C13
      have XC14 := Lib.hid C14
      clear C14
      have XC15 := Lib.hid C15
      clear C15
      have XC16 := Lib.hid C16
      clear C16
      have XC17 := Lib.hid C17
      clear C17
      have XC18 := Lib.hid C18
      clear C18
      have XC19 := Lib.hid C19
      clear C19
      go_upto_region 8 with (first | (refine sl_load hS rfl 23 _ rfl rfl (by repeat (first | exact Has.hd | apply Has.tl)) Try.underlying23 rfl (by exact infoV) ?_) | (refine sl_store hS rfl 23 _ _ rfl rfl rfl (by repeat (first | exact Rep.hd | apply Rep.tl)) (by exact infoV) (by rfl) (bs_one _) ?_; clear hS; intro wk hS) | (refine sl_box hS rfl _ 23 (box_vec rfl rfl) ?_; clear hS; intro bk wk hS) | (refine sl_box hS rfl _ 23 (alloc_vec rfl) ?_; clear hS; intro ps wk hS) | (refine onlyN_end ?_) | (refine onlyN_now ?_) | ((go_at_call 19); (with_reducible refine sl_call hS (XC1.out _) ?_); clear hS; intro wk hS) | ((go_at_call 19); (with_reducible refine sl_call hS (XC2.out _) ?_); clear hS; intro wk hS) | ((go_at_call 19); (with_reducible refine sl_call hS (XC3.out _) ?_); clear hS; intro wk hS) | ((go_at_call 19); (with_reducible refine sl_call hS (XC4.out _) ?_); clear hS; intro wk hS) | ((go_at_call 19); (with_reducible refine sl_call hS (XC7.out _) ?_); clear hS; intro wk hS) | ((go_at_call 19); (with_reducible refine sl_call hS (XC8.out _) ?_); clear hS; intro wk hS) | ((go_at_call 19); (with_reducible refine sl_call hS (XC9.out _) ?_); clear hS; intro wk hS) | ((go_at_call 19); (with_reducible refine sl_call hS (XC12.out _) ?_); clear hS; intro wk hS) | ((go_at_call 19); (with_reducible refine sl_call hS (XC13.out _) ?_); clear hS; intro wk hS) | ((go_at_call 19); (with_reducible refine sl_call hS (XC14.out _) ?_); clear hS; intro wk hS) | ((go_at_call 19); (with_reducible refine sl_call hS (XC15.out _) ?_); clear hS; intro wk hS) | ((go_at_call 19); (with_reducible refine sl_call hS (XC16.out _) ?_); clear hS; intro wk hS) | ((go_at_call 19); (with_reducible refine sl_call hS (XC17.out _) ?_); clear hS; intro wk hS) | ((go_at_call 19); (with_reducible refine sl_call hS (XC18.out _) ?_); clear hS; intro wk hS) | ((go_at_call 20); (with_reducible refine sl_call hS (XC5.out _) ?_); clear hS; intro wk hS) | ((go_at_call 20); (with_reducible refine sl_call hS (XC6.out _) ?_); clear hS; intro wk hS) | ((go_at_call 20); (with_reducible refine sl_call hS (XC10.out _) ?_); clear hS; intro wk hS) | ((go_at_call 20); (with_reducible refine sl_call hS (XC11.out _) ?_); clear hS; intro wk hS) | ((go_at_call 20); (with_reducible refine sl_call hS (XC19.out _) ?_); clear hS; intro wk hS))
      have hq0 := fun w => eq_same sm w
      have hq1 := fun w => eq_same a w
      have hq2 := fun w => eq_same n1 w
      have hq3 := fun w => eq_same df w
      have hq4 := fun w => eq_same ab w
      refine sd_all hS (by kernel_rfl) (by kernel_rfl) ?_
      iterate 56 (refine sd_step (fun K hK => ?_); (first | (refine sd_load rfl 23 _ rfl rfl (by repeat (first | exact Has.hd | apply Has.tl)) Try.underlying23 rfl (by exact infoV) ?_) | (apply sd_yes rfl; focus (intro wx hx; go_simp; first | (apply sd_enter; first | fail | with_reducible exact XC1.out wx | with_reducible exact XC2.out wx | with_reducible exact XC3.out wx | with_reducible exact XC4.out wx | with_reducible exact XC7.out wx | with_reducible exact XC8.out wx | with_reducible exact XC9.out wx | with_reducible exact XC5.out wx | with_reducible exact XC6.out wx | with_reducible exact XC10.out wx | with_reducible exact XC11.out wx) | exact ⟨rfl, Gr.refl _⟩)) | (refine sd_no rfl ?_)); go_simp; refine hK _ ?_; clear hK K)
      refine sd_nil ?_
      clear hS hq0 hq1 hq2 hq3 hq4
      intro wk hS
      go_upto_region 10 with (first | (refine sl_load hS rfl 23 _ rfl rfl (by repeat (first | exact Has.hd | apply Has.tl)) Try.underlying23 rfl (by exact infoV) ?_) | (refine sl_store hS rfl 23 _ _ rfl rfl rfl (by repeat (first | exact Rep.hd | apply Rep.tl)) (by exact infoV) (by rfl) (bs_one _) ?_; clear hS; intro wk hS) | (refine sl_box hS rfl _ 23 (box_vec rfl rfl) ?_; clear hS; intro bk wk hS) | (refine sl_box hS rfl _ 23 (alloc_vec rfl) ?_; clear hS; intro bk wk hS) | (refine onlyN_end ?_) | (refine onlyN_now ?_))
      have hq0 := fun w => eq_same pr w
      have hq1 := fun w => eq_same zt w
      have hq2 := fun w => eq_same y w
      refine sd_all hS (by kernel_rfl) (by kernel_rfl) ?_
      iterate 48 (refine sd_step (fun K hK => ?_); (first | (refine sd_load rfl 23 _ rfl rfl (by repeat (first | exact Has.hd | apply Has.tl)) Try.underlying23 rfl (by exact infoV) ?_) | (apply sd_yes rfl; focus (intro wx hx; go_simp; first | (apply sd_enter; first | fail | with_reducible exact XC1.out wx | with_reducible exact XC2.out wx | with_reducible exact XC3.out wx | with_reducible exact XC4.out wx | with_reducible exact XC7.out wx | with_reducible exact XC8.out wx | with_reducible exact XC9.out wx | with_reducible exact XC12.out wx | with_reducible exact XC13.out wx | with_reducible exact XC14.out wx | with_reducible exact XC15.out wx | with_reducible exact XC16.out wx | with_reducible exact XC17.out wx | with_reducible exact XC18.out wx | with_reducible exact XC5.out wx | with_reducible exact XC6.out wx | with_reducible exact XC10.out wx | with_reducible exact XC11.out wx | with_reducible exact XC19.out wx) | exact ⟨rfl, Gr.refl _⟩)) | (refine sd_no rfl ?_)); go_simp; refine hK _ ?_; clear hK K)
      refine sd_nil ?_
      clear hS hq0 hq1 hq2
      intro wk hS
      go_upto_region 13 with (first | (refine sl_load hS rfl 23 _ rfl rfl (by repeat (first | exact Has.hd | apply Has.tl)) Try.underlying23 rfl (by exact infoV) ?_) | (refine sl_store hS rfl 23 _ _ rfl rfl rfl (by repeat (first | exact Rep.hd | apply Rep.tl)) (by exact infoV) (by rfl) (bs_one _) ?_; clear hS; intro wk hS) | (refine sl_box hS rfl _ 23 (box_vec rfl rfl) ?_; clear hS; intro bk wk hS) | (refine sl_box hS rfl _ 23 (alloc_vec rfl) ?_; clear hS; intro pa wk hS) | (refine onlyN_end ?_) | (refine onlyN_now ?_) | ((go_at_call 19); (with_reducible refine sl_call hS (XC1.out _) ?_); clear hS; intro wk hS) | ((go_at_call 19); (with_reducible refine sl_call hS (XC2.out _) ?_); clear hS; intro wk hS) | ((go_at_call 19); (with_reducible refine sl_call hS (XC3.out _) ?_); clear hS; intro wk hS) | ((go_at_call 19); (with_reducible refine sl_call hS (XC4.out _) ?_); clear hS; intro wk hS) | ((go_at_call 19); (with_reducible refine sl_call hS (XC7.out _) ?_); clear hS; intro wk hS) | ((go_at_call 19); (with_reducible refine sl_call hS (XC8.out _) ?_); clear hS; intro wk hS) | ((go_at_call 19); (with_reducible refine sl_call hS (XC9.out _) ?_); clear hS; intro wk hS) | ((go_at_call 19); (with_reducible refine sl_call hS (XC12.out _) ?_); clear hS; intro wk hS) | ((go_at_call 19); (with_reducible refine sl_call hS (XC13.out _) ?_); clear hS; intro wk hS) | ((go_at_call 19); (with_reducible refine sl_call hS (XC14.out _) ?_); clear hS; intro wk hS) | ((go_at_call 19); (with_reducible refine sl_call hS (XC15.out _) ?_); clear hS; intro wk hS) | ((go_at_call 19); (with_reducible refine sl_call hS (XC16.out _) ?_); clear hS; intro wk hS) | ((go_at_call 19); (with_reducible refine sl_call hS (XC17.out _) ?_); clear hS; intro wk hS) | ((go_at_call 19); (with_reducible refine sl_call hS (XC18.out _) ?_); clear hS; intro wk hS) | ((go_at_call 20); (with_reducible refine sl_call hS (XC5.out _) ?_); clear hS; intro wk hS) | ((go_at_call 20); (with_reducible refine sl_call hS (XC6.out _) ?_); clear hS; intro wk hS) | ((go_at_call 20); (with_reducible refine sl_call hS (XC10.out _) ?_); clear hS; intro wk hS) | ((go_at_call 20); (with_reducible refine sl_call hS (XC11.out _) ?_); clear hS; intro wk hS) | ((go_at_call 20); (with_reducible refine sl_call hS (XC19.out _) ?_); clear hS; intro wk hS))
      go_wp2_with (first | (refine sl_load hS rfl 23 _ rfl rfl (by repeat (first | exact Has.hd | apply Has.tl)) Try.underlying23 rfl (by exact infoV) ?_) | (refine sl_store hS rfl 23 _ _ rfl rfl rfl (by repeat (first | exact Rep.hd | apply Rep.tl)) (by exact infoV) (by rfl) (bs_one _) ?_; clear hS; intro wk hS) | (refine sl_box hS rfl _ 23 (box_vec rfl rfl) ?_; clear hS; intro bk wk hS) | (refine sl_box hS rfl _ 23 (alloc_vec rfl) ?_; clear hS; intro bk wk hS) | (refine onlyN_end ?_) | (refine onlyN_now ?_))
      go_loopw [11] (fun u wr => ∃ k : Nat, k ≤ 8 ∧ u = .int .i64 k ∧ St w (⟨pa, bs ab, 23⟩ :: ⟨ps, bs sm, 23⟩ :: [⟨z, bs (fun _ => 0), 23⟩, ⟨r, bs c, 23⟩, ⟨q, bs b, 23⟩, ⟨p, bs a, 23⟩]) wr) (fun u _ => 8 - (intOf u).toNat)
      case atStart => exact ⟨0, by omega, rfl, hS⟩
      case round =>
        obtain ⟨k, hk, rfl, hS⟩ := hrel
        by_cases hlt : k < 8
        · have hj : thereB 16 k = true := there_iff.2 ⟨by omega, by show (k : Int) < 8; omega⟩
          obtain ⟨h1, h2⟩ := HL.out k hj
          have E1 := fun w => get_any a HA.out 16 k w
          have E2 := fun w => get_any ab H0.out 16 k w
          have E3 := fun w => get_any n1 HN.out 16 k w
          have E4 := fun w => signed_any ab H0.out 16 k w
          generalize getI a 16 k = g at *
          generalize getI ab 16 k = x at *
          generalize getI n1 16 k = n at *
          generalize sgnI ab 16 k = t at *
          rw [show (2 : Int) ^ ((16 : Int).toNat - 1) = 32768 from rfl] at h2
          have XE1 := Lib.hid E1
          clear E1
          have XE2 := Lib.hid E2
          clear E2
          have XE3 := Lib.hid E3
          clear E3
          have XE4 := Lib.hid E4
          clear E4
          by_cases hxg : x = g
          · subst hxg
            rcases h2 with h2 | rfl
            all_goals
              go_wp2_with (first | (refine sl_load hS rfl 23 _ rfl rfl (by repeat (first | exact Has.hd | apply Has.tl)) Try.underlying23 rfl (by exact infoV) ?_) | (refine sl_store hS rfl 23 _ _ rfl rfl rfl (by repeat (first | exact Rep.hd | apply Rep.tl)) (by exact infoV) (by rfl) (bs_one _) ?_; clear hS; intro wk hS) | (refine sl_box hS rfl _ 23 (box_vec rfl rfl) ?_; clear hS; intro bk wk hS) | (refine sl_box hS rfl _ 23 (alloc_vec rfl) ?_; clear hS; intro bk wk hS) | (refine onlyN_end ?_) | (refine onlyN_now ?_) | ((go_at_call 16); (with_reducible refine sl_call hS (XE1.out _) ?_); clear hS; intro wk hS) | ((go_at_call 16); (with_reducible refine sl_call hS (XE2.out _) ?_); clear hS; intro wk hS) | ((go_at_call 16); (with_reducible refine sl_call hS (XE3.out _) ?_); clear hS; intro wk hS) | ((go_at_call 17); (with_reducible refine sl_call hS (XE4.out _) ?_); clear hS; intro wk hS) | ((go_at_call 19); (with_reducible refine sl_call hS (XC1.out _) ?_); clear hS; intro wk hS) | ((go_at_call 19); (with_reducible refine sl_call hS (XC2.out _) ?_); clear hS; intro wk hS) | ((go_at_call 19); (with_reducible refine sl_call hS (XC3.out _) ?_); clear hS; intro wk hS) | ((go_at_call 19); (with_reducible refine sl_call hS (XC4.out _) ?_); clear hS; intro wk hS) | ((go_at_call 19); (with_reducible refine sl_call hS (XC7.out _) ?_); clear hS; intro wk hS) | ((go_at_call 19); (with_reducible refine sl_call hS (XC8.out _) ?_); clear hS; intro wk hS) | ((go_at_call 19); (with_reducible refine sl_call hS (XC9.out _) ?_); clear hS; intro wk hS) | ((go_at_call 19); (with_reducible refine sl_call hS (XC12.out _) ?_); clear hS; intro wk hS) | ((go_at_call 19); (with_reducible refine sl_call hS (XC13.out _) ?_); clear hS; intro wk hS) | ((go_at_call 19); (with_reducible refine sl_call hS (XC14.out _) ?_); clear hS; intro wk hS) | ((go_at_call 19); (with_reducible refine sl_call hS (XC15.out _) ?_); clear hS; intro wk hS) | ((go_at_call 19); (with_reducible refine sl_call hS (XC16.out _) ?_); clear hS; intro wk hS) | ((go_at_call 19); (with_reducible refine sl_call hS (XC17.out _) ?_); clear hS; intro wk hS) | ((go_at_call 19); (with_reducible refine sl_call hS (XC18.out _) ?_); clear hS; intro wk hS) | ((go_at_call 20); (with_reducible refine sl_call hS (XC5.out _) ?_); clear hS; intro wk hS) | ((go_at_call 20); (with_reducible refine sl_call hS (XC6.out _) ?_); clear hS; intro wk hS) | ((go_at_call 20); (with_reducible refine sl_call hS (XC10.out _) ?_); clear hS; intro wk hS) | ((go_at_call 20); (with_reducible refine sl_call hS (XC11.out _) ?_); clear hS; intro wk hS) | ((go_at_call 20); (with_reducible refine sl_call hS (XC19.out _) ?_); clear hS; intro wk hS))
              all_goals exact ⟨⟨k + 1, by omega, by go_num, hS⟩, by simp [intOf]; omega⟩
          · have h3 : x = n := by omega
            subst h3
            have hb1 : (x == g) = false := beq_eq_false_iff_ne.2 hxg
            have hb2 : (x != g) = true := by simp [bne, hb1]
            rcases h2 with h2 | rfl
            all_goals
              go_wp2_with (first | (refine sl_load hS rfl 23 _ rfl rfl (by repeat (first | exact Has.hd | apply Has.tl)) Try.underlying23 rfl (by exact infoV) ?_) | (refine sl_store hS rfl 23 _ _ rfl rfl rfl (by repeat (first | exact Rep.hd | apply Rep.tl)) (by exact infoV) (by rfl) (bs_one _) ?_; clear hS; intro wk hS) | (refine sl_box hS rfl _ 23 (box_vec rfl rfl) ?_; clear hS; intro bk wk hS) | (refine sl_box hS rfl _ 23 (alloc_vec rfl) ?_; clear hS; intro bk wk hS) | (refine onlyN_end ?_) | (refine onlyN_now ?_) | ((go_at_call 16); (with_reducible refine sl_call hS (XE1.out _) ?_); clear hS; intro wk hS) | ((go_at_call 16); (with_reducible refine sl_call hS (XE2.out _) ?_); clear hS; intro wk hS) | ((go_at_call 16); (with_reducible refine sl_call hS (XE3.out _) ?_); clear hS; intro wk hS) | ((go_at_call 17); (with_reducible refine sl_call hS (XE4.out _) ?_); clear hS; intro wk hS) | ((go_at_call 19); (with_reducible refine sl_call hS (XC1.out _) ?_); clear hS; intro wk hS) | ((go_at_call 19); (with_reducible refine sl_call hS (XC2.out _) ?_); clear hS; intro wk hS) | ((go_at_call 19); (with_reducible refine sl_call hS (XC3.out _) ?_); clear hS; intro wk hS) | ((go_at_call 19); (with_reducible refine sl_call hS (XC4.out _) ?_); clear hS; intro wk hS) | ((go_at_call 19); (with_reducible refine sl_call hS (XC7.out _) ?_); clear hS; intro wk hS) | ((go_at_call 19); (with_reducible refine sl_call hS (XC8.out _) ?_); clear hS; intro wk hS) | ((go_at_call 19); (with_reducible refine sl_call hS (XC9.out _) ?_); clear hS; intro wk hS) | ((go_at_call 19); (with_reducible refine sl_call hS (XC12.out _) ?_); clear hS; intro wk hS) | ((go_at_call 19); (with_reducible refine sl_call hS (XC13.out _) ?_); clear hS; intro wk hS) | ((go_at_call 19); (with_reducible refine sl_call hS (XC14.out _) ?_); clear hS; intro wk hS) | ((go_at_call 19); (with_reducible refine sl_call hS (XC15.out _) ?_); clear hS; intro wk hS) | ((go_at_call 19); (with_reducible refine sl_call hS (XC16.out _) ?_); clear hS; intro wk hS) | ((go_at_call 19); (with_reducible refine sl_call hS (XC17.out _) ?_); clear hS; intro wk hS) | ((go_at_call 19); (with_reducible refine sl_call hS (XC18.out _) ?_); clear hS; intro wk hS) | ((go_at_call 20); (with_reducible refine sl_call hS (XC5.out _) ?_); clear hS; intro wk hS) | ((go_at_call 20); (with_reducible refine sl_call hS (XC6.out _) ?_); clear hS; intro wk hS) | ((go_at_call 20); (with_reducible refine sl_call hS (XC10.out _) ?_); clear hS; intro wk hS) | ((go_at_call 20); (with_reducible refine sl_call hS (XC11.out _) ?_); clear hS; intro wk hS) | ((go_at_call 20); (with_reducible refine sl_call hS (XC19.out _) ?_); clear hS; intro wk hS))
              all_goals exact ⟨⟨k + 1, by omega, by go_num, hS⟩, by simp [intOf]; omega⟩
        · obtain rfl : k = 8 := by omega
          go_wp2_with (first | (refine sl_load hS rfl 23 _ rfl rfl (by repeat (first | exact Has.hd | apply Has.tl)) Try.underlying23 rfl (by exact infoV) ?_) | (refine sl_store hS rfl 23 _ _ rfl rfl rfl (by repeat (first | exact Rep.hd | apply Rep.tl)) (by exact infoV) (by rfl) (bs_one _) ?_; clear hS; intro wk hS) | (refine sl_box hS rfl _ 23 (box_vec rfl rfl) ?_; clear hS; intro bk wk hS) | (refine sl_box hS rfl _ 23 (alloc_vec rfl) ?_; clear hS; intro bk wk hS) | (refine onlyN_end ?_) | (refine onlyN_now ?_))
          exact ⟨⟨32, by omega, rfl, hS.tail.tail⟩, by simp [intOf]⟩
    · as_aux_lemma =>
      have F := ringF (v := 32) (by omega) HA.out HB.out
      have C1 := fun w => two_B 32 14 a b (by omega) (by omega) HA.out HB.out w
      have C2 := fun w => two_B 32 14 b a (by omega) (by omega) HB.out HA.out w
      rw [F.r1] at C2
      have C3 := fun w => two_B 32 17 (B 32 14 a b) b (by omega) (by omega) (B_byt _ _ _ _) HB.out w
      rw [F.r2] at C3
      have C4 := fun w => two_B 32 17 (fun _ => 0) a (by omega) (by omega) byt0 HA.out w
      rw [F.r3] at C4
      have C5 := fun w => one_U 32 1 a (by omega) (by omega) HA.out w
      have C6 := fun w => one_U 32 1 b (by omega) (by omega) HB.out w
      have C7 := fun w => two_B 32 14 a (U 32 1 b) (by omega) (by omega) HA.out (U_byt _ _ HB.out) w
      rw [F.r4] at C7
      have C8 := fun w => two_B 32 17 a b (by omega) (by omega) HA.out HB.out w
      have C9 := fun w => two_B 32 14 a (fun _ => 0) (by omega) (by omega) HA.out byt0 w
      rw [F.r5] at C9
      have C10 := fun w => one_U 32 0 (U 32 1 a) (by omega) (by omega) (U_byt _ _ HA.out) w
      rw [F.r6] at C10
      have C11 := fun w => one_U 32 0 a (by omega) (by omega) HA.out w
      have G := ringP (v := 32) (by omega) (by omega) (a := a) (b := b) (c := c)
      have C12 := fun w => two_B 32 21 a b (by omega) (by omega) HA.out HB.out w
      have C13 := fun w => two_B 32 21 b a (by omega) (by omega) HB.out HA.out w
      rw [G.r7] at C13
      have C14 := fun w => two_B 32 14 b c (by omega) (by omega) HB.out HC.out w
      have C15 := fun w => two_B 32 21 a (B 32 14 b c) (by omega) (by omega) HA.out (B_byt _ _ _ _) w
      rw [G.r8] at C15
      have C16 := fun w => two_B 32 21 a c (by omega) (by omega) HA.out HC.out w
      have C17 := fun w => two_B 32 14 (B 32 21 a b) (B 32 21 a c) (by omega) (by omega) (B_byt _ _ _ _) (B_byt _ _ _ _) w
      have C18 := fun w => two_B 32 21 (U 32 1 a) b (by omega) (by omega) (U_byt _ _ HA.out) HB.out w
      rw [G.r9] at C18
      have C19 := fun w => one_U 32 1 (B 32 21 a b) (by omega) (by omega) (B_byt _ _ _ _) w
      clear F G
      have HN := Lib.hid (U_byt 32 1 HA.out)
      have H0 := Lib.hid (U_byt 32 0 HA.out)
      have HL := Lib.hid (fun (k : Nat) (hj : thereB 32 k = true) => abs_lane (v := 32) (by omega) HA.out hj)
      generalize (B 32 14 (B 32 21 a b) (B 32 21 a c)) = zt at *
      generalize (U 32 1 (B 32 21 a b)) = y at *
      generalize (B 32 21 a b) = pr at *
      generalize (B 32 14 b c) = qs at *
      generalize (B 32 21 a c) = rp at *
      generalize (B 32 14 a b) = sm at *
      generalize (U 32 1 a) = n1 at *
      generalize (U 32 1 b) = n2 at *
      generalize (B 32 17 a b) = df at *
      generalize (U 32 0 a) = ab at *
      have XC1 := Lib.hid C1
      clear C1
      have XC2 := Lib.hid C2
      clear C2
      have XC3 := Lib.hid C3
      clear C3
      have XC4 := Lib.hid C4
      clear C4
      have XC5 := Lib.hid C5
      clear C5
      have XC6 := Lib.hid C6
      clear C6
      have XC7 := Lib.hid C7
      clear C7
      have XC8 := Lib.hid C8
      clear C8
      have XC9 := Lib.hid C9
      clear C9
      have XC10 := Lib.hid C10
      clear C10
      have XC11 := Lib.hid C11
      clear C11
      have XC12 := Lib.hid C12
      clear C12
      have XC13 := Lib.hid C13
      clear C13
      have XC14 := Lib.hid C14
      clear C14
      have XC15 := Lib.hid C15
      clear C15
      have XC16 := Lib.hid C16
      clear C16
      have XC17 := Lib.hid C17
      clear C17
      have XC18 := Lib.hid C18
      clear C18
      have XC19 := Lib.hid C19
      clear C19
      go_upto_region 8 with (first | (refine sl_load hS rfl 23 _ rfl rfl (by repeat (first | exact Has.hd | apply Has.tl)) Try.underlying23 rfl (by exact infoV) ?_) | (refine sl_store hS rfl 23 _ _ rfl rfl rfl (by repeat (first | exact Rep.hd | apply Rep.tl)) (by exact infoV) (by rfl) (bs_one _) ?_; clear hS; intro wk hS) | (refine sl_box hS rfl _ 23 (box_vec rfl rfl) ?_; clear hS; intro bk wk hS) | (refine sl_box hS rfl _ 23 (alloc_vec rfl) ?_; clear hS; intro ps wk hS) | (refine onlyN_end ?_) | (refine onlyN_now ?_) | ((go_at_call 19); (with_reducible refine sl_call hS (XC1.out _) ?_); clear hS; intro wk hS) | ((go_at_call 19); (with_reducible refine sl_call hS (XC2.out _) ?_); clear hS; intro wk hS) | ((go_at_call 19); (with_reducible refine sl_call hS (XC3.out _) ?_); clear hS; intro wk hS) | ((go_at_call 19); (with_reducible refine sl_call hS (XC4.out _) ?_); clear hS; intro wk hS) | ((go_at_call 19); (with_reducible refine sl_call hS (XC7.out _) ?_); clear hS; intro wk hS) | ((go_at_call 19); (with_reducible refine sl_call hS (XC8.out _) ?_); clear hS; intro wk hS) | ((go_at_call 19); (with_reducible refine sl_call hS (XC9.out _) ?_); clear hS; intro wk hS) | ((go_at_call 19); (with_reducible refine sl_call hS (XC12.out _) ?_); clear hS; intro wk hS) | ((go_at_call 19); (with_reducible refine sl_call hS (XC13.out _) ?_); clear hS; intro wk hS) | ((go_at_call 19); (with_reducible refine sl_call hS (XC14.out _) ?_); clear hS; intro wk hS) | ((go_at_call 19); (with_reducible refine sl_call hS (XC15.out _) ?_); clear hS; intro wk hS) | ((go_at_call 19); (with_reducible refine sl_call hS (XC16.out _) ?_); clear hS; intro wk hS) | ((go_at_call 19); (with_reducible refine sl_call hS (XC17.out _) ?_); clear hS; intro wk hS) | ((go_at_call 19); (with_reducible refine sl_call hS (XC18.out _) ?_); clear hS; intro wk hS) | ((go_at_call 20); (with_reducible refine sl_call hS (XC5.out _) ?_); clear hS; intro wk hS) | ((go_at_call 20); (with_reducible refine sl_call hS (XC6.out _) ?_); clear hS; intro wk hS) | ((go_at_call 20); (with_reducible refine sl_call hS (XC10.out _) ?_); clear hS; intro wk hS) | ((go_at_call 20); (with_reducible refine sl_call hS (XC11.out _) ?_); clear hS; intro wk hS) | ((go_at_call 20); (with_reducible refine sl_call hS (XC19.out _) ?_); clear hS; intro wk hS))
      have hq0 := fun w => eq_same sm w
      have hq1 := fun w => eq_same a w
      have hq2 := fun w => eq_same n1 w
      have hq3 := fun w => eq_same df w
      have hq4 := fun w => eq_same ab w
      refine sd_all hS (by kernel_rfl) (by kernel_rfl) ?_
      iterate 56 (refine sd_step (fun K hK => ?_); (first | (refine sd_load rfl 23 _ rfl rfl (by repeat (first | exact Has.hd | apply Has.tl)) Try.underlying23 rfl (by exact infoV) ?_) | (apply sd_yes rfl; focus (intro wx hx; go_simp; first | (apply sd_enter; first | fail | with_reducible exact XC1.out wx | with_reducible exact XC2.out wx | with_reducible exact XC3.out wx | with_reducible exact XC4.out wx | with_reducible exact XC7.out wx | with_reducible exact XC8.out wx | with_reducible exact XC9.out wx | with_reducible exact XC5.out wx | with_reducible exact XC6.out wx | with_reducible exact XC10.out wx | with_reducible exact XC11.out wx) | exact ⟨rfl, Gr.refl _⟩)) | (refine sd_no rfl ?_)); go_simp; refine hK _ ?_; clear hK K)
      refine sd_nil ?_
      clear hS hq0 hq1 hq2 hq3 hq4
      intro wk hS
      go_upto_region 10 with (first | (refine sl_load hS rfl 23 _ rfl rfl (by repeat (first | exact Has.hd | apply Has.tl)) Try.underlying23 rfl (by exact infoV) ?_) | (refine sl_store hS rfl 23 _ _ rfl rfl rfl (by repeat (first | exact Rep.hd | apply Rep.tl)) (by exact infoV) (by rfl) (bs_one _) ?_; clear hS; intro wk hS) | (refine sl_box hS rfl _ 23 (box_vec rfl rfl) ?_; clear hS; intro bk wk hS) | (refine sl_box hS rfl _ 23 (alloc_vec rfl) ?_; clear hS; intro bk wk hS) | (refine onlyN_end ?_) | (refine onlyN_now ?_))
      have hq0 := fun w => eq_same pr w
      have hq1 := fun w => eq_same zt w
      have hq2 := fun w => eq_same y w
      refine sd_all hS (by kernel_rfl) (by kernel_rfl) ?_
      iterate 48 (refine sd_step (fun K hK => ?_); (first | (refine sd_load rfl 23 _ rfl rfl (by repeat (first | exact Has.hd | apply Has.tl)) Try.underlying23 rfl (by exact infoV) ?_) | (apply sd_yes rfl; focus (intro wx hx; go_simp; first | (apply sd_enter; first | fail | with_reducible exact XC1.out wx | with_reducible exact XC2.out wx | with_reducible exact XC3.out wx | with_reducible exact XC4.out wx | with_reducible exact XC7.out wx | with_reducible exact XC8.out wx | with_reducible exact XC9.out wx | with_reducible exact XC12.out wx | with_reducible exact XC13.out wx | with_reducible exact XC14.out wx | with_reducible exact XC15.out wx | with_reducible exact XC16.out wx | with_reducible exact XC17.out wx | with_reducible exact XC18.out wx | with_reducible exact XC5.out wx | with_reducible exact XC6.out wx | with_reducible exact XC10.out wx | with_reducible exact XC11.out wx | with_reducible exact XC19.out wx) | exact ⟨rfl, Gr.refl _⟩)) | (refine sd_no rfl ?_)); go_simp; refine hK _ ?_; clear hK K)
      refine sd_nil ?_
      clear hS hq0 hq1 hq2
      intro wk hS
      go_upto_region 13 with (first | (refine sl_load hS rfl 23 _ rfl rfl (by repeat (first | exact Has.hd | apply Has.tl)) Try.underlying23 rfl (by exact infoV) ?_) | (refine sl_store hS rfl 23 _ _ rfl rfl rfl (by repeat (first | exact Rep.hd | apply Rep.tl)) (by exact infoV) (by rfl) (bs_one _) ?_; clear hS; intro wk hS) | (refine sl_box hS rfl _ 23 (box_vec rfl rfl) ?_; clear hS; intro bk wk hS) | (refine sl_box hS rfl _ 23 (alloc_vec rfl) ?_; clear hS; intro pa wk hS) | (refine onlyN_end ?_) | (refine onlyN_now ?_) | ((go_at_call 19); (with_reducible refine sl_call hS (XC1.out _) ?_); clear hS; intro wk hS) | ((go_at_call 19); (with_reducible refine sl_call hS (XC2.out _) ?_); clear hS; intro wk hS) | ((go_at_call 19); (with_reducible refine sl_call hS (XC3.out _) ?_); clear hS; intro wk hS) | ((go_at_call 19); (with_reducible refine sl_call hS (XC4.out _) ?_); clear hS; intro wk hS) | ((go_at_call 19); (with_reducible refine sl_call hS (XC7.out _) ?_); clear hS; intro wk hS) | ((go_at_call 19); (with_reducible refine sl_call hS (XC8.out _) ?_); clear hS; intro wk hS) | ((go_at_call 19); (with_reducible refine sl_call hS (XC9.out _) ?_); clear hS; intro wk hS) | ((go_at_call 19); (with_reducible refine sl_call hS (XC12.out _) ?_); clear hS; intro wk hS) | ((go_at_call 19); (with_reducible refine sl_call hS (XC13.out _) ?_); clear hS; intro wk hS) | ((go_at_call 19); (with_reducible refine sl_call hS (XC14.out _) ?_); clear hS; intro wk hS) | ((go_at_call 19); (with_reducible refine sl_call hS (XC15.out _) ?_); clear hS; intro wk hS) | ((go_at_call 19); (with_reducible refine sl_call hS (XC16.out _) ?_); clear hS; intro wk hS) | ((go_at_call 19); (with_reducible refine sl_call hS (XC17.out _) ?_); clear hS; intro wk hS) | ((go_at_call 19); (with_reducible refine sl_call hS (XC18.out _) ?_); clear hS; intro wk hS) | ((go_at_call 20); (with_reducible refine sl_call hS (XC5.out _) ?_); clear hS; intro wk hS) | ((go_at_call 20); (with_reducible refine sl_call hS (XC6.out _) ?_); clear hS; intro wk hS) | ((go_at_call 20); (with_reducible refine sl_call hS (XC10.out _) ?_); clear hS; intro wk hS) | ((go_at_call 20); (with_reducible refine sl_call hS (XC11.out _) ?_); clear hS; intro wk hS) | ((go_at_call 20); (with_reducible refine sl_call hS (XC19.out _) ?_); clear hS; intro wk hS))
      go_wp2_with (first | (refine sl_load hS rfl 23 _ rfl rfl (by repeat (first | exact Has.hd | apply Has.tl)) Try.underlying23 rfl (by exact infoV) ?_) | (refine sl_store hS rfl 23 _ _ rfl rfl rfl (by repeat (first | exact Rep.hd | apply Rep.tl)) (by exact infoV) (by rfl) (bs_one _) ?_; clear hS; intro wk hS) | (refine sl_box hS rfl _ 23 (box_vec rfl rfl) ?_; clear hS; intro bk wk hS) | (refine sl_box hS rfl _ 23 (alloc_vec rfl) ?_; clear hS; intro bk wk hS) | (refine onlyN_end ?_) | (refine onlyN_now ?_))
      go_loopw [11] (fun u wr => ∃ k : Nat, k ≤ 4 ∧ u = .int .i64 k ∧ St w (⟨pa, bs ab, 23⟩ :: ⟨ps, bs sm, 23⟩ :: [⟨z, bs (fun _ => 0), 23⟩, ⟨r, bs c, 23⟩, ⟨q, bs b, 23⟩, ⟨p, bs a, 23⟩]) wr) (fun u _ => 4 - (intOf u).toNat)
      case atStart => exact ⟨0, by omega, rfl, hS⟩
      case round =>
        obtain ⟨k, hk, rfl, hS⟩ := hrel
        by_cases hlt : k < 4
        · have hj : thereB 32 k = true := there_iff.2 ⟨by omega, by show (k : Int) < 4; omega⟩
          obtain ⟨h1, h2⟩ := HL.out k hj
          have E1 := fun w => get_any a HA.out 32 k w
          have E2 := fun w => get_any ab H0.out 32 k w
          have E3 := fun w => get_any n1 HN.out 32 k w
          have E4 := fun w => signed_any ab H0.out 32 k w
          generalize getI a 32 k = g at *
          generalize getI ab 32 k = x at *
          generalize getI n1 32 k = n at *
          generalize sgnI ab 32 k = t at *
          rw [show (2 : Int) ^ ((32 : Int).toNat - 1) = 2147483648 from rfl] at h2
          have XE1 := Lib.hid E1
          clear E1
          have XE2 := Lib.hid E2
          clear E2
          have XE3 := Lib.hid E3
          clear E3
          have XE4 := Lib.hid E4
          clear E4
          by_cases hxg : x = g
          · subst hxg
            rcases h2 with h2 | rfl
            all_goals
              go_wp2_with (first | (refine sl_load hS rfl 23 _ rfl rfl (by repeat (first | exact Has.hd | apply Has.tl)) Try.underlying23 rfl (by exact infoV) ?_) | (refine sl_store hS rfl 23 _ _ rfl rfl rfl (by repeat (first | exact Rep.hd | apply Rep.tl)) (by exact infoV) (by rfl) (bs_one _) ?_; clear hS; intro wk hS) | (refine sl_box hS rfl _ 23 (box_vec rfl rfl) ?_; clear hS; intro bk wk hS) | (refine sl_box hS rfl _ 23 (alloc_vec rfl) ?_; clear hS; intro bk wk hS) | (refine onlyN_end ?_) | (refine onlyN_now ?_) | ((go_at_call 16); (with_reducible refine sl_call hS (XE1.out _) ?_); clear hS; intro wk hS) | ((go_at_call 16); (with_reducible refine sl_call hS (XE2.out _) ?_); clear hS; intro wk hS) | ((go_at_call 16); (with_reducible refine sl_call hS (XE3.out _) ?_); clear hS; intro wk hS) | ((go_at_call 17); (with_reducible refine sl_call hS (XE4.out _) ?_); clear hS; intro wk hS) | ((go_at_call 19); (with_reducible refine sl_call hS (XC1.out _) ?_); clear hS; intro wk hS) | ((go_at_call 19); (with_reducible refine sl_call hS (XC2.out _) ?_); clear hS; intro wk hS) | ((go_at_call 19); (with_reducible refine sl_call hS (XC3.out _) ?_); clear hS; intro wk hS) | ((go_at_call 19); (with_reducible refine sl_call hS (XC4.out _) ?_); clear hS; intro wk hS) | ((go_at_call 19); (with_reducible refine sl_call hS (XC7.out _) ?_); clear hS; intro wk hS) | ((go_at_call 19); (with_reducible refine sl_call hS (XC8.out _) ?_); clear hS; intro wk hS) | ((go_at_call 19); (with_reducible refine sl_call hS (XC9.out _) ?_); clear hS; intro wk hS) | ((go_at_call 19); (with_reducible refine sl_call hS (XC12.out _) ?_); clear hS; intro wk hS) | ((go_at_call 19); (with_reducible refine sl_call hS (XC13.out _) ?_); clear hS; intro wk hS) | ((go_at_call 19); (with_reducible refine sl_call hS (XC14.out _) ?_); clear hS; intro wk hS) | ((go_at_call 19); (with_reducible refine sl_call hS (XC15.out _) ?_); clear hS; intro wk hS) | ((go_at_call 19); (with_reducible refine sl_call hS (XC16.out _) ?_); clear hS; intro wk hS) | ((go_at_call 19); (with_reducible refine sl_call hS (XC17.out _) ?_); clear hS; intro wk hS) | ((go_at_call 19); (with_reducible refine sl_call hS (XC18.out _) ?_); clear hS; intro wk hS) | ((go_at_call 20); (with_reducible refine sl_call hS (XC5.out _) ?_); clear hS; intro wk hS) | ((go_at_call 20); (with_reducible refine sl_call hS (XC6.out _) ?_); clear hS; intro wk hS) | ((go_at_call 20); (with_reducible refine sl_call hS (XC10.out _) ?_); clear hS; intro wk hS) | ((go_at_call 20); (with_reducible refine sl_call hS (XC11.out _) ?_); clear hS; intro wk hS) | ((go_at_call 20); (with_reducible refine sl_call hS (XC19.out _) ?_); clear hS; intro wk hS))
              all_goals exact ⟨⟨k + 1, by omega, by go_num, hS⟩, by simp [intOf]; omega⟩
          · have h3 : x = n := by omega
            subst h3
            have hb1 : (x == g) = false := beq_eq_false_iff_ne.2 hxg
            have hb2 : (x != g) = true := by simp [bne, hb1]
            rcases h2 with h2 | rfl
            all_goals
              go_wp2_with (first | (refine sl_load hS rfl 23 _ rfl rfl (by repeat (first | exact Has.hd | apply Has.tl)) Try.underlying23 rfl (by exact infoV) ?_) | (refine sl_store hS rfl 23 _ _ rfl rfl rfl (by repeat (first | exact Rep.hd | apply Rep.tl)) (by exact infoV) (by rfl) (bs_one _) ?_; clear hS; intro wk hS) | (refine sl_box hS rfl _ 23 (box_vec rfl rfl) ?_; clear hS; intro bk wk hS) | (refine sl_box hS rfl _ 23 (alloc_vec rfl) ?_; clear hS; intro bk wk hS) | (refine onlyN_end ?_) | (refine onlyN_now ?_) | ((go_at_call 16); (with_reducible refine sl_call hS (XE1.out _) ?_); clear hS; intro wk hS) | ((go_at_call 16); (with_reducible refine sl_call hS (XE2.out _) ?_); clear hS; intro wk hS) | ((go_at_call 16); (with_reducible refine sl_call hS (XE3.out _) ?_); clear hS; intro wk hS) | ((go_at_call 17); (with_reducible refine sl_call hS (XE4.out _) ?_); clear hS; intro wk hS) | ((go_at_call 19); (with_reducible refine sl_call hS (XC1.out _) ?_); clear hS; intro wk hS) | ((go_at_call 19); (with_reducible refine sl_call hS (XC2.out _) ?_); clear hS; intro wk hS) | ((go_at_call 19); (with_reducible refine sl_call hS (XC3.out _) ?_); clear hS; intro wk hS) | ((go_at_call 19); (with_reducible refine sl_call hS (XC4.out _) ?_); clear hS; intro wk hS) | ((go_at_call 19); (with_reducible refine sl_call hS (XC7.out _) ?_); clear hS; intro wk hS) | ((go_at_call 19); (with_reducible refine sl_call hS (XC8.out _) ?_); clear hS; intro wk hS) | ((go_at_call 19); (with_reducible refine sl_call hS (XC9.out _) ?_); clear hS; intro wk hS) | ((go_at_call 19); (with_reducible refine sl_call hS (XC12.out _) ?_); clear hS; intro wk hS) | ((go_at_call 19); (with_reducible refine sl_call hS (XC13.out _) ?_); clear hS; intro wk hS) | ((go_at_call 19); (with_reducible refine sl_call hS (XC14.out _) ?_); clear hS; intro wk hS) | ((go_at_call 19); (with_reducible refine sl_call hS (XC15.out _) ?_); clear hS; intro wk hS) | ((go_at_call 19); (with_reducible refine sl_call hS (XC16.out _) ?_); clear hS; intro wk hS) | ((go_at_call 19); (with_reducible refine sl_call hS (XC17.out _) ?_); clear hS; intro wk hS) | ((go_at_call 19); (with_reducible refine sl_call hS (XC18.out _) ?_); clear hS; intro wk hS) | ((go_at_call 20); (with_reducible refine sl_call hS (XC5.out _) ?_); clear hS; intro wk hS) | ((go_at_call 20); (with_reducible refine sl_call hS (XC6.out _) ?_); clear hS; intro wk hS) | ((go_at_call 20); (with_reducible refine sl_call hS (XC10.out _) ?_); clear hS; intro wk hS) | ((go_at_call 20); (with_reducible refine sl_call hS (XC11.out _) ?_); clear hS; intro wk hS) | ((go_at_call 20); (with_reducible refine sl_call hS (XC19.out _) ?_); clear hS; intro wk hS))
              all_goals exact ⟨⟨k + 1, by omega, by go_num, hS⟩, by simp [intOf]; omega⟩
        · obtain rfl : k = 4 := by omega
          go_wp2_with (first | (refine sl_load hS rfl 23 _ rfl rfl (by repeat (first | exact Has.hd | apply Has.tl)) Try.underlying23 rfl (by exact infoV) ?_) | (refine sl_store hS rfl 23 _ _ rfl rfl rfl (by repeat (first | exact Rep.hd | apply Rep.tl)) (by exact infoV) (by rfl) (bs_one _) ?_; clear hS; intro wk hS) | (refine sl_box hS rfl _ 23 (box_vec rfl rfl) ?_; clear hS; intro bk wk hS) | (refine sl_box hS rfl _ 23 (alloc_vec rfl) ?_; clear hS; intro bk wk hS) | (refine onlyN_end ?_) | (refine onlyN_now ?_))
          exact ⟨⟨64, by omega, rfl, hS.tail.tail⟩, by simp [intOf]⟩
    · as_aux_lemma =>
      have F := ringF (v := 64) (by omega) HA.out HB.out
      have C1 := fun w => two_B 64 14 a b (by omega) (by omega) HA.out HB.out w
      have C2 := fun w => two_B 64 14 b a (by omega) (by omega) HB.out HA.out w
      rw [F.r1] at C2
      have C3 := fun w => two_B 64 17 (B 64 14 a b) b (by omega) (by omega) (B_byt _ _ _ _) HB.out w
      rw [F.r2] at C3
      have C4 := fun w => two_B 64 17 (fun _ => 0) a (by omega) (by omega) byt0 HA.out w
      rw [F.r3] at C4
      have C5 := fun w => one_U 64 1 a (by omega) (by omega) HA.out w
      have C6 := fun w => one_U 64 1 b (by omega) (by omega) HB.out w
      have C7 := fun w => two_B 64 14 a (U 64 1 b) (by omega) (by omega) HA.out (U_byt _ _ HB.out) w
      rw [F.r4] at C7
      have C8 := fun w => two_B 64 17 a b (by omega) (by omega) HA.out HB.out w
      have C9 := fun w => two_B 64 14 a (fun _ => 0) (by omega) (by omega) HA.out byt0 w
      rw [F.r5] at C9
      have C10 := fun w => one_U 64 0 (U 64 1 a) (by omega) (by omega) (U_byt _ _ HA.out) w
      rw [F.r6] at C10
      have C11 := fun w => one_U 64 0 a (by omega) (by omega) HA.out w
      have G := ringP (v := 64) (by omega) (by omega) (a := a) (b := b) (c := c)
      have C12 := fun w => two_B 64 21 a b (by omega) (by omega) HA.out HB.out w
      have C13 := fun w => two_B 64 21 b a (by omega) (by omega) HB.out HA.out w
      rw [G.r7] at C13
      have C14 := fun w => two_B 64 14 b c (by omega) (by omega) HB.out HC.out w
      have C15 := fun w => two_B 64 21 a (B 64 14 b c) (by omega) (by omega) HA.out (B_byt _ _ _ _) w
      rw [G.r8] at C15
      have C16 := fun w => two_B 64 21 a c (by omega) (by omega) HA.out HC.out w
      have C17 := fun w => two_B 64 14 (B 64 21 a b) (B 64 21 a c) (by omega) (by omega) (B_byt _ _ _ _) (B_byt _ _ _ _) w
      have C18 := fun w => two_B 64 21 (U 64 1 a) b (by omega) (by omega) (U_byt _ _ HA.out) HB.out w
      rw [G.r9] at C18
      have C19 := fun w => one_U 64 1 (B 64 21 a b) (by omega) (by omega) (B_byt _ _ _ _) w
      clear F G
      have HN := Lib.hid (U_byt 64 1 HA.out)
      have H0 := Lib.hid (U_byt 64 0 HA.out)
      have HL := Lib.hid (fun (k : Nat) (hj : thereB 64 k = true) => abs_lane (v := 64) (by omega) HA.out hj)
      generalize (B 64 14 (B 64 21 a b) (B 64 21 a c)) = zt at *
      generalize (U 64 1 (B 64 21 a b)) = y at *
      generalize (B 64 21 a b) = pr at *
      generalize (B 64 14 b c) = qs at *
      generalize (B 64 21 a c) = rp at *
      generalize (B 64 14 a b) = sm at *
      generalize (U 64 1 a) = n1 at *
      generalize (U 64 1 b) = n2 at *
      generalize (B 64 17 a b) = df at *
      generalize (U 64 0 a) = ab at *
      have XC1 := Lib.hid C1
      clear C1
      have XC2 := Lib.hid C2
      clear C2
      have XC3 := Lib.hid C3
      clear C3
      have XC4 := Lib.hid C4
      clear C4
      have XC5 := Lib.hid C5
      clear C5
      have XC6 := Lib.hid C6
      clear C6
      have XC7 := Lib.hid C7
      clear C7
      have XC8 := Lib.hid C8
      clear C8
      have XC9 := Lib.hid C9
      clear C9
      have XC10 := Lib.hid C10
      clear C10
      have XC11 := Lib.hid C11
      clear C11
      have XC12 := Lib.hid C12
      clear C12
      have XC13 := Lib.hid C13
      clear C13
      have XC14 := Lib.hid C14
      clear C14
      have XC15 := Lib.hid C15
      clear C15
      have XC16 := Lib.hid C16
      clear C16
      have XC17 := Lib.hid C17
      clear C17
      have XC18 := Lib.hid C18
      clear C18
      have XC19 := Lib.hid C19
      clear C19
      go_upto_region 8 with (first | (refine sl_load hS rfl 23 _ rfl rfl (by repeat (first | exact Has.hd | apply Has.tl)) Try.underlying23 rfl (by exact infoV) ?_) | (refine sl_store hS rfl 23 _ _ rfl rfl rfl (by repeat (first | exact Rep.hd | apply Rep.tl)) (by exact infoV) (by rfl) (bs_one _) ?_; clear hS; intro wk hS) | (refine sl_box hS rfl _ 23 (box_vec rfl rfl) ?_; clear hS; intro bk wk hS) | (refine sl_box hS rfl _ 23 (alloc_vec rfl) ?_; clear hS; intro ps wk hS) | (refine onlyN_end ?_) | (refine onlyN_now ?_) | ((go_at_call 19); (with_reducible refine sl_call hS (XC1.out _) ?_); clear hS; intro wk hS) | ((go_at_call 19); (with_reducible refine sl_call hS (XC2.out _) ?_); clear hS; intro wk hS) | ((go_at_call 19); (with_reducible refine sl_call hS (XC3.out _) ?_); clear hS; intro wk hS) | ((go_at_call 19); (with_reducible refine sl_call hS (XC4.out _) ?_); clear hS; intro wk hS) | ((go_at_call 19); (with_reducible refine sl_call hS (XC7.out _) ?_); clear hS; intro wk hS) | ((go_at_call 19); (with_reducible refine sl_call hS (XC8.out _) ?_); clear hS; intro wk hS) | ((go_at_call 19); (with_reducible refine sl_call hS (XC9.out _) ?_); clear hS; intro wk hS) | ((go_at_call 19); (with_reducible refine sl_call hS (XC12.out _) ?_); clear hS; intro wk hS) | ((go_at_call 19); (with_reducible refine sl_call hS (XC13.out _) ?_); clear hS; intro wk hS) | ((go_at_call 19); (with_reducible refine sl_call hS (XC14.out _) ?_); clear hS; intro wk hS) | ((go_at_call 19); (with_reducible refine sl_call hS (XC15.out _) ?_); clear hS; intro wk hS) | ((go_at_call 19); (with_reducible refine sl_call hS (XC16.out _) ?_); clear hS; intro wk hS) | ((go_at_call 19); (with_reducible refine sl_call hS (XC17.out _) ?_); clear hS; intro wk hS) | ((go_at_call 19); (with_reducible refine sl_call hS (XC18.out _) ?_); clear hS; intro wk hS) | ((go_at_call 20); (with_reducible refine sl_call hS (XC5.out _) ?_); clear hS; intro wk hS) | ((go_at_call 20); (with_reducible refine sl_call hS (XC6.out _) ?_); clear hS; intro wk hS) | ((go_at_call 20); (with_reducible refine sl_call hS (XC10.out _) ?_); clear hS; intro wk hS) | ((go_at_call 20); (with_reducible refine sl_call hS (XC11.out _) ?_); clear hS; intro wk hS) | ((go_at_call 20); (with_reducible refine sl_call hS (XC19.out _) ?_); clear hS; intro wk hS))
      have hq0 := fun w => eq_same sm w
      have hq1 := fun w => eq_same a w
      have hq2 := fun w => eq_same n1 w
      have hq3 := fun w => eq_same df w
      have hq4 := fun w => eq_same ab w
      refine sd_all hS (by kernel_rfl) (by kernel_rfl) ?_
      iterate 56 (refine sd_step (fun K hK => ?_); (first | (refine sd_load rfl 23 _ rfl rfl (by repeat (first | exact Has.hd | apply Has.tl)) Try.underlying23 rfl (by exact infoV) ?_) | (apply sd_yes rfl; focus (intro wx hx; go_simp; first | (apply sd_enter; first | fail | with_reducible exact XC1.out wx | with_reducible exact XC2.out wx | with_reducible exact XC3.out wx | with_reducible exact XC4.out wx | with_reducible exact XC7.out wx | with_reducible exact XC8.out wx | with_reducible exact XC9.out wx | with_reducible exact XC5.out wx | with_reducible exact XC6.out wx | with_reducible exact XC10.out wx | with_reducible exact XC11.out wx) | exact ⟨rfl, Gr.refl _⟩)) | (refine sd_no rfl ?_)); go_simp; refine hK _ ?_; clear hK K)
      refine sd_nil ?_
      clear hS hq0 hq1 hq2 hq3 hq4
      intro wk hS
      go_upto_region 10 with (first | (refine sl_load hS rfl 23 _ rfl rfl (by repeat (first | exact Has.hd | apply Has.tl)) Try.underlying23 rfl (by exact infoV) ?_) | (refine sl_store hS rfl 23 _ _ rfl rfl rfl (by repeat (first | exact Rep.hd | apply Rep.tl)) (by exact infoV) (by rfl) (bs_one _) ?_; clear hS; intro wk hS) | (refine sl_box hS rfl _ 23 (box_vec rfl rfl) ?_; clear hS; intro bk wk hS) | (refine sl_box hS rfl _ 23 (alloc_vec rfl) ?_; clear hS; intro bk wk hS) | (refine onlyN_end ?_) | (refine onlyN_now ?_))
      have hq0 := fun w => eq_same pr w
      have hq1 := fun w => eq_same zt w
      have hq2 := fun w => eq_same y w
      refine sd_all hS (by kernel_rfl) (by kernel_rfl) ?_
      iterate 48 (refine sd_step (fun K hK => ?_); (first | (refine sd_load rfl 23 _ rfl rfl (by repeat (first | exact Has.hd | apply Has.tl)) Try.underlying23 rfl (by exact infoV) ?_) | (apply sd_yes rfl; focus (intro wx hx; go_simp; first | (apply sd_enter; first | fail | with_reducible exact XC1.out wx | with_reducible exact XC2.out wx | with_reducible exact XC3.out wx | with_reducible exact XC4.out wx | with_reducible exact XC7.out wx | with_reducible exact XC8.out wx | with_reducible exact XC9.out wx | with_reducible exact XC12.out wx | with_reducible exact XC13.out wx | with_reducible exact XC14.out wx | with_reducible exact XC15.out wx | with_reducible exact XC16.out wx | with_reducible exact XC17.out wx | with_reducible exact XC18.out wx | with_reducible exact XC5.out wx | with_reducible exact XC6.out wx | with_reducible exact XC10.out wx | with_reducible exact XC11.out wx | with_reducible exact XC19.out wx) | exact ⟨rfl, Gr.refl _⟩)) | (refine sd_no rfl ?_)); go_simp; refine hK _ ?_; clear hK K)
      refine sd_nil ?_
      clear hS hq0 hq1 hq2
      intro wk hS
      go_upto_region 13 with (first | (refine sl_load hS rfl 23 _ rfl rfl (by repeat (first | exact Has.hd | apply Has.tl)) Try.underlying23 rfl (by exact infoV) ?_) | (refine sl_store hS rfl 23 _ _ rfl rfl rfl (by repeat (first | exact Rep.hd | apply Rep.tl)) (by exact infoV) (by rfl) (bs_one _) ?_; clear hS; intro wk hS) | (refine sl_box hS rfl _ 23 (box_vec rfl rfl) ?_; clear hS; intro bk wk hS) | (refine sl_box hS rfl _ 23 (alloc_vec rfl) ?_; clear hS; intro pa wk hS) | (refine onlyN_end ?_) | (refine onlyN_now ?_) | ((go_at_call 19); (with_reducible refine sl_call hS (XC1.out _) ?_); clear hS; intro wk hS) | ((go_at_call 19); (with_reducible refine sl_call hS (XC2.out _) ?_); clear hS; intro wk hS) | ((go_at_call 19); (with_reducible refine sl_call hS (XC3.out _) ?_); clear hS; intro wk hS) | ((go_at_call 19); (with_reducible refine sl_call hS (XC4.out _) ?_); clear hS; intro wk hS) | ((go_at_call 19); (with_reducible refine sl_call hS (XC7.out _) ?_); clear hS; intro wk hS) | ((go_at_call 19); (with_reducible refine sl_call hS (XC8.out _) ?_); clear hS; intro wk hS) | ((go_at_call 19); (with_reducible refine sl_call hS (XC9.out _) ?_); clear hS; intro wk hS) | ((go_at_call 19); (with_reducible refine sl_call hS (XC12.out _) ?_); clear hS; intro wk hS) | ((go_at_call 19); (with_reducible refine sl_call hS (XC13.out _) ?_); clear hS; intro wk hS) | ((go_at_call 19); (with_reducible refine sl_call hS (XC14.out _) ?_); clear hS; intro wk hS) | ((go_at_call 19); (with_reducible refine sl_call hS (XC15.out _) ?_); clear hS; intro wk hS) | ((go_at_call 19); (with_reducible refine sl_call hS (XC16.out _) ?_); clear hS; intro wk hS) | ((go_at_call 19); (with_reducible refine sl_call hS (XC17.out _) ?_); clear hS; intro wk hS) | ((go_at_call 19); (with_reducible refine sl_call hS (XC18.out _) ?_); clear hS; intro wk hS) | ((go_at_call 20); (with_reducible refine sl_call hS (XC5.out _) ?_); clear hS; intro wk hS) | ((go_at_call 20); (with_reducible refine sl_call hS (XC6.out _) ?_); clear hS; intro wk hS) | ((go_at_call 20); (with_reducible refine sl_call hS (XC10.out _) ?_); clear hS; intro wk hS) | ((go_at_call 20); (with_reducible refine sl_call hS (XC11.out _) ?_); clear hS; intro wk hS) | ((go_at_call 20); (with_reducible refine sl_call hS (XC19.out _) ?_); clear hS; intro wk hS))
      go_wp2_with (first | (refine sl_load hS rfl 23 _ rfl rfl (by repeat (first | exact Has.hd | apply Has.tl)) Try.underlying23 rfl (by exact infoV) ?_) | (refine sl_store hS rfl 23 _ _ rfl rfl rfl (by repeat (first | exact Rep.hd | apply Rep.tl)) (by exact infoV) (by rfl) (bs_one _) ?_; clear hS; intro wk hS) | (refine sl_box hS rfl _ 23 (box_vec rfl rfl) ?_; clear hS; intro bk wk hS) | (refine sl_box hS rfl _ 23 (alloc_vec rfl) ?_; clear hS; intro bk wk hS) | (refine onlyN_end ?_) | (refine onlyN_now ?_))
      go_loopw [11] (fun u wr => ∃ k : Nat, k ≤ 2 ∧ u = .int .i64 k ∧ St w (⟨pa, bs ab, 23⟩ :: ⟨ps, bs sm, 23⟩ :: [⟨z, bs (fun _ => 0), 23⟩, ⟨r, bs c, 23⟩, ⟨q, bs b, 23⟩, ⟨p, bs a, 23⟩]) wr) (fun u _ => 2 - (intOf u).toNat)
      case atStart => exact ⟨0, by omega, rfl, hS⟩
      case round =>
        obtain ⟨k, hk, rfl, hS⟩ := hrel
        by_cases hlt : k < 2
        · have hj : thereB 64 k = true := there_iff.2 ⟨by omega, by show (k : Int) < 2; omega⟩
          obtain ⟨h1, h2⟩ := HL.out k hj
          have E1 := fun w => get_any a HA.out 64 k w
          have E2 := fun w => get_any ab H0.out 64 k w
          have E3 := fun w => get_any n1 HN.out 64 k w
          have E4 := fun w => signed_any ab H0.out 64 k w
          generalize getI a 64 k = g at *
          generalize getI ab 64 k = x at *
          generalize getI n1 64 k = n at *
          generalize sgnI ab 64 k = t at *
          rw [show (2 : Int) ^ ((64 : Int).toNat - 1) = 9223372036854775808 from rfl] at h2
          have XE1 := Lib.hid E1
          clear E1
          have XE2 := Lib.hid E2
          clear E2
          have XE3 := Lib.hid E3
          clear E3
          have XE4 := Lib.hid E4
          clear E4
          by_cases hxg : x = g
          · subst hxg
            rcases h2 with h2 | rfl
            all_goals
              go_wp2_with (first | (refine sl_load hS rfl 23 _ rfl rfl (by repeat (first | exact Has.hd | apply Has.tl)) Try.underlying23 rfl (by exact infoV) ?_) | (refine sl_store hS rfl 23 _ _ rfl rfl rfl (by repeat (first | exact Rep.hd | apply Rep.tl)) (by exact infoV) (by rfl) (bs_one _) ?_; clear hS; intro wk hS) | (refine sl_box hS rfl _ 23 (box_vec rfl rfl) ?_; clear hS; intro bk wk hS) | (refine sl_box hS rfl _ 23 (alloc_vec rfl) ?_; clear hS; intro bk wk hS) | (refine onlyN_end ?_) | (refine onlyN_now ?_) | ((go_at_call 16); (with_reducible refine sl_call hS (XE1.out _) ?_); clear hS; intro wk hS) | ((go_at_call 16); (with_reducible refine sl_call hS (XE2.out _) ?_); clear hS; intro wk hS) | ((go_at_call 16); (with_reducible refine sl_call hS (XE3.out _) ?_); clear hS; intro wk hS) | ((go_at_call 17); (with_reducible refine sl_call hS (XE4.out _) ?_); clear hS; intro wk hS) | ((go_at_call 19); (with_reducible refine sl_call hS (XC1.out _) ?_); clear hS; intro wk hS) | ((go_at_call 19); (with_reducible refine sl_call hS (XC2.out _) ?_); clear hS; intro wk hS) | ((go_at_call 19); (with_reducible refine sl_call hS (XC3.out _) ?_); clear hS; intro wk hS) | ((go_at_call 19); (with_reducible refine sl_call hS (XC4.out _) ?_); clear hS; intro wk hS) | ((go_at_call 19); (with_reducible refine sl_call hS (XC7.out _) ?_); clear hS; intro wk hS) | ((go_at_call 19); (with_reducible refine sl_call hS (XC8.out _) ?_); clear hS; intro wk hS) | ((go_at_call 19); (with_reducible refine sl_call hS (XC9.out _) ?_); clear hS; intro wk hS) | ((go_at_call 19); (with_reducible refine sl_call hS (XC12.out _) ?_); clear hS; intro wk hS) | ((go_at_call 19); (with_reducible refine sl_call hS (XC13.out _) ?_); clear hS; intro wk hS) | ((go_at_call 19); (with_reducible refine sl_call hS (XC14.out _) ?_); clear hS; intro wk hS) | ((go_at_call 19); (with_reducible refine sl_call hS (XC15.out _) ?_); clear hS; intro wk hS) | ((go_at_call 19); (with_reducible refine sl_call hS (XC16.out _) ?_); clear hS; intro wk hS) | ((go_at_call 19); (with_reducible refine sl_call hS (XC17.out _) ?_); clear hS; intro wk hS) | ((go_at_call 19); (with_reducible refine sl_call hS (XC18.out _) ?_); clear hS; intro wk hS) | ((go_at_call 20); (with_reducible refine sl_call hS (XC5.out _) ?_); clear hS; intro wk hS) | ((go_at_call 20); (with_reducible refine sl_call hS (XC6.out _) ?_); clear hS; intro wk hS) | ((go_at_call 20); (with_reducible refine sl_call hS (XC10.out _) ?_); clear hS; intro wk hS) | ((go_at_call 20); (with_reducible refine sl_call hS (XC11.out _) ?_); clear hS; intro wk hS) | ((go_at_call 20); (with_reducible refine sl_call hS (XC19.out _) ?_); clear hS; intro wk hS))
              all_goals exact ⟨⟨k + 1, by omega, by go_num, hS⟩, by simp [intOf]; omega⟩
          · have h3 : x = n := by omega
            subst h3
            have hb1 : (x == g) = false := beq_eq_false_iff_ne.2 hxg
            have hb2 : (x != g) = true := by simp [bne, hb1]
            rcases h2 with h2 | rfl
            all_goals
              go_wp2_with (first | (refine sl_load hS rfl 23 _ rfl rfl (by repeat (first | exact Has.hd | apply Has.tl)) Try.underlying23 rfl (by exact infoV) ?_) | (refine sl_store hS rfl 23 _ _ rfl rfl rfl (by repeat (first | exact Rep.hd | apply Rep.tl)) (by exact infoV) (by rfl) (bs_one _) ?_; clear hS; intro wk hS) | (refine sl_box hS rfl _ 23 (box_vec rfl rfl) ?_; clear hS; intro bk wk hS) | (refine sl_box hS rfl _ 23 (alloc_vec rfl) ?_; clear hS; intro bk wk hS) | (refine onlyN_end ?_) | (refine onlyN_now ?_) | ((go_at_call 16); (with_reducible refine sl_call hS (XE1.out _) ?_); clear hS; intro wk hS) | ((go_at_call 16); (with_reducible refine sl_call hS (XE2.out _) ?_); clear hS; intro wk hS) | ((go_at_call 16); (with_reducible refine sl_call hS (XE3.out _) ?_); clear hS; intro wk hS) | ((go_at_call 17); (with_reducible refine sl_call hS (XE4.out _) ?_); clear hS; intro wk hS) | ((go_at_call 19); (with_reducible refine sl_call hS (XC1.out _) ?_); clear hS; intro wk hS) | ((go_at_call 19); (with_reducible refine sl_call hS (XC2.out _) ?_); clear hS; intro wk hS) | ((go_at_call 19); (with_reducible refine sl_call hS (XC3.out _) ?_); clear hS; intro wk hS) | ((go_at_call 19); (with_reducible refine sl_call hS (XC4.out _) ?_); clear hS; intro wk hS) | ((go_at_call 19); (with_reducible refine sl_call hS (XC7.out _) ?_); clear hS; intro wk hS) | ((go_at_call 19); (with_reducible refine sl_call hS (XC8.out _) ?_); clear hS; intro wk hS) | ((go_at_call 19); (with_reducible refine sl_call hS (XC9.out _) ?_); clear hS; intro wk hS) | ((go_at_call 19); (with_reducible refine sl_call hS (XC12.out _) ?_); clear hS; intro wk hS) | ((go_at_call 19); (with_reducible refine sl_call hS (XC13.out _) ?_); clear hS; intro wk hS) | ((go_at_call 19); (with_reducible refine sl_call hS (XC14.out _) ?_); clear hS; intro wk hS) | ((go_at_call 19); (with_reducible refine sl_call hS (XC15.out _) ?_); clear hS; intro wk hS) | ((go_at_call 19); (with_reducible refine sl_call hS (XC16.out _) ?_); clear hS; intro wk hS) | ((go_at_call 19); (with_reducible refine sl_call hS (XC17.out _) ?_); clear hS; intro wk hS) | ((go_at_call 19); (with_reducible refine sl_call hS (XC18.out _) ?_); clear hS; intro wk hS) | ((go_at_call 20); (with_reducible refine sl_call hS (XC5.out _) ?_); clear hS; intro wk hS) | ((go_at_call 20); (with_reducible refine sl_call hS (XC6.out _) ?_); clear hS; intro wk hS) | ((go_at_call 20); (with_reducible refine sl_call hS (XC10.out _) ?_); clear hS; intro wk hS) | ((go_at_call 20); (with_reducible refine sl_call hS (XC11.out _) ?_); clear hS; intro wk hS) | ((go_at_call 20); (with_reducible refine sl_call hS (XC19.out _) ?_); clear hS; intro wk hS))
              all_goals exact ⟨⟨k + 1, by omega, by go_num, hS⟩, by simp [intOf]; omega⟩
        · obtain rfl : k = 2 := by omega
          go_wp2_with (first | (refine sl_load hS rfl 23 _ rfl rfl (by repeat (first | exact Has.hd | apply Has.tl)) Try.underlying23 rfl (by exact infoV) ?_) | (refine sl_store hS rfl 23 _ _ rfl rfl rfl (by repeat (first | exact Rep.hd | apply Rep.tl)) (by exact infoV) (by rfl) (bs_one _) ?_; clear hS; intro wk hS) | (refine sl_box hS rfl _ 23 (box_vec rfl rfl) ?_; clear hS; intro bk wk hS) | (refine sl_box hS rfl _ 23 (alloc_vec rfl) ?_; clear hS; intro bk wk hS) | (refine onlyN_end ?_) | (refine onlyN_now ?_))
          exact ⟨⟨128, by omega, rfl, hS.tail.tail⟩, by simp [intOf]⟩
    · go_wp2
      go_ret
      exact ⟨rfl, hS.gr⟩
end Ar
end Go.Proofs.Ytalnkkmbjaollaa
