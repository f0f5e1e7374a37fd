/-
  ArithLeast: for both vectors the law returns true. Condition: bytes.
-/
import Derived.Test.YtalnkkmbjaollaaArLM
namespace Go.Proofs.Ytalnkkmbjaollaa
open Go.RowKit VecM
namespace Ar
set_option maxRecDepth 100000 in
set_option maxHeartbeats 32000000 in
theorem least_walk (a b : Nat → Int) (ha : Byt a) (hb : Byt b) (w : World) : Calls Try.prog 8 #[.agg (bs a), .agg (bs b)] w fun e w' => e = .returned (.bool true) ∧ Gr w w' := by
  have HA := Lib.hid ha
  have HB := Lib.hid hb
  clear ha hb
  have hS := St.start w
  go_enter Try.func8, Try.ntmps8
  go_upto_region 0 with (fail)
  refine wp_region_lit ?_
  refine sl_box hS rfl _ 23 (box_vec rfl rfl) ?_
  clear hS
  intro p wk hS
  refine sl_box hS rfl _ 23 (box_vec rfl rfl) ?_
  clear hS
  intro q wk hS
  go_wp2_with (first | (refine sl_load hS rfl 23 _ rfl rfl (by repeat (first | exact Has.hd | apply Has.tl)) Try.underlying23 rfl (by exact infoV) ?_) | (refine sl_store hS rfl 23 _ _ rfl rfl rfl (by repeat (first | exact Rep.hd | apply Rep.tl)) (by exact infoV) (by rfl) (bs_one _) ?_; clear hS; intro wk hS) | (refine sl_box hS rfl _ 23 (box_vec rfl rfl) ?_; clear hS; intro bk wk hS) | (refine sl_box hS rfl _ 23 (alloc_vec rfl) ?_; clear hS; intro bk wk hS) | (refine onlyN_end ?_) | (refine onlyN_now ?_) | ((go_at_call 11); (with_reducible refine sl_call hS (awake _) ?_); clear hS; intro wk hS))
  go_loopw [5] (fun u wr => ∃ v : Int, (v = 8 ∨ v = 16 ∨ v = 32 ∨ v = 64) ∧ u = .int .i64 v ∧ St w [⟨q, bs b, 23⟩, ⟨p, bs a, 23⟩] wr) (fun u _ => (256 - intOf u).toNat)
  case atStart => exact ⟨8, by omega, rfl, hS⟩
  case round =>
    obtain ⟨v, hv, rfl, hS⟩ := hrel
    rcases hv with rfl | rfl | rfl | rfl
    · go_wp2_with (first | (refine sl_load hS rfl 23 _ rfl rfl (by repeat (first | exact Has.hd | apply Has.tl)) Try.underlying23 rfl (by exact infoV) ?_) | (refine sl_store hS rfl 23 _ _ rfl rfl rfl (by repeat (first | exact Rep.hd | apply Rep.tl)) (by exact infoV) (by rfl) (bs_one _) ?_; clear hS; intro wk hS) | (refine sl_box hS rfl _ 23 (box_vec rfl rfl) ?_; clear hS; intro bk wk hS) | (refine sl_box hS rfl _ 23 (alloc_vec rfl) ?_; clear hS; intro bk wk hS) | (refine onlyN_end ?_) | (refine onlyN_now ?_))
      go_loopw [6] (fun u wr => ∃ d : Int, (d = 0 ∨ d = 1 ∨ d = 2) ∧ u = .int .i64 d ∧ St w [⟨q, bs b, 23⟩, ⟨p, bs a, 23⟩] wr) (fun u _ => (4 - intOf u).toNat)
      case atStart => exact ⟨0, by omega, rfl, hS⟩
      case round =>
        obtain ⟨d, hd, rfl, hS⟩ := hrel
        rcases hd with rfl | rfl | rfl
        · as_aux_lemma =>
          obtain ⟨F, K⟩ := leastS (v := 8) (by omega) (by omega) HA.out HB.out
          have q1 := F.q1
          have q2 := F.q2
          have q3 := F.q3
          have q4 := F.q4
          have HQ := Lib.hid F.q5
          clear F
          rw [show (22 : Int) + 2 = 24 from rfl] at q1 q3 q4 HQ
          have C1 := fun w => two_B 8 22 a b (by omega) (by omega) HA.out HB.out w
          have C2 := fun w => two_B 8 24 a b (by omega) (by omega) HA.out HB.out w
          have C3 := fun w => two_B 8 14 (B 8 22 a b) (B 8 24 a b) (by omega) (by omega) (B_byt _ _ _ _) (B_byt _ _ _ _) w
          rw [q1] at C3
          have C4 := fun w => two_B 8 14 a b (by omega) (by omega) HA.out HB.out w
          have C5 := fun w => two_B 8 22 b a (by omega) (by omega) HB.out HA.out w
          rw [q2] at C5
          have C6 := fun w => two_B 8 22 (B 8 22 a b) (B 8 24 a b) (by omega) (by omega) (B_byt _ _ _ _) (B_byt _ _ _ _) w
          rw [q3] at C6
          have C7 := fun w => two_B 8 24 (B 8 22 a b) (B 8 24 a b) (by omega) (by omega) (B_byt _ _ _ _) (B_byt _ _ _ _) w
          rw [q4] at C7
          clear q1 q2 q3 q4
          have HL := Lib.hid (B_byt 8 22 a b)
          have HH := Lib.hid (B_byt 8 24 a b)
          have HK := Lib.hid K
          clear K
          generalize (B 8 22 a b) = lo at *
          generalize (B 8 24 a b) = hi at *
          generalize (B 8 14 a b) = sm at *
          have XC1 := Lib.hid C1
          clear C1
          have XC2 := Lib.hid C2
          clear C2
          have XC3 := Lib.hid C3
          clear C3
          have XC4 := Lib.hid C4
          clear C4
          have XC5 := Lib.hid C5
          clear C5
          have XC6 := Lib.hid C6
          clear C6
          have XC7 := Lib.hid C7
          clear C7
          go_upto_region 10 with (first | (refine sl_load hS rfl 23 _ rfl rfl (by repeat (first | exact Has.hd | apply Has.tl)) Try.underlying23 rfl (by exact infoV) ?_) | (refine sl_store hS rfl 23 _ _ rfl rfl rfl (by repeat (first | exact Rep.hd | apply Rep.tl)) (by exact infoV) (by rfl) (bs_one _) ?_; clear hS; intro wk hS) | (refine sl_box hS rfl _ 23 (box_vec rfl rfl) ?_; clear hS; intro bk wk hS) | (refine sl_box hS rfl _ 23 (alloc_vec rfl) ?_; clear hS; intro pl wk hS) | (refine onlyN_end ?_) | (refine onlyN_now ?_) | ((go_at_call 19); (with_reducible refine sl_call hS (XC1.out _) ?_); clear hS; intro wk hS) | ((go_at_call 19); (with_reducible refine sl_call hS (XC2.out _) ?_); clear hS; intro wk hS) | ((go_at_call 19); (with_reducible refine sl_call hS (XC3.out _) ?_); clear hS; intro wk hS) | ((go_at_call 19); (with_reducible refine sl_call hS (XC4.out _) ?_); clear hS; intro wk hS) | ((go_at_call 19); (with_reducible refine sl_call hS (XC5.out _) ?_); clear hS; intro wk hS) | ((go_at_call 19); (with_reducible refine sl_call hS (XC6.out _) ?_); clear hS; intro wk hS) | ((go_at_call 19); (with_reducible refine sl_call hS (XC7.out _) ?_); clear hS; intro wk hS))
          go_upto_region 11 with (first | (refine sl_load hS rfl 23 _ rfl rfl (by repeat (first | exact Has.hd | apply Has.tl)) Try.underlying23 rfl (by exact infoV) ?_) | (refine sl_store hS rfl 23 _ _ rfl rfl rfl (by repeat (first | exact Rep.hd | apply Rep.tl)) (by exact infoV) (by rfl) (bs_one _) ?_; clear hS; intro wk hS) | (refine sl_box hS rfl _ 23 (box_vec rfl rfl) ?_; clear hS; intro bk wk hS) | (refine sl_box hS rfl _ 23 (alloc_vec rfl) ?_; clear hS; intro ph wk hS) | (refine onlyN_end ?_) | (refine onlyN_now ?_) | ((go_at_call 19); (with_reducible refine sl_call hS (XC1.out _) ?_); clear hS; intro wk hS) | ((go_at_call 19); (with_reducible refine sl_call hS (XC2.out _) ?_); clear hS; intro wk hS) | ((go_at_call 19); (with_reducible refine sl_call hS (XC3.out _) ?_); clear hS; intro wk hS) | ((go_at_call 19); (with_reducible refine sl_call hS (XC4.out _) ?_); clear hS; intro wk hS) | ((go_at_call 19); (with_reducible refine sl_call hS (XC5.out _) ?_); clear hS; intro wk hS) | ((go_at_call 19); (with_reducible refine sl_call hS (XC6.out _) ?_); clear hS; intro wk hS) | ((go_at_call 19); (with_reducible refine sl_call hS (XC7.out _) ?_); clear hS; intro wk hS))
          have hq0 := fun w => eq_same sm w
          have hq1 := fun w => eq_same lo w
          have hq2 := fun w => eq_same hi w
          have hw1 : IntKind.i64.wrap 22 = 22 := by decide +kernel
          have hw2 : IntKind.i64.wrap 24 = 24 := by decide +kernel
          refine sd_all hS (by kernel_rfl) (by kernel_rfl) ?_
          iterate 39 (refine sd_step (fun K hK => ?_); (first | (refine sd_load rfl 23 _ rfl rfl (by repeat (first | exact Has.hd | apply Has.tl)) Try.underlying23 rfl (by exact infoV) ?_) | (apply sd_yes rfl; focus (intro wx hx; go_simp; first | (apply sd_enter; first | fail | with_reducible exact XC1.out wx | with_reducible exact XC2.out wx | with_reducible exact XC3.out wx | with_reducible exact XC4.out wx | with_reducible exact XC5.out wx | with_reducible exact XC6.out wx | with_reducible exact XC7.out wx) | exact ⟨rfl, Gr.refl _⟩)) | (refine sd_no rfl ?_)); go_simp; refine hK _ ?_; clear hK K)
          refine sd_nil ?_
          clear hS hq0 hq1 hq2 hw1 hw2
          intro wk hS
          go_wp2_with (first | (refine sl_load hS rfl 23 _ rfl rfl (by repeat (first | exact Has.hd | apply Has.tl)) Try.underlying23 rfl (by exact infoV) ?_) | (refine sl_store hS rfl 23 _ _ rfl rfl rfl (by repeat (first | exact Rep.hd | apply Rep.tl)) (by exact infoV) (by rfl) (bs_one _) ?_; clear hS; intro wk hS) | (refine sl_box hS rfl _ 23 (box_vec rfl rfl) ?_; clear hS; intro bk wk hS) | (refine sl_box hS rfl _ 23 (alloc_vec rfl) ?_; clear hS; intro bk wk hS) | (refine onlyN_end ?_) | (refine onlyN_now ?_))
          go_loopw [9] (fun u wr => ∃ k : Nat, k ≤ 16 ∧ u = .int .i64 k ∧ St w (⟨ph, bs hi, 23⟩ :: ⟨pl, bs lo, 23⟩ :: [⟨q, bs b, 23⟩, ⟨p, bs a, 23⟩]) wr) (fun u _ => 16 - (intOf u).toNat)
          case atStart => exact ⟨0, by omega, rfl, hS⟩
          case round =>
            obtain ⟨k, hk, rfl, hS⟩ := hrel
            by_cases hlt : k < 16
            · have hj : thereB 8 k = true := there_iff.2 ⟨by omega, by show (k : Int) < 16; omega⟩
              have h1 := HQ.out k hj
              have h2 := HK.out k hj
              have E1 := fun w => get_any a HA.out 8 k w
              have E2 := fun w => get_any b HB.out 8 k w
              have E3 := fun w => get_any lo HL.out 8 k w
              have E4 := fun w => get_any hi HH.out 8 k w
              have E5 := fun w => signed_any lo HL.out 8 k w
              have E6 := fun w => signed_any hi HH.out 8 k w
              generalize getI a 8 k = g at *
              generalize getI b 8 k = h at *
              generalize getI lo 8 k = x at *
              generalize getI hi 8 k = y at *
              generalize sgnI lo 8 k = t at *
              generalize sgnI hi 8 k = u at *
              have XE1 := Lib.hid E1
              clear E1
              have XE2 := Lib.hid E2
              clear E2
              have XE3 := Lib.hid E3
              clear E3
              have XE4 := Lib.hid E4
              clear E4
              have XE5 := Lib.hid E5
              clear E5
              have XE6 := Lib.hid E6
              clear E6
              have h3 : decide (u < t) = false := decide_eq_false (by omega)
              have H12 : (x = g ∧ y = h) ∨ ((x == g) = false ∧ x = h ∧ y = g) := by
                by_cases e : x = g
                · exact .inl ⟨e, by omega⟩
                · exact .inr ⟨beq_eq_false_iff_ne.2 e, by omega, by omega⟩
              clear h1
              rcases H12 with ⟨rfl, rfl⟩ | ⟨h4, rfl, rfl⟩
              all_goals
                go_upto_region 20 with (first | (refine sl_load hS rfl 23 _ rfl rfl (by repeat (first | exact Has.hd | apply Has.tl)) Try.underlying23 rfl (by exact infoV) ?_) | (refine sl_store hS rfl 23 _ _ rfl rfl rfl (by repeat (first | exact Rep.hd | apply Rep.tl)) (by exact infoV) (by rfl) (bs_one _) ?_; clear hS; intro wk hS) | (refine sl_box hS rfl _ 23 (box_vec rfl rfl) ?_; clear hS; intro bk wk hS) | (refine sl_box hS rfl _ 23 (alloc_vec rfl) ?_; clear hS; intro bk wk hS) | (refine onlyN_end ?_) | (refine onlyN_now ?_) | ((go_at_call 16); (with_reducible refine sl_call hS (XE1.out _) ?_); clear hS; intro wk hS) | ((go_at_call 16); (with_reducible refine sl_call hS (XE2.out _) ?_); clear hS; intro wk hS) | ((go_at_call 16); (with_reducible refine sl_call hS (XE3.out _) ?_); clear hS; intro wk hS) | ((go_at_call 16); (with_reducible refine sl_call hS (XE4.out _) ?_); clear hS; intro wk hS))
                refine sd_all hS (by kernel_rfl) (by kernel_rfl) ?_
                iterate 43 (refine sd_step (fun K hK => ?_); (first | (refine sd_load rfl 23 _ rfl rfl (by repeat (first | exact Has.hd | apply Has.tl)) Try.underlying23 rfl (by exact infoV) ?_) | (apply sd_yes rfl; focus (intro wx hx; go_simp; first | (apply sd_enter; first | fail | with_reducible exact XE5.out wx | with_reducible exact XE6.out wx) | exact ⟨rfl, Gr.refl _⟩)) | (refine sd_no rfl ?_)); go_simp; refine hK _ ?_; clear hK K)
                refine sd_nil ?_
                clear hS
                intro wk hS
                go_wp2_with (first | (refine sl_load hS rfl 23 _ rfl rfl (by repeat (first | exact Has.hd | apply Has.tl)) Try.underlying23 rfl (by exact infoV) ?_) | (refine sl_store hS rfl 23 _ _ rfl rfl rfl (by repeat (first | exact Rep.hd | apply Rep.tl)) (by exact infoV) (by rfl) (bs_one _) ?_; clear hS; intro wk hS) | (refine sl_box hS rfl _ 23 (box_vec rfl rfl) ?_; clear hS; intro bk wk hS) | (refine sl_box hS rfl _ 23 (alloc_vec rfl) ?_; clear hS; intro bk wk hS) | (refine onlyN_end ?_) | (refine onlyN_now ?_))
                exact ⟨⟨k + 1, by omega, by go_num, hS⟩, by simp [intOf]; omega⟩
            · obtain rfl : k = 16 := by omega
              go_wp2_with (first | (refine sl_load hS rfl 23 _ rfl rfl (by repeat (first | exact Has.hd | apply Has.tl)) Try.underlying23 rfl (by exact infoV) ?_) | (refine sl_store hS rfl 23 _ _ rfl rfl rfl (by repeat (first | exact Rep.hd | apply Rep.tl)) (by exact infoV) (by rfl) (bs_one _) ?_; clear hS; intro wk hS) | (refine sl_box hS rfl _ 23 (box_vec rfl rfl) ?_; clear hS; intro bk wk hS) | (refine sl_box hS rfl _ 23 (alloc_vec rfl) ?_; clear hS; intro bk wk hS) | (refine onlyN_end ?_) | (refine onlyN_now ?_))
              exact ⟨⟨1, by omega, rfl, hS.tail.tail⟩, by simp [intOf]⟩
        · as_aux_lemma =>
          obtain ⟨F, K⟩ := leastU (v := 8) (by omega) (by omega) HA.out HB.out
          have q1 := F.q1
          have q2 := F.q2
          have q3 := F.q3
          have q4 := F.q4
          have HQ := Lib.hid F.q5
          clear F
          rw [show (23 : Int) + 2 = 25 from rfl] at q1 q3 q4 HQ
          have C1 := fun w => two_B 8 23 a b (by omega) (by omega) HA.out HB.out w
          have C2 := fun w => two_B 8 25 a b (by omega) (by omega) HA.out HB.out w
          have C3 := fun w => two_B 8 14 (B 8 23 a b) (B 8 25 a b) (by omega) (by omega) (B_byt _ _ _ _) (B_byt _ _ _ _) w
          rw [q1] at C3
          have C4 := fun w => two_B 8 14 a b (by omega) (by omega) HA.out HB.out w
          have C5 := fun w => two_B 8 23 b a (by omega) (by omega) HB.out HA.out w
          rw [q2] at C5
          have C6 := fun w => two_B 8 23 (B 8 23 a b) (B 8 25 a b) (by omega) (by omega) (B_byt _ _ _ _) (B_byt _ _ _ _) w
          rw [q3] at C6
          have C7 := fun w => two_B 8 25 (B 8 23 a b) (B 8 25 a b) (by omega) (by omega) (B_byt _ _ _ _) (B_byt _ _ _ _) w
          rw [q4] at C7
          clear q1 q2 q3 q4
          have HL := Lib.hid (B_byt 8 23 a b)
          have HH := Lib.hid (B_byt 8 25 a b)
          have HK := Lib.hid K
          clear K
          generalize (B 8 23 a b) = lo at *
          generalize (B 8 25 a b) = hi at *
          generalize (B 8 14 a b) = sm at *
          have XC1 := Lib.hid C1
          clear C1
          have XC2 := Lib.hid C2
          clear C2
          have XC3 := Lib.hid C3
          clear C3
          have XC4 := Lib.hid C4
          clear C4
          have XC5 := Lib.hid C5
          clear C5
          have XC6 := Lib.hid C6
          clear C6
          have XC7 := Lib.hid C7
          clear C7
          go_upto_region 10 with (first | (refine sl_load hS rfl 23 _ rfl rfl (by repeat (first | exact Has.hd | apply Has.tl)) Try.underlying23 rfl (by exact infoV) ?_) | (refine sl_store hS rfl 23 _ _ rfl rfl rfl (by repeat (first | exact Rep.hd | apply Rep.tl)) (by exact infoV) (by rfl) (bs_one _) ?_; clear hS; intro wk hS) | (refine sl_box hS rfl _ 23 (box_vec rfl rfl) ?_; clear hS; intro bk wk hS) | (refine sl_box hS rfl _ 23 (alloc_vec rfl) ?_; clear hS; intro pl wk hS) | (refine onlyN_end ?_) | (refine onlyN_now ?_) | ((go_at_call 19); (with_reducible refine sl_call hS (XC1.out _) ?_); clear hS; intro wk hS) | ((go_at_call 19); (with_reducible refine sl_call hS (XC2.out _) ?_); clear hS; intro wk hS) | ((go_at_call 19); (with_reducible refine sl_call hS (XC3.out _) ?_); clear hS; intro wk hS) | ((go_at_call 19); (with_reducible refine sl_call hS (XC4.out _) ?_); clear hS; intro wk hS) | ((go_at_call 19); (with_reducible refine sl_call hS (XC5.out _) ?_); clear hS; intro wk hS) | ((go_at_call 19); (with_reducible refine sl_call hS (XC6.out _) ?_); clear hS; intro wk hS) | ((go_at_call 19); (with_reducible refine sl_call hS (XC7.out _) ?_); clear hS; intro wk hS))
          go_upto_region 11 with (first | (refine sl_load hS rfl 23 _ rfl rfl (by repeat (first | exact Has.hd | apply Has.tl)) Try.underlying23 rfl (by exact infoV) ?_) | (refine sl_store hS rfl 23 _ _ rfl rfl rfl (by repeat (first | exact Rep.hd | apply Rep.tl)) (by exact infoV) (by rfl) (bs_one _) ?_; clear hS; intro wk hS) | (refine sl_box hS rfl _ 23 (box_vec rfl rfl) ?_; clear hS; intro bk wk hS) | (refine sl_box hS rfl _ 23 (alloc_vec rfl) ?_; clear hS; intro ph wk hS) | (refine onlyN_end ?_) | (refine onlyN_now ?_) | ((go_at_call 19); (with_reducible refine sl_call hS (XC1.out _) ?_); clear hS; intro wk hS) | ((go_at_call 19); (with_reducible refine sl_call hS (XC2.out _) ?_); clear hS; intro wk hS) | ((go_at_call 19); (with_reducible refine sl_call hS (XC3.out _) ?_); clear hS; intro wk hS) | ((go_at_call 19); (with_reducible refine sl_call hS (XC4.out _) ?_); clear hS; intro wk hS) | ((go_at_call 19); (with_reducible refine sl_call hS (XC5.out _) ?_); clear hS; intro wk hS) | ((go_at_call 19); (with_reducible refine sl_call hS (XC6.out _) ?_); clear hS; intro wk hS) | ((go_at_call 19); (with_reducible refine sl_call hS (XC7.out _) ?_); clear hS; intro wk hS))
          have hq0 := fun w => eq_same sm w
          have hq1 := fun w => eq_same lo w
          have hq2 := fun w => eq_same hi w
          have hw1 : IntKind.i64.wrap 23 = 23 := by decide +kernel
          have hw2 : IntKind.i64.wrap 25 = 25 := by decide +kernel
          refine sd_all hS (by kernel_rfl) (by kernel_rfl) ?_
          iterate 39 (refine sd_step (fun K hK => ?_); (first | (refine sd_load rfl 23 _ rfl rfl (by repeat (first | exact Has.hd | apply Has.tl)) Try.underlying23 rfl (by exact infoV) ?_) | (apply sd_yes rfl; focus (intro wx hx; go_simp; first | (apply sd_enter; first | fail | with_reducible exact XC1.out wx | with_reducible exact XC2.out wx | with_reducible exact XC3.out wx | with_reducible exact XC4.out wx | with_reducible exact XC5.out wx | with_reducible exact XC6.out wx | with_reducible exact XC7.out wx) | exact ⟨rfl, Gr.refl _⟩)) | (refine sd_no rfl ?_)); go_simp; refine hK _ ?_; clear hK K)
          refine sd_nil ?_
          clear hS hq0 hq1 hq2 hw1 hw2
          intro wk hS
          go_wp2_with (first | (refine sl_load hS rfl 23 _ rfl rfl (by repeat (first | exact Has.hd | apply Has.tl)) Try.underlying23 rfl (by exact infoV) ?_) | (refine sl_store hS rfl 23 _ _ rfl rfl rfl (by repeat (first | exact Rep.hd | apply Rep.tl)) (by exact infoV) (by rfl) (bs_one _) ?_; clear hS; intro wk hS) | (refine sl_box hS rfl _ 23 (box_vec rfl rfl) ?_; clear hS; intro bk wk hS) | (refine sl_box hS rfl _ 23 (alloc_vec rfl) ?_; clear hS; intro bk wk hS) | (refine onlyN_end ?_) | (refine onlyN_now ?_))
          go_loopw [9] (fun u wr => ∃ k : Nat, k ≤ 16 ∧ u = .int .i64 k ∧ St w (⟨ph, bs hi, 23⟩ :: ⟨pl, bs lo, 23⟩ :: [⟨q, bs b, 23⟩, ⟨p, bs a, 23⟩]) wr) (fun u _ => 16 - (intOf u).toNat)
          case atStart => exact ⟨0, by omega, rfl, hS⟩
          case round =>
            obtain ⟨k, hk, rfl, hS⟩ := hrel
            by_cases hlt : k < 16
            · have hj : thereB 8 k = true := there_iff.2 ⟨by omega, by show (k : Int) < 16; omega⟩
              have h1 := HQ.out k hj
              have h2 := HK.out k hj
              have E1 := fun w => get_any a HA.out 8 k w
              have E2 := fun w => get_any b HB.out 8 k w
              have E3 := fun w => get_any lo HL.out 8 k w
              have E4 := fun w => get_any hi HH.out 8 k w
              have E5 := fun w => signed_any lo HL.out 8 k w
              have E6 := fun w => signed_any hi HH.out 8 k w
              generalize getI a 8 k = g at *
              generalize getI b 8 k = h at *
              generalize getI lo 8 k = x at *
              generalize getI hi 8 k = y at *
              generalize sgnI lo 8 k = t at *
              generalize sgnI hi 8 k = u at *
              have XE1 := Lib.hid E1
              clear E1
              have XE2 := Lib.hid E2
              clear E2
              have XE3 := Lib.hid E3
              clear E3
              have XE4 := Lib.hid E4
              clear E4
              have XE5 := Lib.hid E5
              clear E5
              have XE6 := Lib.hid E6
              clear E6
              have h3 : decide (y < x) = false := decide_eq_false (by omega)
              have H12 : (x = g ∧ y = h) ∨ ((x == g) = false ∧ x = h ∧ y = g) := by
                by_cases e : x = g
                · exact .inl ⟨e, by omega⟩
                · exact .inr ⟨beq_eq_false_iff_ne.2 e, by omega, by omega⟩
              clear h1
              rcases H12 with ⟨rfl, rfl⟩ | ⟨h4, rfl, rfl⟩
              all_goals
                go_upto_region 20 with (first | (refine sl_load hS rfl 23 _ rfl rfl (by repeat (first | exact Has.hd | apply Has.tl)) Try.underlying23 rfl (by exact infoV) ?_) | (refine sl_store hS rfl 23 _ _ rfl rfl rfl (by repeat (first | exact Rep.hd | apply Rep.tl)) (by exact infoV) (by rfl) (bs_one _) ?_; clear hS; intro wk hS) | (refine sl_box hS rfl _ 23 (box_vec rfl rfl) ?_; clear hS; intro bk wk hS) | (refine sl_box hS rfl _ 23 (alloc_vec rfl) ?_; clear hS; intro bk wk hS) | (refine onlyN_end ?_) | (refine onlyN_now ?_) | ((go_at_call 16); (with_reducible refine sl_call hS (XE1.out _) ?_); clear hS; intro wk hS) | ((go_at_call 16); (with_reducible refine sl_call hS (XE2.out _) ?_); clear hS; intro wk hS) | ((go_at_call 16); (with_reducible refine sl_call hS (XE3.out _) ?_); clear hS; intro wk hS) | ((go_at_call 16); (with_reducible refine sl_call hS (XE4.out _) ?_); clear hS; intro wk hS))
                refine sd_all hS (by kernel_rfl) (by kernel_rfl) ?_
                iterate 43 (refine sd_step (fun K hK => ?_); (first | (refine sd_load rfl 23 _ rfl rfl (by repeat (first | exact Has.hd | apply Has.tl)) Try.underlying23 rfl (by exact infoV) ?_) | (apply sd_yes rfl; focus (intro wx hx; go_simp; first | (apply sd_enter; first | fail | with_reducible exact XE5.out wx | with_reducible exact XE6.out wx) | exact ⟨rfl, Gr.refl _⟩)) | (refine sd_no rfl ?_)); go_simp; refine hK _ ?_; clear hK K)
                refine sd_nil ?_
                clear hS
                intro wk hS
                go_wp2_with (first | (refine sl_load hS rfl 23 _ rfl rfl (by repeat (first | exact Has.hd | apply Has.tl)) Try.underlying23 rfl (by exact infoV) ?_) | (refine sl_store hS rfl 23 _ _ rfl rfl rfl (by repeat (first | exact Rep.hd | apply Rep.tl)) (by exact infoV) (by rfl) (bs_one _) ?_; clear hS; intro wk hS) | (refine sl_box hS rfl _ 23 (box_vec rfl rfl) ?_; clear hS; intro bk wk hS) | (refine sl_box hS rfl _ 23 (alloc_vec rfl) ?_; clear hS; intro bk wk hS) | (refine onlyN_end ?_) | (refine onlyN_now ?_))
                exact ⟨⟨k + 1, by omega, by go_num, hS⟩, by simp [intOf]; omega⟩
            · obtain rfl : k = 16 := by omega
              go_wp2_with (first | (refine sl_load hS rfl 23 _ rfl rfl (by repeat (first | exact Has.hd | apply Has.tl)) Try.underlying23 rfl (by exact infoV) ?_) | (refine sl_store hS rfl 23 _ _ rfl rfl rfl (by repeat (first | exact Rep.hd | apply Rep.tl)) (by exact infoV) (by rfl) (bs_one _) ?_; clear hS; intro wk hS) | (refine sl_box hS rfl _ 23 (box_vec rfl rfl) ?_; clear hS; intro bk wk hS) | (refine sl_box hS rfl _ 23 (alloc_vec rfl) ?_; clear hS; intro bk wk hS) | (refine onlyN_end ?_) | (refine onlyN_now ?_))
              exact ⟨⟨2, by omega, rfl, hS.tail.tail⟩, by simp [intOf]⟩
        · go_wp2_with (first | (refine sl_load hS rfl 23 _ rfl rfl (by repeat (first | exact Has.hd | apply Has.tl)) Try.underlying23 rfl (by exact infoV) ?_) | (refine sl_store hS rfl 23 _ _ rfl rfl rfl (by repeat (first | exact Rep.hd | apply Rep.tl)) (by exact infoV) (by rfl) (bs_one _) ?_; clear hS; intro wk hS) | (refine sl_box hS rfl _ 23 (box_vec rfl rfl) ?_; clear hS; intro bk wk hS) | (refine sl_box hS rfl _ 23 (alloc_vec rfl) ?_; clear hS; intro bk wk hS) | (refine onlyN_end ?_) | (refine onlyN_now ?_))
          exact ⟨⟨16, by omega, rfl, hS⟩, by simp [intOf]⟩
    · go_wp2_with (first | (refine sl_load hS rfl 23 _ rfl rfl (by repeat (first | exact Has.hd | apply Has.tl)) Try.underlying23 rfl (by exact infoV) ?_) | (refine sl_store hS rfl 23 _ _ rfl rfl rfl (by repeat (first | exact Rep.hd | apply Rep.tl)) (by exact infoV) (by rfl) (bs_one _) ?_; clear hS; intro wk hS) | (refine sl_box hS rfl _ 23 (box_vec rfl rfl) ?_; clear hS; intro bk wk hS) | (refine sl_box hS rfl _ 23 (alloc_vec rfl) ?_; clear hS; intro bk wk hS) | (refine onlyN_end ?_) | (refine onlyN_now ?_))
      go_loopw [6] (fun u wr => ∃ d : Int, (d = 0 ∨ d = 1 ∨ d = 2) ∧ u = .int .i64 d ∧ St w [⟨q, bs b, 23⟩, ⟨p, bs a, 23⟩] wr) (fun u _ => (4 - intOf u).toNat)
      case atStart => exact ⟨0, by omega, rfl, hS⟩
      case round =>
        obtain ⟨d, hd, rfl, hS⟩ := hrel
        rcases hd with rfl | rfl | rfl
        · as_aux_lemma =>
          obtain ⟨F, K⟩ := leastS (v := 16) (by omega) (by omega) HA.out HB.out
          have q1 := F.q1
          have q2 := F.q2
          have q3 := F.q3
          have q4 := F.q4
          have HQ := Lib.hid F.q5
          clear F
          rw [show (22 : Int) + 2 = 24 from rfl] at q1 q3 q4 HQ
          have C1 := fun w => two_B 16 22 a b (by omega) (by omega) HA.out HB.out w
          have C2 := fun w => two_B 16 24 a b (by omega) (by omega) HA.out HB.out w
          have C3 := fun w => two_B 16 14 (B 16 22 a b) (B 16 24 a b) (by omega) (by omega) (B_byt _ _ _ _) (B_byt _ _ _ _) w
          rw [q1] at C3
          have C4 := fun w => two_B 16 14 a b (by omega) (by omega) HA.out HB.out w
          have C5 := fun w => two_B 16 22 b a (by omega) (by omega) HB.out HA.out w
          rw [q2] at C5
          have C6 := fun w => two_B 16 22 (B 16 22 a b) (B 16 24 a b) (by omega) (by omega) (B_byt _ _ _ _) (B_byt _ _ _ _) w
          rw [q3] at C6
          have C7 := fun w => two_B 16 24 (B 16 22 a b) (B 16 24 a b) (by omega) (by omega) (B_byt _ _ _ _) (B_byt _ _ _ _) w
          rw [q4] at C7
          clear q1 q2 q3 q4
          have HL := Lib.hid (B_byt 16 22 a b)
          have HH := Lib.hid (B_byt 16 24 a b)
          have HK := Lib.hid K
          clear K
          generalize (B 16 22 a b) = lo at *
          generalize (B 16 24 a b) = hi at *
          generalize (B 16 14 a b) = sm at *
          have XC1 := Lib.hid C1
          clear C1
          have XC2 := Lib.hid C2
          clear C2
          have XC3 := Lib.hid C3
          clear C3
          have XC4 := Lib.hid C4
          clear C4
          have XC5 := Lib.hid C5
          clear C5
          have XC6 := Lib.hid C6
          clear C6
          have XC7 := Lib.hid C7
          clear C7
          go_upto_region 10 with (first | (refine sl_load hS rfl 23 _ rfl rfl (by repeat (first | exact Has.hd | apply Has.tl)) Try.underlying23 rfl (by exact infoV) ?_) | (refine sl_store hS rfl 23 _ _ rfl rfl rfl (by repeat (first | exact Rep.hd | apply Rep.tl)) (by exact infoV) (by rfl) (bs_one _) ?_; clear hS; intro wk hS) | (refine sl_box hS rfl _ 23 (box_vec rfl rfl) ?_; clear hS; intro bk wk hS) | (refine sl_box hS rfl _ 23 (alloc_vec rfl) ?_; clear hS; intro pl wk hS) | (refine onlyN_end ?_) | (refine onlyN_now ?_) | ((go_at_call 19); (with_reducible refine sl_call hS (XC1.out _) ?_); clear hS; intro wk hS) | ((go_at_call 19); (with_reducible refine sl_call hS (XC2.out _) ?_); clear hS; intro wk hS) | ((go_at_call 19); (with_reducible refine sl_call hS (XC3.out _) ?_); clear hS; intro wk hS) | ((go_at_call 19); (with_reducible refine sl_call hS (XC4.out _) ?_); clear hS; intro wk hS) | ((go_at_call 19); (with_reducible refine sl_call hS (XC5.out _) ?_); clear hS; intro wk hS) | ((go_at_call 19); (with_reducible refine sl_call hS (XC6.out _) ?_); clear hS; intro wk hS) | ((go_at_call 19); (with_reducible refine sl_call hS (XC7.out _) ?_); clear hS; intro wk hS))
          go_upto_region 11 with (first | (refine sl_load hS rfl 23 _ rfl rfl (by repeat (first | exact Has.hd | apply Has.tl)) Try.underlying23 rfl (by exact infoV) ?_) | (refine sl_store hS rfl 23 _ _ rfl rfl rfl (by repeat (first | exact Rep.hd | apply Rep.tl)) (by exact infoV) (by rfl) (bs_one _) ?_; clear hS; intro wk hS) | (refine sl_box hS rfl _ 23 (box_vec rfl rfl) ?_; clear hS; intro bk wk hS) | (refine sl_box hS rfl _ 23 (alloc_vec rfl) ?_; clear hS; intro ph wk hS) | (refine onlyN_end ?_) | (refine onlyN_now ?_) | ((go_at_call 19); (with_reducible refine sl_call hS (XC1.out _) ?_); clear hS; intro wk hS) | ((go_at_call 19); (with_reducible refine sl_call hS (XC2.out _) ?_); clear hS; intro wk hS) | ((go_at_call 19); (with_reducible refine sl_call hS (XC3.out _) ?_); clear hS; intro wk hS) | ((go_at_call 19); (with_reducible refine sl_call hS (XC4.out _) ?_); clear hS; intro wk hS) | ((go_at_call 19); (with_reducible refine sl_call hS (XC5.out _) ?_); clear hS; intro wk hS) | ((go_at_call 19); (with_reducible refine sl_call hS (XC6.out _) ?_); clear hS; intro wk hS) | ((go_at_call 19); (with_reducible refine sl_call hS (XC7.out _) ?_); clear hS; intro wk hS))
          have hq0 := fun w => eq_same sm w
          have hq1 := fun w => eq_same lo w
          have hq2 := fun w => eq_same hi w
          have hw1 : IntKind.i64.wrap 22 = 22 := by decide +kernel
          have hw2 : IntKind.i64.wrap 24 = 24 := by decide +kernel
          refine sd_all hS (by kernel_rfl) (by kernel_rfl) ?_
          iterate 39 (refine sd_step (fun K hK => ?_); (first | (refine sd_load rfl 23 _ rfl rfl (by repeat (first | exact Has.hd | apply Has.tl)) Try.underlying23 rfl (by exact infoV) ?_) | (apply sd_yes rfl; focus (intro wx hx; go_simp; first | (apply sd_enter; first | fail | with_reducible exact XC1.out wx | with_reducible exact XC2.out wx | with_reducible exact XC3.out wx | with_reducible exact XC4.out wx | with_reducible exact XC5.out wx | with_reducible exact XC6.out wx | with_reducible exact XC7.out wx) | exact ⟨rfl, Gr.refl _⟩)) | (refine sd_no rfl ?_)); go_simp; refine hK _ ?_; clear hK K)
          refine sd_nil ?_
          clear hS hq0 hq1 hq2 hw1 hw2
          intro wk hS
          go_wp2_with (first | (refine sl_load hS rfl 23 _ rfl rfl (by repeat (first | exact Has.hd | apply Has.tl)) Try.underlying23 rfl (by exact infoV) ?_) | (refine sl_store hS rfl 23 _ _ rfl rfl rfl (by repeat (first | exact Rep.hd | apply Rep.tl)) (by exact infoV) (by rfl) (bs_one _) ?_; clear hS; intro wk hS) | (refine sl_box hS rfl _ 23 (box_vec rfl rfl) ?_; clear hS; intro bk wk hS) | (refine sl_box hS rfl _ 23 (alloc_vec rfl) ?_; clear hS; intro bk wk hS) | (refine onlyN_end ?_) | (refine onlyN_now ?_))
          go_loopw [9] (fun u wr => ∃ k : Nat, k ≤ 8 ∧ u = .int .i64 k ∧ St w (⟨ph, bs hi, 23⟩ :: ⟨pl, bs lo, 23⟩ :: [⟨q, bs b, 23⟩, ⟨p, bs a, 23⟩]) wr) (fun u _ => 8 - (intOf u).toNat)
          case atStart => exact ⟨0, by omega, rfl, hS⟩
          case round =>
            obtain ⟨k, hk, rfl, hS⟩ := hrel
            by_cases hlt : k < 8
            · have hj : thereB 16 k = true := there_iff.2 ⟨by omega, by show (k : Int) < 8; omega⟩
              have h1 := HQ.out k hj
              have h2 := HK.out k hj
              have E1 := fun w => get_any a HA.out 16 k w
              have E2 := fun w => get_any b HB.out 16 k w
              have E3 := fun w => get_any lo HL.out 16 k w
              have E4 := fun w => get_any hi HH.out 16 k w
              have E5 := fun w => signed_any lo HL.out 16 k w
              have E6 := fun w => signed_any hi HH.out 16 k w
              generalize getI a 16 k = g at *
              generalize getI b 16 k = h at *
              generalize getI lo 16 k = x at *
              generalize getI hi 16 k = y at *
              generalize sgnI lo 16 k = t at *
              generalize sgnI hi 16 k = u at *
              have XE1 := Lib.hid E1
              clear E1
              have XE2 := Lib.hid E2
              clear E2
              have XE3 := Lib.hid E3
              clear E3
              have XE4 := Lib.hid E4
              clear E4
              have XE5 := Lib.hid E5
              clear E5
              have XE6 := Lib.hid E6
              clear E6
              have h3 : decide (u < t) = false := decide_eq_false (by omega)
              have H12 : (x = g ∧ y = h) ∨ ((x == g) = false ∧ x = h ∧ y = g) := by
                by_cases e : x = g
                · exact .inl ⟨e, by omega⟩
                · exact .inr ⟨beq_eq_false_iff_ne.2 e, by omega, by omega⟩
              clear h1
              rcases H12 with ⟨rfl, rfl⟩ | ⟨h4, rfl, rfl⟩
              all_goals
                go_upto_region 20 with (first | (refine sl_load hS rfl 23 _ rfl rfl (by repeat (first | exact Has.hd | apply Has.tl)) Try.underlying23 rfl (by exact infoV) ?_) | (refine sl_store hS rfl 23 _ _ rfl rfl rfl (by repeat (first | exact Rep.hd | apply Rep.tl)) (by exact infoV) (by rfl) (bs_one _) ?_; clear hS; intro wk hS) | (refine sl_box hS rfl _ 23 (box_vec rfl rfl) ?_; clear hS; intro bk wk hS) | (refine sl_box hS rfl _ 23 (alloc_vec rfl) ?_; clear hS; intro bk wk hS) | (refine onlyN_end ?_) | (refine onlyN_now ?_) | ((go_at_call 16); (with_reducible refine sl_call hS (XE1.out _) ?_); clear hS; intro wk hS) | ((go_at_call 16); (with_reducible refine sl_call hS (XE2.out _) ?_); clear hS; intro wk hS) | ((go_at_call 16); (with_reducible refine sl_call hS (XE3.out _) ?_); clear hS; intro wk hS) | ((go_at_call 16); (with_reducible refine sl_call hS (XE4.out _) ?_); clear hS; intro wk hS))
                refine sd_all hS (by kernel_rfl) (by kernel_rfl) ?_
                iterate 43 (refine sd_step (fun K hK => ?_); (first | (refine sd_load rfl 23 _ rfl rfl (by repeat (first | exact Has.hd | apply Has.tl)) Try.underlying23 rfl (by exact infoV) ?_) | (apply sd_yes rfl; focus (intro wx hx; go_simp; first | (apply sd_enter; first | fail | with_reducible exact XE5.out wx | with_reducible exact XE6.out wx) | exact ⟨rfl, Gr.refl _⟩)) | (refine sd_no rfl ?_)); go_simp; refine hK _ ?_; clear hK K)
                refine sd_nil ?_
                clear hS
                intro wk hS
                go_wp2_with (first | (refine sl_load hS rfl 23 _ rfl rfl (by repeat (first | exact Has.hd | apply Has.tl)) Try.underlying23 rfl (by exact infoV) ?_) | (refine sl_store hS rfl 23 _ _ rfl rfl rfl (by repeat (first | exact Rep.hd | apply Rep.tl)) (by exact infoV) (by rfl) (bs_one _) ?_; clear hS; intro wk hS) | (refine sl_box hS rfl _ 23 (box_vec rfl rfl) ?_; clear hS; intro bk wk hS) | (refine sl_box hS rfl _ 23 (alloc_vec rfl) ?_; clear hS; intro bk wk hS) | (refine onlyN_end ?_) | (refine onlyN_now ?_))
                exact ⟨⟨k + 1, by omega, by go_num, hS⟩, by simp [intOf]; omega⟩
            · obtain rfl : k = 8 := by omega
              go_wp2_with (first | (refine sl_load hS rfl 23 _ rfl rfl (by repeat (first | exact Has.hd | apply Has.tl)) Try.underlying23 rfl (by exact infoV) ?_) | (refine sl_store hS rfl 23 _ _ rfl rfl rfl (by repeat (first | exact Rep.hd | apply Rep.tl)) (by exact infoV) (by rfl) (bs_one _) ?_; clear hS; intro wk hS) | (refine sl_box hS rfl _ 23 (box_vec rfl rfl) ?_; clear hS; intro bk wk hS) | (refine sl_box hS rfl _ 23 (alloc_vec rfl) ?_; clear hS; intro bk wk hS) | (refine onlyN_end ?_) | (refine onlyN_now ?_))
              exact ⟨⟨1, by omega, rfl, hS.tail.tail⟩, by simp [intOf]⟩
        · as_aux_lemma =>
          obtain ⟨F, K⟩ := leastU (v := 16) (by omega) (by omega) HA.out HB.out
          have q1 := F.q1
          have q2 := F.q2
          have q3 := F.q3
          have q4 := F.q4
          have HQ := Lib.hid F.q5
          clear F
          rw [show (23 : Int) + 2 = 25 from rfl] at q1 q3 q4 HQ
          have C1 := fun w => two_B 16 23 a b (by omega) (by omega) HA.out HB.out w
          have C2 := fun w => two_B 16 25 a b (by omega) (by omega) HA.out HB.out w
          have C3 := fun w => two_B 16 14 (B 16 23 a b) (B 16 25 a b) (by omega) (by omega) (B_byt _ _ _ _) (B_byt _ _ _ _) w
          rw [q1] at C3
          have C4 := fun w => two_B 16 14 a b (by omega) (by omega) HA.out HB.out w
          have C5 := fun w => two_B 16 23 b a (by omega) (by omega) HB.out HA.out w
          rw [q2] at C5
          have C6 := fun w => two_B 16 23 (B 16 23 a b) (B 16 25 a b) (by omega) (by omega) (B_byt _ _ _ _) (B_byt _ _ _ _) w
          rw [q3] at C6
          have C7 := fun w => two_B 16 25 (B 16 23 a b) (B 16 25 a b) (by omega) (by omega) (B_byt _ _ _ _) (B_byt _ _ _ _) w
          rw [q4] at C7
          clear q1 q2 q3 q4
          have HL := Lib.hid (B_byt 16 23 a b)
          have HH := Lib.hid (B_byt 16 25 a b)
          have HK := Lib.hid K
          clear K
          generalize (B 16 23 a b) = lo at *
          generalize (B 16 25 a b) = hi at *
          generalize (B 16 14 a b) = sm at *
          have XC1 := Lib.hid C1
          clear C1
          have XC2 := Lib.hid C2
          clear C2
          have XC3 := Lib.hid C3
          clear C3
          have XC4 := Lib.hid C4
          clear C4
          have XC5 := Lib.hid C5
          clear C5
          have XC6 := Lib.hid C6
          clear C6
          have XC7 := Lib.hid C7
          clear C7
          go_upto_region 10 with (first | (refine sl_load hS rfl 23 _ rfl rfl (by repeat (first | exact Has.hd | apply Has.tl)) Try.underlying23 rfl (by exact infoV) ?_) | (refine sl_store hS rfl 23 _ _ rfl rfl rfl (by repeat (first | exact Rep.hd | apply Rep.tl)) (by exact infoV) (by rfl) (bs_one _) ?_; clear hS; intro wk hS) | (refine sl_box hS rfl _ 23 (box_vec rfl rfl) ?_; clear hS; intro bk wk hS) | (refine sl_box hS rfl _ 23 (alloc_vec rfl) ?_; clear hS; intro pl wk hS) | (refine onlyN_end ?_) | (refine onlyN_now ?_) | ((go_at_call 19); (with_reducible refine sl_call hS (XC1.out _) ?_); clear hS; intro wk hS) | ((go_at_call 19); (with_reducible refine sl_call hS (XC2.out _) ?_); clear hS; intro wk hS) | ((go_at_call 19); (with_reducible refine sl_call hS (XC3.out _) ?_); clear hS; intro wk hS) | ((go_at_call 19); (with_reducible refine sl_call hS (XC4.out _) ?_); clear hS; intro wk hS) | ((go_at_call 19); (with_reducible refine sl_call hS (XC5.out _) ?_); clear hS; intro wk hS) | ((go_at_call 19); (with_reducible refine sl_call hS (XC6.out _) ?_); clear hS; intro wk hS) | ((go_at_call 19); (with_reducible refine sl_call hS (XC7.out _) ?_); clear hS; intro wk hS))
          go_upto_region 11 with (first | (refine sl_load hS rfl 23 _ rfl rfl (by repeat (first | exact Has.hd | apply Has.tl)) Try.underlying23 rfl (by exact infoV) ?_) | (refine sl_store hS rfl 23 _ _ rfl rfl rfl (by repeat (first | exact Rep.hd | apply Rep.tl)) (by exact infoV) (by rfl) (bs_one _) ?_; clear hS; intro wk hS) | (refine sl_box hS rfl _ 23 (box_vec rfl rfl) ?_; clear hS; intro bk wk hS) | (refine sl_box hS rfl _ 23 (alloc_vec rfl) ?_; clear hS; intro ph wk hS) | (refine onlyN_end ?_) | (refine onlyN_now ?_) | ((go_at_call 19); (with_reducible refine sl_call hS (XC1.out _) ?_); clear hS; intro wk hS) | ((go_at_call 19); (with_reducible refine sl_call hS (XC2.out _) ?_); clear hS; intro wk hS) | ((go_at_call 19); (with_reducible refine sl_call hS (XC3.out _) ?_); clear hS; intro wk hS) | ((go_at_call 19); (with_reducible refine sl_call hS (XC4.out _) ?_); clear hS; intro wk hS) | ((go_at_call 19); (with_reducible refine sl_call hS (XC5.out _) ?_); clear hS; intro wk hS) | ((go_at_call 19); (with_reducible refine sl_call hS (XC6.out _) ?_); clear hS; intro wk hS) | ((go_at_call 19); (with_reducible refine sl_call hS (XC7.out _) ?_); clear hS; intro wk hS))
          have hq0 := fun w => eq_same sm w
          have hq1 := fun w => eq_same lo w
          have hq2 := fun w => eq_same hi w
          have hw1 : IntKind.i64.wrap 23 = 23 := by decide +kernel
          have hw2 : IntKind.i64.wrap 25 = 25 := by decide +kernel
          refine sd_all hS (by kernel_rfl) (by kernel_rfl) ?_
          iterate 39 (refine sd_step (fun K hK => ?_); (first | (refine sd_load rfl 23 _ rfl rfl (by repeat (first | exact Has.hd | apply Has.tl)) Try.underlying23 rfl (by exact infoV) ?_) | (apply sd_yes rfl; focus (intro wx hx; go_simp; first | (apply sd_enter; first | fail | with_reducible exact XC1.out wx | with_reducible exact XC2.out wx | with_reducible exact XC3.out wx | with_reducible exact XC4.out wx | with_reducible exact XC5.out wx | with_reducible exact XC6.out wx | with_reducible exact XC7.out wx) | exact ⟨rfl, Gr.refl _⟩)) | (refine sd_no rfl ?_)); go_simp; refine hK _ ?_; clear hK K)
          refine sd_nil ?_
          clear hS hq0 hq1 hq2 hw1 hw2
          intro wk hS
          go_wp2_with (first | (refine sl_load hS rfl 23 _ rfl rfl (by repeat (first | exact Has.hd | apply Has.tl)) Try.underlying23 rfl (by exact infoV) ?_) | (refine sl_store hS rfl 23 _ _ rfl rfl rfl (by repeat (first | exact Rep.hd | apply Rep.tl)) (by exact infoV) (by rfl) (bs_one _) ?_; clear hS; intro wk hS) | (refine sl_box hS rfl _ 23 (box_vec rfl rfl) ?_; clear hS; intro bk wk hS) | (refine sl_box hS rfl _ 23 (alloc_vec rfl) ?_; clear hS; intro bk wk hS) | (refine onlyN_end ?_) | (refine onlyN_now ?_))
          go_loopw [9] (fun u wr => ∃ k : Nat, k ≤ 8 ∧ u = .int .i64 k ∧ St w (⟨ph, bs hi, 23⟩ :: ⟨pl, bs lo, 23⟩ :: [⟨q, bs b, 23⟩, ⟨p, bs a, 23⟩]) wr) (fun u _ => 8 - (intOf u).toNat)
          case atStart => exact ⟨0, by omega, rfl, hS⟩
          case round =>
            obtain ⟨k, hk, rfl, hS⟩ := hrel
            by_cases hlt : k < 8
            · have hj : thereB 16 k = true := there_iff.2 ⟨by omega, by show (k : Int) < 8; omega⟩
              have h1 := HQ.out k hj
              have h2 := HK.out k hj
              have E1 := fun w => get_any a HA.out 16 k w
              have E2 := fun w => get_any b HB.out 16 k w
              have E3 := fun w => get_any lo HL.out 16 k w
              have E4 := fun w => get_any hi HH.out 16 k w
              have E5 := fun w => signed_any lo HL.out 16 k w
              have E6 := fun w => signed_any hi HH.out 16 k w
              generalize getI a 16 k = g at *
              generalize getI b 16 k = h at *
              generalize getI lo 16 k = x at *
              generalize getI hi 16 k = y at *
              generalize sgnI lo 16 k = t at *
              generalize sgnI hi 16 k = u at *
              have XE1 := Lib.hid E1
              clear E1
              have XE2 := Lib.hid E2
              clear E2
              have XE3 := Lib.hid E3
              clear E3
              have XE4 := Lib.hid E4
              clear E4
              have XE5 := Lib.hid E5
              clear E5
              have XE6 := Lib.hid E6
              clear E6
              have h3 : decide (y < x) = false := decide_eq_false (by omega)
              have H12 : (x = g ∧ y = h) ∨ ((x == g) = false ∧ x = h ∧ y = g) := by
                by_cases e : x = g
                · exact .inl ⟨e, by omega⟩
                · exact .inr ⟨beq_eq_false_iff_ne.2 e, by omega, by omega⟩
              clear h1
              rcases H12 with ⟨rfl, rfl⟩ | ⟨h4, rfl, rfl⟩
              all_goals
                go_upto_region 20 with (first | (refine sl_load hS rfl 23 _ rfl rfl (by repeat (first | exact Has.hd | apply Has.tl)) Try.underlying23 rfl (by exact infoV) ?_) | (refine sl_store hS rfl 23 _ _ rfl rfl rfl (by repeat (first | exact Rep.hd | apply Rep.tl)) (by exact infoV) (by rfl) (bs_one _) ?_; clear hS; intro wk hS) | (refine sl_box hS rfl _ 23 (box_vec rfl rfl) ?_; clear hS; intro bk wk hS) | (refine sl_box hS rfl _ 23 (alloc_vec rfl) ?_; clear hS; intro bk wk hS) | (refine onlyN_end ?_) | (refine onlyN_now ?_) | ((go_at_call 16); (with_reducible refine sl_call hS (XE1.out _) ?_); clear hS; intro wk hS) | ((go_at_call 16); (with_reducible refine sl_call hS (XE2.out _) ?_); clear hS; intro wk hS) | ((go_at_call 16); (with_reducible refine sl_call hS (XE3.out _) ?_); clear hS; intro wk hS) | ((go_at_call 16); (with_reducible refine sl_call hS (XE4.out _) ?_); clear hS; intro wk hS))
                refine sd_all hS (by kernel_rfl) (by kernel_rfl) ?_
                iterate 43 (refine sd_step (fun K hK => ?_); (first | (refine sd_load rfl 23 _ rfl rfl (by repeat (first | exact Has.hd | apply Has.tl)) Try.underlying23 rfl (by exact infoV) ?_) | (apply sd_yes rfl; focus (intro wx hx; go_simp; first | (apply sd_enter; first | fail | with_reducible exact XE5.out wx | with_reducible exact XE6.out wx) | exact ⟨rfl, Gr.refl _⟩)) | (refine sd_no rfl ?_)); go_simp; refine hK _ ?_; clear hK K)
                refine sd_nil ?_
                clear hS
                intro wk hS
                go_wp2_with (first | (refine sl_load hS rfl 23 _ rfl rfl (by repeat (first | exact Has.hd | apply Has.tl)) Try.underlying23 rfl (by exact infoV) ?_) | (refine sl_store hS rfl 23 _ _ rfl rfl rfl (by repeat (first | exact Rep.hd | apply Rep.tl)) (by exact infoV) (by rfl) (bs_one _) ?_; clear hS; intro wk hS) | (refine sl_box hS rfl _ 23 (box_vec rfl rfl) ?_; clear hS; intro bk wk hS) | (refine sl_box hS rfl _ 23 (alloc_vec rfl) ?_; clear hS; intro bk wk hS) | (refine onlyN_end ?_) | (refine onlyN_now ?_))
                exact ⟨⟨k + 1, by omega, by go_num, hS⟩, by simp [intOf]; omega⟩
            · obtain rfl : k = 8 := by omega
              go_wp2_with (first | (refine sl_load hS rfl 23 _ rfl rfl (by repeat (first | exact Has.hd | apply Has.tl)) Try.underlying23 rfl (by exact infoV) ?_) | (refine sl_store hS rfl 23 _ _ rfl rfl rfl (by repeat (first | exact Rep.hd | apply Rep.tl)) (by exact infoV) (by rfl) (bs_one _) ?_; clear hS; intro wk hS) | (refine sl_box hS rfl _ 23 (box_vec rfl rfl) ?_; clear hS; intro bk wk hS) | (refine sl_box hS rfl _ 23 (alloc_vec rfl) ?_; clear hS; intro bk wk hS) | (refine onlyN_end ?_) | (refine onlyN_now ?_))
              exact ⟨⟨2, by omega, rfl, hS.tail.tail⟩, by simp [intOf]⟩
        · go_wp2_with (first | (refine sl_load hS rfl 23 _ rfl rfl (by repeat (first | exact Has.hd | apply Has.tl)) Try.underlying23 rfl (by exact infoV) ?_) | (refine sl_store hS rfl 23 _ _ rfl rfl rfl (by repeat (first | exact Rep.hd | apply Rep.tl)) (by exact infoV) (by rfl) (bs_one _) ?_; clear hS; intro wk hS) | (refine sl_box hS rfl _ 23 (box_vec rfl rfl) ?_; clear hS; intro bk wk hS) | (refine sl_box hS rfl _ 23 (alloc_vec rfl) ?_; clear hS; intro bk wk hS) | (refine onlyN_end ?_) | (refine onlyN_now ?_))
          exact ⟨⟨32, by omega, rfl, hS⟩, by simp [intOf]⟩
    · go_wp2_with (first | (refine sl_load hS rfl 23 _ rfl rfl (by repeat (first | exact Has.hd | apply Has.tl)) Try.underlying23 rfl (by exact infoV) ?_) | (refine sl_store hS rfl 23 _ _ rfl rfl rfl (by repeat (first | exact Rep.hd | apply Rep.tl)) (by exact infoV) (by rfl) (bs_one _) ?_; clear hS; intro wk hS) | (refine sl_box hS rfl _ 23 (box_vec rfl rfl) ?_; clear hS; intro bk wk hS) | (refine sl_box hS rfl _ 23 (alloc_vec rfl) ?_; clear hS; intro bk wk hS) | (refine onlyN_end ?_) | (refine onlyN_now ?_))
      go_loopw [6] (fun u wr => ∃ d : Int, (d = 0 ∨ d = 1 ∨ d = 2) ∧ u = .int .i64 d ∧ St w [⟨q, bs b, 23⟩, ⟨p, bs a, 23⟩] wr) (fun u _ => (4 - intOf u).toNat)
      case atStart => exact ⟨0, by omega, rfl, hS⟩
      case round =>
        obtain ⟨d, hd, rfl, hS⟩ := hrel
        rcases hd with rfl | rfl | rfl
        · as_aux_lemma =>
          obtain ⟨F, K⟩ := leastS (v := 32) (by omega) (by omega) HA.out HB.out
          have q1 := F.q1
          have q2 := F.q2
          have q3 := F.q3
          have q4 := F.q4
          have HQ := Lib.hid F.q5
          clear F
          rw [show (22 : Int) + 2 = 24 from rfl] at q1 q3 q4 HQ
          have C1 := fun w => two_B 32 22 a b (by omega) (by omega) HA.out HB.out w
          have C2 := fun w => two_B 32 24 a b (by omega) (by omega) HA.out HB.out w
          have C3 := fun w => two_B 32 14 (B 32 22 a b) (B 32 24 a b) (by omega) (by omega) (B_byt _ _ _ _) (B_byt _ _ _ _) w
          rw [q1] at C3
          have C4 := fun w => two_B 32 14 a b (by omega) (by omega) HA.out HB.out w
          have C5 := fun w => two_B 32 22 b a (by omega) (by omega) HB.out HA.out w
          rw [q2] at C5
          have C6 := fun w => two_B 32 22 (B 32 22 a b) (B 32 24 a b) (by omega) (by omega) (B_byt _ _ _ _) (B_byt _ _ _ _) w
          rw [q3] at C6
          have C7 := fun w => two_B 32 24 (B 32 22 a b) (B 32 24 a b) (by omega) (by omega) (B_byt _ _ _ _) (B_byt _ _ _ _) w
          rw [q4] at C7
          clear q1 q2 q3 q4
          have HL := Lib.hid (B_byt 32 22 a b)
          have HH := Lib.hid (B_byt 32 24 a b)
          have HK := Lib.hid K
          clear K
          generalize (B 32 22 a b) = lo at *
          generalize (B 32 24 a b) = hi at *
          generalize (B 32 14 a b) = sm at *
          have XC1 := Lib.hid C1
          clear C1
          have XC2 := Lib.hid C2
          clear C2
          have XC3 := Lib.hid C3
          clear C3
          have XC4 := Lib.hid C4
          clear C4
          have XC5 := Lib.hid C5
          clear C5
          have XC6 := Lib.hid C6
          clear C6
          have XC7 := Lib.hid C7
          clear C7
          go_upto_region 10 with (first | (refine sl_load hS rfl 23 _ rfl rfl (by repeat (first | exact Has.hd | apply Has.tl)) Try.underlying23 rfl (by exact infoV) ?_) | (refine sl_store hS rfl 23 _ _ rfl rfl rfl (by repeat (first | exact Rep.hd | apply Rep.tl)) (by exact infoV) (by rfl) (bs_one _) ?_; clear hS; intro wk hS) | (refine sl_box hS rfl _ 23 (box_vec rfl rfl) ?_; clear hS; intro bk wk hS) | (refine sl_box hS rfl _ 23 (alloc_vec rfl) ?_; clear hS; intro pl wk hS) | (refine onlyN_end ?_) | (refine onlyN_now ?_) | ((go_at_call 19); (with_reducible refine sl_call hS (XC1.out _) ?_); clear hS; intro wk hS) | ((go_at_call 19); (with_reducible refine sl_call hS (XC2.out _) ?_); clear hS; intro wk hS) | ((go_at_call 19); (with_reducible refine sl_call hS (XC3.out _) ?_); clear hS; intro wk hS) | ((go_at_call 19); (with_reducible refine sl_call hS (XC4.out _) ?_); clear hS; intro wk hS) | ((go_at_call 19); (with_reducible refine sl_call hS (XC5.out _) ?_); clear hS; intro wk hS) | ((go_at_call 19); (with_reducible refine sl_call hS (XC6.out _) ?_); clear hS; intro wk hS) | ((go_at_call 19); (with_reducible refine sl_call hS (XC7.out _) ?_); clear hS; intro wk hS))
          go_upto_region 11 with (first | (refine sl_load hS rfl 23 _ rfl rfl (by repeat (first | exact Has.hd | apply Has.tl)) Try.underlying23 rfl (by exact infoV) ?_) | (refine sl_store hS rfl 23 _ _ rfl rfl rfl (by repeat (first | exact Rep.hd | apply Rep.tl)) (by exact infoV) (by rfl) (bs_one _) ?_; clear hS; intro wk hS) | (refine sl_box hS rfl _ 23 (box_vec rfl rfl) ?_; clear hS; intro bk wk hS) | (refine sl_box hS rfl _ 23 (alloc_vec rfl) ?_; clear hS; intro ph wk hS) | (refine onlyN_end ?_) | (refine onlyN_now ?_) | ((go_at_call 19); (with_reducible refine sl_call hS (XC1.out _) ?_); clear hS; intro wk hS) | ((go_at_call 19); (with_reducible refine sl_call hS (XC2.out _) ?_); clear hS; intro wk hS) | ((go_at_call 19); (with_reducible refine sl_call hS (XC3.out _) ?_); clear hS; intro wk hS) | ((go_at_call 19); (with_reducible refine sl_call hS (XC4.out _) ?_); clear hS; intro wk hS) | ((go_at_call 19); (with_reducible refine sl_call hS (XC5.out _) ?_); clear hS; intro wk hS) | ((go_at_call 19); (with_reducible refine sl_call hS (XC6.out _) ?_); clear hS; intro wk hS) | ((go_at_call 19); (with_reducible refine sl_call hS (XC7.out _) ?_); clear hS; intro wk hS))
          have hq0 := fun w => eq_same sm w
          have hq1 := fun w => eq_same lo w
          have hq2 := fun w => eq_same hi w
          have hw1 : IntKind.i64.wrap 22 = 22 := by decide +kernel
          have hw2 : IntKind.i64.wrap 24 = 24 := by decide +kernel
          refine sd_all hS (by kernel_rfl) (by kernel_rfl) ?_
          iterate 39 (refine sd_step (fun K hK => ?_); (first | (refine sd_load rfl 23 _ rfl rfl (by repeat (first | exact Has.hd | apply Has.tl)) Try.underlying23 rfl (by exact infoV) ?_) | (apply sd_yes rfl; focus (intro wx hx; go_simp; first | (apply sd_enter; first | fail | with_reducible exact XC1.out wx | with_reducible exact XC2.out wx | with_reducible exact XC3.out wx | with_reducible exact XC4.out wx | with_reducible exact XC5.out wx | with_reducible exact XC6.out wx | with_reducible exact XC7.out wx) | exact ⟨rfl, Gr.refl _⟩)) | (refine sd_no rfl ?_)); go_simp; refine hK _ ?_; clear hK K)
          refine sd_nil ?_
          clear hS hq0 hq1 hq2 hw1 hw2
          intro wk hS
          go_wp2_with (first | (refine sl_load hS rfl 23 _ rfl rfl (by repeat (first | exact Has.hd | apply Has.tl)) Try.underlying23 rfl (by exact infoV) ?_) | (refine sl_store hS rfl 23 _ _ rfl rfl rfl (by repeat (first | exact Rep.hd | apply Rep.tl)) (by exact infoV) (by rfl) (bs_one _) ?_; clear hS; intro wk hS) | (refine sl_box hS rfl _ 23 (box_vec rfl rfl) ?_; clear hS; intro bk wk hS) | (refine sl_box hS rfl _ 23 (alloc_vec rfl) ?_; clear hS; intro bk wk hS) | (refine onlyN_end ?_) | (refine onlyN_now ?_))
          go_loopw [9] (fun u wr => ∃ k : Nat, k ≤ 4 ∧ u = .int .i64 k ∧ St w (⟨ph, bs hi, 23⟩ :: ⟨pl, bs lo, 23⟩ :: [⟨q, bs b, 23⟩, ⟨p, bs a, 23⟩]) wr) (fun u _ => 4 - (intOf u).toNat)
          case atStart => exact ⟨0, by omega, rfl, hS⟩
          case round =>
            obtain ⟨k, hk, rfl, hS⟩ := hrel
            by_cases hlt : k < 4
            · have hj : thereB 32 k = true := there_iff.2 ⟨by omega, by show (k : Int) < 4; omega⟩
              have h1 := HQ.out k hj
              have h2 := HK.out k hj
              have E1 := fun w => get_any a HA.out 32 k w
              have E2 := fun w => get_any b HB.out 32 k w
              have E3 := fun w => get_any lo HL.out 32 k w
              have E4 := fun w => get_any hi HH.out 32 k w
              have E5 := fun w => signed_any lo HL.out 32 k w
              have E6 := fun w => signed_any hi HH.out 32 k w
              generalize getI a 32 k = g at *
              generalize getI b 32 k = h at *
              generalize getI lo 32 k = x at *
              generalize getI hi 32 k = y at *
              generalize sgnI lo 32 k = t at *
              generalize sgnI hi 32 k = u at *
              have XE1 := Lib.hid E1
              clear E1
              have XE2 := Lib.hid E2
              clear E2
              have XE3 := Lib.hid E3
              clear E3
              have XE4 := Lib.hid E4
              clear E4
              have XE5 := Lib.hid E5
              clear E5
              have XE6 := Lib.hid E6
              clear E6
              have h3 : decide (u < t) = false := decide_eq_false (by omega)
              have H12 : (x = g ∧ y = h) ∨ ((x == g) = false ∧ x = h ∧ y = g) := by
                by_cases e : x = g
                · exact .inl ⟨e, by omega⟩
                · exact .inr ⟨beq_eq_false_iff_ne.2 e, by omega, by omega⟩
              clear h1
              rcases H12 with ⟨rfl, rfl⟩ | ⟨h4, rfl, rfl⟩
              all_goals
                go_upto_region 20 with (first | (refine sl_load hS rfl 23 _ rfl rfl (by repeat (first | exact Has.hd | apply Has.tl)) Try.underlying23 rfl (by exact infoV) ?_) | (refine sl_store hS rfl 23 _ _ rfl rfl rfl (by repeat (first | exact Rep.hd | apply Rep.tl)) (by exact infoV) (by rfl) (bs_one _) ?_; clear hS; intro wk hS) | (refine sl_box hS rfl _ 23 (box_vec rfl rfl) ?_; clear hS; intro bk wk hS) | (refine sl_box hS rfl _ 23 (alloc_vec rfl) ?_; clear hS; intro bk wk hS) | (refine onlyN_end ?_) | (refine onlyN_now ?_) | ((go_at_call 16); (with_reducible refine sl_call hS (XE1.out _) ?_); clear hS; intro wk hS) | ((go_at_call 16); (with_reducible refine sl_call hS (XE2.out _) ?_); clear hS; intro wk hS) | ((go_at_call 16); (with_reducible refine sl_call hS (XE3.out _) ?_); clear hS; intro wk hS) | ((go_at_call 16); (with_reducible refine sl_call hS (XE4.out _) ?_); clear hS; intro wk hS))
                refine sd_all hS (by kernel_rfl) (by kernel_rfl) ?_
                iterate 43 (refine sd_step (fun K hK => ?_); (first | (refine sd_load rfl 23 _ rfl rfl (by repeat (first | exact Has.hd | apply Has.tl)) Try.underlying23 rfl (by exact infoV) ?_) | (apply sd_yes rfl; focus (intro wx hx; go_simp; first | (apply sd_enter; first | fail | with_reducible exact XE5.out wx | with_reducible exact XE6.out wx) | exact ⟨rfl, Gr.refl _⟩)) | (refine sd_no rfl ?_)); go_simp; refine hK _ ?_; clear hK K)
                refine sd_nil ?_
                clear hS
                intro wk hS
                go_wp2_with (first | (refine sl_load hS rfl 23 _ rfl rfl (by repeat (first | exact Has.hd | apply Has.tl)) Try.underlying23 rfl (by exact infoV) ?_) | (refine sl_store hS rfl 23 _ _ rfl rfl rfl (by repeat (first | exact Rep.hd | apply Rep.tl)) (by exact infoV) (by rfl) (bs_one _) ?_; clear hS; intro wk hS) | (refine sl_box hS rfl _ 23 (box_vec rfl rfl) ?_; clear hS; intro bk wk hS) | (refine sl_box hS rfl _ 23 (alloc_vec rfl) ?_; clear hS; intro bk wk hS) | (refine onlyN_end ?_) | (refine onlyN_now ?_))
                exact ⟨⟨k + 1, by omega, by go_num, hS⟩, by simp [intOf]; omega⟩
            · obtain rfl : k = 4 := by omega
              go_wp2_with (first | (refine sl_load hS rfl 23 _ rfl rfl (by repeat (first | exact Has.hd | apply Has.tl)) Try.underlying23 rfl (by exact infoV) ?_) | (refine sl_store hS rfl 23 _ _ rfl rfl rfl (by repeat (first | exact Rep.hd | apply Rep.tl)) (by exact infoV) (by rfl) (bs_one _) ?_; clear hS; intro wk hS) | (refine sl_box hS rfl _ 23 (box_vec rfl rfl) ?_; clear hS; intro bk wk hS) | (refine sl_box hS rfl _ 23 (alloc_vec rfl) ?_; clear hS; intro bk wk hS) | (refine onlyN_end ?_) | (refine onlyN_now ?_))
              exact ⟨⟨1, by omega, rfl, hS.tail.tail⟩, by simp [intOf]⟩
        · as_aux_lemma =>
          obtain ⟨F, K⟩ := leastU (v := 32) (by omega) (by omega) HA.out HB.out
          have q1 := F.q1
          have q2 := F.q2
          have q3 := F.q3
          have q4 := F.q4
          have HQ := Lib.hid F.q5
          clear F
          rw [show (23 : Int) + 2 = 25 from rfl] at q1 q3 q4 HQ
          have C1 := fun w => two_B 32 23 a b (by omega) (by omega) HA.out HB.out w
          have C2 := fun w => two_B 32 25 a b (by omega) (by omega) HA.out HB.out w
          have C3 := fun w => two_B 32 14 (B 32 23 a b) (B 32 25 a b) (by omega) (by omega) (B_byt _ _ _ _) (B_byt _ _ _ _) w
          rw [q1] at C3
          have C4 := fun w => two_B 32 14 a b (by omega) (by omega) HA.out HB.out w
          have C5 := fun w => two_B 32 23 b a (by omega) (by omega) HB.out HA.out w
          rw [q2] at C5
          have C6 := fun w => two_B 32 23 (B 32 23 a b) (B 32 25 a b) (by omega) (by omega) (B_byt _ _ _ _) (B_byt _ _ _ _) w
          rw [q3] at C6
          have C7 := fun w => two_B 32 25 (B 32 23 a b) (B 32 25 a b) (by omega) (by omega) (B_byt _ _ _ _) (B_byt _ _ _ _) w
          rw [q4] at C7
          clear q1 q2 q3 q4
          have HL := Lib.hid (B_byt 32 23 a b)
          have HH := Lib.hid (B_byt 32 25 a b)
          have HK := Lib.hid K
          clear K
          generalize (B 32 23 a b) = lo at *
          generalize (B 32 25 a b) = hi at *
          generalize (B 32 14 a b) = sm at *
          have XC1 := Lib.hid C1
          clear C1
          have XC2 := Lib.hid C2
          clear C2
          have XC3 := Lib.hid C3
          clear C3
          have XC4 := Lib.hid C4
          clear C4
          have XC5 := Lib.hid C5
          clear C5
          have XC6 := Lib.hid C6
          clear C6
          have XC7 := Lib.hid C7
          clear C7
          go_upto_region 10 with (first | (refine sl_load hS rfl 23 _ rfl rfl (by repeat (first | exact Has.hd | apply Has.tl)) Try.underlying23 rfl (by exact infoV) ?_) | (refine sl_store hS rfl 23 _ _ rfl rfl rfl (by repeat (first | exact Rep.hd | apply Rep.tl)) (by exact infoV) (by rfl) (bs_one _) ?_; clear hS; intro wk hS) | (refine sl_box hS rfl _ 23 (box_vec rfl rfl) ?_; clear hS; intro bk wk hS) | (refine sl_box hS rfl _ 23 (alloc_vec rfl) ?_; clear hS; intro pl wk hS) | (refine onlyN_end ?_) | (refine onlyN_now ?_) | ((go_at_call 19); (with_reducible refine sl_call hS (XC1.out _) ?_); clear hS; intro wk hS) | ((go_at_call 19); (with_reducible refine sl_call hS (XC2.out _) ?_); clear hS; intro wk hS) | ((go_at_call 19); (with_reducible refine sl_call hS (XC3.out _) ?_); clear hS; intro wk hS) | ((go_at_call 19); (with_reducible refine sl_call hS (XC4.out _) ?_); clear hS; intro wk hS) | ((go_at_call 19); (with_reducible refine sl_call hS (XC5.out _) ?_); clear hS; intro wk hS) | ((go_at_call 19); (with_reducible refine sl_call hS (XC6.out _) ?_); clear hS; intro wk hS) | ((go_at_call 19); (with_reducible refine sl_call hS (XC7.out _) ?_); clear hS; intro wk hS))
          go_upto_region 11 with (first | (refine sl_load hS rfl 23 _ rfl rfl (by repeat (first | exact Has.hd | apply Has.tl)) Try.underlying23 rfl (by exact infoV) ?_) | (refine sl_store hS rfl 23 _ _ rfl rfl rfl (by repeat (first | exact Rep.hd | apply Rep.tl)) (by exact infoV) (by rfl) (bs_one _) ?_; clear hS; intro wk hS) | (refine sl_box hS rfl _ 23 (box_vec rfl rfl) ?_; clear hS; intro bk wk hS) | (refine sl_box hS rfl _ 23 (alloc_vec rfl) ?_; clear hS; intro ph wk hS) | (refine onlyN_end ?_) | (refine onlyN_now ?_) | ((go_at_call 19); (with_reducible refine sl_call hS (XC1.out _) ?_); clear hS; intro wk hS) | ((go_at_call 19); (with_reducible refine sl_call hS (XC2.out _) ?_); clear hS; intro wk hS) | ((go_at_call 19); (with_reducible refine sl_call hS (XC3.out _) ?_); clear hS; intro wk hS) | ((go_at_call 19); (with_reducible refine sl_call hS (XC4.out _) ?_); clear hS; intro wk hS) | ((go_at_call 19); (with_reducible refine sl_call hS (XC5.out _) ?_); clear hS; intro wk hS) | ((go_at_call 19); (with_reducible refine sl_call hS (XC6.out _) ?_); clear hS; intro wk hS) | ((go_at_call 19); (with_reducible refine sl_call hS (XC7.out _) ?_); clear hS; intro wk hS))
          have hq0 := fun w => eq_same sm w
          have hq1 := fun w => eq_same lo w
          have hq2 := fun w => eq_same hi w
          have hw1 : IntKind.i64.wrap 23 = 23 := by decide +kernel
          have hw2 : IntKind.i64.wrap 25 = 25 := by decide +kernel
          refine sd_all hS (by kernel_rfl) (by kernel_rfl) ?_
          iterate 39 (refine sd_step (fun K hK => ?_); (first | (refine sd_load rfl 23 _ rfl rfl (by repeat (first | exact Has.hd | apply Has.tl)) Try.underlying23 rfl (by exact infoV) ?_) | (apply sd_yes rfl; focus (intro wx hx; go_simp; first | (apply sd_enter; first | fail | with_reducible exact XC1.out wx | with_reducible exact XC2.out wx | with_reducible exact XC3.out wx | with_reducible exact XC4.out wx | with_reducible exact XC5.out wx | with_reducible exact XC6.out wx | with_reducible exact XC7.out wx) | exact ⟨rfl, Gr.refl _⟩)) | (refine sd_no rfl ?_)); go_simp; refine hK _ ?_; clear hK K)
          refine sd_nil ?_
          clear hS hq0 hq1 hq2 hw1 hw2
          intro wk hS
          go_wp2_with (first | (refine sl_load hS rfl 23 _ rfl rfl (by repeat (first | exact Has.hd | apply Has.tl)) Try.underlying23 rfl (by exact infoV) ?_) | (refine sl_store hS rfl 23 _ _ rfl rfl rfl (by repeat (first | exact Rep.hd | apply Rep.tl)) (by exact infoV) (by rfl) (bs_one _) ?_; clear hS; intro wk hS) | (refine sl_box hS rfl _ 23 (box_vec rfl rfl) ?_; clear hS; intro bk wk hS) | (refine sl_box hS rfl _ 23 (alloc_vec rfl) ?_; clear hS; intro bk wk hS) | (refine onlyN_end ?_) | (refine onlyN_now ?_))
          go_loopw [9] (fun u wr => ∃ k : Nat, k ≤ 4 ∧ u = .int .i64 k ∧ St w (⟨ph, bs hi, 23⟩ :: ⟨pl, bs lo, 23⟩ :: [⟨q, bs b, 23⟩, ⟨p, bs a, 23⟩]) wr) (fun u _ => 4 - (intOf u).toNat)
          case atStart => exact ⟨0, by omega, rfl, hS⟩
          case round =>
            obtain ⟨k, hk, rfl, hS⟩ := hrel
            by_cases hlt : k < 4
            · have hj : thereB 32 k = true := there_iff.2 ⟨by omega, by show (k : Int) < 4; omega⟩
              have h1 := HQ.out k hj
              have h2 := HK.out k hj
              have E1 := fun w => get_any a HA.out 32 k w
              have E2 := fun w => get_any b HB.out 32 k w
              have E3 := fun w => get_any lo HL.out 32 k w
              have E4 := fun w => get_any hi HH.out 32 k w
              have E5 := fun w => signed_any lo HL.out 32 k w
              have E6 := fun w => signed_any hi HH.out 32 k w
              generalize getI a 32 k = g at *
              generalize getI b 32 k = h at *
              generalize getI lo 32 k = x at *
              generalize getI hi 32 k = y at *
              generalize sgnI lo 32 k = t at *
              generalize sgnI hi 32 k = u at *
              have XE1 := Lib.hid E1
              clear E1
              have XE2 := Lib.hid E2
              clear E2
              have XE3 := Lib.hid E3
              clear E3
              have XE4 := Lib.hid E4
              clear E4
              have XE5 := Lib.hid E5
              clear E5
              have XE6 := Lib.hid E6
              clear E6
              have h3 : decide (y < x) = false := decide_eq_false (by omega)
              have H12 : (x = g ∧ y = h) ∨ ((x == g) = false ∧ x = h ∧ y = g) := by
                by_cases e : x = g
                · exact .inl ⟨e, by omega⟩
                · exact .inr ⟨beq_eq_false_iff_ne.2 e, by omega, by omega⟩
              clear h1
              rcases H12 with ⟨rfl, rfl⟩ | ⟨h4, rfl, rfl⟩
              all_goals
                go_upto_region 20 with (first | (refine sl_load hS rfl 23 _ rfl rfl (by repeat (first | exact Has.hd | apply Has.tl)) Try.underlying23 rfl (by exact infoV) ?_) | (refine sl_store hS rfl 23 _ _ rfl rfl rfl (by repeat (first | exact Rep.hd | apply Rep.tl)) (by exact infoV) (by rfl) (bs_one _) ?_; clear hS; intro wk hS) | (refine sl_box hS rfl _ 23 (box_vec rfl rfl) ?_; clear hS; intro bk wk hS) | (refine sl_box hS rfl _ 23 (alloc_vec rfl) ?_; clear hS; intro bk wk hS) | (refine onlyN_end ?_) | (refine onlyN_now ?_) | ((go_at_call 16); (with_reducible refine sl_call hS (XE1.out _) ?_); clear hS; intro wk hS) | ((go_at_call 16); (with_reducible refine sl_call hS (XE2.out _) ?_); clear hS; intro wk hS) | ((go_at_call 16); (with_reducible refine sl_call hS (XE3.out _) ?_); clear hS; intro wk hS) | ((go_at_call 16); (with_reducible refine sl_call hS (XE4.out _) ?_); clear hS; intro wk hS))
                refine sd_all hS (by kernel_rfl) (by kernel_rfl) ?_
                iterate 43 (refine sd_step (fun K hK => ?_); (first | (refine sd_load rfl 23 _ rfl rfl (by repeat (first | exact Has.hd | apply Has.tl)) Try.underlying23 rfl (by exact infoV) ?_) | (apply sd_yes rfl; focus (intro wx hx; go_simp; first | (apply sd_enter; first | fail | with_reducible exact XE5.out wx | with_reducible exact XE6.out wx) | exact ⟨rfl, Gr.refl _⟩)) | (refine sd_no rfl ?_)); go_simp; refine hK _ ?_; clear hK K)
                refine sd_nil ?_
                clear hS
                intro wk hS
                go_wp2_with (first | (refine sl_load hS rfl 23 _ rfl rfl (by repeat (first | exact Has.hd | apply Has.tl)) Try.underlying23 rfl (by exact infoV) ?_) | (refine sl_store hS rfl 23 _ _ rfl rfl rfl (by repeat (first | exact Rep.hd | apply Rep.tl)) (by exact infoV) (by rfl) (bs_one _) ?_; clear hS; intro wk hS) | (refine sl_box hS rfl _ 23 (box_vec rfl rfl) ?_; clear hS; intro bk wk hS) | (refine sl_box hS rfl _ 23 (alloc_vec rfl) ?_; clear hS; intro bk wk hS) | (refine onlyN_end ?_) | (refine onlyN_now ?_))
                exact ⟨⟨k + 1, by omega, by go_num, hS⟩, by simp [intOf]; omega⟩
            · obtain rfl : k = 4 := by omega
              go_wp2_with (first | (refine sl_load hS rfl 23 _ rfl rfl (by repeat (first | exact Has.hd | apply Has.tl)) Try.underlying23 rfl (by exact infoV) ?_) | (refine sl_store hS rfl 23 _ _ rfl rfl rfl (by repeat (first | exact Rep.hd | apply Rep.tl)) (by exact infoV) (by rfl) (bs_one _) ?_; clear hS; intro wk hS) | (refine sl_box hS rfl _ 23 (box_vec rfl rfl) ?_; clear hS; intro bk wk hS) | (refine sl_box hS rfl _ 23 (alloc_vec rfl) ?_; clear hS; intro bk wk hS) | (refine onlyN_end ?_) | (refine onlyN_now ?_))
              exact ⟨⟨2, by omega, rfl, hS.tail.tail⟩, by simp [intOf]⟩
        · go_wp2_with (first | (refine sl_load hS rfl 23 _ rfl rfl (by repeat (first | exact Has.hd | apply Has.tl)) Try.underlying23 rfl (by exact infoV) ?_) | (refine sl_store hS rfl 23 _ _ rfl rfl rfl (by repeat (first | exact Rep.hd | apply Rep.tl)) (by exact infoV) (by rfl) (bs_one _) ?_; clear hS; intro wk hS) | (refine sl_box hS rfl _ 23 (box_vec rfl rfl) ?_; clear hS; intro bk wk hS) | (refine sl_box hS rfl _ 23 (alloc_vec rfl) ?_; clear hS; intro bk wk hS) | (refine onlyN_end ?_) | (refine onlyN_now ?_))
          exact ⟨⟨64, by omega, rfl, hS⟩, by simp [intOf]⟩
    · go_wp2
      go_ret
      exact ⟨rfl, hS.gr⟩
end Ar
end Go.Proofs.Ytalnkkmbjaollaa
