/-
  ArithScalar: for both vectors and every number the law returns true. Conditions: bytes; a number of 32 bits.
-/
import Derived.Test.YtalnkkmbjaollaaArScM
namespace Go.Proofs.Ytalnkkmbjaollaa
open Go.RowKit VecM
namespace Ar
set_option maxRecDepth 100000 in
set_option maxHeartbeats 32000000 in
theorem scalar_walk (a b : Nat → Int) (n : Int) (ha : Byt a) (hb : Byt b) (hn : 0 ≤ n ∧ n < 4294967296) (w : World) : Calls Try.prog 10 #[.agg (bs a), .agg (bs b), .int .u32 n] w fun e w' => e = .returned (.bool true) ∧ Gr w w' := by
  have HA := Lib.hid ha
  have HB := Lib.hid hb
  clear ha hb
  have hS := St.start w
  go_enter Try.func10, Try.ntmps10
  go_upto_region 0 with (fail)
  refine wp_region_lit ?_
  refine sl_box hS rfl _ 23 (box_vec rfl rfl) ?_
  clear hS
  intro p wk hS
  refine sl_box hS rfl _ 23 (box_vec rfl rfl) ?_
  clear hS
  intro q wk hS
  go_wp2_with (first | (refine sl_load hS rfl 23 _ rfl rfl (by repeat (first | exact Has.hd | apply Has.tl)) Try.underlying23 rfl (by exact infoV) ?_) | (refine sl_store hS rfl 23 _ _ rfl rfl rfl (by repeat (first | exact Rep.hd | apply Rep.tl)) (by exact infoV) (by rfl) (bs_one _) ?_; clear hS; intro wk hS) | (refine sl_box hS rfl _ 23 (box_vec rfl rfl) ?_; clear hS; intro bk wk hS) | (refine sl_box hS rfl _ 23 (alloc_vec rfl) ?_; clear hS; intro bk wk hS) | (refine onlyN_end ?_) | (refine onlyN_now ?_) | ((go_at_call 11); (with_reducible refine sl_call hS (awake _) ?_); clear hS; intro wk hS))
  go_loopw [7] (fun u wr => ∃ v : Int, (v = 32 ∨ v = 64 ∨ v = 128) ∧ u = .int .i64 v ∧ St w [⟨q, bs b, 23⟩, ⟨p, bs a, 23⟩] wr) (fun u _ => (256 - intOf u).toNat)
  case atStart => exact ⟨32, by omega, rfl, hS⟩
  case round =>
    obtain ⟨v, hv, rfl, hS⟩ := hrel
    rcases hv with rfl | rfl | rfl
    · go_upto_region 11 with (first | (refine sl_load hS rfl 23 _ rfl rfl (by repeat (first | exact Has.hd | apply Has.tl)) Try.underlying23 rfl (by exact infoV) ?_) | (refine sl_store hS rfl 23 _ _ rfl rfl rfl (by repeat (first | exact Rep.hd | apply Rep.tl)) (by exact infoV) (by rfl) (bs_one _) ?_; clear hS; intro wk hS) | (refine sl_box hS rfl _ 23 (box_vec rfl rfl) ?_; clear hS; intro bk wk hS) | (refine sl_box hS rfl _ 23 (alloc_vec rfl) ?_; clear hS; intro bk wk hS) | (refine onlyN_end ?_) | (refine onlyN_now ?_))
      refine wp_region_lit ?_
      refine sl_new hS rfl #[.int .i64 14, .int .i64 17, .int .i64 21] 3 (fun b => .slice (some ⟨b, 0, none⟩) 3 3) (by intro w; go_simp) ?_
      clear hS
      intro bo wk hS
      go_wp2_with (first | (refine sl_load hS rfl 23 _ rfl rfl (by repeat (first | exact Has.hd | apply Has.tl)) Try.underlying23 rfl (by exact infoV) ?_) | (refine sl_store hS rfl 23 _ _ rfl rfl rfl (by repeat (first | exact Rep.hd | apply Rep.tl)) (by exact infoV) (by rfl) (bs_one _) ?_; clear hS; intro wk hS) | (refine sl_box hS rfl _ 23 (box_vec rfl rfl) ?_; clear hS; intro bk wk hS) | (refine sl_box hS rfl _ 23 (alloc_vec rfl) ?_; clear hS; intro bk wk hS) | (refine onlyN_end ?_) | (refine onlyN_now ?_))
      go_loopw [11] (fun u wr => ∃ d : Int, (d = 0 ∨ d = 1 ∨ d = 2 ∨ d = 3) ∧ u = .int .i64 d ∧ St w (⟨bo, #[.int .i64 14, .int .i64 17, .int .i64 21], 3⟩ :: [⟨q, bs b, 23⟩, ⟨p, bs a, 23⟩]) wr) (fun u _ => (4 - intOf u).toNat)
      case atStart => exact ⟨0, by omega, rfl, hS⟩
      case round =>
        obtain ⟨d, hd, rfl, hS⟩ := hrel
        rcases hd with rfl | rfl | rfl | rfl
        · as_aux_lemma =>
          have C1 := fun w => two_B 32 14 a b (by omega) (by omega) HA.out HB.out w
          have C2 := fun w => calls_gr (base_any 32 (by omega) w)
          rw [show baI 32 = 64928 from rfl] at C2
          have C3 := fun w => sh_S 32 0 a n (by omega) (by omega) HA.out hn 64939 rfl w
          have HK1 := Lib.hid (fun (j : Nat) (hj : thereB 32 j = true) w => num32 0 (by omega) HA.out HB.out hj w)
          have HK2 := Lib.hid (fun (j : Nat) (hj : thereB 32 j = true) w => nsh32 0 (by omega) HA.out hn hj w)
          rw [show offI 0 = 14 from rfl] at HK1
          have HBY := Lib.hid (B_byt 32 14 a b)
          have HSY := Lib.hid (S_byt 32 0 HA.out n)
          generalize B 32 14 a b = zz at *
          generalize S 32 0 a n = tt at *
          have XC1 := Lib.hid C1
          clear C1
          have XC2 := Lib.hid C2
          clear C2
          have XC3 := Lib.hid C3
          clear C3
          go_upto_region 15 with (first | (refine sl_load hS rfl 23 _ rfl rfl (by repeat (first | exact Has.hd | apply Has.tl)) Try.underlying23 rfl (by exact infoV) ?_) | (refine sl_store hS rfl 23 _ _ rfl rfl rfl (by repeat (first | exact Rep.hd | apply Rep.tl)) (by exact infoV) (by rfl) (bs_one _) ?_; clear hS; intro wk hS) | (refine sl_box hS rfl _ 23 (box_vec rfl rfl) ?_; clear hS; intro bk wk hS) | (refine sl_box hS rfl _ 23 (alloc_vec rfl) ?_; clear hS; intro bk wk hS) | (refine onlyN_end ?_) | (refine onlyN_now ?_))
          refine sd_alloc 8 (bs fun _ => 0) 23 12 hS (by kernel_rfl) (by kernel_rfl) (lays_vec rfl rfl rfl) rfl ?_
          simp only [List.take_succ_cons, List.take_zero, List.drop_succ_cons, List.drop_zero]
          iterate 8 (refine sd_step (fun K hK => ?_); (first | (refine sd_load rfl 23 _ rfl rfl (by repeat (first | exact Has.hd | apply Has.tl)) Try.underlying23 rfl (by exact infoV) ?_) | (refine sd_cell rfl _ _ rfl rfl (by repeat (first | exact Has.hd | apply Has.tl)) (by rfl) (by intro w hc; go_simp) ?_) | (apply sd_yes rfl; focus (intro wx hx; go_simp; first | (apply sd_enter; first | fail | with_reducible exact XC1.out wx) | exact ⟨rfl, Gr.refl _⟩)) | (refine sd_no rfl ?_)); go_simp; refine hK _ ?_; clear hK K)
          refine sd_nil ?_
          clear hS
          intro pv wk hS
          simp only [Act.put, List.setIfInBounds_toArray, List.set_cons_succ, List.set_cons_zero]
          go_upto_region 16 with (first | (refine sl_load hS rfl 23 _ rfl rfl (by repeat (first | exact Has.hd | apply Has.tl)) Try.underlying23 rfl (by exact infoV) ?_) | (refine sl_store hS rfl 23 _ _ rfl rfl rfl (by repeat (first | exact Rep.hd | apply Rep.tl)) (by exact infoV) (by rfl) (bs_one _) ?_; clear hS; intro wk hS) | (refine sl_box hS rfl _ 23 (box_vec rfl rfl) ?_; clear hS; intro bk wk hS) | (refine sl_box hS rfl _ 23 (alloc_vec rfl) ?_; clear hS; intro bk wk hS) | (refine onlyN_end ?_) | (refine onlyN_now ?_))
          have hw1 : IntKind.i64.wrap 64939 = 64939 := by decide +kernel
          have hw2 : IntKind.i64.wrap 64939 = 64939 := by decide +kernel
          refine sd_alloc 11 (bs fun _ => 0) 23 13 hS (by kernel_rfl) (by kernel_rfl) (lays_vec rfl rfl rfl) rfl ?_
          simp only [List.take_succ_cons, List.take_zero, List.drop_succ_cons, List.drop_zero]
          iterate 11 (refine sd_step (fun K hK => ?_); (first | (refine sd_load rfl 23 _ rfl rfl (by repeat (first | exact Has.hd | apply Has.tl)) Try.underlying23 rfl (by exact infoV) ?_) | (refine sd_cell rfl _ _ rfl rfl (by repeat (first | exact Has.hd | apply Has.tl)) (by rfl) (by intro w hc; go_simp) ?_) | (apply sd_yes rfl; focus (intro wx hx; go_simp; first | (apply sd_enter; first | fail | with_reducible exact XC2.out wx | with_reducible exact XC3.out wx) | exact ⟨rfl, Gr.refl _⟩)) | (refine sd_no rfl ?_)); go_simp; refine hK _ ?_; clear hK K)
          refine sd_nil ?_
          clear hS hw1 hw2
          intro pt wk hS
          simp only [Act.put, List.setIfInBounds_toArray, List.set_cons_succ, List.set_cons_zero]
          go_wp2_with (first | (refine sl_load hS rfl 23 _ rfl rfl (by repeat (first | exact Has.hd | apply Has.tl)) Try.underlying23 rfl (by exact infoV) ?_) | (refine sl_store hS rfl 23 _ _ rfl rfl rfl (by repeat (first | exact Rep.hd | apply Rep.tl)) (by exact infoV) (by rfl) (bs_one _) ?_; clear hS; intro wk hS) | (refine sl_box hS rfl _ 23 (box_vec rfl rfl) ?_; clear hS; intro bk wk hS) | (refine sl_box hS rfl _ 23 (alloc_vec rfl) ?_; clear hS; intro bk wk hS) | (refine onlyN_end ?_) | (refine onlyN_now ?_))
          go_loopw [15] (fun u wr => ∃ k : Nat, k ≤ 4 ∧ u = .int .i64 k ∧ St w (⟨pt, bs tt, 23⟩ :: ⟨pv, bs zz, 23⟩ :: ⟨bo, #[.int .i64 14, .int .i64 17, .int .i64 21], 3⟩ :: [⟨q, bs b, 23⟩, ⟨p, bs a, 23⟩]) wr) (fun u _ => 4 - (intOf u).toNat)
          case atStart => exact ⟨0, by omega, rfl, hS⟩
          case round =>
            obtain ⟨k, hk, rfl, hS⟩ := hrel
            by_cases hlt : k < 4
            · have hj : thereB 32 k = true := there_iff.2 ⟨by omega, by show (k : Int) < 4; omega⟩
              have E1 := fun w => get_any a HA.out 32 k w
              have E2 := fun w => get_any b HB.out 32 k w
              have E3 := fun w => get_any zz HBY.out 32 k w
              have E4 := fun w => get_any tt HSY.out 32 k w
              have E5 := fun w => HK1.out k hj w
              have E6 := fun w => HK2.out k hj w
              rw [show (106 : Int) + 0 = 106 from rfl] at E5
              rw [show (116 : Int) + 0 = 116 from rfl] at E6
              generalize getI a 32 k = x at *
              generalize getI b 32 k = y at *
              generalize getI zz 32 k = z at *
              generalize getI tt 32 k = t at *
              have XE1 := Lib.hid E1
              clear E1
              have XE2 := Lib.hid E2
              clear E2
              have XE3 := Lib.hid E3
              clear E3
              have XE4 := Lib.hid E4
              clear E4
              have XE5 := Lib.hid E5
              clear E5
              have XE6 := Lib.hid E6
              clear E6
              go_upto_region 22 with (first | (refine sl_load hS rfl 23 _ rfl rfl (by repeat (first | exact Has.hd | apply Has.tl)) Try.underlying23 rfl (by exact infoV) ?_) | (refine sl_store hS rfl 23 _ _ rfl rfl rfl (by repeat (first | exact Rep.hd | apply Rep.tl)) (by exact infoV) (by rfl) (bs_one _) ?_; clear hS; intro wk hS) | (refine sl_box hS rfl _ 23 (box_vec rfl rfl) ?_; clear hS; intro bk wk hS) | (refine sl_box hS rfl _ 23 (alloc_vec rfl) ?_; clear hS; intro bk wk hS) | (refine onlyN_end ?_) | (refine onlyN_now ?_))
              have hw1 : IntKind.i64.wrap 106 = 106 := by decide +kernel
              refine sd_all hS (by kernel_rfl) (by kernel_rfl) ?_
              iterate 17 (refine sd_step (fun K hK => ?_); (first | (refine sd_load rfl 23 _ rfl rfl (by repeat (first | exact Has.hd | apply Has.tl)) Try.underlying23 rfl (by exact infoV) ?_) | (apply sd_yes rfl; focus (intro wx hx; go_simp; first | (apply sd_enter; first | fail | with_reducible exact XE1.out wx | with_reducible exact XE2.out wx | with_reducible exact XE5.out wx) | exact ⟨rfl, Gr.refl _⟩)) | (refine sd_no rfl ?_)); go_simp; refine hK _ ?_; clear hK K)
              refine sd_nil ?_
              clear hS hw1
              intro wk hS
              go_wp2_with (first | (refine sl_load hS rfl 23 _ rfl rfl (by repeat (first | exact Has.hd | apply Has.tl)) Try.underlying23 rfl (by exact infoV) ?_) | (refine sl_store hS rfl 23 _ _ rfl rfl rfl (by repeat (first | exact Rep.hd | apply Rep.tl)) (by exact infoV) (by rfl) (bs_one _) ?_; clear hS; intro wk hS) | (refine sl_box hS rfl _ 23 (box_vec rfl rfl) ?_; clear hS; intro bk wk hS) | (refine sl_box hS rfl _ 23 (alloc_vec rfl) ?_; clear hS; intro bk wk hS) | (refine onlyN_end ?_) | (refine onlyN_now ?_) | ((go_at_call 16); (with_reducible refine sl_call hS (XE1.out _) ?_); clear hS; intro wk hS) | ((go_at_call 16); (with_reducible refine sl_call hS (XE3.out _) ?_); clear hS; intro wk hS) | ((go_at_call 16); (with_reducible refine sl_call hS (XE4.out _) ?_); clear hS; intro wk hS) | ((go_at_call 26); (with_reducible refine sl_call hS (XE6.out _) ?_); clear hS; intro wk hS))
              exact ⟨⟨k + 1, by omega, by go_num, hS⟩, by simp [intOf]; omega⟩
            · obtain rfl : k = 4 := by omega
              go_wp2_with (first | (refine sl_load hS rfl 23 _ rfl rfl (by repeat (first | exact Has.hd | apply Has.tl)) Try.underlying23 rfl (by exact infoV) ?_) | (refine sl_store hS rfl 23 _ _ rfl rfl rfl (by repeat (first | exact Rep.hd | apply Rep.tl)) (by exact infoV) (by rfl) (bs_one _) ?_; clear hS; intro wk hS) | (refine sl_box hS rfl _ 23 (box_vec rfl rfl) ?_; clear hS; intro bk wk hS) | (refine sl_box hS rfl _ 23 (alloc_vec rfl) ?_; clear hS; intro bk wk hS) | (refine onlyN_end ?_) | (refine onlyN_now ?_))
              exact ⟨⟨1, by omega, rfl, hS.tail.tail⟩, by simp [intOf]⟩
        · as_aux_lemma =>
          have C1 := fun w => two_B 32 17 a b (by omega) (by omega) HA.out HB.out w
          have C2 := fun w => calls_gr (base_any 32 (by omega) w)
          rw [show baI 32 = 64928 from rfl] at C2
          have C3 := fun w => sh_S 32 1 a n (by omega) (by omega) HA.out hn 64940 rfl w
          have HK1 := Lib.hid (fun (j : Nat) (hj : thereB 32 j = true) w => num32 1 (by omega) HA.out HB.out hj w)
          have HK2 := Lib.hid (fun (j : Nat) (hj : thereB 32 j = true) w => nsh32 1 (by omega) HA.out hn hj w)
          rw [show offI 1 = 17 from rfl] at HK1
          have HBY := Lib.hid (B_byt 32 17 a b)
          have HSY := Lib.hid (S_byt 32 1 HA.out n)
          generalize B 32 17 a b = zz at *
          generalize S 32 1 a n = tt at *
          have XC1 := Lib.hid C1
          clear C1
          have XC2 := Lib.hid C2
          clear C2
          have XC3 := Lib.hid C3
          clear C3
          go_upto_region 15 with (first | (refine sl_load hS rfl 23 _ rfl rfl (by repeat (first | exact Has.hd | apply Has.tl)) Try.underlying23 rfl (by exact infoV) ?_) | (refine sl_store hS rfl 23 _ _ rfl rfl rfl (by repeat (first | exact Rep.hd | apply Rep.tl)) (by exact infoV) (by rfl) (bs_one _) ?_; clear hS; intro wk hS) | (refine sl_box hS rfl _ 23 (box_vec rfl rfl) ?_; clear hS; intro bk wk hS) | (refine sl_box hS rfl _ 23 (alloc_vec rfl) ?_; clear hS; intro bk wk hS) | (refine onlyN_end ?_) | (refine onlyN_now ?_))
          refine sd_alloc 8 (bs fun _ => 0) 23 12 hS (by kernel_rfl) (by kernel_rfl) (lays_vec rfl rfl rfl) rfl ?_
          simp only [List.take_succ_cons, List.take_zero, List.drop_succ_cons, List.drop_zero]
          iterate 8 (refine sd_step (fun K hK => ?_); (first | (refine sd_load rfl 23 _ rfl rfl (by repeat (first | exact Has.hd | apply Has.tl)) Try.underlying23 rfl (by exact infoV) ?_) | (refine sd_cell rfl _ _ rfl rfl (by repeat (first | exact Has.hd | apply Has.tl)) (by rfl) (by intro w hc; go_simp) ?_) | (apply sd_yes rfl; focus (intro wx hx; go_simp; first | (apply sd_enter; first | fail | with_reducible exact XC1.out wx) | exact ⟨rfl, Gr.refl _⟩)) | (refine sd_no rfl ?_)); go_simp; refine hK _ ?_; clear hK K)
          refine sd_nil ?_
          clear hS
          intro pv wk hS
          simp only [Act.put, List.setIfInBounds_toArray, List.set_cons_succ, List.set_cons_zero]
          go_upto_region 16 with (first | (refine sl_load hS rfl 23 _ rfl rfl (by repeat (first | exact Has.hd | apply Has.tl)) Try.underlying23 rfl (by exact infoV) ?_) | (refine sl_store hS rfl 23 _ _ rfl rfl rfl (by repeat (first | exact Rep.hd | apply Rep.tl)) (by exact infoV) (by rfl) (bs_one _) ?_; clear hS; intro wk hS) | (refine sl_box hS rfl _ 23 (box_vec rfl rfl) ?_; clear hS; intro bk wk hS) | (refine sl_box hS rfl _ 23 (alloc_vec rfl) ?_; clear hS; intro bk wk hS) | (refine onlyN_end ?_) | (refine onlyN_now ?_))
          have hw1 : IntKind.i64.wrap 64939 = 64939 := by decide +kernel
          have hw2 : IntKind.i64.wrap 64940 = 64940 := by decide +kernel
          refine sd_alloc 11 (bs fun _ => 0) 23 13 hS (by kernel_rfl) (by kernel_rfl) (lays_vec rfl rfl rfl) rfl ?_
          simp only [List.take_succ_cons, List.take_zero, List.drop_succ_cons, List.drop_zero]
          iterate 11 (refine sd_step (fun K hK => ?_); (first | (refine sd_load rfl 23 _ rfl rfl (by repeat (first | exact Has.hd | apply Has.tl)) Try.underlying23 rfl (by exact infoV) ?_) | (refine sd_cell rfl _ _ rfl rfl (by repeat (first | exact Has.hd | apply Has.tl)) (by rfl) (by intro w hc; go_simp) ?_) | (apply sd_yes rfl; focus (intro wx hx; go_simp; first | (apply sd_enter; first | fail | with_reducible exact XC2.out wx | with_reducible exact XC3.out wx) | exact ⟨rfl, Gr.refl _⟩)) | (refine sd_no rfl ?_)); go_simp; refine hK _ ?_; clear hK K)
          refine sd_nil ?_
          clear hS hw1 hw2
          intro pt wk hS
          simp only [Act.put, List.setIfInBounds_toArray, List.set_cons_succ, List.set_cons_zero]
          go_wp2_with (first | (refine sl_load hS rfl 23 _ rfl rfl (by repeat (first | exact Has.hd | apply Has.tl)) Try.underlying23 rfl (by exact infoV) ?_) | (refine sl_store hS rfl 23 _ _ rfl rfl rfl (by repeat (first | exact Rep.hd | apply Rep.tl)) (by exact infoV) (by rfl) (bs_one _) ?_; clear hS; intro wk hS) | (refine sl_box hS rfl _ 23 (box_vec rfl rfl) ?_; clear hS; intro bk wk hS) | (refine sl_box hS rfl _ 23 (alloc_vec rfl) ?_; clear hS; intro bk wk hS) | (refine onlyN_end ?_) | (refine onlyN_now ?_))
          go_loopw [15] (fun u wr => ∃ k : Nat, k ≤ 4 ∧ u = .int .i64 k ∧ St w (⟨pt, bs tt, 23⟩ :: ⟨pv, bs zz, 23⟩ :: ⟨bo, #[.int .i64 14, .int .i64 17, .int .i64 21], 3⟩ :: [⟨q, bs b, 23⟩, ⟨p, bs a, 23⟩]) wr) (fun u _ => 4 - (intOf u).toNat)
          case atStart => exact ⟨0, by omega, rfl, hS⟩
          case round =>
            obtain ⟨k, hk, rfl, hS⟩ := hrel
            by_cases hlt : k < 4
            · have hj : thereB 32 k = true := there_iff.2 ⟨by omega, by show (k : Int) < 4; omega⟩
              have E1 := fun w => get_any a HA.out 32 k w
              have E2 := fun w => get_any b HB.out 32 k w
              have E3 := fun w => get_any zz HBY.out 32 k w
              have E4 := fun w => get_any tt HSY.out 32 k w
              have E5 := fun w => HK1.out k hj w
              have E6 := fun w => HK2.out k hj w
              rw [show (106 : Int) + 1 = 107 from rfl] at E5
              rw [show (116 : Int) + 1 = 117 from rfl] at E6
              generalize getI a 32 k = x at *
              generalize getI b 32 k = y at *
              generalize getI zz 32 k = z at *
              generalize getI tt 32 k = t at *
              have XE1 := Lib.hid E1
              clear E1
              have XE2 := Lib.hid E2
              clear E2
              have XE3 := Lib.hid E3
              clear E3
              have XE4 := Lib.hid E4
              clear E4
              have XE5 := Lib.hid E5
              clear E5
              have XE6 := Lib.hid E6
              clear E6
              go_upto_region 22 with (first | (refine sl_load hS rfl 23 _ rfl rfl (by repeat (first | exact Has.hd | apply Has.tl)) Try.underlying23 rfl (by exact infoV) ?_) | (refine sl_store hS rfl 23 _ _ rfl rfl rfl (by repeat (first | exact Rep.hd | apply Rep.tl)) (by exact infoV) (by rfl) (bs_one _) ?_; clear hS; intro wk hS) | (refine sl_box hS rfl _ 23 (box_vec rfl rfl) ?_; clear hS; intro bk wk hS) | (refine sl_box hS rfl _ 23 (alloc_vec rfl) ?_; clear hS; intro bk wk hS) | (refine onlyN_end ?_) | (refine onlyN_now ?_))
              have hw1 : IntKind.i64.wrap 107 = 107 := by decide +kernel
              refine sd_all hS (by kernel_rfl) (by kernel_rfl) ?_
              iterate 17 (refine sd_step (fun K hK => ?_); (first | (refine sd_load rfl 23 _ rfl rfl (by repeat (first | exact Has.hd | apply Has.tl)) Try.underlying23 rfl (by exact infoV) ?_) | (apply sd_yes rfl; focus (intro wx hx; go_simp; first | (apply sd_enter; first | fail | with_reducible exact XE1.out wx | with_reducible exact XE2.out wx | with_reducible exact XE5.out wx) | exact ⟨rfl, Gr.refl _⟩)) | (refine sd_no rfl ?_)); go_simp; refine hK _ ?_; clear hK K)
              refine sd_nil ?_
              clear hS hw1
              intro wk hS
              go_wp2_with (first | (refine sl_load hS rfl 23 _ rfl rfl (by repeat (first | exact Has.hd | apply Has.tl)) Try.underlying23 rfl (by exact infoV) ?_) | (refine sl_store hS rfl 23 _ _ rfl rfl rfl (by repeat (first | exact Rep.hd | apply Rep.tl)) (by exact infoV) (by rfl) (bs_one _) ?_; clear hS; intro wk hS) | (refine sl_box hS rfl _ 23 (box_vec rfl rfl) ?_; clear hS; intro bk wk hS) | (refine sl_box hS rfl _ 23 (alloc_vec rfl) ?_; clear hS; intro bk wk hS) | (refine onlyN_end ?_) | (refine onlyN_now ?_) | ((go_at_call 16); (with_reducible refine sl_call hS (XE1.out _) ?_); clear hS; intro wk hS) | ((go_at_call 16); (with_reducible refine sl_call hS (XE3.out _) ?_); clear hS; intro wk hS) | ((go_at_call 16); (with_reducible refine sl_call hS (XE4.out _) ?_); clear hS; intro wk hS) | ((go_at_call 26); (with_reducible refine sl_call hS (XE6.out _) ?_); clear hS; intro wk hS))
              exact ⟨⟨k + 1, by omega, by go_num, hS⟩, by simp [intOf]; omega⟩
            · obtain rfl : k = 4 := by omega
              go_wp2_with (first | (refine sl_load hS rfl 23 _ rfl rfl (by repeat (first | exact Has.hd | apply Has.tl)) Try.underlying23 rfl (by exact infoV) ?_) | (refine sl_store hS rfl 23 _ _ rfl rfl rfl (by repeat (first | exact Rep.hd | apply Rep.tl)) (by exact infoV) (by rfl) (bs_one _) ?_; clear hS; intro wk hS) | (refine sl_box hS rfl _ 23 (box_vec rfl rfl) ?_; clear hS; intro bk wk hS) | (refine sl_box hS rfl _ 23 (alloc_vec rfl) ?_; clear hS; intro bk wk hS) | (refine onlyN_end ?_) | (refine onlyN_now ?_))
              exact ⟨⟨2, by omega, rfl, hS.tail.tail⟩, by simp [intOf]⟩
        · as_aux_lemma =>
          have C1 := fun w => two_B 32 21 a b (by omega) (by omega) HA.out HB.out w
          have C2 := fun w => calls_gr (base_any 32 (by omega) w)
          rw [show baI 32 = 64928 from rfl] at C2
          have C3 := fun w => sh_S 32 2 a n (by omega) (by omega) HA.out hn 64941 rfl w
          have HK1 := Lib.hid (fun (j : Nat) (hj : thereB 32 j = true) w => num32 2 (by omega) HA.out HB.out hj w)
          have HK2 := Lib.hid (fun (j : Nat) (hj : thereB 32 j = true) w => nsh32 2 (by omega) HA.out hn hj w)
          rw [show offI 2 = 21 from rfl] at HK1
          have HBY := Lib.hid (B_byt 32 21 a b)
          have HSY := Lib.hid (S_byt 32 2 HA.out n)
          generalize B 32 21 a b = zz at *
          generalize S 32 2 a n = tt at *
          have XC1 := Lib.hid C1
          clear C1
          have XC2 := Lib.hid C2
          clear C2
          have XC3 := Lib.hid C3
          clear C3
          go_upto_region 15 with (first | (refine sl_load hS rfl 23 _ rfl rfl (by repeat (first | exact Has.hd | apply Has.tl)) Try.underlying23 rfl (by exact infoV) ?_) | (refine sl_store hS rfl 23 _ _ rfl rfl rfl (by repeat (first | exact Rep.hd | apply Rep.tl)) (by exact infoV) (by rfl) (bs_one _) ?_; clear hS; intro wk hS) | (refine sl_box hS rfl _ 23 (box_vec rfl rfl) ?_; clear hS; intro bk wk hS) | (refine sl_box hS rfl _ 23 (alloc_vec rfl) ?_; clear hS; intro bk wk hS) | (refine onlyN_end ?_) | (refine onlyN_now ?_))
          refine sd_alloc 8 (bs fun _ => 0) 23 12 hS (by kernel_rfl) (by kernel_rfl) (lays_vec rfl rfl rfl) rfl ?_
          simp only [List.take_succ_cons, List.take_zero, List.drop_succ_cons, List.drop_zero]
          iterate 8 (refine sd_step (fun K hK => ?_); (first | (refine sd_load rfl 23 _ rfl rfl (by repeat (first | exact Has.hd | apply Has.tl)) Try.underlying23 rfl (by exact infoV) ?_) | (refine sd_cell rfl _ _ rfl rfl (by repeat (first | exact Has.hd | apply Has.tl)) (by rfl) (by intro w hc; go_simp) ?_) | (apply sd_yes rfl; focus (intro wx hx; go_simp; first | (apply sd_enter; first | fail | with_reducible exact XC1.out wx) | exact ⟨rfl, Gr.refl _⟩)) | (refine sd_no rfl ?_)); go_simp; refine hK _ ?_; clear hK K)
          refine sd_nil ?_
          clear hS
          intro pv wk hS
          simp only [Act.put, List.setIfInBounds_toArray, List.set_cons_succ, List.set_cons_zero]
          go_upto_region 16 with (first | (refine sl_load hS rfl 23 _ rfl rfl (by repeat (first | exact Has.hd | apply Has.tl)) Try.underlying23 rfl (by exact infoV) ?_) | (refine sl_store hS rfl 23 _ _ rfl rfl rfl (by repeat (first | exact Rep.hd | apply Rep.tl)) (by exact infoV) (by rfl) (bs_one _) ?_; clear hS; intro wk hS) | (refine sl_box hS rfl _ 23 (box_vec rfl rfl) ?_; clear hS; intro bk wk hS) | (refine sl_box hS rfl _ 23 (alloc_vec rfl) ?_; clear hS; intro bk wk hS) | (refine onlyN_end ?_) | (refine onlyN_now ?_))
          have hw1 : IntKind.i64.wrap 64939 = 64939 := by decide +kernel
          have hw2 : IntKind.i64.wrap 64941 = 64941 := by decide +kernel
          refine sd_alloc 11 (bs fun _ => 0) 23 13 hS (by kernel_rfl) (by kernel_rfl) (lays_vec rfl rfl rfl) rfl ?_
          simp only [List.take_succ_cons, List.take_zero, List.drop_succ_cons, List.drop_zero]
          iterate 11 (refine sd_step (fun K hK => ?_); (first | (refine sd_load rfl 23 _ rfl rfl (by repeat (first | exact Has.hd | apply Has.tl)) Try.underlying23 rfl (by exact infoV) ?_) | (refine sd_cell rfl _ _ rfl rfl (by repeat (first | exact Has.hd | apply Has.tl)) (by rfl) (by intro w hc; go_simp) ?_) | (apply sd_yes rfl; focus (intro wx hx; go_simp; first | (apply sd_enter; first | fail | with_reducible exact XC2.out wx | with_reducible exact XC3.out wx) | exact ⟨rfl, Gr.refl _⟩)) | (refine sd_no rfl ?_)); go_simp; refine hK _ ?_; clear hK K)
          refine sd_nil ?_
          clear hS hw1 hw2
          intro pt wk hS
          simp only [Act.put, List.setIfInBounds_toArray, List.set_cons_succ, List.set_cons_zero]
          go_wp2_with (first | (refine sl_load hS rfl 23 _ rfl rfl (by repeat (first | exact Has.hd | apply Has.tl)) Try.underlying23 rfl (by exact infoV) ?_) | (refine sl_store hS rfl 23 _ _ rfl rfl rfl (by repeat (first | exact Rep.hd | apply Rep.tl)) (by exact infoV) (by rfl) (bs_one _) ?_; clear hS; intro wk hS) | (refine sl_box hS rfl _ 23 (box_vec rfl rfl) ?_; clear hS; intro bk wk hS) | (refine sl_box hS rfl _ 23 (alloc_vec rfl) ?_; clear hS; intro bk wk hS) | (refine onlyN_end ?_) | (refine onlyN_now ?_))
          go_loopw [15] (fun u wr => ∃ k : Nat, k ≤ 4 ∧ u = .int .i64 k ∧ St w (⟨pt, bs tt, 23⟩ :: ⟨pv, bs zz, 23⟩ :: ⟨bo, #[.int .i64 14, .int .i64 17, .int .i64 21], 3⟩ :: [⟨q, bs b, 23⟩, ⟨p, bs a, 23⟩]) wr) (fun u _ => 4 - (intOf u).toNat)
          case atStart => exact ⟨0, by omega, rfl, hS⟩
          case round =>
            obtain ⟨k, hk, rfl, hS⟩ := hrel
            by_cases hlt : k < 4
            · have hj : thereB 32 k = true := there_iff.2 ⟨by omega, by show (k : Int) < 4; omega⟩
              have E1 := fun w => get_any a HA.out 32 k w
              have E2 := fun w => get_any b HB.out 32 k w
              have E3 := fun w => get_any zz HBY.out 32 k w
              have E4 := fun w => get_any tt HSY.out 32 k w
              have E5 := fun w => HK1.out k hj w
              have E6 := fun w => HK2.out k hj w
              rw [show (106 : Int) + 2 = 108 from rfl] at E5
              rw [show (116 : Int) + 2 = 118 from rfl] at E6
              generalize getI a 32 k = x at *
              generalize getI b 32 k = y at *
              generalize getI zz 32 k = z at *
              generalize getI tt 32 k = t at *
              have XE1 := Lib.hid E1
              clear E1
              have XE2 := Lib.hid E2
              clear E2
              have XE3 := Lib.hid E3
              clear E3
              have XE4 := Lib.hid E4
              clear E4
              have XE5 := Lib.hid E5
              clear E5
              have XE6 := Lib.hid E6
              clear E6
              go_upto_region 22 with (first | (refine sl_load hS rfl 23 _ rfl rfl (by repeat (first | exact Has.hd | apply Has.tl)) Try.underlying23 rfl (by exact infoV) ?_) | (refine sl_store hS rfl 23 _ _ rfl rfl rfl (by repeat (first | exact Rep.hd | apply Rep.tl)) (by exact infoV) (by rfl) (bs_one _) ?_; clear hS; intro wk hS) | (refine sl_box hS rfl _ 23 (box_vec rfl rfl) ?_; clear hS; intro bk wk hS) | (refine sl_box hS rfl _ 23 (alloc_vec rfl) ?_; clear hS; intro bk wk hS) | (refine onlyN_end ?_) | (refine onlyN_now ?_))
              have hw1 : IntKind.i64.wrap 108 = 108 := by decide +kernel
              refine sd_all hS (by kernel_rfl) (by kernel_rfl) ?_
              iterate 17 (refine sd_step (fun K hK => ?_); (first | (refine sd_load rfl 23 _ rfl rfl (by repeat (first | exact Has.hd | apply Has.tl)) Try.underlying23 rfl (by exact infoV) ?_) | (apply sd_yes rfl; focus (intro wx hx; go_simp; first | (apply sd_enter; first | fail | with_reducible exact XE1.out wx | with_reducible exact XE2.out wx | with_reducible exact XE5.out wx) | exact ⟨rfl, Gr.refl _⟩)) | (refine sd_no rfl ?_)); go_simp; refine hK _ ?_; clear hK K)
              refine sd_nil ?_
              clear hS hw1
              intro wk hS
              go_wp2_with (first | (refine sl_load hS rfl 23 _ rfl rfl (by repeat (first | exact Has.hd | apply Has.tl)) Try.underlying23 rfl (by exact infoV) ?_) | (refine sl_store hS rfl 23 _ _ rfl rfl rfl (by repeat (first | exact Rep.hd | apply Rep.tl)) (by exact infoV) (by rfl) (bs_one _) ?_; clear hS; intro wk hS) | (refine sl_box hS rfl _ 23 (box_vec rfl rfl) ?_; clear hS; intro bk wk hS) | (refine sl_box hS rfl _ 23 (alloc_vec rfl) ?_; clear hS; intro bk wk hS) | (refine onlyN_end ?_) | (refine onlyN_now ?_) | ((go_at_call 16); (with_reducible refine sl_call hS (XE1.out _) ?_); clear hS; intro wk hS) | ((go_at_call 16); (with_reducible refine sl_call hS (XE3.out _) ?_); clear hS; intro wk hS) | ((go_at_call 16); (with_reducible refine sl_call hS (XE4.out _) ?_); clear hS; intro wk hS) | ((go_at_call 26); (with_reducible refine sl_call hS (XE6.out _) ?_); clear hS; intro wk hS))
              exact ⟨⟨k + 1, by omega, by go_num, hS⟩, by simp [intOf]; omega⟩
            · obtain rfl : k = 4 := by omega
              go_wp2_with (first | (refine sl_load hS rfl 23 _ rfl rfl (by repeat (first | exact Has.hd | apply Has.tl)) Try.underlying23 rfl (by exact infoV) ?_) | (refine sl_store hS rfl 23 _ _ rfl rfl rfl (by repeat (first | exact Rep.hd | apply Rep.tl)) (by exact infoV) (by rfl) (bs_one _) ?_; clear hS; intro wk hS) | (refine sl_box hS rfl _ 23 (box_vec rfl rfl) ?_; clear hS; intro bk wk hS) | (refine sl_box hS rfl _ 23 (alloc_vec rfl) ?_; clear hS; intro bk wk hS) | (refine onlyN_end ?_) | (refine onlyN_now ?_))
              exact ⟨⟨3, by omega, rfl, hS.tail.tail⟩, by simp [intOf]⟩
        · go_wp2_with (first | (refine sl_load hS rfl 23 _ rfl rfl (by repeat (first | exact Has.hd | apply Has.tl)) Try.underlying23 rfl (by exact infoV) ?_) | (refine sl_store hS rfl 23 _ _ rfl rfl rfl (by repeat (first | exact Rep.hd | apply Rep.tl)) (by exact infoV) (by rfl) (bs_one _) ?_; clear hS; intro wk hS) | (refine sl_box hS rfl _ 23 (box_vec rfl rfl) ?_; clear hS; intro bk wk hS) | (refine sl_box hS rfl _ 23 (alloc_vec rfl) ?_; clear hS; intro bk wk hS) | (refine onlyN_end ?_) | (refine onlyN_now ?_))
          exact ⟨⟨64, by omega, rfl, hS.tail⟩, by simp [intOf]⟩
    · go_upto_region 11 with (first | (refine sl_load hS rfl 23 _ rfl rfl (by repeat (first | exact Has.hd | apply Has.tl)) Try.underlying23 rfl (by exact infoV) ?_) | (refine sl_store hS rfl 23 _ _ rfl rfl rfl (by repeat (first | exact Rep.hd | apply Rep.tl)) (by exact infoV) (by rfl) (bs_one _) ?_; clear hS; intro wk hS) | (refine sl_box hS rfl _ 23 (box_vec rfl rfl) ?_; clear hS; intro bk wk hS) | (refine sl_box hS rfl _ 23 (alloc_vec rfl) ?_; clear hS; intro bk wk hS) | (refine onlyN_end ?_) | (refine onlyN_now ?_))
      refine wp_region_lit ?_
      refine sl_new hS rfl #[.int .i64 14, .int .i64 17, .int .i64 21] 3 (fun b => .slice (some ⟨b, 0, none⟩) 3 3) (by intro w; go_simp) ?_
      clear hS
      intro bo wk hS
      go_wp2_with (first | (refine sl_load hS rfl 23 _ rfl rfl (by repeat (first | exact Has.hd | apply Has.tl)) Try.underlying23 rfl (by exact infoV) ?_) | (refine sl_store hS rfl 23 _ _ rfl rfl rfl (by repeat (first | exact Rep.hd | apply Rep.tl)) (by exact infoV) (by rfl) (bs_one _) ?_; clear hS; intro wk hS) | (refine sl_box hS rfl _ 23 (box_vec rfl rfl) ?_; clear hS; intro bk wk hS) | (refine sl_box hS rfl _ 23 (alloc_vec rfl) ?_; clear hS; intro bk wk hS) | (refine onlyN_end ?_) | (refine onlyN_now ?_))
      go_loopw [11] (fun u wr => ∃ d : Int, (d = 0 ∨ d = 1 ∨ d = 2 ∨ d = 3) ∧ u = .int .i64 d ∧ St w (⟨bo, #[.int .i64 14, .int .i64 17, .int .i64 21], 3⟩ :: [⟨q, bs b, 23⟩, ⟨p, bs a, 23⟩]) wr) (fun u _ => (4 - intOf u).toNat)
      case atStart => exact ⟨0, by omega, rfl, hS⟩
      case round =>
        obtain ⟨d, hd, rfl, hS⟩ := hrel
        rcases hd with rfl | rfl | rfl | rfl
        · as_aux_lemma =>
          have C1 := fun w => two_B 64 14 a b (by omega) (by omega) HA.out HB.out w
          have C2 := fun w => calls_gr (base_any 64 (by omega) w)
          rw [show baI 64 = 64960 from rfl] at C2
          have C3 := fun w => sh_S 64 0 a n (by omega) (by omega) HA.out hn 64971 rfl w
          have HK1 := Lib.hid (fun (j : Nat) (hj : thereB 64 j = true) w => num64 0 (by omega) HA.out HB.out hj w)
          have HK2 := Lib.hid (fun (j : Nat) (hj : thereB 64 j = true) w => nsh64 0 (by omega) HA.out hn hj w)
          rw [show offI 0 = 14 from rfl] at HK1
          have HBY := Lib.hid (B_byt 64 14 a b)
          have HSY := Lib.hid (S_byt 64 0 HA.out n)
          generalize B 64 14 a b = zz at *
          generalize S 64 0 a n = tt at *
          have XC1 := Lib.hid C1
          clear C1
          have XC2 := Lib.hid C2
          clear C2
          have XC3 := Lib.hid C3
          clear C3
          go_upto_region 15 with (first | (refine sl_load hS rfl 23 _ rfl rfl (by repeat (first | exact Has.hd | apply Has.tl)) Try.underlying23 rfl (by exact infoV) ?_) | (refine sl_store hS rfl 23 _ _ rfl rfl rfl (by repeat (first | exact Rep.hd | apply Rep.tl)) (by exact infoV) (by rfl) (bs_one _) ?_; clear hS; intro wk hS) | (refine sl_box hS rfl _ 23 (box_vec rfl rfl) ?_; clear hS; intro bk wk hS) | (refine sl_box hS rfl _ 23 (alloc_vec rfl) ?_; clear hS; intro bk wk hS) | (refine onlyN_end ?_) | (refine onlyN_now ?_))
          refine sd_alloc 8 (bs fun _ => 0) 23 12 hS (by kernel_rfl) (by kernel_rfl) (lays_vec rfl rfl rfl) rfl ?_
          simp only [List.take_succ_cons, List.take_zero, List.drop_succ_cons, List.drop_zero]
          iterate 8 (refine sd_step (fun K hK => ?_); (first | (refine sd_load rfl 23 _ rfl rfl (by repeat (first | exact Has.hd | apply Has.tl)) Try.underlying23 rfl (by exact infoV) ?_) | (refine sd_cell rfl _ _ rfl rfl (by repeat (first | exact Has.hd | apply Has.tl)) (by rfl) (by intro w hc; go_simp) ?_) | (apply sd_yes rfl; focus (intro wx hx; go_simp; first | (apply sd_enter; first | fail | with_reducible exact XC1.out wx) | exact ⟨rfl, Gr.refl _⟩)) | (refine sd_no rfl ?_)); go_simp; refine hK _ ?_; clear hK K)
          refine sd_nil ?_
          clear hS
          intro pv wk hS
          simp only [Act.put, List.setIfInBounds_toArray, List.set_cons_succ, List.set_cons_zero]
          go_upto_region 16 with (first | (refine sl_load hS rfl 23 _ rfl rfl (by repeat (first | exact Has.hd | apply Has.tl)) Try.underlying23 rfl (by exact infoV) ?_) | (refine sl_store hS rfl 23 _ _ rfl rfl rfl (by repeat (first | exact Rep.hd | apply Rep.tl)) (by exact infoV) (by rfl) (bs_one _) ?_; clear hS; intro wk hS) | (refine sl_box hS rfl _ 23 (box_vec rfl rfl) ?_; clear hS; intro bk wk hS) | (refine sl_box hS rfl _ 23 (alloc_vec rfl) ?_; clear hS; intro bk wk hS) | (refine onlyN_end ?_) | (refine onlyN_now ?_))
          have hw1 : IntKind.i64.wrap 64971 = 64971 := by decide +kernel
          have hw2 : IntKind.i64.wrap 64971 = 64971 := by decide +kernel
          refine sd_alloc 11 (bs fun _ => 0) 23 13 hS (by kernel_rfl) (by kernel_rfl) (lays_vec rfl rfl rfl) rfl ?_
          simp only [List.take_succ_cons, List.take_zero, List.drop_succ_cons, List.drop_zero]
          iterate 11 (refine sd_step (fun K hK => ?_); (first | (refine sd_load rfl 23 _ rfl rfl (by repeat (first | exact Has.hd | apply Has.tl)) Try.underlying23 rfl (by exact infoV) ?_) | (refine sd_cell rfl _ _ rfl rfl (by repeat (first | exact Has.hd | apply Has.tl)) (by rfl) (by intro w hc; go_simp) ?_) | (apply sd_yes rfl; focus (intro wx hx; go_simp; first | (apply sd_enter; first | fail | with_reducible exact XC2.out wx | with_reducible exact XC3.out wx) | exact ⟨rfl, Gr.refl _⟩)) | (refine sd_no rfl ?_)); go_simp; refine hK _ ?_; clear hK K)
          refine sd_nil ?_
          clear hS hw1 hw2
          intro pt wk hS
          simp only [Act.put, List.setIfInBounds_toArray, List.set_cons_succ, List.set_cons_zero]
          go_wp2_with (first | (refine sl_load hS rfl 23 _ rfl rfl (by repeat (first | exact Has.hd | apply Has.tl)) Try.underlying23 rfl (by exact infoV) ?_) | (refine sl_store hS rfl 23 _ _ rfl rfl rfl (by repeat (first | exact Rep.hd | apply Rep.tl)) (by exact infoV) (by rfl) (bs_one _) ?_; clear hS; intro wk hS) | (refine sl_box hS rfl _ 23 (box_vec rfl rfl) ?_; clear hS; intro bk wk hS) | (refine sl_box hS rfl _ 23 (alloc_vec rfl) ?_; clear hS; intro bk wk hS) | (refine onlyN_end ?_) | (refine onlyN_now ?_))
          go_loopw [15] (fun u wr => ∃ k : Nat, k ≤ 2 ∧ u = .int .i64 k ∧ St w (⟨pt, bs tt, 23⟩ :: ⟨pv, bs zz, 23⟩ :: ⟨bo, #[.int .i64 14, .int .i64 17, .int .i64 21], 3⟩ :: [⟨q, bs b, 23⟩, ⟨p, bs a, 23⟩]) wr) (fun u _ => 2 - (intOf u).toNat)
          case atStart => exact ⟨0, by omega, rfl, hS⟩
          case round =>
            obtain ⟨k, hk, rfl, hS⟩ := hrel
            by_cases hlt : k < 2
            · have hj : thereB 64 k = true := there_iff.2 ⟨by omega, by show (k : Int) < 2; omega⟩
              have E1 := fun w => get_any a HA.out 64 k w
              have E2 := fun w => get_any b HB.out 64 k w
              have E3 := fun w => get_any zz HBY.out 64 k w
              have E4 := fun w => get_any tt HSY.out 64 k w
              have E5 := fun w => HK1.out k hj w
              have E6 := fun w => HK2.out k hj w
              rw [show (124 : Int) + 0 = 124 from rfl] at E5
              rw [show (134 : Int) + 0 = 134 from rfl] at E6
              generalize getI a 64 k = x at *
              generalize getI b 64 k = y at *
              generalize getI zz 64 k = z at *
              generalize getI tt 64 k = t at *
              have XE1 := Lib.hid E1
              clear E1
              have XE2 := Lib.hid E2
              clear E2
              have XE3 := Lib.hid E3
              clear E3
              have XE4 := Lib.hid E4
              clear E4
              have XE5 := Lib.hid E5
              clear E5
              have XE6 := Lib.hid E6
              clear E6
              go_upto_region 22 with (first | (refine sl_load hS rfl 23 _ rfl rfl (by repeat (first | exact Has.hd | apply Has.tl)) Try.underlying23 rfl (by exact infoV) ?_) | (refine sl_store hS rfl 23 _ _ rfl rfl rfl (by repeat (first | exact Rep.hd | apply Rep.tl)) (by exact infoV) (by rfl) (bs_one _) ?_; clear hS; intro wk hS) | (refine sl_box hS rfl _ 23 (box_vec rfl rfl) ?_; clear hS; intro bk wk hS) | (refine sl_box hS rfl _ 23 (alloc_vec rfl) ?_; clear hS; intro bk wk hS) | (refine onlyN_end ?_) | (refine onlyN_now ?_))
              have hw1 : IntKind.i64.wrap 124 = 124 := by decide +kernel
              refine sd_all hS (by kernel_rfl) (by kernel_rfl) ?_
              iterate 17 (refine sd_step (fun K hK => ?_); (first | (refine sd_load rfl 23 _ rfl rfl (by repeat (first | exact Has.hd | apply Has.tl)) Try.underlying23 rfl (by exact infoV) ?_) | (apply sd_yes rfl; focus (intro wx hx; go_simp; first | (apply sd_enter; first | fail | with_reducible exact XE1.out wx | with_reducible exact XE2.out wx | with_reducible exact XE5.out wx) | exact ⟨rfl, Gr.refl _⟩)) | (refine sd_no rfl ?_)); go_simp; refine hK _ ?_; clear hK K)
              refine sd_nil ?_
              clear hS hw1
              intro wk hS
              go_wp2_with (first | (refine sl_load hS rfl 23 _ rfl rfl (by repeat (first | exact Has.hd | apply Has.tl)) Try.underlying23 rfl (by exact infoV) ?_) | (refine sl_store hS rfl 23 _ _ rfl rfl rfl (by repeat (first | exact Rep.hd | apply Rep.tl)) (by exact infoV) (by rfl) (bs_one _) ?_; clear hS; intro wk hS) | (refine sl_box hS rfl _ 23 (box_vec rfl rfl) ?_; clear hS; intro bk wk hS) | (refine sl_box hS rfl _ 23 (alloc_vec rfl) ?_; clear hS; intro bk wk hS) | (refine onlyN_end ?_) | (refine onlyN_now ?_) | ((go_at_call 16); (with_reducible refine sl_call hS (XE1.out _) ?_); clear hS; intro wk hS) | ((go_at_call 16); (with_reducible refine sl_call hS (XE3.out _) ?_); clear hS; intro wk hS) | ((go_at_call 16); (with_reducible refine sl_call hS (XE4.out _) ?_); clear hS; intro wk hS) | ((go_at_call 26); (with_reducible refine sl_call hS (XE6.out _) ?_); clear hS; intro wk hS))
              exact ⟨⟨k + 1, by omega, by go_num, hS⟩, by simp [intOf]; omega⟩
            · obtain rfl : k = 2 := by omega
              go_wp2_with (first | (refine sl_load hS rfl 23 _ rfl rfl (by repeat (first | exact Has.hd | apply Has.tl)) Try.underlying23 rfl (by exact infoV) ?_) | (refine sl_store hS rfl 23 _ _ rfl rfl rfl (by repeat (first | exact Rep.hd | apply Rep.tl)) (by exact infoV) (by rfl) (bs_one _) ?_; clear hS; intro wk hS) | (refine sl_box hS rfl _ 23 (box_vec rfl rfl) ?_; clear hS; intro bk wk hS) | (refine sl_box hS rfl _ 23 (alloc_vec rfl) ?_; clear hS; intro bk wk hS) | (refine onlyN_end ?_) | (refine onlyN_now ?_))
              exact ⟨⟨1, by omega, rfl, hS.tail.tail⟩, by simp [intOf]⟩
        · as_aux_lemma =>
          have C1 := fun w => two_B 64 17 a b (by omega) (by omega) HA.out HB.out w
          have C2 := fun w => calls_gr (base_any 64 (by omega) w)
          rw [show baI 64 = 64960 from rfl] at C2
          have C3 := fun w => sh_S 64 1 a n (by omega) (by omega) HA.out hn 64972 rfl w
          have HK1 := Lib.hid (fun (j : Nat) (hj : thereB 64 j = true) w => num64 1 (by omega) HA.out HB.out hj w)
          have HK2 := Lib.hid (fun (j : Nat) (hj : thereB 64 j = true) w => nsh64 1 (by omega) HA.out hn hj w)
          rw [show offI 1 = 17 from rfl] at HK1
          have HBY := Lib.hid (B_byt 64 17 a b)
          have HSY := Lib.hid (S_byt 64 1 HA.out n)
          generalize B 64 17 a b = zz at *
          generalize S 64 1 a n = tt at *
          have XC1 := Lib.hid C1
          clear C1
          have XC2 := Lib.hid C2
          clear C2
          have XC3 := Lib.hid C3
          clear C3
          go_upto_region 15 with (first | (refine sl_load hS rfl 23 _ rfl rfl (by repeat (first | exact Has.hd | apply Has.tl)) Try.underlying23 rfl (by exact infoV) ?_) | (refine sl_store hS rfl 23 _ _ rfl rfl rfl (by repeat (first | exact Rep.hd | apply Rep.tl)) (by exact infoV) (by rfl) (bs_one _) ?_; clear hS; intro wk hS) | (refine sl_box hS rfl _ 23 (box_vec rfl rfl) ?_; clear hS; intro bk wk hS) | (refine sl_box hS rfl _ 23 (alloc_vec rfl) ?_; clear hS; intro bk wk hS) | (refine onlyN_end ?_) | (refine onlyN_now ?_))
          refine sd_alloc 8 (bs fun _ => 0) 23 12 hS (by kernel_rfl) (by kernel_rfl) (lays_vec rfl rfl rfl) rfl ?_
          simp only [List.take_succ_cons, List.take_zero, List.drop_succ_cons, List.drop_zero]
          iterate 8 (refine sd_step (fun K hK => ?_); (first | (refine sd_load rfl 23 _ rfl rfl (by repeat (first | exact Has.hd | apply Has.tl)) Try.underlying23 rfl (by exact infoV) ?_) | (refine sd_cell rfl _ _ rfl rfl (by repeat (first | exact Has.hd | apply Has.tl)) (by rfl) (by intro w hc; go_simp) ?_) | (apply sd_yes rfl; focus (intro wx hx; go_simp; first | (apply sd_enter; first | fail | with_reducible exact XC1.out wx) | exact ⟨rfl, Gr.refl _⟩)) | (refine sd_no rfl ?_)); go_simp; refine hK _ ?_; clear hK K)
          refine sd_nil ?_
          clear hS
          intro pv wk hS
          simp only [Act.put, List.setIfInBounds_toArray, List.set_cons_succ, List.set_cons_zero]
          go_upto_region 16 with (first | (refine sl_load hS rfl 23 _ rfl rfl (by repeat (first | exact Has.hd | apply Has.tl)) Try.underlying23 rfl (by exact infoV) ?_) | (refine sl_store hS rfl 23 _ _ rfl rfl rfl (by repeat (first | exact Rep.hd | apply Rep.tl)) (by exact infoV) (by rfl) (bs_one _) ?_; clear hS; intro wk hS) | (refine sl_box hS rfl _ 23 (box_vec rfl rfl) ?_; clear hS; intro bk wk hS) | (refine sl_box hS rfl _ 23 (alloc_vec rfl) ?_; clear hS; intro bk wk hS) | (refine onlyN_end ?_) | (refine onlyN_now ?_))
          have hw1 : IntKind.i64.wrap 64971 = 64971 := by decide +kernel
          have hw2 : IntKind.i64.wrap 64972 = 64972 := by decide +kernel
          refine sd_alloc 11 (bs fun _ => 0) 23 13 hS (by kernel_rfl) (by kernel_rfl) (lays_vec rfl rfl rfl) rfl ?_
          simp only [List.take_succ_cons, List.take_zero, List.drop_succ_cons, List.drop_zero]
          iterate 11 (refine sd_step (fun K hK => ?_); (first | (refine sd_load rfl 23 _ rfl rfl (by repeat (first | exact Has.hd | apply Has.tl)) Try.underlying23 rfl (by exact infoV) ?_) | (refine sd_cell rfl _ _ rfl rfl (by repeat (first | exact Has.hd | apply Has.tl)) (by rfl) (by intro w hc; go_simp) ?_) | (apply sd_yes rfl; focus (intro wx hx; go_simp; first | (apply sd_enter; first | fail | with_reducible exact XC2.out wx | with_reducible exact XC3.out wx) | exact ⟨rfl, Gr.refl _⟩)) | (refine sd_no rfl ?_)); go_simp; refine hK _ ?_; clear hK K)
          refine sd_nil ?_
          clear hS hw1 hw2
          intro pt wk hS
          simp only [Act.put, List.setIfInBounds_toArray, List.set_cons_succ, List.set_cons_zero]
          go_wp2_with (first | (refine sl_load hS rfl 23 _ rfl rfl (by repeat (first | exact Has.hd | apply Has.tl)) Try.underlying23 rfl (by exact infoV) ?_) | (refine sl_store hS rfl 23 _ _ rfl rfl rfl (by repeat (first | exact Rep.hd | apply Rep.tl)) (by exact infoV) (by rfl) (bs_one _) ?_; clear hS; intro wk hS) | (refine sl_box hS rfl _ 23 (box_vec rfl rfl) ?_; clear hS; intro bk wk hS) | (refine sl_box hS rfl _ 23 (alloc_vec rfl) ?_; clear hS; intro bk wk hS) | (refine onlyN_end ?_) | (refine onlyN_now ?_))
          go_loopw [15] (fun u wr => ∃ k : Nat, k ≤ 2 ∧ u = .int .i64 k ∧ St w (⟨pt, bs tt, 23⟩ :: ⟨pv, bs zz, 23⟩ :: ⟨bo, #[.int .i64 14, .int .i64 17, .int .i64 21], 3⟩ :: [⟨q, bs b, 23⟩, ⟨p, bs a, 23⟩]) wr) (fun u _ => 2 - (intOf u).toNat)
          case atStart => exact ⟨0, by omega, rfl, hS⟩
          case round =>
            obtain ⟨k, hk, rfl, hS⟩ := hrel
            by_cases hlt : k < 2
            · have hj : thereB 64 k = true := there_iff.2 ⟨by omega, by show (k : Int) < 2; omega⟩
              have E1 := fun w => get_any a HA.out 64 k w
              have E2 := fun w => get_any b HB.out 64 k w
              have E3 := fun w => get_any zz HBY.out 64 k w
              have E4 := fun w => get_any tt HSY.out 64 k w
              have E5 := fun w => HK1.out k hj w
              have E6 := fun w => HK2.out k hj w
              rw [show (124 : Int) + 1 = 125 from rfl] at E5
              rw [show (134 : Int) + 1 = 135 from rfl] at E6
              generalize getI a 64 k = x at *
              generalize getI b 64 k = y at *
              generalize getI zz 64 k = z at *
              generalize getI tt 64 k = t at *
              have XE1 := Lib.hid E1
              clear E1
              have XE2 := Lib.hid E2
              clear E2
              have XE3 := Lib.hid E3
              clear E3
              have XE4 := Lib.hid E4
              clear E4
              have XE5 := Lib.hid E5
              clear E5
              have XE6 := Lib.hid E6
              clear E6
              go_upto_region 22 with (first | (refine sl_load hS rfl 23 _ rfl rfl (by repeat (first | exact Has.hd | apply Has.tl)) Try.underlying23 rfl (by exact infoV) ?_) | (refine sl_store hS rfl 23 _ _ rfl rfl rfl (by repeat (first | exact Rep.hd | apply Rep.tl)) (by exact infoV) (by rfl) (bs_one _) ?_; clear hS; intro wk hS) | (refine sl_box hS rfl _ 23 (box_vec rfl rfl) ?_; clear hS; intro bk wk hS) | (refine sl_box hS rfl _ 23 (alloc_vec rfl) ?_; clear hS; intro bk wk hS) | (refine onlyN_end ?_) | (refine onlyN_now ?_))
              have hw1 : IntKind.i64.wrap 125 = 125 := by decide +kernel
              refine sd_all hS (by kernel_rfl) (by kernel_rfl) ?_
              iterate 17 (refine sd_step (fun K hK => ?_); (first | (refine sd_load rfl 23 _ rfl rfl (by repeat (first | exact Has.hd | apply Has.tl)) Try.underlying23 rfl (by exact infoV) ?_) | (apply sd_yes rfl; focus (intro wx hx; go_simp; first | (apply sd_enter; first | fail | with_reducible exact XE1.out wx | with_reducible exact XE2.out wx | with_reducible exact XE5.out wx) | exact ⟨rfl, Gr.refl _⟩)) | (refine sd_no rfl ?_)); go_simp; refine hK _ ?_; clear hK K)
              refine sd_nil ?_
              clear hS hw1
              intro wk hS
              go_wp2_with (first | (refine sl_load hS rfl 23 _ rfl rfl (by repeat (first | exact Has.hd | apply Has.tl)) Try.underlying23 rfl (by exact infoV) ?_) | (refine sl_store hS rfl 23 _ _ rfl rfl rfl (by repeat (first | exact Rep.hd | apply Rep.tl)) (by exact infoV) (by rfl) (bs_one _) ?_; clear hS; intro wk hS) | (refine sl_box hS rfl _ 23 (box_vec rfl rfl) ?_; clear hS; intro bk wk hS) | (refine sl_box hS rfl _ 23 (alloc_vec rfl) ?_; clear hS; intro bk wk hS) | (refine onlyN_end ?_) | (refine onlyN_now ?_) | ((go_at_call 16); (with_reducible refine sl_call hS (XE1.out _) ?_); clear hS; intro wk hS) | ((go_at_call 16); (with_reducible refine sl_call hS (XE3.out _) ?_); clear hS; intro wk hS) | ((go_at_call 16); (with_reducible refine sl_call hS (XE4.out _) ?_); clear hS; intro wk hS) | ((go_at_call 26); (with_reducible refine sl_call hS (XE6.out _) ?_); clear hS; intro wk hS))
              exact ⟨⟨k + 1, by omega, by go_num, hS⟩, by simp [intOf]; omega⟩
            · obtain rfl : k = 2 := by omega
              go_wp2_with (first | (refine sl_load hS rfl 23 _ rfl rfl (by repeat (first | exact Has.hd | apply Has.tl)) Try.underlying23 rfl (by exact infoV) ?_) | (refine sl_store hS rfl 23 _ _ rfl rfl rfl (by repeat (first | exact Rep.hd | apply Rep.tl)) (by exact infoV) (by rfl) (bs_one _) ?_; clear hS; intro wk hS) | (refine sl_box hS rfl _ 23 (box_vec rfl rfl) ?_; clear hS; intro bk wk hS) | (refine sl_box hS rfl _ 23 (alloc_vec rfl) ?_; clear hS; intro bk wk hS) | (refine onlyN_end ?_) | (refine onlyN_now ?_))
              exact ⟨⟨2, by omega, rfl, hS.tail.tail⟩, by simp [intOf]⟩
        · as_aux_lemma =>
          have C1 := fun w => two_B 64 21 a b (by omega) (by omega) HA.out HB.out w
          have C2 := fun w => calls_gr (base_any 64 (by omega) w)
          rw [show baI 64 = 64960 from rfl] at C2
          have C3 := fun w => sh_S 64 2 a n (by omega) (by omega) HA.out hn 64973 rfl w
          have HK1 := Lib.hid (fun (j : Nat) (hj : thereB 64 j = true) w => num64 2 (by omega) HA.out HB.out hj w)
          have HK2 := Lib.hid (fun (j : Nat) (hj : thereB 64 j = true) w => nsh64 2 (by omega) HA.out hn hj w)
          rw [show offI 2 = 21 from rfl] at HK1
          have HBY := Lib.hid (B_byt 64 21 a b)
          have HSY := Lib.hid (S_byt 64 2 HA.out n)
          generalize B 64 21 a b = zz at *
          generalize S 64 2 a n = tt at *
          have XC1 := Lib.hid C1
          clear C1
          have XC2 := Lib.hid C2
          clear C2
          have XC3 := Lib.hid C3
          clear C3
          go_upto_region 15 with (first | (refine sl_load hS rfl 23 _ rfl rfl (by repeat (first | exact Has.hd | apply Has.tl)) Try.underlying23 rfl (by exact infoV) ?_) | (refine sl_store hS rfl 23 _ _ rfl rfl rfl (by repeat (first | exact Rep.hd | apply Rep.tl)) (by exact infoV) (by rfl) (bs_one _) ?_; clear hS; intro wk hS) | (refine sl_box hS rfl _ 23 (box_vec rfl rfl) ?_; clear hS; intro bk wk hS) | (refine sl_box hS rfl _ 23 (alloc_vec rfl) ?_; clear hS; intro bk wk hS) | (refine onlyN_end ?_) | (refine onlyN_now ?_))
          refine sd_alloc 8 (bs fun _ => 0) 23 12 hS (by kernel_rfl) (by kernel_rfl) (lays_vec rfl rfl rfl) rfl ?_
          simp only [List.take_succ_cons, List.take_zero, List.drop_succ_cons, List.drop_zero]
          iterate 8 (refine sd_step (fun K hK => ?_); (first | (refine sd_load rfl 23 _ rfl rfl (by repeat (first | exact Has.hd | apply Has.tl)) Try.underlying23 rfl (by exact infoV) ?_) | (refine sd_cell rfl _ _ rfl rfl (by repeat (first | exact Has.hd | apply Has.tl)) (by rfl) (by intro w hc; go_simp) ?_) | (apply sd_yes rfl; focus (intro wx hx; go_simp; first | (apply sd_enter; first | fail | with_reducible exact XC1.out wx) | exact ⟨rfl, Gr.refl _⟩)) | (refine sd_no rfl ?_)); go_simp; refine hK _ ?_; clear hK K)
          refine sd_nil ?_
          clear hS
          intro pv wk hS
          simp only [Act.put, List.setIfInBounds_toArray, List.set_cons_succ, List.set_cons_zero]
          go_upto_region 16 with (first | (refine sl_load hS rfl 23 _ rfl rfl (by repeat (first | exact Has.hd | apply Has.tl)) Try.underlying23 rfl (by exact infoV) ?_) | (refine sl_store hS rfl 23 _ _ rfl rfl rfl (by repeat (first | exact Rep.hd | apply Rep.tl)) (by exact infoV) (by rfl) (bs_one _) ?_; clear hS; intro wk hS) | (refine sl_box hS rfl _ 23 (box_vec rfl rfl) ?_; clear hS; intro bk wk hS) | (refine sl_box hS rfl _ 23 (alloc_vec rfl) ?_; clear hS; intro bk wk hS) | (refine onlyN_end ?_) | (refine onlyN_now ?_))
          have hw1 : IntKind.i64.wrap 64971 = 64971 := by decide +kernel
          have hw2 : IntKind.i64.wrap 64973 = 64973 := by decide +kernel
          refine sd_alloc 11 (bs fun _ => 0) 23 13 hS (by kernel_rfl) (by kernel_rfl) (lays_vec rfl rfl rfl) rfl ?_
          simp only [List.take_succ_cons, List.take_zero, List.drop_succ_cons, List.drop_zero]
          iterate 11 (refine sd_step (fun K hK => ?_); (first | (refine sd_load rfl 23 _ rfl rfl (by repeat (first | exact Has.hd | apply Has.tl)) Try.underlying23 rfl (by exact infoV) ?_) | (refine sd_cell rfl _ _ rfl rfl (by repeat (first | exact Has.hd | apply Has.tl)) (by rfl) (by intro w hc; go_simp) ?_) | (apply sd_yes rfl; focus (intro wx hx; go_simp; first | (apply sd_enter; first | fail | with_reducible exact XC2.out wx | with_reducible exact XC3.out wx) | exact ⟨rfl, Gr.refl _⟩)) | (refine sd_no rfl ?_)); go_simp; refine hK _ ?_; clear hK K)
          refine sd_nil ?_
          clear hS hw1 hw2
          intro pt wk hS
          simp only [Act.put, List.setIfInBounds_toArray, List.set_cons_succ, List.set_cons_zero]
          go_wp2_with (first | (refine sl_load hS rfl 23 _ rfl rfl (by repeat (first | exact Has.hd | apply Has.tl)) Try.underlying23 rfl (by exact infoV) ?_) | (refine sl_store hS rfl 23 _ _ rfl rfl rfl (by repeat (first | exact Rep.hd | apply Rep.tl)) (by exact infoV) (by rfl) (bs_one _) ?_; clear hS; intro wk hS) | (refine sl_box hS rfl _ 23 (box_vec rfl rfl) ?_; clear hS; intro bk wk hS) | (refine sl_box hS rfl _ 23 (alloc_vec rfl) ?_; clear hS; intro bk wk hS) | (refine onlyN_end ?_) | (refine onlyN_now ?_))
          go_loopw [15] (fun u wr => ∃ k : Nat, k ≤ 2 ∧ u = .int .i64 k ∧ St w (⟨pt, bs tt, 23⟩ :: ⟨pv, bs zz, 23⟩ :: ⟨bo, #[.int .i64 14, .int .i64 17, .int .i64 21], 3⟩ :: [⟨q, bs b, 23⟩, ⟨p, bs a, 23⟩]) wr) (fun u _ => 2 - (intOf u).toNat)
          case atStart => exact ⟨0, by omega, rfl, hS⟩
          case round =>
            obtain ⟨k, hk, rfl, hS⟩ := hrel
            by_cases hlt : k < 2
            · have hj : thereB 64 k = true := there_iff.2 ⟨by omega, by show (k : Int) < 2; omega⟩
              have E1 := fun w => get_any a HA.out 64 k w
              have E2 := fun w => get_any b HB.out 64 k w
              have E3 := fun w => get_any zz HBY.out 64 k w
              have E4 := fun w => get_any tt HSY.out 64 k w
              have E5 := fun w => HK1.out k hj w
              have E6 := fun w => HK2.out k hj w
              rw [show (124 : Int) + 2 = 126 from rfl] at E5
              rw [show (134 : Int) + 2 = 136 from rfl] at E6
              generalize getI a 64 k = x at *
              generalize getI b 64 k = y at *
              generalize getI zz 64 k = z at *
              generalize getI tt 64 k = t at *
              have XE1 := Lib.hid E1
              clear E1
              have XE2 := Lib.hid E2
              clear E2
              have XE3 := Lib.hid E3
              clear E3
              have XE4 := Lib.hid E4
              clear E4
              have XE5 := Lib.hid E5
              clear E5
              have XE6 := Lib.hid E6
              clear E6
              go_upto_region 22 with (first | (refine sl_load hS rfl 23 _ rfl rfl (by repeat (first | exact Has.hd | apply Has.tl)) Try.underlying23 rfl (by exact infoV) ?_) | (refine sl_store hS rfl 23 _ _ rfl rfl rfl (by repeat (first | exact Rep.hd | apply Rep.tl)) (by exact infoV) (by rfl) (bs_one _) ?_; clear hS; intro wk hS) | (refine sl_box hS rfl _ 23 (box_vec rfl rfl) ?_; clear hS; intro bk wk hS) | (refine sl_box hS rfl _ 23 (alloc_vec rfl) ?_; clear hS; intro bk wk hS) | (refine onlyN_end ?_) | (refine onlyN_now ?_))
              have hw1 : IntKind.i64.wrap 126 = 126 := by decide +kernel
              refine sd_all hS (by kernel_rfl) (by kernel_rfl) ?_
              iterate 17 (refine sd_step (fun K hK => ?_); (first | (refine sd_load rfl 23 _ rfl rfl (by repeat (first | exact Has.hd | apply Has.tl)) Try.underlying23 rfl (by exact infoV) ?_) | (apply sd_yes rfl; focus (intro wx hx; go_simp; first | (apply sd_enter; first | fail | with_reducible exact XE1.out wx | with_reducible exact XE2.out wx | with_reducible exact XE5.out wx) | exact ⟨rfl, Gr.refl _⟩)) | (refine sd_no rfl ?_)); go_simp; refine hK _ ?_; clear hK K)
              refine sd_nil ?_
              clear hS hw1
              intro wk hS
              go_wp2_with (first | (refine sl_load hS rfl 23 _ rfl rfl (by repeat (first | exact Has.hd | apply Has.tl)) Try.underlying23 rfl (by exact infoV) ?_) | (refine sl_store hS rfl 23 _ _ rfl rfl rfl (by repeat (first | exact Rep.hd | apply Rep.tl)) (by exact infoV) (by rfl) (bs_one _) ?_; clear hS; intro wk hS) | (refine sl_box hS rfl _ 23 (box_vec rfl rfl) ?_; clear hS; intro bk wk hS) | (refine sl_box hS rfl _ 23 (alloc_vec rfl) ?_; clear hS; intro bk wk hS) | (refine onlyN_end ?_) | (refine onlyN_now ?_) | ((go_at_call 16); (with_reducible refine sl_call hS (XE1.out _) ?_); clear hS; intro wk hS) | ((go_at_call 16); (with_reducible refine sl_call hS (XE3.out _) ?_); clear hS; intro wk hS) | ((go_at_call 16); (with_reducible refine sl_call hS (XE4.out _) ?_); clear hS; intro wk hS) | ((go_at_call 26); (with_reducible refine sl_call hS (XE6.out _) ?_); clear hS; intro wk hS))
              exact ⟨⟨k + 1, by omega, by go_num, hS⟩, by simp [intOf]; omega⟩
            · obtain rfl : k = 2 := by omega
              go_wp2_with (first | (refine sl_load hS rfl 23 _ rfl rfl (by repeat (first | exact Has.hd | apply Has.tl)) Try.underlying23 rfl (by exact infoV) ?_) | (refine sl_store hS rfl 23 _ _ rfl rfl rfl (by repeat (first | exact Rep.hd | apply Rep.tl)) (by exact infoV) (by rfl) (bs_one _) ?_; clear hS; intro wk hS) | (refine sl_box hS rfl _ 23 (box_vec rfl rfl) ?_; clear hS; intro bk wk hS) | (refine sl_box hS rfl _ 23 (alloc_vec rfl) ?_; clear hS; intro bk wk hS) | (refine onlyN_end ?_) | (refine onlyN_now ?_))
              exact ⟨⟨3, by omega, rfl, hS.tail.tail⟩, by simp [intOf]⟩
        · go_wp2_with (first | (refine sl_load hS rfl 23 _ rfl rfl (by repeat (first | exact Has.hd | apply Has.tl)) Try.underlying23 rfl (by exact infoV) ?_) | (refine sl_store hS rfl 23 _ _ rfl rfl rfl (by repeat (first | exact Rep.hd | apply Rep.tl)) (by exact infoV) (by rfl) (bs_one _) ?_; clear hS; intro wk hS) | (refine sl_box hS rfl _ 23 (box_vec rfl rfl) ?_; clear hS; intro bk wk hS) | (refine sl_box hS rfl _ 23 (alloc_vec rfl) ?_; clear hS; intro bk wk hS) | (refine onlyN_end ?_) | (refine onlyN_now ?_))
          exact ⟨⟨128, by omega, rfl, hS.tail⟩, by simp [intOf]⟩
    · go_wp2
      go_ret
      exact ⟨rfl, hS.gr⟩
end Ar
end Go.Proofs.Ytalnkkmbjaollaa
