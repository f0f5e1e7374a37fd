/-
  ArithSat: for every pair of vectors the law returns true. Condition: bytes.
-/
import Derived.Test.YtalnkkmbjaollaaArAw
namespace Go.Proofs.Ytalnkkmbjaollaa
open Go.RowKit VecM
namespace Ar
set_option maxRecDepth 100000 in
set_option maxHeartbeats 8000000 in
theorem sat_walk (a b : Nat → Int) (ha : Byt a) (hb : Byt b) (w : World) : Calls Try.prog 6 #[.agg (bs a), .agg (bs b)] w fun e w' => e = .returned (.bool true) ∧ Gr w w' := by
  have HA := Lib.hid ha
  have HB := Lib.hid hb
  clear ha hb
  have hS := St.start w
  go_enter Try.func6, Try.ntmps6
  go_upto_region 0 with (fail)
  refine wp_region_lit ?_
  refine sl_box hS rfl _ 23 (box_vec rfl rfl) ?_
  clear hS
  intro p wk hS
  refine sl_box hS rfl _ 23 (box_vec rfl rfl) ?_
  clear hS
  intro q wk hS
  go_wp2_with (first | (refine sl_load hS rfl 23 _ rfl rfl (by repeat (first | exact Has.hd | apply Has.tl)) Try.underlying23 rfl (by exact infoV) ?_) | (refine sl_store hS rfl 23 _ _ rfl rfl rfl (by repeat (first | exact Rep.hd | apply Rep.tl)) (by exact infoV) (by rfl) (bs_one _) ?_; clear hS; intro wk hS) | (refine sl_box hS rfl _ 23 (box_vec rfl rfl) ?_; clear hS; intro bk wk hS) | (refine sl_box hS rfl _ 23 (alloc_vec rfl) ?_; clear hS; intro bk wk hS) | (refine onlyN_end ?_) | (refine onlyN_now ?_) | ((go_at_call 11); (with_reducible refine sl_call hS (awake _) ?_); clear hS; intro wk hS))
  go_loopw [5] (fun u wr => ∃ v : Int, (v = 8 ∨ v = 16 ∨ v = 32) ∧ u = .int .i64 v ∧ St w [⟨q, bs b, 23⟩, ⟨p, bs a, 23⟩] wr) (fun u _ => (64 - intOf u).toNat)
  case atStart => exact ⟨8, by omega, rfl, hS⟩
  case round =>
    obtain ⟨v, hv, rfl, hS⟩ := hrel
    rcases hv with rfl | rfl | rfl
    · go_wp2_with (first | (refine sl_load hS rfl 23 _ rfl rfl (by repeat (first | exact Has.hd | apply Has.tl)) Try.underlying23 rfl (by exact infoV) ?_) | (refine sl_store hS rfl 23 _ _ rfl rfl rfl (by repeat (first | exact Rep.hd | apply Rep.tl)) (by exact infoV) (by rfl) (bs_one _) ?_; clear hS; intro wk hS) | (refine sl_box hS rfl _ 23 (box_vec rfl rfl) ?_; clear hS; intro bk wk hS) | (refine sl_box hS rfl _ 23 (alloc_vec rfl) ?_; clear hS; intro bk wk hS) | (refine onlyN_end ?_) | (refine onlyN_now ?_))
      go_loopw [7] (fun u wr => ∃ k : Nat, k ≤ 16 ∧ u = .int .i64 k ∧ St w [⟨q, bs b, 23⟩, ⟨p, bs a, 23⟩] wr) (fun u _ => 16 - (intOf u).toNat)
      case atStart => exact ⟨0, by omega, rfl, hS⟩
      case round =>
        obtain ⟨k, hk, rfl, hS⟩ := hrel
        by_cases hlt : k < 16
        · have hj : thereB 8 k = true := there_iff.2 ⟨by omega, by show (k : Int) < 16; omega⟩
          have H := (sat_lanes HA.out HB.out (v := 8) (by omega) hj).2
          simp only [eq_self, if_true] at H
          obtain ⟨x0, x1, y0, y1, s0, s1, t0, t1, e15, e18, e16, e19, e27⟩ := H
          have C1 := fun w => get_any a HA.out 8 k w
          have C2 := fun w => get_any b HB.out 8 k w
          have C3 := fun w => signed_any a HA.out 8 k w
          have C4 := fun w => signed_any b HB.out 8 k w
          have T15 := fun w => two_any 8 15 a b (by omega) (by omega) HA.out HB.out w
          have D15 := fun w => signed_any (biV (baI 8 + 15) a b) (biV_byt _ _ _) 8 k w
          rw [e15] at D15
          clear e15
          generalize biV (baI 8 + 15) a b = z15 at *
          have T18 := fun w => two_any 8 18 a b (by omega) (by omega) HA.out HB.out w
          have D18 := fun w => signed_any (biV (baI 8 + 18) a b) (biV_byt _ _ _) 8 k w
          rw [e18] at D18
          clear e18
          generalize biV (baI 8 + 18) a b = z18 at *
          have T16 := fun w => two_any 8 16 a b (by omega) (by omega) HA.out HB.out w
          have D16 := fun w => get_any (biV (baI 8 + 16) a b) (biV_byt _ _ _) 8 k w
          rw [e16] at D16
          clear e16
          generalize biV (baI 8 + 16) a b = z16 at *
          have T19 := fun w => two_any 8 19 a b (by omega) (by omega) HA.out HB.out w
          have D19 := fun w => get_any (biV (baI 8 + 19) a b) (biV_byt _ _ _) 8 k w
          rw [e19] at D19
          clear e19
          generalize biV (baI 8 + 19) a b = z19 at *
          have T27 := fun w => two_any 8 27 a b (by omega) (by omega) HA.out HB.out w
          have D27 := fun w => get_any (biV (baI 8 + 27) a b) (biV_byt _ _ _) 8 k w
          rw [e27] at D27
          clear e27
          generalize biV (baI 8 + 27) a b = z27 at *
          generalize getI a 8 k = x at *
          generalize getI b 8 k = y at *
          generalize sgnI a 8 k = s at *
          generalize sgnI b 8 k = t at *
          have U15 := fun w => held_any (holdI (s + t) (-128) 127) (s + t) (-128) 127 rfl (by decide) w
          have U18 := fun w => held_any (holdI (s - t) (-128) 127) (s - t) (-128) 127 rfl (by decide) w
          have U16 := fun w => held_any (holdI (x + y) 0 255) (x + y) 0 255 rfl (by decide) w
          have U19 := fun w => held_any (holdI (x - y) 0 255) (x - y) 0 255 rfl (by decide) w
          have b16 := holdI_bd (x + y) (show (0 : Int) ≤ 255 by decide)
          have b19 := holdI_bd (x - y) (show (0 : Int) ≤ 255 by decide)
          have b27 : 0 ≤ (x + y + 1) / 2 ∧ (x + y + 1) / 2 ≤ 255 := by omega
          have hz : x + y + (x + y) % 2 = 2 * ((x + y + 1) / 2) := by omega
          generalize holdI (s + t) (-128) 127 = h15 at *
          generalize holdI (s - t) (-128) 127 = h18 at *
          generalize holdI (x + y) 0 255 = h16 at *
          generalize holdI (x - y) 0 255 = h19 at *
          generalize (x + y + 1) / 2 = h27 at *
          have XC1 := Lib.hid C1
          clear C1
          have XC2 := Lib.hid C2
          clear C2
          have XC3 := Lib.hid C3
          clear C3
          have XC4 := Lib.hid C4
          clear C4
          have XT15 := Lib.hid T15
          clear T15
          have XD15 := Lib.hid D15
          clear D15
          have XT18 := Lib.hid T18
          clear T18
          have XD18 := Lib.hid D18
          clear D18
          have XT16 := Lib.hid T16
          clear T16
          have XD16 := Lib.hid D16
          clear D16
          have XT19 := Lib.hid T19
          clear T19
          have XD19 := Lib.hid D19
          clear D19
          have XT27 := Lib.hid T27
          clear T27
          have XD27 := Lib.hid D27
          clear D27
          have XU15 := Lib.hid U15
          clear U15
          have XU18 := Lib.hid U18
          clear U18
          have XU16 := Lib.hid U16
          clear U16
          have XU19 := Lib.hid U19
          clear U19
          go_wp2_with (first | (refine sl_load hS rfl 23 _ rfl rfl (by repeat (first | exact Has.hd | apply Has.tl)) Try.underlying23 rfl (by exact infoV) ?_) | (refine sl_store hS rfl 23 _ _ rfl rfl rfl (by repeat (first | exact Rep.hd | apply Rep.tl)) (by exact infoV) (by rfl) (bs_one _) ?_; clear hS; intro wk hS) | (refine sl_box hS rfl _ 23 (box_vec rfl rfl) ?_; clear hS; intro bk wk hS) | (refine sl_box hS rfl _ 23 (alloc_vec rfl) ?_; clear hS; intro bk wk hS) | (refine onlyN_end ?_) | (refine onlyN_now ?_) | ((go_at_call 16); (with_reducible refine sl_call hS (XC1.out _) ?_); clear hS; intro wk hS) | ((go_at_call 16); (with_reducible refine sl_call hS (XC2.out _) ?_); clear hS; intro wk hS) | ((go_at_call 17); (with_reducible refine sl_call hS (XC3.out _) ?_); clear hS; intro wk hS) | ((go_at_call 17); (with_reducible refine sl_call hS (XC4.out _) ?_); clear hS; intro wk hS) | ((go_at_call 19); (with_reducible refine sl_call hS (XT15.out _) ?_); clear hS; intro wk hS) | ((go_at_call 19); (with_reducible refine sl_call hS (XT18.out _) ?_); clear hS; intro wk hS) | ((go_at_call 19); (with_reducible refine sl_call hS (XT16.out _) ?_); clear hS; intro wk hS) | ((go_at_call 19); (with_reducible refine sl_call hS (XT19.out _) ?_); clear hS; intro wk hS) | ((go_at_call 19); (with_reducible refine sl_call hS (XT27.out _) ?_); clear hS; intro wk hS) | ((go_at_call 17); (with_reducible refine sl_call hS (XD15.out _) ?_); clear hS; intro wk hS) | ((go_at_call 17); (with_reducible refine sl_call hS (XD18.out _) ?_); clear hS; intro wk hS) | ((go_at_call 16); (with_reducible refine sl_call hS (XD16.out _) ?_); clear hS; intro wk hS) | ((go_at_call 16); (with_reducible refine sl_call hS (XD19.out _) ?_); clear hS; intro wk hS) | ((go_at_call 16); (with_reducible refine sl_call hS (XD27.out _) ?_); clear hS; intro wk hS) | ((go_at_call 18); (with_reducible refine (XU15.out _).mono ?_); rintro _ _ ⟨rfl, rfl⟩) | ((go_at_call 18); (with_reducible refine (XU18.out _).mono ?_); rintro _ _ ⟨rfl, rfl⟩) | ((go_at_call 18); (with_reducible refine (XU16.out _).mono ?_); rintro _ _ ⟨rfl, rfl⟩) | ((go_at_call 18); (with_reducible refine (XU19.out _).mono ?_); rintro _ _ ⟨rfl, rfl⟩))
          exact ⟨⟨k + 1, by omega, by go_num, hS⟩, by simp [intOf]; omega⟩
        · obtain rfl : k = 16 := by omega
          go_wp2_with (first | (refine sl_load hS rfl 23 _ rfl rfl (by repeat (first | exact Has.hd | apply Has.tl)) Try.underlying23 rfl (by exact infoV) ?_) | (refine sl_store hS rfl 23 _ _ rfl rfl rfl (by repeat (first | exact Rep.hd | apply Rep.tl)) (by exact infoV) (by rfl) (bs_one _) ?_; clear hS; intro wk hS) | (refine sl_box hS rfl _ 23 (box_vec rfl rfl) ?_; clear hS; intro bk wk hS) | (refine sl_box hS rfl _ 23 (alloc_vec rfl) ?_; clear hS; intro bk wk hS) | (refine onlyN_end ?_) | (refine onlyN_now ?_))
          exact ⟨⟨16, by omega, rfl, hS⟩, by simp [intOf]⟩
    · go_wp2_with (first | (refine sl_load hS rfl 23 _ rfl rfl (by repeat (first | exact Has.hd | apply Has.tl)) Try.underlying23 rfl (by exact infoV) ?_) | (refine sl_store hS rfl 23 _ _ rfl rfl rfl (by repeat (first | exact Rep.hd | apply Rep.tl)) (by exact infoV) (by rfl) (bs_one _) ?_; clear hS; intro wk hS) | (refine sl_box hS rfl _ 23 (box_vec rfl rfl) ?_; clear hS; intro bk wk hS) | (refine sl_box hS rfl _ 23 (alloc_vec rfl) ?_; clear hS; intro bk wk hS) | (refine onlyN_end ?_) | (refine onlyN_now ?_))
      go_loopw [7] (fun u wr => ∃ k : Nat, k ≤ 8 ∧ u = .int .i64 k ∧ St w [⟨q, bs b, 23⟩, ⟨p, bs a, 23⟩] wr) (fun u _ => 8 - (intOf u).toNat)
      case atStart => exact ⟨0, by omega, rfl, hS⟩
      case round =>
        obtain ⟨k, hk, rfl, hS⟩ := hrel
        by_cases hlt : k < 8
        · have hj : thereB 16 k = true := there_iff.2 ⟨by omega, by show (k : Int) < 8; omega⟩
          have H := (sat_lanes HA.out HB.out (v := 16) (by omega) hj).2
          simp only [Int.reduceEq, if_false] at H
          obtain ⟨x0, x1, y0, y1, s0, s1, t0, t1, e15, e18, e16, e19, e27⟩ := H
          have C1 := fun w => get_any a HA.out 16 k w
          have C2 := fun w => get_any b HB.out 16 k w
          have C3 := fun w => signed_any a HA.out 16 k w
          have C4 := fun w => signed_any b HB.out 16 k w
          have T15 := fun w => two_any 16 15 a b (by omega) (by omega) HA.out HB.out w
          have D15 := fun w => signed_any (biV (baI 16 + 15) a b) (biV_byt _ _ _) 16 k w
          rw [e15] at D15
          clear e15
          generalize biV (baI 16 + 15) a b = z15 at *
          have T18 := fun w => two_any 16 18 a b (by omega) (by omega) HA.out HB.out w
          have D18 := fun w => signed_any (biV (baI 16 + 18) a b) (biV_byt _ _ _) 16 k w
          rw [e18] at D18
          clear e18
          generalize biV (baI 16 + 18) a b = z18 at *
          have T16 := fun w => two_any 16 16 a b (by omega) (by omega) HA.out HB.out w
          have D16 := fun w => get_any (biV (baI 16 + 16) a b) (biV_byt _ _ _) 16 k w
          rw [e16] at D16
          clear e16
          generalize biV (baI 16 + 16) a b = z16 at *
          have T19 := fun w => two_any 16 19 a b (by omega) (by omega) HA.out HB.out w
          have D19 := fun w => get_any (biV (baI 16 + 19) a b) (biV_byt _ _ _) 16 k w
          rw [e19] at D19
          clear e19
          generalize biV (baI 16 + 19) a b = z19 at *
          have T27 := fun w => two_any 16 27 a b (by omega) (by omega) HA.out HB.out w
          have D27 := fun w => get_any (biV (baI 16 + 27) a b) (biV_byt _ _ _) 16 k w
          rw [e27] at D27
          clear e27
          generalize biV (baI 16 + 27) a b = z27 at *
          generalize getI a 16 k = x at *
          generalize getI b 16 k = y at *
          generalize sgnI a 16 k = s at *
          generalize sgnI b 16 k = t at *
          have U15 := fun w => held_any (holdI (s + t) (-32768) 32767) (s + t) (-32768) 32767 rfl (by decide) w
          have U18 := fun w => held_any (holdI (s - t) (-32768) 32767) (s - t) (-32768) 32767 rfl (by decide) w
          have U16 := fun w => held_any (holdI (x + y) 0 65535) (x + y) 0 65535 rfl (by decide) w
          have U19 := fun w => held_any (holdI (x - y) 0 65535) (x - y) 0 65535 rfl (by decide) w
          have b16 := holdI_bd (x + y) (show (0 : Int) ≤ 65535 by decide)
          have b19 := holdI_bd (x - y) (show (0 : Int) ≤ 65535 by decide)
          have b27 : 0 ≤ (x + y + 1) / 2 ∧ (x + y + 1) / 2 ≤ 65535 := by omega
          have hz : x + y + (x + y) % 2 = 2 * ((x + y + 1) / 2) := by omega
          generalize holdI (s + t) (-32768) 32767 = h15 at *
          generalize holdI (s - t) (-32768) 32767 = h18 at *
          generalize holdI (x + y) 0 65535 = h16 at *
          generalize holdI (x - y) 0 65535 = h19 at *
          generalize (x + y + 1) / 2 = h27 at *
          have XC1 := Lib.hid C1
          clear C1
          have XC2 := Lib.hid C2
          clear C2
          have XC3 := Lib.hid C3
          clear C3
          have XC4 := Lib.hid C4
          clear C4
          have XT15 := Lib.hid T15
          clear T15
          have XD15 := Lib.hid D15
          clear D15
          have XT18 := Lib.hid T18
          clear T18
          have XD18 := Lib.hid D18
          clear D18
          have XT16 := Lib.hid T16
          clear T16
          have XD16 := Lib.hid D16
          clear D16
          have XT19 := Lib.hid T19
          clear T19
          have XD19 := Lib.hid D19
          clear D19
          have XT27 := Lib.hid T27
          clear T27
          have XD27 := Lib.hid D27
          clear D27
          have XU15 := Lib.hid U15
          clear U15
          have XU18 := Lib.hid U18
          clear U18
          have XU16 := Lib.hid U16
          clear U16
          have XU19 := Lib.hid U19
          clear U19
          go_wp2_with (first | (refine sl_load hS rfl 23 _ rfl rfl (by repeat (first | exact Has.hd | apply Has.tl)) Try.underlying23 rfl (by exact infoV) ?_) | (refine sl_store hS rfl 23 _ _ rfl rfl rfl (by repeat (first | exact Rep.hd | apply Rep.tl)) (by exact infoV) (by rfl) (bs_one _) ?_; clear hS; intro wk hS) | (refine sl_box hS rfl _ 23 (box_vec rfl rfl) ?_; clear hS; intro bk wk hS) | (refine sl_box hS rfl _ 23 (alloc_vec rfl) ?_; clear hS; intro bk wk hS) | (refine onlyN_end ?_) | (refine onlyN_now ?_) | ((go_at_call 16); (with_reducible refine sl_call hS (XC1.out _) ?_); clear hS; intro wk hS) | ((go_at_call 16); (with_reducible refine sl_call hS (XC2.out _) ?_); clear hS; intro wk hS) | ((go_at_call 17); (with_reducible refine sl_call hS (XC3.out _) ?_); clear hS; intro wk hS) | ((go_at_call 17); (with_reducible refine sl_call hS (XC4.out _) ?_); clear hS; intro wk hS) | ((go_at_call 19); (with_reducible refine sl_call hS (XT15.out _) ?_); clear hS; intro wk hS) | ((go_at_call 19); (with_reducible refine sl_call hS (XT18.out _) ?_); clear hS; intro wk hS) | ((go_at_call 19); (with_reducible refine sl_call hS (XT16.out _) ?_); clear hS; intro wk hS) | ((go_at_call 19); (with_reducible refine sl_call hS (XT19.out _) ?_); clear hS; intro wk hS) | ((go_at_call 19); (with_reducible refine sl_call hS (XT27.out _) ?_); clear hS; intro wk hS) | ((go_at_call 17); (with_reducible refine sl_call hS (XD15.out _) ?_); clear hS; intro wk hS) | ((go_at_call 17); (with_reducible refine sl_call hS (XD18.out _) ?_); clear hS; intro wk hS) | ((go_at_call 16); (with_reducible refine sl_call hS (XD16.out _) ?_); clear hS; intro wk hS) | ((go_at_call 16); (with_reducible refine sl_call hS (XD19.out _) ?_); clear hS; intro wk hS) | ((go_at_call 16); (with_reducible refine sl_call hS (XD27.out _) ?_); clear hS; intro wk hS) | ((go_at_call 18); (with_reducible refine (XU15.out _).mono ?_); rintro _ _ ⟨rfl, rfl⟩) | ((go_at_call 18); (with_reducible refine (XU18.out _).mono ?_); rintro _ _ ⟨rfl, rfl⟩) | ((go_at_call 18); (with_reducible refine (XU16.out _).mono ?_); rintro _ _ ⟨rfl, rfl⟩) | ((go_at_call 18); (with_reducible refine (XU19.out _).mono ?_); rintro _ _ ⟨rfl, rfl⟩))
          exact ⟨⟨k + 1, by omega, by go_num, hS⟩, by simp [intOf]; omega⟩
        · obtain rfl : k = 8 := by omega
          go_wp2_with (first | (refine sl_load hS rfl 23 _ rfl rfl (by repeat (first | exact Has.hd | apply Has.tl)) Try.underlying23 rfl (by exact infoV) ?_) | (refine sl_store hS rfl 23 _ _ rfl rfl rfl (by repeat (first | exact Rep.hd | apply Rep.tl)) (by exact infoV) (by rfl) (bs_one _) ?_; clear hS; intro wk hS) | (refine sl_box hS rfl _ 23 (box_vec rfl rfl) ?_; clear hS; intro bk wk hS) | (refine sl_box hS rfl _ 23 (alloc_vec rfl) ?_; clear hS; intro bk wk hS) | (refine onlyN_end ?_) | (refine onlyN_now ?_))
          exact ⟨⟨32, by omega, rfl, hS⟩, by simp [intOf]⟩
    · go_wp2
      go_ret
      exact ⟨rfl, hS.gr⟩
end Ar
end Go.Proofs.Ytalnkkmbjaollaa
