/-
  The reference's Bin of layer 3, by ranges of opcodes: the same as the program's. (For NumAll.)
-/
import Derived.Test.YthdklnkaeddogacDoorNumBinR
namespace Go.Proofs.YthdklnkaeddogacDoor
open Go.RowKit NumRM NumRef NumM Un Un2 NumAr NumUnR NumBinR
namespace NumB3
theorem ordB_eq (k x y : Int) (hk : k = 0 ∨ k = 1 ∨ k = 2 ∨ k = 4 ∨ k = 6 ∨ k = 8) (hx : 0 ≤ x ∧ x < 18446744073709551616) (hy : 0 ≤ y ∧ y < 18446744073709551616) :
    ordB k (decide (wrap64 x < wrap64 y)) (decide (wrap64 y < wrap64 x)) = standsB k x (wrap64 x) y (wrap64 y) := by
  have e : wrap64 x = wrap64 y ↔ x = y := by unfold wrap64; omega
  rcases hk with rfl | rfl | rfl | rfl | rfl | rfl
  · simp only [ordB, standsB]
    rw [Bool.eq_iff_iff]; simp; omega
  · simp only [ordB, standsB]
    rw [Bool.eq_iff_iff]; simp; omega
  · simp only [ordB, standsB]; simp
  · simp only [ordB, standsB]; simp
  · simp only [ordB, standsB]
    rw [Bool.eq_iff_iff]; simp
  · simp only [ordB, standsB]
    rw [Bool.eq_iff_iff]; simp
theorem ordB_equ (k x y : Int) (hk : k = 3 ∨ k = 5 ∨ k = 7 ∨ k = 9) :
    ordB k (decide (x < y)) (decide (y < x)) = standsB k x (wrap64 x) y (wrap64 y) := by
  rcases hk with rfl | rfl | rfl | rfl
  · simp only [ordB, standsB]; simp
  · simp only [ordB, standsB]; simp
  · simp only [ordB, standsB]
    rw [Bool.eq_iff_iff]; simp
  · simp only [ordB, standsB]
    rw [Bool.eq_iff_iff]; simp
theorem order_all (k x y : Int) (h0 : 0 ≤ k) (h9 : k ≤ 9) (hx : 0 ≤ x ∧ x < 18446744073709551616) (hy : 0 ≤ y ∧ y < 18446744073709551616) (w : World) :
    Calls Tryd.prog 31 #[.int .i64 k, .int .u64 x, .int .u64 y] w fun e w' => e = .returned (.int .u64 (tI (standsB k x (wrap64 x) y (wrap64 y)))) ∧ w = w' := by
  by_cases hk : k = 3 ∨ k = 5 ∨ k = 7 ∨ k = 9
  · have C := order_u k x y hk hx hy w
    rw [ordB_equ k x y hk] at C
    exact C
  · have hk' : k = 0 ∨ k = 1 ∨ k = 2 ∨ k = 4 ∨ k = 6 ∨ k = 8 := by omega
    have C := order_s k x y hk' hx hy w
    rw [ordB_eq k x y hk' hx hy] at C
    exact C
theorem stands_congr (k a b c d a' b' c' d' : Int) (hb : b = b') (hd : d = d') (h1 : a = c ↔ a' = c') (h2 : a < c ↔ a' < c') (h3 : c < a ↔ c' < a') : standsB k a b c d = standsB k a' b' c' d' := by
  subst hb; subst hd
  unfold standsB
  have e1 : (a == c) = (a' == c') := by rw [Bool.eq_iff_iff]; simp; exact h1
  have e2 : decide (a < c) = decide (a' < c') := by rw [Bool.eq_iff_iff]; simp; exact h2
  have e3 : decide (c < a) = decide (c' < a') := by rw [Bool.eq_iff_iff]; simp; exact h3
  have e4 : decide (a ≤ c) = decide (a' ≤ c') := by rw [Bool.eq_iff_iff]; simp; omega
  have e5 : decide (c ≤ a) = decide (c' ≤ a') := by rw [Bool.eq_iff_iff]; simp; omega
  have e6 : (a != c) = (a' != c') := by unfold bne; rw [e1]
  rw [e1, e2, e3, e4, e5, e6]
theorem sgn_wrap (x : Int) : wrap64 (signI x 32) = sS x := by
  rw [sign32]; unfold sS wrap64 wrap32
  split <;> omega
theorem order32 (k x y : Int) (h0 : 0 ≤ k) (h9 : k ≤ 9) (hx : U64 x) (hy : U64 y) (w : World) :
    Calls Tryd.prog 31 #[.int .i64 k, .int .u64 (signI x 32), .int .u64 (signI y 32)] w fun e w' => e = .returned (.int .u64 (tI (standsB k (sh x) (sS x) (sh y) (sS y)))) ∧ w = w' := by
  have C := order_all k (signI x 32) (signI y 32) h0 h9 (sign_bd x 32 hx (by omega)) (sign_bd y 32 hy (by omega)) w
  rw [stands_congr k _ _ _ _ (sh x) (sS x) (sh y) (sS y) (sgn_wrap x) (sgn_wrap y) (by rw [sign32, sign32]; unfold sh; split <;> split <;> omega) (by rw [sign32, sign32]; unfold sh; split <;> split <;> omega) (by rw [sign32, sign32]; unfold sh; split <;> split <;> omega)] at C
  exact C
/-! ### arith -/
def Sg (W x : Int) : Int := if W = 32 then sS x else sL x
def Ug (W x : Int) : Int := if W = 32 then sh x else x
theorem sg_bd (W x : Int) : -9223372036854775808 ≤ Sg W x ∧ Sg W x < 9223372036854775808 := by
  unfold Sg sS sL wrap64; split <;> omega
theorem sg_mod (W x : Int) (hW : W = 32 ∨ W = 64) (hx : U64 x) : signI x W = Sg W x % 18446744073709551616 := by
  have hx0 := hx.1
  have hx1 := hx.2
  rcases hW with rfl | rfl
  · rw [sign32, show Sg 32 x = sS x from rfl]; unfold sS wrap64 wrap32; split <;> omega
  · rw [sign64 x hx, show Sg 64 x = sL x from rfl]; unfold sL wrap64; omega
theorem ug_cut (W x : Int) (hW : W = 32 ∨ W = 64) (hx : U64 x) : cutI x W = Ug W x := by
  rcases hW with rfl | rfl
  · rfl
  · exact Int.emod_eq_of_lt hx.1 hx.2
theorem ug_bd (W x : Int) (hx : U64 x) : 0 ≤ Ug W x ∧ Ug W x < 18446744073709551616 := by
  have hx0 := hx.1
  have hx1 := hx.2
  unfold Ug sh; split <;> omega
theorem four (W x y : Int) (hW : W = 32 ∨ W = 64) (hx : U64 x) (hy : U64 y) : Four x y W (Sg W x % 18446744073709551616) (Sg W y % 18446744073709551616) (Ug W x) (Ug W y) where
  a := by rw [← sg_mod W x hW hx]; exact sign_any x W hx (by omega)
  b := by rw [← sg_mod W y hW hy]; exact sign_any y W hy (by omega)
  c := by rw [← ug_cut W x hW hx]; exact cut_any x W hx (by omega)
  d := by rw [← ug_cut W y hW hy]; exact cut_any y W hy (by omega)
  sx := by omega
  sy := by omega
  ux := ug_bd W x hx
  uy := ug_bd W y hy
theorem sg_ne (W y : Int) (hW : W = 32 ∨ W = 64) (hy : U64 y) (h : Ug W y ≠ 0) : Sg W y ≠ 0 := by
  have hy0 := hy.1
  have hy1 := hy.2
  rcases hW with rfl | rfl
  · rw [show Ug 32 y = sh y from rfl] at h
    rw [show Sg 32 y = sS y from rfl]
    unfold sh at h; unfold sS wrap64 wrap32; omega
  · rw [show Ug 64 y = y from rfl] at h
    rw [show Sg 64 y = sL y from rfl]
    unfold sL wrap64; omega
/-- arith: the same number as work -/
theorem arith_all (k W x y : Int) (h0 : 0 ≤ k) (h14 : k ≤ 14) (hW : W = 32 ∨ W = 64) (hx : U64 x) (hy : U64 y) (hz : 3 ≤ k → k ≤ 6 → Ug W y ≠ 0 ∧ divE k W (Sg W x) (Ug W y) (Sg W y) = 0) (w : World) :
    Calls Tryd.prog 32 #[.int .i64 k, .int .u64 x, .int .u64 y, .int .i64 W] w fun e w' => e = .returned (.int .u64 (workI k W (Ug W x) (Sg W x) (Ug W y) (Sg W y))) ∧ w = w' := by
  have F := four W x y hW hx hy
  have bx := sg_bd W x
  have by' := sg_bd W y
  have ux := ug_bd W x hx
  have uy := ug_bd W y hy
  by_cases hk : 3 ≤ k ∧ k ≤ 6
  · obtain ⟨hz1, hz2⟩ := hz hk.1 hk.2
    have hz3 := sg_ne W y hW hy hz1
    have hz4 : Sg W y % 18446744073709551616 ≠ 0 := by omega
    generalize Sg W x = s at *
    generalize Sg W y = t at *
    generalize Ug W x = a at *
    generalize Ug W y = c at *
    have hc0 : 0 < c := by omega
    obtain rfl | rfl | rfl | rfl : k = 3 ∨ k = 4 ∨ k = 5 ∨ k = 6 := by omega
    · rw [wk3 _ _ _ _ _ hz2, ← quo_is s t bx by' hz3]
      by_cases e : s % 18446744073709551616 / 9223372036854775808 = t % 18446744073709551616 / 9223372036854775808
      · have hb : (s % 18446744073709551616 / 9223372036854775808 != t % 18446744073709551616 / 9223372036854775808) = false := by simp [e]
        rcases hW with rfl | rfl
        · exact ar3s_32 x y _ _ a c F _ _ _ _ (by unfold quoI; rw [if_pos e]) rfl hz4 rfl rfl hb w
        · exact ar3s_64 x y _ _ a c F _ _ _ _ (by unfold quoI; rw [if_pos e]) rfl hz4 rfl rfl hb w
      · have hb : (s % 18446744073709551616 / 9223372036854775808 != t % 18446744073709551616 / 9223372036854775808) = true := by simp [e]
        rcases hW with rfl | rfl
        · exact ar3t_32 x y _ _ a c F _ _ _ _ (by unfold quoI; rw [if_neg e]) rfl hz4 rfl rfl hb w
        · exact ar3t_64 x y _ _ a c F _ _ _ _ (by unfold quoI; rw [if_neg e]) rfl hz4 rfl rfl hb w
    · rw [wk4 _ _ _ _ _ hz2, ← udiv_is a c ux hc0]
      rcases hW with rfl | rfl
      · exact ar4_32 x y _ _ a c F _ rfl hc0 w
      · exact ar4_64 x y _ _ a c F _ rfl hc0 w
    · rw [wk5 _ _ _ _ _ hz2, ← rem_is s t bx by' hz3]
      by_cases e : s % 18446744073709551616 / 9223372036854775808 = t % 18446744073709551616 / 9223372036854775808
      · have hb : (s % 18446744073709551616 / 9223372036854775808 != t % 18446744073709551616 / 9223372036854775808) = false := by simp [e]
        rcases hW with rfl | rfl
        · exact ar5s_32 x y _ _ a c F _ _ _ _ (by unfold quoI; rw [if_pos e]) rfl hz4 rfl rfl hb w
        · exact ar5s_64 x y _ _ a c F _ _ _ _ (by unfold quoI; rw [if_pos e]) rfl hz4 rfl rfl hb w
      · have hb : (s % 18446744073709551616 / 9223372036854775808 != t % 18446744073709551616 / 9223372036854775808) = true := by simp [e]
        rcases hW with rfl | rfl
        · exact ar5t_32 x y _ _ a c F _ _ _ _ (by unfold quoI; rw [if_neg e]) rfl hz4 rfl rfl hb w
        · exact ar5t_64 x y _ _ a c F _ _ _ _ (by unfold quoI; rw [if_neg e]) rfl hz4 rfl rfl hb w
    · rw [wk6 _ _ _ _ _ hz2, ← urem_is a c ux hc0]
      rcases hW with rfl | rfl
      · exact ar6_32 x y _ _ a c F _ rfl hc0 w
      · exact ar6_64 x y _ _ a c F _ rfl hc0 w
  · generalize Sg W x = s at *
    generalize Sg W y = t at *
    generalize Ug W x = a at *
    generalize Ug W y = c at *
    obtain rfl | rfl | rfl | rfl | rfl | rfl | rfl | rfl | rfl | rfl | rfl : k = 0 ∨ k = 1 ∨ k = 2 ∨ k = 7 ∨ k = 8 ∨ k = 9 ∨ k = 10 ∨ k = 11 ∨ k = 12 ∨ k = 13 ∨ k = 14 := by omega
    · rw [wk0]
      rcases hW with rfl | rfl
      · exact ar0_32 x y _ _ a c F _ rfl w
      · exact ar0_64 x y _ _ a c F _ rfl w
    · rw [wk1]
      rcases hW with rfl | rfl
      · exact ar1_32 x y _ _ a c F _ rfl w
      · exact ar1_64 x y _ _ a c F _ rfl w
    · rw [wk2]
      rcases hW with rfl | rfl
      · exact ar2_32 x y _ _ a c F _ rfl w
      · exact ar2_64 x y _ _ a c F _ rfl w
    · rw [wk7]
      rcases hW with rfl | rfl
      · exact ar7_32 x y _ _ a c F _ rfl w
      · exact ar7_64 x y _ _ a c F _ rfl w
    · rw [wk8]
      rcases hW with rfl | rfl
      · exact ar8_32 x y _ _ a c F _ rfl w
      · exact ar8_64 x y _ _ a c F _ rfl w
    · rw [wk9]
      rcases hW with rfl | rfl
      · exact ar9_32 x y _ _ a c F _ rfl w
      · exact ar9_64 x y _ _ a c F _ rfl w
    · rw [wk10]
      rcases hW with rfl | rfl
      · exact ar10_32 x y _ _ a c F _ rfl w
      · exact ar10_64 x y _ _ a c F _ rfl w
    · rw [wk11]
      rcases hW with rfl | rfl
      · rw [← sar_is s (c % 32) bx (by omega)]
        exact ar11_32 x y _ _ a c F _ _ rfl rfl w
      · rw [← sar_is s (c % 64) bx (by omega)]
        exact ar11_64 x y _ _ a c F _ _ rfl rfl w
    · rw [wk12]
      rcases hW with rfl | rfl
      · exact ar12_32 x y _ _ a c F _ rfl w
      · exact ar12_64 x y _ _ a c F _ rfl w
    · rw [wk13]
      rcases hW with rfl | rfl
      · exact ar13_32 x y _ _ a c F _ rfl w
      · exact ar13_64 x y _ _ a c F _ rfl w
    · rw [wk14]
      rcases hW with rfl | rfl
      · exact ar14_32 x y _ _ a c F _ rfl w
      · exact ar14_64 x y _ _ a c F _ rfl w
/-! ### Bin -/
def AR (op r : Int) : Prop := ∀ w, Calls Tryd.prog 12 #[.int .i64 op] w fun e w' => e = .returned (.int .i64 r) ∧ Grown w w'
def CUT (x W z : Int) : Prop := ∀ w, Calls Tryd.prog 28 #[.int .u64 x, .int .i64 W] w fun e w' => e = .returned (.int .u64 z) ∧ w = w'
def SGN (x W z : Int) : Prop := ∀ w, Calls Tryd.prog 30 #[.int .u64 x, .int .i64 W] w fun e w' => e = .returned (.int .u64 z) ∧ w = w'
def ARI (k x y W z : Int) : Prop := ∀ w, Calls Tryd.prog 32 #[.int .i64 k, .int .u64 x, .int .u64 y, .int .i64 W] w fun e w' => e = .returned (.int .u64 z) ∧ w = w'
def ORD (k x y z : Int) : Prop := ∀ w, Calls Tryd.prog 31 #[.int .i64 k, .int .u64 x, .int .u64 y] w fun e w' => e = .returned (.int .u64 z) ∧ w = w'
def BIN (op x y z f : Int) : Prop := ∀ w, Calls Tryd.prog 21 #[.int .i64 op, .int .u64 x, .int .u64 y] w fun e w' => e = .returned (.tuple #[.int .u64 z, .int .i64 f]) ∧ Grown w w'
set_option maxHeartbeats 1000000 in
theorem bin_o32 (op x y sx sy z : Int) (h0 : 70 ≤ op) (h1 : op < 80) (hA : AR op 2) (hX : SGN x 32 sx) (hY : SGN y 32 sy) (hO : ORD (op - 70) sx sy z) : BIN op x y z 0 := by
  have HA := Lib.hid hA
  have HX := Lib.hid hX
  have HY := Lib.hid hY
  have HO := Lib.hid hO
  clear hA hX hY hO
  intro w
  go_enter Tryd.func21, Tryd.ntmps21
  go_wp2_with fail
  refine (HA.out _).mono ?_
  rintro e w1 ⟨rfl, hg⟩
  go_wp2_with fail
  refine (HX.out _).mono ?_
  rintro e w2 ⟨rfl, rfl⟩
  go_wp2_with fail
  refine (HY.out _).mono ?_
  rintro e w2 ⟨rfl, rfl⟩
  go_wp2_with fail
  refine (HO.out _).mono ?_
  rintro e w2 ⟨rfl, rfl⟩
  go_wp2
  go_ret2
  exact ⟨ret_pair rfl rfl, hg⟩
set_option maxHeartbeats 1000000 in
theorem bin_o64 (op x y z : Int) (h0 : 81 ≤ op) (h1 : op < 91) (hA : AR op 2) (hO : ORD (op - 81) x y z) : BIN op x y z 0 := by
  have HA := Lib.hid hA
  have HO := Lib.hid hO
  clear hA hO
  intro w
  go_enter Tryd.func21, Tryd.ntmps21
  go_wp2_with fail
  refine (HA.out _).mono ?_
  rintro e w1 ⟨rfl, hg⟩
  go_wp2_with fail
  refine (HO.out _).mono ?_
  rintro e w2 ⟨rfl, rfl⟩
  go_wp2
  go_ret2
  exact ⟨ret_pair rfl rfl, hg⟩
set_option maxHeartbeats 4000000 in
theorem bin_p32 (k x y z z' : Int) (hk : k = 0 ∨ k = 1 ∨ k = 2 ∨ k = 7 ∨ k = 8 ∨ k = 9 ∨ k = 10 ∨ k = 11 ∨ k = 12 ∨ k = 13 ∨ k = 14) (hA : AR (106 + k) 2) (hR : ARI k x y 32 z) (hC : CUT z 32 z') : BIN (106 + k) x y z' 0 := by
  obtain rfl | rfl | rfl | rfl | rfl | rfl | rfl | rfl | rfl | rfl | rfl := hk
  all_goals
    have HA := Lib.hid hA
    have HR := Lib.hid hR
    have HC := Lib.hid hC
    clear hA hR hC
    intro w
    go_enter Tryd.func21, Tryd.ntmps21
    go_wp2_with fail
    refine (HA.out _).mono ?_
    rintro e w1 ⟨rfl, hg⟩
    go_wp2_with fail
    refine (HR.out _).mono ?_
    rintro e w2 ⟨rfl, rfl⟩
    go_wp2_with fail
    refine (HC.out _).mono ?_
    rintro e w2 ⟨rfl, rfl⟩
    go_wp2
    go_ret2
    exact ⟨ret_pair rfl rfl, hg⟩
set_option maxHeartbeats 4000000 in
theorem bin_z32 (k x y : Int) (hk : k = 3 ∨ k = 4 ∨ k = 5 ∨ k = 6) (hA : AR (106 + k) 2) (hC : CUT y 32 0) : BIN (106 + k) x y 0 21 := by
  obtain rfl | rfl | rfl | rfl := hk
  all_goals
    have HA := Lib.hid hA
    have HC := Lib.hid hC
    clear hA hC
    intro w
    go_enter Tryd.func21, Tryd.ntmps21
    go_wp2_with fail
    refine (HA.out _).mono ?_
    rintro e w1 ⟨rfl, hg⟩
    go_wp2_with fail
    refine (HC.out _).mono ?_
    rintro e w2 ⟨rfl, rfl⟩
    go_wp2
    go_ret2
    exact ⟨ret_pair rfl rfl, hg⟩
set_option maxHeartbeats 4000000 in
theorem bin_d32 (k x y c z z' : Int) (hk : k = 4 ∨ k = 5 ∨ k = 6) (hA : AR (106 + k) 2) (hB : CUT y 32 c) (hc : (c == 0) = false) (hR : ARI k x y 32 z) (hC : CUT z 32 z') : BIN (106 + k) x y z' 0 := by
  obtain rfl | rfl | rfl := hk
  all_goals
    have HA := Lib.hid hA
    have HB := Lib.hid hB
    have HR := Lib.hid hR
    have HC := Lib.hid hC
    clear hA hB hR hC
    intro w
    go_enter Tryd.func21, Tryd.ntmps21
    go_wp2_with fail
    refine (HA.out _).mono ?_
    rintro e w1 ⟨rfl, hg⟩
    go_wp2_with fail
    refine (HB.out _).mono ?_
    rintro e w2 ⟨rfl, rfl⟩
    go_wp2_with fail
    refine (HR.out _).mono ?_
    rintro e w2 ⟨rfl, rfl⟩
    go_wp2_with fail
    refine (HC.out _).mono ?_
    rintro e w2 ⟨rfl, rfl⟩
    go_wp2
    go_ret2
    exact ⟨ret_pair rfl rfl, hg⟩
set_option maxHeartbeats 4000000 in
theorem bin_n32 (x y c a z z' : Int) (hA : AR 109 2) (hB : CUT y 32 c) (hc : (c == 0) = false) (hD : CUT x 32 a) (ha : (a == 2147483648) = false) (hR : ARI 3 x y 32 z) (hC : CUT z 32 z') : BIN 109 x y z' 0 := by
  have HA := Lib.hid hA
  have HB := Lib.hid hB
  have HD := Lib.hid hD
  have HR := Lib.hid hR
  have HC := Lib.hid hC
  clear hA hB hD hR hC
  intro w
  go_enter Tryd.func21, Tryd.ntmps21
  go_wp2_with fail
  refine (HA.out _).mono ?_
  rintro e w1 ⟨rfl, hg⟩
  go_wp2_with fail
  refine (HB.out _).mono ?_
  rintro e w2 ⟨rfl, rfl⟩
  go_wp2_with fail
  refine (HD.out _).mono ?_
  rintro e w2 ⟨rfl, rfl⟩
  go_wp2_with fail
  refine (HR.out _).mono ?_
  rintro e w2 ⟨rfl, rfl⟩
  go_wp2_with fail
  refine (HC.out _).mono ?_
  rintro e w2 ⟨rfl, rfl⟩
  go_wp2
  go_ret2
  exact ⟨ret_pair rfl rfl, hg⟩
set_option maxHeartbeats 4000000 in
theorem bin_m32 (x y c s z z' : Int) (hA : AR 109 2) (hB : CUT y 32 c) (hc : (c == 0) = false) (hD : CUT x 32 2147483648) (hS : SGN y 32 s) (hs : (s == 18446744073709551615) = false) (hR : ARI 3 x y 32 z) (hC : CUT z 32 z') : BIN 109 x y z' 0 := by
  have HA := Lib.hid hA
  have HB := Lib.hid hB
  have HD := Lib.hid hD
  have HS := Lib.hid hS
  have HR := Lib.hid hR
  have HC := Lib.hid hC
  clear hA hB hD hS hR hC
  intro w
  go_enter Tryd.func21, Tryd.ntmps21
  go_wp2_with fail
  refine (HA.out _).mono ?_
  rintro e w1 ⟨rfl, hg⟩
  go_wp2_with fail
  refine (HB.out _).mono ?_
  rintro e w2 ⟨rfl, rfl⟩
  go_wp2_with fail
  refine (HD.out _).mono ?_
  rintro e w2 ⟨rfl, rfl⟩
  go_wp2_with fail
  refine (HS.out _).mono ?_
  rintro e w2 ⟨rfl, rfl⟩
  go_wp2_with fail
  refine (HR.out _).mono ?_
  rintro e w2 ⟨rfl, rfl⟩
  go_wp2_with fail
  refine (HC.out _).mono ?_
  rintro e w2 ⟨rfl, rfl⟩
  go_wp2
  go_ret2
  exact ⟨ret_pair rfl rfl, hg⟩
set_option maxHeartbeats 4000000 in
theorem bin_v32 (x y c : Int) (hA : AR 109 2) (hB : CUT y 32 c) (hc : (c == 0) = false) (hD : CUT x 32 2147483648) (hS : SGN y 32 18446744073709551615) : BIN 109 x y 0 22 := by
  have HA := Lib.hid hA
  have HB := Lib.hid hB
  have HD := Lib.hid hD
  have HS := Lib.hid hS
  clear hA hB hD hS
  intro w
  go_enter Tryd.func21, Tryd.ntmps21
  go_wp2_with fail
  refine (HA.out _).mono ?_
  rintro e w1 ⟨rfl, hg⟩
  go_wp2_with fail
  refine (HB.out _).mono ?_
  rintro e w2 ⟨rfl, rfl⟩
  go_wp2_with fail
  refine (HD.out _).mono ?_
  rintro e w2 ⟨rfl, rfl⟩
  go_wp2_with fail
  refine (HS.out _).mono ?_
  rintro e w2 ⟨rfl, rfl⟩
  go_wp2
  go_ret2
  exact ⟨ret_pair rfl rfl, hg⟩
set_option maxHeartbeats 4000000 in
theorem bin_p64 (k x y z z' : Int) (hk : k = 0 ∨ k = 1 ∨ k = 2 ∨ k = 7 ∨ k = 8 ∨ k = 9 ∨ k = 10 ∨ k = 11 ∨ k = 12 ∨ k = 13 ∨ k = 14) (hA : AR (124 + k) 2) (hR : ARI k x y 64 z) (hC : CUT z 64 z') : BIN (124 + k) x y z' 0 := by
  obtain rfl | rfl | rfl | rfl | rfl | rfl | rfl | rfl | rfl | rfl | rfl := hk
  all_goals
    have HA := Lib.hid hA
    have HR := Lib.hid hR
    have HC := Lib.hid hC
    clear hA hR hC
    intro w
    go_enter Tryd.func21, Tryd.ntmps21
    go_wp2_with fail
    refine (HA.out _).mono ?_
    rintro e w1 ⟨rfl, hg⟩
    go_wp2_with fail
    refine (HR.out _).mono ?_
    rintro e w2 ⟨rfl, rfl⟩
    go_wp2_with fail
    refine (HC.out _).mono ?_
    rintro e w2 ⟨rfl, rfl⟩
    go_wp2
    go_ret2
    exact ⟨ret_pair rfl rfl, hg⟩
set_option maxHeartbeats 4000000 in
theorem bin_z64 (k x y : Int) (hk : k = 3 ∨ k = 4 ∨ k = 5 ∨ k = 6) (hA : AR (124 + k) 2) (hC : CUT y 64 0) : BIN (124 + k) x y 0 21 := by
  obtain rfl | rfl | rfl | rfl := hk
  all_goals
    have HA := Lib.hid hA
    have HC := Lib.hid hC
    clear hA hC
    intro w
    go_enter Tryd.func21, Tryd.ntmps21
    go_wp2_with fail
    refine (HA.out _).mono ?_
    rintro e w1 ⟨rfl, hg⟩
    go_wp2_with fail
    refine (HC.out _).mono ?_
    rintro e w2 ⟨rfl, rfl⟩
    go_wp2
    go_ret2
    exact ⟨ret_pair rfl rfl, hg⟩
set_option maxHeartbeats 4000000 in
theorem bin_d64 (k x y c z z' : Int) (hk : k = 4 ∨ k = 5 ∨ k = 6) (hA : AR (124 + k) 2) (hB : CUT y 64 c) (hc : (c == 0) = false) (hR : ARI k x y 64 z) (hC : CUT z 64 z') : BIN (124 + k) x y z' 0 := by
  obtain rfl | rfl | rfl := hk
  all_goals
    have HA := Lib.hid hA
    have HB := Lib.hid hB
    have HR := Lib.hid hR
    have HC := Lib.hid hC
    clear hA hB hR hC
    intro w
    go_enter Tryd.func21, Tryd.ntmps21
    go_wp2_with fail
    refine (HA.out _).mono ?_
    rintro e w1 ⟨rfl, hg⟩
    go_wp2_with fail
    refine (HB.out _).mono ?_
    rintro e w2 ⟨rfl, rfl⟩
    go_wp2_with fail
    refine (HR.out _).mono ?_
    rintro e w2 ⟨rfl, rfl⟩
    go_wp2_with fail
    refine (HC.out _).mono ?_
    rintro e w2 ⟨rfl, rfl⟩
    go_wp2
    go_ret2
    exact ⟨ret_pair rfl rfl, hg⟩
set_option maxHeartbeats 4000000 in
theorem bin_n64 (x y c a z z' : Int) (hA : AR 127 2) (hB : CUT y 64 c) (hc : (c == 0) = false) (hD : CUT x 64 a) (ha : (a == 9223372036854775808) = false) (hR : ARI 3 x y 64 z) (hC : CUT z 64 z') : BIN 127 x y z' 0 := by
  have HA := Lib.hid hA
  have HB := Lib.hid hB
  have HD := Lib.hid hD
  have HR := Lib.hid hR
  have HC := Lib.hid hC
  clear hA hB hD hR hC
  intro w
  go_enter Tryd.func21, Tryd.ntmps21
  go_wp2_with fail
  refine (HA.out _).mono ?_
  rintro e w1 ⟨rfl, hg⟩
  go_wp2_with fail
  refine (HB.out _).mono ?_
  rintro e w2 ⟨rfl, rfl⟩
  go_wp2_with fail
  refine (HD.out _).mono ?_
  rintro e w2 ⟨rfl, rfl⟩
  go_wp2_with fail
  refine (HR.out _).mono ?_
  rintro e w2 ⟨rfl, rfl⟩
  go_wp2_with fail
  refine (HC.out _).mono ?_
  rintro e w2 ⟨rfl, rfl⟩
  go_wp2
  go_ret2
  exact ⟨ret_pair rfl rfl, hg⟩
set_option maxHeartbeats 4000000 in
theorem bin_m64 (x y c s z z' : Int) (hA : AR 127 2) (hB : CUT y 64 c) (hc : (c == 0) = false) (hD : CUT x 64 9223372036854775808) (hS : SGN y 64 s) (hs : (s == 18446744073709551615) = false) (hR : ARI 3 x y 64 z) (hC : CUT z 64 z') : BIN 127 x y z' 0 := by
  have HA := Lib.hid hA
  have HB := Lib.hid hB
  have HD := Lib.hid hD
  have HS := Lib.hid hS
  have HR := Lib.hid hR
  have HC := Lib.hid hC
  clear hA hB hD hS hR hC
  intro w
  go_enter Tryd.func21, Tryd.ntmps21
  go_wp2_with fail
  refine (HA.out _).mono ?_
  rintro e w1 ⟨rfl, hg⟩
  go_wp2_with fail
  refine (HB.out _).mono ?_
  rintro e w2 ⟨rfl, rfl⟩
  go_wp2_with fail
  refine (HD.out _).mono ?_
  rintro e w2 ⟨rfl, rfl⟩
  go_wp2_with fail
  refine (HS.out _).mono ?_
  rintro e w2 ⟨rfl, rfl⟩
  go_wp2_with fail
  refine (HR.out _).mono ?_
  rintro e w2 ⟨rfl, rfl⟩
  go_wp2_with fail
  refine (HC.out _).mono ?_
  rintro e w2 ⟨rfl, rfl⟩
  go_wp2
  go_ret2
  exact ⟨ret_pair rfl rfl, hg⟩
set_option maxHeartbeats 4000000 in
theorem bin_v64 (x y c : Int) (hA : AR 127 2) (hB : CUT y 64 c) (hc : (c == 0) = false) (hD : CUT x 64 9223372036854775808) (hS : SGN y 64 18446744073709551615) : BIN 127 x y 0 22 := by
  have HA := Lib.hid hA
  have HB := Lib.hid hB
  have HD := Lib.hid hD
  have HS := Lib.hid hS
  clear hA hB hD hS
  intro w
  go_enter Tryd.func21, Tryd.ntmps21
  go_wp2_with fail
  refine (HA.out _).mono ?_
  rintro e w1 ⟨rfl, hg⟩
  go_wp2_with fail
  refine (HB.out _).mono ?_
  rintro e w2 ⟨rfl, rfl⟩
  go_wp2_with fail
  refine (HD.out _).mono ?_
  rintro e w2 ⟨rfl, rfl⟩
  go_wp2_with fail
  refine (HS.out _).mono ?_
  rintro e w2 ⟨rfl, rfl⟩
  go_wp2
  go_ret2
  exact ⟨ret_pair rfl rfl, hg⟩
set_option maxHeartbeats 1000000 in
theorem bin_no (op x y r : Int) (hA : AR op r) (hr : (r == 2) = false) : BIN op x y 0 1 := by
  have HA := Lib.hid hA
  clear hA
  intro w
  go_enter Tryd.func21, Tryd.ntmps21
  go_wp2_with fail
  refine (HA.out _).mono ?_
  rintro e w1 ⟨rfl, hg⟩
  go_wp2
  go_ret2
  exact ⟨ret_pair rfl rfl, hg⟩
end NumB3
end Go.Proofs.YthdklnkaeddogacDoor
