/-
  The reference's small functions of layer 3: yes, divide, cut, size, Sign. (For NumAll; under way.)
-/
import Derived.Test.YthdklnkaeddogacDoorNumRM
namespace Go.Proofs.YthdklnkaeddogacDoor
open Go.RowKit NumRM
namespace NumRef
theorem yes_any (b : Bool) (w : World) : Calls Tryd.prog 27 #[.bool b] w fun e w' => e = .returned (.int .u64 (if b then 1 else 0)) ∧ w = w' := by
  cases b
  · go_enter Tryd.func27, Tryd.ntmps27
    go_wp2
    go_ret
    exact ⟨rfl, rfl⟩
  · go_enter Tryd.func27, Tryd.ntmps27
    go_wp2
    go_ret
    exact ⟨rfl, rfl⟩
/-- the quotient's bits from i on -/
theorem ret_u {x y : Int} (h : x = y) : Ending.returned (.int .u64 x) = .returned (.int .u64 y) := by rw [h]
set_option maxHeartbeats 2000000 in
theorem divide_any (x y : Int) (hx : 0 ≤ x ∧ x < 18446744073709551616) (hy : 0 < y ∧ y < 18446744073709551616) (w : World) :
    Calls Tryd.prog 43 #[.int .u64 x, .int .u64 y] w fun e w' => e = .returned (.int .u64 (x / y)) ∧ w = w' := by
  have HX := Lib.hid hx
  have HY := Lib.hid hy
  have hy0 := hy.1
  have hy1 := hy.2
  clear hx hy
  go_enter Tryd.func43, Tryd.ntmps43
  go_wp2_with fail
  go_loop [5, 6, 7] (fun qv rv iv => ∃ m : Nat, m ≤ 64 ∧ iv = .int .i64 ((m : Int) - 1) ∧ rv = .int .u64 (x / 2 ^ m % y) ∧ qv = .int .u64 (x / 2 ^ m / y * 2 ^ m)) (fun _ _ iv => (intOf iv + 1).toNat)
  case atStart => exact ⟨64, by decide, rfl, by rw [show x / 2 ^ 64 = 0 from Int.ediv_eq_zero_of_lt HX.out.1 (by rw [show (2 : Int) ^ 64 = 18446744073709551616 from rfl]; exact HX.out.2), Int.zero_emod], by rw [show x / 2 ^ 64 = 0 from Int.ediv_eq_zero_of_lt HX.out.1 (by rw [show (2 : Int) ^ 64 = 18446744073709551616 from rfl]; exact HX.out.2), Int.zero_ediv, Int.zero_mul]⟩
  case round =>
    obtain ⟨m, hm, rfl, rfl, rfl⟩ := hrel
    by_cases h0 : m = 0
    · subst h0
      have hneg : ¬ (0 : Int) ≤ ((0 : Nat) : Int) - 1 := by omega
      go_wp2
      go_ret
      exact ⟨ret_u (by simp), rfl⟩
    · obtain ⟨p, rfl⟩ : ∃ p, m = p + 1 := ⟨m - 1, by omega⟩
      have hpI : (((p + 1 : Nat) : Int) - 1) = (p : Int) := by omega
      have hst := shr_step x p
      have hX0 : 0 ≤ x / 2 ^ (p + 1) := Int.ediv_nonneg HX.out.1 (Int.le_of_lt (Int.pow_pos (by decide)))
      have hb : x / 2 ^ p % 2 = 0 ∨ x / 2 ^ p % 2 = 1 := by omega
      have hr : 0 ≤ x / 2 ^ (p + 1) % y ∧ x / 2 ^ (p + 1) % y < y := ⟨Int.emod_nonneg _ (by omega), Int.emod_lt_of_pos _ hy0⟩
      have hdm : x / 2 ^ (p + 1) = x / 2 ^ (p + 1) / y * y + x / 2 ^ (p + 1) % y := by rw [Int.mul_comm]; have := Int.emod_add_mul_ediv (x / 2 ^ (p + 1)) y; omega
      have hds := div_step hy0 hdm hr hb
      rw [← hst] at hds
      have hD0 : 0 ≤ x / 2 ^ (p + 1) / y := Int.ediv_nonneg hX0 (by omega)
      have hDb : x / 2 ^ (p + 1) / y * 2 ^ (p + 1) ≤ x := by
        have h1 : x / 2 ^ (p + 1) / y ≤ x / 2 ^ (p + 1) := Int.ediv_le_self _ hX0
        have hp1 : (0 : Int) < 2 ^ (p + 1) := Int.pow_pos (by decide)
        have h2 := Int.mul_le_mul_of_nonneg_right h1 (Int.le_of_lt hp1)
        have h3 : x / 2 ^ (p + 1) * 2 ^ (p + 1) ≤ x := Int.ediv_mul_le _ (by omega)
        omega
      have hsh : (x / 2 ^ p).tmod 2 = x / 2 ^ p % 2 := Int.tmod_eq_emod_of_nonneg (Int.ediv_nonneg HX.out.1 (Int.le_of_lt (Int.pow_pos (by decide))))
      have HDs := Lib.hid hds
      have hp63 : p ≤ 63 := by omega
      clear hst hdm hds hX0
      generalize x / 2 ^ p % 2 = b at *
      generalize x / 2 ^ (p + 1) % y = R at *
      generalize x / 2 ^ (p + 1) / y = D at *
      have hor : Go.bits .or .u64 (IntKind.u64.wrap (R * 2)) b = (2 * R + b) % 18446744073709551616 := by
        have h := or_hi (R % 9223372036854775808) b 1 (by omega) (by rw [show (2 : Int) ^ 1 = 2 from rfl]; omega) (by rw [show (2 : Int) ^ 1 = 2 from rfl]; omega) (by omega)
        rw [show (2 : Int) ^ 1 = 2 from rfl] at h
        rw [IntKind.wrap_u64, show R * 2 % 18446744073709551616 = R % 9223372036854775808 * 2 by omega, h]
        omega
      obtain ⟨w2, hw2⟩ : ∃ w2, (2 * R + b) % 18446744073709551616 = w2 := ⟨_, rfl⟩
      rw [hw2] at hor
      have HW2 := Lib.hid hw2
      obtain ⟨hi, hhi⟩ : ∃ hi, R / 9223372036854775808 = hi := ⟨_, rfl⟩
      have HHi := Lib.hid hhi
      have hwp : IntKind.u64.wrap (p : Int) = p := by rw [IntKind.wrap_u64]; omega
      have hwb : IntKind.u64.wrap b = b := by rw [IntKind.wrap_u64]; omega
      have hp0 : (0 : Int) < 2 ^ p := Int.pow_pos (by decide)
      have e1 : (2 : Int) ^ (p + 1) = 2 * 2 ^ p := by rw [Int.pow_succ, Int.mul_comm]
      have HQ := Lib.hid (show Go.bits .or .u64 (D * 2 ^ (p + 1)) (IntKind.u64.wrap (2 ^ p)) = (2 * D + 1) * 2 ^ p by
        have h63 : (2 : Int) ^ p ≤ 2 ^ 63 := by
          have h := Nat.pow_le_pow_right (show 0 < 2 by decide) hp63
          exact_mod_cast h
        rw [show (2 : Int) ^ 63 = 9223372036854775808 from rfl] at h63
        rw [IntKind.wrap_u64, show (2 : Int) ^ p % 18446744073709551616 = 2 ^ p from Int.emod_eq_of_lt (by omega) (by omega), or_hi D (2 ^ p) (p + 1) hD0 (by rw [e1]; omega) (by have := HX.out.2; omega) (by omega), e1, Int.add_mul, Int.one_mul, ← Int.mul_assoc, Int.mul_comm D 2])
      have HQ0 := Lib.hid (show D * 2 ^ (p + 1) = 2 * D * 2 ^ p by rw [e1, ← Int.mul_assoc, Int.mul_comm D 2])
      have HA := Lib.hid (show y ≤ 2 * R + b → IntKind.u64.wrap (w2 - y) = x / 2 ^ p % y ∧ (2 * D + 1) * 2 ^ p = x / 2 ^ p / y * 2 ^ p from fun h => by
        obtain ⟨d1, d2⟩ := HDs.out
        rw [if_pos h] at d1 d2
        rw [d1, d2, IntKind.wrap_u64]
        have := HW2.out
        exact ⟨by omega, rfl⟩)
      have HBf := Lib.hid (show ¬ y ≤ 2 * R + b → R < 9223372036854775808 → w2 = x / 2 ^ p % y ∧ 2 * D * 2 ^ p = x / 2 ^ p / y * 2 ^ p from fun h h2 => by
        obtain ⟨d1, d2⟩ := HDs.out
        rw [if_neg h] at d1 d2
        rw [d1, d2]
        have := HW2.out
        exact ⟨by omega, rfl⟩)
      clear hw2 h0 e1 hp0
      by_cases h1 : hi = 1
      · subst h1
        obtain ⟨k1, k2⟩ := HA.out (by have := HHi.out; omega)
        have K1 := Lib.hid k1
        have K2 := Lib.hid k2
        clear k1 k2
        go_wp2
        exact ⟨⟨p, by omega, rfl, by rw [K1.out], by rw [HQ.out, K2.out]⟩, by simp [intOf]⟩
      · have h2 : (hi == 1) = false := beq_eq_false_iff_ne.2 h1
        by_cases h3 : y ≤ w2
        · obtain ⟨k1, k2⟩ := HA.out (by have := HHi.out; have := HW2.out; omega)
          have K1 := Lib.hid k1
          have K2 := Lib.hid k2
          clear k1 k2 h1
          go_wp2
          exact ⟨⟨p, by omega, rfl, by rw [K1.out], by rw [HQ.out, K2.out]⟩, by simp [intOf]⟩
        · obtain ⟨k1, k2⟩ := HBf.out (by have := HHi.out; have := HW2.out; omega) (by have := HHi.out; omega)
          have K1 := Lib.hid k1
          have K2 := Lib.hid k2
          clear k1 k2 h1
          go_wp2
          exact ⟨⟨p, by omega, rfl, by rw [K1.out], by rw [HQ0.out, K2.out]⟩, by simp [intOf]⟩
def cutI (x w : Int) : Int := x % 2 ^ w.toNat
def signI (x w : Int) : Int := if w < 64 ∧ 2 ^ (w - 1).toNat ≤ cutI x w then cutI x w + 18446744073709551616 - 2 ^ w.toNat else cutI x w
theorem cut_any (x w0 : Int) (hx : 0 ≤ x ∧ x < 18446744073709551616) (hw : w0 = 8 ∨ w0 = 16 ∨ w0 = 32 ∨ w0 = 64) (w : World) :
    Calls Tryd.prog 28 #[.int .u64 x, .int .i64 w0] w fun e w' => e = .returned (.int .u64 (cutI x w0)) ∧ w = w' := by
  rcases hw with rfl | rfl | rfl | rfl
  · have h : IntKind.u64.wrap (x * 72057594037927936) / 72057594037927936 = cutI x 8 := by
      show _ = x % 256
      rw [IntKind.wrap_u64]; omega
    generalize cutI x 8 = z at *
    go_enter Tryd.func28, Tryd.ntmps28
    go_wp2
    go_ret
    exact ⟨rfl, rfl⟩
  · have h : IntKind.u64.wrap (x * 281474976710656) / 281474976710656 = cutI x 16 := by
      show _ = x % 65536
      rw [IntKind.wrap_u64]; omega
    generalize cutI x 16 = z at *
    go_enter Tryd.func28, Tryd.ntmps28
    go_wp2
    go_ret
    exact ⟨rfl, rfl⟩
  · have h : IntKind.u64.wrap (x * 4294967296) / 4294967296 = cutI x 32 := by
      show _ = x % 4294967296
      rw [IntKind.wrap_u64]; omega
    generalize cutI x 32 = z at *
    go_enter Tryd.func28, Tryd.ntmps28
    go_wp2
    go_ret
    exact ⟨rfl, rfl⟩
  · have h : x = cutI x 64 := (Int.emod_eq_of_lt hx.1 hx.2).symm
    have HH := Lib.hid h
    clear h
    go_enter Tryd.func28, Tryd.ntmps28
    go_wp2
    go_ret
    exact ⟨ret_u HH.out, rfl⟩
theorem size_any (x : Int) (hx : 0 ≤ x ∧ x < 18446744073709551616) (w : World) :
    Calls Tryd.prog 44 #[.int .u64 x] w fun e w' => e = .returned (.int .u64 (if 9223372036854775808 ≤ x then 18446744073709551616 - x else x)) ∧ w = w' := by
  by_cases h : 9223372036854775808 ≤ x
  · rw [if_pos h]
    have h1 : (x / 9223372036854775808 == 1) = true := beq_iff_eq.2 (by omega)
    have h2 : IntKind.u64.wrap (-x) = 18446744073709551616 - x := by rw [IntKind.wrap_u64]; omega
    clear h hx
    generalize 18446744073709551616 - x = z at *
    go_enter Tryd.func44, Tryd.ntmps44
    go_wp2
    go_ret
    exact ⟨rfl, rfl⟩
  · rw [if_neg h]
    have h1 : (x / 9223372036854775808 == 1) = false := beq_eq_false_iff_ne.2 (by omega)
    clear h hx
    go_enter Tryd.func44, Tryd.ntmps44
    go_wp2
    go_ret
    exact ⟨rfl, rfl⟩
theorem cutI_bd (x w0 : Int) : 0 ≤ cutI x w0 ∧ cutI x w0 < 2 ^ w0.toNat := by
  have hp : (0 : Int) < 2 ^ w0.toNat := Int.pow_pos (by decide)
  exact ⟨Int.emod_nonneg _ (by omega), Int.emod_lt_of_pos _ hp⟩
theorem sign_any (x w0 : Int) (hx : 0 ≤ x ∧ x < 18446744073709551616) (hw : w0 = 8 ∨ w0 = 16 ∨ w0 = 32 ∨ w0 = 64) (w : World) :
    Calls Tryd.prog 30 #[.int .u64 x, .int .i64 w0] w fun e w' => e = .returned (.int .u64 (signI x w0)) ∧ w = w' := by
  have C := cut_any x w0 hx hw w
  have hb := cutI_bd x w0
  rcases hw with rfl | rfl | rfl | rfl
  · have hb2 : 0 ≤ cutI x 8 ∧ cutI x 8 < 256 := hb
    have hs : signI x 8 = if 128 ≤ cutI x 8 then cutI x 8 + 18446744073709551616 - 256 else cutI x 8 := by
      unfold signI
      by_cases h : (128 : Int) ≤ cutI x 8
      · rw [if_pos ⟨by decide, h⟩, if_pos h]; rfl
      · rw [if_neg (fun h' => h h'.2), if_neg h]
    rw [hs]
    have HC := Lib.hid C
    clear C hb hs
    generalize cutI x 8 = z at *
    by_cases h : 128 ≤ z
    · rw [if_pos h]
      have h1 : (z / 128 == 1) = true := beq_iff_eq.2 (by omega)
      have h2 : IntKind.u64.wrap (z - 256) = z + 18446744073709551616 - 256 := by rw [IntKind.wrap_u64]; omega
      clear h
      generalize z + 18446744073709551616 - 256 = y at *
      go_enter Tryd.func30, Tryd.ntmps30
      go_wp2_with (go_at_call 28; refine HC.out.mono ?_; rintro e w' ⟨rfl, rfl⟩)
      go_ret
      exact ⟨rfl, rfl⟩
    · rw [if_neg h]
      have h1 : (z / 128 == 1) = false := beq_eq_false_iff_ne.2 (by omega)
      clear h
      go_enter Tryd.func30, Tryd.ntmps30
      go_wp2_with (go_at_call 28; refine HC.out.mono ?_; rintro e w' ⟨rfl, rfl⟩)
      go_ret
      exact ⟨rfl, rfl⟩
  · have hb2 : 0 ≤ cutI x 16 ∧ cutI x 16 < 65536 := hb
    have hs : signI x 16 = if 32768 ≤ cutI x 16 then cutI x 16 + 18446744073709551616 - 65536 else cutI x 16 := by
      unfold signI
      by_cases h : (32768 : Int) ≤ cutI x 16
      · rw [if_pos ⟨by decide, h⟩, if_pos h]; rfl
      · rw [if_neg (fun h' => h h'.2), if_neg h]
    rw [hs]
    have HC := Lib.hid C
    clear C hb hs
    generalize cutI x 16 = z at *
    by_cases h : 32768 ≤ z
    · rw [if_pos h]
      have h1 : (z / 32768 == 1) = true := beq_iff_eq.2 (by omega)
      have h2 : IntKind.u64.wrap (z - 65536) = z + 18446744073709551616 - 65536 := by rw [IntKind.wrap_u64]; omega
      clear h
      generalize z + 18446744073709551616 - 65536 = y at *
      go_enter Tryd.func30, Tryd.ntmps30
      go_wp2_with (go_at_call 28; refine HC.out.mono ?_; rintro e w' ⟨rfl, rfl⟩)
      go_ret
      exact ⟨rfl, rfl⟩
    · rw [if_neg h]
      have h1 : (z / 32768 == 1) = false := beq_eq_false_iff_ne.2 (by omega)
      clear h
      go_enter Tryd.func30, Tryd.ntmps30
      go_wp2_with (go_at_call 28; refine HC.out.mono ?_; rintro e w' ⟨rfl, rfl⟩)
      go_ret
      exact ⟨rfl, rfl⟩
  · have hb2 : 0 ≤ cutI x 32 ∧ cutI x 32 < 4294967296 := hb
    have hs : signI x 32 = if 2147483648 ≤ cutI x 32 then cutI x 32 + 18446744073709551616 - 4294967296 else cutI x 32 := by
      unfold signI
      by_cases h : (2147483648 : Int) ≤ cutI x 32
      · rw [if_pos ⟨by decide, h⟩, if_pos h]; rfl
      · rw [if_neg (fun h' => h h'.2), if_neg h]
    rw [hs]
    have HC := Lib.hid C
    clear C hb hs
    generalize cutI x 32 = z at *
    by_cases h : 2147483648 ≤ z
    · rw [if_pos h]
      have h1 : (z / 2147483648 == 1) = true := beq_iff_eq.2 (by omega)
      have h2 : IntKind.u64.wrap (z - 4294967296) = z + 18446744073709551616 - 4294967296 := by rw [IntKind.wrap_u64]; omega
      clear h
      generalize z + 18446744073709551616 - 4294967296 = y at *
      go_enter Tryd.func30, Tryd.ntmps30
      go_wp2_with (go_at_call 28; refine HC.out.mono ?_; rintro e w' ⟨rfl, rfl⟩)
      go_ret
      exact ⟨rfl, rfl⟩
    · rw [if_neg h]
      have h1 : (z / 2147483648 == 1) = false := beq_eq_false_iff_ne.2 (by omega)
      clear h
      go_enter Tryd.func30, Tryd.ntmps30
      go_wp2_with (go_at_call 28; refine HC.out.mono ?_; rintro e w' ⟨rfl, rfl⟩)
      go_ret
      exact ⟨rfl, rfl⟩
  · have hs : signI x 64 = cutI x 64 := if_neg (fun h => absurd h.1 (by decide))
    have hb2 : 0 ≤ cutI x 64 ∧ cutI x 64 < 18446744073709551616 := hb
    rw [hs]
    have HC := Lib.hid C
    clear C hb hs
    generalize cutI x 64 = z at *
    by_cases h : 9223372036854775808 ≤ z
    · have h1 : (z / 9223372036854775808 == 1) = true := beq_iff_eq.2 (by omega)
      clear h
      go_enter Tryd.func30, Tryd.ntmps30
      go_wp2_with (go_at_call 28; refine HC.out.mono ?_; rintro e w' ⟨rfl, rfl⟩)
      go_ret
      exact ⟨rfl, rfl⟩
    · have h1 : (z / 9223372036854775808 == 1) = false := beq_eq_false_iff_ne.2 (by omega)
      clear h
      go_enter Tryd.func30, Tryd.ntmps30
      go_wp2_with (go_at_call 28; refine HC.out.mono ?_; rintro e w' ⟨rfl, rfl⟩)
      go_ret
      exact ⟨rfl, rfl⟩
/-- how many of the first n bits of x, taken in the order of at, are 1, and how many are 0 ahead of the first 1 -/
def onesN (x : Int) (at' : Nat → Nat) : Nat → Int
  | 0 => 0
  | n + 1 => onesN x at' n + x / 2 ^ at' n % 2
def zerosN (x : Int) (at' : Nat → Nat) : Nat → Int
  | 0 => 0
  | n + 1 => if x / 2 ^ at' n % 2 = 0 ∧ onesN x at' n = 0 then zerosN x at' n + 1 else zerosN x at' n
theorem onesN_bd (x : Int) (at' : Nat → Nat) : ∀ n : Nat, 0 ≤ onesN x at' n ∧ onesN x at' n ≤ n
  | 0 => by simp [onesN]
  | n + 1 => by have := onesN_bd x at' n; simp only [onesN]; omega
theorem zerosN_bd (x : Int) (at' : Nat → Nat) : ∀ n : Nat, 0 ≤ zerosN x at' n ∧ zerosN x at' n ≤ n
  | 0 => by simp [zerosN]
  | n + 1 => by have := zerosN_bd x at' n; simp only [zerosN]; split <;> omega
set_option maxHeartbeats 2000000 in
theorem count_any (x : Int) (hx : 0 ≤ x ∧ x < 18446744073709551616) (n : Nat) (hn : n ≤ 64) (kind : Int) (at' : Nat → Nat) (hat : ∀ i, i < n → at' i ≤ 63 ∧ (at' i : Int) = if kind = 0 then (n : Int) - 1 - i else i) (w : World) :
    Calls Tryd.prog 29 #[.int .u64 x, .int .i64 n, .int .i64 kind] w fun e w' => e = .returned (.int .u64 (if kind = 2 then onesN x at' n else zerosN x at' n)) ∧ w = w' := by
  have HX := Lib.hid hx
  have HA := Lib.hid hat
  generalize hres : (if kind = 2 then onesN x at' n else zerosN x at' n) = res
  have HRes := Lib.hid hres
  clear hx hat hres
  go_enter Tryd.func29, Tryd.ntmps29
  go_wp2_with fail
  go_loop [7, 8, 9] (fun zv ov iv => ∃ i : Nat, i ≤ n ∧ iv = .int .i64 i ∧ zv = .int .i64 (zerosN x at' i) ∧ ov = .int .i64 (onesN x at' i)) (fun _ _ iv => n - (intOf iv).toNat)
  case atStart => exact ⟨0, by omega, rfl, rfl, rfl⟩
  case round =>
    obtain ⟨i, hi, rfl, rfl, rfl⟩ := hrel
    by_cases hlt : i < n
    · obtain ⟨ht63, hta⟩ := HA.out i hlt
      have hz := zerosN_bd x at' i
      have ho := onesN_bd x at' i
      have HZ := Lib.hid (show zerosN x at' (i + 1) = if x / 2 ^ at' i % 2 = 0 ∧ onesN x at' i = 0 then zerosN x at' i + 1 else zerosN x at' i from rfl)
      have HO := Lib.hid (show onesN x at' (i + 1) = onesN x at' i + x / 2 ^ at' i % 2 from rfl)
      have hrem : (x / 2 ^ at' i).tmod 2 = x / 2 ^ at' i % 2 := Int.tmod_eq_emod_of_nonneg (Int.ediv_nonneg HX.out.1 (Int.le_of_lt (Int.pow_pos (by decide))))
      have hb : x / 2 ^ at' i % 2 = 0 ∨ x / 2 ^ at' i % 2 = 1 := by omega
      generalize zerosN x at' i = z at *
      generalize onesN x at' i = o at *
      generalize x / 2 ^ at' i % 2 = b at *
      generalize at' i = t at *
      have hwt : IntKind.u64.wrap (t : Int) = t := by rw [IntKind.wrap_u64]; omega
      have hltI : (i : Int) < (n : Int) := by omega
      have fin : ∀ z' o', z' = zerosN x at' (i + 1) → o' = onesN x at' (i + 1) → ∃ j : Nat, j ≤ n ∧ Value.int .i64 ((i : Int) + 1) = .int .i64 j ∧ Value.int .i64 z' = .int .i64 (zerosN x at' j) ∧ Value.int .i64 o' = .int .i64 (onesN x at' j) := fun z' o' h1 h2 => ⟨i + 1, by omega, by push_cast; rfl, by rw [h1], by rw [h2]⟩
      have HFin := Lib.hid fin
      clear fin
      rcases hb with rfl | rfl
      · by_cases ho0 : o = 0
        · subst ho0
          by_cases hk : kind = 0
          · rw [if_pos hk] at hta
            have hti : (n : Int) - 1 - (i : Int) = (t : Int) := hta.symm
            subst hk
            clear hta ht63
            go_wp2
            exact ⟨HFin.out _ _ (by rw [HZ.out, if_pos ⟨rfl, rfl⟩]) (by rw [HO.out]; rfl), by simp [intOf]; omega⟩
          · rw [if_neg hk] at hta
            obtain rfl : t = i := by omega
            have hk2 : (kind == 0) = false := beq_eq_false_iff_ne.2 hk
            clear hta ht63 hk
            go_wp2
            exact ⟨HFin.out _ _ (by rw [HZ.out, if_pos ⟨rfl, rfl⟩]) (by rw [HO.out]; rfl), by simp [intOf]; omega⟩
        · have ho2 : (o == 0) = false := beq_eq_false_iff_ne.2 ho0
          by_cases hk : kind = 0
          · rw [if_pos hk] at hta
            have hti : (n : Int) - 1 - (i : Int) = (t : Int) := hta.symm
            subst hk
            have HN := Lib.hid ho0
            clear hta ht63 ho0
            go_wp2
            exact ⟨HFin.out _ _ (by rw [HZ.out, if_neg (fun h => HN.out h.2)]) (by rw [HO.out, Int.add_zero]), by simp [intOf]; omega⟩
          · rw [if_neg hk] at hta
            obtain rfl : t = i := by omega
            have hk2 : (kind == 0) = false := beq_eq_false_iff_ne.2 hk
            have HN := Lib.hid ho0
            clear hta ht63 hk ho0
            go_wp2
            exact ⟨HFin.out _ _ (by rw [HZ.out, if_neg (fun h => HN.out h.2)]) (by rw [HO.out, Int.add_zero]), by simp [intOf]; omega⟩
      · by_cases hk : kind = 0
        · rw [if_pos hk] at hta
          have hti : (n : Int) - 1 - (i : Int) = (t : Int) := hta.symm
          subst hk
          clear hta ht63
          go_wp2
          exact ⟨HFin.out _ _ (by rw [HZ.out, if_neg (fun h => absurd h.1 (by decide))]) (by rw [HO.out]), by simp [intOf]; omega⟩
        · rw [if_neg hk] at hta
          obtain rfl : t = i := by omega
          have hk2 : (kind == 0) = false := beq_eq_false_iff_ne.2 hk
          clear hta ht63 hk
          go_wp2
          exact ⟨HFin.out _ _ (by rw [HZ.out, if_neg (fun h => absurd h.1 (by decide))]) (by rw [HO.out]), by simp [intOf]; omega⟩
    · obtain rfl : n = i := by omega
      have hz := zerosN_bd x at' n
      have ho := onesN_bd x at' n
      have hR := HRes.out
      by_cases hk : kind = 2
      · rw [if_pos hk] at hR
        have HR := Lib.hid hR
        clear hR
        generalize onesN x at' n = o at *
        have hwo : IntKind.u64.wrap o = o := by rw [IntKind.wrap_u64]; omega
        subst hk
        clear hlt
        go_wp2
        go_ret
        exact ⟨ret_u HR.out, rfl⟩
      · rw [if_neg hk] at hR
        have HR := Lib.hid hR
        clear hR
        generalize zerosN x at' n = o at *
        have hwo : IntKind.u64.wrap o = o := by rw [IntKind.wrap_u64]; omega
        have hk2 : (kind == 2) = false := beq_eq_false_iff_ne.2 hk
        clear hlt hk
        go_wp2
        go_ret
        exact ⟨ret_u HR.out, rfl⟩
end NumRef
end Go.Proofs.YthdklnkaeddogacDoor
