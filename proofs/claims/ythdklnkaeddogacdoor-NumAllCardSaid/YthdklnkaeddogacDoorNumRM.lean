/-
  The reference's long division and its counting, plain. Of no program. (For NumAll.)
-/
import Derived.Test.YthdklnkaeddogacDoorKit
namespace Go.Proofs.YthdklnkaeddogacDoor
open Go.RowKit
namespace NumRM
/-- one step of the long division -/
theorem div_step {X y d r b : Int} (hy : 0 < y) (hX : X = d * y + r) (hr : 0 ≤ r ∧ r < y) (hb : b = 0 ∨ b = 1) :
    (2 * X + b) / y = (if y ≤ 2 * r + b then 2 * d + 1 else 2 * d) ∧ (2 * X + b) % y = (if y ≤ 2 * r + b then 2 * r + b - y else 2 * r + b) := by
  have e : 2 * X + b = 2 * r + b + 2 * d * y := by rw [hX, Int.mul_add, ← Int.mul_assoc]; omega
  by_cases h : y ≤ 2 * r + b
  · rw [if_pos h, if_pos h]
    have e2 : 2 * X + b = (2 * r + b - y) + (2 * d + 1) * y := by rw [e, Int.add_mul, Int.one_mul]; omega
    rw [e2, Int.add_mul_ediv_right _ _ (by omega), Int.add_mul_emod_self_right, Int.ediv_eq_zero_of_lt (by omega) (by omega), Int.emod_eq_of_lt (by omega) (by omega)]
    exact ⟨by omega, rfl⟩
  · rw [if_neg h, if_neg h]
    rw [e, Int.add_mul_ediv_right _ _ (by omega), Int.add_mul_emod_self_right, Int.ediv_eq_zero_of_lt (by omega) (by omega), Int.emod_eq_of_lt (by omega) (by omega)]
    exact ⟨by omega, rfl⟩
/-- a number whose lowest i bits are 0, or one below 2^i: their sum -/
theorem or_hi (m x : Int) (i : Nat) (hm : 0 ≤ m) (hx : 0 ≤ x ∧ x < 2 ^ i) (h64 : m * 2 ^ i < 18446744073709551616) (hx64 : x < 18446744073709551616) : Go.bits .or .u64 (m * 2 ^ i) x = m * 2 ^ i + x := by
  obtain ⟨a, rfl⟩ := Int.eq_ofNat_of_zero_le hm
  obtain ⟨b, rfl⟩ := Int.eq_ofNat_of_zero_le hx.1
  have hb : b < 2 ^ i := by have := hx.2; exact_mod_cast this
  have e : (a : Int) * 2 ^ i = ((a * 2 ^ i : Nat) : Int) := by push_cast; rfl
  rw [e] at h64 ⊢
  rw [bits_or_u64_nat _ _ (by omega) (by omega), Nat.mul_comm a, ← Nat.two_pow_add_eq_or_of_lt hb a]
  push_cast; rfl
/-- the bits of x from i on, and the next one -/
theorem shr_step (x : Int) (i : Nat) : x / 2 ^ i = 2 * (x / 2 ^ (i + 1)) + x / 2 ^ i % 2 := by
  have e : x / 2 ^ (i + 1) = x / 2 ^ i / 2 := by rw [Int.pow_succ, ← Int.ediv_ediv_of_nonneg (Int.le_of_lt (Int.pow_pos (by decide)))]
  rw [e]; omega
end NumRM
end Go.Proofs.YthdklnkaeddogacDoor
