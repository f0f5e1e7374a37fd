/-
  Plain mathematics of layer 6's laws: masks of lanes, byte by byte, and what the bits' instructions make of them. Conditions: those of each theorem.
-/
import Derived.Test.YtdclbagfnabmkaaCpAw
namespace Go.Proofs.Ytdclbagfnabmkaa
open Go.RowKit VecM
namespace Cp
def mB (v : Int) (p : Nat → Bool) : Nat → Int := msk v p (lanesI v).toNat
theorem ones_byte (i : Nat) (h : i < 8) : (18446744073709551615 : Int) / 256 ^ i % 256 = 255 := by
  match i, h with
  | 0, _ => decide
  | 1, _ => decide
  | 2, _ => decide
  | 3, _ => decide
  | 4, _ => decide
  | 5, _ => decide
  | 6, _ => decide
  | 7, _ => decide
  | i + 8, h => omega
theorem msk_byte {v : Int} (_hv : v = 8 ∨ v = 16 ∨ v = 32 ∨ v = 64) (p : Nat → Bool) : ∀ k : Nat, (k : Int) ≤ lanesI v → ∀ m, msk v p k m = if m < k * wid v ∧ p (m / wid v) = true then 255 else 0
  | 0, _, m => by simp [msk]
  | k + 1, hk, m => by
    have ih := msk_byte _hv p k (by omega) m
    have ht : thereB v k = true := there_iff.2 ⟨by omega, by omega⟩
    have hw := there_fit ht
    have hpos : 0 < wid v := by omega
    unfold msk
    by_cases hp : p k = true
    · rw [if_pos hp]
      unfold setI
      rw [if_pos ht]
      unfold setN
      rw [Int.toNat_natCast]
      by_cases hm : k * wid v ≤ m ∧ m < k * wid v + wid v
      · rw [if_pos hm, ones_byte _ (by omega)]
        have hq : m / wid v = k := by
          rw [Nat.div_eq_iff hpos]
          rw [Nat.mul_comm k] at hm
          constructor
          · rw [Nat.mul_comm]; omega
          · rw [Nat.mul_comm]; omega
        rw [if_pos ⟨by rw [Nat.add_mul]; omega, by rw [hq]; exact hp⟩]
      · rw [if_neg hm, ih]
        by_cases h1 : m < k * wid v
        · have : m < (k + 1) * wid v := by rw [Nat.add_mul]; omega
          simp only [h1, this, true_and]
        · have : ¬ m < (k + 1) * wid v := by rw [Nat.add_mul]; omega
          simp only [h1, this, false_and]
    · rw [if_neg hp, ih]
      by_cases h1 : m < k * wid v
      · have : m < (k + 1) * wid v := by rw [Nat.add_mul]; omega
        simp only [h1, this, true_and]
      · by_cases h2 : m < (k + 1) * wid v
        · have hq : m / wid v = k := by
            rw [Nat.div_eq_iff hpos]
            rw [Nat.add_mul] at h2
            constructor
            · rw [Nat.mul_comm] at h1 ⊢; omega
            · rw [Nat.mul_comm] at h2 ⊢; omega
          simp only [h1, false_and, if_false, h2, true_and, hq, if_neg hp]
        · simp only [h1, h2, false_and]
theorem mB_byte {v : Int} (hv : v = 8 ∨ v = 16 ∨ v = 32 ∨ v = 64) (p : Nat → Bool) {m : Nat} (hm : m < 16) : mB v p m = if p (m / wid v) = true then 255 else 0 := by
  unfold mB
  have h0 := lanes_nat v
  rw [msk_byte hv p _ (by omega)]
  have : m < (lanesI v).toNat * wid v := by rcases hv with rfl | rfl | rfl | rfl <;> (show m < 16; exact hm)
  simp only [this, true_and]
theorem lane_lt {v : Int} (hv : v = 8 ∨ v = 16 ∨ v = 32 ∨ v = 64) {m : Nat} (hm : m < 16) : thereB v ((m / wid v : Nat) : Int) = true := by
  refine there_iff.2 ⟨Int.natCast_nonneg _, ?_⟩
  rcases hv with rfl | rfl | rfl | rfl
  · show ((m / 1 : Nat) : Int) < 16; omega
  · show ((m / 2 : Nat) : Int) < 8; omega
  · show ((m / 4 : Nat) : Int) < 4; omega
  · show ((m / 8 : Nat) : Int) < 2; omega
theorem b8 : bits .and .u8 255 255 = 255 ∧ bits .and .u8 255 0 = 0 ∧ bits .and .u8 0 255 = 0 ∧ bits .and .u8 0 0 = 0 ∧ bits .or .u8 255 255 = 255 ∧ bits .or .u8 255 0 = 255 ∧ bits .or .u8 0 255 = 255 ∧ bits .or .u8 0 0 = 0 ∧
    bits .xor .u8 255 255 = 0 ∧ bits .xor .u8 255 0 = 255 ∧ bits .xor .u8 0 255 = 255 ∧ bits .xor .u8 0 0 = 0 ∧ notB 255 = 0 ∧ notB 0 = 255 := by decide +kernel
section
variable {v : Int} (hv : v = 8 ∨ v = 16 ∨ v = 32 ∨ v = 64)
include hv
theorem mB_congr {p q : Nat → Bool} (h : ∀ j : Nat, thereB v j = true → p j = q j) : bs (mB v p) = bs (mB v q) :=
  bs_congr fun m hm => by rw [mB_byte hv p hm, mB_byte hv q hm, h _ (lane_lt hv hm)]
theorem m_not (p : Nat → Bool) : bs (nt (mB v p)) = bs (mB v fun j => !p j) :=
  bs_congr fun m hm => by
    unfold nt
    rw [mB_byte hv p hm, mB_byte hv _ hm]
    obtain ⟨_, _, _, _, _, _, _, _, _, _, _, _, h1, h2⟩ := b8
    cases p (m / wid v) <;> simp [h1, h2]
theorem m_and (p q : Nat → Bool) : bs (bw 64846 (mB v p) (mB v q)) = bs (mB v fun j => p j && q j) :=
  bs_congr fun m hm => by
    unfold bw
    rw [if_pos rfl, mB_byte hv p hm, mB_byte hv q hm, mB_byte hv _ hm]
    obtain ⟨h1, h2, h3, h4, _⟩ := b8
    cases p (m / wid v) <;> cases q (m / wid v) <;> simp [h1, h2, h3, h4]
theorem m_or3 (p q r : Nat → Bool) : bs (bw 64848 (bw 64848 (mB v p) (mB v q)) (mB v r)) = bs (mB v fun j => p j || q j || r j) :=
  bs_congr fun m hm => by
    unfold bw
    simp only [show ¬ (64848 : Int) = 64846 by decide, show ¬ (64848 : Int) = 64847 by decide, if_false, if_true]
    rw [mB_byte hv p hm, mB_byte hv q hm, mB_byte hv r hm, mB_byte hv _ hm]
    obtain ⟨_, _, _, _, h1, h2, h3, h4, _⟩ := b8
    cases p (m / wid v) <;> cases q (m / wid v) <;> cases r (m / wid v) <;> simp [h1, h2, h3, h4]
theorem m_xor3 (p q r : Nat → Bool) : bs (bw 64849 (bw 64849 (mB v p) (mB v q)) (mB v r)) = bs (mB v fun j => (p j != q j) != r j) :=
  bs_congr fun m hm => by
    unfold bw
    simp only [show ¬ (64849 : Int) = 64846 by decide, show ¬ (64849 : Int) = 64847 by decide, show ¬ (64849 : Int) = 64848 by decide, if_false]
    rw [mB_byte hv p hm, mB_byte hv q hm, mB_byte hv r hm, mB_byte hv _ hm]
    obtain ⟨_, _, _, _, _, _, _, _, h1, h2, h3, h4, _⟩ := b8
    cases p (m / wid v) <;> cases q (m / wid v) <;> cases r (m / wid v) <;> simp [h1, h2, h3, h4]
theorem m_zero : bs (fun _ => 0) = bs (mB v fun _ => false) := bs_congr fun m hm => by rw [mB_byte hv _ hm]; rfl
theorem m_ones : bs (nt fun _ => 0) = bs (mB v fun _ => true) := bs_congr fun m hm => by rw [mB_byte hv _ hm]; exact b8.2.2.2.2.2.2.2.2.2.2.2.2.2
/-- a lane of a mask, as a signed number -/
theorem m_sgn (p : Nat → Bool) {j : Nat} (hj : thereB v j = true) : sgnI (mB v p) v j = if p j = true then -1 else 0 := by
  have hget : getI (mB v p) v j = if p j = true then 256 ^ wid v - 1 else 0 := by
    unfold getI
    rw [if_pos hj, Int.toNat_natCast]
    have hf := there_fit hj
    rw [Int.toNat_natCast] at hf
    have hb : ∀ m, j * wid v ≤ m → m < j * wid v + wid v → mB v p m = (fun _ => if p j = true then 255 else 0) m := fun m h0 h1 => by
      rw [mB_byte hv p (by omega)]
      have : m / wid v = j := by
        rw [Nat.div_eq_iff (by omega)]
        rw [Nat.mul_comm] at h0 h1
        constructor
        · rw [Nat.mul_comm]; omega
        · rw [Nat.mul_comm]; omega
      rw [this]
    rw [sum_congr hb]
    generalize j * wid v = base
    have hs : ∀ n, sumN (fun _ => if p j = true then 255 else 0) base n = if p j = true then 256 ^ n - 1 else 0 := by
      intro n
      induction n with
      | zero => simp [sumN]
      | succ n ih =>
        rw [sumN, ih]
        split
        · rw [Int.pow_succ]; omega
        · omega
    exact hs _
  unfold sgnI
  rw [if_pos hj, hget]
  unfold sg
  rcases hv with rfl | rfl | rfl | rfl <;> (split <;> decide)
end
end Cp
end Go.Proofs.Ytdclbagfnabmkaa
