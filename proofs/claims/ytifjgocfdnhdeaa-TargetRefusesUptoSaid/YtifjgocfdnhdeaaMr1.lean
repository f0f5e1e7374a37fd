/-
  Texts of this seat, joined: VecM. Each says what it proves.
-/
import Derived.WalkKit
/- VecM -/
namespace Go.Proofs.Ytifjgocfdnhdeaa
namespace VecM
def Byt (b : Nat → Int) : Prop := ∀ m, 0 ≤ b m ∧ b m ≤ 255
def sumN (b : Nat → Int) (base : Nat) : Nat → Int
 | 0 => 0
 | k + 1 => sumN b base k + b (base + k) * 256 ^ k
theorem pow_pos' (k : Nat) : (0 : Int) < 256 ^ k := Int.pow_pos (by decide)
theorem sumN_bd {b : Nat → Int} (hb : Byt b) (base : Nat) : ∀ k, 0 ≤ sumN b base k ∧ sumN b base k < 256 ^ k
 | 0 => by simp [sumN]
 | k + 1 => by
  obtain ⟨h0, h1⟩ := sumN_bd hb base k
  obtain ⟨b0, b1⟩ := hb (base + k)
  have p := pow_pos' k
  have q : 0 ≤ b (base + k) * 256 ^ k := Int.mul_nonneg b0 (Int.le_of_lt p)
  have r : b (base + k) * 256 ^ k ≤ 255 * 256 ^ k := Int.mul_le_mul_of_nonneg_right b1 (Int.le_of_lt p)
  simp only [sumN]
  rw [Int.pow_succ]
  omega
theorem byte_of_sum {b : Nat → Int} (hb : Byt b) (base : Nat) : ∀ k j, j < k → b (base + j) = sumN b base k / 256 ^ j % 256
 | 0, _, h => by omega
 | k + 1, j, h => by
  have p := pow_pos' j
  by_cases hj : j = k
  ·subst hj
   obtain ⟨h0, h1⟩ := sumN_bd hb base j
   obtain ⟨b0, b1⟩ := hb (base + j)
   rw [sumN, Int.add_mul_ediv_right _ _ (by omega), Int.ediv_eq_zero_of_lt h0 h1, Int.zero_add, Int.emod_eq_of_lt b0 (by omega)]
  ·rw [byte_of_sum hb base k j (by omega), sumN]
   have e : (256 : Int) ^ k = 256 ^ (k - j - 1) * 256 * 256 ^ j := by
    rw [← Int.pow_succ, ← Int.pow_add]; congr 1; omega
   rw [e, ← Int.mul_assoc, Int.add_mul_ediv_right _ _ (by omega), ← Int.mul_assoc, Int.add_mul_emod_self_right]
def lanesI (w : Int) : Int := if w = 8 then 16 else if w = 16 then 8 else if w = 32 then 4 else if w = 64 then 2 else 0
def thereB (v i : Int) : Bool := decide (0 ≤ i) && decide (i < lanesI v)
def wid (v : Int) : Nat := v.toNat / 8
def getI (b : Nat → Int) (v i : Int) : Int := if thereB v i then sumN b (i.toNat * wid v) (wid v) else 0
theorem there_iff {v i : Int} : thereB v i = true ↔ 0 ≤ i ∧ i < lanesI v := by unfold thereB; simp
theorem ext {b c : Nat → Int} (hb : Byt b) (hc : Byt c) (v : Int) (hv : v = 8 ∨ v = 16 ∨ v = 32 ∨ v = 64) (h : ∀ j : Nat, thereB v j = true → getI b v j = getI c v j) : ∀ m, m < 16 → b m = c m := by
 intro m hm
 have key : ∀ n : Nat, n = wid v → 0 < n → thereB v ((m / n : Nat) : Int) = true → b m = c m := by
  intro n hn h0 ht
  have h1 := h (m / n) ht
  unfold getI at h1
  rw [if_pos ht, if_pos ht, Int.toNat_natCast, ← hn] at h1
  have hlt : m % n < n := Nat.mod_lt _ h0
  have e : m / n * n + m % n = m := by rw [Nat.mul_comm]; exact Nat.div_add_mod m n
  have q1 := byte_of_sum hb (m / n * n) n (m % n) hlt
  have q2 := byte_of_sum hc (m / n * n) n (m % n) hlt
  rw [e] at q1 q2
  rw [q1, q2, h1]
 rcases hv with rfl | rfl | rfl | rfl
 ·exact key 1 rfl (by decide) (there_iff.2 (by unfold lanesI; simp; omega))
 ·exact key 2 rfl (by decide) (there_iff.2 (by unfold lanesI; simp; omega))
 ·exact key 4 rfl (by decide) (there_iff.2 (by unfold lanesI; simp; omega))
 ·exact key 8 rfl (by decide) (there_iff.2 (by unfold lanesI; simp; omega))
end VecM
end Go.Proofs.Ytifjgocfdnhdeaa
