/-
  Texts of this seat, joined: VecM. Each says what it proves.
-/
import Derived.WalkKit
/- VecM -/
namespace Go.Proofs.Ytebkabidojipoaa
namespace VecM
def Byt (b : Nat → Int) : Prop := ∀ m, 0 ≤ b m ∧ b m ≤ 255
def sumN (b : Nat → Int) (base : Nat) : Nat → Int
 | 0 => 0
 | k + 1 => sumN b base k + b (base + k) * 256 ^ k
theorem pow_pos' (k : Nat) : (0 : Int) < 256 ^ k := Int.pow_pos (by decide)
theorem sumN_bd {b : Nat → Int} (hb : Byt b) (base : Nat) : ∀ k, 0 ≤ sumN b base k ∧ sumN b base k < 256 ^ k
 | 0 => by simp [sumN]
 | k + 1 => by
  obtain ⟨h0, h1⟩ := sumN_bd hb base k
  obtain ⟨b0, b1⟩ := hb (base + k)
  have p := pow_pos' k
  have q : 0 ≤ b (base + k) * 256 ^ k := Int.mul_nonneg b0 (Int.le_of_lt p)
  have r : b (base + k) * 256 ^ k ≤ 255 * 256 ^ k := Int.mul_le_mul_of_nonneg_right b1 (Int.le_of_lt p)
  simp only [sumN]
  rw [Int.pow_succ]
  omega
def upd (c : Nat → Int) (j : Nat) (y : Int) : Nat → Int := fun m => if m = j then y else c m
def setN (b : Nat → Int) (base : Nat) (x : Int) (n : Nat) : Nat → Int := fun m => if base ≤ m ∧ m < base + n then x / 256 ^ (m - base) % 256 else b m
theorem setN_zero (b : Nat → Int) (base : Nat) (x : Int) : setN b base x 0 = b := by
 funext m; unfold setN; rw [if_neg (by omega)]
theorem setN_succ (b : Nat → Int) (base : Nat) (x : Int) (k : Nat) : setN b base x (k + 1) = upd (setN b base x k) (base + k) (x / 256 ^ k % 256) := by
 funext m
 unfold upd setN
 by_cases h : m = base + k
 ·subst h; rw [if_pos (by omega), if_pos rfl, show base + k - base = k by omega]
 ·rw [if_neg h]
  by_cases h2 : base ≤ m ∧ m < base + k
  ·rw [if_pos h2, if_pos (by omega)]
  ·rw [if_neg h2, if_neg (by omega)]
theorem setN_byt {b : Nat → Int} (hb : Byt b) (base : Nat) (x : Int) (n : Nat) : Byt (setN b base x n) := by
 intro m; unfold setN
 split
 ·omega
 ·exact hb m
theorem pow8 (k : Nat) : (2 : Int) ^ (8 * k) = 256 ^ k := by rw [Int.pow_mul]; rfl
theorem div_pow_div (x : Int) (k : Nat) : x / 256 ^ k / 256 = x / 256 ^ (k + 1) := by
 rw [Int.pow_succ, Int.ediv_ediv_of_nonneg (Int.le_of_lt (pow_pos' k))]
theorem mod_pow_succ (x : Int) (k : Nat) : x % 256 ^ (k + 1) = x % 256 ^ k + (x / 256 ^ k % 256) * 256 ^ k := by
 have p := pow_pos' k
 have h1 := Int.emod_add_mul_ediv x (256 ^ k)
 have h2 := Int.emod_add_mul_ediv (x / 256 ^ k) 256
 have h3 := Int.emod_add_mul_ediv x (256 ^ (k + 1))
 rw [← div_pow_div] at h3
 have e : x % 256 ^ (k + 1) = x - 256 ^ (k + 1) * (x / 256 ^ k / 256) := by omega
 rw [e, Int.pow_succ]
 have h4 : x / 256 ^ k = x / 256 ^ k % 256 + 256 * (x / 256 ^ k / 256) := by omega
 have h5 : 256 ^ k * (x / 256 ^ k) = 256 ^ k * (x / 256 ^ k % 256) + 256 ^ k * 256 * (x / 256 ^ k / 256) := by
  conv => lhs; rw [h4]
  rw [Int.mul_add, Int.mul_assoc]
 rw [Int.mul_comm (x / 256 ^ k % 256)]
 omega
theorem sum_set (b : Nat → Int) (base : Nat) (x : Int) (n : Nat) : ∀ k, k ≤ n → sumN (setN b base x n) base k = x % 256 ^ k
 | 0, _ => by simp [sumN, Int.emod_one]
 | k + 1, h => by
  rw [sumN, sum_set b base x n k (by omega), mod_pow_succ]
  congr 1
  unfold setN
  rw [if_pos (by omega), show base + k - base = k by omega]
theorem sum_congr {b c : Nat → Int} {base : Nat} : ∀ {k : Nat}, (∀ m, base ≤ m → m < base + k → b m = c m) → sumN b base k = sumN c base k
 | 0, _ => rfl
 | k + 1, h => by rw [sumN, sumN, sum_congr (fun m h0 h1 => h m h0 (by omega)), h (base + k) (by omega) (by omega)]
theorem sum_set_other (b : Nat → Int) (base base' : Nat) (x : Int) (n k : Nat) (h : base' + k ≤ base ∨ base + n ≤ base') : sumN (setN b base x n) base' k = sumN b base' k :=
 sum_congr fun m h0 h1 => by unfold setN; rw [if_neg (by omega)]
theorem byte_of_sum {b : Nat → Int} (hb : Byt b) (base : Nat) : ∀ k j, j < k → b (base + j) = sumN b base k / 256 ^ j % 256
 | 0, _, h => by omega
 | k + 1, j, h => by
  have p := pow_pos' j
  by_cases hj : j = k
  ·subst hj
   obtain ⟨h0, h1⟩ := sumN_bd hb base j
   obtain ⟨b0, b1⟩ := hb (base + j)
   rw [sumN, Int.add_mul_ediv_right _ _ (by omega), Int.ediv_eq_zero_of_lt h0 h1, Int.zero_add, Int.emod_eq_of_lt b0 (by omega)]
  ·rw [byte_of_sum hb base k j (by omega), sumN]
   have e : (256 : Int) ^ k = 256 ^ (k - j - 1) * 256 * 256 ^ j := by
    rw [← Int.pow_succ, ← Int.pow_add]; congr 1; omega
   rw [e, ← Int.mul_assoc, Int.add_mul_ediv_right _ _ (by omega), ← Int.mul_assoc, Int.add_mul_emod_self_right]
def lanesI (w : Int) : Int := if w = 8 then 16 else if w = 16 then 8 else if w = 32 then 4 else if w = 64 then 2 else 0
def thereB (v i : Int) : Bool := decide (0 ≤ i) && decide (i < lanesI v)
def wid (v : Int) : Nat := v.toNat / 8
def getI (b : Nat → Int) (v i : Int) : Int := if thereB v i then sumN b (i.toNat * wid v) (wid v) else 0
def setI (b : Nat → Int) (v i x : Int) : Nat → Int := if thereB v i then setN b (i.toNat * wid v) x (wid v) else b
theorem there_iff {v i : Int} : thereB v i = true ↔ 0 ≤ i ∧ i < lanesI v := by unfold thereB; simp
theorem there_cases {v i : Int} (h : thereB v i = true) : (v = 8 ∧ 0 ≤ i ∧ i < 16) ∨ (v = 16 ∧ 0 ≤ i ∧ i < 8) ∨ (v = 32 ∧ 0 ≤ i ∧ i < 4) ∨ (v = 64 ∧ 0 ≤ i ∧ i < 2) := by
 obtain ⟨h0, h1⟩ := there_iff.1 h
 unfold lanesI at h1
 split at h1
 ·omega
 ·split at h1
  ·omega
  ·split at h1
   ·omega
   ·split at h1
    ·omega
    ·omega
theorem wid64 : wid 64 = 8 := rfl
theorem setI_byt {b : Nat → Int} (hb : Byt b) (v i x : Int) : Byt (setI b v i x) := by
 unfold setI; split
 ·exact setN_byt hb _ _ _
 ·exact hb
theorem get_set (b : Nat → Int) (v i x : Int) (h : thereB v i = true) : getI (setI b v i x) v i = x % 256 ^ wid v := by
 unfold getI setI; rw [if_pos h, if_pos h]
 exact sum_set _ _ _ _ _ (Nat.le_refl _)
theorem get_set_other (b : Nat → Int) (v i j x : Int) (h : i ≠ j) : getI (setI b v i x) v j = getI b v j := by
 unfold getI
 by_cases hj : thereB v j = true
 ·rw [if_pos hj, if_pos hj]
  unfold setI
  by_cases hi : thereB v i = true
  ·rw [if_pos hi]
   obtain ⟨i0, _⟩ := there_iff.1 hi
   obtain ⟨j0, _⟩ := there_iff.1 hj
   refine sum_set_other _ _ _ _ _ _ ?_
   rcases Nat.lt_or_gt_of_ne (show i.toNat ≠ j.toNat by omega) with h | h
   ·right
    have := Nat.mul_le_mul_right (wid v) (show i.toNat + 1 ≤ j.toNat from h)
    rw [Nat.add_mul, Nat.one_mul] at this
    exact this
   ·left
    have := Nat.mul_le_mul_right (wid v) (show j.toNat + 1 ≤ i.toNat from h)
    rw [Nat.add_mul, Nat.one_mul] at this
    exact this
  ·rw [if_neg hi]
 ·rw [if_neg hj, if_neg hj]
def ofK (b : Nat → Int) (v : Int) (f : Nat → Int) : Nat → (Nat → Int)
 | 0 => b
 | k + 1 => setI (ofK b v f k) v k (f k)
theorem ofK_byt {b : Nat → Int} (hb : Byt b) (v : Int) (f : Nat → Int) : ∀ k, Byt (ofK b v f k)
 | 0 => hb
 | k + 1 => setI_byt (ofK_byt hb v f k) _ _ _
theorem get_ofK (b : Nat → Int) (v : Int) (f : Nat → Int) (j : Nat) (hj : thereB v j = true) : ∀ k, getI (ofK b v f k) v j = if j < k then f j % 256 ^ wid v else getI b v j
 | 0 => by rw [if_neg (by omega)]; rfl
 | k + 1 => by
  rw [ofK]
  by_cases h : j = k
  ·subst h; rw [get_set _ _ _ _ hj, if_pos (by omega)]
  ·rw [get_set_other _ _ _ _ _ (show (k : Int) ≠ (j : Int) by omega), get_ofK b v f j hj k]
   by_cases h2 : j < k
   ·rw [if_pos h2, if_pos (by omega)]
   ·rw [if_neg h2, if_neg (by omega)]
theorem ext {b c : Nat → Int} (hb : Byt b) (hc : Byt c) (v : Int) (hv : v = 8 ∨ v = 16 ∨ v = 32 ∨ v = 64) (h : ∀ j : Nat, thereB v j = true → getI b v j = getI c v j) : ∀ m, m < 16 → b m = c m := by
 intro m hm
 have key : ∀ n : Nat, n = wid v → 0 < n → thereB v ((m / n : Nat) : Int) = true → b m = c m := by
  intro n hn h0 ht
  have h1 := h (m / n) ht
  unfold getI at h1
  rw [if_pos ht, if_pos ht, Int.toNat_natCast, ← hn] at h1
  have hlt : m % n < n := Nat.mod_lt _ h0
  have e : m / n * n + m % n = m := by rw [Nat.mul_comm]; exact Nat.div_add_mod m n
  have q1 := byte_of_sum hb (m / n * n) n (m % n) hlt
  have q2 := byte_of_sum hc (m / n * n) n (m % n) hlt
  rw [e] at q1 q2
  rw [q1, q2, h1]
 rcases hv with rfl | rfl | rfl | rfl
 ·exact key 1 rfl (by decide) (there_iff.2 (by unfold lanesI; simp; omega))
 ·exact key 2 rfl (by decide) (there_iff.2 (by unfold lanesI; simp; omega))
 ·exact key 4 rfl (by decide) (there_iff.2 (by unfold lanesI; simp; omega))
 ·exact key 8 rfl (by decide) (there_iff.2 (by unfold lanesI; simp; omega))
end VecM
end Go.Proofs.Ytebkabidojipoaa
