/-
  What reading gives of a number's form. Of no program.
-/
import Derived.Test.YthdklnkaeddogaaLebAwake
namespace Go.Proofs.Ythdklnkaeddogaa
open Go.RowKit LebM
theorem tup4 {a b c d a' b' c' : Int} (h1 : a = a') (h2 : b = b') (h3 : c = c') : (a, b, c, d) = (a', b', c', d) := by rw [h1, h2, h3]
theorem fitU_of {c left : Int} (h : 7 ≤ left ∨ c < 2 ^ left.toNat) : fitU c left = true := by
  unfold fitU
  rcases h with h | h <;> simp [h]
theorem fitU_no {c left : Int} (h1 : left < 7) (h2 : 2 ^ left.toNat ≤ c) : fitU c left = false := by
  unfold fitU
  rw [decide_eq_false (by omega), decide_eq_false (by omega)]; rfl
theorem p2 (a b : Nat) : (2 : Int) ^ (a + b) = 2 ^ a * 2 ^ b := Int.pow_add 2 a b
theorem p2pos (a : Nat) : (0 : Int) < 2 ^ a := Int.pow_pos (by decide)
theorem p2le {a b : Nat} (h : a ≤ b) : (2 : Int) ^ a ≤ 2 ^ b := by
  obtain ⟨c, rfl⟩ := Nat.exists_eq_add_of_le h
  rw [p2]
  have h1 := p2pos a
  have h2 := p2pos c
  have := Int.mul_le_mul_of_nonneg_left (show (1 : Int) ≤ 2 ^ c by omega) (Int.le_of_lt h1)
  omega
theorem p128pos (a : Nat) : (0 : Int) < 128 ^ a := Int.pow_pos (by decide)
theorem mod64 {t : Int} (h0 : 0 ≤ t) (h : t < 18446744073709551616) : t % 18446744073709551616 = t := Int.emod_eq_of_lt h0 h
/-- reading a form without a sign -/
theorem rd_form (f : Nat → Int) (len a B : Nat) : ∀ (m r k : Nat) (x n : Int), 0 ≤ n → n < 128 ^ (m + 1) → n * 128 ^ k < 18446744073709551616 → m + 1 ≤ r → 7 * k < B →
    (∀ j, j < (lebU m n).length → f (a + (k + j)) = (lebU m n).getD j 0) → a + (k + (lebU m n).length) ≤ len →
    rd false f len B a r k x = if n < 2 ^ (B - 7 * k) then (x + n * 128 ^ k, 7 * ((k + (lebU m n).length : Nat) : Int), ((a + (k + (lebU m n).length) : Nat) : Int), 0) else (0, 0, 0, 6) := by
  intro m
  induction m with
  | zero =>
    intro r k x n hn0 hn1 hn2 hr hk hf hlen
    obtain ⟨r', rfl⟩ : ∃ r', r = r' + 1 := ⟨r - 1, by omega⟩
    have hn127 : n ≤ 127 := by
      have : (128 : Int) ^ (0 + 1) = 128 := rfl
      omega
    rw [lebU_end ⟨hn0, hn127⟩] at *
    have hc : f (a + k) = n := by have := hf 0 (by simp); simpa using this
    have hlo : lowI (f (a + k)) = n := by rw [hc]; unfold lowI; omega
    have hl : (B : Int) - 7 * (k : Int) = ((B - 7 * k : Nat) : Int) := by omega
    simp only [List.length_singleton] at hlen ⊢
    have h1 := Int.mul_nonneg hn0 (Int.le_of_lt (p128pos k))
    by_cases hlt : n < 2 ^ (B - 7 * k)
    · rw [if_pos hlt, rd_end (by omega) (by rw [hlo, hl]; exact fitU_of (.inr (by rw [Int.toNat_natCast]; exact hlt))) (by omega), hlo, mod64 h1 hn2]
      exact tup4 rfl (by push_cast; omega) (by push_cast; omega)
    · have h7 : B - 7 * k < 7 := by
        apply Classical.byContradiction
        intro h
        have := p2le (show 7 ≤ B - 7 * k by omega)
        have e : (2 : Int) ^ 7 = 128 := rfl
        omega
      rw [if_neg hlt, rd_bad (by omega) (.inl (by rw [hlo, hl]; exact fitU_no (by omega) (by rw [Int.toNat_natCast]; omega)))]
  | succ m ih =>
    intro r k x n hn0 hn1 hn2 hr hk hf hlen
    obtain ⟨r', rfl⟩ : ∃ r', r = r' + 1 := ⟨r - 1, by omega⟩
    have hl : (B : Int) - 7 * (k : Int) = ((B - 7 * k : Nat) : Int) := by omega
    have h1 := Int.mul_nonneg hn0 (Int.le_of_lt (p128pos k))
    by_cases hn127 : n ≤ 127
    · rw [lebU_end ⟨hn0, hn127⟩] at *
      have hc : f (a + k) = n := by have := hf 0 (by simp); simpa using this
      have hlo : lowI (f (a + k)) = n := by rw [hc]; unfold lowI; omega
      simp only [List.length_singleton] at hlen ⊢
      by_cases hlt : n < 2 ^ (B - 7 * k)
      · rw [if_pos hlt, rd_end (by omega) (by rw [hlo, hl]; exact fitU_of (.inr (by rw [Int.toNat_natCast]; exact hlt))) (by omega), hlo, mod64 h1 hn2]
        exact tup4 rfl (by push_cast; omega) (by push_cast; omega)
      · have h7 : B - 7 * k < 7 := by
          apply Classical.byContradiction
          intro h
          have := p2le (show 7 ≤ B - 7 * k by omega)
          have e : (2 : Int) ^ 7 = 128 := rfl
          omega
        rw [if_neg hlt, rd_bad (by omega) (.inl (by rw [hlo, hl]; exact fitU_no (by omega) (by rw [Int.toNat_natCast]; omega)))]
    · rw [lebU_go (by omega)] at *
      have hc : f (a + k) = n % 128 + 128 := by have := hf 0 (by simp); simpa using this
      have hlo : lowI (f (a + k)) = n % 128 := by rw [hc]; unfold lowI; omega
      simp only [List.length_cons] at hlen hf ⊢
      by_cases h7 : B - 7 * k ≤ 7
      · have hge : ¬ n < 2 ^ (B - 7 * k) := by
          have := p2le h7
          have e : (2 : Int) ^ 7 = 128 := rfl
          omega
        rw [if_neg hge, rd_bad (by omega) (.inr ⟨by omega, by omega⟩)]
      · have h2 : n % 128 * 128 ^ k ≤ n * 128 ^ k := Int.mul_le_mul_of_nonneg_right (by omega) (Int.le_of_lt (p128pos k))
        have h3 : 0 ≤ n % 128 * 128 ^ k := Int.mul_nonneg (by omega) (Int.le_of_lt (p128pos k))
        have h4 : n / 128 * 128 ^ (k + 1) = (n - n % 128) * 128 ^ k := by
          rw [Int.pow_succ, Int.mul_comm (128 ^ k), ← Int.mul_assoc]
          congr 1; omega
        have h5 : (n - n % 128) * 128 ^ k = n * 128 ^ k - n % 128 * 128 ^ k := Int.sub_mul ..
        have hn3 : n / 128 < 128 ^ (m + 1) := by
          rw [Int.pow_succ] at hn1
          omega
        rw [rd_more (by omega) (by rw [hlo, hl]; exact fitU_of (.inl (by omega))) (by omega) (by omega), hlo, mod64 h3 (by omega),
          ih r' (k + 1) _ (n / 128) (by omega) hn3 (by rw [h4, h5]; omega) (by omega) (by omega) (fun j hj => by
            have := hf (j + 1) (by omega)
            rw [show k + (j + 1) = k + 1 + j by omega] at this
            simpa using this) (by omega)]
        have e1 : (2 : Int) ^ (B - 7 * k) = 2 ^ (B - 7 * (k + 1)) * 128 := by
          rw [show B - 7 * k = B - 7 * (k + 1) + 7 by omega, p2]; rfl
        have e2 : (n / 128 < 2 ^ (B - 7 * (k + 1))) ↔ (n < 2 ^ (B - 7 * k)) := by rw [e1]; omega
        by_cases hlt : n < 2 ^ (B - 7 * k)
        · rw [if_pos (e2.2 hlt), if_pos hlt, h4, h5]
          exact tup4 (by omega) (by push_cast; omega) (by push_cast; omega)
        · rw [if_neg (fun h => hlt (e2.1 h)), if_neg hlt]
theorem formU_lt {n : Int} (h : n < 18446744073709551616) : n < 128 ^ (9 + 1) := by
  have : (128 : Int) ^ (9 + 1) = 1180591620717411303424 := rfl
  omega
theorem read_form {f : Nat → Int} {len a B : Nat} (hB1 : 1 ≤ B) (hB : B ≤ 64) {n : Int} (hn : 0 ≤ n ∧ n < 18446744073709551616) (hf : ∀ j, j < (formU n).length → f (a + j) = (formU n).getD j 0) (hlen : a + (formU n).length ≤ len) :
    LebM.read false f len a B = if n < 2 ^ B then (n, 7 * ((formU n).length : Int), ((a + (formU n).length : Nat) : Int), 0) else (0, 0, 0, 6) := by
  unfold LebM.read
  rw [if_neg (by omega), Int.toNat_natCast]
  have := rd_form f len a B 9 10 0 0 n hn.1 (formU_lt hn.2) (by simpa using hn.2) (by decide) (by omega) (fun j hj => by rw [Nat.zero_add]; exact hf j hj) (by rw [Nat.zero_add]; exact hlen)
  rw [this]
  simp only [Nat.zero_add, Int.zero_add, Nat.mul_zero, Nat.sub_zero, Int.pow_zero, Int.mul_one]
  rfl
end Go.Proofs.Ythdklnkaeddogaa
