/-
  What reading with a sign gives of a number's form. Of no program.
-/
import Derived.Test.YthdklnkaeddogaaLebCutM
namespace Go.Proofs.Ythdklnkaeddogaa
open Go.RowKit LebM
/-- c is the last byte of the number n, H half of what the bits that are left can say -/
theorem fitS_last {n left : Int} {q : Nat} (hn : -64 ≤ n ∧ n < 64) (hq : left = (q : Int) + 1) : fitS (n % 128) left = decide (-(2 ^ q) ≤ n ∧ n < 2 ^ q) := by
  have e : (left - 1).toNat = q := by omega
  unfold fitS
  rw [e]
  by_cases h7 : 7 < left
  · have h1 := p2le (show 7 ≤ q by omega)
    have e7 : (2 : Int) ^ 7 = 128 := rfl
    rw [decide_eq_true h7, Bool.true_or, Bool.true_or, decide_eq_true (by omega)]
  · have hq6 : q = 0 ∨ q = 1 ∨ q = 2 ∨ q = 3 ∨ q = 4 ∨ q = 5 ∨ q = 6 := by omega
    rw [Bool.eq_iff_iff]
    simp only [Bool.or_eq_true, decide_eq_true_eq]
    rcases hq6 with rfl | rfl | rfl | rfl | rfl | rfl | rfl
    all_goals
      simp only [show (2 : Int) ^ 0 = 1 from rfl, show (2 : Int) ^ 1 = 2 from rfl, show (2 : Int) ^ 2 = 4 from rfl, show (2 : Int) ^ 3 = 8 from rfl, show (2 : Int) ^ 4 = 16 from rfl, show (2 : Int) ^ 5 = 32 from rfl, show (2 : Int) ^ 6 = 64 from rfl]
      omega
theorem p7 (k : Nat) : (2 : Int) ^ (7 * k + 7) = 128 * 128 ^ k := by rw [p2, pow7, Int.mul_comm]; rfl
theorem p6 (k : Nat) : (2 : Int) ^ (7 * k + 6) = 64 * 128 ^ k := by rw [p2, pow7, Int.mul_comm]; rfl
theorem sval_last {n x : Int} {k : Nat} (hn : -64 ≤ n ∧ n < 64) (hx : 0 ≤ x ∧ x < 128 ^ k) (hk : k ≤ 9) (h1 : -9223372036854775808 ≤ n * 128 ^ k) (h2 : (n + 1) * 128 ^ k ≤ 9223372036854775808) :
    sval (x + n % 128 * 128 ^ k % 18446744073709551616) (7 * (k : Int) + 7) = x + n * 128 ^ k := by
  have hp := p128pos k
  have hadd : (n + 1) * 128 ^ k = n * 128 ^ k + 128 ^ k := by rw [Int.add_mul, Int.one_mul]
  unfold sval
  rw [show (7 * (k : Int) + 7 - 1).toNat = 7 * k + 6 by omega, show (7 * (k : Int) + 7).toNat = 7 * k + 7 by omega, p6, p7]
  by_cases h9 : k = 9
  · subst h9
    have e : (128 : Int) ^ 9 = 9223372036854775808 := rfl
    rw [if_neg (by omega)]
    rw [e] at *
    have : n = -1 ∨ n = 0 := by omega
    rcases this with rfl | rfl
    · rw [if_neg (by omega)]; omega
    · rw [if_pos (by omega)]; omega
  · have hp8 : (128 : Int) ^ k ≤ 72057594037927936 := by
      have := p2le (show 7 * k ≤ 56 by omega)
      rw [pow7] at this
      exact this
    by_cases hneg : n < 0
    · have e1 : n % 128 = n + 128 := by omega
      have e2 : (n + 128) * 128 ^ k = n * 128 ^ k + 128 * 128 ^ k := by rw [Int.add_mul]
      have e3 : -64 * 128 ^ k ≤ n * 128 ^ k := Int.mul_le_mul_of_nonneg_right (by omega) (Int.le_of_lt hp)
      have e4 : n * 128 ^ k ≤ -1 * 128 ^ k := Int.mul_le_mul_of_nonneg_right (by omega) (Int.le_of_lt hp)
      rw [e1, e2, mod64 (by omega) (by omega), if_pos ⟨by omega, by omega, by omega⟩]
      omega
    · have e1 : n % 128 = n := by omega
      have e3 : 0 ≤ n * 128 ^ k := Int.mul_nonneg (by omega) (Int.le_of_lt hp)
      have e4 : n * 128 ^ k ≤ 63 * 128 ^ k := Int.mul_le_mul_of_nonneg_right (by omega) (Int.le_of_lt hp)
      rw [e1, mod64 e3 (by omega), if_neg (by omega), if_pos (by omega)]
/-- what reading with a sign must give -/
def SRes (B : Nat) (n x : Int) (k e : Nat) (r : Int × Int × Int × Int) : Prop :=
  (-(2 ^ (B - 7 * k - 1)) ≤ n ∧ n < 2 ^ (B - 7 * k - 1) ∧ sval r.1 r.2.1 = x + n * 128 ^ k ∧ r.2.2.1 = (e : Int) ∧ r.2.2.2 = 0) ∨ (¬ (-(2 ^ (B - 7 * k - 1)) ≤ n ∧ n < 2 ^ (B - 7 * k - 1)) ∧ r = (0, 0, 0, 6))
theorem rds_last {f : Nat → Int} {len a B r k : Nat} {x n : Int} (hn : -64 ≤ n ∧ n < 64) (hx : 0 ≤ x ∧ x < 128 ^ k) (hk9 : k ≤ 9) (h1 : -9223372036854775808 ≤ n * 128 ^ k) (h2 : (n + 1) * 128 ^ k ≤ 9223372036854775808) (hk : 7 * k < B) (hc : f (a + k) = n % 128) (hlen : a + k < len) :
    SRes B n x k (a + k + 1) (rd true f len B a (r + 1) k x) := by
  have hl : (B : Int) - 7 * (k : Int) = ((B - 7 * k - 1 : Nat) : Int) + 1 := by omega
  have hlo : lowI (f (a + k)) = n % 128 := by rw [hc]; unfold lowI; omega
  have hfit := fitS_last (left := (B : Int) - 7 * (k : Int)) hn hl
  by_cases hin : -(2 ^ (B - 7 * k - 1)) ≤ n ∧ n < 2 ^ (B - 7 * k - 1)
  · left
    refine ⟨hin.1, hin.2, ?_⟩
    rw [rd_end (by omega) (by rw [hlo]; show fitS _ _ = true; rw [hfit]; exact decide_eq_true hin) (by omega), hlo]
    exact ⟨sval_last hn hx hk9 h1 h2, by push_cast; rfl, rfl⟩
  · right
    refine ⟨hin, rd_bad (by omega) (.inl ?_)⟩
    rw [hlo]; show fitS _ _ = false; rw [hfit]; exact decide_eq_false hin
theorem rds_form (f : Nat → Int) (len a B : Nat) (hB : B ≤ 64) : ∀ (m r k : Nat) (x n : Int), -(64 * 128 ^ m) ≤ n → n < 64 * 128 ^ m → -9223372036854775808 ≤ n * 128 ^ k → (n + 1) * 128 ^ k ≤ 9223372036854775808 → 0 ≤ x → x < 128 ^ k → m + 1 ≤ r → 7 * k < B →
    (∀ j, j < (lebS m n).length → f (a + (k + j)) = (lebS m n).getD j 0) → a + (k + (lebS m n).length) ≤ len → SRes B n x k (a + (k + (lebS m n).length)) (rd true f len B a r k x) := by
  intro m
  induction m with
  | zero =>
    intro r k x n hn0 hn1 h1 h2 hx0 hx1 hr hk hf hlen
    obtain ⟨r', rfl⟩ : ∃ r', r = r' + 1 := ⟨r - 1, by omega⟩
    have e : (128 : Int) ^ 0 = 1 := rfl
    rw [e] at hn0 hn1
    rw [lebS_end (by omega)] at *
    have := rds_last (f := f) (len := len) (a := a) (B := B) (r := r') (k := k) (x := x) (n := n) (by omega) ⟨hx0, hx1⟩ (by omega) h1 h2 hk (by have := hf 0 (by simp); simpa using this) (by simp only [List.length_singleton] at hlen; omega)
    exact this
  | succ m ih =>
    intro r k x n hn0 hn1 h1 h2 hx0 hx1 hr hk hf hlen
    obtain ⟨r', rfl⟩ : ∃ r', r = r' + 1 := ⟨r - 1, by omega⟩
    by_cases hin : -64 ≤ n ∧ n < 64
    · rw [lebS_end hin] at *
      have := rds_last (f := f) (len := len) (a := a) (B := B) (r := r') (k := k) (x := x) (n := n) hin ⟨hx0, hx1⟩ (by omega) h1 h2 hk (by have := hf 0 (by simp); simpa using this) (by simp only [List.length_singleton] at hlen; omega)
      exact this
    · rw [lebS_go hin] at *
      have hc : f (a + k) = n % 128 + 128 := by have := hf 0 (by simp); simpa using this
      have hlo : lowI (f (a + k)) = n % 128 := by rw [hc]; unfold lowI; omega
      simp only [List.length_cons] at hlen hf ⊢
      have hp := p128pos k
      by_cases h7 : B - 7 * k ≤ 7
      · right
        have := p2le (show B - 7 * k - 1 ≤ 6 by omega)
        have e6 : (2 : Int) ^ 6 = 64 := rfl
        exact ⟨by omega, rd_bad (by omega) (.inr ⟨by omega, by omega⟩)⟩
      · have hk8 : k ≤ 8 := by omega
        have hp8 : (128 : Int) ^ k ≤ 72057594037927936 := by
          have := p2le (show 7 * k ≤ 56 by omega)
          rw [pow7] at this
          exact this
        have e3 : 0 ≤ n % 128 * 128 ^ k := Int.mul_nonneg (by omega) (Int.le_of_lt hp)
        have e4 : n % 128 * 128 ^ k ≤ 127 * 128 ^ k := Int.mul_le_mul_of_nonneg_right (by omega) (Int.le_of_lt hp)
        have e5 : (128 : Int) ^ (k + 1) = 128 * 128 ^ k := by rw [Int.pow_succ, Int.mul_comm]
        have e6 : n / 128 * 128 ^ (k + 1) = n * 128 ^ k - n % 128 * 128 ^ k := by
          rw [e5, ← Int.mul_assoc, ← Int.sub_mul]; congr 1; omega
        have e7 : (n / 128 + 1) * 128 ^ (k + 1) = n / 128 * 128 ^ (k + 1) + 128 ^ (k + 1) := by rw [Int.add_mul, Int.one_mul]
        have e8 : (n + 1) * 128 ^ k = n * 128 ^ k + 128 ^ k := by rw [Int.add_mul, Int.one_mul]
        have e9 : (128 : Int) ^ (m + 1) = 128 * 128 ^ m := by rw [Int.pow_succ, Int.mul_comm]
        have hhi : (n / 128 + 1) * 128 ^ (k + 1) ≤ 9223372036854775808 := by
          -- the next multiple of 128^(k+1) above n's is at most 2^63, because 2^63 is one
          have hd : (9223372036854775808 : Int) = 2 ^ (63 - 7 * (k + 1)) * 128 ^ (k + 1) := by
            rw [← pow7, ← p2, show 63 - 7 * (k + 1) + 7 * (k + 1) = 63 by omega]; rfl
          have hp1 := p128pos (k + 1)
          have hlt : n / 128 < 2 ^ (63 - 7 * (k + 1)) := by
            apply Classical.byContradiction
            intro hge
            have := Int.mul_le_mul_of_nonneg_right (show (2 : Int) ^ (63 - 7 * (k + 1)) ≤ n / 128 by omega) (Int.le_of_lt hp1)
            omega
          have := Int.mul_le_mul_of_nonneg_right (show n / 128 + 1 ≤ (2 : Int) ^ (63 - 7 * (k + 1)) by omega) (Int.le_of_lt hp1)
          omega
        have hlow : -9223372036854775808 ≤ n / 128 * 128 ^ (k + 1) := by
          have hd : (9223372036854775808 : Int) = 2 ^ (63 - 7 * (k + 1)) * 128 ^ (k + 1) := by
            rw [← pow7, ← p2, show 63 - 7 * (k + 1) + 7 * (k + 1) = 63 by omega]; rfl
          have hp1 := p128pos (k + 1)
          have hge : -(2 ^ (63 - 7 * (k + 1))) ≤ n / 128 := by
            apply Classical.byContradiction
            intro hlt
            have := Int.mul_le_mul_of_nonneg_right (show n / 128 + 1 ≤ -((2 : Int) ^ (63 - 7 * (k + 1))) by omega) (Int.le_of_lt hp1)
            rw [Int.neg_mul] at this
            omega
          have := Int.mul_le_mul_of_nonneg_right hge (Int.le_of_lt hp1)
          rw [Int.neg_mul] at this
          omega
        have hih := ih r' (k + 1) (x + n % 128 * 128 ^ k) (n / 128) (by omega) (by omega) hlow hhi (by omega) (by omega) (by omega) (by omega) (fun j hj => by
            have := hf (j + 1) (by omega)
            rw [show k + (j + 1) = k + 1 + j by omega] at this
            simpa using this) (by omega)
        rw [rd_more (by omega) (fitB_big true (by omega)) (by omega) (by omega), hlo, mod64 e3 (by omega)]
        have e10 : (2 : Int) ^ (B - 7 * k - 1) = 128 * 2 ^ (B - 7 * (k + 1) - 1) := by
          rw [show B - 7 * k - 1 = 7 + (B - 7 * (k + 1) - 1) by omega, p2]; rfl
        have e11 : (-(2 ^ (B - 7 * (k + 1) - 1)) ≤ n / 128 ∧ n / 128 < 2 ^ (B - 7 * (k + 1) - 1)) ↔ (-(2 ^ (B - 7 * k - 1)) ≤ n ∧ n < 2 ^ (B - 7 * k - 1)) := by rw [e10]; omega
        rcases hih with ⟨g1, g2, g3, g4, g5⟩ | ⟨g1, g2⟩
        · obtain ⟨k1, k2⟩ := e11.1 ⟨g1, g2⟩
          exact .inl ⟨k1, k2, by rw [g3, e6]; omega, by rw [g4]; omega, g5⟩
        · exact .inr ⟨fun h => g1 (e11.2 h), g2⟩
theorem reads_form {f : Nat → Int} {len B : Nat} (hB1 : 1 ≤ B) (hB : B ≤ 64) {n : Int} (hn : -9223372036854775808 ≤ n ∧ n ≤ 9223372036854775807) (hf : ∀ j, j < (formS n).length → f j = (formS n).getD j 0) (hlen : (formS n).length ≤ len) :
    SRes B n 0 0 (formS n).length (LebM.read true f len 0 B) := by
  unfold LebM.read
  rw [if_neg (by omega)]
  have h := rds_form f len 0 B hB 9 10 0 0 n (by have : (64 : Int) * 128 ^ 9 = 590295810358705651712 := rfl; omega) (by have : (64 : Int) * 128 ^ 9 = 590295810358705651712 := rfl; omega) (by rw [Int.pow_zero]; omega) (by rw [Int.pow_zero]; omega) (by decide) (by decide) (by decide) (by omega) (fun j hj => by rw [Nat.zero_add, Nat.zero_add]; exact hf j hj) (by rw [Nat.zero_add, Nat.zero_add]; exact hlen)
  simp only [Nat.zero_add] at h
  exact h
end Go.Proofs.Ythdklnkaeddogaa
