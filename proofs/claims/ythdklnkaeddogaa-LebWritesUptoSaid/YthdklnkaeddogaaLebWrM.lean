/-
  The reference's forms: the bytes of each size, and what reading them back gives. Of no program.
-/
import Derived.Test.YthdklnkaeddogaaLebRUS
import Derived.Test.YthdklnkaeddogaaLebSgnM
namespace Go.Proofs.Ythdklnkaeddogaa
open Go.RowKit LebM
/-- the k-th row of seven bits -/
def dig (V : Int) (k : Nat) : Int := V / 128 ^ k % 128
theorem dig_bd (V : Int) (k : Nat) : 0 ≤ dig V k ∧ dig V k < 128 := by unfold dig; omega
/-- the form of that many bytes -/
def fm (V : Int) : Nat → List Int
  | 0 => []
  | 1 => [V % 128]
  | s + 2 => (V % 128 + 128) :: fm (V / 128) (s + 1)
theorem fm_len : ∀ (s : Nat) (V : Int), (fm V s).length = s
  | 0, _ => rfl
  | 1, _ => rfl
  | s + 2, V => by simp [fm, fm_len (s + 1)]
theorem div_pow_succ (V : Int) (k : Nat) : V / 128 / 128 ^ k = V / 128 ^ (k + 1) := by rw [Int.pow_succ, Int.mul_comm, ← Int.ediv_ediv_of_nonneg (by decide)]
theorem dig_succ (V : Int) (k : Nat) : dig (V / 128) k = dig V (k + 1) := by unfold dig; rw [div_pow_succ]
theorem fm_get : ∀ (s : Nat) (V : Int) (k : Nat), k < s → (fm V s).getD k 0 = if k + 1 < s then dig V k + 128 else dig V k
  | 0, _, k, h => by omega
  | 1, V, k, h => by
    obtain rfl : k = 0 := by omega
    rw [if_neg (by omega)]
    simp [fm, dig]
  | s + 2, V, 0, h => by
    rw [if_pos (by omega)]
    simp [fm, dig]
  | s + 2, V, k + 1, h => by
    have := fm_get (s + 1) (V / 128) k (by omega)
    rw [dig_succ] at this
    simp only [fm, List.getD_cons_succ]
    rw [this]
    by_cases h2 : k + 1 < s + 1
    · rw [if_pos h2, if_pos (by omega)]
    · rw [if_neg h2, if_neg (by omega)]
theorem fm_lebU : ∀ (s m : Nat) (n : Int), s ≤ m → 0 ≤ n → n < 128 ^ (s + 1) → (s = 0 ∨ 128 ^ s ≤ n) → fm n (s + 1) = lebU m n
  | 0, m, n, _, h0, h1, _ => by
    have e : (128 : Int) ^ (0 + 1) = 128 := rfl
    rw [lebU_end (by omega)]
    simp only [fm]
    congr 1; omega
  | s + 1, 0, n, hs, _, _, _ => by omega
  | s + 1, m + 1, n, hs, h0, h1, h2 => by
    have h3 : (128 : Int) ^ (s + 1) ≤ n := by
      rcases h2 with h | h
      · omega
      · exact h
    have hp := p128pos s
    have e1 : (128 : Int) ^ (s + 1) = 128 * 128 ^ s := by rw [Int.pow_succ, Int.mul_comm]
    have e2 : (128 : Int) ^ (s + 1 + 1) = 128 * 128 ^ (s + 1) := by rw [Int.pow_succ, Int.mul_comm]
    rw [lebU_go (by omega)]
    show (n % 128 + 128) :: fm (n / 128) (s + 1) = _
    rw [fm_lebU s m (n / 128) (by omega) (by omega) (by omega) (.inr (by omega))]
theorem fm_lebS : ∀ (s m : Nat) (n : Int), s ≤ m → -(64 * 128 ^ s) ≤ n → n < 64 * 128 ^ s → (∀ t, t < s → ¬ (-(64 * 128 ^ t) ≤ n ∧ n < 64 * 128 ^ t)) → fm n (s + 1) = lebS m n
  | 0, m, n, _, h0, h1, _ => by
    have e : (128 : Int) ^ 0 = 1 := rfl
    rw [lebS_end (by omega)]
    rfl
  | s + 1, 0, n, hs, _, _, _ => by omega
  | s + 1, m + 1, n, hs, h0, h1, h2 => by
    have h3 := h2 0 (by omega)
    have e0 : (128 : Int) ^ 0 = 1 := rfl
    have e1 : (128 : Int) ^ (s + 1) = 128 * 128 ^ s := by rw [Int.pow_succ, Int.mul_comm]
    rw [e0] at h3
    rw [lebS_go (by omega)]
    show (n % 128 + 128) :: fm (n / 128) (s + 1) = _
    rw [fm_lebS s m (n / 128) (by omega) (by omega) (by omega) (fun t ht => by
      have := h2 (t + 1) (by omega)
      have e2 : (128 : Int) ^ (t + 1) = 128 * 128 ^ t := by rw [Int.pow_succ, Int.mul_comm]
      rw [e2] at this
      omega)]
/-- reading the form of s bytes without a sign gives what they hold -/
theorem mod_step (V : Int) (k : Nat) : V % 128 ^ (k + 1) = V % 128 ^ k + dig V k * 128 ^ k := by
  have hp := p128pos k
  have h1 := Int.emod_add_mul_ediv V (128 ^ k)
  have h2 := Int.emod_add_mul_ediv V (128 ^ (k + 1))
  have e : V / 128 ^ (k + 1) = V / 128 ^ k / 128 := by rw [Int.pow_succ, ← Int.ediv_ediv_of_nonneg (Int.le_of_lt hp)]
  have e2 : (128 : Int) ^ (k + 1) = 128 ^ k * 128 := Int.pow_succ ..
  rw [e, e2, Int.mul_assoc] at h2
  unfold dig
  have h3 : V / 128 ^ k % 128 = V / 128 ^ k - 128 * (V / 128 ^ k / 128) := by omega
  rw [h3, Int.sub_mul, e2, Int.mul_comm (V / 128 ^ k)]
  have e3 : 128 * (V / 128 ^ k / 128) * 128 ^ k = 128 ^ k * (128 * (V / 128 ^ k / 128)) := Int.mul_comm ..
  rw [e3]
  omega
theorem rd_fm {f : Nat → Int} {s : Nat} {n : Int} (hn : 0 ≤ n ∧ n < 18446744073709551616) (hs : 0 < s ∧ s ≤ 10) (hf : ∀ k, k < s → f k = if k + 1 < s then dig n k + 128 else dig n k) : ∀ (d r k : Nat), k + d + 1 = s → d < r →
    ∃ wd, rd false f s 64 0 r k (n % 128 ^ k) = (n % 128 ^ s, wd, (s : Int), 0)
  | 0, r, k, hk, hr => by
    obtain ⟨r', rfl⟩ : ∃ r', r = r' + 1 := ⟨r - 1, by omega⟩
    have hd := dig_bd n k
    have hc : f (0 + k) = dig n k := by rw [Nat.zero_add, hf k (by omega), if_neg (by omega)]
    have hlo : lowI (f (0 + k)) = dig n k := by rw [hc]; unfold lowI; omega
    have hp := p128pos k
    have h0 := Int.mul_nonneg hd.1 (Int.le_of_lt hp)
    have hst := mod_step n k
    have hle : n % 128 ^ (k + 1) ≤ n := by
      have := Int.emod_add_mul_ediv n (128 ^ (k + 1))
      have h2 : 0 ≤ 128 ^ (k + 1) * (n / 128 ^ (k + 1)) := Int.mul_nonneg (Int.le_of_lt (p128pos (k + 1))) (Int.ediv_nonneg hn.1 (Int.le_of_lt (p128pos (k + 1))))
      omega
    have hm0 := Int.emod_nonneg n (Int.ne_of_gt hp)
    have hfit : fitB false (lowI (f (0 + k))) (64 - 7 * (k : Int)) = true := by
      rw [hlo]
      refine fitU_of ?_
      by_cases h9 : k = 9
      · subst h9
        right
        have e9 : (128 : Int) ^ 9 = 9223372036854775808 := rfl
        show dig n 9 < 2
        unfold dig
        rw [e9]
        omega
      · left; omega
    refine ⟨7 * (k : Int) + 7, ?_⟩
    rw [rd_end (by omega) hfit (by omega), hlo, mod64 h0 (by omega)]
    refine tup4 ?_ rfl (by omega)
    rw [← hk, ← hst]
  | d + 1, r, k, hk, hr => by
    obtain ⟨r', rfl⟩ : ∃ r', r = r' + 1 := ⟨r - 1, by omega⟩
    have hd := dig_bd n k
    have hc : f (0 + k) = dig n k + 128 := by rw [Nat.zero_add, hf k (by omega), if_pos (by omega)]
    have hlo : lowI (f (0 + k)) = dig n k := by rw [hc]; unfold lowI; omega
    have hp := p128pos k
    have h0 := Int.mul_nonneg hd.1 (Int.le_of_lt hp)
    have hp8 : (128 : Int) ^ k ≤ 72057594037927936 := by
      have := p2le (show 7 * k ≤ 56 by omega)
      rw [pow7] at this
      exact this
    have h1 : dig n k * 128 ^ k ≤ 127 * 128 ^ k := Int.mul_le_mul_of_nonneg_right (by omega) (Int.le_of_lt hp)
    rw [rd_more (by omega) (fitB_big false (by omega)) (by omega) (by omega), hlo, mod64 h0 (by omega), ← mod_step]
    exact rd_fm hn hs hf d r' (k + 1) (by omega) (by omega)
/-- the last row with its sign -/
def sdig (V : Int) (k : Nat) : Int := (V / 128 ^ k + 64) % 128 - 64
theorem rds_fm {f : Nat → Int} {s : Nat} {V : Int} (hV : -9223372036854775808 ≤ V ∧ V ≤ 9223372036854775807) (hs : 0 < s ∧ s ≤ 10) (hf : ∀ k, k < s → f k = if k + 1 < s then dig V k + 128 else dig V k) : ∀ (d r k : Nat), k + d + 1 = s → d < r →
    ∃ y wd, rd true f s 64 0 r k (V % 128 ^ k) = (y, wd, (s : Int), 0) ∧ sval y wd = V % 128 ^ (s - 1) + sdig V (s - 1) * 128 ^ (s - 1)
  | 0, r, k, hk, hr => by
    obtain ⟨r', rfl⟩ : ∃ r', r = r' + 1 := ⟨r - 1, by omega⟩
    have hsk : s - 1 = k := by omega
    rw [hsk]
    have hp := p128pos k
    have hm0 := Int.emod_nonneg V (Int.ne_of_gt hp)
    have hm1 := Int.emod_lt_of_pos V hp
    have hn : -64 ≤ sdig V k ∧ sdig V k < 64 := by unfold sdig; omega
    have hdig : sdig V k % 128 = dig V k := by unfold sdig dig; omega
    have hc : f (0 + k) = sdig V k % 128 := by rw [hdig, Nat.zero_add, hf k (by omega), if_neg (by omega)]
    have h9 : k = 9 → sdig V k = V / 128 ^ k ∧ (V / 128 ^ k = -1 ∨ V / 128 ^ k = 0) := fun h => by
      subst h
      have e9 : (128 : Int) ^ 9 = 9223372036854775808 := rfl
      unfold sdig
      rw [e9]
      omega
    have hp8 : k ≤ 8 → (128 : Int) ^ k ≤ 72057594037927936 := fun h => by
      have := p2le (show 7 * k ≤ 56 by omega)
      rw [pow7] at this
      exact this
    have e3 : -64 * 128 ^ k ≤ sdig V k * 128 ^ k := Int.mul_le_mul_of_nonneg_right (by omega) (Int.le_of_lt hp)
    have e4 : (sdig V k + 1) * 128 ^ k ≤ 64 * 128 ^ k := Int.mul_le_mul_of_nonneg_right (by omega) (Int.le_of_lt hp)
    have hb : -9223372036854775808 ≤ sdig V k * 128 ^ k ∧ (sdig V k + 1) * 128 ^ k ≤ 9223372036854775808 := by
      by_cases hk9 : k = 9
      · obtain ⟨q1, q2⟩ := h9 hk9
        rw [q1]
        subst hk9
        have e9 : (128 : Int) ^ 9 = 9223372036854775808 := rfl
        rw [e9] at *
        omega
      · have := hp8 (by omega)
        omega
    have h := rds_last (f := f) (len := s) (a := 0) (B := 64) (r := r') (k := k) (x := V % 128 ^ k) (n := sdig V k) hn ⟨hm0, hm1⟩ (by omega) hb.1 hb.2 (by omega) hc (by omega)
    rcases h with ⟨_, _, g3, g4, g5⟩ | ⟨g1, _⟩
    · refine ⟨_, _, Prod.ext rfl (Prod.ext rfl (Prod.ext ?_ ?_)), g3⟩
      · exact g4.trans (by show ((0 + k + 1 : Nat) : Int) = (s : Int); omega)
      · exact g5
    · exfalso
      apply g1
      by_cases hk9 : k = 9
      · obtain ⟨q1, q2⟩ := h9 hk9
        rw [q1]
        subst hk9
        show -1 ≤ _ ∧ _ < 1
        omega
      · have := p2le (show 7 ≤ 64 - 7 * k - 1 by omega)
        have e7 : (2 : Int) ^ 7 = 128 := rfl
        omega
  | d + 1, r, k, hk, hr => by
    obtain ⟨r', rfl⟩ : ∃ r', r = r' + 1 := ⟨r - 1, by omega⟩
    have hd := dig_bd V k
    have hc : f (0 + k) = dig V k + 128 := by rw [Nat.zero_add, hf k (by omega), if_pos (by omega)]
    have hlo : lowI (f (0 + k)) = dig V k := by rw [hc]; unfold lowI; omega
    have hp := p128pos k
    have h0 := Int.mul_nonneg hd.1 (Int.le_of_lt hp)
    have hp8 : (128 : Int) ^ k ≤ 72057594037927936 := by
      have := p2le (show 7 * k ≤ 56 by omega)
      rw [pow7] at this
      exact this
    have h1 : dig V k * 128 ^ k ≤ 127 * 128 ^ k := Int.mul_le_mul_of_nonneg_right (by omega) (Int.le_of_lt hp)
    rw [rd_more (by omega) (fitB_big true (by omega)) (by omega) (by omega), hlo, mod64 h0 (by omega), ← mod_step]
    exact rds_fm hV hs hf d r' (k + 1) (by omega) (by omega)
/-- reading back tells whether so many bytes are enough -/
theorem back_u {n : Int} (hn : 0 ≤ n ∧ n < 18446744073709551616) {s : Nat} (hs : 0 < s ∧ s ≤ 10) : ∃ y wd, LebM.read false (lst (fm n s)) s 0 64 = (y, wd, (s : Int), 0) ∧ (y = n ↔ n < 128 ^ s) := by
  unfold LebM.read
  rw [if_neg (by omega)]
  obtain ⟨wd, h⟩ := rd_fm (f := lst (fm n s)) hn hs (fun k hk => fm_get s n k hk) (s - 1) 10 0 (by omega) (by omega)
  rw [Int.pow_zero, Int.emod_one] at h
  refine ⟨_, wd, h, ?_⟩
  have hp := p128pos s
  have hm := Int.emod_lt_of_pos n hp
  exact ⟨fun h => by omega, fun h => Int.emod_eq_of_lt hn.1 h⟩
theorem back_s {V : Int} (hV : -9223372036854775808 ≤ V ∧ V ≤ 9223372036854775807) {s : Nat} (hs : 0 < s ∧ s ≤ 10) : ∃ y wd, LebM.read true (lst (fm V s)) s 0 64 = (y, wd, (s : Int), 0) ∧ (sval y wd = V ↔ -(64 * 128 ^ (s - 1)) ≤ V ∧ V < 64 * 128 ^ (s - 1)) ∧ -9223372036854775808 ≤ sval y wd ∧ sval y wd ≤ 9223372036854775807 := by
  unfold LebM.read
  rw [if_neg (by omega)]
  obtain ⟨y, wd, h, h2⟩ := rds_fm (f := lst (fm V s)) hV hs (fun k hk => fm_get s V k hk) (s - 1) 10 0 (by omega) (by omega)
  rw [Int.pow_zero, Int.emod_one] at h
  refine ⟨y, wd, h, ?_, ?_⟩
  case refine_2 =>
    rw [h2]
    have hp := p128pos (s - 1)
    have hm0 := Int.emod_nonneg V (Int.ne_of_gt hp)
    have hm1 := Int.emod_lt_of_pos V hp
    have hsd : -64 ≤ sdig V (s - 1) ∧ sdig V (s - 1) ≤ 63 := by unfold sdig; omega
    by_cases h9 : s - 1 = 9
    · have e9 : (128 : Int) ^ 9 = 9223372036854775808 := rfl
      have e : sdig V (s - 1) = (V / 128 ^ (s - 1) + 64) % 128 - 64 := rfl
      rw [h9, e9] at *
      have : V / 9223372036854775808 = -1 ∨ V / 9223372036854775808 = 0 := by omega
      have e2 : sdig V 9 = V / 9223372036854775808 := by omega
      rw [e2]
      omega
    · have hp8 := p2le (show 7 * (s - 1) ≤ 56 by omega)
      rw [pow7] at hp8
      have e56 : (2 : Int) ^ 56 = 72057594037927936 := rfl
      have h7 := Int.mul_le_mul_of_nonneg_right hsd.1 (Int.le_of_lt hp)
      have h8 := Int.mul_le_mul_of_nonneg_right hsd.2 (Int.le_of_lt hp)
      omega
  rw [h2]
  have hp := p128pos (s - 1)
  have hdm := Int.emod_add_mul_ediv V (128 ^ (s - 1))
  have hm0 := Int.emod_nonneg V (Int.ne_of_gt hp)
  have hm1 := Int.emod_lt_of_pos V hp
  have e : sdig V (s - 1) = (V / 128 ^ (s - 1) + 64) % 128 - 64 := rfl
  generalize (128 : Int) ^ (s - 1) = p at *
  have e2 : V % p + V / p * p = V := by rw [Int.mul_comm (V / p)]; exact hdm
  constructor
  · intro h3
    have h4 : sdig V (s - 1) * p = V / p * p := by omega
    have h5 : sdig V (s - 1) = V / p := Int.eq_of_mul_eq_mul_right (by omega) h4
    have h6 : -64 ≤ V / p ∧ V / p < 64 := by omega
    have h7 := Int.mul_le_mul_of_nonneg_right h6.1 (Int.le_of_lt hp)
    have h8 := Int.mul_le_mul_of_nonneg_right (show V / p ≤ 63 by omega) (Int.le_of_lt hp)
    omega
  · intro h3
    have h6 : -64 ≤ V / p ∧ V / p < 64 := by
      constructor
      · apply Int.le_ediv_of_mul_le hp; omega
      · apply Int.ediv_lt_of_lt_mul hp; omega
    have h5 : sdig V (s - 1) = V / p := by omega
    rw [h5]; exact e2
end Go.Proofs.Ythdklnkaeddogaa
