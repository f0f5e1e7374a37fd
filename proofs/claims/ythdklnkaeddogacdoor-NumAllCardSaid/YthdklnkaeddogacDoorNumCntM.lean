/-
  The reference's counting of bits, plain: the same numbers as the length, the zeros below and the ones. (For NumAll.)
-/
import Derived.Test.YthdklnkaeddogacDoorNumRS
import Derived.Test.YthdklnkaeddogacDoorCtM
namespace Go.Proofs.YthdklnkaeddogacDoor
open Go.RowKit NumRM NumRef NumM
namespace NumCnt
open Lib
theorem bit_int (x i : Nat) : (x : Int) / 2 ^ i % 2 = if x.testBit i then 1 else 0 := by
  have e : (x : Int) / 2 ^ i % 2 = ((x / 2 ^ i % 2 : Nat) : Int) := by push_cast; rfl
  rw [e, Nat.testBit_eq_decide_div_mod_eq]
  rcases Nat.mod_two_eq_zero_or_one (x / 2 ^ i) with h | h <;> rw [h] <;> rfl
theorem zeros_at (x : Nat) (at' : Nat → Nat) (t n : Nat) (ht : t ≤ n) (h0 : ∀ i, i < t → x.testBit (at' i) = false) (h1 : t < n → x.testBit (at' t) = true) :
    ∀ i, i ≤ n → (i ≤ t → onesN x at' i = 0 ∧ zerosN x at' i = i) ∧ (t < i → 1 ≤ onesN x at' i ∧ zerosN x at' i = t)
  | 0, _ => ⟨fun _ => ⟨rfl, rfl⟩, fun h => by omega⟩
  | i + 1, hi => by
    obtain ⟨a, b⟩ := zeros_at x at' t n ht h0 h1 i (by omega)
    have bo := onesN_bd x at' i
    simp only [onesN, zerosN, bit_int]
    refine ⟨fun h => ?_, fun h => ?_⟩
    · obtain ⟨a1, a2⟩ := a (by omega)
      rw [h0 i (by omega), a1, a2]
      exact ⟨rfl, by simp⟩
    · by_cases he : i = t
      · subst he
        obtain ⟨a1, a2⟩ := a (Nat.le_refl _)
        rw [h1 (by omega), a1, a2]
        exact ⟨by decide, by simp⟩
      · obtain ⟨b1, b2⟩ := b (by omega)
        rw [b2]
        refine ⟨?_, if_neg (fun h' => by omega)⟩
        split <;> omega
theorem zerosN_is (x : Nat) (at' : Nat → Nat) (t n : Nat) (ht : t ≤ n) (h0 : ∀ i, i < t → x.testBit (at' i) = false) (h1 : t < n → x.testBit (at' t) = true) : zerosN x at' n = t := by
  obtain ⟨a, b⟩ := zeros_at x at' t n ht h0 h1 n (Nat.le_refl _)
  by_cases h : n = t
  · rw [(a (by omega)).2, h]
  · exact (b (by omega)).2
theorem low_zeros (x n : Nat) : zerosN x (fun i => i) n = (ctz n (x % 2 ^ n) : Int) := by
  obtain ⟨c, hc⟩ : ∃ c, c = x % 2 ^ n := ⟨_, rfl⟩
  have hlt : c < 2 ^ n := by rw [hc]; exact Nat.mod_lt _ (Nat.two_pow_pos n)
  have hb : ∀ i, i < n → x.testBit i = c.testBit i := fun i hi => by rw [hc, Nat.testBit_mod_two_pow, decide_eq_true hi, Bool.true_and]
  rw [← hc]
  by_cases h0 : c = 0
  · rw [h0, show ctz n 0 = n by unfold ctz; rw [if_pos rfl]]
    exact zerosN_is x _ n n (Nat.le_refl _) (fun i hi => by rw [hb i hi, h0, Nat.zero_testBit]) (fun h => by omega)
  · obtain ⟨m, hm, ht⟩ := CtM.ctz_spec n c (by omega) hlt
    refine zerosN_is x _ (ctz n c) n (by omega) (fun i hi => ?_) (fun h => ?_)
    · rw [hb i (by omega), hm, Nat.testBit_two_pow_mul, decide_eq_false (by omega), Bool.false_and]
    · rw [hb _ h, Nat.testBit_eq_decide_div_mod_eq, CtM.low_one n c (by omega) hlt]; rfl
theorem high_zeros (x n : Nat) (hn : n ≤ 64) : zerosN x (fun i => n - 1 - i) n = (n : Int) - (Lib.bitLen (x % 2 ^ n) : Int) := by
  obtain ⟨c, hc⟩ : ∃ c, c = x % 2 ^ n := ⟨_, rfl⟩
  have hlt : c < 2 ^ n := by rw [hc]; exact Nat.mod_lt _ (Nat.two_pow_pos n)
  have hb : ∀ i, i < n → x.testBit i = c.testBit i := fun i hi => by rw [hc, Nat.testBit_mod_two_pow, decide_eq_true hi, Bool.true_and]
  have hle : Lib.bitLen c ≤ n := bitLen_le c n hn hlt
  have h64 : c < 2 ^ 64 := Nat.lt_of_lt_of_le hlt (Nat.pow_le_pow_right (by decide) hn)
  rw [← hc]
  have h := zerosN_is x (fun i => n - 1 - i) (n - Lib.bitLen c) n (by omega) (fun i hi => by
    show x.testBit (n - 1 - i) = false
    rw [hb _ (by omega)]
    by_cases h0 : c = 0
    · rw [h0, Nat.zero_testBit]
    · exact Nat.testBit_lt_two_pow (Nat.lt_of_lt_of_le (CtM.len_spec c (by omega) h64).2.2 (Nat.pow_le_pow_right (by decide) (by omega)))) (fun h => by
    show x.testBit (n - 1 - (n - Lib.bitLen c)) = true
    have h0 : 0 < c := by
      apply Nat.pos_of_ne_zero
      intro h0
      rw [h0, show Lib.bitLen 0 = 0 by decide +kernel] at h
      omega
    rw [hb _ (by omega), Nat.testBit_eq_decide_div_mod_eq, show n - 1 - (n - Lib.bitLen c) = Lib.bitLen c - 1 by omega, CtM.top_one c h0 h64]; rfl)
  rw [h]; omega
theorem ones_pop (x : Nat) : ∀ n : Nat, onesN x (fun i => i) n = (popAux n (x % 2 ^ n) : Int)
  | 0 => by simp [onesN, popAux]
  | n + 1 => by
    have ih := ones_pop x n
    have s := CtM.pop_split n 1 (x % 2 ^ (n + 1))
    have e1 : x % 2 ^ (n + 1) % 2 ^ n = x % 2 ^ n := Nat.mod_mod_of_dvd _ ⟨2, by rw [Nat.pow_succ]⟩
    have e2 : x % 2 ^ (n + 1) / 2 ^ n = x / 2 ^ n % 2 := by
      rw [Nat.pow_succ, Nat.mod_mul_right_div_self]
    have e3 : popAux 1 (x / 2 ^ n % 2) = x / 2 ^ n % 2 := by show x / 2 ^ n % 2 % 2 + 0 = _; omega
    rw [e1, e2, e3] at s
    rw [s]
    simp only [onesN]
    rw [ih]
    push_cast; rfl
end NumCnt
end Go.Proofs.YthdklnkaeddogacDoor
