/-
  Texts of this seat, joined: CtM. Each says what it proves.
-/
import Derived.Lib.BitFns
import Derived.Lib.ItoaNum
import Derived.Lib.TrailingZeros
/- CtM -/
namespace Go.Proofs.Ytjoalcaooccbiaa
namespace CtM
open Go.Lib
theorem and_even (a b : Nat) : (2 * a) &&& (2 * b + 1) = 2 * (a &&& b) := by
 have h1 : ((2 * a) &&& (2 * b + 1)) / 2 = a &&& b := by
  rw [Nat.and_div_two]; congr 1 <;> omega
 have h2 : ((2 * a) &&& (2 * b + 1)) % 2 = 0 := by
  have := @Nat.and_mod_two_pow (2 * a) (2 * b + 1) 1
  simp at this
  omega
 omega
theorem and_odd (a : Nat) : (2 * a + 1) &&& (2 * a) = 2 * a := by
 have h1 : ((2 * a + 1) &&& (2 * a)) / 2 = a := by
  rw [Nat.and_div_two, show (2 * a + 1) / 2 = a by omega, show (2 * a) / 2 = a by omega, Nat.and_self]
 have h2 : ((2 * a + 1) &&& (2 * a)) % 2 = 0 := by
  rw [Nat.and_comm, and_even, Nat.and_self]; omega
 omega
theorem pop_even (f d : Nat) : popAux (f + 1) (2 * d) = popAux f d := by
 show (2 * d) % 2 + popAux f (2 * d / 2) = _
 rw [show (2 * d) % 2 = 0 by omega, show 2 * d / 2 = d by omega, Nat.zero_add]
theorem pop_odd (f d : Nat) : popAux (f + 1) (2 * d + 1) = 1 + popAux f d := by
 show (2 * d + 1) % 2 + popAux f ((2 * d + 1) / 2) = _
 rw [show (2 * d + 1) % 2 = 1 by omega, show (2 * d + 1) / 2 = d by omega]
theorem pop_low : ∀ (f c : Nat), 0 < c → c < 2 ^ f → popAux f (c &&& (c - 1)) + 1 = popAux f c
 | 0, c, h0, h1 => by simp at h1; omega
 | f + 1, c, h0, h1 => by
  by_cases h : c % 2 = 1
  ·obtain ⟨d, rfl⟩ : ∃ d, c = 2 * d + 1 := ⟨c / 2, by omega⟩
   rw [show 2 * d + 1 - 1 = 2 * d by omega, and_odd, pop_even, pop_odd]; omega
  ·obtain ⟨d, rfl⟩ : ∃ d, c = 2 * d := ⟨c / 2, by omega⟩
   rw [show 2 * d - 1 = 2 * (d - 1) + 1 by omega, and_even, pop_even, pop_even]
   exact pop_low f d (by omega) (by rw [Nat.pow_succ] at h1; omega)
theorem pop_not : ∀ (f c : Nat), c < 2 ^ f → popAux f (2 ^ f - 1 - c) + popAux f c = f
 | 0, c, h => rfl
 | f + 1, c, h => by
  rw [Nat.pow_succ] at h ⊢
  have p := Nat.two_pow_pos f
  by_cases ho : c % 2 = 1
  ·obtain ⟨d, rfl⟩ : ∃ d, c = 2 * d + 1 := ⟨c / 2, by omega⟩
   have := pop_not f d (by omega)
   rw [show 2 ^ f * 2 - 1 - (2 * d + 1) = 2 * (2 ^ f - 1 - d) by omega, pop_even, pop_odd]; omega
  ·obtain ⟨d, rfl⟩ : ∃ d, c = 2 * d := ⟨c / 2, by omega⟩
   have := pop_not f d (by omega)
   rw [show 2 ^ f * 2 - 1 - 2 * d = 2 * (2 ^ f - 1 - d) + 1 by omega, pop_even, pop_odd]; omega
theorem xor_even (a b : Nat) : (2 * a) ^^^ (2 * b) = 2 * (a ^^^ b) := by
 have h1 : ((2 * a) ^^^ (2 * b)) / 2 = a ^^^ b := by
  rw [Nat.xor_div_two]; congr 1 <;> omega
 have h2 : ((2 * a) ^^^ (2 * b)) % 2 = 0 := by
  have := @Nat.xor_mod_two_pow (2 * a) (2 * b) 1
  simp at this
  omega
 omega
theorem xor_one (a : Nat) : (2 * a + 1) ^^^ 1 = 2 * a := by
 have h1 : ((2 * a + 1) ^^^ 1) / 2 = a := by
  rw [Nat.xor_div_two, show (2 * a + 1) / 2 = a by omega]; simp
 have h2 : ((2 * a + 1) ^^^ 1) % 2 = 0 := by
  have := @Nat.xor_mod_two_pow (2 * a + 1) 1 1
  rw [show (2 ^ 1) = 2 from rfl, show (2 * a + 1) % 2 = 1 by omega] at this
  rw [this]; rfl
 omega
theorem pop_flip : ∀ (f c : Nat), 0 < c → c < 2 ^ f → popAux f (c ^^^ 2 ^ ctzFrom f c) + 1 = popAux f c
 | 0, c, h0, h1 => by simp at h1; omega
 | f + 1, c, h0, h1 => by
  by_cases h : c % 2 = 1
  ·have e : ctzFrom (f + 1) c = 0 := by rw [ctzFrom, if_pos h]
   obtain ⟨d, rfl⟩ : ∃ d, c = 2 * d + 1 := ⟨c / 2, by omega⟩
   rw [e, Nat.pow_zero, xor_one, pop_even, pop_odd]; omega
  ·have e : ctzFrom (f + 1) c = 1 + ctzFrom f (c / 2) := by rw [ctzFrom, if_neg h]
   obtain ⟨d, rfl⟩ : ∃ d, c = 2 * d := ⟨c / 2, by omega⟩
   rw [e, show 2 * d / 2 = d by omega, Nat.add_comm 1, Nat.pow_succ, Nat.mul_comm (2 ^ _) 2, xor_even, pop_even, pop_even]
   exact pop_flip f d (by omega) (by rw [Nat.pow_succ] at h1; omega)
theorem ctz_eq (n c : Nat) (h0 : 0 < c) : ctz n c = ctzFrom n c := by unfold ctz; rw [if_neg (by omega)]
theorem ctz_spec (n c : Nat) (h0 : 0 < c) (h : c < 2 ^ n) : ∃ m, c = 2 ^ ctz n c * (2 * m + 1) ∧ ctz n c < n := by
 rw [ctz_eq n c h0]; exact ctzFrom_spec n c h0 h
theorem len_spec (c : Nat) (h0 : 0 < c) (h : c < 2 ^ 64) : 1 ≤ bitLen c ∧ 2 ^ (bitLen c - 1) ≤ c ∧ c < 2 ^ bitLen c := bitLenAux_bounds 64 c h (by omega)
theorem top_one (c : Nat) (h0 : 0 < c) (h : c < 2 ^ 64) : c / 2 ^ (bitLen c - 1) = 1 := by
 obtain ⟨a, b, d⟩ := len_spec c h0 h
 have p := Nat.two_pow_pos (bitLen c - 1)
 have e : 2 ^ bitLen c = 2 ^ (bitLen c - 1) * 2 := by rw [← Nat.pow_succ]; congr 1; omega
 rw [e] at d
 exact Nat.div_eq_of_lt_le (by omega) (by omega)
theorem low_one (n c : Nat) (h0 : 0 < c) (h : c < 2 ^ n) : c / 2 ^ ctz n c % 2 = 1 := by
 obtain ⟨m, hm, ht⟩ := ctz_spec n c h0 h
 have p := Nat.two_pow_pos (ctz n c)
 have e : c / 2 ^ ctz n c = 2 * m + 1 := by
  conv => lhs; lhs; rw [hm]
  exact Nat.mul_div_cancel_left _ p
 rw [e]; omega
theorem low_out (n c : Nat) (hn : n ≤ 64) (h0 : 0 < c) (h : c < 2 ^ n) : c * 2 ^ (64 - ctz n c) % 2 ^ 64 = 0 := by
 obtain ⟨m, hm, ht⟩ := ctz_spec n c h0 h
 have e : c * 2 ^ (64 - ctz n c) = 2 ^ 64 * (2 * m + 1) := by
  conv => lhs; lhs; rw [hm]
  rw [Nat.mul_right_comm, ← Nat.pow_add]
  congr 2; omega
 rw [e, Nat.mul_mod_right]
theorem ctz_lt_len (n c : Nat) (h0 : 0 < c) (h : c < 2 ^ n) (hn : n ≤ 64) : ctz n c < bitLen c := by
 have h64 : c < 2 ^ 64 := Nat.lt_of_lt_of_le h (Nat.pow_le_pow_right (by decide) hn)
 obtain ⟨m, hm, ht⟩ := ctz_spec n c h0 h
 obtain ⟨a, b, d⟩ := len_spec c h0 h64
 apply Nat.lt_of_not_le
 intro hle
 have h1 : 2 ^ bitLen c ≤ 2 ^ ctz n c := Nat.pow_le_pow_right (by decide) hle
 have h2 : 2 ^ ctz n c ≤ c := by
  conv => rhs; rw [hm]
  exact Nat.le_mul_of_pos_right _ (by omega)
 omega
theorem pop_le : ∀ (f c : Nat), popAux f c ≤ f
 | 0, _ => Nat.le_refl _
 | f + 1, c => by
  have := pop_le f (c / 2)
  show c % 2 + popAux f (c / 2) ≤ _
  omega
theorem pop_split : ∀ (a b x : Nat), popAux (a + b) x = popAux a (x % 2 ^ a) + popAux b (x / 2 ^ a)
 | 0, b, x => by simp [popAux]
 | a + 1, b, x => by
  rw [show a + 1 + b = (a + b) + 1 by omega]
  show x % 2 + popAux (a + b) (x / 2) = (x % 2 ^ (a + 1)) % 2 + popAux a (x % 2 ^ (a + 1) / 2) + _
  rw [pop_split a b (x / 2)]
  have e1 : x % 2 ^ (a + 1) % 2 = x % 2 := Nat.mod_mod_of_dvd _ ⟨2 ^ a, by rw [Nat.pow_succ, Nat.mul_comm]⟩
  have e2 : x % 2 ^ (a + 1) / 2 = x / 2 % 2 ^ a := by
   rw [Nat.pow_succ, Nat.mul_comm, Nat.mod_mul_right_div_self]
  have e3 : x / 2 ^ (a + 1) = x / 2 / 2 ^ a := by
   rw [Nat.pow_succ, Nat.mul_comm, Nat.div_div_eq_div_mul]
  rw [e1, e2, e3]; omega
end CtM
end Go.Proofs.Ytjoalcaooccbiaa
