/-
  The reference's arithmetic of layer 3, plain: by size and sign the quotient and the rest, by filled bits the shift. (For NumAll.)
-/
import Derived.Test.YthdklnkaeddogacDoorNumRS
namespace Go.Proofs.YthdklnkaeddogacDoor
open Go.RowKit NumRM NumRef NumM
namespace NumAr
def sizeI (x : Int) : Int := if 9223372036854775808 ≤ x then 18446744073709551616 - x else x
def quoI (sx sy : Int) : Int := if sx / 9223372036854775808 = sy / 9223372036854775808 then sizeI sx / sizeI sy else IntKind.u64.wrap (-(sizeI sx / sizeI sy))
theorem wrap_wrap64 (z : Int) : IntKind.u64.wrap (wrap64 z) = z % 18446744073709551616 := by
  rw [IntKind.wrap_u64]; unfold wrap64; omega
theorem div_le' (a b : Int) (ha : 0 ≤ a) (hb : 0 < b) : 0 ≤ a / b ∧ a / b ≤ a := ⟨Int.ediv_nonneg ha (by omega), Int.ediv_le_self _ ha⟩
theorem sizeI_pos {s : Int} (h : 0 ≤ s) (h2 : s < 9223372036854775808) : sizeI (s % 18446744073709551616) = s ∧ s % 18446744073709551616 / 9223372036854775808 = 0 := by
  unfold sizeI; rw [if_neg (by omega)]; omega
theorem sizeI_neg {s : Int} (h : s < 0) (h2 : -9223372036854775808 ≤ s) : sizeI (s % 18446744073709551616) = -s ∧ s % 18446744073709551616 / 9223372036854775808 = 1 := by
  unfold sizeI; rw [if_pos (by omega)]; omega
theorem quo_is (s t : Int) (hs : -9223372036854775808 ≤ s ∧ s < 9223372036854775808) (ht : -9223372036854775808 ≤ t ∧ t < 9223372036854775808) (h0 : t ≠ 0) :
    quoI (s % 18446744073709551616) (t % 18446744073709551616) = IntKind.u64.wrap (wrap64 (s.tdiv t)) := by
  rw [wrap_wrap64]
  unfold quoI
  by_cases s0 : 0 ≤ s
  · obtain ⟨e1, e2⟩ := sizeI_pos s0 hs.2
    rw [e1, e2]
    by_cases t0 : 0 ≤ t
    · obtain ⟨f1, f2⟩ := sizeI_pos t0 ht.2
      rw [f1, f2, if_pos rfl, Int.tdiv_eq_ediv_of_nonneg s0]
      have := div_le' s t s0 (by omega)
      omega
    · obtain ⟨f1, f2⟩ := sizeI_neg (show t < 0 by omega) ht.1
      obtain ⟨u, rfl⟩ : ∃ u, t = -u := ⟨-t, by omega⟩
      rw [f1, f2, if_neg (by decide), Int.tdiv_neg, Int.neg_neg, Int.tdiv_eq_ediv_of_nonneg s0, IntKind.wrap_u64]
  · obtain ⟨e1, e2⟩ := sizeI_neg (show s < 0 by omega) hs.1
    obtain ⟨r, rfl⟩ : ∃ r, s = -r := ⟨-s, by omega⟩
    rw [e1, e2, Int.neg_tdiv, Int.neg_neg]
    by_cases t0 : 0 ≤ t
    · obtain ⟨f1, f2⟩ := sizeI_pos t0 ht.2
      rw [f1, f2, if_neg (by decide), Int.tdiv_eq_ediv_of_nonneg (by omega), IntKind.wrap_u64]
    · obtain ⟨f1, f2⟩ := sizeI_neg (show t < 0 by omega) ht.1
      obtain ⟨u, rfl⟩ : ∃ u, t = -u := ⟨-t, by omega⟩
      rw [f1, f2, if_pos rfl, Int.tdiv_neg, Int.neg_neg, Int.neg_neg, Int.tdiv_eq_ediv_of_nonneg (by omega)]
      have := div_le' r u (by omega) (by omega)
      omega
theorem rem_is (s t : Int) (hs : -9223372036854775808 ≤ s ∧ s < 9223372036854775808) (ht : -9223372036854775808 ≤ t ∧ t < 9223372036854775808) (h0 : t ≠ 0) :
    IntKind.u64.wrap (s % 18446744073709551616 - IntKind.u64.wrap (quoI (s % 18446744073709551616) (t % 18446744073709551616) * (t % 18446744073709551616))) = IntKind.u64.wrap (s.tmod t) := by
  rw [quo_is s t hs ht h0, wrap_wrap64, IntKind.wrap_u64, IntKind.wrap_u64, IntKind.wrap_u64, ← Int.mul_emod, ← Int.sub_emod]
  congr 1
  rw [Int.tmod_def, Int.mul_comm]
theorem urem_is (a c : Int) (ha : 0 ≤ a ∧ a < 18446744073709551616) (hc : 0 < c) :
    IntKind.u64.wrap (a - IntKind.u64.wrap (a / c * c)) = a.tmod c := by
  rw [Int.tmod_eq_emod_of_nonneg ha.1]
  have h1 : a / c * c ≤ a := Int.ediv_mul_le _ (by omega)
  have h2 : 0 ≤ a / c * c := Int.mul_nonneg (Int.ediv_nonneg ha.1 (by omega)) (by omega)
  have h3 := Int.emod_add_mul_ediv a c
  have h4 := Int.emod_nonneg a (show c ≠ 0 by omega)
  rw [Int.mul_comm] at h3
  rw [IntKind.wrap_u64, IntKind.wrap_u64]
  generalize a / c * c = z at *
  generalize a % c = y at *
  omega
theorem udiv_is (a c : Int) (ha : 0 ≤ a ∧ a < 18446744073709551616) (hc : 0 < c) : a / c = IntKind.u64.wrap (a.tdiv c) := by
  rw [Int.tdiv_eq_ediv_of_nonneg ha.1, IntKind.wrap_u64]
  have := div_le' a c ha.1 hc
  omega
theorem or_comm' (a b : Int) : bits .or .u64 a b = bits .or .u64 b a := by
  show IntKind.u64.wrap ((BitVec.ofInt 64 a ||| BitVec.ofInt 64 b).toNat : Int) = IntKind.u64.wrap ((BitVec.ofInt 64 b ||| BitVec.ofInt 64 a).toNat : Int)
  rw [BitVec.or_comm]
theorem or_zero' (a : Int) (ha : 0 ≤ a ∧ a < 18446744073709551616) : bits .or .u64 a 0 = a := by
  have := or_hi a 0 0 ha.1 ⟨by decide, by decide⟩ (by simpa using ha.2) (by decide)
  simpa using this
theorem sar_is (s : Int) (n : Int) (hs : -9223372036854775808 ≤ s ∧ s < 9223372036854775808) (hn : 0 ≤ n ∧ n < 64) :
    bits .or .u64 (s % 18446744073709551616 / 2 ^ n.toNat) (fillI (s % 18446744073709551616 / 9223372036854775808) n) = IntKind.u64.wrap (s / 2 ^ n.toNat) := by
  obtain ⟨m, rfl⟩ := Int.eq_ofNat_of_zero_le hn.1
  have hm : m < 64 := by omega
  rw [Int.toNat_natCast]
  have hP : (0 : Int) < 2 ^ m := Int.pow_pos (by decide)
  by_cases h : 0 ≤ s
  · rw [(sizeI_pos h hs.2).2]
    have e : fillI 0 (m : Int) = 0 := if_pos (Or.inl rfl)
    have d := div_le' s (2 ^ m) h hP
    rw [e, show s % 18446744073709551616 = s by omega, or_zero' _ (by omega), IntKind.wrap_u64]
    omega
  · rw [(sizeI_neg (by omega) hs.1).2]
    by_cases h0 : m = 0
    · subst h0
      have e : fillI 1 ((0 : Nat) : Int) = 0 := if_pos (Or.inr rfl)
      rw [e, Int.pow_zero, Int.ediv_one, Int.ediv_one, or_zero' _ (by omega), IntKind.wrap_u64]
    · have e : fillI 1 (m : Int) = 18446744073709551616 - 2 ^ (64 - (m : Int)).toNat := if_neg (by omega)
      have e2 : (64 - (m : Int)).toNat = 64 - m := by omega
      rw [e, e2, or_comm', show s % 18446744073709551616 = s + 18446744073709551616 by omega]
      have hK : (0 : Int) < 2 ^ (64 - m) := Int.pow_pos (by decide)
      have hKP : (2 : Int) ^ (64 - m) * 2 ^ m = 18446744073709551616 := by
        rw [← Int.pow_add, show 64 - m + m = 64 by omega]; rfl
      have hx : (s + 18446744073709551616) / 2 ^ m = s / 2 ^ m + 2 ^ (64 - m) := by
        rw [← hKP, Int.add_mul_ediv_right _ _ (by omega)]
      have hneg : s / 2 ^ m < 0 := Int.ediv_neg_of_neg_of_pos (by omega) hP
      have hlow : 0 ≤ (s + 18446744073709551616) / 2 ^ m := Int.ediv_nonneg (by omega) (by omega)
      have hsplit : (18446744073709551616 : Int) - 2 ^ (64 - m) = (2 ^ m - 1) * 2 ^ (64 - m) := by
        rw [Int.sub_mul, Int.mul_comm, hKP, Int.one_mul]
      rw [hsplit, or_hi (2 ^ m - 1) _ (64 - m) (by omega) ⟨hlow, by omega⟩ (by rw [← hsplit]; omega) (by
        have h1 : (2 : Int) ^ (64 - m) ≤ 18446744073709551616 := by
          rw [← hKP]
          have := Int.mul_le_mul_of_nonneg_left (show (1 : Int) ≤ 2 ^ m by omega) (show (0 : Int) ≤ 2 ^ (64 - m) by omega)
          omega
        omega), ← hsplit, hx, IntKind.wrap_u64]
      have hge : -9223372036854775808 ≤ s / 2 ^ m := by
        have h1 : -9223372036854775808 ≤ s := hs.1
        exact Int.le_ediv_of_mul_le hP (by
          have := Int.mul_le_mul_of_nonneg_left (show (1 : Int) ≤ 2 ^ m by omega) (show (0 : Int) ≤ 9223372036854775808 by decide)
          omega)
      generalize s / 2 ^ m = z at *
      generalize (2 : Int) ^ (64 - m) = K at *
      omega
end NumAr
end Go.Proofs.YthdklnkaeddogacDoor
