/-
  Plain mathematics for NumShifts.
-/
import Derived.Test.YthdklnkaeddogacDoorAwake
namespace Go.Proofs.YthdklnkaeddogacDoor
open Go.RowKit
namespace NumM
theorem rotr_rotl {n : Nat} (x : BitVec n) (k : Nat) (h : k < n) : rotr (rotl x k) k = x := by
  unfold rotr rotl
  apply BitVec.eq_of_getLsbD_eq
  intro i hi
  simp only [BitVec.getLsbD_or, BitVec.getLsbD_shiftLeft, BitVec.getLsbD_ushiftRight]
  by_cases h1 : i + k < n
  · have e1 : decide (k + i < n) = true := by simp; omega
    have e2 : decide (k + i < k) = false := by simp
    have e3 : decide (i < n - k) = true := by simp; omega
    have e4 : k + i - k = i := by omega
    have e5 : x.getLsbD (n - k + (k + i)) = false := BitVec.getLsbD_of_ge _ _ (by omega)
    simp [e1, e3, e4, e5, hi]
  · have e1 : decide (k + i < n) = false := by simp; omega
    have e3 : decide (i < n - k) = false := by simp; omega
    have e2 : decide (i - (n - k) < k) = true := by simp; omega
    have e4 : n - k + (i - (n - k)) = i := by omega
    have e5 : x.getLsbD (n - k + (k + i)) = false := BitVec.getLsbD_of_ge _ _ (by omega)
    simp [e1, e3, e4, e5, hi, e2]
theorem shr_all {n : Nat} (x : BitVec n) : x >>> n = 0#n := by
  apply BitVec.eq_of_toNat_eq
  rw [BitVec.toNat_ushiftRight, Nat.shiftRight_eq_div_pow, Nat.div_eq_of_lt x.isLt]; simp
theorem shl_all {n : Nat} (x : BitVec n) : x <<< n = 0#n := by
  apply BitVec.eq_of_toNat_eq
  rw [BitVec.toNat_shiftLeft, Nat.shiftLeft_eq, Nat.mul_mod_left]; simp
theorem rotl_zero {n : Nat} (x : BitVec n) : rotl x 0 = x := by
  unfold rotl; rw [Nat.sub_zero, shr_all]; simp
theorem rotr_zero {n : Nat} (x : BitVec n) : rotr x 0 = x := by
  unfold rotr; rw [Nat.sub_zero, shl_all]; simp
theorem rotl_rotr {n : Nat} (x : BitVec n) (k : Nat) (h : k < n) : rotl x k = rotr x ((n - k) % n) := by
  by_cases h0 : k = 0
  · subst h0; rw [Nat.sub_zero, Nat.mod_self, rotl_zero, rotr_zero]
  · rw [Nat.mod_eq_of_lt (by omega)]
    unfold rotl rotr
    rw [show n - (n - k) = k by omega, BitVec.or_comm]
theorem shr_top {n : Nat} (x : BitVec n) (h : 0 < n) : (x >>> (n - 1)) = if x.msb = true then 1#n else 0#n := by
  apply BitVec.eq_of_getLsbD_eq
  intro i hi
  rw [BitVec.getLsbD_ushiftRight]
  by_cases hi0 : i = 0
  · subst hi0
    have : x.getLsbD (n - 1 + 0) = x.msb := by rw [BitVec.msb_eq_getLsbD_last]; rfl
    rw [this]
    cases x.msb <;> simp [h]
  · have : x.getLsbD (n - 1 + i) = false := BitVec.getLsbD_of_ge _ _ (by omega)
    rw [this]
    cases x.msb <;> simp [hi0, hi]
theorem sshr_eq {n : Nat} (x : BitVec n) (k : Nat) (h : k < n) : x.sshiftRight k = x >>> k ||| (if x.msb = true ∧ 0 < k then BitVec.allOnes n <<< (n - k) else 0#n) := by
  apply BitVec.eq_of_getLsbD_eq
  intro i hi
  rw [BitVec.getLsbD_sshiftRight, BitVec.getLsbD_or, BitVec.getLsbD_ushiftRight]
  have hd : decide (n ≤ i) = false := by simp; omega
  by_cases h1 : k + i < n
  · have h2 : ¬ (i ≥ n - k) := by omega
    by_cases c : x.msb = true ∧ 0 < k
    · simp [c, hd, h1, BitVec.getLsbD_shiftLeft]; intro _ h3; omega
    · simp [c, hd, h1]
  · have e5 : x.getLsbD (k + i) = false := BitVec.getLsbD_of_ge _ _ (by omega)
    have hk : 0 < k := by omega
    by_cases c : x.msb = true
    · have h4 : ¬ (i < n - k) := by omega
      simp [c, hd, h1, hk, e5, hi, h4]
    · simp [c, hd, h1, e5]
theorem shr_shl {n : Nat} (x : BitVec n) (k : Nat) : (x >>> k) <<< k = x &&& ~~~ (BitVec.ofNat n (2 ^ k - 1)) := by
  apply BitVec.eq_of_getLsbD_eq
  intro i hi
  rw [BitVec.getLsbD_and, BitVec.getLsbD_not, BitVec.getLsbD_shiftLeft, BitVec.getLsbD_ushiftRight, BitVec.getLsbD_ofNat, Nat.testBit_two_pow_sub_one]
  by_cases h1 : i < k
  · simp [h1, hi]
  · simp [h1, hi, show k + (i - k) = i from by omega]
/-! ### the count, and the operators -/
structure Sv (N : Nat) extends View N where
  N0 : 0 < N
  N64 : N ≤ 64
  cnt : ∀ y : Int, (((dec y).toNat % N : Nat) : Int) = y % (N : Int)
  orE : ∀ P Q : BitVec N, bits .or .u64 (emb P) (emb Q) = emb (P ||| Q)
  anE : ∀ (P : BitVec N) (m : Nat), m < N → bits .andNot .u64 (emb P) (IntKind.u64.wrap (IntKind.u64.wrap (2 ^ m) - 1)) = emb (P &&& ~~~ (BitVec.ofNat N (2 ^ m - 1)))
  e1 : emb 1#N = 1
  e0 : emb 0#N = 0
theorem bits_or (P Q : BitVec 64) : bits .or .u64 (P.toNat : Int) (Q.toNat : Int) = ((P ||| Q).toNat : Int) := by
  show IntKind.u64.wrap ((BitVec.ofInt 64 (P.toNat : Int) ||| BitVec.ofInt 64 (Q.toNat : Int)).toNat : Int) = _
  rw [ofInt_toNat, ofInt_toNat, u64_wrap, ofInt_toNat]
theorem bits_an (P : BitVec 64) (x : Int) : bits .andNot .u64 (P.toNat : Int) x = ((P &&& ~~~ BitVec.ofInt 64 x).toNat : Int) := by
  show IntKind.u64.wrap ((BitVec.ofInt 64 (P.toNat : Int) &&& ~~~ BitVec.ofInt 64 x).toNat : Int) = _
  rw [ofInt_toNat, u64_wrap, ofInt_toNat]
theorem pow_wrap (m : Nat) (h : m < 64) : IntKind.u64.wrap (IntKind.u64.wrap (2 ^ m) - 1) = ((2 ^ m - 1 : Nat) : Int) := by
  have h1 : (2 : Nat) ^ m < 2 ^ 64 := Nat.pow_lt_pow_of_lt (by decide) h
  have h2 : 0 < (2 : Nat) ^ m := Nat.two_pow_pos m
  rw [show ((2 : Int) ^ m) = ((2 ^ m : Nat) : Int) by push_cast; rfl]
  generalize (2 : Nat) ^ m = q at *
  rw [IntKind.wrap_u64, IntKind.wrap_u64]
  omega
def sv32 : Sv 32 where
  toView := view32
  N0 := by decide
  N64 := by decide
  cnt y := by
    show (((lo (BitVec.ofInt 64 y)).toNat % 32 : Nat) : Int) = y % 32
    unfold lo
    rw [BitVec.toNat_setWidth, BitVec.toNat_ofInt]
    simp; omega
  orE P Q := by
    show bits .or .u64 ((P.setWidth 64).toNat : Int) ((Q.setWidth 64).toNat : Int) = (((P ||| Q).setWidth 64).toNat : Int)
    rw [bits_or, BitVec.setWidth_or]
  anE P m h := by
    show bits .andNot .u64 ((P.setWidth 64).toNat : Int) _ = (((P &&& ~~~ (BitVec.ofNat 32 (2 ^ m - 1))).setWidth 64).toNat : Int)
    rw [bits_an, pow_wrap m (by omega), BitVec.ofInt_natCast]
    congr 2
    apply BitVec.eq_of_getLsbD_eq
    intro i hi
    simp only [BitVec.getLsbD_and, BitVec.getLsbD_not, BitVec.getLsbD_setWidth, BitVec.getLsbD_ofNat, Nat.testBit_two_pow_sub_one, hi, decide_true, Bool.true_and]
    by_cases h3 : i < 32
    · simp [h3]
    · have : P.getLsbD i = false := BitVec.getLsbD_of_ge _ _ (by omega)
      simp [this]
  e1 := rfl
  e0 := rfl
def sv64 : Sv 64 where
  toView := view64
  N0 := by decide
  N64 := by decide
  cnt y := by
    show (((BitVec.ofInt 64 y).toNat % 64 : Nat) : Int) = y % 64
    rw [BitVec.toNat_ofInt]
    simp; omega
  orE P Q := bits_or P Q
  anE P m h := by
    show bits .andNot .u64 (P.toNat : Int) _ = _
    rw [bits_an, pow_wrap m (by omega), BitVec.ofInt_natCast]; rfl
  e1 := rfl
  e0 := rfl
section
variable {N : Nat} (V : Sv N) (x n : Int)
/-- how many places -/
def ct (y : Int) : Nat := (V.dec y).toNat % N
theorem ct_lt (y : Int) : ct V y < N := Nat.mod_lt _ V.N0
theorem ct_is (y : Int) : (ct V y : Int) = y % N := V.cnt y
theorem ct_eq {y z : Int} (h : y % (N : Int) = z % N) : ct V y = ct V z := by
  have h1 := ct_is V y
  have h2 := ct_is V z
  omega
theorem ct_mod (y : Int) : ct V (y % N) = ct V y := ct_eq V (Int.emod_emod _ _)
theorem ct_zero : ct V 0 = 0 := by have := ct_is V 0; simp at this; exact this
theorem ct_N : ct V N = 0 := by have := ct_is V N; simp at this; exact this
theorem ct_less (y : Int) : ct V (N - y % N) = (N - ct V y) % N := by
  have h1 := ct_is V y
  have h2 := ct_is V (N - y % N)
  have h3 := ct_lt V y
  have e : ((N : Int) - y % N) = ((N - ct V y : Nat) : Int) := by omega
  rw [e, ← Int.natCast_emod] at h2
  rw [e]
  exact Int.ofNat_inj.1 h2
theorem w10 (y : Int) : bI (V.base + 10) x y = V.emb (V.dec x <<< ct V y) := V.is 10 x y (by decide) (by decide) (trap_no _ _ (by decide))
theorem w11 (y : Int) : bI (V.base + 11) x y = V.emb ((V.dec x).sshiftRight (ct V y)) := V.is 11 x y (by decide) (by decide) (trap_no _ _ (by decide))
theorem w12 (y : Int) : bI (V.base + 12) x y = V.emb (V.dec x >>> ct V y) := V.is 12 x y (by decide) (by decide) (trap_no _ _ (by decide))
theorem w13 (y : Int) : bI (V.base + 13) x y = V.emb (rotl (V.dec x) (ct V y)) := V.is 13 x y (by decide) (by decide) (trap_no _ _ (by decide))
theorem w14 (y : Int) : bI (V.base + 14) x y = V.emb (rotr (V.dec x) (ct V y)) := V.is 14 x y (by decide) (by decide) (trap_no _ _ (by decide))
theorem cutE : bI (V.base + 7) x 18446744073709551615 = V.emb (V.dec x) := by
  have h := v7 V.toView x 18446744073709551615
  rw [lm V.toView V.N64, BitVec.and_allOnes] at h
  exact h
theorem g1 : bI (V.base + 10) x n = bI (V.base + 10) x (n % N) := by rw [w10, w10, ct_mod]
theorem g2 (y : Int) (hy : y % N = n % N) : bI (V.base + 11) x y = bI (V.base + 11) x (n % N) := by rw [w11, w11, ct_mod, ct_eq V hy]
theorem g3 : bI (V.base + 12) x 0 = bI (V.base + 7) x 18446744073709551615 := by rw [w12, cutE, ct_zero]; simp
theorem g4 : bI (V.base + 13) x N = bI (V.base + 7) x 18446744073709551615 := by rw [w13, cutE, ct_N, rotl_zero]
theorem g5 : bI (V.base + 14) (bI (V.base + 13) x n) n = bI (V.base + 7) x 18446744073709551615 := by
  rw [w14, w13, V.back, rotr_rotl _ _ (ct_lt V n), cutE]
theorem g6 : bI (V.base + 13) x n = bI (V.base + 14) x (N - n % N) := by
  rw [w13, w14, ct_less, rotl_rotr _ _ (ct_lt V n)]
theorem ct_0 (h : n % N = 0) : ct V n = 0 := by have := ct_is V n; omega
theorem g7z (h : n % N = 0) : bI (V.base + 13) x n = bI (V.base + 8) (bI (V.base + 10) x (n % N)) (bI (V.base + 12) x 0) := by
  rw [w13, v8 V.toView, w10, w12, V.back, V.back, ct_mod, ct_0 V n h, ct_zero, rotl_zero]; simp
theorem g7p (h : 0 < n % N) : bI (V.base + 13) x n = bI (V.base + 8) (bI (V.base + 10) x (n % N)) (bI (V.base + 12) x (N - n % N)) := by
  have h1 := ct_is V n
  rw [w13, v8 V.toView, w10, w12, V.back, V.back, ct_mod, ct_less, Nat.mod_eq_of_lt (show N - ct V n < N by have := V.N0; omega)]
  rfl
theorem ct_last : ct V ((N : Int) - 1) = N - 1 := by
  have h := ct_is V ((N : Int) - 1)
  have := V.N0
  rw [Int.emod_eq_of_lt (by omega) (by omega)] at h
  omega
theorem g8s : bI (V.base + 12) x (N - 1) = if (V.dec x).msb = true then 1 else 0 := by
  rw [w12, ct_last, shr_top _ V.N0]
  split
  · exact V.e1
  · exact V.e0
theorem g8t (hm : (V.dec x).msb = true) (h : 0 < n % N) :
    bI (V.base + 11) x (n % N) = bits .or .u64 (bI (V.base + 12) x (n % N)) (bI (V.base + 10) 18446744073709551615 (N - n % N)) := by
  have h1 := ct_is V n
  rw [w11, w12, w10, V.orE, ct_mod, ct_less, Nat.mod_eq_of_lt (show N - ct V n < N by have := V.N0; omega), lm V.toView V.N64, sshr_eq _ _ (ct_lt V n), if_pos ⟨hm, by omega⟩]
theorem g8f (h : ¬ ((V.dec x).msb = true ∧ 0 < n % N)) :
    bI (V.base + 11) x (n % N) = bits .or .u64 (bI (V.base + 12) x (n % N)) 0 := by
  have h1 := ct_is V n
  rw [w11, w12, ← V.e0, V.orE, ct_mod, sshr_eq _ _ (ct_lt V n), if_neg (by intro hh; exact h ⟨hh.1, by omega⟩)]
theorem g9 (y : Int) : bI (V.base + 12) (bI (V.base + 10) x y) y = bI (V.base + 12) (bI (V.base + 10) (bI (V.base + 7) x 18446744073709551615) y) y := by
  rw [w12, w12, w10, w10, cutE, V.back, V.back, V.back]
theorem g10 : bI (V.base + 10) (bI (V.base + 12) x (n % N)) (n % N) = bits .andNot .u64 (bI (V.base + 7) x 18446744073709551615) (IntKind.u64.wrap (IntKind.u64.wrap (2 ^ (n % N).toNat) - 1)) := by
  have h1 := ct_is V n
  rw [w10, w12, V.back, ct_mod, cutE, shr_shl, show (n % (N : Int)).toNat = ct V n by omega, V.anE _ _ (ct_lt V n)]
end
theorem a1 (x n : Int) : (bI 116 x n != bI 116 x (n % 32)) = false := ne_false (g1 sv32 x n)
theorem a2 (x n : Int) : (bI 117 x (IntKind.u64.wrap (n + 32)) != bI 117 x (n % 32)) = false := ne_false (g2 sv32 x n _ (by rw [IntKind.wrap_u64]; show (n + 32) % 18446744073709551616 % 32 = n % 32; omega))
theorem a3 (x : Int) : (bI 118 x 0 != bI 113 x 18446744073709551615) = false := ne_false (g3 sv32 x)
theorem a4 (x : Int) : (bI 119 x 32 != bI 113 x 18446744073709551615) = false := ne_false (g4 sv32 x)
theorem a5 (x n : Int) : (bI 120 (bI 119 x n) n != bI 113 x 18446744073709551615) = false := ne_false (g5 sv32 x n)
theorem a6 (x n : Int) : (bI 119 x n != bI 120 x (32 - n % 32)) = false := ne_false (g6 sv32 x n)
theorem a7z (x n : Int) (h : n % 32 = 0) : (bI 119 x n != bI 114 (bI 116 x (n % 32)) (bI 118 x 0)) = false := ne_false (g7z sv32 x n h)
theorem a7p (x n : Int) (h : 0 < n % 32) : (bI 119 x n != bI 114 (bI 116 x (n % 32)) (bI 118 x (32 - n % 32))) = false := ne_false (g7p sv32 x n h)
theorem a8t (x n : Int) (h : 0 < n % 32) (hs : bI 118 x 31 = 1) : (bI 117 x (n % 32) != bits .or .u64 (bI 118 x (n % 32)) (bI 116 18446744073709551615 (32 - n % 32))) = false := ne_false (g8t sv32 x n (by
  have h0 := g8s sv32 x
  rw [show bI (sv32.base + 12) x (((32 : Nat) : Int) - 1) = bI 118 x 31 from rfl, hs] at h0
  by_cases hm : (sv32.dec x).msb = true
  · exact hm
  · rw [if_neg hm] at h0; exact absurd h0 (by decide)) h)
theorem a8f (x n : Int) (h : n % 32 = 0 ∨ bI 118 x 31 ≠ 1) : (bI 117 x (n % 32) != bits .or .u64 (bI 118 x (n % 32)) 0) = false := ne_false (g8f sv32 x n (by
  have h0 := g8s sv32 x
  rw [show bI (sv32.base + 12) x (((32 : Nat) : Int) - 1) = bI 118 x 31 from rfl] at h0
  rintro ⟨hm, hp⟩
  rw [if_pos hm] at h0
  rcases h with h | h
  · have hp' : 0 < n % 32 := hp
    omega
  · exact h h0))
theorem a9 (x n : Int) : (bI 118 (bI 116 x (n % 32)) (n % 32) != bI 118 (bI 116 (bI 113 x 18446744073709551615) (n % 32)) (n % 32)) = false := ne_false (g9 sv32 x (n % 32))
theorem a10 (x n : Int) : (bI 116 (bI 118 x (n % 32)) (n % 32) != bits .andNot .u64 (bI 113 x 18446744073709551615) (IntKind.u64.wrap (IntKind.u64.wrap (2 ^ (n % 32).toNat) - 1))) = false := ne_false (g10 sv32 x n)
theorem b1 (x n : Int) : (bI 134 x n != bI 134 x (n % 64)) = false := ne_false (g1 sv64 x n)
theorem b2 (x n : Int) : (bI 135 x (IntKind.u64.wrap (n + 64)) != bI 135 x (n % 64)) = false := ne_false (g2 sv64 x n _ (by rw [IntKind.wrap_u64]; show (n + 64) % 18446744073709551616 % 64 = n % 64; omega))
theorem b3 (x : Int) : (bI 136 x 0 != bI 131 x 18446744073709551615) = false := ne_false (g3 sv64 x)
theorem b4 (x : Int) : (bI 137 x 64 != bI 131 x 18446744073709551615) = false := ne_false (g4 sv64 x)
theorem b5 (x n : Int) : (bI 138 (bI 137 x n) n != bI 131 x 18446744073709551615) = false := ne_false (g5 sv64 x n)
theorem b6 (x n : Int) : (bI 137 x n != bI 138 x (64 - n % 64)) = false := ne_false (g6 sv64 x n)
theorem b7z (x n : Int) (h : n % 64 = 0) : (bI 137 x n != bI 132 (bI 134 x (n % 64)) (bI 136 x 0)) = false := ne_false (g7z sv64 x n h)
theorem b7p (x n : Int) (h : 0 < n % 64) : (bI 137 x n != bI 132 (bI 134 x (n % 64)) (bI 136 x (64 - n % 64))) = false := ne_false (g7p sv64 x n h)
theorem b8t (x n : Int) (h : 0 < n % 64) (hs : bI 136 x 63 = 1) : (bI 135 x (n % 64) != bits .or .u64 (bI 136 x (n % 64)) (bI 134 18446744073709551615 (64 - n % 64))) = false := ne_false (g8t sv64 x n (by
  have h0 := g8s sv64 x
  rw [show bI (sv64.base + 12) x (((64 : Nat) : Int) - 1) = bI 136 x 63 from rfl, hs] at h0
  by_cases hm : (sv64.dec x).msb = true
  · exact hm
  · rw [if_neg hm] at h0; exact absurd h0 (by decide)) h)
theorem b8f (x n : Int) (h : n % 64 = 0 ∨ bI 136 x 63 ≠ 1) : (bI 135 x (n % 64) != bits .or .u64 (bI 136 x (n % 64)) 0) = false := ne_false (g8f sv64 x n (by
  have h0 := g8s sv64 x
  rw [show bI (sv64.base + 12) x (((64 : Nat) : Int) - 1) = bI 136 x 63 from rfl] at h0
  rintro ⟨hm, hp⟩
  rw [if_pos hm] at h0
  rcases h with h | h
  · have hp' : 0 < n % 64 := hp
    omega
  · exact h h0))
theorem b9 (x n : Int) : (bI 136 (bI 134 x (n % 64)) (n % 64) != bI 136 (bI 134 (bI 131 x 18446744073709551615) (n % 64)) (n % 64)) = false := ne_false (g9 sv64 x (n % 64))
theorem b10 (x n : Int) : (bI 134 (bI 136 x (n % 64)) (n % 64) != bits .andNot .u64 (bI 131 x 18446744073709551615) (IntKind.u64.wrap (IntKind.u64.wrap (2 ^ (n % 64).toNat) - 1))) = false := ne_false (g10 sv64 x n)
end NumM
end Go.Proofs.YthdklnkaeddogacDoor
