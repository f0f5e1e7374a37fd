/-
  The contract of num.Bin: what layer 3's operators answer, said by words of 32 and 64 bits.
-/
import Derived.Test.YthdklnkaeddogacDoorBin
namespace Go.Proofs.YthdklnkaeddogacDoor
open Go.RowKit NumM
section
variable {n : Nat} (hn : n = 32 ∨ n = 64)
include hn
theorem of_u64 (z : Int) : BitVec.ofInt n (IntKind.u64.wrap z) = BitVec.ofInt n z := by
  rw [IntKind.wrap_u64]
  apply BitVec.eq_of_toNat_eq
  rw [BitVec.toNat_ofInt, BitVec.toNat_ofInt]
  rcases hn with rfl | rfl <;> simp <;> omega
theorem of_w64 (z : Int) : BitVec.ofInt n (wrap64 z) = BitVec.ofInt n z := by
  unfold wrap64
  apply BitVec.eq_of_toNat_eq
  rw [BitVec.toNat_ofInt, BitVec.toNat_ofInt]
  rcases hn with rfl | rfl <;> simp <;> omega
theorem of_cast64 (z : Int) : (BitVec.ofInt 64 z).setWidth n = BitVec.ofInt n z := by
  apply BitVec.eq_of_toNat_eq
  rw [BitVec.toNat_setWidth, BitVec.toNat_ofInt, BitVec.toNat_ofInt]
  rcases hn with rfl | rfl <;> simp <;> omega
omit hn in
theorem ofInt_nat (V : BitVec n) : BitVec.ofInt n (V.toNat : Int) = V := by
  rw [BitVec.ofInt_natCast]; simp
theorem of_bits (V : BitVec 64) : BitVec.ofInt n (IntKind.u64.wrap (V.toNat : Int)) = V.setWidth n := by
  rw [of_u64 hn, ← of_cast64 hn, ofInt_nat]
theorem of_and (x y : Int) : BitVec.ofInt n (bits .and .u64 x y) = BitVec.ofInt n x &&& BitVec.ofInt n y := by
  show BitVec.ofInt n (IntKind.u64.wrap ((BitVec.ofInt 64 x &&& BitVec.ofInt 64 y).toNat : Int)) = _
  rw [of_bits hn, BitVec.setWidth_and, of_cast64 hn, of_cast64 hn]
theorem of_or (x y : Int) : BitVec.ofInt n (bits .or .u64 x y) = BitVec.ofInt n x ||| BitVec.ofInt n y := by
  show BitVec.ofInt n (IntKind.u64.wrap ((BitVec.ofInt 64 x ||| BitVec.ofInt 64 y).toNat : Int)) = _
  rw [of_bits hn, BitVec.setWidth_or, of_cast64 hn, of_cast64 hn]
theorem of_xor (x y : Int) : BitVec.ofInt n (bits .xor .u64 x y) = BitVec.ofInt n x ^^^ BitVec.ofInt n y := by
  show BitVec.ofInt n (IntKind.u64.wrap ((BitVec.ofInt 64 x ^^^ BitVec.ofInt 64 y).toNat : Int)) = _
  rw [of_bits hn, BitVec.setWidth_xor, of_cast64 hn, of_cast64 hn]
omit hn in
theorem of_shl (A : BitVec n) (m : Nat) : BitVec.ofInt n ((A.toNat : Int) * 2 ^ m) = A <<< m := by
  apply BitVec.eq_of_toNat_eq
  rw [show ((A.toNat : Int) * 2 ^ m) = ((A.toNat * 2 ^ m : Nat) : Int) by push_cast; rfl, BitVec.ofInt_natCast, BitVec.toNat_ofNat, BitVec.toNat_shiftLeft, Nat.shiftLeft_eq]
omit hn in
theorem of_shr (A : BitVec n) (m : Nat) : BitVec.ofInt n ((A.toNat : Int) / 2 ^ m) = A >>> m := by
  apply BitVec.eq_of_toNat_eq
  rw [show ((A.toNat : Int) / 2 ^ m) = ((A.toNat / 2 ^ m : Nat) : Int) by push_cast; rfl, BitVec.ofInt_natCast, BitVec.toNat_ofNat, BitVec.toNat_ushiftRight, Nat.shiftRight_eq_div_pow]
  exact Nat.mod_eq_of_lt (Nat.lt_of_le_of_lt (Nat.div_le_self _ _) A.isLt)
omit hn in
theorem of_sshr (A : BitVec n) (m : Nat) : BitVec.ofInt n (A.toInt / 2 ^ m) = A.sshiftRight m := by
  unfold BitVec.sshiftRight
  rw [Int.shiftRight_eq_div_pow]
  push_cast
  rfl
theorem of_shiftI (k : Int) (A C : BitVec n) (h10 : 10 ≤ k) (h14 : k ≤ 14) :
    BitVec.ofInt n (shiftI k n A.toNat A.toInt ((C.toNat : Int) % n)) = work k A C := by
  have e : ((C.toNat : Int) % (n : Int)).toNat = C.toNat % n := by
    rw [← Int.natCast_emod, Int.toNat_natCast]
  have e' : ((n : Int) - (C.toNat : Int) % (n : Int)).toNat = n - C.toNat % n := by
    rw [← Int.natCast_emod]
    have : C.toNat % n < n := Nat.mod_lt _ (by omega)
    omega
  unfold shiftI work rotl rotr
  rw [e, e', if_neg (show ¬ k = 0 by omega), if_neg (show ¬ k = 1 by omega), if_neg (show ¬ k = 2 by omega), if_neg (show ¬ k = 3 by omega), if_neg (show ¬ k = 4 by omega),
    if_neg (show ¬ k = 5 by omega), if_neg (show ¬ k = 6 by omega), if_neg (show ¬ k = 7 by omega), if_neg (show ¬ k = 8 by omega), if_neg (show ¬ k = 9 by omega)]
  by_cases k10 : k = 10
  · rw [if_pos k10, if_pos k10, of_u64 hn, of_shl]
  rw [if_neg k10, if_neg k10]
  by_cases k11 : k = 11
  · rw [if_pos k11, if_pos k11, of_u64 hn, of_sshr]
  rw [if_neg k11, if_neg k11]
  by_cases k12 : k = 12
  · rw [if_pos k12, if_pos k12, of_shr]
  rw [if_neg k12, if_neg k12]
  by_cases k13 : k = 13
  · rw [if_pos k13, if_pos k13, of_or hn, of_u64 hn, of_shl, of_shr]
  · rw [if_neg k13, if_neg k13, of_or hn, of_u64 hn, of_shl, of_shr]
omit hn in
theorem toNat_pos_of (C : BitVec n) (h : ¬ C = 0#n) : ¬ (C.toNat : Int) = 0 := by
  intro h0
  apply h
  apply BitVec.eq_of_toNat_eq
  simp; omega
theorem least_eq : leastI n = -(2 ^ (n - 1)) := by
  rcases hn with rfl | rfl <;> rfl
theorem of_divE (k : Int) (A C : BitVec n) (h3 : 3 ≤ k) (h6 : k ≤ 6) : divE k n A.toInt C.toNat C.toInt = trap k A C := by
  unfold divE trap
  by_cases h : C = 0#n
  · rw [if_pos (show ((C.toNat : Nat) : Int) = 0 by rw [h]; simp), if_pos (show 3 ≤ k ∧ k ≤ 6 from ⟨h3, h6⟩), if_pos h]
  · rw [if_neg (toNat_pos_of C h), least_eq hn, if_pos (show 3 ≤ k ∧ k ≤ 6 from ⟨h3, h6⟩), if_neg h]
theorem of_workE (k : Int) (A C : BitVec n) : workE k n A.toInt C.toNat C.toInt = trap k A C := by
  unfold workE
  by_cases h : 3 ≤ k ∧ k ≤ 6
  · rw [if_pos h]; exact of_divE hn k A C h.1 h.2
  · rw [if_neg h, trap_no _ _ h]
theorem of_work (k : Int) (A C : BitVec n) (h0 : 0 ≤ k) (h14 : k ≤ 14) (ht : trap k A C = 0) :
    BitVec.ofInt n (workI k n A.toNat A.toInt C.toNat C.toInt) = work k A C := by
  by_cases h10 : 10 ≤ k
  · rw [← of_shiftI hn k A C h10 h14]
    unfold workI
    rw [if_neg (by omega), if_neg (by omega), if_neg (by omega), if_neg (by omega), if_neg (by omega), if_neg (by omega), if_neg (by omega)]
  · by_cases h36 : 3 ≤ k ∧ k ≤ 6
    · have e : workI k n A.toNat A.toInt C.toNat C.toInt = divI k n A.toNat A.toInt C.toNat C.toInt := by
        unfold workI; rw [if_neg (by omega), if_neg (by omega), if_neg (by omega), if_pos h36]
      have ed : divE k n A.toInt C.toNat C.toInt = 0 := by rw [of_divE hn k A C h36.1 h36.2, ht]
      rw [e]
      unfold divI work
      rw [if_neg (by rw [ed]; decide), if_neg (show ¬ k = 0 by omega), if_neg (show ¬ k = 1 by omega), if_neg (show ¬ k = 2 by omega)]
      by_cases k3 : k = 3
      · rw [if_pos k3, if_pos k3, of_u64 hn, of_w64 hn]
      rw [if_neg k3, if_neg k3]
      by_cases k4 : k = 4
      · rw [if_pos k4, if_pos k4, of_u64 hn]
        apply BitVec.eq_of_toNat_eq
        rw [Int.tdiv_eq_ediv_of_nonneg (by omega), ← Int.natCast_ediv, BitVec.ofInt_natCast, BitVec.toNat_ofNat, BitVec.toNat_udiv]
        exact Nat.mod_eq_of_lt (Nat.lt_of_le_of_lt (Nat.div_le_self _ _) A.isLt)
      rw [if_neg k4, if_neg k4]
      by_cases k5 : k = 5
      · rw [if_pos k5, if_pos k5, of_u64 hn]
      rw [if_neg k5, if_neg k5, if_pos (show k = 6 by omega)]
      apply BitVec.eq_of_toNat_eq
      rw [Int.tmod_eq_emod_of_nonneg (by omega), ← Int.natCast_emod, BitVec.ofInt_natCast, BitVec.toNat_ofNat, BitVec.toNat_umod]
      exact Nat.mod_eq_of_lt (Nat.lt_of_le_of_lt (Nat.mod_le _ _) A.isLt)
    · unfold workI work
      obtain rfl | rfl | rfl | rfl | rfl | rfl : k = 0 ∨ k = 1 ∨ k = 2 ∨ k = 7 ∨ k = 8 ∨ k = 9 := by omega
      · rw [if_pos rfl, if_pos rfl, of_u64 hn, BitVec.ofInt_add, ofInt_nat, ofInt_nat]
      · simp only [show ¬ (1 : Int) = 0 by decide, if_false, if_true]
        rw [of_u64 hn, Int.sub_eq_add_neg, BitVec.ofInt_add, BitVec.ofInt_neg, ofInt_nat, ofInt_nat, BitVec.sub_eq_add_neg]
      · simp only [show ¬ (2 : Int) = 0 by decide, show ¬ (2 : Int) = 1 by decide, if_false, if_true]
        rw [of_u64 hn, BitVec.ofInt_mul, ofInt_nat, ofInt_nat]
      · simp [of_and hn]
      · simp [of_or hn]
      · simp [of_xor hn]
end
/-! ### within 64 bits -/
theorem U64_wrap (z : Int) : U64 (IntKind.u64.wrap z) := by rw [IntKind.wrap_u64]; exact ⟨by omega, by omega⟩
theorem U64_le {x z : Int} (h : U64 x) (h0 : 0 ≤ z) (h1 : z ≤ x) : U64 z := ⟨h0, by have := h.2; omega⟩
theorem U64_workI (k v a b c d : Int) (ha : U64 a) (hc : U64 c) : U64 (workI k v a b c d) := by
  unfold workI
  repeat' split
  any_goals exact U64_wrap _
  · unfold divI
    repeat' split
    any_goals exact U64_wrap _
    · exact ⟨by decide, by decide⟩
    · rw [Int.tmod_eq_emod_of_nonneg ha.1]
      by_cases h : c = 0
      · rw [h, Int.emod_zero]; exact ha
      · refine U64_le ha (Int.emod_nonneg _ h) ?_
        obtain ⟨A, rfl⟩ := Int.eq_ofNat_of_zero_le ha.1
        obtain ⟨C, rfl⟩ := Int.eq_ofNat_of_zero_le hc.1
        rw [← Int.natCast_emod]
        have := Nat.mod_le A C
        omega
  · unfold shiftI
    repeat' split
    any_goals exact U64_wrap _
    · exact U64_le ha (Int.ediv_nonneg ha.1 (Int.le_of_lt (Int.pow_pos (by decide)))) (Int.ediv_le_self _ ha.1)
theorem U64_of_ofInt {z : Int} (h : U64 z) : z = ((BitVec.ofInt 64 z).toNat : Int) := by
  obtain ⟨X, h1, h2⟩ := of_U64 h
  rw [h2]; exact h1
/-! ### operands -/
theorem sh_lo (X : BitVec 64) : sh (X.toNat : Int) = ((lo X).toNat : Int) := by
  unfold sh lo
  rw [BitVec.toNat_setWidth]; omega
theorem sS_lo (X : BitVec 64) : sS (X.toNat : Int) = (lo X).toInt := by
  unfold sS lo wrap64 wrap32
  rw [BitVec.toInt_setWidth]
  have := X.isLt
  simp only [Int.bmod]
  omega
theorem sL_toInt (X : BitVec 64) : sL (X.toNat : Int) = X.toInt := by
  unfold sL wrap64
  rw [BitVec.toInt_eq_toNat_bmod]
  have := X.isLt
  simp only [Int.bmod]
  omega

theorem tI_tr (b : Bool) : tI b = ((tr b).toNat : Int) := by cases b <;> rfl
theorem stands_cmp {n : Nat} (k : Int) (A C : BitVec n) (h0 : 0 ≤ k) (h9 : k ≤ 9) : standsB k A.toNat A.toInt C.toNat C.toInt = cmp k A C := by
  obtain rfl | rfl | rfl | rfl | rfl | rfl | rfl | rfl | rfl | rfl : k = 0 ∨ k = 1 ∨ k = 2 ∨ k = 3 ∨ k = 4 ∨ k = 5 ∨ k = 6 ∨ k = 7 ∨ k = 8 ∨ k = 9 := by omega
  · show ((A.toNat : Int) == (C.toNat : Int)) = (A == C)
    rw [Bool.eq_iff_iff]; simp [BitVec.toNat_eq]; omega
  · show ((A.toNat : Int) != (C.toNat : Int)) = (A != C)
    rw [Bool.eq_iff_iff]; simp [BitVec.toNat_eq]; omega
  · rfl
  · show decide ((A.toNat : Int) < (C.toNat : Int)) = A.ult C
    rw [Bool.eq_iff_iff]; simp [BitVec.ult]
  · rfl
  · show decide ((C.toNat : Int) < (A.toNat : Int)) = C.ult A
    rw [Bool.eq_iff_iff]; simp [BitVec.ult]
  · rfl
  · show decide ((A.toNat : Int) ≤ (C.toNat : Int)) = A.ule C
    rw [Bool.eq_iff_iff]; simp [BitVec.ule]
  · rfl
  · show decide ((C.toNat : Int) ≤ (A.toNat : Int)) = C.ule A
    rw [Bool.eq_iff_iff]; simp [BitVec.ule]
theorem toInt_ne {n : Nat} (C : BitVec n) (h : (C.toNat : Int) ≠ 0) : C.toInt ≠ 0 := by
  intro h0
  have : C = 0#n := by
    rw [← BitVec.ofInt_toInt (x := C), h0]; simp
  rw [this] at h; simp at h
/-- ████ num.Bin ████ -/
theorem Bin_any (op x y : Int) (hx : U64 x) (hy : U64 y) (w : World) :
    Calls Tryd.prog 14 #[.int .i64 op, .int .u64 x, .int .u64 y] w fun e w' => e = .returned (.tuple #[.int .u64 (bI op x y), .int .i64 (eI op x y)]) ∧ Grown w w' := by
  obtain ⟨X, rfl, hX⟩ := of_U64 hx
  obtain ⟨Y, rfl, hY⟩ := of_U64 hy
  clear hx hy
  unfold bI eI
  rw [hX, hY]
  by_cases c1 : 70 ≤ op ∧ op < 80
  · have e1 : binE op X Y = 0 := by unfold binE; rw [if_pos c1]
    have e2 : bin op X Y = tr (cmp (op - 70) (lo X) (lo Y)) := by unfold bin; rw [if_neg (by rw [e1]; decide), if_pos c1]
    have := bin_c32 op X.toNat Y.toNat c1.1 c1.2 w
    rw [sh_lo, sh_lo, sS_lo, sS_lo, stands_cmp _ _ _ (by omega) (by omega), tI_tr] at this
    rw [e1, e2]; exact this
  by_cases c2 : 81 ≤ op ∧ op < 91
  · have e1 : binE op X Y = 0 := by unfold binE; rw [if_neg c1, if_pos c2]
    have e2 : bin op X Y = tr (cmp (op - 81) X Y) := by unfold bin; rw [if_neg (by rw [e1]; decide), if_neg c1, if_pos c2]
    have := bin_c64 op X.toNat Y.toNat c2.1 c2.2 w
    rw [sL_toInt, sL_toInt, stands_cmp _ _ _ (by omega) (by omega), tI_tr] at this
    rw [e1, e2]; exact this
  by_cases c3 : 106 ≤ op ∧ op < 121
  · have e1 : binE op X Y = trap (op - 106) (lo X) (lo Y) := by unfold binE; rw [if_neg c1, if_neg c2, if_pos c3]
    have e0 := bin_w32 op X.toNat Y.toNat c3.1 c3.2 (by rw [sh_lo]; omega) (by rw [sh_lo, sS_lo]; exact toInt_ne _) w
    rw [sh_lo, sh_lo, sS_lo, sS_lo] at e0
    have ew := of_workE (n := 32) (Or.inl rfl) (op - 106) (lo X) (lo Y)
    rw [show ((32 : Nat) : Int) = 32 from rfl] at ew
    rw [ew] at e0
    have ev : workI (op - 106) 32 (lo X).toNat (lo X).toInt (lo Y).toNat (lo Y).toInt % 4294967296 = ((bin op X Y).toNat : Int) := by
      by_cases ht : trap (op - 106) (lo X) (lo Y) = 0
      · have h := of_work (n := 32) (Or.inl rfl) (op - 106) (lo X) (lo Y) (by omega) (by omega) ht
        have e2 : bin op X Y = (work (op - 106) (lo X) (lo Y)).setWidth 64 := by
          unfold bin; rw [if_neg (by rw [e1, ht]; decide), if_neg c1, if_neg c2, if_pos c3]
        rw [e2, ← h, BitVec.toNat_setWidth, BitVec.toNat_ofInt]
        simp; omega
      · have e2 : bin op X Y = 0#64 := by unfold bin; rw [if_pos (by rw [e1]; exact ht)]
        rw [e2]
        have hk : 3 ≤ op - 106 ∧ op - 106 ≤ 6 := by
          by_cases hk : 3 ≤ op - 106 ∧ op - 106 ≤ 6
          · exact hk
          · exact absurd (trap_no _ _ hk) ht
        have hE : divE (op - 106) 32 (lo X).toInt (lo Y).toNat (lo Y).toInt ≠ 0 := by
          have := of_divE (n := 32) (Or.inl rfl) (op - 106) (lo X) (lo Y) hk.1 hk.2
          rw [show ((32 : Nat) : Int) = 32 from rfl] at this
          rw [this]; exact ht
        unfold workI divI
        rw [if_neg (by omega), if_neg (by omega), if_neg (by omega), if_pos hk, if_pos hE]; rfl
    rw [ev] at e0
    rw [e1]; exact e0
  by_cases c4 : 124 ≤ op ∧ op < 139
  · have e1 : binE op X Y = trap (op - 124) X Y := by unfold binE; rw [if_neg c1, if_neg c2, if_neg c3, if_pos c4]
    have e0 := bin_w64 op X.toNat Y.toNat c4.1 c4.2 (by omega) (by rw [sL_toInt]; exact toInt_ne _) w
    rw [sL_toInt, sL_toInt] at e0
    have ew := of_workE (n := 64) (Or.inr rfl) (op - 124) X Y
    rw [show ((64 : Nat) : Int) = 64 from rfl] at ew
    rw [ew] at e0
    have ev : workI (op - 124) 64 X.toNat X.toInt Y.toNat Y.toInt = ((bin op X Y).toNat : Int) := by
      by_cases ht : trap (op - 124) X Y = 0
      · have h := of_work (n := 64) (Or.inr rfl) (op - 124) X Y (by omega) (by omega) ht
        have e2 : bin op X Y = work (op - 124) X Y := by
          unfold bin; rw [if_neg (by rw [e1, ht]; decide), if_neg c1, if_neg c2, if_neg c3]
        rw [e2, ← h]
        exact U64_of_ofInt (U64_workI _ _ _ _ _ _ (U64_toNat X) (U64_toNat Y))
      · have e2 : bin op X Y = 0#64 := by unfold bin; rw [if_pos (by rw [e1]; exact ht)]
        rw [e2]
        have hk : 3 ≤ op - 124 ∧ op - 124 ≤ 6 := by
          by_cases hk : 3 ≤ op - 124 ∧ op - 124 ≤ 6
          · exact hk
          · exact absurd (trap_no _ _ hk) ht
        have hE : divE (op - 124) 64 X.toInt Y.toNat Y.toInt ≠ 0 := by
          have := of_divE (n := 64) (Or.inr rfl) (op - 124) X Y hk.1 hk.2
          rw [show ((64 : Nat) : Int) = 64 from rfl] at this
          rw [this]; exact ht
        unfold workI divI
        rw [if_neg (by omega), if_neg (by omega), if_neg (by omega), if_pos hk, if_pos hE]; rfl
    rw [ev] at e0
    rw [e1]; exact e0
  · have e1 : binE op X Y = 1 := by unfold binE; rw [if_neg c1, if_neg c2, if_neg c3, if_neg c4]
    have e2 : bin op X Y = 0#64 := by unfold bin; rw [if_pos (by rw [e1]; decide)]
    rw [e1, e2]
    exact bin_none op X.toNat Y.toNat (by omega) (by omega) (by omega) (by omega) w
set_option maxHeartbeats 400000 in
theorem bin_any (op x y : Int) (hx : U64 x) (hy : U64 y) (w : World) :
    Calls Tryd.prog 15 #[.int .i64 op, .int .u64 x, .int .u64 y] w fun e w' => e = .returned (.int .u64 (bI op x y)) ∧ Grown w w' := by
  have C := Bin_any op x y hx hy
  have HC := Lib.hid C
  clear C hx hy
  go_enter Tryd.func15, Tryd.ntmps15
  go_wp2_with (go_at_call 14; refine (HC.out _).mono ?_; rintro e w1 ⟨rfl, hg⟩)
  go_ret
  exact ⟨rfl, hg⟩
end Go.Proofs.YthdklnkaeddogacDoor
