/-
  What NumCounts asks of one width, as plain facts on numbers.
-/
import Derived.Test.YthdklnkaeddogacDoorUn2
namespace Go.Proofs.YthdklnkaeddogacDoor
open Go.RowKit NumM Un Un2
namespace Co
theorem un2_any (op x : Int) (h : isUn2 op) (hx : U64 x) (w : World) (hT : Tabs w) : Calls Tryd.prog 16 #[.int .i64 op, .int .u64 x] w fun e w' => e = .returned (.int .u64 (unW op x)) ∧ Grown w w' := by
  have C := Un_all op x h hx w hT
  have HC := Lib.hid C
  clear C h hT hx
  go_enter Tryd.func16, Tryd.ntmps16
  go_wp2_with (go_at_call 18; refine HC.out.mono ?_; rintro e w1 ⟨rfl, hg⟩)
  go_ret
  exact ⟨rfl, hg⟩
theorem un2_acc {w0 w : World} (op x : Int) (h : isUn2 op) (hx : U64 x) (hT : Tabs w0) (hg : Grown w0 w) : Calls Tryd.prog 16 #[.int .i64 op, .int .u64 x] w fun e w' => e = .returned (.int .u64 (unW op x)) ∧ Grown w0 w' :=
  (un2_any op x h hx w (tabs_grown hg hT)).mono fun _ _ h => ⟨h.1, grown_trans hg h.2⟩
theorem is2 (op : Int) (h : op = 103 ∨ op = 104 ∨ op = 105 ∨ op = 121 ∨ op = 122 ∨ op = 123) : isUn2 op := by
  unfold isUn2 isUn; omega
/-! ### plain mathematics -/
theorem y32_nat (n : Nat) : y32 (n : Int) = ((n % 4294967296 : Nat) : Int) := by unfold y32; omega
theorem w103 (n : Nat) : unW 103 (n : Int) = 32 - (Lib.bitLen (n % 4294967296) : Int) := by
  rw [unW_of_isUn 103 _ (by unfold isUn; omega), unI_103, y32_nat, lz32_len]
theorem w104 (n : Nat) : unW 104 (n : Int) = (Lib.ctz 32 (n % 4294967296) : Int) := by
  rw [unW_of_isUn 104 _ (by unfold isUn; omega), unI_104, y32_nat, tz32_ctz _ (by omega)]
theorem w105 (n : Nat) : unW 105 (n : Int) = (Lib.popAux 32 (n % 4294967296) : Int) := by
  rw [unW_of_isUn 105 _ (by unfold isUn; omega), unI_105, y32_nat, oc32_pop _ (by omega)]
theorem w121 (n : Nat) : unW 121 (n : Int) = 64 - (Lib.bitLen n : Int) := rfl
theorem w122 (n : Nat) : unW 122 (n : Int) = (Lib.ctz 64 n : Int) := rfl
theorem w123 (n : Nat) : unW 123 (n : Int) = (Lib.popAux 64 n : Int) := rfl
theorem len_le (W c : Nat) (hW : W ≤ 64) (hc : c < 2 ^ W) : Lib.bitLen c ≤ W := Lib.bitLen_le c W hW hc
theorem pop_pos (W c : Nat) (h0 : 0 < c) (hc : c < 2 ^ W) : 1 ≤ Lib.popAux W c := by
  have := CtM.pop_low W c h0 hc; omega
theorem xor_nat (a b : Nat) (ha : a < 18446744073709551616) (hb : b < 18446744073709551616) : bits .xor .u64 (a : Int) (b : Int) = ((a ^^^ b : Nat) : Int) := by
  show IntKind.u64.wrap ((BitVec.ofInt 64 (a : Int) ^^^ BitVec.ofInt 64 (b : Int)).toNat : Int) = _
  have h1 : (BitVec.ofInt 64 (a : Int)).toNat = a := by
    rw [BitVec.ofInt_natCast, BitVec.toNat_ofNat]; exact Nat.mod_eq_of_lt (by omega)
  have h2 : (BitVec.ofInt 64 (b : Int)).toNat = b := by
    rw [BitVec.ofInt_natCast, BitVec.toNat_ofNat]; exact Nat.mod_eq_of_lt (by omega)
  rw [BitVec.toNat_xor, h1, h2]
  have : a ^^^ b < 2 ^ 64 := Nat.xor_lt_two_pow ha hb
  exact wrap_nat _ (by omega)
theorem nat_xor_max (c : Nat) (hc : c < 2 ^ 64) : (2 ^ 64 - 1) ^^^ c = 2 ^ 64 - 1 - c := by
  apply Nat.eq_of_testBit_eq
  intro i
  rw [Nat.testBit_xor, Nat.testBit_two_pow_sub_one, show 2 ^ 64 - 1 - c = 2 ^ 64 - (c + 1) by omega, Nat.testBit_two_pow_sub_succ hc]
  by_cases h : i < 64
  · rw [decide_eq_true h]; cases c.testBit i <;> rfl
  · have : c.testBit i = false := Nat.testBit_lt_two_pow (Nat.lt_of_lt_of_le hc (Nat.pow_le_pow_right (by decide) (by omega)))
    rw [decide_eq_false h, this]; rfl
theorem xor_max (c : Nat) (hc : c < 18446744073709551616) : bits .xor .u64 IntKind.u64.max (c : Int) = ((18446744073709551615 - c : Nat) : Int) := by
  have : IntKind.u64.max = ((18446744073709551615 : Nat) : Int) := by decide
  rw [this, xor_nat _ _ (by decide) hc]
  exact congrArg _ (nat_xor_max c hc)
theorem wrap_pow (t : Nat) (h : t < 64) : IntKind.u64.wrap ((2 : Int) ^ t) = ((2 ^ t : Nat) : Int) := by
  have : (2 : Nat) ^ t < 2 ^ 64 := Nat.pow_lt_pow_right (by decide) h
  rw [show (2 : Int) ^ t = ((2 ^ t : Nat) : Int) by push_cast; rfl]
  exact wrap_nat _ (by omega)
/-- all that one round asks: c the lowest W bits of n; a zeros above, t below, o ones -/
structure Facts (W n c : Nat) (a t o : Int) (ones : Int → Int) : Prop where
  b : 0 ≤ a ∧ a < W ∧ 0 ≤ t ∧ t < W ∧ 1 ≤ o ∧ o ≤ W ∧ a + t < W
  e1 : (c : Int) / 2 ^ ((W : Int) - 1 - a).toNat = 1
  e2 : ((c : Int) / 2 ^ t.toNat).tmod 2 = 1
  e3 : IntKind.u64.wrap ((c : Int) * 2 ^ (64 - t).toNat) = 0
  m1 : ∃ m : Nat, bits .and .u64 (c : Int) (c - 1) = (m : Int) ∧ U64 (m : Int) ∧ ones m = o - 1
  m2 : ∃ m : Nat, bits .xor .u64 IntKind.u64.max (c : Int) = (m : Int) ∧ U64 (m : Int) ∧ ones m = W - o
  m3 : ∃ m : Nat, bits .xor .u64 (n : Int) (IntKind.u64.wrap (2 ^ t.toNat)) = (m : Int) ∧ U64 (m : Int) ∧ ones m = o - 1
theorem facts (W n c : Nat) (hW : W = 32 ∨ W = 64) (hn : n < 18446744073709551616) (hc : c = n % 2 ^ W) (h0 : 0 < c) (ones : Int → Int) (ho : ∀ m : Nat, m < 18446744073709551616 → ones m = (Lib.popAux W (m % 2 ^ W) : Int)) :
    Facts W n c (W - (Lib.bitLen c : Int)) (Lib.ctz W c) (Lib.popAux W c) ones := by
  have hW64 : W ≤ 64 := by omega
  have hcW : c < 2 ^ W := by rw [hc]; exact Nat.mod_lt _ (Nat.two_pow_pos W)
  have hle : 2 ^ W ≤ 2 ^ 64 := Nat.pow_le_pow_right (by decide) hW64
  have hc64 : c < 18446744073709551616 := by omega
  obtain ⟨l1, l2, l3⟩ := CtM.len_spec c h0 (by omega)
  have l4 := len_le W c hW64 hcW
  have t1 := CtM.ctz_lt_len W c h0 hcW hW64
  have p1 := pop_pos W c h0 hcW
  have p2 := CtM.pop_le W c
  refine ⟨by omega, ?_, ?_, ?_, ?_, ?_, ?_⟩
  · rw [show ((W : Int) - 1 - ((W : Int) - (Lib.bitLen c : Int))).toNat = Lib.bitLen c - 1 by omega]
    have := CtM.top_one c h0 (by omega)
    exact_mod_cast congrArg (Nat.cast : Nat → Int) this
  · rw [Int.toNat_natCast]
    have := CtM.low_one W c h0 hcW
    rw [Int.tmod_eq_emod_of_nonneg (Int.ediv_nonneg (by omega) (Int.le_of_lt (Int.pow_pos (by decide))))]
    exact_mod_cast congrArg (Nat.cast : Nat → Int) this
  · rw [show (64 - (Lib.ctz W c : Int)).toNat = 64 - Lib.ctz W c by omega, IntKind.wrap_u64]
    have h : c * 2 ^ (64 - Lib.ctz W c) % 18446744073709551616 = 0 := CtM.low_out W c hW64 h0 hcW
    rw [show (c : Int) * 2 ^ (64 - Lib.ctz W c) = ((c * 2 ^ (64 - Lib.ctz W c) : Nat) : Int) by push_cast; rfl]
    omega
  · have hl : c &&& (c - 1) ≤ c := Nat.and_le_left
    refine ⟨c &&& (c - 1), ?_, ⟨by omega, by omega⟩, ?_⟩
    · rw [show (c : Int) - 1 = ((c - 1 : Nat) : Int) by omega]
      exact and_nat _ _ hc64 (by omega)
    · rw [ho _ (by omega), Nat.mod_eq_of_lt (by omega)]
      have := CtM.pop_low W c h0 hcW
      omega
  · refine ⟨18446744073709551615 - c, xor_max c hc64, ⟨by omega, by omega⟩, ?_⟩
    rw [ho _ (by omega)]
    have := CtM.pop_not W c hcW
    rw [show (18446744073709551615 - c) % 2 ^ W = 2 ^ W - 1 - c by rcases hW with rfl | rfl <;> omega]
    omega
  · have ht : Lib.ctz W c < 64 := by omega
    have hp : (2 : Nat) ^ Lib.ctz W c < 2 ^ 64 := Nat.pow_lt_pow_right (by decide) ht
    have hx : n ^^^ 2 ^ Lib.ctz W c < 2 ^ 64 := Nat.xor_lt_two_pow hn hp
    refine ⟨n ^^^ 2 ^ Lib.ctz W c, ?_, ⟨by omega, by omega⟩, ?_⟩
    · rw [Int.toNat_natCast, wrap_pow _ ht]
      exact xor_nat _ _ hn (by omega)
    · rw [ho _ (by omega), Nat.xor_mod_two_pow, ← hc, Nat.mod_eq_of_lt (show 2 ^ Lib.ctz W c < 2 ^ W from Nat.pow_lt_pow_right (by decide) (by omega))]
      have := CtM.pop_flip W c h0 hcW
      rw [← CtM.ctz_eq W c h0] at this
      omega
end Co
end Go.Proofs.YthdklnkaeddogacDoor
