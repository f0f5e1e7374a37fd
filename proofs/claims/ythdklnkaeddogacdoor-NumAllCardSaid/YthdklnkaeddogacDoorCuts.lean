/-
  NumCuts: for every x, y, high the law returns true, where the listed table of math/bits lies in memory (the row's own premise, tied by the card). No other condition.
-/
import Derived.Test.YthdklnkaeddogacDoorUn
import Derived.Test.YthdklnkaeddogacDoorDvM
import Derived.Lib.LaidTab
import Derived.LaidMore
namespace Go.Proofs.YthdklnkaeddogacDoor
open Go.RowKit NumM Un
namespace Cu
def uE (op : Int) : Int := if op = 69 ∨ op = 103 ∨ op = 104 ∨ op = 105 then 0 else 1
def InC (op : Int) : Prop := (69 ≤ op ∧ op < 80) ∨ (91 ≤ op ∧ op ≤ 120)
theorem unI_not (op x : Int) (h : InC op) (hn : ¬ (op = 69 ∨ op = 103 ∨ op = 104 ∨ op = 105)) : unI op x = 0 := by
  unfold InC at h
  unfold unI
  rw [if_neg (by omega), if_neg (by omega), if_neg (by omega), if_neg (by omega), if_neg (by omega), if_neg (by omega), if_neg (by omega), if_neg (by omega), if_neg (by omega), if_neg (by omega), if_neg (by omega), if_neg (by omega), if_neg (by omega)]
theorem un_cut {w0 w : World} (op x : Int) (h : InC op) (hT : Tab w0) (hg : Grown w0 w) :
    Calls Tryd.prog 18 #[.int .i64 op, .int .u64 x] w fun e w' => e = .returned (.tuple #[.int .u64 (unI op x), .int .i64 (uE op)]) ∧ Grown w0 w' := by
  by_cases hu : op = 69 ∨ op = 103 ∨ op = 104 ∨ op = 105
  · rw [show uE op = 0 by unfold uE; rw [if_pos hu]]
    exact (Un_yes op x (by unfold isUn; omega) w (tab_grown hg hT)).mono fun _ _ h => ⟨h.1, grown_trans hg h.2⟩
  · rw [show uE op = 1 by unfold uE; rw [if_neg hu], unI_not op x h hu]
    unfold InC at h
    by_cases h2 : (70 ≤ op ∧ op < 80) ∨ (106 ≤ op ∧ op < 121)
    · exact (Un_no op x 2 (Or.inr rfl) w (arity_two op h2)).mono fun _ _ h => ⟨h.1, grown_trans hg h.2⟩
    · exact (Un_no op x 0 (Or.inl rfl) w (arity_none op (by omega))).mono fun _ _ h => ⟨h.1, grown_trans hg h.2⟩
set_option maxHeartbeats 400000 in
theorem un_any (op x : Int) (h : isUn op) (w : World) (hT : Tab w) : Calls Tryd.prog 16 #[.int .i64 op, .int .u64 x] w fun e w' => e = .returned (.int .u64 (unI op x)) ∧ Grown w w' := by
  have C := Un_yes op x h w hT
  have HC := Lib.hid C
  clear C h hT
  go_enter Tryd.func16, Tryd.ntmps16
  go_wp2_with (go_at_call 18; refine HC.out.mono ?_; rintro e w1 ⟨rfl, hg⟩)
  go_ret
  exact ⟨rfl, hg⟩
theorem un_acc {w0 w : World} (op x : Int) (h : isUn op) (hT : Tab w0) (hg : Grown w0 w) : Calls Tryd.prog 16 #[.int .i64 op, .int .u64 x] w fun e w' => e = .returned (.int .u64 (unI op x)) ∧ Grown w0 w' :=
  (un_any op x h w (tab_grown hg hT)).mono fun _ _ h => ⟨h.1, grown_trans hg h.2⟩
theorem Bin_acc {w0 w : World} (op x y : Int) (hx : U64 x) (hy : U64 y) (hg : Grown w0 w) :
    Calls Tryd.prog 14 #[.int .i64 op, .int .u64 x, .int .u64 y] w fun e w' => e = .returned (.tuple #[.int .u64 (bI op x y), .int .i64 (eI op x y)]) ∧ Grown w0 w' :=
  (Bin_any op x y hx hy w).mono fun _ _ h => ⟨h.1, grown_trans hg h.2⟩
theorem awake_acc {w0 w : World} (hg : Grown w0 w) : Calls Tryd.prog 10 #[] w fun e w' => e = .returned (.bool true) ∧ Grown w0 w' :=
  (awake w).mono fun _ _ h => ⟨h.1, grown_trans hg h.2⟩
/-! ### plain mathematics -/
def up (h : Int) : Int := IntKind.u64.wrap (h * 4294967296)
def xu (x h : Int) : Int := bits .xor .u64 x (up h)
theorem lo_is (z : Int) : lo (BitVec.ofInt 64 z) = BitVec.ofInt 32 z := of_cast64 (Or.inl rfl) z
theorem lo_xu (x h : Int) : lo (BitVec.ofInt 64 (xu x h)) = lo (BitVec.ofInt 64 x) := by
  rw [lo_is, lo_is]
  unfold xu
  rw [of_xor (Or.inl rfl)]
  have : BitVec.ofInt 32 (up h) = 0#32 := by
    unfold up
    rw [of_u64 (Or.inl rfl)]
    apply BitVec.eq_of_toNat_eq
    rw [BitVec.toNat_ofInt]; simp
  rw [this, BitVec.xor_zero]
theorem y32_is (z : Int) : y32 z = ((lo (BitVec.ofInt 64 z)).toNat : Int) := by
  rw [lo_is, BitVec.toNat_ofInt]
  unfold y32
  simp; omega
theorem y32_xu (x h : Int) : y32 (xu x h) = y32 x := by rw [y32_is, y32_is, lo_xu]
theorem U64_xu (x h : Int) : U64 (xu x h) := U64_wrap ((BitVec.ofInt 64 x ^^^ BitVec.ofInt 64 (up h)).toNat : Int)
theorem binE_lo (op : Int) (h : InC op) (X Y X' Y' : BitVec 64) (hX : lo X = lo X') (hY : lo Y = lo Y') : binE op X Y = binE op X' Y' := by
  unfold InC at h
  unfold binE
  rw [hX, hY, if_neg (show ¬ (124 ≤ op ∧ op < 139) by omega), if_neg (show ¬ (124 ≤ op ∧ op < 139) by omega)]
theorem bin_lo (op : Int) (h : InC op) (X Y X' Y' : BitVec 64) (hX : lo X = lo X') (hY : lo Y = lo Y') : bin op X Y = bin op X' Y' := by
  have e := binE_lo op h X Y X' Y' hX hY
  unfold InC at h
  unfold bin
  rw [e, hX, hY]
  by_cases h1 : binE op X' Y' ≠ 0
  · rw [if_pos h1, if_pos h1]
  · rw [if_neg h1, if_neg h1, if_neg (show ¬ (81 ≤ op ∧ op < 91) by omega), if_neg (show ¬ (81 ≤ op ∧ op < 91) by omega)]
    by_cases h2 : 70 ≤ op ∧ op < 80
    · rw [if_pos h2, if_pos h2]
    · rw [if_neg h2, if_neg h2]
      by_cases h3 : 106 ≤ op ∧ op < 121
      · rw [if_pos h3, if_pos h3]
      · exfalso
        apply h1
        unfold binE
        rw [if_neg h2, if_neg (by omega), if_neg h3, if_neg (by omega)]; decide
theorem bI_xu (op x y h : Int) (hc : InC op) : bI op (xu x h) (xu y h) = bI op x y := by
  unfold bI; rw [bin_lo op hc _ _ _ _ (lo_xu x h) (lo_xu y h)]
theorem eI_xu (op x y h : Int) (hc : InC op) : eI op (xu x h) (xu y h) = eI op x y := binE_lo op hc _ _ _ _ (lo_xu x h) (lo_xu y h)
theorem bI_lt (op x y : Int) (hc : InC op) : bI op x y < 4294967296 := by
  unfold InC at hc
  unfold bI bin
  split
  · decide
  · rename_i h1
    rw [if_neg (show ¬ (81 ≤ op ∧ op < 91) by omega)]
    by_cases h2 : 70 ≤ op ∧ op < 80
    · rw [if_pos h2]
      unfold tr; split <;> decide
    · rw [if_neg h2]
      by_cases h3 : 106 ≤ op ∧ op < 121
      · rw [if_pos h3, BitVec.toNat_setWidth]
        have := (work (op - 106) (lo (BitVec.ofInt 64 x)) (lo (BitVec.ofInt 64 y))).isLt
        omega
      · exfalso
        apply h1
        unfold binE
        rw [if_neg h2, if_neg (by omega), if_neg h3, if_neg (by omega)]; decide
theorem unI_xu (op x h : Int) (hc : op ≠ 80) : unI op (xu x h) = unI op x := by
  unfold unI
  rw [y32_xu, if_neg hc, if_neg hc]
theorem unI_lt (op x : Int) (hc : InC op) : unI op x < 4294967296 := by
  by_cases hu : op = 69 ∨ op = 103 ∨ op = 104 ∨ op = 105
  · rcases hu with rfl | rfl | rfl | rfl
    · show tI (y32 x == 0) < _
      unfold tI; split <;> decide
    · rw [unI_103]
      have := lz32I_lt (y32 x) (by unfold y32; omega) (by unfold y32; omega)
      omega
    · rw [unI_104]
      have := tz32I_lt (y32 x)
      omega
    · rw [unI_105]
      have := oc32I_lt (y32 x)
      omega
  · rw [unI_not op x hc hu]; decide
theorem w8 (n : Int) : IntKind.i8.wrap n = (n + 128) % 256 - 128 := by
  simp only [IntKind.wrap, IntKind.bits, IntKind.signed]; simp; split <;> omega
theorem w16 (n : Int) : IntKind.i16.wrap n = (n + 32768) % 65536 - 32768 := by
  simp only [IntKind.wrap, IntKind.bits, IntKind.signed]; simp; split <;> omega
theorem e167 (x : Int) : unI 167 x = x % 4294967296 := rfl
theorem e173 (x : Int) : unI 173 x = x % 4294967296 := rfl
theorem e172 (x : Int) : unI 172 x = wrap32 (x % 4294967296) % 18446744073709551616 := by
  show IntKind.u64.wrap (wrap32 (y32 x)) = _
  rw [IntKind.wrap_u64]; rfl
theorem e196 (x : Int) : unI 196 x = wrap32 (x % 4294967296) % 18446744073709551616 := by
  show IntKind.u64.wrap (wrap32 (y32 x)) = _
  rw [IntKind.wrap_u64]; rfl
theorem e192 (x : Int) : unI 192 x = ((x % 4294967296 + 128) % 256 - 128) % 4294967296 := by
  show IntKind.i8.wrap (y32 x) % 4294967296 = _
  rw [w8]; rfl
theorem e193 (x : Int) : unI 193 x = ((x % 4294967296 + 32768) % 65536 - 32768) % 4294967296 := by
  show IntKind.i16.wrap (y32 x) % 4294967296 = _
  rw [w16]; rfl
theorem e194 (x : Int) : unI 194 x = ((x % 4294967296 + 128) % 256 - 128) % 18446744073709551616 := by
  show IntKind.u64.wrap (IntKind.i8.wrap (y32 x)) = _
  rw [w8, IntKind.wrap_u64]; rfl
theorem e195 (x : Int) : unI 195 x = ((x % 4294967296 + 32768) % 65536 - 32768) % 18446744073709551616 := by
  show IntKind.u64.wrap (IntKind.i16.wrap (y32 x)) = _
  rw [w16, IntKind.wrap_u64]; rfl
theorem c1 (x : Int) : (unI 167 x == bits .and .u64 x 4294967295) = true := by
  rw [beq_iff_eq, and_low]
  show y32 x = (((lo (BitVec.ofInt 64 x)).setWidth 64).toNat : Int)
  rw [y32_is, BitVec.toNat_setWidth]
  have := (lo (BitVec.ofInt 64 x)).isLt
  omega
theorem c2 (x : Int) : (unI 167 (unI 172 x) == unI 167 x) = true := by rw [beq_iff_eq, e167, e167, e172]; unfold wrap32; omega
theorem c3 (x h : Int) : (unI 173 (xu x h) == unI 167 x) = true := by
  rw [beq_iff_eq]; exact y32_xu x h
theorem c4 (x : Int) : (unI 196 x == unI 172 x) = true := by rw [beq_iff_eq, e196, e172]
theorem c5 (x : Int) : (unI 196 (unI 172 x) == unI 172 x) = true := by rw [beq_iff_eq, e196, e172]; unfold wrap32; omega
theorem c6 (x : Int) : (unI 172 x / 9223372036854775808 == unI 167 x / 2147483648) = true := by
  rw [beq_iff_eq, e172, e167]
  have h0 : 0 ≤ x % 4294967296 := by omega
  have h1 : x % 4294967296 < 4294967296 := by omega
  generalize x % 4294967296 = y at *
  by_cases h : y < 2147483648
  · rw [show wrap32 y = y by unfold wrap32; omega, Int.emod_eq_of_lt h0 (by omega), Int.ediv_eq_zero_of_lt h0 (by omega), Int.ediv_eq_zero_of_lt h0 h]
  · rw [show wrap32 y = y - 4294967296 by unfold wrap32; omega, show (y - 4294967296) % 18446744073709551616 = y + 18446744069414584320 by omega]
    omega
theorem c7 (x : Int) : (unI 193 (unI 192 x) == unI 192 x) = true := by rw [beq_iff_eq, e193, e192]; omega
theorem c8 (x : Int) : (unI 167 (unI 194 x) == unI 192 x) = true := by rw [beq_iff_eq, e167, e194, e192]; omega
theorem c9 (x : Int) : (unI 167 (unI 195 x) == unI 193 x) = true := by rw [beq_iff_eq, e167, e195, e193]; omega
set_option maxRecDepth 100000 in
set_option maxHeartbeats 4000000 in
theorem cuts_walk (x y h : Int) (hx : U64 x) (hy : U64 y) (w : World) (hT : Tab w) :
    Calls Tryd.prog 8 #[.int .u64 x, .int .u64 y, .int .u64 h] w fun e w' => e = .returned (.bool true) ∧ Grown w w' := by
  have HT := Lib.hid hT
  clear hT
  have hup : IntKind.u64.wrap (h * 4294967296) = up h := rfl
  have hxu : bits .xor .u64 x (up h) = xu x h := rfl
  have hyu : bits .xor .u64 y (up h) = xu y h := rfl
  go_enter Tryd.func8, Tryd.ntmps8
  go_wp2_with fail
  refine (awake_acc (Grown.refl w)).mono ?_
  rintro e w1 ⟨rfl, hg1⟩
  go_wp2_with fail
  go_loopw [8] (fun i wr => ∃ k : Int, 69 ≤ k ∧ k ≤ 121 ∧ i = .int .i64 k ∧ Grown w wr) (fun i _ => 121 - (intOf i).toNat)
  case atStart => exact ⟨69, by omega, by omega, rfl, hg1⟩
  case round =>
    obtain ⟨k, hk0, hk, rfl, hgk⟩ := hrel
    clear hg1
    by_cases hend : k ≤ 120
    · by_cases hskip : 80 ≤ k ∧ k ≤ 90
      · obtain ⟨hs0, hs1⟩ := hskip
        go_wp2
        exact ⟨⟨k + 1, by omega, by omega, rfl, by assumption⟩, by simp [intOf]; omega⟩
      · have hc : InC k := by unfold InC; omega
        obtain ⟨a, ha1, ha2, ta⟩ : ∃ a, bI k x y = a ∧ bI k (xu x h) (xu y h) = a ∧ a < 4294967296 := ⟨_, rfl, bI_xu k x y h hc, bI_lt k x y hc⟩
        obtain ⟨e0, he1, he2⟩ : ∃ e0, eI k x y = e0 ∧ eI k (xu x h) (xu y h) = e0 := ⟨_, rfl, eI_xu k x y h hc⟩
        obtain ⟨u, hu1, hu2, tu⟩ : ∃ u, unI k x = u ∧ unI k (xu x h) = u ∧ u < 4294967296 := ⟨_, rfl, unI_xu k x h (by omega), unI_lt k x hc⟩
        have HI := Lib.hid hc
        clear hc
        have hs : k < 80 ∨ 90 < k := by omega
        clear hskip
        rcases hs with hs | hs
        · go_wp2_with (first | (go_at_call 14; refine (Bin_acc _ _ _ (by first | assumption | exact U64_xu _ _ | exact ⟨by decide, by decide⟩) (by first | assumption | exact U64_xu _ _ | exact ⟨by decide, by decide⟩) (by assumption)).mono ?_; rintro e w' ⟨rfl, hg⟩) | (go_at_call 18; refine (un_cut _ _ HI.out HT.out (by assumption)).mono ?_; rintro e w' ⟨rfl, hg⟩))
          exact ⟨⟨k + 1, by omega, by omega, rfl, by assumption⟩, by simp [intOf]; omega⟩
        · have hs' : 80 ≤ k := by omega
          go_wp2_with (first | (go_at_call 14; refine (Bin_acc _ _ _ (by first | assumption | exact U64_xu _ _ | exact ⟨by decide, by decide⟩) (by first | assumption | exact U64_xu _ _ | exact ⟨by decide, by decide⟩) (by assumption)).mono ?_; rintro e w' ⟨rfl, hg⟩) | (go_at_call 18; refine (un_cut _ _ HI.out HT.out (by assumption)).mono ?_; rintro e w' ⟨rfl, hg⟩))
          exact ⟨⟨k + 1, by omega, by omega, rfl, by assumption⟩, by simp [intOf]; omega⟩
    · have t1 := c1 x
      have t2 := c2 x
      have t3 := c3 x h
      have t4 := c4 x
      have t5 := c5 x
      have t6 := c6 x
      have t7 := c7 x
      have t8 := c8 x
      have t9 := c9 x
      go_wp2_with (go_at_call 16; refine (un_acc _ _ (by unfold isUn; decide) HT.out (by assumption)).mono ?_; rintro e w' ⟨rfl, hg⟩)
      go_ret
      exact ⟨rfl, by assumption⟩
/-- What the row's own premise gives: the table's cells. -/
theorem of_laid {W : World} (h : laidMetH Tryd.prog Rows.numCutsRow.laid W) : Tab W := by
  rw [MakeChecks.laidMetH_plain _ _ _ (by kernel_rfl)] at h
  have hT : Lib.TabIs Tryd.prog W "math/bits.deBruijn32tab" .u8 tab32 := Lib.tabIs_of_head (g := 0) (t := 58) (e := 5) (n := 32) (rest := [("math/bits.deBruijn64tab", Rows.laid_math_bits_deBruijn64tab)]) (by kernel_rfl) (by kernel_rfl) Tryd.underlying58 Tryd.underlying5 (by kernel_rfl) (by kernel_rfl) h
  intro j hj
  rw [World.var?_cell (show Tryd.prog.globalNamed "math/bits.deBruijn32tab" = some 0 by kernel_rfl) hT j]
  match j with
  | 0 => rfl
  | 1 => rfl
  | 2 => rfl
  | 3 => rfl
  | 4 => rfl
  | 5 => rfl
  | 6 => rfl
  | 7 => rfl
  | 8 => rfl
  | 9 => rfl
  | 10 => rfl
  | 11 => rfl
  | 12 => rfl
  | 13 => rfl
  | 14 => rfl
  | 15 => rfl
  | 16 => rfl
  | 17 => rfl
  | 18 => rfl
  | 19 => rfl
  | 20 => rfl
  | 21 => rfl
  | 22 => rfl
  | 23 => rfl
  | 24 => rfl
  | 25 => rfl
  | 26 => rfl
  | 27 => rfl
  | 28 => rfl
  | 29 => rfl
  | 30 => rfl
  | 31 => rfl
  | k + 32 => omega
end Cu
end Go.Proofs.YthdklnkaeddogacDoor
