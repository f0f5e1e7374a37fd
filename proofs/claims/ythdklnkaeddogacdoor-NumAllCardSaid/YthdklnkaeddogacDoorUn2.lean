/-
  The contracts of math/bits' functions of 64 bits, and of num.Un at the operators that count.
-/
import Derived.Test.YthdklnkaeddogacDoorCuts
import Derived.Test.YthdklnkaeddogacDoorCtM
import Derived.Test.YthdklnkaeddogacDoorPopM
import Derived.Shelf.Spec.TrailingZeros
namespace Go.Proofs.YthdklnkaeddogacDoor
open Go.RowKit NumM Un
namespace Un2
/-- the table of math/bits for 64 bits lies in memory -/
def Tab64 (w : World) : Prop := ∀ j, j < 64 → w.cell? ⟨1, j, none⟩ = some (.int .u8 ((Lib.deBruijn64tab.getD j 0 : Nat) : Int))
theorem tab64_grown {w w' : World} (hg : Grown w w') (hT : Tab64 w) : Tab64 w' := by
  intro j hj
  have h := hT j hj
  have hb := block_lt_of_cell h
  rw [World.keptBut.cell hg.1 hb (fun f => f)]
  exact h
set_option maxHeartbeats 1000000 in
theorem tz64_core (x k idx : Nat) (w : World) (hx0 : ((x : Int) == 0) = false)
    (key : IntKind.u64.wrap (bits BinOp.and IntKind.u64 (x : Int) (IntKind.u64.wrap (-(x : Int))) * 285870213051353865) / 288230376151711744 = (idx : Int))
    (hi : idx < 64) (hk : k < 64) (hcell : w.cell? ⟨1, idx, none⟩ = some (.int .u8 k)) :
    Calls Tryd.prog 40 #[.int .u64 x] w fun e w' => e = .returned (.int .i64 k) ∧ Grown w w' := by
  go_enter Tryd.func40, Tryd.ntmps40
  go_wp2_with (simp only [key])
  go_ret
  exact ⟨rfl, Grown.refl _⟩
theorem tz64_zero (w : World) : Calls Tryd.prog 40 #[.int .u64 0] w fun e w' => e = .returned (.int .i64 64) ∧ Grown w w' := by
  go_enter Tryd.func40, Tryd.ntmps40
  go_wp2
  go_ret
  exact ⟨rfl, Grown.refl _⟩
theorem tz64 (x : Nat) (hx : x < 18446744073709551616) (w : World) (hT : Tab64 w) :
    Calls Tryd.prog 40 #[.int .u64 x] w fun e w' => e = .returned (.int .i64 (Lib.ctz 64 x)) ∧ Grown w w' := by
  by_cases hx0 : x = 0
  · subst hx0
    exact tz64_zero w
  · obtain ⟨hlow, hk⟩ := Lib.lowest_bit 64 x hx0 hx
    obtain ⟨hi, htab⟩ := Lib.deBruijn64_at _ hk
    have hcell := hT _ hi
    rw [htab] at hcell
    exact tz64_core x _ _ w (by simp; omega) (tz64_key x _ hx hx0 hlow) hi hk hcell
theorem and_nat (a b : Nat) (ha : a < 18446744073709551616) (hb : b < 18446744073709551616) : bits .and .u64 (a : Int) (b : Int) = ((a &&& b : Nat) : Int) := bits_and_u64_nat a b ha hb
theorem and127 (a : Nat) (ha : a < 18446744073709551616) : bits .and .i64 (wrap64 (a : Int)) 127 = ((a % 128 : Nat) : Int) := by
  show IntKind.i64.wrap ((BitVec.ofInt 64 (wrap64 (a : Int)) &&& BitVec.ofInt 64 127).toNat : Int) = _
  have h1 : (BitVec.ofInt 64 (a : Int)).toNat = a := by
    rw [BitVec.ofInt_natCast, BitVec.toNat_ofNat]; exact Nat.mod_eq_of_lt (by omega)
  rw [of_w64 (Or.inr rfl), BitVec.toNat_and, h1, show (BitVec.ofInt 64 127).toNat = 2 ^ 7 - 1 from rfl, Nat.and_two_pow_sub_one_eq_mod, IntKind.wrap_i64]
  omega
theorem wrap_nat (a : Nat) (h : a < 18446744073709551616) : IntKind.u64.wrap (a : Int) = a := by rw [IntKind.wrap_u64]; omega
theorem q_and2 (a m : Nat) (d : Nat) (ha : a < 18446744073709551616) (hm : m < 9223372036854775808) :
    IntKind.u64.wrap (bits .and .u64 ((a : Int) / d) m + bits .and .u64 (a : Int) m) = (((a / d &&& m) + (a &&& m) : Nat) : Int) := by
  have l1 : a / d &&& m ≤ m := Nat.and_le_right
  have l2 : a &&& m ≤ m := Nat.and_le_right
  have l3 : a / d ≤ a := Nat.div_le_self _ _
  rw [← Int.natCast_ediv, and_nat _ _ (by omega) (by omega), and_nat _ _ ha (by omega), ← Int.natCast_add, wrap_nat _ (by omega)]
theorem q_add (a d : Nat) (h : a + a / d < 18446744073709551616) : IntKind.u64.wrap ((a : Int) + (a : Int) / d) = ((a + a / d : Nat) : Int) := by
  rw [← Int.natCast_ediv, ← Int.natCast_add, wrap_nat _ h]
theorem q_add' (a d : Nat) (h : a / d + a < 18446744073709551616) : IntKind.u64.wrap ((a : Int) / d + (a : Int)) = ((a / d + a : Nat) : Int) := by
  rw [← Int.natCast_ediv, ← Int.natCast_add, wrap_nat _ h]
theorem pop64_le (x : Nat) : Lib.popAux 64 x ≤ 64 := CtM.pop_le 64 x
set_option maxHeartbeats 1000000 in
theorem oc64 (x : Nat) (hx : x < 18446744073709551616) (w : World) :
    Calls Tryd.prog 41 #[.int .u64 x] w fun e w' => e = .returned (.int .i64 (Lib.popAux 64 x)) ∧ Grown w w' := by
  have HX := Lib.hid hx
  go_enter Tryd.func41, Tryd.ntmps41
  go_wp2
  go_ret
  refine ⟨ret_i64 ?_, Grown.refl _⟩
  have e1 : IntKind.u64.wrap (bits .and .u64 ((x : Int) / 2) 6148914691236517205 + bits .and .u64 (x : Int) 6148914691236517205) = _ := q_and2 x 6148914691236517205 2 HX.out (by decide)
  obtain ⟨y1, hy1⟩ : ∃ y, y = (x / 2 &&& 6148914691236517205) + (x &&& 6148914691236517205) := ⟨_, rfl⟩
  rw [← hy1] at e1
  have b1 : y1 < 18446744073709551616 := by
    have l1 : x / 2 &&& 6148914691236517205 ≤ 6148914691236517205 := Nat.and_le_right
    have l2 : x &&& 6148914691236517205 ≤ 6148914691236517205 := Nat.and_le_right
    omega
  have e2 : IntKind.u64.wrap (bits .and .u64 ((y1 : Int) / 4) 3689348814741910323 + bits .and .u64 (y1 : Int) 3689348814741910323) = _ := q_and2 y1 3689348814741910323 4 b1 (by decide)
  obtain ⟨y2, hy2⟩ : ∃ y, y = (y1 / 4 &&& 3689348814741910323) + (y1 &&& 3689348814741910323) := ⟨_, rfl⟩
  rw [← hy2] at e2
  have b2 : y2 ≤ 7378697629483820646 := by
    have l1 : y1 / 4 &&& 3689348814741910323 ≤ 3689348814741910323 := Nat.and_le_right
    have l2 : y1 &&& 3689348814741910323 ≤ 3689348814741910323 := Nat.and_le_right
    omega
  have e3 : IntKind.u64.wrap ((y2 : Int) / 16 + (y2 : Int)) = _ := q_add' y2 16 (by omega)
  have e3' : bits .and .u64 ((y2 / 16 + y2 : Nat) : Int) 1085102592571150095 = _ := and_nat (y2 / 16 + y2) 1085102592571150095 (by omega) (by decide)
  obtain ⟨y3, hy3⟩ : ∃ y, y = (y2 / 16 + y2) &&& 1085102592571150095 := ⟨_, rfl⟩
  rw [← hy3] at e3'
  obtain ⟨b4, b5, b6, hpop⟩ := PopM.ones64 x y1 y2 y3 _ _ _ hy1 hy2 hy3 rfl rfl rfl
  obtain ⟨y4, hy4⟩ : ∃ y, y = y3 + y3 / 256 := ⟨_, rfl⟩
  have e4 : IntKind.u64.wrap ((y3 : Int) + (y3 : Int) / 256) = _ := q_add y3 256 b4
  rw [← hy4] at e4 b4 b5 b6 hpop
  obtain ⟨y5, hy5⟩ : ∃ y, y = y4 + y4 / 65536 := ⟨_, rfl⟩
  have e5 : IntKind.u64.wrap ((y4 : Int) + (y4 : Int) / 65536) = _ := q_add y4 65536 b5
  rw [← hy5] at e5 b5 b6 hpop
  obtain ⟨y6, hy6⟩ : ∃ y, y = y5 + y5 / 4294967296 := ⟨_, rfl⟩
  have e6 : IntKind.u64.wrap ((y5 : Int) + (y5 : Int) / 4294967296) = _ := q_add y5 4294967296 b6
  rw [← hy6] at e6 b6 hpop
  rw [e1, e2, e3, e3', e4, e5, e6, and127 y6 b6, hpop]
set_option maxHeartbeats 400000 in
theorem onew_121 (x y L : Int) (w : World) (hL : 0 ≤ L ∧ L ≤ 256) (C : Calls Tryd.prog 39 #[.int .u64 x] w fun e w' => e = .returned (.int .i64 L) ∧ Grown w w') :
    Calls Tryd.prog 26 #[.int .i64 121, .int .u64 x, .int .u32 y] w fun e w' => e = .returned (.int .u64 L) ∧ Grown w w' := by
  have H := Lib.hid C
  clear C
  go_enter Tryd.func26, Tryd.ntmps26
  go_wp2_with (go_at_call 39; refine H.out.mono ?_; rintro e w' ⟨rfl, hg⟩)
  go_ret
  exact ⟨rfl, hg⟩
set_option maxHeartbeats 400000 in
theorem onew_122 (x y L : Int) (w : World) (hL : 0 ≤ L ∧ L ≤ 256) (C : Calls Tryd.prog 40 #[.int .u64 x] w fun e w' => e = .returned (.int .i64 L) ∧ Grown w w') :
    Calls Tryd.prog 26 #[.int .i64 122, .int .u64 x, .int .u32 y] w fun e w' => e = .returned (.int .u64 L) ∧ Grown w w' := by
  have H := Lib.hid C
  clear C
  go_enter Tryd.func26, Tryd.ntmps26
  go_wp2_with (go_at_call 40; refine H.out.mono ?_; rintro e w' ⟨rfl, hg⟩)
  go_ret
  exact ⟨rfl, hg⟩
set_option maxHeartbeats 400000 in
theorem onew_123 (x y L : Int) (w : World) (hL : 0 ≤ L ∧ L ≤ 256) (C : Calls Tryd.prog 41 #[.int .u64 x] w fun e w' => e = .returned (.int .i64 L) ∧ Grown w w') :
    Calls Tryd.prog 26 #[.int .i64 123, .int .u64 x, .int .u32 y] w fun e w' => e = .returned (.int .u64 L) ∧ Grown w w' := by
  have H := Lib.hid C
  clear C
  go_enter Tryd.func26, Tryd.ntmps26
  go_wp2_with (go_at_call 41; refine H.out.mono ?_; rintro e w' ⟨rfl, hg⟩)
  go_ret
  exact ⟨rfl, hg⟩
def isUn2 (op : Int) : Prop := isUn op ∨ op = 121 ∨ op = 122 ∨ op = 123
def unW (op x : Int) : Int :=
  if op = 121 then 64 - (Lib.bitLen x.toNat : Int) else if op = 122 then (Lib.ctz 64 x.toNat : Int) else if op = 123 then (Lib.popAux 64 x.toNat : Int) else unI op x
theorem ctz_le (x : Nat) (h : x < 18446744073709551616) : Lib.ctz 64 x ≤ 64 := by
  by_cases h0 : x = 0
  · subst h0; decide
  · obtain ⟨_, _, h2⟩ := CtM.ctz_spec 64 x (by omega) h; omega
def Tabs (w : World) : Prop := Tab w ∧ Tab64 w
theorem tabs_grown {w w' : World} (hg : Grown w w') (hT : Tabs w) : Tabs w' := ⟨tab_grown hg hT.1, tab64_grown hg hT.2⟩
set_option maxHeartbeats 400000 in
theorem arity_un2 (op : Int) (h : op = 121 ∨ op = 122 ∨ op = 123) (w : World) : Calls Tryd.prog 11 #[.int .i64 op] w fun e w' => e = .returned (.int .i64 1) ∧ w = w' := by
  rcases h with rfl | rfl | rfl
  all_goals
    go_enter Tryd.func11, Tryd.ntmps11
    go_wp2
    go_ret
    exact ⟨rfl, rfl⟩
theorem one_un2 (op x : Int) (h : op = 121 ∨ op = 122 ∨ op = 123) (hx : U64 x) (w : World) (hT : Tabs w) : Calls Tryd.prog 26 #[.int .i64 op, .int .u64 x, .int .u32 (y32 x)] w fun e w' => e = .returned (.int .u64 (unW op x)) ∧ Grown w w' := by
  obtain ⟨h0, h1⟩ := hx
  obtain ⟨n, rfl⟩ := Int.eq_ofNat_of_zero_le h0
  have hn : n < 18446744073709551616 := by omega
  rcases h with rfl | rfl | rfl
  · have e : unW 121 (n : Int) = 64 - (Lib.bitLen n : Int) := rfl
    rw [e]
    have bl := Lib.bitLen_le n 64 (by decide) hn
    have C := Tryd.bits_LeadingZeros64 (n : Int) w (by omega) (by omega)
    exact onew_121 _ _ _ w (by omega) (C.mono fun e w' h => ⟨h.1, h.2 ▸ Grown.refl _⟩)
  · have e : unW 122 (n : Int) = (Lib.ctz 64 n : Int) := rfl
    rw [e]
    have bl := ctz_le n hn
    exact onew_122 _ _ _ w (by omega) (tz64 n hn w hT.2)
  · have e : unW 123 (n : Int) = (Lib.popAux 64 n : Int) := rfl
    rw [e]
    have bl := CtM.pop_le 64 n
    exact onew_123 _ _ _ w (by omega) (oc64 n hn w)
theorem unW_of_isUn (op x : Int) (h : isUn op) : unW op x = unI op x := by
  unfold isUn at h
  unfold unW
  rw [if_neg (by omega), if_neg (by omega), if_neg (by omega)]
set_option maxHeartbeats 400000 in
theorem Un_two (op x : Int) (h : op = 121 ∨ op = 122 ∨ op = 123) (hx : U64 x) (w : World) (hT : Tabs w) : Calls Tryd.prog 18 #[.int .i64 op, .int .u64 x] w fun e w' => e = .returned (.tuple #[.int .u64 (unW op x), .int .i64 0]) ∧ Grown w w' := by
  have C := fun wx (hx' : Grown w wx) => one_un2 op x h hx wx (tabs_grown hx' hT)
  have A := arity_un2 op h
  have HC := Lib.hid C
  have HA := Lib.hid A
  clear C A hT h hx
  go_enter Tryd.func18, Tryd.ntmps18
  go_wp2_with fail
  refine (HA.out _).mono ?_
  rintro e w1 ⟨rfl, rfl⟩
  go_wp2_with fail
  refine (HC.out _ (Grown.refl _)).mono ?_
  rintro e w1 ⟨rfl, hg⟩
  go_wp2
  go_ret2
  exact ⟨ret_pair rfl rfl, hg⟩
theorem Un_all (op x : Int) (h : isUn2 op) (hx : U64 x) (w : World) (hT : Tabs w) : Calls Tryd.prog 18 #[.int .i64 op, .int .u64 x] w fun e w' => e = .returned (.tuple #[.int .u64 (unW op x), .int .i64 0]) ∧ Grown w w' := by
  rcases h with h | h
  · rw [unW_of_isUn op x h]; exact Un_yes op x h w hT.1
  · exact Un_two op x h hx w hT
/-! ### the 32-bit counts in plain words -/
theorem pop8_pop (b : Int) (h0 : 0 ≤ b) (h1 : b ≤ 255) : Lib.pop8 b = (Lib.popAux 8 b.toNat : Int) := by
  have e := Lib.pop8_eq ⟨b.toNat, by omega⟩
  simp only [Int.toNat_of_nonneg h0] at e
  rw [e]
  have : Lib.onesCount b.toNat = Lib.popAux 8 b.toNat := by
    show Lib.popAux 64 b.toNat = _
    have s := CtM.pop_split 8 56 b.toNat
    rw [show (8 + 56 : Nat) = 64 from rfl, Nat.mod_eq_of_lt (show b.toNat < 2 ^ 8 by omega), Nat.div_eq_of_lt (show b.toNat < 2 ^ 8 by omega)] at s
    rw [s, show Lib.popAux 56 0 = 0 from by decide +kernel, Nat.add_zero]
  rw [this]
theorem and255 (a : Nat) (ha : a < 4294967296) : bits .and .u32 (a : Int) 255 = ((a % 256 : Nat) : Int) := by
  have := bits_and_u32_nat a 255 ha (by decide)
  rw [show ((255 : Nat) : Int) = 255 from rfl, show a &&& 255 = a % 256 from Nat.and_two_pow_sub_one_eq_mod a 8] at this
  exact this
theorem oc32_pop (n : Nat) (hn : n < 4294967296) : oc32I (n : Int) = (Lib.popAux 32 n : Int) := by
  have e1 : bits .and .u32 ((n : Int) / 65536) 255 = ((n / 65536 % 256 : Nat) : Int) := and255 (n / 65536) (by omega)
  have e2 : bits .and .u32 ((n : Int) / 256) 255 = ((n / 256 % 256 : Nat) : Int) := and255 (n / 256) (by omega)
  have e3 : bits .and .u32 (n : Int) 255 = ((n % 256 : Nat) : Int) := and255 n hn
  have p := CtM.pop_le 8
  have s1 := CtM.pop_split 8 24 n
  have s2 := CtM.pop_split 8 16 (n / 2 ^ 8)
  have s3 := CtM.pop_split 8 8 (n / 2 ^ 8 / 2 ^ 8)
  unfold oc32I
  rw [e1, e2, e3, pop8_pop _ (by omega) (by omega), pop8_pop _ (by omega) (by omega), pop8_pop _ (by omega) (by omega), pop8_pop _ (by omega) (by omega)]
  rw [show ((n : Int) / 16777216).toNat = n / 2 ^ 8 / 2 ^ 8 / 2 ^ 8 by omega, show ((n / 65536 % 256 : Nat) : Int).toNat = n / 2 ^ 8 / 2 ^ 8 % 2 ^ 8 by omega, show ((n / 256 % 256 : Nat) : Int).toNat = n / 2 ^ 8 % 2 ^ 8 by omega, show ((n % 256 : Nat) : Int).toNat = n % 2 ^ 8 by omega]
  rw [show (8 + 24 : Nat) = 32 from rfl] at s1
  rw [show (8 + 16 : Nat) = 24 from rfl] at s2
  rw [show (8 + 8 : Nat) = 16 from rfl] at s3
  have p1 := p (n / 2 ^ 8 / 2 ^ 8 / 2 ^ 8)
  have p2 := p (n / 2 ^ 8 / 2 ^ 8 % 2 ^ 8)
  have p3 := p (n / 2 ^ 8 % 2 ^ 8)
  have p4 := p (n % 2 ^ 8)
  rw [s1, s2, s3]
  generalize Lib.popAux 8 (n / 2 ^ 8 / 2 ^ 8 / 2 ^ 8) = a1 at *
  generalize Lib.popAux 8 (n / 2 ^ 8 / 2 ^ 8 % 2 ^ 8) = a2 at *
  generalize Lib.popAux 8 (n / 2 ^ 8 % 2 ^ 8) = a3 at *
  generalize Lib.popAux 8 (n % 2 ^ 8) = a4 at *
  clear s1 s2 s3 e1 e2 e3 p hn
  omega
theorem tab32_eq : ∀ j : Fin 32, (tab32[j.val]?.getD 0 : Int) = ((Lib.deBruijn32tab.getD j.val 0 : Nat) : Int) := by decide
theorem tz32_ctz (n : Nat) (hn : n < 4294967296) : tz32I (n : Int) = (Lib.ctz 32 n : Int) := by
  by_cases h0 : n = 0
  · subst h0; rfl
  · obtain ⟨hlow, hk⟩ := Lib.lowest_bit 32 n h0 hn
    obtain ⟨hi, htab⟩ := Lib.deBruijn32_at _ hk
    have key : tzJ (n : Int) = _ := tz32_key n _ hn h0 hlow
    unfold tz32I
    rw [if_neg (by omega), key, Int.toNat_natCast]
    have := tab32_eq ⟨_, hi⟩
    simp only at this
    rw [this, htab]
theorem lz32_len (n : Nat) : lz32I (n : Int) = 32 - (Lib.bitLen n : Int) := rfl
end Un2
end Go.Proofs.YthdklnkaeddogacDoor
