/-
  Texts of this seat, joined: Oc. Each says what it proves.
-/
import Derived.Test.YtjoalcaooccbiaaMk2
import Derived.Test.YtjoalcaooccbiaaMk3
import Derived.Test.YtjoalcaooccbiaaMk5
/- Oc -/
namespace Go.Proofs.Ytjoalcaooccbiaa
open Go.RowKit
namespace Oc
theorem ret_i64 {a b : Int} (h : a = b) : Ending.returned (.int .i64 a) = .returned (.int .i64 b) := by rw [h]
theorem of_w64 (z : Int) : BitVec.ofInt 64 (wrap64 z) = BitVec.ofInt 64 z := by
 unfold wrap64
 apply BitVec.eq_of_toNat_eq
 rw [BitVec.toNat_ofInt, BitVec.toNat_ofInt]
 simp
theorem and_nat (a b : Nat) (ha : a < 18446744073709551616) (hb : b < 18446744073709551616) : bits .and .u64 (a : Int) (b : Int) = ((a &&& b : Nat) : Int) := bits_and_u64_nat a b ha hb
theorem wrap_nat (a : Nat) (h : a < 18446744073709551616) : IntKind.u64.wrap (a : Int) = a := by rw [IntKind.wrap_u64]; omega
theorem and127 (a : Nat) (ha : a < 18446744073709551616) : bits .and .i64 (wrap64 (a : Int)) 127 = ((a % 128 : Nat) : Int) := by
 show IntKind.i64.wrap ((BitVec.ofInt 64 (wrap64 (a : Int)) &&& BitVec.ofInt 64 127).toNat : Int) = _
 have h1 : (BitVec.ofInt 64 (a : Int)).toNat = a := by
  rw [BitVec.ofInt_natCast, BitVec.toNat_ofNat]; exact Nat.mod_eq_of_lt (by omega)
 rw [of_w64, BitVec.toNat_and, h1, show (BitVec.ofInt 64 127).toNat = 2 ^ 7 - 1 from rfl, Nat.and_two_pow_sub_one_eq_mod, IntKind.wrap_i64]
 omega
theorem q_and2 (a m : Nat) (d : Nat) (ha : a < 18446744073709551616) (hm : m < 9223372036854775808) :
  IntKind.u64.wrap (bits .and .u64 ((a : Int) / d) m + bits .and .u64 (a : Int) m) = (((a / d &&& m) + (a &&& m) : Nat) : Int) := by
 have l1 : a / d &&& m ≤ m := Nat.and_le_right
 have l2 : a &&& m ≤ m := Nat.and_le_right
 have l3 : a / d ≤ a := Nat.div_le_self _ _
 rw [← Int.natCast_ediv, and_nat _ _ (by omega) (by omega), and_nat _ _ ha (by omega), ← Int.natCast_add, wrap_nat _ (by omega)]
theorem q_add (a d : Nat) (h : a + a / d < 18446744073709551616) : IntKind.u64.wrap ((a : Int) + (a : Int) / d) = ((a + a / d : Nat) : Int) := by
 rw [← Int.natCast_ediv, ← Int.natCast_add, wrap_nat _ h]
theorem q_add' (a d : Nat) (h : a / d + a < 18446744073709551616) : IntKind.u64.wrap ((a : Int) / d + (a : Int)) = ((a / d + a : Nat) : Int) := by
 rw [← Int.natCast_ediv, ← Int.natCast_add, wrap_nat _ h]
set_option maxHeartbeats 1000000 in
theorem oc64 (x : Nat) (hx : x < 18446744073709551616) (w : World) :
  Calls Try.prog 38 #[.int .u64 x] w fun e w' => e = .returned (.int .i64 (Lib.popAux 64 x)) ∧ w = w' := by
 have HX := Lib.hid hx
 go_enter Try.func38, Try.ntmps38
 go_wp2
 go_ret
 refine ⟨ret_i64 ?_, rfl⟩
 have e1 : IntKind.u64.wrap (bits .and .u64 ((x : Int) / 2) 6148914691236517205 + bits .and .u64 (x : Int) 6148914691236517205) = _ := q_and2 x 6148914691236517205 2 HX.out (by decide)
 obtain ⟨y1, hy1⟩ : ∃ y, y = (x / 2 &&& 6148914691236517205) + (x &&& 6148914691236517205) := ⟨_, rfl⟩
 rw [← hy1] at e1
 have b1 : y1 < 18446744073709551616 := by
  have l1 : x / 2 &&& 6148914691236517205 ≤ 6148914691236517205 := Nat.and_le_right
  have l2 : x &&& 6148914691236517205 ≤ 6148914691236517205 := Nat.and_le_right
  omega
 have e2 : IntKind.u64.wrap (bits .and .u64 ((y1 : Int) / 4) 3689348814741910323 + bits .and .u64 (y1 : Int) 3689348814741910323) = _ := q_and2 y1 3689348814741910323 4 b1 (by decide)
 obtain ⟨y2, hy2⟩ : ∃ y, y = (y1 / 4 &&& 3689348814741910323) + (y1 &&& 3689348814741910323) := ⟨_, rfl⟩
 rw [← hy2] at e2
 have b2 : y2 ≤ 7378697629483820646 := by
  have l1 : y1 / 4 &&& 3689348814741910323 ≤ 3689348814741910323 := Nat.and_le_right
  have l2 : y1 &&& 3689348814741910323 ≤ 3689348814741910323 := Nat.and_le_right
  omega
 have e3 : IntKind.u64.wrap ((y2 : Int) / 16 + (y2 : Int)) = _ := q_add' y2 16 (by omega)
 have e3' : bits .and .u64 ((y2 / 16 + y2 : Nat) : Int) 1085102592571150095 = _ := and_nat (y2 / 16 + y2) 1085102592571150095 (by omega) (by decide)
 obtain ⟨y3, hy3⟩ : ∃ y, y = (y2 / 16 + y2) &&& 1085102592571150095 := ⟨_, rfl⟩
 rw [← hy3] at e3'
 obtain ⟨b4, b5, b6, hpop⟩ := PopM.ones64 x y1 y2 y3 _ _ _ hy1 hy2 hy3 rfl rfl rfl
 obtain ⟨y4, hy4⟩ : ∃ y, y = y3 + y3 / 256 := ⟨_, rfl⟩
 have e4 : IntKind.u64.wrap ((y3 : Int) + (y3 : Int) / 256) = _ := q_add y3 256 b4
 rw [← hy4] at e4 b4 b5 b6 hpop
 obtain ⟨y5, hy5⟩ : ∃ y, y = y4 + y4 / 65536 := ⟨_, rfl⟩
 have e5 : IntKind.u64.wrap ((y4 : Int) + (y4 : Int) / 65536) = _ := q_add y4 65536 b5
 rw [← hy5] at e5 b5 b6 hpop
 obtain ⟨y6, hy6⟩ : ∃ y, y = y5 + y5 / 4294967296 := ⟨_, rfl⟩
 have e6 : IntKind.u64.wrap ((y5 : Int) + (y5 : Int) / 4294967296) = _ := q_add y5 4294967296 b6
 rw [← hy6] at e6 b6 hpop
 rw [e1, e2, e3, e3', e4, e5, e6, and127 y6 b6, hpop]
end Oc
end Go.Proofs.Ytjoalcaooccbiaa
