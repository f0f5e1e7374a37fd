/-
  Plain mathematics for NumOrders.
-/
import Derived.Test.YthdklnkaeddogacDoorAwake
namespace Go.Proofs.YthdklnkaeddogacDoor
open Go.RowKit
namespace NumM
theorem cI32 (k x y : Int) (h0 : 0 ≤ k) (h9 : k < 10) : bI (70 + k) x y = tI (cmp k (lo (BitVec.ofInt 64 x)) (lo (BitVec.ofInt 64 y))) := by
  have e : binE (70 + k) (BitVec.ofInt 64 x) (BitVec.ofInt 64 y) = 0 := by unfold binE; rw [if_pos (by omega)]
  unfold bI bin
  rw [if_neg (by rw [e]; decide), if_pos (by omega), show 70 + k - 70 = k by omega, tI_tr]
theorem cI64 (k x y : Int) (h0 : 0 ≤ k) (h9 : k < 10) : bI (81 + k) x y = tI (cmp k (BitVec.ofInt 64 x) (BitVec.ofInt 64 y)) := by
  have e : binE (81 + k) (BitVec.ofInt 64 x) (BitVec.ofInt 64 y) = 0 := by unfold binE; rw [if_neg (by omega), if_pos (by omega)]
  unfold bI bin
  rw [if_neg (by rw [e]; decide), if_neg (by omega), if_pos (by omega), show 81 + k - 81 = k by omega, tI_tr]
theorem tI_not (b : Bool) : tI (!b) = IntKind.u64.wrap (1 - tI b) := by cases b <;> decide
theorem slt_eq {n : Nat} (A B : BitVec n) : A.slt B = decide (A.toInt < B.toInt) := rfl
theorem sle_eq {n : Nat} (A B : BitVec n) : A.sle B = decide (A.toInt ≤ B.toInt) := rfl
theorem ult_eq {n : Nat} (A B : BitVec n) : A.ult B = decide (A.toNat < B.toNat) := rfl
theorem ule_eq {n : Nat} (A B : BitVec n) : A.ule B = decide (A.toNat ≤ B.toNat) := rfl
theorem beq_toInt {n : Nat} (A B : BitVec n) : (A == B) = decide (A.toInt = B.toInt) := by
  rw [Bool.eq_iff_iff]; simp [BitVec.toInt_inj]
theorem beq_toNat {n : Nat} (A B : BitVec n) : (A == B) = decide (A.toNat = B.toNat) := by
  rw [Bool.eq_iff_iff]; simp [BitVec.toNat_inj]
theorem tri (a b : Int) : IntKind.u64.wrap (IntKind.u64.wrap (tI (decide (a < b)) + tI (decide (a = b))) + tI (decide (b < a))) = 1 := by
  rcases Int.lt_trichotomy a b with h | h | h
  · rw [decide_eq_true h, decide_eq_false (show ¬ a = b by omega), decide_eq_false (show ¬ b < a by omega)]; decide
  · rw [decide_eq_false (show ¬ a < b by omega), decide_eq_true h, decide_eq_false (show ¬ b < a by omega)]; decide
  · rw [decide_eq_false (show ¬ a < b by omega), decide_eq_false (show ¬ a = b by omega), decide_eq_true h]; decide
section
variable {n : Nat} (A B : BitVec n)
theorem o1 : cmp 1 A B = !cmp 0 A B := rfl
theorem o2s : IntKind.u64.wrap (IntKind.u64.wrap (tI (cmp 2 A B) + tI (cmp 0 A B)) + tI (cmp 4 A B)) = 1 := by
  show IntKind.u64.wrap (IntKind.u64.wrap (tI (A.slt B) + tI (A == B)) + tI (B.slt A)) = 1
  rw [slt_eq, slt_eq, beq_toInt]; exact tri _ _
theorem o2u : IntKind.u64.wrap (IntKind.u64.wrap (tI (cmp 3 A B) + tI (cmp 0 A B)) + tI (cmp 5 A B)) = 1 := by
  show IntKind.u64.wrap (IntKind.u64.wrap (tI (A.ult B) + tI (A == B)) + tI (B.ult A)) = 1
  rw [ult_eq, ult_eq, beq_toNat]
  have := tri (A.toNat : Int) (B.toNat : Int)
  simpa only [Int.ofNat_lt, Int.ofNat_inj] using this
theorem o6 : cmp 6 A B = !cmp 4 A B := by
  show A.sle B = !(B.slt A)
  rw [sle_eq, slt_eq, Bool.eq_iff_iff]; simp
theorem o7 : cmp 7 A B = !cmp 5 A B := by
  show A.ule B = !(B.ult A)
  rw [ule_eq, ult_eq, Bool.eq_iff_iff]; simp
theorem o8 : cmp 8 A B = !cmp 2 A B := by
  show B.sle A = !(A.slt B)
  rw [sle_eq, slt_eq, Bool.eq_iff_iff]; simp
theorem o9 : cmp 9 A B = !cmp 3 A B := by
  show B.ule A = !(A.ult B)
  rw [ule_eq, ult_eq, Bool.eq_iff_iff]; simp
theorem o4 : cmp 2 B A = cmp 4 A B := rfl
theorem o5 : cmp 3 B A = cmp 5 A B := rfl
end
theorem xor_top {n : Nat} (hn : 0 < n) (A : BitVec n) : (A ^^^ BitVec.ofNat n (2 ^ (n - 1))).toNat = (A.toNat + 2 ^ (n - 1)) % 2 ^ n := by
  have hp : (2 : Nat) ^ n = 2 * 2 ^ (n - 1) := by rw [← Nat.pow_succ']; congr 1; omega
  have h1 := nat_xor_add A.toNat (2 ^ (n - 1))
  have h2 : A.toNat &&& 2 ^ (n - 1) = A.toNat / 2 ^ (n - 1) % 2 * 2 ^ (n - 1) := nat_bit _ _
  have h3 : A.toNat ^^^ 2 ^ (n - 1) < 2 ^ n := Nat.xor_lt_two_pow A.isLt (by have := Nat.two_pow_pos (n - 1); omega)
  rw [BitVec.toNat_xor, BitVec.toNat_ofNat, Nat.mod_eq_of_lt (show 2 ^ (n - 1) < 2 ^ n by have := Nat.two_pow_pos (n - 1); omega)]
  rw [h2] at h1
  rcases Nat.mod_two_eq_zero_or_one (A.toNat / 2 ^ (n - 1)) with hb | hb
  · rw [hb] at h1; simp at h1
    rw [← h1, Nat.mod_eq_of_lt h3]
  · rw [hb, Nat.one_mul] at h1
    rw [← h1, hp, Nat.add_mod_right, ← hp, Nat.mod_eq_of_lt h3]
theorem slt_ult32 (A B : BitVec 32) : A.slt B = (A ^^^ 2147483648#32).ult (B ^^^ 2147483648#32) := by
  have ha := xor_top (by decide) A
  have hb := xor_top (by decide) B
  rw [slt_eq, ult_eq, show (2147483648#32) = BitVec.ofNat 32 (2 ^ (32 - 1)) from rfl, ha, hb, BitVec.toInt_eq_toNat_cond, BitVec.toInt_eq_toNat_cond, Bool.eq_iff_iff]
  have := A.isLt
  have := B.isLt
  simp only [decide_eq_true_eq]
  split <;> split <;> omega
theorem slt_ult64 (A B : BitVec 64) : A.slt B = (A ^^^ 9223372036854775808#64).ult (B ^^^ 9223372036854775808#64) := by
  have ha := xor_top (by decide) A
  have hb := xor_top (by decide) B
  rw [slt_eq, ult_eq, show (9223372036854775808#64) = BitVec.ofNat 64 (2 ^ (64 - 1)) from rfl, ha, hb, BitVec.toInt_eq_toNat_cond, BitVec.toInt_eq_toNat_cond, Bool.eq_iff_iff]
  have := A.isLt
  have := B.isLt
  simp only [decide_eq_true_eq]
  split <;> split <;> omega
theorem xor_zero_iff {n : Nat} (A B : BitVec n) : (A ^^^ B = 0#n) ↔ A = B := by
  constructor
  · intro h
    have : A ^^^ B ^^^ B = 0#n ^^^ B := by rw [h]
    rwa [BitVec.xor_assoc, BitVec.xor_self, BitVec.xor_zero, BitVec.zero_xor] at this
  · rintro rfl; exact BitVec.xor_self
/-! ### as the walk asks -/
def top (w : Int) : Int := if w = 0 then 2147483648 else 9223372036854775808
theorem U64_xor (x y : Int) : U64 (bits .xor .u64 x y) := U64_wrap ((BitVec.ofInt 64 x ^^^ BitVec.ofInt 64 y).toNat : Int)
section
variable (x y : Int)
theorem p1 : (bI 71 x y != IntKind.u64.wrap (1 - bI 70 x y)) = false := ne_false (by
  rw [show (71 : Int) = 70 + 1 from rfl, show bI 70 x y = bI (70 + 0) x y from rfl, cI32 1 x y (by decide) (by decide), cI32 0 x y (by decide) (by decide), o1, tI_not])
theorem p2 : (IntKind.u64.wrap (IntKind.u64.wrap (bI 72 x y + bI 70 x y) + bI 74 x y) != 1) = false := ne_false (by
  rw [show (72 : Int) = 70 + 2 from rfl, show bI 70 x y = bI (70 + 0) x y from rfl, show (74 : Int) = 70 + 4 from rfl, cI32 2 x y (by decide) (by decide), cI32 0 x y (by decide) (by decide), cI32 4 x y (by decide) (by decide), o2s])
theorem p3 : (IntKind.u64.wrap (IntKind.u64.wrap (bI 73 x y + bI 70 x y) + bI 75 x y) != 1) = false := ne_false (by
  rw [show (73 : Int) = 70 + 3 from rfl, show bI 70 x y = bI (70 + 0) x y from rfl, show (75 : Int) = 70 + 5 from rfl, cI32 3 x y (by decide) (by decide), cI32 0 x y (by decide) (by decide), cI32 5 x y (by decide) (by decide), o2u])
theorem p4 : (bI 76 x y != IntKind.u64.wrap (1 - bI 74 x y)) = false := ne_false (by
  rw [show (76 : Int) = 70 + 6 from rfl, show (74 : Int) = 70 + 4 from rfl, cI32 6 x y (by decide) (by decide), cI32 4 x y (by decide) (by decide), o6, tI_not])
theorem p5 : (bI 77 x y != IntKind.u64.wrap (1 - bI 75 x y)) = false := ne_false (by
  rw [show (77 : Int) = 70 + 7 from rfl, show (75 : Int) = 70 + 5 from rfl, cI32 7 x y (by decide) (by decide), cI32 5 x y (by decide) (by decide), o7, tI_not])
theorem p6 : (bI 78 x y != IntKind.u64.wrap (1 - bI 72 x y)) = false := ne_false (by
  rw [show (78 : Int) = 70 + 8 from rfl, show (72 : Int) = 70 + 2 from rfl, cI32 8 x y (by decide) (by decide), cI32 2 x y (by decide) (by decide), o8, tI_not])
theorem p7 : (bI 79 x y != IntKind.u64.wrap (1 - bI 73 x y)) = false := ne_false (by
  rw [show (79 : Int) = 70 + 9 from rfl, show (73 : Int) = 70 + 3 from rfl, cI32 9 x y (by decide) (by decide), cI32 3 x y (by decide) (by decide), o9, tI_not])
theorem p8 : (bI 72 y x != bI 74 x y) = false := ne_false (by
  rw [show (72 : Int) = 70 + 2 from rfl, show (74 : Int) = 70 + 4 from rfl, cI32 2 y x (by decide) (by decide), cI32 4 x y (by decide) (by decide), o4])
theorem p9 : (bI 73 y x != bI 75 x y) = false := ne_false (by
  rw [show (73 : Int) = 70 + 3 from rfl, show (75 : Int) = 70 + 5 from rfl, cI32 3 y x (by decide) (by decide), cI32 5 x y (by decide) (by decide), o5])
theorem p10 : (bI 72 x y != bI 73 (bits .xor .u64 x 2147483648) (bits .xor .u64 y 2147483648)) = false := ne_false (by
  rw [show (72 : Int) = 70 + 2 from rfl, show (73 : Int) = 70 + 3 from rfl, cI32 2 x y (by decide) (by decide), cI32 3 _ _ (by decide) (by decide)]
  show tI ((lo (BitVec.ofInt 64 x)).slt (lo (BitVec.ofInt 64 y))) = tI ((lo (BitVec.ofInt 64 (bits .xor .u64 x 2147483648))).ult (lo (BitVec.ofInt 64 (bits .xor .u64 y 2147483648))))
  rw [of_xor (Or.inr rfl), of_xor (Or.inr rfl), slt_ult32]
  unfold lo
  rw [BitVec.setWidth_xor, BitVec.setWidth_xor]; rfl)
theorem p11 : (bI 70 x x != 1) = false := ne_false (by
  rw [show (70 : Int) = 70 + 0 from rfl, cI32 0 x x (by decide) (by decide)]
  show tI (lo (BitVec.ofInt 64 x) == lo (BitVec.ofInt 64 x)) = 1
  rw [beq_self_eq_true]; rfl)
theorem p12 : (tI (bI 115 x y % 4294967296 == 0) != bI 70 x y) = false := ne_false (by
  have h := v9 view32 x y
  rw [show view32.base + 9 = 115 from rfl] at h
  rw [h, show (70 : Int) = 70 + 0 from rfl, cI32 0 x y (by decide) (by decide)]
  show tI ((((lo (BitVec.ofInt 64 x) ^^^ lo (BitVec.ofInt 64 y)).setWidth 64).toNat : Int) % 4294967296 == 0) = tI (lo (BitVec.ofInt 64 x) == lo (BitVec.ofInt 64 y))
  generalize lo (BitVec.ofInt 64 x) = A
  generalize lo (BitVec.ofInt 64 y) = B
  congr 1
  rw [Bool.eq_iff_iff, beq_iff_eq, beq_iff_eq, ← xor_zero_iff, BitVec.toNat_setWidth]
  have := (A ^^^ B).isLt
  constructor
  · intro h0; apply BitVec.eq_of_toNat_eq; simp at *; omega
  · intro h0; rw [h0]; simp)
/- the same at 64 bits -/
theorem q1 : (bI 82 x y != IntKind.u64.wrap (1 - bI 81 x y)) = false := ne_false (by
  rw [show (82 : Int) = 81 + 1 from rfl, show bI 81 x y = bI (81 + 0) x y from rfl, cI64 1 x y (by decide) (by decide), cI64 0 x y (by decide) (by decide), o1, tI_not])
theorem q2 : (IntKind.u64.wrap (IntKind.u64.wrap (bI 83 x y + bI 81 x y) + bI 85 x y) != 1) = false := ne_false (by
  rw [show (83 : Int) = 81 + 2 from rfl, show bI 81 x y = bI (81 + 0) x y from rfl, show (85 : Int) = 81 + 4 from rfl, cI64 2 x y (by decide) (by decide), cI64 0 x y (by decide) (by decide), cI64 4 x y (by decide) (by decide), o2s])
theorem q3 : (IntKind.u64.wrap (IntKind.u64.wrap (bI 84 x y + bI 81 x y) + bI 86 x y) != 1) = false := ne_false (by
  rw [show (84 : Int) = 81 + 3 from rfl, show bI 81 x y = bI (81 + 0) x y from rfl, show (86 : Int) = 81 + 5 from rfl, cI64 3 x y (by decide) (by decide), cI64 0 x y (by decide) (by decide), cI64 5 x y (by decide) (by decide), o2u])
theorem q4 : (bI 87 x y != IntKind.u64.wrap (1 - bI 85 x y)) = false := ne_false (by
  rw [show (87 : Int) = 81 + 6 from rfl, show (85 : Int) = 81 + 4 from rfl, cI64 6 x y (by decide) (by decide), cI64 4 x y (by decide) (by decide), o6, tI_not])
theorem q5 : (bI 88 x y != IntKind.u64.wrap (1 - bI 86 x y)) = false := ne_false (by
  rw [show (88 : Int) = 81 + 7 from rfl, show (86 : Int) = 81 + 5 from rfl, cI64 7 x y (by decide) (by decide), cI64 5 x y (by decide) (by decide), o7, tI_not])
theorem q6 : (bI 89 x y != IntKind.u64.wrap (1 - bI 83 x y)) = false := ne_false (by
  rw [show (89 : Int) = 81 + 8 from rfl, show (83 : Int) = 81 + 2 from rfl, cI64 8 x y (by decide) (by decide), cI64 2 x y (by decide) (by decide), o8, tI_not])
theorem q7 : (bI 90 x y != IntKind.u64.wrap (1 - bI 84 x y)) = false := ne_false (by
  rw [show (90 : Int) = 81 + 9 from rfl, show (84 : Int) = 81 + 3 from rfl, cI64 9 x y (by decide) (by decide), cI64 3 x y (by decide) (by decide), o9, tI_not])
theorem q8 : (bI 83 y x != bI 85 x y) = false := ne_false (by
  rw [show (83 : Int) = 81 + 2 from rfl, show (85 : Int) = 81 + 4 from rfl, cI64 2 y x (by decide) (by decide), cI64 4 x y (by decide) (by decide), o4])
theorem q9 : (bI 84 y x != bI 86 x y) = false := ne_false (by
  rw [show (84 : Int) = 81 + 3 from rfl, show (86 : Int) = 81 + 5 from rfl, cI64 3 y x (by decide) (by decide), cI64 5 x y (by decide) (by decide), o5])
theorem q10 : (bI 83 x y != bI 84 (bits .xor .u64 x 9223372036854775808) (bits .xor .u64 y 9223372036854775808)) = false := ne_false (by
  rw [show (83 : Int) = 81 + 2 from rfl, show (84 : Int) = 81 + 3 from rfl, cI64 2 x y (by decide) (by decide), cI64 3 _ _ (by decide) (by decide)]
  show tI ((BitVec.ofInt 64 x).slt (BitVec.ofInt 64 y)) = tI ((BitVec.ofInt 64 (bits .xor .u64 x 9223372036854775808)).ult (BitVec.ofInt 64 (bits .xor .u64 y 9223372036854775808)))
  rw [of_xor (Or.inr rfl), of_xor (Or.inr rfl), slt_ult64]; rfl)
theorem q11 : (bI 81 x x != 1) = false := ne_false (by
  rw [show (81 : Int) = 81 + 0 from rfl, cI64 0 x x (by decide) (by decide)]
  show tI (BitVec.ofInt 64 x == BitVec.ofInt 64 x) = 1
  rw [beq_self_eq_true]; rfl)
theorem q12 : (tI (bI 133 x y == 0) != bI 81 x y) = false := ne_false (by
  have h := v9 view64 x y
  rw [show view64.base + 9 = 133 from rfl] at h
  rw [h, show (81 : Int) = 81 + 0 from rfl, cI64 0 x y (by decide) (by decide)]
  show tI (((BitVec.ofInt 64 x ^^^ BitVec.ofInt 64 y).toNat : Int) == 0) = tI (BitVec.ofInt 64 x == BitVec.ofInt 64 y)
  generalize BitVec.ofInt 64 x = A
  generalize BitVec.ofInt 64 y = B
  congr 1
  rw [Bool.eq_iff_iff, beq_iff_eq, beq_iff_eq, ← xor_zero_iff]
  constructor
  · intro h0; apply BitVec.eq_of_toNat_eq; simp at *; omega
  · intro h0; rw [h0]; simp)
end
end NumM
end Go.Proofs.YthdklnkaeddogacDoor
