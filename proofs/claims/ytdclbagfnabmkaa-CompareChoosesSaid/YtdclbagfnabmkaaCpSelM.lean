/-
  Plain mathematics of CompareChooses: the bits' instructions on bytes, the choice by a mask of lanes. Conditions: those of each theorem.
-/
import Derived.Test.YtdclbagfnabmkaaCpC
import Derived.Test.YtdclbagfnabmkaaArBM
namespace Go.Proofs.Ytdclbagfnabmkaa
open Go.RowKit VecM
namespace Cp
def bv (x : Int) : BitVec 8 := BitVec.ofInt 8 x
theorem bv_nat (v : BitVec 8) : bv (v.toNat : Int) = v := by
  unfold bv
  rw [BitVec.ofInt_natCast]
  simp
theorem bv_byte {x : Int} (h : 0 ≤ x ∧ x ≤ 255) : ((bv x).toNat : Int) = x := by
  unfold bv
  rw [BitVec.toNat_ofInt]
  omega
theorem w8 (v : BitVec 8) : IntKind.u8.wrap (v.toNat : Int) = v.toNat := by
  have := v.isLt
  rw [IntKind.wrap_u8]
  omega
theorem b_and (x y : Int) : bits .and .u8 x y = ((bv x &&& bv y).toNat : Int) := w8 _
theorem b_or (x y : Int) : bits .or .u8 x y = ((bv x ||| bv y).toNat : Int) := w8 _
theorem b_xor (x y : Int) : bits .xor .u8 x y = ((bv x ^^^ bv y).toNat : Int) := w8 _
theorem b_an (x y : Int) : bits .andNot .u8 x y = ((bv x &&& ~~~ bv y).toNat : Int) := w8 _
theorem v_1 (A B C : BitVec 8) : (A &&& C ||| B &&& ~~~C) ^^^ (B &&& C ||| A &&& ~~~C) = A ^^^ B := by
  apply BitVec.eq_of_getLsbD_eq
  intro i hi
  simp only [BitVec.getLsbD_xor, BitVec.getLsbD_or, BitVec.getLsbD_and, BitVec.getLsbD_not, hi, decide_true, Bool.true_and]
  cases A.getLsbD i <;> cases B.getLsbD i <;> cases C.getLsbD i <;> rfl
theorem v_2 (A B C : BitVec 8) : (A &&& C ||| B &&& ~~~C) &&& C = A &&& C := by
  apply BitVec.eq_of_getLsbD_eq
  intro i hi
  simp only [BitVec.getLsbD_or, BitVec.getLsbD_and, BitVec.getLsbD_not, hi, decide_true, Bool.true_and]
  cases A.getLsbD i <;> cases B.getLsbD i <;> cases C.getLsbD i <;> rfl
theorem v_3 (A B C : BitVec 8) : (A &&& C ||| B &&& ~~~C) &&& ~~~C = B &&& ~~~C := by
  apply BitVec.eq_of_getLsbD_eq
  intro i hi
  simp only [BitVec.getLsbD_or, BitVec.getLsbD_and, BitVec.getLsbD_not, hi, decide_true, Bool.true_and]
  cases A.getLsbD i <;> cases B.getLsbD i <;> cases C.getLsbD i <;> rfl
theorem v_4 (A B : BitVec 8) : A ^^^ B ^^^ B = A := by
  apply BitVec.eq_of_getLsbD_eq
  intro i hi
  simp only [BitVec.getLsbD_xor]
  cases A.getLsbD i <;> cases B.getLsbD i <;> rfl
theorem v_5 (A B : BitVec 8) : A &&& B ||| A &&& ~~~B = A := by
  apply BitVec.eq_of_getLsbD_eq
  intro i hi
  simp only [BitVec.getLsbD_or, BitVec.getLsbD_and, BitVec.getLsbD_not, hi, decide_true, Bool.true_and]
  cases A.getLsbD i <;> cases B.getLsbD i <;> rfl
theorem bw_and (a b : Nat → Int) (m : Nat) : bw 64846 a b m = ((bv (a m) &&& bv (b m)).toNat : Int) := b_and _ _
theorem bw_an (a b : Nat → Int) (m : Nat) : bw 64847 a b m = ((bv (a m) &&& ~~~ bv (b m)).toNat : Int) := b_an _ _
theorem bw_or (a b : Nat → Int) (m : Nat) : bw 64848 a b m = ((bv (a m) ||| bv (b m)).toNat : Int) := b_or _ _
theorem bw_xor (a b : Nat → Int) (m : Nat) : bw 64849 a b m = ((bv (a m) ^^^ bv (b m)).toNat : Int) := b_xor _ _
theorem sl_bv (a b c : Nat → Int) (m : Nat) : sl a b c m = ((bv (a m) &&& bv (c m) ||| bv (b m) &&& ~~~ bv (c m)).toNat : Int) := by
  unfold sl
  rw [b_or, b_and, b_an, bv_nat, bv_nat]
theorem sl_byt (a b c : Nat → Int) : Byt (sl a b c) := fun m => by
  rw [sl_bv]
  have := (bv (a m) &&& bv (c m) ||| bv (b m) &&& ~~~ bv (c m)).isLt
  omega
structure SelF (a b c : Nat → Int) : Prop where
  g1 : bs (bw 64849 (sl a b c) (sl b a c)) = bs (bw 64849 a b)
  g2 : bs (bw 64846 (sl a b c) c) = bs (bw 64846 a c)
  g3 : bs (bw 64847 (sl a b c) c) = bs (bw 64847 b c)
  g4 : bs (bw 64849 (bw 64849 a b) b) = bs a
  g5 : bs (bw 64848 (bw 64846 a b) (bw 64847 a b)) = bs a
theorem selF {a b c : Nat → Int} (ha : Byt a) : SelF a b c where
  g1 := bs_congr fun m _ => by rw [bw_xor, bw_xor, sl_bv, sl_bv, bv_nat, bv_nat, v_1]
  g2 := bs_congr fun m _ => by rw [bw_and, bw_and, sl_bv, bv_nat, v_2]
  g3 := bs_congr fun m _ => by rw [bw_an, bw_an, sl_bv, bv_nat, v_3]
  g4 := bs_congr fun m _ => by rw [bw_xor, bw_xor, bv_nat, v_4, bv_byte (ha m)]
  g5 := bs_congr fun m _ => by rw [bw_or, bw_and, bw_an, bv_nat, bv_nat, v_5, bv_byte (ha m)]
theorem sl_one {a b : Nat → Int} (ha : Byt a) (hb : Byt b) {c : Nat → Int} {m : Nat} {p : Bool} (h : c m = if p = true then 255 else 0) : sl a b c m = if p = true then a m else b m := by
  rw [sl_bv, h]
  cases p
  · simp only [Bool.false_eq_true, if_false]
    rw [show bv 0 = 0#8 from rfl]
    have : bv (a m) &&& 0#8 ||| bv (b m) &&& ~~~0#8 = bv (b m) := by
      rw [show (~~~0#8 : BitVec 8) = BitVec.allOnes 8 from rfl]
      simp only [BitVec.and_zero, BitVec.zero_or, BitVec.and_allOnes]
    rw [this, bv_byte (hb m)]
  · simp only [if_true]
    rw [show bv 255 = 255#8 from rfl]
    have : bv (a m) &&& 255#8 ||| bv (b m) &&& ~~~255#8 = bv (a m) := by
      rw [show (~~~255#8 : BitVec 8) = 0#8 from rfl, show (255#8 : BitVec 8) = BitVec.allOnes 8 from rfl]
      simp only [BitVec.and_zero, BitVec.or_zero, BitVec.and_allOnes]
    rw [this, bv_byte (ha m)]
section
variable {v : Int} (hv : v = 8 ∨ v = 16 ∨ v = 32 ∨ v = 64) {a b : Nat → Int} (ha : Byt a) (hb : Byt b)
include hv ha hb
theorem get_sl (p : Nat → Bool) {j : Nat} (hj : thereB v j = true) : getI (sl a b (mB v p)) v j = if p j = true then getI a v j else getI b v j := by
  have hf := there_fit hj
  rw [Int.toNat_natCast] at hf
  have hc : ∀ m, j * wid v ≤ m → m < j * wid v + wid v → sl a b (mB v p) m = (if p j = true then a else b) m := fun m h0 h1 => by
    have hq : m / wid v = j := by
      rw [Nat.div_eq_iff (by omega)]
      rw [Nat.mul_comm] at h0 h1
      constructor
      · rw [Nat.mul_comm]; omega
      · rw [Nat.mul_comm]; omega
    rw [sl_one ha hb (mB_byte hv p (by omega)), hq]
    split <;> rfl
  unfold getI
  rw [if_pos hj, if_pos hj, if_pos hj, Int.toNat_natCast, sum_congr hc]
  split <;> rfl
theorem sel_22 (h32 : v ≤ 32) : bs (sl a b (C v 2 a b)) = bs (Ar.B v 22 a b) :=
  Ar.bs_ext (sl_byt _ _ _) (Ar.B_byt _ _ _ _) hv fun j hj => by
    unfold C
    rw [get_sl hv ha hb _ hj, Ar.l22 hv h32 hj ha hb]
    have he := lane_eq hv ha hb hj
    simp only [stB, Int.reduceEq, if_false, if_true, decide_eq_true_eq]
    by_cases h1 : sgnI a v j < sgnI b v j
    · rw [if_pos h1, if_pos (by omega)]
    · rw [if_neg h1]
      by_cases h2 : sgnI a v j = sgnI b v j
      · rw [if_pos (by omega), he.2 h2]
      · rw [if_neg (by omega)]
theorem sel_23 (h32 : v ≤ 32) : bs (sl a b (C v 3 a b)) = bs (Ar.B v 23 a b) :=
  Ar.bs_ext (sl_byt _ _ _) (Ar.B_byt _ _ _ _) hv fun j hj => by
    unfold C
    rw [get_sl hv ha hb _ hj, Ar.l23 hv h32 hj ha hb]
    simp only [stB, Int.reduceEq, if_false, if_true, decide_eq_true_eq]
    by_cases h1 : getI a v j < getI b v j
    · rw [if_pos h1, if_pos (by omega)]
    · rw [if_neg h1]
      by_cases h2 : getI a v j = getI b v j
      · rw [if_pos (by omega), h2]
      · rw [if_neg (by omega)]
end
theorem bin_B (v o op : Int) (ho : op = Ar.baI v + o) (hok : Ar.biOk op = true) {a b : Nat → Int} (ha : Byt a) (hb : Byt b) (w : World) :
    Calls Try.prog 23 #[.int .i64 op, .agg (bs a), .agg (bs b)] w fun e w' => e = .returned (.tuple #[.agg (bs (Ar.B v o a b)), .int .i64 0]) ∧ Gr w w' := by
  have h := Ar.bin_any op a b ha hb w
  rw [if_pos hok, ho] at h
  rw [ho]
  exact h
end Cp
end Go.Proofs.Ytdclbagfnabmkaa
