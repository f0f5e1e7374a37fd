/-
  Plain mathematics of layer 6's Bits, bit by bit. Conditions: bytes.
-/
import Derived.Test.YtdclbagfnabmkaaEvL
namespace Go.Proofs.Ytdclbagfnabmkaa
open Go.RowKit VecM Ev
namespace Cp
/-- a byte's bit -/
def bitI (x : Int) (r : Nat) : Bool := decide (x / 2 ^ r % 2 = 1)
theorem bitI_nat (n r : Nat) : bitI (n : Int) r = n.testBit r := by
  unfold bitI
  rw [Nat.testBit_eq_decide_div_mod_eq]
  refine decide_eq_decide.2 ?_
  have e : ((n : Int) / 2 ^ r) = ((n / 2 ^ r : Nat) : Int) := by rw [Int.natCast_ediv, Int.natCast_pow]; rfl
  rw [e]
  omega
theorem byte_nat {x : Int} (h : 0 ≤ x ∧ x ≤ 255) : ∃ n : Nat, x = n ∧ n < 256 := ⟨x.toNat, by omega, by omega⟩
theorem ofInt8 {n : Nat} (h : n < 256) : (BitVec.ofInt 8 (n : Int)).toNat = n := by
  rw [BitVec.ofInt_natCast, BitVec.toNat_ofNat]
  exact Nat.mod_eq_of_lt (by omega)
theorem bits_toNat (op : BinOp) (x y : Int) (v : BitVec 8) (h : bits op .u8 x y = IntKind.u8.wrap (v.toNat : Int)) : bits op .u8 x y = (v.toNat : Nat) := by
  rw [h]
  have := v.isLt
  exact IntWalk.u8_in _ (by omega)
theorem bit_vec (v : BitVec 8) (r : Nat) : bitI ((v.toNat : Nat) : Int) r = v.getLsbD r := by rw [bitI_nat]; rfl
theorem lsb_of {n : Nat} (h : n < 256) (r : Nat) : (BitVec.ofInt 8 (n : Int)).getLsbD r = bitI (n : Int) r := by
  rw [bitI_nat]
  show (BitVec.ofInt 8 (n : Int)).toNat.testBit r = _
  rw [ofInt8 h]
theorem bit_and {x y : Int} (hx : 0 ≤ x ∧ x ≤ 255) (hy : 0 ≤ y ∧ y ≤ 255) (r : Nat) : bitI (bits .and .u8 x y) r = (bitI x r && bitI y r) := by
  obtain ⟨a, rfl, ha⟩ := byte_nat hx
  obtain ⟨b, rfl, hb⟩ := byte_nat hy
  rw [bits_toNat .and _ _ (BitVec.ofInt 8 (a : Int) &&& BitVec.ofInt 8 (b : Int)) rfl, bit_vec, BitVec.getLsbD_and, lsb_of ha, lsb_of hb]
theorem bit_or {x y : Int} (hx : 0 ≤ x ∧ x ≤ 255) (hy : 0 ≤ y ∧ y ≤ 255) (r : Nat) : bitI (bits .or .u8 x y) r = (bitI x r || bitI y r) := by
  obtain ⟨a, rfl, ha⟩ := byte_nat hx
  obtain ⟨b, rfl, hb⟩ := byte_nat hy
  rw [bits_toNat .or _ _ (BitVec.ofInt 8 (a : Int) ||| BitVec.ofInt 8 (b : Int)) rfl, bit_vec, BitVec.getLsbD_or, lsb_of ha, lsb_of hb]
theorem bit_xor {x y : Int} (hx : 0 ≤ x ∧ x ≤ 255) (hy : 0 ≤ y ∧ y ≤ 255) (r : Nat) : bitI (bits .xor .u8 x y) r = (bitI x r != bitI y r) := by
  obtain ⟨a, rfl, ha⟩ := byte_nat hx
  obtain ⟨b, rfl, hb⟩ := byte_nat hy
  rw [bits_toNat .xor _ _ (BitVec.ofInt 8 (a : Int) ^^^ BitVec.ofInt 8 (b : Int)) rfl, bit_vec, BitVec.getLsbD_xor, lsb_of ha, lsb_of hb]
theorem bit_andNot {x y : Int} (hx : 0 ≤ x ∧ x ≤ 255) (hy : 0 ≤ y ∧ y ≤ 255) (r : Nat) (hr : r < 8) : bitI (bits .andNot .u8 x y) r = (bitI x r && !bitI y r) := by
  obtain ⟨a, rfl, ha⟩ := byte_nat hx
  obtain ⟨b, rfl, hb⟩ := byte_nat hy
  rw [bits_toNat .andNot _ _ (BitVec.ofInt 8 (a : Int) &&& ~~~BitVec.ofInt 8 (b : Int)) rfl, bit_vec, BitVec.getLsbD_and, BitVec.getLsbD_not, lsb_of ha, lsb_of hb]
  simp [hr]
theorem bits_bd (op : BinOp) (x y : Int) : 0 ≤ bits op .u8 x y ∧ bits op .u8 x y ≤ 255 := by
  unfold bits
  rw [IntKind.wrap_u8]
  omega
theorem bit_not {x : Int} (hx : 0 ≤ x ∧ x ≤ 255) (r : Nat) (hr : r < 8) : bitI (bits .xor .u8 255 x) r = !bitI x r := by
  rw [bit_xor (by omega) hx]
  have h : bitI 255 r = true := by
    have : ∀ r : Fin 8, bitI 255 r.val = true := by decide
    exact this ⟨r, hr⟩
  rw [h]
  cases bitI x r <;> rfl
/-! ### a vector, made bit by bit -/
def oK (F : Nat → Int) (i : Nat) (m : Nat) : Int := F m % 2 ^ (min 8 (i - 8 * m))
theorem mod_step (x : Int) (r : Nat) (hr : r < 8) : x % 2 ^ (r + 1) = x % 2 ^ r + (if bitI x r = true then 2 ^ r else 0) := by
  have h : ∀ P : Int, 0 < P → (2 : Int) ^ r = P → (2 : Int) ^ (r + 1) = 2 * P → x % (2 * P) = x % P + (if x / P % 2 = 1 then P else 0) := by
    intro P hP h1 h2
    have e1 := Int.emod_add_mul_ediv x P
    have e2 := Int.emod_nonneg x (show P ≠ 0 by omega)
    have e3 := Int.emod_lt_of_pos x hP
    have e4 := Int.emod_add_mul_ediv x (2 * P)
    have e5 := Int.emod_nonneg x (show 2 * P ≠ 0 by omega)
    have e6 := Int.emod_lt_of_pos x (show 0 < 2 * P by omega)
    have e7 : x / (2 * P) = x / P / 2 := by rw [Int.mul_comm, Int.ediv_ediv_of_nonneg (by omega)]
    generalize x / P = q at *
    have hq := Int.emod_add_mul_ediv q 2
    have e8 : P * q = P * (q % 2) + 2 * P * (q / 2) := by
      calc P * q = P * (q % 2 + 2 * (q / 2)) := by rw [hq]
        _ = P * (q % 2) + 2 * P * (q / 2) := by rw [Int.mul_add, ← Int.mul_assoc, Int.mul_comm P 2]
    rw [e7] at e4
    generalize 2 * P * (q / 2) = z at *
    split
    · rename_i hc
      rw [hc, Int.mul_one] at e8
      omega
    · have hc : q % 2 = 0 := by omega
      rw [hc, Int.mul_zero] at e8
      omega
  have := h (2 ^ r) (Int.pow_pos (by decide)) rfl (by rw [Int.pow_succ, Int.mul_comm])
  rw [Int.pow_succ, Int.mul_comm, this]
  unfold bitI
  simp
theorem oK_other (F : Nat → Int) (i m : Nat) (h : m ≠ i / 8) : oK F (i + 1) m = oK F i m := by
  unfold oK
  rw [show min 8 (i + 1 - 8 * m) = min 8 (i - 8 * m) by omega]
theorem oK_at (F : Nat → Int) (i : Nat) : oK F (i + 1) (i / 8) = oK F i (i / 8) + (if bitI (F (i / 8)) (i % 8) = true then 2 ^ (i % 8) else 0) := by
  unfold oK
  rw [show min 8 (i + 1 - 8 * (i / 8)) = i % 8 + 1 by omega, show min 8 (i - 8 * (i / 8)) = i % 8 by omega]
  exact mod_step _ _ (by omega)
theorem oK_no (F : Nat → Int) (i : Nat) (h : bitI (F (i / 8)) (i % 8) = false) : oK F (i + 1) = oK F i := by
  funext m
  by_cases hm : m = i / 8
  · rw [hm, oK_at, h]
    simp
  · exact oK_other F i m hm
theorem or_low8 (r : Nat) (hr : r < 8) (x : Int) (hx : 0 ≤ x ∧ x < 2 ^ r) : bits .or .u8 x (2 ^ r) = x + 2 ^ r := by
  have key : ∀ r : Fin 8, ∀ n : Fin 128, ((n.val : Nat) : Int) < 2 ^ r.val → bits .or .u8 ((n.val : Nat) : Int) (2 ^ r.val) = ((n.val : Nat) : Int) + 2 ^ r.val := by decide +kernel
  have hp : (2 : Int) ^ r ≤ 128 := by
    have : ∀ r : Fin 8, (2 : Int) ^ r.val ≤ 128 := by decide
    exact this ⟨r, hr⟩
  obtain ⟨n, rfl⟩ := Int.eq_ofNat_of_zero_le hx.1
  exact key ⟨r, hr⟩ ⟨n, by omega⟩ hx.2
theorem oK_yes (F : Nat → Int) (i : Nat) (h : bitI (F (i / 8)) (i % 8) = true) : upd (oK F i) (i / 8) (bits .or .u8 (oK F i (i / 8)) (2 ^ (i % 8))) = oK F (i + 1) := by
  funext m
  unfold upd
  by_cases hm : m = i / 8
  · rw [if_pos hm, hm, oK_at, if_pos h]
    refine or_low8 _ (by omega) _ ?_
    unfold oK
    rw [show min 8 (i - 8 * (i / 8)) = i % 8 by omega]
    have hP : (0 : Int) < 2 ^ (i % 8) := Int.pow_pos (by decide)
    exact ⟨Int.emod_nonneg _ (by omega), Int.emod_lt_of_pos _ hP⟩
  · rw [if_neg hm]
    exact (oK_other F i m hm).symm
theorem oK_0 (F : Nat → Int) : oK F 0 = fun _ => 0 := by
  funext m
  unfold oK
  rw [show min 8 (0 - 8 * m) = 0 by omega, Int.pow_zero, Int.emod_one]
theorem oK_end (F : Nat → Int) (hF : Byt F) : bs (oK F 128) = bs F := bs_congr fun m hm => by
  unfold oK
  rw [show min 8 (128 - 8 * m) = 8 by omega]
  have := hF m
  exact Int.emod_eq_of_lt this.1 (by omega)
end Cp
end Go.Proofs.Ytdclbagfnabmkaa
