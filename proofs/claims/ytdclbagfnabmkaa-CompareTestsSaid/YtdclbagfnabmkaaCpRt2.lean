/-
  The reference's Test of layer 6 is compare.Test's answer, for all opcodes and vectors. Conditions: bytes, 64 bits.
-/
import Derived.Test.YtdclbagfnabmkaaCpRt
import Derived.Test.YtdclbagfnabmkaaCpMskM
namespace Go.Proofs.Ytdclbagfnabmkaa
open Go.RowKit VecM Ev
namespace Cp
/-- the number of the highest bits, from above -/
def hV (b : Nat → Int) (W L : Nat) : Nat → Int
  | 0 => 0
  | i + 1 => IntKind.u32.wrap (IntKind.u32.wrap (2 * hV b W L i) + IntKind.u32.wrap (IntKind.u8.wrap (Int.tdiv (b ((L - i) * W - 1)) 128)))
theorem top_bit {b : Nat → Int} (hb : Byt b) {w : Int} {W L : Nat} (h : w = 8 ∧ W = 1 ∧ L = 16 ∨ w = 16 ∧ W = 2 ∧ L = 8 ∨ w = 32 ∧ W = 4 ∧ L = 4 ∨ w = 64 ∧ W = 8 ∧ L = 2) (j : Nat) (hj : j < L) : t32 (decide (sgnI b w j < 0)) = b ((j + 1) * W - 1) / 128 := by
  have hby : ∀ m, 0 ≤ b m ∧ b m ≤ 255 := hb
  have ht : thereB w (j : Int) = true := there_iff.2 ⟨by omega, by rcases h with ⟨rfl, rfl, rfl⟩ | ⟨rfl, rfl, rfl⟩ | ⟨rfl, rfl, rfl⟩ | ⟨rfl, rfl, rfl⟩ <;> (unfold lanesI; simp; omega)⟩
  have key : ∀ g P V : Int, getI b w j = g → 2 ^ w.toNat = P → 2 ^ (w.toNat - 1) = V → g < P → P = 2 * V → (V ≤ g ↔ 128 ≤ b ((j + 1) * W - 1)) → t32 (decide (sgnI b w j < 0)) = b ((j + 1) * W - 1) / 128 := by
    intro g P V h1 h2 h3 h4 h5 h6
    have hx := hby ((j + 1) * W - 1)
    unfold sgnI
    rw [if_pos ht]
    unfold sg
    rw [h1, h2, h3]
    by_cases hv : V ≤ g
    · rw [if_pos hv, decide_eq_true (by omega)]
      show (1 : Int) = _
      have := h6.1 hv
      omega
    · rw [if_neg hv]
      have : ¬ 128 ≤ b ((j + 1) * W - 1) := fun h => hv (h6.2 h)
      have g0 : 0 ≤ g := by rw [← h1]; exact (getI_bd hb w j).1
      rw [decide_eq_false (by omega)]
      show (0 : Int) = _
      omega
  have hbd := getI_bd hb w j
  rcases h with ⟨rfl, rfl, rfl⟩ | ⟨rfl, rfl, rfl⟩ | ⟨rfl, rfl, rfl⟩ | ⟨rfl, rfl, rfl⟩
  · have e : getI b 8 j = b j := by
      unfold getI
      rw [if_pos ht]
      show sumN b ((j : Int).toNat * 1) 1 = _
      simp [sumN]
    refine key _ 256 128 e (by decide) (by decide) (by have := hby j; omega) (by decide) ?_
    rw [show (j + 1) * 1 - 1 = j by omega]
  · have e : getI b 16 j = b (2 * j) + b (2 * j + 1) * 256 := by
      unfold getI
      rw [if_pos ht]
      show sumN b ((j : Int).toNat * 2) 2 = _
      simp [sumN, Nat.mul_comm]
    have h0 := hby (2 * j); have h1 := hby (2 * j + 1)
    refine key _ 65536 32768 e (by decide) (by decide) (by omega) (by decide) ?_
    rw [show (j + 1) * 2 - 1 = 2 * j + 1 by omega]
    omega
  · have e : getI b 32 j = b (4 * j) + b (4 * j + 1) * 256 + b (4 * j + 2) * 65536 + b (4 * j + 3) * 16777216 := by
      unfold getI
      rw [if_pos ht]
      show sumN b ((j : Int).toNat * 4) 4 = _
      simp [sumN, Nat.mul_comm]
    have h0 := hby (4 * j); have h1 := hby (4 * j + 1); have h2 := hby (4 * j + 2); have h3 := hby (4 * j + 3)
    refine key _ 4294967296 2147483648 e (by decide) (by decide) (by omega) (by decide) ?_
    rw [show (j + 1) * 4 - 1 = 4 * j + 3 by omega]
    omega
  · have e : getI b 64 j = b (8 * j) + b (8 * j + 1) * 256 + b (8 * j + 2) * 65536 + b (8 * j + 3) * 16777216 + b (8 * j + 4) * 4294967296 + b (8 * j + 5) * 1099511627776 + b (8 * j + 6) * 281474976710656 + b (8 * j + 7) * 72057594037927936 := by
      unfold getI
      rw [if_pos ht]
      show sumN b ((j : Int).toNat * 8) 8 = _
      simp [sumN, Nat.mul_comm]
    have h0 := hby (8 * j); have h1 := hby (8 * j + 1); have h2 := hby (8 * j + 2); have h3 := hby (8 * j + 3); have h4 := hby (8 * j + 4); have h5 := hby (8 * j + 5); have h6 := hby (8 * j + 6); have h7 := hby (8 * j + 7)
    refine key _ 18446744073709551616 9223372036854775808 e (by decide) (by decide) (by omega) (by decide) ?_
    rw [show (j + 1) * 8 - 1 = 8 * j + 7 by omega]
    omega
theorem hV_val {b : Nat → Int} (hb : Byt b) {w : Int} {W L : Nat} (h : w = 8 ∧ W = 1 ∧ L = 16 ∨ w = 16 ∧ W = 2 ∧ L = 8 ∨ w = 32 ∧ W = 4 ∧ L = 4 ∨ w = 64 ∧ W = 8 ∧ L = 2) : ∀ i, i ≤ L → sgI b w L = hV b W L i * 2 ^ (L - i) + sgI b w (L - i) ∧ 0 ≤ hV b W L i ∧ hV b W L i < 2 ^ i
  | 0, _ => ⟨by simp [hV], by simp [hV], by simp [hV]⟩
  | i + 1, hi => by
    have hL : L ≤ 16 := by omega
    obtain ⟨e, a, c⟩ := hV_val hb h i (by omega)
    have hx := hb ((L - i) * W - 1)
    have hc : (2 : Int) ^ i ≤ 65536 := by
      have h2 : (2 : Nat) ^ i ≤ 2 ^ 16 := Nat.pow_le_pow_right (by decide) (by omega)
      rw [show (2 : Nat) ^ 16 = 65536 by decide] at h2
      have h3 := Int.ofNat_le.2 h2
      rw [Int.natCast_pow] at h3
      exact h3
    have e2 : hV b W L (i + 1) = 2 * hV b W L i + b ((L - i) * W - 1) / 128 := by
      show IntKind.u32.wrap (IntKind.u32.wrap (2 * hV b W L i) + IntKind.u32.wrap (IntKind.u8.wrap (Int.tdiv (b ((L - i) * W - 1)) 128))) = _
      rw [Int.tdiv_eq_ediv_of_nonneg hx.1, IntWalk.u8_in _ (by omega), IntWalk.u32_in (2 * hV b W L i) (by omega), IntWalk.u32_in (b ((L - i) * W - 1) / 128) (by omega), IntWalk.u32_in _ (by omega)]
    have ht := top_bit hb h (L - (i + 1)) (by omega)
    rw [show (L - (i + 1) + 1) = L - i by omega] at ht
    have hs := sgI_step b w (L - (i + 1)) (by omega) (sgI_bd b w _ (by omega))
    rw [show (L - (i + 1) + 1) = L - i by omega, ht] at hs
    have hp : (2 : Int) ^ (L - i) = 2 * 2 ^ (L - (i + 1)) := by
      rw [show L - i = (L - (i + 1)) + 1 by omega, Int.pow_succ, Int.mul_comm]
    have hp2 : (2 : Int) ^ (i + 1) = 2 * 2 ^ i := by rw [Int.pow_succ, Int.mul_comm]
    refine ⟨?_, by omega, by omega⟩
    rw [e, hs, e2, hp, Int.add_mul]
    generalize (2 : Int) ^ (L - (i + 1)) = P
    generalize b ((L - i) * W - 1) / 128 = t
    rw [show 2 * hV b W L i * P = hV b W L i * (2 * P) by rw [Int.mul_comm 2 (hV b W L i), Int.mul_assoc]]
    omega
theorem hV_all {b : Nat → Int} (hb : Byt b) {w : Int} {W L : Nat} (h : w = 8 ∧ W = 1 ∧ L = 16 ∨ w = 16 ∧ W = 2 ∧ L = 8 ∨ w = 32 ∧ W = 4 ∧ L = 4 ∨ w = 64 ∧ W = 8 ∧ L = 2) : hV b W L L = sgI b w L := by
  have := (hV_val hb h L (Nat.le_refl _)).1
  rw [this, Nat.sub_self, Int.pow_zero, Int.mul_one]
  show _ = _ + 0
  omega
theorem any_t (b : Nat → Int) : (if (List.range 16).any (fun (j : Nat) => b j != 0) then (1 : Int) else 0) = tsV 64851 b := by
  have e : (List.range 16).any (fun (j : Nat) => b j != 0) = !vecB b fun _ => 0 := by
    unfold vecB
    rw [List.not_all_eq_any_not]
    rfl
  have e2 : tsV 64851 b = t32 (!vecB b fun _ => 0) := by
    unfold tsV
    rw [if_pos (show wK 64851 = 64851 by decide +kernel)]
  rw [e, e2]
  rfl
theorem all_t (op w : Int) (L : Nat) (h1 : wK op = 64867) (h2 : wW op = w) (h3 : (lanesI w).toNat = L) (b : Nat → Int) : (if (List.range L).any (fun (j : Nat) => getI b w j == 0) then (0 : Int) else 1) = tsV op b := by
  have e : (List.range L).any (fun (j : Nat) => getI b w j == 0) = !fullB b w L := by
    unfold fullB
    rw [List.not_all_eq_any_not]
    have hf : (fun (j : Nat) => getI b w j == 0) = fun (j : Nat) => !(getI b w j != 0) := funext fun j => by cases h : (getI b w j == 0) <;> simp [bne, h]
    rw [hf]
  have e2 : tsV op b = t32 (fullB b w L) := by
    unfold tsV
    rw [if_neg (by omega), if_pos h1, h2, h3]
  rw [e, e2]
  cases fullB b w L <;> rfl
theorem msk_t (op w : Int) (L : Nat) (h1 : wK op = 64868) (h2 : wW op = w) (h3 : (lanesI w).toNat = L) (b : Nat → Int) : sgI b w L = tsV op b := by
  unfold tsV
  rw [if_neg (by omega), if_neg (by omega), if_pos h1, h2, h3]
theorem rtest_any (op : Int) (ho : -9223372036854775808 ≤ op ∧ op ≤ 9223372036854775807) (b : Nat → Int) (hb : Byt b) (w : World) :
    Calls Try.prog 14 #[.int .i64 op, .agg (bs b)] w fun e w' => e = .returned (.tuple #[.int .u32 (tsV op b), .int .i64 (tsOk op)]) ∧ Gr w w' := by
  by_cases h : op = 64851 ∨ op = 64867 ∨ op = 64899 ∨ op = 64931 ∨ op = 64963 ∨ op = 64868 ∨ op = 64900 ∨ op = 64932 ∨ op = 64964
  · rcases h with rfl | rfl | rfl | rfl | rfl | rfl | rfl | rfl | rfl
    · rw [← any_t, show tsOk 64851 = 0 by decide +kernel]; exact tany b hb w
    · rw [← all_t 64867 8 16 (by decide +kernel) (by decide +kernel) (by decide), show tsOk 64867 = 0 by decide +kernel]; exact tall8 b hb w
    · rw [← all_t 64899 16 8 (by decide +kernel) (by decide +kernel) (by decide), show tsOk 64899 = 0 by decide +kernel]; exact tall16 b hb w
    · rw [← all_t 64931 32 4 (by decide +kernel) (by decide +kernel) (by decide), show tsOk 64931 = 0 by decide +kernel]; exact tall32 b hb w
    · rw [← all_t 64963 64 2 (by decide +kernel) (by decide +kernel) (by decide), show tsOk 64963 = 0 by decide +kernel]; exact tall64 b hb w
    · rw [← msk_t 64868 8 16 (by decide +kernel) (by decide +kernel) (by decide), show tsOk 64868 = 0 by decide +kernel, ← hV_all hb (W := 1) (by omega)]; exact tb8 b hb w
    · rw [← msk_t 64900 16 8 (by decide +kernel) (by decide +kernel) (by decide), show tsOk 64900 = 0 by decide +kernel, ← hV_all hb (W := 2) (by omega)]; exact tb16 b hb w
    · rw [← msk_t 64932 32 4 (by decide +kernel) (by decide +kernel) (by decide), show tsOk 64932 = 0 by decide +kernel, ← hV_all hb (W := 4) (by omega)]; exact tb32 b hb w
    · rw [← msk_t 64964 64 2 (by decide +kernel) (by decide +kernel) (by decide), show tsOk 64964 = 0 by decide +kernel, ← hV_all hb (W := 8) (by omega)]; exact tb64 b hb w
  · have e1 : wK op = 0 := by unfold wK; rw [if_neg (by omega), if_neg (by omega), if_neg (by omega)]
    have e2 : tsV op b = 0 := by unfold tsV; rw [e1]; rfl
    have e3 : tsOk op = 1 := by unfold tsOk; rw [if_pos e1]
    rw [e2, e3]
    exact tn op (by omega) b hb w
end Cp
end Go.Proofs.Ytdclbagfnabmkaa
