/-
  Plain mathematics of CompareMasks: the bits of the signs' mask. Conditions: those of each theorem.
-/
import Derived.Test.YtdclbagfnabmkaaCpC
namespace Go.Proofs.Ytdclbagfnabmkaa
open Go.RowKit VecM
namespace Cp
theorem t32_bd (b : Bool) : 0 ≤ t32 b ∧ t32 b ≤ 1 := by cases b <;> decide
theorem sgI_step (b : Nat → Int) (v : Int) (k : Nat) (hk : k < 31) (h : 0 ≤ sgI b v k ∧ sgI b v k < 2 ^ k) : sgI b v (k + 1) = sgI b v k + t32 (decide (sgnI b v k < 0)) * 2 ^ k := by
  show bits .or .u32 (sgI b v k) (t32 (decide (sgnI b v k < 0)) * 2 ^ k % 4294967296) = _
  obtain ⟨n, hn⟩ := Int.eq_ofNat_of_zero_le h.1
  have hlt : n < 2 ^ k := by
    have := h.2
    rw [hn] at this
    exact_mod_cast this
  have hp : (2 : Nat) ^ k < 2 ^ 31 := Nat.pow_lt_pow_right (by decide) hk
  have hp' : (2 : Nat) ^ 31 = 2147483648 := by decide
  have hw : ∀ m : Int, 0 ≤ m → m < 2 ^ 32 → IntKind.u32.wrap m = m := fun m h0 h1 => by
    rw [IntKind.wrap_u32]
    have : (2 : Int) ^ 32 = 4294967296 := by decide
    omega
  have hor : ∀ y : Nat, y < 2 ^ 32 → bits .or .u32 (n : Int) (y : Int) = ((n ||| y : Nat) : Int) := fun y hy =>
    (bits_nat .u32 32 (by decide) hw n y (by omega) hy).2
  have hc : ((2 : Int) ^ k) = ((2 ^ k : Nat) : Int) := by simp
  rw [hn, hc]
  cases decide (sgnI b v k < 0)
  · have := hor 0 (by decide)
    simp only [Nat.or_zero, Int.natCast_zero] at this
    simp only [t32, Bool.false_eq_true, if_false, Int.zero_mul, Int.zero_emod, Int.add_zero]
    exact this
  · have h2 := hor (2 ^ k) (by omega)
    simp only [t32, if_true, Int.one_mul]
    rw [show ((2 ^ k : Nat) : Int) % 4294967296 = ((2 ^ k : Nat) : Int) by omega, h2, Nat.or_comm]
    have := Nat.two_pow_add_eq_or_of_lt hlt 1
    rw [Nat.mul_one] at this
    rw [← this]
    omega
theorem sgI_bd (b : Nat → Int) (v : Int) : ∀ k : Nat, k ≤ 31 → 0 ≤ sgI b v k ∧ sgI b v k < 2 ^ k
  | 0, _ => by simp [sgI]
  | k + 1, hk => by
    have h := sgI_bd b v k (by omega)
    rw [sgI_step b v k (by omega) h, Int.pow_succ]
    have ht := t32_bd (decide (sgnI b v k < 0))
    generalize t32 (decide (sgnI b v k < 0)) = t at *
    have hc : t = 0 ∨ t = 1 := by omega
    rcases hc with rfl | rfl <;> omega
theorem sgI_bit (b : Nat → Int) (v : Int) (i : Nat) : ∀ k : Nat, k ≤ 31 → i < k → sgI b v k / 2 ^ i % 2 = t32 (decide (sgnI b v i < 0))
  | 0, _, h => by omega
  | k + 1, hk, h => by
    have hb := sgI_bd b v k (by omega)
    rw [sgI_step b v k (by omega) hb]
    have ht := t32_bd (decide (sgnI b v k < 0))
    have hpos : (0 : Int) < 2 ^ i := Int.pow_pos (by decide)
    by_cases hi : i = k
    · subst hi
      rw [Int.add_mul_ediv_right _ _ (by omega), Int.ediv_eq_zero_of_lt hb.1 hb.2]
      omega
    · have ih := sgI_bit b v i k (by omega) (by omega)
      obtain ⟨d, rfl⟩ : ∃ d, k = i + (d + 1) := ⟨k - i - 1, by omega⟩
      rw [Int.pow_add, Int.pow_succ, Int.mul_comm (2 ^ i : Int), ← Int.mul_assoc, Int.add_mul_ediv_right _ _ (by omega), ← Int.mul_assoc, Int.add_mul_emod_self_right]
      exact ih
theorem sgI_congr {b c : Nat → Int} {v : Int} : ∀ k : Nat, (∀ j, j < k → decide (sgnI b v j < 0) = decide (sgnI c v j < 0)) → sgI b v k = sgI c v k
  | 0, _ => rfl
  | k + 1, h => by
    show bits .or .u32 (sgI b v k) _ = bits .or .u32 (sgI c v k) _
    rw [sgI_congr k (fun j hj => h j (by omega)), h k (by omega)]
theorem sgI_none {b : Nat → Int} {v : Int} : ∀ k : Nat, k ≤ 31 → (∀ j, j < k → ¬ sgnI b v j < 0) → sgI b v k = 0
  | 0, _, _ => rfl
  | k + 1, hk, h => by
    rw [sgI_step b v k (by omega) (sgI_bd b v k (by omega)), sgI_none k (by omega) (fun j hj => h j (by omega)), decide_eq_false (h k (by omega))]
    simp [t32]
theorem getz (v j : Int) : getI (fun _ => 0) v j = 0 := by
  unfold getI
  split
  · generalize wid v = n
    have : ∀ b k, sumN (fun _ => 0) b k = 0 := by
      intro b k
      induction k with
      | zero => rfl
      | succ k ih => rw [sumN, ih, Int.zero_mul, Int.zero_add]
    exact this _ _
  · rfl
theorem sgnz {v : Int} (hv : v = 8 ∨ v = 16 ∨ v = 32 ∨ v = 64) (j : Int) : sgnI (fun _ => 0) v j = 0 := by
  unfold sgnI
  split
  · rw [getz]
    rcases hv with rfl | rfl | rfl | rfl <;> decide
  · rfl
structure MskF (v : Int) (L : Nat) (b : Nat → Int) : Prop where
  m1 : sgI (C v 2 b fun _ => 0) v L = sgI b v L
  m2 : 0 ≤ sgI b v L ∧ sgI b v L < 2 ^ L
  m3 : fullB b v L = true → sgI (C v 0 b fun _ => 0) v L = 0
  m4 : fullB b v L = false → (sgI (C v 0 b fun _ => 0) v L == 0) = false
  m5 : ∀ i : Nat, i < L → sgI b v L / 2 ^ i % 2 = t32 (decide (sgnI b v i < 0))
theorem mskF {v : Int} (hv : v = 8 ∨ v = 16 ∨ v = 32 ∨ v = 64) {L : Nat} (hL : lanesI v = L) (b : Nat → Int) : MskF v L b := by
  have h16 : L ≤ 16 := by have := lanes_bd v; omega
  have ht : ∀ j : Nat, j < L → thereB v j = true := fun j hj => there_iff.2 ⟨by omega, by omega⟩
  have hs : ∀ (k : Int) (j : Nat), j < L → sgnI (C v k b fun _ => 0) v j = if stB k (getI b v j) 0 (sgnI b v j) 0 = true then -1 else 0 := fun k j hj => by
    unfold C
    rw [m_sgn hv _ (ht j hj), getz, sgnz hv]
  refine ⟨?_, sgI_bd b v L (by omega), ?_, ?_, fun i hi => sgI_bit b v i L (by omega) hi⟩
  · refine sgI_congr L fun j hj => ?_
    rw [hs 2 j hj]
    simp only [stB, Int.reduceEq, if_false, if_true, decide_eq_true_eq]
    by_cases h : sgnI b v j < 0
    · simp [h]
    · simp [h]
  · intro hf
    refine sgI_none L (by omega) fun j hj => ?_
    rw [hs 0 j hj]
    have hg : getI b v j ≠ 0 := by
      unfold fullB at hf
      rw [List.all_eq_true] at hf
      simpa using hf j (List.mem_range.2 hj)
    simp [stB, hg]
  · intro hf
    unfold fullB at hf
    rw [List.all_eq_false] at hf
    obtain ⟨j, hj, hg⟩ := hf
    have hj := List.mem_range.1 hj
    have hg : getI b v j = 0 := by simpa using hg
    have hbit := sgI_bit (C v 0 b fun _ => 0) v j L (by omega) hj
    rw [hs 0 j hj] at hbit
    simp only [stB, if_true, hg, beq_self_eq_true] at hbit
    refine beq_eq_false_iff_ne.2 fun e => ?_
    rw [e] at hbit
    simp [t32] at hbit
theorem test_all (op v : Int) (L : Nat) (ho : 0 ≤ op ∧ op ≤ 100000) (h1 : wK op = 64867) (h2 : wW op = v) (h3 : (lanesI v).toNat = L) {b : Nat → Int} (hb : Byt b) (w : World) :
    Calls Try.prog 13 #[.int .i64 op, .agg (bs b)] w fun e w' => e = .returned (.tuple #[.int .u32 (t32 (fullB b v L)), .int .i64 0]) ∧ Gr w w' := by
  have h := test_any op (by omega) b hb w
  unfold tsV tsOk at h
  rw [h1, h2, h3, if_neg (by decide), if_pos rfl, if_neg (by decide)] at h
  exact h
theorem test_msk (op v : Int) (L : Nat) (ho : 0 ≤ op ∧ op ≤ 100000) (h1 : wK op = 64868) (h2 : wW op = v) (h3 : (lanesI v).toNat = L) {b : Nat → Int} (hb : Byt b) (w : World) :
    Calls Try.prog 13 #[.int .i64 op, .agg (bs b)] w fun e w' => e = .returned (.tuple #[.int .u32 (sgI b v L), .int .i64 0]) ∧ Gr w w' := by
  have h := test_any op (by omega) b hb w
  unfold tsV tsOk at h
  rw [h1, h2, h3, if_neg (by decide), if_neg (by decide), if_pos rfl, if_neg (by decide)] at h
  exact h
theorem test_some {b : Nat → Int} (hb : Byt b) (w : World) :
    Calls Try.prog 13 #[.int .i64 64851, .agg (bs b)] w fun e w' => e = .returned (.tuple #[.int .u32 (t32 (!vecB b fun _ => 0)), .int .i64 0]) ∧ Gr w w' := by
  have h := test_any 64851 (by omega) b hb w
  unfold tsV tsOk at h
  rw [show wK 64851 = 64851 from rfl, if_pos rfl, if_neg (by decide)] at h
  exact h
end Cp
end Go.Proofs.Ytdclbagfnabmkaa
