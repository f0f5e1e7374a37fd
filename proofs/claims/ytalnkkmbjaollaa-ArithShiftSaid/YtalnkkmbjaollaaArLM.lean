/-
  Plain mathematics of ArithLeast: the lesser and the greater of two lanes. Conditions: a width of at most 32; bytes.
-/
import Derived.Test.YtalnkkmbjaollaaArRM
namespace Go.Proofs.Ytalnkkmbjaollaa
open Go.RowKit VecM
namespace Ar
theorem sg_mod {v : Int} (hv : v = 8 ∨ v = 16 ∨ v = 32 ∨ v = 64) {x : Int} (h : 0 ≤ x ∧ x < 256 ^ wid v) : IntKind.u64.wrap (sg v x) % 256 ^ wid v = x := by
  rw [mod64 hv]
  unfold sg
  rcases pow_of hv with ⟨_, p1, p2, p3⟩ | ⟨_, p1, p2, p3⟩ | ⟨_, p1, p2, p3⟩ | ⟨_, p1, p2, p3⟩ <;> rw [p1, p2, p3] <;> rw [p1] at h <;> split <;> omega
section
variable {v : Int} (hv : v = 8 ∨ v = 16 ∨ v = 32 ∨ v = 64) (h32 : v ≤ 32) {j : Nat} (hj : thereB v j = true) {a b : Nat → Int} (ha : Byt a) (hb : Byt b)
include hv h32 hj ha hb
theorem l22 : getI (B v 22 a b) v j = if sgnI a v j ≤ sgnI b v j then getI a v j else getI b v j := by
  unfold B
  rw [get_bi hv (by omega) (by omega) (by simp [hasB, h32]) hj, show laneI 22 v (getI a v j) (getI b v j) (sgnI a v j) (sgnI b v j) = IntKind.u64.wrap (minI (sgnI a v j) (sgnI b v j)) by simp [laneI]]
  unfold minI
  split
  · rw [sgn_of hj]; exact sg_mod hv (getI_bd ha v j)
  · rw [sgn_of hj]; exact sg_mod hv (getI_bd hb v j)
theorem l24 : getI (B v 24 a b) v j = if sgnI a v j ≤ sgnI b v j then getI b v j else getI a v j := by
  unfold B
  rw [get_bi hv (by omega) (by omega) (by simp [hasB, h32]) hj, show laneI 24 v (getI a v j) (getI b v j) (sgnI a v j) (sgnI b v j) = IntKind.u64.wrap (maxI (sgnI a v j) (sgnI b v j)) by simp [laneI]]
  unfold maxI
  split
  · rw [sgn_of hj]; exact sg_mod hv (getI_bd hb v j)
  · rw [sgn_of hj]; exact sg_mod hv (getI_bd ha v j)
theorem l23 : getI (B v 23 a b) v j = if getI a v j ≤ getI b v j then getI a v j else getI b v j := by
  unfold B
  rw [get_bi hv (by omega) (by omega) (by simp [hasB, h32]) hj, show laneI 23 v (getI a v j) (getI b v j) (sgnI a v j) (sgnI b v j) = minI (getI a v j) (getI b v j) by simp [laneI]]
  unfold minI
  split
  · exact get_mod ha v j
  · exact get_mod hb v j
theorem l25 : getI (B v 25 a b) v j = if getI a v j ≤ getI b v j then getI b v j else getI a v j := by
  unfold B
  rw [get_bi hv (by omega) (by omega) (by simp [hasB, h32]) hj, show laneI 25 v (getI a v j) (getI b v j) (sgnI a v j) (sgnI b v j) = maxI (getI a v j) (getI b v j) by simp [laneI]]
  unfold maxI
  split
  · exact get_mod hb v j
  · exact get_mod ha v j
end
theorem sg_inj {v : Int} (hv : v = 8 ∨ v = 16 ∨ v = 32 ∨ v = 64) {x y : Int} (hx : 0 ≤ x ∧ x < 256 ^ wid v) (hy : 0 ≤ y ∧ y < 256 ^ wid v) (h : sg v x = sg v y) : x = y := by
  unfold sg at h
  rcases pow_of hv with ⟨_, p1, p2, p3⟩ | ⟨_, p1, p2, p3⟩ | ⟨_, p1, p2, p3⟩ | ⟨_, p1, p2, p3⟩ <;> rw [p2, p3] at h <;> rw [p1] at hx hy <;> (repeat' split at h) <;> omega
/-- the law's equations, and its lanes, signed (o = 22) and not (o = 23) -/
structure LeastF (v o : Int) (a b : Nat → Int) : Prop where
  q1 : bs (B v 14 (B v o a b) (B v (o + 2) a b)) = bs (B v 14 a b)
  q2 : bs (B v o b a) = bs (B v o a b)
  q3 : bs (B v o (B v o a b) (B v (o + 2) a b)) = bs (B v o a b)
  q4 : bs (B v (o + 2) (B v o a b) (B v (o + 2) a b)) = bs (B v (o + 2) a b)
  q5 : ∀ j : Nat, thereB v j = true → (getI (B v o a b) v j = getI a v j ∧ getI (B v (o + 2) a b) v j = getI b v j) ∨ (getI (B v o a b) v j = getI b v j ∧ getI (B v (o + 2) a b) v j = getI a v j)
theorem leastS {v : Int} (hv : v = 8 ∨ v = 16 ∨ v = 32 ∨ v = 64) (h32 : v ≤ 32) {a b : Nat → Int} (ha : Byt a) (hb : Byt b) : LeastF v 22 a b ∧ ∀ j : Nat, thereB v j = true → sgnI (B v 22 a b) v j ≤ sgnI (B v 24 a b) v j := by
  have K : ∀ j : Nat, thereB v j = true → sgnI (B v 22 a b) v j ≤ sgnI (B v 24 a b) v j := fun j hj => by
    rw [sgn_of (b := B v 22 a b) hj, sgn_of (b := B v 24 a b) hj, l22 hv h32 hj ha hb, l24 hv h32 hj ha hb, sgn_of (b := a) hj, sgn_of (b := b) hj]
    repeat' split
    all_goals omega
  refine ⟨⟨?_, ?_, ?_, ?_, fun j hj => ?_⟩, K⟩
  · refine bs_ext (B_byt _ _ _ _) (B_byt _ _ _ _) hv fun j hj => ?_
    rw [l14 hv hj, l14 hv hj, l22 hv h32 hj ha hb, show (22 : Int) + 2 = 24 from rfl, l24 hv h32 hj ha hb]
    split
    · rfl
    · rw [Int.add_comm]
  · refine bs_ext (B_byt _ _ _ _) (B_byt _ _ _ _) hv fun j hj => ?_
    rw [l22 hv h32 hj hb ha, l22 hv h32 hj ha hb]
    have h := fun e => sg_inj hv (getI_bd ha v j) (getI_bd hb v j) e
    rw [sgn_of (b := a) hj, sgn_of (b := b) hj]
    split
    · split
      · exact (h (by omega)).symm
      · rfl
    · split
      · rfl
      · omega
  · refine bs_ext (B_byt _ _ _ _) (B_byt _ _ _ _) hv fun j hj => ?_
    rw [show (22 : Int) + 2 = 24 from rfl, l22 hv h32 hj (B_byt _ _ _ _) (B_byt _ _ _ _), if_pos (K j hj)]
  · refine bs_ext (B_byt _ _ _ _) (B_byt _ _ _ _) hv fun j hj => ?_
    rw [show (22 : Int) + 2 = 24 from rfl, l24 hv h32 hj (B_byt _ _ _ _) (B_byt _ _ _ _), if_pos (K j hj)]
  · rw [show (22 : Int) + 2 = 24 from rfl, l22 hv h32 hj ha hb, l24 hv h32 hj ha hb]
    split
    · exact .inl ⟨rfl, rfl⟩
    · exact .inr ⟨rfl, rfl⟩
theorem leastU {v : Int} (hv : v = 8 ∨ v = 16 ∨ v = 32 ∨ v = 64) (h32 : v ≤ 32) {a b : Nat → Int} (ha : Byt a) (hb : Byt b) : LeastF v 23 a b ∧ ∀ j : Nat, thereB v j = true → getI (B v 23 a b) v j ≤ getI (B v 25 a b) v j := by
  have K : ∀ j : Nat, thereB v j = true → getI (B v 23 a b) v j ≤ getI (B v 25 a b) v j := fun j hj => by
    rw [l23 hv h32 hj ha hb, l25 hv h32 hj ha hb]
    repeat' split
    all_goals omega
  refine ⟨⟨?_, ?_, ?_, ?_, fun j hj => ?_⟩, K⟩
  · refine bs_ext (B_byt _ _ _ _) (B_byt _ _ _ _) hv fun j hj => ?_
    rw [l14 hv hj, l14 hv hj, l23 hv h32 hj ha hb, show (23 : Int) + 2 = 25 from rfl, l25 hv h32 hj ha hb]
    split
    · rfl
    · rw [Int.add_comm]
  · refine bs_ext (B_byt _ _ _ _) (B_byt _ _ _ _) hv fun j hj => ?_
    rw [l23 hv h32 hj hb ha, l23 hv h32 hj ha hb]
    repeat' split
    all_goals omega
  · refine bs_ext (B_byt _ _ _ _) (B_byt _ _ _ _) hv fun j hj => ?_
    rw [show (23 : Int) + 2 = 25 from rfl, l23 hv h32 hj (B_byt _ _ _ _) (B_byt _ _ _ _), if_pos (K j hj)]
  · refine bs_ext (B_byt _ _ _ _) (B_byt _ _ _ _) hv fun j hj => ?_
    rw [show (23 : Int) + 2 = 25 from rfl, l25 hv h32 hj (B_byt _ _ _ _) (B_byt _ _ _ _), if_pos (K j hj)]
  · rw [show (23 : Int) + 2 = 25 from rfl, l23 hv h32 hj ha hb, l25 hv h32 hj ha hb]
    split
    · exact .inl ⟨rfl, rfl⟩
    · exact .inr ⟨rfl, rfl⟩
end Ar
end Go.Proofs.Ytalnkkmbjaollaa
