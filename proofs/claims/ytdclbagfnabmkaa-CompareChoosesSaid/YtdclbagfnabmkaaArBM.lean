/-
  Plain mathematics of arith.Bin alone: its lanes, and the lesser of two. Conditions: those of each theorem.
-/
import Derived.Test.YtdclbagfnabmkaaArBB
namespace Go.Proofs.Ytdclbagfnabmkaa
open Go.RowKit VecM
namespace Ar
def baI (v : Int) : Int := if v = 8 then 64864 else if v = 16 then 64896 else if v = 32 then 64928 else 64960
theorem op_of {v o : Int} (hv : v = 8 ∨ v = 16 ∨ v = 32 ∨ v = 64) (h0 : 0 ≤ o) (h1 : o ≤ 31) (hh : hasB v o = true) : aW (baI v + o) = v ∧ aK (baI v + o) = o := by
  have key : ∀ q : Int, (q = 0 ∨ q = 1 ∨ q = 2 ∨ q = 3) → baI v = 64864 + 32 * q → wq q = v → aW (baI v + o) = v ∧ aK (baI v + o) = o := by
    intro q hq hb hw
    have e1 : (baI v + o - 64864) / 32 = q := by omega
    have e2 : (baI v + o - 64864) % 32 = o := by omega
    have hi : inA (baI v + o) = true := by
      unfold inA
      rw [e1, e2, hw, hh]
      have h3 : 64864 ≤ baI v + o := by omega
      have h4 : baI v + o ≤ 64991 := by omega
      simp [h3, h4]
    unfold aW aK
    rw [hi, e1, e2]
    exact ⟨hw, rfl⟩
  rcases hv with rfl | rfl | rfl | rfl
  · exact key 0 (by omega) rfl rfl
  · exact key 1 (by omega) rfl rfl
  · exact key 2 (by omega) rfl rfl
  · exact key 3 (by omega) rfl rfl
theorem lanes_pos {v j : Int} (h : thereB v j = true) : 0 ≤ j ∧ j < lanesI v := there_iff.1 h
theorem get_bi {a b : Nat → Int} {v o : Int} (hv : v = 8 ∨ v = 16 ∨ v = 32 ∨ v = 64) (h0 : 14 ≤ o) (h1 : o ≤ 31) (hh : hasB v o = true) {j : Nat} (hj : thereB v j = true) :
    getI (biV (baI v + o) a b) v j = laneI o v (getI a v j) (getI b v j) (sgnI a v j) (sgnI b v j) % 256 ^ wid v := by
  obtain ⟨e1, e2⟩ := op_of hv (by omega) h1 hh
  have hok : biOk (baI v + o) = true := by
    unfold biOk
    rw [e1, e2]
    have : v ≠ 0 := by omega
    simp [this, h0]
  unfold biV
  rw [if_pos hok, e1, e2, get_ofK _ _ _ _ hj, if_pos (by have := lanes_pos hj; omega)]
theorem byt0 : Byt fun _ => 0 := fun _ => ⟨Int.le_refl _, by show (0 : Int) ≤ 255; decide⟩
theorem biV_byt (op : Int) (a b : Nat → Int) : Byt (biV op a b) := by
  unfold biV; split
  · exact ofK_byt byt0 _ _ _
  · exact byt0
/-- two vectors whose lanes of one width agree -/
theorem bs_ext {b c : Nat → Int} (hb : Byt b) (hc : Byt c) {v : Int} (hv : v = 8 ∨ v = 16 ∨ v = 32 ∨ v = 64) (h : ∀ j : Nat, thereB v j = true → getI b v j = getI c v j) : bs b = bs c :=
  bs_congr (ext hb hc v hv h)
/-- a width's numbers, all at once: what a lane's 256 ^ wid is -/
theorem pow_of {v : Int} (hv : v = 8 ∨ v = 16 ∨ v = 32 ∨ v = 64) : (v = 8 ∧ (256 : Int) ^ wid v = 256 ∧ (2 : Int) ^ v.toNat = 256 ∧ (2 : Int) ^ (v.toNat - 1) = 128) ∨ (v = 16 ∧ (256 : Int) ^ wid v = 65536 ∧ (2 : Int) ^ v.toNat = 65536 ∧ (2 : Int) ^ (v.toNat - 1) = 32768) ∨
    (v = 32 ∧ (256 : Int) ^ wid v = 4294967296 ∧ (2 : Int) ^ v.toNat = 4294967296 ∧ (2 : Int) ^ (v.toNat - 1) = 2147483648) ∨ (v = 64 ∧ (256 : Int) ^ wid v = 18446744073709551616 ∧ (2 : Int) ^ v.toNat = 18446744073709551616 ∧ (2 : Int) ^ (v.toNat - 1) = 9223372036854775808) := by
  rcases hv with rfl | rfl | rfl | rfl
  · exact .inl ⟨rfl, rfl, rfl, rfl⟩
  · exact .inr (.inl ⟨rfl, rfl, rfl, rfl⟩)
  · exact .inr (.inr (.inl ⟨rfl, rfl, rfl, rfl⟩))
  · exact .inr (.inr (.inr ⟨rfl, rfl, rfl, rfl⟩))
theorem wrap_u (n : Int) : IntKind.u64.wrap n = n % 18446744073709551616 := by rw [IntKind.wrap_u64]
theorem sgn_of {b : Nat → Int} {v : Int} {j : Nat} (h : thereB v j = true) : sgnI b v j = sg v (getI b v j) := by unfold sgnI; rw [if_pos h]
theorem mod64 {v : Int} (hv : v = 8 ∨ v = 16 ∨ v = 32 ∨ v = 64) (n : Int) : IntKind.u64.wrap n % 256 ^ wid v = n % 256 ^ wid v := by
  rw [wrap_u]
  rcases pow_of hv with ⟨_, p, _⟩ | ⟨_, p, _⟩ | ⟨_, p, _⟩ | ⟨_, p, _⟩ <;> rw [p] <;> omega
def B (v o : Int) (a b : Nat → Int) : Nat → Int := biV (baI v + o) a b
theorem B_byt (v o : Int) (a b : Nat → Int) : Byt (B v o a b) := biV_byt _ _ _
theorem get_mod {a : Nat → Int} (ha : Byt a) (v j : Int) : getI a v j % 256 ^ wid v = getI a v j := Int.emod_eq_of_lt (getI_bd ha v j).1 (getI_bd ha v j).2
theorem sg_mod {v : Int} (hv : v = 8 ∨ v = 16 ∨ v = 32 ∨ v = 64) {x : Int} (h : 0 ≤ x ∧ x < 256 ^ wid v) : IntKind.u64.wrap (sg v x) % 256 ^ wid v = x := by
  rw [mod64 hv]
  unfold sg
  rcases pow_of hv with ⟨_, p1, p2, p3⟩ | ⟨_, p1, p2, p3⟩ | ⟨_, p1, p2, p3⟩ | ⟨_, p1, p2, p3⟩ <;> rw [p1, p2, p3] <;> rw [p1] at h <;> split <;> omega
section
variable {v : Int} (hv : v = 8 ∨ v = 16 ∨ v = 32 ∨ v = 64) (h32 : v ≤ 32) {j : Nat} (hj : thereB v j = true) {a b : Nat → Int} (ha : Byt a) (hb : Byt b)
include hv h32 hj ha hb
theorem l22 : getI (B v 22 a b) v j = if sgnI a v j ≤ sgnI b v j then getI a v j else getI b v j := by
  unfold B
  rw [get_bi hv (by omega) (by omega) (by simp [hasB, h32]) hj, show laneI 22 v (getI a v j) (getI b v j) (sgnI a v j) (sgnI b v j) = IntKind.u64.wrap (minI (sgnI a v j) (sgnI b v j)) by simp [laneI]]
  unfold minI
  split
  · rw [sgn_of hj]; exact sg_mod hv (getI_bd ha v j)
  · rw [sgn_of hj]; exact sg_mod hv (getI_bd hb v j)
theorem l23 : getI (B v 23 a b) v j = if getI a v j ≤ getI b v j then getI a v j else getI b v j := by
  unfold B
  rw [get_bi hv (by omega) (by omega) (by simp [hasB, h32]) hj, show laneI 23 v (getI a v j) (getI b v j) (sgnI a v j) (sgnI b v j) = minI (getI a v j) (getI b v j) by simp [laneI]]
  unfold minI
  split
  · exact get_mod ha v j
  · exact get_mod hb v j
end
end Ar
end Go.Proofs.Ytdclbagfnabmkaa
