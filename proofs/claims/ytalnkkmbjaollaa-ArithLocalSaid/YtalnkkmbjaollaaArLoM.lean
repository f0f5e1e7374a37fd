/-
  Plain mathematics of ArithLocal: of an opcode with a width just one of the three calls answers; what a lane becomes hangs on that lane alone. Conditions: bytes.
-/
import Derived.Test.YtalnkkmbjaollaaArRM
import Derived.Test.YtalnkkmbjaollaaSlC
namespace Go.Proofs.Ytalnkkmbjaollaa
open Go.RowKit VecM
namespace Ar
theorem kinds {op : Int} (h : aW op ≠ 0) : (biOk op = true ∧ unOk op = false ∧ shOk op = false) ∨ (biOk op = false ∧ unOk op = true ∧ shOk op = false) ∨ (biOk op = false ∧ unOk op = false ∧ shOk op = true) := by
  obtain ⟨hh, _⟩ := in_of h
  have hb := aK_bd op
  have hk : aK op ≤ 2 ∨ (11 ≤ aK op ∧ aK op ≤ 13) ∨ 14 ≤ aK op := by
    unfold hasB at hh
    generalize aK op = k at *
    by_cases a : k = 0 ∨ k = 1 ∨ k = 11 ∨ k = 12 ∨ k = 13 ∨ k = 14 ∨ k = 17
    · omega
    · rw [if_neg a] at hh
      by_cases b : k = 2
      · omega
      · rw [if_neg b] at hh
        by_cases c : k = 15 ∨ k = 16 ∨ k = 18 ∨ k = 19 ∨ k = 27
        · omega
        · rw [if_neg c] at hh
          by_cases d : k = 21
          · omega
          · rw [if_neg d] at hh
            by_cases e : k = 22 ∨ k = 23 ∨ k = 24 ∨ k = 25
            · omega
            · rw [if_neg e] at hh; cases hh
  unfold biOk unOk shOk
  generalize aK op = k at *
  rcases hk with hk | hk | hk
  · right; left
    have h1 : ¬ 14 ≤ k := by omega
    have h2 : ¬ 11 ≤ k := by omega
    simp [h, hk, h1, h2]
  · right; right
    have h1 : ¬ 14 ≤ k := by omega
    have h2 : ¬ k ≤ 2 := by omega
    simp [h, hk, h1, h2]
  · left
    have h1 : ¬ k ≤ 2 := by omega
    have h2 : ¬ k ≤ 13 := by omega
    simp [h, hk, h1, h2]
theorem lane_set {a b : Nat → Int} (hb : Byt b) {v : Int} {j : Nat} (hj : thereB v j = true) : getI (setI a v j (getI b v j)) v j = getI b v j := by
  rw [get_set _ _ _ _ hj, get_mod hb]
theorem local_bi {op : Int} {a x : Nat → Int} (ha : Byt a) (hx : Byt x) {j : Nat} (hj : thereB (aW op) j = true) :
    getI (biV op (setI x (aW op) j (getI a (aW op) j)) (setI a (aW op) j (getI x (aW op) j))) (aW op) j = getI (biV op a x) (aW op) j := by
  unfold biV
  split
  · rw [get_ofK _ _ _ _ hj, get_ofK _ _ _ _ hj]
    simp only [sgn_of hj, lane_set ha hj, lane_set hx hj]
  · rfl
theorem local_un {op : Int} {a x : Nat → Int} (ha : Byt a) {j : Nat} (hj : thereB (aW op) j = true) :
    getI (unV op (setI x (aW op) j (getI a (aW op) j))) (aW op) j = getI (unV op a) (aW op) j := by
  have hlt : j < (lanesI (aW op)).toNat := by have := lanes_pos hj; omega
  unfold unV
  split
  · rw [get_ofK _ _ _ _ hj, get_ofK _ _ _ _ hj, if_pos hlt, if_pos hlt]
    simp only [sgn_of hj, lane_set ha hj]
  · rfl
theorem local_sh {op : Int} {a x : Nat → Int} (ha : Byt a) {j : Nat} (hj : thereB (aW op) j = true) (n : Int) :
    getI (shV op (setI x (aW op) j (getI a (aW op) j)) n) (aW op) j = getI (shV op a n) (aW op) j := by
  have hlt : j < (lanesI (aW op)).toNat := by have := lanes_pos hj; omega
  unfold shV
  split
  · rw [get_ofK _ _ _ _ hj, get_ofK _ _ _ _ hj, if_pos hlt, if_pos hlt]
    simp only [sgn_of hj, lane_set ha hj]
  · rfl
theorem lanes_div {v : Int} (hv : v = 8 ∨ v = 16 ∨ v = 32 ∨ v = 64) : ∃ L : Nat, L ≤ 16 ∧ lanesI v = (L : Int) ∧ (128 : Int) / v = (L : Int) ∧ (128 : Int).tdiv v = (L : Int) := by
  rcases hv with rfl | rfl | rfl | rfl
  · exact ⟨16, by decide, by decide, by decide, by decide⟩
  · exact ⟨8, by decide, by decide, by decide, by decide⟩
  · exact ⟨4, by decide, by decide, by decide, by decide⟩
  · exact ⟨2, by decide, by decide, by decide, by decide⟩
end Ar
end Go.Proofs.Ytalnkkmbjaollaa
