/-
  Of layer 6's laws: what cmp answers as a mask of lanes, and how the masks of a pair hang together. Conditions: those of each theorem.
-/
import Derived.Test.YtdclbagfnabmkaaCpM
import Derived.Test.YtdclbagfnabmkaaSlB
namespace Go.Proofs.Ytdclbagfnabmkaa
open Go.RowKit VecM
namespace Cp
def C (v k : Int) (a b : Nat → Int) : Nat → Int := mB v fun j => stB k (getI a v j) (getI b v j) (sgnI a v j) (sgnI b v j)
theorem C_byt (v k : Int) (a b : Nat → Int) : Byt (C v k a b) := msk_byt _ _ _
theorem cpV_C {op v k : Int} (h1 : cW op = v) (h2 : cK op = k) (a b : Nat → Int) : cpV op a b = C v k a b := by
  unfold cpV C mB
  rw [h1, h2]
theorem cmp_C (op v k : Int) (ho : -9223372036854775808 ≤ op ∧ op ≤ 9223372036854775807) (h1 : cW op = v) (h2 : cK op = k) {a b : Nat → Int} (ha : Byt a) (hb : Byt b) (w : World) :
    Calls Try.prog 18 #[.int .i64 op, .agg (bs a), .agg (bs b)] w fun e w' => e = .returned (.agg (bs (C v k a b))) ∧ Gr w w' := by
  rw [← cpV_C h1 h2]; exact cmpl_any op ho a b ha hb w
theorem lane_eq {v : Int} (hv : v = 8 ∨ v = 16 ∨ v = 32 ∨ v = 64) {a b : Nat → Int} (ha : Byt a) (hb : Byt b) {j : Nat} (hj : thereB v j = true) : getI a v j = getI b v j ↔ sgnI a v j = sgnI b v j := by
  have h1 := getI_bd ha v j
  have h2 := getI_bd hb v j
  unfold sgnI
  rw [if_pos hj, if_pos hj]
  generalize getI a v j = x at *
  generalize getI b v j = y at *
  unfold sg
  rcases hv with rfl | rfl | rfl | rfl
  · rw [show (256 : Int) ^ wid 8 = 256 from rfl] at h1 h2
    rw [show (2 : Int) ^ (8 : Int).toNat = 256 from rfl, show (2 : Int) ^ ((8 : Int).toNat - 1) = 128 from rfl]
    (repeat' split) <;> omega
  · rw [show (256 : Int) ^ wid 16 = 65536 from rfl] at h1 h2
    rw [show (2 : Int) ^ (16 : Int).toNat = 65536 from rfl, show (2 : Int) ^ ((16 : Int).toNat - 1) = 32768 from rfl]
    (repeat' split) <;> omega
  · rw [show (256 : Int) ^ wid 32 = 4294967296 from rfl] at h1 h2
    rw [show (2 : Int) ^ (32 : Int).toNat = 4294967296 from rfl, show (2 : Int) ^ ((32 : Int).toNat - 1) = 2147483648 from rfl]
    (repeat' split) <;> omega
  · rw [show (256 : Int) ^ wid 64 = 18446744073709551616 from rfl] at h1 h2
    rw [show (2 : Int) ^ (64 : Int).toNat = 18446744073709551616 from rfl, show (2 : Int) ^ ((64 : Int).toNat - 1) = 9223372036854775808 from rfl]
    (repeat' split) <;> omega
structure OrdF (v lt gt le ge : Int) (a b : Nat → Int) : Prop where
  g1 : bs (bw 64846 (C v lt a b) (C v gt a b)) = bs fun _ => 0
  g2 : bs (bw 64846 (C v lt a b) (C v 0 a b)) = bs fun _ => 0
  g3 : bs (bw 64846 (C v gt a b) (C v 0 a b)) = bs fun _ => 0
  g4 : bs (bw 64848 (bw 64848 (C v lt a b) (C v gt a b)) (C v 0 a b)) = bs (nt fun _ => 0)
  gx : bs (bw 64849 (bw 64849 (C v lt a b) (C v gt a b)) (C v 0 a b)) = bs (nt fun _ => 0)
  g5 : bs (C v le a b) = bs (nt (C v gt a b))
  g6 : bs (C v ge a b) = bs (nt (C v lt a b))
  g7 : bs (C v lt b a) = bs (C v gt a b)
theorem st_tri (x y s r : Int) (h : x = y ↔ s = r) :
    (stB 2 x y s r && stB 4 x y s r) = false ∧ (stB 2 x y s r && stB 0 x y s r) = false ∧ (stB 4 x y s r && stB 0 x y s r) = false ∧ (stB 2 x y s r || stB 4 x y s r || stB 0 x y s r) = true ∧ ((stB 2 x y s r != stB 4 x y s r) != stB 0 x y s r) = true ∧
    stB 6 x y s r = (!stB 4 x y s r) ∧ stB 8 x y s r = (!stB 2 x y s r) ∧ stB 2 y x r s = stB 4 x y s r ∧
    (stB 3 x y s r && stB 5 x y s r) = false ∧ (stB 3 x y s r && stB 0 x y s r) = false ∧ (stB 5 x y s r && stB 0 x y s r) = false ∧ (stB 3 x y s r || stB 5 x y s r || stB 0 x y s r) = true ∧ ((stB 3 x y s r != stB 5 x y s r) != stB 0 x y s r) = true ∧
    stB 7 x y s r = (!stB 5 x y s r) ∧ stB 9 x y s r = (!stB 3 x y s r) ∧ stB 3 y x r s = stB 5 x y s r ∧ stB 1 x y s r = (!stB 0 x y s r) := by
  simp only [stB, Int.reduceEq, if_false, if_true]
  by_cases h1 : s < r
  · have h2 : ¬ r < s := by omega
    have h3 : ¬ s = r := by omega
    have h4 : ¬ x = y := fun e => h3 (h.1 e)
    have h5 : s ≤ r := by omega
    have h6 : ¬ r ≤ s := by omega
    by_cases h7 : x < y
    · have h8 : ¬ y < x := by omega
      have h9 : x ≤ y := by omega
      have h10 : ¬ y ≤ x := by omega
      simp [h1, h2, h4, h5, h6, h7, h8, h9, h10, bne]
    · have h8 : y < x := by omega
      have h9 : ¬ x ≤ y := by omega
      have h10 : y ≤ x := by omega
      simp [h1, h2, h4, h5, h6, h7, h8, h9, h10, bne]
  · by_cases h2 : r < s
    · have h3 : ¬ s = r := by omega
      have h4 : ¬ x = y := fun e => h3 (h.1 e)
      have h5 : ¬ s ≤ r := by omega
      have h6 : r ≤ s := by omega
      by_cases h7 : x < y
      · have h8 : ¬ y < x := by omega
        have h9 : x ≤ y := by omega
        have h10 : ¬ y ≤ x := by omega
        simp [h1, h2, h4, h5, h6, h7, h8, h9, h10, bne]
      · have h8 : y < x := by omega
        have h9 : ¬ x ≤ y := by omega
        have h10 : y ≤ x := by omega
        simp [h1, h2, h4, h5, h6, h7, h8, h9, h10, bne]
    · have h3 : s = r := by omega
      have h4 : x = y := h.2 h3
      subst h3 h4
      simp
section
variable {v : Int} (hv : v = 8 ∨ v = 16 ∨ v = 32 ∨ v = 64) {a b : Nat → Int} (ha : Byt a) (hb : Byt b)
include hv ha hb
theorem ordS : OrdF v 2 4 6 8 a b where
  g1 := by unfold C; rw [m_and hv, m_zero hv]; exact mB_congr hv fun j hj => (st_tri _ _ _ _ (lane_eq hv ha hb hj)).1
  g2 := by unfold C; rw [m_and hv, m_zero hv]; exact mB_congr hv fun j hj => (st_tri _ _ _ _ (lane_eq hv ha hb hj)).2.1
  g3 := by unfold C; rw [m_and hv, m_zero hv]; exact mB_congr hv fun j hj => (st_tri _ _ _ _ (lane_eq hv ha hb hj)).2.2.1
  g4 := by unfold C; rw [m_or3 hv, m_ones hv]; exact mB_congr hv fun j hj => (st_tri _ _ _ _ (lane_eq hv ha hb hj)).2.2.2.1
  gx := by unfold C; rw [m_xor3 hv, m_ones hv]; exact mB_congr hv fun j hj => (st_tri _ _ _ _ (lane_eq hv ha hb hj)).2.2.2.2.1
  g5 := by unfold C; rw [m_not hv]; exact mB_congr hv fun j hj => (st_tri _ _ _ _ (lane_eq hv ha hb hj)).2.2.2.2.2.1
  g6 := by unfold C; rw [m_not hv]; exact mB_congr hv fun j hj => (st_tri _ _ _ _ (lane_eq hv ha hb hj)).2.2.2.2.2.2.1
  g7 := by unfold C; exact mB_congr hv fun j hj => (st_tri _ _ _ _ (lane_eq hv ha hb hj)).2.2.2.2.2.2.2.1
theorem ordU : OrdF v 3 5 7 9 a b where
  g1 := by unfold C; rw [m_and hv, m_zero hv]; exact mB_congr hv fun j hj => (st_tri _ _ _ _ (lane_eq hv ha hb hj)).2.2.2.2.2.2.2.2.1
  g2 := by unfold C; rw [m_and hv, m_zero hv]; exact mB_congr hv fun j hj => (st_tri _ _ _ _ (lane_eq hv ha hb hj)).2.2.2.2.2.2.2.2.2.1
  g3 := by unfold C; rw [m_and hv, m_zero hv]; exact mB_congr hv fun j hj => (st_tri _ _ _ _ (lane_eq hv ha hb hj)).2.2.2.2.2.2.2.2.2.2.1
  g4 := by unfold C; rw [m_or3 hv, m_ones hv]; exact mB_congr hv fun j hj => (st_tri _ _ _ _ (lane_eq hv ha hb hj)).2.2.2.2.2.2.2.2.2.2.2.1
  gx := by unfold C; rw [m_xor3 hv, m_ones hv]; exact mB_congr hv fun j hj => (st_tri _ _ _ _ (lane_eq hv ha hb hj)).2.2.2.2.2.2.2.2.2.2.2.2.1
  g5 := by unfold C; rw [m_not hv]; exact mB_congr hv fun j hj => (st_tri _ _ _ _ (lane_eq hv ha hb hj)).2.2.2.2.2.2.2.2.2.2.2.2.2.1
  g6 := by unfold C; rw [m_not hv]; exact mB_congr hv fun j hj => (st_tri _ _ _ _ (lane_eq hv ha hb hj)).2.2.2.2.2.2.2.2.2.2.2.2.2.2.1
  g7 := by unfold C; exact mB_congr hv fun j hj => (st_tri _ _ _ _ (lane_eq hv ha hb hj)).2.2.2.2.2.2.2.2.2.2.2.2.2.2.2.1
theorem ne_C : bs (C v 1 a b) = bs (nt (C v 0 a b)) := by unfold C; rw [m_not hv]; exact mB_congr hv fun j hj => (st_tri _ _ _ _ (lane_eq hv ha hb hj)).2.2.2.2.2.2.2.2.2.2.2.2.2.2.2.2
end
theorem eq_C {v : Int} (hv : v = 8 ∨ v = 16 ∨ v = 32 ∨ v = 64) (a : Nat → Int) : bs (C v 0 a a) = bs (nt fun _ => 0) := by
  unfold C; rw [m_ones hv]; exact mB_congr hv fun j _ => by simp [stB]
theorem C_sgn {v : Int} (hv : v = 8 ∨ v = 16 ∨ v = 32 ∨ v = 64) (k : Int) (a b : Nat → Int) {j : Nat} (hj : thereB v j = true) : sgnI (C v k a b) v j = 0 ∨ sgnI (C v k a b) v j = -1 := by
  unfold C; rw [m_sgn hv _ hj]; split
  · exact .inr rfl
  · exact .inl rfl
end Cp
end Go.Proofs.Ytdclbagfnabmkaa
