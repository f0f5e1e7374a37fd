/-
  CompareOrders: for both vectors the law returns true. Condition: bytes.
-/
import Derived.Test.YtdclbagfnabmkaaCpM
import Derived.Test.YtdclbagfnabmkaaSlB
namespace Go.Proofs.Ytdclbagfnabmkaa
open Go.RowKit VecM
namespace Cp
def C (v k : Int) (a b : Nat → Int) : Nat → Int := mB v fun j => stB k (getI a v j) (getI b v j) (sgnI a v j) (sgnI b v j)
theorem C_byt (v k : Int) (a b : Nat → Int) : Byt (C v k a b) := msk_byt _ _ _
theorem cpV_C {op v k : Int} (h1 : cW op = v) (h2 : cK op = k) (a b : Nat → Int) : cpV op a b = C v k a b := by
  unfold cpV C mB
  rw [h1, h2]
theorem cmp_C (op v k : Int) (ho : -9223372036854775808 ≤ op ∧ op ≤ 9223372036854775807) (h1 : cW op = v) (h2 : cK op = k) {a b : Nat → Int} (ha : Byt a) (hb : Byt b) (w : World) :
    Calls Try.prog 18 #[.int .i64 op, .agg (bs a), .agg (bs b)] w fun e w' => e = .returned (.agg (bs (C v k a b))) ∧ Gr w w' := by
  rw [← cpV_C h1 h2]; exact cmpl_any op ho a b ha hb w
theorem lane_eq {v : Int} (hv : v = 8 ∨ v = 16 ∨ v = 32 ∨ v = 64) {a b : Nat → Int} (ha : Byt a) (hb : Byt b) {j : Nat} (hj : thereB v j = true) : getI a v j = getI b v j ↔ sgnI a v j = sgnI b v j := by
  have h1 := getI_bd ha v j
  have h2 := getI_bd hb v j
  unfold sgnI
  rw [if_pos hj, if_pos hj]
  generalize getI a v j = x at *
  generalize getI b v j = y at *
  unfold sg
  rcases hv with rfl | rfl | rfl | rfl
  · rw [show (256 : Int) ^ wid 8 = 256 from rfl] at h1 h2
    rw [show (2 : Int) ^ (8 : Int).toNat = 256 from rfl, show (2 : Int) ^ ((8 : Int).toNat - 1) = 128 from rfl]
    (repeat' split) <;> omega
  · rw [show (256 : Int) ^ wid 16 = 65536 from rfl] at h1 h2
    rw [show (2 : Int) ^ (16 : Int).toNat = 65536 from rfl, show (2 : Int) ^ ((16 : Int).toNat - 1) = 32768 from rfl]
    (repeat' split) <;> omega
  · rw [show (256 : Int) ^ wid 32 = 4294967296 from rfl] at h1 h2
    rw [show (2 : Int) ^ (32 : Int).toNat = 4294967296 from rfl, show (2 : Int) ^ ((32 : Int).toNat - 1) = 2147483648 from rfl]
    (repeat' split) <;> omega
  · rw [show (256 : Int) ^ wid 64 = 18446744073709551616 from rfl] at h1 h2
    rw [show (2 : Int) ^ (64 : Int).toNat = 18446744073709551616 from rfl, show (2 : Int) ^ ((64 : Int).toNat - 1) = 9223372036854775808 from rfl]
    (repeat' split) <;> omega
structure OrdF (v lt gt le ge : Int) (a b : Nat → Int) : Prop where
  g1 : bs (bw 64846 (C v lt a b) (C v gt a b)) = bs fun _ => 0
  g2 : bs (bw 64846 (C v lt a b) (C v 0 a b)) = bs fun _ => 0
  g3 : bs (bw 64846 (C v gt a b) (C v 0 a b)) = bs fun _ => 0
  g4 : bs (bw 64848 (bw 64848 (C v lt a b) (C v gt a b)) (C v 0 a b)) = bs (nt fun _ => 0)
  gx : bs (bw 64849 (bw 64849 (C v lt a b) (C v gt a b)) (C v 0 a b)) = bs (nt fun _ => 0)
  g5 : bs (C v le a b) = bs (nt (C v gt a b))
  g6 : bs (C v ge a b) = bs (nt (C v lt a b))
  g7 : bs (C v lt b a) = bs (C v gt a b)
theorem st_tri (x y s r : Int) (h : x = y ↔ s = r) :
    (stB 2 x y s r && stB 4 x y s r) = false ∧ (stB 2 x y s r && stB 0 x y s r) = false ∧ (stB 4 x y s r && stB 0 x y s r) = false ∧ (stB 2 x y s r || stB 4 x y s r || stB 0 x y s r) = true ∧ ((stB 2 x y s r != stB 4 x y s r) != stB 0 x y s r) = true ∧
    stB 6 x y s r = (!stB 4 x y s r) ∧ stB 8 x y s r = (!stB 2 x y s r) ∧ stB 2 y x r s = stB 4 x y s r ∧
    (stB 3 x y s r && stB 5 x y s r) = false ∧ (stB 3 x y s r && stB 0 x y s r) = false ∧ (stB 5 x y s r && stB 0 x y s r) = false ∧ (stB 3 x y s r || stB 5 x y s r || stB 0 x y s r) = true ∧ ((stB 3 x y s r != stB 5 x y s r) != stB 0 x y s r) = true ∧
    stB 7 x y s r = (!stB 5 x y s r) ∧ stB 9 x y s r = (!stB 3 x y s r) ∧ stB 3 y x r s = stB 5 x y s r ∧ stB 1 x y s r = (!stB 0 x y s r) := by
  simp only [stB, Int.reduceEq, if_false, if_true]
  by_cases h1 : s < r
  · have h2 : ¬ r < s := by omega
    have h3 : ¬ s = r := by omega
    have h4 : ¬ x = y := fun e => h3 (h.1 e)
    have h5 : s ≤ r := by omega
    have h6 : ¬ r ≤ s := by omega
    by_cases h7 : x < y
    · have h8 : ¬ y < x := by omega
      have h9 : x ≤ y := by omega
      have h10 : ¬ y ≤ x := by omega
      simp [h1, h2, h4, h5, h6, h7, h8, h9, h10, bne]
    · have h8 : y < x := by omega
      have h9 : ¬ x ≤ y := by omega
      have h10 : y ≤ x := by omega
      simp [h1, h2, h4, h5, h6, h7, h8, h9, h10, bne]
  · by_cases h2 : r < s
    · have h3 : ¬ s = r := by omega
      have h4 : ¬ x = y := fun e => h3 (h.1 e)
      have h5 : ¬ s ≤ r := by omega
      have h6 : r ≤ s := by omega
      by_cases h7 : x < y
      · have h8 : ¬ y < x := by omega
        have h9 : x ≤ y := by omega
        have h10 : ¬ y ≤ x := by omega
        simp [h1, h2, h4, h5, h6, h7, h8, h9, h10, bne]
      · have h8 : y < x := by omega
        have h9 : ¬ x ≤ y := by omega
        have h10 : y ≤ x := by omega
        simp [h1, h2, h4, h5, h6, h7, h8, h9, h10, bne]
    · have h3 : s = r := by omega
      have h4 : x = y := h.2 h3
      subst h3 h4
      simp
section
variable {v : Int} (hv : v = 8 ∨ v = 16 ∨ v = 32 ∨ v = 64) {a b : Nat → Int} (ha : Byt a) (hb : Byt b)
include hv ha hb
theorem ordS : OrdF v 2 4 6 8 a b where
  g1 := by unfold C; rw [m_and hv, m_zero hv]; exact mB_congr hv fun j hj => (st_tri _ _ _ _ (lane_eq hv ha hb hj)).1
  g2 := by unfold C; rw [m_and hv, m_zero hv]; exact mB_congr hv fun j hj => (st_tri _ _ _ _ (lane_eq hv ha hb hj)).2.1
  g3 := by unfold C; rw [m_and hv, m_zero hv]; exact mB_congr hv fun j hj => (st_tri _ _ _ _ (lane_eq hv ha hb hj)).2.2.1
  g4 := by unfold C; rw [m_or3 hv, m_ones hv]; exact mB_congr hv fun j hj => (st_tri _ _ _ _ (lane_eq hv ha hb hj)).2.2.2.1
  gx := by unfold C; rw [m_xor3 hv, m_ones hv]; exact mB_congr hv fun j hj => (st_tri _ _ _ _ (lane_eq hv ha hb hj)).2.2.2.2.1
  g5 := by unfold C; rw [m_not hv]; exact mB_congr hv fun j hj => (st_tri _ _ _ _ (lane_eq hv ha hb hj)).2.2.2.2.2.1
  g6 := by unfold C; rw [m_not hv]; exact mB_congr hv fun j hj => (st_tri _ _ _ _ (lane_eq hv ha hb hj)).2.2.2.2.2.2.1
  g7 := by unfold C; exact mB_congr hv fun j hj => (st_tri _ _ _ _ (lane_eq hv ha hb hj)).2.2.2.2.2.2.2.1
theorem ordU : OrdF v 3 5 7 9 a b where
  g1 := by unfold C; rw [m_and hv, m_zero hv]; exact mB_congr hv fun j hj => (st_tri _ _ _ _ (lane_eq hv ha hb hj)).2.2.2.2.2.2.2.2.1
  g2 := by unfold C; rw [m_and hv, m_zero hv]; exact mB_congr hv fun j hj => (st_tri _ _ _ _ (lane_eq hv ha hb hj)).2.2.2.2.2.2.2.2.2.1
  g3 := by unfold C; rw [m_and hv, m_zero hv]; exact mB_congr hv fun j hj => (st_tri _ _ _ _ (lane_eq hv ha hb hj)).2.2.2.2.2.2.2.2.2.2.1
  g4 := by unfold C; rw [m_or3 hv, m_ones hv]; exact mB_congr hv fun j hj => (st_tri _ _ _ _ (lane_eq hv ha hb hj)).2.2.2.2.2.2.2.2.2.2.2.1
  gx := by unfold C; rw [m_xor3 hv, m_ones hv]; exact mB_congr hv fun j hj => (st_tri _ _ _ _ (lane_eq hv ha hb hj)).2.2.2.2.2.2.2.2.2.2.2.2.1
  g5 := by unfold C; rw [m_not hv]; exact mB_congr hv fun j hj => (st_tri _ _ _ _ (lane_eq hv ha hb hj)).2.2.2.2.2.2.2.2.2.2.2.2.2.1
  g6 := by unfold C; rw [m_not hv]; exact mB_congr hv fun j hj => (st_tri _ _ _ _ (lane_eq hv ha hb hj)).2.2.2.2.2.2.2.2.2.2.2.2.2.2.1
  g7 := by unfold C; exact mB_congr hv fun j hj => (st_tri _ _ _ _ (lane_eq hv ha hb hj)).2.2.2.2.2.2.2.2.2.2.2.2.2.2.2.1
theorem ne_C : bs (C v 1 a b) = bs (nt (C v 0 a b)) := by unfold C; rw [m_not hv]; exact mB_congr hv fun j hj => (st_tri _ _ _ _ (lane_eq hv ha hb hj)).2.2.2.2.2.2.2.2.2.2.2.2.2.2.2.2
end
theorem eq_C {v : Int} (hv : v = 8 ∨ v = 16 ∨ v = 32 ∨ v = 64) (a : Nat → Int) : bs (C v 0 a a) = bs (nt fun _ => 0) := by
  unfold C; rw [m_ones hv]; exact mB_congr hv fun j _ => by simp [stB]
theorem C_sgn {v : Int} (hv : v = 8 ∨ v = 16 ∨ v = 32 ∨ v = 64) (k : Int) (a b : Nat → Int) {j : Nat} (hj : thereB v j = true) : sgnI (C v k a b) v j = 0 ∨ sgnI (C v k a b) v j = -1 := by
  unfold C; rw [m_sgn hv _ hj]; split
  · exact .inr rfl
  · exact .inl rfl
set_option maxRecDepth 100000 in
set_option maxHeartbeats 32000000 in
theorem orders_walk (a b : Nat → Int) (ha : Byt a) (hb : Byt b) (w : World) : Calls Try.prog 6 #[.agg (bs a), .agg (bs b)] w fun e w' => e = .returned (.bool true) ∧ Gr w w' := by
  have HA := Lib.hid ha
  have HB := Lib.hid hb
  clear ha hb
  have N0 := fun w => not_any (fun _ => 0) w
  obtain ⟨on, hon⟩ : ∃ on, on = nt fun _ => 0 := ⟨_, rfl⟩
  rw [← hon] at N0
  have HON := Lib.hid hon
  have XN0 := Lib.hid N0
  clear hon N0
  have hS := St.start w
  go_enter Try.func6, Try.ntmps6
  go_upto_region 0 with (fail)
  refine wp_region_lit ?_
  refine sl_box hS rfl _ 23 (box_vec rfl rfl) ?_
  clear hS
  intro p wk hS
  refine sl_box hS rfl _ 23 (box_vec rfl rfl) ?_
  clear hS
  intro q wk hS
  go_upto_region 3 with (first | (refine sl_load hS rfl 23 _ rfl rfl (by repeat (first | exact Has.hd | apply Has.tl)) Try.underlying23 rfl (by exact infoV) ?_) | (refine sl_store hS rfl 23 _ _ rfl rfl rfl (by repeat (first | exact Rep.hd | apply Rep.tl)) (by exact infoV) (by rfl) (bs_one _) ?_; clear hS; intro wk hS) | (refine sl_box hS rfl _ 23 (box_vec rfl rfl) ?_; clear hS; intro bk wk hS) | (refine sl_box hS rfl _ 23 (alloc_vec rfl) ?_; clear hS; intro bk wk hS) | (refine onlyN_end ?_) | (refine onlyN_now ?_) | ((go_at_call 10); (with_reducible refine sl_call hS (awake _) ?_); clear hS; intro wk hS))
  refine wp_region_lit ?_
  refine wpList_build_at rfl 23 _ rfl (bs fun _ => 0) (by first | (simp only [List.map_toArray, List.map_nil]; kernel_rfl) | (simp only [Array.map_empty]; kernel_rfl)) ?_
  go_wp2_with (first | (refine sl_load hS rfl 23 _ rfl rfl (by repeat (first | exact Has.hd | apply Has.tl)) Try.underlying23 rfl (by exact infoV) ?_) | (refine sl_store hS rfl 23 _ _ rfl rfl rfl (by repeat (first | exact Rep.hd | apply Rep.tl)) (by exact infoV) (by rfl) (bs_one _) ?_; clear hS; intro wk hS) | (refine sl_box hS rfl _ 23 (box_vec rfl rfl) ?_; clear hS; intro bk wk hS) | (refine sl_box hS rfl _ 23 (alloc_vec rfl) ?_; clear hS; intro po wk hS) | (refine onlyN_end ?_) | (refine onlyN_now ?_) | ((go_at_call 17); (with_reducible refine sl_call hS (XN0.out _) ?_); clear hS; intro wk hS))
  go_loopw [6] (fun u wr => ∃ v : Int, (v = 64803 ∨ v = 64813 ∨ v = 64823 ∨ v = 64833) ∧ u = .int .i64 v ∧ St w [⟨po, bs on, 23⟩, ⟨q, bs b, 23⟩, ⟨p, bs a, 23⟩] wr) (fun u _ => (70000 - intOf u).toNat)
  case atStart => exact ⟨64803, by omega, rfl, hS⟩
  case round =>
    obtain ⟨v, hv, rfl, hS⟩ := hrel
    rcases hv with rfl | rfl | rfl | rfl
    · as_aux_lemma =>
      have C0 := fun w => cmp_C 64803 8 0 (by omega) (by decide) (by decide) (a := a) (b := b) HA.out HB.out w
      have C1 := fun w => cmp_C 64804 8 1 (by omega) (by decide) (by decide) (a := a) (b := b) HA.out HB.out w
      rw [ne_C (v := 8) (by omega) HA.out HB.out] at C1
      have C2 := fun w => cmp_C 64803 8 0 (by omega) (by decide) (by decide) (a := a) (b := a) HA.out HA.out w
      rw [eq_C (v := 8) (by omega) a, ← HON.out] at C2
      have N1 := fun w => not_any (C 8 0 a b) w
      obtain ⟨ne, hne⟩ : ∃ ne, ne = nt (C 8 0 a b) := ⟨_, rfl⟩
      rw [← hne] at C1 N1
      clear hne
      have XC0 := Lib.hid C0
      clear C0
      have XC1 := Lib.hid C1
      clear C1
      have XC2 := Lib.hid C2
      clear C2
      have XN1 := Lib.hid N1
      clear N1
      go_upto_region 8 with (first | (refine sl_load hS rfl 23 _ rfl rfl (by repeat (first | exact Has.hd | apply Has.tl)) Try.underlying23 rfl (by exact infoV) ?_) | (refine sl_store hS rfl 23 _ _ rfl rfl rfl (by repeat (first | exact Rep.hd | apply Rep.tl)) (by exact infoV) (by rfl) (bs_one _) ?_; clear hS; intro wk hS) | (refine sl_box hS rfl _ 23 (box_vec rfl rfl) ?_; clear hS; intro bk wk hS) | (refine sl_box hS rfl _ 23 (alloc_vec rfl) ?_; clear hS; intro pe wk hS) | (refine onlyN_end ?_) | (refine onlyN_now ?_) | ((go_at_call 18); (with_reducible refine sl_call hS (XC0.out _) ?_); clear hS; intro wk hS))
      have hw64804 : IntKind.i64.wrap 64804 = 64804 := by decide +kernel
      have hq1 := fun w => eq_same ne w
      have hq2 := fun w => eq_same on w
      refine sd_all hS (by kernel_rfl) (by kernel_rfl) ?_
      iterate 16 (refine sd_step (fun K hK => ?_); (first | (refine sd_load rfl 23 _ rfl rfl (by repeat (first | exact Has.hd | apply Has.tl)) Try.underlying23 rfl (by exact infoV) ?_) | (apply sd_yes rfl; focus (intro wx hx; go_simp; first | (apply sd_enter; first | fail | with_reducible exact XC0.out wx | with_reducible exact XC1.out wx | with_reducible exact XC2.out wx | with_reducible exact XN1.out wx) | exact ⟨rfl, Gr.refl _⟩)) | (refine sd_no rfl ?_)); go_simp; refine hK _ ?_; clear hK K)
      refine sd_nil ?_
      clear hS hq1 hq2 hw64804
      intro wk hS
      go_wp2_with (first | (refine sl_load hS rfl 23 _ rfl rfl (by repeat (first | exact Has.hd | apply Has.tl)) Try.underlying23 rfl (by exact infoV) ?_) | (refine sl_store hS rfl 23 _ _ rfl rfl rfl (by repeat (first | exact Rep.hd | apply Rep.tl)) (by exact infoV) (by rfl) (bs_one _) ?_; clear hS; intro wk hS) | (refine sl_box hS rfl _ 23 (box_vec rfl rfl) ?_; clear hS; intro bk wk hS) | (refine sl_box hS rfl _ 23 (alloc_vec rfl) ?_; clear hS; intro bk wk hS) | (refine onlyN_end ?_) | (refine onlyN_now ?_))
      go_loopw [9] (fun u wr => ∃ d : Int, (d = 0 ∨ d = 1 ∨ d = 2) ∧ u = .int .i64 d ∧ St w (⟨pe, bs (C 8 0 a b), 23⟩ :: [⟨po, bs on, 23⟩, ⟨q, bs b, 23⟩, ⟨p, bs a, 23⟩]) wr) (fun u _ => (4 - intOf u).toNat)
      case atStart => exact ⟨0, by omega, rfl, hS⟩
      case round =>
        obtain ⟨d, hd, rfl, hS⟩ := hrel
        rcases hd with rfl | rfl | rfl
        · have F := ordS (v := 8) (by omega) HA.out HB.out
          have E1 := fun w => cmp_C 64805 8 2 (by omega) (by decide) (by decide) (a := a) (b := b) HA.out HB.out w
          have E2 := fun w => cmp_C 64807 8 4 (by omega) (by decide) (by decide) (a := a) (b := b) HA.out HB.out w
          have E3 := fun w => cmp_C 64809 8 6 (by omega) (by decide) (by decide) (a := a) (b := b) HA.out HB.out w
          rw [F.g5] at E3
          have E4 := fun w => cmp_C 64811 8 8 (by omega) (by decide) (by decide) (a := a) (b := b) HA.out HB.out w
          rw [F.g6] at E4
          have E5 := fun w => cmp_C 64805 8 2 (by omega) (by decide) (by decide) (a := b) (b := a) HB.out HA.out w
          rw [F.g7] at E5
          have E6 := fun w => two_any 78 (by omega) (C 8 2 a b) (C 8 4 a b) w
          rw [show (64768 : Int) + 78 = 64846 from rfl, F.g1] at E6
          have E7 := fun w => two_any 78 (by omega) (C 8 2 a b) (C 8 0 a b) w
          rw [show (64768 : Int) + 78 = 64846 from rfl, F.g2] at E7
          have E8 := fun w => two_any 78 (by omega) (C 8 4 a b) (C 8 0 a b) w
          rw [show (64768 : Int) + 78 = 64846 from rfl, F.g3] at E8
          have E9 := fun w => two_any 80 (by omega) (C 8 2 a b) (C 8 4 a b) w
          have E10 := fun w => two_any 80 (by omega) (bw (64768 + 80) (C 8 2 a b) (C 8 4 a b)) (C 8 0 a b) w
          rw [show (64768 : Int) + 80 = 64848 from rfl] at E9 E10
          rw [F.g4, ← HON.out] at E10
          have E11 := fun w => not_any (C 8 4 a b) w
          have E12 := fun w => not_any (C 8 2 a b) w
          have HLT := Lib.hid (C_byt 8 2 a b)
          have HSG := Lib.hid (fun (j : Nat) (hj : thereB 8 j = true) => C_sgn (v := 8) (by omega) 2 a b hj)
          clear F
          generalize bw 64848 (C 8 2 a b) (C 8 4 a b) = xx at *
          generalize nt (C 8 4 a b) = ng at *
          generalize nt (C 8 2 a b) = nl at *
          generalize (C 8 2 a b) = lt at *
          generalize (C 8 4 a b) = gt at *
          obtain ⟨eq, heq⟩ : ∃ eq, eq = (C 8 0 a b) := ⟨_, rfl⟩
          rw [← heq] at E7 E8 E10 hS
          have XE1 := Lib.hid E1
          clear E1
          have XE2 := Lib.hid E2
          clear E2
          have XE3 := Lib.hid E3
          clear E3
          have XE4 := Lib.hid E4
          clear E4
          have XE5 := Lib.hid E5
          clear E5
          have XE6 := Lib.hid E6
          clear E6
          have XE7 := Lib.hid E7
          clear E7
          have XE8 := Lib.hid E8
          clear E8
          have XE9 := Lib.hid E9
          clear E9
          have XE10 := Lib.hid E10
          clear E10
          have XE11 := Lib.hid E11
          clear E11
          have XE12 := Lib.hid E12
          clear E12
          have HEQ := Lib.hid heq
          clear heq
          go_upto_region 15 with (first | (refine sl_load hS rfl 23 _ rfl rfl (by repeat (first | exact Has.hd | apply Has.tl)) Try.underlying23 rfl (by exact infoV) ?_) | (refine sl_store hS rfl 23 _ _ rfl rfl rfl (by repeat (first | exact Rep.hd | apply Rep.tl)) (by exact infoV) (by rfl) (bs_one _) ?_; clear hS; intro wk hS) | (refine sl_box hS rfl _ 23 (box_vec rfl rfl) ?_; clear hS; intro bk wk hS) | (refine sl_box hS rfl _ 23 (alloc_vec rfl) ?_; clear hS; intro pl wk hS) | (refine onlyN_end ?_) | (refine onlyN_now ?_) | ((go_at_call 18); (with_reducible refine sl_call hS (XE1.out _) ?_); clear hS; intro wk hS))
          go_upto_region 16 with (first | (refine sl_load hS rfl 23 _ rfl rfl (by repeat (first | exact Has.hd | apply Has.tl)) Try.underlying23 rfl (by exact infoV) ?_) | (refine sl_store hS rfl 23 _ _ rfl rfl rfl (by repeat (first | exact Rep.hd | apply Rep.tl)) (by exact infoV) (by rfl) (bs_one _) ?_; clear hS; intro wk hS) | (refine sl_box hS rfl _ 23 (box_vec rfl rfl) ?_; clear hS; intro bk wk hS) | (refine sl_box hS rfl _ 23 (alloc_vec rfl) ?_; clear hS; intro pg wk hS) | (refine onlyN_end ?_) | (refine onlyN_now ?_) | ((go_at_call 18); (with_reducible refine sl_call hS (XE2.out _) ?_); clear hS; intro wk hS))
          have hq1 := fun w => eq_same (fun _ => 0) w
          have hq2 := fun w => eq_same on w
          refine sd_all hS (by kernel_rfl) (by kernel_rfl) ?_
          iterate 28 (refine sd_step (fun K hK => ?_); (first | (refine sd_build rfl 23 _ rfl (bs fun _ => 0) (by first | (simp only [List.map_toArray, List.map_nil]; kernel_rfl) | (simp only [Array.map_empty]; kernel_rfl)) ?_) | (refine sd_load rfl 23 _ rfl rfl (by repeat (first | exact Has.hd | apply Has.tl)) Try.underlying23 rfl (by exact infoV) ?_) | (apply sd_yes rfl; focus (intro wx hx; go_simp; first | (apply sd_enter; first | fail | with_reducible exact XE6.out wx | with_reducible exact XE7.out wx | with_reducible exact XE8.out wx | with_reducible exact XE9.out wx | with_reducible exact XE10.out wx) | exact ⟨rfl, Gr.refl _⟩)) | (refine sd_no rfl ?_)); go_simp; refine hK _ ?_; clear hK K)
          refine sd_nil ?_
          clear hS hq1 hq2
          intro wk hS
          go_upto_region 18 with (first | (refine sl_load hS rfl 23 _ rfl rfl (by repeat (first | exact Has.hd | apply Has.tl)) Try.underlying23 rfl (by exact infoV) ?_) | (refine sl_store hS rfl 23 _ _ rfl rfl rfl (by repeat (first | exact Rep.hd | apply Rep.tl)) (by exact infoV) (by rfl) (bs_one _) ?_; clear hS; intro wk hS) | (refine sl_box hS rfl _ 23 (box_vec rfl rfl) ?_; clear hS; intro bk wk hS) | (refine sl_box hS rfl _ 23 (alloc_vec rfl) ?_; clear hS; intro bk wk hS) | (refine onlyN_end ?_) | (refine onlyN_now ?_))
          have hq1 := fun w => eq_same ng w
          have hq2 := fun w => eq_same nl w
          have hq3 := fun w => eq_same gt w
          have hw64805 : IntKind.i64.wrap 64805 = 64805 := by decide +kernel
          have hw64809 : IntKind.i64.wrap 64809 = 64809 := by decide +kernel
          have hw64811 : IntKind.i64.wrap 64811 = 64811 := by decide +kernel
          refine sd_all hS (by kernel_rfl) (by kernel_rfl) ?_
          iterate 33 (refine sd_step (fun K hK => ?_); (first | (refine sd_load rfl 23 _ rfl rfl (by repeat (first | exact Has.hd | apply Has.tl)) Try.underlying23 rfl (by exact infoV) ?_) | (apply sd_yes rfl; focus (intro wx hx; go_simp; first | (apply sd_enter; first | fail | with_reducible exact XE3.out wx | with_reducible exact XE4.out wx | with_reducible exact XE5.out wx | with_reducible exact XE11.out wx | with_reducible exact XE12.out wx) | exact ⟨rfl, Gr.refl _⟩)) | (refine sd_no rfl ?_)); go_simp; refine hK _ ?_; clear hK K)
          refine sd_nil ?_
          clear hS hq1 hq2 hq3 hw64805 hw64809 hw64811
          intro wk hS
          go_wp2_with (first | (refine sl_load hS rfl 23 _ rfl rfl (by repeat (first | exact Has.hd | apply Has.tl)) Try.underlying23 rfl (by exact infoV) ?_) | (refine sl_store hS rfl 23 _ _ rfl rfl rfl (by repeat (first | exact Rep.hd | apply Rep.tl)) (by exact infoV) (by rfl) (bs_one _) ?_; clear hS; intro wk hS) | (refine sl_box hS rfl _ 23 (box_vec rfl rfl) ?_; clear hS; intro bk wk hS) | (refine sl_box hS rfl _ 23 (alloc_vec rfl) ?_; clear hS; intro bk wk hS) | (refine onlyN_end ?_) | (refine onlyN_now ?_))
          go_loopw [12] (fun u wr => ∃ k : Nat, k ≤ 16 ∧ u = .int .i64 k ∧ St w (⟨pg, bs gt, 23⟩ :: ⟨pl, bs lt, 23⟩ :: ⟨pe, bs eq, 23⟩ :: [⟨po, bs on, 23⟩, ⟨q, bs b, 23⟩, ⟨p, bs a, 23⟩]) wr) (fun u _ => 16 - (intOf u).toNat)
          case atStart => exact ⟨0, by omega, rfl, hS⟩
          case round =>
            obtain ⟨k, hk, rfl, hS⟩ := hrel
            by_cases hlt : k < 16
            · have hj : thereB 8 k = true := there_iff.2 ⟨by omega, by show (k : Int) < 16; omega⟩
              have h1 := HSG.out k hj
              have E1 := fun w => signed_any lt HLT.out 8 k w
              rcases h1 with h1 | h1
              all_goals
                rw [h1] at E1
                clear h1
                have XE1 := Lib.hid E1
                clear E1
                go_wp2_with (first | (refine sl_load hS rfl 23 _ rfl rfl (by repeat (first | exact Has.hd | apply Has.tl)) Try.underlying23 rfl (by exact infoV) ?_) | (refine sl_store hS rfl 23 _ _ rfl rfl rfl (by repeat (first | exact Rep.hd | apply Rep.tl)) (by exact infoV) (by rfl) (bs_one _) ?_; clear hS; intro wk hS) | (refine sl_box hS rfl _ 23 (box_vec rfl rfl) ?_; clear hS; intro bk wk hS) | (refine sl_box hS rfl _ 23 (alloc_vec rfl) ?_; clear hS; intro bk wk hS) | (refine onlyN_end ?_) | (refine onlyN_now ?_) | ((go_at_call 20); (with_reducible refine sl_call hS (XE1.out _) ?_); clear hS; intro wk hS))
                exact ⟨⟨k + 1, by omega, by go_num, hS⟩, by simp [intOf]; omega⟩
            · obtain rfl : k = 16 := by omega
              rw [HEQ.out] at hS
              go_wp2_with (first | (refine sl_load hS rfl 23 _ rfl rfl (by repeat (first | exact Has.hd | apply Has.tl)) Try.underlying23 rfl (by exact infoV) ?_) | (refine sl_store hS rfl 23 _ _ rfl rfl rfl (by repeat (first | exact Rep.hd | apply Rep.tl)) (by exact infoV) (by rfl) (bs_one _) ?_; clear hS; intro wk hS) | (refine sl_box hS rfl _ 23 (box_vec rfl rfl) ?_; clear hS; intro bk wk hS) | (refine sl_box hS rfl _ 23 (alloc_vec rfl) ?_; clear hS; intro bk wk hS) | (refine onlyN_end ?_) | (refine onlyN_now ?_))
              exact ⟨⟨1, by omega, rfl, hS.tail.tail⟩, by simp [intOf]⟩
        · have F := ordU (v := 8) (by omega) HA.out HB.out
          have E1 := fun w => cmp_C 64806 8 3 (by omega) (by decide) (by decide) (a := a) (b := b) HA.out HB.out w
          have E2 := fun w => cmp_C 64808 8 5 (by omega) (by decide) (by decide) (a := a) (b := b) HA.out HB.out w
          have E3 := fun w => cmp_C 64810 8 7 (by omega) (by decide) (by decide) (a := a) (b := b) HA.out HB.out w
          rw [F.g5] at E3
          have E4 := fun w => cmp_C 64812 8 9 (by omega) (by decide) (by decide) (a := a) (b := b) HA.out HB.out w
          rw [F.g6] at E4
          have E5 := fun w => cmp_C 64806 8 3 (by omega) (by decide) (by decide) (a := b) (b := a) HB.out HA.out w
          rw [F.g7] at E5
          have E6 := fun w => two_any 78 (by omega) (C 8 3 a b) (C 8 5 a b) w
          rw [show (64768 : Int) + 78 = 64846 from rfl, F.g1] at E6
          have E7 := fun w => two_any 78 (by omega) (C 8 3 a b) (C 8 0 a b) w
          rw [show (64768 : Int) + 78 = 64846 from rfl, F.g2] at E7
          have E8 := fun w => two_any 78 (by omega) (C 8 5 a b) (C 8 0 a b) w
          rw [show (64768 : Int) + 78 = 64846 from rfl, F.g3] at E8
          have E9 := fun w => two_any 80 (by omega) (C 8 3 a b) (C 8 5 a b) w
          have E10 := fun w => two_any 80 (by omega) (bw (64768 + 80) (C 8 3 a b) (C 8 5 a b)) (C 8 0 a b) w
          rw [show (64768 : Int) + 80 = 64848 from rfl] at E9 E10
          rw [F.g4, ← HON.out] at E10
          have E11 := fun w => not_any (C 8 5 a b) w
          have E12 := fun w => not_any (C 8 3 a b) w
          have HLT := Lib.hid (C_byt 8 3 a b)
          have HSG := Lib.hid (fun (j : Nat) (hj : thereB 8 j = true) => C_sgn (v := 8) (by omega) 3 a b hj)
          clear F
          generalize bw 64848 (C 8 3 a b) (C 8 5 a b) = xx at *
          generalize nt (C 8 5 a b) = ng at *
          generalize nt (C 8 3 a b) = nl at *
          generalize (C 8 3 a b) = lt at *
          generalize (C 8 5 a b) = gt at *
          obtain ⟨eq, heq⟩ : ∃ eq, eq = (C 8 0 a b) := ⟨_, rfl⟩
          rw [← heq] at E7 E8 E10 hS
          have XE1 := Lib.hid E1
          clear E1
          have XE2 := Lib.hid E2
          clear E2
          have XE3 := Lib.hid E3
          clear E3
          have XE4 := Lib.hid E4
          clear E4
          have XE5 := Lib.hid E5
          clear E5
          have XE6 := Lib.hid E6
          clear E6
          have XE7 := Lib.hid E7
          clear E7
          have XE8 := Lib.hid E8
          clear E8
          have XE9 := Lib.hid E9
          clear E9
          have XE10 := Lib.hid E10
          clear E10
          have XE11 := Lib.hid E11
          clear E11
          have XE12 := Lib.hid E12
          clear E12
          have HEQ := Lib.hid heq
          clear heq
          go_upto_region 15 with (first | (refine sl_load hS rfl 23 _ rfl rfl (by repeat (first | exact Has.hd | apply Has.tl)) Try.underlying23 rfl (by exact infoV) ?_) | (refine sl_store hS rfl 23 _ _ rfl rfl rfl (by repeat (first | exact Rep.hd | apply Rep.tl)) (by exact infoV) (by rfl) (bs_one _) ?_; clear hS; intro wk hS) | (refine sl_box hS rfl _ 23 (box_vec rfl rfl) ?_; clear hS; intro bk wk hS) | (refine sl_box hS rfl _ 23 (alloc_vec rfl) ?_; clear hS; intro pl wk hS) | (refine onlyN_end ?_) | (refine onlyN_now ?_) | ((go_at_call 18); (with_reducible refine sl_call hS (XE1.out _) ?_); clear hS; intro wk hS))
          go_upto_region 16 with (first | (refine sl_load hS rfl 23 _ rfl rfl (by repeat (first | exact Has.hd | apply Has.tl)) Try.underlying23 rfl (by exact infoV) ?_) | (refine sl_store hS rfl 23 _ _ rfl rfl rfl (by repeat (first | exact Rep.hd | apply Rep.tl)) (by exact infoV) (by rfl) (bs_one _) ?_; clear hS; intro wk hS) | (refine sl_box hS rfl _ 23 (box_vec rfl rfl) ?_; clear hS; intro bk wk hS) | (refine sl_box hS rfl _ 23 (alloc_vec rfl) ?_; clear hS; intro pg wk hS) | (refine onlyN_end ?_) | (refine onlyN_now ?_) | ((go_at_call 18); (with_reducible refine sl_call hS (XE2.out _) ?_); clear hS; intro wk hS))
          have hq1 := fun w => eq_same (fun _ => 0) w
          have hq2 := fun w => eq_same on w
          refine sd_all hS (by kernel_rfl) (by kernel_rfl) ?_
          iterate 28 (refine sd_step (fun K hK => ?_); (first | (refine sd_build rfl 23 _ rfl (bs fun _ => 0) (by first | (simp only [List.map_toArray, List.map_nil]; kernel_rfl) | (simp only [Array.map_empty]; kernel_rfl)) ?_) | (refine sd_load rfl 23 _ rfl rfl (by repeat (first | exact Has.hd | apply Has.tl)) Try.underlying23 rfl (by exact infoV) ?_) | (apply sd_yes rfl; focus (intro wx hx; go_simp; first | (apply sd_enter; first | fail | with_reducible exact XE6.out wx | with_reducible exact XE7.out wx | with_reducible exact XE8.out wx | with_reducible exact XE9.out wx | with_reducible exact XE10.out wx) | exact ⟨rfl, Gr.refl _⟩)) | (refine sd_no rfl ?_)); go_simp; refine hK _ ?_; clear hK K)
          refine sd_nil ?_
          clear hS hq1 hq2
          intro wk hS
          go_upto_region 18 with (first | (refine sl_load hS rfl 23 _ rfl rfl (by repeat (first | exact Has.hd | apply Has.tl)) Try.underlying23 rfl (by exact infoV) ?_) | (refine sl_store hS rfl 23 _ _ rfl rfl rfl (by repeat (first | exact Rep.hd | apply Rep.tl)) (by exact infoV) (by rfl) (bs_one _) ?_; clear hS; intro wk hS) | (refine sl_box hS rfl _ 23 (box_vec rfl rfl) ?_; clear hS; intro bk wk hS) | (refine sl_box hS rfl _ 23 (alloc_vec rfl) ?_; clear hS; intro bk wk hS) | (refine onlyN_end ?_) | (refine onlyN_now ?_))
          have hq1 := fun w => eq_same ng w
          have hq2 := fun w => eq_same nl w
          have hq3 := fun w => eq_same gt w
          have hw64805 : IntKind.i64.wrap 64805 = 64805 := by decide +kernel
          have hw64806 : IntKind.i64.wrap 64806 = 64806 := by decide +kernel
          have hw64809 : IntKind.i64.wrap 64809 = 64809 := by decide +kernel
          have hw64810 : IntKind.i64.wrap 64810 = 64810 := by decide +kernel
          have hw64811 : IntKind.i64.wrap 64811 = 64811 := by decide +kernel
          have hw64812 : IntKind.i64.wrap 64812 = 64812 := by decide +kernel
          refine sd_all hS (by kernel_rfl) (by kernel_rfl) ?_
          iterate 33 (refine sd_step (fun K hK => ?_); (first | (refine sd_load rfl 23 _ rfl rfl (by repeat (first | exact Has.hd | apply Has.tl)) Try.underlying23 rfl (by exact infoV) ?_) | (apply sd_yes rfl; focus (intro wx hx; go_simp; first | (apply sd_enter; first | fail | with_reducible exact XE3.out wx | with_reducible exact XE4.out wx | with_reducible exact XE5.out wx | with_reducible exact XE11.out wx | with_reducible exact XE12.out wx) | exact ⟨rfl, Gr.refl _⟩)) | (refine sd_no rfl ?_)); go_simp; refine hK _ ?_; clear hK K)
          refine sd_nil ?_
          clear hS hq1 hq2 hq3 hw64805 hw64806 hw64809 hw64810 hw64811 hw64812
          intro wk hS
          go_wp2_with (first | (refine sl_load hS rfl 23 _ rfl rfl (by repeat (first | exact Has.hd | apply Has.tl)) Try.underlying23 rfl (by exact infoV) ?_) | (refine sl_store hS rfl 23 _ _ rfl rfl rfl (by repeat (first | exact Rep.hd | apply Rep.tl)) (by exact infoV) (by rfl) (bs_one _) ?_; clear hS; intro wk hS) | (refine sl_box hS rfl _ 23 (box_vec rfl rfl) ?_; clear hS; intro bk wk hS) | (refine sl_box hS rfl _ 23 (alloc_vec rfl) ?_; clear hS; intro bk wk hS) | (refine onlyN_end ?_) | (refine onlyN_now ?_))
          go_loopw [12] (fun u wr => ∃ k : Nat, k ≤ 16 ∧ u = .int .i64 k ∧ St w (⟨pg, bs gt, 23⟩ :: ⟨pl, bs lt, 23⟩ :: ⟨pe, bs eq, 23⟩ :: [⟨po, bs on, 23⟩, ⟨q, bs b, 23⟩, ⟨p, bs a, 23⟩]) wr) (fun u _ => 16 - (intOf u).toNat)
          case atStart => exact ⟨0, by omega, rfl, hS⟩
          case round =>
            obtain ⟨k, hk, rfl, hS⟩ := hrel
            by_cases hlt : k < 16
            · have hj : thereB 8 k = true := there_iff.2 ⟨by omega, by show (k : Int) < 16; omega⟩
              have h1 := HSG.out k hj
              have E1 := fun w => signed_any lt HLT.out 8 k w
              rcases h1 with h1 | h1
              all_goals
                rw [h1] at E1
                clear h1
                have XE1 := Lib.hid E1
                clear E1
                go_wp2_with (first | (refine sl_load hS rfl 23 _ rfl rfl (by repeat (first | exact Has.hd | apply Has.tl)) Try.underlying23 rfl (by exact infoV) ?_) | (refine sl_store hS rfl 23 _ _ rfl rfl rfl (by repeat (first | exact Rep.hd | apply Rep.tl)) (by exact infoV) (by rfl) (bs_one _) ?_; clear hS; intro wk hS) | (refine sl_box hS rfl _ 23 (box_vec rfl rfl) ?_; clear hS; intro bk wk hS) | (refine sl_box hS rfl _ 23 (alloc_vec rfl) ?_; clear hS; intro bk wk hS) | (refine onlyN_end ?_) | (refine onlyN_now ?_) | ((go_at_call 20); (with_reducible refine sl_call hS (XE1.out _) ?_); clear hS; intro wk hS))
                exact ⟨⟨k + 1, by omega, by go_num, hS⟩, by simp [intOf]; omega⟩
            · obtain rfl : k = 16 := by omega
              rw [HEQ.out] at hS
              go_wp2_with (first | (refine sl_load hS rfl 23 _ rfl rfl (by repeat (first | exact Has.hd | apply Has.tl)) Try.underlying23 rfl (by exact infoV) ?_) | (refine sl_store hS rfl 23 _ _ rfl rfl rfl (by repeat (first | exact Rep.hd | apply Rep.tl)) (by exact infoV) (by rfl) (bs_one _) ?_; clear hS; intro wk hS) | (refine sl_box hS rfl _ 23 (box_vec rfl rfl) ?_; clear hS; intro bk wk hS) | (refine sl_box hS rfl _ 23 (alloc_vec rfl) ?_; clear hS; intro bk wk hS) | (refine onlyN_end ?_) | (refine onlyN_now ?_))
              exact ⟨⟨2, by omega, rfl, hS.tail.tail⟩, by simp [intOf]⟩
        · go_wp2_with (first | (refine sl_load hS rfl 23 _ rfl rfl (by repeat (first | exact Has.hd | apply Has.tl)) Try.underlying23 rfl (by exact infoV) ?_) | (refine sl_store hS rfl 23 _ _ rfl rfl rfl (by repeat (first | exact Rep.hd | apply Rep.tl)) (by exact infoV) (by rfl) (bs_one _) ?_; clear hS; intro wk hS) | (refine sl_box hS rfl _ 23 (box_vec rfl rfl) ?_; clear hS; intro bk wk hS) | (refine sl_box hS rfl _ 23 (alloc_vec rfl) ?_; clear hS; intro bk wk hS) | (refine onlyN_end ?_) | (refine onlyN_now ?_))
          exact ⟨⟨64813, by omega, rfl, hS.tail⟩, by simp [intOf]⟩
    · as_aux_lemma =>
      have C0 := fun w => cmp_C 64813 16 0 (by omega) (by decide) (by decide) (a := a) (b := b) HA.out HB.out w
      have C1 := fun w => cmp_C 64814 16 1 (by omega) (by decide) (by decide) (a := a) (b := b) HA.out HB.out w
      rw [ne_C (v := 16) (by omega) HA.out HB.out] at C1
      have C2 := fun w => cmp_C 64813 16 0 (by omega) (by decide) (by decide) (a := a) (b := a) HA.out HA.out w
      rw [eq_C (v := 16) (by omega) a, ← HON.out] at C2
      have N1 := fun w => not_any (C 16 0 a b) w
      obtain ⟨ne, hne⟩ : ∃ ne, ne = nt (C 16 0 a b) := ⟨_, rfl⟩
      rw [← hne] at C1 N1
      clear hne
      have XC0 := Lib.hid C0
      clear C0
      have XC1 := Lib.hid C1
      clear C1
      have XC2 := Lib.hid C2
      clear C2
      have XN1 := Lib.hid N1
      clear N1
      go_upto_region 8 with (first | (refine sl_load hS rfl 23 _ rfl rfl (by repeat (first | exact Has.hd | apply Has.tl)) Try.underlying23 rfl (by exact infoV) ?_) | (refine sl_store hS rfl 23 _ _ rfl rfl rfl (by repeat (first | exact Rep.hd | apply Rep.tl)) (by exact infoV) (by rfl) (bs_one _) ?_; clear hS; intro wk hS) | (refine sl_box hS rfl _ 23 (box_vec rfl rfl) ?_; clear hS; intro bk wk hS) | (refine sl_box hS rfl _ 23 (alloc_vec rfl) ?_; clear hS; intro pe wk hS) | (refine onlyN_end ?_) | (refine onlyN_now ?_) | ((go_at_call 18); (with_reducible refine sl_call hS (XC0.out _) ?_); clear hS; intro wk hS))
      have hw64814 : IntKind.i64.wrap 64814 = 64814 := by decide +kernel
      have hq1 := fun w => eq_same ne w
      have hq2 := fun w => eq_same on w
      refine sd_all hS (by kernel_rfl) (by kernel_rfl) ?_
      iterate 16 (refine sd_step (fun K hK => ?_); (first | (refine sd_load rfl 23 _ rfl rfl (by repeat (first | exact Has.hd | apply Has.tl)) Try.underlying23 rfl (by exact infoV) ?_) | (apply sd_yes rfl; focus (intro wx hx; go_simp; first | (apply sd_enter; first | fail | with_reducible exact XC0.out wx | with_reducible exact XC1.out wx | with_reducible exact XC2.out wx | with_reducible exact XN1.out wx) | exact ⟨rfl, Gr.refl _⟩)) | (refine sd_no rfl ?_)); go_simp; refine hK _ ?_; clear hK K)
      refine sd_nil ?_
      clear hS hq1 hq2 hw64814
      intro wk hS
      go_wp2_with (first | (refine sl_load hS rfl 23 _ rfl rfl (by repeat (first | exact Has.hd | apply Has.tl)) Try.underlying23 rfl (by exact infoV) ?_) | (refine sl_store hS rfl 23 _ _ rfl rfl rfl (by repeat (first | exact Rep.hd | apply Rep.tl)) (by exact infoV) (by rfl) (bs_one _) ?_; clear hS; intro wk hS) | (refine sl_box hS rfl _ 23 (box_vec rfl rfl) ?_; clear hS; intro bk wk hS) | (refine sl_box hS rfl _ 23 (alloc_vec rfl) ?_; clear hS; intro bk wk hS) | (refine onlyN_end ?_) | (refine onlyN_now ?_))
      go_loopw [9] (fun u wr => ∃ d : Int, (d = 0 ∨ d = 1 ∨ d = 2) ∧ u = .int .i64 d ∧ St w (⟨pe, bs (C 16 0 a b), 23⟩ :: [⟨po, bs on, 23⟩, ⟨q, bs b, 23⟩, ⟨p, bs a, 23⟩]) wr) (fun u _ => (4 - intOf u).toNat)
      case atStart => exact ⟨0, by omega, rfl, hS⟩
      case round =>
        obtain ⟨d, hd, rfl, hS⟩ := hrel
        rcases hd with rfl | rfl | rfl
        · have F := ordS (v := 16) (by omega) HA.out HB.out
          have E1 := fun w => cmp_C 64815 16 2 (by omega) (by decide) (by decide) (a := a) (b := b) HA.out HB.out w
          have E2 := fun w => cmp_C 64817 16 4 (by omega) (by decide) (by decide) (a := a) (b := b) HA.out HB.out w
          have E3 := fun w => cmp_C 64819 16 6 (by omega) (by decide) (by decide) (a := a) (b := b) HA.out HB.out w
          rw [F.g5] at E3
          have E4 := fun w => cmp_C 64821 16 8 (by omega) (by decide) (by decide) (a := a) (b := b) HA.out HB.out w
          rw [F.g6] at E4
          have E5 := fun w => cmp_C 64815 16 2 (by omega) (by decide) (by decide) (a := b) (b := a) HB.out HA.out w
          rw [F.g7] at E5
          have E6 := fun w => two_any 78 (by omega) (C 16 2 a b) (C 16 4 a b) w
          rw [show (64768 : Int) + 78 = 64846 from rfl, F.g1] at E6
          have E7 := fun w => two_any 78 (by omega) (C 16 2 a b) (C 16 0 a b) w
          rw [show (64768 : Int) + 78 = 64846 from rfl, F.g2] at E7
          have E8 := fun w => two_any 78 (by omega) (C 16 4 a b) (C 16 0 a b) w
          rw [show (64768 : Int) + 78 = 64846 from rfl, F.g3] at E8
          have E9 := fun w => two_any 80 (by omega) (C 16 2 a b) (C 16 4 a b) w
          have E10 := fun w => two_any 80 (by omega) (bw (64768 + 80) (C 16 2 a b) (C 16 4 a b)) (C 16 0 a b) w
          rw [show (64768 : Int) + 80 = 64848 from rfl] at E9 E10
          rw [F.g4, ← HON.out] at E10
          have E11 := fun w => not_any (C 16 4 a b) w
          have E12 := fun w => not_any (C 16 2 a b) w
          have HLT := Lib.hid (C_byt 16 2 a b)
          have HSG := Lib.hid (fun (j : Nat) (hj : thereB 16 j = true) => C_sgn (v := 16) (by omega) 2 a b hj)
          clear F
          generalize bw 64848 (C 16 2 a b) (C 16 4 a b) = xx at *
          generalize nt (C 16 4 a b) = ng at *
          generalize nt (C 16 2 a b) = nl at *
          generalize (C 16 2 a b) = lt at *
          generalize (C 16 4 a b) = gt at *
          obtain ⟨eq, heq⟩ : ∃ eq, eq = (C 16 0 a b) := ⟨_, rfl⟩
          rw [← heq] at E7 E8 E10 hS
          have XE1 := Lib.hid E1
          clear E1
          have XE2 := Lib.hid E2
          clear E2
          have XE3 := Lib.hid E3
          clear E3
          have XE4 := Lib.hid E4
          clear E4
          have XE5 := Lib.hid E5
          clear E5
          have XE6 := Lib.hid E6
          clear E6
          have XE7 := Lib.hid E7
          clear E7
          have XE8 := Lib.hid E8
          clear E8
          have XE9 := Lib.hid E9
          clear E9
          have XE10 := Lib.hid E10
          clear E10
          have XE11 := Lib.hid E11
          clear E11
          have XE12 := Lib.hid E12
          clear E12
          have HEQ := Lib.hid heq
          clear heq
          go_upto_region 15 with (first | (refine sl_load hS rfl 23 _ rfl rfl (by repeat (first | exact Has.hd | apply Has.tl)) Try.underlying23 rfl (by exact infoV) ?_) | (refine sl_store hS rfl 23 _ _ rfl rfl rfl (by repeat (first | exact Rep.hd | apply Rep.tl)) (by exact infoV) (by rfl) (bs_one _) ?_; clear hS; intro wk hS) | (refine sl_box hS rfl _ 23 (box_vec rfl rfl) ?_; clear hS; intro bk wk hS) | (refine sl_box hS rfl _ 23 (alloc_vec rfl) ?_; clear hS; intro pl wk hS) | (refine onlyN_end ?_) | (refine onlyN_now ?_) | ((go_at_call 18); (with_reducible refine sl_call hS (XE1.out _) ?_); clear hS; intro wk hS))
          go_upto_region 16 with (first | (refine sl_load hS rfl 23 _ rfl rfl (by repeat (first | exact Has.hd | apply Has.tl)) Try.underlying23 rfl (by exact infoV) ?_) | (refine sl_store hS rfl 23 _ _ rfl rfl rfl (by repeat (first | exact Rep.hd | apply Rep.tl)) (by exact infoV) (by rfl) (bs_one _) ?_; clear hS; intro wk hS) | (refine sl_box hS rfl _ 23 (box_vec rfl rfl) ?_; clear hS; intro bk wk hS) | (refine sl_box hS rfl _ 23 (alloc_vec rfl) ?_; clear hS; intro pg wk hS) | (refine onlyN_end ?_) | (refine onlyN_now ?_) | ((go_at_call 18); (with_reducible refine sl_call hS (XE2.out _) ?_); clear hS; intro wk hS))
          have hq1 := fun w => eq_same (fun _ => 0) w
          have hq2 := fun w => eq_same on w
          refine sd_all hS (by kernel_rfl) (by kernel_rfl) ?_
          iterate 28 (refine sd_step (fun K hK => ?_); (first | (refine sd_build rfl 23 _ rfl (bs fun _ => 0) (by first | (simp only [List.map_toArray, List.map_nil]; kernel_rfl) | (simp only [Array.map_empty]; kernel_rfl)) ?_) | (refine sd_load rfl 23 _ rfl rfl (by repeat (first | exact Has.hd | apply Has.tl)) Try.underlying23 rfl (by exact infoV) ?_) | (apply sd_yes rfl; focus (intro wx hx; go_simp; first | (apply sd_enter; first | fail | with_reducible exact XE6.out wx | with_reducible exact XE7.out wx | with_reducible exact XE8.out wx | with_reducible exact XE9.out wx | with_reducible exact XE10.out wx) | exact ⟨rfl, Gr.refl _⟩)) | (refine sd_no rfl ?_)); go_simp; refine hK _ ?_; clear hK K)
          refine sd_nil ?_
          clear hS hq1 hq2
          intro wk hS
          go_upto_region 18 with (first | (refine sl_load hS rfl 23 _ rfl rfl (by repeat (first | exact Has.hd | apply Has.tl)) Try.underlying23 rfl (by exact infoV) ?_) | (refine sl_store hS rfl 23 _ _ rfl rfl rfl (by repeat (first | exact Rep.hd | apply Rep.tl)) (by exact infoV) (by rfl) (bs_one _) ?_; clear hS; intro wk hS) | (refine sl_box hS rfl _ 23 (box_vec rfl rfl) ?_; clear hS; intro bk wk hS) | (refine sl_box hS rfl _ 23 (alloc_vec rfl) ?_; clear hS; intro bk wk hS) | (refine onlyN_end ?_) | (refine onlyN_now ?_))
          have hq1 := fun w => eq_same ng w
          have hq2 := fun w => eq_same nl w
          have hq3 := fun w => eq_same gt w
          have hw64815 : IntKind.i64.wrap 64815 = 64815 := by decide +kernel
          have hw64819 : IntKind.i64.wrap 64819 = 64819 := by decide +kernel
          have hw64821 : IntKind.i64.wrap 64821 = 64821 := by decide +kernel
          refine sd_all hS (by kernel_rfl) (by kernel_rfl) ?_
          iterate 33 (refine sd_step (fun K hK => ?_); (first | (refine sd_load rfl 23 _ rfl rfl (by repeat (first | exact Has.hd | apply Has.tl)) Try.underlying23 rfl (by exact infoV) ?_) | (apply sd_yes rfl; focus (intro wx hx; go_simp; first | (apply sd_enter; first | fail | with_reducible exact XE3.out wx | with_reducible exact XE4.out wx | with_reducible exact XE5.out wx | with_reducible exact XE11.out wx | with_reducible exact XE12.out wx) | exact ⟨rfl, Gr.refl _⟩)) | (refine sd_no rfl ?_)); go_simp; refine hK _ ?_; clear hK K)
          refine sd_nil ?_
          clear hS hq1 hq2 hq3 hw64815 hw64819 hw64821
          intro wk hS
          go_wp2_with (first | (refine sl_load hS rfl 23 _ rfl rfl (by repeat (first | exact Has.hd | apply Has.tl)) Try.underlying23 rfl (by exact infoV) ?_) | (refine sl_store hS rfl 23 _ _ rfl rfl rfl (by repeat (first | exact Rep.hd | apply Rep.tl)) (by exact infoV) (by rfl) (bs_one _) ?_; clear hS; intro wk hS) | (refine sl_box hS rfl _ 23 (box_vec rfl rfl) ?_; clear hS; intro bk wk hS) | (refine sl_box hS rfl _ 23 (alloc_vec rfl) ?_; clear hS; intro bk wk hS) | (refine onlyN_end ?_) | (refine onlyN_now ?_))
          go_loopw [12] (fun u wr => ∃ k : Nat, k ≤ 8 ∧ u = .int .i64 k ∧ St w (⟨pg, bs gt, 23⟩ :: ⟨pl, bs lt, 23⟩ :: ⟨pe, bs eq, 23⟩ :: [⟨po, bs on, 23⟩, ⟨q, bs b, 23⟩, ⟨p, bs a, 23⟩]) wr) (fun u _ => 8 - (intOf u).toNat)
          case atStart => exact ⟨0, by omega, rfl, hS⟩
          case round =>
            obtain ⟨k, hk, rfl, hS⟩ := hrel
            by_cases hlt : k < 8
            · have hj : thereB 16 k = true := there_iff.2 ⟨by omega, by show (k : Int) < 8; omega⟩
              have h1 := HSG.out k hj
              have E1 := fun w => signed_any lt HLT.out 16 k w
              rcases h1 with h1 | h1
              all_goals
                rw [h1] at E1
                clear h1
                have XE1 := Lib.hid E1
                clear E1
                go_wp2_with (first | (refine sl_load hS rfl 23 _ rfl rfl (by repeat (first | exact Has.hd | apply Has.tl)) Try.underlying23 rfl (by exact infoV) ?_) | (refine sl_store hS rfl 23 _ _ rfl rfl rfl (by repeat (first | exact Rep.hd | apply Rep.tl)) (by exact infoV) (by rfl) (bs_one _) ?_; clear hS; intro wk hS) | (refine sl_box hS rfl _ 23 (box_vec rfl rfl) ?_; clear hS; intro bk wk hS) | (refine sl_box hS rfl _ 23 (alloc_vec rfl) ?_; clear hS; intro bk wk hS) | (refine onlyN_end ?_) | (refine onlyN_now ?_) | ((go_at_call 20); (with_reducible refine sl_call hS (XE1.out _) ?_); clear hS; intro wk hS))
                exact ⟨⟨k + 1, by omega, by go_num, hS⟩, by simp [intOf]; omega⟩
            · obtain rfl : k = 8 := by omega
              rw [HEQ.out] at hS
              go_wp2_with (first | (refine sl_load hS rfl 23 _ rfl rfl (by repeat (first | exact Has.hd | apply Has.tl)) Try.underlying23 rfl (by exact infoV) ?_) | (refine sl_store hS rfl 23 _ _ rfl rfl rfl (by repeat (first | exact Rep.hd | apply Rep.tl)) (by exact infoV) (by rfl) (bs_one _) ?_; clear hS; intro wk hS) | (refine sl_box hS rfl _ 23 (box_vec rfl rfl) ?_; clear hS; intro bk wk hS) | (refine sl_box hS rfl _ 23 (alloc_vec rfl) ?_; clear hS; intro bk wk hS) | (refine onlyN_end ?_) | (refine onlyN_now ?_))
              exact ⟨⟨1, by omega, rfl, hS.tail.tail⟩, by simp [intOf]⟩
        · have F := ordU (v := 16) (by omega) HA.out HB.out
          have E1 := fun w => cmp_C 64816 16 3 (by omega) (by decide) (by decide) (a := a) (b := b) HA.out HB.out w
          have E2 := fun w => cmp_C 64818 16 5 (by omega) (by decide) (by decide) (a := a) (b := b) HA.out HB.out w
          have E3 := fun w => cmp_C 64820 16 7 (by omega) (by decide) (by decide) (a := a) (b := b) HA.out HB.out w
          rw [F.g5] at E3
          have E4 := fun w => cmp_C 64822 16 9 (by omega) (by decide) (by decide) (a := a) (b := b) HA.out HB.out w
          rw [F.g6] at E4
          have E5 := fun w => cmp_C 64816 16 3 (by omega) (by decide) (by decide) (a := b) (b := a) HB.out HA.out w
          rw [F.g7] at E5
          have E6 := fun w => two_any 78 (by omega) (C 16 3 a b) (C 16 5 a b) w
          rw [show (64768 : Int) + 78 = 64846 from rfl, F.g1] at E6
          have E7 := fun w => two_any 78 (by omega) (C 16 3 a b) (C 16 0 a b) w
          rw [show (64768 : Int) + 78 = 64846 from rfl, F.g2] at E7
          have E8 := fun w => two_any 78 (by omega) (C 16 5 a b) (C 16 0 a b) w
          rw [show (64768 : Int) + 78 = 64846 from rfl, F.g3] at E8
          have E9 := fun w => two_any 80 (by omega) (C 16 3 a b) (C 16 5 a b) w
          have E10 := fun w => two_any 80 (by omega) (bw (64768 + 80) (C 16 3 a b) (C 16 5 a b)) (C 16 0 a b) w
          rw [show (64768 : Int) + 80 = 64848 from rfl] at E9 E10
          rw [F.g4, ← HON.out] at E10
          have E11 := fun w => not_any (C 16 5 a b) w
          have E12 := fun w => not_any (C 16 3 a b) w
          have HLT := Lib.hid (C_byt 16 3 a b)
          have HSG := Lib.hid (fun (j : Nat) (hj : thereB 16 j = true) => C_sgn (v := 16) (by omega) 3 a b hj)
          clear F
          generalize bw 64848 (C 16 3 a b) (C 16 5 a b) = xx at *
          generalize nt (C 16 5 a b) = ng at *
          generalize nt (C 16 3 a b) = nl at *
          generalize (C 16 3 a b) = lt at *
          generalize (C 16 5 a b) = gt at *
          obtain ⟨eq, heq⟩ : ∃ eq, eq = (C 16 0 a b) := ⟨_, rfl⟩
          rw [← heq] at E7 E8 E10 hS
          have XE1 := Lib.hid E1
          clear E1
          have XE2 := Lib.hid E2
          clear E2
          have XE3 := Lib.hid E3
          clear E3
          have XE4 := Lib.hid E4
          clear E4
          have XE5 := Lib.hid E5
          clear E5
          have XE6 := Lib.hid E6
          clear E6
          have XE7 := Lib.hid E7
          clear E7
          have XE8 := Lib.hid E8
          clear E8
          have XE9 := Lib.hid E9
          clear E9
          have XE10 := Lib.hid E10
          clear E10
          have XE11 := Lib.hid E11
          clear E11
          have XE12 := Lib.hid E12
          clear E12
          have HEQ := Lib.hid heq
          clear heq
          go_upto_region 15 with (first | (refine sl_load hS rfl 23 _ rfl rfl (by repeat (first | exact Has.hd | apply Has.tl)) Try.underlying23 rfl (by exact infoV) ?_) | (refine sl_store hS rfl 23 _ _ rfl rfl rfl (by repeat (first | exact Rep.hd | apply Rep.tl)) (by exact infoV) (by rfl) (bs_one _) ?_; clear hS; intro wk hS) | (refine sl_box hS rfl _ 23 (box_vec rfl rfl) ?_; clear hS; intro bk wk hS) | (refine sl_box hS rfl _ 23 (alloc_vec rfl) ?_; clear hS; intro pl wk hS) | (refine onlyN_end ?_) | (refine onlyN_now ?_) | ((go_at_call 18); (with_reducible refine sl_call hS (XE1.out _) ?_); clear hS; intro wk hS))
          go_upto_region 16 with (first | (refine sl_load hS rfl 23 _ rfl rfl (by repeat (first | exact Has.hd | apply Has.tl)) Try.underlying23 rfl (by exact infoV) ?_) | (refine sl_store hS rfl 23 _ _ rfl rfl rfl (by repeat (first | exact Rep.hd | apply Rep.tl)) (by exact infoV) (by rfl) (bs_one _) ?_; clear hS; intro wk hS) | (refine sl_box hS rfl _ 23 (box_vec rfl rfl) ?_; clear hS; intro bk wk hS) | (refine sl_box hS rfl _ 23 (alloc_vec rfl) ?_; clear hS; intro pg wk hS) | (refine onlyN_end ?_) | (refine onlyN_now ?_) | ((go_at_call 18); (with_reducible refine sl_call hS (XE2.out _) ?_); clear hS; intro wk hS))
          have hq1 := fun w => eq_same (fun _ => 0) w
          have hq2 := fun w => eq_same on w
          refine sd_all hS (by kernel_rfl) (by kernel_rfl) ?_
          iterate 28 (refine sd_step (fun K hK => ?_); (first | (refine sd_build rfl 23 _ rfl (bs fun _ => 0) (by first | (simp only [List.map_toArray, List.map_nil]; kernel_rfl) | (simp only [Array.map_empty]; kernel_rfl)) ?_) | (refine sd_load rfl 23 _ rfl rfl (by repeat (first | exact Has.hd | apply Has.tl)) Try.underlying23 rfl (by exact infoV) ?_) | (apply sd_yes rfl; focus (intro wx hx; go_simp; first | (apply sd_enter; first | fail | with_reducible exact XE6.out wx | with_reducible exact XE7.out wx | with_reducible exact XE8.out wx | with_reducible exact XE9.out wx | with_reducible exact XE10.out wx) | exact ⟨rfl, Gr.refl _⟩)) | (refine sd_no rfl ?_)); go_simp; refine hK _ ?_; clear hK K)
          refine sd_nil ?_
          clear hS hq1 hq2
          intro wk hS
          go_upto_region 18 with (first | (refine sl_load hS rfl 23 _ rfl rfl (by repeat (first | exact Has.hd | apply Has.tl)) Try.underlying23 rfl (by exact infoV) ?_) | (refine sl_store hS rfl 23 _ _ rfl rfl rfl (by repeat (first | exact Rep.hd | apply Rep.tl)) (by exact infoV) (by rfl) (bs_one _) ?_; clear hS; intro wk hS) | (refine sl_box hS rfl _ 23 (box_vec rfl rfl) ?_; clear hS; intro bk wk hS) | (refine sl_box hS rfl _ 23 (alloc_vec rfl) ?_; clear hS; intro bk wk hS) | (refine onlyN_end ?_) | (refine onlyN_now ?_))
          have hq1 := fun w => eq_same ng w
          have hq2 := fun w => eq_same nl w
          have hq3 := fun w => eq_same gt w
          have hw64815 : IntKind.i64.wrap 64815 = 64815 := by decide +kernel
          have hw64816 : IntKind.i64.wrap 64816 = 64816 := by decide +kernel
          have hw64819 : IntKind.i64.wrap 64819 = 64819 := by decide +kernel
          have hw64820 : IntKind.i64.wrap 64820 = 64820 := by decide +kernel
          have hw64821 : IntKind.i64.wrap 64821 = 64821 := by decide +kernel
          have hw64822 : IntKind.i64.wrap 64822 = 64822 := by decide +kernel
          refine sd_all hS (by kernel_rfl) (by kernel_rfl) ?_
          iterate 33 (refine sd_step (fun K hK => ?_); (first | (refine sd_load rfl 23 _ rfl rfl (by repeat (first | exact Has.hd | apply Has.tl)) Try.underlying23 rfl (by exact infoV) ?_) | (apply sd_yes rfl; focus (intro wx hx; go_simp; first | (apply sd_enter; first | fail | with_reducible exact XE3.out wx | with_reducible exact XE4.out wx | with_reducible exact XE5.out wx | with_reducible exact XE11.out wx | with_reducible exact XE12.out wx) | exact ⟨rfl, Gr.refl _⟩)) | (refine sd_no rfl ?_)); go_simp; refine hK _ ?_; clear hK K)
          refine sd_nil ?_
          clear hS hq1 hq2 hq3 hw64815 hw64816 hw64819 hw64820 hw64821 hw64822
          intro wk hS
          go_wp2_with (first | (refine sl_load hS rfl 23 _ rfl rfl (by repeat (first | exact Has.hd | apply Has.tl)) Try.underlying23 rfl (by exact infoV) ?_) | (refine sl_store hS rfl 23 _ _ rfl rfl rfl (by repeat (first | exact Rep.hd | apply Rep.tl)) (by exact infoV) (by rfl) (bs_one _) ?_; clear hS; intro wk hS) | (refine sl_box hS rfl _ 23 (box_vec rfl rfl) ?_; clear hS; intro bk wk hS) | (refine sl_box hS rfl _ 23 (alloc_vec rfl) ?_; clear hS; intro bk wk hS) | (refine onlyN_end ?_) | (refine onlyN_now ?_))
          go_loopw [12] (fun u wr => ∃ k : Nat, k ≤ 8 ∧ u = .int .i64 k ∧ St w (⟨pg, bs gt, 23⟩ :: ⟨pl, bs lt, 23⟩ :: ⟨pe, bs eq, 23⟩ :: [⟨po, bs on, 23⟩, ⟨q, bs b, 23⟩, ⟨p, bs a, 23⟩]) wr) (fun u _ => 8 - (intOf u).toNat)
          case atStart => exact ⟨0, by omega, rfl, hS⟩
          case round =>
            obtain ⟨k, hk, rfl, hS⟩ := hrel
            by_cases hlt : k < 8
            · have hj : thereB 16 k = true := there_iff.2 ⟨by omega, by show (k : Int) < 8; omega⟩
              have h1 := HSG.out k hj
              have E1 := fun w => signed_any lt HLT.out 16 k w
              rcases h1 with h1 | h1
              all_goals
                rw [h1] at E1
                clear h1
                have XE1 := Lib.hid E1
                clear E1
                go_wp2_with (first | (refine sl_load hS rfl 23 _ rfl rfl (by repeat (first | exact Has.hd | apply Has.tl)) Try.underlying23 rfl (by exact infoV) ?_) | (refine sl_store hS rfl 23 _ _ rfl rfl rfl (by repeat (first | exact Rep.hd | apply Rep.tl)) (by exact infoV) (by rfl) (bs_one _) ?_; clear hS; intro wk hS) | (refine sl_box hS rfl _ 23 (box_vec rfl rfl) ?_; clear hS; intro bk wk hS) | (refine sl_box hS rfl _ 23 (alloc_vec rfl) ?_; clear hS; intro bk wk hS) | (refine onlyN_end ?_) | (refine onlyN_now ?_) | ((go_at_call 20); (with_reducible refine sl_call hS (XE1.out _) ?_); clear hS; intro wk hS))
                exact ⟨⟨k + 1, by omega, by go_num, hS⟩, by simp [intOf]; omega⟩
            · obtain rfl : k = 8 := by omega
              rw [HEQ.out] at hS
              go_wp2_with (first | (refine sl_load hS rfl 23 _ rfl rfl (by repeat (first | exact Has.hd | apply Has.tl)) Try.underlying23 rfl (by exact infoV) ?_) | (refine sl_store hS rfl 23 _ _ rfl rfl rfl (by repeat (first | exact Rep.hd | apply Rep.tl)) (by exact infoV) (by rfl) (bs_one _) ?_; clear hS; intro wk hS) | (refine sl_box hS rfl _ 23 (box_vec rfl rfl) ?_; clear hS; intro bk wk hS) | (refine sl_box hS rfl _ 23 (alloc_vec rfl) ?_; clear hS; intro bk wk hS) | (refine onlyN_end ?_) | (refine onlyN_now ?_))
              exact ⟨⟨2, by omega, rfl, hS.tail.tail⟩, by simp [intOf]⟩
        · go_wp2_with (first | (refine sl_load hS rfl 23 _ rfl rfl (by repeat (first | exact Has.hd | apply Has.tl)) Try.underlying23 rfl (by exact infoV) ?_) | (refine sl_store hS rfl 23 _ _ rfl rfl rfl (by repeat (first | exact Rep.hd | apply Rep.tl)) (by exact infoV) (by rfl) (bs_one _) ?_; clear hS; intro wk hS) | (refine sl_box hS rfl _ 23 (box_vec rfl rfl) ?_; clear hS; intro bk wk hS) | (refine sl_box hS rfl _ 23 (alloc_vec rfl) ?_; clear hS; intro bk wk hS) | (refine onlyN_end ?_) | (refine onlyN_now ?_))
          exact ⟨⟨64823, by omega, rfl, hS.tail⟩, by simp [intOf]⟩
    · as_aux_lemma =>
      have C0 := fun w => cmp_C 64823 32 0 (by omega) (by decide) (by decide) (a := a) (b := b) HA.out HB.out w
      have C1 := fun w => cmp_C 64824 32 1 (by omega) (by decide) (by decide) (a := a) (b := b) HA.out HB.out w
      rw [ne_C (v := 32) (by omega) HA.out HB.out] at C1
      have C2 := fun w => cmp_C 64823 32 0 (by omega) (by decide) (by decide) (a := a) (b := a) HA.out HA.out w
      rw [eq_C (v := 32) (by omega) a, ← HON.out] at C2
      have N1 := fun w => not_any (C 32 0 a b) w
      obtain ⟨ne, hne⟩ : ∃ ne, ne = nt (C 32 0 a b) := ⟨_, rfl⟩
      rw [← hne] at C1 N1
      clear hne
      have XC0 := Lib.hid C0
      clear C0
      have XC1 := Lib.hid C1
      clear C1
      have XC2 := Lib.hid C2
      clear C2
      have XN1 := Lib.hid N1
      clear N1
      go_upto_region 8 with (first | (refine sl_load hS rfl 23 _ rfl rfl (by repeat (first | exact Has.hd | apply Has.tl)) Try.underlying23 rfl (by exact infoV) ?_) | (refine sl_store hS rfl 23 _ _ rfl rfl rfl (by repeat (first | exact Rep.hd | apply Rep.tl)) (by exact infoV) (by rfl) (bs_one _) ?_; clear hS; intro wk hS) | (refine sl_box hS rfl _ 23 (box_vec rfl rfl) ?_; clear hS; intro bk wk hS) | (refine sl_box hS rfl _ 23 (alloc_vec rfl) ?_; clear hS; intro pe wk hS) | (refine onlyN_end ?_) | (refine onlyN_now ?_) | ((go_at_call 18); (with_reducible refine sl_call hS (XC0.out _) ?_); clear hS; intro wk hS))
      have hw64824 : IntKind.i64.wrap 64824 = 64824 := by decide +kernel
      have hq1 := fun w => eq_same ne w
      have hq2 := fun w => eq_same on w
      refine sd_all hS (by kernel_rfl) (by kernel_rfl) ?_
      iterate 16 (refine sd_step (fun K hK => ?_); (first | (refine sd_load rfl 23 _ rfl rfl (by repeat (first | exact Has.hd | apply Has.tl)) Try.underlying23 rfl (by exact infoV) ?_) | (apply sd_yes rfl; focus (intro wx hx; go_simp; first | (apply sd_enter; first | fail | with_reducible exact XC0.out wx | with_reducible exact XC1.out wx | with_reducible exact XC2.out wx | with_reducible exact XN1.out wx) | exact ⟨rfl, Gr.refl _⟩)) | (refine sd_no rfl ?_)); go_simp; refine hK _ ?_; clear hK K)
      refine sd_nil ?_
      clear hS hq1 hq2 hw64824
      intro wk hS
      go_wp2_with (first | (refine sl_load hS rfl 23 _ rfl rfl (by repeat (first | exact Has.hd | apply Has.tl)) Try.underlying23 rfl (by exact infoV) ?_) | (refine sl_store hS rfl 23 _ _ rfl rfl rfl (by repeat (first | exact Rep.hd | apply Rep.tl)) (by exact infoV) (by rfl) (bs_one _) ?_; clear hS; intro wk hS) | (refine sl_box hS rfl _ 23 (box_vec rfl rfl) ?_; clear hS; intro bk wk hS) | (refine sl_box hS rfl _ 23 (alloc_vec rfl) ?_; clear hS; intro bk wk hS) | (refine onlyN_end ?_) | (refine onlyN_now ?_))
      go_loopw [9] (fun u wr => ∃ d : Int, (d = 0 ∨ d = 1 ∨ d = 2) ∧ u = .int .i64 d ∧ St w (⟨pe, bs (C 32 0 a b), 23⟩ :: [⟨po, bs on, 23⟩, ⟨q, bs b, 23⟩, ⟨p, bs a, 23⟩]) wr) (fun u _ => (4 - intOf u).toNat)
      case atStart => exact ⟨0, by omega, rfl, hS⟩
      case round =>
        obtain ⟨d, hd, rfl, hS⟩ := hrel
        rcases hd with rfl | rfl | rfl
        · have F := ordS (v := 32) (by omega) HA.out HB.out
          have E1 := fun w => cmp_C 64825 32 2 (by omega) (by decide) (by decide) (a := a) (b := b) HA.out HB.out w
          have E2 := fun w => cmp_C 64827 32 4 (by omega) (by decide) (by decide) (a := a) (b := b) HA.out HB.out w
          have E3 := fun w => cmp_C 64829 32 6 (by omega) (by decide) (by decide) (a := a) (b := b) HA.out HB.out w
          rw [F.g5] at E3
          have E4 := fun w => cmp_C 64831 32 8 (by omega) (by decide) (by decide) (a := a) (b := b) HA.out HB.out w
          rw [F.g6] at E4
          have E5 := fun w => cmp_C 64825 32 2 (by omega) (by decide) (by decide) (a := b) (b := a) HB.out HA.out w
          rw [F.g7] at E5
          have E6 := fun w => two_any 78 (by omega) (C 32 2 a b) (C 32 4 a b) w
          rw [show (64768 : Int) + 78 = 64846 from rfl, F.g1] at E6
          have E7 := fun w => two_any 78 (by omega) (C 32 2 a b) (C 32 0 a b) w
          rw [show (64768 : Int) + 78 = 64846 from rfl, F.g2] at E7
          have E8 := fun w => two_any 78 (by omega) (C 32 4 a b) (C 32 0 a b) w
          rw [show (64768 : Int) + 78 = 64846 from rfl, F.g3] at E8
          have E9 := fun w => two_any 80 (by omega) (C 32 2 a b) (C 32 4 a b) w
          have E10 := fun w => two_any 80 (by omega) (bw (64768 + 80) (C 32 2 a b) (C 32 4 a b)) (C 32 0 a b) w
          rw [show (64768 : Int) + 80 = 64848 from rfl] at E9 E10
          rw [F.g4, ← HON.out] at E10
          have E11 := fun w => not_any (C 32 4 a b) w
          have E12 := fun w => not_any (C 32 2 a b) w
          have HLT := Lib.hid (C_byt 32 2 a b)
          have HSG := Lib.hid (fun (j : Nat) (hj : thereB 32 j = true) => C_sgn (v := 32) (by omega) 2 a b hj)
          clear F
          generalize bw 64848 (C 32 2 a b) (C 32 4 a b) = xx at *
          generalize nt (C 32 4 a b) = ng at *
          generalize nt (C 32 2 a b) = nl at *
          generalize (C 32 2 a b) = lt at *
          generalize (C 32 4 a b) = gt at *
          obtain ⟨eq, heq⟩ : ∃ eq, eq = (C 32 0 a b) := ⟨_, rfl⟩
          rw [← heq] at E7 E8 E10 hS
          have XE1 := Lib.hid E1
          clear E1
          have XE2 := Lib.hid E2
          clear E2
          have XE3 := Lib.hid E3
          clear E3
          have XE4 := Lib.hid E4
          clear E4
          have XE5 := Lib.hid E5
          clear E5
          have XE6 := Lib.hid E6
          clear E6
          have XE7 := Lib.hid E7
          clear E7
          have XE8 := Lib.hid E8
          clear E8
          have XE9 := Lib.hid E9
          clear E9
          have XE10 := Lib.hid E10
          clear E10
          have XE11 := Lib.hid E11
          clear E11
          have XE12 := Lib.hid E12
          clear E12
          have HEQ := Lib.hid heq
          clear heq
          go_upto_region 15 with (first | (refine sl_load hS rfl 23 _ rfl rfl (by repeat (first | exact Has.hd | apply Has.tl)) Try.underlying23 rfl (by exact infoV) ?_) | (refine sl_store hS rfl 23 _ _ rfl rfl rfl (by repeat (first | exact Rep.hd | apply Rep.tl)) (by exact infoV) (by rfl) (bs_one _) ?_; clear hS; intro wk hS) | (refine sl_box hS rfl _ 23 (box_vec rfl rfl) ?_; clear hS; intro bk wk hS) | (refine sl_box hS rfl _ 23 (alloc_vec rfl) ?_; clear hS; intro pl wk hS) | (refine onlyN_end ?_) | (refine onlyN_now ?_) | ((go_at_call 18); (with_reducible refine sl_call hS (XE1.out _) ?_); clear hS; intro wk hS))
          go_upto_region 16 with (first | (refine sl_load hS rfl 23 _ rfl rfl (by repeat (first | exact Has.hd | apply Has.tl)) Try.underlying23 rfl (by exact infoV) ?_) | (refine sl_store hS rfl 23 _ _ rfl rfl rfl (by repeat (first | exact Rep.hd | apply Rep.tl)) (by exact infoV) (by rfl) (bs_one _) ?_; clear hS; intro wk hS) | (refine sl_box hS rfl _ 23 (box_vec rfl rfl) ?_; clear hS; intro bk wk hS) | (refine sl_box hS rfl _ 23 (alloc_vec rfl) ?_; clear hS; intro pg wk hS) | (refine onlyN_end ?_) | (refine onlyN_now ?_) | ((go_at_call 18); (with_reducible refine sl_call hS (XE2.out _) ?_); clear hS; intro wk hS))
          have hq1 := fun w => eq_same (fun _ => 0) w
          have hq2 := fun w => eq_same on w
          refine sd_all hS (by kernel_rfl) (by kernel_rfl) ?_
          iterate 28 (refine sd_step (fun K hK => ?_); (first | (refine sd_build rfl 23 _ rfl (bs fun _ => 0) (by first | (simp only [List.map_toArray, List.map_nil]; kernel_rfl) | (simp only [Array.map_empty]; kernel_rfl)) ?_) | (refine sd_load rfl 23 _ rfl rfl (by repeat (first | exact Has.hd | apply Has.tl)) Try.underlying23 rfl (by exact infoV) ?_) | (apply sd_yes rfl; focus (intro wx hx; go_simp; first | (apply sd_enter; first | fail | with_reducible exact XE6.out wx | with_reducible exact XE7.out wx | with_reducible exact XE8.out wx | with_reducible exact XE9.out wx | with_reducible exact XE10.out wx) | exact ⟨rfl, Gr.refl _⟩)) | (refine sd_no rfl ?_)); go_simp; refine hK _ ?_; clear hK K)
          refine sd_nil ?_
          clear hS hq1 hq2
          intro wk hS
          go_upto_region 18 with (first | (refine sl_load hS rfl 23 _ rfl rfl (by repeat (first | exact Has.hd | apply Has.tl)) Try.underlying23 rfl (by exact infoV) ?_) | (refine sl_store hS rfl 23 _ _ rfl rfl rfl (by repeat (first | exact Rep.hd | apply Rep.tl)) (by exact infoV) (by rfl) (bs_one _) ?_; clear hS; intro wk hS) | (refine sl_box hS rfl _ 23 (box_vec rfl rfl) ?_; clear hS; intro bk wk hS) | (refine sl_box hS rfl _ 23 (alloc_vec rfl) ?_; clear hS; intro bk wk hS) | (refine onlyN_end ?_) | (refine onlyN_now ?_))
          have hq1 := fun w => eq_same ng w
          have hq2 := fun w => eq_same nl w
          have hq3 := fun w => eq_same gt w
          have hw64825 : IntKind.i64.wrap 64825 = 64825 := by decide +kernel
          have hw64829 : IntKind.i64.wrap 64829 = 64829 := by decide +kernel
          have hw64831 : IntKind.i64.wrap 64831 = 64831 := by decide +kernel
          refine sd_all hS (by kernel_rfl) (by kernel_rfl) ?_
          iterate 33 (refine sd_step (fun K hK => ?_); (first | (refine sd_load rfl 23 _ rfl rfl (by repeat (first | exact Has.hd | apply Has.tl)) Try.underlying23 rfl (by exact infoV) ?_) | (apply sd_yes rfl; focus (intro wx hx; go_simp; first | (apply sd_enter; first | fail | with_reducible exact XE3.out wx | with_reducible exact XE4.out wx | with_reducible exact XE5.out wx | with_reducible exact XE11.out wx | with_reducible exact XE12.out wx) | exact ⟨rfl, Gr.refl _⟩)) | (refine sd_no rfl ?_)); go_simp; refine hK _ ?_; clear hK K)
          refine sd_nil ?_
          clear hS hq1 hq2 hq3 hw64825 hw64829 hw64831
          intro wk hS
          go_wp2_with (first | (refine sl_load hS rfl 23 _ rfl rfl (by repeat (first | exact Has.hd | apply Has.tl)) Try.underlying23 rfl (by exact infoV) ?_) | (refine sl_store hS rfl 23 _ _ rfl rfl rfl (by repeat (first | exact Rep.hd | apply Rep.tl)) (by exact infoV) (by rfl) (bs_one _) ?_; clear hS; intro wk hS) | (refine sl_box hS rfl _ 23 (box_vec rfl rfl) ?_; clear hS; intro bk wk hS) | (refine sl_box hS rfl _ 23 (alloc_vec rfl) ?_; clear hS; intro bk wk hS) | (refine onlyN_end ?_) | (refine onlyN_now ?_))
          go_loopw [12] (fun u wr => ∃ k : Nat, k ≤ 4 ∧ u = .int .i64 k ∧ St w (⟨pg, bs gt, 23⟩ :: ⟨pl, bs lt, 23⟩ :: ⟨pe, bs eq, 23⟩ :: [⟨po, bs on, 23⟩, ⟨q, bs b, 23⟩, ⟨p, bs a, 23⟩]) wr) (fun u _ => 4 - (intOf u).toNat)
          case atStart => exact ⟨0, by omega, rfl, hS⟩
          case round =>
            obtain ⟨k, hk, rfl, hS⟩ := hrel
            by_cases hlt : k < 4
            · have hj : thereB 32 k = true := there_iff.2 ⟨by omega, by show (k : Int) < 4; omega⟩
              have h1 := HSG.out k hj
              have E1 := fun w => signed_any lt HLT.out 32 k w
              rcases h1 with h1 | h1
              all_goals
                rw [h1] at E1
                clear h1
                have XE1 := Lib.hid E1
                clear E1
                go_wp2_with (first | (refine sl_load hS rfl 23 _ rfl rfl (by repeat (first | exact Has.hd | apply Has.tl)) Try.underlying23 rfl (by exact infoV) ?_) | (refine sl_store hS rfl 23 _ _ rfl rfl rfl (by repeat (first | exact Rep.hd | apply Rep.tl)) (by exact infoV) (by rfl) (bs_one _) ?_; clear hS; intro wk hS) | (refine sl_box hS rfl _ 23 (box_vec rfl rfl) ?_; clear hS; intro bk wk hS) | (refine sl_box hS rfl _ 23 (alloc_vec rfl) ?_; clear hS; intro bk wk hS) | (refine onlyN_end ?_) | (refine onlyN_now ?_) | ((go_at_call 20); (with_reducible refine sl_call hS (XE1.out _) ?_); clear hS; intro wk hS))
                exact ⟨⟨k + 1, by omega, by go_num, hS⟩, by simp [intOf]; omega⟩
            · obtain rfl : k = 4 := by omega
              rw [HEQ.out] at hS
              go_wp2_with (first | (refine sl_load hS rfl 23 _ rfl rfl (by repeat (first | exact Has.hd | apply Has.tl)) Try.underlying23 rfl (by exact infoV) ?_) | (refine sl_store hS rfl 23 _ _ rfl rfl rfl (by repeat (first | exact Rep.hd | apply Rep.tl)) (by exact infoV) (by rfl) (bs_one _) ?_; clear hS; intro wk hS) | (refine sl_box hS rfl _ 23 (box_vec rfl rfl) ?_; clear hS; intro bk wk hS) | (refine sl_box hS rfl _ 23 (alloc_vec rfl) ?_; clear hS; intro bk wk hS) | (refine onlyN_end ?_) | (refine onlyN_now ?_))
              exact ⟨⟨1, by omega, rfl, hS.tail.tail⟩, by simp [intOf]⟩
        · have F := ordU (v := 32) (by omega) HA.out HB.out
          have E1 := fun w => cmp_C 64826 32 3 (by omega) (by decide) (by decide) (a := a) (b := b) HA.out HB.out w
          have E2 := fun w => cmp_C 64828 32 5 (by omega) (by decide) (by decide) (a := a) (b := b) HA.out HB.out w
          have E3 := fun w => cmp_C 64830 32 7 (by omega) (by decide) (by decide) (a := a) (b := b) HA.out HB.out w
          rw [F.g5] at E3
          have E4 := fun w => cmp_C 64832 32 9 (by omega) (by decide) (by decide) (a := a) (b := b) HA.out HB.out w
          rw [F.g6] at E4
          have E5 := fun w => cmp_C 64826 32 3 (by omega) (by decide) (by decide) (a := b) (b := a) HB.out HA.out w
          rw [F.g7] at E5
          have E6 := fun w => two_any 78 (by omega) (C 32 3 a b) (C 32 5 a b) w
          rw [show (64768 : Int) + 78 = 64846 from rfl, F.g1] at E6
          have E7 := fun w => two_any 78 (by omega) (C 32 3 a b) (C 32 0 a b) w
          rw [show (64768 : Int) + 78 = 64846 from rfl, F.g2] at E7
          have E8 := fun w => two_any 78 (by omega) (C 32 5 a b) (C 32 0 a b) w
          rw [show (64768 : Int) + 78 = 64846 from rfl, F.g3] at E8
          have E9 := fun w => two_any 80 (by omega) (C 32 3 a b) (C 32 5 a b) w
          have E10 := fun w => two_any 80 (by omega) (bw (64768 + 80) (C 32 3 a b) (C 32 5 a b)) (C 32 0 a b) w
          rw [show (64768 : Int) + 80 = 64848 from rfl] at E9 E10
          rw [F.g4, ← HON.out] at E10
          have E11 := fun w => not_any (C 32 5 a b) w
          have E12 := fun w => not_any (C 32 3 a b) w
          have HLT := Lib.hid (C_byt 32 3 a b)
          have HSG := Lib.hid (fun (j : Nat) (hj : thereB 32 j = true) => C_sgn (v := 32) (by omega) 3 a b hj)
          clear F
          generalize bw 64848 (C 32 3 a b) (C 32 5 a b) = xx at *
          generalize nt (C 32 5 a b) = ng at *
          generalize nt (C 32 3 a b) = nl at *
          generalize (C 32 3 a b) = lt at *
          generalize (C 32 5 a b) = gt at *
          obtain ⟨eq, heq⟩ : ∃ eq, eq = (C 32 0 a b) := ⟨_, rfl⟩
          rw [← heq] at E7 E8 E10 hS
          have XE1 := Lib.hid E1
          clear E1
          have XE2 := Lib.hid E2
          clear E2
          have XE3 := Lib.hid E3
          clear E3
          have XE4 := Lib.hid E4
          clear E4
          have XE5 := Lib.hid E5
          clear E5
          have XE6 := Lib.hid E6
          clear E6
          have XE7 := Lib.hid E7
          clear E7
          have XE8 := Lib.hid E8
          clear E8
          have XE9 := Lib.hid E9
          clear E9
          have XE10 := Lib.hid E10
          clear E10
          have XE11 := Lib.hid E11
          clear E11
          have XE12 := Lib.hid E12
          clear E12
          have HEQ := Lib.hid heq
          clear heq
          go_upto_region 15 with (first | (refine sl_load hS rfl 23 _ rfl rfl (by repeat (first | exact Has.hd | apply Has.tl)) Try.underlying23 rfl (by exact infoV) ?_) | (refine sl_store hS rfl 23 _ _ rfl rfl rfl (by repeat (first | exact Rep.hd | apply Rep.tl)) (by exact infoV) (by rfl) (bs_one _) ?_; clear hS; intro wk hS) | (refine sl_box hS rfl _ 23 (box_vec rfl rfl) ?_; clear hS; intro bk wk hS) | (refine sl_box hS rfl _ 23 (alloc_vec rfl) ?_; clear hS; intro pl wk hS) | (refine onlyN_end ?_) | (refine onlyN_now ?_) | ((go_at_call 18); (with_reducible refine sl_call hS (XE1.out _) ?_); clear hS; intro wk hS))
          go_upto_region 16 with (first | (refine sl_load hS rfl 23 _ rfl rfl (by repeat (first | exact Has.hd | apply Has.tl)) Try.underlying23 rfl (by exact infoV) ?_) | (refine sl_store hS rfl 23 _ _ rfl rfl rfl (by repeat (first | exact Rep.hd | apply Rep.tl)) (by exact infoV) (by rfl) (bs_one _) ?_; clear hS; intro wk hS) | (refine sl_box hS rfl _ 23 (box_vec rfl rfl) ?_; clear hS; intro bk wk hS) | (refine sl_box hS rfl _ 23 (alloc_vec rfl) ?_; clear hS; intro pg wk hS) | (refine onlyN_end ?_) | (refine onlyN_now ?_) | ((go_at_call 18); (with_reducible refine sl_call hS (XE2.out _) ?_); clear hS; intro wk hS))
          have hq1 := fun w => eq_same (fun _ => 0) w
          have hq2 := fun w => eq_same on w
          refine sd_all hS (by kernel_rfl) (by kernel_rfl) ?_
          iterate 28 (refine sd_step (fun K hK => ?_); (first | (refine sd_build rfl 23 _ rfl (bs fun _ => 0) (by first | (simp only [List.map_toArray, List.map_nil]; kernel_rfl) | (simp only [Array.map_empty]; kernel_rfl)) ?_) | (refine sd_load rfl 23 _ rfl rfl (by repeat (first | exact Has.hd | apply Has.tl)) Try.underlying23 rfl (by exact infoV) ?_) | (apply sd_yes rfl; focus (intro wx hx; go_simp; first | (apply sd_enter; first | fail | with_reducible exact XE6.out wx | with_reducible exact XE7.out wx | with_reducible exact XE8.out wx | with_reducible exact XE9.out wx | with_reducible exact XE10.out wx) | exact ⟨rfl, Gr.refl _⟩)) | (refine sd_no rfl ?_)); go_simp; refine hK _ ?_; clear hK K)
          refine sd_nil ?_
          clear hS hq1 hq2
          intro wk hS
          go_upto_region 18 with (first | (refine sl_load hS rfl 23 _ rfl rfl (by repeat (first | exact Has.hd | apply Has.tl)) Try.underlying23 rfl (by exact infoV) ?_) | (refine sl_store hS rfl 23 _ _ rfl rfl rfl (by repeat (first | exact Rep.hd | apply Rep.tl)) (by exact infoV) (by rfl) (bs_one _) ?_; clear hS; intro wk hS) | (refine sl_box hS rfl _ 23 (box_vec rfl rfl) ?_; clear hS; intro bk wk hS) | (refine sl_box hS rfl _ 23 (alloc_vec rfl) ?_; clear hS; intro bk wk hS) | (refine onlyN_end ?_) | (refine onlyN_now ?_))
          have hq1 := fun w => eq_same ng w
          have hq2 := fun w => eq_same nl w
          have hq3 := fun w => eq_same gt w
          have hw64825 : IntKind.i64.wrap 64825 = 64825 := by decide +kernel
          have hw64826 : IntKind.i64.wrap 64826 = 64826 := by decide +kernel
          have hw64829 : IntKind.i64.wrap 64829 = 64829 := by decide +kernel
          have hw64830 : IntKind.i64.wrap 64830 = 64830 := by decide +kernel
          have hw64831 : IntKind.i64.wrap 64831 = 64831 := by decide +kernel
          have hw64832 : IntKind.i64.wrap 64832 = 64832 := by decide +kernel
          refine sd_all hS (by kernel_rfl) (by kernel_rfl) ?_
          iterate 33 (refine sd_step (fun K hK => ?_); (first | (refine sd_load rfl 23 _ rfl rfl (by repeat (first | exact Has.hd | apply Has.tl)) Try.underlying23 rfl (by exact infoV) ?_) | (apply sd_yes rfl; focus (intro wx hx; go_simp; first | (apply sd_enter; first | fail | with_reducible exact XE3.out wx | with_reducible exact XE4.out wx | with_reducible exact XE5.out wx | with_reducible exact XE11.out wx | with_reducible exact XE12.out wx) | exact ⟨rfl, Gr.refl _⟩)) | (refine sd_no rfl ?_)); go_simp; refine hK _ ?_; clear hK K)
          refine sd_nil ?_
          clear hS hq1 hq2 hq3 hw64825 hw64826 hw64829 hw64830 hw64831 hw64832
          intro wk hS
          go_wp2_with (first | (refine sl_load hS rfl 23 _ rfl rfl (by repeat (first | exact Has.hd | apply Has.tl)) Try.underlying23 rfl (by exact infoV) ?_) | (refine sl_store hS rfl 23 _ _ rfl rfl rfl (by repeat (first | exact Rep.hd | apply Rep.tl)) (by exact infoV) (by rfl) (bs_one _) ?_; clear hS; intro wk hS) | (refine sl_box hS rfl _ 23 (box_vec rfl rfl) ?_; clear hS; intro bk wk hS) | (refine sl_box hS rfl _ 23 (alloc_vec rfl) ?_; clear hS; intro bk wk hS) | (refine onlyN_end ?_) | (refine onlyN_now ?_))
          go_loopw [12] (fun u wr => ∃ k : Nat, k ≤ 4 ∧ u = .int .i64 k ∧ St w (⟨pg, bs gt, 23⟩ :: ⟨pl, bs lt, 23⟩ :: ⟨pe, bs eq, 23⟩ :: [⟨po, bs on, 23⟩, ⟨q, bs b, 23⟩, ⟨p, bs a, 23⟩]) wr) (fun u _ => 4 - (intOf u).toNat)
          case atStart => exact ⟨0, by omega, rfl, hS⟩
          case round =>
            obtain ⟨k, hk, rfl, hS⟩ := hrel
            by_cases hlt : k < 4
            · have hj : thereB 32 k = true := there_iff.2 ⟨by omega, by show (k : Int) < 4; omega⟩
              have h1 := HSG.out k hj
              have E1 := fun w => signed_any lt HLT.out 32 k w
              rcases h1 with h1 | h1
              all_goals
                rw [h1] at E1
                clear h1
                have XE1 := Lib.hid E1
                clear E1
                go_wp2_with (first | (refine sl_load hS rfl 23 _ rfl rfl (by repeat (first | exact Has.hd | apply Has.tl)) Try.underlying23 rfl (by exact infoV) ?_) | (refine sl_store hS rfl 23 _ _ rfl rfl rfl (by repeat (first | exact Rep.hd | apply Rep.tl)) (by exact infoV) (by rfl) (bs_one _) ?_; clear hS; intro wk hS) | (refine sl_box hS rfl _ 23 (box_vec rfl rfl) ?_; clear hS; intro bk wk hS) | (refine sl_box hS rfl _ 23 (alloc_vec rfl) ?_; clear hS; intro bk wk hS) | (refine onlyN_end ?_) | (refine onlyN_now ?_) | ((go_at_call 20); (with_reducible refine sl_call hS (XE1.out _) ?_); clear hS; intro wk hS))
                exact ⟨⟨k + 1, by omega, by go_num, hS⟩, by simp [intOf]; omega⟩
            · obtain rfl : k = 4 := by omega
              rw [HEQ.out] at hS
              go_wp2_with (first | (refine sl_load hS rfl 23 _ rfl rfl (by repeat (first | exact Has.hd | apply Has.tl)) Try.underlying23 rfl (by exact infoV) ?_) | (refine sl_store hS rfl 23 _ _ rfl rfl rfl (by repeat (first | exact Rep.hd | apply Rep.tl)) (by exact infoV) (by rfl) (bs_one _) ?_; clear hS; intro wk hS) | (refine sl_box hS rfl _ 23 (box_vec rfl rfl) ?_; clear hS; intro bk wk hS) | (refine sl_box hS rfl _ 23 (alloc_vec rfl) ?_; clear hS; intro bk wk hS) | (refine onlyN_end ?_) | (refine onlyN_now ?_))
              exact ⟨⟨2, by omega, rfl, hS.tail.tail⟩, by simp [intOf]⟩
        · go_wp2_with (first | (refine sl_load hS rfl 23 _ rfl rfl (by repeat (first | exact Has.hd | apply Has.tl)) Try.underlying23 rfl (by exact infoV) ?_) | (refine sl_store hS rfl 23 _ _ rfl rfl rfl (by repeat (first | exact Rep.hd | apply Rep.tl)) (by exact infoV) (by rfl) (bs_one _) ?_; clear hS; intro wk hS) | (refine sl_box hS rfl _ 23 (box_vec rfl rfl) ?_; clear hS; intro bk wk hS) | (refine sl_box hS rfl _ 23 (alloc_vec rfl) ?_; clear hS; intro bk wk hS) | (refine onlyN_end ?_) | (refine onlyN_now ?_))
          exact ⟨⟨64833, by omega, rfl, hS.tail⟩, by simp [intOf]⟩
    · as_aux_lemma =>
      have F := ordS (v := 64) (by omega) HA.out HB.out
      have E0 := fun w => cmp_C 64982 64 0 (by omega) (by decide) (by decide) (a := a) (b := b) HA.out HB.out w
      have E1 := fun w => cmp_C 64984 64 2 (by omega) (by decide) (by decide) (a := a) (b := b) HA.out HB.out w
      have E2 := fun w => cmp_C 64985 64 4 (by omega) (by decide) (by decide) (a := a) (b := b) HA.out HB.out w
      have E3 := fun w => cmp_C 64983 64 1 (by omega) (by decide) (by decide) (a := a) (b := b) HA.out HB.out w
      rw [ne_C (v := 64) (by omega) HA.out HB.out] at E3
      have E4 := fun w => cmp_C 64986 64 6 (by omega) (by decide) (by decide) (a := a) (b := b) HA.out HB.out w
      rw [F.g5] at E4
      have E5 := fun w => cmp_C 64987 64 8 (by omega) (by decide) (by decide) (a := a) (b := b) HA.out HB.out w
      rw [F.g6] at E5
      have E6 := fun w => cmp_C 64984 64 2 (by omega) (by decide) (by decide) (a := b) (b := a) HB.out HA.out w
      rw [F.g7] at E6
      have E7 := fun w => two_any 81 (by omega) (C 64 2 a b) (C 64 4 a b) w
      have E8 := fun w => two_any 81 (by omega) (bw (64768 + 81) (C 64 2 a b) (C 64 4 a b)) (C 64 0 a b) w
      rw [show (64768 : Int) + 81 = 64849 from rfl] at E7 E8
      rw [F.gx, ← HON.out] at E8
      have E9 := fun w => not_any (C 64 0 a b) w
      have E10 := fun w => not_any (C 64 4 a b) w
      have E11 := fun w => not_any (C 64 2 a b) w
      clear F
      generalize bw 64849 (C 64 2 a b) (C 64 4 a b) = xx at *
      generalize nt (C 64 4 a b) = ng at *
      generalize nt (C 64 2 a b) = nl at *
      generalize nt (C 64 0 a b) = ne at *
      generalize (C 64 2 a b) = lt at *
      generalize (C 64 4 a b) = gt at *
      generalize (C 64 0 a b) = eq at *
      have XE0 := Lib.hid E0
      clear E0
      have XE1 := Lib.hid E1
      clear E1
      have XE2 := Lib.hid E2
      clear E2
      have XE3 := Lib.hid E3
      clear E3
      have XE4 := Lib.hid E4
      clear E4
      have XE5 := Lib.hid E5
      clear E5
      have XE6 := Lib.hid E6
      clear E6
      have XE7 := Lib.hid E7
      clear E7
      have XE8 := Lib.hid E8
      clear E8
      have XE9 := Lib.hid E9
      clear E9
      have XE10 := Lib.hid E10
      clear E10
      have XE11 := Lib.hid E11
      clear E11
      go_upto_region 29 with (first | (refine sl_load hS rfl 23 _ rfl rfl (by repeat (first | exact Has.hd | apply Has.tl)) Try.underlying23 rfl (by exact infoV) ?_) | (refine sl_store hS rfl 23 _ _ rfl rfl rfl (by repeat (first | exact Rep.hd | apply Rep.tl)) (by exact infoV) (by rfl) (bs_one _) ?_; clear hS; intro wk hS) | (refine sl_box hS rfl _ 23 (box_vec rfl rfl) ?_; clear hS; intro bk wk hS) | (refine sl_box hS rfl _ 23 (alloc_vec rfl) ?_; clear hS; intro bk wk hS) | (refine onlyN_end ?_) | (refine onlyN_now ?_) | ((go_at_call 18); (with_reducible refine sl_call hS (XE0.out _) ?_); clear hS; intro wk hS) | ((go_at_call 18); (with_reducible refine sl_call hS (XE1.out _) ?_); clear hS; intro wk hS) | ((go_at_call 18); (with_reducible refine sl_call hS (XE2.out _) ?_); clear hS; intro wk hS))
      have hq1 := fun w => eq_same ng w
      have hq2 := fun w => eq_same nl w
      have hq3 := fun w => eq_same gt w
      have hq4 := fun w => eq_same ne w
      have hq5 := fun w => eq_same on w
      refine sd_all hS (by kernel_rfl) (by kernel_rfl) ?_
      iterate 39 (refine sd_step (fun K hK => ?_); (first | (refine sd_load rfl 23 _ rfl rfl (by repeat (first | exact Has.hd | apply Has.tl)) Try.underlying23 rfl (by exact infoV) ?_) | (apply sd_yes rfl; focus (intro wx hx; go_simp; first | (apply sd_enter; first | fail | with_reducible exact XE3.out wx | with_reducible exact XE4.out wx | with_reducible exact XE5.out wx | with_reducible exact XE6.out wx | with_reducible exact XE7.out wx | with_reducible exact XE8.out wx | with_reducible exact XE9.out wx | with_reducible exact XE10.out wx | with_reducible exact XE11.out wx) | exact ⟨rfl, Gr.refl _⟩)) | (refine sd_no rfl ?_)); go_simp; refine hK _ ?_; clear hK K)
      refine sd_nil ?_
      clear hS hq1 hq2 hq3 hq4 hq5
      intro wk hS
      go_wp2
      go_ret
      exact ⟨rfl, hS.gr⟩
end Cp
end Go.Proofs.Ytdclbagfnabmkaa
