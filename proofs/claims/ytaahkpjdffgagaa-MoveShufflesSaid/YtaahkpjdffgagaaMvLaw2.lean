/-
  MoveShuffles: for all vectors the law returns true. Condition: bytes.
-/
import Derived.Test.YtaahkpjdffgagaaMvAw
import Derived.Test.YtaahkpjdffgagaaSlP
import Derived.IntWalk
namespace Go.Proofs.Ytaahkpjdffgagaa
open Go.RowKit VecM
namespace Mv
def otV (s : Nat → Int) : Nat → Int := fun m => (s m + 16) % 32
def boV (s : Nat → Int) : Nat → Int := fun m => s (s m % 16).toNat
theorem otV_byt (s : Nat → Int) : Byt (otV s) := fun m => by unfold otV; omega
theorem sh_num0 (a b : Nat → Int) : bs (shV a b (numV 0)) = bs a := bs_congr fun m hm => by
  unfold shV; rw [numV_at 0 m hm, if_pos (by omega)]; congr 1; omega
theorem sh_num16 (a b : Nat → Int) : bs (shV a b (numV 16)) = bs b := bs_congr fun m hm => by
  unfold shV; rw [numV_at 16 m hm, if_neg (by omega)]; congr 1; omega
theorem sh_other (a b s : Nat → Int) (h : ∀ m, 0 ≤ s m ∧ s m < 32) : bs (shV b a (otV s)) = bs (shV a b s) := bs_congr fun m _ => by
  have := h m
  unfold shV otV
  by_cases hc : s m < 16
  · rw [if_neg (by omega), if_pos hc]; congr 1; omega
  · rw [if_pos (by omega), if_neg hc]; congr 1; omega
theorem sh_both (a b s : Nat → Int) (h : ∀ m, 0 ≤ s m ∧ s m < 32) : bs (shV a b (boV s)) = bs (shV (shV a b s) (shV a b s) s) := bs_congr fun m _ => by
  have := h m
  show (if s (s m % 16).toNat < 16 then a (s (s m % 16).toNat).toNat else b (s (s m % 16).toNat - 16).toNat) = if s m < 16 then (if s (s m).toNat < 16 then a (s (s m).toNat).toNat else b (s (s m).toNat - 16).toNat) else (if s (s m - 16).toNat < 16 then a (s (s m - 16).toNat).toNat else b (s (s m - 16).toNat - 16).toNat)
  by_cases hc : s m < 16
  · rw [if_pos hc, show s m % 16 = s m by omega]
  · rw [if_neg hc, show s m % 16 = s m - 16 by omega]
theorem low_low (s : Nat → Int) (h : ∀ m, 0 ≤ s m ∧ s m < 32) : bs (lowV s) = bs s := bs_congr fun m _ => by
  have := h m
  unfold lowV; omega
set_option maxRecDepth 100000 in
set_option maxHeartbeats 16000000 in
theorem shuffles_walk (sel a b : Nat → Int) (hs : Byt sel) (_ha : Byt a) (_hb : Byt b) (w : World) : Calls Try.prog 5 #[.agg (bs sel), .agg (bs a), .agg (bs b)] w fun e w' => e = .returned (.bool true) ∧ Gr w w' := by
  have C0 := fun w => low_any sel hs w
  have hsb := lowV_byt sel
  have hs2 : ∀ m, 0 ≤ lowV sel m ∧ lowV sel m < 32 := fun m => by unfold lowV; omega
  obtain ⟨u, hu, hu2⟩ : ∃ u : Nat, sel 0 = u ∧ u ≤ 255 := ⟨(sel 0).toNat, by have := hs 0; omega, by have := hs 0; omega⟩
  have h0 := bs_get sel 0 (by omega)
  rw [hu] at h0
  have H0 := Lib.hid h0
  have HU2 := hu2
  clear hs h0 hu
  generalize lowV sel = s at *
  have C1 := fun w => shuffle_ok a b s hsb (fun m _ => (hs2 m).2) w
  have C2 := fun w => shuffle_ok a b (numV 0) (numV_byt 0 (by omega)) (fun m hm => by rw [numV_at 0 m hm]; omega) w
  rw [sh_num0] at C2
  have C3 := fun w => shuffle_ok a b (numV 16) (numV_byt 16 (by omega)) (fun m hm => by rw [numV_at 16 m hm]; omega) w
  rw [sh_num16] at C3
  have C4 := fun w => shuffle_ok b a (otV s) (otV_byt s) (fun m _ => by unfold otV; omega) w
  rw [sh_other a b s hs2] at C4
  have C5 := fun w => shuffle_ok (shV a b s) (shV a b s) s hsb (fun m _ => (hs2 m).2) w
  have C6 := fun w => shuffle_ok a b (boV s) (fun m => hsb _) (fun m _ => (hs2 _).2) w
  rw [sh_both a b s hs2] at C6
  have C8 := fun w => low_any s hsb w
  rw [low_low s hs2] at C8
  have N0 : ∀ w, Calls Try.prog 21 #[.int .i64 0] w fun e w' => e = .returned (.agg (bs (numV 0))) ∧ Gr w w' := fun w => numbers_any 0 (by omega) w
  have N1 : ∀ w, Calls Try.prog 21 #[.int .i64 16] w fun e w' => e = .returned (.agg (bs (numV 16))) ∧ Gr w w' := fun w => numbers_any 16 (by omega) w
  generalize numV 0 = n0 at *
  generalize numV 16 = n1 at *
  have hbd : ∃ m, m < 16 ∧ 32 ≤ upd s (u % 16) (32 + (u : Int) % 224) m := ⟨u % 16, by omega, by unfold upd; rw [if_pos rfl]; omega⟩
  have C7 := fun w => shuffle_bad a b (upd s (u % 16) (32 + (u : Int) % 224)) (fun m => by unfold upd; split; omega; exact hsb m) hbd w
  have HP7 := Lib.hid (bs_upd s (u % 16) (32 + (u : Int) % 224) (by omega))
  have hu16 : u % 16 < 16 := by omega
  clear hbd
  generalize upd s (u % 16) (32 + (u : Int) % 224) = bad at *
  have hvk : ∀ k, shV a b s k = if s k < 16 then a (s k).toNat else b (s k - 16).toNat := fun k => rfl
  generalize hv : shV a b s = v at *
  generalize hy0 : shV v v s = y0 at *
  have hok : ∀ k, otV s k = (s k + 16) % 32 := fun k => rfl
  have hbk : ∀ k, boV s k = s (s k % 16).toNat := fun k => rfl
  generalize otV s = ot at *
  generalize boV s = bo at *
  have HS2 := Lib.hid hs2
  clear hs2 hsb hv hy0
  have hS := St.start w
  have XC0 := Lib.hid C0
  clear C0
  have XC1 := Lib.hid C1
  clear C1
  have XC2 := Lib.hid C2
  clear C2
  have XC3 := Lib.hid C3
  clear C3
  have XC4 := Lib.hid C4
  clear C4
  have XC5 := Lib.hid C5
  clear C5
  have XC6 := Lib.hid C6
  clear C6
  have XC7 := Lib.hid C7
  clear C7
  have XC8 := Lib.hid C8
  clear C8
  have XN0 := Lib.hid N0
  clear N0
  have XN1 := Lib.hid N1
  clear N1
  have Xhvk := Lib.hid hvk
  clear hvk
  have Xhok := Lib.hid hok
  clear hok
  have Xhbk := Lib.hid hbk
  clear hbk
  go_enter Try.func5, Try.ntmps5
  go_upto_region 0 with (fail)
  refine wp_region_lit ?_
  refine sl_box hS rfl _ 26 (box_vec rfl rfl) ?_
  clear hS
  intro p wk hS
  refine sl_box hS rfl _ 26 (box_vec rfl rfl) ?_
  clear hS
  intro q wk hS
  refine sl_box hS rfl _ 26 (box_vec rfl rfl) ?_
  clear hS
  intro r wk hS
  go_upto_region 4 with (first | (refine sl_load hS rfl 26 _ rfl rfl (by repeat (first | exact Has.hd | apply Has.tl)) Try.underlying26 rfl (by exact infoV) ?_) | (refine sl_store hS rfl 26 _ _ rfl rfl rfl (by repeat (first | exact Rep.hd | apply Rep.tl)) (by exact infoV) (by rfl) (bs_one _) ?_; clear hS; intro wk hS) | (refine sl_box hS rfl _ 26 (box_vec rfl rfl) ?_; clear hS; intro bk wk hS) | (refine sl_box hS rfl _ 26 (alloc_vec rfl) ?_; clear hS; intro t7 wk hS) | (refine onlyN_end ?_) | (refine onlyN_now ?_) | ((go_at_call 9); (with_reducible refine sl_call hS (awake _) ?_); clear hS; intro wk hS) | ((go_at_call 20); (with_reducible refine sl_call hS (XC0.out _) ?_); clear hS; intro wk hS))
  go_upto_region 5 with (first | (refine sl_load hS rfl 26 _ rfl rfl (by repeat (first | exact Has.hd | apply Has.tl)) Try.underlying26 rfl (by exact infoV) ?_) | (refine sl_store hS rfl 26 _ _ rfl rfl rfl (by repeat (first | exact Rep.hd | apply Rep.tl)) (by exact infoV) (by rfl) (bs_one _) ?_; clear hS; intro wk hS) | (refine sl_box hS rfl _ 26 (box_vec rfl rfl) ?_; clear hS; intro bk wk hS) | (refine sl_box hS rfl _ 26 (alloc_vec rfl) ?_; clear hS; intro t8 wk hS) | (refine onlyN_end ?_) | (refine onlyN_now ?_) | ((go_at_call 16); (with_reducible refine sl_call hS (XC1.out _) ?_); clear hS; intro wk hS))
  refine sm_tail 8 [(7, ⟨(fun b => .pointer (some ⟨b, 0, none⟩)), bs fun _ => 0, 26⟩)] hS (by kernel_rfl) (by kernel_rfl) (fun β => ?_)
  simp only [List.take_succ_cons, List.take_zero, List.drop_succ_cons, List.drop_zero]
  iterate 8 (refine sm_step (fun K hK => ?_); (first | (refine sm_load rfl rfl 26 _ rfl rfl (by repeat (first | exact Has.hd | apply Has.tl)) Try.underlying26 rfl (by exact infoV) ?_) | (refine sm_lay rfl rfl (by intro w; go_simp) ?_) | (refine sm_build rfl rfl 26 _ rfl (bs fun _ => 0) (by first | (simp only [List.map_toArray, List.map_nil]; kernel_rfl) | (simp only [Array.map_empty]; kernel_rfl)) ?_) | (apply sm_yes rfl rfl; focus (intro wx hx; go_simp; first | (apply sm_enter (by kernel_rfl); first | fail | with_reducible exact XN0.out wx | with_reducible exact XC2.out wx) | exact ⟨rfl, Gr.refl _⟩)) | (refine sm_no rfl rfl ?_)); go_simp; refine hK _ ?_; clear hK K)
  refine sm_nil ?_
  clear hS
  intro wk hS
  replace hS : St w [⟨β 7, bs fun _ => 0, 26⟩, ⟨t8, bs v, 26⟩, ⟨t7, bs s, 26⟩, ⟨r, bs b, 26⟩, ⟨q, bs a, 26⟩, ⟨p, bs sel, 26⟩] wk := hS
  generalize β 7 = t10 at hS ⊢
  go_upto_region 6 with (first | (refine sl_load hS rfl 26 _ rfl rfl (by repeat (first | exact Has.hd | apply Has.tl)) Try.underlying26 rfl (by exact infoV) ?_) | (refine sl_store hS rfl 26 _ _ rfl rfl rfl (by repeat (first | exact Rep.hd | apply Rep.tl)) (by exact infoV) (by rfl) (bs_one _) ?_; clear hS; intro wk hS) | (refine sl_box hS rfl _ 26 (box_vec rfl rfl) ?_; clear hS; intro bk wk hS) | (refine sl_box hS rfl _ 26 (alloc_vec rfl) ?_; clear hS; intro bk wk hS) | (refine onlyN_end ?_) | (refine onlyN_now ?_))
  refine sm_tail 8 [(7, ⟨(fun b => .pointer (some ⟨b, 0, none⟩)), bs fun _ => 0, 26⟩)] hS (by kernel_rfl) (by kernel_rfl) (fun β => ?_)
  simp only [List.take_succ_cons, List.take_zero, List.drop_succ_cons, List.drop_zero]
  iterate 8 (refine sm_step (fun K hK => ?_); (first | (refine sm_load rfl rfl 26 _ rfl rfl (by repeat (first | exact Has.hd | apply Has.tl)) Try.underlying26 rfl (by exact infoV) ?_) | (refine sm_lay rfl rfl (by intro w; go_simp) ?_) | (refine sm_build rfl rfl 26 _ rfl (bs fun _ => 0) (by first | (simp only [List.map_toArray, List.map_nil]; kernel_rfl) | (simp only [Array.map_empty]; kernel_rfl)) ?_) | (apply sm_yes rfl rfl; focus (intro wx hx; go_simp; first | (apply sm_enter (by kernel_rfl); first | fail | with_reducible exact XN1.out wx | with_reducible exact XC3.out wx) | exact ⟨rfl, Gr.refl _⟩)) | (refine sm_no rfl rfl ?_)); go_simp; refine hK _ ?_; clear hK K)
  refine sm_nil ?_
  clear hS
  intro wk hS
  replace hS : St w [⟨β 7, bs fun _ => 0, 26⟩, ⟨t10, bs a, 26⟩, ⟨t8, bs v, 26⟩, ⟨t7, bs s, 26⟩, ⟨r, bs b, 26⟩, ⟨q, bs a, 26⟩, ⟨p, bs sel, 26⟩] wk := hS
  generalize β 7 = t12 at hS ⊢
  go_upto_region 7 with (first | (refine sl_load hS rfl 26 _ rfl rfl (by repeat (first | exact Has.hd | apply Has.tl)) Try.underlying26 rfl (by exact infoV) ?_) | (refine sl_store hS rfl 26 _ _ rfl rfl rfl (by repeat (first | exact Rep.hd | apply Rep.tl)) (by exact infoV) (by rfl) (bs_one _) ?_; clear hS; intro wk hS) | (refine sl_box hS rfl _ 26 (box_vec rfl rfl) ?_; clear hS; intro bk wk hS) | (refine sl_box hS rfl _ 26 (alloc_vec rfl) ?_; clear hS; intro bk wk hS) | (refine onlyN_end ?_) | (refine onlyN_now ?_))
  try refine wp_region_lit ?_
  iterate 20 ((first | (refine sl_load hS rfl 26 _ rfl rfl (by repeat (first | exact Has.hd | apply Has.tl)) Try.underlying26 rfl (by exact infoV) ?_) | (refine sl_store hS rfl 26 _ _ rfl rfl rfl (by repeat (first | exact Rep.hd | apply Rep.tl)) (by exact infoV) (by rfl) (bs_one _) ?_; clear hS; intro wk hS) | (refine sl_neq rfl rfl rfl rfl (vecB_refl _) ?_) | (apply sl_val rfl; focus (intro w; go_simp; first | exact rfl | rfl)) | (refine sl_skip rfl ?_)); go_simp)
  go_upto_region 10 with (first | (refine sl_load hS rfl 26 _ rfl rfl (by repeat (first | exact Has.hd | apply Has.tl)) Try.underlying26 rfl (by exact infoV) ?_) | (refine sl_store hS rfl 26 _ _ rfl rfl rfl (by repeat (first | exact Rep.hd | apply Rep.tl)) (by exact infoV) (by rfl) (bs_one _) ?_; clear hS; intro wk hS) | (refine sl_box hS rfl _ 26 (box_vec rfl rfl) ?_; clear hS; intro bk wk hS) | (refine sl_box hS rfl _ 26 (alloc_vec rfl) ?_; clear hS; intro t14 wk hS) | (refine onlyN_end ?_) | (refine onlyN_now ?_))
  go_wp2_with (first | (refine sl_load hS rfl 26 _ rfl rfl (by repeat (first | exact Has.hd | apply Has.tl)) Try.underlying26 rfl (by exact infoV) ?_) | (refine sl_store hS rfl 26 _ _ rfl rfl rfl (by repeat (first | exact Rep.hd | apply Rep.tl)) (by exact infoV) (by rfl) (bs_one _) ?_; clear hS; intro wk hS) | (refine sl_box hS rfl _ 26 (box_vec rfl rfl) ?_; clear hS; intro bk wk hS) | (refine sl_box hS rfl _ 26 (alloc_vec rfl) ?_; clear hS; intro t15 wk hS) | (refine onlyN_end ?_) | (refine onlyN_now ?_))
  go_loopw [16] (fun g wr => ∃ k : Nat, k ≤ 16 ∧ g = .int .i64 k ∧ St w [⟨t15, bs (mixed k bo s), 26⟩, ⟨t14, bs (mixed k ot s), 26⟩, ⟨t12, bs b, 26⟩, ⟨t10, bs a, 26⟩, ⟨t8, bs v, 26⟩, ⟨t7, bs s, 26⟩, ⟨r, bs b, 26⟩, ⟨q, bs a, 26⟩, ⟨p, bs sel, 26⟩] wr) (fun g _ => 16 - (intOf g).toNat)
  case atStart => exact ⟨0, by omega, rfl, by rw [mixed0, mixed0]; exact hS⟩
  case round =>
    obtain ⟨k, hk, rfl, hS⟩ := hrel
    by_cases hlt : k < 16
    · have hsk := HS2.out k
      obtain ⟨y, hy⟩ : ∃ y : Nat, s k = y := ⟨(s k).toNat, by omega⟩
      have hy16 : y % 16 < 16 := by omega
      have v1 := bs_get s k hlt
      have v2 := bs_get a (y % 16) hy16
      have v3 := bs_get b (y % 16) hy16
      have v4 := bs_get s (y % 16) hy16
      have v5 := bs_get v k hlt
      have w1 := mixed_succ ot s k
      have w2 := mixed_succ bo s k
      rw [Xhok.out k, hy] at w1
      rw [Xhbk.out k, hy, show ((y : Int) % 16).toNat = y % 16 by omega] at w2
      rw [hy] at v1 hsk
      rw [Xhvk.out k, hy] at v5
      have p1 := bs_upd (mixed k ot s) k (((y : Int) + 16) % 32) hlt
      have p2 := bs_upd (mixed k bo s) k (s (y % 16)) hlt
      clear hy
      have R1 := Lib.hid (show Int.tmod (y : Int) 16 = ((y % 16 : Nat) : Int) by rw [Int.tmod_eq_emod_of_nonneg (by omega)]; omega)
      have R3 := Lib.hid (show IntKind.u8.wrap ((y : Int) + 16) = (y : Int) + 16 by rw [IntKind.wrap_u8]; omega)
      have R2 := Lib.hid (show Int.tmod ((y : Int) + 16) 32 = ((y : Int) + 16) % 32 from Int.tmod_eq_emod_of_nonneg (by omega))
      generalize s (y % 16) = z at *
      generalize mixed k ot s = o3 at *
      generalize mixed k bo s = o4 at *
      have y32 : y < 32 := by omega
      clear hsk
      by_cases hc : y < 16
      · rw [if_pos (by omega), show ((y : Int)).toNat = y % 16 by omega] at v5
        generalize a (y % 16) = xa at *
        generalize b (y % 16) = xb at *
        have Xv1 := Lib.hid v1
        clear v1
        have Xv2 := Lib.hid v2
        clear v2
        have Xv3 := Lib.hid v3
        clear v3
        have Xv4 := Lib.hid v4
        clear v4
        have Xv5 := Lib.hid v5
        clear v5
        have Xw1 := Lib.hid w1
        clear w1
        have Xw2 := Lib.hid w2
        clear w2
        have Xp1 := Lib.hid p1
        clear p1
        have Xp2 := Lib.hid p2
        clear p2
        go_upto_region 14 with (fail)
        try refine wp_region_lit ?_
        iterate 7 ((first | (refine sl_load hS rfl 26 _ rfl rfl (by repeat (first | exact Has.hd | apply Has.tl)) Try.underlying26 rfl (by exact infoV) ?_) | (refine sl_store hS rfl 26 _ _ rfl rfl rfl (by repeat (first | exact Rep.hd | apply Rep.tl)) (by exact infoV) (by rfl) (bs_one _) ?_; clear hS; intro wk hS) | (refine sl_val rfl (run_add rfl rfl rfl R3.out) ?_) | (refine sl_val rfl (run_rem rfl rfl rfl (by decide) R1.out) ?_) | (refine sl_val rfl (run_rem rfl rfl rfl (by decide) R2.out) ?_) | (refine sl_addr rfl 26 5 _ _ rfl rfl _ k rfl Try.underlying26 info8 size8 hlt ?_) | (refine sl_addr rfl 26 5 _ _ rfl rfl _ (y % 16) rfl Try.underlying26 info8 size8 hy16 ?_) | (refine sl_cell hS rfl _ _ rfl rfl (by repeat (first | exact Has.hd | apply Has.tl)) Xv1.out (by intro w hc; go_simp) ?_) | (refine sl_cell hS rfl _ _ rfl rfl (by repeat (first | exact Has.hd | apply Has.tl)) Xv2.out (by intro w hc; go_simp) ?_) | (refine sl_cell hS rfl _ _ rfl rfl (by repeat (first | exact Has.hd | apply Has.tl)) Xv3.out (by intro w hc; go_simp) ?_) | (refine sl_cell hS rfl _ _ rfl rfl (by repeat (first | exact Has.hd | apply Has.tl)) Xv4.out (by intro w hc; go_simp) ?_) | (refine sl_cell hS rfl _ _ rfl rfl (by repeat (first | exact Has.hd | apply Has.tl)) Xv5.out (by intro w hc; go_simp) ?_) | ((with_reducible show wpList _ _ _ (⟨_, .store _ _ _, _, _, _, _⟩ :: _) _ _); refine sl_put hS rfl 5 _ _ rfl rfl rfl (by repeat (first | exact Rep.hd | apply Rep.tl)) (by exact hlt) Xp1.out info8 size8 rfl ?_; clear hS; intro wk hS) | ((with_reducible show wpList _ _ _ (⟨_, .store _ _ _, _, _, _, _⟩ :: _) _ _); refine sl_put hS rfl 5 _ _ rfl rfl rfl (by repeat (first | exact Rep.hd | apply Rep.tl)) (by exact hlt) Xp2.out info8 size8 rfl ?_; clear hS; intro wk hS) | (apply sl_val rfl; focus (intro w; go_simp; first | exact rfl | rfl)) | (refine sl_skip rfl ?_)); go_simp)
        go_upto_region 15 with (fail)
        try refine wp_region_lit ?_
        iterate 4 ((first | (refine sl_load hS rfl 26 _ rfl rfl (by repeat (first | exact Has.hd | apply Has.tl)) Try.underlying26 rfl (by exact infoV) ?_) | (refine sl_store hS rfl 26 _ _ rfl rfl rfl (by repeat (first | exact Rep.hd | apply Rep.tl)) (by exact infoV) (by rfl) (bs_one _) ?_; clear hS; intro wk hS) | (refine sl_val rfl (run_add rfl rfl rfl R3.out) ?_) | (refine sl_val rfl (run_rem rfl rfl rfl (by decide) R1.out) ?_) | (refine sl_val rfl (run_rem rfl rfl rfl (by decide) R2.out) ?_) | (refine sl_addr rfl 26 5 _ _ rfl rfl _ k rfl Try.underlying26 info8 size8 hlt ?_) | (refine sl_addr rfl 26 5 _ _ rfl rfl _ (y % 16) rfl Try.underlying26 info8 size8 hy16 ?_) | (refine sl_cell hS rfl _ _ rfl rfl (by repeat (first | exact Has.hd | apply Has.tl)) Xv1.out (by intro w hc; go_simp) ?_) | (refine sl_cell hS rfl _ _ rfl rfl (by repeat (first | exact Has.hd | apply Has.tl)) Xv2.out (by intro w hc; go_simp) ?_) | (refine sl_cell hS rfl _ _ rfl rfl (by repeat (first | exact Has.hd | apply Has.tl)) Xv3.out (by intro w hc; go_simp) ?_) | (refine sl_cell hS rfl _ _ rfl rfl (by repeat (first | exact Has.hd | apply Has.tl)) Xv4.out (by intro w hc; go_simp) ?_) | (refine sl_cell hS rfl _ _ rfl rfl (by repeat (first | exact Has.hd | apply Has.tl)) Xv5.out (by intro w hc; go_simp) ?_) | ((with_reducible show wpList _ _ _ (⟨_, .store _ _ _, _, _, _, _⟩ :: _) _ _); refine sl_put hS rfl 5 _ _ rfl rfl rfl (by repeat (first | exact Rep.hd | apply Rep.tl)) (by exact hlt) Xp1.out info8 size8 rfl ?_; clear hS; intro wk hS) | ((with_reducible show wpList _ _ _ (⟨_, .store _ _ _, _, _, _, _⟩ :: _) _ _); refine sl_put hS rfl 5 _ _ rfl rfl rfl (by repeat (first | exact Rep.hd | apply Rep.tl)) (by exact hlt) Xp2.out info8 size8 rfl ?_; clear hS; intro wk hS) | (apply sl_val rfl; focus (intro w; go_simp; first | exact rfl | rfl)) | (refine sl_skip rfl ?_)); go_simp)
        go_upto_region 17 with (fail)
        try refine wp_region_lit ?_
        iterate 5 ((first | (refine sl_load hS rfl 26 _ rfl rfl (by repeat (first | exact Has.hd | apply Has.tl)) Try.underlying26 rfl (by exact infoV) ?_) | (refine sl_store hS rfl 26 _ _ rfl rfl rfl (by repeat (first | exact Rep.hd | apply Rep.tl)) (by exact infoV) (by rfl) (bs_one _) ?_; clear hS; intro wk hS) | (refine sl_val rfl (run_add rfl rfl rfl R3.out) ?_) | (refine sl_val rfl (run_rem rfl rfl rfl (by decide) R1.out) ?_) | (refine sl_val rfl (run_rem rfl rfl rfl (by decide) R2.out) ?_) | (refine sl_addr rfl 26 5 _ _ rfl rfl _ k rfl Try.underlying26 info8 size8 hlt ?_) | (refine sl_addr rfl 26 5 _ _ rfl rfl _ (y % 16) rfl Try.underlying26 info8 size8 hy16 ?_) | (refine sl_cell hS rfl _ _ rfl rfl (by repeat (first | exact Has.hd | apply Has.tl)) Xv1.out (by intro w hc; go_simp) ?_) | (refine sl_cell hS rfl _ _ rfl rfl (by repeat (first | exact Has.hd | apply Has.tl)) Xv2.out (by intro w hc; go_simp) ?_) | (refine sl_cell hS rfl _ _ rfl rfl (by repeat (first | exact Has.hd | apply Has.tl)) Xv3.out (by intro w hc; go_simp) ?_) | (refine sl_cell hS rfl _ _ rfl rfl (by repeat (first | exact Has.hd | apply Has.tl)) Xv4.out (by intro w hc; go_simp) ?_) | (refine sl_cell hS rfl _ _ rfl rfl (by repeat (first | exact Has.hd | apply Has.tl)) Xv5.out (by intro w hc; go_simp) ?_) | ((with_reducible show wpList _ _ _ (⟨_, .store _ _ _, _, _, _, _⟩ :: _) _ _); refine sl_put hS rfl 5 _ _ rfl rfl rfl (by repeat (first | exact Rep.hd | apply Rep.tl)) (by exact hlt) Xp1.out info8 size8 rfl ?_; clear hS; intro wk hS) | ((with_reducible show wpList _ _ _ (⟨_, .store _ _ _, _, _, _, _⟩ :: _) _ _); refine sl_put hS rfl 5 _ _ rfl rfl rfl (by repeat (first | exact Rep.hd | apply Rep.tl)) (by exact hlt) Xp2.out info8 size8 rfl ?_; clear hS; intro wk hS) | (apply sl_val rfl; focus (intro w; go_simp; first | exact rfl | rfl)) | (refine sl_skip rfl ?_)); go_simp)
        go_upto_region 19 with (fail)
        try refine wp_region_lit ?_
        iterate 8 ((first | (refine sl_load hS rfl 26 _ rfl rfl (by repeat (first | exact Has.hd | apply Has.tl)) Try.underlying26 rfl (by exact infoV) ?_) | (refine sl_store hS rfl 26 _ _ rfl rfl rfl (by repeat (first | exact Rep.hd | apply Rep.tl)) (by exact infoV) (by rfl) (bs_one _) ?_; clear hS; intro wk hS) | (refine sl_val rfl (run_add rfl rfl rfl R3.out) ?_) | (refine sl_val rfl (run_rem rfl rfl rfl (by decide) R1.out) ?_) | (refine sl_val rfl (run_rem rfl rfl rfl (by decide) R2.out) ?_) | (refine sl_addr rfl 26 5 _ _ rfl rfl _ k rfl Try.underlying26 info8 size8 hlt ?_) | (refine sl_addr rfl 26 5 _ _ rfl rfl _ (y % 16) rfl Try.underlying26 info8 size8 hy16 ?_) | (refine sl_cell hS rfl _ _ rfl rfl (by repeat (first | exact Has.hd | apply Has.tl)) Xv1.out (by intro w hc; go_simp) ?_) | (refine sl_cell hS rfl _ _ rfl rfl (by repeat (first | exact Has.hd | apply Has.tl)) Xv2.out (by intro w hc; go_simp) ?_) | (refine sl_cell hS rfl _ _ rfl rfl (by repeat (first | exact Has.hd | apply Has.tl)) Xv3.out (by intro w hc; go_simp) ?_) | (refine sl_cell hS rfl _ _ rfl rfl (by repeat (first | exact Has.hd | apply Has.tl)) Xv4.out (by intro w hc; go_simp) ?_) | (refine sl_cell hS rfl _ _ rfl rfl (by repeat (first | exact Has.hd | apply Has.tl)) Xv5.out (by intro w hc; go_simp) ?_) | ((with_reducible show wpList _ _ _ (⟨_, .store _ _ _, _, _, _, _⟩ :: _) _ _); refine sl_put hS rfl 5 _ _ rfl rfl rfl (by repeat (first | exact Rep.hd | apply Rep.tl)) (by exact hlt) Xp1.out info8 size8 rfl ?_; clear hS; intro wk hS) | ((with_reducible show wpList _ _ _ (⟨_, .store _ _ _, _, _, _, _⟩ :: _) _ _); refine sl_put hS rfl 5 _ _ rfl rfl rfl (by repeat (first | exact Rep.hd | apply Rep.tl)) (by exact hlt) Xp2.out info8 size8 rfl ?_; clear hS; intro wk hS) | (apply sl_val rfl; focus (intro w; go_simp; first | exact rfl | rfl)) | (refine sl_skip rfl ?_)); go_simp)
        go_upto_region 20 with (fail)
        try refine wp_region_lit ?_
        iterate 9 ((first | (refine sl_load hS rfl 26 _ rfl rfl (by repeat (first | exact Has.hd | apply Has.tl)) Try.underlying26 rfl (by exact infoV) ?_) | (refine sl_store hS rfl 26 _ _ rfl rfl rfl (by repeat (first | exact Rep.hd | apply Rep.tl)) (by exact infoV) (by rfl) (bs_one _) ?_; clear hS; intro wk hS) | (refine sl_val rfl (run_add rfl rfl rfl R3.out) ?_) | (refine sl_val rfl (run_rem rfl rfl rfl (by decide) R1.out) ?_) | (refine sl_val rfl (run_rem rfl rfl rfl (by decide) R2.out) ?_) | (refine sl_addr rfl 26 5 _ _ rfl rfl _ k rfl Try.underlying26 info8 size8 hlt ?_) | (refine sl_addr rfl 26 5 _ _ rfl rfl _ (y % 16) rfl Try.underlying26 info8 size8 hy16 ?_) | (refine sl_cell hS rfl _ _ rfl rfl (by repeat (first | exact Has.hd | apply Has.tl)) Xv1.out (by intro w hc; go_simp) ?_) | (refine sl_cell hS rfl _ _ rfl rfl (by repeat (first | exact Has.hd | apply Has.tl)) Xv2.out (by intro w hc; go_simp) ?_) | (refine sl_cell hS rfl _ _ rfl rfl (by repeat (first | exact Has.hd | apply Has.tl)) Xv3.out (by intro w hc; go_simp) ?_) | (refine sl_cell hS rfl _ _ rfl rfl (by repeat (first | exact Has.hd | apply Has.tl)) Xv4.out (by intro w hc; go_simp) ?_) | (refine sl_cell hS rfl _ _ rfl rfl (by repeat (first | exact Has.hd | apply Has.tl)) Xv5.out (by intro w hc; go_simp) ?_) | ((with_reducible show wpList _ _ _ (⟨_, .store _ _ _, _, _, _, _⟩ :: _) _ _); refine sl_put hS rfl 5 _ _ rfl rfl rfl (by repeat (first | exact Rep.hd | apply Rep.tl)) (by exact hlt) Xp1.out info8 size8 rfl ?_; clear hS; intro wk hS) | ((with_reducible show wpList _ _ _ (⟨_, .store _ _ _, _, _, _, _⟩ :: _) _ _); refine sl_put hS rfl 5 _ _ rfl rfl rfl (by repeat (first | exact Rep.hd | apply Rep.tl)) (by exact hlt) Xp2.out info8 size8 rfl ?_; clear hS; intro wk hS) | (apply sl_val rfl; focus (intro w; go_simp; first | exact rfl | rfl)) | (refine sl_skip rfl ?_)); go_simp)
        go_wp2_with fail
        exact ⟨⟨k + 1, by omega, by go_num, by rw [Xw1.out, Xw2.out] at hS; exact hS⟩, by simp [intOf]; omega⟩
      · rw [if_neg (by omega), show ((y : Int) - 16).toNat = y % 16 by omega] at v5
        generalize a (y % 16) = xa at *
        generalize b (y % 16) = xb at *
        have Xv1 := Lib.hid v1
        clear v1
        have Xv2 := Lib.hid v2
        clear v2
        have Xv3 := Lib.hid v3
        clear v3
        have Xv4 := Lib.hid v4
        clear v4
        have Xv5 := Lib.hid v5
        clear v5
        have Xw1 := Lib.hid w1
        clear w1
        have Xw2 := Lib.hid w2
        clear w2
        have Xp1 := Lib.hid p1
        clear p1
        have Xp2 := Lib.hid p2
        clear p2
        go_upto_region 14 with (fail)
        try refine wp_region_lit ?_
        iterate 7 ((first | (refine sl_load hS rfl 26 _ rfl rfl (by repeat (first | exact Has.hd | apply Has.tl)) Try.underlying26 rfl (by exact infoV) ?_) | (refine sl_store hS rfl 26 _ _ rfl rfl rfl (by repeat (first | exact Rep.hd | apply Rep.tl)) (by exact infoV) (by rfl) (bs_one _) ?_; clear hS; intro wk hS) | (refine sl_val rfl (run_add rfl rfl rfl R3.out) ?_) | (refine sl_val rfl (run_rem rfl rfl rfl (by decide) R1.out) ?_) | (refine sl_val rfl (run_rem rfl rfl rfl (by decide) R2.out) ?_) | (refine sl_addr rfl 26 5 _ _ rfl rfl _ k rfl Try.underlying26 info8 size8 hlt ?_) | (refine sl_addr rfl 26 5 _ _ rfl rfl _ (y % 16) rfl Try.underlying26 info8 size8 hy16 ?_) | (refine sl_cell hS rfl _ _ rfl rfl (by repeat (first | exact Has.hd | apply Has.tl)) Xv1.out (by intro w hc; go_simp) ?_) | (refine sl_cell hS rfl _ _ rfl rfl (by repeat (first | exact Has.hd | apply Has.tl)) Xv2.out (by intro w hc; go_simp) ?_) | (refine sl_cell hS rfl _ _ rfl rfl (by repeat (first | exact Has.hd | apply Has.tl)) Xv3.out (by intro w hc; go_simp) ?_) | (refine sl_cell hS rfl _ _ rfl rfl (by repeat (first | exact Has.hd | apply Has.tl)) Xv4.out (by intro w hc; go_simp) ?_) | (refine sl_cell hS rfl _ _ rfl rfl (by repeat (first | exact Has.hd | apply Has.tl)) Xv5.out (by intro w hc; go_simp) ?_) | ((with_reducible show wpList _ _ _ (⟨_, .store _ _ _, _, _, _, _⟩ :: _) _ _); refine sl_put hS rfl 5 _ _ rfl rfl rfl (by repeat (first | exact Rep.hd | apply Rep.tl)) (by exact hlt) Xp1.out info8 size8 rfl ?_; clear hS; intro wk hS) | ((with_reducible show wpList _ _ _ (⟨_, .store _ _ _, _, _, _, _⟩ :: _) _ _); refine sl_put hS rfl 5 _ _ rfl rfl rfl (by repeat (first | exact Rep.hd | apply Rep.tl)) (by exact hlt) Xp2.out info8 size8 rfl ?_; clear hS; intro wk hS) | (apply sl_val rfl; focus (intro w; go_simp; first | exact rfl | rfl)) | (refine sl_skip rfl ?_)); go_simp)
        go_upto_region 15 with (fail)
        try refine wp_region_lit ?_
        iterate 4 ((first | (refine sl_load hS rfl 26 _ rfl rfl (by repeat (first | exact Has.hd | apply Has.tl)) Try.underlying26 rfl (by exact infoV) ?_) | (refine sl_store hS rfl 26 _ _ rfl rfl rfl (by repeat (first | exact Rep.hd | apply Rep.tl)) (by exact infoV) (by rfl) (bs_one _) ?_; clear hS; intro wk hS) | (refine sl_val rfl (run_add rfl rfl rfl R3.out) ?_) | (refine sl_val rfl (run_rem rfl rfl rfl (by decide) R1.out) ?_) | (refine sl_val rfl (run_rem rfl rfl rfl (by decide) R2.out) ?_) | (refine sl_addr rfl 26 5 _ _ rfl rfl _ k rfl Try.underlying26 info8 size8 hlt ?_) | (refine sl_addr rfl 26 5 _ _ rfl rfl _ (y % 16) rfl Try.underlying26 info8 size8 hy16 ?_) | (refine sl_cell hS rfl _ _ rfl rfl (by repeat (first | exact Has.hd | apply Has.tl)) Xv1.out (by intro w hc; go_simp) ?_) | (refine sl_cell hS rfl _ _ rfl rfl (by repeat (first | exact Has.hd | apply Has.tl)) Xv2.out (by intro w hc; go_simp) ?_) | (refine sl_cell hS rfl _ _ rfl rfl (by repeat (first | exact Has.hd | apply Has.tl)) Xv3.out (by intro w hc; go_simp) ?_) | (refine sl_cell hS rfl _ _ rfl rfl (by repeat (first | exact Has.hd | apply Has.tl)) Xv4.out (by intro w hc; go_simp) ?_) | (refine sl_cell hS rfl _ _ rfl rfl (by repeat (first | exact Has.hd | apply Has.tl)) Xv5.out (by intro w hc; go_simp) ?_) | ((with_reducible show wpList _ _ _ (⟨_, .store _ _ _, _, _, _, _⟩ :: _) _ _); refine sl_put hS rfl 5 _ _ rfl rfl rfl (by repeat (first | exact Rep.hd | apply Rep.tl)) (by exact hlt) Xp1.out info8 size8 rfl ?_; clear hS; intro wk hS) | ((with_reducible show wpList _ _ _ (⟨_, .store _ _ _, _, _, _, _⟩ :: _) _ _); refine sl_put hS rfl 5 _ _ rfl rfl rfl (by repeat (first | exact Rep.hd | apply Rep.tl)) (by exact hlt) Xp2.out info8 size8 rfl ?_; clear hS; intro wk hS) | (apply sl_val rfl; focus (intro w; go_simp; first | exact rfl | rfl)) | (refine sl_skip rfl ?_)); go_simp)
        go_upto_region 16 with (fail)
        try refine wp_region_lit ?_
        iterate 7 ((first | (refine sl_load hS rfl 26 _ rfl rfl (by repeat (first | exact Has.hd | apply Has.tl)) Try.underlying26 rfl (by exact infoV) ?_) | (refine sl_store hS rfl 26 _ _ rfl rfl rfl (by repeat (first | exact Rep.hd | apply Rep.tl)) (by exact infoV) (by rfl) (bs_one _) ?_; clear hS; intro wk hS) | (refine sl_val rfl (run_add rfl rfl rfl R3.out) ?_) | (refine sl_val rfl (run_rem rfl rfl rfl (by decide) R1.out) ?_) | (refine sl_val rfl (run_rem rfl rfl rfl (by decide) R2.out) ?_) | (refine sl_addr rfl 26 5 _ _ rfl rfl _ k rfl Try.underlying26 info8 size8 hlt ?_) | (refine sl_addr rfl 26 5 _ _ rfl rfl _ (y % 16) rfl Try.underlying26 info8 size8 hy16 ?_) | (refine sl_cell hS rfl _ _ rfl rfl (by repeat (first | exact Has.hd | apply Has.tl)) Xv1.out (by intro w hc; go_simp) ?_) | (refine sl_cell hS rfl _ _ rfl rfl (by repeat (first | exact Has.hd | apply Has.tl)) Xv2.out (by intro w hc; go_simp) ?_) | (refine sl_cell hS rfl _ _ rfl rfl (by repeat (first | exact Has.hd | apply Has.tl)) Xv3.out (by intro w hc; go_simp) ?_) | (refine sl_cell hS rfl _ _ rfl rfl (by repeat (first | exact Has.hd | apply Has.tl)) Xv4.out (by intro w hc; go_simp) ?_) | (refine sl_cell hS rfl _ _ rfl rfl (by repeat (first | exact Has.hd | apply Has.tl)) Xv5.out (by intro w hc; go_simp) ?_) | ((with_reducible show wpList _ _ _ (⟨_, .store _ _ _, _, _, _, _⟩ :: _) _ _); refine sl_put hS rfl 5 _ _ rfl rfl rfl (by repeat (first | exact Rep.hd | apply Rep.tl)) (by exact hlt) Xp1.out info8 size8 rfl ?_; clear hS; intro wk hS) | ((with_reducible show wpList _ _ _ (⟨_, .store _ _ _, _, _, _, _⟩ :: _) _ _); refine sl_put hS rfl 5 _ _ rfl rfl rfl (by repeat (first | exact Rep.hd | apply Rep.tl)) (by exact hlt) Xp2.out info8 size8 rfl ?_; clear hS; intro wk hS) | (apply sl_val rfl; focus (intro w; go_simp; first | exact rfl | rfl)) | (refine sl_skip rfl ?_)); go_simp)
        go_upto_region 17 with (fail)
        try refine wp_region_lit ?_
        iterate 5 ((first | (refine sl_load hS rfl 26 _ rfl rfl (by repeat (first | exact Has.hd | apply Has.tl)) Try.underlying26 rfl (by exact infoV) ?_) | (refine sl_store hS rfl 26 _ _ rfl rfl rfl (by repeat (first | exact Rep.hd | apply Rep.tl)) (by exact infoV) (by rfl) (bs_one _) ?_; clear hS; intro wk hS) | (refine sl_val rfl (run_add rfl rfl rfl R3.out) ?_) | (refine sl_val rfl (run_rem rfl rfl rfl (by decide) R1.out) ?_) | (refine sl_val rfl (run_rem rfl rfl rfl (by decide) R2.out) ?_) | (refine sl_addr rfl 26 5 _ _ rfl rfl _ k rfl Try.underlying26 info8 size8 hlt ?_) | (refine sl_addr rfl 26 5 _ _ rfl rfl _ (y % 16) rfl Try.underlying26 info8 size8 hy16 ?_) | (refine sl_cell hS rfl _ _ rfl rfl (by repeat (first | exact Has.hd | apply Has.tl)) Xv1.out (by intro w hc; go_simp) ?_) | (refine sl_cell hS rfl _ _ rfl rfl (by repeat (first | exact Has.hd | apply Has.tl)) Xv2.out (by intro w hc; go_simp) ?_) | (refine sl_cell hS rfl _ _ rfl rfl (by repeat (first | exact Has.hd | apply Has.tl)) Xv3.out (by intro w hc; go_simp) ?_) | (refine sl_cell hS rfl _ _ rfl rfl (by repeat (first | exact Has.hd | apply Has.tl)) Xv4.out (by intro w hc; go_simp) ?_) | (refine sl_cell hS rfl _ _ rfl rfl (by repeat (first | exact Has.hd | apply Has.tl)) Xv5.out (by intro w hc; go_simp) ?_) | ((with_reducible show wpList _ _ _ (⟨_, .store _ _ _, _, _, _, _⟩ :: _) _ _); refine sl_put hS rfl 5 _ _ rfl rfl rfl (by repeat (first | exact Rep.hd | apply Rep.tl)) (by exact hlt) Xp1.out info8 size8 rfl ?_; clear hS; intro wk hS) | ((with_reducible show wpList _ _ _ (⟨_, .store _ _ _, _, _, _, _⟩ :: _) _ _); refine sl_put hS rfl 5 _ _ rfl rfl rfl (by repeat (first | exact Rep.hd | apply Rep.tl)) (by exact hlt) Xp2.out info8 size8 rfl ?_; clear hS; intro wk hS) | (apply sl_val rfl; focus (intro w; go_simp; first | exact rfl | rfl)) | (refine sl_skip rfl ?_)); go_simp)
        go_upto_region 19 with (fail)
        try refine wp_region_lit ?_
        iterate 8 ((first | (refine sl_load hS rfl 26 _ rfl rfl (by repeat (first | exact Has.hd | apply Has.tl)) Try.underlying26 rfl (by exact infoV) ?_) | (refine sl_store hS rfl 26 _ _ rfl rfl rfl (by repeat (first | exact Rep.hd | apply Rep.tl)) (by exact infoV) (by rfl) (bs_one _) ?_; clear hS; intro wk hS) | (refine sl_val rfl (run_add rfl rfl rfl R3.out) ?_) | (refine sl_val rfl (run_rem rfl rfl rfl (by decide) R1.out) ?_) | (refine sl_val rfl (run_rem rfl rfl rfl (by decide) R2.out) ?_) | (refine sl_addr rfl 26 5 _ _ rfl rfl _ k rfl Try.underlying26 info8 size8 hlt ?_) | (refine sl_addr rfl 26 5 _ _ rfl rfl _ (y % 16) rfl Try.underlying26 info8 size8 hy16 ?_) | (refine sl_cell hS rfl _ _ rfl rfl (by repeat (first | exact Has.hd | apply Has.tl)) Xv1.out (by intro w hc; go_simp) ?_) | (refine sl_cell hS rfl _ _ rfl rfl (by repeat (first | exact Has.hd | apply Has.tl)) Xv2.out (by intro w hc; go_simp) ?_) | (refine sl_cell hS rfl _ _ rfl rfl (by repeat (first | exact Has.hd | apply Has.tl)) Xv3.out (by intro w hc; go_simp) ?_) | (refine sl_cell hS rfl _ _ rfl rfl (by repeat (first | exact Has.hd | apply Has.tl)) Xv4.out (by intro w hc; go_simp) ?_) | (refine sl_cell hS rfl _ _ rfl rfl (by repeat (first | exact Has.hd | apply Has.tl)) Xv5.out (by intro w hc; go_simp) ?_) | ((with_reducible show wpList _ _ _ (⟨_, .store _ _ _, _, _, _, _⟩ :: _) _ _); refine sl_put hS rfl 5 _ _ rfl rfl rfl (by repeat (first | exact Rep.hd | apply Rep.tl)) (by exact hlt) Xp1.out info8 size8 rfl ?_; clear hS; intro wk hS) | ((with_reducible show wpList _ _ _ (⟨_, .store _ _ _, _, _, _, _⟩ :: _) _ _); refine sl_put hS rfl 5 _ _ rfl rfl rfl (by repeat (first | exact Rep.hd | apply Rep.tl)) (by exact hlt) Xp2.out info8 size8 rfl ?_; clear hS; intro wk hS) | (apply sl_val rfl; focus (intro w; go_simp; first | exact rfl | rfl)) | (refine sl_skip rfl ?_)); go_simp)
        go_upto_region 20 with (fail)
        try refine wp_region_lit ?_
        iterate 9 ((first | (refine sl_load hS rfl 26 _ rfl rfl (by repeat (first | exact Has.hd | apply Has.tl)) Try.underlying26 rfl (by exact infoV) ?_) | (refine sl_store hS rfl 26 _ _ rfl rfl rfl (by repeat (first | exact Rep.hd | apply Rep.tl)) (by exact infoV) (by rfl) (bs_one _) ?_; clear hS; intro wk hS) | (refine sl_val rfl (run_add rfl rfl rfl R3.out) ?_) | (refine sl_val rfl (run_rem rfl rfl rfl (by decide) R1.out) ?_) | (refine sl_val rfl (run_rem rfl rfl rfl (by decide) R2.out) ?_) | (refine sl_addr rfl 26 5 _ _ rfl rfl _ k rfl Try.underlying26 info8 size8 hlt ?_) | (refine sl_addr rfl 26 5 _ _ rfl rfl _ (y % 16) rfl Try.underlying26 info8 size8 hy16 ?_) | (refine sl_cell hS rfl _ _ rfl rfl (by repeat (first | exact Has.hd | apply Has.tl)) Xv1.out (by intro w hc; go_simp) ?_) | (refine sl_cell hS rfl _ _ rfl rfl (by repeat (first | exact Has.hd | apply Has.tl)) Xv2.out (by intro w hc; go_simp) ?_) | (refine sl_cell hS rfl _ _ rfl rfl (by repeat (first | exact Has.hd | apply Has.tl)) Xv3.out (by intro w hc; go_simp) ?_) | (refine sl_cell hS rfl _ _ rfl rfl (by repeat (first | exact Has.hd | apply Has.tl)) Xv4.out (by intro w hc; go_simp) ?_) | (refine sl_cell hS rfl _ _ rfl rfl (by repeat (first | exact Has.hd | apply Has.tl)) Xv5.out (by intro w hc; go_simp) ?_) | ((with_reducible show wpList _ _ _ (⟨_, .store _ _ _, _, _, _, _⟩ :: _) _ _); refine sl_put hS rfl 5 _ _ rfl rfl rfl (by repeat (first | exact Rep.hd | apply Rep.tl)) (by exact hlt) Xp1.out info8 size8 rfl ?_; clear hS; intro wk hS) | ((with_reducible show wpList _ _ _ (⟨_, .store _ _ _, _, _, _, _⟩ :: _) _ _); refine sl_put hS rfl 5 _ _ rfl rfl rfl (by repeat (first | exact Rep.hd | apply Rep.tl)) (by exact hlt) Xp2.out info8 size8 rfl ?_; clear hS; intro wk hS) | (apply sl_val rfl; focus (intro w; go_simp; first | exact rfl | rfl)) | (refine sl_skip rfl ?_)); go_simp)
        go_wp2_with fail
        exact ⟨⟨k + 1, by omega, by go_num, by rw [Xw1.out, Xw2.out] at hS; exact hS⟩, by simp [intOf]; omega⟩
    · obtain rfl : k = 16 := by omega
      rw [mixed_all, mixed_all] at hS
      go_upto_region 22 with (first | (refine sl_load hS rfl 26 _ rfl rfl (by repeat (first | exact Has.hd | apply Has.tl)) Try.underlying26 rfl (by exact infoV) ?_) | (refine sl_store hS rfl 26 _ _ rfl rfl rfl (by repeat (first | exact Rep.hd | apply Rep.tl)) (by exact infoV) (by rfl) (bs_one _) ?_; clear hS; intro wk hS) | (refine sl_box hS rfl _ 26 (box_vec rfl rfl) ?_; clear hS; intro bk wk hS) | (refine sl_box hS rfl _ 26 (alloc_vec rfl) ?_; clear hS; intro t18 wk hS) | (refine onlyN_end ?_) | (refine onlyN_now ?_) | ((go_at_call 16); (with_reducible refine sl_call hS (XC4.out _) ?_); clear hS; intro wk hS))
      refine sm_tail 9 [(8, ⟨(fun b => .pointer (some ⟨b, 0, none⟩)), bs fun _ => 0, 26⟩)] hS (by kernel_rfl) (by kernel_rfl) (fun β => ?_)
      simp only [List.take_succ_cons, List.take_zero, List.drop_succ_cons, List.drop_zero]
      iterate 9 (refine sm_step (fun K hK => ?_); (first | (refine sm_load rfl rfl 26 _ rfl rfl (by repeat (first | exact Has.hd | apply Has.tl)) Try.underlying26 rfl (by exact infoV) ?_) | (refine sm_lay rfl rfl (by intro w; go_simp) ?_) | (refine sm_build rfl rfl 26 _ rfl (bs fun _ => 0) (by first | (simp only [List.map_toArray, List.map_nil]; kernel_rfl) | (simp only [Array.map_empty]; kernel_rfl)) ?_) | (apply sm_yes rfl rfl; focus (intro wx hx; go_simp; first | (apply sm_enter (by kernel_rfl); first | fail | with_reducible exact XC8.out wx | with_reducible exact XC5.out wx) | exact ⟨rfl, Gr.refl _⟩)) | (refine sm_no rfl rfl ?_)); go_simp; refine hK _ ?_; clear hK K)
      refine sm_nil ?_
      clear hS
      intro wk hS
      replace hS : St w [⟨β 8, bs fun _ => 0, 26⟩, ⟨t18, bs v, 26⟩, ⟨t15, bs bo, 26⟩, ⟨t14, bs ot, 26⟩, ⟨t12, bs b, 26⟩, ⟨t10, bs a, 26⟩, ⟨t8, bs v, 26⟩, ⟨t7, bs s, 26⟩, ⟨r, bs b, 26⟩, ⟨q, bs a, 26⟩, ⟨p, bs sel, 26⟩] wk := hS
      generalize β 8 = t19 at hS ⊢
      go_upto_region 24 with (first | (refine sl_load hS rfl 26 _ rfl rfl (by repeat (first | exact Has.hd | apply Has.tl)) Try.underlying26 rfl (by exact infoV) ?_) | (refine sl_store hS rfl 26 _ _ rfl rfl rfl (by repeat (first | exact Rep.hd | apply Rep.tl)) (by exact infoV) (by rfl) (bs_one _) ?_; clear hS; intro wk hS) | (refine sl_box hS rfl _ 26 (box_vec rfl rfl) ?_; clear hS; intro bk wk hS) | (refine sl_box hS rfl _ 26 (alloc_vec rfl) ?_; clear hS; intro t20 wk hS) | (refine onlyN_end ?_) | (refine onlyN_now ?_) | ((go_at_call 16); (with_reducible refine sl_call hS (XC6.out _) ?_); clear hS; intro wk hS))
      try refine wp_region_lit ?_
      iterate 20 ((first | (refine sl_load hS rfl 26 _ rfl rfl (by repeat (first | exact Has.hd | apply Has.tl)) Try.underlying26 rfl (by exact infoV) ?_) | (refine sl_store hS rfl 26 _ _ rfl rfl rfl (by repeat (first | exact Rep.hd | apply Rep.tl)) (by exact infoV) (by rfl) (bs_one _) ?_; clear hS; intro wk hS) | (refine sl_neq rfl rfl rfl rfl (vecB_refl _) ?_) | (apply sl_val rfl; focus (intro w; go_simp; first | exact rfl | rfl)) | (refine sl_skip rfl ?_)); go_simp)
      go_upto_region 26 with (fail)
      try refine wp_region_lit ?_
      iterate 3 ((first | (refine sl_load hS rfl 26 _ rfl rfl (by repeat (first | exact Has.hd | apply Has.tl)) Try.underlying26 rfl (by exact infoV) ?_) | (refine sl_store hS rfl 26 _ _ rfl rfl rfl (by repeat (first | exact Rep.hd | apply Rep.tl)) (by exact infoV) (by rfl) (bs_one _) ?_; clear hS; intro wk hS) | (refine sl_box hS rfl _ 26 (alloc_vec rfl) ?_; clear hS; intro t21 wk hS) | (apply sl_val rfl; focus (intro w; go_simp; first | exact rfl | rfl)) | (refine sl_skip rfl ?_)); go_simp)
      go_upto_region 27 with (fail)
      have hm1 := Lib.hid (show Int.tmod (u : Int) 16 = ((u % 16 : Nat) : Int) by rw [Int.tmod_eq_emod_of_nonneg (by omega)]; omega)
      have hm2 := Lib.hid (show Int.tmod (u : Int) 224 = (u : Int) % 224 by rw [Int.tmod_eq_emod_of_nonneg (by omega)])
      have hm3 := Lib.hid (show IntKind.u8.wrap (32 + (u : Int) % 224) = 32 + (u : Int) % 224 by rw [IntKind.wrap_u8]; omega)
      have hm4 := Lib.hid (show IntKind.i64.wrap (u : Int) = (u : Int) from IntWalk.i64_in _ (by omega))
      try refine wp_region_lit ?_
      iterate 10 ((first | (refine sl_load hS rfl 26 _ rfl rfl (by repeat (first | exact Has.hd | apply Has.tl)) Try.underlying26 rfl (by exact infoV) ?_) | (refine sl_store hS rfl 26 _ _ rfl rfl rfl (by repeat (first | exact Rep.hd | apply Rep.tl)) (by exact infoV) (by rfl) (bs_one _) ?_; clear hS; intro wk hS) | (refine sl_addr rfl 26 5 _ _ rfl rfl _ 0 rfl Try.underlying26 info8 size8 (by omega) ?_) | (refine sl_addr rfl 26 5 _ _ rfl rfl _ (u % 16) rfl Try.underlying26 info8 size8 hu16 ?_) | (refine sl_cell hS rfl _ _ rfl rfl (by repeat (first | exact Has.hd | apply Has.tl)) H0.out (by intro w hc; go_simp) ?_) | (refine sl_val rfl (run_conv rfl rfl Try.underlying5 Try.underlying3 hm4.out) ?_) | (refine sl_val rfl (run_rem rfl rfl rfl (by decide) hm1.out) ?_) | (refine sl_val rfl (run_rem rfl rfl rfl (by decide) hm2.out) ?_) | (refine sl_val rfl (run_add rfl rfl rfl hm3.out) ?_) | ((with_reducible show wpList _ _ _ (⟨_, .store _ _ _, _, _, _, _⟩ :: _) _ _); refine sl_put hS rfl 5 _ _ rfl rfl rfl (by repeat (first | exact Rep.hd | apply Rep.tl)) (by exact hu16) HP7.out info8 size8 rfl ?_; clear hS; intro wk hS) | (apply sl_val rfl; focus (intro w; go_simp; first | exact rfl | rfl)) | (refine sl_skip rfl ?_)); go_simp)
      go_upto_region 28 with (fail)
      have hq3 := fun w => eq_same (fun _ => 0) w
      go_wp2_with (first | (refine sl_load hS rfl 26 _ rfl rfl (by repeat (first | exact Has.hd | apply Has.tl)) Try.underlying26 rfl (by exact infoV) ?_) | (refine sl_store hS rfl 26 _ _ rfl rfl rfl (by repeat (first | exact Rep.hd | apply Rep.tl)) (by exact infoV) (by rfl) (bs_one _) ?_; clear hS; intro wk hS) | (refine sl_box hS rfl _ 26 (box_vec rfl rfl) ?_; clear hS; intro bk wk hS) | (refine sl_box hS rfl _ 26 (alloc_vec rfl) ?_; clear hS; intro t22 wk hS) | (refine onlyN_end ?_) | (refine onlyN_now ?_) | ((go_at_call 16); (with_reducible refine sl_call hS (XC7.out _) ?_); clear hS; intro wk hS) | (refine wpList_build_at rfl 26 _ rfl (bs fun _ => 0) (by first | (simp only [List.map_toArray, List.map_nil]; kernel_rfl) | (simp only [Array.map_empty]; kernel_rfl)) ?_))
      go_ret
      exact ⟨rfl, hS.gr⟩
end Mv
end Go.Proofs.Ytaahkpjdffgagaa
