/-
  MoveSwizzles, MoveShuffles: for all vectors the laws return true. Condition: bytes.
-/
import Derived.Test.YtaahkpjdffgagaaMvAw
import Derived.Test.YtaahkpjdffgagaaSlQ
namespace Go.Proofs.Ytaahkpjdffgagaa
open Go.RowKit VecM
namespace Mv
def clV (b : Nat → Int) : Nat → Int := fun m => if 16 ≤ b m then 16 else b m
theorem clV_byt {b : Nat → Int} (h : Byt b) : Byt (clV b) := fun m => by have := h m; unfold clV; split <;> omega
theorem clV_sh (a b : Nat → Int) : bs (shV a (fun _ => 0) (clV b)) = bs (swzV a b) := bs_congr fun m _ => by
  unfold shV swzV clV
  by_cases h : 16 ≤ b m
  · rw [if_pos h, if_neg (by omega), if_neg (by omega)]
  · rw [if_neg h, if_pos (by omega)]
theorem swz_num0 (a : Nat → Int) : bs (swzV a (numV 0)) = bs a := bs_congr fun m hm => by
  unfold swzV; rw [numV_at 0 m hm, if_pos (by omega)]; congr 1; omega
theorem swz_numF (a : Nat → Int) (f : Nat) (h : 16 ≤ f) : bs (swzV a (numV f)) = bs fun _ => 0 := bs_congr fun m hm => by
  unfold swzV; rw [numV_at f m hm, if_neg (by omega)]
set_option maxRecDepth 100000 in
set_option maxHeartbeats 8000000 in
theorem swizzles_walk (a b : Nat → Int) (_ha : Byt a) (hb : Byt b) (w : World) : Calls Try.prog 6 #[.agg (bs a), .agg (bs b)] w fun e w' => e = .returned (.bool true) ∧ Gr w w' := by
  have C1 := fun w => shuffle_ok a (fun _ => 0) (clV b) (clV_byt hb) (fun m _ => by unfold clV; split <;> omega) w
  rw [clV_sh] at C1
  have C2 := fun w => swizzle_any a b hb w
  have C3 := fun w => swizzle_any a (numV 0) (numV_byt 0 (by omega)) w
  rw [swz_num0] at C3
  have C4 := fun w => swizzle_any a (numV 16) (numV_byt 16 (by omega)) w
  rw [swz_numF a 16 (by omega)] at C4
  have C5 := fun w => swizzle_any a (numV 240) (numV_byt 240 (by omega)) w
  rw [swz_numF a 240 (by omega)] at C5
  have N0 : ∀ w, Calls Try.prog 21 #[.int .i64 0] w fun e w' => e = .returned (.agg (bs (numV 0))) ∧ Gr w w' := fun w => numbers_any 0 (by omega) w
  have N1 : ∀ w, Calls Try.prog 21 #[.int .i64 16] w fun e w' => e = .returned (.agg (bs (numV 16))) ∧ Gr w w' := fun w => numbers_any 16 (by omega) w
  have N2 : ∀ w, Calls Try.prog 21 #[.int .i64 240] w fun e w' => e = .returned (.agg (bs (numV 240))) ∧ Gr w w' := fun w => numbers_any 240 (by omega) w
  generalize numV 0 = n0 at *
  generalize numV 16 = n1 at *
  generalize numV 240 = n2 at *
  generalize swzV a b = x at *
  have HB := Lib.hid hb
  clear hb
  have hS := St.start w
  have XC1 := Lib.hid C1
  clear C1
  have XC2 := Lib.hid C2
  clear C2
  have XC3 := Lib.hid C3
  clear C3
  have XC4 := Lib.hid C4
  clear C4
  have XC5 := Lib.hid C5
  clear C5
  have XN0 := Lib.hid N0
  clear N0
  have XN1 := Lib.hid N1
  clear N1
  have XN2 := Lib.hid N2
  clear N2
  go_enter Try.func6, Try.ntmps6
  go_upto_region 0 with (fail)
  refine wp_region_lit ?_
  refine sl_box hS rfl _ 26 (box_vec rfl rfl) ?_
  clear hS
  intro p wk hS
  refine sl_box hS rfl _ 26 (box_vec rfl rfl) ?_
  clear hS
  intro q wk hS
  go_wp2_with (first | (refine sl_load hS rfl 26 _ rfl rfl (by repeat (first | exact Has.hd | apply Has.tl)) Try.underlying26 rfl (by exact infoV) ?_) | (refine sl_store hS rfl 26 _ _ rfl rfl rfl (by repeat (first | exact Rep.hd | apply Rep.tl)) (by exact infoV) (by rfl) (bs_one _) ?_; clear hS; intro wk hS) | (refine sl_box hS rfl _ 26 (box_vec rfl rfl) ?_; clear hS; intro bk wk hS) | (refine sl_box hS rfl _ 26 (alloc_vec rfl) ?_; clear hS; intro r wk hS) | (refine onlyN_end ?_) | (refine onlyN_now ?_) | ((go_at_call 9); (with_reducible refine sl_call hS (awake _) ?_); clear hS; intro wk hS))
  go_loopw [6] (fun u wr => ∃ k : Nat, k ≤ 16 ∧ u = .int .i64 k ∧ St w [⟨r, bs (mixed k (clV b) b), 26⟩, ⟨q, bs b, 26⟩, ⟨p, bs a, 26⟩] wr) (fun u _ => 16 - (intOf u).toNat)
  case atStart => exact ⟨0, by omega, rfl, by rw [mixed0]; exact hS⟩
  case round =>
    obtain ⟨k, hk, rfl, hS⟩ := hrel
    by_cases hlt : k < 16
    · have hv := Lib.hid (bs_get b k hlt)
      have hw' := mixed_succ (clV b) b k
      have hn := Lib.hid (mixed_skip (clV b) b k)
      have hf : clV b k = if 16 ≤ b k then 16 else b k := rfl
      have hpt := Lib.hid (bs_upd (mixed k (clV b) b) k 16 hlt)
      generalize b k = y at *
      by_cases hc : 16 ≤ y
      · rw [if_pos hc] at hf
        rw [hf] at hw'
        have hW := Lib.hid hw'
        clear hw' hf
        go_wp2_with (first | (refine sl_load hS rfl 26 _ rfl rfl (by repeat (first | exact Has.hd | apply Has.tl)) Try.underlying26 rfl (by exact infoV) ?_) | (refine sl_store hS rfl 26 _ _ rfl rfl rfl (by repeat (first | exact Rep.hd | apply Rep.tl)) (by exact infoV) (by rfl) (bs_one _) ?_; clear hS; intro wk hS) | (refine sl_box hS rfl _ 26 (box_vec rfl rfl) ?_; clear hS; intro bk wk hS) | (refine sl_box hS rfl _ 26 (alloc_vec rfl) ?_; clear hS; intro bk wk hS) | (refine onlyN_end ?_) | (refine onlyN_now ?_) | (refine sl_addr rfl 26 5 _ _ rfl rfl _ k rfl Try.underlying26 info8 size8 hlt ?_) | (refine sl_cell hS rfl _ _ rfl rfl (by repeat (first | exact Has.hd | apply Has.tl)) hv.out (by intro w hc; go_simp) ?_) | (refine sl_put hS rfl 5 _ _ rfl rfl rfl (by repeat (first | exact Rep.hd | apply Rep.tl)) (by exact hlt) hpt.out info8 size8 rfl ?_; clear hS; intro wk hS))
        exact ⟨⟨k + 1, by omega, by go_num, by rw [← hW.out]; exact hS⟩, by simp [intOf]; omega⟩
      · rw [if_neg hc] at hf
        have hW := Lib.hid (hn.out hf)
        clear hw' hf hn
        go_wp2_with (first | (refine sl_load hS rfl 26 _ rfl rfl (by repeat (first | exact Has.hd | apply Has.tl)) Try.underlying26 rfl (by exact infoV) ?_) | (refine sl_store hS rfl 26 _ _ rfl rfl rfl (by repeat (first | exact Rep.hd | apply Rep.tl)) (by exact infoV) (by rfl) (bs_one _) ?_; clear hS; intro wk hS) | (refine sl_box hS rfl _ 26 (box_vec rfl rfl) ?_; clear hS; intro bk wk hS) | (refine sl_box hS rfl _ 26 (alloc_vec rfl) ?_; clear hS; intro bk wk hS) | (refine onlyN_end ?_) | (refine onlyN_now ?_) | (refine sl_addr rfl 26 5 _ _ rfl rfl _ k rfl Try.underlying26 info8 size8 hlt ?_) | (refine sl_cell hS rfl _ _ rfl rfl (by repeat (first | exact Has.hd | apply Has.tl)) hv.out (by intro w hc; go_simp) ?_))
        exact ⟨⟨k + 1, by omega, by go_num, by rw [← hW.out]; exact hS⟩, by simp [intOf]; omega⟩
    · obtain rfl : k = 16 := by omega
      rw [mixed_all] at hS
      go_upto_region 10 with (first | (refine sl_load hS rfl 26 _ rfl rfl (by repeat (first | exact Has.hd | apply Has.tl)) Try.underlying26 rfl (by exact infoV) ?_) | (refine sl_store hS rfl 26 _ _ rfl rfl rfl (by repeat (first | exact Rep.hd | apply Rep.tl)) (by exact infoV) (by rfl) (bs_one _) ?_; clear hS; intro wk hS) | (refine sl_box hS rfl _ 26 (box_vec rfl rfl) ?_; clear hS; intro bk wk hS) | (refine sl_box hS rfl _ 26 (alloc_vec rfl) ?_; clear hS; intro v wk hS) | (refine onlyN_end ?_) | (refine onlyN_now ?_) | ((go_at_call 16); (with_reducible refine sl_call hS (XC1.out _) ?_); clear hS; intro wk hS) | (refine wpList_build_at rfl 26 _ rfl (bs fun _ => 0) (by first | (simp only [List.map_toArray, List.map_nil]; kernel_rfl) | (simp only [Array.map_empty]; kernel_rfl)) ?_))
      have hq1 := fun w => eq_same x w
      have hq2 := fun w => eq_same a w
      have hq3 := fun w => eq_same (fun _ => 0) w
      refine sm_all [] hS (by kernel_rfl) (by kernel_rfl) (fun β => ?_)
      repeat (refine sm_step (fun K hK => ?_); (first | (refine sm_load rfl rfl 26 _ rfl rfl (by repeat (first | exact Has.hd | apply Has.tl)) Try.underlying26 rfl (by exact infoV) ?_) | (refine sm_lay rfl rfl (by intro w; go_simp) ?_) | (refine sm_build rfl rfl 26 _ rfl (bs fun _ => 0) (by first | (simp only [List.map_toArray, List.map_nil]; kernel_rfl) | (simp only [Array.map_empty]; kernel_rfl)) ?_) | (apply sm_yes rfl rfl; focus (intro wx hx; go_simp; first | (apply sm_enter (by kernel_rfl); first | fail | with_reducible exact XC2.out wx | with_reducible exact XC3.out wx | with_reducible exact XC4.out wx | with_reducible exact XC5.out wx | with_reducible exact XN0.out wx | with_reducible exact XN1.out wx | with_reducible exact XN2.out wx) | exact ⟨rfl, Gr.refl _⟩)) | (refine sm_no rfl rfl ?_)); go_simp; refine hK _ ?_; clear hK K)
      refine sm_nil ?_
      clear hS
      intro wk hS
      replace hS : St w [⟨v, bs x, 26⟩, ⟨r, bs (clV b), 26⟩, ⟨q, bs b, 26⟩, ⟨p, bs a, 26⟩] wk := hS
      go_wp2
      go_ret
      exact ⟨rfl, hS.gr⟩
end Mv
end Go.Proofs.Ytaahkpjdffgagaa
