/-
  Of layer 5's laws: awake, the answers that the document fixes by number; held. No condition.
-/
import Derived.Test.YtalnkkmbjaollaaArM
namespace Go.Proofs.Ytalnkkmbjaollaa
open Go.RowKit VecM
namespace Ar
theorem aw_val : (∀ m, m < 16 → biV 64879 (fillN 100 16) (fillN 100 16) m = fillN 127 16 m) ∧ (∀ m, m < 16 → unV 64865 (fillN 1 16) m = fillN 255 16 m) ∧ (∀ m, m < 16 → shV 64875 (fillN 255 16) 9 m = fillN 254 16 m) ∧ biOk 64879 = true ∧ unOk 64865 = true ∧ shOk 64875 = true ∧ unOk 64878 = false ∧ aW 64974 = 64 ∧ lanesI 8 = 16 := by decide +kernel
theorem fill_byt {x : Int} (hx : 0 ≤ x ∧ x ≤ 255) : Byt (fillN x 16) := fun m => by unfold fillN; split <;> omega
theorem aw_bin (w : World) : Calls Try.prog 22 #[.int .i64 64879, .agg (bs (fillN 100 16)), .agg (bs (fillN 100 16))] w fun e w' => e = .returned (.tuple #[.agg (bs (fillN 127 16)), .int .i64 0]) ∧ Gr w w' := by
  have h := bin_any 64879 (fillN 100 16) (fillN 100 16) (fill_byt (by omega)) (fill_byt (by omega)) w
  rwa [bs_congr aw_val.1, if_pos aw_val.2.2.2.1] at h
theorem aw_un (w : World) : Calls Try.prog 23 #[.int .i64 64865, .agg (bs (fillN 1 16))] w fun e w' => e = .returned (.tuple #[.agg (bs (fillN 255 16)), .int .i64 0]) ∧ Gr w w' := by
  have h := un_any 64865 (fillN 1 16) (fill_byt (by omega)) w
  rwa [bs_congr aw_val.2.1, if_pos aw_val.2.2.2.2.1] at h
theorem aw_sh (w : World) : Calls Try.prog 14 #[.int .i64 64875, .agg (bs (fillN 255 16)), .int .u32 9] w fun e w' => e = .returned (.tuple #[.agg (bs (fillN 254 16)), .int .i64 0]) ∧ Gr w w' := by
  have h := sh_any 64875 (fillN 255 16) (fill_byt (by omega)) 9 (by omega) w
  rwa [bs_congr aw_val.2.2.1, if_pos aw_val.2.2.2.2.2.1] at h
theorem aw_no (w : World) : Calls Try.prog 23 #[.int .i64 64878, .agg (bs (fillN 1 16))] w fun e w' => e = .returned (.tuple #[.agg (bs (unV 64878 (fillN 1 16))), .int .i64 1]) ∧ Gr w w' := by
  have h := un_any 64878 (fillN 1 16) (fill_byt (by omega)) w
  rwa [if_neg (by rw [aw_val.2.2.2.2.2.2.1]; decide)] at h
theorem aw_w (w : World) : Calls Try.prog 21 #[.int .i64 64974] w fun e w' => e = .returned (.int .i64 64) ∧ Gr w w' := by
  have h := width_any 64974 w
  rw [aw_val.2.2.2.2.2.2.2.1] at h
  exact calls_gr h
theorem aw_l (w : World) : Calls Try.prog 28 #[.int .i64 8] w fun e w' => e = .returned (.int .i64 16) ∧ Gr w w' := by
  have h := lanes_any 8 w
  rw [aw_val.2.2.2.2.2.2.2.2] at h
  exact calls_gr h
theorem aw_all (x : Int) (hx : 0 ≤ x ∧ x ≤ 255) (w : World) : Calls Try.prog 27 #[.int .u8 x] w fun e w' => e = .returned (.agg (bs (fillN x 16))) ∧ Gr w w' := all_any x hx w
set_option maxRecDepth 100000 in
set_option maxHeartbeats 4000000 in
theorem awake (w : World) : Calls Try.prog 11 #[] w fun e w' => e = .returned (.bool true) ∧ Gr w w' := by
  have hS := St.start w
  go_enter Try.func11, Try.ntmps11
  go_upto_region 5 with (first | (refine sl_load hS rfl 23 _ rfl rfl (by repeat (first | exact Has.hd | apply Has.tl)) Try.underlying23 rfl (by exact infoV) ?_) | (refine sl_store hS rfl 23 _ _ rfl rfl rfl (by repeat (first | exact Rep.hd | apply Rep.tl)) (by exact infoV) (by rfl) (bs_one _) ?_; clear hS; intro wk hS) | (refine sl_box hS rfl _ 23 (box_vec rfl rfl) ?_; clear hS; intro bk wk hS) | (refine sl_box hS rfl _ 23 (alloc_vec rfl) ?_; clear hS; intro bk wk hS) | (refine onlyN_end ?_) | (refine onlyN_now ?_) | ((go_at_call 27); (with_reducible refine sl_call hS (aw_all 100 (by decide) _) ?_); clear hS; intro wk hS) | ((go_at_call 27); (with_reducible refine sl_call hS (aw_all 1 (by decide) _) ?_); clear hS; intro wk hS) | ((go_at_call 27); (with_reducible refine sl_call hS (aw_all 255 (by decide) _) ?_); clear hS; intro wk hS) | ((go_at_call 22); (with_reducible refine sl_call hS (aw_bin _) ?_); clear hS; intro wk hS) | ((go_at_call 23); (with_reducible refine sl_call hS (aw_un _) ?_); clear hS; intro wk hS) | ((go_at_call 23); (with_reducible refine sl_call hS (aw_no _) ?_); clear hS; intro wk hS) | ((go_at_call 14); (with_reducible refine sl_call hS (aw_sh _) ?_); clear hS; intro wk hS))
  have hv1 := fun w => eq_vec (fillN 127 16) (fillN 127 16) w
  have hv2 := fun w => eq_vec (fillN 255 16) (fillN 255 16) w
  have hv3 := fun w => eq_vec (fillN 254 16) (fillN 254 16) w
  have hr1 := vecB_refl (fillN 127 16)
  have hr2 := vecB_refl (fillN 255 16)
  have hr3 := vecB_refl (fillN 254 16)
  refine sd_all hS (by kernel_rfl) (by kernel_rfl) ?_
  iterate 38 (refine sd_step (fun K hK => ?_); (first | (refine sd_load rfl 23 _ rfl rfl (by repeat (first | exact Has.hd | apply Has.tl)) Try.underlying23 rfl (by exact infoV) ?_) | (apply sd_yes rfl; focus (intro wx hx; go_simp; first | (apply sd_enter; first | fail | with_reducible exact aw_all 127 (by decide) wx | with_reducible exact aw_all 255 (by decide) wx | with_reducible exact aw_all 254 (by decide) wx | with_reducible exact aw_w wx | with_reducible exact aw_l wx) | exact ⟨rfl, Gr.refl _⟩)) | (refine sd_no rfl ?_)); go_simp; refine hK _ ?_; clear hK K)
  refine sd_nil ?_
  clear hS
  intro wk hS
  go_wp2
  go_ret
  exact ⟨rfl, hS.gr⟩
theorem held_any (n m a b : Int) (h : n = holdI m a b) (hab : a ≤ b) (w : World) : Calls Try.prog 18 #[.int .i64 n, .int .i64 m, .int .i64 a, .int .i64 b] w fun e w' => e = .returned (.bool true) ∧ w = w' := by
  unfold holdI at h
  by_cases h1 : m < a
  · rw [if_pos h1] at h
    subst h
    go_enter Try.func18, Try.ntmps18
    go_wp2
    go_ret
    exact ⟨rfl, rfl⟩
  · rw [if_neg h1] at h
    by_cases h2 : b < m
    · rw [if_pos h2] at h
      subst h
      go_enter Try.func18, Try.ntmps18
      go_wp2
      go_ret
      exact ⟨rfl, rfl⟩
    · rw [if_neg h2] at h
      subst h
      go_enter Try.func18, Try.ntmps18
      go_wp2
      go_ret
      exact ⟨rfl, rfl⟩
end Ar
end Go.Proofs.Ytalnkkmbjaollaa
