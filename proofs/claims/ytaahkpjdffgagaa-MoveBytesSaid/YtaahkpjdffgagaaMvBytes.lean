/-
  MoveBytes: for all vectors the law returns true. Condition: bytes.
-/
import Derived.Test.YtaahkpjdffgagaaMvAw
import Derived.Test.YtaahkpjdffgagaaMvRef
namespace Go.Proofs.Ytaahkpjdffgagaa
open Go.RowKit VecM
namespace Mv
theorem bytes_core (s a b : Nat → Int) (hs : Byt s) (hb : Byt b) (v : Nat → Int) (r : Int)
    (C1 : ∀ w, Calls Try.prog 16 #[.agg (bs s), .agg (bs a), .agg (bs b)] w fun e w' => e = .returned (.tuple #[.agg (bs v), .int .i64 r]) ∧ Gr w w')
    (C2 : ∀ w, Calls Try.prog 17 #[.agg (bs s), .agg (bs a), .agg (bs b)] w fun e w' => e = .returned (.tuple #[.agg (bs v), .int .i64 r]) ∧ Gr w w') (w : World) :
    Calls Try.prog 4 #[.agg (bs s), .agg (bs a), .agg (bs b)] w fun e w' => e = .returned (.bool true) ∧ Gr w w' := by
  have C3 := fun w => swizzle_any a s hs w
  have C4 := fun w => rswizzle_any a s hs w
  have C5 := fun w => swizzle_any a b hb w
  have C6 := fun w => rswizzle_any a b hb w
  generalize swzV a s = x at *
  generalize swzV a b = y at *
  have hr : (r == r) = true := by simp
  clear hs hb
  have hS := St.start w
  have XC1 := Lib.hid C1
  clear C1
  have XC2 := Lib.hid C2
  clear C2
  have XC3 := Lib.hid C3
  clear C3
  have XC4 := Lib.hid C4
  clear C4
  have XC5 := Lib.hid C5
  clear C5
  have XC6 := Lib.hid C6
  clear C6
  go_enter Try.func4, Try.ntmps4
  go_upto_region 0 with (fail)
  refine wp_region_lit ?_
  refine sl_box hS rfl _ 26 (box_vec rfl rfl) ?_
  clear hS
  intro p wk hS
  refine sl_box hS rfl _ 26 (box_vec rfl rfl) ?_
  clear hS
  intro q wk hS
  refine sl_box hS rfl _ 26 (box_vec rfl rfl) ?_
  clear hS
  intro t wk hS
  go_upto_region 3 with (first | (refine sl_load hS rfl 26 _ rfl rfl (by repeat (first | exact Has.hd | apply Has.tl)) Try.underlying26 rfl (by exact infoV) ?_) | (refine sl_store hS rfl 26 _ _ rfl rfl rfl (by repeat (first | exact Rep.hd | apply Rep.tl)) (by exact infoV) (by rfl) (bs_one _) ?_; clear hS; intro wk hS) | (refine sl_box hS rfl _ 26 (box_vec rfl rfl) ?_; clear hS; intro bk wk hS) | (refine sl_box hS rfl _ 26 (alloc_vec rfl) ?_; clear hS; intro bk wk hS) | (refine onlyN_end ?_) | (refine onlyN_now ?_) | ((go_at_call 9); (with_reducible refine sl_call hS (awake _) ?_); clear hS; intro wk hS))
  try refine wp_region_lit ?_
  iterate 10 ((first | (refine sl_load hS rfl 26 _ rfl rfl (by repeat (first | exact Has.hd | apply Has.tl)) Try.underlying26 rfl (by exact infoV) ?_) | (refine sl_store hS rfl 26 _ _ rfl rfl rfl (by repeat (first | exact Rep.hd | apply Rep.tl)) (by exact infoV) (by rfl) (bs_one _) ?_; clear hS; intro wk hS) | ((with_reducible show wpList _ _ _ (⟨_, .alloc 26 , _, _, _, _⟩ :: _) _ _); refine sl_box hS rfl _ 26 (alloc_vec rfl) ?_; clear hS; intro t7 wk hS) | (apply sl_val rfl; focus (intro w; go_simp; (try simp (disch := omega) only [IntWalk.i64_in, IntWalk.u64_in, IntWalk.u8_in, IntWalk.u32_in, IntWalk.i32_in]); first | exact rfl | rfl)) | (refine sl_step (fun K hK => .inl ⟨rfl, ?_⟩); unfold Oper.wp; go_simp; (first | with_reducible refine sl_call hS (XC1.out _) ?_); clear hS; intro wk hS; refine hK _ _ ?_; clear hK K) | (refine sl_skip rfl ?_)); go_simp)
  go_upto_region 4 with (fail)
  try refine wp_region_lit ?_
  iterate 10 ((first | (refine sl_load hS rfl 26 _ rfl rfl (by repeat (first | exact Has.hd | apply Has.tl)) Try.underlying26 rfl (by exact infoV) ?_) | (refine sl_store hS rfl 26 _ _ rfl rfl rfl (by repeat (first | exact Rep.hd | apply Rep.tl)) (by exact infoV) (by rfl) (bs_one _) ?_; clear hS; intro wk hS) | ((with_reducible show wpList _ _ _ (⟨_, .alloc 26 , _, _, _, _⟩ :: _) _ _); refine sl_box hS rfl _ 26 (alloc_vec rfl) ?_; clear hS; intro t9 wk hS) | (apply sl_val rfl; focus (intro w; go_simp; (try simp (disch := omega) only [IntWalk.i64_in, IntWalk.u64_in, IntWalk.u8_in, IntWalk.u32_in, IntWalk.i32_in]); first | exact rfl | rfl)) | (refine sl_step (fun K hK => .inl ⟨rfl, ?_⟩); unfold Oper.wp; go_simp; (first | with_reducible refine sl_call hS (XC2.out _) ?_); clear hS; intro wk hS; refine hK _ _ ?_; clear hK K) | (refine sl_skip rfl ?_)); go_simp)
  have hq1 := fun w => eq_same v w
  have hq2 := fun w => eq_same x w
  have hq3 := fun w => eq_same y w
  go_upto_region 5 with (fail)
  refine sm_all [] hS (by kernel_rfl) (by kernel_rfl) (fun β => ?_)
  repeat (refine sm_step (fun K hK => ?_); (first | (refine sm_load rfl rfl 26 _ rfl rfl (by repeat (first | exact Has.hd | apply Has.tl)) Try.underlying26 rfl (by exact infoV) ?_) | (refine sm_lay rfl rfl (by intro w; go_simp) ?_) | (refine sm_build rfl rfl 26 _ rfl (bs fun _ => 0) (by first | (simp only [List.map_toArray, List.map_nil]; kernel_rfl) | (simp only [Array.map_empty]; kernel_rfl)) ?_) | (apply sm_yes rfl rfl; focus (intro wx hx; go_simp; first | (apply sm_enter (by kernel_rfl); first | fail | with_reducible exact XC3.out wx | with_reducible exact XC4.out wx | with_reducible exact XC5.out wx | with_reducible exact XC6.out wx) | exact ⟨rfl, Gr.refl _⟩)) | (refine sm_no rfl rfl ?_)); go_simp; refine hK _ ?_; clear hK K)
  refine sm_nil ?_
  clear hS
  intro wk hS
  replace hS : St w [⟨t9, bs v, 26⟩, ⟨t7, bs v, 26⟩, ⟨t, bs b, 26⟩, ⟨q, bs a, 26⟩, ⟨p, bs s, 26⟩] wk := hS
  go_wp2
  go_ret
  exact ⟨rfl, hS.gr⟩
theorem bytes_walk (s a b : Nat → Int) (hs : Byt s) (_ha : Byt a) (hb : Byt b) (w : World) :
    Calls Try.prog 4 #[.agg (bs s), .agg (bs a), .agg (bs b)] w fun e w' => e = .returned (.bool true) ∧ Gr w w' := by
  by_cases h : ∃ m, m < 16 ∧ 32 ≤ s m
  · exact bytes_core s a b hs hb _ _ (shuffle_bad a b s hs h) (rshuffle_bad a b s hs h) w
  · have h' : ∀ m, m < 16 → s m < 32 := fun m hm => by
      apply Classical.byContradiction
      intro hc
      exact h ⟨m, hm, by omega⟩
    exact bytes_core s a b hs hb _ _ (shuffle_ok a b s hs h') (rshuffle_ok a b s hs h') w
end Mv
end Go.Proofs.Ytaahkpjdffgagaa
