/-
  Of layer 8: shapes.part, Extend, Extmul, Pairwise, Narrow for all opcodes.
-/
import Derived.Test.YtmgkejpjljkfdaaWdRow
namespace Go.Proofs.Ytmgkejpjljkfdaa
open Go.RowKit VecM
namespace Wd
def hiB (d : Int) : Bool := decide (d % 2 = 1)
def sgB (d : Int) : Bool := decide (d < 2)
set_option maxHeartbeats 2000000 in
theorem part_at (op : Int) (ho : -9223372036854775808 ≤ op ∧ op ≤ 9223372036854775807) (f : Nat → Int) (L k : Nat) (hk : k < L) (hL : L ≤ 3) (hf : ∀ i, 60000 ≤ f i ∧ f i ≤ 70000) (hin : inR op 4 (f k)) (hno : ∀ i, i < k → ¬ inR op 4 (f i)) (w : World) (g : Nat)
    (hc : ∀ j, j < L → w.cell? ⟨g, j, none⟩ = some (.int .i64 (f j))) :
    Calls Try.prog 56 #[.int .i64 op, .slice (some ⟨g, 0, none⟩) L L] w fun e w' => e = .returned (.tuple #[.int .i64 (16 * pw k), .agg #[.bool (hiB (op - f k)), .bool (sgB (op - f k))]]) ∧ Gr w w' := by
  have C : ∀ w', Gr w w' → Calls Try.prog 58 #[.int .i64 op, .int .i64 4, .slice (some ⟨g, 0, none⟩) L L] w' fun e w'' => e = .returned (.tuple #[.int .i64 (pw k), .int .i64 (op - f k)]) ∧ Gr w' w'' := fun w' hg =>
    calls_gr (row_at op 4 ho f L k hk hL (.inr rfl) hf hin hno w' g (fun j hj => gr_cell hg (hc j hj)))
  have hd : op - f k = 0 ∨ op - f k = 1 ∨ op - f k = 2 ∨ op - f k = 3 := by unfold inR at hin; omega
  have hp : pw k = 1 ∨ pw k = 2 ∨ pw k = 4 := by unfold pw; split; omega; split <;> omega
  clear hin hno hf ho hc hk hL
  generalize op - f k = d at *
  generalize pw k = q at *
  have hS := St.start w
  have XC := Lib.hid C
  clear C
  rcases hd with rfl | rfl | rfl | rfl
  · rcases hp with rfl | rfl | rfl
    all_goals
      go_enter Try.func56, Try.ntmps56
      go_upto_region 0 with (fail)
      try refine wp_region_lit ?_
      iterate 2 ((first | (refine sl_load hS rfl 35 _ rfl rfl (by repeat (first | exact Has.hd | apply Has.tl)) Try.underlying35 rfl (by exact infoV) ?_) | (refine sl_store hS rfl 35 _ _ rfl rfl rfl (by repeat (first | exact Rep.hd | apply Rep.tl)) (by exact infoV) (by rfl) (bs_one _) ?_; clear hS; intro wk hS) | ((with_reducible show wpList _ _ _ (⟨_, .alloc 83 , _, _, _, _⟩ :: _) _ _); refine sl_new hS rfl #[.bool false, .bool false] 83 (fun b => .pointer (some ⟨b, 0, none⟩)) (by intro w; go_simp) ?_; clear hS; intro bp wk hS) | ((with_reducible show wpList _ _ _ (⟨_, .store 83 _ _, _, _, _, _⟩ :: _) _ _); refine sl_store hS rfl 83 _ _ rfl rfl rfl (by repeat (first | exact Rep.hd | apply Rep.tl)) (by kernel_rfl) (by rfl) (by kernel_rfl) ?_; clear hS; intro wk hS) | (apply sl_val rfl; focus (intro w; go_simp; (try simp (disch := omega) only [IntWalk.i64_in, IntWalk.u64_in, IntWalk.u8_in, IntWalk.u32_in, IntWalk.i32_in]); first | exact rfl | rfl)) | (refine sl_step (fun K hK => .inl ⟨rfl, ?_⟩); unfold Oper.wp; go_simp; (first | with_reducible refine sl_call hS (XC.out _ hS.gr) ?_); clear hS; intro wk hS; refine hK _ _ ?_; clear hK K) | (refine sl_skip rfl ?_)); go_simp)
      go_upto_region 1 with (fail)
      try refine wp_region_lit ?_
      iterate 8 ((first | (refine sl_load hS rfl 35 _ rfl rfl (by repeat (first | exact Has.hd | apply Has.tl)) Try.underlying35 rfl (by exact infoV) ?_) | (refine sl_store hS rfl 35 _ _ rfl rfl rfl (by repeat (first | exact Rep.hd | apply Rep.tl)) (by exact infoV) (by rfl) (bs_one _) ?_; clear hS; intro wk hS) | ((with_reducible show wpList _ _ _ (⟨_, .alloc 83 , _, _, _, _⟩ :: _) _ _); refine sl_new hS rfl #[.bool false, .bool false] 83 (fun b => .pointer (some ⟨b, 0, none⟩)) (by intro w; go_simp) ?_; clear hS; intro bp wk hS) | ((with_reducible show wpList _ _ _ (⟨_, .store 83 _ _, _, _, _, _⟩ :: _) _ _); refine sl_store hS rfl 83 _ _ rfl rfl rfl (by repeat (first | exact Rep.hd | apply Rep.tl)) (by kernel_rfl) (by rfl) (by kernel_rfl) ?_; clear hS; intro wk hS) | (apply sl_val rfl; focus (intro w; go_simp; (try simp (disch := omega) only [IntWalk.i64_in, IntWalk.u64_in, IntWalk.u8_in, IntWalk.u32_in, IntWalk.i32_in]); first | exact rfl | rfl)) | (refine sl_step (fun K hK => .inl ⟨rfl, ?_⟩); unfold Oper.wp; go_simp; (first | with_reducible refine sl_call hS (XC.out _ hS.gr) ?_); clear hS; intro wk hS; refine hK _ _ ?_; clear hK K) | (refine sl_skip rfl ?_)); go_simp)
      go_upto_region 2 with (fail)
      try refine wp_region_lit ?_
      iterate 2 ((first | (refine sl_load hS rfl 35 _ rfl rfl (by repeat (first | exact Has.hd | apply Has.tl)) Try.underlying35 rfl (by exact infoV) ?_) | (refine sl_store hS rfl 35 _ _ rfl rfl rfl (by repeat (first | exact Rep.hd | apply Rep.tl)) (by exact infoV) (by rfl) (bs_one _) ?_; clear hS; intro wk hS) | ((with_reducible show wpList _ _ _ (⟨_, .alloc 83 , _, _, _, _⟩ :: _) _ _); refine sl_new hS rfl #[.bool false, .bool false] 83 (fun b => .pointer (some ⟨b, 0, none⟩)) (by intro w; go_simp) ?_; clear hS; intro bp wk hS) | ((with_reducible show wpList _ _ _ (⟨_, .store 83 _ _, _, _, _, _⟩ :: _) _ _); refine sl_store hS rfl 83 _ _ rfl rfl rfl (by repeat (first | exact Rep.hd | apply Rep.tl)) (by kernel_rfl) (by rfl) (by kernel_rfl) ?_; clear hS; intro wk hS) | (apply sl_val rfl; focus (intro w; go_simp; (try simp (disch := omega) only [IntWalk.i64_in, IntWalk.u64_in, IntWalk.u8_in, IntWalk.u32_in, IntWalk.i32_in]); first | exact rfl | rfl)) | (refine sl_step (fun K hK => .inl ⟨rfl, ?_⟩); unfold Oper.wp; go_simp; (first | with_reducible refine sl_call hS (XC.out _ hS.gr) ?_); clear hS; intro wk hS; refine hK _ _ ?_; clear hK K) | (refine sl_skip rfl ?_)); go_simp)
      go_upto_region 4 with (fail)
      try refine wp_region_lit ?_
      iterate 10 ((first | (refine sl_load hS rfl 35 _ rfl rfl (by repeat (first | exact Has.hd | apply Has.tl)) Try.underlying35 rfl (by exact infoV) ?_) | (refine sl_store hS rfl 35 _ _ rfl rfl rfl (by repeat (first | exact Rep.hd | apply Rep.tl)) (by exact infoV) (by rfl) (bs_one _) ?_; clear hS; intro wk hS) | ((with_reducible show wpList _ _ _ (⟨_, .alloc 83 , _, _, _, _⟩ :: _) _ _); refine sl_new hS rfl #[.bool false, .bool false] 83 (fun b => .pointer (some ⟨b, 0, none⟩)) (by intro w; go_simp) ?_; clear hS; intro bp wk hS) | ((with_reducible show wpList _ _ _ (⟨_, .store 83 _ _, _, _, _, _⟩ :: _) _ _); refine sl_store hS rfl 83 _ _ rfl rfl rfl (by repeat (first | exact Rep.hd | apply Rep.tl)) (by kernel_rfl) (by rfl) (by kernel_rfl) ?_; clear hS; intro wk hS) | ((with_reducible show wpList _ _ _ (⟨_, .build 83 _, _, _, _, _⟩ :: _) _ _); refine wpList_build_at rfl 83 _ rfl #[.bool (hiB 0), .bool (sgB 0)] (by kernel_rfl) ?_) | (apply sl_val rfl; focus (intro w; go_simp; (try simp (disch := omega) only [IntWalk.i64_in, IntWalk.u64_in, IntWalk.u8_in, IntWalk.u32_in, IntWalk.i32_in]); first | exact rfl | rfl)) | (refine sl_skip rfl ?_)); go_simp)
      go_wp2_with fail
      refine sl_ret2r hS Try.results56 (by rfl) (by repeat (first | exact Has.hd | apply Has.tl)) Try.underlying83 rfl (by kernel_rfl) (by rfl) ?_
      exact ⟨rfl, hS.gr⟩
  · rcases hp with rfl | rfl | rfl
    all_goals
      go_enter Try.func56, Try.ntmps56
      go_upto_region 0 with (fail)
      try refine wp_region_lit ?_
      iterate 2 ((first | (refine sl_load hS rfl 35 _ rfl rfl (by repeat (first | exact Has.hd | apply Has.tl)) Try.underlying35 rfl (by exact infoV) ?_) | (refine sl_store hS rfl 35 _ _ rfl rfl rfl (by repeat (first | exact Rep.hd | apply Rep.tl)) (by exact infoV) (by rfl) (bs_one _) ?_; clear hS; intro wk hS) | ((with_reducible show wpList _ _ _ (⟨_, .alloc 83 , _, _, _, _⟩ :: _) _ _); refine sl_new hS rfl #[.bool false, .bool false] 83 (fun b => .pointer (some ⟨b, 0, none⟩)) (by intro w; go_simp) ?_; clear hS; intro bp wk hS) | ((with_reducible show wpList _ _ _ (⟨_, .store 83 _ _, _, _, _, _⟩ :: _) _ _); refine sl_store hS rfl 83 _ _ rfl rfl rfl (by repeat (first | exact Rep.hd | apply Rep.tl)) (by kernel_rfl) (by rfl) (by kernel_rfl) ?_; clear hS; intro wk hS) | (apply sl_val rfl; focus (intro w; go_simp; (try simp (disch := omega) only [IntWalk.i64_in, IntWalk.u64_in, IntWalk.u8_in, IntWalk.u32_in, IntWalk.i32_in]); first | exact rfl | rfl)) | (refine sl_step (fun K hK => .inl ⟨rfl, ?_⟩); unfold Oper.wp; go_simp; (first | with_reducible refine sl_call hS (XC.out _ hS.gr) ?_); clear hS; intro wk hS; refine hK _ _ ?_; clear hK K) | (refine sl_skip rfl ?_)); go_simp)
      go_upto_region 1 with (fail)
      try refine wp_region_lit ?_
      iterate 8 ((first | (refine sl_load hS rfl 35 _ rfl rfl (by repeat (first | exact Has.hd | apply Has.tl)) Try.underlying35 rfl (by exact infoV) ?_) | (refine sl_store hS rfl 35 _ _ rfl rfl rfl (by repeat (first | exact Rep.hd | apply Rep.tl)) (by exact infoV) (by rfl) (bs_one _) ?_; clear hS; intro wk hS) | ((with_reducible show wpList _ _ _ (⟨_, .alloc 83 , _, _, _, _⟩ :: _) _ _); refine sl_new hS rfl #[.bool false, .bool false] 83 (fun b => .pointer (some ⟨b, 0, none⟩)) (by intro w; go_simp) ?_; clear hS; intro bp wk hS) | ((with_reducible show wpList _ _ _ (⟨_, .store 83 _ _, _, _, _, _⟩ :: _) _ _); refine sl_store hS rfl 83 _ _ rfl rfl rfl (by repeat (first | exact Rep.hd | apply Rep.tl)) (by kernel_rfl) (by rfl) (by kernel_rfl) ?_; clear hS; intro wk hS) | (apply sl_val rfl; focus (intro w; go_simp; (try simp (disch := omega) only [IntWalk.i64_in, IntWalk.u64_in, IntWalk.u8_in, IntWalk.u32_in, IntWalk.i32_in]); first | exact rfl | rfl)) | (refine sl_step (fun K hK => .inl ⟨rfl, ?_⟩); unfold Oper.wp; go_simp; (first | with_reducible refine sl_call hS (XC.out _ hS.gr) ?_); clear hS; intro wk hS; refine hK _ _ ?_; clear hK K) | (refine sl_skip rfl ?_)); go_simp)
      go_upto_region 2 with (fail)
      try refine wp_region_lit ?_
      iterate 2 ((first | (refine sl_load hS rfl 35 _ rfl rfl (by repeat (first | exact Has.hd | apply Has.tl)) Try.underlying35 rfl (by exact infoV) ?_) | (refine sl_store hS rfl 35 _ _ rfl rfl rfl (by repeat (first | exact Rep.hd | apply Rep.tl)) (by exact infoV) (by rfl) (bs_one _) ?_; clear hS; intro wk hS) | ((with_reducible show wpList _ _ _ (⟨_, .alloc 83 , _, _, _, _⟩ :: _) _ _); refine sl_new hS rfl #[.bool false, .bool false] 83 (fun b => .pointer (some ⟨b, 0, none⟩)) (by intro w; go_simp) ?_; clear hS; intro bp wk hS) | ((with_reducible show wpList _ _ _ (⟨_, .store 83 _ _, _, _, _, _⟩ :: _) _ _); refine sl_store hS rfl 83 _ _ rfl rfl rfl (by repeat (first | exact Rep.hd | apply Rep.tl)) (by kernel_rfl) (by rfl) (by kernel_rfl) ?_; clear hS; intro wk hS) | (apply sl_val rfl; focus (intro w; go_simp; (try simp (disch := omega) only [IntWalk.i64_in, IntWalk.u64_in, IntWalk.u8_in, IntWalk.u32_in, IntWalk.i32_in]); first | exact rfl | rfl)) | (refine sl_step (fun K hK => .inl ⟨rfl, ?_⟩); unfold Oper.wp; go_simp; (first | with_reducible refine sl_call hS (XC.out _ hS.gr) ?_); clear hS; intro wk hS; refine hK _ _ ?_; clear hK K) | (refine sl_skip rfl ?_)); go_simp)
      go_upto_region 4 with (fail)
      try refine wp_region_lit ?_
      iterate 10 ((first | (refine sl_load hS rfl 35 _ rfl rfl (by repeat (first | exact Has.hd | apply Has.tl)) Try.underlying35 rfl (by exact infoV) ?_) | (refine sl_store hS rfl 35 _ _ rfl rfl rfl (by repeat (first | exact Rep.hd | apply Rep.tl)) (by exact infoV) (by rfl) (bs_one _) ?_; clear hS; intro wk hS) | ((with_reducible show wpList _ _ _ (⟨_, .alloc 83 , _, _, _, _⟩ :: _) _ _); refine sl_new hS rfl #[.bool false, .bool false] 83 (fun b => .pointer (some ⟨b, 0, none⟩)) (by intro w; go_simp) ?_; clear hS; intro bp wk hS) | ((with_reducible show wpList _ _ _ (⟨_, .store 83 _ _, _, _, _, _⟩ :: _) _ _); refine sl_store hS rfl 83 _ _ rfl rfl rfl (by repeat (first | exact Rep.hd | apply Rep.tl)) (by kernel_rfl) (by rfl) (by kernel_rfl) ?_; clear hS; intro wk hS) | ((with_reducible show wpList _ _ _ (⟨_, .build 83 _, _, _, _, _⟩ :: _) _ _); refine wpList_build_at rfl 83 _ rfl #[.bool (hiB 1), .bool (sgB 1)] (by kernel_rfl) ?_) | (apply sl_val rfl; focus (intro w; go_simp; (try simp (disch := omega) only [IntWalk.i64_in, IntWalk.u64_in, IntWalk.u8_in, IntWalk.u32_in, IntWalk.i32_in]); first | exact rfl | rfl)) | (refine sl_skip rfl ?_)); go_simp)
      go_wp2_with fail
      refine sl_ret2r hS Try.results56 (by rfl) (by repeat (first | exact Has.hd | apply Has.tl)) Try.underlying83 rfl (by kernel_rfl) (by rfl) ?_
      exact ⟨rfl, hS.gr⟩
  · rcases hp with rfl | rfl | rfl
    all_goals
      go_enter Try.func56, Try.ntmps56
      go_upto_region 0 with (fail)
      try refine wp_region_lit ?_
      iterate 2 ((first | (refine sl_load hS rfl 35 _ rfl rfl (by repeat (first | exact Has.hd | apply Has.tl)) Try.underlying35 rfl (by exact infoV) ?_) | (refine sl_store hS rfl 35 _ _ rfl rfl rfl (by repeat (first | exact Rep.hd | apply Rep.tl)) (by exact infoV) (by rfl) (bs_one _) ?_; clear hS; intro wk hS) | ((with_reducible show wpList _ _ _ (⟨_, .alloc 83 , _, _, _, _⟩ :: _) _ _); refine sl_new hS rfl #[.bool false, .bool false] 83 (fun b => .pointer (some ⟨b, 0, none⟩)) (by intro w; go_simp) ?_; clear hS; intro bp wk hS) | ((with_reducible show wpList _ _ _ (⟨_, .store 83 _ _, _, _, _, _⟩ :: _) _ _); refine sl_store hS rfl 83 _ _ rfl rfl rfl (by repeat (first | exact Rep.hd | apply Rep.tl)) (by kernel_rfl) (by rfl) (by kernel_rfl) ?_; clear hS; intro wk hS) | (apply sl_val rfl; focus (intro w; go_simp; (try simp (disch := omega) only [IntWalk.i64_in, IntWalk.u64_in, IntWalk.u8_in, IntWalk.u32_in, IntWalk.i32_in]); first | exact rfl | rfl)) | (refine sl_step (fun K hK => .inl ⟨rfl, ?_⟩); unfold Oper.wp; go_simp; (first | with_reducible refine sl_call hS (XC.out _ hS.gr) ?_); clear hS; intro wk hS; refine hK _ _ ?_; clear hK K) | (refine sl_skip rfl ?_)); go_simp)
      go_upto_region 1 with (fail)
      try refine wp_region_lit ?_
      iterate 8 ((first | (refine sl_load hS rfl 35 _ rfl rfl (by repeat (first | exact Has.hd | apply Has.tl)) Try.underlying35 rfl (by exact infoV) ?_) | (refine sl_store hS rfl 35 _ _ rfl rfl rfl (by repeat (first | exact Rep.hd | apply Rep.tl)) (by exact infoV) (by rfl) (bs_one _) ?_; clear hS; intro wk hS) | ((with_reducible show wpList _ _ _ (⟨_, .alloc 83 , _, _, _, _⟩ :: _) _ _); refine sl_new hS rfl #[.bool false, .bool false] 83 (fun b => .pointer (some ⟨b, 0, none⟩)) (by intro w; go_simp) ?_; clear hS; intro bp wk hS) | ((with_reducible show wpList _ _ _ (⟨_, .store 83 _ _, _, _, _, _⟩ :: _) _ _); refine sl_store hS rfl 83 _ _ rfl rfl rfl (by repeat (first | exact Rep.hd | apply Rep.tl)) (by kernel_rfl) (by rfl) (by kernel_rfl) ?_; clear hS; intro wk hS) | (apply sl_val rfl; focus (intro w; go_simp; (try simp (disch := omega) only [IntWalk.i64_in, IntWalk.u64_in, IntWalk.u8_in, IntWalk.u32_in, IntWalk.i32_in]); first | exact rfl | rfl)) | (refine sl_step (fun K hK => .inl ⟨rfl, ?_⟩); unfold Oper.wp; go_simp; (first | with_reducible refine sl_call hS (XC.out _ hS.gr) ?_); clear hS; intro wk hS; refine hK _ _ ?_; clear hK K) | (refine sl_skip rfl ?_)); go_simp)
      go_upto_region 2 with (fail)
      try refine wp_region_lit ?_
      iterate 2 ((first | (refine sl_load hS rfl 35 _ rfl rfl (by repeat (first | exact Has.hd | apply Has.tl)) Try.underlying35 rfl (by exact infoV) ?_) | (refine sl_store hS rfl 35 _ _ rfl rfl rfl (by repeat (first | exact Rep.hd | apply Rep.tl)) (by exact infoV) (by rfl) (bs_one _) ?_; clear hS; intro wk hS) | ((with_reducible show wpList _ _ _ (⟨_, .alloc 83 , _, _, _, _⟩ :: _) _ _); refine sl_new hS rfl #[.bool false, .bool false] 83 (fun b => .pointer (some ⟨b, 0, none⟩)) (by intro w; go_simp) ?_; clear hS; intro bp wk hS) | ((with_reducible show wpList _ _ _ (⟨_, .store 83 _ _, _, _, _, _⟩ :: _) _ _); refine sl_store hS rfl 83 _ _ rfl rfl rfl (by repeat (first | exact Rep.hd | apply Rep.tl)) (by kernel_rfl) (by rfl) (by kernel_rfl) ?_; clear hS; intro wk hS) | (apply sl_val rfl; focus (intro w; go_simp; (try simp (disch := omega) only [IntWalk.i64_in, IntWalk.u64_in, IntWalk.u8_in, IntWalk.u32_in, IntWalk.i32_in]); first | exact rfl | rfl)) | (refine sl_step (fun K hK => .inl ⟨rfl, ?_⟩); unfold Oper.wp; go_simp; (first | with_reducible refine sl_call hS (XC.out _ hS.gr) ?_); clear hS; intro wk hS; refine hK _ _ ?_; clear hK K) | (refine sl_skip rfl ?_)); go_simp)
      go_upto_region 4 with (fail)
      try refine wp_region_lit ?_
      iterate 10 ((first | (refine sl_load hS rfl 35 _ rfl rfl (by repeat (first | exact Has.hd | apply Has.tl)) Try.underlying35 rfl (by exact infoV) ?_) | (refine sl_store hS rfl 35 _ _ rfl rfl rfl (by repeat (first | exact Rep.hd | apply Rep.tl)) (by exact infoV) (by rfl) (bs_one _) ?_; clear hS; intro wk hS) | ((with_reducible show wpList _ _ _ (⟨_, .alloc 83 , _, _, _, _⟩ :: _) _ _); refine sl_new hS rfl #[.bool false, .bool false] 83 (fun b => .pointer (some ⟨b, 0, none⟩)) (by intro w; go_simp) ?_; clear hS; intro bp wk hS) | ((with_reducible show wpList _ _ _ (⟨_, .store 83 _ _, _, _, _, _⟩ :: _) _ _); refine sl_store hS rfl 83 _ _ rfl rfl rfl (by repeat (first | exact Rep.hd | apply Rep.tl)) (by kernel_rfl) (by rfl) (by kernel_rfl) ?_; clear hS; intro wk hS) | ((with_reducible show wpList _ _ _ (⟨_, .build 83 _, _, _, _, _⟩ :: _) _ _); refine wpList_build_at rfl 83 _ rfl #[.bool (hiB 2), .bool (sgB 2)] (by kernel_rfl) ?_) | (apply sl_val rfl; focus (intro w; go_simp; (try simp (disch := omega) only [IntWalk.i64_in, IntWalk.u64_in, IntWalk.u8_in, IntWalk.u32_in, IntWalk.i32_in]); first | exact rfl | rfl)) | (refine sl_skip rfl ?_)); go_simp)
      go_wp2_with fail
      refine sl_ret2r hS Try.results56 (by rfl) (by repeat (first | exact Has.hd | apply Has.tl)) Try.underlying83 rfl (by kernel_rfl) (by rfl) ?_
      exact ⟨rfl, hS.gr⟩
  · rcases hp with rfl | rfl | rfl
    all_goals
      go_enter Try.func56, Try.ntmps56
      go_upto_region 0 with (fail)
      try refine wp_region_lit ?_
      iterate 2 ((first | (refine sl_load hS rfl 35 _ rfl rfl (by repeat (first | exact Has.hd | apply Has.tl)) Try.underlying35 rfl (by exact infoV) ?_) | (refine sl_store hS rfl 35 _ _ rfl rfl rfl (by repeat (first | exact Rep.hd | apply Rep.tl)) (by exact infoV) (by rfl) (bs_one _) ?_; clear hS; intro wk hS) | ((with_reducible show wpList _ _ _ (⟨_, .alloc 83 , _, _, _, _⟩ :: _) _ _); refine sl_new hS rfl #[.bool false, .bool false] 83 (fun b => .pointer (some ⟨b, 0, none⟩)) (by intro w; go_simp) ?_; clear hS; intro bp wk hS) | ((with_reducible show wpList _ _ _ (⟨_, .store 83 _ _, _, _, _, _⟩ :: _) _ _); refine sl_store hS rfl 83 _ _ rfl rfl rfl (by repeat (first | exact Rep.hd | apply Rep.tl)) (by kernel_rfl) (by rfl) (by kernel_rfl) ?_; clear hS; intro wk hS) | (apply sl_val rfl; focus (intro w; go_simp; (try simp (disch := omega) only [IntWalk.i64_in, IntWalk.u64_in, IntWalk.u8_in, IntWalk.u32_in, IntWalk.i32_in]); first | exact rfl | rfl)) | (refine sl_step (fun K hK => .inl ⟨rfl, ?_⟩); unfold Oper.wp; go_simp; (first | with_reducible refine sl_call hS (XC.out _ hS.gr) ?_); clear hS; intro wk hS; refine hK _ _ ?_; clear hK K) | (refine sl_skip rfl ?_)); go_simp)
      go_upto_region 1 with (fail)
      try refine wp_region_lit ?_
      iterate 8 ((first | (refine sl_load hS rfl 35 _ rfl rfl (by repeat (first | exact Has.hd | apply Has.tl)) Try.underlying35 rfl (by exact infoV) ?_) | (refine sl_store hS rfl 35 _ _ rfl rfl rfl (by repeat (first | exact Rep.hd | apply Rep.tl)) (by exact infoV) (by rfl) (bs_one _) ?_; clear hS; intro wk hS) | ((with_reducible show wpList _ _ _ (⟨_, .alloc 83 , _, _, _, _⟩ :: _) _ _); refine sl_new hS rfl #[.bool false, .bool false] 83 (fun b => .pointer (some ⟨b, 0, none⟩)) (by intro w; go_simp) ?_; clear hS; intro bp wk hS) | ((with_reducible show wpList _ _ _ (⟨_, .store 83 _ _, _, _, _, _⟩ :: _) _ _); refine sl_store hS rfl 83 _ _ rfl rfl rfl (by repeat (first | exact Rep.hd | apply Rep.tl)) (by kernel_rfl) (by rfl) (by kernel_rfl) ?_; clear hS; intro wk hS) | (apply sl_val rfl; focus (intro w; go_simp; (try simp (disch := omega) only [IntWalk.i64_in, IntWalk.u64_in, IntWalk.u8_in, IntWalk.u32_in, IntWalk.i32_in]); first | exact rfl | rfl)) | (refine sl_step (fun K hK => .inl ⟨rfl, ?_⟩); unfold Oper.wp; go_simp; (first | with_reducible refine sl_call hS (XC.out _ hS.gr) ?_); clear hS; intro wk hS; refine hK _ _ ?_; clear hK K) | (refine sl_skip rfl ?_)); go_simp)
      go_upto_region 2 with (fail)
      try refine wp_region_lit ?_
      iterate 2 ((first | (refine sl_load hS rfl 35 _ rfl rfl (by repeat (first | exact Has.hd | apply Has.tl)) Try.underlying35 rfl (by exact infoV) ?_) | (refine sl_store hS rfl 35 _ _ rfl rfl rfl (by repeat (first | exact Rep.hd | apply Rep.tl)) (by exact infoV) (by rfl) (bs_one _) ?_; clear hS; intro wk hS) | ((with_reducible show wpList _ _ _ (⟨_, .alloc 83 , _, _, _, _⟩ :: _) _ _); refine sl_new hS rfl #[.bool false, .bool false] 83 (fun b => .pointer (some ⟨b, 0, none⟩)) (by intro w; go_simp) ?_; clear hS; intro bp wk hS) | ((with_reducible show wpList _ _ _ (⟨_, .store 83 _ _, _, _, _, _⟩ :: _) _ _); refine sl_store hS rfl 83 _ _ rfl rfl rfl (by repeat (first | exact Rep.hd | apply Rep.tl)) (by kernel_rfl) (by rfl) (by kernel_rfl) ?_; clear hS; intro wk hS) | (apply sl_val rfl; focus (intro w; go_simp; (try simp (disch := omega) only [IntWalk.i64_in, IntWalk.u64_in, IntWalk.u8_in, IntWalk.u32_in, IntWalk.i32_in]); first | exact rfl | rfl)) | (refine sl_step (fun K hK => .inl ⟨rfl, ?_⟩); unfold Oper.wp; go_simp; (first | with_reducible refine sl_call hS (XC.out _ hS.gr) ?_); clear hS; intro wk hS; refine hK _ _ ?_; clear hK K) | (refine sl_skip rfl ?_)); go_simp)
      go_upto_region 4 with (fail)
      try refine wp_region_lit ?_
      iterate 10 ((first | (refine sl_load hS rfl 35 _ rfl rfl (by repeat (first | exact Has.hd | apply Has.tl)) Try.underlying35 rfl (by exact infoV) ?_) | (refine sl_store hS rfl 35 _ _ rfl rfl rfl (by repeat (first | exact Rep.hd | apply Rep.tl)) (by exact infoV) (by rfl) (bs_one _) ?_; clear hS; intro wk hS) | ((with_reducible show wpList _ _ _ (⟨_, .alloc 83 , _, _, _, _⟩ :: _) _ _); refine sl_new hS rfl #[.bool false, .bool false] 83 (fun b => .pointer (some ⟨b, 0, none⟩)) (by intro w; go_simp) ?_; clear hS; intro bp wk hS) | ((with_reducible show wpList _ _ _ (⟨_, .store 83 _ _, _, _, _, _⟩ :: _) _ _); refine sl_store hS rfl 83 _ _ rfl rfl rfl (by repeat (first | exact Rep.hd | apply Rep.tl)) (by kernel_rfl) (by rfl) (by kernel_rfl) ?_; clear hS; intro wk hS) | ((with_reducible show wpList _ _ _ (⟨_, .build 83 _, _, _, _, _⟩ :: _) _ _); refine wpList_build_at rfl 83 _ rfl #[.bool (hiB 3), .bool (sgB 3)] (by kernel_rfl) ?_) | (apply sl_val rfl; focus (intro w; go_simp; (try simp (disch := omega) only [IntWalk.i64_in, IntWalk.u64_in, IntWalk.u8_in, IntWalk.u32_in, IntWalk.i32_in]); first | exact rfl | rfl)) | (refine sl_skip rfl ?_)); go_simp)
      go_wp2_with fail
      refine sl_ret2r hS Try.results56 (by rfl) (by repeat (first | exact Has.hd | apply Has.tl)) Try.underlying83 rfl (by kernel_rfl) (by rfl) ?_
      exact ⟨rfl, hS.gr⟩
set_option maxHeartbeats 2000000 in
theorem part_no (op : Int) (ho : -9223372036854775808 ≤ op ∧ op ≤ 9223372036854775807) (f : Nat → Int) (L : Nat) (hL : L ≤ 3) (hf : ∀ i, 60000 ≤ f i ∧ f i ≤ 70000) (hno : ∀ i, i < L → ¬ inR op 4 (f i)) (w : World) (g : Nat)
    (hc : ∀ j, j < L → w.cell? ⟨g, j, none⟩ = some (.int .i64 (f j))) :
    Calls Try.prog 56 #[.int .i64 op, .slice (some ⟨g, 0, none⟩) L L] w fun e w' => e = .returned (.tuple #[.int .i64 0, .agg #[.bool false, .bool false]]) ∧ Gr w w' := by
  have C : ∀ w', Gr w w' → Calls Try.prog 58 #[.int .i64 op, .int .i64 4, .slice (some ⟨g, 0, none⟩) L L] w' fun e w'' => e = .returned (.tuple #[.int .i64 0, .int .i64 0]) ∧ Gr w' w'' := fun w' hg =>
    calls_gr (row_no op 4 ho f L hL (.inr rfl) hf hno w' g (fun j hj => gr_cell hg (hc j hj)))
  clear hno hf ho hc hL
  have hS := St.start w
  have XC := Lib.hid C
  clear C
  go_enter Try.func56, Try.ntmps56
  go_upto_region 0 with (fail)
  try refine wp_region_lit ?_
  iterate 2 ((first | (refine sl_load hS rfl 35 _ rfl rfl (by repeat (first | exact Has.hd | apply Has.tl)) Try.underlying35 rfl (by exact infoV) ?_) | (refine sl_store hS rfl 35 _ _ rfl rfl rfl (by repeat (first | exact Rep.hd | apply Rep.tl)) (by exact infoV) (by rfl) (bs_one _) ?_; clear hS; intro wk hS) | ((with_reducible show wpList _ _ _ (⟨_, .alloc 83 , _, _, _, _⟩ :: _) _ _); refine sl_new hS rfl #[.bool false, .bool false] 83 (fun b => .pointer (some ⟨b, 0, none⟩)) (by intro w; go_simp) ?_; clear hS; intro bp wk hS) | ((with_reducible show wpList _ _ _ (⟨_, .store 83 _ _, _, _, _, _⟩ :: _) _ _); refine sl_store hS rfl 83 _ _ rfl rfl rfl (by repeat (first | exact Rep.hd | apply Rep.tl)) (by kernel_rfl) (by rfl) (by kernel_rfl) ?_; clear hS; intro wk hS) | (apply sl_val rfl; focus (intro w; go_simp; (try simp (disch := omega) only [IntWalk.i64_in, IntWalk.u64_in, IntWalk.u8_in, IntWalk.u32_in, IntWalk.i32_in]); first | exact rfl | rfl)) | (refine sl_step (fun K hK => .inl ⟨rfl, ?_⟩); unfold Oper.wp; go_simp; (first | with_reducible refine sl_call hS (XC.out _ hS.gr) ?_); clear hS; intro wk hS; refine hK _ _ ?_; clear hK K) | (refine sl_skip rfl ?_)); go_simp)
  go_upto_region 1 with (fail)
  try refine wp_region_lit ?_
  iterate 8 ((first | (refine sl_load hS rfl 35 _ rfl rfl (by repeat (first | exact Has.hd | apply Has.tl)) Try.underlying35 rfl (by exact infoV) ?_) | (refine sl_store hS rfl 35 _ _ rfl rfl rfl (by repeat (first | exact Rep.hd | apply Rep.tl)) (by exact infoV) (by rfl) (bs_one _) ?_; clear hS; intro wk hS) | ((with_reducible show wpList _ _ _ (⟨_, .alloc 83 , _, _, _, _⟩ :: _) _ _); refine sl_new hS rfl #[.bool false, .bool false] 83 (fun b => .pointer (some ⟨b, 0, none⟩)) (by intro w; go_simp) ?_; clear hS; intro bp wk hS) | ((with_reducible show wpList _ _ _ (⟨_, .store 83 _ _, _, _, _, _⟩ :: _) _ _); refine sl_store hS rfl 83 _ _ rfl rfl rfl (by repeat (first | exact Rep.hd | apply Rep.tl)) (by kernel_rfl) (by rfl) (by kernel_rfl) ?_; clear hS; intro wk hS) | (apply sl_val rfl; focus (intro w; go_simp; (try simp (disch := omega) only [IntWalk.i64_in, IntWalk.u64_in, IntWalk.u8_in, IntWalk.u32_in, IntWalk.i32_in]); first | exact rfl | rfl)) | (refine sl_step (fun K hK => .inl ⟨rfl, ?_⟩); unfold Oper.wp; go_simp; (first | with_reducible refine sl_call hS (XC.out _ hS.gr) ?_); clear hS; intro wk hS; refine hK _ _ ?_; clear hK K) | (refine sl_skip rfl ?_)); go_simp)
  go_upto_region 2 with (fail)
  try refine wp_region_lit ?_
  iterate 2 ((first | (refine sl_load hS rfl 35 _ rfl rfl (by repeat (first | exact Has.hd | apply Has.tl)) Try.underlying35 rfl (by exact infoV) ?_) | (refine sl_store hS rfl 35 _ _ rfl rfl rfl (by repeat (first | exact Rep.hd | apply Rep.tl)) (by exact infoV) (by rfl) (bs_one _) ?_; clear hS; intro wk hS) | ((with_reducible show wpList _ _ _ (⟨_, .alloc 83 , _, _, _, _⟩ :: _) _ _); refine sl_new hS rfl #[.bool false, .bool false] 83 (fun b => .pointer (some ⟨b, 0, none⟩)) (by intro w; go_simp) ?_; clear hS; intro bp wk hS) | ((with_reducible show wpList _ _ _ (⟨_, .store 83 _ _, _, _, _, _⟩ :: _) _ _); refine sl_store hS rfl 83 _ _ rfl rfl rfl (by repeat (first | exact Rep.hd | apply Rep.tl)) (by kernel_rfl) (by rfl) (by kernel_rfl) ?_; clear hS; intro wk hS) | (apply sl_val rfl; focus (intro w; go_simp; (try simp (disch := omega) only [IntWalk.i64_in, IntWalk.u64_in, IntWalk.u8_in, IntWalk.u32_in, IntWalk.i32_in]); first | exact rfl | rfl)) | (refine sl_step (fun K hK => .inl ⟨rfl, ?_⟩); unfold Oper.wp; go_simp; (first | with_reducible refine sl_call hS (XC.out _ hS.gr) ?_); clear hS; intro wk hS; refine hK _ _ ?_; clear hK K) | (refine sl_skip rfl ?_)); go_simp)
  go_upto_region 3 with (fail)
  try refine wp_region_lit ?_
  iterate 3 ((first | (refine sl_load hS rfl 35 _ rfl rfl (by repeat (first | exact Has.hd | apply Has.tl)) Try.underlying35 rfl (by exact infoV) ?_) | (refine sl_store hS rfl 35 _ _ rfl rfl rfl (by repeat (first | exact Rep.hd | apply Rep.tl)) (by exact infoV) (by rfl) (bs_one _) ?_; clear hS; intro wk hS) | ((with_reducible show wpList _ _ _ (⟨_, .alloc 83 , _, _, _, _⟩ :: _) _ _); refine sl_new hS rfl #[.bool false, .bool false] 83 (fun b => .pointer (some ⟨b, 0, none⟩)) (by intro w; go_simp) ?_; clear hS; intro bp wk hS) | ((with_reducible show wpList _ _ _ (⟨_, .store 83 _ _, _, _, _, _⟩ :: _) _ _); refine sl_store hS rfl 83 _ _ rfl rfl rfl (by repeat (first | exact Rep.hd | apply Rep.tl)) (by kernel_rfl) (by rfl) (by kernel_rfl) ?_; clear hS; intro wk hS) | ((with_reducible show wpList _ _ _ (⟨_, .build 83 _, _, _, _, _⟩ :: _) _ _); refine wpList_build_at rfl 83 _ rfl #[.bool false, .bool false] (by kernel_rfl) ?_) | (apply sl_val rfl; focus (intro w; go_simp; (try simp (disch := omega) only [IntWalk.i64_in, IntWalk.u64_in, IntWalk.u8_in, IntWalk.u32_in, IntWalk.i32_in]); first | exact rfl | rfl)) | (refine sl_skip rfl ?_)); go_simp)
  go_wp2_with fail
  refine sl_ret2r hS Try.results56 (by rfl) (by repeat (first | exact Has.hd | apply Has.tl)) Try.underlying83 rfl (by kernel_rfl) (by rfl) ?_
  exact ⟨rfl, hS.gr⟩
def tri (a b c : Int) : Nat → Int := fun i => if i = 0 then a else if i = 1 then b else c
theorem tri_bd (a b c : Int) (h : 60000 ≤ a ∧ a ≤ 70000) (h' : 60000 ≤ b ∧ b ≤ 70000) (h'' : 60000 ≤ c ∧ c ≤ 70000) (i : Nat) : 60000 ≤ tri a b c i ∧ tri a b c i ≤ 70000 := by
  unfold tri; split; exact h; split; exact h'; exact h''
theorem no_lt0 {P : Nat → Prop} (i : Nat) (h : i < 0) : ¬ P i := absurd h (Nat.not_lt_zero _)
instance (op n z : Int) : Decidable (inR op n z) := by unfold inR; infer_instance
/-- of three rows of four opcodes, 32 apart: the width of the lanes that op makes, and of which -/
def xW (a op : Int) : Int := if inR op 4 a then 16 else if inR op 4 (a + 32) then 32 else if inR op 4 (a + 64) then 64 else 0
def xD (a op : Int) : Int := (op - a) % 32
theorem xW_cases (a op : Int) : xW a op = 0 ∨ ((xW a op = 16 ∨ xW a op = 32 ∨ xW a op = 64) ∧ 0 ≤ xD a op ∧ xD a op ≤ 3) := by
  by_cases h0 : inR op 4 a
  · have e : xW a op = 16 := by unfold xW; rw [if_pos h0]
    right; exact ⟨.inl e, by unfold xD; unfold inR at h0; omega⟩
  · by_cases h1 : inR op 4 (a + 32)
    · have e : xW a op = 32 := by unfold xW; rw [if_neg h0, if_pos h1]
      right; exact ⟨.inr (.inl e), by unfold xD; unfold inR at h1; omega⟩
    · by_cases h2 : inR op 4 (a + 64)
      · have e : xW a op = 64 := by unfold xW; rw [if_neg h0, if_neg h1, if_pos h2]
        right; exact ⟨.inr (.inr e), by unfold xD; unfold inR at h2; omega⟩
      · left; unfold xW; rw [if_neg h0, if_neg h1, if_neg h2]
def xP (a op : Int) : Array Value := if xW a op = 0 then #[.bool false, .bool false] else #[.bool (hiB (xD a op)), .bool (sgB (xD a op))]
theorem ext_part (op : Int) (ho : -9223372036854775808 ≤ op ∧ op ≤ 9223372036854775807) {w : World} {w0 : World} {M : List Ent} (hS : St w0 M w) {g : Nat} (hm : Has M g #[.int .i64 64903, .int .i64 64935, .int .i64 64967] 3) :
    Calls Try.prog 56 #[.int .i64 op, .slice (some ⟨g, 0, none⟩) 3 3] w fun e w' => e = .returned (.tuple #[.int .i64 (xW 64903 op), .agg (xP 64903 op)]) ∧ Gr w w' := by
  have hc : ∀ j, j < 3 → w.cell? ⟨g, j, none⟩ = some (.int .i64 (tri 64903 64935 64967 j)) := fun j hj => by
    rw [hS.cell hm j]
    match j, hj with
    | 0, _ => rfl
    | 1, _ => rfl
    | 2, _ => rfl
  have hf := tri_bd 64903 64935 64967 (by decide) (by decide) (by decide)
  have eX : xW 64903 op = if inR op 4 64903 then 16 else if inR op 4 64935 then 32 else if inR op 4 64967 then 64 else 0 := rfl
  by_cases h0 : inR op 4 64903
  · have e1 : xW 64903 op = 16 := by rw [eX, if_pos h0]
    have e2 : xD 64903 op = op - 64903 := by unfold xD; unfold inR at h0; omega
    have := part_at op ho (tri 64903 64935 64967) 3 0 (by decide) (by decide) hf h0 (fun i hi => absurd hi (Nat.not_lt_zero _)) w g hc
    unfold xP; rw [if_neg (by rw [e1]; decide), e1, e2]; exact this
  · by_cases h1 : inR op 4 64935
    · have e1 : xW 64903 op = 32 := by rw [eX, if_neg h0, if_pos h1]
      have e2 : xD 64903 op = op - 64935 := by unfold xD; unfold inR at h1; omega
      have := part_at op ho (tri 64903 64935 64967) 3 1 (by decide) (by decide) hf h1 (fun i hi => by rw [show i = 0 by omega]; exact h0) w g hc
      unfold xP; rw [if_neg (by rw [e1]; decide), e1, e2]; exact this
    · by_cases h2 : inR op 4 64967
      · have e1 : xW 64903 op = 64 := by rw [eX, if_neg h0, if_neg h1, if_pos h2]
        have e2 : xD 64903 op = op - 64967 := by unfold xD; unfold inR at h2; omega
        have := part_at op ho (tri 64903 64935 64967) 3 2 (by decide) (by decide) hf h2 (fun i hi => by
          match i, hi with
          | 0, _ => exact h0
          | 1, _ => exact h1) w g hc
        unfold xP; rw [if_neg (by rw [e1]; decide), e1, e2]; exact this
      · have e1 : xW 64903 op = 0 := by rw [eX, if_neg h0, if_neg h1, if_neg h2]
        have := part_no op ho (tri 64903 64935 64967) 3 (by decide) hf (fun i hi => by
          match i, hi with
          | 0, _ => exact h0
          | 1, _ => exact h1
          | 2, _ => exact h2) w g hc
        unfold xP; rw [if_pos e1, e1]; exact this
theorem ext_any (op : Int) (ho : -9223372036854775808 ≤ op ∧ op ≤ 9223372036854775807) (w : World) : Calls Try.prog 43 #[.int .i64 op] w fun e w' => e = .returned (.tuple #[.int .i64 (xW 64903 op), .agg (xP 64903 op)]) ∧ Gr w w' := by
  obtain ⟨p1, p2, hp⟩ : ∃ p1 p2, xP 64903 op = #[.bool p1, .bool p2] := by unfold xP; split <;> exact ⟨_, _, rfl⟩
  have hS := St.start w
  have C := fun {w : World} {M : List Ent} (hS : St w M w) => True.intro
  have D := fun (w1 : World) (M : List Ent) (g : Nat) (h : St w M w1) (hm : Has M g #[.int .i64 64903, .int .i64 64935, .int .i64 64967] 3) => ext_part op ho h hm
  rw [hp] at D ⊢
  clear hp C ho
  generalize xW 64903 op = x at *
  have XD := Lib.hid D
  clear D
  go_enter Try.func43, Try.ntmps43
  go_upto_region 0 with (fail)
  try refine wp_region_lit ?_
  iterate 2 ((first | (refine sl_load hS rfl 35 _ rfl rfl (by repeat (first | exact Has.hd | apply Has.tl)) Try.underlying35 rfl (by exact infoV) ?_) | (refine sl_store hS rfl 35 _ _ rfl rfl rfl (by repeat (first | exact Rep.hd | apply Rep.tl)) (by exact infoV) (by rfl) (bs_one _) ?_; clear hS; intro wk hS) | ((with_reducible show wpList _ _ _ (⟨_, .alloc 83 , _, _, _, _⟩ :: _) _ _); refine sl_new hS rfl #[.bool false, .bool false] 83 (fun b => .pointer (some ⟨b, 0, none⟩)) (by intro w; go_simp) ?_; clear hS; intro bp wk hS) | ((with_reducible show wpList _ _ _ (⟨_, .buildSlice _ _ _, _, _, _, _⟩ :: _) _ _); refine sl_new hS rfl #[.int .i64 64903, .int .i64 64935, .int .i64 64967] 3 (fun b => .slice (some ⟨b, 0, none⟩) 3 3) (by intro w; go_simp) ?_; clear hS; intro bs wk hS) | ((with_reducible show wpList _ _ _ (⟨_, .store 83 _ _, _, _, _, _⟩ :: _) _ _); refine sl_store hS rfl 83 _ _ rfl rfl rfl (by repeat (first | exact Rep.hd | apply Rep.tl)) (by kernel_rfl) (by rfl) (by kernel_rfl) ?_; clear hS; intro wk hS) | (apply sl_val rfl; focus (intro w; go_simp; (try simp (disch := omega) only [IntWalk.i64_in, IntWalk.u64_in, IntWalk.u8_in, IntWalk.u32_in, IntWalk.i32_in]); first | exact rfl | rfl)) | (refine sl_step (fun K hK => .inl ⟨rfl, ?_⟩); unfold Oper.wp; go_simp; (first | with_reducible refine sl_call hS (XD.out _ _ _ hS Has.hd) ?_); clear hS; intro wk hS; refine hK _ _ ?_; clear hK K) | (refine sl_skip rfl ?_)); go_simp)
  go_upto_region 1 with (fail)
  try refine wp_region_lit ?_
  iterate 7 ((first | (refine sl_load hS rfl 35 _ rfl rfl (by repeat (first | exact Has.hd | apply Has.tl)) Try.underlying35 rfl (by exact infoV) ?_) | (refine sl_store hS rfl 35 _ _ rfl rfl rfl (by repeat (first | exact Rep.hd | apply Rep.tl)) (by exact infoV) (by rfl) (bs_one _) ?_; clear hS; intro wk hS) | ((with_reducible show wpList _ _ _ (⟨_, .alloc 83 , _, _, _, _⟩ :: _) _ _); refine sl_new hS rfl #[.bool false, .bool false] 83 (fun b => .pointer (some ⟨b, 0, none⟩)) (by intro w; go_simp) ?_; clear hS; intro bp wk hS) | ((with_reducible show wpList _ _ _ (⟨_, .buildSlice _ _ _, _, _, _, _⟩ :: _) _ _); refine sl_new hS rfl #[.int .i64 64903, .int .i64 64935, .int .i64 64967] 3 (fun b => .slice (some ⟨b, 0, none⟩) 3 3) (by intro w; go_simp) ?_; clear hS; intro bs wk hS) | ((with_reducible show wpList _ _ _ (⟨_, .store 83 _ _, _, _, _, _⟩ :: _) _ _); refine sl_store hS rfl 83 _ _ rfl rfl rfl (by repeat (first | exact Rep.hd | apply Rep.tl)) (by kernel_rfl) (by rfl) (by kernel_rfl) ?_; clear hS; intro wk hS) | (apply sl_val rfl; focus (intro w; go_simp; (try simp (disch := omega) only [IntWalk.i64_in, IntWalk.u64_in, IntWalk.u8_in, IntWalk.u32_in, IntWalk.i32_in]); first | exact rfl | rfl)) | (refine sl_step (fun K hK => .inl ⟨rfl, ?_⟩); unfold Oper.wp; go_simp; (first | with_reducible refine sl_call hS (XD.out _ _ _ hS Has.hd) ?_); clear hS; intro wk hS; refine hK _ _ ?_; clear hK K) | (refine sl_skip rfl ?_)); go_simp)
  go_wp2_with fail
  refine sl_ret2r hS Try.results43 (by rfl) (by repeat (first | exact Has.hd | apply Has.tl)) Try.underlying83 rfl (by kernel_rfl) (by rfl) ?_
  exact ⟨rfl, hS.gr⟩
theorem mul_part (op : Int) (ho : -9223372036854775808 ≤ op ∧ op ≤ 9223372036854775807) {w : World} {w0 : World} {M : List Ent} (hS : St w0 M w) {g : Nat} (hm : Has M g #[.int .i64 64924, .int .i64 64956, .int .i64 64988] 3) :
    Calls Try.prog 56 #[.int .i64 op, .slice (some ⟨g, 0, none⟩) 3 3] w fun e w' => e = .returned (.tuple #[.int .i64 (xW 64924 op), .agg (xP 64924 op)]) ∧ Gr w w' := by
  have hc : ∀ j, j < 3 → w.cell? ⟨g, j, none⟩ = some (.int .i64 (tri 64924 64956 64988 j)) := fun j hj => by
    rw [hS.cell hm j]
    match j, hj with
    | 0, _ => rfl
    | 1, _ => rfl
    | 2, _ => rfl
  have hf := tri_bd 64924 64956 64988 (by decide) (by decide) (by decide)
  have eX : xW 64924 op = if inR op 4 64924 then 16 else if inR op 4 64956 then 32 else if inR op 4 64988 then 64 else 0 := rfl
  by_cases h0 : inR op 4 64924
  · have e1 : xW 64924 op = 16 := by rw [eX, if_pos h0]
    have e2 : xD 64924 op = op - 64924 := by unfold xD; unfold inR at h0; omega
    have := part_at op ho (tri 64924 64956 64988) 3 0 (by decide) (by decide) hf h0 (fun i hi => absurd hi (Nat.not_lt_zero _)) w g hc
    unfold xP; rw [if_neg (by rw [e1]; decide), e1, e2]; exact this
  · by_cases h1 : inR op 4 64956
    · have e1 : xW 64924 op = 32 := by rw [eX, if_neg h0, if_pos h1]
      have e2 : xD 64924 op = op - 64956 := by unfold xD; unfold inR at h1; omega
      have := part_at op ho (tri 64924 64956 64988) 3 1 (by decide) (by decide) hf h1 (fun i hi => by rw [show i = 0 by omega]; exact h0) w g hc
      unfold xP; rw [if_neg (by rw [e1]; decide), e1, e2]; exact this
    · by_cases h2 : inR op 4 64988
      · have e1 : xW 64924 op = 64 := by rw [eX, if_neg h0, if_neg h1, if_pos h2]
        have e2 : xD 64924 op = op - 64988 := by unfold xD; unfold inR at h2; omega
        have := part_at op ho (tri 64924 64956 64988) 3 2 (by decide) (by decide) hf h2 (fun i hi => by
          match i, hi with
          | 0, _ => exact h0
          | 1, _ => exact h1) w g hc
        unfold xP; rw [if_neg (by rw [e1]; decide), e1, e2]; exact this
      · have e1 : xW 64924 op = 0 := by rw [eX, if_neg h0, if_neg h1, if_neg h2]
        have := part_no op ho (tri 64924 64956 64988) 3 (by decide) hf (fun i hi => by
          match i, hi with
          | 0, _ => exact h0
          | 1, _ => exact h1
          | 2, _ => exact h2) w g hc
        unfold xP; rw [if_pos e1, e1]; exact this
def pwsW (op : Int) : Int := if inR op 2 64892 then 16 else if inR op 2 64894 then 32 else 0
def pwsS (op : Int) : Bool := decide (op = 64892) || decide (op = 64894)
theorem pwsW_cases (op : Int) : pwsW op = 0 ∨ pwsW op = 16 ∨ pwsW op = 32 := by
  unfold pwsW; split; exact .inr (.inl rfl); split; exact .inr (.inr rfl); exact .inl rfl
theorem pws_any (op : Int) (ho : -9223372036854775808 ≤ op ∧ op ≤ 9223372036854775807) (w : World) : Calls Try.prog 45 #[.int .i64 op] w fun e w' => e = .returned (.tuple #[.int .i64 (pwsW op), .bool (pwsS op)]) ∧ Gr w w' := by
  have hf := tri_bd 64892 64894 64894 (by decide) (by decide) (by decide)
  have hc : ∀ (w1 : World) (M : List Ent) (g : Nat) (hS : St w M w1) (hm : Has M g #[.int .i64 64892, .int .i64 64894] 3) (j : Nat), j < 2 → w1.cell? ⟨g, j, none⟩ = some (.int .i64 (tri 64892 64894 64894 j)) := fun w1 M g hS hm j hj => by
    rw [hS.cell hm j]
    match j, hj with
    | 0, _ => rfl
    | 1, _ => rfl
  have hS := St.start w
  by_cases h0 : inR op 2 64892
  · have e1 : pwsW op = 16 := by unfold pwsW; rw [if_pos h0]
    have D := fun (w1 : World) (M : List Ent) (g : Nat) (h : St w M w1) (hm : Has M g #[.int .i64 64892, .int .i64 64894] 3) => calls_gr (row_at op 2 ho (tri 64892 64894 64894) 2 0 (by decide) (by decide) (.inl rfl) hf h0 (fun i hi => absurd hi (Nat.not_lt_zero _)) w1 g (hc w1 M g h hm))
    rw [e1]
    have e2 : op = 64892 ∨ op = 64893 := by unfold inR at h0; omega
    rcases e2 with rfl | rfl
    all_goals
      clear ho h0 hc hf e1
      have XD := Lib.hid D
      clear D
      go_enter Try.func45, Try.ntmps45
      go_upto_region 0 with (fail)
      try refine wp_region_lit ?_
      iterate 2 ((first | (refine sl_load hS rfl 35 _ rfl rfl (by repeat (first | exact Has.hd | apply Has.tl)) Try.underlying35 rfl (by exact infoV) ?_) | (refine sl_store hS rfl 35 _ _ rfl rfl rfl (by repeat (first | exact Rep.hd | apply Rep.tl)) (by exact infoV) (by rfl) (bs_one _) ?_; clear hS; intro wk hS) | ((with_reducible show wpList _ _ _ (⟨_, .buildSlice _ _ _, _, _, _, _⟩ :: _) _ _); refine sl_new hS rfl #[.int .i64 64892, .int .i64 64894] 3 (fun b => .slice (some ⟨b, 0, none⟩) 2 2) (by intro w; go_simp) ?_; clear hS; intro bs wk hS) | (apply sl_val rfl; focus (intro w; go_simp; (try simp (disch := omega) only [IntWalk.i64_in, IntWalk.u64_in, IntWalk.u8_in, IntWalk.u32_in, IntWalk.i32_in]); first | exact rfl | rfl)) | (refine sl_step (fun K hK => .inl ⟨rfl, ?_⟩); unfold Oper.wp; go_simp; (first | with_reducible refine sl_call hS (XD.out _ _ _ hS Has.hd) ?_); clear hS; intro wk hS; refine hK _ _ ?_; clear hK K) | (refine sl_skip rfl ?_)); go_simp)
      go_upto_region 1 with (fail)
      try refine wp_region_lit ?_
      iterate 8 ((first | (refine sl_load hS rfl 35 _ rfl rfl (by repeat (first | exact Has.hd | apply Has.tl)) Try.underlying35 rfl (by exact infoV) ?_) | (refine sl_store hS rfl 35 _ _ rfl rfl rfl (by repeat (first | exact Rep.hd | apply Rep.tl)) (by exact infoV) (by rfl) (bs_one _) ?_; clear hS; intro wk hS) | ((with_reducible show wpList _ _ _ (⟨_, .buildSlice _ _ _, _, _, _, _⟩ :: _) _ _); refine sl_new hS rfl #[.int .i64 64892, .int .i64 64894] 3 (fun b => .slice (some ⟨b, 0, none⟩) 2 2) (by intro w; go_simp) ?_; clear hS; intro bs wk hS) | (apply sl_val rfl; focus (intro w; go_simp; (try simp (disch := omega) only [IntWalk.i64_in, IntWalk.u64_in, IntWalk.u8_in, IntWalk.u32_in, IntWalk.i32_in]); first | exact rfl | rfl)) | (refine sl_step (fun K hK => .inl ⟨rfl, ?_⟩); unfold Oper.wp; go_simp; (first | with_reducible refine sl_call hS (XD.out _ _ _ hS Has.hd) ?_); clear hS; intro wk hS; refine hK _ _ ?_; clear hK K) | (refine sl_skip rfl ?_)); go_simp)
      go_upto_region 2 with (fail)
      try refine wp_region_lit ?_
      iterate 10 ((first | (refine sl_load hS rfl 35 _ rfl rfl (by repeat (first | exact Has.hd | apply Has.tl)) Try.underlying35 rfl (by exact infoV) ?_) | (refine sl_store hS rfl 35 _ _ rfl rfl rfl (by repeat (first | exact Rep.hd | apply Rep.tl)) (by exact infoV) (by rfl) (bs_one _) ?_; clear hS; intro wk hS) | ((with_reducible show wpList _ _ _ (⟨_, .buildSlice _ _ _, _, _, _, _⟩ :: _) _ _); refine sl_new hS rfl #[.int .i64 64892, .int .i64 64894] 3 (fun b => .slice (some ⟨b, 0, none⟩) 2 2) (by intro w; go_simp) ?_; clear hS; intro bs wk hS) | (apply sl_val rfl; focus (intro w; go_simp; (try simp (disch := omega) only [IntWalk.i64_in, IntWalk.u64_in, IntWalk.u8_in, IntWalk.u32_in, IntWalk.i32_in]); first | exact rfl | rfl)) | (refine sl_step (fun K hK => .inl ⟨rfl, ?_⟩); unfold Oper.wp; go_simp; (first | with_reducible refine sl_call hS (XD.out _ _ _ hS Has.hd) ?_); clear hS; intro wk hS; refine hK _ _ ?_; clear hK K) | (refine sl_skip rfl ?_)); go_simp)
      go_wp2_with fail
      go_ret2
      exact ⟨rfl, hS.gr⟩
  · by_cases h1 : inR op 2 64894
    · have e1 : pwsW op = 32 := by unfold pwsW; rw [if_neg h0, if_pos h1]
      have D := fun (w1 : World) (M : List Ent) (g : Nat) (h : St w M w1) (hm : Has M g #[.int .i64 64892, .int .i64 64894] 3) => calls_gr (row_at op 2 ho (tri 64892 64894 64894) 2 1 (by decide) (by decide) (.inl rfl) hf h1 (fun i hi => by rw [show i = 0 by omega]; exact h0) w1 g (hc w1 M g h hm))
      rw [e1]
      have e2 : op = 64894 ∨ op = 64895 := by unfold inR at h1; omega
      rcases e2 with rfl | rfl
      all_goals
        clear ho h0 h1 hc hf e1
        have XD := Lib.hid D
        clear D
        go_enter Try.func45, Try.ntmps45
        go_upto_region 0 with (fail)
        try refine wp_region_lit ?_
        iterate 2 ((first | (refine sl_load hS rfl 35 _ rfl rfl (by repeat (first | exact Has.hd | apply Has.tl)) Try.underlying35 rfl (by exact infoV) ?_) | (refine sl_store hS rfl 35 _ _ rfl rfl rfl (by repeat (first | exact Rep.hd | apply Rep.tl)) (by exact infoV) (by rfl) (bs_one _) ?_; clear hS; intro wk hS) | ((with_reducible show wpList _ _ _ (⟨_, .buildSlice _ _ _, _, _, _, _⟩ :: _) _ _); refine sl_new hS rfl #[.int .i64 64892, .int .i64 64894] 3 (fun b => .slice (some ⟨b, 0, none⟩) 2 2) (by intro w; go_simp) ?_; clear hS; intro bs wk hS) | (apply sl_val rfl; focus (intro w; go_simp; (try simp (disch := omega) only [IntWalk.i64_in, IntWalk.u64_in, IntWalk.u8_in, IntWalk.u32_in, IntWalk.i32_in]); first | exact rfl | rfl)) | (refine sl_step (fun K hK => .inl ⟨rfl, ?_⟩); unfold Oper.wp; go_simp; (first | with_reducible refine sl_call hS (XD.out _ _ _ hS Has.hd) ?_); clear hS; intro wk hS; refine hK _ _ ?_; clear hK K) | (refine sl_skip rfl ?_)); go_simp)
        go_upto_region 1 with (fail)
        try refine wp_region_lit ?_
        iterate 8 ((first | (refine sl_load hS rfl 35 _ rfl rfl (by repeat (first | exact Has.hd | apply Has.tl)) Try.underlying35 rfl (by exact infoV) ?_) | (refine sl_store hS rfl 35 _ _ rfl rfl rfl (by repeat (first | exact Rep.hd | apply Rep.tl)) (by exact infoV) (by rfl) (bs_one _) ?_; clear hS; intro wk hS) | ((with_reducible show wpList _ _ _ (⟨_, .buildSlice _ _ _, _, _, _, _⟩ :: _) _ _); refine sl_new hS rfl #[.int .i64 64892, .int .i64 64894] 3 (fun b => .slice (some ⟨b, 0, none⟩) 2 2) (by intro w; go_simp) ?_; clear hS; intro bs wk hS) | (apply sl_val rfl; focus (intro w; go_simp; (try simp (disch := omega) only [IntWalk.i64_in, IntWalk.u64_in, IntWalk.u8_in, IntWalk.u32_in, IntWalk.i32_in]); first | exact rfl | rfl)) | (refine sl_step (fun K hK => .inl ⟨rfl, ?_⟩); unfold Oper.wp; go_simp; (first | with_reducible refine sl_call hS (XD.out _ _ _ hS Has.hd) ?_); clear hS; intro wk hS; refine hK _ _ ?_; clear hK K) | (refine sl_skip rfl ?_)); go_simp)
        go_upto_region 2 with (fail)
        try refine wp_region_lit ?_
        iterate 10 ((first | (refine sl_load hS rfl 35 _ rfl rfl (by repeat (first | exact Has.hd | apply Has.tl)) Try.underlying35 rfl (by exact infoV) ?_) | (refine sl_store hS rfl 35 _ _ rfl rfl rfl (by repeat (first | exact Rep.hd | apply Rep.tl)) (by exact infoV) (by rfl) (bs_one _) ?_; clear hS; intro wk hS) | ((with_reducible show wpList _ _ _ (⟨_, .buildSlice _ _ _, _, _, _, _⟩ :: _) _ _); refine sl_new hS rfl #[.int .i64 64892, .int .i64 64894] 3 (fun b => .slice (some ⟨b, 0, none⟩) 2 2) (by intro w; go_simp) ?_; clear hS; intro bs wk hS) | (apply sl_val rfl; focus (intro w; go_simp; (try simp (disch := omega) only [IntWalk.i64_in, IntWalk.u64_in, IntWalk.u8_in, IntWalk.u32_in, IntWalk.i32_in]); first | exact rfl | rfl)) | (refine sl_step (fun K hK => .inl ⟨rfl, ?_⟩); unfold Oper.wp; go_simp; (first | with_reducible refine sl_call hS (XD.out _ _ _ hS Has.hd) ?_); clear hS; intro wk hS; refine hK _ _ ?_; clear hK K) | (refine sl_skip rfl ?_)); go_simp)
        go_wp2_with fail
        go_ret2
        exact ⟨rfl, hS.gr⟩
    · have e1 : pwsW op = 0 := by unfold pwsW; rw [if_neg h0, if_neg h1]
      have e2 : pwsS op = false := by unfold pwsS; unfold inR at h0 h1; rw [decide_eq_false (by omega), decide_eq_false (by omega)]; rfl
      have D := fun (w1 : World) (M : List Ent) (g : Nat) (h : St w M w1) (hm : Has M g #[.int .i64 64892, .int .i64 64894] 3) => calls_gr (row_no op 2 ho (tri 64892 64894 64894) 2 (by decide) (.inl rfl) hf (fun i hi => by
        match i, hi with
        | 0, _ => exact h0
        | 1, _ => exact h1) w1 g (hc w1 M g h hm))
      rw [e1, e2]
      clear ho h0 h1 hc hf e1 e2
      have XD := Lib.hid D
      clear D
      go_enter Try.func45, Try.ntmps45
      go_upto_region 0 with (fail)
      try refine wp_region_lit ?_
      iterate 2 ((first | (refine sl_load hS rfl 35 _ rfl rfl (by repeat (first | exact Has.hd | apply Has.tl)) Try.underlying35 rfl (by exact infoV) ?_) | (refine sl_store hS rfl 35 _ _ rfl rfl rfl (by repeat (first | exact Rep.hd | apply Rep.tl)) (by exact infoV) (by rfl) (bs_one _) ?_; clear hS; intro wk hS) | ((with_reducible show wpList _ _ _ (⟨_, .buildSlice _ _ _, _, _, _, _⟩ :: _) _ _); refine sl_new hS rfl #[.int .i64 64892, .int .i64 64894] 3 (fun b => .slice (some ⟨b, 0, none⟩) 2 2) (by intro w; go_simp) ?_; clear hS; intro bs wk hS) | (apply sl_val rfl; focus (intro w; go_simp; (try simp (disch := omega) only [IntWalk.i64_in, IntWalk.u64_in, IntWalk.u8_in, IntWalk.u32_in, IntWalk.i32_in]); first | exact rfl | rfl)) | (refine sl_step (fun K hK => .inl ⟨rfl, ?_⟩); unfold Oper.wp; go_simp; (first | with_reducible refine sl_call hS (XD.out _ _ _ hS Has.hd) ?_); clear hS; intro wk hS; refine hK _ _ ?_; clear hK K) | (refine sl_skip rfl ?_)); go_simp)
      go_upto_region 1 with (fail)
      try refine wp_region_lit ?_
      iterate 8 ((first | (refine sl_load hS rfl 35 _ rfl rfl (by repeat (first | exact Has.hd | apply Has.tl)) Try.underlying35 rfl (by exact infoV) ?_) | (refine sl_store hS rfl 35 _ _ rfl rfl rfl (by repeat (first | exact Rep.hd | apply Rep.tl)) (by exact infoV) (by rfl) (bs_one _) ?_; clear hS; intro wk hS) | ((with_reducible show wpList _ _ _ (⟨_, .buildSlice _ _ _, _, _, _, _⟩ :: _) _ _); refine sl_new hS rfl #[.int .i64 64892, .int .i64 64894] 3 (fun b => .slice (some ⟨b, 0, none⟩) 2 2) (by intro w; go_simp) ?_; clear hS; intro bs wk hS) | (apply sl_val rfl; focus (intro w; go_simp; (try simp (disch := omega) only [IntWalk.i64_in, IntWalk.u64_in, IntWalk.u8_in, IntWalk.u32_in, IntWalk.i32_in]); first | exact rfl | rfl)) | (refine sl_step (fun K hK => .inl ⟨rfl, ?_⟩); unfold Oper.wp; go_simp; (first | with_reducible refine sl_call hS (XD.out _ _ _ hS Has.hd) ?_); clear hS; intro wk hS; refine hK _ _ ?_; clear hK K) | (refine sl_skip rfl ?_)); go_simp)
      go_upto_region 2 with (fail)
      try refine wp_region_lit ?_
      iterate 10 ((first | (refine sl_load hS rfl 35 _ rfl rfl (by repeat (first | exact Has.hd | apply Has.tl)) Try.underlying35 rfl (by exact infoV) ?_) | (refine sl_store hS rfl 35 _ _ rfl rfl rfl (by repeat (first | exact Rep.hd | apply Rep.tl)) (by exact infoV) (by rfl) (bs_one _) ?_; clear hS; intro wk hS) | ((with_reducible show wpList _ _ _ (⟨_, .buildSlice _ _ _, _, _, _, _⟩ :: _) _ _); refine sl_new hS rfl #[.int .i64 64892, .int .i64 64894] 3 (fun b => .slice (some ⟨b, 0, none⟩) 2 2) (by intro w; go_simp) ?_; clear hS; intro bs wk hS) | (apply sl_val rfl; focus (intro w; go_simp; (try simp (disch := omega) only [IntWalk.i64_in, IntWalk.u64_in, IntWalk.u8_in, IntWalk.u32_in, IntWalk.i32_in]); first | exact rfl | rfl)) | (refine sl_step (fun K hK => .inl ⟨rfl, ?_⟩); unfold Oper.wp; go_simp; (first | with_reducible refine sl_call hS (XD.out _ _ _ hS Has.hd) ?_); clear hS; intro wk hS; refine hK _ _ ?_; clear hK K) | (refine sl_skip rfl ?_)); go_simp)
      go_wp2_with fail
      go_ret2
      exact ⟨rfl, hS.gr⟩
def narW (op : Int) : Int := if inR op 2 64869 then 8 else if inR op 2 64901 then 16 else 0
def narS (op : Int) : Bool := decide (op = 64869) || decide (op = 64901)
theorem narW_cases (op : Int) : narW op = 0 ∨ narW op = 8 ∨ narW op = 16 := by
  unfold narW; split; exact .inr (.inl rfl); split; exact .inr (.inr rfl); exact .inl rfl
end Wd
end Go.Proofs.Ytmgkejpjljkfdaa
