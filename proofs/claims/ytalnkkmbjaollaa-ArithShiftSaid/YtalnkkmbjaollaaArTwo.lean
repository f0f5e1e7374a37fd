/-
  Of layer 5's laws: two and one, the vectors that the program makes at an offset of a width. Conditions: a width; an offset from 0 to 31; bytes.
-/
import Derived.Test.YtalnkkmbjaollaaArAll
import Derived.Test.YtalnkkmbjaollaaSlV
namespace Go.Proofs.Ytalnkkmbjaollaa
open Go.RowKit VecM
namespace Ar
theorem ba_bd {v : Int} (hv : v = 8 ∨ v = 16 ∨ v = 32 ∨ v = 64) : 64864 ≤ baI v ∧ baI v ≤ 64960 := by rcases hv with rfl | rfl | rfl | rfl <;> decide
set_option maxHeartbeats 1000000 in
theorem two_any (v o : Int) (a b : Nat → Int) (hv : v = 8 ∨ v = 16 ∨ v = 32 ∨ v = 64) (ho : 0 ≤ o ∧ o ≤ 31) (ha : Byt a) (hb : Byt b) (w : World) :
    Calls Try.prog 19 #[.int .i64 v, .int .i64 o, .agg (bs a), .agg (bs b)] w fun e w' => e = .returned (.agg (bs (biV (baI v + o) a b))) ∧ Gr w w' := by
  have HB := Lib.hid fun w => calls_gr (base_any v hv w)
  have hC := fun w => bin_any (baI v + o) a b ha hb w
  have hI := ba_bd hv
  have hwr : IntKind.i64.wrap (baI v + o) = baI v + o := IntWalk.i64_in _ ⟨by omega, by omega⟩
  clear hv
  generalize (if biOk (baI v + o) then (0 : Int) else 1) = er at hC
  have HC := Lib.hid hC
  clear hC
  generalize baI v = c at *
  have hS := St.start w
  go_enter Try.func19, Try.ntmps19
  go_upto_region 1 with (first | (refine sl_load hS rfl 23 _ rfl rfl (by repeat (first | exact Has.hd | apply Has.tl)) Try.underlying23 rfl (by exact infoV) ?_) | (refine sl_store hS rfl 23 _ _ rfl rfl rfl (by repeat (first | exact Rep.hd | apply Rep.tl)) (by exact infoV) (by rfl) (bs_one _) ?_; clear hS; intro wk hS) | (refine sl_box hS rfl _ 23 (box_vec rfl rfl) ?_; clear hS; intro bk wk hS) | (refine sl_box hS rfl _ 23 (alloc_vec rfl) ?_; clear hS; intro bk wk hS) | (refine onlyN_end ?_) | (refine onlyN_now ?_))
  refine sd_alloc 10 (bs fun _ => 0) 23 9 hS (by kernel_rfl) (by kernel_rfl) (lays_vec rfl rfl rfl) rfl ?_
  simp only [List.take_succ_cons, List.take_zero, List.drop_succ_cons, List.drop_zero]
  iterate 10 (refine sd_step (fun K hK => ?_); (first | (refine sd_load rfl 23 _ rfl rfl (by repeat (first | exact Has.hd | apply Has.tl)) Try.underlying23 rfl (by exact infoV) ?_) | (apply sd_op rfl; focus (intro wx hx; go_simp; first | (apply sd_enter; first | fail | with_reducible exact HB.out wx | with_reducible exact HC.out wx) | exact ⟨rfl, Gr.refl _⟩))); go_simp; refine hK _ ?_; clear hK K)
  refine sd_nil ?_
  clear hS
  intro b7 wk hS
  simp only [Act.put, List.setIfInBounds_toArray, List.set_cons_succ, List.set_cons_zero]
  go_wp2_with (first | (refine sl_load hS rfl 23 _ rfl rfl (by repeat (first | exact Has.hd | apply Has.tl)) Try.underlying23 rfl (by exact infoV) ?_) | (refine sl_store hS rfl 23 _ _ rfl rfl rfl (by repeat (first | exact Rep.hd | apply Rep.tl)) (by exact infoV) (by rfl) (bs_one _) ?_; clear hS; intro wk hS) | (refine sl_box hS rfl _ 23 (box_vec rfl rfl) ?_; clear hS; intro bk wk hS) | (refine sl_box hS rfl _ 23 (alloc_vec rfl) ?_; clear hS; intro bk wk hS) | (refine onlyN_end ?_) | (refine onlyN_now ?_))
  refine sl_ret hS Try.results19 (by rfl) (by repeat (first | exact Has.hd | apply Has.tl)) Try.underlying23 rfl (by exact infoV) (by rfl) ?_
  exact ⟨rfl, hS.gr⟩
set_option maxHeartbeats 1000000 in
theorem one_any (v o : Int) (a : Nat → Int) (hv : v = 8 ∨ v = 16 ∨ v = 32 ∨ v = 64) (ho : 0 ≤ o ∧ o ≤ 31) (ha : Byt a) (w : World) :
    Calls Try.prog 20 #[.int .i64 v, .int .i64 o, .agg (bs a)] w fun e w' => e = .returned (.agg (bs (unV (baI v + o) a))) ∧ Gr w w' := by
  have HB := Lib.hid fun w => calls_gr (base_any v hv w)
  have hC := fun w => un_any (baI v + o) a ha w
  have hI := ba_bd hv
  have hwr : IntKind.i64.wrap (baI v + o) = baI v + o := IntWalk.i64_in _ ⟨by omega, by omega⟩
  clear hv
  generalize (if unOk (baI v + o) then (0 : Int) else 1) = er at hC
  have HC := Lib.hid hC
  clear hC
  generalize baI v = c at *
  have hS := St.start w
  go_enter Try.func20, Try.ntmps20
  go_upto_region 1 with (first | (refine sl_load hS rfl 23 _ rfl rfl (by repeat (first | exact Has.hd | apply Has.tl)) Try.underlying23 rfl (by exact infoV) ?_) | (refine sl_store hS rfl 23 _ _ rfl rfl rfl (by repeat (first | exact Rep.hd | apply Rep.tl)) (by exact infoV) (by rfl) (bs_one _) ?_; clear hS; intro wk hS) | (refine sl_box hS rfl _ 23 (box_vec rfl rfl) ?_; clear hS; intro bk wk hS) | (refine sl_box hS rfl _ 23 (alloc_vec rfl) ?_; clear hS; intro bk wk hS) | (refine onlyN_end ?_) | (refine onlyN_now ?_))
  refine sd_alloc 9 (bs fun _ => 0) 23 7 hS (by kernel_rfl) (by kernel_rfl) (lays_vec rfl rfl rfl) rfl ?_
  simp only [List.take_succ_cons, List.take_zero, List.drop_succ_cons, List.drop_zero]
  iterate 9 (refine sd_step (fun K hK => ?_); (first | (refine sd_load rfl 23 _ rfl rfl (by repeat (first | exact Has.hd | apply Has.tl)) Try.underlying23 rfl (by exact infoV) ?_) | (apply sd_op rfl; focus (intro wx hx; go_simp; first | (apply sd_enter; first | fail | with_reducible exact HB.out wx | with_reducible exact HC.out wx) | exact ⟨rfl, Gr.refl _⟩))); go_simp; refine hK _ ?_; clear hK K)
  refine sd_nil ?_
  clear hS
  intro b7 wk hS
  simp only [Act.put, List.setIfInBounds_toArray, List.set_cons_succ, List.set_cons_zero]
  go_wp2_with (first | (refine sl_load hS rfl 23 _ rfl rfl (by repeat (first | exact Has.hd | apply Has.tl)) Try.underlying23 rfl (by exact infoV) ?_) | (refine sl_store hS rfl 23 _ _ rfl rfl rfl (by repeat (first | exact Rep.hd | apply Rep.tl)) (by exact infoV) (by rfl) (bs_one _) ?_; clear hS; intro wk hS) | (refine sl_box hS rfl _ 23 (box_vec rfl rfl) ?_; clear hS; intro bk wk hS) | (refine sl_box hS rfl _ 23 (alloc_vec rfl) ?_; clear hS; intro bk wk hS) | (refine onlyN_end ?_) | (refine onlyN_now ?_))
  refine sl_ret hS Try.results20 (by rfl) (by repeat (first | exact Has.hd | apply Has.tl)) Try.underlying23 rfl (by exact infoV) (by rfl) ?_
  exact ⟨rfl, hS.gr⟩
end Ar
end Go.Proofs.Ytalnkkmbjaollaa
