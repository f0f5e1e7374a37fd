/-
  Texts of this seat, joined: InsShS. Each says what it proves.
-/
import Derived.Test.YtjoalcaooccbiaaMk5
/- InsShS -/
namespace Go.Proofs.Ytjoalcaooccbiaa
open Go.RowKit
namespace Ins
theorem access_0 (w : World) : Calls Try.prog 68 #[.int .i64 40] w (RES 7 2 ⟨#[105, 58, 105]⟩ w) := by
 go_enter Try.func68, Try.ntmps68
 go_wp2_with (go_at_call 62; first | ((with_reducible refine (within_yes _ _ _ (by omega) (by omega) _).mono ?_); rintro e w' ⟨rfl, rfl⟩) | ((with_reducible refine (within_no _ _ _ (by omega) _).mono ?_); rintro e w' ⟨rfl, rfl⟩))
 refine (memory_any _ _ _).mono ?_
 rintro e w1 ⟨rfl, hg⟩
 have hb := gr_block hg (heap_alloc_new w (.cells (shp 0 0 zs) 65))
 have HB := Lib.hid hb
 have HG := Lib.hid (gr_trans ((Gr.refl w).alloc _ _) hg)
 clear hb hg
 go_wp2_with (refine wpList_store_row rfl 65 _ _ rfl w.heap.size (shp _ _ _) rfl rfl 65 (shp 0 0 zs) HB.out infoS rfl (shp_one _ _ _) ?_)
 exact bodyPost_ret (v := .agg (shp _ _ _)) (results_cell_row Try.results68 _ _ w.heap.size 65 _ (0, 0) _ rfl (setRow_block HB.out) Try.underlying65 rfl infoS) rfl ⟨rfl, gr_setRow HG.out (by omega) _⟩
theorem access_1 (w : World) : Calls Try.prog 68 #[.int .i64 41] w (RES 7 3 ⟨#[105, 58, 108]⟩ w) := by
 go_enter Try.func68, Try.ntmps68
 go_wp2_with (go_at_call 62; first | ((with_reducible refine (within_yes _ _ _ (by omega) (by omega) _).mono ?_); rintro e w' ⟨rfl, rfl⟩) | ((with_reducible refine (within_no _ _ _ (by omega) _).mono ?_); rintro e w' ⟨rfl, rfl⟩))
 refine (memory_any _ _ _).mono ?_
 rintro e w1 ⟨rfl, hg⟩
 have hb := gr_block hg (heap_alloc_new w (.cells (shp 0 0 zs) 65))
 have HB := Lib.hid hb
 have HG := Lib.hid (gr_trans ((Gr.refl w).alloc _ _) hg)
 clear hb hg
 go_wp2_with (refine wpList_store_row rfl 65 _ _ rfl w.heap.size (shp _ _ _) rfl rfl 65 (shp 0 0 zs) HB.out infoS rfl (shp_one _ _ _) ?_)
 exact bodyPost_ret (v := .agg (shp _ _ _)) (results_cell_row Try.results68 _ _ w.heap.size 65 _ (0, 0) _ rfl (setRow_block HB.out) Try.underlying65 rfl infoS) rfl ⟨rfl, gr_setRow HG.out (by omega) _⟩
theorem access_2 (n : Int) (h0 : 42 ≤ n) (h1 : n ≤ 43) (w : World) : Calls Try.prog 68 #[.int .i64 n] w (RES 0 0 ⟨#[]⟩ w) := by
 go_enter Try.func68, Try.ntmps68
 go_wp2_with (go_at_call 62; first | ((with_reducible refine (within_yes _ _ _ (by omega) (by omega) _).mono ?_); rintro e w' ⟨rfl, rfl⟩) | ((with_reducible refine (within_no _ _ _ (by omega) _).mono ?_); rintro e w' ⟨rfl, rfl⟩))
 exact bodyPost_ret (v := .agg (shp _ _ _)) (by simp [results, Try.results68, go_sem, shp] <;> rfl) rfl ⟨rfl, (Gr.refl _).alloc _ _⟩
theorem access_3 (w : World) : Calls Try.prog 68 #[.int .i64 44] w (RES 7 0 ⟨#[105, 58, 105]⟩ w) := by
 go_enter Try.func68, Try.ntmps68
 go_wp2_with (go_at_call 62; first | ((with_reducible refine (within_yes _ _ _ (by omega) (by omega) _).mono ?_); rintro e w' ⟨rfl, rfl⟩) | ((with_reducible refine (within_no _ _ _ (by omega) _).mono ?_); rintro e w' ⟨rfl, rfl⟩))
 refine (memory_any _ _ _).mono ?_
 rintro e w1 ⟨rfl, hg⟩
 have hb := gr_block hg (heap_alloc_new w (.cells (shp 0 0 zs) 65))
 have HB := Lib.hid hb
 have HG := Lib.hid (gr_trans ((Gr.refl w).alloc _ _) hg)
 clear hb hg
 go_wp2_with (refine wpList_store_row rfl 65 _ _ rfl w.heap.size (shp _ _ _) rfl rfl 65 (shp 0 0 zs) HB.out infoS rfl (shp_one _ _ _) ?_)
 exact bodyPost_ret (v := .agg (shp _ _ _)) (results_cell_row Try.results68 _ _ w.heap.size 65 _ (0, 0) _ rfl (setRow_block HB.out) Try.underlying65 rfl infoS) rfl ⟨rfl, gr_setRow HG.out (by omega) _⟩
theorem access_4 (w : World) : Calls Try.prog 68 #[.int .i64 45] w (RES 7 0 ⟨#[105, 58, 105]⟩ w) := by
 go_enter Try.func68, Try.ntmps68
 go_wp2_with (go_at_call 62; first | ((with_reducible refine (within_yes _ _ _ (by omega) (by omega) _).mono ?_); rintro e w' ⟨rfl, rfl⟩) | ((with_reducible refine (within_no _ _ _ (by omega) _).mono ?_); rintro e w' ⟨rfl, rfl⟩))
 refine (memory_any _ _ _).mono ?_
 rintro e w1 ⟨rfl, hg⟩
 have hb := gr_block hg (heap_alloc_new w (.cells (shp 0 0 zs) 65))
 have HB := Lib.hid hb
 have HG := Lib.hid (gr_trans ((Gr.refl w).alloc _ _) hg)
 clear hb hg
 go_wp2_with (refine wpList_store_row rfl 65 _ _ rfl w.heap.size (shp _ _ _) rfl rfl 65 (shp 0 0 zs) HB.out infoS rfl (shp_one _ _ _) ?_)
 exact bodyPost_ret (v := .agg (shp _ _ _)) (results_cell_row Try.results68 _ _ w.heap.size 65 _ (0, 0) _ rfl (setRow_block HB.out) Try.underlying65 rfl infoS) rfl ⟨rfl, gr_setRow HG.out (by omega) _⟩
theorem access_5 (w : World) : Calls Try.prog 68 #[.int .i64 46] w (RES 7 1 ⟨#[105, 58, 105]⟩ w) := by
 go_enter Try.func68, Try.ntmps68
 go_wp2_with (go_at_call 62; first | ((with_reducible refine (within_yes _ _ _ (by omega) (by omega) _).mono ?_); rintro e w' ⟨rfl, rfl⟩) | ((with_reducible refine (within_no _ _ _ (by omega) _).mono ?_); rintro e w' ⟨rfl, rfl⟩))
 refine (memory_any _ _ _).mono ?_
 rintro e w1 ⟨rfl, hg⟩
 have hb := gr_block hg (heap_alloc_new w (.cells (shp 0 0 zs) 65))
 have HB := Lib.hid hb
 have HG := Lib.hid (gr_trans ((Gr.refl w).alloc _ _) hg)
 clear hb hg
 go_wp2_with (refine wpList_store_row rfl 65 _ _ rfl w.heap.size (shp _ _ _) rfl rfl 65 (shp 0 0 zs) HB.out infoS rfl (shp_one _ _ _) ?_)
 exact bodyPost_ret (v := .agg (shp _ _ _)) (results_cell_row Try.results68 _ _ w.heap.size 65 _ (0, 0) _ rfl (setRow_block HB.out) Try.underlying65 rfl infoS) rfl ⟨rfl, gr_setRow HG.out (by omega) _⟩
theorem access_6 (w : World) : Calls Try.prog 68 #[.int .i64 47] w (RES 7 1 ⟨#[105, 58, 105]⟩ w) := by
 go_enter Try.func68, Try.ntmps68
 go_wp2_with (go_at_call 62; first | ((with_reducible refine (within_yes _ _ _ (by omega) (by omega) _).mono ?_); rintro e w' ⟨rfl, rfl⟩) | ((with_reducible refine (within_no _ _ _ (by omega) _).mono ?_); rintro e w' ⟨rfl, rfl⟩))
 refine (memory_any _ _ _).mono ?_
 rintro e w1 ⟨rfl, hg⟩
 have hb := gr_block hg (heap_alloc_new w (.cells (shp 0 0 zs) 65))
 have HB := Lib.hid hb
 have HG := Lib.hid (gr_trans ((Gr.refl w).alloc _ _) hg)
 clear hb hg
 go_wp2_with (refine wpList_store_row rfl 65 _ _ rfl w.heap.size (shp _ _ _) rfl rfl 65 (shp 0 0 zs) HB.out infoS rfl (shp_one _ _ _) ?_)
 exact bodyPost_ret (v := .agg (shp _ _ _)) (results_cell_row Try.results68 _ _ w.heap.size 65 _ (0, 0) _ rfl (setRow_block HB.out) Try.underlying65 rfl infoS) rfl ⟨rfl, gr_setRow HG.out (by omega) _⟩
theorem access_7 (w : World) : Calls Try.prog 68 #[.int .i64 48] w (RES 7 0 ⟨#[105, 58, 108]⟩ w) := by
 go_enter Try.func68, Try.ntmps68
 go_wp2_with (go_at_call 62; first | ((with_reducible refine (within_yes _ _ _ (by omega) (by omega) _).mono ?_); rintro e w' ⟨rfl, rfl⟩) | ((with_reducible refine (within_no _ _ _ (by omega) _).mono ?_); rintro e w' ⟨rfl, rfl⟩))
 refine (memory_any _ _ _).mono ?_
 rintro e w1 ⟨rfl, hg⟩
 have hb := gr_block hg (heap_alloc_new w (.cells (shp 0 0 zs) 65))
 have HB := Lib.hid hb
 have HG := Lib.hid (gr_trans ((Gr.refl w).alloc _ _) hg)
 clear hb hg
 go_wp2_with (refine wpList_store_row rfl 65 _ _ rfl w.heap.size (shp _ _ _) rfl rfl 65 (shp 0 0 zs) HB.out infoS rfl (shp_one _ _ _) ?_)
 exact bodyPost_ret (v := .agg (shp _ _ _)) (results_cell_row Try.results68 _ _ w.heap.size 65 _ (0, 0) _ rfl (setRow_block HB.out) Try.underlying65 rfl infoS) rfl ⟨rfl, gr_setRow HG.out (by omega) _⟩
theorem access_8 (w : World) : Calls Try.prog 68 #[.int .i64 49] w (RES 7 0 ⟨#[105, 58, 108]⟩ w) := by
 go_enter Try.func68, Try.ntmps68
 go_wp2_with (go_at_call 62; first | ((with_reducible refine (within_yes _ _ _ (by omega) (by omega) _).mono ?_); rintro e w' ⟨rfl, rfl⟩) | ((with_reducible refine (within_no _ _ _ (by omega) _).mono ?_); rintro e w' ⟨rfl, rfl⟩))
 refine (memory_any _ _ _).mono ?_
 rintro e w1 ⟨rfl, hg⟩
 have hb := gr_block hg (heap_alloc_new w (.cells (shp 0 0 zs) 65))
 have HB := Lib.hid hb
 have HG := Lib.hid (gr_trans ((Gr.refl w).alloc _ _) hg)
 clear hb hg
 go_wp2_with (refine wpList_store_row rfl 65 _ _ rfl w.heap.size (shp _ _ _) rfl rfl 65 (shp 0 0 zs) HB.out infoS rfl (shp_one _ _ _) ?_)
 exact bodyPost_ret (v := .agg (shp _ _ _)) (results_cell_row Try.results68 _ _ w.heap.size 65 _ (0, 0) _ rfl (setRow_block HB.out) Try.underlying65 rfl infoS) rfl ⟨rfl, gr_setRow HG.out (by omega) _⟩
theorem access_9 (w : World) : Calls Try.prog 68 #[.int .i64 50] w (RES 7 1 ⟨#[105, 58, 108]⟩ w) := by
 go_enter Try.func68, Try.ntmps68
 go_wp2_with (go_at_call 62; first | ((with_reducible refine (within_yes _ _ _ (by omega) (by omega) _).mono ?_); rintro e w' ⟨rfl, rfl⟩) | ((with_reducible refine (within_no _ _ _ (by omega) _).mono ?_); rintro e w' ⟨rfl, rfl⟩))
 refine (memory_any _ _ _).mono ?_
 rintro e w1 ⟨rfl, hg⟩
 have hb := gr_block hg (heap_alloc_new w (.cells (shp 0 0 zs) 65))
 have HB := Lib.hid hb
 have HG := Lib.hid (gr_trans ((Gr.refl w).alloc _ _) hg)
 clear hb hg
 go_wp2_with (refine wpList_store_row rfl 65 _ _ rfl w.heap.size (shp _ _ _) rfl rfl 65 (shp 0 0 zs) HB.out infoS rfl (shp_one _ _ _) ?_)
 exact bodyPost_ret (v := .agg (shp _ _ _)) (results_cell_row Try.results68 _ _ w.heap.size 65 _ (0, 0) _ rfl (setRow_block HB.out) Try.underlying65 rfl infoS) rfl ⟨rfl, gr_setRow HG.out (by omega) _⟩
theorem access_10 (w : World) : Calls Try.prog 68 #[.int .i64 51] w (RES 7 1 ⟨#[105, 58, 108]⟩ w) := by
 go_enter Try.func68, Try.ntmps68
 go_wp2_with (go_at_call 62; first | ((with_reducible refine (within_yes _ _ _ (by omega) (by omega) _).mono ?_); rintro e w' ⟨rfl, rfl⟩) | ((with_reducible refine (within_no _ _ _ (by omega) _).mono ?_); rintro e w' ⟨rfl, rfl⟩))
 refine (memory_any _ _ _).mono ?_
 rintro e w1 ⟨rfl, hg⟩
 have hb := gr_block hg (heap_alloc_new w (.cells (shp 0 0 zs) 65))
 have HB := Lib.hid hb
 have HG := Lib.hid (gr_trans ((Gr.refl w).alloc _ _) hg)
 clear hb hg
 go_wp2_with (refine wpList_store_row rfl 65 _ _ rfl w.heap.size (shp _ _ _) rfl rfl 65 (shp 0 0 zs) HB.out infoS rfl (shp_one _ _ _) ?_)
 exact bodyPost_ret (v := .agg (shp _ _ _)) (results_cell_row Try.results68 _ _ w.heap.size 65 _ (0, 0) _ rfl (setRow_block HB.out) Try.underlying65 rfl infoS) rfl ⟨rfl, gr_setRow HG.out (by omega) _⟩
theorem access_11 (w : World) : Calls Try.prog 68 #[.int .i64 52] w (RES 7 2 ⟨#[105, 58, 108]⟩ w) := by
 go_enter Try.func68, Try.ntmps68
 go_wp2_with (go_at_call 62; first | ((with_reducible refine (within_yes _ _ _ (by omega) (by omega) _).mono ?_); rintro e w' ⟨rfl, rfl⟩) | ((with_reducible refine (within_no _ _ _ (by omega) _).mono ?_); rintro e w' ⟨rfl, rfl⟩))
 refine (memory_any _ _ _).mono ?_
 rintro e w1 ⟨rfl, hg⟩
 have hb := gr_block hg (heap_alloc_new w (.cells (shp 0 0 zs) 65))
 have HB := Lib.hid hb
 have HG := Lib.hid (gr_trans ((Gr.refl w).alloc _ _) hg)
 clear hb hg
 go_wp2_with (refine wpList_store_row rfl 65 _ _ rfl w.heap.size (shp _ _ _) rfl rfl 65 (shp 0 0 zs) HB.out infoS rfl (shp_one _ _ _) ?_)
 exact bodyPost_ret (v := .agg (shp _ _ _)) (results_cell_row Try.results68 _ _ w.heap.size 65 _ (0, 0) _ rfl (setRow_block HB.out) Try.underlying65 rfl infoS) rfl ⟨rfl, gr_setRow HG.out (by omega) _⟩
theorem access_12 (w : World) : Calls Try.prog 68 #[.int .i64 53] w (RES 7 2 ⟨#[105, 58, 108]⟩ w) := by
 go_enter Try.func68, Try.ntmps68
 go_wp2_with (go_at_call 62; first | ((with_reducible refine (within_yes _ _ _ (by omega) (by omega) _).mono ?_); rintro e w' ⟨rfl, rfl⟩) | ((with_reducible refine (within_no _ _ _ (by omega) _).mono ?_); rintro e w' ⟨rfl, rfl⟩))
 refine (memory_any _ _ _).mono ?_
 rintro e w1 ⟨rfl, hg⟩
 have hb := gr_block hg (heap_alloc_new w (.cells (shp 0 0 zs) 65))
 have HB := Lib.hid hb
 have HG := Lib.hid (gr_trans ((Gr.refl w).alloc _ _) hg)
 clear hb hg
 go_wp2_with (refine wpList_store_row rfl 65 _ _ rfl w.heap.size (shp _ _ _) rfl rfl 65 (shp 0 0 zs) HB.out infoS rfl (shp_one _ _ _) ?_)
 exact bodyPost_ret (v := .agg (shp _ _ _)) (results_cell_row Try.results68 _ _ w.heap.size 65 _ (0, 0) _ rfl (setRow_block HB.out) Try.underlying65 rfl infoS) rfl ⟨rfl, gr_setRow HG.out (by omega) _⟩
theorem access_13 (w : World) : Calls Try.prog 68 #[.int .i64 54] w (RES 7 2 ⟨#[105, 105, 58]⟩ w) := by
 go_enter Try.func68, Try.ntmps68
 go_wp2_with (go_at_call 62; first | ((with_reducible refine (within_yes _ _ _ (by omega) (by omega) _).mono ?_); rintro e w' ⟨rfl, rfl⟩) | ((with_reducible refine (within_no _ _ _ (by omega) _).mono ?_); rintro e w' ⟨rfl, rfl⟩))
 refine (memory_any _ _ _).mono ?_
 rintro e w1 ⟨rfl, hg⟩
 have hb := gr_block hg (heap_alloc_new w (.cells (shp 0 0 zs) 65))
 have HB := Lib.hid hb
 have HG := Lib.hid (gr_trans ((Gr.refl w).alloc _ _) hg)
 clear hb hg
 go_wp2_with (refine wpList_store_row rfl 65 _ _ rfl w.heap.size (shp _ _ _) rfl rfl 65 (shp 0 0 zs) HB.out infoS rfl (shp_one _ _ _) ?_)
 exact bodyPost_ret (v := .agg (shp _ _ _)) (results_cell_row Try.results68 _ _ w.heap.size 65 _ (0, 0) _ rfl (setRow_block HB.out) Try.underlying65 rfl infoS) rfl ⟨rfl, gr_setRow HG.out (by omega) _⟩
theorem access_14 (w : World) : Calls Try.prog 68 #[.int .i64 55] w (RES 7 3 ⟨#[105, 108, 58]⟩ w) := by
 go_enter Try.func68, Try.ntmps68
 go_wp2_with (go_at_call 62; first | ((with_reducible refine (within_yes _ _ _ (by omega) (by omega) _).mono ?_); rintro e w' ⟨rfl, rfl⟩) | ((with_reducible refine (within_no _ _ _ (by omega) _).mono ?_); rintro e w' ⟨rfl, rfl⟩))
 refine (memory_any _ _ _).mono ?_
 rintro e w1 ⟨rfl, hg⟩
 have hb := gr_block hg (heap_alloc_new w (.cells (shp 0 0 zs) 65))
 have HB := Lib.hid hb
 have HG := Lib.hid (gr_trans ((Gr.refl w).alloc _ _) hg)
 clear hb hg
 go_wp2_with (refine wpList_store_row rfl 65 _ _ rfl w.heap.size (shp _ _ _) rfl rfl 65 (shp 0 0 zs) HB.out infoS rfl (shp_one _ _ _) ?_)
 exact bodyPost_ret (v := .agg (shp _ _ _)) (results_cell_row Try.results68 _ _ w.heap.size 65 _ (0, 0) _ rfl (setRow_block HB.out) Try.underlying65 rfl infoS) rfl ⟨rfl, gr_setRow HG.out (by omega) _⟩
theorem access_15 (n : Int) (h0 : 56 ≤ n) (h1 : n ≤ 57) (w : World) : Calls Try.prog 68 #[.int .i64 n] w (RES 0 0 ⟨#[]⟩ w) := by
 go_enter Try.func68, Try.ntmps68
 go_wp2_with (go_at_call 62; first | ((with_reducible refine (within_yes _ _ _ (by omega) (by omega) _).mono ?_); rintro e w' ⟨rfl, rfl⟩) | ((with_reducible refine (within_no _ _ _ (by omega) _).mono ?_); rintro e w' ⟨rfl, rfl⟩))
 exact bodyPost_ret (v := .agg (shp _ _ _)) (by simp [results, Try.results68, go_sem, shp] <;> rfl) rfl ⟨rfl, (Gr.refl _).alloc _ _⟩
theorem access_16 (w : World) : Calls Try.prog 68 #[.int .i64 58] w (RES 7 0 ⟨#[105, 105, 58]⟩ w) := by
 go_enter Try.func68, Try.ntmps68
 go_wp2_with (go_at_call 62; first | ((with_reducible refine (within_yes _ _ _ (by omega) (by omega) _).mono ?_); rintro e w' ⟨rfl, rfl⟩) | ((with_reducible refine (within_no _ _ _ (by omega) _).mono ?_); rintro e w' ⟨rfl, rfl⟩))
 refine (memory_any _ _ _).mono ?_
 rintro e w1 ⟨rfl, hg⟩
 have hb := gr_block hg (heap_alloc_new w (.cells (shp 0 0 zs) 65))
 have HB := Lib.hid hb
 have HG := Lib.hid (gr_trans ((Gr.refl w).alloc _ _) hg)
 clear hb hg
 go_wp2_with (refine wpList_store_row rfl 65 _ _ rfl w.heap.size (shp _ _ _) rfl rfl 65 (shp 0 0 zs) HB.out infoS rfl (shp_one _ _ _) ?_)
 exact bodyPost_ret (v := .agg (shp _ _ _)) (results_cell_row Try.results68 _ _ w.heap.size 65 _ (0, 0) _ rfl (setRow_block HB.out) Try.underlying65 rfl infoS) rfl ⟨rfl, gr_setRow HG.out (by omega) _⟩
theorem access_17 (w : World) : Calls Try.prog 68 #[.int .i64 59] w (RES 7 1 ⟨#[105, 105, 58]⟩ w) := by
 go_enter Try.func68, Try.ntmps68
 go_wp2_with (go_at_call 62; first | ((with_reducible refine (within_yes _ _ _ (by omega) (by omega) _).mono ?_); rintro e w' ⟨rfl, rfl⟩) | ((with_reducible refine (within_no _ _ _ (by omega) _).mono ?_); rintro e w' ⟨rfl, rfl⟩))
 refine (memory_any _ _ _).mono ?_
 rintro e w1 ⟨rfl, hg⟩
 have hb := gr_block hg (heap_alloc_new w (.cells (shp 0 0 zs) 65))
 have HB := Lib.hid hb
 have HG := Lib.hid (gr_trans ((Gr.refl w).alloc _ _) hg)
 clear hb hg
 go_wp2_with (refine wpList_store_row rfl 65 _ _ rfl w.heap.size (shp _ _ _) rfl rfl 65 (shp 0 0 zs) HB.out infoS rfl (shp_one _ _ _) ?_)
 exact bodyPost_ret (v := .agg (shp _ _ _)) (results_cell_row Try.results68 _ _ w.heap.size 65 _ (0, 0) _ rfl (setRow_block HB.out) Try.underlying65 rfl infoS) rfl ⟨rfl, gr_setRow HG.out (by omega) _⟩
theorem access_18 (w : World) : Calls Try.prog 68 #[.int .i64 60] w (RES 7 0 ⟨#[105, 108, 58]⟩ w) := by
 go_enter Try.func68, Try.ntmps68
 go_wp2_with (go_at_call 62; first | ((with_reducible refine (within_yes _ _ _ (by omega) (by omega) _).mono ?_); rintro e w' ⟨rfl, rfl⟩) | ((with_reducible refine (within_no _ _ _ (by omega) _).mono ?_); rintro e w' ⟨rfl, rfl⟩))
 refine (memory_any _ _ _).mono ?_
 rintro e w1 ⟨rfl, hg⟩
 have hb := gr_block hg (heap_alloc_new w (.cells (shp 0 0 zs) 65))
 have HB := Lib.hid hb
 have HG := Lib.hid (gr_trans ((Gr.refl w).alloc _ _) hg)
 clear hb hg
 go_wp2_with (refine wpList_store_row rfl 65 _ _ rfl w.heap.size (shp _ _ _) rfl rfl 65 (shp 0 0 zs) HB.out infoS rfl (shp_one _ _ _) ?_)
 exact bodyPost_ret (v := .agg (shp _ _ _)) (results_cell_row Try.results68 _ _ w.heap.size 65 _ (0, 0) _ rfl (setRow_block HB.out) Try.underlying65 rfl infoS) rfl ⟨rfl, gr_setRow HG.out (by omega) _⟩
theorem access_19 (w : World) : Calls Try.prog 68 #[.int .i64 61] w (RES 7 1 ⟨#[105, 108, 58]⟩ w) := by
 go_enter Try.func68, Try.ntmps68
 go_wp2_with (go_at_call 62; first | ((with_reducible refine (within_yes _ _ _ (by omega) (by omega) _).mono ?_); rintro e w' ⟨rfl, rfl⟩) | ((with_reducible refine (within_no _ _ _ (by omega) _).mono ?_); rintro e w' ⟨rfl, rfl⟩))
 refine (memory_any _ _ _).mono ?_
 rintro e w1 ⟨rfl, hg⟩
 have hb := gr_block hg (heap_alloc_new w (.cells (shp 0 0 zs) 65))
 have HB := Lib.hid hb
 have HG := Lib.hid (gr_trans ((Gr.refl w).alloc _ _) hg)
 clear hb hg
 go_wp2_with (refine wpList_store_row rfl 65 _ _ rfl w.heap.size (shp _ _ _) rfl rfl 65 (shp 0 0 zs) HB.out infoS rfl (shp_one _ _ _) ?_)
 exact bodyPost_ret (v := .agg (shp _ _ _)) (results_cell_row Try.results68 _ _ w.heap.size 65 _ (0, 0) _ rfl (setRow_block HB.out) Try.underlying65 rfl infoS) rfl ⟨rfl, gr_setRow HG.out (by omega) _⟩
theorem access_20 (w : World) : Calls Try.prog 68 #[.int .i64 62] w (RES 7 2 ⟨#[105, 108, 58]⟩ w) := by
 go_enter Try.func68, Try.ntmps68
 go_wp2_with (go_at_call 62; first | ((with_reducible refine (within_yes _ _ _ (by omega) (by omega) _).mono ?_); rintro e w' ⟨rfl, rfl⟩) | ((with_reducible refine (within_no _ _ _ (by omega) _).mono ?_); rintro e w' ⟨rfl, rfl⟩))
 refine (memory_any _ _ _).mono ?_
 rintro e w1 ⟨rfl, hg⟩
 have hb := gr_block hg (heap_alloc_new w (.cells (shp 0 0 zs) 65))
 have HB := Lib.hid hb
 have HG := Lib.hid (gr_trans ((Gr.refl w).alloc _ _) hg)
 clear hb hg
 go_wp2_with (refine wpList_store_row rfl 65 _ _ rfl w.heap.size (shp _ _ _) rfl rfl 65 (shp 0 0 zs) HB.out infoS rfl (shp_one _ _ _) ?_)
 exact bodyPost_ret (v := .agg (shp _ _ _)) (results_cell_row Try.results68 _ _ w.heap.size 65 _ (0, 0) _ rfl (setRow_block HB.out) Try.underlying65 rfl infoS) rfl ⟨rfl, gr_setRow HG.out (by omega) _⟩
theorem operator_0 (w : World) : Calls Try.prog 69 #[.int .i64 69] w (RES 1 0 ⟨#[105, 58, 105]⟩ w) := by
 go_enter Try.func69, Try.ntmps69
 go_wp2_with (go_at_call 62; first | ((with_reducible refine (within_yes _ _ _ (by omega) (by omega) _).mono ?_); rintro e w' ⟨rfl, rfl⟩) | ((with_reducible refine (within_no _ _ _ (by omega) _).mono ?_); rintro e w' ⟨rfl, rfl⟩))
 refine (plain_any _ _).mono ?_
 rintro e w1 ⟨rfl, hg⟩
 have hb := gr_block hg (heap_alloc_new w (.cells (shp 0 0 zs) 65))
 have HB := Lib.hid hb
 have HG := Lib.hid (gr_trans ((Gr.refl w).alloc _ _) hg)
 clear hb hg
 go_wp2_with (refine wpList_store_row rfl 65 _ _ rfl w.heap.size (shp _ _ _) rfl rfl 65 (shp 0 0 zs) HB.out infoS rfl (shp_one _ _ _) ?_)
 exact bodyPost_ret (v := .agg (shp _ _ _)) (results_cell_row Try.results69 _ _ w.heap.size 65 _ (0, 0) _ rfl (setRow_block HB.out) Try.underlying65 rfl infoS) rfl ⟨rfl, gr_setRow HG.out (by omega) _⟩
theorem operator_1 (n : Int) (h0 : 70 ≤ n) (h1 : n ≤ 79) (w : World) : Calls Try.prog 69 #[.int .i64 n] w (RES 1 0 ⟨#[105, 105, 58, 105]⟩ w) := by
 go_enter Try.func69, Try.ntmps69
 go_wp2_with (go_at_call 62; first | ((with_reducible refine (within_yes _ _ _ (by omega) (by omega) _).mono ?_); rintro e w' ⟨rfl, rfl⟩) | ((with_reducible refine (within_no _ _ _ (by omega) _).mono ?_); rintro e w' ⟨rfl, rfl⟩))
 refine (plain_any _ _).mono ?_
 rintro e w1 ⟨rfl, hg⟩
 have hb := gr_block hg (heap_alloc_new w (.cells (shp 0 0 zs) 65))
 have HB := Lib.hid hb
 have HG := Lib.hid (gr_trans ((Gr.refl w).alloc _ _) hg)
 clear hb hg
 go_wp2_with (refine wpList_store_row rfl 65 _ _ rfl w.heap.size (shp _ _ _) rfl rfl 65 (shp 0 0 zs) HB.out infoS rfl (shp_one _ _ _) ?_)
 exact bodyPost_ret (v := .agg (shp _ _ _)) (results_cell_row Try.results69 _ _ w.heap.size 65 _ (0, 0) _ rfl (setRow_block HB.out) Try.underlying65 rfl infoS) rfl ⟨rfl, gr_setRow HG.out (by omega) _⟩
theorem operator_2 (w : World) : Calls Try.prog 69 #[.int .i64 80] w (RES 1 0 ⟨#[108, 58, 105]⟩ w) := by
 go_enter Try.func69, Try.ntmps69
 go_wp2_with (go_at_call 62; first | ((with_reducible refine (within_yes _ _ _ (by omega) (by omega) _).mono ?_); rintro e w' ⟨rfl, rfl⟩) | ((with_reducible refine (within_no _ _ _ (by omega) _).mono ?_); rintro e w' ⟨rfl, rfl⟩))
 refine (plain_any _ _).mono ?_
 rintro e w1 ⟨rfl, hg⟩
 have hb := gr_block hg (heap_alloc_new w (.cells (shp 0 0 zs) 65))
 have HB := Lib.hid hb
 have HG := Lib.hid (gr_trans ((Gr.refl w).alloc _ _) hg)
 clear hb hg
 go_wp2_with (refine wpList_store_row rfl 65 _ _ rfl w.heap.size (shp _ _ _) rfl rfl 65 (shp 0 0 zs) HB.out infoS rfl (shp_one _ _ _) ?_)
 exact bodyPost_ret (v := .agg (shp _ _ _)) (results_cell_row Try.results69 _ _ w.heap.size 65 _ (0, 0) _ rfl (setRow_block HB.out) Try.underlying65 rfl infoS) rfl ⟨rfl, gr_setRow HG.out (by omega) _⟩
theorem operator_3 (n : Int) (h0 : 81 ≤ n) (h1 : n ≤ 90) (w : World) : Calls Try.prog 69 #[.int .i64 n] w (RES 1 0 ⟨#[108, 108, 58, 105]⟩ w) := by
 go_enter Try.func69, Try.ntmps69
 go_wp2_with (go_at_call 62; first | ((with_reducible refine (within_yes _ _ _ (by omega) (by omega) _).mono ?_); rintro e w' ⟨rfl, rfl⟩) | ((with_reducible refine (within_no _ _ _ (by omega) _).mono ?_); rintro e w' ⟨rfl, rfl⟩))
 refine (plain_any _ _).mono ?_
 rintro e w1 ⟨rfl, hg⟩
 have hb := gr_block hg (heap_alloc_new w (.cells (shp 0 0 zs) 65))
 have HB := Lib.hid hb
 have HG := Lib.hid (gr_trans ((Gr.refl w).alloc _ _) hg)
 clear hb hg
 go_wp2_with (refine wpList_store_row rfl 65 _ _ rfl w.heap.size (shp _ _ _) rfl rfl 65 (shp 0 0 zs) HB.out infoS rfl (shp_one _ _ _) ?_)
 exact bodyPost_ret (v := .agg (shp _ _ _)) (results_cell_row Try.results69 _ _ w.heap.size 65 _ (0, 0) _ rfl (setRow_block HB.out) Try.underlying65 rfl infoS) rfl ⟨rfl, gr_setRow HG.out (by omega) _⟩
theorem operator_4 (n : Int) (h0 : 91 ≤ n) (h1 : n ≤ 102) (w : World) : Calls Try.prog 69 #[.int .i64 n] w (RES 0 0 ⟨#[]⟩ w) := by
 go_enter Try.func69, Try.ntmps69
 go_wp2_with (go_at_call 62; first | ((with_reducible refine (within_yes _ _ _ (by omega) (by omega) _).mono ?_); rintro e w' ⟨rfl, rfl⟩) | ((with_reducible refine (within_no _ _ _ (by omega) _).mono ?_); rintro e w' ⟨rfl, rfl⟩))
 exact bodyPost_ret (v := .agg (shp _ _ _)) (by simp [results, Try.results69, go_sem, shp] <;> rfl) rfl ⟨rfl, (Gr.refl _).alloc _ _⟩
theorem operator_5 (n : Int) (h0 : 103 ≤ n) (h1 : n ≤ 105) (w : World) : Calls Try.prog 69 #[.int .i64 n] w (RES 1 0 ⟨#[105, 58, 105]⟩ w) := by
 go_enter Try.func69, Try.ntmps69
 go_wp2_with (go_at_call 62; first | ((with_reducible refine (within_yes _ _ _ (by omega) (by omega) _).mono ?_); rintro e w' ⟨rfl, rfl⟩) | ((with_reducible refine (within_no _ _ _ (by omega) _).mono ?_); rintro e w' ⟨rfl, rfl⟩))
 refine (plain_any _ _).mono ?_
 rintro e w1 ⟨rfl, hg⟩
 have hb := gr_block hg (heap_alloc_new w (.cells (shp 0 0 zs) 65))
 have HB := Lib.hid hb
 have HG := Lib.hid (gr_trans ((Gr.refl w).alloc _ _) hg)
 clear hb hg
 go_wp2_with (refine wpList_store_row rfl 65 _ _ rfl w.heap.size (shp _ _ _) rfl rfl 65 (shp 0 0 zs) HB.out infoS rfl (shp_one _ _ _) ?_)
 exact bodyPost_ret (v := .agg (shp _ _ _)) (results_cell_row Try.results69 _ _ w.heap.size 65 _ (0, 0) _ rfl (setRow_block HB.out) Try.underlying65 rfl infoS) rfl ⟨rfl, gr_setRow HG.out (by omega) _⟩
theorem operator_6 (n : Int) (h0 : 106 ≤ n) (h1 : n ≤ 120) (w : World) : Calls Try.prog 69 #[.int .i64 n] w (RES 1 0 ⟨#[105, 105, 58, 105]⟩ w) := by
 go_enter Try.func69, Try.ntmps69
 go_wp2_with (go_at_call 62; first | ((with_reducible refine (within_yes _ _ _ (by omega) (by omega) _).mono ?_); rintro e w' ⟨rfl, rfl⟩) | ((with_reducible refine (within_no _ _ _ (by omega) _).mono ?_); rintro e w' ⟨rfl, rfl⟩))
 refine (plain_any _ _).mono ?_
 rintro e w1 ⟨rfl, hg⟩
 have hb := gr_block hg (heap_alloc_new w (.cells (shp 0 0 zs) 65))
 have HB := Lib.hid hb
 have HG := Lib.hid (gr_trans ((Gr.refl w).alloc _ _) hg)
 clear hb hg
 go_wp2_with (refine wpList_store_row rfl 65 _ _ rfl w.heap.size (shp _ _ _) rfl rfl 65 (shp 0 0 zs) HB.out infoS rfl (shp_one _ _ _) ?_)
 exact bodyPost_ret (v := .agg (shp _ _ _)) (results_cell_row Try.results69 _ _ w.heap.size 65 _ (0, 0) _ rfl (setRow_block HB.out) Try.underlying65 rfl infoS) rfl ⟨rfl, gr_setRow HG.out (by omega) _⟩
theorem operator_7 (n : Int) (h0 : 121 ≤ n) (h1 : n ≤ 123) (w : World) : Calls Try.prog 69 #[.int .i64 n] w (RES 1 0 ⟨#[108, 58, 108]⟩ w) := by
 go_enter Try.func69, Try.ntmps69
 go_wp2_with (go_at_call 62; first | ((with_reducible refine (within_yes _ _ _ (by omega) (by omega) _).mono ?_); rintro e w' ⟨rfl, rfl⟩) | ((with_reducible refine (within_no _ _ _ (by omega) _).mono ?_); rintro e w' ⟨rfl, rfl⟩))
 refine (plain_any _ _).mono ?_
 rintro e w1 ⟨rfl, hg⟩
 have hb := gr_block hg (heap_alloc_new w (.cells (shp 0 0 zs) 65))
 have HB := Lib.hid hb
 have HG := Lib.hid (gr_trans ((Gr.refl w).alloc _ _) hg)
 clear hb hg
 go_wp2_with (refine wpList_store_row rfl 65 _ _ rfl w.heap.size (shp _ _ _) rfl rfl 65 (shp 0 0 zs) HB.out infoS rfl (shp_one _ _ _) ?_)
 exact bodyPost_ret (v := .agg (shp _ _ _)) (results_cell_row Try.results69 _ _ w.heap.size 65 _ (0, 0) _ rfl (setRow_block HB.out) Try.underlying65 rfl infoS) rfl ⟨rfl, gr_setRow HG.out (by omega) _⟩
theorem operator_8 (n : Int) (h0 : 124 ≤ n) (h1 : n ≤ 138) (w : World) : Calls Try.prog 69 #[.int .i64 n] w (RES 1 0 ⟨#[108, 108, 58, 108]⟩ w) := by
 go_enter Try.func69, Try.ntmps69
 go_wp2_with (go_at_call 62; first | ((with_reducible refine (within_yes _ _ _ (by omega) (by omega) _).mono ?_); rintro e w' ⟨rfl, rfl⟩) | ((with_reducible refine (within_no _ _ _ (by omega) _).mono ?_); rintro e w' ⟨rfl, rfl⟩))
 refine (plain_any _ _).mono ?_
 rintro e w1 ⟨rfl, hg⟩
 have hb := gr_block hg (heap_alloc_new w (.cells (shp 0 0 zs) 65))
 have HB := Lib.hid hb
 have HG := Lib.hid (gr_trans ((Gr.refl w).alloc _ _) hg)
 clear hb hg
 go_wp2_with (refine wpList_store_row rfl 65 _ _ rfl w.heap.size (shp _ _ _) rfl rfl 65 (shp 0 0 zs) HB.out infoS rfl (shp_one _ _ _) ?_)
 exact bodyPost_ret (v := .agg (shp _ _ _)) (results_cell_row Try.results69 _ _ w.heap.size 65 _ (0, 0) _ rfl (setRow_block HB.out) Try.underlying65 rfl infoS) rfl ⟨rfl, gr_setRow HG.out (by omega) _⟩
theorem operator_9 (n : Int) (h0 : 139 ≤ n) (h1 : n ≤ 166) (w : World) : Calls Try.prog 69 #[.int .i64 n] w (RES 0 0 ⟨#[]⟩ w) := by
 go_enter Try.func69, Try.ntmps69
 go_wp2_with (go_at_call 62; first | ((with_reducible refine (within_yes _ _ _ (by omega) (by omega) _).mono ?_); rintro e w' ⟨rfl, rfl⟩) | ((with_reducible refine (within_no _ _ _ (by omega) _).mono ?_); rintro e w' ⟨rfl, rfl⟩))
 exact bodyPost_ret (v := .agg (shp _ _ _)) (by simp [results, Try.results69, go_sem, shp] <;> rfl) rfl ⟨rfl, (Gr.refl _).alloc _ _⟩
theorem operator_10 (w : World) : Calls Try.prog 69 #[.int .i64 167] w (RES 1 0 ⟨#[108, 58, 105]⟩ w) := by
 go_enter Try.func69, Try.ntmps69
 go_wp2_with (go_at_call 62; first | ((with_reducible refine (within_yes _ _ _ (by omega) (by omega) _).mono ?_); rintro e w' ⟨rfl, rfl⟩) | ((with_reducible refine (within_no _ _ _ (by omega) _).mono ?_); rintro e w' ⟨rfl, rfl⟩))
 refine (plain_any _ _).mono ?_
 rintro e w1 ⟨rfl, hg⟩
 have hb := gr_block hg (heap_alloc_new w (.cells (shp 0 0 zs) 65))
 have HB := Lib.hid hb
 have HG := Lib.hid (gr_trans ((Gr.refl w).alloc _ _) hg)
 clear hb hg
 go_wp2_with (refine wpList_store_row rfl 65 _ _ rfl w.heap.size (shp _ _ _) rfl rfl 65 (shp 0 0 zs) HB.out infoS rfl (shp_one _ _ _) ?_)
 exact bodyPost_ret (v := .agg (shp _ _ _)) (results_cell_row Try.results69 _ _ w.heap.size 65 _ (0, 0) _ rfl (setRow_block HB.out) Try.underlying65 rfl infoS) rfl ⟨rfl, gr_setRow HG.out (by omega) _⟩
theorem operator_11 (n : Int) (h0 : 168 ≤ n) (h1 : n ≤ 171) (w : World) : Calls Try.prog 69 #[.int .i64 n] w (RES 0 0 ⟨#[]⟩ w) := by
 go_enter Try.func69, Try.ntmps69
 go_wp2_with (go_at_call 62; first | ((with_reducible refine (within_yes _ _ _ (by omega) (by omega) _).mono ?_); rintro e w' ⟨rfl, rfl⟩) | ((with_reducible refine (within_no _ _ _ (by omega) _).mono ?_); rintro e w' ⟨rfl, rfl⟩))
 exact bodyPost_ret (v := .agg (shp _ _ _)) (by simp [results, Try.results69, go_sem, shp] <;> rfl) rfl ⟨rfl, (Gr.refl _).alloc _ _⟩
theorem operator_12 (n : Int) (h0 : 172 ≤ n) (h1 : n ≤ 173) (w : World) : Calls Try.prog 69 #[.int .i64 n] w (RES 1 0 ⟨#[105, 58, 108]⟩ w) := by
 go_enter Try.func69, Try.ntmps69
 go_wp2_with (go_at_call 62; first | ((with_reducible refine (within_yes _ _ _ (by omega) (by omega) _).mono ?_); rintro e w' ⟨rfl, rfl⟩) | ((with_reducible refine (within_no _ _ _ (by omega) _).mono ?_); rintro e w' ⟨rfl, rfl⟩))
 refine (plain_any _ _).mono ?_
 rintro e w1 ⟨rfl, hg⟩
 have hb := gr_block hg (heap_alloc_new w (.cells (shp 0 0 zs) 65))
 have HB := Lib.hid hb
 have HG := Lib.hid (gr_trans ((Gr.refl w).alloc _ _) hg)
 clear hb hg
 go_wp2_with (refine wpList_store_row rfl 65 _ _ rfl w.heap.size (shp _ _ _) rfl rfl 65 (shp 0 0 zs) HB.out infoS rfl (shp_one _ _ _) ?_)
 exact bodyPost_ret (v := .agg (shp _ _ _)) (results_cell_row Try.results69 _ _ w.heap.size 65 _ (0, 0) _ rfl (setRow_block HB.out) Try.underlying65 rfl infoS) rfl ⟨rfl, gr_setRow HG.out (by omega) _⟩
theorem operator_13 (n : Int) (h0 : 174 ≤ n) (h1 : n ≤ 191) (w : World) : Calls Try.prog 69 #[.int .i64 n] w (RES 0 0 ⟨#[]⟩ w) := by
 go_enter Try.func69, Try.ntmps69
 go_wp2_with (go_at_call 62; first | ((with_reducible refine (within_yes _ _ _ (by omega) (by omega) _).mono ?_); rintro e w' ⟨rfl, rfl⟩) | ((with_reducible refine (within_no _ _ _ (by omega) _).mono ?_); rintro e w' ⟨rfl, rfl⟩))
 exact bodyPost_ret (v := .agg (shp _ _ _)) (by simp [results, Try.results69, go_sem, shp] <;> rfl) rfl ⟨rfl, (Gr.refl _).alloc _ _⟩
theorem operator_14 (n : Int) (h0 : 192 ≤ n) (h1 : n ≤ 193) (w : World) : Calls Try.prog 69 #[.int .i64 n] w (RES 1 0 ⟨#[105, 58, 105]⟩ w) := by
 go_enter Try.func69, Try.ntmps69
 go_wp2_with (go_at_call 62; first | ((with_reducible refine (within_yes _ _ _ (by omega) (by omega) _).mono ?_); rintro e w' ⟨rfl, rfl⟩) | ((with_reducible refine (within_no _ _ _ (by omega) _).mono ?_); rintro e w' ⟨rfl, rfl⟩))
 refine (plain_any _ _).mono ?_
 rintro e w1 ⟨rfl, hg⟩
 have hb := gr_block hg (heap_alloc_new w (.cells (shp 0 0 zs) 65))
 have HB := Lib.hid hb
 have HG := Lib.hid (gr_trans ((Gr.refl w).alloc _ _) hg)
 clear hb hg
 go_wp2_with (refine wpList_store_row rfl 65 _ _ rfl w.heap.size (shp _ _ _) rfl rfl 65 (shp 0 0 zs) HB.out infoS rfl (shp_one _ _ _) ?_)
 exact bodyPost_ret (v := .agg (shp _ _ _)) (results_cell_row Try.results69 _ _ w.heap.size 65 _ (0, 0) _ rfl (setRow_block HB.out) Try.underlying65 rfl infoS) rfl ⟨rfl, gr_setRow HG.out (by omega) _⟩
theorem operator_15 (n : Int) (h0 : 194 ≤ n) (h1 : n ≤ 196) (w : World) : Calls Try.prog 69 #[.int .i64 n] w (RES 1 0 ⟨#[108, 58, 108]⟩ w) := by
 go_enter Try.func69, Try.ntmps69
 go_wp2_with (go_at_call 62; first | ((with_reducible refine (within_yes _ _ _ (by omega) (by omega) _).mono ?_); rintro e w' ⟨rfl, rfl⟩) | ((with_reducible refine (within_no _ _ _ (by omega) _).mono ?_); rintro e w' ⟨rfl, rfl⟩))
 refine (plain_any _ _).mono ?_
 rintro e w1 ⟨rfl, hg⟩
 have hb := gr_block hg (heap_alloc_new w (.cells (shp 0 0 zs) 65))
 have HB := Lib.hid hb
 have HG := Lib.hid (gr_trans ((Gr.refl w).alloc _ _) hg)
 clear hb hg
 go_wp2_with (refine wpList_store_row rfl 65 _ _ rfl w.heap.size (shp _ _ _) rfl rfl 65 (shp 0 0 zs) HB.out infoS rfl (shp_one _ _ _) ?_)
 exact bodyPost_ret (v := .agg (shp _ _ _)) (results_cell_row Try.results69 _ _ w.heap.size 65 _ (0, 0) _ rfl (setRow_block HB.out) Try.underlying65 rfl infoS) rfl ⟨rfl, gr_setRow HG.out (by omega) _⟩
theorem operator_16 (n : Int) (h0 : 197 ≤ n) (w : World) : Calls Try.prog 69 #[.int .i64 n] w (RES 0 0 ⟨#[]⟩ w) := by
 go_enter Try.func69, Try.ntmps69
 go_wp2_with (go_at_call 62; first | ((with_reducible refine (within_yes _ _ _ (by omega) (by omega) _).mono ?_); rintro e w' ⟨rfl, rfl⟩) | ((with_reducible refine (within_no _ _ _ (by omega) _).mono ?_); rintro e w' ⟨rfl, rfl⟩))
 exact bodyPost_ret (v := .agg (shp _ _ _)) (by simp [results, Try.results69, go_sem, shp] <;> rfl) rfl ⟨rfl, (Gr.refl _).alloc _ _⟩
theorem control_0 (n : Int) (h1 : n ≤ -1) (w : World) : Calls Try.prog 70 #[.int .i64 n] w (RES 0 0 ⟨#[]⟩ w) := by
 go_enter Try.func70, Try.ntmps70
 go_wp2_with (go_at_call 62; first | ((with_reducible refine (within_yes _ _ _ (by omega) (by omega) _).mono ?_); rintro e w' ⟨rfl, rfl⟩) | ((with_reducible refine (within_no _ _ _ (by omega) _).mono ?_); rintro e w' ⟨rfl, rfl⟩))
 exact bodyPost_ret (v := .agg (shp _ _ _)) (by simp [results, Try.results70, go_sem, shp] <;> rfl) rfl ⟨rfl, (Gr.refl _).alloc _ _⟩
theorem control_1 (w : World) : Calls Try.prog 70 #[.int .i64 0] w (RES 1 0 ⟨#[]⟩ w) := by
 go_enter Try.func70, Try.ntmps70
 go_wp2_with (go_at_call 62; first | ((with_reducible refine (within_yes _ _ _ (by omega) (by omega) _).mono ?_); rintro e w' ⟨rfl, rfl⟩) | ((with_reducible refine (within_no _ _ _ (by omega) _).mono ?_); rintro e w' ⟨rfl, rfl⟩))
 refine (plain_any _ _).mono ?_
 rintro e w1 ⟨rfl, hg⟩
 have hb := gr_block hg (heap_alloc_new w (.cells (shp 0 0 zs) 65))
 have HB := Lib.hid hb
 have HG := Lib.hid (gr_trans ((Gr.refl w).alloc _ _) hg)
 clear hb hg
 go_wp2_with (refine wpList_store_row rfl 65 _ _ rfl w.heap.size (shp _ _ _) rfl rfl 65 (shp 0 0 zs) HB.out infoS rfl (shp_one _ _ _) ?_)
 exact bodyPost_ret (v := .agg (shp _ _ _)) (results_cell_row Try.results70 _ _ w.heap.size 65 _ (0, 0) _ rfl (setRow_block HB.out) Try.underlying65 rfl infoS) rfl ⟨rfl, gr_setRow HG.out (by omega) _⟩
theorem control_2 (w : World) : Calls Try.prog 70 #[.int .i64 1] w (RES 1 0 ⟨#[58]⟩ w) := by
 go_enter Try.func70, Try.ntmps70
 go_wp2_with (go_at_call 62; first | ((with_reducible refine (within_yes _ _ _ (by omega) (by omega) _).mono ?_); rintro e w' ⟨rfl, rfl⟩) | ((with_reducible refine (within_no _ _ _ (by omega) _).mono ?_); rintro e w' ⟨rfl, rfl⟩))
 refine (plain_any _ _).mono ?_
 rintro e w1 ⟨rfl, hg⟩
 have hb := gr_block hg (heap_alloc_new w (.cells (shp 0 0 zs) 65))
 have HB := Lib.hid hb
 have HG := Lib.hid (gr_trans ((Gr.refl w).alloc _ _) hg)
 clear hb hg
 go_wp2_with (refine wpList_store_row rfl 65 _ _ rfl w.heap.size (shp _ _ _) rfl rfl 65 (shp 0 0 zs) HB.out infoS rfl (shp_one _ _ _) ?_)
 exact bodyPost_ret (v := .agg (shp _ _ _)) (results_cell_row Try.results70 _ _ w.heap.size 65 _ (0, 0) _ rfl (setRow_block HB.out) Try.underlying65 rfl infoS) rfl ⟨rfl, gr_setRow HG.out (by omega) _⟩
theorem control_3 (w : World) : Calls Try.prog 70 #[.int .i64 2] w (RES 2 0 ⟨#[]⟩ w) := by
 go_enter Try.func70, Try.ntmps70
 go_wp2_with (go_at_call 62; first | ((with_reducible refine (within_yes _ _ _ (by omega) (by omega) _).mono ?_); rintro e w' ⟨rfl, rfl⟩) | ((with_reducible refine (within_no _ _ _ (by omega) _).mono ?_); rintro e w' ⟨rfl, rfl⟩))
 exact bodyPost_ret (v := .agg (shp _ _ _)) (by simp [results, Try.results70, go_sem, shp] <;> rfl) rfl ⟨rfl, (Gr.refl _).alloc _ _⟩
theorem control_4 (w : World) : Calls Try.prog 70 #[.int .i64 3] w (RES 2 0 ⟨#[]⟩ w) := by
 go_enter Try.func70, Try.ntmps70
 go_wp2_with (go_at_call 62; first | ((with_reducible refine (within_yes _ _ _ (by omega) (by omega) _).mono ?_); rintro e w' ⟨rfl, rfl⟩) | ((with_reducible refine (within_no _ _ _ (by omega) _).mono ?_); rintro e w' ⟨rfl, rfl⟩))
 exact bodyPost_ret (v := .agg (shp _ _ _)) (by simp [results, Try.results70, go_sem, shp] <;> rfl) rfl ⟨rfl, (Gr.refl _).alloc _ _⟩
theorem control_5 (w : World) : Calls Try.prog 70 #[.int .i64 4] w (RES 2 0 ⟨#[]⟩ w) := by
 go_enter Try.func70, Try.ntmps70
 go_wp2_with (go_at_call 62; first | ((with_reducible refine (within_yes _ _ _ (by omega) (by omega) _).mono ?_); rintro e w' ⟨rfl, rfl⟩) | ((with_reducible refine (within_no _ _ _ (by omega) _).mono ?_); rintro e w' ⟨rfl, rfl⟩))
 exact bodyPost_ret (v := .agg (shp _ _ _)) (by simp [results, Try.results70, go_sem, shp] <;> rfl) rfl ⟨rfl, (Gr.refl _).alloc _ _⟩
theorem control_6 (w : World) : Calls Try.prog 70 #[.int .i64 5] w (RES 1 0 ⟨#[]⟩ w) := by
 go_enter Try.func70, Try.ntmps70
 go_wp2_with (go_at_call 62; first | ((with_reducible refine (within_yes _ _ _ (by omega) (by omega) _).mono ?_); rintro e w' ⟨rfl, rfl⟩) | ((with_reducible refine (within_no _ _ _ (by omega) _).mono ?_); rintro e w' ⟨rfl, rfl⟩))
 refine (plain_any _ _).mono ?_
 rintro e w1 ⟨rfl, hg⟩
 have hb := gr_block hg (heap_alloc_new w (.cells (shp 0 0 zs) 65))
 have HB := Lib.hid hb
 have HG := Lib.hid (gr_trans ((Gr.refl w).alloc _ _) hg)
 clear hb hg
 go_wp2_with (refine wpList_store_row rfl 65 _ _ rfl w.heap.size (shp _ _ _) rfl rfl 65 (shp 0 0 zs) HB.out infoS rfl (shp_one _ _ _) ?_)
 exact bodyPost_ret (v := .agg (shp _ _ _)) (results_cell_row Try.results70 _ _ w.heap.size 65 _ (0, 0) _ rfl (setRow_block HB.out) Try.underlying65 rfl infoS) rfl ⟨rfl, gr_setRow HG.out (by omega) _⟩
theorem control_7 (n : Int) (h0 : 6 ≤ n) (h1 : n ≤ 10) (w : World) : Calls Try.prog 70 #[.int .i64 n] w (RES 0 0 ⟨#[]⟩ w) := by
 go_enter Try.func70, Try.ntmps70
 go_wp2_with (go_at_call 62; first | ((with_reducible refine (within_yes _ _ _ (by omega) (by omega) _).mono ?_); rintro e w' ⟨rfl, rfl⟩) | ((with_reducible refine (within_no _ _ _ (by omega) _).mono ?_); rintro e w' ⟨rfl, rfl⟩))
 exact bodyPost_ret (v := .agg (shp _ _ _)) (by simp [results, Try.results70, go_sem, shp] <;> rfl) rfl ⟨rfl, (Gr.refl _).alloc _ _⟩
theorem control_8 (w : World) : Calls Try.prog 70 #[.int .i64 11] w (RES 1 0 ⟨#[]⟩ w) := by
 go_enter Try.func70, Try.ntmps70
 go_wp2_with (go_at_call 62; first | ((with_reducible refine (within_yes _ _ _ (by omega) (by omega) _).mono ?_); rintro e w' ⟨rfl, rfl⟩) | ((with_reducible refine (within_no _ _ _ (by omega) _).mono ?_); rintro e w' ⟨rfl, rfl⟩))
 refine (plain_any _ _).mono ?_
 rintro e w1 ⟨rfl, hg⟩
 have hb := gr_block hg (heap_alloc_new w (.cells (shp 0 0 zs) 65))
 have HB := Lib.hid hb
 have HG := Lib.hid (gr_trans ((Gr.refl w).alloc _ _) hg)
 clear hb hg
 go_wp2_with (refine wpList_store_row rfl 65 _ _ rfl w.heap.size (shp _ _ _) rfl rfl 65 (shp 0 0 zs) HB.out infoS rfl (shp_one _ _ _) ?_)
 exact bodyPost_ret (v := .agg (shp _ _ _)) (results_cell_row Try.results70 _ _ w.heap.size 65 _ (0, 0) _ rfl (setRow_block HB.out) Try.underlying65 rfl infoS) rfl ⟨rfl, gr_setRow HG.out (by omega) _⟩
theorem control_9 (w : World) : Calls Try.prog 70 #[.int .i64 12] w (RES 3 0 ⟨#[]⟩ w) := by
 go_enter Try.func70, Try.ntmps70
 go_wp2_with (go_at_call 62; first | ((with_reducible refine (within_yes _ _ _ (by omega) (by omega) _).mono ?_); rintro e w' ⟨rfl, rfl⟩) | ((with_reducible refine (within_no _ _ _ (by omega) _).mono ?_); rintro e w' ⟨rfl, rfl⟩))
 exact bodyPost_ret (v := .agg (shp _ _ _)) (by simp [results, Try.results70, go_sem, shp] <;> rfl) rfl ⟨rfl, (Gr.refl _).alloc _ _⟩
theorem control_10 (w : World) : Calls Try.prog 70 #[.int .i64 13] w (RES 3 0 ⟨#[]⟩ w) := by
 go_enter Try.func70, Try.ntmps70
 go_wp2_with (go_at_call 62; first | ((with_reducible refine (within_yes _ _ _ (by omega) (by omega) _).mono ?_); rintro e w' ⟨rfl, rfl⟩) | ((with_reducible refine (within_no _ _ _ (by omega) _).mono ?_); rintro e w' ⟨rfl, rfl⟩))
 exact bodyPost_ret (v := .agg (shp _ _ _)) (by simp [results, Try.results70, go_sem, shp] <;> rfl) rfl ⟨rfl, (Gr.refl _).alloc _ _⟩
theorem control_11 (w : World) : Calls Try.prog 70 #[.int .i64 14] w (RES 4 0 ⟨#[]⟩ w) := by
 go_enter Try.func70, Try.ntmps70
 go_wp2_with (go_at_call 62; first | ((with_reducible refine (within_yes _ _ _ (by omega) (by omega) _).mono ?_); rintro e w' ⟨rfl, rfl⟩) | ((with_reducible refine (within_no _ _ _ (by omega) _).mono ?_); rintro e w' ⟨rfl, rfl⟩))
 exact bodyPost_ret (v := .agg (shp _ _ _)) (by simp [results, Try.results70, go_sem, shp] <;> rfl) rfl ⟨rfl, (Gr.refl _).alloc _ _⟩
theorem control_12 (w : World) : Calls Try.prog 70 #[.int .i64 15] w (RES 1 0 ⟨#[]⟩ w) := by
 go_enter Try.func70, Try.ntmps70
 go_wp2_with (go_at_call 62; first | ((with_reducible refine (within_yes _ _ _ (by omega) (by omega) _).mono ?_); rintro e w' ⟨rfl, rfl⟩) | ((with_reducible refine (within_no _ _ _ (by omega) _).mono ?_); rintro e w' ⟨rfl, rfl⟩))
 refine (plain_any _ _).mono ?_
 rintro e w1 ⟨rfl, hg⟩
 have hb := gr_block hg (heap_alloc_new w (.cells (shp 0 0 zs) 65))
 have HB := Lib.hid hb
 have HG := Lib.hid (gr_trans ((Gr.refl w).alloc _ _) hg)
 clear hb hg
 go_wp2_with (refine wpList_store_row rfl 65 _ _ rfl w.heap.size (shp _ _ _) rfl rfl 65 (shp 0 0 zs) HB.out infoS rfl (shp_one _ _ _) ?_)
 exact bodyPost_ret (v := .agg (shp _ _ _)) (results_cell_row Try.results70 _ _ w.heap.size 65 _ (0, 0) _ rfl (setRow_block HB.out) Try.underlying65 rfl infoS) rfl ⟨rfl, gr_setRow HG.out (by omega) _⟩
theorem control_13 (w : World) : Calls Try.prog 70 #[.int .i64 16] w (RES 5 0 ⟨#[]⟩ w) := by
 go_enter Try.func70, Try.ntmps70
 go_wp2_with (go_at_call 62; first | ((with_reducible refine (within_yes _ _ _ (by omega) (by omega) _).mono ?_); rintro e w' ⟨rfl, rfl⟩) | ((with_reducible refine (within_no _ _ _ (by omega) _).mono ?_); rintro e w' ⟨rfl, rfl⟩))
 exact bodyPost_ret (v := .agg (shp _ _ _)) (by simp [results, Try.results70, go_sem, shp] <;> rfl) rfl ⟨rfl, (Gr.refl _).alloc _ _⟩
theorem control_14 (w : World) : Calls Try.prog 70 #[.int .i64 17] w (RES 6 0 ⟨#[]⟩ w) := by
 go_enter Try.func70, Try.ntmps70
 go_wp2_with (go_at_call 62; first | ((with_reducible refine (within_yes _ _ _ (by omega) (by omega) _).mono ?_); rintro e w' ⟨rfl, rfl⟩) | ((with_reducible refine (within_no _ _ _ (by omega) _).mono ?_); rintro e w' ⟨rfl, rfl⟩))
 exact bodyPost_ret (v := .agg (shp _ _ _)) (by simp [results, Try.results70, go_sem, shp] <;> rfl) rfl ⟨rfl, (Gr.refl _).alloc _ _⟩
theorem control_15 (n : Int) (h0 : 18 ≤ n) (h1 : n ≤ 25) (w : World) : Calls Try.prog 70 #[.int .i64 n] w (RES 0 0 ⟨#[]⟩ w) := by
 go_enter Try.func70, Try.ntmps70
 go_wp2_with (go_at_call 62; first | ((with_reducible refine (within_yes _ _ _ (by omega) (by omega) _).mono ?_); rintro e w' ⟨rfl, rfl⟩) | ((with_reducible refine (within_no _ _ _ (by omega) _).mono ?_); rintro e w' ⟨rfl, rfl⟩))
 exact bodyPost_ret (v := .agg (shp _ _ _)) (by simp [results, Try.results70, go_sem, shp] <;> rfl) rfl ⟨rfl, (Gr.refl _).alloc _ _⟩
theorem control_16 (w : World) : Calls Try.prog 70 #[.int .i64 26] w (RES 1 0 ⟨#[]⟩ w) := by
 go_enter Try.func70, Try.ntmps70
 go_wp2_with (go_at_call 62; first | ((with_reducible refine (within_yes _ _ _ (by omega) (by omega) _).mono ?_); rintro e w' ⟨rfl, rfl⟩) | ((with_reducible refine (within_no _ _ _ (by omega) _).mono ?_); rintro e w' ⟨rfl, rfl⟩))
 refine (plain_any _ _).mono ?_
 rintro e w1 ⟨rfl, hg⟩
 have hb := gr_block hg (heap_alloc_new w (.cells (shp 0 0 zs) 65))
 have HB := Lib.hid hb
 have HG := Lib.hid (gr_trans ((Gr.refl w).alloc _ _) hg)
 clear hb hg
 go_wp2_with (refine wpList_store_row rfl 65 _ _ rfl w.heap.size (shp _ _ _) rfl rfl 65 (shp 0 0 zs) HB.out infoS rfl (shp_one _ _ _) ?_)
 exact bodyPost_ret (v := .agg (shp _ _ _)) (results_cell_row Try.results70 _ _ w.heap.size 65 _ (0, 0) _ rfl (setRow_block HB.out) Try.underlying65 rfl infoS) rfl ⟨rfl, gr_setRow HG.out (by omega) _⟩
theorem control_17 (w : World) : Calls Try.prog 70 #[.int .i64 27] w (RES 1 0 ⟨#[]⟩ w) := by
 go_enter Try.func70, Try.ntmps70
 go_wp2_with (go_at_call 62; first | ((with_reducible refine (within_yes _ _ _ (by omega) (by omega) _).mono ?_); rintro e w' ⟨rfl, rfl⟩) | ((with_reducible refine (within_no _ _ _ (by omega) _).mono ?_); rintro e w' ⟨rfl, rfl⟩))
 refine (plain_any _ _).mono ?_
 rintro e w1 ⟨rfl, hg⟩
 have hb := gr_block hg (heap_alloc_new w (.cells (shp 0 0 zs) 65))
 have HB := Lib.hid hb
 have HG := Lib.hid (gr_trans ((Gr.refl w).alloc _ _) hg)
 clear hb hg
 go_wp2_with (refine wpList_store_row rfl 65 _ _ rfl w.heap.size (shp _ _ _) rfl rfl 65 (shp 0 0 zs) HB.out infoS rfl (shp_one _ _ _) ?_)
 exact bodyPost_ret (v := .agg (shp _ _ _)) (results_cell_row Try.results70 _ _ w.heap.size 65 _ (0, 0) _ rfl (setRow_block HB.out) Try.underlying65 rfl infoS) rfl ⟨rfl, gr_setRow HG.out (by omega) _⟩
theorem control_18 (n : Int) (h0 : 28 ≤ n) (h1 : n ≤ 31) (w : World) : Calls Try.prog 70 #[.int .i64 n] w (RES 0 0 ⟨#[]⟩ w) := by
 go_enter Try.func70, Try.ntmps70
 go_wp2_with (go_at_call 62; first | ((with_reducible refine (within_yes _ _ _ (by omega) (by omega) _).mono ?_); rintro e w' ⟨rfl, rfl⟩) | ((with_reducible refine (within_no _ _ _ (by omega) _).mono ?_); rintro e w' ⟨rfl, rfl⟩))
 exact bodyPost_ret (v := .agg (shp _ _ _)) (by simp [results, Try.results70, go_sem, shp] <;> rfl) rfl ⟨rfl, (Gr.refl _).alloc _ _⟩
theorem control_19 (w : World) : Calls Try.prog 70 #[.int .i64 32] w (RES 5 0 ⟨#[]⟩ w) := by
 go_enter Try.func70, Try.ntmps70
 go_wp2_with (go_at_call 62; first | ((with_reducible refine (within_yes _ _ _ (by omega) (by omega) _).mono ?_); rintro e w' ⟨rfl, rfl⟩) | ((with_reducible refine (within_no _ _ _ (by omega) _).mono ?_); rintro e w' ⟨rfl, rfl⟩))
 exact bodyPost_ret (v := .agg (shp _ _ _)) (by simp [results, Try.results70, go_sem, shp] <;> rfl) rfl ⟨rfl, (Gr.refl _).alloc _ _⟩
theorem control_20 (w : World) : Calls Try.prog 70 #[.int .i64 33] w (RES 5 0 ⟨#[]⟩ w) := by
 go_enter Try.func70, Try.ntmps70
 go_wp2_with (go_at_call 62; first | ((with_reducible refine (within_yes _ _ _ (by omega) (by omega) _).mono ?_); rintro e w' ⟨rfl, rfl⟩) | ((with_reducible refine (within_no _ _ _ (by omega) _).mono ?_); rintro e w' ⟨rfl, rfl⟩))
 exact bodyPost_ret (v := .agg (shp _ _ _)) (by simp [results, Try.results70, go_sem, shp] <;> rfl) rfl ⟨rfl, (Gr.refl _).alloc _ _⟩
theorem control_21 (w : World) : Calls Try.prog 70 #[.int .i64 34] w (RES 5 0 ⟨#[]⟩ w) := by
 go_enter Try.func70, Try.ntmps70
 go_wp2_with (go_at_call 62; first | ((with_reducible refine (within_yes _ _ _ (by omega) (by omega) _).mono ?_); rintro e w' ⟨rfl, rfl⟩) | ((with_reducible refine (within_no _ _ _ (by omega) _).mono ?_); rintro e w' ⟨rfl, rfl⟩))
 exact bodyPost_ret (v := .agg (shp _ _ _)) (by simp [results, Try.results70, go_sem, shp] <;> rfl) rfl ⟨rfl, (Gr.refl _).alloc _ _⟩
theorem control_22 (w : World) : Calls Try.prog 70 #[.int .i64 35] w (RES 5 0 ⟨#[]⟩ w) := by
 go_enter Try.func70, Try.ntmps70
 go_wp2_with (go_at_call 62; first | ((with_reducible refine (within_yes _ _ _ (by omega) (by omega) _).mono ?_); rintro e w' ⟨rfl, rfl⟩) | ((with_reducible refine (within_no _ _ _ (by omega) _).mono ?_); rintro e w' ⟨rfl, rfl⟩))
 exact bodyPost_ret (v := .agg (shp _ _ _)) (by simp [results, Try.results70, go_sem, shp] <;> rfl) rfl ⟨rfl, (Gr.refl _).alloc _ _⟩
theorem control_23 (w : World) : Calls Try.prog 70 #[.int .i64 36] w (RES 5 0 ⟨#[]⟩ w) := by
 go_enter Try.func70, Try.ntmps70
 go_wp2_with (go_at_call 62; first | ((with_reducible refine (within_yes _ _ _ (by omega) (by omega) _).mono ?_); rintro e w' ⟨rfl, rfl⟩) | ((with_reducible refine (within_no _ _ _ (by omega) _).mono ?_); rintro e w' ⟨rfl, rfl⟩))
 exact bodyPost_ret (v := .agg (shp _ _ _)) (by simp [results, Try.results70, go_sem, shp] <;> rfl) rfl ⟨rfl, (Gr.refl _).alloc _ _⟩
theorem control_24 (n : Int) (h0 : 37 ≤ n) (h1 : n ≤ 39) (w : World) : Calls Try.prog 70 #[.int .i64 n] w (RES 0 0 ⟨#[]⟩ w) := by
 go_enter Try.func70, Try.ntmps70
 go_wp2_with (go_at_call 62; first | ((with_reducible refine (within_yes _ _ _ (by omega) (by omega) _).mono ?_); rintro e w' ⟨rfl, rfl⟩) | ((with_reducible refine (within_no _ _ _ (by omega) _).mono ?_); rintro e w' ⟨rfl, rfl⟩))
 exact bodyPost_ret (v := .agg (shp _ _ _)) (by simp [results, Try.results70, go_sem, shp] <;> rfl) rfl ⟨rfl, (Gr.refl _).alloc _ _⟩
theorem control_25 (n : Int) (h0 : 67 ≤ n) (h1 : n ≤ 68) (w : World) : Calls Try.prog 70 #[.int .i64 n] w (RES 0 0 ⟨#[]⟩ w) := by
 go_enter Try.func70, Try.ntmps70
 go_wp2_with (go_at_call 62; first | ((with_reducible refine (within_yes _ _ _ (by omega) (by omega) _).mono ?_); rintro e w' ⟨rfl, rfl⟩) | ((with_reducible refine (within_no _ _ _ (by omega) _).mono ?_); rintro e w' ⟨rfl, rfl⟩))
 exact bodyPost_ret (v := .agg (shp _ _ _)) (by simp [results, Try.results70, go_sem, shp] <;> rfl) rfl ⟨rfl, (Gr.refl _).alloc _ _⟩
theorem top_access0 (n f l : Int) (s : ByteArray) (_h0 : 40 ≤ n) (_h1 : n ≤ 62) (h : ∀ w, Calls Try.prog 68 #[.int .i64 n] w (RES f l s w)) (w : World) : Calls Try.prog 28 #[.int .i64 n] w (RES f l s w) := by
 have H := Lib.hid h
 clear h
 go_enter Try.func28, Try.ntmps28
 go_wp2_with (go_at_call 62; first | ((with_reducible refine (within_yes _ _ _ (by omega) (by omega) _).mono ?_); rintro e w' ⟨rfl, rfl⟩) | ((with_reducible refine (within_no _ _ _ (by omega) _).mono ?_); rintro e w' ⟨rfl, rfl⟩))
 refine (H.out _).mono ?_
 rintro e w1 ⟨rfl, hg⟩
 have hb := gr_block hg (heap_alloc_new w (.cells (shp 0 0 zs) 65))
 have HB := Lib.hid hb
 have HG := Lib.hid (gr_trans ((Gr.refl w).alloc _ _) hg)
 clear hb hg
 go_wp2_with (refine wpList_store_row rfl 65 _ _ rfl w.heap.size (shp _ _ _) rfl rfl 65 (shp 0 0 zs) HB.out infoS rfl (shp_one _ _ _) ?_)
 exact bodyPost_ret (v := .agg (shp _ _ _)) (results_cell_row Try.results28 _ _ w.heap.size 65 _ (0, 0) _ rfl (setRow_block HB.out) Try.underlying65 rfl infoS) rfl ⟨rfl, gr_setRow HG.out (by omega) _⟩
theorem top_operator0 (n f l : Int) (s : ByteArray) (_h0 : 69 ≤ n) (h : ∀ w, Calls Try.prog 69 #[.int .i64 n] w (RES f l s w)) (w : World) : Calls Try.prog 28 #[.int .i64 n] w (RES f l s w) := by
 have H := Lib.hid h
 clear h
 go_enter Try.func28, Try.ntmps28
 go_wp2_with (go_at_call 62; first | ((with_reducible refine (within_yes _ _ _ (by omega) (by omega) _).mono ?_); rintro e w' ⟨rfl, rfl⟩) | ((with_reducible refine (within_no _ _ _ (by omega) _).mono ?_); rintro e w' ⟨rfl, rfl⟩))
 refine (H.out _).mono ?_
 rintro e w1 ⟨rfl, hg⟩
 have hb := gr_block hg (heap_alloc_new w (.cells (shp 0 0 zs) 65))
 have HB := Lib.hid hb
 have HG := Lib.hid (gr_trans ((Gr.refl w).alloc _ _) hg)
 clear hb hg
 go_wp2_with (refine wpList_store_row rfl 65 _ _ rfl w.heap.size (shp _ _ _) rfl rfl 65 (shp 0 0 zs) HB.out infoS rfl (shp_one _ _ _) ?_)
 exact bodyPost_ret (v := .agg (shp _ _ _)) (results_cell_row Try.results28 _ _ w.heap.size 65 _ (0, 0) _ rfl (setRow_block HB.out) Try.underlying65 rfl infoS) rfl ⟨rfl, gr_setRow HG.out (by omega) _⟩
theorem top_control0 (n f l : Int) (s : ByteArray) (_h1 : n ≤ 39) (h : ∀ w, Calls Try.prog 70 #[.int .i64 n] w (RES f l s w)) (w : World) : Calls Try.prog 28 #[.int .i64 n] w (RES f l s w) := by
 have H := Lib.hid h
 clear h
 go_enter Try.func28, Try.ntmps28
 go_wp2_with (go_at_call 62; first | ((with_reducible refine (within_yes _ _ _ (by omega) (by omega) _).mono ?_); rintro e w' ⟨rfl, rfl⟩) | ((with_reducible refine (within_no _ _ _ (by omega) _).mono ?_); rintro e w' ⟨rfl, rfl⟩))
 refine (H.out _).mono ?_
 rintro e w1 ⟨rfl, hg⟩
 have hb := gr_block hg (heap_alloc_new w (.cells (shp 0 0 zs) 65))
 have HB := Lib.hid hb
 have HG := Lib.hid (gr_trans ((Gr.refl w).alloc _ _) hg)
 clear hb hg
 go_wp2_with (refine wpList_store_row rfl 65 _ _ rfl w.heap.size (shp _ _ _) rfl rfl 65 (shp 0 0 zs) HB.out infoS rfl (shp_one _ _ _) ?_)
 exact bodyPost_ret (v := .agg (shp _ _ _)) (results_cell_row Try.results28 _ _ w.heap.size 65 _ (0, 0) _ rfl (setRow_block HB.out) Try.underlying65 rfl infoS) rfl ⟨rfl, gr_setRow HG.out (by omega) _⟩
theorem top_control1 (n f l : Int) (s : ByteArray) (_h0 : 67 ≤ n) (_h1 : n ≤ 68) (h : ∀ w, Calls Try.prog 70 #[.int .i64 n] w (RES f l s w)) (w : World) : Calls Try.prog 28 #[.int .i64 n] w (RES f l s w) := by
 have H := Lib.hid h
 clear h
 go_enter Try.func28, Try.ntmps28
 go_wp2_with (go_at_call 62; first | ((with_reducible refine (within_yes _ _ _ (by omega) (by omega) _).mono ?_); rintro e w' ⟨rfl, rfl⟩) | ((with_reducible refine (within_no _ _ _ (by omega) _).mono ?_); rintro e w' ⟨rfl, rfl⟩))
 refine (H.out _).mono ?_
 rintro e w1 ⟨rfl, hg⟩
 have hb := gr_block hg (heap_alloc_new w (.cells (shp 0 0 zs) 65))
 have HB := Lib.hid hb
 have HG := Lib.hid (gr_trans ((Gr.refl w).alloc _ _) hg)
 clear hb hg
 go_wp2_with (refine wpList_store_row rfl 65 _ _ rfl w.heap.size (shp _ _ _) rfl rfl 65 (shp 0 0 zs) HB.out infoS rfl (shp_one _ _ _) ?_)
 exact bodyPost_ret (v := .agg (shp _ _ _)) (results_cell_row Try.results28 _ _ w.heap.size 65 _ (0, 0) _ rfl (setRow_block HB.out) Try.underlying65 rfl infoS) rfl ⟨rfl, gr_setRow HG.out (by omega) _⟩
theorem top_63 (w : World) : Calls Try.prog 28 #[.int .i64 63] w (RES 14 0 ⟨#[58, 105]⟩ w) := by
 go_enter Try.func28, Try.ntmps28
 go_wp2_with (go_at_call 62; first | ((with_reducible refine (within_yes _ _ _ (by omega) (by omega) _).mono ?_); rintro e w' ⟨rfl, rfl⟩) | ((with_reducible refine (within_no _ _ _ (by omega) _).mono ?_); rintro e w' ⟨rfl, rfl⟩))
 exact bodyPost_ret (v := .agg (shp _ _ _)) (by simp [results, Try.results28, go_sem, shp] <;> rfl) rfl ⟨rfl, (Gr.refl _).alloc _ _⟩
theorem top_64 (w : World) : Calls Try.prog 28 #[.int .i64 64] w (RES 14 0 ⟨#[105, 58, 105]⟩ w) := by
 go_enter Try.func28, Try.ntmps28
 go_wp2_with (go_at_call 62; first | ((with_reducible refine (within_yes _ _ _ (by omega) (by omega) _).mono ?_); rintro e w' ⟨rfl, rfl⟩) | ((with_reducible refine (within_no _ _ _ (by omega) _).mono ?_); rintro e w' ⟨rfl, rfl⟩))
 exact bodyPost_ret (v := .agg (shp _ _ _)) (by simp [results, Try.results28, go_sem, shp] <;> rfl) rfl ⟨rfl, (Gr.refl _).alloc _ _⟩
theorem top_65 (w : World) : Calls Try.prog 28 #[.int .i64 65] w (RES 9 0 ⟨#[58, 105]⟩ w) := by
 go_enter Try.func28, Try.ntmps28
 go_wp2_with (go_at_call 62; first | ((with_reducible refine (within_yes _ _ _ (by omega) (by omega) _).mono ?_); rintro e w' ⟨rfl, rfl⟩) | ((with_reducible refine (within_no _ _ _ (by omega) _).mono ?_); rintro e w' ⟨rfl, rfl⟩))
 exact bodyPost_ret (v := .agg (shp _ _ _)) (by simp [results, Try.results28, go_sem, shp] <;> rfl) rfl ⟨rfl, (Gr.refl _).alloc _ _⟩
theorem top_66 (w : World) : Calls Try.prog 28 #[.int .i64 66] w (RES 10 0 ⟨#[58, 108]⟩ w) := by
 go_enter Try.func28, Try.ntmps28
 go_wp2_with (go_at_call 62; first | ((with_reducible refine (within_yes _ _ _ (by omega) (by omega) _).mono ?_); rintro e w' ⟨rfl, rfl⟩) | ((with_reducible refine (within_no _ _ _ (by omega) _).mono ?_); rintro e w' ⟨rfl, rfl⟩))
 exact bodyPost_ret (v := .agg (shp _ _ _)) (by simp [results, Try.results28, go_sem, shp] <;> rfl) rfl ⟨rfl, (Gr.refl _).alloc _ _⟩
end Ins
end Go.Proofs.Ytjoalcaooccbiaa
