/-
  Texts of this seat, joined: InsSh, InsTy, NetTail, BuildS. Each says what it proves.
-/
import Derived.Test.YtebkabidojipoaaMe3
/- InsSh -/
namespace Go.Proofs.Ytebkabidojipoaa
open Go.RowKit
namespace Ins
def shp (f l : Int) (s : ByteArray) : Array Value := #[.int .i64 f, .int .i64 l, .string s]
def RES (f l : Int) (s : ByteArray) (w : World) (e : Ending) (w' : World) : Prop := e = .returned (.agg (shp f l s)) ∧ Gr w w'
theorem infoS : (Try.prog.info? 77).map (·.size) = some 3 := by kernel_rfl
theorem shp_one (f l : Int) (s : ByteArray) : (shp f l s).all (·.oneCell') = true := by kernel_rfl
def zs : ByteArray := { data := #[] }
theorem within_yes (n a b : Int) (h0 : a ≤ n) (h1 : n ≤ b) (w : World) : Calls Try.prog 56 #[.int .i64 n, .int .i64 a, .int .i64 b] w fun e w' => e = .returned (.bool true) ∧ w = w' := by
  go_enter Try.func56, Try.ntmps56
  go_wp2
  go_ret
  exact ⟨rfl, rfl⟩
theorem within_no (n a b : Int) (h : n < a ∨ b < n) (w : World) : Calls Try.prog 56 #[.int .i64 n, .int .i64 a, .int .i64 b] w fun e w' => e = .returned (.bool false) ∧ w = w' := by
  by_cases h0 : a ≤ n
  · have h1 : decide (n ≤ b) = false := decide_eq_false (by omega)
    clear h
    go_enter Try.func56, Try.ntmps56
    go_wp2
    go_ret
    exact ⟨rfl, rfl⟩
  · clear h
    go_enter Try.func56, Try.ntmps56
    go_wp2
    go_ret
    exact ⟨rfl, rfl⟩
theorem plain_any (s : ByteArray) (w : World) : Calls Try.prog 82 #[.string s] w (RES 1 0 s w) := by
  go_enter Try.func82, Try.ntmps82
  go_wp2
  exact bodyPost_ret (v := .agg (shp 1 0 s)) (by simp [results, Try.results82, go_sem, shp]) rfl ⟨rfl, (Gr.refl _).alloc _ _⟩
theorem memory_any (l : Int) (s : ByteArray) (w : World) : Calls Try.prog 81 #[.int .i64 l, .string s] w (RES 7 l s w) := by
  go_enter Try.func81, Try.ntmps81
  go_wp2
  exact bodyPost_ret (v := .agg (shp 7 l s)) (by simp [results, Try.results81, go_sem, shp]) rfl ⟨rfl, (Gr.refl _).alloc _ _⟩
theorem lane_any (l : Int) (s : ByteArray) (w : World) : Calls Try.prog 83 #[.int .i64 l, .string s] w (RES 13 l s w) := by
  go_enter Try.func83, Try.ntmps83
  go_wp2
  exact bodyPost_ret (v := .agg (shp 13 l s)) (by simp [results, Try.results83, go_sem, shp]) rfl ⟨rfl, (Gr.refl _).alloc _ _⟩
theorem access_0 (w : World) : Calls Try.prog 68 #[.int .i64 40] w (RES 7 2 ⟨#[105, 58, 105]⟩ w) := by
  go_enter Try.func68, Try.ntmps68
  go_wp2_with (go_at_call 56; first | ((with_reducible refine (within_yes _ _ _ (by omega) (by omega) _).mono ?_); rintro e w' ⟨rfl, rfl⟩) | ((with_reducible refine (within_no _ _ _ (by omega) _).mono ?_); rintro e w' ⟨rfl, rfl⟩))
  refine (memory_any _ _ _).mono ?_
  rintro e w1 ⟨rfl, hg⟩
  have hb := gr_block hg (heap_alloc_new w (.cells (shp 0 0 zs) 77))
  have HB := Lib.hid hb
  have HG := Lib.hid (gr_trans ((Gr.refl w).alloc _ _) hg)
  clear hb hg
  go_wp2_with (refine wpList_store_row rfl 77 _ _ rfl w.heap.size (shp _ _ _) rfl rfl 77 (shp 0 0 zs) HB.out infoS rfl (shp_one _ _ _) ?_)
  exact bodyPost_ret (v := .agg (shp _ _ _)) (results_cell_row Try.results68 _ _ w.heap.size 77 _ (0, 0) _ rfl (setRow_block HB.out) Try.underlying77 rfl infoS) rfl ⟨rfl, gr_setRow HG.out (by omega) _⟩
theorem access_1 (w : World) : Calls Try.prog 68 #[.int .i64 41] w (RES 7 3 ⟨#[105, 58, 108]⟩ w) := by
  go_enter Try.func68, Try.ntmps68
  go_wp2_with (go_at_call 56; first | ((with_reducible refine (within_yes _ _ _ (by omega) (by omega) _).mono ?_); rintro e w' ⟨rfl, rfl⟩) | ((with_reducible refine (within_no _ _ _ (by omega) _).mono ?_); rintro e w' ⟨rfl, rfl⟩))
  refine (memory_any _ _ _).mono ?_
  rintro e w1 ⟨rfl, hg⟩
  have hb := gr_block hg (heap_alloc_new w (.cells (shp 0 0 zs) 77))
  have HB := Lib.hid hb
  have HG := Lib.hid (gr_trans ((Gr.refl w).alloc _ _) hg)
  clear hb hg
  go_wp2_with (refine wpList_store_row rfl 77 _ _ rfl w.heap.size (shp _ _ _) rfl rfl 77 (shp 0 0 zs) HB.out infoS rfl (shp_one _ _ _) ?_)
  exact bodyPost_ret (v := .agg (shp _ _ _)) (results_cell_row Try.results68 _ _ w.heap.size 77 _ (0, 0) _ rfl (setRow_block HB.out) Try.underlying77 rfl infoS) rfl ⟨rfl, gr_setRow HG.out (by omega) _⟩
theorem access_2 (n : Int) (h0 : 42 ≤ n) (h1 : n ≤ 43) (w : World) : Calls Try.prog 68 #[.int .i64 n] w (RES 0 0 ⟨#[]⟩ w) := by
  go_enter Try.func68, Try.ntmps68
  go_wp2_with (go_at_call 56; first | ((with_reducible refine (within_yes _ _ _ (by omega) (by omega) _).mono ?_); rintro e w' ⟨rfl, rfl⟩) | ((with_reducible refine (within_no _ _ _ (by omega) _).mono ?_); rintro e w' ⟨rfl, rfl⟩))
  exact bodyPost_ret (v := .agg (shp _ _ _)) (by simp [results, Try.results68, go_sem, shp] <;> rfl) rfl ⟨rfl, (Gr.refl _).alloc _ _⟩
theorem access_3 (w : World) : Calls Try.prog 68 #[.int .i64 44] w (RES 7 0 ⟨#[105, 58, 105]⟩ w) := by
  go_enter Try.func68, Try.ntmps68
  go_wp2_with (go_at_call 56; first | ((with_reducible refine (within_yes _ _ _ (by omega) (by omega) _).mono ?_); rintro e w' ⟨rfl, rfl⟩) | ((with_reducible refine (within_no _ _ _ (by omega) _).mono ?_); rintro e w' ⟨rfl, rfl⟩))
  refine (memory_any _ _ _).mono ?_
  rintro e w1 ⟨rfl, hg⟩
  have hb := gr_block hg (heap_alloc_new w (.cells (shp 0 0 zs) 77))
  have HB := Lib.hid hb
  have HG := Lib.hid (gr_trans ((Gr.refl w).alloc _ _) hg)
  clear hb hg
  go_wp2_with (refine wpList_store_row rfl 77 _ _ rfl w.heap.size (shp _ _ _) rfl rfl 77 (shp 0 0 zs) HB.out infoS rfl (shp_one _ _ _) ?_)
  exact bodyPost_ret (v := .agg (shp _ _ _)) (results_cell_row Try.results68 _ _ w.heap.size 77 _ (0, 0) _ rfl (setRow_block HB.out) Try.underlying77 rfl infoS) rfl ⟨rfl, gr_setRow HG.out (by omega) _⟩
theorem access_4 (w : World) : Calls Try.prog 68 #[.int .i64 45] w (RES 7 0 ⟨#[105, 58, 105]⟩ w) := by
  go_enter Try.func68, Try.ntmps68
  go_wp2_with (go_at_call 56; first | ((with_reducible refine (within_yes _ _ _ (by omega) (by omega) _).mono ?_); rintro e w' ⟨rfl, rfl⟩) | ((with_reducible refine (within_no _ _ _ (by omega) _).mono ?_); rintro e w' ⟨rfl, rfl⟩))
  refine (memory_any _ _ _).mono ?_
  rintro e w1 ⟨rfl, hg⟩
  have hb := gr_block hg (heap_alloc_new w (.cells (shp 0 0 zs) 77))
  have HB := Lib.hid hb
  have HG := Lib.hid (gr_trans ((Gr.refl w).alloc _ _) hg)
  clear hb hg
  go_wp2_with (refine wpList_store_row rfl 77 _ _ rfl w.heap.size (shp _ _ _) rfl rfl 77 (shp 0 0 zs) HB.out infoS rfl (shp_one _ _ _) ?_)
  exact bodyPost_ret (v := .agg (shp _ _ _)) (results_cell_row Try.results68 _ _ w.heap.size 77 _ (0, 0) _ rfl (setRow_block HB.out) Try.underlying77 rfl infoS) rfl ⟨rfl, gr_setRow HG.out (by omega) _⟩
theorem access_5 (w : World) : Calls Try.prog 68 #[.int .i64 46] w (RES 7 1 ⟨#[105, 58, 105]⟩ w) := by
  go_enter Try.func68, Try.ntmps68
  go_wp2_with (go_at_call 56; first | ((with_reducible refine (within_yes _ _ _ (by omega) (by omega) _).mono ?_); rintro e w' ⟨rfl, rfl⟩) | ((with_reducible refine (within_no _ _ _ (by omega) _).mono ?_); rintro e w' ⟨rfl, rfl⟩))
  refine (memory_any _ _ _).mono ?_
  rintro e w1 ⟨rfl, hg⟩
  have hb := gr_block hg (heap_alloc_new w (.cells (shp 0 0 zs) 77))
  have HB := Lib.hid hb
  have HG := Lib.hid (gr_trans ((Gr.refl w).alloc _ _) hg)
  clear hb hg
  go_wp2_with (refine wpList_store_row rfl 77 _ _ rfl w.heap.size (shp _ _ _) rfl rfl 77 (shp 0 0 zs) HB.out infoS rfl (shp_one _ _ _) ?_)
  exact bodyPost_ret (v := .agg (shp _ _ _)) (results_cell_row Try.results68 _ _ w.heap.size 77 _ (0, 0) _ rfl (setRow_block HB.out) Try.underlying77 rfl infoS) rfl ⟨rfl, gr_setRow HG.out (by omega) _⟩
theorem access_6 (w : World) : Calls Try.prog 68 #[.int .i64 47] w (RES 7 1 ⟨#[105, 58, 105]⟩ w) := by
  go_enter Try.func68, Try.ntmps68
  go_wp2_with (go_at_call 56; first | ((with_reducible refine (within_yes _ _ _ (by omega) (by omega) _).mono ?_); rintro e w' ⟨rfl, rfl⟩) | ((with_reducible refine (within_no _ _ _ (by omega) _).mono ?_); rintro e w' ⟨rfl, rfl⟩))
  refine (memory_any _ _ _).mono ?_
  rintro e w1 ⟨rfl, hg⟩
  have hb := gr_block hg (heap_alloc_new w (.cells (shp 0 0 zs) 77))
  have HB := Lib.hid hb
  have HG := Lib.hid (gr_trans ((Gr.refl w).alloc _ _) hg)
  clear hb hg
  go_wp2_with (refine wpList_store_row rfl 77 _ _ rfl w.heap.size (shp _ _ _) rfl rfl 77 (shp 0 0 zs) HB.out infoS rfl (shp_one _ _ _) ?_)
  exact bodyPost_ret (v := .agg (shp _ _ _)) (results_cell_row Try.results68 _ _ w.heap.size 77 _ (0, 0) _ rfl (setRow_block HB.out) Try.underlying77 rfl infoS) rfl ⟨rfl, gr_setRow HG.out (by omega) _⟩
theorem access_7 (w : World) : Calls Try.prog 68 #[.int .i64 48] w (RES 7 0 ⟨#[105, 58, 108]⟩ w) := by
  go_enter Try.func68, Try.ntmps68
  go_wp2_with (go_at_call 56; first | ((with_reducible refine (within_yes _ _ _ (by omega) (by omega) _).mono ?_); rintro e w' ⟨rfl, rfl⟩) | ((with_reducible refine (within_no _ _ _ (by omega) _).mono ?_); rintro e w' ⟨rfl, rfl⟩))
  refine (memory_any _ _ _).mono ?_
  rintro e w1 ⟨rfl, hg⟩
  have hb := gr_block hg (heap_alloc_new w (.cells (shp 0 0 zs) 77))
  have HB := Lib.hid hb
  have HG := Lib.hid (gr_trans ((Gr.refl w).alloc _ _) hg)
  clear hb hg
  go_wp2_with (refine wpList_store_row rfl 77 _ _ rfl w.heap.size (shp _ _ _) rfl rfl 77 (shp 0 0 zs) HB.out infoS rfl (shp_one _ _ _) ?_)
  exact bodyPost_ret (v := .agg (shp _ _ _)) (results_cell_row Try.results68 _ _ w.heap.size 77 _ (0, 0) _ rfl (setRow_block HB.out) Try.underlying77 rfl infoS) rfl ⟨rfl, gr_setRow HG.out (by omega) _⟩
theorem access_8 (w : World) : Calls Try.prog 68 #[.int .i64 49] w (RES 7 0 ⟨#[105, 58, 108]⟩ w) := by
  go_enter Try.func68, Try.ntmps68
  go_wp2_with (go_at_call 56; first | ((with_reducible refine (within_yes _ _ _ (by omega) (by omega) _).mono ?_); rintro e w' ⟨rfl, rfl⟩) | ((with_reducible refine (within_no _ _ _ (by omega) _).mono ?_); rintro e w' ⟨rfl, rfl⟩))
  refine (memory_any _ _ _).mono ?_
  rintro e w1 ⟨rfl, hg⟩
  have hb := gr_block hg (heap_alloc_new w (.cells (shp 0 0 zs) 77))
  have HB := Lib.hid hb
  have HG := Lib.hid (gr_trans ((Gr.refl w).alloc _ _) hg)
  clear hb hg
  go_wp2_with (refine wpList_store_row rfl 77 _ _ rfl w.heap.size (shp _ _ _) rfl rfl 77 (shp 0 0 zs) HB.out infoS rfl (shp_one _ _ _) ?_)
  exact bodyPost_ret (v := .agg (shp _ _ _)) (results_cell_row Try.results68 _ _ w.heap.size 77 _ (0, 0) _ rfl (setRow_block HB.out) Try.underlying77 rfl infoS) rfl ⟨rfl, gr_setRow HG.out (by omega) _⟩
theorem access_9 (w : World) : Calls Try.prog 68 #[.int .i64 50] w (RES 7 1 ⟨#[105, 58, 108]⟩ w) := by
  go_enter Try.func68, Try.ntmps68
  go_wp2_with (go_at_call 56; first | ((with_reducible refine (within_yes _ _ _ (by omega) (by omega) _).mono ?_); rintro e w' ⟨rfl, rfl⟩) | ((with_reducible refine (within_no _ _ _ (by omega) _).mono ?_); rintro e w' ⟨rfl, rfl⟩))
  refine (memory_any _ _ _).mono ?_
  rintro e w1 ⟨rfl, hg⟩
  have hb := gr_block hg (heap_alloc_new w (.cells (shp 0 0 zs) 77))
  have HB := Lib.hid hb
  have HG := Lib.hid (gr_trans ((Gr.refl w).alloc _ _) hg)
  clear hb hg
  go_wp2_with (refine wpList_store_row rfl 77 _ _ rfl w.heap.size (shp _ _ _) rfl rfl 77 (shp 0 0 zs) HB.out infoS rfl (shp_one _ _ _) ?_)
  exact bodyPost_ret (v := .agg (shp _ _ _)) (results_cell_row Try.results68 _ _ w.heap.size 77 _ (0, 0) _ rfl (setRow_block HB.out) Try.underlying77 rfl infoS) rfl ⟨rfl, gr_setRow HG.out (by omega) _⟩
theorem access_10 (w : World) : Calls Try.prog 68 #[.int .i64 51] w (RES 7 1 ⟨#[105, 58, 108]⟩ w) := by
  go_enter Try.func68, Try.ntmps68
  go_wp2_with (go_at_call 56; first | ((with_reducible refine (within_yes _ _ _ (by omega) (by omega) _).mono ?_); rintro e w' ⟨rfl, rfl⟩) | ((with_reducible refine (within_no _ _ _ (by omega) _).mono ?_); rintro e w' ⟨rfl, rfl⟩))
  refine (memory_any _ _ _).mono ?_
  rintro e w1 ⟨rfl, hg⟩
  have hb := gr_block hg (heap_alloc_new w (.cells (shp 0 0 zs) 77))
  have HB := Lib.hid hb
  have HG := Lib.hid (gr_trans ((Gr.refl w).alloc _ _) hg)
  clear hb hg
  go_wp2_with (refine wpList_store_row rfl 77 _ _ rfl w.heap.size (shp _ _ _) rfl rfl 77 (shp 0 0 zs) HB.out infoS rfl (shp_one _ _ _) ?_)
  exact bodyPost_ret (v := .agg (shp _ _ _)) (results_cell_row Try.results68 _ _ w.heap.size 77 _ (0, 0) _ rfl (setRow_block HB.out) Try.underlying77 rfl infoS) rfl ⟨rfl, gr_setRow HG.out (by omega) _⟩
theorem access_11 (w : World) : Calls Try.prog 68 #[.int .i64 52] w (RES 7 2 ⟨#[105, 58, 108]⟩ w) := by
  go_enter Try.func68, Try.ntmps68
  go_wp2_with (go_at_call 56; first | ((with_reducible refine (within_yes _ _ _ (by omega) (by omega) _).mono ?_); rintro e w' ⟨rfl, rfl⟩) | ((with_reducible refine (within_no _ _ _ (by omega) _).mono ?_); rintro e w' ⟨rfl, rfl⟩))
  refine (memory_any _ _ _).mono ?_
  rintro e w1 ⟨rfl, hg⟩
  have hb := gr_block hg (heap_alloc_new w (.cells (shp 0 0 zs) 77))
  have HB := Lib.hid hb
  have HG := Lib.hid (gr_trans ((Gr.refl w).alloc _ _) hg)
  clear hb hg
  go_wp2_with (refine wpList_store_row rfl 77 _ _ rfl w.heap.size (shp _ _ _) rfl rfl 77 (shp 0 0 zs) HB.out infoS rfl (shp_one _ _ _) ?_)
  exact bodyPost_ret (v := .agg (shp _ _ _)) (results_cell_row Try.results68 _ _ w.heap.size 77 _ (0, 0) _ rfl (setRow_block HB.out) Try.underlying77 rfl infoS) rfl ⟨rfl, gr_setRow HG.out (by omega) _⟩
theorem access_12 (w : World) : Calls Try.prog 68 #[.int .i64 53] w (RES 7 2 ⟨#[105, 58, 108]⟩ w) := by
  go_enter Try.func68, Try.ntmps68
  go_wp2_with (go_at_call 56; first | ((with_reducible refine (within_yes _ _ _ (by omega) (by omega) _).mono ?_); rintro e w' ⟨rfl, rfl⟩) | ((with_reducible refine (within_no _ _ _ (by omega) _).mono ?_); rintro e w' ⟨rfl, rfl⟩))
  refine (memory_any _ _ _).mono ?_
  rintro e w1 ⟨rfl, hg⟩
  have hb := gr_block hg (heap_alloc_new w (.cells (shp 0 0 zs) 77))
  have HB := Lib.hid hb
  have HG := Lib.hid (gr_trans ((Gr.refl w).alloc _ _) hg)
  clear hb hg
  go_wp2_with (refine wpList_store_row rfl 77 _ _ rfl w.heap.size (shp _ _ _) rfl rfl 77 (shp 0 0 zs) HB.out infoS rfl (shp_one _ _ _) ?_)
  exact bodyPost_ret (v := .agg (shp _ _ _)) (results_cell_row Try.results68 _ _ w.heap.size 77 _ (0, 0) _ rfl (setRow_block HB.out) Try.underlying77 rfl infoS) rfl ⟨rfl, gr_setRow HG.out (by omega) _⟩
theorem access_13 (w : World) : Calls Try.prog 68 #[.int .i64 54] w (RES 7 2 ⟨#[105, 105, 58]⟩ w) := by
  go_enter Try.func68, Try.ntmps68
  go_wp2_with (go_at_call 56; first | ((with_reducible refine (within_yes _ _ _ (by omega) (by omega) _).mono ?_); rintro e w' ⟨rfl, rfl⟩) | ((with_reducible refine (within_no _ _ _ (by omega) _).mono ?_); rintro e w' ⟨rfl, rfl⟩))
  refine (memory_any _ _ _).mono ?_
  rintro e w1 ⟨rfl, hg⟩
  have hb := gr_block hg (heap_alloc_new w (.cells (shp 0 0 zs) 77))
  have HB := Lib.hid hb
  have HG := Lib.hid (gr_trans ((Gr.refl w).alloc _ _) hg)
  clear hb hg
  go_wp2_with (refine wpList_store_row rfl 77 _ _ rfl w.heap.size (shp _ _ _) rfl rfl 77 (shp 0 0 zs) HB.out infoS rfl (shp_one _ _ _) ?_)
  exact bodyPost_ret (v := .agg (shp _ _ _)) (results_cell_row Try.results68 _ _ w.heap.size 77 _ (0, 0) _ rfl (setRow_block HB.out) Try.underlying77 rfl infoS) rfl ⟨rfl, gr_setRow HG.out (by omega) _⟩
theorem access_14 (w : World) : Calls Try.prog 68 #[.int .i64 55] w (RES 7 3 ⟨#[105, 108, 58]⟩ w) := by
  go_enter Try.func68, Try.ntmps68
  go_wp2_with (go_at_call 56; first | ((with_reducible refine (within_yes _ _ _ (by omega) (by omega) _).mono ?_); rintro e w' ⟨rfl, rfl⟩) | ((with_reducible refine (within_no _ _ _ (by omega) _).mono ?_); rintro e w' ⟨rfl, rfl⟩))
  refine (memory_any _ _ _).mono ?_
  rintro e w1 ⟨rfl, hg⟩
  have hb := gr_block hg (heap_alloc_new w (.cells (shp 0 0 zs) 77))
  have HB := Lib.hid hb
  have HG := Lib.hid (gr_trans ((Gr.refl w).alloc _ _) hg)
  clear hb hg
  go_wp2_with (refine wpList_store_row rfl 77 _ _ rfl w.heap.size (shp _ _ _) rfl rfl 77 (shp 0 0 zs) HB.out infoS rfl (shp_one _ _ _) ?_)
  exact bodyPost_ret (v := .agg (shp _ _ _)) (results_cell_row Try.results68 _ _ w.heap.size 77 _ (0, 0) _ rfl (setRow_block HB.out) Try.underlying77 rfl infoS) rfl ⟨rfl, gr_setRow HG.out (by omega) _⟩
theorem access_15 (n : Int) (h0 : 56 ≤ n) (h1 : n ≤ 57) (w : World) : Calls Try.prog 68 #[.int .i64 n] w (RES 0 0 ⟨#[]⟩ w) := by
  go_enter Try.func68, Try.ntmps68
  go_wp2_with (go_at_call 56; first | ((with_reducible refine (within_yes _ _ _ (by omega) (by omega) _).mono ?_); rintro e w' ⟨rfl, rfl⟩) | ((with_reducible refine (within_no _ _ _ (by omega) _).mono ?_); rintro e w' ⟨rfl, rfl⟩))
  exact bodyPost_ret (v := .agg (shp _ _ _)) (by simp [results, Try.results68, go_sem, shp] <;> rfl) rfl ⟨rfl, (Gr.refl _).alloc _ _⟩
theorem access_16 (w : World) : Calls Try.prog 68 #[.int .i64 58] w (RES 7 0 ⟨#[105, 105, 58]⟩ w) := by
  go_enter Try.func68, Try.ntmps68
  go_wp2_with (go_at_call 56; first | ((with_reducible refine (within_yes _ _ _ (by omega) (by omega) _).mono ?_); rintro e w' ⟨rfl, rfl⟩) | ((with_reducible refine (within_no _ _ _ (by omega) _).mono ?_); rintro e w' ⟨rfl, rfl⟩))
  refine (memory_any _ _ _).mono ?_
  rintro e w1 ⟨rfl, hg⟩
  have hb := gr_block hg (heap_alloc_new w (.cells (shp 0 0 zs) 77))
  have HB := Lib.hid hb
  have HG := Lib.hid (gr_trans ((Gr.refl w).alloc _ _) hg)
  clear hb hg
  go_wp2_with (refine wpList_store_row rfl 77 _ _ rfl w.heap.size (shp _ _ _) rfl rfl 77 (shp 0 0 zs) HB.out infoS rfl (shp_one _ _ _) ?_)
  exact bodyPost_ret (v := .agg (shp _ _ _)) (results_cell_row Try.results68 _ _ w.heap.size 77 _ (0, 0) _ rfl (setRow_block HB.out) Try.underlying77 rfl infoS) rfl ⟨rfl, gr_setRow HG.out (by omega) _⟩
theorem access_17 (w : World) : Calls Try.prog 68 #[.int .i64 59] w (RES 7 1 ⟨#[105, 105, 58]⟩ w) := by
  go_enter Try.func68, Try.ntmps68
  go_wp2_with (go_at_call 56; first | ((with_reducible refine (within_yes _ _ _ (by omega) (by omega) _).mono ?_); rintro e w' ⟨rfl, rfl⟩) | ((with_reducible refine (within_no _ _ _ (by omega) _).mono ?_); rintro e w' ⟨rfl, rfl⟩))
  refine (memory_any _ _ _).mono ?_
  rintro e w1 ⟨rfl, hg⟩
  have hb := gr_block hg (heap_alloc_new w (.cells (shp 0 0 zs) 77))
  have HB := Lib.hid hb
  have HG := Lib.hid (gr_trans ((Gr.refl w).alloc _ _) hg)
  clear hb hg
  go_wp2_with (refine wpList_store_row rfl 77 _ _ rfl w.heap.size (shp _ _ _) rfl rfl 77 (shp 0 0 zs) HB.out infoS rfl (shp_one _ _ _) ?_)
  exact bodyPost_ret (v := .agg (shp _ _ _)) (results_cell_row Try.results68 _ _ w.heap.size 77 _ (0, 0) _ rfl (setRow_block HB.out) Try.underlying77 rfl infoS) rfl ⟨rfl, gr_setRow HG.out (by omega) _⟩
theorem access_18 (w : World) : Calls Try.prog 68 #[.int .i64 60] w (RES 7 0 ⟨#[105, 108, 58]⟩ w) := by
  go_enter Try.func68, Try.ntmps68
  go_wp2_with (go_at_call 56; first | ((with_reducible refine (within_yes _ _ _ (by omega) (by omega) _).mono ?_); rintro e w' ⟨rfl, rfl⟩) | ((with_reducible refine (within_no _ _ _ (by omega) _).mono ?_); rintro e w' ⟨rfl, rfl⟩))
  refine (memory_any _ _ _).mono ?_
  rintro e w1 ⟨rfl, hg⟩
  have hb := gr_block hg (heap_alloc_new w (.cells (shp 0 0 zs) 77))
  have HB := Lib.hid hb
  have HG := Lib.hid (gr_trans ((Gr.refl w).alloc _ _) hg)
  clear hb hg
  go_wp2_with (refine wpList_store_row rfl 77 _ _ rfl w.heap.size (shp _ _ _) rfl rfl 77 (shp 0 0 zs) HB.out infoS rfl (shp_one _ _ _) ?_)
  exact bodyPost_ret (v := .agg (shp _ _ _)) (results_cell_row Try.results68 _ _ w.heap.size 77 _ (0, 0) _ rfl (setRow_block HB.out) Try.underlying77 rfl infoS) rfl ⟨rfl, gr_setRow HG.out (by omega) _⟩
theorem access_19 (w : World) : Calls Try.prog 68 #[.int .i64 61] w (RES 7 1 ⟨#[105, 108, 58]⟩ w) := by
  go_enter Try.func68, Try.ntmps68
  go_wp2_with (go_at_call 56; first | ((with_reducible refine (within_yes _ _ _ (by omega) (by omega) _).mono ?_); rintro e w' ⟨rfl, rfl⟩) | ((with_reducible refine (within_no _ _ _ (by omega) _).mono ?_); rintro e w' ⟨rfl, rfl⟩))
  refine (memory_any _ _ _).mono ?_
  rintro e w1 ⟨rfl, hg⟩
  have hb := gr_block hg (heap_alloc_new w (.cells (shp 0 0 zs) 77))
  have HB := Lib.hid hb
  have HG := Lib.hid (gr_trans ((Gr.refl w).alloc _ _) hg)
  clear hb hg
  go_wp2_with (refine wpList_store_row rfl 77 _ _ rfl w.heap.size (shp _ _ _) rfl rfl 77 (shp 0 0 zs) HB.out infoS rfl (shp_one _ _ _) ?_)
  exact bodyPost_ret (v := .agg (shp _ _ _)) (results_cell_row Try.results68 _ _ w.heap.size 77 _ (0, 0) _ rfl (setRow_block HB.out) Try.underlying77 rfl infoS) rfl ⟨rfl, gr_setRow HG.out (by omega) _⟩
theorem access_20 (w : World) : Calls Try.prog 68 #[.int .i64 62] w (RES 7 2 ⟨#[105, 108, 58]⟩ w) := by
  go_enter Try.func68, Try.ntmps68
  go_wp2_with (go_at_call 56; first | ((with_reducible refine (within_yes _ _ _ (by omega) (by omega) _).mono ?_); rintro e w' ⟨rfl, rfl⟩) | ((with_reducible refine (within_no _ _ _ (by omega) _).mono ?_); rintro e w' ⟨rfl, rfl⟩))
  refine (memory_any _ _ _).mono ?_
  rintro e w1 ⟨rfl, hg⟩
  have hb := gr_block hg (heap_alloc_new w (.cells (shp 0 0 zs) 77))
  have HB := Lib.hid hb
  have HG := Lib.hid (gr_trans ((Gr.refl w).alloc _ _) hg)
  clear hb hg
  go_wp2_with (refine wpList_store_row rfl 77 _ _ rfl w.heap.size (shp _ _ _) rfl rfl 77 (shp 0 0 zs) HB.out infoS rfl (shp_one _ _ _) ?_)
  exact bodyPost_ret (v := .agg (shp _ _ _)) (results_cell_row Try.results68 _ _ w.heap.size 77 _ (0, 0) _ rfl (setRow_block HB.out) Try.underlying77 rfl infoS) rfl ⟨rfl, gr_setRow HG.out (by omega) _⟩
theorem operator_0 (w : World) : Calls Try.prog 69 #[.int .i64 69] w (RES 1 0 ⟨#[105, 58, 105]⟩ w) := by
  go_enter Try.func69, Try.ntmps69
  go_wp2_with (go_at_call 56; first | ((with_reducible refine (within_yes _ _ _ (by omega) (by omega) _).mono ?_); rintro e w' ⟨rfl, rfl⟩) | ((with_reducible refine (within_no _ _ _ (by omega) _).mono ?_); rintro e w' ⟨rfl, rfl⟩))
  refine (plain_any _ _).mono ?_
  rintro e w1 ⟨rfl, hg⟩
  have hb := gr_block hg (heap_alloc_new w (.cells (shp 0 0 zs) 77))
  have HB := Lib.hid hb
  have HG := Lib.hid (gr_trans ((Gr.refl w).alloc _ _) hg)
  clear hb hg
  go_wp2_with (refine wpList_store_row rfl 77 _ _ rfl w.heap.size (shp _ _ _) rfl rfl 77 (shp 0 0 zs) HB.out infoS rfl (shp_one _ _ _) ?_)
  exact bodyPost_ret (v := .agg (shp _ _ _)) (results_cell_row Try.results69 _ _ w.heap.size 77 _ (0, 0) _ rfl (setRow_block HB.out) Try.underlying77 rfl infoS) rfl ⟨rfl, gr_setRow HG.out (by omega) _⟩
theorem operator_1 (n : Int) (h0 : 70 ≤ n) (h1 : n ≤ 79) (w : World) : Calls Try.prog 69 #[.int .i64 n] w (RES 1 0 ⟨#[105, 105, 58, 105]⟩ w) := by
  go_enter Try.func69, Try.ntmps69
  go_wp2_with (go_at_call 56; first | ((with_reducible refine (within_yes _ _ _ (by omega) (by omega) _).mono ?_); rintro e w' ⟨rfl, rfl⟩) | ((with_reducible refine (within_no _ _ _ (by omega) _).mono ?_); rintro e w' ⟨rfl, rfl⟩))
  refine (plain_any _ _).mono ?_
  rintro e w1 ⟨rfl, hg⟩
  have hb := gr_block hg (heap_alloc_new w (.cells (shp 0 0 zs) 77))
  have HB := Lib.hid hb
  have HG := Lib.hid (gr_trans ((Gr.refl w).alloc _ _) hg)
  clear hb hg
  go_wp2_with (refine wpList_store_row rfl 77 _ _ rfl w.heap.size (shp _ _ _) rfl rfl 77 (shp 0 0 zs) HB.out infoS rfl (shp_one _ _ _) ?_)
  exact bodyPost_ret (v := .agg (shp _ _ _)) (results_cell_row Try.results69 _ _ w.heap.size 77 _ (0, 0) _ rfl (setRow_block HB.out) Try.underlying77 rfl infoS) rfl ⟨rfl, gr_setRow HG.out (by omega) _⟩
theorem operator_2 (w : World) : Calls Try.prog 69 #[.int .i64 80] w (RES 1 0 ⟨#[108, 58, 105]⟩ w) := by
  go_enter Try.func69, Try.ntmps69
  go_wp2_with (go_at_call 56; first | ((with_reducible refine (within_yes _ _ _ (by omega) (by omega) _).mono ?_); rintro e w' ⟨rfl, rfl⟩) | ((with_reducible refine (within_no _ _ _ (by omega) _).mono ?_); rintro e w' ⟨rfl, rfl⟩))
  refine (plain_any _ _).mono ?_
  rintro e w1 ⟨rfl, hg⟩
  have hb := gr_block hg (heap_alloc_new w (.cells (shp 0 0 zs) 77))
  have HB := Lib.hid hb
  have HG := Lib.hid (gr_trans ((Gr.refl w).alloc _ _) hg)
  clear hb hg
  go_wp2_with (refine wpList_store_row rfl 77 _ _ rfl w.heap.size (shp _ _ _) rfl rfl 77 (shp 0 0 zs) HB.out infoS rfl (shp_one _ _ _) ?_)
  exact bodyPost_ret (v := .agg (shp _ _ _)) (results_cell_row Try.results69 _ _ w.heap.size 77 _ (0, 0) _ rfl (setRow_block HB.out) Try.underlying77 rfl infoS) rfl ⟨rfl, gr_setRow HG.out (by omega) _⟩
theorem operator_3 (n : Int) (h0 : 81 ≤ n) (h1 : n ≤ 90) (w : World) : Calls Try.prog 69 #[.int .i64 n] w (RES 1 0 ⟨#[108, 108, 58, 105]⟩ w) := by
  go_enter Try.func69, Try.ntmps69
  go_wp2_with (go_at_call 56; first | ((with_reducible refine (within_yes _ _ _ (by omega) (by omega) _).mono ?_); rintro e w' ⟨rfl, rfl⟩) | ((with_reducible refine (within_no _ _ _ (by omega) _).mono ?_); rintro e w' ⟨rfl, rfl⟩))
  refine (plain_any _ _).mono ?_
  rintro e w1 ⟨rfl, hg⟩
  have hb := gr_block hg (heap_alloc_new w (.cells (shp 0 0 zs) 77))
  have HB := Lib.hid hb
  have HG := Lib.hid (gr_trans ((Gr.refl w).alloc _ _) hg)
  clear hb hg
  go_wp2_with (refine wpList_store_row rfl 77 _ _ rfl w.heap.size (shp _ _ _) rfl rfl 77 (shp 0 0 zs) HB.out infoS rfl (shp_one _ _ _) ?_)
  exact bodyPost_ret (v := .agg (shp _ _ _)) (results_cell_row Try.results69 _ _ w.heap.size 77 _ (0, 0) _ rfl (setRow_block HB.out) Try.underlying77 rfl infoS) rfl ⟨rfl, gr_setRow HG.out (by omega) _⟩
theorem operator_4 (n : Int) (h0 : 91 ≤ n) (h1 : n ≤ 102) (w : World) : Calls Try.prog 69 #[.int .i64 n] w (RES 0 0 ⟨#[]⟩ w) := by
  go_enter Try.func69, Try.ntmps69
  go_wp2_with (go_at_call 56; first | ((with_reducible refine (within_yes _ _ _ (by omega) (by omega) _).mono ?_); rintro e w' ⟨rfl, rfl⟩) | ((with_reducible refine (within_no _ _ _ (by omega) _).mono ?_); rintro e w' ⟨rfl, rfl⟩))
  exact bodyPost_ret (v := .agg (shp _ _ _)) (by simp [results, Try.results69, go_sem, shp] <;> rfl) rfl ⟨rfl, (Gr.refl _).alloc _ _⟩
theorem operator_5 (n : Int) (h0 : 103 ≤ n) (h1 : n ≤ 105) (w : World) : Calls Try.prog 69 #[.int .i64 n] w (RES 1 0 ⟨#[105, 58, 105]⟩ w) := by
  go_enter Try.func69, Try.ntmps69
  go_wp2_with (go_at_call 56; first | ((with_reducible refine (within_yes _ _ _ (by omega) (by omega) _).mono ?_); rintro e w' ⟨rfl, rfl⟩) | ((with_reducible refine (within_no _ _ _ (by omega) _).mono ?_); rintro e w' ⟨rfl, rfl⟩))
  refine (plain_any _ _).mono ?_
  rintro e w1 ⟨rfl, hg⟩
  have hb := gr_block hg (heap_alloc_new w (.cells (shp 0 0 zs) 77))
  have HB := Lib.hid hb
  have HG := Lib.hid (gr_trans ((Gr.refl w).alloc _ _) hg)
  clear hb hg
  go_wp2_with (refine wpList_store_row rfl 77 _ _ rfl w.heap.size (shp _ _ _) rfl rfl 77 (shp 0 0 zs) HB.out infoS rfl (shp_one _ _ _) ?_)
  exact bodyPost_ret (v := .agg (shp _ _ _)) (results_cell_row Try.results69 _ _ w.heap.size 77 _ (0, 0) _ rfl (setRow_block HB.out) Try.underlying77 rfl infoS) rfl ⟨rfl, gr_setRow HG.out (by omega) _⟩
theorem operator_6 (n : Int) (h0 : 106 ≤ n) (h1 : n ≤ 120) (w : World) : Calls Try.prog 69 #[.int .i64 n] w (RES 1 0 ⟨#[105, 105, 58, 105]⟩ w) := by
  go_enter Try.func69, Try.ntmps69
  go_wp2_with (go_at_call 56; first | ((with_reducible refine (within_yes _ _ _ (by omega) (by omega) _).mono ?_); rintro e w' ⟨rfl, rfl⟩) | ((with_reducible refine (within_no _ _ _ (by omega) _).mono ?_); rintro e w' ⟨rfl, rfl⟩))
  refine (plain_any _ _).mono ?_
  rintro e w1 ⟨rfl, hg⟩
  have hb := gr_block hg (heap_alloc_new w (.cells (shp 0 0 zs) 77))
  have HB := Lib.hid hb
  have HG := Lib.hid (gr_trans ((Gr.refl w).alloc _ _) hg)
  clear hb hg
  go_wp2_with (refine wpList_store_row rfl 77 _ _ rfl w.heap.size (shp _ _ _) rfl rfl 77 (shp 0 0 zs) HB.out infoS rfl (shp_one _ _ _) ?_)
  exact bodyPost_ret (v := .agg (shp _ _ _)) (results_cell_row Try.results69 _ _ w.heap.size 77 _ (0, 0) _ rfl (setRow_block HB.out) Try.underlying77 rfl infoS) rfl ⟨rfl, gr_setRow HG.out (by omega) _⟩
theorem operator_7 (n : Int) (h0 : 121 ≤ n) (h1 : n ≤ 123) (w : World) : Calls Try.prog 69 #[.int .i64 n] w (RES 1 0 ⟨#[108, 58, 108]⟩ w) := by
  go_enter Try.func69, Try.ntmps69
  go_wp2_with (go_at_call 56; first | ((with_reducible refine (within_yes _ _ _ (by omega) (by omega) _).mono ?_); rintro e w' ⟨rfl, rfl⟩) | ((with_reducible refine (within_no _ _ _ (by omega) _).mono ?_); rintro e w' ⟨rfl, rfl⟩))
  refine (plain_any _ _).mono ?_
  rintro e w1 ⟨rfl, hg⟩
  have hb := gr_block hg (heap_alloc_new w (.cells (shp 0 0 zs) 77))
  have HB := Lib.hid hb
  have HG := Lib.hid (gr_trans ((Gr.refl w).alloc _ _) hg)
  clear hb hg
  go_wp2_with (refine wpList_store_row rfl 77 _ _ rfl w.heap.size (shp _ _ _) rfl rfl 77 (shp 0 0 zs) HB.out infoS rfl (shp_one _ _ _) ?_)
  exact bodyPost_ret (v := .agg (shp _ _ _)) (results_cell_row Try.results69 _ _ w.heap.size 77 _ (0, 0) _ rfl (setRow_block HB.out) Try.underlying77 rfl infoS) rfl ⟨rfl, gr_setRow HG.out (by omega) _⟩
theorem operator_8 (n : Int) (h0 : 124 ≤ n) (h1 : n ≤ 138) (w : World) : Calls Try.prog 69 #[.int .i64 n] w (RES 1 0 ⟨#[108, 108, 58, 108]⟩ w) := by
  go_enter Try.func69, Try.ntmps69
  go_wp2_with (go_at_call 56; first | ((with_reducible refine (within_yes _ _ _ (by omega) (by omega) _).mono ?_); rintro e w' ⟨rfl, rfl⟩) | ((with_reducible refine (within_no _ _ _ (by omega) _).mono ?_); rintro e w' ⟨rfl, rfl⟩))
  refine (plain_any _ _).mono ?_
  rintro e w1 ⟨rfl, hg⟩
  have hb := gr_block hg (heap_alloc_new w (.cells (shp 0 0 zs) 77))
  have HB := Lib.hid hb
  have HG := Lib.hid (gr_trans ((Gr.refl w).alloc _ _) hg)
  clear hb hg
  go_wp2_with (refine wpList_store_row rfl 77 _ _ rfl w.heap.size (shp _ _ _) rfl rfl 77 (shp 0 0 zs) HB.out infoS rfl (shp_one _ _ _) ?_)
  exact bodyPost_ret (v := .agg (shp _ _ _)) (results_cell_row Try.results69 _ _ w.heap.size 77 _ (0, 0) _ rfl (setRow_block HB.out) Try.underlying77 rfl infoS) rfl ⟨rfl, gr_setRow HG.out (by omega) _⟩
theorem operator_9 (n : Int) (h0 : 139 ≤ n) (h1 : n ≤ 166) (w : World) : Calls Try.prog 69 #[.int .i64 n] w (RES 0 0 ⟨#[]⟩ w) := by
  go_enter Try.func69, Try.ntmps69
  go_wp2_with (go_at_call 56; first | ((with_reducible refine (within_yes _ _ _ (by omega) (by omega) _).mono ?_); rintro e w' ⟨rfl, rfl⟩) | ((with_reducible refine (within_no _ _ _ (by omega) _).mono ?_); rintro e w' ⟨rfl, rfl⟩))
  exact bodyPost_ret (v := .agg (shp _ _ _)) (by simp [results, Try.results69, go_sem, shp] <;> rfl) rfl ⟨rfl, (Gr.refl _).alloc _ _⟩
theorem operator_10 (w : World) : Calls Try.prog 69 #[.int .i64 167] w (RES 1 0 ⟨#[108, 58, 105]⟩ w) := by
  go_enter Try.func69, Try.ntmps69
  go_wp2_with (go_at_call 56; first | ((with_reducible refine (within_yes _ _ _ (by omega) (by omega) _).mono ?_); rintro e w' ⟨rfl, rfl⟩) | ((with_reducible refine (within_no _ _ _ (by omega) _).mono ?_); rintro e w' ⟨rfl, rfl⟩))
  refine (plain_any _ _).mono ?_
  rintro e w1 ⟨rfl, hg⟩
  have hb := gr_block hg (heap_alloc_new w (.cells (shp 0 0 zs) 77))
  have HB := Lib.hid hb
  have HG := Lib.hid (gr_trans ((Gr.refl w).alloc _ _) hg)
  clear hb hg
  go_wp2_with (refine wpList_store_row rfl 77 _ _ rfl w.heap.size (shp _ _ _) rfl rfl 77 (shp 0 0 zs) HB.out infoS rfl (shp_one _ _ _) ?_)
  exact bodyPost_ret (v := .agg (shp _ _ _)) (results_cell_row Try.results69 _ _ w.heap.size 77 _ (0, 0) _ rfl (setRow_block HB.out) Try.underlying77 rfl infoS) rfl ⟨rfl, gr_setRow HG.out (by omega) _⟩
theorem operator_11 (n : Int) (h0 : 168 ≤ n) (h1 : n ≤ 171) (w : World) : Calls Try.prog 69 #[.int .i64 n] w (RES 0 0 ⟨#[]⟩ w) := by
  go_enter Try.func69, Try.ntmps69
  go_wp2_with (go_at_call 56; first | ((with_reducible refine (within_yes _ _ _ (by omega) (by omega) _).mono ?_); rintro e w' ⟨rfl, rfl⟩) | ((with_reducible refine (within_no _ _ _ (by omega) _).mono ?_); rintro e w' ⟨rfl, rfl⟩))
  exact bodyPost_ret (v := .agg (shp _ _ _)) (by simp [results, Try.results69, go_sem, shp] <;> rfl) rfl ⟨rfl, (Gr.refl _).alloc _ _⟩
theorem operator_12 (n : Int) (h0 : 172 ≤ n) (h1 : n ≤ 173) (w : World) : Calls Try.prog 69 #[.int .i64 n] w (RES 1 0 ⟨#[105, 58, 108]⟩ w) := by
  go_enter Try.func69, Try.ntmps69
  go_wp2_with (go_at_call 56; first | ((with_reducible refine (within_yes _ _ _ (by omega) (by omega) _).mono ?_); rintro e w' ⟨rfl, rfl⟩) | ((with_reducible refine (within_no _ _ _ (by omega) _).mono ?_); rintro e w' ⟨rfl, rfl⟩))
  refine (plain_any _ _).mono ?_
  rintro e w1 ⟨rfl, hg⟩
  have hb := gr_block hg (heap_alloc_new w (.cells (shp 0 0 zs) 77))
  have HB := Lib.hid hb
  have HG := Lib.hid (gr_trans ((Gr.refl w).alloc _ _) hg)
  clear hb hg
  go_wp2_with (refine wpList_store_row rfl 77 _ _ rfl w.heap.size (shp _ _ _) rfl rfl 77 (shp 0 0 zs) HB.out infoS rfl (shp_one _ _ _) ?_)
  exact bodyPost_ret (v := .agg (shp _ _ _)) (results_cell_row Try.results69 _ _ w.heap.size 77 _ (0, 0) _ rfl (setRow_block HB.out) Try.underlying77 rfl infoS) rfl ⟨rfl, gr_setRow HG.out (by omega) _⟩
theorem operator_13 (n : Int) (h0 : 174 ≤ n) (h1 : n ≤ 191) (w : World) : Calls Try.prog 69 #[.int .i64 n] w (RES 0 0 ⟨#[]⟩ w) := by
  go_enter Try.func69, Try.ntmps69
  go_wp2_with (go_at_call 56; first | ((with_reducible refine (within_yes _ _ _ (by omega) (by omega) _).mono ?_); rintro e w' ⟨rfl, rfl⟩) | ((with_reducible refine (within_no _ _ _ (by omega) _).mono ?_); rintro e w' ⟨rfl, rfl⟩))
  exact bodyPost_ret (v := .agg (shp _ _ _)) (by simp [results, Try.results69, go_sem, shp] <;> rfl) rfl ⟨rfl, (Gr.refl _).alloc _ _⟩
theorem operator_14 (n : Int) (h0 : 192 ≤ n) (h1 : n ≤ 193) (w : World) : Calls Try.prog 69 #[.int .i64 n] w (RES 1 0 ⟨#[105, 58, 105]⟩ w) := by
  go_enter Try.func69, Try.ntmps69
  go_wp2_with (go_at_call 56; first | ((with_reducible refine (within_yes _ _ _ (by omega) (by omega) _).mono ?_); rintro e w' ⟨rfl, rfl⟩) | ((with_reducible refine (within_no _ _ _ (by omega) _).mono ?_); rintro e w' ⟨rfl, rfl⟩))
  refine (plain_any _ _).mono ?_
  rintro e w1 ⟨rfl, hg⟩
  have hb := gr_block hg (heap_alloc_new w (.cells (shp 0 0 zs) 77))
  have HB := Lib.hid hb
  have HG := Lib.hid (gr_trans ((Gr.refl w).alloc _ _) hg)
  clear hb hg
  go_wp2_with (refine wpList_store_row rfl 77 _ _ rfl w.heap.size (shp _ _ _) rfl rfl 77 (shp 0 0 zs) HB.out infoS rfl (shp_one _ _ _) ?_)
  exact bodyPost_ret (v := .agg (shp _ _ _)) (results_cell_row Try.results69 _ _ w.heap.size 77 _ (0, 0) _ rfl (setRow_block HB.out) Try.underlying77 rfl infoS) rfl ⟨rfl, gr_setRow HG.out (by omega) _⟩
theorem operator_15 (n : Int) (h0 : 194 ≤ n) (h1 : n ≤ 196) (w : World) : Calls Try.prog 69 #[.int .i64 n] w (RES 1 0 ⟨#[108, 58, 108]⟩ w) := by
  go_enter Try.func69, Try.ntmps69
  go_wp2_with (go_at_call 56; first | ((with_reducible refine (within_yes _ _ _ (by omega) (by omega) _).mono ?_); rintro e w' ⟨rfl, rfl⟩) | ((with_reducible refine (within_no _ _ _ (by omega) _).mono ?_); rintro e w' ⟨rfl, rfl⟩))
  refine (plain_any _ _).mono ?_
  rintro e w1 ⟨rfl, hg⟩
  have hb := gr_block hg (heap_alloc_new w (.cells (shp 0 0 zs) 77))
  have HB := Lib.hid hb
  have HG := Lib.hid (gr_trans ((Gr.refl w).alloc _ _) hg)
  clear hb hg
  go_wp2_with (refine wpList_store_row rfl 77 _ _ rfl w.heap.size (shp _ _ _) rfl rfl 77 (shp 0 0 zs) HB.out infoS rfl (shp_one _ _ _) ?_)
  exact bodyPost_ret (v := .agg (shp _ _ _)) (results_cell_row Try.results69 _ _ w.heap.size 77 _ (0, 0) _ rfl (setRow_block HB.out) Try.underlying77 rfl infoS) rfl ⟨rfl, gr_setRow HG.out (by omega) _⟩
theorem operator_16 (n : Int) (h0 : 197 ≤ n) (w : World) : Calls Try.prog 69 #[.int .i64 n] w (RES 0 0 ⟨#[]⟩ w) := by
  go_enter Try.func69, Try.ntmps69
  go_wp2_with (go_at_call 56; first | ((with_reducible refine (within_yes _ _ _ (by omega) (by omega) _).mono ?_); rintro e w' ⟨rfl, rfl⟩) | ((with_reducible refine (within_no _ _ _ (by omega) _).mono ?_); rintro e w' ⟨rfl, rfl⟩))
  exact bodyPost_ret (v := .agg (shp _ _ _)) (by simp [results, Try.results69, go_sem, shp] <;> rfl) rfl ⟨rfl, (Gr.refl _).alloc _ _⟩
theorem control_0 (n : Int) (h1 : n ≤ -1) (w : World) : Calls Try.prog 70 #[.int .i64 n] w (RES 0 0 ⟨#[]⟩ w) := by
  go_enter Try.func70, Try.ntmps70
  go_wp2_with (go_at_call 56; first | ((with_reducible refine (within_yes _ _ _ (by omega) (by omega) _).mono ?_); rintro e w' ⟨rfl, rfl⟩) | ((with_reducible refine (within_no _ _ _ (by omega) _).mono ?_); rintro e w' ⟨rfl, rfl⟩))
  exact bodyPost_ret (v := .agg (shp _ _ _)) (by simp [results, Try.results70, go_sem, shp] <;> rfl) rfl ⟨rfl, (Gr.refl _).alloc _ _⟩
theorem control_1 (w : World) : Calls Try.prog 70 #[.int .i64 0] w (RES 1 0 ⟨#[]⟩ w) := by
  go_enter Try.func70, Try.ntmps70
  go_wp2_with (go_at_call 56; first | ((with_reducible refine (within_yes _ _ _ (by omega) (by omega) _).mono ?_); rintro e w' ⟨rfl, rfl⟩) | ((with_reducible refine (within_no _ _ _ (by omega) _).mono ?_); rintro e w' ⟨rfl, rfl⟩))
  refine (plain_any _ _).mono ?_
  rintro e w1 ⟨rfl, hg⟩
  have hb := gr_block hg (heap_alloc_new w (.cells (shp 0 0 zs) 77))
  have HB := Lib.hid hb
  have HG := Lib.hid (gr_trans ((Gr.refl w).alloc _ _) hg)
  clear hb hg
  go_wp2_with (refine wpList_store_row rfl 77 _ _ rfl w.heap.size (shp _ _ _) rfl rfl 77 (shp 0 0 zs) HB.out infoS rfl (shp_one _ _ _) ?_)
  exact bodyPost_ret (v := .agg (shp _ _ _)) (results_cell_row Try.results70 _ _ w.heap.size 77 _ (0, 0) _ rfl (setRow_block HB.out) Try.underlying77 rfl infoS) rfl ⟨rfl, gr_setRow HG.out (by omega) _⟩
theorem control_2 (w : World) : Calls Try.prog 70 #[.int .i64 1] w (RES 1 0 ⟨#[58]⟩ w) := by
  go_enter Try.func70, Try.ntmps70
  go_wp2_with (go_at_call 56; first | ((with_reducible refine (within_yes _ _ _ (by omega) (by omega) _).mono ?_); rintro e w' ⟨rfl, rfl⟩) | ((with_reducible refine (within_no _ _ _ (by omega) _).mono ?_); rintro e w' ⟨rfl, rfl⟩))
  refine (plain_any _ _).mono ?_
  rintro e w1 ⟨rfl, hg⟩
  have hb := gr_block hg (heap_alloc_new w (.cells (shp 0 0 zs) 77))
  have HB := Lib.hid hb
  have HG := Lib.hid (gr_trans ((Gr.refl w).alloc _ _) hg)
  clear hb hg
  go_wp2_with (refine wpList_store_row rfl 77 _ _ rfl w.heap.size (shp _ _ _) rfl rfl 77 (shp 0 0 zs) HB.out infoS rfl (shp_one _ _ _) ?_)
  exact bodyPost_ret (v := .agg (shp _ _ _)) (results_cell_row Try.results70 _ _ w.heap.size 77 _ (0, 0) _ rfl (setRow_block HB.out) Try.underlying77 rfl infoS) rfl ⟨rfl, gr_setRow HG.out (by omega) _⟩
theorem control_3 (w : World) : Calls Try.prog 70 #[.int .i64 2] w (RES 2 0 ⟨#[]⟩ w) := by
  go_enter Try.func70, Try.ntmps70
  go_wp2_with (go_at_call 56; first | ((with_reducible refine (within_yes _ _ _ (by omega) (by omega) _).mono ?_); rintro e w' ⟨rfl, rfl⟩) | ((with_reducible refine (within_no _ _ _ (by omega) _).mono ?_); rintro e w' ⟨rfl, rfl⟩))
  exact bodyPost_ret (v := .agg (shp _ _ _)) (by simp [results, Try.results70, go_sem, shp] <;> rfl) rfl ⟨rfl, (Gr.refl _).alloc _ _⟩
theorem control_4 (w : World) : Calls Try.prog 70 #[.int .i64 3] w (RES 2 0 ⟨#[]⟩ w) := by
  go_enter Try.func70, Try.ntmps70
  go_wp2_with (go_at_call 56; first | ((with_reducible refine (within_yes _ _ _ (by omega) (by omega) _).mono ?_); rintro e w' ⟨rfl, rfl⟩) | ((with_reducible refine (within_no _ _ _ (by omega) _).mono ?_); rintro e w' ⟨rfl, rfl⟩))
  exact bodyPost_ret (v := .agg (shp _ _ _)) (by simp [results, Try.results70, go_sem, shp] <;> rfl) rfl ⟨rfl, (Gr.refl _).alloc _ _⟩
theorem control_5 (w : World) : Calls Try.prog 70 #[.int .i64 4] w (RES 2 0 ⟨#[]⟩ w) := by
  go_enter Try.func70, Try.ntmps70
  go_wp2_with (go_at_call 56; first | ((with_reducible refine (within_yes _ _ _ (by omega) (by omega) _).mono ?_); rintro e w' ⟨rfl, rfl⟩) | ((with_reducible refine (within_no _ _ _ (by omega) _).mono ?_); rintro e w' ⟨rfl, rfl⟩))
  exact bodyPost_ret (v := .agg (shp _ _ _)) (by simp [results, Try.results70, go_sem, shp] <;> rfl) rfl ⟨rfl, (Gr.refl _).alloc _ _⟩
theorem control_6 (w : World) : Calls Try.prog 70 #[.int .i64 5] w (RES 1 0 ⟨#[]⟩ w) := by
  go_enter Try.func70, Try.ntmps70
  go_wp2_with (go_at_call 56; first | ((with_reducible refine (within_yes _ _ _ (by omega) (by omega) _).mono ?_); rintro e w' ⟨rfl, rfl⟩) | ((with_reducible refine (within_no _ _ _ (by omega) _).mono ?_); rintro e w' ⟨rfl, rfl⟩))
  refine (plain_any _ _).mono ?_
  rintro e w1 ⟨rfl, hg⟩
  have hb := gr_block hg (heap_alloc_new w (.cells (shp 0 0 zs) 77))
  have HB := Lib.hid hb
  have HG := Lib.hid (gr_trans ((Gr.refl w).alloc _ _) hg)
  clear hb hg
  go_wp2_with (refine wpList_store_row rfl 77 _ _ rfl w.heap.size (shp _ _ _) rfl rfl 77 (shp 0 0 zs) HB.out infoS rfl (shp_one _ _ _) ?_)
  exact bodyPost_ret (v := .agg (shp _ _ _)) (results_cell_row Try.results70 _ _ w.heap.size 77 _ (0, 0) _ rfl (setRow_block HB.out) Try.underlying77 rfl infoS) rfl ⟨rfl, gr_setRow HG.out (by omega) _⟩
theorem control_7 (n : Int) (h0 : 6 ≤ n) (h1 : n ≤ 10) (w : World) : Calls Try.prog 70 #[.int .i64 n] w (RES 0 0 ⟨#[]⟩ w) := by
  go_enter Try.func70, Try.ntmps70
  go_wp2_with (go_at_call 56; first | ((with_reducible refine (within_yes _ _ _ (by omega) (by omega) _).mono ?_); rintro e w' ⟨rfl, rfl⟩) | ((with_reducible refine (within_no _ _ _ (by omega) _).mono ?_); rintro e w' ⟨rfl, rfl⟩))
  exact bodyPost_ret (v := .agg (shp _ _ _)) (by simp [results, Try.results70, go_sem, shp] <;> rfl) rfl ⟨rfl, (Gr.refl _).alloc _ _⟩
theorem control_8 (w : World) : Calls Try.prog 70 #[.int .i64 11] w (RES 1 0 ⟨#[]⟩ w) := by
  go_enter Try.func70, Try.ntmps70
  go_wp2_with (go_at_call 56; first | ((with_reducible refine (within_yes _ _ _ (by omega) (by omega) _).mono ?_); rintro e w' ⟨rfl, rfl⟩) | ((with_reducible refine (within_no _ _ _ (by omega) _).mono ?_); rintro e w' ⟨rfl, rfl⟩))
  refine (plain_any _ _).mono ?_
  rintro e w1 ⟨rfl, hg⟩
  have hb := gr_block hg (heap_alloc_new w (.cells (shp 0 0 zs) 77))
  have HB := Lib.hid hb
  have HG := Lib.hid (gr_trans ((Gr.refl w).alloc _ _) hg)
  clear hb hg
  go_wp2_with (refine wpList_store_row rfl 77 _ _ rfl w.heap.size (shp _ _ _) rfl rfl 77 (shp 0 0 zs) HB.out infoS rfl (shp_one _ _ _) ?_)
  exact bodyPost_ret (v := .agg (shp _ _ _)) (results_cell_row Try.results70 _ _ w.heap.size 77 _ (0, 0) _ rfl (setRow_block HB.out) Try.underlying77 rfl infoS) rfl ⟨rfl, gr_setRow HG.out (by omega) _⟩
theorem control_9 (w : World) : Calls Try.prog 70 #[.int .i64 12] w (RES 3 0 ⟨#[]⟩ w) := by
  go_enter Try.func70, Try.ntmps70
  go_wp2_with (go_at_call 56; first | ((with_reducible refine (within_yes _ _ _ (by omega) (by omega) _).mono ?_); rintro e w' ⟨rfl, rfl⟩) | ((with_reducible refine (within_no _ _ _ (by omega) _).mono ?_); rintro e w' ⟨rfl, rfl⟩))
  exact bodyPost_ret (v := .agg (shp _ _ _)) (by simp [results, Try.results70, go_sem, shp] <;> rfl) rfl ⟨rfl, (Gr.refl _).alloc _ _⟩
theorem control_10 (w : World) : Calls Try.prog 70 #[.int .i64 13] w (RES 3 0 ⟨#[]⟩ w) := by
  go_enter Try.func70, Try.ntmps70
  go_wp2_with (go_at_call 56; first | ((with_reducible refine (within_yes _ _ _ (by omega) (by omega) _).mono ?_); rintro e w' ⟨rfl, rfl⟩) | ((with_reducible refine (within_no _ _ _ (by omega) _).mono ?_); rintro e w' ⟨rfl, rfl⟩))
  exact bodyPost_ret (v := .agg (shp _ _ _)) (by simp [results, Try.results70, go_sem, shp] <;> rfl) rfl ⟨rfl, (Gr.refl _).alloc _ _⟩
theorem control_11 (w : World) : Calls Try.prog 70 #[.int .i64 14] w (RES 4 0 ⟨#[]⟩ w) := by
  go_enter Try.func70, Try.ntmps70
  go_wp2_with (go_at_call 56; first | ((with_reducible refine (within_yes _ _ _ (by omega) (by omega) _).mono ?_); rintro e w' ⟨rfl, rfl⟩) | ((with_reducible refine (within_no _ _ _ (by omega) _).mono ?_); rintro e w' ⟨rfl, rfl⟩))
  exact bodyPost_ret (v := .agg (shp _ _ _)) (by simp [results, Try.results70, go_sem, shp] <;> rfl) rfl ⟨rfl, (Gr.refl _).alloc _ _⟩
theorem control_12 (w : World) : Calls Try.prog 70 #[.int .i64 15] w (RES 1 0 ⟨#[]⟩ w) := by
  go_enter Try.func70, Try.ntmps70
  go_wp2_with (go_at_call 56; first | ((with_reducible refine (within_yes _ _ _ (by omega) (by omega) _).mono ?_); rintro e w' ⟨rfl, rfl⟩) | ((with_reducible refine (within_no _ _ _ (by omega) _).mono ?_); rintro e w' ⟨rfl, rfl⟩))
  refine (plain_any _ _).mono ?_
  rintro e w1 ⟨rfl, hg⟩
  have hb := gr_block hg (heap_alloc_new w (.cells (shp 0 0 zs) 77))
  have HB := Lib.hid hb
  have HG := Lib.hid (gr_trans ((Gr.refl w).alloc _ _) hg)
  clear hb hg
  go_wp2_with (refine wpList_store_row rfl 77 _ _ rfl w.heap.size (shp _ _ _) rfl rfl 77 (shp 0 0 zs) HB.out infoS rfl (shp_one _ _ _) ?_)
  exact bodyPost_ret (v := .agg (shp _ _ _)) (results_cell_row Try.results70 _ _ w.heap.size 77 _ (0, 0) _ rfl (setRow_block HB.out) Try.underlying77 rfl infoS) rfl ⟨rfl, gr_setRow HG.out (by omega) _⟩
theorem control_13 (w : World) : Calls Try.prog 70 #[.int .i64 16] w (RES 5 0 ⟨#[]⟩ w) := by
  go_enter Try.func70, Try.ntmps70
  go_wp2_with (go_at_call 56; first | ((with_reducible refine (within_yes _ _ _ (by omega) (by omega) _).mono ?_); rintro e w' ⟨rfl, rfl⟩) | ((with_reducible refine (within_no _ _ _ (by omega) _).mono ?_); rintro e w' ⟨rfl, rfl⟩))
  exact bodyPost_ret (v := .agg (shp _ _ _)) (by simp [results, Try.results70, go_sem, shp] <;> rfl) rfl ⟨rfl, (Gr.refl _).alloc _ _⟩
theorem control_14 (w : World) : Calls Try.prog 70 #[.int .i64 17] w (RES 6 0 ⟨#[]⟩ w) := by
  go_enter Try.func70, Try.ntmps70
  go_wp2_with (go_at_call 56; first | ((with_reducible refine (within_yes _ _ _ (by omega) (by omega) _).mono ?_); rintro e w' ⟨rfl, rfl⟩) | ((with_reducible refine (within_no _ _ _ (by omega) _).mono ?_); rintro e w' ⟨rfl, rfl⟩))
  exact bodyPost_ret (v := .agg (shp _ _ _)) (by simp [results, Try.results70, go_sem, shp] <;> rfl) rfl ⟨rfl, (Gr.refl _).alloc _ _⟩
theorem control_15 (n : Int) (h0 : 18 ≤ n) (h1 : n ≤ 25) (w : World) : Calls Try.prog 70 #[.int .i64 n] w (RES 0 0 ⟨#[]⟩ w) := by
  go_enter Try.func70, Try.ntmps70
  go_wp2_with (go_at_call 56; first | ((with_reducible refine (within_yes _ _ _ (by omega) (by omega) _).mono ?_); rintro e w' ⟨rfl, rfl⟩) | ((with_reducible refine (within_no _ _ _ (by omega) _).mono ?_); rintro e w' ⟨rfl, rfl⟩))
  exact bodyPost_ret (v := .agg (shp _ _ _)) (by simp [results, Try.results70, go_sem, shp] <;> rfl) rfl ⟨rfl, (Gr.refl _).alloc _ _⟩
theorem control_16 (w : World) : Calls Try.prog 70 #[.int .i64 26] w (RES 1 0 ⟨#[]⟩ w) := by
  go_enter Try.func70, Try.ntmps70
  go_wp2_with (go_at_call 56; first | ((with_reducible refine (within_yes _ _ _ (by omega) (by omega) _).mono ?_); rintro e w' ⟨rfl, rfl⟩) | ((with_reducible refine (within_no _ _ _ (by omega) _).mono ?_); rintro e w' ⟨rfl, rfl⟩))
  refine (plain_any _ _).mono ?_
  rintro e w1 ⟨rfl, hg⟩
  have hb := gr_block hg (heap_alloc_new w (.cells (shp 0 0 zs) 77))
  have HB := Lib.hid hb
  have HG := Lib.hid (gr_trans ((Gr.refl w).alloc _ _) hg)
  clear hb hg
  go_wp2_with (refine wpList_store_row rfl 77 _ _ rfl w.heap.size (shp _ _ _) rfl rfl 77 (shp 0 0 zs) HB.out infoS rfl (shp_one _ _ _) ?_)
  exact bodyPost_ret (v := .agg (shp _ _ _)) (results_cell_row Try.results70 _ _ w.heap.size 77 _ (0, 0) _ rfl (setRow_block HB.out) Try.underlying77 rfl infoS) rfl ⟨rfl, gr_setRow HG.out (by omega) _⟩
theorem control_17 (w : World) : Calls Try.prog 70 #[.int .i64 27] w (RES 1 0 ⟨#[]⟩ w) := by
  go_enter Try.func70, Try.ntmps70
  go_wp2_with (go_at_call 56; first | ((with_reducible refine (within_yes _ _ _ (by omega) (by omega) _).mono ?_); rintro e w' ⟨rfl, rfl⟩) | ((with_reducible refine (within_no _ _ _ (by omega) _).mono ?_); rintro e w' ⟨rfl, rfl⟩))
  refine (plain_any _ _).mono ?_
  rintro e w1 ⟨rfl, hg⟩
  have hb := gr_block hg (heap_alloc_new w (.cells (shp 0 0 zs) 77))
  have HB := Lib.hid hb
  have HG := Lib.hid (gr_trans ((Gr.refl w).alloc _ _) hg)
  clear hb hg
  go_wp2_with (refine wpList_store_row rfl 77 _ _ rfl w.heap.size (shp _ _ _) rfl rfl 77 (shp 0 0 zs) HB.out infoS rfl (shp_one _ _ _) ?_)
  exact bodyPost_ret (v := .agg (shp _ _ _)) (results_cell_row Try.results70 _ _ w.heap.size 77 _ (0, 0) _ rfl (setRow_block HB.out) Try.underlying77 rfl infoS) rfl ⟨rfl, gr_setRow HG.out (by omega) _⟩
theorem control_18 (n : Int) (h0 : 28 ≤ n) (h1 : n ≤ 31) (w : World) : Calls Try.prog 70 #[.int .i64 n] w (RES 0 0 ⟨#[]⟩ w) := by
  go_enter Try.func70, Try.ntmps70
  go_wp2_with (go_at_call 56; first | ((with_reducible refine (within_yes _ _ _ (by omega) (by omega) _).mono ?_); rintro e w' ⟨rfl, rfl⟩) | ((with_reducible refine (within_no _ _ _ (by omega) _).mono ?_); rintro e w' ⟨rfl, rfl⟩))
  exact bodyPost_ret (v := .agg (shp _ _ _)) (by simp [results, Try.results70, go_sem, shp] <;> rfl) rfl ⟨rfl, (Gr.refl _).alloc _ _⟩
theorem control_19 (w : World) : Calls Try.prog 70 #[.int .i64 32] w (RES 5 0 ⟨#[]⟩ w) := by
  go_enter Try.func70, Try.ntmps70
  go_wp2_with (go_at_call 56; first | ((with_reducible refine (within_yes _ _ _ (by omega) (by omega) _).mono ?_); rintro e w' ⟨rfl, rfl⟩) | ((with_reducible refine (within_no _ _ _ (by omega) _).mono ?_); rintro e w' ⟨rfl, rfl⟩))
  exact bodyPost_ret (v := .agg (shp _ _ _)) (by simp [results, Try.results70, go_sem, shp] <;> rfl) rfl ⟨rfl, (Gr.refl _).alloc _ _⟩
theorem control_20 (w : World) : Calls Try.prog 70 #[.int .i64 33] w (RES 5 0 ⟨#[]⟩ w) := by
  go_enter Try.func70, Try.ntmps70
  go_wp2_with (go_at_call 56; first | ((with_reducible refine (within_yes _ _ _ (by omega) (by omega) _).mono ?_); rintro e w' ⟨rfl, rfl⟩) | ((with_reducible refine (within_no _ _ _ (by omega) _).mono ?_); rintro e w' ⟨rfl, rfl⟩))
  exact bodyPost_ret (v := .agg (shp _ _ _)) (by simp [results, Try.results70, go_sem, shp] <;> rfl) rfl ⟨rfl, (Gr.refl _).alloc _ _⟩
theorem control_21 (w : World) : Calls Try.prog 70 #[.int .i64 34] w (RES 5 0 ⟨#[]⟩ w) := by
  go_enter Try.func70, Try.ntmps70
  go_wp2_with (go_at_call 56; first | ((with_reducible refine (within_yes _ _ _ (by omega) (by omega) _).mono ?_); rintro e w' ⟨rfl, rfl⟩) | ((with_reducible refine (within_no _ _ _ (by omega) _).mono ?_); rintro e w' ⟨rfl, rfl⟩))
  exact bodyPost_ret (v := .agg (shp _ _ _)) (by simp [results, Try.results70, go_sem, shp] <;> rfl) rfl ⟨rfl, (Gr.refl _).alloc _ _⟩
theorem control_22 (w : World) : Calls Try.prog 70 #[.int .i64 35] w (RES 5 0 ⟨#[]⟩ w) := by
  go_enter Try.func70, Try.ntmps70
  go_wp2_with (go_at_call 56; first | ((with_reducible refine (within_yes _ _ _ (by omega) (by omega) _).mono ?_); rintro e w' ⟨rfl, rfl⟩) | ((with_reducible refine (within_no _ _ _ (by omega) _).mono ?_); rintro e w' ⟨rfl, rfl⟩))
  exact bodyPost_ret (v := .agg (shp _ _ _)) (by simp [results, Try.results70, go_sem, shp] <;> rfl) rfl ⟨rfl, (Gr.refl _).alloc _ _⟩
theorem control_23 (w : World) : Calls Try.prog 70 #[.int .i64 36] w (RES 5 0 ⟨#[]⟩ w) := by
  go_enter Try.func70, Try.ntmps70
  go_wp2_with (go_at_call 56; first | ((with_reducible refine (within_yes _ _ _ (by omega) (by omega) _).mono ?_); rintro e w' ⟨rfl, rfl⟩) | ((with_reducible refine (within_no _ _ _ (by omega) _).mono ?_); rintro e w' ⟨rfl, rfl⟩))
  exact bodyPost_ret (v := .agg (shp _ _ _)) (by simp [results, Try.results70, go_sem, shp] <;> rfl) rfl ⟨rfl, (Gr.refl _).alloc _ _⟩
theorem control_24 (n : Int) (h0 : 37 ≤ n) (h1 : n ≤ 39) (w : World) : Calls Try.prog 70 #[.int .i64 n] w (RES 0 0 ⟨#[]⟩ w) := by
  go_enter Try.func70, Try.ntmps70
  go_wp2_with (go_at_call 56; first | ((with_reducible refine (within_yes _ _ _ (by omega) (by omega) _).mono ?_); rintro e w' ⟨rfl, rfl⟩) | ((with_reducible refine (within_no _ _ _ (by omega) _).mono ?_); rintro e w' ⟨rfl, rfl⟩))
  exact bodyPost_ret (v := .agg (shp _ _ _)) (by simp [results, Try.results70, go_sem, shp] <;> rfl) rfl ⟨rfl, (Gr.refl _).alloc _ _⟩
theorem control_25 (n : Int) (h0 : 67 ≤ n) (h1 : n ≤ 68) (w : World) : Calls Try.prog 70 #[.int .i64 n] w (RES 0 0 ⟨#[]⟩ w) := by
  go_enter Try.func70, Try.ntmps70
  go_wp2_with (go_at_call 56; first | ((with_reducible refine (within_yes _ _ _ (by omega) (by omega) _).mono ?_); rintro e w' ⟨rfl, rfl⟩) | ((with_reducible refine (within_no _ _ _ (by omega) _).mono ?_); rintro e w' ⟨rfl, rfl⟩))
  exact bodyPost_ret (v := .agg (shp _ _ _)) (by simp [results, Try.results70, go_sem, shp] <;> rfl) rfl ⟨rfl, (Gr.refl _).alloc _ _⟩
theorem va_0 (w : World) : Calls Try.prog 63 #[.int .i64 0] w (RES 7 4 ⟨#[105, 58, 118]⟩ w) := by
  go_enter Try.func63, Try.ntmps63
  go_wp2_with (go_at_call 56; first | ((with_reducible refine (within_yes _ _ _ (by omega) (by omega) _).mono ?_); rintro e w' ⟨rfl, rfl⟩) | ((with_reducible refine (within_no _ _ _ (by omega) _).mono ?_); rintro e w' ⟨rfl, rfl⟩))
  refine (memory_any _ _ _).mono ?_
  rintro e w1 ⟨rfl, hg⟩
  have hb := gr_block hg (heap_alloc_new w (.cells (shp 0 0 zs) 77))
  have HB := Lib.hid hb
  have HG := Lib.hid (gr_trans ((Gr.refl w).alloc _ _) hg)
  clear hb hg
  go_wp2_with (refine wpList_store_row rfl 77 _ _ rfl w.heap.size (shp _ _ _) rfl rfl 77 (shp 0 0 zs) HB.out infoS rfl (shp_one _ _ _) ?_)
  exact bodyPost_ret (v := .agg (shp _ _ _)) (results_cell_row Try.results63 _ _ w.heap.size 77 _ (0, 0) _ rfl (setRow_block HB.out) Try.underlying77 rfl infoS) rfl ⟨rfl, gr_setRow HG.out (by omega) _⟩
theorem va_1 (n : Int) (h0 : 1 ≤ n) (h1 : n ≤ 6) (w : World) : Calls Try.prog 63 #[.int .i64 n] w (RES 7 3 ⟨#[105, 58, 118]⟩ w) := by
  go_enter Try.func63, Try.ntmps63
  go_wp2_with (go_at_call 56; first | ((with_reducible refine (within_yes _ _ _ (by omega) (by omega) _).mono ?_); rintro e w' ⟨rfl, rfl⟩) | ((with_reducible refine (within_no _ _ _ (by omega) _).mono ?_); rintro e w' ⟨rfl, rfl⟩))
  refine (memory_any _ _ _).mono ?_
  rintro e w1 ⟨rfl, hg⟩
  have hb := gr_block hg (heap_alloc_new w (.cells (shp 0 0 zs) 77))
  have HB := Lib.hid hb
  have HG := Lib.hid (gr_trans ((Gr.refl w).alloc _ _) hg)
  clear hb hg
  go_wp2_with (refine wpList_store_row rfl 77 _ _ rfl w.heap.size (shp _ _ _) rfl rfl 77 (shp 0 0 zs) HB.out infoS rfl (shp_one _ _ _) ?_)
  exact bodyPost_ret (v := .agg (shp _ _ _)) (results_cell_row Try.results63 _ _ w.heap.size 77 _ (0, 0) _ rfl (setRow_block HB.out) Try.underlying77 rfl infoS) rfl ⟨rfl, gr_setRow HG.out (by omega) _⟩
theorem va_2 (w : World) : Calls Try.prog 63 #[.int .i64 7] w (RES 7 0 ⟨#[105, 58, 118]⟩ w) := by
  go_enter Try.func63, Try.ntmps63
  go_wp2_with (go_at_call 56; first | ((with_reducible refine (within_yes _ _ _ (by omega) (by omega) _).mono ?_); rintro e w' ⟨rfl, rfl⟩) | ((with_reducible refine (within_no _ _ _ (by omega) _).mono ?_); rintro e w' ⟨rfl, rfl⟩))
  refine (memory_any _ _ _).mono ?_
  rintro e w1 ⟨rfl, hg⟩
  have hb := gr_block hg (heap_alloc_new w (.cells (shp 0 0 zs) 77))
  have HB := Lib.hid hb
  have HG := Lib.hid (gr_trans ((Gr.refl w).alloc _ _) hg)
  clear hb hg
  go_wp2_with (refine wpList_store_row rfl 77 _ _ rfl w.heap.size (shp _ _ _) rfl rfl 77 (shp 0 0 zs) HB.out infoS rfl (shp_one _ _ _) ?_)
  exact bodyPost_ret (v := .agg (shp _ _ _)) (results_cell_row Try.results63 _ _ w.heap.size 77 _ (0, 0) _ rfl (setRow_block HB.out) Try.underlying77 rfl infoS) rfl ⟨rfl, gr_setRow HG.out (by omega) _⟩
theorem va_3 (w : World) : Calls Try.prog 63 #[.int .i64 8] w (RES 7 1 ⟨#[105, 58, 118]⟩ w) := by
  go_enter Try.func63, Try.ntmps63
  go_wp2_with (go_at_call 56; first | ((with_reducible refine (within_yes _ _ _ (by omega) (by omega) _).mono ?_); rintro e w' ⟨rfl, rfl⟩) | ((with_reducible refine (within_no _ _ _ (by omega) _).mono ?_); rintro e w' ⟨rfl, rfl⟩))
  refine (memory_any _ _ _).mono ?_
  rintro e w1 ⟨rfl, hg⟩
  have hb := gr_block hg (heap_alloc_new w (.cells (shp 0 0 zs) 77))
  have HB := Lib.hid hb
  have HG := Lib.hid (gr_trans ((Gr.refl w).alloc _ _) hg)
  clear hb hg
  go_wp2_with (refine wpList_store_row rfl 77 _ _ rfl w.heap.size (shp _ _ _) rfl rfl 77 (shp 0 0 zs) HB.out infoS rfl (shp_one _ _ _) ?_)
  exact bodyPost_ret (v := .agg (shp _ _ _)) (results_cell_row Try.results63 _ _ w.heap.size 77 _ (0, 0) _ rfl (setRow_block HB.out) Try.underlying77 rfl infoS) rfl ⟨rfl, gr_setRow HG.out (by omega) _⟩
theorem va_4 (w : World) : Calls Try.prog 63 #[.int .i64 9] w (RES 7 2 ⟨#[105, 58, 118]⟩ w) := by
  go_enter Try.func63, Try.ntmps63
  go_wp2_with (go_at_call 56; first | ((with_reducible refine (within_yes _ _ _ (by omega) (by omega) _).mono ?_); rintro e w' ⟨rfl, rfl⟩) | ((with_reducible refine (within_no _ _ _ (by omega) _).mono ?_); rintro e w' ⟨rfl, rfl⟩))
  refine (memory_any _ _ _).mono ?_
  rintro e w1 ⟨rfl, hg⟩
  have hb := gr_block hg (heap_alloc_new w (.cells (shp 0 0 zs) 77))
  have HB := Lib.hid hb
  have HG := Lib.hid (gr_trans ((Gr.refl w).alloc _ _) hg)
  clear hb hg
  go_wp2_with (refine wpList_store_row rfl 77 _ _ rfl w.heap.size (shp _ _ _) rfl rfl 77 (shp 0 0 zs) HB.out infoS rfl (shp_one _ _ _) ?_)
  exact bodyPost_ret (v := .agg (shp _ _ _)) (results_cell_row Try.results63 _ _ w.heap.size 77 _ (0, 0) _ rfl (setRow_block HB.out) Try.underlying77 rfl infoS) rfl ⟨rfl, gr_setRow HG.out (by omega) _⟩
theorem va_5 (w : World) : Calls Try.prog 63 #[.int .i64 10] w (RES 7 3 ⟨#[105, 58, 118]⟩ w) := by
  go_enter Try.func63, Try.ntmps63
  go_wp2_with (go_at_call 56; first | ((with_reducible refine (within_yes _ _ _ (by omega) (by omega) _).mono ?_); rintro e w' ⟨rfl, rfl⟩) | ((with_reducible refine (within_no _ _ _ (by omega) _).mono ?_); rintro e w' ⟨rfl, rfl⟩))
  refine (memory_any _ _ _).mono ?_
  rintro e w1 ⟨rfl, hg⟩
  have hb := gr_block hg (heap_alloc_new w (.cells (shp 0 0 zs) 77))
  have HB := Lib.hid hb
  have HG := Lib.hid (gr_trans ((Gr.refl w).alloc _ _) hg)
  clear hb hg
  go_wp2_with (refine wpList_store_row rfl 77 _ _ rfl w.heap.size (shp _ _ _) rfl rfl 77 (shp 0 0 zs) HB.out infoS rfl (shp_one _ _ _) ?_)
  exact bodyPost_ret (v := .agg (shp _ _ _)) (results_cell_row Try.results63 _ _ w.heap.size 77 _ (0, 0) _ rfl (setRow_block HB.out) Try.underlying77 rfl infoS) rfl ⟨rfl, gr_setRow HG.out (by omega) _⟩
theorem va_6 (w : World) : Calls Try.prog 63 #[.int .i64 11] w (RES 7 4 ⟨#[105, 118, 58]⟩ w) := by
  go_enter Try.func63, Try.ntmps63
  go_wp2_with (go_at_call 56; first | ((with_reducible refine (within_yes _ _ _ (by omega) (by omega) _).mono ?_); rintro e w' ⟨rfl, rfl⟩) | ((with_reducible refine (within_no _ _ _ (by omega) _).mono ?_); rintro e w' ⟨rfl, rfl⟩))
  refine (memory_any _ _ _).mono ?_
  rintro e w1 ⟨rfl, hg⟩
  have hb := gr_block hg (heap_alloc_new w (.cells (shp 0 0 zs) 77))
  have HB := Lib.hid hb
  have HG := Lib.hid (gr_trans ((Gr.refl w).alloc _ _) hg)
  clear hb hg
  go_wp2_with (refine wpList_store_row rfl 77 _ _ rfl w.heap.size (shp _ _ _) rfl rfl 77 (shp 0 0 zs) HB.out infoS rfl (shp_one _ _ _) ?_)
  exact bodyPost_ret (v := .agg (shp _ _ _)) (results_cell_row Try.results63 _ _ w.heap.size 77 _ (0, 0) _ rfl (setRow_block HB.out) Try.underlying77 rfl infoS) rfl ⟨rfl, gr_setRow HG.out (by omega) _⟩
theorem va_7 (w : World) : Calls Try.prog 63 #[.int .i64 84] w (RES 8 0 ⟨#[105, 118, 58, 118]⟩ w) := by
  go_enter Try.func63, Try.ntmps63
  go_wp2_with (go_at_call 56; first | ((with_reducible refine (within_yes _ _ _ (by omega) (by omega) _).mono ?_); rintro e w' ⟨rfl, rfl⟩) | ((with_reducible refine (within_no _ _ _ (by omega) _).mono ?_); rintro e w' ⟨rfl, rfl⟩))
  exact bodyPost_ret (v := .agg (shp _ _ _)) (by simp [results, Try.results63, go_sem, shp] <;> rfl) rfl ⟨rfl, (Gr.refl _).alloc _ _⟩
theorem va_8 (w : World) : Calls Try.prog 63 #[.int .i64 85] w (RES 8 1 ⟨#[105, 118, 58, 118]⟩ w) := by
  go_enter Try.func63, Try.ntmps63
  go_wp2_with (go_at_call 56; first | ((with_reducible refine (within_yes _ _ _ (by omega) (by omega) _).mono ?_); rintro e w' ⟨rfl, rfl⟩) | ((with_reducible refine (within_no _ _ _ (by omega) _).mono ?_); rintro e w' ⟨rfl, rfl⟩))
  exact bodyPost_ret (v := .agg (shp _ _ _)) (by simp [results, Try.results63, go_sem, shp] <;> rfl) rfl ⟨rfl, (Gr.refl _).alloc _ _⟩
theorem va_9 (w : World) : Calls Try.prog 63 #[.int .i64 86] w (RES 8 2 ⟨#[105, 118, 58, 118]⟩ w) := by
  go_enter Try.func63, Try.ntmps63
  go_wp2_with (go_at_call 56; first | ((with_reducible refine (within_yes _ _ _ (by omega) (by omega) _).mono ?_); rintro e w' ⟨rfl, rfl⟩) | ((with_reducible refine (within_no _ _ _ (by omega) _).mono ?_); rintro e w' ⟨rfl, rfl⟩))
  exact bodyPost_ret (v := .agg (shp _ _ _)) (by simp [results, Try.results63, go_sem, shp] <;> rfl) rfl ⟨rfl, (Gr.refl _).alloc _ _⟩
theorem va_10 (w : World) : Calls Try.prog 63 #[.int .i64 87] w (RES 8 3 ⟨#[105, 118, 58, 118]⟩ w) := by
  go_enter Try.func63, Try.ntmps63
  go_wp2_with (go_at_call 56; first | ((with_reducible refine (within_yes _ _ _ (by omega) (by omega) _).mono ?_); rintro e w' ⟨rfl, rfl⟩) | ((with_reducible refine (within_no _ _ _ (by omega) _).mono ?_); rintro e w' ⟨rfl, rfl⟩))
  exact bodyPost_ret (v := .agg (shp _ _ _)) (by simp [results, Try.results63, go_sem, shp] <;> rfl) rfl ⟨rfl, (Gr.refl _).alloc _ _⟩
theorem va_11 (w : World) : Calls Try.prog 63 #[.int .i64 88] w (RES 8 0 ⟨#[105, 118, 58]⟩ w) := by
  go_enter Try.func63, Try.ntmps63
  go_wp2_with (go_at_call 56; first | ((with_reducible refine (within_yes _ _ _ (by omega) (by omega) _).mono ?_); rintro e w' ⟨rfl, rfl⟩) | ((with_reducible refine (within_no _ _ _ (by omega) _).mono ?_); rintro e w' ⟨rfl, rfl⟩))
  exact bodyPost_ret (v := .agg (shp _ _ _)) (by simp [results, Try.results63, go_sem, shp] <;> rfl) rfl ⟨rfl, (Gr.refl _).alloc _ _⟩
theorem va_12 (w : World) : Calls Try.prog 63 #[.int .i64 89] w (RES 8 1 ⟨#[105, 118, 58]⟩ w) := by
  go_enter Try.func63, Try.ntmps63
  go_wp2_with (go_at_call 56; first | ((with_reducible refine (within_yes _ _ _ (by omega) (by omega) _).mono ?_); rintro e w' ⟨rfl, rfl⟩) | ((with_reducible refine (within_no _ _ _ (by omega) _).mono ?_); rintro e w' ⟨rfl, rfl⟩))
  exact bodyPost_ret (v := .agg (shp _ _ _)) (by simp [results, Try.results63, go_sem, shp] <;> rfl) rfl ⟨rfl, (Gr.refl _).alloc _ _⟩
theorem va_13 (w : World) : Calls Try.prog 63 #[.int .i64 90] w (RES 8 2 ⟨#[105, 118, 58]⟩ w) := by
  go_enter Try.func63, Try.ntmps63
  go_wp2_with (go_at_call 56; first | ((with_reducible refine (within_yes _ _ _ (by omega) (by omega) _).mono ?_); rintro e w' ⟨rfl, rfl⟩) | ((with_reducible refine (within_no _ _ _ (by omega) _).mono ?_); rintro e w' ⟨rfl, rfl⟩))
  exact bodyPost_ret (v := .agg (shp _ _ _)) (by simp [results, Try.results63, go_sem, shp] <;> rfl) rfl ⟨rfl, (Gr.refl _).alloc _ _⟩
theorem va_14 (w : World) : Calls Try.prog 63 #[.int .i64 91] w (RES 8 3 ⟨#[105, 118, 58]⟩ w) := by
  go_enter Try.func63, Try.ntmps63
  go_wp2_with (go_at_call 56; first | ((with_reducible refine (within_yes _ _ _ (by omega) (by omega) _).mono ?_); rintro e w' ⟨rfl, rfl⟩) | ((with_reducible refine (within_no _ _ _ (by omega) _).mono ?_); rintro e w' ⟨rfl, rfl⟩))
  exact bodyPost_ret (v := .agg (shp _ _ _)) (by simp [results, Try.results63, go_sem, shp] <;> rfl) rfl ⟨rfl, (Gr.refl _).alloc _ _⟩
theorem va_15 (w : World) : Calls Try.prog 63 #[.int .i64 92] w (RES 7 2 ⟨#[105, 58, 118]⟩ w) := by
  go_enter Try.func63, Try.ntmps63
  go_wp2_with (go_at_call 56; first | ((with_reducible refine (within_yes _ _ _ (by omega) (by omega) _).mono ?_); rintro e w' ⟨rfl, rfl⟩) | ((with_reducible refine (within_no _ _ _ (by omega) _).mono ?_); rintro e w' ⟨rfl, rfl⟩))
  refine (memory_any _ _ _).mono ?_
  rintro e w1 ⟨rfl, hg⟩
  have hb := gr_block hg (heap_alloc_new w (.cells (shp 0 0 zs) 77))
  have HB := Lib.hid hb
  have HG := Lib.hid (gr_trans ((Gr.refl w).alloc _ _) hg)
  clear hb hg
  go_wp2_with (refine wpList_store_row rfl 77 _ _ rfl w.heap.size (shp _ _ _) rfl rfl 77 (shp 0 0 zs) HB.out infoS rfl (shp_one _ _ _) ?_)
  exact bodyPost_ret (v := .agg (shp _ _ _)) (results_cell_row Try.results63 _ _ w.heap.size 77 _ (0, 0) _ rfl (setRow_block HB.out) Try.underlying77 rfl infoS) rfl ⟨rfl, gr_setRow HG.out (by omega) _⟩
theorem va_16 (w : World) : Calls Try.prog 63 #[.int .i64 93] w (RES 7 3 ⟨#[105, 58, 118]⟩ w) := by
  go_enter Try.func63, Try.ntmps63
  go_wp2_with (go_at_call 56; first | ((with_reducible refine (within_yes _ _ _ (by omega) (by omega) _).mono ?_); rintro e w' ⟨rfl, rfl⟩) | ((with_reducible refine (within_no _ _ _ (by omega) _).mono ?_); rintro e w' ⟨rfl, rfl⟩))
  refine (memory_any _ _ _).mono ?_
  rintro e w1 ⟨rfl, hg⟩
  have hb := gr_block hg (heap_alloc_new w (.cells (shp 0 0 zs) 77))
  have HB := Lib.hid hb
  have HG := Lib.hid (gr_trans ((Gr.refl w).alloc _ _) hg)
  clear hb hg
  go_wp2_with (refine wpList_store_row rfl 77 _ _ rfl w.heap.size (shp _ _ _) rfl rfl 77 (shp 0 0 zs) HB.out infoS rfl (shp_one _ _ _) ?_)
  exact bodyPost_ret (v := .agg (shp _ _ _)) (results_cell_row Try.results63 _ _ w.heap.size 77 _ (0, 0) _ rfl (setRow_block HB.out) Try.underlying77 rfl infoS) rfl ⟨rfl, gr_setRow HG.out (by omega) _⟩
theorem vm_0 (w : World) : Calls Try.prog 64 #[.int .i64 12] w (RES 11 0 ⟨#[58, 118]⟩ w) := by
  go_enter Try.func64, Try.ntmps64
  go_wp2_with (go_at_call 56; first | ((with_reducible refine (within_yes _ _ _ (by omega) (by omega) _).mono ?_); rintro e w' ⟨rfl, rfl⟩) | ((with_reducible refine (within_no _ _ _ (by omega) _).mono ?_); rintro e w' ⟨rfl, rfl⟩))
  exact bodyPost_ret (v := .agg (shp _ _ _)) (by simp [results, Try.results64, go_sem, shp] <;> rfl) rfl ⟨rfl, (Gr.refl _).alloc _ _⟩
theorem vm_1 (w : World) : Calls Try.prog 64 #[.int .i64 13] w (RES 12 0 ⟨#[118, 118, 58, 118]⟩ w) := by
  go_enter Try.func64, Try.ntmps64
  go_wp2_with (go_at_call 56; first | ((with_reducible refine (within_yes _ _ _ (by omega) (by omega) _).mono ?_); rintro e w' ⟨rfl, rfl⟩) | ((with_reducible refine (within_no _ _ _ (by omega) _).mono ?_); rintro e w' ⟨rfl, rfl⟩))
  exact bodyPost_ret (v := .agg (shp _ _ _)) (by simp [results, Try.results64, go_sem, shp] <;> rfl) rfl ⟨rfl, (Gr.refl _).alloc _ _⟩
theorem vm_2 (w : World) : Calls Try.prog 64 #[.int .i64 14] w (RES 1 0 ⟨#[118, 118, 58, 118]⟩ w) := by
  go_enter Try.func64, Try.ntmps64
  go_wp2_with (go_at_call 56; first | ((with_reducible refine (within_yes _ _ _ (by omega) (by omega) _).mono ?_); rintro e w' ⟨rfl, rfl⟩) | ((with_reducible refine (within_no _ _ _ (by omega) _).mono ?_); rintro e w' ⟨rfl, rfl⟩))
  refine (plain_any _ _).mono ?_
  rintro e w1 ⟨rfl, hg⟩
  have hb := gr_block hg (heap_alloc_new w (.cells (shp 0 0 zs) 77))
  have HB := Lib.hid hb
  have HG := Lib.hid (gr_trans ((Gr.refl w).alloc _ _) hg)
  clear hb hg
  go_wp2_with (refine wpList_store_row rfl 77 _ _ rfl w.heap.size (shp _ _ _) rfl rfl 77 (shp 0 0 zs) HB.out infoS rfl (shp_one _ _ _) ?_)
  exact bodyPost_ret (v := .agg (shp _ _ _)) (results_cell_row Try.results64 _ _ w.heap.size 77 _ (0, 0) _ rfl (setRow_block HB.out) Try.underlying77 rfl infoS) rfl ⟨rfl, gr_setRow HG.out (by omega) _⟩
theorem vm_3 (w : World) : Calls Try.prog 64 #[.int .i64 15] w (RES 1 0 ⟨#[105, 58, 118]⟩ w) := by
  go_enter Try.func64, Try.ntmps64
  go_wp2_with (go_at_call 56; first | ((with_reducible refine (within_yes _ _ _ (by omega) (by omega) _).mono ?_); rintro e w' ⟨rfl, rfl⟩) | ((with_reducible refine (within_no _ _ _ (by omega) _).mono ?_); rintro e w' ⟨rfl, rfl⟩))
  refine (plain_any _ _).mono ?_
  rintro e w1 ⟨rfl, hg⟩
  have hb := gr_block hg (heap_alloc_new w (.cells (shp 0 0 zs) 77))
  have HB := Lib.hid hb
  have HG := Lib.hid (gr_trans ((Gr.refl w).alloc _ _) hg)
  clear hb hg
  go_wp2_with (refine wpList_store_row rfl 77 _ _ rfl w.heap.size (shp _ _ _) rfl rfl 77 (shp 0 0 zs) HB.out infoS rfl (shp_one _ _ _) ?_)
  exact bodyPost_ret (v := .agg (shp _ _ _)) (results_cell_row Try.results64 _ _ w.heap.size 77 _ (0, 0) _ rfl (setRow_block HB.out) Try.underlying77 rfl infoS) rfl ⟨rfl, gr_setRow HG.out (by omega) _⟩
theorem vm_4 (w : World) : Calls Try.prog 64 #[.int .i64 16] w (RES 1 0 ⟨#[105, 58, 118]⟩ w) := by
  go_enter Try.func64, Try.ntmps64
  go_wp2_with (go_at_call 56; first | ((with_reducible refine (within_yes _ _ _ (by omega) (by omega) _).mono ?_); rintro e w' ⟨rfl, rfl⟩) | ((with_reducible refine (within_no _ _ _ (by omega) _).mono ?_); rintro e w' ⟨rfl, rfl⟩))
  refine (plain_any _ _).mono ?_
  rintro e w1 ⟨rfl, hg⟩
  have hb := gr_block hg (heap_alloc_new w (.cells (shp 0 0 zs) 77))
  have HB := Lib.hid hb
  have HG := Lib.hid (gr_trans ((Gr.refl w).alloc _ _) hg)
  clear hb hg
  go_wp2_with (refine wpList_store_row rfl 77 _ _ rfl w.heap.size (shp _ _ _) rfl rfl 77 (shp 0 0 zs) HB.out infoS rfl (shp_one _ _ _) ?_)
  exact bodyPost_ret (v := .agg (shp _ _ _)) (results_cell_row Try.results64 _ _ w.heap.size 77 _ (0, 0) _ rfl (setRow_block HB.out) Try.underlying77 rfl infoS) rfl ⟨rfl, gr_setRow HG.out (by omega) _⟩
theorem vm_5 (w : World) : Calls Try.prog 64 #[.int .i64 17] w (RES 1 0 ⟨#[105, 58, 118]⟩ w) := by
  go_enter Try.func64, Try.ntmps64
  go_wp2_with (go_at_call 56; first | ((with_reducible refine (within_yes _ _ _ (by omega) (by omega) _).mono ?_); rintro e w' ⟨rfl, rfl⟩) | ((with_reducible refine (within_no _ _ _ (by omega) _).mono ?_); rintro e w' ⟨rfl, rfl⟩))
  refine (plain_any _ _).mono ?_
  rintro e w1 ⟨rfl, hg⟩
  have hb := gr_block hg (heap_alloc_new w (.cells (shp 0 0 zs) 77))
  have HB := Lib.hid hb
  have HG := Lib.hid (gr_trans ((Gr.refl w).alloc _ _) hg)
  clear hb hg
  go_wp2_with (refine wpList_store_row rfl 77 _ _ rfl w.heap.size (shp _ _ _) rfl rfl 77 (shp 0 0 zs) HB.out infoS rfl (shp_one _ _ _) ?_)
  exact bodyPost_ret (v := .agg (shp _ _ _)) (results_cell_row Try.results64 _ _ w.heap.size 77 _ (0, 0) _ rfl (setRow_block HB.out) Try.underlying77 rfl infoS) rfl ⟨rfl, gr_setRow HG.out (by omega) _⟩
theorem vm_6 (w : World) : Calls Try.prog 64 #[.int .i64 18] w (RES 1 0 ⟨#[108, 58, 118]⟩ w) := by
  go_enter Try.func64, Try.ntmps64
  go_wp2_with (go_at_call 56; first | ((with_reducible refine (within_yes _ _ _ (by omega) (by omega) _).mono ?_); rintro e w' ⟨rfl, rfl⟩) | ((with_reducible refine (within_no _ _ _ (by omega) _).mono ?_); rintro e w' ⟨rfl, rfl⟩))
  refine (plain_any _ _).mono ?_
  rintro e w1 ⟨rfl, hg⟩
  have hb := gr_block hg (heap_alloc_new w (.cells (shp 0 0 zs) 77))
  have HB := Lib.hid hb
  have HG := Lib.hid (gr_trans ((Gr.refl w).alloc _ _) hg)
  clear hb hg
  go_wp2_with (refine wpList_store_row rfl 77 _ _ rfl w.heap.size (shp _ _ _) rfl rfl 77 (shp 0 0 zs) HB.out infoS rfl (shp_one _ _ _) ?_)
  exact bodyPost_ret (v := .agg (shp _ _ _)) (results_cell_row Try.results64 _ _ w.heap.size 77 _ (0, 0) _ rfl (setRow_block HB.out) Try.underlying77 rfl infoS) rfl ⟨rfl, gr_setRow HG.out (by omega) _⟩
theorem vm_7 (n : Int) (h0 : 19 ≤ n) (h1 : n ≤ 20) (w : World) : Calls Try.prog 64 #[.int .i64 n] w (RES 0 0 ⟨#[]⟩ w) := by
  go_enter Try.func64, Try.ntmps64
  go_wp2_with (go_at_call 56; first | ((with_reducible refine (within_yes _ _ _ (by omega) (by omega) _).mono ?_); rintro e w' ⟨rfl, rfl⟩) | ((with_reducible refine (within_no _ _ _ (by omega) _).mono ?_); rintro e w' ⟨rfl, rfl⟩))
  exact bodyPost_ret (v := .agg (shp _ _ _)) (by simp [results, Try.results64, go_sem, shp] <;> rfl) rfl ⟨rfl, (Gr.refl _).alloc _ _⟩
theorem vm_8 (w : World) : Calls Try.prog 64 #[.int .i64 21] w (RES 13 16 ⟨#[118, 58, 105]⟩ w) := by
  go_enter Try.func64, Try.ntmps64
  go_wp2_with (go_at_call 56; first | ((with_reducible refine (within_yes _ _ _ (by omega) (by omega) _).mono ?_); rintro e w' ⟨rfl, rfl⟩) | ((with_reducible refine (within_no _ _ _ (by omega) _).mono ?_); rintro e w' ⟨rfl, rfl⟩))
  refine (lane_any _ _ _).mono ?_
  rintro e w1 ⟨rfl, hg⟩
  have hb := gr_block hg (heap_alloc_new w (.cells (shp 0 0 zs) 77))
  have HB := Lib.hid hb
  have HG := Lib.hid (gr_trans ((Gr.refl w).alloc _ _) hg)
  clear hb hg
  go_wp2_with (refine wpList_store_row rfl 77 _ _ rfl w.heap.size (shp _ _ _) rfl rfl 77 (shp 0 0 zs) HB.out infoS rfl (shp_one _ _ _) ?_)
  exact bodyPost_ret (v := .agg (shp _ _ _)) (results_cell_row Try.results64 _ _ w.heap.size 77 _ (0, 0) _ rfl (setRow_block HB.out) Try.underlying77 rfl infoS) rfl ⟨rfl, gr_setRow HG.out (by omega) _⟩
theorem vm_9 (w : World) : Calls Try.prog 64 #[.int .i64 22] w (RES 13 16 ⟨#[118, 58, 105]⟩ w) := by
  go_enter Try.func64, Try.ntmps64
  go_wp2_with (go_at_call 56; first | ((with_reducible refine (within_yes _ _ _ (by omega) (by omega) _).mono ?_); rintro e w' ⟨rfl, rfl⟩) | ((with_reducible refine (within_no _ _ _ (by omega) _).mono ?_); rintro e w' ⟨rfl, rfl⟩))
  refine (lane_any _ _ _).mono ?_
  rintro e w1 ⟨rfl, hg⟩
  have hb := gr_block hg (heap_alloc_new w (.cells (shp 0 0 zs) 77))
  have HB := Lib.hid hb
  have HG := Lib.hid (gr_trans ((Gr.refl w).alloc _ _) hg)
  clear hb hg
  go_wp2_with (refine wpList_store_row rfl 77 _ _ rfl w.heap.size (shp _ _ _) rfl rfl 77 (shp 0 0 zs) HB.out infoS rfl (shp_one _ _ _) ?_)
  exact bodyPost_ret (v := .agg (shp _ _ _)) (results_cell_row Try.results64 _ _ w.heap.size 77 _ (0, 0) _ rfl (setRow_block HB.out) Try.underlying77 rfl infoS) rfl ⟨rfl, gr_setRow HG.out (by omega) _⟩
theorem vm_10 (w : World) : Calls Try.prog 64 #[.int .i64 23] w (RES 13 16 ⟨#[118, 105, 58, 118]⟩ w) := by
  go_enter Try.func64, Try.ntmps64
  go_wp2_with (go_at_call 56; first | ((with_reducible refine (within_yes _ _ _ (by omega) (by omega) _).mono ?_); rintro e w' ⟨rfl, rfl⟩) | ((with_reducible refine (within_no _ _ _ (by omega) _).mono ?_); rintro e w' ⟨rfl, rfl⟩))
  refine (lane_any _ _ _).mono ?_
  rintro e w1 ⟨rfl, hg⟩
  have hb := gr_block hg (heap_alloc_new w (.cells (shp 0 0 zs) 77))
  have HB := Lib.hid hb
  have HG := Lib.hid (gr_trans ((Gr.refl w).alloc _ _) hg)
  clear hb hg
  go_wp2_with (refine wpList_store_row rfl 77 _ _ rfl w.heap.size (shp _ _ _) rfl rfl 77 (shp 0 0 zs) HB.out infoS rfl (shp_one _ _ _) ?_)
  exact bodyPost_ret (v := .agg (shp _ _ _)) (results_cell_row Try.results64 _ _ w.heap.size 77 _ (0, 0) _ rfl (setRow_block HB.out) Try.underlying77 rfl infoS) rfl ⟨rfl, gr_setRow HG.out (by omega) _⟩
theorem vm_11 (w : World) : Calls Try.prog 64 #[.int .i64 24] w (RES 13 8 ⟨#[118, 58, 105]⟩ w) := by
  go_enter Try.func64, Try.ntmps64
  go_wp2_with (go_at_call 56; first | ((with_reducible refine (within_yes _ _ _ (by omega) (by omega) _).mono ?_); rintro e w' ⟨rfl, rfl⟩) | ((with_reducible refine (within_no _ _ _ (by omega) _).mono ?_); rintro e w' ⟨rfl, rfl⟩))
  refine (lane_any _ _ _).mono ?_
  rintro e w1 ⟨rfl, hg⟩
  have hb := gr_block hg (heap_alloc_new w (.cells (shp 0 0 zs) 77))
  have HB := Lib.hid hb
  have HG := Lib.hid (gr_trans ((Gr.refl w).alloc _ _) hg)
  clear hb hg
  go_wp2_with (refine wpList_store_row rfl 77 _ _ rfl w.heap.size (shp _ _ _) rfl rfl 77 (shp 0 0 zs) HB.out infoS rfl (shp_one _ _ _) ?_)
  exact bodyPost_ret (v := .agg (shp _ _ _)) (results_cell_row Try.results64 _ _ w.heap.size 77 _ (0, 0) _ rfl (setRow_block HB.out) Try.underlying77 rfl infoS) rfl ⟨rfl, gr_setRow HG.out (by omega) _⟩
theorem vm_12 (w : World) : Calls Try.prog 64 #[.int .i64 25] w (RES 13 8 ⟨#[118, 58, 105]⟩ w) := by
  go_enter Try.func64, Try.ntmps64
  go_wp2_with (go_at_call 56; first | ((with_reducible refine (within_yes _ _ _ (by omega) (by omega) _).mono ?_); rintro e w' ⟨rfl, rfl⟩) | ((with_reducible refine (within_no _ _ _ (by omega) _).mono ?_); rintro e w' ⟨rfl, rfl⟩))
  refine (lane_any _ _ _).mono ?_
  rintro e w1 ⟨rfl, hg⟩
  have hb := gr_block hg (heap_alloc_new w (.cells (shp 0 0 zs) 77))
  have HB := Lib.hid hb
  have HG := Lib.hid (gr_trans ((Gr.refl w).alloc _ _) hg)
  clear hb hg
  go_wp2_with (refine wpList_store_row rfl 77 _ _ rfl w.heap.size (shp _ _ _) rfl rfl 77 (shp 0 0 zs) HB.out infoS rfl (shp_one _ _ _) ?_)
  exact bodyPost_ret (v := .agg (shp _ _ _)) (results_cell_row Try.results64 _ _ w.heap.size 77 _ (0, 0) _ rfl (setRow_block HB.out) Try.underlying77 rfl infoS) rfl ⟨rfl, gr_setRow HG.out (by omega) _⟩
theorem vm_13 (w : World) : Calls Try.prog 64 #[.int .i64 26] w (RES 13 8 ⟨#[118, 105, 58, 118]⟩ w) := by
  go_enter Try.func64, Try.ntmps64
  go_wp2_with (go_at_call 56; first | ((with_reducible refine (within_yes _ _ _ (by omega) (by omega) _).mono ?_); rintro e w' ⟨rfl, rfl⟩) | ((with_reducible refine (within_no _ _ _ (by omega) _).mono ?_); rintro e w' ⟨rfl, rfl⟩))
  refine (lane_any _ _ _).mono ?_
  rintro e w1 ⟨rfl, hg⟩
  have hb := gr_block hg (heap_alloc_new w (.cells (shp 0 0 zs) 77))
  have HB := Lib.hid hb
  have HG := Lib.hid (gr_trans ((Gr.refl w).alloc _ _) hg)
  clear hb hg
  go_wp2_with (refine wpList_store_row rfl 77 _ _ rfl w.heap.size (shp _ _ _) rfl rfl 77 (shp 0 0 zs) HB.out infoS rfl (shp_one _ _ _) ?_)
  exact bodyPost_ret (v := .agg (shp _ _ _)) (results_cell_row Try.results64 _ _ w.heap.size 77 _ (0, 0) _ rfl (setRow_block HB.out) Try.underlying77 rfl infoS) rfl ⟨rfl, gr_setRow HG.out (by omega) _⟩
theorem vm_14 (w : World) : Calls Try.prog 64 #[.int .i64 27] w (RES 13 4 ⟨#[118, 58, 105]⟩ w) := by
  go_enter Try.func64, Try.ntmps64
  go_wp2_with (go_at_call 56; first | ((with_reducible refine (within_yes _ _ _ (by omega) (by omega) _).mono ?_); rintro e w' ⟨rfl, rfl⟩) | ((with_reducible refine (within_no _ _ _ (by omega) _).mono ?_); rintro e w' ⟨rfl, rfl⟩))
  refine (lane_any _ _ _).mono ?_
  rintro e w1 ⟨rfl, hg⟩
  have hb := gr_block hg (heap_alloc_new w (.cells (shp 0 0 zs) 77))
  have HB := Lib.hid hb
  have HG := Lib.hid (gr_trans ((Gr.refl w).alloc _ _) hg)
  clear hb hg
  go_wp2_with (refine wpList_store_row rfl 77 _ _ rfl w.heap.size (shp _ _ _) rfl rfl 77 (shp 0 0 zs) HB.out infoS rfl (shp_one _ _ _) ?_)
  exact bodyPost_ret (v := .agg (shp _ _ _)) (results_cell_row Try.results64 _ _ w.heap.size 77 _ (0, 0) _ rfl (setRow_block HB.out) Try.underlying77 rfl infoS) rfl ⟨rfl, gr_setRow HG.out (by omega) _⟩
theorem vm_15 (w : World) : Calls Try.prog 64 #[.int .i64 28] w (RES 13 4 ⟨#[118, 105, 58, 118]⟩ w) := by
  go_enter Try.func64, Try.ntmps64
  go_wp2_with (go_at_call 56; first | ((with_reducible refine (within_yes _ _ _ (by omega) (by omega) _).mono ?_); rintro e w' ⟨rfl, rfl⟩) | ((with_reducible refine (within_no _ _ _ (by omega) _).mono ?_); rintro e w' ⟨rfl, rfl⟩))
  refine (lane_any _ _ _).mono ?_
  rintro e w1 ⟨rfl, hg⟩
  have hb := gr_block hg (heap_alloc_new w (.cells (shp 0 0 zs) 77))
  have HB := Lib.hid hb
  have HG := Lib.hid (gr_trans ((Gr.refl w).alloc _ _) hg)
  clear hb hg
  go_wp2_with (refine wpList_store_row rfl 77 _ _ rfl w.heap.size (shp _ _ _) rfl rfl 77 (shp 0 0 zs) HB.out infoS rfl (shp_one _ _ _) ?_)
  exact bodyPost_ret (v := .agg (shp _ _ _)) (results_cell_row Try.results64 _ _ w.heap.size 77 _ (0, 0) _ rfl (setRow_block HB.out) Try.underlying77 rfl infoS) rfl ⟨rfl, gr_setRow HG.out (by omega) _⟩
theorem vm_16 (w : World) : Calls Try.prog 64 #[.int .i64 29] w (RES 13 2 ⟨#[118, 58, 108]⟩ w) := by
  go_enter Try.func64, Try.ntmps64
  go_wp2_with (go_at_call 56; first | ((with_reducible refine (within_yes _ _ _ (by omega) (by omega) _).mono ?_); rintro e w' ⟨rfl, rfl⟩) | ((with_reducible refine (within_no _ _ _ (by omega) _).mono ?_); rintro e w' ⟨rfl, rfl⟩))
  refine (lane_any _ _ _).mono ?_
  rintro e w1 ⟨rfl, hg⟩
  have hb := gr_block hg (heap_alloc_new w (.cells (shp 0 0 zs) 77))
  have HB := Lib.hid hb
  have HG := Lib.hid (gr_trans ((Gr.refl w).alloc _ _) hg)
  clear hb hg
  go_wp2_with (refine wpList_store_row rfl 77 _ _ rfl w.heap.size (shp _ _ _) rfl rfl 77 (shp 0 0 zs) HB.out infoS rfl (shp_one _ _ _) ?_)
  exact bodyPost_ret (v := .agg (shp _ _ _)) (results_cell_row Try.results64 _ _ w.heap.size 77 _ (0, 0) _ rfl (setRow_block HB.out) Try.underlying77 rfl infoS) rfl ⟨rfl, gr_setRow HG.out (by omega) _⟩
theorem vm_17 (w : World) : Calls Try.prog 64 #[.int .i64 30] w (RES 13 2 ⟨#[118, 108, 58, 118]⟩ w) := by
  go_enter Try.func64, Try.ntmps64
  go_wp2_with (go_at_call 56; first | ((with_reducible refine (within_yes _ _ _ (by omega) (by omega) _).mono ?_); rintro e w' ⟨rfl, rfl⟩) | ((with_reducible refine (within_no _ _ _ (by omega) _).mono ?_); rintro e w' ⟨rfl, rfl⟩))
  refine (lane_any _ _ _).mono ?_
  rintro e w1 ⟨rfl, hg⟩
  have hb := gr_block hg (heap_alloc_new w (.cells (shp 0 0 zs) 77))
  have HB := Lib.hid hb
  have HG := Lib.hid (gr_trans ((Gr.refl w).alloc _ _) hg)
  clear hb hg
  go_wp2_with (refine wpList_store_row rfl 77 _ _ rfl w.heap.size (shp _ _ _) rfl rfl 77 (shp 0 0 zs) HB.out infoS rfl (shp_one _ _ _) ?_)
  exact bodyPost_ret (v := .agg (shp _ _ _)) (results_cell_row Try.results64 _ _ w.heap.size 77 _ (0, 0) _ rfl (setRow_block HB.out) Try.underlying77 rfl infoS) rfl ⟨rfl, gr_setRow HG.out (by omega) _⟩
theorem vm_18 (n : Int) (h0 : 31 ≤ n) (h1 : n ≤ 34) (w : World) : Calls Try.prog 64 #[.int .i64 n] w (RES 0 0 ⟨#[]⟩ w) := by
  go_enter Try.func64, Try.ntmps64
  go_wp2_with (go_at_call 56; first | ((with_reducible refine (within_yes _ _ _ (by omega) (by omega) _).mono ?_); rintro e w' ⟨rfl, rfl⟩) | ((with_reducible refine (within_no _ _ _ (by omega) _).mono ?_); rintro e w' ⟨rfl, rfl⟩))
  exact bodyPost_ret (v := .agg (shp _ _ _)) (by simp [results, Try.results64, go_sem, shp] <;> rfl) rfl ⟨rfl, (Gr.refl _).alloc _ _⟩
theorem vb_0 (n : Int) (h0 : 35 ≤ n) (h1 : n ≤ 64) (w : World) : Calls Try.prog 65 #[.int .i64 n] w (RES 1 0 ⟨#[118, 118, 58, 118]⟩ w) := by
  go_enter Try.func65, Try.ntmps65
  go_wp2_with (go_at_call 56; first | ((with_reducible refine (within_yes _ _ _ (by omega) (by omega) _).mono ?_); rintro e w' ⟨rfl, rfl⟩) | ((with_reducible refine (within_no _ _ _ (by omega) _).mono ?_); rintro e w' ⟨rfl, rfl⟩))
  refine (plain_any _ _).mono ?_
  rintro e w1 ⟨rfl, hg⟩
  have hb := gr_block hg (heap_alloc_new w (.cells (shp 0 0 zs) 77))
  have HB := Lib.hid hb
  have HG := Lib.hid (gr_trans ((Gr.refl w).alloc _ _) hg)
  clear hb hg
  go_wp2_with (refine wpList_store_row rfl 77 _ _ rfl w.heap.size (shp _ _ _) rfl rfl 77 (shp 0 0 zs) HB.out infoS rfl (shp_one _ _ _) ?_)
  exact bodyPost_ret (v := .agg (shp _ _ _)) (results_cell_row Try.results65 _ _ w.heap.size 77 _ (0, 0) _ rfl (setRow_block HB.out) Try.underlying77 rfl infoS) rfl ⟨rfl, gr_setRow HG.out (by omega) _⟩
theorem vb_1 (n : Int) (h0 : 65 ≤ n) (h1 : n ≤ 76) (w : World) : Calls Try.prog 65 #[.int .i64 n] w (RES 0 0 ⟨#[]⟩ w) := by
  go_enter Try.func65, Try.ntmps65
  go_wp2_with (go_at_call 56; first | ((with_reducible refine (within_yes _ _ _ (by omega) (by omega) _).mono ?_); rintro e w' ⟨rfl, rfl⟩) | ((with_reducible refine (within_no _ _ _ (by omega) _).mono ?_); rintro e w' ⟨rfl, rfl⟩))
  exact bodyPost_ret (v := .agg (shp _ _ _)) (by simp [results, Try.results65, go_sem, shp] <;> rfl) rfl ⟨rfl, (Gr.refl _).alloc _ _⟩
theorem vb_2 (w : World) : Calls Try.prog 65 #[.int .i64 77] w (RES 1 0 ⟨#[118, 58, 118]⟩ w) := by
  go_enter Try.func65, Try.ntmps65
  go_wp2_with (go_at_call 56; first | ((with_reducible refine (within_yes _ _ _ (by omega) (by omega) _).mono ?_); rintro e w' ⟨rfl, rfl⟩) | ((with_reducible refine (within_no _ _ _ (by omega) _).mono ?_); rintro e w' ⟨rfl, rfl⟩))
  refine (plain_any _ _).mono ?_
  rintro e w1 ⟨rfl, hg⟩
  have hb := gr_block hg (heap_alloc_new w (.cells (shp 0 0 zs) 77))
  have HB := Lib.hid hb
  have HG := Lib.hid (gr_trans ((Gr.refl w).alloc _ _) hg)
  clear hb hg
  go_wp2_with (refine wpList_store_row rfl 77 _ _ rfl w.heap.size (shp _ _ _) rfl rfl 77 (shp 0 0 zs) HB.out infoS rfl (shp_one _ _ _) ?_)
  exact bodyPost_ret (v := .agg (shp _ _ _)) (results_cell_row Try.results65 _ _ w.heap.size 77 _ (0, 0) _ rfl (setRow_block HB.out) Try.underlying77 rfl infoS) rfl ⟨rfl, gr_setRow HG.out (by omega) _⟩
theorem vb_3 (n : Int) (h0 : 78 ≤ n) (h1 : n ≤ 81) (w : World) : Calls Try.prog 65 #[.int .i64 n] w (RES 1 0 ⟨#[118, 118, 58, 118]⟩ w) := by
  go_enter Try.func65, Try.ntmps65
  go_wp2_with (go_at_call 56; first | ((with_reducible refine (within_yes _ _ _ (by omega) (by omega) _).mono ?_); rintro e w' ⟨rfl, rfl⟩) | ((with_reducible refine (within_no _ _ _ (by omega) _).mono ?_); rintro e w' ⟨rfl, rfl⟩))
  refine (plain_any _ _).mono ?_
  rintro e w1 ⟨rfl, hg⟩
  have hb := gr_block hg (heap_alloc_new w (.cells (shp 0 0 zs) 77))
  have HB := Lib.hid hb
  have HG := Lib.hid (gr_trans ((Gr.refl w).alloc _ _) hg)
  clear hb hg
  go_wp2_with (refine wpList_store_row rfl 77 _ _ rfl w.heap.size (shp _ _ _) rfl rfl 77 (shp 0 0 zs) HB.out infoS rfl (shp_one _ _ _) ?_)
  exact bodyPost_ret (v := .agg (shp _ _ _)) (results_cell_row Try.results65 _ _ w.heap.size 77 _ (0, 0) _ rfl (setRow_block HB.out) Try.underlying77 rfl infoS) rfl ⟨rfl, gr_setRow HG.out (by omega) _⟩
theorem vb_4 (w : World) : Calls Try.prog 65 #[.int .i64 82] w (RES 1 0 ⟨#[118, 118, 118, 58, 118]⟩ w) := by
  go_enter Try.func65, Try.ntmps65
  go_wp2_with (go_at_call 56; first | ((with_reducible refine (within_yes _ _ _ (by omega) (by omega) _).mono ?_); rintro e w' ⟨rfl, rfl⟩) | ((with_reducible refine (within_no _ _ _ (by omega) _).mono ?_); rintro e w' ⟨rfl, rfl⟩))
  refine (plain_any _ _).mono ?_
  rintro e w1 ⟨rfl, hg⟩
  have hb := gr_block hg (heap_alloc_new w (.cells (shp 0 0 zs) 77))
  have HB := Lib.hid hb
  have HG := Lib.hid (gr_trans ((Gr.refl w).alloc _ _) hg)
  clear hb hg
  go_wp2_with (refine wpList_store_row rfl 77 _ _ rfl w.heap.size (shp _ _ _) rfl rfl 77 (shp 0 0 zs) HB.out infoS rfl (shp_one _ _ _) ?_)
  exact bodyPost_ret (v := .agg (shp _ _ _)) (results_cell_row Try.results65 _ _ w.heap.size 77 _ (0, 0) _ rfl (setRow_block HB.out) Try.underlying77 rfl infoS) rfl ⟨rfl, gr_setRow HG.out (by omega) _⟩
theorem vb_5 (w : World) : Calls Try.prog 65 #[.int .i64 83] w (RES 1 0 ⟨#[118, 58, 105]⟩ w) := by
  go_enter Try.func65, Try.ntmps65
  go_wp2_with (go_at_call 56; first | ((with_reducible refine (within_yes _ _ _ (by omega) (by omega) _).mono ?_); rintro e w' ⟨rfl, rfl⟩) | ((with_reducible refine (within_no _ _ _ (by omega) _).mono ?_); rintro e w' ⟨rfl, rfl⟩))
  refine (plain_any _ _).mono ?_
  rintro e w1 ⟨rfl, hg⟩
  have hb := gr_block hg (heap_alloc_new w (.cells (shp 0 0 zs) 77))
  have HB := Lib.hid hb
  have HG := Lib.hid (gr_trans ((Gr.refl w).alloc _ _) hg)
  clear hb hg
  go_wp2_with (refine wpList_store_row rfl 77 _ _ rfl w.heap.size (shp _ _ _) rfl rfl 77 (shp 0 0 zs) HB.out infoS rfl (shp_one _ _ _) ?_)
  exact bodyPost_ret (v := .agg (shp _ _ _)) (results_cell_row Try.results65 _ _ w.heap.size 77 _ (0, 0) _ rfl (setRow_block HB.out) Try.underlying77 rfl infoS) rfl ⟨rfl, gr_setRow HG.out (by omega) _⟩
theorem vn_0 (n : Int) (h0 : 94 ≤ n) (h1 : n ≤ 95) (w : World) : Calls Try.prog 66 #[.int .i64 n] w (RES 0 0 ⟨#[]⟩ w) := by
  go_enter Try.func66, Try.ntmps66
  go_wp2_with (go_at_call 56; first | ((with_reducible refine (within_yes _ _ _ (by omega) (by omega) _).mono ?_); rintro e w' ⟨rfl, rfl⟩) | ((with_reducible refine (within_no _ _ _ (by omega) _).mono ?_); rintro e w' ⟨rfl, rfl⟩))
  exact bodyPost_ret (v := .agg (shp _ _ _)) (by simp [results, Try.results66, go_sem, shp] <;> rfl) rfl ⟨rfl, (Gr.refl _).alloc _ _⟩
theorem vn_1 (n : Int) (h0 : 96 ≤ n) (h1 : n ≤ 98) (w : World) : Calls Try.prog 66 #[.int .i64 n] w (RES 1 0 ⟨#[118, 58, 118]⟩ w) := by
  go_enter Try.func66, Try.ntmps66
  go_wp2_with (go_at_call 56; first | ((with_reducible refine (within_yes _ _ _ (by omega) (by omega) _).mono ?_); rintro e w' ⟨rfl, rfl⟩) | ((with_reducible refine (within_no _ _ _ (by omega) _).mono ?_); rintro e w' ⟨rfl, rfl⟩))
  refine (plain_any _ _).mono ?_
  rintro e w1 ⟨rfl, hg⟩
  have hb := gr_block hg (heap_alloc_new w (.cells (shp 0 0 zs) 77))
  have HB := Lib.hid hb
  have HG := Lib.hid (gr_trans ((Gr.refl w).alloc _ _) hg)
  clear hb hg
  go_wp2_with (refine wpList_store_row rfl 77 _ _ rfl w.heap.size (shp _ _ _) rfl rfl 77 (shp 0 0 zs) HB.out infoS rfl (shp_one _ _ _) ?_)
  exact bodyPost_ret (v := .agg (shp _ _ _)) (results_cell_row Try.results66 _ _ w.heap.size 77 _ (0, 0) _ rfl (setRow_block HB.out) Try.underlying77 rfl infoS) rfl ⟨rfl, gr_setRow HG.out (by omega) _⟩
theorem vn_2 (n : Int) (h0 : 99 ≤ n) (h1 : n ≤ 100) (w : World) : Calls Try.prog 66 #[.int .i64 n] w (RES 1 0 ⟨#[118, 58, 105]⟩ w) := by
  go_enter Try.func66, Try.ntmps66
  go_wp2_with (go_at_call 56; first | ((with_reducible refine (within_yes _ _ _ (by omega) (by omega) _).mono ?_); rintro e w' ⟨rfl, rfl⟩) | ((with_reducible refine (within_no _ _ _ (by omega) _).mono ?_); rintro e w' ⟨rfl, rfl⟩))
  refine (plain_any _ _).mono ?_
  rintro e w1 ⟨rfl, hg⟩
  have hb := gr_block hg (heap_alloc_new w (.cells (shp 0 0 zs) 77))
  have HB := Lib.hid hb
  have HG := Lib.hid (gr_trans ((Gr.refl w).alloc _ _) hg)
  clear hb hg
  go_wp2_with (refine wpList_store_row rfl 77 _ _ rfl w.heap.size (shp _ _ _) rfl rfl 77 (shp 0 0 zs) HB.out infoS rfl (shp_one _ _ _) ?_)
  exact bodyPost_ret (v := .agg (shp _ _ _)) (results_cell_row Try.results66 _ _ w.heap.size 77 _ (0, 0) _ rfl (setRow_block HB.out) Try.underlying77 rfl infoS) rfl ⟨rfl, gr_setRow HG.out (by omega) _⟩
theorem vn_3 (n : Int) (h0 : 101 ≤ n) (h1 : n ≤ 102) (w : World) : Calls Try.prog 66 #[.int .i64 n] w (RES 1 0 ⟨#[118, 118, 58, 118]⟩ w) := by
  go_enter Try.func66, Try.ntmps66
  go_wp2_with (go_at_call 56; first | ((with_reducible refine (within_yes _ _ _ (by omega) (by omega) _).mono ?_); rintro e w' ⟨rfl, rfl⟩) | ((with_reducible refine (within_no _ _ _ (by omega) _).mono ?_); rintro e w' ⟨rfl, rfl⟩))
  refine (plain_any _ _).mono ?_
  rintro e w1 ⟨rfl, hg⟩
  have hb := gr_block hg (heap_alloc_new w (.cells (shp 0 0 zs) 77))
  have HB := Lib.hid hb
  have HG := Lib.hid (gr_trans ((Gr.refl w).alloc _ _) hg)
  clear hb hg
  go_wp2_with (refine wpList_store_row rfl 77 _ _ rfl w.heap.size (shp _ _ _) rfl rfl 77 (shp 0 0 zs) HB.out infoS rfl (shp_one _ _ _) ?_)
  exact bodyPost_ret (v := .agg (shp _ _ _)) (results_cell_row Try.results66 _ _ w.heap.size 77 _ (0, 0) _ rfl (setRow_block HB.out) Try.underlying77 rfl infoS) rfl ⟨rfl, gr_setRow HG.out (by omega) _⟩
theorem vn_4 (n : Int) (h0 : 103 ≤ n) (h1 : n ≤ 106) (w : World) : Calls Try.prog 66 #[.int .i64 n] w (RES 0 0 ⟨#[]⟩ w) := by
  go_enter Try.func66, Try.ntmps66
  go_wp2_with (go_at_call 56; first | ((with_reducible refine (within_yes _ _ _ (by omega) (by omega) _).mono ?_); rintro e w' ⟨rfl, rfl⟩) | ((with_reducible refine (within_no _ _ _ (by omega) _).mono ?_); rintro e w' ⟨rfl, rfl⟩))
  exact bodyPost_ret (v := .agg (shp _ _ _)) (by simp [results, Try.results66, go_sem, shp] <;> rfl) rfl ⟨rfl, (Gr.refl _).alloc _ _⟩
theorem vn_5 (n : Int) (h0 : 107 ≤ n) (h1 : n ≤ 109) (w : World) : Calls Try.prog 66 #[.int .i64 n] w (RES 1 0 ⟨#[118, 105, 58, 118]⟩ w) := by
  go_enter Try.func66, Try.ntmps66
  go_wp2_with (go_at_call 56; first | ((with_reducible refine (within_yes _ _ _ (by omega) (by omega) _).mono ?_); rintro e w' ⟨rfl, rfl⟩) | ((with_reducible refine (within_no _ _ _ (by omega) _).mono ?_); rintro e w' ⟨rfl, rfl⟩))
  refine (plain_any _ _).mono ?_
  rintro e w1 ⟨rfl, hg⟩
  have hb := gr_block hg (heap_alloc_new w (.cells (shp 0 0 zs) 77))
  have HB := Lib.hid hb
  have HG := Lib.hid (gr_trans ((Gr.refl w).alloc _ _) hg)
  clear hb hg
  go_wp2_with (refine wpList_store_row rfl 77 _ _ rfl w.heap.size (shp _ _ _) rfl rfl 77 (shp 0 0 zs) HB.out infoS rfl (shp_one _ _ _) ?_)
  exact bodyPost_ret (v := .agg (shp _ _ _)) (results_cell_row Try.results66 _ _ w.heap.size 77 _ (0, 0) _ rfl (setRow_block HB.out) Try.underlying77 rfl infoS) rfl ⟨rfl, gr_setRow HG.out (by omega) _⟩
theorem vn_6 (n : Int) (h0 : 110 ≤ n) (h1 : n ≤ 115) (w : World) : Calls Try.prog 66 #[.int .i64 n] w (RES 1 0 ⟨#[118, 118, 58, 118]⟩ w) := by
  go_enter Try.func66, Try.ntmps66
  go_wp2_with (go_at_call 56; first | ((with_reducible refine (within_yes _ _ _ (by omega) (by omega) _).mono ?_); rintro e w' ⟨rfl, rfl⟩) | ((with_reducible refine (within_no _ _ _ (by omega) _).mono ?_); rintro e w' ⟨rfl, rfl⟩))
  refine (plain_any _ _).mono ?_
  rintro e w1 ⟨rfl, hg⟩
  have hb := gr_block hg (heap_alloc_new w (.cells (shp 0 0 zs) 77))
  have HB := Lib.hid hb
  have HG := Lib.hid (gr_trans ((Gr.refl w).alloc _ _) hg)
  clear hb hg
  go_wp2_with (refine wpList_store_row rfl 77 _ _ rfl w.heap.size (shp _ _ _) rfl rfl 77 (shp 0 0 zs) HB.out infoS rfl (shp_one _ _ _) ?_)
  exact bodyPost_ret (v := .agg (shp _ _ _)) (results_cell_row Try.results66 _ _ w.heap.size 77 _ (0, 0) _ rfl (setRow_block HB.out) Try.underlying77 rfl infoS) rfl ⟨rfl, gr_setRow HG.out (by omega) _⟩
theorem vn_7 (n : Int) (h0 : 116 ≤ n) (h1 : n ≤ 117) (w : World) : Calls Try.prog 66 #[.int .i64 n] w (RES 0 0 ⟨#[]⟩ w) := by
  go_enter Try.func66, Try.ntmps66
  go_wp2_with (go_at_call 56; first | ((with_reducible refine (within_yes _ _ _ (by omega) (by omega) _).mono ?_); rintro e w' ⟨rfl, rfl⟩) | ((with_reducible refine (within_no _ _ _ (by omega) _).mono ?_); rintro e w' ⟨rfl, rfl⟩))
  exact bodyPost_ret (v := .agg (shp _ _ _)) (by simp [results, Try.results66, go_sem, shp] <;> rfl) rfl ⟨rfl, (Gr.refl _).alloc _ _⟩
theorem vn_8 (n : Int) (h0 : 118 ≤ n) (h1 : n ≤ 121) (w : World) : Calls Try.prog 66 #[.int .i64 n] w (RES 1 0 ⟨#[118, 118, 58, 118]⟩ w) := by
  go_enter Try.func66, Try.ntmps66
  go_wp2_with (go_at_call 56; first | ((with_reducible refine (within_yes _ _ _ (by omega) (by omega) _).mono ?_); rintro e w' ⟨rfl, rfl⟩) | ((with_reducible refine (within_no _ _ _ (by omega) _).mono ?_); rintro e w' ⟨rfl, rfl⟩))
  refine (plain_any _ _).mono ?_
  rintro e w1 ⟨rfl, hg⟩
  have hb := gr_block hg (heap_alloc_new w (.cells (shp 0 0 zs) 77))
  have HB := Lib.hid hb
  have HG := Lib.hid (gr_trans ((Gr.refl w).alloc _ _) hg)
  clear hb hg
  go_wp2_with (refine wpList_store_row rfl 77 _ _ rfl w.heap.size (shp _ _ _) rfl rfl 77 (shp 0 0 zs) HB.out infoS rfl (shp_one _ _ _) ?_)
  exact bodyPost_ret (v := .agg (shp _ _ _)) (results_cell_row Try.results66 _ _ w.heap.size 77 _ (0, 0) _ rfl (setRow_block HB.out) Try.underlying77 rfl infoS) rfl ⟨rfl, gr_setRow HG.out (by omega) _⟩
theorem vn_9 (w : World) : Calls Try.prog 66 #[.int .i64 122] w (RES 0 0 ⟨#[]⟩ w) := by
  go_enter Try.func66, Try.ntmps66
  go_wp2_with (go_at_call 56; first | ((with_reducible refine (within_yes _ _ _ (by omega) (by omega) _).mono ?_); rintro e w' ⟨rfl, rfl⟩) | ((with_reducible refine (within_no _ _ _ (by omega) _).mono ?_); rintro e w' ⟨rfl, rfl⟩))
  exact bodyPost_ret (v := .agg (shp _ _ _)) (by simp [results, Try.results66, go_sem, shp] <;> rfl) rfl ⟨rfl, (Gr.refl _).alloc _ _⟩
theorem vn_10 (w : World) : Calls Try.prog 66 #[.int .i64 123] w (RES 1 0 ⟨#[118, 118, 58, 118]⟩ w) := by
  go_enter Try.func66, Try.ntmps66
  go_wp2_with (go_at_call 56; first | ((with_reducible refine (within_yes _ _ _ (by omega) (by omega) _).mono ?_); rintro e w' ⟨rfl, rfl⟩) | ((with_reducible refine (within_no _ _ _ (by omega) _).mono ?_); rintro e w' ⟨rfl, rfl⟩))
  refine (plain_any _ _).mono ?_
  rintro e w1 ⟨rfl, hg⟩
  have hb := gr_block hg (heap_alloc_new w (.cells (shp 0 0 zs) 77))
  have HB := Lib.hid hb
  have HG := Lib.hid (gr_trans ((Gr.refl w).alloc _ _) hg)
  clear hb hg
  go_wp2_with (refine wpList_store_row rfl 77 _ _ rfl w.heap.size (shp _ _ _) rfl rfl 77 (shp 0 0 zs) HB.out infoS rfl (shp_one _ _ _) ?_)
  exact bodyPost_ret (v := .agg (shp _ _ _)) (results_cell_row Try.results66 _ _ w.heap.size 77 _ (0, 0) _ rfl (setRow_block HB.out) Try.underlying77 rfl infoS) rfl ⟨rfl, gr_setRow HG.out (by omega) _⟩
theorem vn_11 (n : Int) (h0 : 124 ≤ n) (h1 : n ≤ 129) (w : World) : Calls Try.prog 66 #[.int .i64 n] w (RES 1 0 ⟨#[118, 58, 118]⟩ w) := by
  go_enter Try.func66, Try.ntmps66
  go_wp2_with (go_at_call 56; first | ((with_reducible refine (within_yes _ _ _ (by omega) (by omega) _).mono ?_); rintro e w' ⟨rfl, rfl⟩) | ((with_reducible refine (within_no _ _ _ (by omega) _).mono ?_); rintro e w' ⟨rfl, rfl⟩))
  refine (plain_any _ _).mono ?_
  rintro e w1 ⟨rfl, hg⟩
  have hb := gr_block hg (heap_alloc_new w (.cells (shp 0 0 zs) 77))
  have HB := Lib.hid hb
  have HG := Lib.hid (gr_trans ((Gr.refl w).alloc _ _) hg)
  clear hb hg
  go_wp2_with (refine wpList_store_row rfl 77 _ _ rfl w.heap.size (shp _ _ _) rfl rfl 77 (shp 0 0 zs) HB.out infoS rfl (shp_one _ _ _) ?_)
  exact bodyPost_ret (v := .agg (shp _ _ _)) (results_cell_row Try.results66 _ _ w.heap.size 77 _ (0, 0) _ rfl (setRow_block HB.out) Try.underlying77 rfl infoS) rfl ⟨rfl, gr_setRow HG.out (by omega) _⟩
theorem vn_12 (w : World) : Calls Try.prog 66 #[.int .i64 130] w (RES 1 0 ⟨#[118, 118, 58, 118]⟩ w) := by
  go_enter Try.func66, Try.ntmps66
  go_wp2_with (go_at_call 56; first | ((with_reducible refine (within_yes _ _ _ (by omega) (by omega) _).mono ?_); rintro e w' ⟨rfl, rfl⟩) | ((with_reducible refine (within_no _ _ _ (by omega) _).mono ?_); rintro e w' ⟨rfl, rfl⟩))
  refine (plain_any _ _).mono ?_
  rintro e w1 ⟨rfl, hg⟩
  have hb := gr_block hg (heap_alloc_new w (.cells (shp 0 0 zs) 77))
  have HB := Lib.hid hb
  have HG := Lib.hid (gr_trans ((Gr.refl w).alloc _ _) hg)
  clear hb hg
  go_wp2_with (refine wpList_store_row rfl 77 _ _ rfl w.heap.size (shp _ _ _) rfl rfl 77 (shp 0 0 zs) HB.out infoS rfl (shp_one _ _ _) ?_)
  exact bodyPost_ret (v := .agg (shp _ _ _)) (results_cell_row Try.results66 _ _ w.heap.size 77 _ (0, 0) _ rfl (setRow_block HB.out) Try.underlying77 rfl infoS) rfl ⟨rfl, gr_setRow HG.out (by omega) _⟩
theorem vn_13 (n : Int) (h0 : 131 ≤ n) (h1 : n ≤ 132) (w : World) : Calls Try.prog 66 #[.int .i64 n] w (RES 1 0 ⟨#[118, 58, 105]⟩ w) := by
  go_enter Try.func66, Try.ntmps66
  go_wp2_with (go_at_call 56; first | ((with_reducible refine (within_yes _ _ _ (by omega) (by omega) _).mono ?_); rintro e w' ⟨rfl, rfl⟩) | ((with_reducible refine (within_no _ _ _ (by omega) _).mono ?_); rintro e w' ⟨rfl, rfl⟩))
  refine (plain_any _ _).mono ?_
  rintro e w1 ⟨rfl, hg⟩
  have hb := gr_block hg (heap_alloc_new w (.cells (shp 0 0 zs) 77))
  have HB := Lib.hid hb
  have HG := Lib.hid (gr_trans ((Gr.refl w).alloc _ _) hg)
  clear hb hg
  go_wp2_with (refine wpList_store_row rfl 77 _ _ rfl w.heap.size (shp _ _ _) rfl rfl 77 (shp 0 0 zs) HB.out infoS rfl (shp_one _ _ _) ?_)
  exact bodyPost_ret (v := .agg (shp _ _ _)) (results_cell_row Try.results66 _ _ w.heap.size 77 _ (0, 0) _ rfl (setRow_block HB.out) Try.underlying77 rfl infoS) rfl ⟨rfl, gr_setRow HG.out (by omega) _⟩
theorem vn_14 (n : Int) (h0 : 133 ≤ n) (h1 : n ≤ 134) (w : World) : Calls Try.prog 66 #[.int .i64 n] w (RES 1 0 ⟨#[118, 118, 58, 118]⟩ w) := by
  go_enter Try.func66, Try.ntmps66
  go_wp2_with (go_at_call 56; first | ((with_reducible refine (within_yes _ _ _ (by omega) (by omega) _).mono ?_); rintro e w' ⟨rfl, rfl⟩) | ((with_reducible refine (within_no _ _ _ (by omega) _).mono ?_); rintro e w' ⟨rfl, rfl⟩))
  refine (plain_any _ _).mono ?_
  rintro e w1 ⟨rfl, hg⟩
  have hb := gr_block hg (heap_alloc_new w (.cells (shp 0 0 zs) 77))
  have HB := Lib.hid hb
  have HG := Lib.hid (gr_trans ((Gr.refl w).alloc _ _) hg)
  clear hb hg
  go_wp2_with (refine wpList_store_row rfl 77 _ _ rfl w.heap.size (shp _ _ _) rfl rfl 77 (shp 0 0 zs) HB.out infoS rfl (shp_one _ _ _) ?_)
  exact bodyPost_ret (v := .agg (shp _ _ _)) (results_cell_row Try.results66 _ _ w.heap.size 77 _ (0, 0) _ rfl (setRow_block HB.out) Try.underlying77 rfl infoS) rfl ⟨rfl, gr_setRow HG.out (by omega) _⟩
theorem vn_15 (n : Int) (h0 : 135 ≤ n) (h1 : n ≤ 138) (w : World) : Calls Try.prog 66 #[.int .i64 n] w (RES 1 0 ⟨#[118, 58, 118]⟩ w) := by
  go_enter Try.func66, Try.ntmps66
  go_wp2_with (go_at_call 56; first | ((with_reducible refine (within_yes _ _ _ (by omega) (by omega) _).mono ?_); rintro e w' ⟨rfl, rfl⟩) | ((with_reducible refine (within_no _ _ _ (by omega) _).mono ?_); rintro e w' ⟨rfl, rfl⟩))
  refine (plain_any _ _).mono ?_
  rintro e w1 ⟨rfl, hg⟩
  have hb := gr_block hg (heap_alloc_new w (.cells (shp 0 0 zs) 77))
  have HB := Lib.hid hb
  have HG := Lib.hid (gr_trans ((Gr.refl w).alloc _ _) hg)
  clear hb hg
  go_wp2_with (refine wpList_store_row rfl 77 _ _ rfl w.heap.size (shp _ _ _) rfl rfl 77 (shp 0 0 zs) HB.out infoS rfl (shp_one _ _ _) ?_)
  exact bodyPost_ret (v := .agg (shp _ _ _)) (results_cell_row Try.results66 _ _ w.heap.size 77 _ (0, 0) _ rfl (setRow_block HB.out) Try.underlying77 rfl infoS) rfl ⟨rfl, gr_setRow HG.out (by omega) _⟩
theorem vn_16 (n : Int) (h0 : 139 ≤ n) (h1 : n ≤ 141) (w : World) : Calls Try.prog 66 #[.int .i64 n] w (RES 1 0 ⟨#[118, 105, 58, 118]⟩ w) := by
  go_enter Try.func66, Try.ntmps66
  go_wp2_with (go_at_call 56; first | ((with_reducible refine (within_yes _ _ _ (by omega) (by omega) _).mono ?_); rintro e w' ⟨rfl, rfl⟩) | ((with_reducible refine (within_no _ _ _ (by omega) _).mono ?_); rintro e w' ⟨rfl, rfl⟩))
  refine (plain_any _ _).mono ?_
  rintro e w1 ⟨rfl, hg⟩
  have hb := gr_block hg (heap_alloc_new w (.cells (shp 0 0 zs) 77))
  have HB := Lib.hid hb
  have HG := Lib.hid (gr_trans ((Gr.refl w).alloc _ _) hg)
  clear hb hg
  go_wp2_with (refine wpList_store_row rfl 77 _ _ rfl w.heap.size (shp _ _ _) rfl rfl 77 (shp 0 0 zs) HB.out infoS rfl (shp_one _ _ _) ?_)
  exact bodyPost_ret (v := .agg (shp _ _ _)) (results_cell_row Try.results66 _ _ w.heap.size 77 _ (0, 0) _ rfl (setRow_block HB.out) Try.underlying77 rfl infoS) rfl ⟨rfl, gr_setRow HG.out (by omega) _⟩
theorem vn_17 (n : Int) (h0 : 142 ≤ n) (h1 : n ≤ 147) (w : World) : Calls Try.prog 66 #[.int .i64 n] w (RES 1 0 ⟨#[118, 118, 58, 118]⟩ w) := by
  go_enter Try.func66, Try.ntmps66
  go_wp2_with (go_at_call 56; first | ((with_reducible refine (within_yes _ _ _ (by omega) (by omega) _).mono ?_); rintro e w' ⟨rfl, rfl⟩) | ((with_reducible refine (within_no _ _ _ (by omega) _).mono ?_); rintro e w' ⟨rfl, rfl⟩))
  refine (plain_any _ _).mono ?_
  rintro e w1 ⟨rfl, hg⟩
  have hb := gr_block hg (heap_alloc_new w (.cells (shp 0 0 zs) 77))
  have HB := Lib.hid hb
  have HG := Lib.hid (gr_trans ((Gr.refl w).alloc _ _) hg)
  clear hb hg
  go_wp2_with (refine wpList_store_row rfl 77 _ _ rfl w.heap.size (shp _ _ _) rfl rfl 77 (shp 0 0 zs) HB.out infoS rfl (shp_one _ _ _) ?_)
  exact bodyPost_ret (v := .agg (shp _ _ _)) (results_cell_row Try.results66 _ _ w.heap.size 77 _ (0, 0) _ rfl (setRow_block HB.out) Try.underlying77 rfl infoS) rfl ⟨rfl, gr_setRow HG.out (by omega) _⟩
theorem vn_18 (w : World) : Calls Try.prog 66 #[.int .i64 148] w (RES 0 0 ⟨#[]⟩ w) := by
  go_enter Try.func66, Try.ntmps66
  go_wp2_with (go_at_call 56; first | ((with_reducible refine (within_yes _ _ _ (by omega) (by omega) _).mono ?_); rintro e w' ⟨rfl, rfl⟩) | ((with_reducible refine (within_no _ _ _ (by omega) _).mono ?_); rintro e w' ⟨rfl, rfl⟩))
  exact bodyPost_ret (v := .agg (shp _ _ _)) (by simp [results, Try.results66, go_sem, shp] <;> rfl) rfl ⟨rfl, (Gr.refl _).alloc _ _⟩
theorem vn_19 (n : Int) (h0 : 149 ≤ n) (h1 : n ≤ 153) (w : World) : Calls Try.prog 66 #[.int .i64 n] w (RES 1 0 ⟨#[118, 118, 58, 118]⟩ w) := by
  go_enter Try.func66, Try.ntmps66
  go_wp2_with (go_at_call 56; first | ((with_reducible refine (within_yes _ _ _ (by omega) (by omega) _).mono ?_); rintro e w' ⟨rfl, rfl⟩) | ((with_reducible refine (within_no _ _ _ (by omega) _).mono ?_); rintro e w' ⟨rfl, rfl⟩))
  refine (plain_any _ _).mono ?_
  rintro e w1 ⟨rfl, hg⟩
  have hb := gr_block hg (heap_alloc_new w (.cells (shp 0 0 zs) 77))
  have HB := Lib.hid hb
  have HG := Lib.hid (gr_trans ((Gr.refl w).alloc _ _) hg)
  clear hb hg
  go_wp2_with (refine wpList_store_row rfl 77 _ _ rfl w.heap.size (shp _ _ _) rfl rfl 77 (shp 0 0 zs) HB.out infoS rfl (shp_one _ _ _) ?_)
  exact bodyPost_ret (v := .agg (shp _ _ _)) (results_cell_row Try.results66 _ _ w.heap.size 77 _ (0, 0) _ rfl (setRow_block HB.out) Try.underlying77 rfl infoS) rfl ⟨rfl, gr_setRow HG.out (by omega) _⟩
theorem vn_20 (w : World) : Calls Try.prog 66 #[.int .i64 154] w (RES 0 0 ⟨#[]⟩ w) := by
  go_enter Try.func66, Try.ntmps66
  go_wp2_with (go_at_call 56; first | ((with_reducible refine (within_yes _ _ _ (by omega) (by omega) _).mono ?_); rintro e w' ⟨rfl, rfl⟩) | ((with_reducible refine (within_no _ _ _ (by omega) _).mono ?_); rintro e w' ⟨rfl, rfl⟩))
  exact bodyPost_ret (v := .agg (shp _ _ _)) (by simp [results, Try.results66, go_sem, shp] <;> rfl) rfl ⟨rfl, (Gr.refl _).alloc _ _⟩
theorem vn_21 (n : Int) (h0 : 155 ≤ n) (h1 : n ≤ 159) (w : World) : Calls Try.prog 66 #[.int .i64 n] w (RES 1 0 ⟨#[118, 118, 58, 118]⟩ w) := by
  go_enter Try.func66, Try.ntmps66
  go_wp2_with (go_at_call 56; first | ((with_reducible refine (within_yes _ _ _ (by omega) (by omega) _).mono ?_); rintro e w' ⟨rfl, rfl⟩) | ((with_reducible refine (within_no _ _ _ (by omega) _).mono ?_); rintro e w' ⟨rfl, rfl⟩))
  refine (plain_any _ _).mono ?_
  rintro e w1 ⟨rfl, hg⟩
  have hb := gr_block hg (heap_alloc_new w (.cells (shp 0 0 zs) 77))
  have HB := Lib.hid hb
  have HG := Lib.hid (gr_trans ((Gr.refl w).alloc _ _) hg)
  clear hb hg
  go_wp2_with (refine wpList_store_row rfl 77 _ _ rfl w.heap.size (shp _ _ _) rfl rfl 77 (shp 0 0 zs) HB.out infoS rfl (shp_one _ _ _) ?_)
  exact bodyPost_ret (v := .agg (shp _ _ _)) (results_cell_row Try.results66 _ _ w.heap.size 77 _ (0, 0) _ rfl (setRow_block HB.out) Try.underlying77 rfl infoS) rfl ⟨rfl, gr_setRow HG.out (by omega) _⟩
theorem vw_0 (n : Int) (h0 : 160 ≤ n) (h1 : n ≤ 161) (w : World) : Calls Try.prog 67 #[.int .i64 n] w (RES 1 0 ⟨#[118, 58, 118]⟩ w) := by
  go_enter Try.func67, Try.ntmps67
  go_wp2_with (go_at_call 56; first | ((with_reducible refine (within_yes _ _ _ (by omega) (by omega) _).mono ?_); rintro e w' ⟨rfl, rfl⟩) | ((with_reducible refine (within_no _ _ _ (by omega) _).mono ?_); rintro e w' ⟨rfl, rfl⟩))
  refine (plain_any _ _).mono ?_
  rintro e w1 ⟨rfl, hg⟩
  have hb := gr_block hg (heap_alloc_new w (.cells (shp 0 0 zs) 77))
  have HB := Lib.hid hb
  have HG := Lib.hid (gr_trans ((Gr.refl w).alloc _ _) hg)
  clear hb hg
  go_wp2_with (refine wpList_store_row rfl 77 _ _ rfl w.heap.size (shp _ _ _) rfl rfl 77 (shp 0 0 zs) HB.out infoS rfl (shp_one _ _ _) ?_)
  exact bodyPost_ret (v := .agg (shp _ _ _)) (results_cell_row Try.results67 _ _ w.heap.size 77 _ (0, 0) _ rfl (setRow_block HB.out) Try.underlying77 rfl infoS) rfl ⟨rfl, gr_setRow HG.out (by omega) _⟩
theorem vw_1 (w : World) : Calls Try.prog 67 #[.int .i64 162] w (RES 0 0 ⟨#[]⟩ w) := by
  go_enter Try.func67, Try.ntmps67
  go_wp2_with (go_at_call 56; first | ((with_reducible refine (within_yes _ _ _ (by omega) (by omega) _).mono ?_); rintro e w' ⟨rfl, rfl⟩) | ((with_reducible refine (within_no _ _ _ (by omega) _).mono ?_); rintro e w' ⟨rfl, rfl⟩))
  exact bodyPost_ret (v := .agg (shp _ _ _)) (by simp [results, Try.results67, go_sem, shp] <;> rfl) rfl ⟨rfl, (Gr.refl _).alloc _ _⟩
theorem vw_2 (n : Int) (h0 : 163 ≤ n) (h1 : n ≤ 164) (w : World) : Calls Try.prog 67 #[.int .i64 n] w (RES 1 0 ⟨#[118, 58, 105]⟩ w) := by
  go_enter Try.func67, Try.ntmps67
  go_wp2_with (go_at_call 56; first | ((with_reducible refine (within_yes _ _ _ (by omega) (by omega) _).mono ?_); rintro e w' ⟨rfl, rfl⟩) | ((with_reducible refine (within_no _ _ _ (by omega) _).mono ?_); rintro e w' ⟨rfl, rfl⟩))
  refine (plain_any _ _).mono ?_
  rintro e w1 ⟨rfl, hg⟩
  have hb := gr_block hg (heap_alloc_new w (.cells (shp 0 0 zs) 77))
  have HB := Lib.hid hb
  have HG := Lib.hid (gr_trans ((Gr.refl w).alloc _ _) hg)
  clear hb hg
  go_wp2_with (refine wpList_store_row rfl 77 _ _ rfl w.heap.size (shp _ _ _) rfl rfl 77 (shp 0 0 zs) HB.out infoS rfl (shp_one _ _ _) ?_)
  exact bodyPost_ret (v := .agg (shp _ _ _)) (results_cell_row Try.results67 _ _ w.heap.size 77 _ (0, 0) _ rfl (setRow_block HB.out) Try.underlying77 rfl infoS) rfl ⟨rfl, gr_setRow HG.out (by omega) _⟩
theorem vw_3 (n : Int) (h0 : 165 ≤ n) (h1 : n ≤ 166) (w : World) : Calls Try.prog 67 #[.int .i64 n] w (RES 0 0 ⟨#[]⟩ w) := by
  go_enter Try.func67, Try.ntmps67
  go_wp2_with (go_at_call 56; first | ((with_reducible refine (within_yes _ _ _ (by omega) (by omega) _).mono ?_); rintro e w' ⟨rfl, rfl⟩) | ((with_reducible refine (within_no _ _ _ (by omega) _).mono ?_); rintro e w' ⟨rfl, rfl⟩))
  exact bodyPost_ret (v := .agg (shp _ _ _)) (by simp [results, Try.results67, go_sem, shp] <;> rfl) rfl ⟨rfl, (Gr.refl _).alloc _ _⟩
theorem vw_4 (n : Int) (h0 : 167 ≤ n) (h1 : n ≤ 170) (w : World) : Calls Try.prog 67 #[.int .i64 n] w (RES 1 0 ⟨#[118, 58, 118]⟩ w) := by
  go_enter Try.func67, Try.ntmps67
  go_wp2_with (go_at_call 56; first | ((with_reducible refine (within_yes _ _ _ (by omega) (by omega) _).mono ?_); rintro e w' ⟨rfl, rfl⟩) | ((with_reducible refine (within_no _ _ _ (by omega) _).mono ?_); rintro e w' ⟨rfl, rfl⟩))
  refine (plain_any _ _).mono ?_
  rintro e w1 ⟨rfl, hg⟩
  have hb := gr_block hg (heap_alloc_new w (.cells (shp 0 0 zs) 77))
  have HB := Lib.hid hb
  have HG := Lib.hid (gr_trans ((Gr.refl w).alloc _ _) hg)
  clear hb hg
  go_wp2_with (refine wpList_store_row rfl 77 _ _ rfl w.heap.size (shp _ _ _) rfl rfl 77 (shp 0 0 zs) HB.out infoS rfl (shp_one _ _ _) ?_)
  exact bodyPost_ret (v := .agg (shp _ _ _)) (results_cell_row Try.results67 _ _ w.heap.size 77 _ (0, 0) _ rfl (setRow_block HB.out) Try.underlying77 rfl infoS) rfl ⟨rfl, gr_setRow HG.out (by omega) _⟩
theorem vw_5 (n : Int) (h0 : 171 ≤ n) (h1 : n ≤ 173) (w : World) : Calls Try.prog 67 #[.int .i64 n] w (RES 1 0 ⟨#[118, 105, 58, 118]⟩ w) := by
  go_enter Try.func67, Try.ntmps67
  go_wp2_with (go_at_call 56; first | ((with_reducible refine (within_yes _ _ _ (by omega) (by omega) _).mono ?_); rintro e w' ⟨rfl, rfl⟩) | ((with_reducible refine (within_no _ _ _ (by omega) _).mono ?_); rintro e w' ⟨rfl, rfl⟩))
  refine (plain_any _ _).mono ?_
  rintro e w1 ⟨rfl, hg⟩
  have hb := gr_block hg (heap_alloc_new w (.cells (shp 0 0 zs) 77))
  have HB := Lib.hid hb
  have HG := Lib.hid (gr_trans ((Gr.refl w).alloc _ _) hg)
  clear hb hg
  go_wp2_with (refine wpList_store_row rfl 77 _ _ rfl w.heap.size (shp _ _ _) rfl rfl 77 (shp 0 0 zs) HB.out infoS rfl (shp_one _ _ _) ?_)
  exact bodyPost_ret (v := .agg (shp _ _ _)) (results_cell_row Try.results67 _ _ w.heap.size 77 _ (0, 0) _ rfl (setRow_block HB.out) Try.underlying77 rfl infoS) rfl ⟨rfl, gr_setRow HG.out (by omega) _⟩
theorem vw_6 (w : World) : Calls Try.prog 67 #[.int .i64 174] w (RES 1 0 ⟨#[118, 118, 58, 118]⟩ w) := by
  go_enter Try.func67, Try.ntmps67
  go_wp2_with (go_at_call 56; first | ((with_reducible refine (within_yes _ _ _ (by omega) (by omega) _).mono ?_); rintro e w' ⟨rfl, rfl⟩) | ((with_reducible refine (within_no _ _ _ (by omega) _).mono ?_); rintro e w' ⟨rfl, rfl⟩))
  refine (plain_any _ _).mono ?_
  rintro e w1 ⟨rfl, hg⟩
  have hb := gr_block hg (heap_alloc_new w (.cells (shp 0 0 zs) 77))
  have HB := Lib.hid hb
  have HG := Lib.hid (gr_trans ((Gr.refl w).alloc _ _) hg)
  clear hb hg
  go_wp2_with (refine wpList_store_row rfl 77 _ _ rfl w.heap.size (shp _ _ _) rfl rfl 77 (shp 0 0 zs) HB.out infoS rfl (shp_one _ _ _) ?_)
  exact bodyPost_ret (v := .agg (shp _ _ _)) (results_cell_row Try.results67 _ _ w.heap.size 77 _ (0, 0) _ rfl (setRow_block HB.out) Try.underlying77 rfl infoS) rfl ⟨rfl, gr_setRow HG.out (by omega) _⟩
theorem vw_7 (n : Int) (h0 : 175 ≤ n) (h1 : n ≤ 176) (w : World) : Calls Try.prog 67 #[.int .i64 n] w (RES 0 0 ⟨#[]⟩ w) := by
  go_enter Try.func67, Try.ntmps67
  go_wp2_with (go_at_call 56; first | ((with_reducible refine (within_yes _ _ _ (by omega) (by omega) _).mono ?_); rintro e w' ⟨rfl, rfl⟩) | ((with_reducible refine (within_no _ _ _ (by omega) _).mono ?_); rintro e w' ⟨rfl, rfl⟩))
  exact bodyPost_ret (v := .agg (shp _ _ _)) (by simp [results, Try.results67, go_sem, shp] <;> rfl) rfl ⟨rfl, (Gr.refl _).alloc _ _⟩
theorem vw_8 (w : World) : Calls Try.prog 67 #[.int .i64 177] w (RES 1 0 ⟨#[118, 118, 58, 118]⟩ w) := by
  go_enter Try.func67, Try.ntmps67
  go_wp2_with (go_at_call 56; first | ((with_reducible refine (within_yes _ _ _ (by omega) (by omega) _).mono ?_); rintro e w' ⟨rfl, rfl⟩) | ((with_reducible refine (within_no _ _ _ (by omega) _).mono ?_); rintro e w' ⟨rfl, rfl⟩))
  refine (plain_any _ _).mono ?_
  rintro e w1 ⟨rfl, hg⟩
  have hb := gr_block hg (heap_alloc_new w (.cells (shp 0 0 zs) 77))
  have HB := Lib.hid hb
  have HG := Lib.hid (gr_trans ((Gr.refl w).alloc _ _) hg)
  clear hb hg
  go_wp2_with (refine wpList_store_row rfl 77 _ _ rfl w.heap.size (shp _ _ _) rfl rfl 77 (shp 0 0 zs) HB.out infoS rfl (shp_one _ _ _) ?_)
  exact bodyPost_ret (v := .agg (shp _ _ _)) (results_cell_row Try.results67 _ _ w.heap.size 77 _ (0, 0) _ rfl (setRow_block HB.out) Try.underlying77 rfl infoS) rfl ⟨rfl, gr_setRow HG.out (by omega) _⟩
theorem vw_9 (n : Int) (h0 : 178 ≤ n) (h1 : n ≤ 180) (w : World) : Calls Try.prog 67 #[.int .i64 n] w (RES 0 0 ⟨#[]⟩ w) := by
  go_enter Try.func67, Try.ntmps67
  go_wp2_with (go_at_call 56; first | ((with_reducible refine (within_yes _ _ _ (by omega) (by omega) _).mono ?_); rintro e w' ⟨rfl, rfl⟩) | ((with_reducible refine (within_no _ _ _ (by omega) _).mono ?_); rintro e w' ⟨rfl, rfl⟩))
  exact bodyPost_ret (v := .agg (shp _ _ _)) (by simp [results, Try.results67, go_sem, shp] <;> rfl) rfl ⟨rfl, (Gr.refl _).alloc _ _⟩
theorem vw_10 (n : Int) (h0 : 181 ≤ n) (h1 : n ≤ 186) (w : World) : Calls Try.prog 67 #[.int .i64 n] w (RES 1 0 ⟨#[118, 118, 58, 118]⟩ w) := by
  go_enter Try.func67, Try.ntmps67
  go_wp2_with (go_at_call 56; first | ((with_reducible refine (within_yes _ _ _ (by omega) (by omega) _).mono ?_); rintro e w' ⟨rfl, rfl⟩) | ((with_reducible refine (within_no _ _ _ (by omega) _).mono ?_); rintro e w' ⟨rfl, rfl⟩))
  refine (plain_any _ _).mono ?_
  rintro e w1 ⟨rfl, hg⟩
  have hb := gr_block hg (heap_alloc_new w (.cells (shp 0 0 zs) 77))
  have HB := Lib.hid hb
  have HG := Lib.hid (gr_trans ((Gr.refl w).alloc _ _) hg)
  clear hb hg
  go_wp2_with (refine wpList_store_row rfl 77 _ _ rfl w.heap.size (shp _ _ _) rfl rfl 77 (shp 0 0 zs) HB.out infoS rfl (shp_one _ _ _) ?_)
  exact bodyPost_ret (v := .agg (shp _ _ _)) (results_cell_row Try.results67 _ _ w.heap.size 77 _ (0, 0) _ rfl (setRow_block HB.out) Try.underlying77 rfl infoS) rfl ⟨rfl, gr_setRow HG.out (by omega) _⟩
theorem vw_11 (w : World) : Calls Try.prog 67 #[.int .i64 187] w (RES 0 0 ⟨#[]⟩ w) := by
  go_enter Try.func67, Try.ntmps67
  go_wp2_with (go_at_call 56; first | ((with_reducible refine (within_yes _ _ _ (by omega) (by omega) _).mono ?_); rintro e w' ⟨rfl, rfl⟩) | ((with_reducible refine (within_no _ _ _ (by omega) _).mono ?_); rintro e w' ⟨rfl, rfl⟩))
  exact bodyPost_ret (v := .agg (shp _ _ _)) (by simp [results, Try.results67, go_sem, shp] <;> rfl) rfl ⟨rfl, (Gr.refl _).alloc _ _⟩
theorem vw_12 (n : Int) (h0 : 188 ≤ n) (h1 : n ≤ 191) (w : World) : Calls Try.prog 67 #[.int .i64 n] w (RES 1 0 ⟨#[118, 118, 58, 118]⟩ w) := by
  go_enter Try.func67, Try.ntmps67
  go_wp2_with (go_at_call 56; first | ((with_reducible refine (within_yes _ _ _ (by omega) (by omega) _).mono ?_); rintro e w' ⟨rfl, rfl⟩) | ((with_reducible refine (within_no _ _ _ (by omega) _).mono ?_); rintro e w' ⟨rfl, rfl⟩))
  refine (plain_any _ _).mono ?_
  rintro e w1 ⟨rfl, hg⟩
  have hb := gr_block hg (heap_alloc_new w (.cells (shp 0 0 zs) 77))
  have HB := Lib.hid hb
  have HG := Lib.hid (gr_trans ((Gr.refl w).alloc _ _) hg)
  clear hb hg
  go_wp2_with (refine wpList_store_row rfl 77 _ _ rfl w.heap.size (shp _ _ _) rfl rfl 77 (shp 0 0 zs) HB.out infoS rfl (shp_one _ _ _) ?_)
  exact bodyPost_ret (v := .agg (shp _ _ _)) (results_cell_row Try.results67 _ _ w.heap.size 77 _ (0, 0) _ rfl (setRow_block HB.out) Try.underlying77 rfl infoS) rfl ⟨rfl, gr_setRow HG.out (by omega) _⟩
theorem vw_13 (n : Int) (h0 : 192 ≤ n) (h1 : n ≤ 193) (w : World) : Calls Try.prog 67 #[.int .i64 n] w (RES 1 0 ⟨#[118, 58, 118]⟩ w) := by
  go_enter Try.func67, Try.ntmps67
  go_wp2_with (go_at_call 56; first | ((with_reducible refine (within_yes _ _ _ (by omega) (by omega) _).mono ?_); rintro e w' ⟨rfl, rfl⟩) | ((with_reducible refine (within_no _ _ _ (by omega) _).mono ?_); rintro e w' ⟨rfl, rfl⟩))
  refine (plain_any _ _).mono ?_
  rintro e w1 ⟨rfl, hg⟩
  have hb := gr_block hg (heap_alloc_new w (.cells (shp 0 0 zs) 77))
  have HB := Lib.hid hb
  have HG := Lib.hid (gr_trans ((Gr.refl w).alloc _ _) hg)
  clear hb hg
  go_wp2_with (refine wpList_store_row rfl 77 _ _ rfl w.heap.size (shp _ _ _) rfl rfl 77 (shp 0 0 zs) HB.out infoS rfl (shp_one _ _ _) ?_)
  exact bodyPost_ret (v := .agg (shp _ _ _)) (results_cell_row Try.results67 _ _ w.heap.size 77 _ (0, 0) _ rfl (setRow_block HB.out) Try.underlying77 rfl infoS) rfl ⟨rfl, gr_setRow HG.out (by omega) _⟩
theorem vw_14 (w : World) : Calls Try.prog 67 #[.int .i64 194] w (RES 0 0 ⟨#[]⟩ w) := by
  go_enter Try.func67, Try.ntmps67
  go_wp2_with (go_at_call 56; first | ((with_reducible refine (within_yes _ _ _ (by omega) (by omega) _).mono ?_); rintro e w' ⟨rfl, rfl⟩) | ((with_reducible refine (within_no _ _ _ (by omega) _).mono ?_); rintro e w' ⟨rfl, rfl⟩))
  exact bodyPost_ret (v := .agg (shp _ _ _)) (by simp [results, Try.results67, go_sem, shp] <;> rfl) rfl ⟨rfl, (Gr.refl _).alloc _ _⟩
theorem vw_15 (n : Int) (h0 : 195 ≤ n) (h1 : n ≤ 196) (w : World) : Calls Try.prog 67 #[.int .i64 n] w (RES 1 0 ⟨#[118, 58, 105]⟩ w) := by
  go_enter Try.func67, Try.ntmps67
  go_wp2_with (go_at_call 56; first | ((with_reducible refine (within_yes _ _ _ (by omega) (by omega) _).mono ?_); rintro e w' ⟨rfl, rfl⟩) | ((with_reducible refine (within_no _ _ _ (by omega) _).mono ?_); rintro e w' ⟨rfl, rfl⟩))
  refine (plain_any _ _).mono ?_
  rintro e w1 ⟨rfl, hg⟩
  have hb := gr_block hg (heap_alloc_new w (.cells (shp 0 0 zs) 77))
  have HB := Lib.hid hb
  have HG := Lib.hid (gr_trans ((Gr.refl w).alloc _ _) hg)
  clear hb hg
  go_wp2_with (refine wpList_store_row rfl 77 _ _ rfl w.heap.size (shp _ _ _) rfl rfl 77 (shp 0 0 zs) HB.out infoS rfl (shp_one _ _ _) ?_)
  exact bodyPost_ret (v := .agg (shp _ _ _)) (results_cell_row Try.results67 _ _ w.heap.size 77 _ (0, 0) _ rfl (setRow_block HB.out) Try.underlying77 rfl infoS) rfl ⟨rfl, gr_setRow HG.out (by omega) _⟩
theorem vw_16 (n : Int) (h0 : 197 ≤ n) (h1 : n ≤ 198) (w : World) : Calls Try.prog 67 #[.int .i64 n] w (RES 0 0 ⟨#[]⟩ w) := by
  go_enter Try.func67, Try.ntmps67
  go_wp2_with (go_at_call 56; first | ((with_reducible refine (within_yes _ _ _ (by omega) (by omega) _).mono ?_); rintro e w' ⟨rfl, rfl⟩) | ((with_reducible refine (within_no _ _ _ (by omega) _).mono ?_); rintro e w' ⟨rfl, rfl⟩))
  exact bodyPost_ret (v := .agg (shp _ _ _)) (by simp [results, Try.results67, go_sem, shp] <;> rfl) rfl ⟨rfl, (Gr.refl _).alloc _ _⟩
theorem vw_17 (n : Int) (h0 : 199 ≤ n) (h1 : n ≤ 202) (w : World) : Calls Try.prog 67 #[.int .i64 n] w (RES 1 0 ⟨#[118, 58, 118]⟩ w) := by
  go_enter Try.func67, Try.ntmps67
  go_wp2_with (go_at_call 56; first | ((with_reducible refine (within_yes _ _ _ (by omega) (by omega) _).mono ?_); rintro e w' ⟨rfl, rfl⟩) | ((with_reducible refine (within_no _ _ _ (by omega) _).mono ?_); rintro e w' ⟨rfl, rfl⟩))
  refine (plain_any _ _).mono ?_
  rintro e w1 ⟨rfl, hg⟩
  have hb := gr_block hg (heap_alloc_new w (.cells (shp 0 0 zs) 77))
  have HB := Lib.hid hb
  have HG := Lib.hid (gr_trans ((Gr.refl w).alloc _ _) hg)
  clear hb hg
  go_wp2_with (refine wpList_store_row rfl 77 _ _ rfl w.heap.size (shp _ _ _) rfl rfl 77 (shp 0 0 zs) HB.out infoS rfl (shp_one _ _ _) ?_)
  exact bodyPost_ret (v := .agg (shp _ _ _)) (results_cell_row Try.results67 _ _ w.heap.size 77 _ (0, 0) _ rfl (setRow_block HB.out) Try.underlying77 rfl infoS) rfl ⟨rfl, gr_setRow HG.out (by omega) _⟩
theorem vw_18 (n : Int) (h0 : 203 ≤ n) (h1 : n ≤ 205) (w : World) : Calls Try.prog 67 #[.int .i64 n] w (RES 1 0 ⟨#[118, 105, 58, 118]⟩ w) := by
  go_enter Try.func67, Try.ntmps67
  go_wp2_with (go_at_call 56; first | ((with_reducible refine (within_yes _ _ _ (by omega) (by omega) _).mono ?_); rintro e w' ⟨rfl, rfl⟩) | ((with_reducible refine (within_no _ _ _ (by omega) _).mono ?_); rintro e w' ⟨rfl, rfl⟩))
  refine (plain_any _ _).mono ?_
  rintro e w1 ⟨rfl, hg⟩
  have hb := gr_block hg (heap_alloc_new w (.cells (shp 0 0 zs) 77))
  have HB := Lib.hid hb
  have HG := Lib.hid (gr_trans ((Gr.refl w).alloc _ _) hg)
  clear hb hg
  go_wp2_with (refine wpList_store_row rfl 77 _ _ rfl w.heap.size (shp _ _ _) rfl rfl 77 (shp 0 0 zs) HB.out infoS rfl (shp_one _ _ _) ?_)
  exact bodyPost_ret (v := .agg (shp _ _ _)) (results_cell_row Try.results67 _ _ w.heap.size 77 _ (0, 0) _ rfl (setRow_block HB.out) Try.underlying77 rfl infoS) rfl ⟨rfl, gr_setRow HG.out (by omega) _⟩
theorem vw_19 (w : World) : Calls Try.prog 67 #[.int .i64 206] w (RES 1 0 ⟨#[118, 118, 58, 118]⟩ w) := by
  go_enter Try.func67, Try.ntmps67
  go_wp2_with (go_at_call 56; first | ((with_reducible refine (within_yes _ _ _ (by omega) (by omega) _).mono ?_); rintro e w' ⟨rfl, rfl⟩) | ((with_reducible refine (within_no _ _ _ (by omega) _).mono ?_); rintro e w' ⟨rfl, rfl⟩))
  refine (plain_any _ _).mono ?_
  rintro e w1 ⟨rfl, hg⟩
  have hb := gr_block hg (heap_alloc_new w (.cells (shp 0 0 zs) 77))
  have HB := Lib.hid hb
  have HG := Lib.hid (gr_trans ((Gr.refl w).alloc _ _) hg)
  clear hb hg
  go_wp2_with (refine wpList_store_row rfl 77 _ _ rfl w.heap.size (shp _ _ _) rfl rfl 77 (shp 0 0 zs) HB.out infoS rfl (shp_one _ _ _) ?_)
  exact bodyPost_ret (v := .agg (shp _ _ _)) (results_cell_row Try.results67 _ _ w.heap.size 77 _ (0, 0) _ rfl (setRow_block HB.out) Try.underlying77 rfl infoS) rfl ⟨rfl, gr_setRow HG.out (by omega) _⟩
theorem vw_20 (n : Int) (h0 : 207 ≤ n) (h1 : n ≤ 208) (w : World) : Calls Try.prog 67 #[.int .i64 n] w (RES 0 0 ⟨#[]⟩ w) := by
  go_enter Try.func67, Try.ntmps67
  go_wp2_with (go_at_call 56; first | ((with_reducible refine (within_yes _ _ _ (by omega) (by omega) _).mono ?_); rintro e w' ⟨rfl, rfl⟩) | ((with_reducible refine (within_no _ _ _ (by omega) _).mono ?_); rintro e w' ⟨rfl, rfl⟩))
  exact bodyPost_ret (v := .agg (shp _ _ _)) (by simp [results, Try.results67, go_sem, shp] <;> rfl) rfl ⟨rfl, (Gr.refl _).alloc _ _⟩
theorem vw_21 (w : World) : Calls Try.prog 67 #[.int .i64 209] w (RES 1 0 ⟨#[118, 118, 58, 118]⟩ w) := by
  go_enter Try.func67, Try.ntmps67
  go_wp2_with (go_at_call 56; first | ((with_reducible refine (within_yes _ _ _ (by omega) (by omega) _).mono ?_); rintro e w' ⟨rfl, rfl⟩) | ((with_reducible refine (within_no _ _ _ (by omega) _).mono ?_); rintro e w' ⟨rfl, rfl⟩))
  refine (plain_any _ _).mono ?_
  rintro e w1 ⟨rfl, hg⟩
  have hb := gr_block hg (heap_alloc_new w (.cells (shp 0 0 zs) 77))
  have HB := Lib.hid hb
  have HG := Lib.hid (gr_trans ((Gr.refl w).alloc _ _) hg)
  clear hb hg
  go_wp2_with (refine wpList_store_row rfl 77 _ _ rfl w.heap.size (shp _ _ _) rfl rfl 77 (shp 0 0 zs) HB.out infoS rfl (shp_one _ _ _) ?_)
  exact bodyPost_ret (v := .agg (shp _ _ _)) (results_cell_row Try.results67 _ _ w.heap.size 77 _ (0, 0) _ rfl (setRow_block HB.out) Try.underlying77 rfl infoS) rfl ⟨rfl, gr_setRow HG.out (by omega) _⟩
theorem vw_22 (n : Int) (h0 : 210 ≤ n) (h1 : n ≤ 212) (w : World) : Calls Try.prog 67 #[.int .i64 n] w (RES 0 0 ⟨#[]⟩ w) := by
  go_enter Try.func67, Try.ntmps67
  go_wp2_with (go_at_call 56; first | ((with_reducible refine (within_yes _ _ _ (by omega) (by omega) _).mono ?_); rintro e w' ⟨rfl, rfl⟩) | ((with_reducible refine (within_no _ _ _ (by omega) _).mono ?_); rintro e w' ⟨rfl, rfl⟩))
  exact bodyPost_ret (v := .agg (shp _ _ _)) (by simp [results, Try.results67, go_sem, shp] <;> rfl) rfl ⟨rfl, (Gr.refl _).alloc _ _⟩
theorem vw_23 (n : Int) (h0 : 213 ≤ n) (h1 : n ≤ 223) (w : World) : Calls Try.prog 67 #[.int .i64 n] w (RES 1 0 ⟨#[118, 118, 58, 118]⟩ w) := by
  go_enter Try.func67, Try.ntmps67
  go_wp2_with (go_at_call 56; first | ((with_reducible refine (within_yes _ _ _ (by omega) (by omega) _).mono ?_); rintro e w' ⟨rfl, rfl⟩) | ((with_reducible refine (within_no _ _ _ (by omega) _).mono ?_); rintro e w' ⟨rfl, rfl⟩))
  refine (plain_any _ _).mono ?_
  rintro e w1 ⟨rfl, hg⟩
  have hb := gr_block hg (heap_alloc_new w (.cells (shp 0 0 zs) 77))
  have HB := Lib.hid hb
  have HG := Lib.hid (gr_trans ((Gr.refl w).alloc _ _) hg)
  clear hb hg
  go_wp2_with (refine wpList_store_row rfl 77 _ _ rfl w.heap.size (shp _ _ _) rfl rfl 77 (shp 0 0 zs) HB.out infoS rfl (shp_one _ _ _) ?_)
  exact bodyPost_ret (v := .agg (shp _ _ _)) (results_cell_row Try.results67 _ _ w.heap.size 77 _ (0, 0) _ rfl (setRow_block HB.out) Try.underlying77 rfl infoS) rfl ⟨rfl, gr_setRow HG.out (by omega) _⟩
theorem vw_24 (n : Int) (h0 : 224 ≤ n) (w : World) : Calls Try.prog 67 #[.int .i64 n] w (RES 0 0 ⟨#[]⟩ w) := by
  go_enter Try.func67, Try.ntmps67
  go_wp2_with (go_at_call 56; first | ((with_reducible refine (within_yes _ _ _ (by omega) (by omega) _).mono ?_); rintro e w' ⟨rfl, rfl⟩) | ((with_reducible refine (within_no _ _ _ (by omega) _).mono ?_); rintro e w' ⟨rfl, rfl⟩))
  exact bodyPost_ret (v := .agg (shp _ _ _)) (by simp [results, Try.results67, go_sem, shp] <;> rfl) rfl ⟨rfl, (Gr.refl _).alloc _ _⟩
theorem top_access0 (n f l : Int) (s : ByteArray) (_h0 : 40 ≤ n) (_h1 : n ≤ 62) (h : ∀ w, Calls Try.prog 68 #[.int .i64 n] w (RES f l s w)) (w : World) : Calls Try.prog 42 #[.int .i64 n] w (RES f l s w) := by
  have H := Lib.hid h
  clear h
  go_enter Try.func42, Try.ntmps42
  go_wp2_with (go_at_call 56; first | ((with_reducible refine (within_yes _ _ _ (by omega) (by omega) _).mono ?_); rintro e w' ⟨rfl, rfl⟩) | ((with_reducible refine (within_no _ _ _ (by omega) _).mono ?_); rintro e w' ⟨rfl, rfl⟩))
  refine (H.out _).mono ?_
  rintro e w1 ⟨rfl, hg⟩
  have hb := gr_block hg (heap_alloc_new w (.cells (shp 0 0 zs) 77))
  have HB := Lib.hid hb
  have HG := Lib.hid (gr_trans ((Gr.refl w).alloc _ _) hg)
  clear hb hg
  go_wp2_with (refine wpList_store_row rfl 77 _ _ rfl w.heap.size (shp _ _ _) rfl rfl 77 (shp 0 0 zs) HB.out infoS rfl (shp_one _ _ _) ?_)
  exact bodyPost_ret (v := .agg (shp _ _ _)) (results_cell_row Try.results42 _ _ w.heap.size 77 _ (0, 0) _ rfl (setRow_block HB.out) Try.underlying77 rfl infoS) rfl ⟨rfl, gr_setRow HG.out (by omega) _⟩
theorem top_operator0 (n f l : Int) (s : ByteArray) (_h0 : 69 ≤ n) (h : ∀ w, Calls Try.prog 69 #[.int .i64 n] w (RES f l s w)) (w : World) : Calls Try.prog 42 #[.int .i64 n] w (RES f l s w) := by
  have H := Lib.hid h
  clear h
  go_enter Try.func42, Try.ntmps42
  go_wp2_with (go_at_call 56; first | ((with_reducible refine (within_yes _ _ _ (by omega) (by omega) _).mono ?_); rintro e w' ⟨rfl, rfl⟩) | ((with_reducible refine (within_no _ _ _ (by omega) _).mono ?_); rintro e w' ⟨rfl, rfl⟩))
  refine (H.out _).mono ?_
  rintro e w1 ⟨rfl, hg⟩
  have hb := gr_block hg (heap_alloc_new w (.cells (shp 0 0 zs) 77))
  have HB := Lib.hid hb
  have HG := Lib.hid (gr_trans ((Gr.refl w).alloc _ _) hg)
  clear hb hg
  go_wp2_with (refine wpList_store_row rfl 77 _ _ rfl w.heap.size (shp _ _ _) rfl rfl 77 (shp 0 0 zs) HB.out infoS rfl (shp_one _ _ _) ?_)
  exact bodyPost_ret (v := .agg (shp _ _ _)) (results_cell_row Try.results42 _ _ w.heap.size 77 _ (0, 0) _ rfl (setRow_block HB.out) Try.underlying77 rfl infoS) rfl ⟨rfl, gr_setRow HG.out (by omega) _⟩
theorem top_control0 (n f l : Int) (s : ByteArray) (_h1 : n ≤ 39) (h : ∀ w, Calls Try.prog 70 #[.int .i64 n] w (RES f l s w)) (w : World) : Calls Try.prog 42 #[.int .i64 n] w (RES f l s w) := by
  have H := Lib.hid h
  clear h
  go_enter Try.func42, Try.ntmps42
  go_wp2_with (go_at_call 56; first | ((with_reducible refine (within_yes _ _ _ (by omega) (by omega) _).mono ?_); rintro e w' ⟨rfl, rfl⟩) | ((with_reducible refine (within_no _ _ _ (by omega) _).mono ?_); rintro e w' ⟨rfl, rfl⟩))
  refine (H.out _).mono ?_
  rintro e w1 ⟨rfl, hg⟩
  have hb := gr_block hg (heap_alloc_new w (.cells (shp 0 0 zs) 77))
  have HB := Lib.hid hb
  have HG := Lib.hid (gr_trans ((Gr.refl w).alloc _ _) hg)
  clear hb hg
  go_wp2_with (refine wpList_store_row rfl 77 _ _ rfl w.heap.size (shp _ _ _) rfl rfl 77 (shp 0 0 zs) HB.out infoS rfl (shp_one _ _ _) ?_)
  exact bodyPost_ret (v := .agg (shp _ _ _)) (results_cell_row Try.results42 _ _ w.heap.size 77 _ (0, 0) _ rfl (setRow_block HB.out) Try.underlying77 rfl infoS) rfl ⟨rfl, gr_setRow HG.out (by omega) _⟩
theorem top_control1 (n f l : Int) (s : ByteArray) (_h0 : 67 ≤ n) (_h1 : n ≤ 68) (h : ∀ w, Calls Try.prog 70 #[.int .i64 n] w (RES f l s w)) (w : World) : Calls Try.prog 42 #[.int .i64 n] w (RES f l s w) := by
  have H := Lib.hid h
  clear h
  go_enter Try.func42, Try.ntmps42
  go_wp2_with (go_at_call 56; first | ((with_reducible refine (within_yes _ _ _ (by omega) (by omega) _).mono ?_); rintro e w' ⟨rfl, rfl⟩) | ((with_reducible refine (within_no _ _ _ (by omega) _).mono ?_); rintro e w' ⟨rfl, rfl⟩))
  refine (H.out _).mono ?_
  rintro e w1 ⟨rfl, hg⟩
  have hb := gr_block hg (heap_alloc_new w (.cells (shp 0 0 zs) 77))
  have HB := Lib.hid hb
  have HG := Lib.hid (gr_trans ((Gr.refl w).alloc _ _) hg)
  clear hb hg
  go_wp2_with (refine wpList_store_row rfl 77 _ _ rfl w.heap.size (shp _ _ _) rfl rfl 77 (shp 0 0 zs) HB.out infoS rfl (shp_one _ _ _) ?_)
  exact bodyPost_ret (v := .agg (shp _ _ _)) (results_cell_row Try.results42 _ _ w.heap.size 77 _ (0, 0) _ rfl (setRow_block HB.out) Try.underlying77 rfl infoS) rfl ⟨rfl, gr_setRow HG.out (by omega) _⟩
theorem top_va0 (n f l : Int) (s : ByteArray) (_h0 : 0 ≤ n) (_h1 : n ≤ 11) (h : ∀ w, Calls Try.prog 63 #[.int .i64 n] w (RES f l s w)) (w : World) : Calls Try.prog 41 #[.int .i64 n] w (RES f l s w) := by
  have H := Lib.hid h
  clear h
  go_enter Try.func41, Try.ntmps41
  go_wp2_with (go_at_call 56; first | ((with_reducible refine (within_yes _ _ _ (by omega) (by omega) _).mono ?_); rintro e w' ⟨rfl, rfl⟩) | ((with_reducible refine (within_no _ _ _ (by omega) _).mono ?_); rintro e w' ⟨rfl, rfl⟩))
  refine (H.out _).mono ?_
  rintro e w1 ⟨rfl, hg⟩
  have hb := gr_block hg (heap_alloc_new w (.cells (shp 0 0 zs) 77))
  have HB := Lib.hid hb
  have HG := Lib.hid (gr_trans ((Gr.refl w).alloc _ _) hg)
  clear hb hg
  go_wp2_with (refine wpList_store_row rfl 77 _ _ rfl w.heap.size (shp _ _ _) rfl rfl 77 (shp 0 0 zs) HB.out infoS rfl (shp_one _ _ _) ?_)
  exact bodyPost_ret (v := .agg (shp _ _ _)) (results_cell_row Try.results41 _ _ w.heap.size 77 _ (0, 0) _ rfl (setRow_block HB.out) Try.underlying77 rfl infoS) rfl ⟨rfl, gr_setRow HG.out (by omega) _⟩
theorem top_va1 (n f l : Int) (s : ByteArray) (_h0 : 84 ≤ n) (_h1 : n ≤ 93) (h : ∀ w, Calls Try.prog 63 #[.int .i64 n] w (RES f l s w)) (w : World) : Calls Try.prog 41 #[.int .i64 n] w (RES f l s w) := by
  have H := Lib.hid h
  clear h
  go_enter Try.func41, Try.ntmps41
  go_wp2_with (go_at_call 56; first | ((with_reducible refine (within_yes _ _ _ (by omega) (by omega) _).mono ?_); rintro e w' ⟨rfl, rfl⟩) | ((with_reducible refine (within_no _ _ _ (by omega) _).mono ?_); rintro e w' ⟨rfl, rfl⟩))
  refine (H.out _).mono ?_
  rintro e w1 ⟨rfl, hg⟩
  have hb := gr_block hg (heap_alloc_new w (.cells (shp 0 0 zs) 77))
  have HB := Lib.hid hb
  have HG := Lib.hid (gr_trans ((Gr.refl w).alloc _ _) hg)
  clear hb hg
  go_wp2_with (refine wpList_store_row rfl 77 _ _ rfl w.heap.size (shp _ _ _) rfl rfl 77 (shp 0 0 zs) HB.out infoS rfl (shp_one _ _ _) ?_)
  exact bodyPost_ret (v := .agg (shp _ _ _)) (results_cell_row Try.results41 _ _ w.heap.size 77 _ (0, 0) _ rfl (setRow_block HB.out) Try.underlying77 rfl infoS) rfl ⟨rfl, gr_setRow HG.out (by omega) _⟩
theorem top_vm0 (n f l : Int) (s : ByteArray) (_h0 : 12 ≤ n) (_h1 : n ≤ 34) (h : ∀ w, Calls Try.prog 64 #[.int .i64 n] w (RES f l s w)) (w : World) : Calls Try.prog 41 #[.int .i64 n] w (RES f l s w) := by
  have H := Lib.hid h
  clear h
  go_enter Try.func41, Try.ntmps41
  go_wp2_with (go_at_call 56; first | ((with_reducible refine (within_yes _ _ _ (by omega) (by omega) _).mono ?_); rintro e w' ⟨rfl, rfl⟩) | ((with_reducible refine (within_no _ _ _ (by omega) _).mono ?_); rintro e w' ⟨rfl, rfl⟩))
  refine (H.out _).mono ?_
  rintro e w1 ⟨rfl, hg⟩
  have hb := gr_block hg (heap_alloc_new w (.cells (shp 0 0 zs) 77))
  have HB := Lib.hid hb
  have HG := Lib.hid (gr_trans ((Gr.refl w).alloc _ _) hg)
  clear hb hg
  go_wp2_with (refine wpList_store_row rfl 77 _ _ rfl w.heap.size (shp _ _ _) rfl rfl 77 (shp 0 0 zs) HB.out infoS rfl (shp_one _ _ _) ?_)
  exact bodyPost_ret (v := .agg (shp _ _ _)) (results_cell_row Try.results41 _ _ w.heap.size 77 _ (0, 0) _ rfl (setRow_block HB.out) Try.underlying77 rfl infoS) rfl ⟨rfl, gr_setRow HG.out (by omega) _⟩
theorem top_vb0 (n f l : Int) (s : ByteArray) (_h0 : 35 ≤ n) (_h1 : n ≤ 83) (h : ∀ w, Calls Try.prog 65 #[.int .i64 n] w (RES f l s w)) (w : World) : Calls Try.prog 41 #[.int .i64 n] w (RES f l s w) := by
  have H := Lib.hid h
  clear h
  go_enter Try.func41, Try.ntmps41
  go_wp2_with (go_at_call 56; first | ((with_reducible refine (within_yes _ _ _ (by omega) (by omega) _).mono ?_); rintro e w' ⟨rfl, rfl⟩) | ((with_reducible refine (within_no _ _ _ (by omega) _).mono ?_); rintro e w' ⟨rfl, rfl⟩))
  refine (H.out _).mono ?_
  rintro e w1 ⟨rfl, hg⟩
  have hb := gr_block hg (heap_alloc_new w (.cells (shp 0 0 zs) 77))
  have HB := Lib.hid hb
  have HG := Lib.hid (gr_trans ((Gr.refl w).alloc _ _) hg)
  clear hb hg
  go_wp2_with (refine wpList_store_row rfl 77 _ _ rfl w.heap.size (shp _ _ _) rfl rfl 77 (shp 0 0 zs) HB.out infoS rfl (shp_one _ _ _) ?_)
  exact bodyPost_ret (v := .agg (shp _ _ _)) (results_cell_row Try.results41 _ _ w.heap.size 77 _ (0, 0) _ rfl (setRow_block HB.out) Try.underlying77 rfl infoS) rfl ⟨rfl, gr_setRow HG.out (by omega) _⟩
theorem top_vn0 (n f l : Int) (s : ByteArray) (_h0 : 94 ≤ n) (_h1 : n ≤ 159) (h : ∀ w, Calls Try.prog 66 #[.int .i64 n] w (RES f l s w)) (w : World) : Calls Try.prog 41 #[.int .i64 n] w (RES f l s w) := by
  have H := Lib.hid h
  clear h
  go_enter Try.func41, Try.ntmps41
  go_wp2_with (go_at_call 56; first | ((with_reducible refine (within_yes _ _ _ (by omega) (by omega) _).mono ?_); rintro e w' ⟨rfl, rfl⟩) | ((with_reducible refine (within_no _ _ _ (by omega) _).mono ?_); rintro e w' ⟨rfl, rfl⟩))
  refine (H.out _).mono ?_
  rintro e w1 ⟨rfl, hg⟩
  have hb := gr_block hg (heap_alloc_new w (.cells (shp 0 0 zs) 77))
  have HB := Lib.hid hb
  have HG := Lib.hid (gr_trans ((Gr.refl w).alloc _ _) hg)
  clear hb hg
  go_wp2_with (refine wpList_store_row rfl 77 _ _ rfl w.heap.size (shp _ _ _) rfl rfl 77 (shp 0 0 zs) HB.out infoS rfl (shp_one _ _ _) ?_)
  exact bodyPost_ret (v := .agg (shp _ _ _)) (results_cell_row Try.results41 _ _ w.heap.size 77 _ (0, 0) _ rfl (setRow_block HB.out) Try.underlying77 rfl infoS) rfl ⟨rfl, gr_setRow HG.out (by omega) _⟩
theorem top_vw0 (n f l : Int) (s : ByteArray) (_h0 : 160 ≤ n) (h : ∀ w, Calls Try.prog 67 #[.int .i64 n] w (RES f l s w)) (w : World) : Calls Try.prog 41 #[.int .i64 n] w (RES f l s w) := by
  have H := Lib.hid h
  clear h
  go_enter Try.func41, Try.ntmps41
  go_wp2_with (go_at_call 56; first | ((with_reducible refine (within_yes _ _ _ (by omega) (by omega) _).mono ?_); rintro e w' ⟨rfl, rfl⟩) | ((with_reducible refine (within_no _ _ _ (by omega) _).mono ?_); rintro e w' ⟨rfl, rfl⟩))
  refine (H.out _).mono ?_
  rintro e w1 ⟨rfl, hg⟩
  have hb := gr_block hg (heap_alloc_new w (.cells (shp 0 0 zs) 77))
  have HB := Lib.hid hb
  have HG := Lib.hid (gr_trans ((Gr.refl w).alloc _ _) hg)
  clear hb hg
  go_wp2_with (refine wpList_store_row rfl 77 _ _ rfl w.heap.size (shp _ _ _) rfl rfl 77 (shp 0 0 zs) HB.out infoS rfl (shp_one _ _ _) ?_)
  exact bodyPost_ret (v := .agg (shp _ _ _)) (results_cell_row Try.results41 _ _ w.heap.size 77 _ (0, 0) _ rfl (setRow_block HB.out) Try.underlying77 rfl infoS) rfl ⟨rfl, gr_setRow HG.out (by omega) _⟩
theorem top_63 (w : World) : Calls Try.prog 42 #[.int .i64 63] w (RES 14 0 ⟨#[58, 105]⟩ w) := by
  go_enter Try.func42, Try.ntmps42
  go_wp2_with (go_at_call 56; first | ((with_reducible refine (within_yes _ _ _ (by omega) (by omega) _).mono ?_); rintro e w' ⟨rfl, rfl⟩) | ((with_reducible refine (within_no _ _ _ (by omega) _).mono ?_); rintro e w' ⟨rfl, rfl⟩))
  exact bodyPost_ret (v := .agg (shp _ _ _)) (by simp [results, Try.results42, go_sem, shp] <;> rfl) rfl ⟨rfl, (Gr.refl _).alloc _ _⟩
theorem top_64 (w : World) : Calls Try.prog 42 #[.int .i64 64] w (RES 14 0 ⟨#[105, 58, 105]⟩ w) := by
  go_enter Try.func42, Try.ntmps42
  go_wp2_with (go_at_call 56; first | ((with_reducible refine (within_yes _ _ _ (by omega) (by omega) _).mono ?_); rintro e w' ⟨rfl, rfl⟩) | ((with_reducible refine (within_no _ _ _ (by omega) _).mono ?_); rintro e w' ⟨rfl, rfl⟩))
  exact bodyPost_ret (v := .agg (shp _ _ _)) (by simp [results, Try.results42, go_sem, shp] <;> rfl) rfl ⟨rfl, (Gr.refl _).alloc _ _⟩
theorem top_65 (w : World) : Calls Try.prog 42 #[.int .i64 65] w (RES 9 0 ⟨#[58, 105]⟩ w) := by
  go_enter Try.func42, Try.ntmps42
  go_wp2_with (go_at_call 56; first | ((with_reducible refine (within_yes _ _ _ (by omega) (by omega) _).mono ?_); rintro e w' ⟨rfl, rfl⟩) | ((with_reducible refine (within_no _ _ _ (by omega) _).mono ?_); rintro e w' ⟨rfl, rfl⟩))
  exact bodyPost_ret (v := .agg (shp _ _ _)) (by simp [results, Try.results42, go_sem, shp] <;> rfl) rfl ⟨rfl, (Gr.refl _).alloc _ _⟩
theorem top_66 (w : World) : Calls Try.prog 42 #[.int .i64 66] w (RES 10 0 ⟨#[58, 108]⟩ w) := by
  go_enter Try.func42, Try.ntmps42
  go_wp2_with (go_at_call 56; first | ((with_reducible refine (within_yes _ _ _ (by omega) (by omega) _).mono ?_); rintro e w' ⟨rfl, rfl⟩) | ((with_reducible refine (within_no _ _ _ (by omega) _).mono ?_); rintro e w' ⟨rfl, rfl⟩))
  exact bodyPost_ret (v := .agg (shp _ _ _)) (by simp [results, Try.results42, go_sem, shp] <;> rfl) rfl ⟨rfl, (Gr.refl _).alloc _ _⟩
end Ins
end Go.Proofs.Ytebkabidojipoaa
/- InsTy -/
namespace Go.Proofs.Ytebkabidojipoaa
open Go.RowKit
namespace Ins
theorem infoI : (Try.prog.info? 3).map (fun i => (i.zero, i.size, i.bytes)) = some (some (.int .i64 0), 1, 8) := by kernel_rfl
theorem owns_gr {w w' : World} {base : Nat} {e : TypeId} {size : Nat} {v : Value} {n : Nat} {xs : List Value} (h : w.ownsRow base e size v n xs) (hg : Gr w w') : w'.ownsRow base e size v n xs :=
  h.kept (row := none) ⟨hg.os, hg.tape, hg.output, hg.size, fun k hk _ => hg.block k hk⟩ (by cases v.ownBlock <;> simp)
def code (c : UInt8) : Int := if c.toNat = 105 then 127 else if c.toNat = 108 then 126 else 123
def codes (s : ByteArray) (k : Nat) : List Value := (s.data.toList.take k).map fun c => Value.int .i64 (code c)
theorem codes_snoc (s : ByteArray) (k : Nat) (h : k < s.size) : codes s (k + 1) = codes s k ++ [.int .i64 (code s[k])] := by
  unfold codes
  rw [List.take_succ_eq_append_getElem (by simpa using h), List.map_append]; rfl
set_option maxHeartbeats 2000000 in
theorem types_any (s : ByteArray) (w : World) (hs : s.size ≤ 4294967296) :
    Calls Try.prog 44 #[.string s] w fun e w' => ∃ sv, e = .returned sv ∧ Gr w w' ∧ w'.ownsRow w.heap.size 3 1 sv s.size (codes s s.size) := by
  obtain ⟨i0, hi, hz0, hz1, hz2⟩ := info_parts infoI
  have HI := Lib.hid hi
  have HZ0 := Lib.hid hz0
  have HZ1 := Lib.hid hz1
  have HZ2 := Lib.hid hz2
  clear hi hz0 hz1 hz2
  go_enter Try.func44, Try.ntmps44
  go_wp2_with fail
  go_loopw [7, 3] (fun i sv wr => ∃ k : Nat, k ≤ s.size ∧ i = .int .i64 k ∧ Gr w wr ∧ wr.ownsRow w.heap.size 3 1 sv k (codes s k)) (fun i _ _ => s.size - (intOf i).toNat)
  case atStart => exact ⟨0, by omega, rfl, Gr.refl _, World.ownsRow_nil _ _ _ _⟩
  case round =>
    obtain ⟨k, hk, rfl, hg, hown⟩ := hrel
    have HG := Lib.hid hg
    have HO := Lib.hid hown
    clear hg hown
    by_cases hlt : k < s.size
    · have hsn := codes_snoc s k hlt
      have HS := Lib.hid hsn
      clear hsn
      have hc : (s[k].toNat : Int) = 105 ∧ code s[k] = 127 ∨ ((s[k].toNat : Int) == 105) = false ∧ (s[k].toNat : Int) = 108 ∧ code s[k] = 126 ∨ ((s[k].toNat : Int) == 105) = false ∧ ((s[k].toNat : Int) == 108) = false ∧ code s[k] = 123 := by
        unfold code
        by_cases h1 : s[k].toNat = 105
        · left; rw [if_pos h1]; exact ⟨by omega, rfl⟩
        · right
          have b1 : ((s[k].toNat : Int) == 105) = false := beq_eq_false_iff_ne.2 (by omega)
          rw [if_neg h1]
          by_cases h2 : s[k].toNat = 108
          · left; rw [if_pos h2]; exact ⟨b1, by omega, rfl⟩
          · right; rw [if_neg h2]; exact ⟨b1, beq_eq_false_iff_ne.2 (by omega), rfl⟩
      generalize code s[k] = cd at *
      rcases hc with ⟨h1, rfl⟩ | ⟨h1, h2, rfl⟩ | ⟨h1, h2, rfl⟩
      · go_wp2_with (at_builtin; refine wpList_append_own _ rfl _ _ 36 rfl w.heap.size 3 i0 (.int .i64 0) 1 8 Try.underlying36 HI.out HZ0.out HZ1.out HZ2.out rfl (by decide) u3 k _ rfl (HO.out.alloc _) ⟨wr.heap.size, 0, none⟩ 1 1 [.int .i64 127] rfl rfl ?c1 ?c2 ?c3 ?c4 ?c5 ?_)
        case c1 =>
          intro j u hju
          match j, hju with
          | 0, hju => simp at hju; subst hju; exact (cell_of_row _ _ 0 _ _ _ (heap_alloc_new wr _)).trans rfl
        case c2 => intro u hu; simp at hu; subst hu; rfl
        case c3 => unfold maxLen; omega
        case c4 => omega
        case c5 => have := HG.out.size; simp; omega
        intro v' w2 hown2 hgb _
        have hrow : ∀ q, u3.ownBlock = some q → w.heap.size ≤ q := fun q hq => (HO.out.lt q hq).1
        have hgr : Gr w w2 := (HG.out.allocO _).grown hgb (fun q hq => by have := hrow q hq; omega)
        have hown3 : w2.ownsRow w.heap.size 3 1 v' (k + 1) (codes s (k + 1)) := by rw [HS.out]; exact hown2
        have H1 := Lib.hid hgr
        have H3 := Lib.hid hown3
        clear hown2 hgb hrow hgr hown3
        go_wp2
        exact ⟨⟨k + 1, by omega, by go_num, H1.out, H3.out⟩, by simp [intOf]; omega⟩
      · go_wp2_with (at_builtin; refine wpList_append_own _ rfl _ _ 36 rfl w.heap.size 3 i0 (.int .i64 0) 1 8 Try.underlying36 HI.out HZ0.out HZ1.out HZ2.out rfl (by decide) u3 k _ rfl (HO.out.alloc _) ⟨wr.heap.size, 0, none⟩ 1 1 [.int .i64 126] rfl rfl ?c1 ?c2 ?c3 ?c4 ?c5 ?_)
        case c1 =>
          intro j u hju
          match j, hju with
          | 0, hju => simp at hju; subst hju; exact (cell_of_row _ _ 0 _ _ _ (heap_alloc_new wr _)).trans rfl
        case c2 => intro u hu; simp at hu; subst hu; rfl
        case c3 => unfold maxLen; omega
        case c4 => omega
        case c5 => have := HG.out.size; simp; omega
        intro v' w2 hown2 hgb _
        have hrow : ∀ q, u3.ownBlock = some q → w.heap.size ≤ q := fun q hq => (HO.out.lt q hq).1
        have hgr : Gr w w2 := (HG.out.allocO _).grown hgb (fun q hq => by have := hrow q hq; omega)
        have hown3 : w2.ownsRow w.heap.size 3 1 v' (k + 1) (codes s (k + 1)) := by rw [HS.out]; exact hown2
        have H1 := Lib.hid hgr
        have H3 := Lib.hid hown3
        clear hown2 hgb hrow hgr hown3
        go_wp2
        exact ⟨⟨k + 1, by omega, by go_num, H1.out, H3.out⟩, by simp [intOf]; omega⟩
      · go_wp2_with (at_builtin; refine wpList_append_own _ rfl _ _ 36 rfl w.heap.size 3 i0 (.int .i64 0) 1 8 Try.underlying36 HI.out HZ0.out HZ1.out HZ2.out rfl (by decide) u3 k _ rfl (HO.out.alloc _) ⟨wr.heap.size, 0, none⟩ 1 1 [.int .i64 123] rfl rfl ?c1 ?c2 ?c3 ?c4 ?c5 ?_)
        case c1 =>
          intro j u hju
          match j, hju with
          | 0, hju => simp at hju; subst hju; exact (cell_of_row _ _ 0 _ _ _ (heap_alloc_new wr _)).trans rfl
        case c2 => intro u hu; simp at hu; subst hu; rfl
        case c3 => unfold maxLen; omega
        case c4 => omega
        case c5 => have := HG.out.size; simp; omega
        intro v' w2 hown2 hgb _
        have hrow : ∀ q, u3.ownBlock = some q → w.heap.size ≤ q := fun q hq => (HO.out.lt q hq).1
        have hgr : Gr w w2 := (HG.out.allocO _).grown hgb (fun q hq => by have := hrow q hq; omega)
        have hown3 : w2.ownsRow w.heap.size 3 1 v' (k + 1) (codes s (k + 1)) := by rw [HS.out]; exact hown2
        have H1 := Lib.hid hgr
        have H3 := Lib.hid hown3
        clear hown2 hgb hrow hgr hown3
        go_wp2
        exact ⟨⟨k + 1, by omega, by go_num, H1.out, H3.out⟩, by simp [intOf]; omega⟩
    · obtain rfl : k = s.size := by omega
      go_wp2
      go_ret
      exact ⟨_, rfl, HG.out, HO.out⟩
end Ins
end Go.Proofs.Ytebkabidojipoaa
/- NetTail -/
namespace Go.Proofs.Ytebkabidojipoaa
open Go.RowKit
section
variable {P : Program} {ops : Array Oper} {md : Region.Mode} {w0 : World}
def headDone (m n : Nat) : Array Bool := Array.ofFn (n := m) fun i => decide (i.val < n)
def netTailB (md : Region.Mode) (ops : Array Oper) (n s : Nat) : Bool :=
  netB md ops s && decide (n < ops.size) && Region.sinkB md ops n && Region.chainB md ops n && Region.seqB md ops (ops.size - n) n (headDone ops.size n) && (List.range n).all fun k => match (ops[k]?).bind (·.guard) with | some (g, _) => decide (g < n) | none => true
def unlh (n : Nat) (listed : Array Bool) : Nat := (List.range n).countP fun k => !listed.getD k true
theorem least_of {p : Nat → Prop} [DecidablePred p] : ∀ n, (∃ k, k < n ∧ p k) → ∃ k, k < n ∧ p k ∧ ∀ j, j < k → ¬ p j := by
  intro n ⟨k, hk, hp⟩
  induction k using Nat.strongRecOn with
  | _ k ih =>
    by_cases h : ∃ j, j < k ∧ p j
    · obtain ⟨j, hj, hpj⟩ := h
      exact ih j hj (by omega) hpj
    · exact ⟨k, hk, hp, fun j hj hpj => h ⟨j, hj, hpj⟩⟩
theorem wanted_head {opsh : Array Oper} {n : Nat} {o : Oper} (hh : ∀ j, j < n → opsh[j]? = ops[j]?) (hg : ∀ g b, o.guard = some (g, b) → g < n) (t : Array Value) : Region.wanted o (yielded opsh t) = Region.wanted o (yielded ops t) := by
  unfold Region.wanted
  cases ho : o.guard with
  | none => rfl
  | some gb =>
    obtain ⟨g, b⟩ := gb
    have : yielded opsh t g = yielded ops t g := by unfold yielded; rw [hh g (hg g b ho)]
    simp only [this]
theorem net_tail {opsh : Array Oper} {n : Nat} (hh : ∀ j, j < n → opsh[j]? = ops[j]?) (hh' : ∀ j oj, opsh[j]? = some oj → j < n) {a0 : Act} {Φ : Nat → Value → World → Prop} {Q : Exit → Act → World → Prop} (hB : netTailB md ops n a0.tmps.size = true) (hmono : ∀ k v w w', Gr w w' → Φ k v w → Φ k v w')
    (hstep : ∀ (k : Nat) (o : Oper), k < n → ops[k]? = some o → NetStep P md opsh w0 a0 Φ k o)
    (hQ : ∀ (a : Act) (w : World), Gr w0 w → a.defers = a0.defers → a.tmps.size = a0.tmps.size → (∀ d, (∀ (k : Nat) (o : Oper), k < n → ops[k]? = some o → o.dst ≠ some d) → a.tmps[d]? = a0.tmps[d]?) → (∀ (k : Nat) (o : Oper) (d : Tmp), k < n → ops[k]? = some o → o.dst = some d → Φ k (a.eval (.tmp d)) w) → wpList P ops Q (ops.toList.drop n) a w) :
    ∀ (f : Nat) (listed : Array Bool) (a : Act) (w : World), HeadInv md ops n listed → unlh n listed = f → NetInv ops w0 a0 Φ listed a w → wpAny P md ops Q (f + (ops.size - n)) listed a w := by
  simp only [netTailB, Bool.and_eq_true, decide_eq_true_eq] at hB
  obtain ⟨⟨⟨⟨⟨hNB, hn⟩, hs⟩, hc⟩, hseq⟩, hgd⟩ := hB
  have hguard : ∀ k o, k < n → ops[k]? = some o → ∀ g b, o.guard = some (g, b) → g < n := fun k o hk ho g b hg => by
    have := List.all_eq_true.1 hgd k (List.mem_range.2 hk)
    rw [ho] at this
    simpa [hg] using this
  obtain ⟨hd, hafter⟩ := netB_spec hNB
  have lst : ∀ (listed : Array Bool), HeadInv md ops n listed → ∀ k, listed.getD k false = true → k < n := fun listed hi k hk => by
    rcases Nat.lt_or_ge k n with h | h
    · exact h
    · exfalso
      have hks : k < ops.size := by
        rw [← hi.size]
        rcases Nat.lt_or_ge k listed.size with h' | h'
        · exact h'
        · simp [Array.getElem?_eq_none h'] at hk
      have := getD_both (hi.tail k h hks)
      rw [this] at hk; cases hk
  intro f
  induction f with
  | zero =>
    intro listed a w hi hu inv
    have hall : ∀ k, k < n → listed.getD k true = true := fun k hk => by
      have h0 : (List.range n).countP (fun k => !listed.getD k true) = 0 := hu
      have := List.countP_eq_zero.1 h0 k (List.mem_range.2 hk)
      simpa using this
    have hall' : ∀ k, k < n → listed.getD k false = true := fun k hk => by
      have h1 := hall k hk
      have hlt : k < listed.size := by rw [hi.size]; omega
      simpa [hlt] using h1
    have he : listed = headDone ops.size n := by
      apply Array.ext
      · simp [headDone, hi.size]
      · intro k h1 h2
        by_cases hk : k < n
        · have := hall k hk
          simp only [Array.getD_eq_getD_getElem?, Array.getElem?_eq_getElem h1, Option.getD_some] at this
          rw [this]; simp [headDone, hk]
        · have := hi.tail k (by omega) (by rw [← hi.size]; exact h1)
          simp only [Array.getD_eq_getD_getElem?, Array.getElem?_eq_getElem h1, Option.getD_some] at this
          rw [this]; simp [headDone, hk]
    have hlen : (ops.toList.drop n).length = ops.size - n := by simp
    have := wpAny_of_seq (md := md) (Q' := Q) (P := P) (ops.toList.drop n) n listed a w (fun j => by simp [List.getElem?_drop]) (by rw [hlen, he]; exact hseq)
      (hQ a w inv.gr inv.defers inv.size (fun d hdd => inv.keep d fun k o hk hl => hdd k o (lst listed hi k hl) hk) (fun k o d hkn hk hkd => inv.ok k o d hk (hall' k hkn) hkd))
    rw [hlen] at this
    rw [Nat.zero_add]
    exact this
  | succ f ih =>
    intro listed a w hi hu inv
    have hpos : ∃ k, k < n ∧ listed.getD k true = false := by
      apply Classical.byContradiction
      intro hno
      have h0 : (List.range n).countP (fun k => !listed.getD k true) = 0 := List.countP_eq_zero.2 fun k hk => by
        have hk := List.mem_range.1 hk
        cases hg : listed.getD k true with
        | true => decide
        | false => exact absurd ⟨k, hk, hg⟩ hno
      unfold unlh at hu; omega
    rw [show f + 1 + (ops.size - n) = (f + (ops.size - n)) + 1 by omega]
    refine ⟨fun hr => ?_, fun i hir => ?_⟩
    · exfalso
      obtain ⟨k, hk, hku, hmin⟩ := least_of n hpos
      have : k ∈ Region.ready md ops listed := mem_ready.2 ⟨hku, ops[k]'(by omega), Array.getElem?_eq_getElem (by omega), fun e he hb => by
        have hlt := hafter k _ (Array.getElem?_eq_getElem (by omega)) e he hb
        have h1 := hmin e.on hlt
        have hlt' : e.on < listed.size := by rw [hi.size]; omega
        simp only [Array.getD_eq_getD_getElem?, Array.getElem?_eq_getElem hlt', Option.getD_some] at h1 ⊢
        simpa using h1⟩
      rw [hr] at this; cases this
    · obtain ⟨k0, hk0, hku0⟩ := hpos
      have hin : i < n := by
        rcases Nat.lt_or_ge i n with h | h
        · exact h
        · exact absurd hir (tail_waits hs hc hn hi _ k0 rfl hk0 hku0 i h)
      obtain ⟨hun, o, ho, hall⟩ := mem_ready.1 hir
      have hio := (Array.getElem?_eq_some_iff.1 ho).1
      have hst := hstep i o hin ho a w inv.gr (fun d hdd => inv.keep d fun k ok hk hl => hdd k ok (by rw [hh k (lst listed hi k hl)]; exact hk)) (fun e he hb oj d hj hjd => inv.ok e.on oj d (by rw [← hh e.on (hh' _ _ hj)]; exact hj) (hall e he hb) hjd)
      rw [wanted_head hh (hguard i o hin ho)] at hst
      have hunl : unlh n (listed.setIfInBounds i true) = f := by
        have hp : ∀ l : List Nat, l.Nodup → i ∈ l → l.countP (fun k => !(listed.setIfInBounds i true).getD k true) + 1 = l.countP fun k => !listed.getD k true := by
          intro l
          induction l with
          | nil => intro _ h; cases h
          | cons x l ihl =>
            intro hnd hm
            obtain ⟨hx, hnd⟩ := List.nodup_cons.1 hnd
            have hset : (listed.setIfInBounds i true).getD i true = true := by
              have : i < listed.size := by rw [hi.size]; exact hio
              simp [this]
            by_cases hxi : x = i
            · subst hxi
              have hsame : ∀ l' : List Nat, x ∉ l' → l'.countP (fun k => !(listed.setIfInBounds x true).getD k true) = l'.countP fun k => !listed.getD k true := by
                intro l' hx'
                refine List.countP_congr fun k hk => ?_
                have hkx : x ≠ k := fun e => hx' (e ▸ hk)
                rw [getD_set_ne true hkx]
              rw [List.countP_cons_of_neg (by rw [hset]; decide), List.countP_cons_of_pos (by rw [hun]; rfl), hsame l hx]
            · have hml : i ∈ l := by
                rcases List.mem_cons.1 hm with h | h
                · exact absurd h.symm hxi
                · exact h
              have := ihl hnd hml
              rw [List.countP_cons, List.countP_cons, getD_set_ne true (Ne.symm hxi)]
              omega
        have := hp (List.range n) List.nodup_range (List.mem_range.2 hin)
        unfold unlh at hu ⊢; omega
      have next : ∀ (v : Value) (w' : World), Gr w w' → Φ i v w' → NetInv ops w0 a0 Φ (listed.setIfInBounds i true) (a.put o.dst v) w' := fun v w' hg hv => by
        refine ⟨gr_trans inv.gr hg, ?_, ?_, fun d hdd => ?_, fun k ok d hk hl hkd => ?_⟩
        · rw [← inv.defers]; unfold Act.put; split <;> rfl
        · rw [← inv.size]; unfold Act.put; split
          · exact Array.size_setIfInBounds
          · rfl
        · have h1 := inv.keep d fun k ok hk hlk => hdd k ok hk (getD_set_true hlk)
          rw [← h1]
          cases hod : o.dst with
          | none => rfl
          | some d' =>
            have hli : i < listed.size := by rw [hi.size]; exact hio
            have hne : d' ≠ d := fun e => hdd i o ho (by simp [hli]) (by rw [hod, e])
            simp [Act.put, Array.getElem?_setIfInBounds_ne hne]
        · by_cases hki : k = i
          · subst hki
            have : ok = o := Option.some.inj (hk.symm.trans ho)
            subst this
            rw [hkd, eval_put_same (by rw [inv.size]; exact (hd k ok d ho hkd).1)]
            exact hv
          · rw [getD_set_ne false (Ne.symm hki)] at hl
            have h1 := hmono k _ w w' hg (inv.ok k ok d hk hl hkd)
            cases hod : o.dst with
            | none => exact h1
            | some d' =>
              have hne : d' ≠ d := fun e => hki ((hd i o d ho (by rw [hod, e])).2 k ok hk hkd)
              rw [eval_put_ne hne]; exact h1
      have hi' := hi.set hir hin
      unfold wpOp
      simp only [ho]
      by_cases hw : Region.wanted o (yielded ops a.tmps) = true
      · rw [if_pos hw]
        left
        have hr := hst.1 hw
        unfold Oper.wp
        generalize (execOp a.eval o).run P w = r at *
        cases r with
        | ok nx w' =>
          cases nx <;> simp only [netUpon] at hr <;> simp only [Oper.upon]
          case value u => exact ih _ _ _ hi' hunl (next u w' hr.2 hr.1)
          case skip => exact ih _ _ _ hi' hunl (next undef w' hr.2 hr.1)
          case enter g args => exact hr.mono fun e w'' ⟨u, he, hv, hg⟩ => by subst he; exact ih _ _ _ hi' hunl (next u w'' hg hv)
        | halt x w' => simp only [netUpon] at hr
      · rw [if_neg hw]
        exact ih _ _ _ hi' hunl (next undef w (Gr.refl _) (hst.2 (by simpa using hw)))
theorem wp_region_net_tail {id : Nat} {Q : Exit → Act → World → Prop} {a : Act} {w : World} {l : List Oper} (n : Nat) (Φ : Nat → Value → World → Prop) (hm : P.follows .mixedOrders = true) (hB : netTailB .any l.toArray n a.tmps.size = true)
    (hmono : ∀ k v w w', Gr w w' → Φ k v w → Φ k v w') (hsteps : netSteps P (l.take n).toArray w.drew a Φ (l.take n) 0)
    (hQ : ∀ (V : Nat → Value) (w' : World), Gr w.drew w' → (∀ (k : Nat) (o : Oper) (d : Tmp), k < n → l[k]? = some o → o.dst = some d → Φ k (V d) w') → wpList P l.toArray Q (l.drop n) (putAll a V (l.take n)) w') : (Code.region id l.toArray true).wp P Q a w := by
  refine wp_region_any hm ?_
  have hn : n < l.length := by
    have h := hB
    simp only [netTailB, Bool.and_eq_true, decide_eq_true_eq] at h
    simpa using h.1.1.1.1.2
  have hu : unlh n (Array.replicate l.toArray.size false) = n := by
    unfold unlh
    have : (List.range n).countP (fun k => !(Array.replicate l.toArray.size false).getD k true) = (List.range n).length := List.countP_eq_length.2 fun k hk => by
      have hk := List.mem_range.1 hk
      have hkl : k < l.length := by omega
      simp [hkl]
    rw [this]; simp
  have H := net_tail (opsh := (l.take n).toArray) (fun j hj => by simp [List.getElem?_take_of_lt hj]) (fun j oj hj => by have := (Array.getElem?_eq_some_iff.1 hj).1; simp at this; omega) (w0 := w.drew) (a0 := a) (Φ := Φ) (Q := Q) (P := P) (n := n) hB hmono (fun k o hkn hk => by
    have := netSteps_spec (l.take n) 0 hsteps k o (by rw [List.getElem?_take_of_lt hkn]; simpa using hk)
    rwa [Nat.zero_add] at this) (fun a' w' hg hdf hsz hkeep hok => ?_) n (Array.replicate l.toArray.size false) a w.drew
    ⟨by simp, fun j oj _ hl => (by rw [getD_replicate_false] at hl; cases hl), fun t _ ht => getD_in (by simpa using ht) (getD_replicate_false _ _)⟩ hu
    ⟨Gr.refl _, rfl, rfl, fun _ _ => rfl, fun k o d _ hl _ => by rw [getD_replicate_false] at hl; cases hl⟩
  · rw [show n + (l.toArray.size - n) = l.toArray.size by simp; omega] at H
    exact H
  have e : a' = putAll a (fun d => a'.eval (.tmp d)) (l.take n) := by
    have h1 : a'.tmps = (putAll a (fun d => a'.eval (.tmp d)) (l.take n)).tmps := by
      apply Array.ext_getElem?
      intro d
      by_cases hd : d < a.tmps.size
      · rw [putAll_get _ d (l.take n) a hd]
        by_cases hany : (l.take n).any (fun o => o.dst == some d) = true
        · rw [if_pos hany]
          have hd' : d < a'.tmps.size := by omega
          simp [Act.eval, hd']
        · rw [if_neg hany]
          refine hkeep d fun k o hkn hk he => hany ?_
          have hk' : (l.take n)[k]? = some o := by rw [List.getElem?_take_of_lt hkn]; simpa using hk
          exact List.any_eq_true.2 ⟨o, List.mem_of_getElem? hk', by simp [he]⟩
      · rw [Array.getElem?_eq_none (by omega), Array.getElem?_eq_none (by rw [putAll_size]; omega)]
    have h2 : a'.defers = (putAll a (fun d => a'.eval (.tmp d)) (l.take n)).defers := by rw [putAll_defers]; exact hdf
    revert h1 h2
    generalize putAll a (fun d => a'.eval (.tmp d)) (l.take n) = b
    intro h1 h2
    cases a'; cases b
    simp at h1 h2
    simp [h1, h2]
  have hfin := hQ (fun d => a'.eval (.tmp d)) w' hg (fun k o d hkn hk hkd => hok k o d hkn (by simpa using hk) hkd)
  rw [← e] at hfin
  simpa using hfin
end
end Go.Proofs.Ytebkabidojipoaa
/- BuildS -/
namespace Go.Proofs.Ytebkabidojipoaa
open Go.RowKit
section
variable {P : Program} {ops : Array Oper} {Q : Exit → Act → World → Prop} {a : Act} {w : World} {rest : List Oper} {o : Oper}
theorem run_buildSlice_lit (t e : TypeId) (len : Nat) (parts : Array (Nat × Value)) (i : TypeInfo) (cells : Array Value) (ht : P.underlying t = some (.slice e)) (hi : P.info? e = some i) (hz : i.zero = some (.string ⟨#[]⟩)) (hs : i.size = 1)
    (hl : len ≤ 1000) (h0 : 0 < len) (zs : Array Value) (hzs : (Array.map (fun x => (#[Value.string { data := #[] }])[x % 1]!) (Array.range len)) = zs) (hf : Instr.fill (fun j => some (j, 1)) zs parts.toList = some cells) :
    (Instr.buildSlice t len parts).run P w = .ok (.slice (some ⟨w.heap.size, 0, none⟩) len len) (w.alloc (.cells cells e)) := by
  have h1 : ¬ (16777216 < len) := by omega
  have h2 : ¬ len = 0 := by omega
  simp [Instr.buildSlice, run_underlying ht, sizeOf, typeInfo, hi, hs, zeroValue, hz, h1, h2, newRow, newObj, Value.cells]
  simp at hzs
  rw [hzs, hf]
  rfl
theorem wpList_buildS (hgd : o.guard = none) (t e : TypeId) (len : Nat) (parts : Array (Nat × Operand)) (ho : o.op = .buildSlice t len parts) (i : TypeInfo) (cells : Array Value) (ht : P.underlying t = some (.slice e)) (hi : P.info? e = some i) (hz : i.zero = some (.string ⟨#[]⟩)) (hs : i.size = 1)
    (hl : len ≤ 1000) (h0 : 0 < len) (zs : Array Value) (hzs : (Array.map (fun x => (#[Value.string { data := #[] }])[x % 1]!) (Array.range len)) = zs) (hf : Instr.fill (fun j => some (j, 1)) zs (parts.map fun (i, x) => (i, a.eval x)).toList = some cells)
    (h : wpList P ops Q rest (a.put o.dst (.slice (some ⟨w.heap.size, 0, none⟩) len len)) (w.alloc (.cells cells e))) : wpList P ops Q (o :: rest) a w := by
  refine wpList_plain hgd fun _ hK => ?_
  unfold Oper.wp execOp
  simp only [ho, Sem.run_bind, run_buildSlice_lit (w := w) t e len _ i cells ht hi hz hs hl h0 zs hzs hf, Result.andThen_ok]
  exact hK _ _ h
end
end Go.Proofs.Ytebkabidojipoaa
