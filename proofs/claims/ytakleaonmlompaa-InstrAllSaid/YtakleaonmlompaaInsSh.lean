/-
  Of layer 4: the shape (form, limit, letters of types) that the program's rows tell of every opcode. No condition.
-/
import Derived.Test.YtakleaonmlompaaKit
namespace Go.Proofs.Ytakleaonmlompaa
open Go.RowKit
namespace Ins
def shp (f l : Int) (s : ByteArray) : Array Value := #[.int .i64 f, .int .i64 l, .string s]
def RES (f l : Int) (s : ByteArray) (w : World) (e : Ending) (w' : World) : Prop := e = .returned (.agg (shp f l s)) ∧ Gr w w'
theorem infoS : (Try.prog.info? 34).map (·.size) = some 3 := by kernel_rfl
theorem shp_one (f l : Int) (s : ByteArray) : (shp f l s).all (·.oneCell') = true := by kernel_rfl
def zs : ByteArray := { data := #[] }
theorem within_yes (n a b : Int) (h0 : a ≤ n) (h1 : n ≤ b) (w : World) : Calls Try.prog 20 #[.int .i64 n, .int .i64 a, .int .i64 b] w fun e w' => e = .returned (.bool true) ∧ w = w' := by
  go_enter Try.func20, Try.ntmps20
  go_wp2
  go_ret
  exact ⟨rfl, rfl⟩
theorem within_no (n a b : Int) (h : n < a ∨ b < n) (w : World) : Calls Try.prog 20 #[.int .i64 n, .int .i64 a, .int .i64 b] w fun e w' => e = .returned (.bool false) ∧ w = w' := by
  by_cases h0 : a ≤ n
  · have h1 : decide (n ≤ b) = false := decide_eq_false (by omega)
    clear h
    go_enter Try.func20, Try.ntmps20
    go_wp2
    go_ret
    exact ⟨rfl, rfl⟩
  · clear h
    go_enter Try.func20, Try.ntmps20
    go_wp2
    go_ret
    exact ⟨rfl, rfl⟩
theorem plain_any (s : ByteArray) (w : World) : Calls Try.prog 36 #[.string s] w (RES 1 0 s w) := by
  go_enter Try.func36, Try.ntmps36
  go_wp2
  exact bodyPost_ret (v := .agg (shp 1 0 s)) (by simp [results, Try.results36, go_sem, shp]) rfl ⟨rfl, (Gr.refl _).alloc _ _⟩
theorem memory_any (l : Int) (s : ByteArray) (w : World) : Calls Try.prog 35 #[.int .i64 l, .string s] w (RES 7 l s w) := by
  go_enter Try.func35, Try.ntmps35
  go_wp2
  exact bodyPost_ret (v := .agg (shp 7 l s)) (by simp [results, Try.results35, go_sem, shp]) rfl ⟨rfl, (Gr.refl _).alloc _ _⟩
theorem lane_any (l : Int) (s : ByteArray) (w : World) : Calls Try.prog 37 #[.int .i64 l, .string s] w (RES 13 l s w) := by
  go_enter Try.func37, Try.ntmps37
  go_wp2
  exact bodyPost_ret (v := .agg (shp 13 l s)) (by simp [results, Try.results37, go_sem, shp]) rfl ⟨rfl, (Gr.refl _).alloc _ _⟩
theorem access_0 (w : World) : Calls Try.prog 31 #[.int .i64 40] w (RES 7 2 ⟨#[105, 58, 105]⟩ w) := by
  go_enter Try.func31, Try.ntmps31
  go_wp2_with (go_at_call 20; first | ((with_reducible refine (within_yes _ _ _ (by omega) (by omega) _).mono ?_); rintro e w' ⟨rfl, rfl⟩) | ((with_reducible refine (within_no _ _ _ (by omega) _).mono ?_); rintro e w' ⟨rfl, rfl⟩))
  refine (memory_any _ _ _).mono ?_
  rintro e w1 ⟨rfl, hg⟩
  have hb := gr_block hg (heap_alloc_new w (.cells (shp 0 0 zs) 34))
  have HB := Lib.hid hb
  have HG := Lib.hid (gr_trans ((Gr.refl w).alloc _ _) hg)
  clear hb hg
  go_wp2_with (refine wpList_store_row rfl 34 _ _ rfl w.heap.size (shp _ _ _) rfl rfl 34 (shp 0 0 zs) HB.out infoS rfl (shp_one _ _ _) ?_)
  exact bodyPost_ret (v := .agg (shp _ _ _)) (results_cell_row Try.results31 _ _ w.heap.size 34 _ (0, 0) _ rfl (setRow_block HB.out) Try.underlying34 rfl infoS) rfl ⟨rfl, gr_setRow HG.out (by omega) _⟩
theorem access_1 (w : World) : Calls Try.prog 31 #[.int .i64 41] w (RES 7 3 ⟨#[105, 58, 108]⟩ w) := by
  go_enter Try.func31, Try.ntmps31
  go_wp2_with (go_at_call 20; first | ((with_reducible refine (within_yes _ _ _ (by omega) (by omega) _).mono ?_); rintro e w' ⟨rfl, rfl⟩) | ((with_reducible refine (within_no _ _ _ (by omega) _).mono ?_); rintro e w' ⟨rfl, rfl⟩))
  refine (memory_any _ _ _).mono ?_
  rintro e w1 ⟨rfl, hg⟩
  have hb := gr_block hg (heap_alloc_new w (.cells (shp 0 0 zs) 34))
  have HB := Lib.hid hb
  have HG := Lib.hid (gr_trans ((Gr.refl w).alloc _ _) hg)
  clear hb hg
  go_wp2_with (refine wpList_store_row rfl 34 _ _ rfl w.heap.size (shp _ _ _) rfl rfl 34 (shp 0 0 zs) HB.out infoS rfl (shp_one _ _ _) ?_)
  exact bodyPost_ret (v := .agg (shp _ _ _)) (results_cell_row Try.results31 _ _ w.heap.size 34 _ (0, 0) _ rfl (setRow_block HB.out) Try.underlying34 rfl infoS) rfl ⟨rfl, gr_setRow HG.out (by omega) _⟩
theorem access_2 (n : Int) (h0 : 42 ≤ n) (h1 : n ≤ 43) (w : World) : Calls Try.prog 31 #[.int .i64 n] w (RES 0 0 ⟨#[]⟩ w) := by
  go_enter Try.func31, Try.ntmps31
  go_wp2_with (go_at_call 20; first | ((with_reducible refine (within_yes _ _ _ (by omega) (by omega) _).mono ?_); rintro e w' ⟨rfl, rfl⟩) | ((with_reducible refine (within_no _ _ _ (by omega) _).mono ?_); rintro e w' ⟨rfl, rfl⟩))
  exact bodyPost_ret (v := .agg (shp _ _ _)) (by simp [results, Try.results31, go_sem, shp] <;> rfl) rfl ⟨rfl, (Gr.refl _).alloc _ _⟩
theorem access_3 (w : World) : Calls Try.prog 31 #[.int .i64 44] w (RES 7 0 ⟨#[105, 58, 105]⟩ w) := by
  go_enter Try.func31, Try.ntmps31
  go_wp2_with (go_at_call 20; first | ((with_reducible refine (within_yes _ _ _ (by omega) (by omega) _).mono ?_); rintro e w' ⟨rfl, rfl⟩) | ((with_reducible refine (within_no _ _ _ (by omega) _).mono ?_); rintro e w' ⟨rfl, rfl⟩))
  refine (memory_any _ _ _).mono ?_
  rintro e w1 ⟨rfl, hg⟩
  have hb := gr_block hg (heap_alloc_new w (.cells (shp 0 0 zs) 34))
  have HB := Lib.hid hb
  have HG := Lib.hid (gr_trans ((Gr.refl w).alloc _ _) hg)
  clear hb hg
  go_wp2_with (refine wpList_store_row rfl 34 _ _ rfl w.heap.size (shp _ _ _) rfl rfl 34 (shp 0 0 zs) HB.out infoS rfl (shp_one _ _ _) ?_)
  exact bodyPost_ret (v := .agg (shp _ _ _)) (results_cell_row Try.results31 _ _ w.heap.size 34 _ (0, 0) _ rfl (setRow_block HB.out) Try.underlying34 rfl infoS) rfl ⟨rfl, gr_setRow HG.out (by omega) _⟩
theorem access_4 (w : World) : Calls Try.prog 31 #[.int .i64 45] w (RES 7 0 ⟨#[105, 58, 105]⟩ w) := by
  go_enter Try.func31, Try.ntmps31
  go_wp2_with (go_at_call 20; first | ((with_reducible refine (within_yes _ _ _ (by omega) (by omega) _).mono ?_); rintro e w' ⟨rfl, rfl⟩) | ((with_reducible refine (within_no _ _ _ (by omega) _).mono ?_); rintro e w' ⟨rfl, rfl⟩))
  refine (memory_any _ _ _).mono ?_
  rintro e w1 ⟨rfl, hg⟩
  have hb := gr_block hg (heap_alloc_new w (.cells (shp 0 0 zs) 34))
  have HB := Lib.hid hb
  have HG := Lib.hid (gr_trans ((Gr.refl w).alloc _ _) hg)
  clear hb hg
  go_wp2_with (refine wpList_store_row rfl 34 _ _ rfl w.heap.size (shp _ _ _) rfl rfl 34 (shp 0 0 zs) HB.out infoS rfl (shp_one _ _ _) ?_)
  exact bodyPost_ret (v := .agg (shp _ _ _)) (results_cell_row Try.results31 _ _ w.heap.size 34 _ (0, 0) _ rfl (setRow_block HB.out) Try.underlying34 rfl infoS) rfl ⟨rfl, gr_setRow HG.out (by omega) _⟩
theorem access_5 (w : World) : Calls Try.prog 31 #[.int .i64 46] w (RES 7 1 ⟨#[105, 58, 105]⟩ w) := by
  go_enter Try.func31, Try.ntmps31
  go_wp2_with (go_at_call 20; first | ((with_reducible refine (within_yes _ _ _ (by omega) (by omega) _).mono ?_); rintro e w' ⟨rfl, rfl⟩) | ((with_reducible refine (within_no _ _ _ (by omega) _).mono ?_); rintro e w' ⟨rfl, rfl⟩))
  refine (memory_any _ _ _).mono ?_
  rintro e w1 ⟨rfl, hg⟩
  have hb := gr_block hg (heap_alloc_new w (.cells (shp 0 0 zs) 34))
  have HB := Lib.hid hb
  have HG := Lib.hid (gr_trans ((Gr.refl w).alloc _ _) hg)
  clear hb hg
  go_wp2_with (refine wpList_store_row rfl 34 _ _ rfl w.heap.size (shp _ _ _) rfl rfl 34 (shp 0 0 zs) HB.out infoS rfl (shp_one _ _ _) ?_)
  exact bodyPost_ret (v := .agg (shp _ _ _)) (results_cell_row Try.results31 _ _ w.heap.size 34 _ (0, 0) _ rfl (setRow_block HB.out) Try.underlying34 rfl infoS) rfl ⟨rfl, gr_setRow HG.out (by omega) _⟩
theorem access_6 (w : World) : Calls Try.prog 31 #[.int .i64 47] w (RES 7 1 ⟨#[105, 58, 105]⟩ w) := by
  go_enter Try.func31, Try.ntmps31
  go_wp2_with (go_at_call 20; first | ((with_reducible refine (within_yes _ _ _ (by omega) (by omega) _).mono ?_); rintro e w' ⟨rfl, rfl⟩) | ((with_reducible refine (within_no _ _ _ (by omega) _).mono ?_); rintro e w' ⟨rfl, rfl⟩))
  refine (memory_any _ _ _).mono ?_
  rintro e w1 ⟨rfl, hg⟩
  have hb := gr_block hg (heap_alloc_new w (.cells (shp 0 0 zs) 34))
  have HB := Lib.hid hb
  have HG := Lib.hid (gr_trans ((Gr.refl w).alloc _ _) hg)
  clear hb hg
  go_wp2_with (refine wpList_store_row rfl 34 _ _ rfl w.heap.size (shp _ _ _) rfl rfl 34 (shp 0 0 zs) HB.out infoS rfl (shp_one _ _ _) ?_)
  exact bodyPost_ret (v := .agg (shp _ _ _)) (results_cell_row Try.results31 _ _ w.heap.size 34 _ (0, 0) _ rfl (setRow_block HB.out) Try.underlying34 rfl infoS) rfl ⟨rfl, gr_setRow HG.out (by omega) _⟩
theorem access_7 (w : World) : Calls Try.prog 31 #[.int .i64 48] w (RES 7 0 ⟨#[105, 58, 108]⟩ w) := by
  go_enter Try.func31, Try.ntmps31
  go_wp2_with (go_at_call 20; first | ((with_reducible refine (within_yes _ _ _ (by omega) (by omega) _).mono ?_); rintro e w' ⟨rfl, rfl⟩) | ((with_reducible refine (within_no _ _ _ (by omega) _).mono ?_); rintro e w' ⟨rfl, rfl⟩))
  refine (memory_any _ _ _).mono ?_
  rintro e w1 ⟨rfl, hg⟩
  have hb := gr_block hg (heap_alloc_new w (.cells (shp 0 0 zs) 34))
  have HB := Lib.hid hb
  have HG := Lib.hid (gr_trans ((Gr.refl w).alloc _ _) hg)
  clear hb hg
  go_wp2_with (refine wpList_store_row rfl 34 _ _ rfl w.heap.size (shp _ _ _) rfl rfl 34 (shp 0 0 zs) HB.out infoS rfl (shp_one _ _ _) ?_)
  exact bodyPost_ret (v := .agg (shp _ _ _)) (results_cell_row Try.results31 _ _ w.heap.size 34 _ (0, 0) _ rfl (setRow_block HB.out) Try.underlying34 rfl infoS) rfl ⟨rfl, gr_setRow HG.out (by omega) _⟩
theorem access_8 (w : World) : Calls Try.prog 31 #[.int .i64 49] w (RES 7 0 ⟨#[105, 58, 108]⟩ w) := by
  go_enter Try.func31, Try.ntmps31
  go_wp2_with (go_at_call 20; first | ((with_reducible refine (within_yes _ _ _ (by omega) (by omega) _).mono ?_); rintro e w' ⟨rfl, rfl⟩) | ((with_reducible refine (within_no _ _ _ (by omega) _).mono ?_); rintro e w' ⟨rfl, rfl⟩))
  refine (memory_any _ _ _).mono ?_
  rintro e w1 ⟨rfl, hg⟩
  have hb := gr_block hg (heap_alloc_new w (.cells (shp 0 0 zs) 34))
  have HB := Lib.hid hb
  have HG := Lib.hid (gr_trans ((Gr.refl w).alloc _ _) hg)
  clear hb hg
  go_wp2_with (refine wpList_store_row rfl 34 _ _ rfl w.heap.size (shp _ _ _) rfl rfl 34 (shp 0 0 zs) HB.out infoS rfl (shp_one _ _ _) ?_)
  exact bodyPost_ret (v := .agg (shp _ _ _)) (results_cell_row Try.results31 _ _ w.heap.size 34 _ (0, 0) _ rfl (setRow_block HB.out) Try.underlying34 rfl infoS) rfl ⟨rfl, gr_setRow HG.out (by omega) _⟩
theorem access_9 (w : World) : Calls Try.prog 31 #[.int .i64 50] w (RES 7 1 ⟨#[105, 58, 108]⟩ w) := by
  go_enter Try.func31, Try.ntmps31
  go_wp2_with (go_at_call 20; first | ((with_reducible refine (within_yes _ _ _ (by omega) (by omega) _).mono ?_); rintro e w' ⟨rfl, rfl⟩) | ((with_reducible refine (within_no _ _ _ (by omega) _).mono ?_); rintro e w' ⟨rfl, rfl⟩))
  refine (memory_any _ _ _).mono ?_
  rintro e w1 ⟨rfl, hg⟩
  have hb := gr_block hg (heap_alloc_new w (.cells (shp 0 0 zs) 34))
  have HB := Lib.hid hb
  have HG := Lib.hid (gr_trans ((Gr.refl w).alloc _ _) hg)
  clear hb hg
  go_wp2_with (refine wpList_store_row rfl 34 _ _ rfl w.heap.size (shp _ _ _) rfl rfl 34 (shp 0 0 zs) HB.out infoS rfl (shp_one _ _ _) ?_)
  exact bodyPost_ret (v := .agg (shp _ _ _)) (results_cell_row Try.results31 _ _ w.heap.size 34 _ (0, 0) _ rfl (setRow_block HB.out) Try.underlying34 rfl infoS) rfl ⟨rfl, gr_setRow HG.out (by omega) _⟩
theorem access_10 (w : World) : Calls Try.prog 31 #[.int .i64 51] w (RES 7 1 ⟨#[105, 58, 108]⟩ w) := by
  go_enter Try.func31, Try.ntmps31
  go_wp2_with (go_at_call 20; first | ((with_reducible refine (within_yes _ _ _ (by omega) (by omega) _).mono ?_); rintro e w' ⟨rfl, rfl⟩) | ((with_reducible refine (within_no _ _ _ (by omega) _).mono ?_); rintro e w' ⟨rfl, rfl⟩))
  refine (memory_any _ _ _).mono ?_
  rintro e w1 ⟨rfl, hg⟩
  have hb := gr_block hg (heap_alloc_new w (.cells (shp 0 0 zs) 34))
  have HB := Lib.hid hb
  have HG := Lib.hid (gr_trans ((Gr.refl w).alloc _ _) hg)
  clear hb hg
  go_wp2_with (refine wpList_store_row rfl 34 _ _ rfl w.heap.size (shp _ _ _) rfl rfl 34 (shp 0 0 zs) HB.out infoS rfl (shp_one _ _ _) ?_)
  exact bodyPost_ret (v := .agg (shp _ _ _)) (results_cell_row Try.results31 _ _ w.heap.size 34 _ (0, 0) _ rfl (setRow_block HB.out) Try.underlying34 rfl infoS) rfl ⟨rfl, gr_setRow HG.out (by omega) _⟩
theorem access_11 (w : World) : Calls Try.prog 31 #[.int .i64 52] w (RES 7 2 ⟨#[105, 58, 108]⟩ w) := by
  go_enter Try.func31, Try.ntmps31
  go_wp2_with (go_at_call 20; first | ((with_reducible refine (within_yes _ _ _ (by omega) (by omega) _).mono ?_); rintro e w' ⟨rfl, rfl⟩) | ((with_reducible refine (within_no _ _ _ (by omega) _).mono ?_); rintro e w' ⟨rfl, rfl⟩))
  refine (memory_any _ _ _).mono ?_
  rintro e w1 ⟨rfl, hg⟩
  have hb := gr_block hg (heap_alloc_new w (.cells (shp 0 0 zs) 34))
  have HB := Lib.hid hb
  have HG := Lib.hid (gr_trans ((Gr.refl w).alloc _ _) hg)
  clear hb hg
  go_wp2_with (refine wpList_store_row rfl 34 _ _ rfl w.heap.size (shp _ _ _) rfl rfl 34 (shp 0 0 zs) HB.out infoS rfl (shp_one _ _ _) ?_)
  exact bodyPost_ret (v := .agg (shp _ _ _)) (results_cell_row Try.results31 _ _ w.heap.size 34 _ (0, 0) _ rfl (setRow_block HB.out) Try.underlying34 rfl infoS) rfl ⟨rfl, gr_setRow HG.out (by omega) _⟩
theorem access_12 (w : World) : Calls Try.prog 31 #[.int .i64 53] w (RES 7 2 ⟨#[105, 58, 108]⟩ w) := by
  go_enter Try.func31, Try.ntmps31
  go_wp2_with (go_at_call 20; first | ((with_reducible refine (within_yes _ _ _ (by omega) (by omega) _).mono ?_); rintro e w' ⟨rfl, rfl⟩) | ((with_reducible refine (within_no _ _ _ (by omega) _).mono ?_); rintro e w' ⟨rfl, rfl⟩))
  refine (memory_any _ _ _).mono ?_
  rintro e w1 ⟨rfl, hg⟩
  have hb := gr_block hg (heap_alloc_new w (.cells (shp 0 0 zs) 34))
  have HB := Lib.hid hb
  have HG := Lib.hid (gr_trans ((Gr.refl w).alloc _ _) hg)
  clear hb hg
  go_wp2_with (refine wpList_store_row rfl 34 _ _ rfl w.heap.size (shp _ _ _) rfl rfl 34 (shp 0 0 zs) HB.out infoS rfl (shp_one _ _ _) ?_)
  exact bodyPost_ret (v := .agg (shp _ _ _)) (results_cell_row Try.results31 _ _ w.heap.size 34 _ (0, 0) _ rfl (setRow_block HB.out) Try.underlying34 rfl infoS) rfl ⟨rfl, gr_setRow HG.out (by omega) _⟩
theorem access_13 (w : World) : Calls Try.prog 31 #[.int .i64 54] w (RES 7 2 ⟨#[105, 105, 58]⟩ w) := by
  go_enter Try.func31, Try.ntmps31
  go_wp2_with (go_at_call 20; first | ((with_reducible refine (within_yes _ _ _ (by omega) (by omega) _).mono ?_); rintro e w' ⟨rfl, rfl⟩) | ((with_reducible refine (within_no _ _ _ (by omega) _).mono ?_); rintro e w' ⟨rfl, rfl⟩))
  refine (memory_any _ _ _).mono ?_
  rintro e w1 ⟨rfl, hg⟩
  have hb := gr_block hg (heap_alloc_new w (.cells (shp 0 0 zs) 34))
  have HB := Lib.hid hb
  have HG := Lib.hid (gr_trans ((Gr.refl w).alloc _ _) hg)
  clear hb hg
  go_wp2_with (refine wpList_store_row rfl 34 _ _ rfl w.heap.size (shp _ _ _) rfl rfl 34 (shp 0 0 zs) HB.out infoS rfl (shp_one _ _ _) ?_)
  exact bodyPost_ret (v := .agg (shp _ _ _)) (results_cell_row Try.results31 _ _ w.heap.size 34 _ (0, 0) _ rfl (setRow_block HB.out) Try.underlying34 rfl infoS) rfl ⟨rfl, gr_setRow HG.out (by omega) _⟩
theorem access_14 (w : World) : Calls Try.prog 31 #[.int .i64 55] w (RES 7 3 ⟨#[105, 108, 58]⟩ w) := by
  go_enter Try.func31, Try.ntmps31
  go_wp2_with (go_at_call 20; first | ((with_reducible refine (within_yes _ _ _ (by omega) (by omega) _).mono ?_); rintro e w' ⟨rfl, rfl⟩) | ((with_reducible refine (within_no _ _ _ (by omega) _).mono ?_); rintro e w' ⟨rfl, rfl⟩))
  refine (memory_any _ _ _).mono ?_
  rintro e w1 ⟨rfl, hg⟩
  have hb := gr_block hg (heap_alloc_new w (.cells (shp 0 0 zs) 34))
  have HB := Lib.hid hb
  have HG := Lib.hid (gr_trans ((Gr.refl w).alloc _ _) hg)
  clear hb hg
  go_wp2_with (refine wpList_store_row rfl 34 _ _ rfl w.heap.size (shp _ _ _) rfl rfl 34 (shp 0 0 zs) HB.out infoS rfl (shp_one _ _ _) ?_)
  exact bodyPost_ret (v := .agg (shp _ _ _)) (results_cell_row Try.results31 _ _ w.heap.size 34 _ (0, 0) _ rfl (setRow_block HB.out) Try.underlying34 rfl infoS) rfl ⟨rfl, gr_setRow HG.out (by omega) _⟩
theorem access_15 (n : Int) (h0 : 56 ≤ n) (h1 : n ≤ 57) (w : World) : Calls Try.prog 31 #[.int .i64 n] w (RES 0 0 ⟨#[]⟩ w) := by
  go_enter Try.func31, Try.ntmps31
  go_wp2_with (go_at_call 20; first | ((with_reducible refine (within_yes _ _ _ (by omega) (by omega) _).mono ?_); rintro e w' ⟨rfl, rfl⟩) | ((with_reducible refine (within_no _ _ _ (by omega) _).mono ?_); rintro e w' ⟨rfl, rfl⟩))
  exact bodyPost_ret (v := .agg (shp _ _ _)) (by simp [results, Try.results31, go_sem, shp] <;> rfl) rfl ⟨rfl, (Gr.refl _).alloc _ _⟩
theorem access_16 (w : World) : Calls Try.prog 31 #[.int .i64 58] w (RES 7 0 ⟨#[105, 105, 58]⟩ w) := by
  go_enter Try.func31, Try.ntmps31
  go_wp2_with (go_at_call 20; first | ((with_reducible refine (within_yes _ _ _ (by omega) (by omega) _).mono ?_); rintro e w' ⟨rfl, rfl⟩) | ((with_reducible refine (within_no _ _ _ (by omega) _).mono ?_); rintro e w' ⟨rfl, rfl⟩))
  refine (memory_any _ _ _).mono ?_
  rintro e w1 ⟨rfl, hg⟩
  have hb := gr_block hg (heap_alloc_new w (.cells (shp 0 0 zs) 34))
  have HB := Lib.hid hb
  have HG := Lib.hid (gr_trans ((Gr.refl w).alloc _ _) hg)
  clear hb hg
  go_wp2_with (refine wpList_store_row rfl 34 _ _ rfl w.heap.size (shp _ _ _) rfl rfl 34 (shp 0 0 zs) HB.out infoS rfl (shp_one _ _ _) ?_)
  exact bodyPost_ret (v := .agg (shp _ _ _)) (results_cell_row Try.results31 _ _ w.heap.size 34 _ (0, 0) _ rfl (setRow_block HB.out) Try.underlying34 rfl infoS) rfl ⟨rfl, gr_setRow HG.out (by omega) _⟩
theorem access_17 (w : World) : Calls Try.prog 31 #[.int .i64 59] w (RES 7 1 ⟨#[105, 105, 58]⟩ w) := by
  go_enter Try.func31, Try.ntmps31
  go_wp2_with (go_at_call 20; first | ((with_reducible refine (within_yes _ _ _ (by omega) (by omega) _).mono ?_); rintro e w' ⟨rfl, rfl⟩) | ((with_reducible refine (within_no _ _ _ (by omega) _).mono ?_); rintro e w' ⟨rfl, rfl⟩))
  refine (memory_any _ _ _).mono ?_
  rintro e w1 ⟨rfl, hg⟩
  have hb := gr_block hg (heap_alloc_new w (.cells (shp 0 0 zs) 34))
  have HB := Lib.hid hb
  have HG := Lib.hid (gr_trans ((Gr.refl w).alloc _ _) hg)
  clear hb hg
  go_wp2_with (refine wpList_store_row rfl 34 _ _ rfl w.heap.size (shp _ _ _) rfl rfl 34 (shp 0 0 zs) HB.out infoS rfl (shp_one _ _ _) ?_)
  exact bodyPost_ret (v := .agg (shp _ _ _)) (results_cell_row Try.results31 _ _ w.heap.size 34 _ (0, 0) _ rfl (setRow_block HB.out) Try.underlying34 rfl infoS) rfl ⟨rfl, gr_setRow HG.out (by omega) _⟩
theorem access_18 (w : World) : Calls Try.prog 31 #[.int .i64 60] w (RES 7 0 ⟨#[105, 108, 58]⟩ w) := by
  go_enter Try.func31, Try.ntmps31
  go_wp2_with (go_at_call 20; first | ((with_reducible refine (within_yes _ _ _ (by omega) (by omega) _).mono ?_); rintro e w' ⟨rfl, rfl⟩) | ((with_reducible refine (within_no _ _ _ (by omega) _).mono ?_); rintro e w' ⟨rfl, rfl⟩))
  refine (memory_any _ _ _).mono ?_
  rintro e w1 ⟨rfl, hg⟩
  have hb := gr_block hg (heap_alloc_new w (.cells (shp 0 0 zs) 34))
  have HB := Lib.hid hb
  have HG := Lib.hid (gr_trans ((Gr.refl w).alloc _ _) hg)
  clear hb hg
  go_wp2_with (refine wpList_store_row rfl 34 _ _ rfl w.heap.size (shp _ _ _) rfl rfl 34 (shp 0 0 zs) HB.out infoS rfl (shp_one _ _ _) ?_)
  exact bodyPost_ret (v := .agg (shp _ _ _)) (results_cell_row Try.results31 _ _ w.heap.size 34 _ (0, 0) _ rfl (setRow_block HB.out) Try.underlying34 rfl infoS) rfl ⟨rfl, gr_setRow HG.out (by omega) _⟩
theorem access_19 (w : World) : Calls Try.prog 31 #[.int .i64 61] w (RES 7 1 ⟨#[105, 108, 58]⟩ w) := by
  go_enter Try.func31, Try.ntmps31
  go_wp2_with (go_at_call 20; first | ((with_reducible refine (within_yes _ _ _ (by omega) (by omega) _).mono ?_); rintro e w' ⟨rfl, rfl⟩) | ((with_reducible refine (within_no _ _ _ (by omega) _).mono ?_); rintro e w' ⟨rfl, rfl⟩))
  refine (memory_any _ _ _).mono ?_
  rintro e w1 ⟨rfl, hg⟩
  have hb := gr_block hg (heap_alloc_new w (.cells (shp 0 0 zs) 34))
  have HB := Lib.hid hb
  have HG := Lib.hid (gr_trans ((Gr.refl w).alloc _ _) hg)
  clear hb hg
  go_wp2_with (refine wpList_store_row rfl 34 _ _ rfl w.heap.size (shp _ _ _) rfl rfl 34 (shp 0 0 zs) HB.out infoS rfl (shp_one _ _ _) ?_)
  exact bodyPost_ret (v := .agg (shp _ _ _)) (results_cell_row Try.results31 _ _ w.heap.size 34 _ (0, 0) _ rfl (setRow_block HB.out) Try.underlying34 rfl infoS) rfl ⟨rfl, gr_setRow HG.out (by omega) _⟩
theorem access_20 (w : World) : Calls Try.prog 31 #[.int .i64 62] w (RES 7 2 ⟨#[105, 108, 58]⟩ w) := by
  go_enter Try.func31, Try.ntmps31
  go_wp2_with (go_at_call 20; first | ((with_reducible refine (within_yes _ _ _ (by omega) (by omega) _).mono ?_); rintro e w' ⟨rfl, rfl⟩) | ((with_reducible refine (within_no _ _ _ (by omega) _).mono ?_); rintro e w' ⟨rfl, rfl⟩))
  refine (memory_any _ _ _).mono ?_
  rintro e w1 ⟨rfl, hg⟩
  have hb := gr_block hg (heap_alloc_new w (.cells (shp 0 0 zs) 34))
  have HB := Lib.hid hb
  have HG := Lib.hid (gr_trans ((Gr.refl w).alloc _ _) hg)
  clear hb hg
  go_wp2_with (refine wpList_store_row rfl 34 _ _ rfl w.heap.size (shp _ _ _) rfl rfl 34 (shp 0 0 zs) HB.out infoS rfl (shp_one _ _ _) ?_)
  exact bodyPost_ret (v := .agg (shp _ _ _)) (results_cell_row Try.results31 _ _ w.heap.size 34 _ (0, 0) _ rfl (setRow_block HB.out) Try.underlying34 rfl infoS) rfl ⟨rfl, gr_setRow HG.out (by omega) _⟩
theorem operator_0 (w : World) : Calls Try.prog 32 #[.int .i64 69] w (RES 1 0 ⟨#[105, 58, 105]⟩ w) := by
  go_enter Try.func32, Try.ntmps32
  go_wp2_with (go_at_call 20; first | ((with_reducible refine (within_yes _ _ _ (by omega) (by omega) _).mono ?_); rintro e w' ⟨rfl, rfl⟩) | ((with_reducible refine (within_no _ _ _ (by omega) _).mono ?_); rintro e w' ⟨rfl, rfl⟩))
  refine (plain_any _ _).mono ?_
  rintro e w1 ⟨rfl, hg⟩
  have hb := gr_block hg (heap_alloc_new w (.cells (shp 0 0 zs) 34))
  have HB := Lib.hid hb
  have HG := Lib.hid (gr_trans ((Gr.refl w).alloc _ _) hg)
  clear hb hg
  go_wp2_with (refine wpList_store_row rfl 34 _ _ rfl w.heap.size (shp _ _ _) rfl rfl 34 (shp 0 0 zs) HB.out infoS rfl (shp_one _ _ _) ?_)
  exact bodyPost_ret (v := .agg (shp _ _ _)) (results_cell_row Try.results32 _ _ w.heap.size 34 _ (0, 0) _ rfl (setRow_block HB.out) Try.underlying34 rfl infoS) rfl ⟨rfl, gr_setRow HG.out (by omega) _⟩
theorem operator_1 (n : Int) (h0 : 70 ≤ n) (h1 : n ≤ 79) (w : World) : Calls Try.prog 32 #[.int .i64 n] w (RES 1 0 ⟨#[105, 105, 58, 105]⟩ w) := by
  go_enter Try.func32, Try.ntmps32
  go_wp2_with (go_at_call 20; first | ((with_reducible refine (within_yes _ _ _ (by omega) (by omega) _).mono ?_); rintro e w' ⟨rfl, rfl⟩) | ((with_reducible refine (within_no _ _ _ (by omega) _).mono ?_); rintro e w' ⟨rfl, rfl⟩))
  refine (plain_any _ _).mono ?_
  rintro e w1 ⟨rfl, hg⟩
  have hb := gr_block hg (heap_alloc_new w (.cells (shp 0 0 zs) 34))
  have HB := Lib.hid hb
  have HG := Lib.hid (gr_trans ((Gr.refl w).alloc _ _) hg)
  clear hb hg
  go_wp2_with (refine wpList_store_row rfl 34 _ _ rfl w.heap.size (shp _ _ _) rfl rfl 34 (shp 0 0 zs) HB.out infoS rfl (shp_one _ _ _) ?_)
  exact bodyPost_ret (v := .agg (shp _ _ _)) (results_cell_row Try.results32 _ _ w.heap.size 34 _ (0, 0) _ rfl (setRow_block HB.out) Try.underlying34 rfl infoS) rfl ⟨rfl, gr_setRow HG.out (by omega) _⟩
theorem operator_2 (w : World) : Calls Try.prog 32 #[.int .i64 80] w (RES 1 0 ⟨#[108, 58, 105]⟩ w) := by
  go_enter Try.func32, Try.ntmps32
  go_wp2_with (go_at_call 20; first | ((with_reducible refine (within_yes _ _ _ (by omega) (by omega) _).mono ?_); rintro e w' ⟨rfl, rfl⟩) | ((with_reducible refine (within_no _ _ _ (by omega) _).mono ?_); rintro e w' ⟨rfl, rfl⟩))
  refine (plain_any _ _).mono ?_
  rintro e w1 ⟨rfl, hg⟩
  have hb := gr_block hg (heap_alloc_new w (.cells (shp 0 0 zs) 34))
  have HB := Lib.hid hb
  have HG := Lib.hid (gr_trans ((Gr.refl w).alloc _ _) hg)
  clear hb hg
  go_wp2_with (refine wpList_store_row rfl 34 _ _ rfl w.heap.size (shp _ _ _) rfl rfl 34 (shp 0 0 zs) HB.out infoS rfl (shp_one _ _ _) ?_)
  exact bodyPost_ret (v := .agg (shp _ _ _)) (results_cell_row Try.results32 _ _ w.heap.size 34 _ (0, 0) _ rfl (setRow_block HB.out) Try.underlying34 rfl infoS) rfl ⟨rfl, gr_setRow HG.out (by omega) _⟩
theorem operator_3 (n : Int) (h0 : 81 ≤ n) (h1 : n ≤ 90) (w : World) : Calls Try.prog 32 #[.int .i64 n] w (RES 1 0 ⟨#[108, 108, 58, 105]⟩ w) := by
  go_enter Try.func32, Try.ntmps32
  go_wp2_with (go_at_call 20; first | ((with_reducible refine (within_yes _ _ _ (by omega) (by omega) _).mono ?_); rintro e w' ⟨rfl, rfl⟩) | ((with_reducible refine (within_no _ _ _ (by omega) _).mono ?_); rintro e w' ⟨rfl, rfl⟩))
  refine (plain_any _ _).mono ?_
  rintro e w1 ⟨rfl, hg⟩
  have hb := gr_block hg (heap_alloc_new w (.cells (shp 0 0 zs) 34))
  have HB := Lib.hid hb
  have HG := Lib.hid (gr_trans ((Gr.refl w).alloc _ _) hg)
  clear hb hg
  go_wp2_with (refine wpList_store_row rfl 34 _ _ rfl w.heap.size (shp _ _ _) rfl rfl 34 (shp 0 0 zs) HB.out infoS rfl (shp_one _ _ _) ?_)
  exact bodyPost_ret (v := .agg (shp _ _ _)) (results_cell_row Try.results32 _ _ w.heap.size 34 _ (0, 0) _ rfl (setRow_block HB.out) Try.underlying34 rfl infoS) rfl ⟨rfl, gr_setRow HG.out (by omega) _⟩
theorem operator_4 (n : Int) (h0 : 91 ≤ n) (h1 : n ≤ 102) (w : World) : Calls Try.prog 32 #[.int .i64 n] w (RES 0 0 ⟨#[]⟩ w) := by
  go_enter Try.func32, Try.ntmps32
  go_wp2_with (go_at_call 20; first | ((with_reducible refine (within_yes _ _ _ (by omega) (by omega) _).mono ?_); rintro e w' ⟨rfl, rfl⟩) | ((with_reducible refine (within_no _ _ _ (by omega) _).mono ?_); rintro e w' ⟨rfl, rfl⟩))
  exact bodyPost_ret (v := .agg (shp _ _ _)) (by simp [results, Try.results32, go_sem, shp] <;> rfl) rfl ⟨rfl, (Gr.refl _).alloc _ _⟩
theorem operator_5 (n : Int) (h0 : 103 ≤ n) (h1 : n ≤ 105) (w : World) : Calls Try.prog 32 #[.int .i64 n] w (RES 1 0 ⟨#[105, 58, 105]⟩ w) := by
  go_enter Try.func32, Try.ntmps32
  go_wp2_with (go_at_call 20; first | ((with_reducible refine (within_yes _ _ _ (by omega) (by omega) _).mono ?_); rintro e w' ⟨rfl, rfl⟩) | ((with_reducible refine (within_no _ _ _ (by omega) _).mono ?_); rintro e w' ⟨rfl, rfl⟩))
  refine (plain_any _ _).mono ?_
  rintro e w1 ⟨rfl, hg⟩
  have hb := gr_block hg (heap_alloc_new w (.cells (shp 0 0 zs) 34))
  have HB := Lib.hid hb
  have HG := Lib.hid (gr_trans ((Gr.refl w).alloc _ _) hg)
  clear hb hg
  go_wp2_with (refine wpList_store_row rfl 34 _ _ rfl w.heap.size (shp _ _ _) rfl rfl 34 (shp 0 0 zs) HB.out infoS rfl (shp_one _ _ _) ?_)
  exact bodyPost_ret (v := .agg (shp _ _ _)) (results_cell_row Try.results32 _ _ w.heap.size 34 _ (0, 0) _ rfl (setRow_block HB.out) Try.underlying34 rfl infoS) rfl ⟨rfl, gr_setRow HG.out (by omega) _⟩
theorem operator_6 (n : Int) (h0 : 106 ≤ n) (h1 : n ≤ 120) (w : World) : Calls Try.prog 32 #[.int .i64 n] w (RES 1 0 ⟨#[105, 105, 58, 105]⟩ w) := by
  go_enter Try.func32, Try.ntmps32
  go_wp2_with (go_at_call 20; first | ((with_reducible refine (within_yes _ _ _ (by omega) (by omega) _).mono ?_); rintro e w' ⟨rfl, rfl⟩) | ((with_reducible refine (within_no _ _ _ (by omega) _).mono ?_); rintro e w' ⟨rfl, rfl⟩))
  refine (plain_any _ _).mono ?_
  rintro e w1 ⟨rfl, hg⟩
  have hb := gr_block hg (heap_alloc_new w (.cells (shp 0 0 zs) 34))
  have HB := Lib.hid hb
  have HG := Lib.hid (gr_trans ((Gr.refl w).alloc _ _) hg)
  clear hb hg
  go_wp2_with (refine wpList_store_row rfl 34 _ _ rfl w.heap.size (shp _ _ _) rfl rfl 34 (shp 0 0 zs) HB.out infoS rfl (shp_one _ _ _) ?_)
  exact bodyPost_ret (v := .agg (shp _ _ _)) (results_cell_row Try.results32 _ _ w.heap.size 34 _ (0, 0) _ rfl (setRow_block HB.out) Try.underlying34 rfl infoS) rfl ⟨rfl, gr_setRow HG.out (by omega) _⟩
theorem operator_7 (n : Int) (h0 : 121 ≤ n) (h1 : n ≤ 123) (w : World) : Calls Try.prog 32 #[.int .i64 n] w (RES 1 0 ⟨#[108, 58, 108]⟩ w) := by
  go_enter Try.func32, Try.ntmps32
  go_wp2_with (go_at_call 20; first | ((with_reducible refine (within_yes _ _ _ (by omega) (by omega) _).mono ?_); rintro e w' ⟨rfl, rfl⟩) | ((with_reducible refine (within_no _ _ _ (by omega) _).mono ?_); rintro e w' ⟨rfl, rfl⟩))
  refine (plain_any _ _).mono ?_
  rintro e w1 ⟨rfl, hg⟩
  have hb := gr_block hg (heap_alloc_new w (.cells (shp 0 0 zs) 34))
  have HB := Lib.hid hb
  have HG := Lib.hid (gr_trans ((Gr.refl w).alloc _ _) hg)
  clear hb hg
  go_wp2_with (refine wpList_store_row rfl 34 _ _ rfl w.heap.size (shp _ _ _) rfl rfl 34 (shp 0 0 zs) HB.out infoS rfl (shp_one _ _ _) ?_)
  exact bodyPost_ret (v := .agg (shp _ _ _)) (results_cell_row Try.results32 _ _ w.heap.size 34 _ (0, 0) _ rfl (setRow_block HB.out) Try.underlying34 rfl infoS) rfl ⟨rfl, gr_setRow HG.out (by omega) _⟩
theorem operator_8 (n : Int) (h0 : 124 ≤ n) (h1 : n ≤ 138) (w : World) : Calls Try.prog 32 #[.int .i64 n] w (RES 1 0 ⟨#[108, 108, 58, 108]⟩ w) := by
  go_enter Try.func32, Try.ntmps32
  go_wp2_with (go_at_call 20; first | ((with_reducible refine (within_yes _ _ _ (by omega) (by omega) _).mono ?_); rintro e w' ⟨rfl, rfl⟩) | ((with_reducible refine (within_no _ _ _ (by omega) _).mono ?_); rintro e w' ⟨rfl, rfl⟩))
  refine (plain_any _ _).mono ?_
  rintro e w1 ⟨rfl, hg⟩
  have hb := gr_block hg (heap_alloc_new w (.cells (shp 0 0 zs) 34))
  have HB := Lib.hid hb
  have HG := Lib.hid (gr_trans ((Gr.refl w).alloc _ _) hg)
  clear hb hg
  go_wp2_with (refine wpList_store_row rfl 34 _ _ rfl w.heap.size (shp _ _ _) rfl rfl 34 (shp 0 0 zs) HB.out infoS rfl (shp_one _ _ _) ?_)
  exact bodyPost_ret (v := .agg (shp _ _ _)) (results_cell_row Try.results32 _ _ w.heap.size 34 _ (0, 0) _ rfl (setRow_block HB.out) Try.underlying34 rfl infoS) rfl ⟨rfl, gr_setRow HG.out (by omega) _⟩
theorem operator_9 (n : Int) (h0 : 139 ≤ n) (h1 : n ≤ 166) (w : World) : Calls Try.prog 32 #[.int .i64 n] w (RES 0 0 ⟨#[]⟩ w) := by
  go_enter Try.func32, Try.ntmps32
  go_wp2_with (go_at_call 20; first | ((with_reducible refine (within_yes _ _ _ (by omega) (by omega) _).mono ?_); rintro e w' ⟨rfl, rfl⟩) | ((with_reducible refine (within_no _ _ _ (by omega) _).mono ?_); rintro e w' ⟨rfl, rfl⟩))
  exact bodyPost_ret (v := .agg (shp _ _ _)) (by simp [results, Try.results32, go_sem, shp] <;> rfl) rfl ⟨rfl, (Gr.refl _).alloc _ _⟩
theorem operator_10 (w : World) : Calls Try.prog 32 #[.int .i64 167] w (RES 1 0 ⟨#[108, 58, 105]⟩ w) := by
  go_enter Try.func32, Try.ntmps32
  go_wp2_with (go_at_call 20; first | ((with_reducible refine (within_yes _ _ _ (by omega) (by omega) _).mono ?_); rintro e w' ⟨rfl, rfl⟩) | ((with_reducible refine (within_no _ _ _ (by omega) _).mono ?_); rintro e w' ⟨rfl, rfl⟩))
  refine (plain_any _ _).mono ?_
  rintro e w1 ⟨rfl, hg⟩
  have hb := gr_block hg (heap_alloc_new w (.cells (shp 0 0 zs) 34))
  have HB := Lib.hid hb
  have HG := Lib.hid (gr_trans ((Gr.refl w).alloc _ _) hg)
  clear hb hg
  go_wp2_with (refine wpList_store_row rfl 34 _ _ rfl w.heap.size (shp _ _ _) rfl rfl 34 (shp 0 0 zs) HB.out infoS rfl (shp_one _ _ _) ?_)
  exact bodyPost_ret (v := .agg (shp _ _ _)) (results_cell_row Try.results32 _ _ w.heap.size 34 _ (0, 0) _ rfl (setRow_block HB.out) Try.underlying34 rfl infoS) rfl ⟨rfl, gr_setRow HG.out (by omega) _⟩
theorem operator_11 (n : Int) (h0 : 168 ≤ n) (h1 : n ≤ 171) (w : World) : Calls Try.prog 32 #[.int .i64 n] w (RES 0 0 ⟨#[]⟩ w) := by
  go_enter Try.func32, Try.ntmps32
  go_wp2_with (go_at_call 20; first | ((with_reducible refine (within_yes _ _ _ (by omega) (by omega) _).mono ?_); rintro e w' ⟨rfl, rfl⟩) | ((with_reducible refine (within_no _ _ _ (by omega) _).mono ?_); rintro e w' ⟨rfl, rfl⟩))
  exact bodyPost_ret (v := .agg (shp _ _ _)) (by simp [results, Try.results32, go_sem, shp] <;> rfl) rfl ⟨rfl, (Gr.refl _).alloc _ _⟩
theorem operator_12 (n : Int) (h0 : 172 ≤ n) (h1 : n ≤ 173) (w : World) : Calls Try.prog 32 #[.int .i64 n] w (RES 1 0 ⟨#[105, 58, 108]⟩ w) := by
  go_enter Try.func32, Try.ntmps32
  go_wp2_with (go_at_call 20; first | ((with_reducible refine (within_yes _ _ _ (by omega) (by omega) _).mono ?_); rintro e w' ⟨rfl, rfl⟩) | ((with_reducible refine (within_no _ _ _ (by omega) _).mono ?_); rintro e w' ⟨rfl, rfl⟩))
  refine (plain_any _ _).mono ?_
  rintro e w1 ⟨rfl, hg⟩
  have hb := gr_block hg (heap_alloc_new w (.cells (shp 0 0 zs) 34))
  have HB := Lib.hid hb
  have HG := Lib.hid (gr_trans ((Gr.refl w).alloc _ _) hg)
  clear hb hg
  go_wp2_with (refine wpList_store_row rfl 34 _ _ rfl w.heap.size (shp _ _ _) rfl rfl 34 (shp 0 0 zs) HB.out infoS rfl (shp_one _ _ _) ?_)
  exact bodyPost_ret (v := .agg (shp _ _ _)) (results_cell_row Try.results32 _ _ w.heap.size 34 _ (0, 0) _ rfl (setRow_block HB.out) Try.underlying34 rfl infoS) rfl ⟨rfl, gr_setRow HG.out (by omega) _⟩
theorem operator_13 (n : Int) (h0 : 174 ≤ n) (h1 : n ≤ 191) (w : World) : Calls Try.prog 32 #[.int .i64 n] w (RES 0 0 ⟨#[]⟩ w) := by
  go_enter Try.func32, Try.ntmps32
  go_wp2_with (go_at_call 20; first | ((with_reducible refine (within_yes _ _ _ (by omega) (by omega) _).mono ?_); rintro e w' ⟨rfl, rfl⟩) | ((with_reducible refine (within_no _ _ _ (by omega) _).mono ?_); rintro e w' ⟨rfl, rfl⟩))
  exact bodyPost_ret (v := .agg (shp _ _ _)) (by simp [results, Try.results32, go_sem, shp] <;> rfl) rfl ⟨rfl, (Gr.refl _).alloc _ _⟩
theorem operator_14 (n : Int) (h0 : 192 ≤ n) (h1 : n ≤ 193) (w : World) : Calls Try.prog 32 #[.int .i64 n] w (RES 1 0 ⟨#[105, 58, 105]⟩ w) := by
  go_enter Try.func32, Try.ntmps32
  go_wp2_with (go_at_call 20; first | ((with_reducible refine (within_yes _ _ _ (by omega) (by omega) _).mono ?_); rintro e w' ⟨rfl, rfl⟩) | ((with_reducible refine (within_no _ _ _ (by omega) _).mono ?_); rintro e w' ⟨rfl, rfl⟩))
  refine (plain_any _ _).mono ?_
  rintro e w1 ⟨rfl, hg⟩
  have hb := gr_block hg (heap_alloc_new w (.cells (shp 0 0 zs) 34))
  have HB := Lib.hid hb
  have HG := Lib.hid (gr_trans ((Gr.refl w).alloc _ _) hg)
  clear hb hg
  go_wp2_with (refine wpList_store_row rfl 34 _ _ rfl w.heap.size (shp _ _ _) rfl rfl 34 (shp 0 0 zs) HB.out infoS rfl (shp_one _ _ _) ?_)
  exact bodyPost_ret (v := .agg (shp _ _ _)) (results_cell_row Try.results32 _ _ w.heap.size 34 _ (0, 0) _ rfl (setRow_block HB.out) Try.underlying34 rfl infoS) rfl ⟨rfl, gr_setRow HG.out (by omega) _⟩
theorem operator_15 (n : Int) (h0 : 194 ≤ n) (h1 : n ≤ 196) (w : World) : Calls Try.prog 32 #[.int .i64 n] w (RES 1 0 ⟨#[108, 58, 108]⟩ w) := by
  go_enter Try.func32, Try.ntmps32
  go_wp2_with (go_at_call 20; first | ((with_reducible refine (within_yes _ _ _ (by omega) (by omega) _).mono ?_); rintro e w' ⟨rfl, rfl⟩) | ((with_reducible refine (within_no _ _ _ (by omega) _).mono ?_); rintro e w' ⟨rfl, rfl⟩))
  refine (plain_any _ _).mono ?_
  rintro e w1 ⟨rfl, hg⟩
  have hb := gr_block hg (heap_alloc_new w (.cells (shp 0 0 zs) 34))
  have HB := Lib.hid hb
  have HG := Lib.hid (gr_trans ((Gr.refl w).alloc _ _) hg)
  clear hb hg
  go_wp2_with (refine wpList_store_row rfl 34 _ _ rfl w.heap.size (shp _ _ _) rfl rfl 34 (shp 0 0 zs) HB.out infoS rfl (shp_one _ _ _) ?_)
  exact bodyPost_ret (v := .agg (shp _ _ _)) (results_cell_row Try.results32 _ _ w.heap.size 34 _ (0, 0) _ rfl (setRow_block HB.out) Try.underlying34 rfl infoS) rfl ⟨rfl, gr_setRow HG.out (by omega) _⟩
theorem operator_16 (n : Int) (h0 : 197 ≤ n) (w : World) : Calls Try.prog 32 #[.int .i64 n] w (RES 0 0 ⟨#[]⟩ w) := by
  go_enter Try.func32, Try.ntmps32
  go_wp2_with (go_at_call 20; first | ((with_reducible refine (within_yes _ _ _ (by omega) (by omega) _).mono ?_); rintro e w' ⟨rfl, rfl⟩) | ((with_reducible refine (within_no _ _ _ (by omega) _).mono ?_); rintro e w' ⟨rfl, rfl⟩))
  exact bodyPost_ret (v := .agg (shp _ _ _)) (by simp [results, Try.results32, go_sem, shp] <;> rfl) rfl ⟨rfl, (Gr.refl _).alloc _ _⟩
theorem control_0 (n : Int) (h1 : n ≤ -1) (w : World) : Calls Try.prog 33 #[.int .i64 n] w (RES 0 0 ⟨#[]⟩ w) := by
  go_enter Try.func33, Try.ntmps33
  go_wp2_with (go_at_call 20; first | ((with_reducible refine (within_yes _ _ _ (by omega) (by omega) _).mono ?_); rintro e w' ⟨rfl, rfl⟩) | ((with_reducible refine (within_no _ _ _ (by omega) _).mono ?_); rintro e w' ⟨rfl, rfl⟩))
  exact bodyPost_ret (v := .agg (shp _ _ _)) (by simp [results, Try.results33, go_sem, shp] <;> rfl) rfl ⟨rfl, (Gr.refl _).alloc _ _⟩
theorem control_1 (w : World) : Calls Try.prog 33 #[.int .i64 0] w (RES 1 0 ⟨#[]⟩ w) := by
  go_enter Try.func33, Try.ntmps33
  go_wp2_with (go_at_call 20; first | ((with_reducible refine (within_yes _ _ _ (by omega) (by omega) _).mono ?_); rintro e w' ⟨rfl, rfl⟩) | ((with_reducible refine (within_no _ _ _ (by omega) _).mono ?_); rintro e w' ⟨rfl, rfl⟩))
  refine (plain_any _ _).mono ?_
  rintro e w1 ⟨rfl, hg⟩
  have hb := gr_block hg (heap_alloc_new w (.cells (shp 0 0 zs) 34))
  have HB := Lib.hid hb
  have HG := Lib.hid (gr_trans ((Gr.refl w).alloc _ _) hg)
  clear hb hg
  go_wp2_with (refine wpList_store_row rfl 34 _ _ rfl w.heap.size (shp _ _ _) rfl rfl 34 (shp 0 0 zs) HB.out infoS rfl (shp_one _ _ _) ?_)
  exact bodyPost_ret (v := .agg (shp _ _ _)) (results_cell_row Try.results33 _ _ w.heap.size 34 _ (0, 0) _ rfl (setRow_block HB.out) Try.underlying34 rfl infoS) rfl ⟨rfl, gr_setRow HG.out (by omega) _⟩
theorem control_2 (w : World) : Calls Try.prog 33 #[.int .i64 1] w (RES 1 0 ⟨#[58]⟩ w) := by
  go_enter Try.func33, Try.ntmps33
  go_wp2_with (go_at_call 20; first | ((with_reducible refine (within_yes _ _ _ (by omega) (by omega) _).mono ?_); rintro e w' ⟨rfl, rfl⟩) | ((with_reducible refine (within_no _ _ _ (by omega) _).mono ?_); rintro e w' ⟨rfl, rfl⟩))
  refine (plain_any _ _).mono ?_
  rintro e w1 ⟨rfl, hg⟩
  have hb := gr_block hg (heap_alloc_new w (.cells (shp 0 0 zs) 34))
  have HB := Lib.hid hb
  have HG := Lib.hid (gr_trans ((Gr.refl w).alloc _ _) hg)
  clear hb hg
  go_wp2_with (refine wpList_store_row rfl 34 _ _ rfl w.heap.size (shp _ _ _) rfl rfl 34 (shp 0 0 zs) HB.out infoS rfl (shp_one _ _ _) ?_)
  exact bodyPost_ret (v := .agg (shp _ _ _)) (results_cell_row Try.results33 _ _ w.heap.size 34 _ (0, 0) _ rfl (setRow_block HB.out) Try.underlying34 rfl infoS) rfl ⟨rfl, gr_setRow HG.out (by omega) _⟩
theorem control_3 (w : World) : Calls Try.prog 33 #[.int .i64 2] w (RES 2 0 ⟨#[]⟩ w) := by
  go_enter Try.func33, Try.ntmps33
  go_wp2_with (go_at_call 20; first | ((with_reducible refine (within_yes _ _ _ (by omega) (by omega) _).mono ?_); rintro e w' ⟨rfl, rfl⟩) | ((with_reducible refine (within_no _ _ _ (by omega) _).mono ?_); rintro e w' ⟨rfl, rfl⟩))
  exact bodyPost_ret (v := .agg (shp _ _ _)) (by simp [results, Try.results33, go_sem, shp] <;> rfl) rfl ⟨rfl, (Gr.refl _).alloc _ _⟩
theorem control_4 (w : World) : Calls Try.prog 33 #[.int .i64 3] w (RES 2 0 ⟨#[]⟩ w) := by
  go_enter Try.func33, Try.ntmps33
  go_wp2_with (go_at_call 20; first | ((with_reducible refine (within_yes _ _ _ (by omega) (by omega) _).mono ?_); rintro e w' ⟨rfl, rfl⟩) | ((with_reducible refine (within_no _ _ _ (by omega) _).mono ?_); rintro e w' ⟨rfl, rfl⟩))
  exact bodyPost_ret (v := .agg (shp _ _ _)) (by simp [results, Try.results33, go_sem, shp] <;> rfl) rfl ⟨rfl, (Gr.refl _).alloc _ _⟩
theorem control_5 (w : World) : Calls Try.prog 33 #[.int .i64 4] w (RES 2 0 ⟨#[]⟩ w) := by
  go_enter Try.func33, Try.ntmps33
  go_wp2_with (go_at_call 20; first | ((with_reducible refine (within_yes _ _ _ (by omega) (by omega) _).mono ?_); rintro e w' ⟨rfl, rfl⟩) | ((with_reducible refine (within_no _ _ _ (by omega) _).mono ?_); rintro e w' ⟨rfl, rfl⟩))
  exact bodyPost_ret (v := .agg (shp _ _ _)) (by simp [results, Try.results33, go_sem, shp] <;> rfl) rfl ⟨rfl, (Gr.refl _).alloc _ _⟩
theorem control_6 (w : World) : Calls Try.prog 33 #[.int .i64 5] w (RES 1 0 ⟨#[]⟩ w) := by
  go_enter Try.func33, Try.ntmps33
  go_wp2_with (go_at_call 20; first | ((with_reducible refine (within_yes _ _ _ (by omega) (by omega) _).mono ?_); rintro e w' ⟨rfl, rfl⟩) | ((with_reducible refine (within_no _ _ _ (by omega) _).mono ?_); rintro e w' ⟨rfl, rfl⟩))
  refine (plain_any _ _).mono ?_
  rintro e w1 ⟨rfl, hg⟩
  have hb := gr_block hg (heap_alloc_new w (.cells (shp 0 0 zs) 34))
  have HB := Lib.hid hb
  have HG := Lib.hid (gr_trans ((Gr.refl w).alloc _ _) hg)
  clear hb hg
  go_wp2_with (refine wpList_store_row rfl 34 _ _ rfl w.heap.size (shp _ _ _) rfl rfl 34 (shp 0 0 zs) HB.out infoS rfl (shp_one _ _ _) ?_)
  exact bodyPost_ret (v := .agg (shp _ _ _)) (results_cell_row Try.results33 _ _ w.heap.size 34 _ (0, 0) _ rfl (setRow_block HB.out) Try.underlying34 rfl infoS) rfl ⟨rfl, gr_setRow HG.out (by omega) _⟩
theorem control_7 (n : Int) (h0 : 6 ≤ n) (h1 : n ≤ 10) (w : World) : Calls Try.prog 33 #[.int .i64 n] w (RES 0 0 ⟨#[]⟩ w) := by
  go_enter Try.func33, Try.ntmps33
  go_wp2_with (go_at_call 20; first | ((with_reducible refine (within_yes _ _ _ (by omega) (by omega) _).mono ?_); rintro e w' ⟨rfl, rfl⟩) | ((with_reducible refine (within_no _ _ _ (by omega) _).mono ?_); rintro e w' ⟨rfl, rfl⟩))
  exact bodyPost_ret (v := .agg (shp _ _ _)) (by simp [results, Try.results33, go_sem, shp] <;> rfl) rfl ⟨rfl, (Gr.refl _).alloc _ _⟩
theorem control_8 (w : World) : Calls Try.prog 33 #[.int .i64 11] w (RES 1 0 ⟨#[]⟩ w) := by
  go_enter Try.func33, Try.ntmps33
  go_wp2_with (go_at_call 20; first | ((with_reducible refine (within_yes _ _ _ (by omega) (by omega) _).mono ?_); rintro e w' ⟨rfl, rfl⟩) | ((with_reducible refine (within_no _ _ _ (by omega) _).mono ?_); rintro e w' ⟨rfl, rfl⟩))
  refine (plain_any _ _).mono ?_
  rintro e w1 ⟨rfl, hg⟩
  have hb := gr_block hg (heap_alloc_new w (.cells (shp 0 0 zs) 34))
  have HB := Lib.hid hb
  have HG := Lib.hid (gr_trans ((Gr.refl w).alloc _ _) hg)
  clear hb hg
  go_wp2_with (refine wpList_store_row rfl 34 _ _ rfl w.heap.size (shp _ _ _) rfl rfl 34 (shp 0 0 zs) HB.out infoS rfl (shp_one _ _ _) ?_)
  exact bodyPost_ret (v := .agg (shp _ _ _)) (results_cell_row Try.results33 _ _ w.heap.size 34 _ (0, 0) _ rfl (setRow_block HB.out) Try.underlying34 rfl infoS) rfl ⟨rfl, gr_setRow HG.out (by omega) _⟩
theorem control_9 (w : World) : Calls Try.prog 33 #[.int .i64 12] w (RES 3 0 ⟨#[]⟩ w) := by
  go_enter Try.func33, Try.ntmps33
  go_wp2_with (go_at_call 20; first | ((with_reducible refine (within_yes _ _ _ (by omega) (by omega) _).mono ?_); rintro e w' ⟨rfl, rfl⟩) | ((with_reducible refine (within_no _ _ _ (by omega) _).mono ?_); rintro e w' ⟨rfl, rfl⟩))
  exact bodyPost_ret (v := .agg (shp _ _ _)) (by simp [results, Try.results33, go_sem, shp] <;> rfl) rfl ⟨rfl, (Gr.refl _).alloc _ _⟩
theorem control_10 (w : World) : Calls Try.prog 33 #[.int .i64 13] w (RES 3 0 ⟨#[]⟩ w) := by
  go_enter Try.func33, Try.ntmps33
  go_wp2_with (go_at_call 20; first | ((with_reducible refine (within_yes _ _ _ (by omega) (by omega) _).mono ?_); rintro e w' ⟨rfl, rfl⟩) | ((with_reducible refine (within_no _ _ _ (by omega) _).mono ?_); rintro e w' ⟨rfl, rfl⟩))
  exact bodyPost_ret (v := .agg (shp _ _ _)) (by simp [results, Try.results33, go_sem, shp] <;> rfl) rfl ⟨rfl, (Gr.refl _).alloc _ _⟩
theorem control_11 (w : World) : Calls Try.prog 33 #[.int .i64 14] w (RES 4 0 ⟨#[]⟩ w) := by
  go_enter Try.func33, Try.ntmps33
  go_wp2_with (go_at_call 20; first | ((with_reducible refine (within_yes _ _ _ (by omega) (by omega) _).mono ?_); rintro e w' ⟨rfl, rfl⟩) | ((with_reducible refine (within_no _ _ _ (by omega) _).mono ?_); rintro e w' ⟨rfl, rfl⟩))
  exact bodyPost_ret (v := .agg (shp _ _ _)) (by simp [results, Try.results33, go_sem, shp] <;> rfl) rfl ⟨rfl, (Gr.refl _).alloc _ _⟩
theorem control_12 (w : World) : Calls Try.prog 33 #[.int .i64 15] w (RES 1 0 ⟨#[]⟩ w) := by
  go_enter Try.func33, Try.ntmps33
  go_wp2_with (go_at_call 20; first | ((with_reducible refine (within_yes _ _ _ (by omega) (by omega) _).mono ?_); rintro e w' ⟨rfl, rfl⟩) | ((with_reducible refine (within_no _ _ _ (by omega) _).mono ?_); rintro e w' ⟨rfl, rfl⟩))
  refine (plain_any _ _).mono ?_
  rintro e w1 ⟨rfl, hg⟩
  have hb := gr_block hg (heap_alloc_new w (.cells (shp 0 0 zs) 34))
  have HB := Lib.hid hb
  have HG := Lib.hid (gr_trans ((Gr.refl w).alloc _ _) hg)
  clear hb hg
  go_wp2_with (refine wpList_store_row rfl 34 _ _ rfl w.heap.size (shp _ _ _) rfl rfl 34 (shp 0 0 zs) HB.out infoS rfl (shp_one _ _ _) ?_)
  exact bodyPost_ret (v := .agg (shp _ _ _)) (results_cell_row Try.results33 _ _ w.heap.size 34 _ (0, 0) _ rfl (setRow_block HB.out) Try.underlying34 rfl infoS) rfl ⟨rfl, gr_setRow HG.out (by omega) _⟩
theorem control_13 (w : World) : Calls Try.prog 33 #[.int .i64 16] w (RES 5 0 ⟨#[]⟩ w) := by
  go_enter Try.func33, Try.ntmps33
  go_wp2_with (go_at_call 20; first | ((with_reducible refine (within_yes _ _ _ (by omega) (by omega) _).mono ?_); rintro e w' ⟨rfl, rfl⟩) | ((with_reducible refine (within_no _ _ _ (by omega) _).mono ?_); rintro e w' ⟨rfl, rfl⟩))
  exact bodyPost_ret (v := .agg (shp _ _ _)) (by simp [results, Try.results33, go_sem, shp] <;> rfl) rfl ⟨rfl, (Gr.refl _).alloc _ _⟩
theorem control_14 (w : World) : Calls Try.prog 33 #[.int .i64 17] w (RES 6 0 ⟨#[]⟩ w) := by
  go_enter Try.func33, Try.ntmps33
  go_wp2_with (go_at_call 20; first | ((with_reducible refine (within_yes _ _ _ (by omega) (by omega) _).mono ?_); rintro e w' ⟨rfl, rfl⟩) | ((with_reducible refine (within_no _ _ _ (by omega) _).mono ?_); rintro e w' ⟨rfl, rfl⟩))
  exact bodyPost_ret (v := .agg (shp _ _ _)) (by simp [results, Try.results33, go_sem, shp] <;> rfl) rfl ⟨rfl, (Gr.refl _).alloc _ _⟩
theorem control_15 (n : Int) (h0 : 18 ≤ n) (h1 : n ≤ 25) (w : World) : Calls Try.prog 33 #[.int .i64 n] w (RES 0 0 ⟨#[]⟩ w) := by
  go_enter Try.func33, Try.ntmps33
  go_wp2_with (go_at_call 20; first | ((with_reducible refine (within_yes _ _ _ (by omega) (by omega) _).mono ?_); rintro e w' ⟨rfl, rfl⟩) | ((with_reducible refine (within_no _ _ _ (by omega) _).mono ?_); rintro e w' ⟨rfl, rfl⟩))
  exact bodyPost_ret (v := .agg (shp _ _ _)) (by simp [results, Try.results33, go_sem, shp] <;> rfl) rfl ⟨rfl, (Gr.refl _).alloc _ _⟩
theorem control_16 (w : World) : Calls Try.prog 33 #[.int .i64 26] w (RES 1 0 ⟨#[]⟩ w) := by
  go_enter Try.func33, Try.ntmps33
  go_wp2_with (go_at_call 20; first | ((with_reducible refine (within_yes _ _ _ (by omega) (by omega) _).mono ?_); rintro e w' ⟨rfl, rfl⟩) | ((with_reducible refine (within_no _ _ _ (by omega) _).mono ?_); rintro e w' ⟨rfl, rfl⟩))
  refine (plain_any _ _).mono ?_
  rintro e w1 ⟨rfl, hg⟩
  have hb := gr_block hg (heap_alloc_new w (.cells (shp 0 0 zs) 34))
  have HB := Lib.hid hb
  have HG := Lib.hid (gr_trans ((Gr.refl w).alloc _ _) hg)
  clear hb hg
  go_wp2_with (refine wpList_store_row rfl 34 _ _ rfl w.heap.size (shp _ _ _) rfl rfl 34 (shp 0 0 zs) HB.out infoS rfl (shp_one _ _ _) ?_)
  exact bodyPost_ret (v := .agg (shp _ _ _)) (results_cell_row Try.results33 _ _ w.heap.size 34 _ (0, 0) _ rfl (setRow_block HB.out) Try.underlying34 rfl infoS) rfl ⟨rfl, gr_setRow HG.out (by omega) _⟩
theorem control_17 (w : World) : Calls Try.prog 33 #[.int .i64 27] w (RES 1 0 ⟨#[]⟩ w) := by
  go_enter Try.func33, Try.ntmps33
  go_wp2_with (go_at_call 20; first | ((with_reducible refine (within_yes _ _ _ (by omega) (by omega) _).mono ?_); rintro e w' ⟨rfl, rfl⟩) | ((with_reducible refine (within_no _ _ _ (by omega) _).mono ?_); rintro e w' ⟨rfl, rfl⟩))
  refine (plain_any _ _).mono ?_
  rintro e w1 ⟨rfl, hg⟩
  have hb := gr_block hg (heap_alloc_new w (.cells (shp 0 0 zs) 34))
  have HB := Lib.hid hb
  have HG := Lib.hid (gr_trans ((Gr.refl w).alloc _ _) hg)
  clear hb hg
  go_wp2_with (refine wpList_store_row rfl 34 _ _ rfl w.heap.size (shp _ _ _) rfl rfl 34 (shp 0 0 zs) HB.out infoS rfl (shp_one _ _ _) ?_)
  exact bodyPost_ret (v := .agg (shp _ _ _)) (results_cell_row Try.results33 _ _ w.heap.size 34 _ (0, 0) _ rfl (setRow_block HB.out) Try.underlying34 rfl infoS) rfl ⟨rfl, gr_setRow HG.out (by omega) _⟩
theorem control_18 (n : Int) (h0 : 28 ≤ n) (h1 : n ≤ 31) (w : World) : Calls Try.prog 33 #[.int .i64 n] w (RES 0 0 ⟨#[]⟩ w) := by
  go_enter Try.func33, Try.ntmps33
  go_wp2_with (go_at_call 20; first | ((with_reducible refine (within_yes _ _ _ (by omega) (by omega) _).mono ?_); rintro e w' ⟨rfl, rfl⟩) | ((with_reducible refine (within_no _ _ _ (by omega) _).mono ?_); rintro e w' ⟨rfl, rfl⟩))
  exact bodyPost_ret (v := .agg (shp _ _ _)) (by simp [results, Try.results33, go_sem, shp] <;> rfl) rfl ⟨rfl, (Gr.refl _).alloc _ _⟩
theorem control_19 (w : World) : Calls Try.prog 33 #[.int .i64 32] w (RES 5 0 ⟨#[]⟩ w) := by
  go_enter Try.func33, Try.ntmps33
  go_wp2_with (go_at_call 20; first | ((with_reducible refine (within_yes _ _ _ (by omega) (by omega) _).mono ?_); rintro e w' ⟨rfl, rfl⟩) | ((with_reducible refine (within_no _ _ _ (by omega) _).mono ?_); rintro e w' ⟨rfl, rfl⟩))
  exact bodyPost_ret (v := .agg (shp _ _ _)) (by simp [results, Try.results33, go_sem, shp] <;> rfl) rfl ⟨rfl, (Gr.refl _).alloc _ _⟩
theorem control_20 (w : World) : Calls Try.prog 33 #[.int .i64 33] w (RES 5 0 ⟨#[]⟩ w) := by
  go_enter Try.func33, Try.ntmps33
  go_wp2_with (go_at_call 20; first | ((with_reducible refine (within_yes _ _ _ (by omega) (by omega) _).mono ?_); rintro e w' ⟨rfl, rfl⟩) | ((with_reducible refine (within_no _ _ _ (by omega) _).mono ?_); rintro e w' ⟨rfl, rfl⟩))
  exact bodyPost_ret (v := .agg (shp _ _ _)) (by simp [results, Try.results33, go_sem, shp] <;> rfl) rfl ⟨rfl, (Gr.refl _).alloc _ _⟩
theorem control_21 (w : World) : Calls Try.prog 33 #[.int .i64 34] w (RES 5 0 ⟨#[]⟩ w) := by
  go_enter Try.func33, Try.ntmps33
  go_wp2_with (go_at_call 20; first | ((with_reducible refine (within_yes _ _ _ (by omega) (by omega) _).mono ?_); rintro e w' ⟨rfl, rfl⟩) | ((with_reducible refine (within_no _ _ _ (by omega) _).mono ?_); rintro e w' ⟨rfl, rfl⟩))
  exact bodyPost_ret (v := .agg (shp _ _ _)) (by simp [results, Try.results33, go_sem, shp] <;> rfl) rfl ⟨rfl, (Gr.refl _).alloc _ _⟩
theorem control_22 (w : World) : Calls Try.prog 33 #[.int .i64 35] w (RES 5 0 ⟨#[]⟩ w) := by
  go_enter Try.func33, Try.ntmps33
  go_wp2_with (go_at_call 20; first | ((with_reducible refine (within_yes _ _ _ (by omega) (by omega) _).mono ?_); rintro e w' ⟨rfl, rfl⟩) | ((with_reducible refine (within_no _ _ _ (by omega) _).mono ?_); rintro e w' ⟨rfl, rfl⟩))
  exact bodyPost_ret (v := .agg (shp _ _ _)) (by simp [results, Try.results33, go_sem, shp] <;> rfl) rfl ⟨rfl, (Gr.refl _).alloc _ _⟩
theorem control_23 (w : World) : Calls Try.prog 33 #[.int .i64 36] w (RES 5 0 ⟨#[]⟩ w) := by
  go_enter Try.func33, Try.ntmps33
  go_wp2_with (go_at_call 20; first | ((with_reducible refine (within_yes _ _ _ (by omega) (by omega) _).mono ?_); rintro e w' ⟨rfl, rfl⟩) | ((with_reducible refine (within_no _ _ _ (by omega) _).mono ?_); rintro e w' ⟨rfl, rfl⟩))
  exact bodyPost_ret (v := .agg (shp _ _ _)) (by simp [results, Try.results33, go_sem, shp] <;> rfl) rfl ⟨rfl, (Gr.refl _).alloc _ _⟩
theorem control_24 (n : Int) (h0 : 37 ≤ n) (h1 : n ≤ 39) (w : World) : Calls Try.prog 33 #[.int .i64 n] w (RES 0 0 ⟨#[]⟩ w) := by
  go_enter Try.func33, Try.ntmps33
  go_wp2_with (go_at_call 20; first | ((with_reducible refine (within_yes _ _ _ (by omega) (by omega) _).mono ?_); rintro e w' ⟨rfl, rfl⟩) | ((with_reducible refine (within_no _ _ _ (by omega) _).mono ?_); rintro e w' ⟨rfl, rfl⟩))
  exact bodyPost_ret (v := .agg (shp _ _ _)) (by simp [results, Try.results33, go_sem, shp] <;> rfl) rfl ⟨rfl, (Gr.refl _).alloc _ _⟩
theorem control_25 (n : Int) (h0 : 67 ≤ n) (h1 : n ≤ 68) (w : World) : Calls Try.prog 33 #[.int .i64 n] w (RES 0 0 ⟨#[]⟩ w) := by
  go_enter Try.func33, Try.ntmps33
  go_wp2_with (go_at_call 20; first | ((with_reducible refine (within_yes _ _ _ (by omega) (by omega) _).mono ?_); rintro e w' ⟨rfl, rfl⟩) | ((with_reducible refine (within_no _ _ _ (by omega) _).mono ?_); rintro e w' ⟨rfl, rfl⟩))
  exact bodyPost_ret (v := .agg (shp _ _ _)) (by simp [results, Try.results33, go_sem, shp] <;> rfl) rfl ⟨rfl, (Gr.refl _).alloc _ _⟩
theorem va_0 (w : World) : Calls Try.prog 26 #[.int .i64 0] w (RES 7 4 ⟨#[105, 58, 118]⟩ w) := by
  go_enter Try.func26, Try.ntmps26
  go_wp2_with (go_at_call 20; first | ((with_reducible refine (within_yes _ _ _ (by omega) (by omega) _).mono ?_); rintro e w' ⟨rfl, rfl⟩) | ((with_reducible refine (within_no _ _ _ (by omega) _).mono ?_); rintro e w' ⟨rfl, rfl⟩))
  refine (memory_any _ _ _).mono ?_
  rintro e w1 ⟨rfl, hg⟩
  have hb := gr_block hg (heap_alloc_new w (.cells (shp 0 0 zs) 34))
  have HB := Lib.hid hb
  have HG := Lib.hid (gr_trans ((Gr.refl w).alloc _ _) hg)
  clear hb hg
  go_wp2_with (refine wpList_store_row rfl 34 _ _ rfl w.heap.size (shp _ _ _) rfl rfl 34 (shp 0 0 zs) HB.out infoS rfl (shp_one _ _ _) ?_)
  exact bodyPost_ret (v := .agg (shp _ _ _)) (results_cell_row Try.results26 _ _ w.heap.size 34 _ (0, 0) _ rfl (setRow_block HB.out) Try.underlying34 rfl infoS) rfl ⟨rfl, gr_setRow HG.out (by omega) _⟩
theorem va_1 (n : Int) (h0 : 1 ≤ n) (h1 : n ≤ 6) (w : World) : Calls Try.prog 26 #[.int .i64 n] w (RES 7 3 ⟨#[105, 58, 118]⟩ w) := by
  go_enter Try.func26, Try.ntmps26
  go_wp2_with (go_at_call 20; first | ((with_reducible refine (within_yes _ _ _ (by omega) (by omega) _).mono ?_); rintro e w' ⟨rfl, rfl⟩) | ((with_reducible refine (within_no _ _ _ (by omega) _).mono ?_); rintro e w' ⟨rfl, rfl⟩))
  refine (memory_any _ _ _).mono ?_
  rintro e w1 ⟨rfl, hg⟩
  have hb := gr_block hg (heap_alloc_new w (.cells (shp 0 0 zs) 34))
  have HB := Lib.hid hb
  have HG := Lib.hid (gr_trans ((Gr.refl w).alloc _ _) hg)
  clear hb hg
  go_wp2_with (refine wpList_store_row rfl 34 _ _ rfl w.heap.size (shp _ _ _) rfl rfl 34 (shp 0 0 zs) HB.out infoS rfl (shp_one _ _ _) ?_)
  exact bodyPost_ret (v := .agg (shp _ _ _)) (results_cell_row Try.results26 _ _ w.heap.size 34 _ (0, 0) _ rfl (setRow_block HB.out) Try.underlying34 rfl infoS) rfl ⟨rfl, gr_setRow HG.out (by omega) _⟩
theorem va_2 (w : World) : Calls Try.prog 26 #[.int .i64 7] w (RES 7 0 ⟨#[105, 58, 118]⟩ w) := by
  go_enter Try.func26, Try.ntmps26
  go_wp2_with (go_at_call 20; first | ((with_reducible refine (within_yes _ _ _ (by omega) (by omega) _).mono ?_); rintro e w' ⟨rfl, rfl⟩) | ((with_reducible refine (within_no _ _ _ (by omega) _).mono ?_); rintro e w' ⟨rfl, rfl⟩))
  refine (memory_any _ _ _).mono ?_
  rintro e w1 ⟨rfl, hg⟩
  have hb := gr_block hg (heap_alloc_new w (.cells (shp 0 0 zs) 34))
  have HB := Lib.hid hb
  have HG := Lib.hid (gr_trans ((Gr.refl w).alloc _ _) hg)
  clear hb hg
  go_wp2_with (refine wpList_store_row rfl 34 _ _ rfl w.heap.size (shp _ _ _) rfl rfl 34 (shp 0 0 zs) HB.out infoS rfl (shp_one _ _ _) ?_)
  exact bodyPost_ret (v := .agg (shp _ _ _)) (results_cell_row Try.results26 _ _ w.heap.size 34 _ (0, 0) _ rfl (setRow_block HB.out) Try.underlying34 rfl infoS) rfl ⟨rfl, gr_setRow HG.out (by omega) _⟩
theorem va_3 (w : World) : Calls Try.prog 26 #[.int .i64 8] w (RES 7 1 ⟨#[105, 58, 118]⟩ w) := by
  go_enter Try.func26, Try.ntmps26
  go_wp2_with (go_at_call 20; first | ((with_reducible refine (within_yes _ _ _ (by omega) (by omega) _).mono ?_); rintro e w' ⟨rfl, rfl⟩) | ((with_reducible refine (within_no _ _ _ (by omega) _).mono ?_); rintro e w' ⟨rfl, rfl⟩))
  refine (memory_any _ _ _).mono ?_
  rintro e w1 ⟨rfl, hg⟩
  have hb := gr_block hg (heap_alloc_new w (.cells (shp 0 0 zs) 34))
  have HB := Lib.hid hb
  have HG := Lib.hid (gr_trans ((Gr.refl w).alloc _ _) hg)
  clear hb hg
  go_wp2_with (refine wpList_store_row rfl 34 _ _ rfl w.heap.size (shp _ _ _) rfl rfl 34 (shp 0 0 zs) HB.out infoS rfl (shp_one _ _ _) ?_)
  exact bodyPost_ret (v := .agg (shp _ _ _)) (results_cell_row Try.results26 _ _ w.heap.size 34 _ (0, 0) _ rfl (setRow_block HB.out) Try.underlying34 rfl infoS) rfl ⟨rfl, gr_setRow HG.out (by omega) _⟩
theorem va_4 (w : World) : Calls Try.prog 26 #[.int .i64 9] w (RES 7 2 ⟨#[105, 58, 118]⟩ w) := by
  go_enter Try.func26, Try.ntmps26
  go_wp2_with (go_at_call 20; first | ((with_reducible refine (within_yes _ _ _ (by omega) (by omega) _).mono ?_); rintro e w' ⟨rfl, rfl⟩) | ((with_reducible refine (within_no _ _ _ (by omega) _).mono ?_); rintro e w' ⟨rfl, rfl⟩))
  refine (memory_any _ _ _).mono ?_
  rintro e w1 ⟨rfl, hg⟩
  have hb := gr_block hg (heap_alloc_new w (.cells (shp 0 0 zs) 34))
  have HB := Lib.hid hb
  have HG := Lib.hid (gr_trans ((Gr.refl w).alloc _ _) hg)
  clear hb hg
  go_wp2_with (refine wpList_store_row rfl 34 _ _ rfl w.heap.size (shp _ _ _) rfl rfl 34 (shp 0 0 zs) HB.out infoS rfl (shp_one _ _ _) ?_)
  exact bodyPost_ret (v := .agg (shp _ _ _)) (results_cell_row Try.results26 _ _ w.heap.size 34 _ (0, 0) _ rfl (setRow_block HB.out) Try.underlying34 rfl infoS) rfl ⟨rfl, gr_setRow HG.out (by omega) _⟩
theorem va_5 (w : World) : Calls Try.prog 26 #[.int .i64 10] w (RES 7 3 ⟨#[105, 58, 118]⟩ w) := by
  go_enter Try.func26, Try.ntmps26
  go_wp2_with (go_at_call 20; first | ((with_reducible refine (within_yes _ _ _ (by omega) (by omega) _).mono ?_); rintro e w' ⟨rfl, rfl⟩) | ((with_reducible refine (within_no _ _ _ (by omega) _).mono ?_); rintro e w' ⟨rfl, rfl⟩))
  refine (memory_any _ _ _).mono ?_
  rintro e w1 ⟨rfl, hg⟩
  have hb := gr_block hg (heap_alloc_new w (.cells (shp 0 0 zs) 34))
  have HB := Lib.hid hb
  have HG := Lib.hid (gr_trans ((Gr.refl w).alloc _ _) hg)
  clear hb hg
  go_wp2_with (refine wpList_store_row rfl 34 _ _ rfl w.heap.size (shp _ _ _) rfl rfl 34 (shp 0 0 zs) HB.out infoS rfl (shp_one _ _ _) ?_)
  exact bodyPost_ret (v := .agg (shp _ _ _)) (results_cell_row Try.results26 _ _ w.heap.size 34 _ (0, 0) _ rfl (setRow_block HB.out) Try.underlying34 rfl infoS) rfl ⟨rfl, gr_setRow HG.out (by omega) _⟩
theorem va_6 (w : World) : Calls Try.prog 26 #[.int .i64 11] w (RES 7 4 ⟨#[105, 118, 58]⟩ w) := by
  go_enter Try.func26, Try.ntmps26
  go_wp2_with (go_at_call 20; first | ((with_reducible refine (within_yes _ _ _ (by omega) (by omega) _).mono ?_); rintro e w' ⟨rfl, rfl⟩) | ((with_reducible refine (within_no _ _ _ (by omega) _).mono ?_); rintro e w' ⟨rfl, rfl⟩))
  refine (memory_any _ _ _).mono ?_
  rintro e w1 ⟨rfl, hg⟩
  have hb := gr_block hg (heap_alloc_new w (.cells (shp 0 0 zs) 34))
  have HB := Lib.hid hb
  have HG := Lib.hid (gr_trans ((Gr.refl w).alloc _ _) hg)
  clear hb hg
  go_wp2_with (refine wpList_store_row rfl 34 _ _ rfl w.heap.size (shp _ _ _) rfl rfl 34 (shp 0 0 zs) HB.out infoS rfl (shp_one _ _ _) ?_)
  exact bodyPost_ret (v := .agg (shp _ _ _)) (results_cell_row Try.results26 _ _ w.heap.size 34 _ (0, 0) _ rfl (setRow_block HB.out) Try.underlying34 rfl infoS) rfl ⟨rfl, gr_setRow HG.out (by omega) _⟩
theorem va_7 (w : World) : Calls Try.prog 26 #[.int .i64 84] w (RES 8 0 ⟨#[105, 118, 58, 118]⟩ w) := by
  go_enter Try.func26, Try.ntmps26
  go_wp2_with (go_at_call 20; first | ((with_reducible refine (within_yes _ _ _ (by omega) (by omega) _).mono ?_); rintro e w' ⟨rfl, rfl⟩) | ((with_reducible refine (within_no _ _ _ (by omega) _).mono ?_); rintro e w' ⟨rfl, rfl⟩))
  exact bodyPost_ret (v := .agg (shp _ _ _)) (by simp [results, Try.results26, go_sem, shp] <;> rfl) rfl ⟨rfl, (Gr.refl _).alloc _ _⟩
theorem va_8 (w : World) : Calls Try.prog 26 #[.int .i64 85] w (RES 8 1 ⟨#[105, 118, 58, 118]⟩ w) := by
  go_enter Try.func26, Try.ntmps26
  go_wp2_with (go_at_call 20; first | ((with_reducible refine (within_yes _ _ _ (by omega) (by omega) _).mono ?_); rintro e w' ⟨rfl, rfl⟩) | ((with_reducible refine (within_no _ _ _ (by omega) _).mono ?_); rintro e w' ⟨rfl, rfl⟩))
  exact bodyPost_ret (v := .agg (shp _ _ _)) (by simp [results, Try.results26, go_sem, shp] <;> rfl) rfl ⟨rfl, (Gr.refl _).alloc _ _⟩
theorem va_9 (w : World) : Calls Try.prog 26 #[.int .i64 86] w (RES 8 2 ⟨#[105, 118, 58, 118]⟩ w) := by
  go_enter Try.func26, Try.ntmps26
  go_wp2_with (go_at_call 20; first | ((with_reducible refine (within_yes _ _ _ (by omega) (by omega) _).mono ?_); rintro e w' ⟨rfl, rfl⟩) | ((with_reducible refine (within_no _ _ _ (by omega) _).mono ?_); rintro e w' ⟨rfl, rfl⟩))
  exact bodyPost_ret (v := .agg (shp _ _ _)) (by simp [results, Try.results26, go_sem, shp] <;> rfl) rfl ⟨rfl, (Gr.refl _).alloc _ _⟩
theorem va_10 (w : World) : Calls Try.prog 26 #[.int .i64 87] w (RES 8 3 ⟨#[105, 118, 58, 118]⟩ w) := by
  go_enter Try.func26, Try.ntmps26
  go_wp2_with (go_at_call 20; first | ((with_reducible refine (within_yes _ _ _ (by omega) (by omega) _).mono ?_); rintro e w' ⟨rfl, rfl⟩) | ((with_reducible refine (within_no _ _ _ (by omega) _).mono ?_); rintro e w' ⟨rfl, rfl⟩))
  exact bodyPost_ret (v := .agg (shp _ _ _)) (by simp [results, Try.results26, go_sem, shp] <;> rfl) rfl ⟨rfl, (Gr.refl _).alloc _ _⟩
theorem va_11 (w : World) : Calls Try.prog 26 #[.int .i64 88] w (RES 8 0 ⟨#[105, 118, 58]⟩ w) := by
  go_enter Try.func26, Try.ntmps26
  go_wp2_with (go_at_call 20; first | ((with_reducible refine (within_yes _ _ _ (by omega) (by omega) _).mono ?_); rintro e w' ⟨rfl, rfl⟩) | ((with_reducible refine (within_no _ _ _ (by omega) _).mono ?_); rintro e w' ⟨rfl, rfl⟩))
  exact bodyPost_ret (v := .agg (shp _ _ _)) (by simp [results, Try.results26, go_sem, shp] <;> rfl) rfl ⟨rfl, (Gr.refl _).alloc _ _⟩
theorem va_12 (w : World) : Calls Try.prog 26 #[.int .i64 89] w (RES 8 1 ⟨#[105, 118, 58]⟩ w) := by
  go_enter Try.func26, Try.ntmps26
  go_wp2_with (go_at_call 20; first | ((with_reducible refine (within_yes _ _ _ (by omega) (by omega) _).mono ?_); rintro e w' ⟨rfl, rfl⟩) | ((with_reducible refine (within_no _ _ _ (by omega) _).mono ?_); rintro e w' ⟨rfl, rfl⟩))
  exact bodyPost_ret (v := .agg (shp _ _ _)) (by simp [results, Try.results26, go_sem, shp] <;> rfl) rfl ⟨rfl, (Gr.refl _).alloc _ _⟩
theorem va_13 (w : World) : Calls Try.prog 26 #[.int .i64 90] w (RES 8 2 ⟨#[105, 118, 58]⟩ w) := by
  go_enter Try.func26, Try.ntmps26
  go_wp2_with (go_at_call 20; first | ((with_reducible refine (within_yes _ _ _ (by omega) (by omega) _).mono ?_); rintro e w' ⟨rfl, rfl⟩) | ((with_reducible refine (within_no _ _ _ (by omega) _).mono ?_); rintro e w' ⟨rfl, rfl⟩))
  exact bodyPost_ret (v := .agg (shp _ _ _)) (by simp [results, Try.results26, go_sem, shp] <;> rfl) rfl ⟨rfl, (Gr.refl _).alloc _ _⟩
theorem va_14 (w : World) : Calls Try.prog 26 #[.int .i64 91] w (RES 8 3 ⟨#[105, 118, 58]⟩ w) := by
  go_enter Try.func26, Try.ntmps26
  go_wp2_with (go_at_call 20; first | ((with_reducible refine (within_yes _ _ _ (by omega) (by omega) _).mono ?_); rintro e w' ⟨rfl, rfl⟩) | ((with_reducible refine (within_no _ _ _ (by omega) _).mono ?_); rintro e w' ⟨rfl, rfl⟩))
  exact bodyPost_ret (v := .agg (shp _ _ _)) (by simp [results, Try.results26, go_sem, shp] <;> rfl) rfl ⟨rfl, (Gr.refl _).alloc _ _⟩
theorem va_15 (w : World) : Calls Try.prog 26 #[.int .i64 92] w (RES 7 2 ⟨#[105, 58, 118]⟩ w) := by
  go_enter Try.func26, Try.ntmps26
  go_wp2_with (go_at_call 20; first | ((with_reducible refine (within_yes _ _ _ (by omega) (by omega) _).mono ?_); rintro e w' ⟨rfl, rfl⟩) | ((with_reducible refine (within_no _ _ _ (by omega) _).mono ?_); rintro e w' ⟨rfl, rfl⟩))
  refine (memory_any _ _ _).mono ?_
  rintro e w1 ⟨rfl, hg⟩
  have hb := gr_block hg (heap_alloc_new w (.cells (shp 0 0 zs) 34))
  have HB := Lib.hid hb
  have HG := Lib.hid (gr_trans ((Gr.refl w).alloc _ _) hg)
  clear hb hg
  go_wp2_with (refine wpList_store_row rfl 34 _ _ rfl w.heap.size (shp _ _ _) rfl rfl 34 (shp 0 0 zs) HB.out infoS rfl (shp_one _ _ _) ?_)
  exact bodyPost_ret (v := .agg (shp _ _ _)) (results_cell_row Try.results26 _ _ w.heap.size 34 _ (0, 0) _ rfl (setRow_block HB.out) Try.underlying34 rfl infoS) rfl ⟨rfl, gr_setRow HG.out (by omega) _⟩
theorem va_16 (w : World) : Calls Try.prog 26 #[.int .i64 93] w (RES 7 3 ⟨#[105, 58, 118]⟩ w) := by
  go_enter Try.func26, Try.ntmps26
  go_wp2_with (go_at_call 20; first | ((with_reducible refine (within_yes _ _ _ (by omega) (by omega) _).mono ?_); rintro e w' ⟨rfl, rfl⟩) | ((with_reducible refine (within_no _ _ _ (by omega) _).mono ?_); rintro e w' ⟨rfl, rfl⟩))
  refine (memory_any _ _ _).mono ?_
  rintro e w1 ⟨rfl, hg⟩
  have hb := gr_block hg (heap_alloc_new w (.cells (shp 0 0 zs) 34))
  have HB := Lib.hid hb
  have HG := Lib.hid (gr_trans ((Gr.refl w).alloc _ _) hg)
  clear hb hg
  go_wp2_with (refine wpList_store_row rfl 34 _ _ rfl w.heap.size (shp _ _ _) rfl rfl 34 (shp 0 0 zs) HB.out infoS rfl (shp_one _ _ _) ?_)
  exact bodyPost_ret (v := .agg (shp _ _ _)) (results_cell_row Try.results26 _ _ w.heap.size 34 _ (0, 0) _ rfl (setRow_block HB.out) Try.underlying34 rfl infoS) rfl ⟨rfl, gr_setRow HG.out (by omega) _⟩
theorem vm_0 (w : World) : Calls Try.prog 27 #[.int .i64 12] w (RES 11 0 ⟨#[58, 118]⟩ w) := by
  go_enter Try.func27, Try.ntmps27
  go_wp2_with (go_at_call 20; first | ((with_reducible refine (within_yes _ _ _ (by omega) (by omega) _).mono ?_); rintro e w' ⟨rfl, rfl⟩) | ((with_reducible refine (within_no _ _ _ (by omega) _).mono ?_); rintro e w' ⟨rfl, rfl⟩))
  exact bodyPost_ret (v := .agg (shp _ _ _)) (by simp [results, Try.results27, go_sem, shp] <;> rfl) rfl ⟨rfl, (Gr.refl _).alloc _ _⟩
theorem vm_1 (w : World) : Calls Try.prog 27 #[.int .i64 13] w (RES 12 0 ⟨#[118, 118, 58, 118]⟩ w) := by
  go_enter Try.func27, Try.ntmps27
  go_wp2_with (go_at_call 20; first | ((with_reducible refine (within_yes _ _ _ (by omega) (by omega) _).mono ?_); rintro e w' ⟨rfl, rfl⟩) | ((with_reducible refine (within_no _ _ _ (by omega) _).mono ?_); rintro e w' ⟨rfl, rfl⟩))
  exact bodyPost_ret (v := .agg (shp _ _ _)) (by simp [results, Try.results27, go_sem, shp] <;> rfl) rfl ⟨rfl, (Gr.refl _).alloc _ _⟩
theorem vm_2 (w : World) : Calls Try.prog 27 #[.int .i64 14] w (RES 1 0 ⟨#[118, 118, 58, 118]⟩ w) := by
  go_enter Try.func27, Try.ntmps27
  go_wp2_with (go_at_call 20; first | ((with_reducible refine (within_yes _ _ _ (by omega) (by omega) _).mono ?_); rintro e w' ⟨rfl, rfl⟩) | ((with_reducible refine (within_no _ _ _ (by omega) _).mono ?_); rintro e w' ⟨rfl, rfl⟩))
  refine (plain_any _ _).mono ?_
  rintro e w1 ⟨rfl, hg⟩
  have hb := gr_block hg (heap_alloc_new w (.cells (shp 0 0 zs) 34))
  have HB := Lib.hid hb
  have HG := Lib.hid (gr_trans ((Gr.refl w).alloc _ _) hg)
  clear hb hg
  go_wp2_with (refine wpList_store_row rfl 34 _ _ rfl w.heap.size (shp _ _ _) rfl rfl 34 (shp 0 0 zs) HB.out infoS rfl (shp_one _ _ _) ?_)
  exact bodyPost_ret (v := .agg (shp _ _ _)) (results_cell_row Try.results27 _ _ w.heap.size 34 _ (0, 0) _ rfl (setRow_block HB.out) Try.underlying34 rfl infoS) rfl ⟨rfl, gr_setRow HG.out (by omega) _⟩
theorem vm_3 (w : World) : Calls Try.prog 27 #[.int .i64 15] w (RES 1 0 ⟨#[105, 58, 118]⟩ w) := by
  go_enter Try.func27, Try.ntmps27
  go_wp2_with (go_at_call 20; first | ((with_reducible refine (within_yes _ _ _ (by omega) (by omega) _).mono ?_); rintro e w' ⟨rfl, rfl⟩) | ((with_reducible refine (within_no _ _ _ (by omega) _).mono ?_); rintro e w' ⟨rfl, rfl⟩))
  refine (plain_any _ _).mono ?_
  rintro e w1 ⟨rfl, hg⟩
  have hb := gr_block hg (heap_alloc_new w (.cells (shp 0 0 zs) 34))
  have HB := Lib.hid hb
  have HG := Lib.hid (gr_trans ((Gr.refl w).alloc _ _) hg)
  clear hb hg
  go_wp2_with (refine wpList_store_row rfl 34 _ _ rfl w.heap.size (shp _ _ _) rfl rfl 34 (shp 0 0 zs) HB.out infoS rfl (shp_one _ _ _) ?_)
  exact bodyPost_ret (v := .agg (shp _ _ _)) (results_cell_row Try.results27 _ _ w.heap.size 34 _ (0, 0) _ rfl (setRow_block HB.out) Try.underlying34 rfl infoS) rfl ⟨rfl, gr_setRow HG.out (by omega) _⟩
theorem vm_4 (w : World) : Calls Try.prog 27 #[.int .i64 16] w (RES 1 0 ⟨#[105, 58, 118]⟩ w) := by
  go_enter Try.func27, Try.ntmps27
  go_wp2_with (go_at_call 20; first | ((with_reducible refine (within_yes _ _ _ (by omega) (by omega) _).mono ?_); rintro e w' ⟨rfl, rfl⟩) | ((with_reducible refine (within_no _ _ _ (by omega) _).mono ?_); rintro e w' ⟨rfl, rfl⟩))
  refine (plain_any _ _).mono ?_
  rintro e w1 ⟨rfl, hg⟩
  have hb := gr_block hg (heap_alloc_new w (.cells (shp 0 0 zs) 34))
  have HB := Lib.hid hb
  have HG := Lib.hid (gr_trans ((Gr.refl w).alloc _ _) hg)
  clear hb hg
  go_wp2_with (refine wpList_store_row rfl 34 _ _ rfl w.heap.size (shp _ _ _) rfl rfl 34 (shp 0 0 zs) HB.out infoS rfl (shp_one _ _ _) ?_)
  exact bodyPost_ret (v := .agg (shp _ _ _)) (results_cell_row Try.results27 _ _ w.heap.size 34 _ (0, 0) _ rfl (setRow_block HB.out) Try.underlying34 rfl infoS) rfl ⟨rfl, gr_setRow HG.out (by omega) _⟩
theorem vm_5 (w : World) : Calls Try.prog 27 #[.int .i64 17] w (RES 1 0 ⟨#[105, 58, 118]⟩ w) := by
  go_enter Try.func27, Try.ntmps27
  go_wp2_with (go_at_call 20; first | ((with_reducible refine (within_yes _ _ _ (by omega) (by omega) _).mono ?_); rintro e w' ⟨rfl, rfl⟩) | ((with_reducible refine (within_no _ _ _ (by omega) _).mono ?_); rintro e w' ⟨rfl, rfl⟩))
  refine (plain_any _ _).mono ?_
  rintro e w1 ⟨rfl, hg⟩
  have hb := gr_block hg (heap_alloc_new w (.cells (shp 0 0 zs) 34))
  have HB := Lib.hid hb
  have HG := Lib.hid (gr_trans ((Gr.refl w).alloc _ _) hg)
  clear hb hg
  go_wp2_with (refine wpList_store_row rfl 34 _ _ rfl w.heap.size (shp _ _ _) rfl rfl 34 (shp 0 0 zs) HB.out infoS rfl (shp_one _ _ _) ?_)
  exact bodyPost_ret (v := .agg (shp _ _ _)) (results_cell_row Try.results27 _ _ w.heap.size 34 _ (0, 0) _ rfl (setRow_block HB.out) Try.underlying34 rfl infoS) rfl ⟨rfl, gr_setRow HG.out (by omega) _⟩
theorem vm_6 (w : World) : Calls Try.prog 27 #[.int .i64 18] w (RES 1 0 ⟨#[108, 58, 118]⟩ w) := by
  go_enter Try.func27, Try.ntmps27
  go_wp2_with (go_at_call 20; first | ((with_reducible refine (within_yes _ _ _ (by omega) (by omega) _).mono ?_); rintro e w' ⟨rfl, rfl⟩) | ((with_reducible refine (within_no _ _ _ (by omega) _).mono ?_); rintro e w' ⟨rfl, rfl⟩))
  refine (plain_any _ _).mono ?_
  rintro e w1 ⟨rfl, hg⟩
  have hb := gr_block hg (heap_alloc_new w (.cells (shp 0 0 zs) 34))
  have HB := Lib.hid hb
  have HG := Lib.hid (gr_trans ((Gr.refl w).alloc _ _) hg)
  clear hb hg
  go_wp2_with (refine wpList_store_row rfl 34 _ _ rfl w.heap.size (shp _ _ _) rfl rfl 34 (shp 0 0 zs) HB.out infoS rfl (shp_one _ _ _) ?_)
  exact bodyPost_ret (v := .agg (shp _ _ _)) (results_cell_row Try.results27 _ _ w.heap.size 34 _ (0, 0) _ rfl (setRow_block HB.out) Try.underlying34 rfl infoS) rfl ⟨rfl, gr_setRow HG.out (by omega) _⟩
theorem vm_7 (n : Int) (h0 : 19 ≤ n) (h1 : n ≤ 20) (w : World) : Calls Try.prog 27 #[.int .i64 n] w (RES 0 0 ⟨#[]⟩ w) := by
  go_enter Try.func27, Try.ntmps27
  go_wp2_with (go_at_call 20; first | ((with_reducible refine (within_yes _ _ _ (by omega) (by omega) _).mono ?_); rintro e w' ⟨rfl, rfl⟩) | ((with_reducible refine (within_no _ _ _ (by omega) _).mono ?_); rintro e w' ⟨rfl, rfl⟩))
  exact bodyPost_ret (v := .agg (shp _ _ _)) (by simp [results, Try.results27, go_sem, shp] <;> rfl) rfl ⟨rfl, (Gr.refl _).alloc _ _⟩
theorem vm_8 (w : World) : Calls Try.prog 27 #[.int .i64 21] w (RES 13 16 ⟨#[118, 58, 105]⟩ w) := by
  go_enter Try.func27, Try.ntmps27
  go_wp2_with (go_at_call 20; first | ((with_reducible refine (within_yes _ _ _ (by omega) (by omega) _).mono ?_); rintro e w' ⟨rfl, rfl⟩) | ((with_reducible refine (within_no _ _ _ (by omega) _).mono ?_); rintro e w' ⟨rfl, rfl⟩))
  refine (lane_any _ _ _).mono ?_
  rintro e w1 ⟨rfl, hg⟩
  have hb := gr_block hg (heap_alloc_new w (.cells (shp 0 0 zs) 34))
  have HB := Lib.hid hb
  have HG := Lib.hid (gr_trans ((Gr.refl w).alloc _ _) hg)
  clear hb hg
  go_wp2_with (refine wpList_store_row rfl 34 _ _ rfl w.heap.size (shp _ _ _) rfl rfl 34 (shp 0 0 zs) HB.out infoS rfl (shp_one _ _ _) ?_)
  exact bodyPost_ret (v := .agg (shp _ _ _)) (results_cell_row Try.results27 _ _ w.heap.size 34 _ (0, 0) _ rfl (setRow_block HB.out) Try.underlying34 rfl infoS) rfl ⟨rfl, gr_setRow HG.out (by omega) _⟩
theorem vm_9 (w : World) : Calls Try.prog 27 #[.int .i64 22] w (RES 13 16 ⟨#[118, 58, 105]⟩ w) := by
  go_enter Try.func27, Try.ntmps27
  go_wp2_with (go_at_call 20; first | ((with_reducible refine (within_yes _ _ _ (by omega) (by omega) _).mono ?_); rintro e w' ⟨rfl, rfl⟩) | ((with_reducible refine (within_no _ _ _ (by omega) _).mono ?_); rintro e w' ⟨rfl, rfl⟩))
  refine (lane_any _ _ _).mono ?_
  rintro e w1 ⟨rfl, hg⟩
  have hb := gr_block hg (heap_alloc_new w (.cells (shp 0 0 zs) 34))
  have HB := Lib.hid hb
  have HG := Lib.hid (gr_trans ((Gr.refl w).alloc _ _) hg)
  clear hb hg
  go_wp2_with (refine wpList_store_row rfl 34 _ _ rfl w.heap.size (shp _ _ _) rfl rfl 34 (shp 0 0 zs) HB.out infoS rfl (shp_one _ _ _) ?_)
  exact bodyPost_ret (v := .agg (shp _ _ _)) (results_cell_row Try.results27 _ _ w.heap.size 34 _ (0, 0) _ rfl (setRow_block HB.out) Try.underlying34 rfl infoS) rfl ⟨rfl, gr_setRow HG.out (by omega) _⟩
theorem vm_10 (w : World) : Calls Try.prog 27 #[.int .i64 23] w (RES 13 16 ⟨#[118, 105, 58, 118]⟩ w) := by
  go_enter Try.func27, Try.ntmps27
  go_wp2_with (go_at_call 20; first | ((with_reducible refine (within_yes _ _ _ (by omega) (by omega) _).mono ?_); rintro e w' ⟨rfl, rfl⟩) | ((with_reducible refine (within_no _ _ _ (by omega) _).mono ?_); rintro e w' ⟨rfl, rfl⟩))
  refine (lane_any _ _ _).mono ?_
  rintro e w1 ⟨rfl, hg⟩
  have hb := gr_block hg (heap_alloc_new w (.cells (shp 0 0 zs) 34))
  have HB := Lib.hid hb
  have HG := Lib.hid (gr_trans ((Gr.refl w).alloc _ _) hg)
  clear hb hg
  go_wp2_with (refine wpList_store_row rfl 34 _ _ rfl w.heap.size (shp _ _ _) rfl rfl 34 (shp 0 0 zs) HB.out infoS rfl (shp_one _ _ _) ?_)
  exact bodyPost_ret (v := .agg (shp _ _ _)) (results_cell_row Try.results27 _ _ w.heap.size 34 _ (0, 0) _ rfl (setRow_block HB.out) Try.underlying34 rfl infoS) rfl ⟨rfl, gr_setRow HG.out (by omega) _⟩
theorem vm_11 (w : World) : Calls Try.prog 27 #[.int .i64 24] w (RES 13 8 ⟨#[118, 58, 105]⟩ w) := by
  go_enter Try.func27, Try.ntmps27
  go_wp2_with (go_at_call 20; first | ((with_reducible refine (within_yes _ _ _ (by omega) (by omega) _).mono ?_); rintro e w' ⟨rfl, rfl⟩) | ((with_reducible refine (within_no _ _ _ (by omega) _).mono ?_); rintro e w' ⟨rfl, rfl⟩))
  refine (lane_any _ _ _).mono ?_
  rintro e w1 ⟨rfl, hg⟩
  have hb := gr_block hg (heap_alloc_new w (.cells (shp 0 0 zs) 34))
  have HB := Lib.hid hb
  have HG := Lib.hid (gr_trans ((Gr.refl w).alloc _ _) hg)
  clear hb hg
  go_wp2_with (refine wpList_store_row rfl 34 _ _ rfl w.heap.size (shp _ _ _) rfl rfl 34 (shp 0 0 zs) HB.out infoS rfl (shp_one _ _ _) ?_)
  exact bodyPost_ret (v := .agg (shp _ _ _)) (results_cell_row Try.results27 _ _ w.heap.size 34 _ (0, 0) _ rfl (setRow_block HB.out) Try.underlying34 rfl infoS) rfl ⟨rfl, gr_setRow HG.out (by omega) _⟩
theorem vm_12 (w : World) : Calls Try.prog 27 #[.int .i64 25] w (RES 13 8 ⟨#[118, 58, 105]⟩ w) := by
  go_enter Try.func27, Try.ntmps27
  go_wp2_with (go_at_call 20; first | ((with_reducible refine (within_yes _ _ _ (by omega) (by omega) _).mono ?_); rintro e w' ⟨rfl, rfl⟩) | ((with_reducible refine (within_no _ _ _ (by omega) _).mono ?_); rintro e w' ⟨rfl, rfl⟩))
  refine (lane_any _ _ _).mono ?_
  rintro e w1 ⟨rfl, hg⟩
  have hb := gr_block hg (heap_alloc_new w (.cells (shp 0 0 zs) 34))
  have HB := Lib.hid hb
  have HG := Lib.hid (gr_trans ((Gr.refl w).alloc _ _) hg)
  clear hb hg
  go_wp2_with (refine wpList_store_row rfl 34 _ _ rfl w.heap.size (shp _ _ _) rfl rfl 34 (shp 0 0 zs) HB.out infoS rfl (shp_one _ _ _) ?_)
  exact bodyPost_ret (v := .agg (shp _ _ _)) (results_cell_row Try.results27 _ _ w.heap.size 34 _ (0, 0) _ rfl (setRow_block HB.out) Try.underlying34 rfl infoS) rfl ⟨rfl, gr_setRow HG.out (by omega) _⟩
theorem vm_13 (w : World) : Calls Try.prog 27 #[.int .i64 26] w (RES 13 8 ⟨#[118, 105, 58, 118]⟩ w) := by
  go_enter Try.func27, Try.ntmps27
  go_wp2_with (go_at_call 20; first | ((with_reducible refine (within_yes _ _ _ (by omega) (by omega) _).mono ?_); rintro e w' ⟨rfl, rfl⟩) | ((with_reducible refine (within_no _ _ _ (by omega) _).mono ?_); rintro e w' ⟨rfl, rfl⟩))
  refine (lane_any _ _ _).mono ?_
  rintro e w1 ⟨rfl, hg⟩
  have hb := gr_block hg (heap_alloc_new w (.cells (shp 0 0 zs) 34))
  have HB := Lib.hid hb
  have HG := Lib.hid (gr_trans ((Gr.refl w).alloc _ _) hg)
  clear hb hg
  go_wp2_with (refine wpList_store_row rfl 34 _ _ rfl w.heap.size (shp _ _ _) rfl rfl 34 (shp 0 0 zs) HB.out infoS rfl (shp_one _ _ _) ?_)
  exact bodyPost_ret (v := .agg (shp _ _ _)) (results_cell_row Try.results27 _ _ w.heap.size 34 _ (0, 0) _ rfl (setRow_block HB.out) Try.underlying34 rfl infoS) rfl ⟨rfl, gr_setRow HG.out (by omega) _⟩
theorem vm_14 (w : World) : Calls Try.prog 27 #[.int .i64 27] w (RES 13 4 ⟨#[118, 58, 105]⟩ w) := by
  go_enter Try.func27, Try.ntmps27
  go_wp2_with (go_at_call 20; first | ((with_reducible refine (within_yes _ _ _ (by omega) (by omega) _).mono ?_); rintro e w' ⟨rfl, rfl⟩) | ((with_reducible refine (within_no _ _ _ (by omega) _).mono ?_); rintro e w' ⟨rfl, rfl⟩))
  refine (lane_any _ _ _).mono ?_
  rintro e w1 ⟨rfl, hg⟩
  have hb := gr_block hg (heap_alloc_new w (.cells (shp 0 0 zs) 34))
  have HB := Lib.hid hb
  have HG := Lib.hid (gr_trans ((Gr.refl w).alloc _ _) hg)
  clear hb hg
  go_wp2_with (refine wpList_store_row rfl 34 _ _ rfl w.heap.size (shp _ _ _) rfl rfl 34 (shp 0 0 zs) HB.out infoS rfl (shp_one _ _ _) ?_)
  exact bodyPost_ret (v := .agg (shp _ _ _)) (results_cell_row Try.results27 _ _ w.heap.size 34 _ (0, 0) _ rfl (setRow_block HB.out) Try.underlying34 rfl infoS) rfl ⟨rfl, gr_setRow HG.out (by omega) _⟩
theorem vm_15 (w : World) : Calls Try.prog 27 #[.int .i64 28] w (RES 13 4 ⟨#[118, 105, 58, 118]⟩ w) := by
  go_enter Try.func27, Try.ntmps27
  go_wp2_with (go_at_call 20; first | ((with_reducible refine (within_yes _ _ _ (by omega) (by omega) _).mono ?_); rintro e w' ⟨rfl, rfl⟩) | ((with_reducible refine (within_no _ _ _ (by omega) _).mono ?_); rintro e w' ⟨rfl, rfl⟩))
  refine (lane_any _ _ _).mono ?_
  rintro e w1 ⟨rfl, hg⟩
  have hb := gr_block hg (heap_alloc_new w (.cells (shp 0 0 zs) 34))
  have HB := Lib.hid hb
  have HG := Lib.hid (gr_trans ((Gr.refl w).alloc _ _) hg)
  clear hb hg
  go_wp2_with (refine wpList_store_row rfl 34 _ _ rfl w.heap.size (shp _ _ _) rfl rfl 34 (shp 0 0 zs) HB.out infoS rfl (shp_one _ _ _) ?_)
  exact bodyPost_ret (v := .agg (shp _ _ _)) (results_cell_row Try.results27 _ _ w.heap.size 34 _ (0, 0) _ rfl (setRow_block HB.out) Try.underlying34 rfl infoS) rfl ⟨rfl, gr_setRow HG.out (by omega) _⟩
theorem vm_16 (w : World) : Calls Try.prog 27 #[.int .i64 29] w (RES 13 2 ⟨#[118, 58, 108]⟩ w) := by
  go_enter Try.func27, Try.ntmps27
  go_wp2_with (go_at_call 20; first | ((with_reducible refine (within_yes _ _ _ (by omega) (by omega) _).mono ?_); rintro e w' ⟨rfl, rfl⟩) | ((with_reducible refine (within_no _ _ _ (by omega) _).mono ?_); rintro e w' ⟨rfl, rfl⟩))
  refine (lane_any _ _ _).mono ?_
  rintro e w1 ⟨rfl, hg⟩
  have hb := gr_block hg (heap_alloc_new w (.cells (shp 0 0 zs) 34))
  have HB := Lib.hid hb
  have HG := Lib.hid (gr_trans ((Gr.refl w).alloc _ _) hg)
  clear hb hg
  go_wp2_with (refine wpList_store_row rfl 34 _ _ rfl w.heap.size (shp _ _ _) rfl rfl 34 (shp 0 0 zs) HB.out infoS rfl (shp_one _ _ _) ?_)
  exact bodyPost_ret (v := .agg (shp _ _ _)) (results_cell_row Try.results27 _ _ w.heap.size 34 _ (0, 0) _ rfl (setRow_block HB.out) Try.underlying34 rfl infoS) rfl ⟨rfl, gr_setRow HG.out (by omega) _⟩
theorem vm_17 (w : World) : Calls Try.prog 27 #[.int .i64 30] w (RES 13 2 ⟨#[118, 108, 58, 118]⟩ w) := by
  go_enter Try.func27, Try.ntmps27
  go_wp2_with (go_at_call 20; first | ((with_reducible refine (within_yes _ _ _ (by omega) (by omega) _).mono ?_); rintro e w' ⟨rfl, rfl⟩) | ((with_reducible refine (within_no _ _ _ (by omega) _).mono ?_); rintro e w' ⟨rfl, rfl⟩))
  refine (lane_any _ _ _).mono ?_
  rintro e w1 ⟨rfl, hg⟩
  have hb := gr_block hg (heap_alloc_new w (.cells (shp 0 0 zs) 34))
  have HB := Lib.hid hb
  have HG := Lib.hid (gr_trans ((Gr.refl w).alloc _ _) hg)
  clear hb hg
  go_wp2_with (refine wpList_store_row rfl 34 _ _ rfl w.heap.size (shp _ _ _) rfl rfl 34 (shp 0 0 zs) HB.out infoS rfl (shp_one _ _ _) ?_)
  exact bodyPost_ret (v := .agg (shp _ _ _)) (results_cell_row Try.results27 _ _ w.heap.size 34 _ (0, 0) _ rfl (setRow_block HB.out) Try.underlying34 rfl infoS) rfl ⟨rfl, gr_setRow HG.out (by omega) _⟩
theorem vm_18 (n : Int) (h0 : 31 ≤ n) (h1 : n ≤ 34) (w : World) : Calls Try.prog 27 #[.int .i64 n] w (RES 0 0 ⟨#[]⟩ w) := by
  go_enter Try.func27, Try.ntmps27
  go_wp2_with (go_at_call 20; first | ((with_reducible refine (within_yes _ _ _ (by omega) (by omega) _).mono ?_); rintro e w' ⟨rfl, rfl⟩) | ((with_reducible refine (within_no _ _ _ (by omega) _).mono ?_); rintro e w' ⟨rfl, rfl⟩))
  exact bodyPost_ret (v := .agg (shp _ _ _)) (by simp [results, Try.results27, go_sem, shp] <;> rfl) rfl ⟨rfl, (Gr.refl _).alloc _ _⟩
theorem vb_0 (n : Int) (h0 : 35 ≤ n) (h1 : n ≤ 64) (w : World) : Calls Try.prog 28 #[.int .i64 n] w (RES 1 0 ⟨#[118, 118, 58, 118]⟩ w) := by
  go_enter Try.func28, Try.ntmps28
  go_wp2_with (go_at_call 20; first | ((with_reducible refine (within_yes _ _ _ (by omega) (by omega) _).mono ?_); rintro e w' ⟨rfl, rfl⟩) | ((with_reducible refine (within_no _ _ _ (by omega) _).mono ?_); rintro e w' ⟨rfl, rfl⟩))
  refine (plain_any _ _).mono ?_
  rintro e w1 ⟨rfl, hg⟩
  have hb := gr_block hg (heap_alloc_new w (.cells (shp 0 0 zs) 34))
  have HB := Lib.hid hb
  have HG := Lib.hid (gr_trans ((Gr.refl w).alloc _ _) hg)
  clear hb hg
  go_wp2_with (refine wpList_store_row rfl 34 _ _ rfl w.heap.size (shp _ _ _) rfl rfl 34 (shp 0 0 zs) HB.out infoS rfl (shp_one _ _ _) ?_)
  exact bodyPost_ret (v := .agg (shp _ _ _)) (results_cell_row Try.results28 _ _ w.heap.size 34 _ (0, 0) _ rfl (setRow_block HB.out) Try.underlying34 rfl infoS) rfl ⟨rfl, gr_setRow HG.out (by omega) _⟩
theorem vb_1 (n : Int) (h0 : 65 ≤ n) (h1 : n ≤ 76) (w : World) : Calls Try.prog 28 #[.int .i64 n] w (RES 0 0 ⟨#[]⟩ w) := by
  go_enter Try.func28, Try.ntmps28
  go_wp2_with (go_at_call 20; first | ((with_reducible refine (within_yes _ _ _ (by omega) (by omega) _).mono ?_); rintro e w' ⟨rfl, rfl⟩) | ((with_reducible refine (within_no _ _ _ (by omega) _).mono ?_); rintro e w' ⟨rfl, rfl⟩))
  exact bodyPost_ret (v := .agg (shp _ _ _)) (by simp [results, Try.results28, go_sem, shp] <;> rfl) rfl ⟨rfl, (Gr.refl _).alloc _ _⟩
theorem vb_2 (w : World) : Calls Try.prog 28 #[.int .i64 77] w (RES 1 0 ⟨#[118, 58, 118]⟩ w) := by
  go_enter Try.func28, Try.ntmps28
  go_wp2_with (go_at_call 20; first | ((with_reducible refine (within_yes _ _ _ (by omega) (by omega) _).mono ?_); rintro e w' ⟨rfl, rfl⟩) | ((with_reducible refine (within_no _ _ _ (by omega) _).mono ?_); rintro e w' ⟨rfl, rfl⟩))
  refine (plain_any _ _).mono ?_
  rintro e w1 ⟨rfl, hg⟩
  have hb := gr_block hg (heap_alloc_new w (.cells (shp 0 0 zs) 34))
  have HB := Lib.hid hb
  have HG := Lib.hid (gr_trans ((Gr.refl w).alloc _ _) hg)
  clear hb hg
  go_wp2_with (refine wpList_store_row rfl 34 _ _ rfl w.heap.size (shp _ _ _) rfl rfl 34 (shp 0 0 zs) HB.out infoS rfl (shp_one _ _ _) ?_)
  exact bodyPost_ret (v := .agg (shp _ _ _)) (results_cell_row Try.results28 _ _ w.heap.size 34 _ (0, 0) _ rfl (setRow_block HB.out) Try.underlying34 rfl infoS) rfl ⟨rfl, gr_setRow HG.out (by omega) _⟩
theorem vb_3 (n : Int) (h0 : 78 ≤ n) (h1 : n ≤ 81) (w : World) : Calls Try.prog 28 #[.int .i64 n] w (RES 1 0 ⟨#[118, 118, 58, 118]⟩ w) := by
  go_enter Try.func28, Try.ntmps28
  go_wp2_with (go_at_call 20; first | ((with_reducible refine (within_yes _ _ _ (by omega) (by omega) _).mono ?_); rintro e w' ⟨rfl, rfl⟩) | ((with_reducible refine (within_no _ _ _ (by omega) _).mono ?_); rintro e w' ⟨rfl, rfl⟩))
  refine (plain_any _ _).mono ?_
  rintro e w1 ⟨rfl, hg⟩
  have hb := gr_block hg (heap_alloc_new w (.cells (shp 0 0 zs) 34))
  have HB := Lib.hid hb
  have HG := Lib.hid (gr_trans ((Gr.refl w).alloc _ _) hg)
  clear hb hg
  go_wp2_with (refine wpList_store_row rfl 34 _ _ rfl w.heap.size (shp _ _ _) rfl rfl 34 (shp 0 0 zs) HB.out infoS rfl (shp_one _ _ _) ?_)
  exact bodyPost_ret (v := .agg (shp _ _ _)) (results_cell_row Try.results28 _ _ w.heap.size 34 _ (0, 0) _ rfl (setRow_block HB.out) Try.underlying34 rfl infoS) rfl ⟨rfl, gr_setRow HG.out (by omega) _⟩
theorem vb_4 (w : World) : Calls Try.prog 28 #[.int .i64 82] w (RES 1 0 ⟨#[118, 118, 118, 58, 118]⟩ w) := by
  go_enter Try.func28, Try.ntmps28
  go_wp2_with (go_at_call 20; first | ((with_reducible refine (within_yes _ _ _ (by omega) (by omega) _).mono ?_); rintro e w' ⟨rfl, rfl⟩) | ((with_reducible refine (within_no _ _ _ (by omega) _).mono ?_); rintro e w' ⟨rfl, rfl⟩))
  refine (plain_any _ _).mono ?_
  rintro e w1 ⟨rfl, hg⟩
  have hb := gr_block hg (heap_alloc_new w (.cells (shp 0 0 zs) 34))
  have HB := Lib.hid hb
  have HG := Lib.hid (gr_trans ((Gr.refl w).alloc _ _) hg)
  clear hb hg
  go_wp2_with (refine wpList_store_row rfl 34 _ _ rfl w.heap.size (shp _ _ _) rfl rfl 34 (shp 0 0 zs) HB.out infoS rfl (shp_one _ _ _) ?_)
  exact bodyPost_ret (v := .agg (shp _ _ _)) (results_cell_row Try.results28 _ _ w.heap.size 34 _ (0, 0) _ rfl (setRow_block HB.out) Try.underlying34 rfl infoS) rfl ⟨rfl, gr_setRow HG.out (by omega) _⟩
theorem vb_5 (w : World) : Calls Try.prog 28 #[.int .i64 83] w (RES 1 0 ⟨#[118, 58, 105]⟩ w) := by
  go_enter Try.func28, Try.ntmps28
  go_wp2_with (go_at_call 20; first | ((with_reducible refine (within_yes _ _ _ (by omega) (by omega) _).mono ?_); rintro e w' ⟨rfl, rfl⟩) | ((with_reducible refine (within_no _ _ _ (by omega) _).mono ?_); rintro e w' ⟨rfl, rfl⟩))
  refine (plain_any _ _).mono ?_
  rintro e w1 ⟨rfl, hg⟩
  have hb := gr_block hg (heap_alloc_new w (.cells (shp 0 0 zs) 34))
  have HB := Lib.hid hb
  have HG := Lib.hid (gr_trans ((Gr.refl w).alloc _ _) hg)
  clear hb hg
  go_wp2_with (refine wpList_store_row rfl 34 _ _ rfl w.heap.size (shp _ _ _) rfl rfl 34 (shp 0 0 zs) HB.out infoS rfl (shp_one _ _ _) ?_)
  exact bodyPost_ret (v := .agg (shp _ _ _)) (results_cell_row Try.results28 _ _ w.heap.size 34 _ (0, 0) _ rfl (setRow_block HB.out) Try.underlying34 rfl infoS) rfl ⟨rfl, gr_setRow HG.out (by omega) _⟩
theorem vn_0 (n : Int) (h0 : 94 ≤ n) (h1 : n ≤ 95) (w : World) : Calls Try.prog 29 #[.int .i64 n] w (RES 0 0 ⟨#[]⟩ w) := by
  go_enter Try.func29, Try.ntmps29
  go_wp2_with (go_at_call 20; first | ((with_reducible refine (within_yes _ _ _ (by omega) (by omega) _).mono ?_); rintro e w' ⟨rfl, rfl⟩) | ((with_reducible refine (within_no _ _ _ (by omega) _).mono ?_); rintro e w' ⟨rfl, rfl⟩))
  exact bodyPost_ret (v := .agg (shp _ _ _)) (by simp [results, Try.results29, go_sem, shp] <;> rfl) rfl ⟨rfl, (Gr.refl _).alloc _ _⟩
theorem vn_1 (n : Int) (h0 : 96 ≤ n) (h1 : n ≤ 98) (w : World) : Calls Try.prog 29 #[.int .i64 n] w (RES 1 0 ⟨#[118, 58, 118]⟩ w) := by
  go_enter Try.func29, Try.ntmps29
  go_wp2_with (go_at_call 20; first | ((with_reducible refine (within_yes _ _ _ (by omega) (by omega) _).mono ?_); rintro e w' ⟨rfl, rfl⟩) | ((with_reducible refine (within_no _ _ _ (by omega) _).mono ?_); rintro e w' ⟨rfl, rfl⟩))
  refine (plain_any _ _).mono ?_
  rintro e w1 ⟨rfl, hg⟩
  have hb := gr_block hg (heap_alloc_new w (.cells (shp 0 0 zs) 34))
  have HB := Lib.hid hb
  have HG := Lib.hid (gr_trans ((Gr.refl w).alloc _ _) hg)
  clear hb hg
  go_wp2_with (refine wpList_store_row rfl 34 _ _ rfl w.heap.size (shp _ _ _) rfl rfl 34 (shp 0 0 zs) HB.out infoS rfl (shp_one _ _ _) ?_)
  exact bodyPost_ret (v := .agg (shp _ _ _)) (results_cell_row Try.results29 _ _ w.heap.size 34 _ (0, 0) _ rfl (setRow_block HB.out) Try.underlying34 rfl infoS) rfl ⟨rfl, gr_setRow HG.out (by omega) _⟩
theorem vn_2 (n : Int) (h0 : 99 ≤ n) (h1 : n ≤ 100) (w : World) : Calls Try.prog 29 #[.int .i64 n] w (RES 1 0 ⟨#[118, 58, 105]⟩ w) := by
  go_enter Try.func29, Try.ntmps29
  go_wp2_with (go_at_call 20; first | ((with_reducible refine (within_yes _ _ _ (by omega) (by omega) _).mono ?_); rintro e w' ⟨rfl, rfl⟩) | ((with_reducible refine (within_no _ _ _ (by omega) _).mono ?_); rintro e w' ⟨rfl, rfl⟩))
  refine (plain_any _ _).mono ?_
  rintro e w1 ⟨rfl, hg⟩
  have hb := gr_block hg (heap_alloc_new w (.cells (shp 0 0 zs) 34))
  have HB := Lib.hid hb
  have HG := Lib.hid (gr_trans ((Gr.refl w).alloc _ _) hg)
  clear hb hg
  go_wp2_with (refine wpList_store_row rfl 34 _ _ rfl w.heap.size (shp _ _ _) rfl rfl 34 (shp 0 0 zs) HB.out infoS rfl (shp_one _ _ _) ?_)
  exact bodyPost_ret (v := .agg (shp _ _ _)) (results_cell_row Try.results29 _ _ w.heap.size 34 _ (0, 0) _ rfl (setRow_block HB.out) Try.underlying34 rfl infoS) rfl ⟨rfl, gr_setRow HG.out (by omega) _⟩
theorem vn_3 (n : Int) (h0 : 101 ≤ n) (h1 : n ≤ 102) (w : World) : Calls Try.prog 29 #[.int .i64 n] w (RES 1 0 ⟨#[118, 118, 58, 118]⟩ w) := by
  go_enter Try.func29, Try.ntmps29
  go_wp2_with (go_at_call 20; first | ((with_reducible refine (within_yes _ _ _ (by omega) (by omega) _).mono ?_); rintro e w' ⟨rfl, rfl⟩) | ((with_reducible refine (within_no _ _ _ (by omega) _).mono ?_); rintro e w' ⟨rfl, rfl⟩))
  refine (plain_any _ _).mono ?_
  rintro e w1 ⟨rfl, hg⟩
  have hb := gr_block hg (heap_alloc_new w (.cells (shp 0 0 zs) 34))
  have HB := Lib.hid hb
  have HG := Lib.hid (gr_trans ((Gr.refl w).alloc _ _) hg)
  clear hb hg
  go_wp2_with (refine wpList_store_row rfl 34 _ _ rfl w.heap.size (shp _ _ _) rfl rfl 34 (shp 0 0 zs) HB.out infoS rfl (shp_one _ _ _) ?_)
  exact bodyPost_ret (v := .agg (shp _ _ _)) (results_cell_row Try.results29 _ _ w.heap.size 34 _ (0, 0) _ rfl (setRow_block HB.out) Try.underlying34 rfl infoS) rfl ⟨rfl, gr_setRow HG.out (by omega) _⟩
theorem vn_4 (n : Int) (h0 : 103 ≤ n) (h1 : n ≤ 106) (w : World) : Calls Try.prog 29 #[.int .i64 n] w (RES 0 0 ⟨#[]⟩ w) := by
  go_enter Try.func29, Try.ntmps29
  go_wp2_with (go_at_call 20; first | ((with_reducible refine (within_yes _ _ _ (by omega) (by omega) _).mono ?_); rintro e w' ⟨rfl, rfl⟩) | ((with_reducible refine (within_no _ _ _ (by omega) _).mono ?_); rintro e w' ⟨rfl, rfl⟩))
  exact bodyPost_ret (v := .agg (shp _ _ _)) (by simp [results, Try.results29, go_sem, shp] <;> rfl) rfl ⟨rfl, (Gr.refl _).alloc _ _⟩
theorem vn_5 (n : Int) (h0 : 107 ≤ n) (h1 : n ≤ 109) (w : World) : Calls Try.prog 29 #[.int .i64 n] w (RES 1 0 ⟨#[118, 105, 58, 118]⟩ w) := by
  go_enter Try.func29, Try.ntmps29
  go_wp2_with (go_at_call 20; first | ((with_reducible refine (within_yes _ _ _ (by omega) (by omega) _).mono ?_); rintro e w' ⟨rfl, rfl⟩) | ((with_reducible refine (within_no _ _ _ (by omega) _).mono ?_); rintro e w' ⟨rfl, rfl⟩))
  refine (plain_any _ _).mono ?_
  rintro e w1 ⟨rfl, hg⟩
  have hb := gr_block hg (heap_alloc_new w (.cells (shp 0 0 zs) 34))
  have HB := Lib.hid hb
  have HG := Lib.hid (gr_trans ((Gr.refl w).alloc _ _) hg)
  clear hb hg
  go_wp2_with (refine wpList_store_row rfl 34 _ _ rfl w.heap.size (shp _ _ _) rfl rfl 34 (shp 0 0 zs) HB.out infoS rfl (shp_one _ _ _) ?_)
  exact bodyPost_ret (v := .agg (shp _ _ _)) (results_cell_row Try.results29 _ _ w.heap.size 34 _ (0, 0) _ rfl (setRow_block HB.out) Try.underlying34 rfl infoS) rfl ⟨rfl, gr_setRow HG.out (by omega) _⟩
theorem vn_6 (n : Int) (h0 : 110 ≤ n) (h1 : n ≤ 115) (w : World) : Calls Try.prog 29 #[.int .i64 n] w (RES 1 0 ⟨#[118, 118, 58, 118]⟩ w) := by
  go_enter Try.func29, Try.ntmps29
  go_wp2_with (go_at_call 20; first | ((with_reducible refine (within_yes _ _ _ (by omega) (by omega) _).mono ?_); rintro e w' ⟨rfl, rfl⟩) | ((with_reducible refine (within_no _ _ _ (by omega) _).mono ?_); rintro e w' ⟨rfl, rfl⟩))
  refine (plain_any _ _).mono ?_
  rintro e w1 ⟨rfl, hg⟩
  have hb := gr_block hg (heap_alloc_new w (.cells (shp 0 0 zs) 34))
  have HB := Lib.hid hb
  have HG := Lib.hid (gr_trans ((Gr.refl w).alloc _ _) hg)
  clear hb hg
  go_wp2_with (refine wpList_store_row rfl 34 _ _ rfl w.heap.size (shp _ _ _) rfl rfl 34 (shp 0 0 zs) HB.out infoS rfl (shp_one _ _ _) ?_)
  exact bodyPost_ret (v := .agg (shp _ _ _)) (results_cell_row Try.results29 _ _ w.heap.size 34 _ (0, 0) _ rfl (setRow_block HB.out) Try.underlying34 rfl infoS) rfl ⟨rfl, gr_setRow HG.out (by omega) _⟩
theorem vn_7 (n : Int) (h0 : 116 ≤ n) (h1 : n ≤ 117) (w : World) : Calls Try.prog 29 #[.int .i64 n] w (RES 0 0 ⟨#[]⟩ w) := by
  go_enter Try.func29, Try.ntmps29
  go_wp2_with (go_at_call 20; first | ((with_reducible refine (within_yes _ _ _ (by omega) (by omega) _).mono ?_); rintro e w' ⟨rfl, rfl⟩) | ((with_reducible refine (within_no _ _ _ (by omega) _).mono ?_); rintro e w' ⟨rfl, rfl⟩))
  exact bodyPost_ret (v := .agg (shp _ _ _)) (by simp [results, Try.results29, go_sem, shp] <;> rfl) rfl ⟨rfl, (Gr.refl _).alloc _ _⟩
theorem vn_8 (n : Int) (h0 : 118 ≤ n) (h1 : n ≤ 121) (w : World) : Calls Try.prog 29 #[.int .i64 n] w (RES 1 0 ⟨#[118, 118, 58, 118]⟩ w) := by
  go_enter Try.func29, Try.ntmps29
  go_wp2_with (go_at_call 20; first | ((with_reducible refine (within_yes _ _ _ (by omega) (by omega) _).mono ?_); rintro e w' ⟨rfl, rfl⟩) | ((with_reducible refine (within_no _ _ _ (by omega) _).mono ?_); rintro e w' ⟨rfl, rfl⟩))
  refine (plain_any _ _).mono ?_
  rintro e w1 ⟨rfl, hg⟩
  have hb := gr_block hg (heap_alloc_new w (.cells (shp 0 0 zs) 34))
  have HB := Lib.hid hb
  have HG := Lib.hid (gr_trans ((Gr.refl w).alloc _ _) hg)
  clear hb hg
  go_wp2_with (refine wpList_store_row rfl 34 _ _ rfl w.heap.size (shp _ _ _) rfl rfl 34 (shp 0 0 zs) HB.out infoS rfl (shp_one _ _ _) ?_)
  exact bodyPost_ret (v := .agg (shp _ _ _)) (results_cell_row Try.results29 _ _ w.heap.size 34 _ (0, 0) _ rfl (setRow_block HB.out) Try.underlying34 rfl infoS) rfl ⟨rfl, gr_setRow HG.out (by omega) _⟩
theorem vn_9 (w : World) : Calls Try.prog 29 #[.int .i64 122] w (RES 0 0 ⟨#[]⟩ w) := by
  go_enter Try.func29, Try.ntmps29
  go_wp2_with (go_at_call 20; first | ((with_reducible refine (within_yes _ _ _ (by omega) (by omega) _).mono ?_); rintro e w' ⟨rfl, rfl⟩) | ((with_reducible refine (within_no _ _ _ (by omega) _).mono ?_); rintro e w' ⟨rfl, rfl⟩))
  exact bodyPost_ret (v := .agg (shp _ _ _)) (by simp [results, Try.results29, go_sem, shp] <;> rfl) rfl ⟨rfl, (Gr.refl _).alloc _ _⟩
theorem vn_10 (w : World) : Calls Try.prog 29 #[.int .i64 123] w (RES 1 0 ⟨#[118, 118, 58, 118]⟩ w) := by
  go_enter Try.func29, Try.ntmps29
  go_wp2_with (go_at_call 20; first | ((with_reducible refine (within_yes _ _ _ (by omega) (by omega) _).mono ?_); rintro e w' ⟨rfl, rfl⟩) | ((with_reducible refine (within_no _ _ _ (by omega) _).mono ?_); rintro e w' ⟨rfl, rfl⟩))
  refine (plain_any _ _).mono ?_
  rintro e w1 ⟨rfl, hg⟩
  have hb := gr_block hg (heap_alloc_new w (.cells (shp 0 0 zs) 34))
  have HB := Lib.hid hb
  have HG := Lib.hid (gr_trans ((Gr.refl w).alloc _ _) hg)
  clear hb hg
  go_wp2_with (refine wpList_store_row rfl 34 _ _ rfl w.heap.size (shp _ _ _) rfl rfl 34 (shp 0 0 zs) HB.out infoS rfl (shp_one _ _ _) ?_)
  exact bodyPost_ret (v := .agg (shp _ _ _)) (results_cell_row Try.results29 _ _ w.heap.size 34 _ (0, 0) _ rfl (setRow_block HB.out) Try.underlying34 rfl infoS) rfl ⟨rfl, gr_setRow HG.out (by omega) _⟩
theorem vn_11 (n : Int) (h0 : 124 ≤ n) (h1 : n ≤ 129) (w : World) : Calls Try.prog 29 #[.int .i64 n] w (RES 1 0 ⟨#[118, 58, 118]⟩ w) := by
  go_enter Try.func29, Try.ntmps29
  go_wp2_with (go_at_call 20; first | ((with_reducible refine (within_yes _ _ _ (by omega) (by omega) _).mono ?_); rintro e w' ⟨rfl, rfl⟩) | ((with_reducible refine (within_no _ _ _ (by omega) _).mono ?_); rintro e w' ⟨rfl, rfl⟩))
  refine (plain_any _ _).mono ?_
  rintro e w1 ⟨rfl, hg⟩
  have hb := gr_block hg (heap_alloc_new w (.cells (shp 0 0 zs) 34))
  have HB := Lib.hid hb
  have HG := Lib.hid (gr_trans ((Gr.refl w).alloc _ _) hg)
  clear hb hg
  go_wp2_with (refine wpList_store_row rfl 34 _ _ rfl w.heap.size (shp _ _ _) rfl rfl 34 (shp 0 0 zs) HB.out infoS rfl (shp_one _ _ _) ?_)
  exact bodyPost_ret (v := .agg (shp _ _ _)) (results_cell_row Try.results29 _ _ w.heap.size 34 _ (0, 0) _ rfl (setRow_block HB.out) Try.underlying34 rfl infoS) rfl ⟨rfl, gr_setRow HG.out (by omega) _⟩
theorem vn_12 (w : World) : Calls Try.prog 29 #[.int .i64 130] w (RES 1 0 ⟨#[118, 118, 58, 118]⟩ w) := by
  go_enter Try.func29, Try.ntmps29
  go_wp2_with (go_at_call 20; first | ((with_reducible refine (within_yes _ _ _ (by omega) (by omega) _).mono ?_); rintro e w' ⟨rfl, rfl⟩) | ((with_reducible refine (within_no _ _ _ (by omega) _).mono ?_); rintro e w' ⟨rfl, rfl⟩))
  refine (plain_any _ _).mono ?_
  rintro e w1 ⟨rfl, hg⟩
  have hb := gr_block hg (heap_alloc_new w (.cells (shp 0 0 zs) 34))
  have HB := Lib.hid hb
  have HG := Lib.hid (gr_trans ((Gr.refl w).alloc _ _) hg)
  clear hb hg
  go_wp2_with (refine wpList_store_row rfl 34 _ _ rfl w.heap.size (shp _ _ _) rfl rfl 34 (shp 0 0 zs) HB.out infoS rfl (shp_one _ _ _) ?_)
  exact bodyPost_ret (v := .agg (shp _ _ _)) (results_cell_row Try.results29 _ _ w.heap.size 34 _ (0, 0) _ rfl (setRow_block HB.out) Try.underlying34 rfl infoS) rfl ⟨rfl, gr_setRow HG.out (by omega) _⟩
theorem vn_13 (n : Int) (h0 : 131 ≤ n) (h1 : n ≤ 132) (w : World) : Calls Try.prog 29 #[.int .i64 n] w (RES 1 0 ⟨#[118, 58, 105]⟩ w) := by
  go_enter Try.func29, Try.ntmps29
  go_wp2_with (go_at_call 20; first | ((with_reducible refine (within_yes _ _ _ (by omega) (by omega) _).mono ?_); rintro e w' ⟨rfl, rfl⟩) | ((with_reducible refine (within_no _ _ _ (by omega) _).mono ?_); rintro e w' ⟨rfl, rfl⟩))
  refine (plain_any _ _).mono ?_
  rintro e w1 ⟨rfl, hg⟩
  have hb := gr_block hg (heap_alloc_new w (.cells (shp 0 0 zs) 34))
  have HB := Lib.hid hb
  have HG := Lib.hid (gr_trans ((Gr.refl w).alloc _ _) hg)
  clear hb hg
  go_wp2_with (refine wpList_store_row rfl 34 _ _ rfl w.heap.size (shp _ _ _) rfl rfl 34 (shp 0 0 zs) HB.out infoS rfl (shp_one _ _ _) ?_)
  exact bodyPost_ret (v := .agg (shp _ _ _)) (results_cell_row Try.results29 _ _ w.heap.size 34 _ (0, 0) _ rfl (setRow_block HB.out) Try.underlying34 rfl infoS) rfl ⟨rfl, gr_setRow HG.out (by omega) _⟩
theorem vn_14 (n : Int) (h0 : 133 ≤ n) (h1 : n ≤ 134) (w : World) : Calls Try.prog 29 #[.int .i64 n] w (RES 1 0 ⟨#[118, 118, 58, 118]⟩ w) := by
  go_enter Try.func29, Try.ntmps29
  go_wp2_with (go_at_call 20; first | ((with_reducible refine (within_yes _ _ _ (by omega) (by omega) _).mono ?_); rintro e w' ⟨rfl, rfl⟩) | ((with_reducible refine (within_no _ _ _ (by omega) _).mono ?_); rintro e w' ⟨rfl, rfl⟩))
  refine (plain_any _ _).mono ?_
  rintro e w1 ⟨rfl, hg⟩
  have hb := gr_block hg (heap_alloc_new w (.cells (shp 0 0 zs) 34))
  have HB := Lib.hid hb
  have HG := Lib.hid (gr_trans ((Gr.refl w).alloc _ _) hg)
  clear hb hg
  go_wp2_with (refine wpList_store_row rfl 34 _ _ rfl w.heap.size (shp _ _ _) rfl rfl 34 (shp 0 0 zs) HB.out infoS rfl (shp_one _ _ _) ?_)
  exact bodyPost_ret (v := .agg (shp _ _ _)) (results_cell_row Try.results29 _ _ w.heap.size 34 _ (0, 0) _ rfl (setRow_block HB.out) Try.underlying34 rfl infoS) rfl ⟨rfl, gr_setRow HG.out (by omega) _⟩
theorem vn_15 (n : Int) (h0 : 135 ≤ n) (h1 : n ≤ 138) (w : World) : Calls Try.prog 29 #[.int .i64 n] w (RES 1 0 ⟨#[118, 58, 118]⟩ w) := by
  go_enter Try.func29, Try.ntmps29
  go_wp2_with (go_at_call 20; first | ((with_reducible refine (within_yes _ _ _ (by omega) (by omega) _).mono ?_); rintro e w' ⟨rfl, rfl⟩) | ((with_reducible refine (within_no _ _ _ (by omega) _).mono ?_); rintro e w' ⟨rfl, rfl⟩))
  refine (plain_any _ _).mono ?_
  rintro e w1 ⟨rfl, hg⟩
  have hb := gr_block hg (heap_alloc_new w (.cells (shp 0 0 zs) 34))
  have HB := Lib.hid hb
  have HG := Lib.hid (gr_trans ((Gr.refl w).alloc _ _) hg)
  clear hb hg
  go_wp2_with (refine wpList_store_row rfl 34 _ _ rfl w.heap.size (shp _ _ _) rfl rfl 34 (shp 0 0 zs) HB.out infoS rfl (shp_one _ _ _) ?_)
  exact bodyPost_ret (v := .agg (shp _ _ _)) (results_cell_row Try.results29 _ _ w.heap.size 34 _ (0, 0) _ rfl (setRow_block HB.out) Try.underlying34 rfl infoS) rfl ⟨rfl, gr_setRow HG.out (by omega) _⟩
theorem vn_16 (n : Int) (h0 : 139 ≤ n) (h1 : n ≤ 141) (w : World) : Calls Try.prog 29 #[.int .i64 n] w (RES 1 0 ⟨#[118, 105, 58, 118]⟩ w) := by
  go_enter Try.func29, Try.ntmps29
  go_wp2_with (go_at_call 20; first | ((with_reducible refine (within_yes _ _ _ (by omega) (by omega) _).mono ?_); rintro e w' ⟨rfl, rfl⟩) | ((with_reducible refine (within_no _ _ _ (by omega) _).mono ?_); rintro e w' ⟨rfl, rfl⟩))
  refine (plain_any _ _).mono ?_
  rintro e w1 ⟨rfl, hg⟩
  have hb := gr_block hg (heap_alloc_new w (.cells (shp 0 0 zs) 34))
  have HB := Lib.hid hb
  have HG := Lib.hid (gr_trans ((Gr.refl w).alloc _ _) hg)
  clear hb hg
  go_wp2_with (refine wpList_store_row rfl 34 _ _ rfl w.heap.size (shp _ _ _) rfl rfl 34 (shp 0 0 zs) HB.out infoS rfl (shp_one _ _ _) ?_)
  exact bodyPost_ret (v := .agg (shp _ _ _)) (results_cell_row Try.results29 _ _ w.heap.size 34 _ (0, 0) _ rfl (setRow_block HB.out) Try.underlying34 rfl infoS) rfl ⟨rfl, gr_setRow HG.out (by omega) _⟩
theorem vn_17 (n : Int) (h0 : 142 ≤ n) (h1 : n ≤ 147) (w : World) : Calls Try.prog 29 #[.int .i64 n] w (RES 1 0 ⟨#[118, 118, 58, 118]⟩ w) := by
  go_enter Try.func29, Try.ntmps29
  go_wp2_with (go_at_call 20; first | ((with_reducible refine (within_yes _ _ _ (by omega) (by omega) _).mono ?_); rintro e w' ⟨rfl, rfl⟩) | ((with_reducible refine (within_no _ _ _ (by omega) _).mono ?_); rintro e w' ⟨rfl, rfl⟩))
  refine (plain_any _ _).mono ?_
  rintro e w1 ⟨rfl, hg⟩
  have hb := gr_block hg (heap_alloc_new w (.cells (shp 0 0 zs) 34))
  have HB := Lib.hid hb
  have HG := Lib.hid (gr_trans ((Gr.refl w).alloc _ _) hg)
  clear hb hg
  go_wp2_with (refine wpList_store_row rfl 34 _ _ rfl w.heap.size (shp _ _ _) rfl rfl 34 (shp 0 0 zs) HB.out infoS rfl (shp_one _ _ _) ?_)
  exact bodyPost_ret (v := .agg (shp _ _ _)) (results_cell_row Try.results29 _ _ w.heap.size 34 _ (0, 0) _ rfl (setRow_block HB.out) Try.underlying34 rfl infoS) rfl ⟨rfl, gr_setRow HG.out (by omega) _⟩
theorem vn_18 (w : World) : Calls Try.prog 29 #[.int .i64 148] w (RES 0 0 ⟨#[]⟩ w) := by
  go_enter Try.func29, Try.ntmps29
  go_wp2_with (go_at_call 20; first | ((with_reducible refine (within_yes _ _ _ (by omega) (by omega) _).mono ?_); rintro e w' ⟨rfl, rfl⟩) | ((with_reducible refine (within_no _ _ _ (by omega) _).mono ?_); rintro e w' ⟨rfl, rfl⟩))
  exact bodyPost_ret (v := .agg (shp _ _ _)) (by simp [results, Try.results29, go_sem, shp] <;> rfl) rfl ⟨rfl, (Gr.refl _).alloc _ _⟩
theorem vn_19 (n : Int) (h0 : 149 ≤ n) (h1 : n ≤ 153) (w : World) : Calls Try.prog 29 #[.int .i64 n] w (RES 1 0 ⟨#[118, 118, 58, 118]⟩ w) := by
  go_enter Try.func29, Try.ntmps29
  go_wp2_with (go_at_call 20; first | ((with_reducible refine (within_yes _ _ _ (by omega) (by omega) _).mono ?_); rintro e w' ⟨rfl, rfl⟩) | ((with_reducible refine (within_no _ _ _ (by omega) _).mono ?_); rintro e w' ⟨rfl, rfl⟩))
  refine (plain_any _ _).mono ?_
  rintro e w1 ⟨rfl, hg⟩
  have hb := gr_block hg (heap_alloc_new w (.cells (shp 0 0 zs) 34))
  have HB := Lib.hid hb
  have HG := Lib.hid (gr_trans ((Gr.refl w).alloc _ _) hg)
  clear hb hg
  go_wp2_with (refine wpList_store_row rfl 34 _ _ rfl w.heap.size (shp _ _ _) rfl rfl 34 (shp 0 0 zs) HB.out infoS rfl (shp_one _ _ _) ?_)
  exact bodyPost_ret (v := .agg (shp _ _ _)) (results_cell_row Try.results29 _ _ w.heap.size 34 _ (0, 0) _ rfl (setRow_block HB.out) Try.underlying34 rfl infoS) rfl ⟨rfl, gr_setRow HG.out (by omega) _⟩
theorem vn_20 (w : World) : Calls Try.prog 29 #[.int .i64 154] w (RES 0 0 ⟨#[]⟩ w) := by
  go_enter Try.func29, Try.ntmps29
  go_wp2_with (go_at_call 20; first | ((with_reducible refine (within_yes _ _ _ (by omega) (by omega) _).mono ?_); rintro e w' ⟨rfl, rfl⟩) | ((with_reducible refine (within_no _ _ _ (by omega) _).mono ?_); rintro e w' ⟨rfl, rfl⟩))
  exact bodyPost_ret (v := .agg (shp _ _ _)) (by simp [results, Try.results29, go_sem, shp] <;> rfl) rfl ⟨rfl, (Gr.refl _).alloc _ _⟩
theorem vn_21 (n : Int) (h0 : 155 ≤ n) (h1 : n ≤ 159) (w : World) : Calls Try.prog 29 #[.int .i64 n] w (RES 1 0 ⟨#[118, 118, 58, 118]⟩ w) := by
  go_enter Try.func29, Try.ntmps29
  go_wp2_with (go_at_call 20; first | ((with_reducible refine (within_yes _ _ _ (by omega) (by omega) _).mono ?_); rintro e w' ⟨rfl, rfl⟩) | ((with_reducible refine (within_no _ _ _ (by omega) _).mono ?_); rintro e w' ⟨rfl, rfl⟩))
  refine (plain_any _ _).mono ?_
  rintro e w1 ⟨rfl, hg⟩
  have hb := gr_block hg (heap_alloc_new w (.cells (shp 0 0 zs) 34))
  have HB := Lib.hid hb
  have HG := Lib.hid (gr_trans ((Gr.refl w).alloc _ _) hg)
  clear hb hg
  go_wp2_with (refine wpList_store_row rfl 34 _ _ rfl w.heap.size (shp _ _ _) rfl rfl 34 (shp 0 0 zs) HB.out infoS rfl (shp_one _ _ _) ?_)
  exact bodyPost_ret (v := .agg (shp _ _ _)) (results_cell_row Try.results29 _ _ w.heap.size 34 _ (0, 0) _ rfl (setRow_block HB.out) Try.underlying34 rfl infoS) rfl ⟨rfl, gr_setRow HG.out (by omega) _⟩
theorem vw_0 (n : Int) (h0 : 160 ≤ n) (h1 : n ≤ 161) (w : World) : Calls Try.prog 30 #[.int .i64 n] w (RES 1 0 ⟨#[118, 58, 118]⟩ w) := by
  go_enter Try.func30, Try.ntmps30
  go_wp2_with (go_at_call 20; first | ((with_reducible refine (within_yes _ _ _ (by omega) (by omega) _).mono ?_); rintro e w' ⟨rfl, rfl⟩) | ((with_reducible refine (within_no _ _ _ (by omega) _).mono ?_); rintro e w' ⟨rfl, rfl⟩))
  refine (plain_any _ _).mono ?_
  rintro e w1 ⟨rfl, hg⟩
  have hb := gr_block hg (heap_alloc_new w (.cells (shp 0 0 zs) 34))
  have HB := Lib.hid hb
  have HG := Lib.hid (gr_trans ((Gr.refl w).alloc _ _) hg)
  clear hb hg
  go_wp2_with (refine wpList_store_row rfl 34 _ _ rfl w.heap.size (shp _ _ _) rfl rfl 34 (shp 0 0 zs) HB.out infoS rfl (shp_one _ _ _) ?_)
  exact bodyPost_ret (v := .agg (shp _ _ _)) (results_cell_row Try.results30 _ _ w.heap.size 34 _ (0, 0) _ rfl (setRow_block HB.out) Try.underlying34 rfl infoS) rfl ⟨rfl, gr_setRow HG.out (by omega) _⟩
theorem vw_1 (w : World) : Calls Try.prog 30 #[.int .i64 162] w (RES 0 0 ⟨#[]⟩ w) := by
  go_enter Try.func30, Try.ntmps30
  go_wp2_with (go_at_call 20; first | ((with_reducible refine (within_yes _ _ _ (by omega) (by omega) _).mono ?_); rintro e w' ⟨rfl, rfl⟩) | ((with_reducible refine (within_no _ _ _ (by omega) _).mono ?_); rintro e w' ⟨rfl, rfl⟩))
  exact bodyPost_ret (v := .agg (shp _ _ _)) (by simp [results, Try.results30, go_sem, shp] <;> rfl) rfl ⟨rfl, (Gr.refl _).alloc _ _⟩
theorem vw_2 (n : Int) (h0 : 163 ≤ n) (h1 : n ≤ 164) (w : World) : Calls Try.prog 30 #[.int .i64 n] w (RES 1 0 ⟨#[118, 58, 105]⟩ w) := by
  go_enter Try.func30, Try.ntmps30
  go_wp2_with (go_at_call 20; first | ((with_reducible refine (within_yes _ _ _ (by omega) (by omega) _).mono ?_); rintro e w' ⟨rfl, rfl⟩) | ((with_reducible refine (within_no _ _ _ (by omega) _).mono ?_); rintro e w' ⟨rfl, rfl⟩))
  refine (plain_any _ _).mono ?_
  rintro e w1 ⟨rfl, hg⟩
  have hb := gr_block hg (heap_alloc_new w (.cells (shp 0 0 zs) 34))
  have HB := Lib.hid hb
  have HG := Lib.hid (gr_trans ((Gr.refl w).alloc _ _) hg)
  clear hb hg
  go_wp2_with (refine wpList_store_row rfl 34 _ _ rfl w.heap.size (shp _ _ _) rfl rfl 34 (shp 0 0 zs) HB.out infoS rfl (shp_one _ _ _) ?_)
  exact bodyPost_ret (v := .agg (shp _ _ _)) (results_cell_row Try.results30 _ _ w.heap.size 34 _ (0, 0) _ rfl (setRow_block HB.out) Try.underlying34 rfl infoS) rfl ⟨rfl, gr_setRow HG.out (by omega) _⟩
theorem vw_3 (n : Int) (h0 : 165 ≤ n) (h1 : n ≤ 166) (w : World) : Calls Try.prog 30 #[.int .i64 n] w (RES 0 0 ⟨#[]⟩ w) := by
  go_enter Try.func30, Try.ntmps30
  go_wp2_with (go_at_call 20; first | ((with_reducible refine (within_yes _ _ _ (by omega) (by omega) _).mono ?_); rintro e w' ⟨rfl, rfl⟩) | ((with_reducible refine (within_no _ _ _ (by omega) _).mono ?_); rintro e w' ⟨rfl, rfl⟩))
  exact bodyPost_ret (v := .agg (shp _ _ _)) (by simp [results, Try.results30, go_sem, shp] <;> rfl) rfl ⟨rfl, (Gr.refl _).alloc _ _⟩
theorem vw_4 (n : Int) (h0 : 167 ≤ n) (h1 : n ≤ 170) (w : World) : Calls Try.prog 30 #[.int .i64 n] w (RES 1 0 ⟨#[118, 58, 118]⟩ w) := by
  go_enter Try.func30, Try.ntmps30
  go_wp2_with (go_at_call 20; first | ((with_reducible refine (within_yes _ _ _ (by omega) (by omega) _).mono ?_); rintro e w' ⟨rfl, rfl⟩) | ((with_reducible refine (within_no _ _ _ (by omega) _).mono ?_); rintro e w' ⟨rfl, rfl⟩))
  refine (plain_any _ _).mono ?_
  rintro e w1 ⟨rfl, hg⟩
  have hb := gr_block hg (heap_alloc_new w (.cells (shp 0 0 zs) 34))
  have HB := Lib.hid hb
  have HG := Lib.hid (gr_trans ((Gr.refl w).alloc _ _) hg)
  clear hb hg
  go_wp2_with (refine wpList_store_row rfl 34 _ _ rfl w.heap.size (shp _ _ _) rfl rfl 34 (shp 0 0 zs) HB.out infoS rfl (shp_one _ _ _) ?_)
  exact bodyPost_ret (v := .agg (shp _ _ _)) (results_cell_row Try.results30 _ _ w.heap.size 34 _ (0, 0) _ rfl (setRow_block HB.out) Try.underlying34 rfl infoS) rfl ⟨rfl, gr_setRow HG.out (by omega) _⟩
theorem vw_5 (n : Int) (h0 : 171 ≤ n) (h1 : n ≤ 173) (w : World) : Calls Try.prog 30 #[.int .i64 n] w (RES 1 0 ⟨#[118, 105, 58, 118]⟩ w) := by
  go_enter Try.func30, Try.ntmps30
  go_wp2_with (go_at_call 20; first | ((with_reducible refine (within_yes _ _ _ (by omega) (by omega) _).mono ?_); rintro e w' ⟨rfl, rfl⟩) | ((with_reducible refine (within_no _ _ _ (by omega) _).mono ?_); rintro e w' ⟨rfl, rfl⟩))
  refine (plain_any _ _).mono ?_
  rintro e w1 ⟨rfl, hg⟩
  have hb := gr_block hg (heap_alloc_new w (.cells (shp 0 0 zs) 34))
  have HB := Lib.hid hb
  have HG := Lib.hid (gr_trans ((Gr.refl w).alloc _ _) hg)
  clear hb hg
  go_wp2_with (refine wpList_store_row rfl 34 _ _ rfl w.heap.size (shp _ _ _) rfl rfl 34 (shp 0 0 zs) HB.out infoS rfl (shp_one _ _ _) ?_)
  exact bodyPost_ret (v := .agg (shp _ _ _)) (results_cell_row Try.results30 _ _ w.heap.size 34 _ (0, 0) _ rfl (setRow_block HB.out) Try.underlying34 rfl infoS) rfl ⟨rfl, gr_setRow HG.out (by omega) _⟩
theorem vw_6 (w : World) : Calls Try.prog 30 #[.int .i64 174] w (RES 1 0 ⟨#[118, 118, 58, 118]⟩ w) := by
  go_enter Try.func30, Try.ntmps30
  go_wp2_with (go_at_call 20; first | ((with_reducible refine (within_yes _ _ _ (by omega) (by omega) _).mono ?_); rintro e w' ⟨rfl, rfl⟩) | ((with_reducible refine (within_no _ _ _ (by omega) _).mono ?_); rintro e w' ⟨rfl, rfl⟩))
  refine (plain_any _ _).mono ?_
  rintro e w1 ⟨rfl, hg⟩
  have hb := gr_block hg (heap_alloc_new w (.cells (shp 0 0 zs) 34))
  have HB := Lib.hid hb
  have HG := Lib.hid (gr_trans ((Gr.refl w).alloc _ _) hg)
  clear hb hg
  go_wp2_with (refine wpList_store_row rfl 34 _ _ rfl w.heap.size (shp _ _ _) rfl rfl 34 (shp 0 0 zs) HB.out infoS rfl (shp_one _ _ _) ?_)
  exact bodyPost_ret (v := .agg (shp _ _ _)) (results_cell_row Try.results30 _ _ w.heap.size 34 _ (0, 0) _ rfl (setRow_block HB.out) Try.underlying34 rfl infoS) rfl ⟨rfl, gr_setRow HG.out (by omega) _⟩
theorem vw_7 (n : Int) (h0 : 175 ≤ n) (h1 : n ≤ 176) (w : World) : Calls Try.prog 30 #[.int .i64 n] w (RES 0 0 ⟨#[]⟩ w) := by
  go_enter Try.func30, Try.ntmps30
  go_wp2_with (go_at_call 20; first | ((with_reducible refine (within_yes _ _ _ (by omega) (by omega) _).mono ?_); rintro e w' ⟨rfl, rfl⟩) | ((with_reducible refine (within_no _ _ _ (by omega) _).mono ?_); rintro e w' ⟨rfl, rfl⟩))
  exact bodyPost_ret (v := .agg (shp _ _ _)) (by simp [results, Try.results30, go_sem, shp] <;> rfl) rfl ⟨rfl, (Gr.refl _).alloc _ _⟩
theorem vw_8 (w : World) : Calls Try.prog 30 #[.int .i64 177] w (RES 1 0 ⟨#[118, 118, 58, 118]⟩ w) := by
  go_enter Try.func30, Try.ntmps30
  go_wp2_with (go_at_call 20; first | ((with_reducible refine (within_yes _ _ _ (by omega) (by omega) _).mono ?_); rintro e w' ⟨rfl, rfl⟩) | ((with_reducible refine (within_no _ _ _ (by omega) _).mono ?_); rintro e w' ⟨rfl, rfl⟩))
  refine (plain_any _ _).mono ?_
  rintro e w1 ⟨rfl, hg⟩
  have hb := gr_block hg (heap_alloc_new w (.cells (shp 0 0 zs) 34))
  have HB := Lib.hid hb
  have HG := Lib.hid (gr_trans ((Gr.refl w).alloc _ _) hg)
  clear hb hg
  go_wp2_with (refine wpList_store_row rfl 34 _ _ rfl w.heap.size (shp _ _ _) rfl rfl 34 (shp 0 0 zs) HB.out infoS rfl (shp_one _ _ _) ?_)
  exact bodyPost_ret (v := .agg (shp _ _ _)) (results_cell_row Try.results30 _ _ w.heap.size 34 _ (0, 0) _ rfl (setRow_block HB.out) Try.underlying34 rfl infoS) rfl ⟨rfl, gr_setRow HG.out (by omega) _⟩
theorem vw_9 (n : Int) (h0 : 178 ≤ n) (h1 : n ≤ 180) (w : World) : Calls Try.prog 30 #[.int .i64 n] w (RES 0 0 ⟨#[]⟩ w) := by
  go_enter Try.func30, Try.ntmps30
  go_wp2_with (go_at_call 20; first | ((with_reducible refine (within_yes _ _ _ (by omega) (by omega) _).mono ?_); rintro e w' ⟨rfl, rfl⟩) | ((with_reducible refine (within_no _ _ _ (by omega) _).mono ?_); rintro e w' ⟨rfl, rfl⟩))
  exact bodyPost_ret (v := .agg (shp _ _ _)) (by simp [results, Try.results30, go_sem, shp] <;> rfl) rfl ⟨rfl, (Gr.refl _).alloc _ _⟩
theorem vw_10 (n : Int) (h0 : 181 ≤ n) (h1 : n ≤ 186) (w : World) : Calls Try.prog 30 #[.int .i64 n] w (RES 1 0 ⟨#[118, 118, 58, 118]⟩ w) := by
  go_enter Try.func30, Try.ntmps30
  go_wp2_with (go_at_call 20; first | ((with_reducible refine (within_yes _ _ _ (by omega) (by omega) _).mono ?_); rintro e w' ⟨rfl, rfl⟩) | ((with_reducible refine (within_no _ _ _ (by omega) _).mono ?_); rintro e w' ⟨rfl, rfl⟩))
  refine (plain_any _ _).mono ?_
  rintro e w1 ⟨rfl, hg⟩
  have hb := gr_block hg (heap_alloc_new w (.cells (shp 0 0 zs) 34))
  have HB := Lib.hid hb
  have HG := Lib.hid (gr_trans ((Gr.refl w).alloc _ _) hg)
  clear hb hg
  go_wp2_with (refine wpList_store_row rfl 34 _ _ rfl w.heap.size (shp _ _ _) rfl rfl 34 (shp 0 0 zs) HB.out infoS rfl (shp_one _ _ _) ?_)
  exact bodyPost_ret (v := .agg (shp _ _ _)) (results_cell_row Try.results30 _ _ w.heap.size 34 _ (0, 0) _ rfl (setRow_block HB.out) Try.underlying34 rfl infoS) rfl ⟨rfl, gr_setRow HG.out (by omega) _⟩
theorem vw_11 (w : World) : Calls Try.prog 30 #[.int .i64 187] w (RES 0 0 ⟨#[]⟩ w) := by
  go_enter Try.func30, Try.ntmps30
  go_wp2_with (go_at_call 20; first | ((with_reducible refine (within_yes _ _ _ (by omega) (by omega) _).mono ?_); rintro e w' ⟨rfl, rfl⟩) | ((with_reducible refine (within_no _ _ _ (by omega) _).mono ?_); rintro e w' ⟨rfl, rfl⟩))
  exact bodyPost_ret (v := .agg (shp _ _ _)) (by simp [results, Try.results30, go_sem, shp] <;> rfl) rfl ⟨rfl, (Gr.refl _).alloc _ _⟩
theorem vw_12 (n : Int) (h0 : 188 ≤ n) (h1 : n ≤ 191) (w : World) : Calls Try.prog 30 #[.int .i64 n] w (RES 1 0 ⟨#[118, 118, 58, 118]⟩ w) := by
  go_enter Try.func30, Try.ntmps30
  go_wp2_with (go_at_call 20; first | ((with_reducible refine (within_yes _ _ _ (by omega) (by omega) _).mono ?_); rintro e w' ⟨rfl, rfl⟩) | ((with_reducible refine (within_no _ _ _ (by omega) _).mono ?_); rintro e w' ⟨rfl, rfl⟩))
  refine (plain_any _ _).mono ?_
  rintro e w1 ⟨rfl, hg⟩
  have hb := gr_block hg (heap_alloc_new w (.cells (shp 0 0 zs) 34))
  have HB := Lib.hid hb
  have HG := Lib.hid (gr_trans ((Gr.refl w).alloc _ _) hg)
  clear hb hg
  go_wp2_with (refine wpList_store_row rfl 34 _ _ rfl w.heap.size (shp _ _ _) rfl rfl 34 (shp 0 0 zs) HB.out infoS rfl (shp_one _ _ _) ?_)
  exact bodyPost_ret (v := .agg (shp _ _ _)) (results_cell_row Try.results30 _ _ w.heap.size 34 _ (0, 0) _ rfl (setRow_block HB.out) Try.underlying34 rfl infoS) rfl ⟨rfl, gr_setRow HG.out (by omega) _⟩
theorem vw_13 (n : Int) (h0 : 192 ≤ n) (h1 : n ≤ 193) (w : World) : Calls Try.prog 30 #[.int .i64 n] w (RES 1 0 ⟨#[118, 58, 118]⟩ w) := by
  go_enter Try.func30, Try.ntmps30
  go_wp2_with (go_at_call 20; first | ((with_reducible refine (within_yes _ _ _ (by omega) (by omega) _).mono ?_); rintro e w' ⟨rfl, rfl⟩) | ((with_reducible refine (within_no _ _ _ (by omega) _).mono ?_); rintro e w' ⟨rfl, rfl⟩))
  refine (plain_any _ _).mono ?_
  rintro e w1 ⟨rfl, hg⟩
  have hb := gr_block hg (heap_alloc_new w (.cells (shp 0 0 zs) 34))
  have HB := Lib.hid hb
  have HG := Lib.hid (gr_trans ((Gr.refl w).alloc _ _) hg)
  clear hb hg
  go_wp2_with (refine wpList_store_row rfl 34 _ _ rfl w.heap.size (shp _ _ _) rfl rfl 34 (shp 0 0 zs) HB.out infoS rfl (shp_one _ _ _) ?_)
  exact bodyPost_ret (v := .agg (shp _ _ _)) (results_cell_row Try.results30 _ _ w.heap.size 34 _ (0, 0) _ rfl (setRow_block HB.out) Try.underlying34 rfl infoS) rfl ⟨rfl, gr_setRow HG.out (by omega) _⟩
theorem vw_14 (w : World) : Calls Try.prog 30 #[.int .i64 194] w (RES 0 0 ⟨#[]⟩ w) := by
  go_enter Try.func30, Try.ntmps30
  go_wp2_with (go_at_call 20; first | ((with_reducible refine (within_yes _ _ _ (by omega) (by omega) _).mono ?_); rintro e w' ⟨rfl, rfl⟩) | ((with_reducible refine (within_no _ _ _ (by omega) _).mono ?_); rintro e w' ⟨rfl, rfl⟩))
  exact bodyPost_ret (v := .agg (shp _ _ _)) (by simp [results, Try.results30, go_sem, shp] <;> rfl) rfl ⟨rfl, (Gr.refl _).alloc _ _⟩
theorem vw_15 (n : Int) (h0 : 195 ≤ n) (h1 : n ≤ 196) (w : World) : Calls Try.prog 30 #[.int .i64 n] w (RES 1 0 ⟨#[118, 58, 105]⟩ w) := by
  go_enter Try.func30, Try.ntmps30
  go_wp2_with (go_at_call 20; first | ((with_reducible refine (within_yes _ _ _ (by omega) (by omega) _).mono ?_); rintro e w' ⟨rfl, rfl⟩) | ((with_reducible refine (within_no _ _ _ (by omega) _).mono ?_); rintro e w' ⟨rfl, rfl⟩))
  refine (plain_any _ _).mono ?_
  rintro e w1 ⟨rfl, hg⟩
  have hb := gr_block hg (heap_alloc_new w (.cells (shp 0 0 zs) 34))
  have HB := Lib.hid hb
  have HG := Lib.hid (gr_trans ((Gr.refl w).alloc _ _) hg)
  clear hb hg
  go_wp2_with (refine wpList_store_row rfl 34 _ _ rfl w.heap.size (shp _ _ _) rfl rfl 34 (shp 0 0 zs) HB.out infoS rfl (shp_one _ _ _) ?_)
  exact bodyPost_ret (v := .agg (shp _ _ _)) (results_cell_row Try.results30 _ _ w.heap.size 34 _ (0, 0) _ rfl (setRow_block HB.out) Try.underlying34 rfl infoS) rfl ⟨rfl, gr_setRow HG.out (by omega) _⟩
theorem vw_16 (n : Int) (h0 : 197 ≤ n) (h1 : n ≤ 198) (w : World) : Calls Try.prog 30 #[.int .i64 n] w (RES 0 0 ⟨#[]⟩ w) := by
  go_enter Try.func30, Try.ntmps30
  go_wp2_with (go_at_call 20; first | ((with_reducible refine (within_yes _ _ _ (by omega) (by omega) _).mono ?_); rintro e w' ⟨rfl, rfl⟩) | ((with_reducible refine (within_no _ _ _ (by omega) _).mono ?_); rintro e w' ⟨rfl, rfl⟩))
  exact bodyPost_ret (v := .agg (shp _ _ _)) (by simp [results, Try.results30, go_sem, shp] <;> rfl) rfl ⟨rfl, (Gr.refl _).alloc _ _⟩
theorem vw_17 (n : Int) (h0 : 199 ≤ n) (h1 : n ≤ 202) (w : World) : Calls Try.prog 30 #[.int .i64 n] w (RES 1 0 ⟨#[118, 58, 118]⟩ w) := by
  go_enter Try.func30, Try.ntmps30
  go_wp2_with (go_at_call 20; first | ((with_reducible refine (within_yes _ _ _ (by omega) (by omega) _).mono ?_); rintro e w' ⟨rfl, rfl⟩) | ((with_reducible refine (within_no _ _ _ (by omega) _).mono ?_); rintro e w' ⟨rfl, rfl⟩))
  refine (plain_any _ _).mono ?_
  rintro e w1 ⟨rfl, hg⟩
  have hb := gr_block hg (heap_alloc_new w (.cells (shp 0 0 zs) 34))
  have HB := Lib.hid hb
  have HG := Lib.hid (gr_trans ((Gr.refl w).alloc _ _) hg)
  clear hb hg
  go_wp2_with (refine wpList_store_row rfl 34 _ _ rfl w.heap.size (shp _ _ _) rfl rfl 34 (shp 0 0 zs) HB.out infoS rfl (shp_one _ _ _) ?_)
  exact bodyPost_ret (v := .agg (shp _ _ _)) (results_cell_row Try.results30 _ _ w.heap.size 34 _ (0, 0) _ rfl (setRow_block HB.out) Try.underlying34 rfl infoS) rfl ⟨rfl, gr_setRow HG.out (by omega) _⟩
theorem vw_18 (n : Int) (h0 : 203 ≤ n) (h1 : n ≤ 205) (w : World) : Calls Try.prog 30 #[.int .i64 n] w (RES 1 0 ⟨#[118, 105, 58, 118]⟩ w) := by
  go_enter Try.func30, Try.ntmps30
  go_wp2_with (go_at_call 20; first | ((with_reducible refine (within_yes _ _ _ (by omega) (by omega) _).mono ?_); rintro e w' ⟨rfl, rfl⟩) | ((with_reducible refine (within_no _ _ _ (by omega) _).mono ?_); rintro e w' ⟨rfl, rfl⟩))
  refine (plain_any _ _).mono ?_
  rintro e w1 ⟨rfl, hg⟩
  have hb := gr_block hg (heap_alloc_new w (.cells (shp 0 0 zs) 34))
  have HB := Lib.hid hb
  have HG := Lib.hid (gr_trans ((Gr.refl w).alloc _ _) hg)
  clear hb hg
  go_wp2_with (refine wpList_store_row rfl 34 _ _ rfl w.heap.size (shp _ _ _) rfl rfl 34 (shp 0 0 zs) HB.out infoS rfl (shp_one _ _ _) ?_)
  exact bodyPost_ret (v := .agg (shp _ _ _)) (results_cell_row Try.results30 _ _ w.heap.size 34 _ (0, 0) _ rfl (setRow_block HB.out) Try.underlying34 rfl infoS) rfl ⟨rfl, gr_setRow HG.out (by omega) _⟩
theorem vw_19 (w : World) : Calls Try.prog 30 #[.int .i64 206] w (RES 1 0 ⟨#[118, 118, 58, 118]⟩ w) := by
  go_enter Try.func30, Try.ntmps30
  go_wp2_with (go_at_call 20; first | ((with_reducible refine (within_yes _ _ _ (by omega) (by omega) _).mono ?_); rintro e w' ⟨rfl, rfl⟩) | ((with_reducible refine (within_no _ _ _ (by omega) _).mono ?_); rintro e w' ⟨rfl, rfl⟩))
  refine (plain_any _ _).mono ?_
  rintro e w1 ⟨rfl, hg⟩
  have hb := gr_block hg (heap_alloc_new w (.cells (shp 0 0 zs) 34))
  have HB := Lib.hid hb
  have HG := Lib.hid (gr_trans ((Gr.refl w).alloc _ _) hg)
  clear hb hg
  go_wp2_with (refine wpList_store_row rfl 34 _ _ rfl w.heap.size (shp _ _ _) rfl rfl 34 (shp 0 0 zs) HB.out infoS rfl (shp_one _ _ _) ?_)
  exact bodyPost_ret (v := .agg (shp _ _ _)) (results_cell_row Try.results30 _ _ w.heap.size 34 _ (0, 0) _ rfl (setRow_block HB.out) Try.underlying34 rfl infoS) rfl ⟨rfl, gr_setRow HG.out (by omega) _⟩
theorem vw_20 (n : Int) (h0 : 207 ≤ n) (h1 : n ≤ 208) (w : World) : Calls Try.prog 30 #[.int .i64 n] w (RES 0 0 ⟨#[]⟩ w) := by
  go_enter Try.func30, Try.ntmps30
  go_wp2_with (go_at_call 20; first | ((with_reducible refine (within_yes _ _ _ (by omega) (by omega) _).mono ?_); rintro e w' ⟨rfl, rfl⟩) | ((with_reducible refine (within_no _ _ _ (by omega) _).mono ?_); rintro e w' ⟨rfl, rfl⟩))
  exact bodyPost_ret (v := .agg (shp _ _ _)) (by simp [results, Try.results30, go_sem, shp] <;> rfl) rfl ⟨rfl, (Gr.refl _).alloc _ _⟩
theorem vw_21 (w : World) : Calls Try.prog 30 #[.int .i64 209] w (RES 1 0 ⟨#[118, 118, 58, 118]⟩ w) := by
  go_enter Try.func30, Try.ntmps30
  go_wp2_with (go_at_call 20; first | ((with_reducible refine (within_yes _ _ _ (by omega) (by omega) _).mono ?_); rintro e w' ⟨rfl, rfl⟩) | ((with_reducible refine (within_no _ _ _ (by omega) _).mono ?_); rintro e w' ⟨rfl, rfl⟩))
  refine (plain_any _ _).mono ?_
  rintro e w1 ⟨rfl, hg⟩
  have hb := gr_block hg (heap_alloc_new w (.cells (shp 0 0 zs) 34))
  have HB := Lib.hid hb
  have HG := Lib.hid (gr_trans ((Gr.refl w).alloc _ _) hg)
  clear hb hg
  go_wp2_with (refine wpList_store_row rfl 34 _ _ rfl w.heap.size (shp _ _ _) rfl rfl 34 (shp 0 0 zs) HB.out infoS rfl (shp_one _ _ _) ?_)
  exact bodyPost_ret (v := .agg (shp _ _ _)) (results_cell_row Try.results30 _ _ w.heap.size 34 _ (0, 0) _ rfl (setRow_block HB.out) Try.underlying34 rfl infoS) rfl ⟨rfl, gr_setRow HG.out (by omega) _⟩
theorem vw_22 (n : Int) (h0 : 210 ≤ n) (h1 : n ≤ 212) (w : World) : Calls Try.prog 30 #[.int .i64 n] w (RES 0 0 ⟨#[]⟩ w) := by
  go_enter Try.func30, Try.ntmps30
  go_wp2_with (go_at_call 20; first | ((with_reducible refine (within_yes _ _ _ (by omega) (by omega) _).mono ?_); rintro e w' ⟨rfl, rfl⟩) | ((with_reducible refine (within_no _ _ _ (by omega) _).mono ?_); rintro e w' ⟨rfl, rfl⟩))
  exact bodyPost_ret (v := .agg (shp _ _ _)) (by simp [results, Try.results30, go_sem, shp] <;> rfl) rfl ⟨rfl, (Gr.refl _).alloc _ _⟩
theorem vw_23 (n : Int) (h0 : 213 ≤ n) (h1 : n ≤ 223) (w : World) : Calls Try.prog 30 #[.int .i64 n] w (RES 1 0 ⟨#[118, 118, 58, 118]⟩ w) := by
  go_enter Try.func30, Try.ntmps30
  go_wp2_with (go_at_call 20; first | ((with_reducible refine (within_yes _ _ _ (by omega) (by omega) _).mono ?_); rintro e w' ⟨rfl, rfl⟩) | ((with_reducible refine (within_no _ _ _ (by omega) _).mono ?_); rintro e w' ⟨rfl, rfl⟩))
  refine (plain_any _ _).mono ?_
  rintro e w1 ⟨rfl, hg⟩
  have hb := gr_block hg (heap_alloc_new w (.cells (shp 0 0 zs) 34))
  have HB := Lib.hid hb
  have HG := Lib.hid (gr_trans ((Gr.refl w).alloc _ _) hg)
  clear hb hg
  go_wp2_with (refine wpList_store_row rfl 34 _ _ rfl w.heap.size (shp _ _ _) rfl rfl 34 (shp 0 0 zs) HB.out infoS rfl (shp_one _ _ _) ?_)
  exact bodyPost_ret (v := .agg (shp _ _ _)) (results_cell_row Try.results30 _ _ w.heap.size 34 _ (0, 0) _ rfl (setRow_block HB.out) Try.underlying34 rfl infoS) rfl ⟨rfl, gr_setRow HG.out (by omega) _⟩
theorem vw_24 (n : Int) (h0 : 224 ≤ n) (w : World) : Calls Try.prog 30 #[.int .i64 n] w (RES 0 0 ⟨#[]⟩ w) := by
  go_enter Try.func30, Try.ntmps30
  go_wp2_with (go_at_call 20; first | ((with_reducible refine (within_yes _ _ _ (by omega) (by omega) _).mono ?_); rintro e w' ⟨rfl, rfl⟩) | ((with_reducible refine (within_no _ _ _ (by omega) _).mono ?_); rintro e w' ⟨rfl, rfl⟩))
  exact bodyPost_ret (v := .agg (shp _ _ _)) (by simp [results, Try.results30, go_sem, shp] <;> rfl) rfl ⟨rfl, (Gr.refl _).alloc _ _⟩
theorem top_access0 (n f l : Int) (s : ByteArray) (_h0 : 40 ≤ n) (_h1 : n ≤ 62) (h : ∀ w, Calls Try.prog 31 #[.int .i64 n] w (RES f l s w)) (w : World) : Calls Try.prog 16 #[.int .i64 n] w (RES f l s w) := by
  have H := Lib.hid h
  clear h
  go_enter Try.func16, Try.ntmps16
  go_wp2_with (go_at_call 20; first | ((with_reducible refine (within_yes _ _ _ (by omega) (by omega) _).mono ?_); rintro e w' ⟨rfl, rfl⟩) | ((with_reducible refine (within_no _ _ _ (by omega) _).mono ?_); rintro e w' ⟨rfl, rfl⟩))
  refine (H.out _).mono ?_
  rintro e w1 ⟨rfl, hg⟩
  have hb := gr_block hg (heap_alloc_new w (.cells (shp 0 0 zs) 34))
  have HB := Lib.hid hb
  have HG := Lib.hid (gr_trans ((Gr.refl w).alloc _ _) hg)
  clear hb hg
  go_wp2_with (refine wpList_store_row rfl 34 _ _ rfl w.heap.size (shp _ _ _) rfl rfl 34 (shp 0 0 zs) HB.out infoS rfl (shp_one _ _ _) ?_)
  exact bodyPost_ret (v := .agg (shp _ _ _)) (results_cell_row Try.results16 _ _ w.heap.size 34 _ (0, 0) _ rfl (setRow_block HB.out) Try.underlying34 rfl infoS) rfl ⟨rfl, gr_setRow HG.out (by omega) _⟩
theorem top_operator0 (n f l : Int) (s : ByteArray) (_h0 : 69 ≤ n) (h : ∀ w, Calls Try.prog 32 #[.int .i64 n] w (RES f l s w)) (w : World) : Calls Try.prog 16 #[.int .i64 n] w (RES f l s w) := by
  have H := Lib.hid h
  clear h
  go_enter Try.func16, Try.ntmps16
  go_wp2_with (go_at_call 20; first | ((with_reducible refine (within_yes _ _ _ (by omega) (by omega) _).mono ?_); rintro e w' ⟨rfl, rfl⟩) | ((with_reducible refine (within_no _ _ _ (by omega) _).mono ?_); rintro e w' ⟨rfl, rfl⟩))
  refine (H.out _).mono ?_
  rintro e w1 ⟨rfl, hg⟩
  have hb := gr_block hg (heap_alloc_new w (.cells (shp 0 0 zs) 34))
  have HB := Lib.hid hb
  have HG := Lib.hid (gr_trans ((Gr.refl w).alloc _ _) hg)
  clear hb hg
  go_wp2_with (refine wpList_store_row rfl 34 _ _ rfl w.heap.size (shp _ _ _) rfl rfl 34 (shp 0 0 zs) HB.out infoS rfl (shp_one _ _ _) ?_)
  exact bodyPost_ret (v := .agg (shp _ _ _)) (results_cell_row Try.results16 _ _ w.heap.size 34 _ (0, 0) _ rfl (setRow_block HB.out) Try.underlying34 rfl infoS) rfl ⟨rfl, gr_setRow HG.out (by omega) _⟩
theorem top_control0 (n f l : Int) (s : ByteArray) (_h1 : n ≤ 39) (h : ∀ w, Calls Try.prog 33 #[.int .i64 n] w (RES f l s w)) (w : World) : Calls Try.prog 16 #[.int .i64 n] w (RES f l s w) := by
  have H := Lib.hid h
  clear h
  go_enter Try.func16, Try.ntmps16
  go_wp2_with (go_at_call 20; first | ((with_reducible refine (within_yes _ _ _ (by omega) (by omega) _).mono ?_); rintro e w' ⟨rfl, rfl⟩) | ((with_reducible refine (within_no _ _ _ (by omega) _).mono ?_); rintro e w' ⟨rfl, rfl⟩))
  refine (H.out _).mono ?_
  rintro e w1 ⟨rfl, hg⟩
  have hb := gr_block hg (heap_alloc_new w (.cells (shp 0 0 zs) 34))
  have HB := Lib.hid hb
  have HG := Lib.hid (gr_trans ((Gr.refl w).alloc _ _) hg)
  clear hb hg
  go_wp2_with (refine wpList_store_row rfl 34 _ _ rfl w.heap.size (shp _ _ _) rfl rfl 34 (shp 0 0 zs) HB.out infoS rfl (shp_one _ _ _) ?_)
  exact bodyPost_ret (v := .agg (shp _ _ _)) (results_cell_row Try.results16 _ _ w.heap.size 34 _ (0, 0) _ rfl (setRow_block HB.out) Try.underlying34 rfl infoS) rfl ⟨rfl, gr_setRow HG.out (by omega) _⟩
theorem top_control1 (n f l : Int) (s : ByteArray) (_h0 : 67 ≤ n) (_h1 : n ≤ 68) (h : ∀ w, Calls Try.prog 33 #[.int .i64 n] w (RES f l s w)) (w : World) : Calls Try.prog 16 #[.int .i64 n] w (RES f l s w) := by
  have H := Lib.hid h
  clear h
  go_enter Try.func16, Try.ntmps16
  go_wp2_with (go_at_call 20; first | ((with_reducible refine (within_yes _ _ _ (by omega) (by omega) _).mono ?_); rintro e w' ⟨rfl, rfl⟩) | ((with_reducible refine (within_no _ _ _ (by omega) _).mono ?_); rintro e w' ⟨rfl, rfl⟩))
  refine (H.out _).mono ?_
  rintro e w1 ⟨rfl, hg⟩
  have hb := gr_block hg (heap_alloc_new w (.cells (shp 0 0 zs) 34))
  have HB := Lib.hid hb
  have HG := Lib.hid (gr_trans ((Gr.refl w).alloc _ _) hg)
  clear hb hg
  go_wp2_with (refine wpList_store_row rfl 34 _ _ rfl w.heap.size (shp _ _ _) rfl rfl 34 (shp 0 0 zs) HB.out infoS rfl (shp_one _ _ _) ?_)
  exact bodyPost_ret (v := .agg (shp _ _ _)) (results_cell_row Try.results16 _ _ w.heap.size 34 _ (0, 0) _ rfl (setRow_block HB.out) Try.underlying34 rfl infoS) rfl ⟨rfl, gr_setRow HG.out (by omega) _⟩
theorem top_va0 (n f l : Int) (s : ByteArray) (_h0 : 0 ≤ n) (_h1 : n ≤ 11) (h : ∀ w, Calls Try.prog 26 #[.int .i64 n] w (RES f l s w)) (w : World) : Calls Try.prog 15 #[.int .i64 n] w (RES f l s w) := by
  have H := Lib.hid h
  clear h
  go_enter Try.func15, Try.ntmps15
  go_wp2_with (go_at_call 20; first | ((with_reducible refine (within_yes _ _ _ (by omega) (by omega) _).mono ?_); rintro e w' ⟨rfl, rfl⟩) | ((with_reducible refine (within_no _ _ _ (by omega) _).mono ?_); rintro e w' ⟨rfl, rfl⟩))
  refine (H.out _).mono ?_
  rintro e w1 ⟨rfl, hg⟩
  have hb := gr_block hg (heap_alloc_new w (.cells (shp 0 0 zs) 34))
  have HB := Lib.hid hb
  have HG := Lib.hid (gr_trans ((Gr.refl w).alloc _ _) hg)
  clear hb hg
  go_wp2_with (refine wpList_store_row rfl 34 _ _ rfl w.heap.size (shp _ _ _) rfl rfl 34 (shp 0 0 zs) HB.out infoS rfl (shp_one _ _ _) ?_)
  exact bodyPost_ret (v := .agg (shp _ _ _)) (results_cell_row Try.results15 _ _ w.heap.size 34 _ (0, 0) _ rfl (setRow_block HB.out) Try.underlying34 rfl infoS) rfl ⟨rfl, gr_setRow HG.out (by omega) _⟩
theorem top_va1 (n f l : Int) (s : ByteArray) (_h0 : 84 ≤ n) (_h1 : n ≤ 93) (h : ∀ w, Calls Try.prog 26 #[.int .i64 n] w (RES f l s w)) (w : World) : Calls Try.prog 15 #[.int .i64 n] w (RES f l s w) := by
  have H := Lib.hid h
  clear h
  go_enter Try.func15, Try.ntmps15
  go_wp2_with (go_at_call 20; first | ((with_reducible refine (within_yes _ _ _ (by omega) (by omega) _).mono ?_); rintro e w' ⟨rfl, rfl⟩) | ((with_reducible refine (within_no _ _ _ (by omega) _).mono ?_); rintro e w' ⟨rfl, rfl⟩))
  refine (H.out _).mono ?_
  rintro e w1 ⟨rfl, hg⟩
  have hb := gr_block hg (heap_alloc_new w (.cells (shp 0 0 zs) 34))
  have HB := Lib.hid hb
  have HG := Lib.hid (gr_trans ((Gr.refl w).alloc _ _) hg)
  clear hb hg
  go_wp2_with (refine wpList_store_row rfl 34 _ _ rfl w.heap.size (shp _ _ _) rfl rfl 34 (shp 0 0 zs) HB.out infoS rfl (shp_one _ _ _) ?_)
  exact bodyPost_ret (v := .agg (shp _ _ _)) (results_cell_row Try.results15 _ _ w.heap.size 34 _ (0, 0) _ rfl (setRow_block HB.out) Try.underlying34 rfl infoS) rfl ⟨rfl, gr_setRow HG.out (by omega) _⟩
theorem top_vm0 (n f l : Int) (s : ByteArray) (_h0 : 12 ≤ n) (_h1 : n ≤ 34) (h : ∀ w, Calls Try.prog 27 #[.int .i64 n] w (RES f l s w)) (w : World) : Calls Try.prog 15 #[.int .i64 n] w (RES f l s w) := by
  have H := Lib.hid h
  clear h
  go_enter Try.func15, Try.ntmps15
  go_wp2_with (go_at_call 20; first | ((with_reducible refine (within_yes _ _ _ (by omega) (by omega) _).mono ?_); rintro e w' ⟨rfl, rfl⟩) | ((with_reducible refine (within_no _ _ _ (by omega) _).mono ?_); rintro e w' ⟨rfl, rfl⟩))
  refine (H.out _).mono ?_
  rintro e w1 ⟨rfl, hg⟩
  have hb := gr_block hg (heap_alloc_new w (.cells (shp 0 0 zs) 34))
  have HB := Lib.hid hb
  have HG := Lib.hid (gr_trans ((Gr.refl w).alloc _ _) hg)
  clear hb hg
  go_wp2_with (refine wpList_store_row rfl 34 _ _ rfl w.heap.size (shp _ _ _) rfl rfl 34 (shp 0 0 zs) HB.out infoS rfl (shp_one _ _ _) ?_)
  exact bodyPost_ret (v := .agg (shp _ _ _)) (results_cell_row Try.results15 _ _ w.heap.size 34 _ (0, 0) _ rfl (setRow_block HB.out) Try.underlying34 rfl infoS) rfl ⟨rfl, gr_setRow HG.out (by omega) _⟩
theorem top_vb0 (n f l : Int) (s : ByteArray) (_h0 : 35 ≤ n) (_h1 : n ≤ 83) (h : ∀ w, Calls Try.prog 28 #[.int .i64 n] w (RES f l s w)) (w : World) : Calls Try.prog 15 #[.int .i64 n] w (RES f l s w) := by
  have H := Lib.hid h
  clear h
  go_enter Try.func15, Try.ntmps15
  go_wp2_with (go_at_call 20; first | ((with_reducible refine (within_yes _ _ _ (by omega) (by omega) _).mono ?_); rintro e w' ⟨rfl, rfl⟩) | ((with_reducible refine (within_no _ _ _ (by omega) _).mono ?_); rintro e w' ⟨rfl, rfl⟩))
  refine (H.out _).mono ?_
  rintro e w1 ⟨rfl, hg⟩
  have hb := gr_block hg (heap_alloc_new w (.cells (shp 0 0 zs) 34))
  have HB := Lib.hid hb
  have HG := Lib.hid (gr_trans ((Gr.refl w).alloc _ _) hg)
  clear hb hg
  go_wp2_with (refine wpList_store_row rfl 34 _ _ rfl w.heap.size (shp _ _ _) rfl rfl 34 (shp 0 0 zs) HB.out infoS rfl (shp_one _ _ _) ?_)
  exact bodyPost_ret (v := .agg (shp _ _ _)) (results_cell_row Try.results15 _ _ w.heap.size 34 _ (0, 0) _ rfl (setRow_block HB.out) Try.underlying34 rfl infoS) rfl ⟨rfl, gr_setRow HG.out (by omega) _⟩
theorem top_vn0 (n f l : Int) (s : ByteArray) (_h0 : 94 ≤ n) (_h1 : n ≤ 159) (h : ∀ w, Calls Try.prog 29 #[.int .i64 n] w (RES f l s w)) (w : World) : Calls Try.prog 15 #[.int .i64 n] w (RES f l s w) := by
  have H := Lib.hid h
  clear h
  go_enter Try.func15, Try.ntmps15
  go_wp2_with (go_at_call 20; first | ((with_reducible refine (within_yes _ _ _ (by omega) (by omega) _).mono ?_); rintro e w' ⟨rfl, rfl⟩) | ((with_reducible refine (within_no _ _ _ (by omega) _).mono ?_); rintro e w' ⟨rfl, rfl⟩))
  refine (H.out _).mono ?_
  rintro e w1 ⟨rfl, hg⟩
  have hb := gr_block hg (heap_alloc_new w (.cells (shp 0 0 zs) 34))
  have HB := Lib.hid hb
  have HG := Lib.hid (gr_trans ((Gr.refl w).alloc _ _) hg)
  clear hb hg
  go_wp2_with (refine wpList_store_row rfl 34 _ _ rfl w.heap.size (shp _ _ _) rfl rfl 34 (shp 0 0 zs) HB.out infoS rfl (shp_one _ _ _) ?_)
  exact bodyPost_ret (v := .agg (shp _ _ _)) (results_cell_row Try.results15 _ _ w.heap.size 34 _ (0, 0) _ rfl (setRow_block HB.out) Try.underlying34 rfl infoS) rfl ⟨rfl, gr_setRow HG.out (by omega) _⟩
theorem top_vw0 (n f l : Int) (s : ByteArray) (_h0 : 160 ≤ n) (h : ∀ w, Calls Try.prog 30 #[.int .i64 n] w (RES f l s w)) (w : World) : Calls Try.prog 15 #[.int .i64 n] w (RES f l s w) := by
  have H := Lib.hid h
  clear h
  go_enter Try.func15, Try.ntmps15
  go_wp2_with (go_at_call 20; first | ((with_reducible refine (within_yes _ _ _ (by omega) (by omega) _).mono ?_); rintro e w' ⟨rfl, rfl⟩) | ((with_reducible refine (within_no _ _ _ (by omega) _).mono ?_); rintro e w' ⟨rfl, rfl⟩))
  refine (H.out _).mono ?_
  rintro e w1 ⟨rfl, hg⟩
  have hb := gr_block hg (heap_alloc_new w (.cells (shp 0 0 zs) 34))
  have HB := Lib.hid hb
  have HG := Lib.hid (gr_trans ((Gr.refl w).alloc _ _) hg)
  clear hb hg
  go_wp2_with (refine wpList_store_row rfl 34 _ _ rfl w.heap.size (shp _ _ _) rfl rfl 34 (shp 0 0 zs) HB.out infoS rfl (shp_one _ _ _) ?_)
  exact bodyPost_ret (v := .agg (shp _ _ _)) (results_cell_row Try.results15 _ _ w.heap.size 34 _ (0, 0) _ rfl (setRow_block HB.out) Try.underlying34 rfl infoS) rfl ⟨rfl, gr_setRow HG.out (by omega) _⟩
theorem top_63 (w : World) : Calls Try.prog 16 #[.int .i64 63] w (RES 14 0 ⟨#[58, 105]⟩ w) := by
  go_enter Try.func16, Try.ntmps16
  go_wp2_with (go_at_call 20; first | ((with_reducible refine (within_yes _ _ _ (by omega) (by omega) _).mono ?_); rintro e w' ⟨rfl, rfl⟩) | ((with_reducible refine (within_no _ _ _ (by omega) _).mono ?_); rintro e w' ⟨rfl, rfl⟩))
  exact bodyPost_ret (v := .agg (shp _ _ _)) (by simp [results, Try.results16, go_sem, shp] <;> rfl) rfl ⟨rfl, (Gr.refl _).alloc _ _⟩
theorem top_64 (w : World) : Calls Try.prog 16 #[.int .i64 64] w (RES 14 0 ⟨#[105, 58, 105]⟩ w) := by
  go_enter Try.func16, Try.ntmps16
  go_wp2_with (go_at_call 20; first | ((with_reducible refine (within_yes _ _ _ (by omega) (by omega) _).mono ?_); rintro e w' ⟨rfl, rfl⟩) | ((with_reducible refine (within_no _ _ _ (by omega) _).mono ?_); rintro e w' ⟨rfl, rfl⟩))
  exact bodyPost_ret (v := .agg (shp _ _ _)) (by simp [results, Try.results16, go_sem, shp] <;> rfl) rfl ⟨rfl, (Gr.refl _).alloc _ _⟩
theorem top_65 (w : World) : Calls Try.prog 16 #[.int .i64 65] w (RES 9 0 ⟨#[58, 105]⟩ w) := by
  go_enter Try.func16, Try.ntmps16
  go_wp2_with (go_at_call 20; first | ((with_reducible refine (within_yes _ _ _ (by omega) (by omega) _).mono ?_); rintro e w' ⟨rfl, rfl⟩) | ((with_reducible refine (within_no _ _ _ (by omega) _).mono ?_); rintro e w' ⟨rfl, rfl⟩))
  exact bodyPost_ret (v := .agg (shp _ _ _)) (by simp [results, Try.results16, go_sem, shp] <;> rfl) rfl ⟨rfl, (Gr.refl _).alloc _ _⟩
theorem top_66 (w : World) : Calls Try.prog 16 #[.int .i64 66] w (RES 10 0 ⟨#[58, 108]⟩ w) := by
  go_enter Try.func16, Try.ntmps16
  go_wp2_with (go_at_call 20; first | ((with_reducible refine (within_yes _ _ _ (by omega) (by omega) _).mono ?_); rintro e w' ⟨rfl, rfl⟩) | ((with_reducible refine (within_no _ _ _ (by omega) _).mono ?_); rintro e w' ⟨rfl, rfl⟩))
  exact bodyPost_ret (v := .agg (shp _ _ _)) (by simp [results, Try.results16, go_sem, shp] <;> rfl) rfl ⟨rfl, (Gr.refl _).alloc _ _⟩
end Ins
end Go.Proofs.Ytakleaonmlompaa
