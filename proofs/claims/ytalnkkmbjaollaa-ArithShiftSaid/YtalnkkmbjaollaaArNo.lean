/-
  Of layer 5: Un and Shift at an instruction that isn't theirs. Conditions: those of each theorem.
-/
import Derived.Test.YtalnkkmbjaollaaArUn
namespace Go.Proofs.Ytalnkkmbjaollaa
open Go.RowKit
namespace Ar
theorem heap2 (w : World) (a b : Obj) : ((w.alloc a).alloc b).heap[w.heap.size]? = some a ∧ ((w.alloc a).alloc b).heap[w.heap.size + 1]? = some b :=
  ⟨heap_alloc2_old w _ _, heap_alloc2_new w _ _⟩
set_option maxRecDepth 100000 in
set_option maxHeartbeats 1000000 in
theorem un_refused (op v kk : Int) (a : Nat → Int) (h : v = 0 ∨ (v == 0) = false ∧ 2 < kk)
    (hA : ∀ w, Calls Try.prog 32 #[.int .i64 op] w fun e w' => e = .returned (.tuple #[.int .i64 v, .int .i64 kk]) ∧ w = w') (w : World) :
    Calls Try.prog 23 #[.int .i64 op, .agg (bs a)] w fun e w' => e = .returned (.tuple #[.agg (bs fun _ => 0), .int .i64 1]) ∧ Gr w w' := by
  have HA := Lib.hid hA
  clear hA
  have HH := Lib.hid (heap2 w (.cells (bs a) 23) (.cells (bs fun _ => 0) 23))
  rcases h with rfl | ⟨h1, h2⟩
  all_goals
    go_enter Try.func23, Try.ntmps23
    go_wp2_with (first | (go_at_call 32; refine (HA.out _).mono ?_; rintro e w' ⟨rfl, rfl⟩) | (refine wpList_store_row rfl 23 _ _ rfl (w.heap.size + 1) (bs fun _ => 0) rfl rfl 23 (bs fun _ => 0) HH.out.2 infoV rfl (bs_one _) ?_))
    exact bodyPost_ret (v := .tuple #[.agg (bs fun _ => 0), .int .i64 1]) (results_cell_slot Try.results23 _ _ (w.heap.size + 1) 23 _ (0, 0) _ rfl (setRow_block (c := bs fun _ => 0) HH.out.2) Try.underlying23 rfl infoV _ rfl) rfl ⟨rfl, gr_setRow (((Gr.refl _).alloc _ _).alloc _ _) (by omega) _⟩
set_option maxRecDepth 100000 in
set_option maxHeartbeats 1000000 in
theorem sh_refused (op v kk n : Int) (a : Nat → Int) (h : v = 0 ∨ (v == 0) = false ∧ kk < 11 ∨ (v == 0) = false ∧ 11 ≤ kk ∧ 13 < kk)
    (hA : ∀ w, Calls Try.prog 32 #[.int .i64 op] w fun e w' => e = .returned (.tuple #[.int .i64 v, .int .i64 kk]) ∧ w = w') (w : World) :
    Calls Try.prog 14 #[.int .i64 op, .agg (bs a), .int .u32 n] w fun e w' => e = .returned (.tuple #[.agg (bs fun _ => 0), .int .i64 1]) ∧ Gr w w' := by
  have HA := Lib.hid hA
  clear hA
  have HH := Lib.hid (heap2 w (.cells (bs a) 23) (.cells (bs fun _ => 0) 23))
  rcases h with rfl | ⟨h1, h2⟩ | ⟨h1, h2, h3⟩
  all_goals
    go_enter Try.func14, Try.ntmps14
    go_wp2_with (first | (go_at_call 32; refine (HA.out _).mono ?_; rintro e w' ⟨rfl, rfl⟩) | (refine wpList_store_row rfl 23 _ _ rfl (w.heap.size + 1) (bs fun _ => 0) rfl rfl 23 (bs fun _ => 0) HH.out.2 infoV rfl (bs_one _) ?_))
    exact bodyPost_ret (v := .tuple #[.agg (bs fun _ => 0), .int .i64 1]) (results_cell_slot Try.results14 _ _ (w.heap.size + 1) 23 _ (0, 0) _ rfl (setRow_block (c := bs fun _ => 0) HH.out.2) Try.underlying23 rfl infoV _ rfl) rfl ⟨rfl, gr_setRow (((Gr.refl _).alloc _ _).alloc _ _) (by omega) _⟩
end Ar
end Go.Proofs.Ytalnkkmbjaollaa
