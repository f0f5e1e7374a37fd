/-
  Of layer 5's laws: all, the vector of sixteen equal lanes. Condition: the lane is a byte.
-/
import Derived.Test.YtalnkkmbjaollaaArOwn
import Derived.Test.YtalnkkmbjaollaaSep
namespace Go.Proofs.Ytalnkkmbjaollaa
open Go.RowKit VecM
namespace Ar
def fillN (x : Int) (k : Nat) : Nat → Int := fun m => if m < k then x else 0
theorem fillN_succ (x : Int) (k : Nat) : upd (fillN x k) k x = fillN x (k + 1) := by
  funext m; unfold upd fillN; by_cases h : m = k
  · subst h; simp
  · rw [if_neg h]; by_cases h2 : m < k
    · rw [if_pos h2, if_pos (by omega)]
    · rw [if_neg h2, if_neg (by omega)]
theorem bs_set_cell {w : World} {b : Nat} {c : Nat → Int} {t : TypeId} {z : Nat × Nat} (h : w.heap[b]? = some (.cells (bs c) t z)) (j : Nat) (hj : j < 16) (y : Int) : (w.setCell ⟨b, j, none⟩ (.int .u8 y)).heap[b]? = some (.cells (bs (upd c j y)) t z) := by
  rw [← bs_setL c j y hj]
  simp [World.setCell, Array.getElem?_modify, h, bs]
set_option maxRecDepth 100000 in
theorem all_any (x : Int) (hx : 0 ≤ x ∧ x ≤ 255) (w : World) : Calls Try.prog 27 #[.int .u8 x] w fun e w' => e = .returned (.agg (bs (fillN x 16))) ∧ Gr w w' := by
  have HX := Lib.hid hx
  clear hx
  have HH := Lib.hid (heap2 w (.cells (bs fun _ => 0) 23) (.cells (bs fun _ => 0) 23))
  go_enter Try.func27, Try.ntmps27
  go_wp2_with fail
  have HG0 := Lib.hid (show Gr w ((w.alloc (.cells (bs fun _ => 0) 23)).alloc (.cells (bs fun _ => 0) 23)) from ((Gr.refl _).alloc _ _).alloc _ _)
  go_loopw [4] (fun i wr => ∃ k : Nat, k ≤ 16 ∧ i = .int .i64 k ∧ Gr w wr ∧ wr.heap[w.heap.size]? = some (.cells (bs fun _ => 0) 23 (0, 0)) ∧ wr.heap[w.heap.size + 1]? = some (.cells (bs (fillN x k)) 23 (0, 0))) (fun i _ => 16 - (intOf i).toNat)
  case atStart => exact ⟨0, by omega, rfl, HG0.out, HH.out.1, HH.out.2⟩
  case round =>
    obtain ⟨k, hk, rfl, hg, h0, h1⟩ := hrel
    have HG := Lib.hid hg
    have H0 := Lib.hid h0
    have H1 := Lib.hid h1
    clear hg h0 h1
    by_cases hlt : k < 16
    · have hc : wr.cell? ⟨w.heap.size + 1, k, none⟩ = some (.int .u8 (fillN x k k)) := by
        rw [cell_of_row _ _ k _ _ _ H1.out]; exact bs_get _ k hlt
      have hf : wr.frozen? ⟨w.heap.size + 1, k, none⟩ = false := by simp [World.frozen?, H1.out]
      generalize fillN x k k = old at hc
      go_wp2_with fail
      exact ⟨⟨k + 1, by omega, by go_num, HG.out.setCell (p := ⟨w.heap.size + 1, k, none⟩) (show w.heap.size ≤ w.heap.size + 1 by omega) _,
        ((Sep.setCell (ex := fun q => q = w.heap.size + 1) wr (p := ⟨w.heap.size + 1, k, none⟩) rfl (.int .u8 x)).block w.heap.size (by have := (Array.getElem?_eq_some_iff.1 H0.out).1; exact this) (show w.heap.size ≠ w.heap.size + 1 by omega)).trans H0.out,
        by rw [← fillN_succ]; exact bs_set_cell H1.out k hlt x⟩, by simp [intOf]; omega⟩
    · obtain rfl : k = 16 := by omega
      go_wp2_with (first
        | (refine wpList_load_row rfl 23 _ rfl (w.heap.size + 1) rfl 23 (bs (fillN x 16)) (0, 0) _ H1.out Try.underlying23 rfl infoV ?_)
        | (refine wpList_store_row rfl 23 _ _ rfl w.heap.size (bs (fillN x 16)) rfl rfl 23 (bs fun _ => 0) H0.out infoV rfl (bs_one _) ?_))
      exact bodyPost_ret (v := .agg (bs (fillN x 16))) (results_cell_row Try.results27 _ _ w.heap.size 23 _ (0, 0) _ rfl (setRow_block H0.out) Try.underlying23 rfl infoV) rfl ⟨rfl, gr_setRow HG.out (by omega) _⟩
end Ar
end Go.Proofs.Ytalnkkmbjaollaa
