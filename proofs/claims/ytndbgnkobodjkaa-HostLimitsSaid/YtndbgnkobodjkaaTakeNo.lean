/-
  Take and the reference's Take: what they refuse, and no types at all.
-/
import Derived.Test.YtndbgnkobodjkaaRTake
import Derived.Test.YtndbgnkobodjkaaVecs
namespace Go.Proofs.Ytndbgnkobodjkaa
open Go.RowKit VecM
theorem of1 (v : Int) (hv : v = 32 ∨ v = 64) (x : Int) (sv : Value) (w : World) (h : U64s w sv 1 (fun _ => x)) :
    Calls Try.prog 43 #[.int .i64 v, sv] w fun e w' => e = .returned (.agg (bs (setI (fun _ => 0) v 0 x))) ∧ Gr w w' := by
  have := of_any v sv 1 _ w h
  rcases hv with rfl | rfl
  · exact this
  · exact this
theorem of2 (x y : Int) (sv : Value) (w : World) (h : U64s w sv 2 (fun j => if j = 0 then x else y)) :
    Calls Try.prog 43 #[.int .i64 64, sv] w fun e w' => e = .returned (.agg (bs (setI (setI (fun _ => 0) 64 0 x) 64 1 y))) ∧ Gr w w' :=
  of_any 64 sv 2 _ w h
theorem u1 (w : World) (x : Int) (t : TypeId) : U64s (w.alloc (.cells #[.int .u64 x] t)) (.slice (some ⟨w.heap.size, 0, none⟩) 1 1) 1 (fun _ => x) :=
  .inr ⟨by decide, _, 0, 1, rfl, fun j hj => by
    obtain rfl : j = 0 := by omega
    exact (cell_of_row _ _ 0 _ _ _ (heap_alloc_new w _)).trans rfl⟩
theorem take_zero (a a' : Option Addr) (c c' : Nat) (w : World) :
    Calls Try.prog 36 #[.slice a 0 c, .slice a' 0 c'] w fun e w' => e = .returned (.tuple #[.slice none 0 0, .int .i64 0]) ∧ Gr w w' := by
  have HC := Lib.hid (count_zero a c w)
  go_enter Try.func36, Try.ntmps36
  go_wp2_with (go_at_call 42; refine HC.out.mono ?_; rintro e w' ⟨rfl, rfl⟩)
  refine wp_loop_rounds 1 ?_
  rw [rounds_succ]
  go_wp2
  go_ret2
  exact ⟨rfl, Gr.refl _⟩
theorem rtake_zero (a a' : Option Addr) (c c' : Nat) (w : World) :
    Calls Try.prog 32 #[.slice a 0 c, .slice a' 0 c'] w fun e w' => e = .returned (.tuple #[.slice none 0 0, .int .i64 0]) ∧ Gr w w' := by
  have HC := Lib.hid (width_zero a c w)
  go_enter Try.func32, Try.ntmps32
  go_wp2_with (go_at_call 31; refine HC.out.mono ?_; rintro e w' ⟨rfl, rfl⟩)
  refine wp_loop_rounds 1 ?_
  rw [rounds_succ]
  go_wp2
  go_ret2
  exact ⟨rfl, Gr.refl _⟩
theorem rtake_no (tv : Value) (n m : Nat) (n' : Option Addr) (hc : Nat) (ts : Nat → Int) (w : World) (hn : n ≤ 1099511627776) (ht : I64s w tv n ts) (h : ¬ (okT ts n ∧ needN ts n = m)) :
    Calls Try.prog 32 #[tv, .slice n' m hc] w fun e w' => e = .returned (.tuple #[.slice none 0 0, .int .i64 1]) ∧ Gr w w' := by
  have C := width_any tv n ts w hn ht
  have hne : (widI ts n != (m : Int)) = true := by
    rw [bne_iff_ne]
    intro e
    by_cases ho : okT ts n
    · rw [widI_yes ho, ← needN_eq] at e; exact h ⟨ho, by omega⟩
    · rw [widI_no ho] at e; omega
  generalize widI ts n = d at *
  have HC := Lib.hid C
  clear C h ht
  go_enter Try.func32, Try.ntmps32
  go_wp2_with (go_at_call 31; refine HC.out.mono ?_; rintro e w' ⟨rfl, rfl⟩)
  go_ret2
  exact ⟨rfl, Gr.refl _⟩
theorem take_no (tv : Value) (n m : Nat) (n' : Option Addr) (hc : Nat) (ts : Nat → Int) (w : World) (hn : n ≤ 1099511627776) (ht : I64s w tv n ts) (h : ¬ (okT ts n ∧ needN ts n = m)) :
    Calls Try.prog 36 #[tv, .slice n' m hc] w fun e w' => e = .returned (.tuple #[.slice none 0 0, .int .i64 1]) ∧ Gr w w' := by
  have C := count_any tv n ts w hn ht
  by_cases ho : okT ts n
  · rw [cntI_yes ho, cntB_yes ho, ← needN_eq] at C
    have hne : ((needN ts n : Int) != (m : Int)) = true := by rw [bne_iff_ne]; intro e; exact h ⟨ho, by omega⟩
    generalize needN ts n = d at *
    have HC := Lib.hid C
    clear C h ht ho
    go_enter Try.func36, Try.ntmps36
    go_wp2_with (go_at_call 42; refine HC.out.mono ?_; rintro e w' ⟨rfl, rfl⟩)
    go_ret2
    exact ⟨rfl, Gr.refl _⟩
  · rw [cntI_no ho, cntB_no ho] at C
    have HC := Lib.hid C
    clear C h ht ho
    go_enter Try.func36, Try.ntmps36
    go_wp2_with (go_at_call 42; refine HC.out.mono ?_; rintro e w' ⟨rfl, rfl⟩)
    go_ret2
    exact ⟨rfl, Gr.refl _⟩
end Go.Proofs.Ytndbgnkobodjkaa
