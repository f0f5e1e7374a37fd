/-
  Of layer 5: which opcodes are arithmetic on lanes, of which width and kind: shapes.Arith, for all numbers. No condition.
-/
import Derived.Test.YtalnkkmbjaollaaRefS2
namespace Go.Proofs.Ytalnkkmbjaollaa
open Go.RowKit VecM
namespace Ar
def hasB (w k : Int) : Bool :=
  if k = 0 ∨ k = 1 ∨ k = 11 ∨ k = 12 ∨ k = 13 ∨ k = 14 ∨ k = 17 then true else if k = 2 then w == 8
  else if k = 15 ∨ k = 16 ∨ k = 18 ∨ k = 19 ∨ k = 27 then decide (w ≤ 16) else if k = 21 then decide (16 ≤ w)
  else if k = 22 ∨ k = 23 ∨ k = 24 ∨ k = 25 then decide (w ≤ 32) else false
theorem hasB_0 (w : Int) : hasB w 0 = (true) := by simp [hasB]
theorem has_0 (w : Int) (W : World) : Calls Try.prog 47 #[.int .i64 w, .int .i64 0] W fun e w' => e = .returned (.bool (hasB w 0)) ∧ W = w' := by
  rw [hasB_0]
  go_enter Try.func47, Try.ntmps47
  go_wp2
  go_ret
  exact ⟨rfl, rfl⟩
theorem hasB_1 (w : Int) : hasB w 1 = (true) := by simp [hasB]
theorem has_1 (w : Int) (W : World) : Calls Try.prog 47 #[.int .i64 w, .int .i64 1] W fun e w' => e = .returned (.bool (hasB w 1)) ∧ W = w' := by
  rw [hasB_1]
  go_enter Try.func47, Try.ntmps47
  go_wp2
  go_ret
  exact ⟨rfl, rfl⟩
theorem hasB_2 (w : Int) : hasB w 2 = (w == 8) := by simp [hasB]
theorem has_2 (w : Int) (W : World) : Calls Try.prog 47 #[.int .i64 w, .int .i64 2] W fun e w' => e = .returned (.bool (hasB w 2)) ∧ W = w' := by
  rw [hasB_2]
  go_enter Try.func47, Try.ntmps47
  go_wp2
  go_ret
  exact ⟨rfl, rfl⟩
theorem hasB_3 (w : Int) : hasB w 3 = (false) := by simp [hasB]
theorem has_3 (w : Int) (W : World) : Calls Try.prog 47 #[.int .i64 w, .int .i64 3] W fun e w' => e = .returned (.bool (hasB w 3)) ∧ W = w' := by
  rw [hasB_3]
  go_enter Try.func47, Try.ntmps47
  go_wp2
  go_ret
  exact ⟨rfl, rfl⟩
theorem hasB_4 (w : Int) : hasB w 4 = (false) := by simp [hasB]
theorem has_4 (w : Int) (W : World) : Calls Try.prog 47 #[.int .i64 w, .int .i64 4] W fun e w' => e = .returned (.bool (hasB w 4)) ∧ W = w' := by
  rw [hasB_4]
  go_enter Try.func47, Try.ntmps47
  go_wp2
  go_ret
  exact ⟨rfl, rfl⟩
theorem hasB_5 (w : Int) : hasB w 5 = (false) := by simp [hasB]
theorem has_5 (w : Int) (W : World) : Calls Try.prog 47 #[.int .i64 w, .int .i64 5] W fun e w' => e = .returned (.bool (hasB w 5)) ∧ W = w' := by
  rw [hasB_5]
  go_enter Try.func47, Try.ntmps47
  go_wp2
  go_ret
  exact ⟨rfl, rfl⟩
theorem hasB_6 (w : Int) : hasB w 6 = (false) := by simp [hasB]
theorem has_6 (w : Int) (W : World) : Calls Try.prog 47 #[.int .i64 w, .int .i64 6] W fun e w' => e = .returned (.bool (hasB w 6)) ∧ W = w' := by
  rw [hasB_6]
  go_enter Try.func47, Try.ntmps47
  go_wp2
  go_ret
  exact ⟨rfl, rfl⟩
theorem hasB_7 (w : Int) : hasB w 7 = (false) := by simp [hasB]
theorem has_7 (w : Int) (W : World) : Calls Try.prog 47 #[.int .i64 w, .int .i64 7] W fun e w' => e = .returned (.bool (hasB w 7)) ∧ W = w' := by
  rw [hasB_7]
  go_enter Try.func47, Try.ntmps47
  go_wp2
  go_ret
  exact ⟨rfl, rfl⟩
theorem hasB_8 (w : Int) : hasB w 8 = (false) := by simp [hasB]
theorem has_8 (w : Int) (W : World) : Calls Try.prog 47 #[.int .i64 w, .int .i64 8] W fun e w' => e = .returned (.bool (hasB w 8)) ∧ W = w' := by
  rw [hasB_8]
  go_enter Try.func47, Try.ntmps47
  go_wp2
  go_ret
  exact ⟨rfl, rfl⟩
theorem hasB_9 (w : Int) : hasB w 9 = (false) := by simp [hasB]
theorem has_9 (w : Int) (W : World) : Calls Try.prog 47 #[.int .i64 w, .int .i64 9] W fun e w' => e = .returned (.bool (hasB w 9)) ∧ W = w' := by
  rw [hasB_9]
  go_enter Try.func47, Try.ntmps47
  go_wp2
  go_ret
  exact ⟨rfl, rfl⟩
theorem hasB_10 (w : Int) : hasB w 10 = (false) := by simp [hasB]
theorem has_10 (w : Int) (W : World) : Calls Try.prog 47 #[.int .i64 w, .int .i64 10] W fun e w' => e = .returned (.bool (hasB w 10)) ∧ W = w' := by
  rw [hasB_10]
  go_enter Try.func47, Try.ntmps47
  go_wp2
  go_ret
  exact ⟨rfl, rfl⟩
theorem hasB_11 (w : Int) : hasB w 11 = (true) := by simp [hasB]
theorem has_11 (w : Int) (W : World) : Calls Try.prog 47 #[.int .i64 w, .int .i64 11] W fun e w' => e = .returned (.bool (hasB w 11)) ∧ W = w' := by
  rw [hasB_11]
  go_enter Try.func47, Try.ntmps47
  go_wp2
  go_ret
  exact ⟨rfl, rfl⟩
theorem hasB_12 (w : Int) : hasB w 12 = (true) := by simp [hasB]
theorem has_12 (w : Int) (W : World) : Calls Try.prog 47 #[.int .i64 w, .int .i64 12] W fun e w' => e = .returned (.bool (hasB w 12)) ∧ W = w' := by
  rw [hasB_12]
  go_enter Try.func47, Try.ntmps47
  go_wp2
  go_ret
  exact ⟨rfl, rfl⟩
theorem hasB_13 (w : Int) : hasB w 13 = (true) := by simp [hasB]
theorem has_13 (w : Int) (W : World) : Calls Try.prog 47 #[.int .i64 w, .int .i64 13] W fun e w' => e = .returned (.bool (hasB w 13)) ∧ W = w' := by
  rw [hasB_13]
  go_enter Try.func47, Try.ntmps47
  go_wp2
  go_ret
  exact ⟨rfl, rfl⟩
theorem hasB_14 (w : Int) : hasB w 14 = (true) := by simp [hasB]
theorem has_14 (w : Int) (W : World) : Calls Try.prog 47 #[.int .i64 w, .int .i64 14] W fun e w' => e = .returned (.bool (hasB w 14)) ∧ W = w' := by
  rw [hasB_14]
  go_enter Try.func47, Try.ntmps47
  go_wp2
  go_ret
  exact ⟨rfl, rfl⟩
theorem hasB_15 (w : Int) : hasB w 15 = (decide (w ≤ 16)) := by simp [hasB]
theorem has_15 (w : Int) (W : World) : Calls Try.prog 47 #[.int .i64 w, .int .i64 15] W fun e w' => e = .returned (.bool (hasB w 15)) ∧ W = w' := by
  rw [hasB_15]
  go_enter Try.func47, Try.ntmps47
  go_wp2
  go_ret
  exact ⟨rfl, rfl⟩
theorem hasB_16 (w : Int) : hasB w 16 = (decide (w ≤ 16)) := by simp [hasB]
theorem has_16 (w : Int) (W : World) : Calls Try.prog 47 #[.int .i64 w, .int .i64 16] W fun e w' => e = .returned (.bool (hasB w 16)) ∧ W = w' := by
  rw [hasB_16]
  go_enter Try.func47, Try.ntmps47
  go_wp2
  go_ret
  exact ⟨rfl, rfl⟩
theorem hasB_17 (w : Int) : hasB w 17 = (true) := by simp [hasB]
theorem has_17 (w : Int) (W : World) : Calls Try.prog 47 #[.int .i64 w, .int .i64 17] W fun e w' => e = .returned (.bool (hasB w 17)) ∧ W = w' := by
  rw [hasB_17]
  go_enter Try.func47, Try.ntmps47
  go_wp2
  go_ret
  exact ⟨rfl, rfl⟩
theorem hasB_18 (w : Int) : hasB w 18 = (decide (w ≤ 16)) := by simp [hasB]
theorem has_18 (w : Int) (W : World) : Calls Try.prog 47 #[.int .i64 w, .int .i64 18] W fun e w' => e = .returned (.bool (hasB w 18)) ∧ W = w' := by
  rw [hasB_18]
  go_enter Try.func47, Try.ntmps47
  go_wp2
  go_ret
  exact ⟨rfl, rfl⟩
theorem hasB_19 (w : Int) : hasB w 19 = (decide (w ≤ 16)) := by simp [hasB]
theorem has_19 (w : Int) (W : World) : Calls Try.prog 47 #[.int .i64 w, .int .i64 19] W fun e w' => e = .returned (.bool (hasB w 19)) ∧ W = w' := by
  rw [hasB_19]
  go_enter Try.func47, Try.ntmps47
  go_wp2
  go_ret
  exact ⟨rfl, rfl⟩
theorem hasB_20 (w : Int) : hasB w 20 = (false) := by simp [hasB]
theorem has_20 (w : Int) (W : World) : Calls Try.prog 47 #[.int .i64 w, .int .i64 20] W fun e w' => e = .returned (.bool (hasB w 20)) ∧ W = w' := by
  rw [hasB_20]
  go_enter Try.func47, Try.ntmps47
  go_wp2
  go_ret
  exact ⟨rfl, rfl⟩
theorem hasB_21 (w : Int) : hasB w 21 = (decide (16 ≤ w)) := by simp [hasB]
theorem has_21 (w : Int) (W : World) : Calls Try.prog 47 #[.int .i64 w, .int .i64 21] W fun e w' => e = .returned (.bool (hasB w 21)) ∧ W = w' := by
  rw [hasB_21]
  go_enter Try.func47, Try.ntmps47
  go_wp2
  go_ret
  exact ⟨rfl, rfl⟩
theorem hasB_22 (w : Int) : hasB w 22 = (decide (w ≤ 32)) := by simp [hasB]
theorem has_22 (w : Int) (W : World) : Calls Try.prog 47 #[.int .i64 w, .int .i64 22] W fun e w' => e = .returned (.bool (hasB w 22)) ∧ W = w' := by
  rw [hasB_22]
  go_enter Try.func47, Try.ntmps47
  go_wp2
  go_ret
  exact ⟨rfl, rfl⟩
theorem hasB_23 (w : Int) : hasB w 23 = (decide (w ≤ 32)) := by simp [hasB]
theorem has_23 (w : Int) (W : World) : Calls Try.prog 47 #[.int .i64 w, .int .i64 23] W fun e w' => e = .returned (.bool (hasB w 23)) ∧ W = w' := by
  rw [hasB_23]
  go_enter Try.func47, Try.ntmps47
  go_wp2
  go_ret
  exact ⟨rfl, rfl⟩
theorem hasB_24 (w : Int) : hasB w 24 = (decide (w ≤ 32)) := by simp [hasB]
theorem has_24 (w : Int) (W : World) : Calls Try.prog 47 #[.int .i64 w, .int .i64 24] W fun e w' => e = .returned (.bool (hasB w 24)) ∧ W = w' := by
  rw [hasB_24]
  go_enter Try.func47, Try.ntmps47
  go_wp2
  go_ret
  exact ⟨rfl, rfl⟩
theorem hasB_25 (w : Int) : hasB w 25 = (decide (w ≤ 32)) := by simp [hasB]
theorem has_25 (w : Int) (W : World) : Calls Try.prog 47 #[.int .i64 w, .int .i64 25] W fun e w' => e = .returned (.bool (hasB w 25)) ∧ W = w' := by
  rw [hasB_25]
  go_enter Try.func47, Try.ntmps47
  go_wp2
  go_ret
  exact ⟨rfl, rfl⟩
theorem hasB_26 (w : Int) : hasB w 26 = (false) := by simp [hasB]
theorem has_26 (w : Int) (W : World) : Calls Try.prog 47 #[.int .i64 w, .int .i64 26] W fun e w' => e = .returned (.bool (hasB w 26)) ∧ W = w' := by
  rw [hasB_26]
  go_enter Try.func47, Try.ntmps47
  go_wp2
  go_ret
  exact ⟨rfl, rfl⟩
theorem hasB_27 (w : Int) : hasB w 27 = (decide (w ≤ 16)) := by simp [hasB]
theorem has_27 (w : Int) (W : World) : Calls Try.prog 47 #[.int .i64 w, .int .i64 27] W fun e w' => e = .returned (.bool (hasB w 27)) ∧ W = w' := by
  rw [hasB_27]
  go_enter Try.func47, Try.ntmps47
  go_wp2
  go_ret
  exact ⟨rfl, rfl⟩
theorem hasB_28 (w : Int) : hasB w 28 = (false) := by simp [hasB]
theorem has_28 (w : Int) (W : World) : Calls Try.prog 47 #[.int .i64 w, .int .i64 28] W fun e w' => e = .returned (.bool (hasB w 28)) ∧ W = w' := by
  rw [hasB_28]
  go_enter Try.func47, Try.ntmps47
  go_wp2
  go_ret
  exact ⟨rfl, rfl⟩
theorem hasB_29 (w : Int) : hasB w 29 = (false) := by simp [hasB]
theorem has_29 (w : Int) (W : World) : Calls Try.prog 47 #[.int .i64 w, .int .i64 29] W fun e w' => e = .returned (.bool (hasB w 29)) ∧ W = w' := by
  rw [hasB_29]
  go_enter Try.func47, Try.ntmps47
  go_wp2
  go_ret
  exact ⟨rfl, rfl⟩
theorem hasB_30 (w : Int) : hasB w 30 = (false) := by simp [hasB]
theorem has_30 (w : Int) (W : World) : Calls Try.prog 47 #[.int .i64 w, .int .i64 30] W fun e w' => e = .returned (.bool (hasB w 30)) ∧ W = w' := by
  rw [hasB_30]
  go_enter Try.func47, Try.ntmps47
  go_wp2
  go_ret
  exact ⟨rfl, rfl⟩
theorem hasB_31 (w : Int) : hasB w 31 = (false) := by simp [hasB]
theorem has_31 (w : Int) (W : World) : Calls Try.prog 47 #[.int .i64 w, .int .i64 31] W fun e w' => e = .returned (.bool (hasB w 31)) ∧ W = w' := by
  rw [hasB_31]
  go_enter Try.func47, Try.ntmps47
  go_wp2
  go_ret
  exact ⟨rfl, rfl⟩
theorem has_any (w k : Int) (h0 : 0 ≤ k) (h1 : k < 32) (W : World) : Calls Try.prog 47 #[.int .i64 w, .int .i64 k] W fun e w' => e = .returned (.bool (hasB w k)) ∧ W = w' := by
  obtain rfl | rfl | rfl | rfl | rfl | rfl | rfl | rfl | rfl | rfl | rfl | rfl | rfl | rfl | rfl | rfl | rfl | rfl | rfl | rfl | rfl | rfl | rfl | rfl | rfl | rfl | rfl | rfl | rfl | rfl | rfl | rfl : k = 0 ∨ k = 1 ∨ k = 2 ∨ k = 3 ∨ k = 4 ∨ k = 5 ∨ k = 6 ∨ k = 7 ∨ k = 8 ∨ k = 9 ∨ k = 10 ∨ k = 11 ∨ k = 12 ∨ k = 13 ∨ k = 14 ∨ k = 15 ∨ k = 16 ∨ k = 17 ∨ k = 18 ∨ k = 19 ∨ k = 20 ∨ k = 21 ∨ k = 22 ∨ k = 23 ∨ k = 24 ∨ k = 25 ∨ k = 26 ∨ k = 27 ∨ k = 28 ∨ k = 29 ∨ k = 30 ∨ k = 31 := by omega
  · exact has_0 w W
  · exact has_1 w W
  · exact has_2 w W
  · exact has_3 w W
  · exact has_4 w W
  · exact has_5 w W
  · exact has_6 w W
  · exact has_7 w W
  · exact has_8 w W
  · exact has_9 w W
  · exact has_10 w W
  · exact has_11 w W
  · exact has_12 w W
  · exact has_13 w W
  · exact has_14 w W
  · exact has_15 w W
  · exact has_16 w W
  · exact has_17 w W
  · exact has_18 w W
  · exact has_19 w W
  · exact has_20 w W
  · exact has_21 w W
  · exact has_22 w W
  · exact has_23 w W
  · exact has_24 w W
  · exact has_25 w W
  · exact has_26 w W
  · exact has_27 w W
  · exact has_28 w W
  · exact has_29 w W
  · exact has_30 w W
  · exact has_31 w W

/-- the width of a row of opcodes -/
def wq (q : Int) : Int := if q = 0 then 8 else if q = 1 then 16 else if q = 2 then 32 else 64
set_option maxHeartbeats 1000000 in
theorem arith_in (op q k : Int) (hq : q = 0 ∨ q = 1 ∨ q = 2 ∨ q = 3) (h0 : 0 ≤ k) (h1 : k < 32) (e : op = 64864 + 32 * q + k) (w : World) :
    Calls Try.prog 32 #[.int .i64 op] w fun e w' => e = .returned (.tuple #[.int .i64 (if hasB (wq q) k then wq q else 0), .int .i64 (if hasB (wq q) k then k else 0)]) ∧ w = w' := by
  have C := fun w => has_any (wq q) k h0 h1 w
  have hl : 64864 ≤ op := by rcases hq with rfl | rfl | rfl | rfl <;> omega
  have hu : op ≤ 64991 := by rcases hq with rfl | rfl | rfl | rfl <;> omega
  have e1 : (op - 64864) / 32 = q := by rcases hq with rfl | rfl | rfl | rfl <;> omega
  have e2 : (op - 64864) % 32 = k := by rcases hq with rfl | rfl | rfl | rfl <;> omega
  clear e h0 h1
  rcases hq with rfl | rfl | rfl | rfl
  · have hw : wq 0 = 8 := rfl
    rw [hw] at C ⊢
    clear hw
    generalize hasB 8 k = b at *
    have HC := Lib.hid C
    clear C
    cases b
    · go_enter Try.func32, Try.ntmps32
      go_wp2_with (go_at_call 47; refine (HC.out _).mono ?_; rintro e w' ⟨rfl, rfl⟩)
      go_ret2
      exact ⟨rfl, rfl⟩
    · go_enter Try.func32, Try.ntmps32
      go_wp2_with (go_at_call 47; refine (HC.out _).mono ?_; rintro e w' ⟨rfl, rfl⟩)
      go_ret2
      exact ⟨rfl, rfl⟩
  · have hw : wq 1 = 16 := rfl
    rw [hw] at C ⊢
    clear hw
    generalize hasB 16 k = b at *
    have HC := Lib.hid C
    clear C
    cases b
    · go_enter Try.func32, Try.ntmps32
      go_wp2_with (go_at_call 47; refine (HC.out _).mono ?_; rintro e w' ⟨rfl, rfl⟩)
      go_ret2
      exact ⟨rfl, rfl⟩
    · go_enter Try.func32, Try.ntmps32
      go_wp2_with (go_at_call 47; refine (HC.out _).mono ?_; rintro e w' ⟨rfl, rfl⟩)
      go_ret2
      exact ⟨rfl, rfl⟩
  · have hw : wq 2 = 32 := rfl
    rw [hw] at C ⊢
    clear hw
    generalize hasB 32 k = b at *
    have HC := Lib.hid C
    clear C
    cases b
    · go_enter Try.func32, Try.ntmps32
      go_wp2_with (go_at_call 47; refine (HC.out _).mono ?_; rintro e w' ⟨rfl, rfl⟩)
      go_ret2
      exact ⟨rfl, rfl⟩
    · go_enter Try.func32, Try.ntmps32
      go_wp2_with (go_at_call 47; refine (HC.out _).mono ?_; rintro e w' ⟨rfl, rfl⟩)
      go_ret2
      exact ⟨rfl, rfl⟩
  · have hw : wq 3 = 64 := rfl
    rw [hw] at C ⊢
    clear hw
    generalize hasB 64 k = b at *
    have HC := Lib.hid C
    clear C
    cases b
    · go_enter Try.func32, Try.ntmps32
      go_wp2_with (go_at_call 47; refine (HC.out _).mono ?_; rintro e w' ⟨rfl, rfl⟩)
      go_ret2
      exact ⟨rfl, rfl⟩
    · go_enter Try.func32, Try.ntmps32
      go_wp2_with (go_at_call 47; refine (HC.out _).mono ?_; rintro e w' ⟨rfl, rfl⟩)
      go_ret2
      exact ⟨rfl, rfl⟩
theorem arith_out (op : Int) (h : op < 64864 ∨ 64991 < op) (w : World) :
    Calls Try.prog 32 #[.int .i64 op] w fun e w' => e = .returned (.tuple #[.int .i64 0, .int .i64 0]) ∧ w = w' := by
  rcases h with h | h
  · go_enter Try.func32, Try.ntmps32
    go_wp2
    go_ret2
    exact ⟨rfl, rfl⟩
  · have h' : ¬ op < 64864 := by omega
    go_enter Try.func32, Try.ntmps32
    go_wp2
    go_ret2
    exact ⟨rfl, rfl⟩
/-- of an opcode: the width of its lanes and what it does; 0 and 0, if it is none -/
def inA (op : Int) : Bool := decide (64864 ≤ op) && decide (op ≤ 64991) && hasB (wq ((op - 64864) / 32)) ((op - 64864) % 32)
def aW (op : Int) : Int := if inA op then wq ((op - 64864) / 32) else 0
def aK (op : Int) : Int := if inA op then (op - 64864) % 32 else 0
theorem arith_any (op : Int) (w : World) :
    Calls Try.prog 32 #[.int .i64 op] w fun e w' => e = .returned (.tuple #[.int .i64 (aW op), .int .i64 (aK op)]) ∧ w = w' := by
  by_cases h : 64864 ≤ op ∧ op ≤ 64991
  · have C := arith_in op ((op - 64864) / 32) ((op - 64864) % 32) (by omega) (by omega) (by omega) (by omega) w
    have e : inA op = hasB (wq ((op - 64864) / 32)) ((op - 64864) % 32) := by unfold inA; simp [h.1, h.2]
    unfold aW aK
    rw [e]
    exact C
  · have e : inA op = false := by
      unfold inA
      by_cases h1 : 64864 ≤ op
      · have h2 : ¬ op ≤ 64991 := fun h2 => h ⟨h1, h2⟩
        simp [h2]
      · simp [h1]
    unfold aW aK
    rw [e]
    exact arith_out op (by omega) w
theorem aW_cases (op : Int) : aW op = 0 ∨ aW op = 8 ∨ aW op = 16 ∨ aW op = 32 ∨ aW op = 64 := by
  unfold aW wq
  repeat' split
  all_goals omega
theorem aK_bd (op : Int) : 0 ≤ aK op ∧ aK op < 32 := by unfold aK; split <;> omega
theorem width_any (op : Int) (w : World) : Calls Try.prog 21 #[.int .i64 op] w fun e w' => e = .returned (.int .i64 (aW op)) ∧ w = w' := by
  have C := fun w => arith_any op w
  have HC := Lib.hid C
  clear C
  generalize aW op = a at *
  generalize aK op = b at *
  go_enter Try.func21, Try.ntmps21
  go_wp2_with (go_at_call 32; refine (HC.out _).mono ?_; rintro e w' ⟨rfl, rfl⟩)
  go_ret
  exact ⟨rfl, rfl⟩
end Ar
end Go.Proofs.Ytalnkkmbjaollaa
