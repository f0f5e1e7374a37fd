/-
  Texts of this seat, joined: InsOf, InsFl, InsAll, TgOf, TgM. Each says what it proves.
-/
import Derived.Test.YtifjgocfdnhdeaaMr2
import Derived.Test.YtifjgocfdnhdeaaMr3
import Derived.Test.YtifjgocfdnhdeaaMr5
/- InsOf -/
namespace Go.Proofs.Ytifjgocfdnhdeaa
open Go.RowKit
namespace Ins
def cutA (s : ByteArray) : ByteArray := ⟨(Lib.cut s.data.toList [58]).1.toArray⟩
def cutB (s : ByteArray) : ByteArray := ⟨(Lib.cut s.data.toList [58]).2.1.toArray⟩
def cutP (s : ByteArray) : Bool := (Lib.cut s.data.toList [58]).2.2
end Ins
end Go.Proofs.Ytifjgocfdnhdeaa
/- InsFl -/
namespace Go.Proofs.Ytifjgocfdnhdeaa
open Go.RowKit
namespace Ins
def Flt (op : Int) : Prop := (42 ≤ op ∧ op ≤ 43) ∨ (56 ≤ op ∧ op ≤ 57) ∨ (67 ≤ op ∧ op ≤ 68) ∨ (91 ≤ op ∧ op ≤ 102) ∨ (139 ≤ op ∧ op ≤ 166) ∨ (168 ≤ op ∧ op ≤ 171) ∨ (174 ≤ op ∧ op ≤ 191) ∨ (64787 ≤ op ∧ op ≤ 64788) ∨ (64799 ≤ op ∧ op ≤ 64802) ∨ (64833 ≤ op ∧ op ≤ 64844) ∨ (64862 ≤ op ∧ op ≤ 64863) ∨ (64871 ≤ op ∧ op ≤ 64874) ∨ (64884 ≤ op ∧ op ≤ 64885) ∨ (64890 ≤ op ∧ op ≤ 64890) ∨ (64916 ≤ op ∧ op ≤ 64916) ∨ (64992 ≤ op ∧ op ≤ 65023)
instance (op : Int) : Decidable (Flt op) := by unfold Flt; infer_instance
def floatB (op : Int) : Bool := decide (Flt op)
theorem in_yes (op f n : Int) (hf : 0 ≤ f) (hf' : f ≤ 1000) (hn : 0 ≤ n) (hn' : n ≤ 1000) (h0 : f ≤ op) (h1 : op < f + n) (w : World) :
  Calls Try.prog 17 #[.int .i64 op, .int .i64 f, .int .i64 n] w fun e w' => e = .returned (.bool true) ∧ w = w' := by
 go_enter Try.func17, Try.ntmps17
 go_wp2
 go_ret
 exact ⟨rfl, rfl⟩
theorem in_no (op f n : Int) (hf : 0 ≤ f) (hf' : f ≤ 1000) (hn : 0 ≤ n) (hn' : n ≤ 1000) (h : op < f ∨ f + n ≤ op) (w : World) :
  Calls Try.prog 17 #[.int .i64 op, .int .i64 f, .int .i64 n] w fun e w' => e = .returned (.bool false) ∧ w = w' := by
 by_cases h0 : f ≤ op
 ·have h1 : decide (op < f + n) = false := decide_eq_false (by omega)
  clear h
  go_enter Try.func17, Try.ntmps17
  go_wp2
  go_ret
  exact ⟨rfl, rfl⟩
 ·clear h
  go_enter Try.func17, Try.ntmps17
  go_wp2
  go_ret
  exact ⟨rfl, rfl⟩
def arI (op : Int) : Int := if op = 69 ∨ op = 80 ∨ op = 103 ∨ op = 104 ∨ op = 105 ∨ op = 121 ∨ op = 122 ∨ op = 123 ∨ op = 167 ∨ op = 172 ∨ op = 173 ∨ op = 192 ∨ op = 193 ∨ op = 194 ∨ op = 195 ∨ op = 196 then 1 else if (70 ≤ op ∧ op ≤ 79) ∨ (81 ≤ op ∧ op ≤ 90) ∨ (106 ≤ op ∧ op ≤ 120) ∨ (124 ≤ op ∧ op ≤ 138) then 2 else 0
theorem ar_0 (op : Int) (h1 : op ≤ 68) (w : World) : Calls Try.prog 8 #[.int .i64 op] w fun e w' => e = .returned (.int .i64 0) ∧ w = w' := by
 go_enter Try.func8, Try.ntmps8
 go_wp2_with (go_at_call 17; first | ((with_reducible refine (in_yes _ _ _ (by omega) (by omega) (by omega) (by omega) (by omega) (by omega) _).mono ?_); rintro e w' ⟨rfl, rfl⟩) | ((with_reducible refine (in_no _ _ _ (by omega) (by omega) (by omega) (by omega) (by omega) _).mono ?_); rintro e w' ⟨rfl, rfl⟩))
 go_ret
 exact ⟨rfl, rfl⟩
theorem ar_1 (w : World) : Calls Try.prog 8 #[.int .i64 69] w fun e w' => e = .returned (.int .i64 1) ∧ w = w' := by
 go_enter Try.func8, Try.ntmps8
 go_wp2_with (go_at_call 17; first | ((with_reducible refine (in_yes _ _ _ (by omega) (by omega) (by omega) (by omega) (by omega) (by omega) _).mono ?_); rintro e w' ⟨rfl, rfl⟩) | ((with_reducible refine (in_no _ _ _ (by omega) (by omega) (by omega) (by omega) (by omega) _).mono ?_); rintro e w' ⟨rfl, rfl⟩))
 go_ret
 exact ⟨rfl, rfl⟩
theorem ar_2 (op : Int) (h0 : 70 ≤ op) (h1 : op ≤ 79) (w : World) : Calls Try.prog 8 #[.int .i64 op] w fun e w' => e = .returned (.int .i64 2) ∧ w = w' := by
 go_enter Try.func8, Try.ntmps8
 go_wp2_with (go_at_call 17; first | ((with_reducible refine (in_yes _ _ _ (by omega) (by omega) (by omega) (by omega) (by omega) (by omega) _).mono ?_); rintro e w' ⟨rfl, rfl⟩) | ((with_reducible refine (in_no _ _ _ (by omega) (by omega) (by omega) (by omega) (by omega) _).mono ?_); rintro e w' ⟨rfl, rfl⟩))
 go_ret
 exact ⟨rfl, rfl⟩
theorem ar_3 (w : World) : Calls Try.prog 8 #[.int .i64 80] w fun e w' => e = .returned (.int .i64 1) ∧ w = w' := by
 go_enter Try.func8, Try.ntmps8
 go_wp2_with (go_at_call 17; first | ((with_reducible refine (in_yes _ _ _ (by omega) (by omega) (by omega) (by omega) (by omega) (by omega) _).mono ?_); rintro e w' ⟨rfl, rfl⟩) | ((with_reducible refine (in_no _ _ _ (by omega) (by omega) (by omega) (by omega) (by omega) _).mono ?_); rintro e w' ⟨rfl, rfl⟩))
 go_ret
 exact ⟨rfl, rfl⟩
theorem ar_4 (op : Int) (h0 : 81 ≤ op) (h1 : op ≤ 90) (w : World) : Calls Try.prog 8 #[.int .i64 op] w fun e w' => e = .returned (.int .i64 2) ∧ w = w' := by
 go_enter Try.func8, Try.ntmps8
 go_wp2_with (go_at_call 17; first | ((with_reducible refine (in_yes _ _ _ (by omega) (by omega) (by omega) (by omega) (by omega) (by omega) _).mono ?_); rintro e w' ⟨rfl, rfl⟩) | ((with_reducible refine (in_no _ _ _ (by omega) (by omega) (by omega) (by omega) (by omega) _).mono ?_); rintro e w' ⟨rfl, rfl⟩))
 go_ret
 exact ⟨rfl, rfl⟩
theorem ar_5 (op : Int) (h0 : 91 ≤ op) (h1 : op ≤ 102) (w : World) : Calls Try.prog 8 #[.int .i64 op] w fun e w' => e = .returned (.int .i64 0) ∧ w = w' := by
 go_enter Try.func8, Try.ntmps8
 go_wp2_with (go_at_call 17; first | ((with_reducible refine (in_yes _ _ _ (by omega) (by omega) (by omega) (by omega) (by omega) (by omega) _).mono ?_); rintro e w' ⟨rfl, rfl⟩) | ((with_reducible refine (in_no _ _ _ (by omega) (by omega) (by omega) (by omega) (by omega) _).mono ?_); rintro e w' ⟨rfl, rfl⟩))
 go_ret
 exact ⟨rfl, rfl⟩
theorem ar_6 (w : World) : Calls Try.prog 8 #[.int .i64 103] w fun e w' => e = .returned (.int .i64 1) ∧ w = w' := by
 go_enter Try.func8, Try.ntmps8
 go_wp2_with (go_at_call 17; first | ((with_reducible refine (in_yes _ _ _ (by omega) (by omega) (by omega) (by omega) (by omega) (by omega) _).mono ?_); rintro e w' ⟨rfl, rfl⟩) | ((with_reducible refine (in_no _ _ _ (by omega) (by omega) (by omega) (by omega) (by omega) _).mono ?_); rintro e w' ⟨rfl, rfl⟩))
 go_ret
 exact ⟨rfl, rfl⟩
theorem ar_7 (w : World) : Calls Try.prog 8 #[.int .i64 104] w fun e w' => e = .returned (.int .i64 1) ∧ w = w' := by
 go_enter Try.func8, Try.ntmps8
 go_wp2_with (go_at_call 17; first | ((with_reducible refine (in_yes _ _ _ (by omega) (by omega) (by omega) (by omega) (by omega) (by omega) _).mono ?_); rintro e w' ⟨rfl, rfl⟩) | ((with_reducible refine (in_no _ _ _ (by omega) (by omega) (by omega) (by omega) (by omega) _).mono ?_); rintro e w' ⟨rfl, rfl⟩))
 go_ret
 exact ⟨rfl, rfl⟩
theorem ar_8 (w : World) : Calls Try.prog 8 #[.int .i64 105] w fun e w' => e = .returned (.int .i64 1) ∧ w = w' := by
 go_enter Try.func8, Try.ntmps8
 go_wp2_with (go_at_call 17; first | ((with_reducible refine (in_yes _ _ _ (by omega) (by omega) (by omega) (by omega) (by omega) (by omega) _).mono ?_); rintro e w' ⟨rfl, rfl⟩) | ((with_reducible refine (in_no _ _ _ (by omega) (by omega) (by omega) (by omega) (by omega) _).mono ?_); rintro e w' ⟨rfl, rfl⟩))
 go_ret
 exact ⟨rfl, rfl⟩
theorem ar_9 (op : Int) (h0 : 106 ≤ op) (h1 : op ≤ 120) (w : World) : Calls Try.prog 8 #[.int .i64 op] w fun e w' => e = .returned (.int .i64 2) ∧ w = w' := by
 go_enter Try.func8, Try.ntmps8
 go_wp2_with (go_at_call 17; first | ((with_reducible refine (in_yes _ _ _ (by omega) (by omega) (by omega) (by omega) (by omega) (by omega) _).mono ?_); rintro e w' ⟨rfl, rfl⟩) | ((with_reducible refine (in_no _ _ _ (by omega) (by omega) (by omega) (by omega) (by omega) _).mono ?_); rintro e w' ⟨rfl, rfl⟩))
 go_ret
 exact ⟨rfl, rfl⟩
theorem ar_10 (w : World) : Calls Try.prog 8 #[.int .i64 121] w fun e w' => e = .returned (.int .i64 1) ∧ w = w' := by
 go_enter Try.func8, Try.ntmps8
 go_wp2_with (go_at_call 17; first | ((with_reducible refine (in_yes _ _ _ (by omega) (by omega) (by omega) (by omega) (by omega) (by omega) _).mono ?_); rintro e w' ⟨rfl, rfl⟩) | ((with_reducible refine (in_no _ _ _ (by omega) (by omega) (by omega) (by omega) (by omega) _).mono ?_); rintro e w' ⟨rfl, rfl⟩))
 go_ret
 exact ⟨rfl, rfl⟩
theorem ar_11 (w : World) : Calls Try.prog 8 #[.int .i64 122] w fun e w' => e = .returned (.int .i64 1) ∧ w = w' := by
 go_enter Try.func8, Try.ntmps8
 go_wp2_with (go_at_call 17; first | ((with_reducible refine (in_yes _ _ _ (by omega) (by omega) (by omega) (by omega) (by omega) (by omega) _).mono ?_); rintro e w' ⟨rfl, rfl⟩) | ((with_reducible refine (in_no _ _ _ (by omega) (by omega) (by omega) (by omega) (by omega) _).mono ?_); rintro e w' ⟨rfl, rfl⟩))
 go_ret
 exact ⟨rfl, rfl⟩
theorem ar_12 (w : World) : Calls Try.prog 8 #[.int .i64 123] w fun e w' => e = .returned (.int .i64 1) ∧ w = w' := by
 go_enter Try.func8, Try.ntmps8
 go_wp2_with (go_at_call 17; first | ((with_reducible refine (in_yes _ _ _ (by omega) (by omega) (by omega) (by omega) (by omega) (by omega) _).mono ?_); rintro e w' ⟨rfl, rfl⟩) | ((with_reducible refine (in_no _ _ _ (by omega) (by omega) (by omega) (by omega) (by omega) _).mono ?_); rintro e w' ⟨rfl, rfl⟩))
 go_ret
 exact ⟨rfl, rfl⟩
theorem ar_13 (op : Int) (h0 : 124 ≤ op) (h1 : op ≤ 138) (w : World) : Calls Try.prog 8 #[.int .i64 op] w fun e w' => e = .returned (.int .i64 2) ∧ w = w' := by
 go_enter Try.func8, Try.ntmps8
 go_wp2_with (go_at_call 17; first | ((with_reducible refine (in_yes _ _ _ (by omega) (by omega) (by omega) (by omega) (by omega) (by omega) _).mono ?_); rintro e w' ⟨rfl, rfl⟩) | ((with_reducible refine (in_no _ _ _ (by omega) (by omega) (by omega) (by omega) (by omega) _).mono ?_); rintro e w' ⟨rfl, rfl⟩))
 go_ret
 exact ⟨rfl, rfl⟩
theorem ar_14 (op : Int) (h0 : 139 ≤ op) (h1 : op ≤ 166) (w : World) : Calls Try.prog 8 #[.int .i64 op] w fun e w' => e = .returned (.int .i64 0) ∧ w = w' := by
 go_enter Try.func8, Try.ntmps8
 go_wp2_with (go_at_call 17; first | ((with_reducible refine (in_yes _ _ _ (by omega) (by omega) (by omega) (by omega) (by omega) (by omega) _).mono ?_); rintro e w' ⟨rfl, rfl⟩) | ((with_reducible refine (in_no _ _ _ (by omega) (by omega) (by omega) (by omega) (by omega) _).mono ?_); rintro e w' ⟨rfl, rfl⟩))
 go_ret
 exact ⟨rfl, rfl⟩
theorem ar_15 (w : World) : Calls Try.prog 8 #[.int .i64 167] w fun e w' => e = .returned (.int .i64 1) ∧ w = w' := by
 go_enter Try.func8, Try.ntmps8
 go_wp2_with (go_at_call 17; first | ((with_reducible refine (in_yes _ _ _ (by omega) (by omega) (by omega) (by omega) (by omega) (by omega) _).mono ?_); rintro e w' ⟨rfl, rfl⟩) | ((with_reducible refine (in_no _ _ _ (by omega) (by omega) (by omega) (by omega) (by omega) _).mono ?_); rintro e w' ⟨rfl, rfl⟩))
 go_ret
 exact ⟨rfl, rfl⟩
theorem ar_16 (op : Int) (h0 : 168 ≤ op) (h1 : op ≤ 171) (w : World) : Calls Try.prog 8 #[.int .i64 op] w fun e w' => e = .returned (.int .i64 0) ∧ w = w' := by
 go_enter Try.func8, Try.ntmps8
 go_wp2_with (go_at_call 17; first | ((with_reducible refine (in_yes _ _ _ (by omega) (by omega) (by omega) (by omega) (by omega) (by omega) _).mono ?_); rintro e w' ⟨rfl, rfl⟩) | ((with_reducible refine (in_no _ _ _ (by omega) (by omega) (by omega) (by omega) (by omega) _).mono ?_); rintro e w' ⟨rfl, rfl⟩))
 go_ret
 exact ⟨rfl, rfl⟩
theorem ar_17 (w : World) : Calls Try.prog 8 #[.int .i64 172] w fun e w' => e = .returned (.int .i64 1) ∧ w = w' := by
 go_enter Try.func8, Try.ntmps8
 go_wp2_with (go_at_call 17; first | ((with_reducible refine (in_yes _ _ _ (by omega) (by omega) (by omega) (by omega) (by omega) (by omega) _).mono ?_); rintro e w' ⟨rfl, rfl⟩) | ((with_reducible refine (in_no _ _ _ (by omega) (by omega) (by omega) (by omega) (by omega) _).mono ?_); rintro e w' ⟨rfl, rfl⟩))
 go_ret
 exact ⟨rfl, rfl⟩
theorem ar_18 (w : World) : Calls Try.prog 8 #[.int .i64 173] w fun e w' => e = .returned (.int .i64 1) ∧ w = w' := by
 go_enter Try.func8, Try.ntmps8
 go_wp2_with (go_at_call 17; first | ((with_reducible refine (in_yes _ _ _ (by omega) (by omega) (by omega) (by omega) (by omega) (by omega) _).mono ?_); rintro e w' ⟨rfl, rfl⟩) | ((with_reducible refine (in_no _ _ _ (by omega) (by omega) (by omega) (by omega) (by omega) _).mono ?_); rintro e w' ⟨rfl, rfl⟩))
 go_ret
 exact ⟨rfl, rfl⟩
theorem ar_19 (op : Int) (h0 : 174 ≤ op) (h1 : op ≤ 191) (w : World) : Calls Try.prog 8 #[.int .i64 op] w fun e w' => e = .returned (.int .i64 0) ∧ w = w' := by
 go_enter Try.func8, Try.ntmps8
 go_wp2_with (go_at_call 17; first | ((with_reducible refine (in_yes _ _ _ (by omega) (by omega) (by omega) (by omega) (by omega) (by omega) _).mono ?_); rintro e w' ⟨rfl, rfl⟩) | ((with_reducible refine (in_no _ _ _ (by omega) (by omega) (by omega) (by omega) (by omega) _).mono ?_); rintro e w' ⟨rfl, rfl⟩))
 go_ret
 exact ⟨rfl, rfl⟩
theorem ar_20 (w : World) : Calls Try.prog 8 #[.int .i64 192] w fun e w' => e = .returned (.int .i64 1) ∧ w = w' := by
 go_enter Try.func8, Try.ntmps8
 go_wp2_with (go_at_call 17; first | ((with_reducible refine (in_yes _ _ _ (by omega) (by omega) (by omega) (by omega) (by omega) (by omega) _).mono ?_); rintro e w' ⟨rfl, rfl⟩) | ((with_reducible refine (in_no _ _ _ (by omega) (by omega) (by omega) (by omega) (by omega) _).mono ?_); rintro e w' ⟨rfl, rfl⟩))
 go_ret
 exact ⟨rfl, rfl⟩
theorem ar_21 (w : World) : Calls Try.prog 8 #[.int .i64 193] w fun e w' => e = .returned (.int .i64 1) ∧ w = w' := by
 go_enter Try.func8, Try.ntmps8
 go_wp2_with (go_at_call 17; first | ((with_reducible refine (in_yes _ _ _ (by omega) (by omega) (by omega) (by omega) (by omega) (by omega) _).mono ?_); rintro e w' ⟨rfl, rfl⟩) | ((with_reducible refine (in_no _ _ _ (by omega) (by omega) (by omega) (by omega) (by omega) _).mono ?_); rintro e w' ⟨rfl, rfl⟩))
 go_ret
 exact ⟨rfl, rfl⟩
theorem ar_22 (w : World) : Calls Try.prog 8 #[.int .i64 194] w fun e w' => e = .returned (.int .i64 1) ∧ w = w' := by
 go_enter Try.func8, Try.ntmps8
 go_wp2_with (go_at_call 17; first | ((with_reducible refine (in_yes _ _ _ (by omega) (by omega) (by omega) (by omega) (by omega) (by omega) _).mono ?_); rintro e w' ⟨rfl, rfl⟩) | ((with_reducible refine (in_no _ _ _ (by omega) (by omega) (by omega) (by omega) (by omega) _).mono ?_); rintro e w' ⟨rfl, rfl⟩))
 go_ret
 exact ⟨rfl, rfl⟩
theorem ar_23 (w : World) : Calls Try.prog 8 #[.int .i64 195] w fun e w' => e = .returned (.int .i64 1) ∧ w = w' := by
 go_enter Try.func8, Try.ntmps8
 go_wp2_with (go_at_call 17; first | ((with_reducible refine (in_yes _ _ _ (by omega) (by omega) (by omega) (by omega) (by omega) (by omega) _).mono ?_); rintro e w' ⟨rfl, rfl⟩) | ((with_reducible refine (in_no _ _ _ (by omega) (by omega) (by omega) (by omega) (by omega) _).mono ?_); rintro e w' ⟨rfl, rfl⟩))
 go_ret
 exact ⟨rfl, rfl⟩
theorem ar_24 (w : World) : Calls Try.prog 8 #[.int .i64 196] w fun e w' => e = .returned (.int .i64 1) ∧ w = w' := by
 go_enter Try.func8, Try.ntmps8
 go_wp2_with (go_at_call 17; first | ((with_reducible refine (in_yes _ _ _ (by omega) (by omega) (by omega) (by omega) (by omega) (by omega) _).mono ?_); rintro e w' ⟨rfl, rfl⟩) | ((with_reducible refine (in_no _ _ _ (by omega) (by omega) (by omega) (by omega) (by omega) _).mono ?_); rintro e w' ⟨rfl, rfl⟩))
 go_ret
 exact ⟨rfl, rfl⟩
theorem ar_25 (op : Int) (h0 : 197 ≤ op) (h1 : op ≤ 9223372036854775807) (w : World) : Calls Try.prog 8 #[.int .i64 op] w fun e w' => e = .returned (.int .i64 0) ∧ w = w' := by
 go_enter Try.func8, Try.ntmps8
 go_wp2_with (go_at_call 17; first | ((with_reducible refine (in_yes _ _ _ (by omega) (by omega) (by omega) (by omega) (by omega) (by omega) _).mono ?_); rintro e w' ⟨rfl, rfl⟩) | ((with_reducible refine (in_no _ _ _ (by omega) (by omega) (by omega) (by omega) (by omega) _).mono ?_); rintro e w' ⟨rfl, rfl⟩))
 go_ret
 exact ⟨rfl, rfl⟩
theorem arity_of (op r : Int) (h : arI op = r) (w : World) (C : Calls Try.prog 8 #[.int .i64 op] w fun e w' => e = .returned (.int .i64 r) ∧ w = w') : Calls Try.prog 8 #[.int .i64 op] w fun e w' => e = .returned (.int .i64 (arI op)) ∧ w = w' := by rw [h]; exact C
set_option maxHeartbeats 4000000 in
theorem arity_any (op : Int) (hop : op ≤ 9223372036854775807) (w : World) : Calls Try.prog 8 #[.int .i64 op] w fun e w' => e = .returned (.int .i64 (arI op)) ∧ w = w' := by
 by_cases h0_26 : op < 124
 ·by_cases h0_13 : op < 103
  ·by_cases h0_6 : op < 80
   ·by_cases h0_3 : op < 69
    ·exact arity_of _ 0 (by unfold arI; rw [if_neg (by omega), if_neg (by omega)]) w (ar_0 op (by omega) w)
    ·by_cases h1_3 : op < 70
     ·obtain rfl : op = 69 := by omega
      exact arity_of _ 1 (by decide) w (ar_1 w)
     ·exact arity_of _ 2 (by unfold arI; rw [if_neg (by omega), if_pos (by omega)]) w (ar_2 op (by omega) (by omega) w)
   ·by_cases h3_6 : op < 81
    ·obtain rfl : op = 80 := by omega
     exact arity_of _ 1 (by decide) w (ar_3 w)
    ·by_cases h4_6 : op < 91
     ·exact arity_of _ 2 (by unfold arI; rw [if_neg (by omega), if_pos (by omega)]) w (ar_4 op (by omega) (by omega) w)
     ·exact arity_of _ 0 (by unfold arI; rw [if_neg (by omega), if_neg (by omega)]) w (ar_5 op (by omega) (by omega) w)
  ·by_cases h6_13 : op < 106
   ·by_cases h6_9 : op < 104
    ·obtain rfl : op = 103 := by omega
     exact arity_of _ 1 (by decide) w (ar_6 w)
    ·by_cases h7_9 : op < 105
     ·obtain rfl : op = 104 := by omega
      exact arity_of _ 1 (by decide) w (ar_7 w)
     ·obtain rfl : op = 105 := by omega
      exact arity_of _ 1 (by decide) w (ar_8 w)
   ·by_cases h9_13 : op < 122
    ·by_cases h9_11 : op < 121
     ·exact arity_of _ 2 (by unfold arI; rw [if_neg (by omega), if_pos (by omega)]) w (ar_9 op (by omega) (by omega) w)
     ·obtain rfl : op = 121 := by omega
      exact arity_of _ 1 (by decide) w (ar_10 w)
    ·by_cases h11_13 : op < 123
     ·obtain rfl : op = 122 := by omega
      exact arity_of _ 1 (by decide) w (ar_11 w)
     ·obtain rfl : op = 123 := by omega
      exact arity_of _ 1 (by decide) w (ar_12 w)
 ·by_cases h13_26 : op < 174
  ·by_cases h13_19 : op < 168
   ·by_cases h13_16 : op < 139
    ·exact arity_of _ 2 (by unfold arI; rw [if_neg (by omega), if_pos (by omega)]) w (ar_13 op (by omega) (by omega) w)
    ·by_cases h14_16 : op < 167
     ·exact arity_of _ 0 (by unfold arI; rw [if_neg (by omega), if_neg (by omega)]) w (ar_14 op (by omega) (by omega) w)
     ·obtain rfl : op = 167 := by omega
      exact arity_of _ 1 (by decide) w (ar_15 w)
   ·by_cases h16_19 : op < 172
    ·exact arity_of _ 0 (by unfold arI; rw [if_neg (by omega), if_neg (by omega)]) w (ar_16 op (by omega) (by omega) w)
    ·by_cases h17_19 : op < 173
     ·obtain rfl : op = 172 := by omega
      exact arity_of _ 1 (by decide) w (ar_17 w)
     ·obtain rfl : op = 173 := by omega
      exact arity_of _ 1 (by decide) w (ar_18 w)
  ·by_cases h19_26 : op < 194
   ·by_cases h19_22 : op < 192
    ·exact arity_of _ 0 (by unfold arI; rw [if_neg (by omega), if_neg (by omega)]) w (ar_19 op (by omega) (by omega) w)
    ·by_cases h20_22 : op < 193
     ·obtain rfl : op = 192 := by omega
      exact arity_of _ 1 (by decide) w (ar_20 w)
     ·obtain rfl : op = 193 := by omega
      exact arity_of _ 1 (by decide) w (ar_21 w)
   ·by_cases h22_26 : op < 196
    ·by_cases h22_24 : op < 195
     ·obtain rfl : op = 194 := by omega
      exact arity_of _ 1 (by decide) w (ar_22 w)
     ·obtain rfl : op = 195 := by omega
      exact arity_of _ 1 (by decide) w (ar_23 w)
    ·by_cases h24_26 : op < 197
     ·obtain rfl : op = 196 := by omega
      exact arity_of _ 1 (by decide) w (ar_24 w)
     ·exact arity_of _ 0 (by unfold arI; rw [if_neg (by omega), if_neg (by omega)]) w (ar_25 op (by omega) (by omega) w)
end Ins
end Go.Proofs.Ytifjgocfdnhdeaa
/- InsAll -/
namespace Go.Proofs.Ytifjgocfdnhdeaa
open Go.RowKit
namespace Ins
def lets (s : ByteArray) : List Int := s.data.toList.map code
def apartB (f l : Int) (s : ByteArray) : Bool :=
 decide (1 ≤ f) && decide (f ≤ 14) && decide ((cutA s).size ≤ 3) && decide ((cutB s).size ≤ 1) && (cutP s || decide ((cutA s).size + (cutB s).size = 0)) &&
 (if f = 7 ∨ f = 8 then cutP s && decide (0 ≤ l) && decide (l ≤ 4) && decide (1 ≤ (cutA s).size) && decide ((lets (cutA s))[0]? = some 127)
  else if f = 13 then cutP s && decide ((lets (cutA s))[0]? = some 123) && decide (1 ≤ (cutA s).size) && (decide (l = 16) || decide (l = 8) || decide (l = 4) || decide (l = 2)) else decide (l = 0))
def numB (low : Bool) (f n : Int) (s : ByteArray) : Bool :=
 if (cutP s && low && decide (f = 1) && decide (0 < (cutA s).size)) then decide (0 < n) && decide (((cutA s).size : Int) = n) && decide ((cutB s).size = 1) else decide (n = 0)
structure Good (op f l : Int) (s : ByteArray) : Prop where
 fit : s.size < 1000 ∧ (cutA s).size ≤ 1000 ∧ (cutB s).size ≤ 1000
 apart : apartB f l s = true
 num : numB (decide (op < 197)) f (arI op) s = true
 float : floatB op = false
theorem g1 : ((⟨#[58]⟩ : ByteArray).size < 1000 ∧ (cutA ⟨#[58]⟩).size ≤ 1000 ∧ (cutB ⟨#[58]⟩).size ≤ 1000) ∧ apartB 1 0 ⟨#[58]⟩ = true := ⟨by decide +kernel, by decide +kernel⟩
theorem g2 : ((⟨#[]⟩ : ByteArray).size < 1000 ∧ (cutA ⟨#[]⟩).size ≤ 1000 ∧ (cutB ⟨#[]⟩).size ≤ 1000) ∧ apartB 2 0 ⟨#[]⟩ = true := ⟨by decide +kernel, by decide +kernel⟩
theorem g3 : ((⟨#[]⟩ : ByteArray).size < 1000 ∧ (cutA ⟨#[]⟩).size ≤ 1000 ∧ (cutB ⟨#[]⟩).size ≤ 1000) ∧ apartB 3 0 ⟨#[]⟩ = true := ⟨by decide +kernel, by decide +kernel⟩
theorem g4 : ((⟨#[]⟩ : ByteArray).size < 1000 ∧ (cutA ⟨#[]⟩).size ≤ 1000 ∧ (cutB ⟨#[]⟩).size ≤ 1000) ∧ apartB 4 0 ⟨#[]⟩ = true := ⟨by decide +kernel, by decide +kernel⟩
theorem g5 : ((⟨#[]⟩ : ByteArray).size < 1000 ∧ (cutA ⟨#[]⟩).size ≤ 1000 ∧ (cutB ⟨#[]⟩).size ≤ 1000) ∧ apartB 5 0 ⟨#[]⟩ = true := ⟨by decide +kernel, by decide +kernel⟩
theorem g7 : ((⟨#[105, 58, 105]⟩ : ByteArray).size < 1000 ∧ (cutA ⟨#[105, 58, 105]⟩).size ≤ 1000 ∧ (cutB ⟨#[105, 58, 105]⟩).size ≤ 1000) ∧ apartB 7 2 ⟨#[105, 58, 105]⟩ = true := ⟨by decide +kernel, by decide +kernel⟩
end Ins
end Go.Proofs.Ytifjgocfdnhdeaa
/- TgOf -/
namespace Go.Proofs.Ytifjgocfdnhdeaa
open Go.RowKit
namespace Tg
open Ins
def MemP (op : Int) : Prop := 40 ≤ op ∧ op ≤ 64 ∧ ¬ (42 ≤ op ∧ op ≤ 43) ∧ ¬ (56 ≤ op ∧ op ≤ 57)
structure Fit (op f : Int) (s : ByteArray) : Prop where
 fit : s.size < 1000 ∧ (cutA s).size ≤ 1000 ∧ (cutB s).size ≤ 1000
 mem : (op < 64768 ∧ (f = 7 ∨ f = 14)) ↔ MemP op
end Tg
end Go.Proofs.Ytifjgocfdnhdeaa
/- TgM -/
namespace Go.Proofs.Ytifjgocfdnhdeaa
open Go.RowKit
namespace Tg
open Ins
structure Ce where
 op : Int
 a : Int
 n : Int
structure Fu where
 host : Int
 sig : Int
 inn : Int
 out : Int
 loc : Int
 cs : List Ce
structure Si where
 i : List Int
 o : List Int
structure FuV where
 f : Fu
 cv : Value
 mv : Value
structure SiV where
 s : Si
 iv : Value
 ov : Value
structure Pr where
 ss : List SiV
 fs : List FuV
def ceA (c : Ce) : Array Value := #[.int .i64 c.op, .int .i64 c.a, .int .u64 c.n]
def fuA (f : FuV) : Array Value := #[.int .i64 f.f.host, .int .i64 f.f.sig, .int .i64 f.f.inn, .int .i64 f.f.out, .int .i64 f.f.loc, f.cv, f.mv]
def siA (s : SiV) : Array Value := #[s.iv, s.ov]
def ivs (l : List Int) : List Value := l.map (Value.int .i64)
def flat {α : Type} (g : α → Array Value) : List α → List Value
 | [] => []
 | x :: r => (g x).toList ++ flat g r
theorem flat_at {α : Type} (g : α → Array Value) (z : Nat) (hz : ∀ x, (g x).size = z) : ∀ (l : List α) (i : Nat) (x : α) (j : Nat), l[i]? = some x → j < z → (flat g l)[i * z + j]? = (g x)[j]?
 | [], _, _, _, h, _ => by cases h
 | q :: r, 0, x, j, h, hj => by
  obtain rfl : q = x := Option.some.inj h
  show ((g q).toList ++ flat g r)[0 * z + j]? = _
  rw [Nat.zero_mul, Nat.zero_add, List.getElem?_append_left (by rw [Array.length_toList, hz]; exact hj), Array.getElem?_toList]
 | q :: r, i + 1, x, j, h, hj => by
  show ((g q).toList ++ flat g r)[(i + 1) * z + j]? = _
  rw [List.getElem?_append_right (by rw [Array.length_toList, hz, Nat.add_mul]; omega), Array.length_toList, hz, show (i + 1) * z + j - z = i * z + j by rw [Nat.add_mul]; omega]
  exact flat_at g z hz r i x j h hj
def RwR (w : World) (v : Value) (n : Nat) (xs : List Value) : Prop :=
 ∃ x c, v = .slice x n c ∧ ∀ j u, xs[j]? = some u → ∃ b off, x = some ⟨b, off, none⟩ ∧ w.cell? ⟨b, off + j, none⟩ = some u
theorem rwR_gr {w w' : World} {v : Value} {n : Nat} {xs : List Value} (h : RwR w v n xs) (hg : Gr w w') : RwR w' v n xs := by
 obtain ⟨x, c, rfl, h⟩ := h
 exact ⟨x, c, rfl, fun j u hu => by obtain ⟨b, off, e, hc⟩ := h j u hu; exact ⟨b, off, e, gr_cell hg hc⟩⟩
def Bd (x : Int) : Prop := -9223372036854775808 ≤ x ∧ x ≤ 9223372036854775807
structure CeB (c : Ce) : Prop where
 op : Bd c.op
 a : Bd c.a
 n : 0 ≤ c.n ∧ c.n ≤ 18446744073709551615
structure FuR (w : World) (f : FuV) : Prop where
 cs : RwR w f.cv f.f.cs.length (flat ceA f.f.cs)
 mv : ∃ x n c, f.mv = .slice x n c
 len : f.f.cs.length ≤ 1099511627776
 host : Bd f.f.host
 sig : Bd f.f.sig
 inn : Bd f.f.inn
 out : Bd f.f.out
 loc : Bd f.f.loc
 ces : ∀ c ∈ f.f.cs, CeB c
structure SiR (w : World) (s : SiV) : Prop where
 iv : RwR w s.iv s.s.i.length (ivs s.s.i)
 ov : RwR w s.ov s.s.o.length (ivs s.s.o)
 li : s.s.i.length ≤ 1099511627776
 lo : s.s.o.length ≤ 1099511627776
structure PrR (w : World) (sv fv : Value) (P : Pr) : Prop where
 ss : RwR w sv P.ss.length (flat siA P.ss)
 fs : RwR w fv P.fs.length (flat fuA P.fs)
 sis : ∀ s ∈ P.ss, SiR w s
 fus : ∀ f ∈ P.fs, FuR w f
 ls : P.ss.length ≤ 1099511627776
 lf : P.fs.length ≤ 1099511627776
theorem fuR_gr {w w' : World} {f : FuV} (h : FuR w f) (hg : Gr w w') : FuR w' f := ⟨rwR_gr h.cs hg, h.mv, h.len, h.host, h.sig, h.inn, h.out, h.loc, h.ces⟩
theorem siR_gr {w w' : World} {s : SiV} (h : SiR w s) (hg : Gr w w') : SiR w' s := ⟨rwR_gr h.iv hg, rwR_gr h.ov hg, h.li, h.lo⟩
theorem prR_gr {w w' : World} {sv fv : Value} {P : Pr} (h : PrR w sv fv P) (hg : Gr w w') : PrR w' sv fv P := ⟨rwR_gr h.ss hg, rwR_gr h.fs hg, fun s hs => siR_gr (h.sis s hs) hg, fun f hf => fuR_gr (h.fus f hf) hg, h.ls, h.lf⟩
theorem rwR_at {α : Type} {g : α → Array Value} {z : Nat} (hz : ∀ x, (g x).size = z) {w : World} {x : Option Addr} {n c : Nat} {l : List α} (h : RwR w (.slice x n c) n (flat g l)) {i : Nat} {e : α} (hi : l[i]? = some e) (h0 : 0 < z) : ∃ b off, x = some ⟨b, off, none⟩ ∧ ∀ j u, (g e)[j]? = some u → w.cell? ⟨b, off + i * z + j, none⟩ = some u := by
 obtain ⟨x', c', he, h⟩ := h
 injection he with he
 subst he
 have h1 : ∀ j u, (g e)[j]? = some u → (flat g l)[i * z + j]? = some u := fun j u hu => by
  have hj : j < z := by have := (Array.getElem?_eq_some_iff.1 hu).1; rw [hz] at this; exact this
  rw [flat_at g z hz l i e j hi hj]; exact hu
 obtain ⟨b, off, hx, _⟩ := h (i * z + 0) ((g e)[0]'(by rw [hz]; exact h0)) (h1 0 _ (Array.getElem?_eq_getElem _))
 refine ⟨b, off, hx, fun j u hu => ?_⟩
 obtain ⟨b', off', hx', hc⟩ := h _ u (h1 j u hu)
 rw [hx] at hx'
 injection hx' with hx'
 injection hx' with hb ho
 subst hb ho
 rw [Nat.add_assoc]
 exact hc
-- what the functions answer
def szI (op : Int) : Int :=
 if op = 44 ∨ op = 45 ∨ op = 48 ∨ op = 49 ∨ op = 58 ∨ op = 60 then 1
 else if op = 46 ∨ op = 47 ∨ op = 50 ∨ op = 51 ∨ op = 59 ∨ op = 61 then 2
 else if op = 40 ∨ op = 52 ∨ op = 53 ∨ op = 54 ∨ op = 62 then 4
 else if op = 41 ∨ op = 55 then 8 else 0
def strB (op : Int) : Bool := decide (54 ≤ op) && (szI op != 0)
def CtlP (op : Int) : Prop := op = 0 ∨ op = 12 ∨ op = 13 ∨ op = 14 ∨ op = 15 ∨ op = 16 ∨ op = 17 ∨ op = 26 ∨ op = 27 ∨ op = 32 ∨ op = 33 ∨ op = 34 ∨ op = 35 ∨ op = 36 ∨ op = 63 ∨ op = 64 ∨ op = 66 ∨ op = 256 ∨ op = 257
instance (op : Int) : Decidable (CtlP op) := by unfold CtlP; infer_instance
def sclB (op : Int) : Bool := decide (CtlP op) || (arI op != 0) || (szI op != 0)
def belB (n e : Int) : Bool := decide (0 ≤ n) && decide (n < e)
def numsB (l : List Int) : Bool := l.all fun t => (t == 127) || (t == 126)
end Tg
end Go.Proofs.Ytifjgocfdnhdeaa
