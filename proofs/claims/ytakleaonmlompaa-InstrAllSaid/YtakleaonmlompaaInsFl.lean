/-
  Of layer 4: of every opcode what instr.Float and num.Arity answer. No condition.
-/
import Derived.Test.YtakleaonmlompaaInsOf
namespace Go.Proofs.Ytakleaonmlompaa
open Go.RowKit
namespace Ins
def Flt (op : Int) : Prop := (42 ≤ op ∧ op ≤ 43) ∨ (56 ≤ op ∧ op ≤ 57) ∨ (67 ≤ op ∧ op ≤ 68) ∨ (91 ≤ op ∧ op ≤ 102) ∨ (139 ≤ op ∧ op ≤ 166) ∨ (168 ≤ op ∧ op ≤ 171) ∨ (174 ≤ op ∧ op ≤ 191) ∨ (64787 ≤ op ∧ op ≤ 64788) ∨ (64799 ≤ op ∧ op ≤ 64802) ∨ (64833 ≤ op ∧ op ≤ 64844) ∨ (64862 ≤ op ∧ op ≤ 64863) ∨ (64871 ≤ op ∧ op ≤ 64874) ∨ (64884 ≤ op ∧ op ≤ 64885) ∨ (64890 ≤ op ∧ op ≤ 64890) ∨ (64916 ≤ op ∧ op ≤ 64916) ∨ (64992 ≤ op ∧ op ≤ 65023)
instance (op : Int) : Decidable (Flt op) := by unfold Flt; infer_instance
def floatB (op : Int) : Bool := decide (Flt op)
theorem fl_0 (op : Int) (h1 : op ≤ 41) (w : World) : Calls Try.prog 11 #[.int .i64 op] w fun e w' => e = .returned (.bool false) ∧ w = w' := by
  go_enter Try.func11, Try.ntmps11
  go_wp2_with (go_at_call 20; first | ((with_reducible refine (within_yes _ _ _ (by omega) (by omega) _).mono ?_); rintro e w' ⟨rfl, rfl⟩) | ((with_reducible refine (within_no _ _ _ (by omega) _).mono ?_); rintro e w' ⟨rfl, rfl⟩))
  go_ret
  exact ⟨rfl, rfl⟩
theorem fl_1 (w : World) : Calls Try.prog 11 #[.int .i64 42] w fun e w' => e = .returned (.bool true) ∧ w = w' := by
  go_enter Try.func11, Try.ntmps11
  go_wp2_with (go_at_call 20; first | ((with_reducible refine (within_yes _ _ _ (by omega) (by omega) _).mono ?_); rintro e w' ⟨rfl, rfl⟩) | ((with_reducible refine (within_no _ _ _ (by omega) _).mono ?_); rintro e w' ⟨rfl, rfl⟩))
  go_ret
  exact ⟨rfl, rfl⟩
theorem fl_2 (w : World) : Calls Try.prog 11 #[.int .i64 43] w fun e w' => e = .returned (.bool true) ∧ w = w' := by
  go_enter Try.func11, Try.ntmps11
  go_wp2_with (go_at_call 20; first | ((with_reducible refine (within_yes _ _ _ (by omega) (by omega) _).mono ?_); rintro e w' ⟨rfl, rfl⟩) | ((with_reducible refine (within_no _ _ _ (by omega) _).mono ?_); rintro e w' ⟨rfl, rfl⟩))
  go_ret
  exact ⟨rfl, rfl⟩
theorem fl_3 (op : Int) (h0 : 44 ≤ op) (h1 : op ≤ 55) (w : World) : Calls Try.prog 11 #[.int .i64 op] w fun e w' => e = .returned (.bool false) ∧ w = w' := by
  go_enter Try.func11, Try.ntmps11
  go_wp2_with (go_at_call 20; first | ((with_reducible refine (within_yes _ _ _ (by omega) (by omega) _).mono ?_); rintro e w' ⟨rfl, rfl⟩) | ((with_reducible refine (within_no _ _ _ (by omega) _).mono ?_); rintro e w' ⟨rfl, rfl⟩))
  go_ret
  exact ⟨rfl, rfl⟩
theorem fl_4 (w : World) : Calls Try.prog 11 #[.int .i64 56] w fun e w' => e = .returned (.bool true) ∧ w = w' := by
  go_enter Try.func11, Try.ntmps11
  go_wp2_with (go_at_call 20; first | ((with_reducible refine (within_yes _ _ _ (by omega) (by omega) _).mono ?_); rintro e w' ⟨rfl, rfl⟩) | ((with_reducible refine (within_no _ _ _ (by omega) _).mono ?_); rintro e w' ⟨rfl, rfl⟩))
  go_ret
  exact ⟨rfl, rfl⟩
theorem fl_5 (w : World) : Calls Try.prog 11 #[.int .i64 57] w fun e w' => e = .returned (.bool true) ∧ w = w' := by
  go_enter Try.func11, Try.ntmps11
  go_wp2_with (go_at_call 20; first | ((with_reducible refine (within_yes _ _ _ (by omega) (by omega) _).mono ?_); rintro e w' ⟨rfl, rfl⟩) | ((with_reducible refine (within_no _ _ _ (by omega) _).mono ?_); rintro e w' ⟨rfl, rfl⟩))
  go_ret
  exact ⟨rfl, rfl⟩
theorem fl_6 (op : Int) (h0 : 58 ≤ op) (h1 : op ≤ 66) (w : World) : Calls Try.prog 11 #[.int .i64 op] w fun e w' => e = .returned (.bool false) ∧ w = w' := by
  go_enter Try.func11, Try.ntmps11
  go_wp2_with (go_at_call 20; first | ((with_reducible refine (within_yes _ _ _ (by omega) (by omega) _).mono ?_); rintro e w' ⟨rfl, rfl⟩) | ((with_reducible refine (within_no _ _ _ (by omega) _).mono ?_); rintro e w' ⟨rfl, rfl⟩))
  go_ret
  exact ⟨rfl, rfl⟩
theorem fl_7 (w : World) : Calls Try.prog 11 #[.int .i64 67] w fun e w' => e = .returned (.bool true) ∧ w = w' := by
  go_enter Try.func11, Try.ntmps11
  go_wp2_with (go_at_call 20; first | ((with_reducible refine (within_yes _ _ _ (by omega) (by omega) _).mono ?_); rintro e w' ⟨rfl, rfl⟩) | ((with_reducible refine (within_no _ _ _ (by omega) _).mono ?_); rintro e w' ⟨rfl, rfl⟩))
  go_ret
  exact ⟨rfl, rfl⟩
theorem fl_8 (w : World) : Calls Try.prog 11 #[.int .i64 68] w fun e w' => e = .returned (.bool true) ∧ w = w' := by
  go_enter Try.func11, Try.ntmps11
  go_wp2_with (go_at_call 20; first | ((with_reducible refine (within_yes _ _ _ (by omega) (by omega) _).mono ?_); rintro e w' ⟨rfl, rfl⟩) | ((with_reducible refine (within_no _ _ _ (by omega) _).mono ?_); rintro e w' ⟨rfl, rfl⟩))
  go_ret
  exact ⟨rfl, rfl⟩
theorem fl_9 (op : Int) (h0 : 69 ≤ op) (h1 : op ≤ 90) (w : World) : Calls Try.prog 11 #[.int .i64 op] w fun e w' => e = .returned (.bool false) ∧ w = w' := by
  go_enter Try.func11, Try.ntmps11
  go_wp2_with (go_at_call 20; first | ((with_reducible refine (within_yes _ _ _ (by omega) (by omega) _).mono ?_); rintro e w' ⟨rfl, rfl⟩) | ((with_reducible refine (within_no _ _ _ (by omega) _).mono ?_); rintro e w' ⟨rfl, rfl⟩))
  go_ret
  exact ⟨rfl, rfl⟩
theorem fl_10 (op : Int) (h0 : 91 ≤ op) (h1 : op ≤ 102) (w : World) : Calls Try.prog 11 #[.int .i64 op] w fun e w' => e = .returned (.bool true) ∧ w = w' := by
  go_enter Try.func11, Try.ntmps11
  go_wp2_with (go_at_call 20; first | ((with_reducible refine (within_yes _ _ _ (by omega) (by omega) _).mono ?_); rintro e w' ⟨rfl, rfl⟩) | ((with_reducible refine (within_no _ _ _ (by omega) _).mono ?_); rintro e w' ⟨rfl, rfl⟩))
  go_ret
  exact ⟨rfl, rfl⟩
theorem fl_11 (op : Int) (h0 : 103 ≤ op) (h1 : op ≤ 138) (w : World) : Calls Try.prog 11 #[.int .i64 op] w fun e w' => e = .returned (.bool false) ∧ w = w' := by
  go_enter Try.func11, Try.ntmps11
  go_wp2_with (go_at_call 20; first | ((with_reducible refine (within_yes _ _ _ (by omega) (by omega) _).mono ?_); rintro e w' ⟨rfl, rfl⟩) | ((with_reducible refine (within_no _ _ _ (by omega) _).mono ?_); rintro e w' ⟨rfl, rfl⟩))
  go_ret
  exact ⟨rfl, rfl⟩
theorem fl_12 (op : Int) (h0 : 139 ≤ op) (h1 : op ≤ 166) (w : World) : Calls Try.prog 11 #[.int .i64 op] w fun e w' => e = .returned (.bool true) ∧ w = w' := by
  go_enter Try.func11, Try.ntmps11
  go_wp2_with (go_at_call 20; first | ((with_reducible refine (within_yes _ _ _ (by omega) (by omega) _).mono ?_); rintro e w' ⟨rfl, rfl⟩) | ((with_reducible refine (within_no _ _ _ (by omega) _).mono ?_); rintro e w' ⟨rfl, rfl⟩))
  go_ret
  exact ⟨rfl, rfl⟩
theorem fl_13 (w : World) : Calls Try.prog 11 #[.int .i64 167] w fun e w' => e = .returned (.bool false) ∧ w = w' := by
  go_enter Try.func11, Try.ntmps11
  go_wp2_with (go_at_call 20; first | ((with_reducible refine (within_yes _ _ _ (by omega) (by omega) _).mono ?_); rintro e w' ⟨rfl, rfl⟩) | ((with_reducible refine (within_no _ _ _ (by omega) _).mono ?_); rintro e w' ⟨rfl, rfl⟩))
  go_ret
  exact ⟨rfl, rfl⟩
theorem fl_14 (op : Int) (h0 : 168 ≤ op) (h1 : op ≤ 171) (w : World) : Calls Try.prog 11 #[.int .i64 op] w fun e w' => e = .returned (.bool true) ∧ w = w' := by
  go_enter Try.func11, Try.ntmps11
  go_wp2_with (go_at_call 20; first | ((with_reducible refine (within_yes _ _ _ (by omega) (by omega) _).mono ?_); rintro e w' ⟨rfl, rfl⟩) | ((with_reducible refine (within_no _ _ _ (by omega) _).mono ?_); rintro e w' ⟨rfl, rfl⟩))
  go_ret
  exact ⟨rfl, rfl⟩
theorem fl_15 (op : Int) (h0 : 172 ≤ op) (h1 : op ≤ 173) (w : World) : Calls Try.prog 11 #[.int .i64 op] w fun e w' => e = .returned (.bool false) ∧ w = w' := by
  go_enter Try.func11, Try.ntmps11
  go_wp2_with (go_at_call 20; first | ((with_reducible refine (within_yes _ _ _ (by omega) (by omega) _).mono ?_); rintro e w' ⟨rfl, rfl⟩) | ((with_reducible refine (within_no _ _ _ (by omega) _).mono ?_); rintro e w' ⟨rfl, rfl⟩))
  go_ret
  exact ⟨rfl, rfl⟩
theorem fl_16 (op : Int) (h0 : 174 ≤ op) (h1 : op ≤ 191) (w : World) : Calls Try.prog 11 #[.int .i64 op] w fun e w' => e = .returned (.bool true) ∧ w = w' := by
  go_enter Try.func11, Try.ntmps11
  go_wp2_with (go_at_call 20; first | ((with_reducible refine (within_yes _ _ _ (by omega) (by omega) _).mono ?_); rintro e w' ⟨rfl, rfl⟩) | ((with_reducible refine (within_no _ _ _ (by omega) _).mono ?_); rintro e w' ⟨rfl, rfl⟩))
  go_ret
  exact ⟨rfl, rfl⟩
theorem fl_17 (op : Int) (h0 : 192 ≤ op) (h1 : op ≤ 64767) (w : World) : Calls Try.prog 11 #[.int .i64 op] w fun e w' => e = .returned (.bool false) ∧ w = w' := by
  go_enter Try.func11, Try.ntmps11
  go_wp2_with (go_at_call 20; first | ((with_reducible refine (within_yes _ _ _ (by omega) (by omega) _).mono ?_); rintro e w' ⟨rfl, rfl⟩) | ((with_reducible refine (within_no _ _ _ (by omega) _).mono ?_); rintro e w' ⟨rfl, rfl⟩))
  go_ret
  exact ⟨rfl, rfl⟩
theorem fl_18 (op : Int) (h0 : 64768 ≤ op) (h1 : op ≤ 64786) (w : World) : Calls Try.prog 11 #[.int .i64 op] w fun e w' => e = .returned (.bool false) ∧ w = w' := by
  go_enter Try.func11, Try.ntmps11
  go_wp2_with (go_at_call 20; first | ((with_reducible refine (within_yes _ _ _ (by omega) (by omega) _).mono ?_); rintro e w' ⟨rfl, rfl⟩) | ((with_reducible refine (within_no _ _ _ (by omega) _).mono ?_); rintro e w' ⟨rfl, rfl⟩))
  go_ret
  exact ⟨rfl, rfl⟩
theorem fl_19 (w : World) : Calls Try.prog 11 #[.int .i64 64787] w fun e w' => e = .returned (.bool true) ∧ w = w' := by
  go_enter Try.func11, Try.ntmps11
  go_wp2_with (go_at_call 20; first | ((with_reducible refine (within_yes _ _ _ (by omega) (by omega) _).mono ?_); rintro e w' ⟨rfl, rfl⟩) | ((with_reducible refine (within_no _ _ _ (by omega) _).mono ?_); rintro e w' ⟨rfl, rfl⟩))
  go_ret
  exact ⟨rfl, rfl⟩
theorem fl_20 (w : World) : Calls Try.prog 11 #[.int .i64 64788] w fun e w' => e = .returned (.bool true) ∧ w = w' := by
  go_enter Try.func11, Try.ntmps11
  go_wp2_with (go_at_call 20; first | ((with_reducible refine (within_yes _ _ _ (by omega) (by omega) _).mono ?_); rintro e w' ⟨rfl, rfl⟩) | ((with_reducible refine (within_no _ _ _ (by omega) _).mono ?_); rintro e w' ⟨rfl, rfl⟩))
  go_ret
  exact ⟨rfl, rfl⟩
theorem fl_21 (op : Int) (h0 : 64789 ≤ op) (h1 : op ≤ 64798) (w : World) : Calls Try.prog 11 #[.int .i64 op] w fun e w' => e = .returned (.bool false) ∧ w = w' := by
  go_enter Try.func11, Try.ntmps11
  go_wp2_with (go_at_call 20; first | ((with_reducible refine (within_yes _ _ _ (by omega) (by omega) _).mono ?_); rintro e w' ⟨rfl, rfl⟩) | ((with_reducible refine (within_no _ _ _ (by omega) _).mono ?_); rintro e w' ⟨rfl, rfl⟩))
  go_ret
  exact ⟨rfl, rfl⟩
theorem fl_22 (op : Int) (h0 : 64799 ≤ op) (h1 : op ≤ 64802) (w : World) : Calls Try.prog 11 #[.int .i64 op] w fun e w' => e = .returned (.bool true) ∧ w = w' := by
  go_enter Try.func11, Try.ntmps11
  go_wp2_with (go_at_call 20; first | ((with_reducible refine (within_yes _ _ _ (by omega) (by omega) _).mono ?_); rintro e w' ⟨rfl, rfl⟩) | ((with_reducible refine (within_no _ _ _ (by omega) _).mono ?_); rintro e w' ⟨rfl, rfl⟩))
  go_ret
  exact ⟨rfl, rfl⟩
theorem fl_23 (op : Int) (h0 : 64803 ≤ op) (h1 : op ≤ 64832) (w : World) : Calls Try.prog 11 #[.int .i64 op] w fun e w' => e = .returned (.bool false) ∧ w = w' := by
  go_enter Try.func11, Try.ntmps11
  go_wp2_with (go_at_call 20; first | ((with_reducible refine (within_yes _ _ _ (by omega) (by omega) _).mono ?_); rintro e w' ⟨rfl, rfl⟩) | ((with_reducible refine (within_no _ _ _ (by omega) _).mono ?_); rintro e w' ⟨rfl, rfl⟩))
  go_ret
  exact ⟨rfl, rfl⟩
theorem fl_24 (op : Int) (h0 : 64833 ≤ op) (h1 : op ≤ 64844) (w : World) : Calls Try.prog 11 #[.int .i64 op] w fun e w' => e = .returned (.bool true) ∧ w = w' := by
  go_enter Try.func11, Try.ntmps11
  go_wp2_with (go_at_call 20; first | ((with_reducible refine (within_yes _ _ _ (by omega) (by omega) _).mono ?_); rintro e w' ⟨rfl, rfl⟩) | ((with_reducible refine (within_no _ _ _ (by omega) _).mono ?_); rintro e w' ⟨rfl, rfl⟩))
  go_ret
  exact ⟨rfl, rfl⟩
theorem fl_25 (op : Int) (h0 : 64845 ≤ op) (h1 : op ≤ 64861) (w : World) : Calls Try.prog 11 #[.int .i64 op] w fun e w' => e = .returned (.bool false) ∧ w = w' := by
  go_enter Try.func11, Try.ntmps11
  go_wp2_with (go_at_call 20; first | ((with_reducible refine (within_yes _ _ _ (by omega) (by omega) _).mono ?_); rintro e w' ⟨rfl, rfl⟩) | ((with_reducible refine (within_no _ _ _ (by omega) _).mono ?_); rintro e w' ⟨rfl, rfl⟩))
  go_ret
  exact ⟨rfl, rfl⟩
theorem fl_26 (w : World) : Calls Try.prog 11 #[.int .i64 64862] w fun e w' => e = .returned (.bool true) ∧ w = w' := by
  go_enter Try.func11, Try.ntmps11
  go_wp2_with (go_at_call 20; first | ((with_reducible refine (within_yes _ _ _ (by omega) (by omega) _).mono ?_); rintro e w' ⟨rfl, rfl⟩) | ((with_reducible refine (within_no _ _ _ (by omega) _).mono ?_); rintro e w' ⟨rfl, rfl⟩))
  go_ret
  exact ⟨rfl, rfl⟩
theorem fl_27 (w : World) : Calls Try.prog 11 #[.int .i64 64863] w fun e w' => e = .returned (.bool true) ∧ w = w' := by
  go_enter Try.func11, Try.ntmps11
  go_wp2_with (go_at_call 20; first | ((with_reducible refine (within_yes _ _ _ (by omega) (by omega) _).mono ?_); rintro e w' ⟨rfl, rfl⟩) | ((with_reducible refine (within_no _ _ _ (by omega) _).mono ?_); rintro e w' ⟨rfl, rfl⟩))
  go_ret
  exact ⟨rfl, rfl⟩
theorem fl_28 (op : Int) (h0 : 64864 ≤ op) (h1 : op ≤ 64870) (w : World) : Calls Try.prog 11 #[.int .i64 op] w fun e w' => e = .returned (.bool false) ∧ w = w' := by
  go_enter Try.func11, Try.ntmps11
  go_wp2_with (go_at_call 20; first | ((with_reducible refine (within_yes _ _ _ (by omega) (by omega) _).mono ?_); rintro e w' ⟨rfl, rfl⟩) | ((with_reducible refine (within_no _ _ _ (by omega) _).mono ?_); rintro e w' ⟨rfl, rfl⟩))
  go_ret
  exact ⟨rfl, rfl⟩
theorem fl_29 (op : Int) (h0 : 64871 ≤ op) (h1 : op ≤ 64874) (w : World) : Calls Try.prog 11 #[.int .i64 op] w fun e w' => e = .returned (.bool true) ∧ w = w' := by
  go_enter Try.func11, Try.ntmps11
  go_wp2_with (go_at_call 20; first | ((with_reducible refine (within_yes _ _ _ (by omega) (by omega) _).mono ?_); rintro e w' ⟨rfl, rfl⟩) | ((with_reducible refine (within_no _ _ _ (by omega) _).mono ?_); rintro e w' ⟨rfl, rfl⟩))
  go_ret
  exact ⟨rfl, rfl⟩
theorem fl_30 (op : Int) (h0 : 64875 ≤ op) (h1 : op ≤ 64883) (w : World) : Calls Try.prog 11 #[.int .i64 op] w fun e w' => e = .returned (.bool false) ∧ w = w' := by
  go_enter Try.func11, Try.ntmps11
  go_wp2_with (go_at_call 20; first | ((with_reducible refine (within_yes _ _ _ (by omega) (by omega) _).mono ?_); rintro e w' ⟨rfl, rfl⟩) | ((with_reducible refine (within_no _ _ _ (by omega) _).mono ?_); rintro e w' ⟨rfl, rfl⟩))
  go_ret
  exact ⟨rfl, rfl⟩
theorem fl_31 (w : World) : Calls Try.prog 11 #[.int .i64 64884] w fun e w' => e = .returned (.bool true) ∧ w = w' := by
  go_enter Try.func11, Try.ntmps11
  go_wp2_with (go_at_call 20; first | ((with_reducible refine (within_yes _ _ _ (by omega) (by omega) _).mono ?_); rintro e w' ⟨rfl, rfl⟩) | ((with_reducible refine (within_no _ _ _ (by omega) _).mono ?_); rintro e w' ⟨rfl, rfl⟩))
  go_ret
  exact ⟨rfl, rfl⟩
theorem fl_32 (w : World) : Calls Try.prog 11 #[.int .i64 64885] w fun e w' => e = .returned (.bool true) ∧ w = w' := by
  go_enter Try.func11, Try.ntmps11
  go_wp2_with (go_at_call 20; first | ((with_reducible refine (within_yes _ _ _ (by omega) (by omega) _).mono ?_); rintro e w' ⟨rfl, rfl⟩) | ((with_reducible refine (within_no _ _ _ (by omega) _).mono ?_); rintro e w' ⟨rfl, rfl⟩))
  go_ret
  exact ⟨rfl, rfl⟩
theorem fl_33 (op : Int) (h0 : 64886 ≤ op) (h1 : op ≤ 64889) (w : World) : Calls Try.prog 11 #[.int .i64 op] w fun e w' => e = .returned (.bool false) ∧ w = w' := by
  go_enter Try.func11, Try.ntmps11
  go_wp2_with (go_at_call 20; first | ((with_reducible refine (within_yes _ _ _ (by omega) (by omega) _).mono ?_); rintro e w' ⟨rfl, rfl⟩) | ((with_reducible refine (within_no _ _ _ (by omega) _).mono ?_); rintro e w' ⟨rfl, rfl⟩))
  go_ret
  exact ⟨rfl, rfl⟩
theorem fl_34 (w : World) : Calls Try.prog 11 #[.int .i64 64890] w fun e w' => e = .returned (.bool true) ∧ w = w' := by
  go_enter Try.func11, Try.ntmps11
  go_wp2_with (go_at_call 20; first | ((with_reducible refine (within_yes _ _ _ (by omega) (by omega) _).mono ?_); rintro e w' ⟨rfl, rfl⟩) | ((with_reducible refine (within_no _ _ _ (by omega) _).mono ?_); rintro e w' ⟨rfl, rfl⟩))
  go_ret
  exact ⟨rfl, rfl⟩
theorem fl_35 (op : Int) (h0 : 64891 ≤ op) (h1 : op ≤ 64915) (w : World) : Calls Try.prog 11 #[.int .i64 op] w fun e w' => e = .returned (.bool false) ∧ w = w' := by
  go_enter Try.func11, Try.ntmps11
  go_wp2_with (go_at_call 20; first | ((with_reducible refine (within_yes _ _ _ (by omega) (by omega) _).mono ?_); rintro e w' ⟨rfl, rfl⟩) | ((with_reducible refine (within_no _ _ _ (by omega) _).mono ?_); rintro e w' ⟨rfl, rfl⟩))
  go_ret
  exact ⟨rfl, rfl⟩
theorem fl_36 (w : World) : Calls Try.prog 11 #[.int .i64 64916] w fun e w' => e = .returned (.bool true) ∧ w = w' := by
  go_enter Try.func11, Try.ntmps11
  go_wp2_with (go_at_call 20; first | ((with_reducible refine (within_yes _ _ _ (by omega) (by omega) _).mono ?_); rintro e w' ⟨rfl, rfl⟩) | ((with_reducible refine (within_no _ _ _ (by omega) _).mono ?_); rintro e w' ⟨rfl, rfl⟩))
  go_ret
  exact ⟨rfl, rfl⟩
theorem fl_37 (op : Int) (h0 : 64917 ≤ op) (h1 : op ≤ 64991) (w : World) : Calls Try.prog 11 #[.int .i64 op] w fun e w' => e = .returned (.bool false) ∧ w = w' := by
  go_enter Try.func11, Try.ntmps11
  go_wp2_with (go_at_call 20; first | ((with_reducible refine (within_yes _ _ _ (by omega) (by omega) _).mono ?_); rintro e w' ⟨rfl, rfl⟩) | ((with_reducible refine (within_no _ _ _ (by omega) _).mono ?_); rintro e w' ⟨rfl, rfl⟩))
  go_ret
  exact ⟨rfl, rfl⟩
theorem fl_38 (op : Int) (h0 : 64992 ≤ op) (h1 : op ≤ 65023) (w : World) : Calls Try.prog 11 #[.int .i64 op] w fun e w' => e = .returned (.bool true) ∧ w = w' := by
  go_enter Try.func11, Try.ntmps11
  go_wp2_with (go_at_call 20; first | ((with_reducible refine (within_yes _ _ _ (by omega) (by omega) _).mono ?_); rintro e w' ⟨rfl, rfl⟩) | ((with_reducible refine (within_no _ _ _ (by omega) _).mono ?_); rintro e w' ⟨rfl, rfl⟩))
  go_ret
  exact ⟨rfl, rfl⟩
theorem fl_39 (op : Int) (h0 : 65024 ≤ op) (h1 : op ≤ 9223372036854775807) (w : World) : Calls Try.prog 11 #[.int .i64 op] w fun e w' => e = .returned (.bool false) ∧ w = w' := by
  go_enter Try.func11, Try.ntmps11
  go_wp2_with (go_at_call 20; first | ((with_reducible refine (within_yes _ _ _ (by omega) (by omega) _).mono ?_); rintro e w' ⟨rfl, rfl⟩) | ((with_reducible refine (within_no _ _ _ (by omega) _).mono ?_); rintro e w' ⟨rfl, rfl⟩))
  go_ret
  exact ⟨rfl, rfl⟩
theorem float_t (op : Int) (h : floatB op = true) (w : World) (C : Calls Try.prog 11 #[.int .i64 op] w fun e w' => e = .returned (.bool true) ∧ w = w') : Calls Try.prog 11 #[.int .i64 op] w fun e w' => e = .returned (.bool (floatB op)) ∧ w = w' := by rw [h]; exact C
theorem float_f (op : Int) (h : floatB op = false) (w : World) (C : Calls Try.prog 11 #[.int .i64 op] w fun e w' => e = .returned (.bool false) ∧ w = w') : Calls Try.prog 11 #[.int .i64 op] w fun e w' => e = .returned (.bool (floatB op)) ∧ w = w' := by rw [h]; exact C
set_option maxHeartbeats 4000000 in
theorem float_any (op : Int) (hop : op ≤ 9223372036854775807) (w : World) : Calls Try.prog 11 #[.int .i64 op] w fun e w' => e = .returned (.bool (floatB op)) ∧ w = w' := by
  by_cases h0_40 : op < 64788
  · by_cases h0_20 : op < 91
    · by_cases h0_10 : op < 57
      · by_cases h0_5 : op < 43
        · by_cases h0_2 : op < 42
          · exact float_f _ (by unfold floatB; exact decide_eq_false (by unfold Flt; omega)) w (fl_0 op (by omega) w)
          · obtain rfl : op = 42 := by omega
            exact float_t _ (by decide) w (fl_1 w)
        · by_cases h2_5 : op < 44
          · obtain rfl : op = 43 := by omega
            exact float_t _ (by decide) w (fl_2 w)
          · by_cases h3_5 : op < 56
            · exact float_f _ (by unfold floatB; exact decide_eq_false (by unfold Flt; omega)) w (fl_3 op (by omega) (by omega) w)
            · obtain rfl : op = 56 := by omega
              exact float_t _ (by decide) w (fl_4 w)
      · by_cases h5_10 : op < 67
        · by_cases h5_7 : op < 58
          · obtain rfl : op = 57 := by omega
            exact float_t _ (by decide) w (fl_5 w)
          · exact float_f _ (by unfold floatB; exact decide_eq_false (by unfold Flt; omega)) w (fl_6 op (by omega) (by omega) w)
        · by_cases h7_10 : op < 68
          · obtain rfl : op = 67 := by omega
            exact float_t _ (by decide) w (fl_7 w)
          · by_cases h8_10 : op < 69
            · obtain rfl : op = 68 := by omega
              exact float_t _ (by decide) w (fl_8 w)
            · exact float_f _ (by unfold floatB; exact decide_eq_false (by unfold Flt; omega)) w (fl_9 op (by omega) (by omega) w)
    · by_cases h10_20 : op < 172
      · by_cases h10_15 : op < 139
        · by_cases h10_12 : op < 103
          · exact float_t _ (by unfold floatB; exact decide_eq_true (by unfold Flt; omega)) w (fl_10 op (by omega) (by omega) w)
          · exact float_f _ (by unfold floatB; exact decide_eq_false (by unfold Flt; omega)) w (fl_11 op (by omega) (by omega) w)
        · by_cases h12_15 : op < 167
          · exact float_t _ (by unfold floatB; exact decide_eq_true (by unfold Flt; omega)) w (fl_12 op (by omega) (by omega) w)
          · by_cases h13_15 : op < 168
            · obtain rfl : op = 167 := by omega
              exact float_f _ (by decide) w (fl_13 w)
            · exact float_t _ (by unfold floatB; exact decide_eq_true (by unfold Flt; omega)) w (fl_14 op (by omega) (by omega) w)
      · by_cases h15_20 : op < 192
        · by_cases h15_17 : op < 174
          · exact float_f _ (by unfold floatB; exact decide_eq_false (by unfold Flt; omega)) w (fl_15 op (by omega) (by omega) w)
          · exact float_t _ (by unfold floatB; exact decide_eq_true (by unfold Flt; omega)) w (fl_16 op (by omega) (by omega) w)
        · by_cases h17_20 : op < 64768
          · exact float_f _ (by unfold floatB; exact decide_eq_false (by unfold Flt; omega)) w (fl_17 op (by omega) (by omega) w)
          · by_cases h18_20 : op < 64787
            · exact float_f _ (by unfold floatB; exact decide_eq_false (by unfold Flt; omega)) w (fl_18 op (by omega) (by omega) w)
            · obtain rfl : op = 64787 := by omega
              exact float_t _ (by decide) w (fl_19 w)
  · by_cases h20_40 : op < 64875
    · by_cases h20_30 : op < 64845
      · by_cases h20_25 : op < 64799
        · by_cases h20_22 : op < 64789
          · obtain rfl : op = 64788 := by omega
            exact float_t _ (by decide) w (fl_20 w)
          · exact float_f _ (by unfold floatB; exact decide_eq_false (by unfold Flt; omega)) w (fl_21 op (by omega) (by omega) w)
        · by_cases h22_25 : op < 64803
          · exact float_t _ (by unfold floatB; exact decide_eq_true (by unfold Flt; omega)) w (fl_22 op (by omega) (by omega) w)
          · by_cases h23_25 : op < 64833
            · exact float_f _ (by unfold floatB; exact decide_eq_false (by unfold Flt; omega)) w (fl_23 op (by omega) (by omega) w)
            · exact float_t _ (by unfold floatB; exact decide_eq_true (by unfold Flt; omega)) w (fl_24 op (by omega) (by omega) w)
      · by_cases h25_30 : op < 64863
        · by_cases h25_27 : op < 64862
          · exact float_f _ (by unfold floatB; exact decide_eq_false (by unfold Flt; omega)) w (fl_25 op (by omega) (by omega) w)
          · obtain rfl : op = 64862 := by omega
            exact float_t _ (by decide) w (fl_26 w)
        · by_cases h27_30 : op < 64864
          · obtain rfl : op = 64863 := by omega
            exact float_t _ (by decide) w (fl_27 w)
          · by_cases h28_30 : op < 64871
            · exact float_f _ (by unfold floatB; exact decide_eq_false (by unfold Flt; omega)) w (fl_28 op (by omega) (by omega) w)
            · exact float_t _ (by unfold floatB; exact decide_eq_true (by unfold Flt; omega)) w (fl_29 op (by omega) (by omega) w)
    · by_cases h30_40 : op < 64891
      · by_cases h30_35 : op < 64885
        · by_cases h30_32 : op < 64884
          · exact float_f _ (by unfold floatB; exact decide_eq_false (by unfold Flt; omega)) w (fl_30 op (by omega) (by omega) w)
          · obtain rfl : op = 64884 := by omega
            exact float_t _ (by decide) w (fl_31 w)
        · by_cases h32_35 : op < 64886
          · obtain rfl : op = 64885 := by omega
            exact float_t _ (by decide) w (fl_32 w)
          · by_cases h33_35 : op < 64890
            · exact float_f _ (by unfold floatB; exact decide_eq_false (by unfold Flt; omega)) w (fl_33 op (by omega) (by omega) w)
            · obtain rfl : op = 64890 := by omega
              exact float_t _ (by decide) w (fl_34 w)
      · by_cases h35_40 : op < 64917
        · by_cases h35_37 : op < 64916
          · exact float_f _ (by unfold floatB; exact decide_eq_false (by unfold Flt; omega)) w (fl_35 op (by omega) (by omega) w)
          · obtain rfl : op = 64916 := by omega
            exact float_t _ (by decide) w (fl_36 w)
        · by_cases h37_40 : op < 64992
          · exact float_f _ (by unfold floatB; exact decide_eq_false (by unfold Flt; omega)) w (fl_37 op (by omega) (by omega) w)
          · by_cases h38_40 : op < 65024
            · exact float_t _ (by unfold floatB; exact decide_eq_true (by unfold Flt; omega)) w (fl_38 op (by omega) (by omega) w)
            · exact float_f _ (by unfold floatB; exact decide_eq_false (by unfold Flt; omega)) w (fl_39 op (by omega) (by omega) w)
theorem in_yes (op f n : Int) (hf : 0 ≤ f) (hf' : f ≤ 1000) (hn : 0 ≤ n) (hn' : n ≤ 1000) (h0 : f ≤ op) (h1 : op < f + n) (w : World) :
    Calls Try.prog 21 #[.int .i64 op, .int .i64 f, .int .i64 n] w fun e w' => e = .returned (.bool true) ∧ w = w' := by
  go_enter Try.func21, Try.ntmps21
  go_wp2
  go_ret
  exact ⟨rfl, rfl⟩
theorem in_no (op f n : Int) (hf : 0 ≤ f) (hf' : f ≤ 1000) (hn : 0 ≤ n) (hn' : n ≤ 1000) (h : op < f ∨ f + n ≤ op) (w : World) :
    Calls Try.prog 21 #[.int .i64 op, .int .i64 f, .int .i64 n] w fun e w' => e = .returned (.bool false) ∧ w = w' := by
  by_cases h0 : f ≤ op
  · have h1 : decide (op < f + n) = false := decide_eq_false (by omega)
    clear h
    go_enter Try.func21, Try.ntmps21
    go_wp2
    go_ret
    exact ⟨rfl, rfl⟩
  · clear h
    go_enter Try.func21, Try.ntmps21
    go_wp2
    go_ret
    exact ⟨rfl, rfl⟩
def arI (op : Int) : Int := if op = 69 ∨ op = 80 ∨ op = 103 ∨ op = 104 ∨ op = 105 ∨ op = 121 ∨ op = 122 ∨ op = 123 ∨ op = 167 ∨ op = 172 ∨ op = 173 ∨ op = 192 ∨ op = 193 ∨ op = 194 ∨ op = 195 ∨ op = 196 then 1 else if (70 ≤ op ∧ op ≤ 79) ∨ (81 ≤ op ∧ op ≤ 90) ∨ (106 ≤ op ∧ op ≤ 120) ∨ (124 ≤ op ∧ op ≤ 138) then 2 else 0
theorem ar_0 (op : Int) (h1 : op ≤ 68) (w : World) : Calls Try.prog 12 #[.int .i64 op] w fun e w' => e = .returned (.int .i64 0) ∧ w = w' := by
  go_enter Try.func12, Try.ntmps12
  go_wp2_with (go_at_call 21; first | ((with_reducible refine (in_yes _ _ _ (by omega) (by omega) (by omega) (by omega) (by omega) (by omega) _).mono ?_); rintro e w' ⟨rfl, rfl⟩) | ((with_reducible refine (in_no _ _ _ (by omega) (by omega) (by omega) (by omega) (by omega) _).mono ?_); rintro e w' ⟨rfl, rfl⟩))
  go_ret
  exact ⟨rfl, rfl⟩
theorem ar_1 (w : World) : Calls Try.prog 12 #[.int .i64 69] w fun e w' => e = .returned (.int .i64 1) ∧ w = w' := by
  go_enter Try.func12, Try.ntmps12
  go_wp2_with (go_at_call 21; first | ((with_reducible refine (in_yes _ _ _ (by omega) (by omega) (by omega) (by omega) (by omega) (by omega) _).mono ?_); rintro e w' ⟨rfl, rfl⟩) | ((with_reducible refine (in_no _ _ _ (by omega) (by omega) (by omega) (by omega) (by omega) _).mono ?_); rintro e w' ⟨rfl, rfl⟩))
  go_ret
  exact ⟨rfl, rfl⟩
theorem ar_2 (op : Int) (h0 : 70 ≤ op) (h1 : op ≤ 79) (w : World) : Calls Try.prog 12 #[.int .i64 op] w fun e w' => e = .returned (.int .i64 2) ∧ w = w' := by
  go_enter Try.func12, Try.ntmps12
  go_wp2_with (go_at_call 21; first | ((with_reducible refine (in_yes _ _ _ (by omega) (by omega) (by omega) (by omega) (by omega) (by omega) _).mono ?_); rintro e w' ⟨rfl, rfl⟩) | ((with_reducible refine (in_no _ _ _ (by omega) (by omega) (by omega) (by omega) (by omega) _).mono ?_); rintro e w' ⟨rfl, rfl⟩))
  go_ret
  exact ⟨rfl, rfl⟩
theorem ar_3 (w : World) : Calls Try.prog 12 #[.int .i64 80] w fun e w' => e = .returned (.int .i64 1) ∧ w = w' := by
  go_enter Try.func12, Try.ntmps12
  go_wp2_with (go_at_call 21; first | ((with_reducible refine (in_yes _ _ _ (by omega) (by omega) (by omega) (by omega) (by omega) (by omega) _).mono ?_); rintro e w' ⟨rfl, rfl⟩) | ((with_reducible refine (in_no _ _ _ (by omega) (by omega) (by omega) (by omega) (by omega) _).mono ?_); rintro e w' ⟨rfl, rfl⟩))
  go_ret
  exact ⟨rfl, rfl⟩
theorem ar_4 (op : Int) (h0 : 81 ≤ op) (h1 : op ≤ 90) (w : World) : Calls Try.prog 12 #[.int .i64 op] w fun e w' => e = .returned (.int .i64 2) ∧ w = w' := by
  go_enter Try.func12, Try.ntmps12
  go_wp2_with (go_at_call 21; first | ((with_reducible refine (in_yes _ _ _ (by omega) (by omega) (by omega) (by omega) (by omega) (by omega) _).mono ?_); rintro e w' ⟨rfl, rfl⟩) | ((with_reducible refine (in_no _ _ _ (by omega) (by omega) (by omega) (by omega) (by omega) _).mono ?_); rintro e w' ⟨rfl, rfl⟩))
  go_ret
  exact ⟨rfl, rfl⟩
theorem ar_5 (op : Int) (h0 : 91 ≤ op) (h1 : op ≤ 102) (w : World) : Calls Try.prog 12 #[.int .i64 op] w fun e w' => e = .returned (.int .i64 0) ∧ w = w' := by
  go_enter Try.func12, Try.ntmps12
  go_wp2_with (go_at_call 21; first | ((with_reducible refine (in_yes _ _ _ (by omega) (by omega) (by omega) (by omega) (by omega) (by omega) _).mono ?_); rintro e w' ⟨rfl, rfl⟩) | ((with_reducible refine (in_no _ _ _ (by omega) (by omega) (by omega) (by omega) (by omega) _).mono ?_); rintro e w' ⟨rfl, rfl⟩))
  go_ret
  exact ⟨rfl, rfl⟩
theorem ar_6 (w : World) : Calls Try.prog 12 #[.int .i64 103] w fun e w' => e = .returned (.int .i64 1) ∧ w = w' := by
  go_enter Try.func12, Try.ntmps12
  go_wp2_with (go_at_call 21; first | ((with_reducible refine (in_yes _ _ _ (by omega) (by omega) (by omega) (by omega) (by omega) (by omega) _).mono ?_); rintro e w' ⟨rfl, rfl⟩) | ((with_reducible refine (in_no _ _ _ (by omega) (by omega) (by omega) (by omega) (by omega) _).mono ?_); rintro e w' ⟨rfl, rfl⟩))
  go_ret
  exact ⟨rfl, rfl⟩
theorem ar_7 (w : World) : Calls Try.prog 12 #[.int .i64 104] w fun e w' => e = .returned (.int .i64 1) ∧ w = w' := by
  go_enter Try.func12, Try.ntmps12
  go_wp2_with (go_at_call 21; first | ((with_reducible refine (in_yes _ _ _ (by omega) (by omega) (by omega) (by omega) (by omega) (by omega) _).mono ?_); rintro e w' ⟨rfl, rfl⟩) | ((with_reducible refine (in_no _ _ _ (by omega) (by omega) (by omega) (by omega) (by omega) _).mono ?_); rintro e w' ⟨rfl, rfl⟩))
  go_ret
  exact ⟨rfl, rfl⟩
theorem ar_8 (w : World) : Calls Try.prog 12 #[.int .i64 105] w fun e w' => e = .returned (.int .i64 1) ∧ w = w' := by
  go_enter Try.func12, Try.ntmps12
  go_wp2_with (go_at_call 21; first | ((with_reducible refine (in_yes _ _ _ (by omega) (by omega) (by omega) (by omega) (by omega) (by omega) _).mono ?_); rintro e w' ⟨rfl, rfl⟩) | ((with_reducible refine (in_no _ _ _ (by omega) (by omega) (by omega) (by omega) (by omega) _).mono ?_); rintro e w' ⟨rfl, rfl⟩))
  go_ret
  exact ⟨rfl, rfl⟩
theorem ar_9 (op : Int) (h0 : 106 ≤ op) (h1 : op ≤ 120) (w : World) : Calls Try.prog 12 #[.int .i64 op] w fun e w' => e = .returned (.int .i64 2) ∧ w = w' := by
  go_enter Try.func12, Try.ntmps12
  go_wp2_with (go_at_call 21; first | ((with_reducible refine (in_yes _ _ _ (by omega) (by omega) (by omega) (by omega) (by omega) (by omega) _).mono ?_); rintro e w' ⟨rfl, rfl⟩) | ((with_reducible refine (in_no _ _ _ (by omega) (by omega) (by omega) (by omega) (by omega) _).mono ?_); rintro e w' ⟨rfl, rfl⟩))
  go_ret
  exact ⟨rfl, rfl⟩
theorem ar_10 (w : World) : Calls Try.prog 12 #[.int .i64 121] w fun e w' => e = .returned (.int .i64 1) ∧ w = w' := by
  go_enter Try.func12, Try.ntmps12
  go_wp2_with (go_at_call 21; first | ((with_reducible refine (in_yes _ _ _ (by omega) (by omega) (by omega) (by omega) (by omega) (by omega) _).mono ?_); rintro e w' ⟨rfl, rfl⟩) | ((with_reducible refine (in_no _ _ _ (by omega) (by omega) (by omega) (by omega) (by omega) _).mono ?_); rintro e w' ⟨rfl, rfl⟩))
  go_ret
  exact ⟨rfl, rfl⟩
theorem ar_11 (w : World) : Calls Try.prog 12 #[.int .i64 122] w fun e w' => e = .returned (.int .i64 1) ∧ w = w' := by
  go_enter Try.func12, Try.ntmps12
  go_wp2_with (go_at_call 21; first | ((with_reducible refine (in_yes _ _ _ (by omega) (by omega) (by omega) (by omega) (by omega) (by omega) _).mono ?_); rintro e w' ⟨rfl, rfl⟩) | ((with_reducible refine (in_no _ _ _ (by omega) (by omega) (by omega) (by omega) (by omega) _).mono ?_); rintro e w' ⟨rfl, rfl⟩))
  go_ret
  exact ⟨rfl, rfl⟩
theorem ar_12 (w : World) : Calls Try.prog 12 #[.int .i64 123] w fun e w' => e = .returned (.int .i64 1) ∧ w = w' := by
  go_enter Try.func12, Try.ntmps12
  go_wp2_with (go_at_call 21; first | ((with_reducible refine (in_yes _ _ _ (by omega) (by omega) (by omega) (by omega) (by omega) (by omega) _).mono ?_); rintro e w' ⟨rfl, rfl⟩) | ((with_reducible refine (in_no _ _ _ (by omega) (by omega) (by omega) (by omega) (by omega) _).mono ?_); rintro e w' ⟨rfl, rfl⟩))
  go_ret
  exact ⟨rfl, rfl⟩
theorem ar_13 (op : Int) (h0 : 124 ≤ op) (h1 : op ≤ 138) (w : World) : Calls Try.prog 12 #[.int .i64 op] w fun e w' => e = .returned (.int .i64 2) ∧ w = w' := by
  go_enter Try.func12, Try.ntmps12
  go_wp2_with (go_at_call 21; first | ((with_reducible refine (in_yes _ _ _ (by omega) (by omega) (by omega) (by omega) (by omega) (by omega) _).mono ?_); rintro e w' ⟨rfl, rfl⟩) | ((with_reducible refine (in_no _ _ _ (by omega) (by omega) (by omega) (by omega) (by omega) _).mono ?_); rintro e w' ⟨rfl, rfl⟩))
  go_ret
  exact ⟨rfl, rfl⟩
theorem ar_14 (op : Int) (h0 : 139 ≤ op) (h1 : op ≤ 166) (w : World) : Calls Try.prog 12 #[.int .i64 op] w fun e w' => e = .returned (.int .i64 0) ∧ w = w' := by
  go_enter Try.func12, Try.ntmps12
  go_wp2_with (go_at_call 21; first | ((with_reducible refine (in_yes _ _ _ (by omega) (by omega) (by omega) (by omega) (by omega) (by omega) _).mono ?_); rintro e w' ⟨rfl, rfl⟩) | ((with_reducible refine (in_no _ _ _ (by omega) (by omega) (by omega) (by omega) (by omega) _).mono ?_); rintro e w' ⟨rfl, rfl⟩))
  go_ret
  exact ⟨rfl, rfl⟩
theorem ar_15 (w : World) : Calls Try.prog 12 #[.int .i64 167] w fun e w' => e = .returned (.int .i64 1) ∧ w = w' := by
  go_enter Try.func12, Try.ntmps12
  go_wp2_with (go_at_call 21; first | ((with_reducible refine (in_yes _ _ _ (by omega) (by omega) (by omega) (by omega) (by omega) (by omega) _).mono ?_); rintro e w' ⟨rfl, rfl⟩) | ((with_reducible refine (in_no _ _ _ (by omega) (by omega) (by omega) (by omega) (by omega) _).mono ?_); rintro e w' ⟨rfl, rfl⟩))
  go_ret
  exact ⟨rfl, rfl⟩
theorem ar_16 (op : Int) (h0 : 168 ≤ op) (h1 : op ≤ 171) (w : World) : Calls Try.prog 12 #[.int .i64 op] w fun e w' => e = .returned (.int .i64 0) ∧ w = w' := by
  go_enter Try.func12, Try.ntmps12
  go_wp2_with (go_at_call 21; first | ((with_reducible refine (in_yes _ _ _ (by omega) (by omega) (by omega) (by omega) (by omega) (by omega) _).mono ?_); rintro e w' ⟨rfl, rfl⟩) | ((with_reducible refine (in_no _ _ _ (by omega) (by omega) (by omega) (by omega) (by omega) _).mono ?_); rintro e w' ⟨rfl, rfl⟩))
  go_ret
  exact ⟨rfl, rfl⟩
theorem ar_17 (w : World) : Calls Try.prog 12 #[.int .i64 172] w fun e w' => e = .returned (.int .i64 1) ∧ w = w' := by
  go_enter Try.func12, Try.ntmps12
  go_wp2_with (go_at_call 21; first | ((with_reducible refine (in_yes _ _ _ (by omega) (by omega) (by omega) (by omega) (by omega) (by omega) _).mono ?_); rintro e w' ⟨rfl, rfl⟩) | ((with_reducible refine (in_no _ _ _ (by omega) (by omega) (by omega) (by omega) (by omega) _).mono ?_); rintro e w' ⟨rfl, rfl⟩))
  go_ret
  exact ⟨rfl, rfl⟩
theorem ar_18 (w : World) : Calls Try.prog 12 #[.int .i64 173] w fun e w' => e = .returned (.int .i64 1) ∧ w = w' := by
  go_enter Try.func12, Try.ntmps12
  go_wp2_with (go_at_call 21; first | ((with_reducible refine (in_yes _ _ _ (by omega) (by omega) (by omega) (by omega) (by omega) (by omega) _).mono ?_); rintro e w' ⟨rfl, rfl⟩) | ((with_reducible refine (in_no _ _ _ (by omega) (by omega) (by omega) (by omega) (by omega) _).mono ?_); rintro e w' ⟨rfl, rfl⟩))
  go_ret
  exact ⟨rfl, rfl⟩
theorem ar_19 (op : Int) (h0 : 174 ≤ op) (h1 : op ≤ 191) (w : World) : Calls Try.prog 12 #[.int .i64 op] w fun e w' => e = .returned (.int .i64 0) ∧ w = w' := by
  go_enter Try.func12, Try.ntmps12
  go_wp2_with (go_at_call 21; first | ((with_reducible refine (in_yes _ _ _ (by omega) (by omega) (by omega) (by omega) (by omega) (by omega) _).mono ?_); rintro e w' ⟨rfl, rfl⟩) | ((with_reducible refine (in_no _ _ _ (by omega) (by omega) (by omega) (by omega) (by omega) _).mono ?_); rintro e w' ⟨rfl, rfl⟩))
  go_ret
  exact ⟨rfl, rfl⟩
theorem ar_20 (w : World) : Calls Try.prog 12 #[.int .i64 192] w fun e w' => e = .returned (.int .i64 1) ∧ w = w' := by
  go_enter Try.func12, Try.ntmps12
  go_wp2_with (go_at_call 21; first | ((with_reducible refine (in_yes _ _ _ (by omega) (by omega) (by omega) (by omega) (by omega) (by omega) _).mono ?_); rintro e w' ⟨rfl, rfl⟩) | ((with_reducible refine (in_no _ _ _ (by omega) (by omega) (by omega) (by omega) (by omega) _).mono ?_); rintro e w' ⟨rfl, rfl⟩))
  go_ret
  exact ⟨rfl, rfl⟩
theorem ar_21 (w : World) : Calls Try.prog 12 #[.int .i64 193] w fun e w' => e = .returned (.int .i64 1) ∧ w = w' := by
  go_enter Try.func12, Try.ntmps12
  go_wp2_with (go_at_call 21; first | ((with_reducible refine (in_yes _ _ _ (by omega) (by omega) (by omega) (by omega) (by omega) (by omega) _).mono ?_); rintro e w' ⟨rfl, rfl⟩) | ((with_reducible refine (in_no _ _ _ (by omega) (by omega) (by omega) (by omega) (by omega) _).mono ?_); rintro e w' ⟨rfl, rfl⟩))
  go_ret
  exact ⟨rfl, rfl⟩
theorem ar_22 (w : World) : Calls Try.prog 12 #[.int .i64 194] w fun e w' => e = .returned (.int .i64 1) ∧ w = w' := by
  go_enter Try.func12, Try.ntmps12
  go_wp2_with (go_at_call 21; first | ((with_reducible refine (in_yes _ _ _ (by omega) (by omega) (by omega) (by omega) (by omega) (by omega) _).mono ?_); rintro e w' ⟨rfl, rfl⟩) | ((with_reducible refine (in_no _ _ _ (by omega) (by omega) (by omega) (by omega) (by omega) _).mono ?_); rintro e w' ⟨rfl, rfl⟩))
  go_ret
  exact ⟨rfl, rfl⟩
theorem ar_23 (w : World) : Calls Try.prog 12 #[.int .i64 195] w fun e w' => e = .returned (.int .i64 1) ∧ w = w' := by
  go_enter Try.func12, Try.ntmps12
  go_wp2_with (go_at_call 21; first | ((with_reducible refine (in_yes _ _ _ (by omega) (by omega) (by omega) (by omega) (by omega) (by omega) _).mono ?_); rintro e w' ⟨rfl, rfl⟩) | ((with_reducible refine (in_no _ _ _ (by omega) (by omega) (by omega) (by omega) (by omega) _).mono ?_); rintro e w' ⟨rfl, rfl⟩))
  go_ret
  exact ⟨rfl, rfl⟩
theorem ar_24 (w : World) : Calls Try.prog 12 #[.int .i64 196] w fun e w' => e = .returned (.int .i64 1) ∧ w = w' := by
  go_enter Try.func12, Try.ntmps12
  go_wp2_with (go_at_call 21; first | ((with_reducible refine (in_yes _ _ _ (by omega) (by omega) (by omega) (by omega) (by omega) (by omega) _).mono ?_); rintro e w' ⟨rfl, rfl⟩) | ((with_reducible refine (in_no _ _ _ (by omega) (by omega) (by omega) (by omega) (by omega) _).mono ?_); rintro e w' ⟨rfl, rfl⟩))
  go_ret
  exact ⟨rfl, rfl⟩
theorem ar_25 (op : Int) (h0 : 197 ≤ op) (h1 : op ≤ 9223372036854775807) (w : World) : Calls Try.prog 12 #[.int .i64 op] w fun e w' => e = .returned (.int .i64 0) ∧ w = w' := by
  go_enter Try.func12, Try.ntmps12
  go_wp2_with (go_at_call 21; first | ((with_reducible refine (in_yes _ _ _ (by omega) (by omega) (by omega) (by omega) (by omega) (by omega) _).mono ?_); rintro e w' ⟨rfl, rfl⟩) | ((with_reducible refine (in_no _ _ _ (by omega) (by omega) (by omega) (by omega) (by omega) _).mono ?_); rintro e w' ⟨rfl, rfl⟩))
  go_ret
  exact ⟨rfl, rfl⟩
theorem arity_of (op r : Int) (h : arI op = r) (w : World) (C : Calls Try.prog 12 #[.int .i64 op] w fun e w' => e = .returned (.int .i64 r) ∧ w = w') : Calls Try.prog 12 #[.int .i64 op] w fun e w' => e = .returned (.int .i64 (arI op)) ∧ w = w' := by rw [h]; exact C
set_option maxHeartbeats 4000000 in
theorem arity_any (op : Int) (hop : op ≤ 9223372036854775807) (w : World) : Calls Try.prog 12 #[.int .i64 op] w fun e w' => e = .returned (.int .i64 (arI op)) ∧ w = w' := by
  by_cases h0_26 : op < 124
  · by_cases h0_13 : op < 103
    · by_cases h0_6 : op < 80
      · by_cases h0_3 : op < 69
        · exact arity_of _ 0 (by unfold arI; rw [if_neg (by omega), if_neg (by omega)]) w (ar_0 op (by omega) w)
        · by_cases h1_3 : op < 70
          · obtain rfl : op = 69 := by omega
            exact arity_of _ 1 (by decide) w (ar_1 w)
          · exact arity_of _ 2 (by unfold arI; rw [if_neg (by omega), if_pos (by omega)]) w (ar_2 op (by omega) (by omega) w)
      · by_cases h3_6 : op < 81
        · obtain rfl : op = 80 := by omega
          exact arity_of _ 1 (by decide) w (ar_3 w)
        · by_cases h4_6 : op < 91
          · exact arity_of _ 2 (by unfold arI; rw [if_neg (by omega), if_pos (by omega)]) w (ar_4 op (by omega) (by omega) w)
          · exact arity_of _ 0 (by unfold arI; rw [if_neg (by omega), if_neg (by omega)]) w (ar_5 op (by omega) (by omega) w)
    · by_cases h6_13 : op < 106
      · by_cases h6_9 : op < 104
        · obtain rfl : op = 103 := by omega
          exact arity_of _ 1 (by decide) w (ar_6 w)
        · by_cases h7_9 : op < 105
          · obtain rfl : op = 104 := by omega
            exact arity_of _ 1 (by decide) w (ar_7 w)
          · obtain rfl : op = 105 := by omega
            exact arity_of _ 1 (by decide) w (ar_8 w)
      · by_cases h9_13 : op < 122
        · by_cases h9_11 : op < 121
          · exact arity_of _ 2 (by unfold arI; rw [if_neg (by omega), if_pos (by omega)]) w (ar_9 op (by omega) (by omega) w)
          · obtain rfl : op = 121 := by omega
            exact arity_of _ 1 (by decide) w (ar_10 w)
        · by_cases h11_13 : op < 123
          · obtain rfl : op = 122 := by omega
            exact arity_of _ 1 (by decide) w (ar_11 w)
          · obtain rfl : op = 123 := by omega
            exact arity_of _ 1 (by decide) w (ar_12 w)
  · by_cases h13_26 : op < 174
    · by_cases h13_19 : op < 168
      · by_cases h13_16 : op < 139
        · exact arity_of _ 2 (by unfold arI; rw [if_neg (by omega), if_pos (by omega)]) w (ar_13 op (by omega) (by omega) w)
        · by_cases h14_16 : op < 167
          · exact arity_of _ 0 (by unfold arI; rw [if_neg (by omega), if_neg (by omega)]) w (ar_14 op (by omega) (by omega) w)
          · obtain rfl : op = 167 := by omega
            exact arity_of _ 1 (by decide) w (ar_15 w)
      · by_cases h16_19 : op < 172
        · exact arity_of _ 0 (by unfold arI; rw [if_neg (by omega), if_neg (by omega)]) w (ar_16 op (by omega) (by omega) w)
        · by_cases h17_19 : op < 173
          · obtain rfl : op = 172 := by omega
            exact arity_of _ 1 (by decide) w (ar_17 w)
          · obtain rfl : op = 173 := by omega
            exact arity_of _ 1 (by decide) w (ar_18 w)
    · by_cases h19_26 : op < 194
      · by_cases h19_22 : op < 192
        · exact arity_of _ 0 (by unfold arI; rw [if_neg (by omega), if_neg (by omega)]) w (ar_19 op (by omega) (by omega) w)
        · by_cases h20_22 : op < 193
          · obtain rfl : op = 192 := by omega
            exact arity_of _ 1 (by decide) w (ar_20 w)
          · obtain rfl : op = 193 := by omega
            exact arity_of _ 1 (by decide) w (ar_21 w)
      · by_cases h22_26 : op < 196
        · by_cases h22_24 : op < 195
          · obtain rfl : op = 194 := by omega
            exact arity_of _ 1 (by decide) w (ar_22 w)
          · obtain rfl : op = 195 := by omega
            exact arity_of _ 1 (by decide) w (ar_23 w)
        · by_cases h24_26 : op < 197
          · obtain rfl : op = 196 := by omega
            exact arity_of _ 1 (by decide) w (ar_24 w)
          · exact arity_of _ 0 (by unfold arI; rw [if_neg (by omega), if_neg (by omega)]) w (ar_25 op (by omega) (by omega) w)
end Ins
end Go.Proofs.Ytakleaonmlompaa
