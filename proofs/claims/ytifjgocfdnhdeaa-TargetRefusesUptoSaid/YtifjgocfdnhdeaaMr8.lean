/-
  Texts of this seat, joined: TgB, TgC, TgD, TgE, InsLaw. Each says what it proves.
-/
import Derived.Test.YtifjgocfdnhdeaaMr3
import Derived.Test.YtifjgocfdnhdeaaMr5
import Derived.Test.YtifjgocfdnhdeaaMr7
/- TgB -/
namespace Go.Proofs.Ytifjgocfdnhdeaa
open Go.RowKit
namespace Tg
open Ins
theorem size_lo (op : Int) (h : op ≤ 39) (w : World) : Calls Try.prog 39 #[.int .i64 op] w fun e w' => e = .returned (.int .i64 0) ∧ w = w' := by
 go_enter Try.func39, Try.ntmps39
 go_wp2
 go_ret
 exact ⟨rfl, rfl⟩
theorem size_hi (op : Int) (h : 63 ≤ op) (w : World) : Calls Try.prog 39 #[.int .i64 op] w fun e w' => e = .returned (.int .i64 0) ∧ w = w' := by
 go_enter Try.func39, Try.ntmps39
 go_wp2
 go_ret
 exact ⟨rfl, rfl⟩
theorem size_40 (w : World) : Calls Try.prog 39 #[.int .i64 40] w fun e w' => e = .returned (.int .i64 4) ∧ w = w' := by
 go_enter Try.func39, Try.ntmps39
 go_wp2
 go_ret
 exact ⟨rfl, rfl⟩
theorem size_41 (w : World) : Calls Try.prog 39 #[.int .i64 41] w fun e w' => e = .returned (.int .i64 8) ∧ w = w' := by
 go_enter Try.func39, Try.ntmps39
 go_wp2
 go_ret
 exact ⟨rfl, rfl⟩
theorem size_42 (w : World) : Calls Try.prog 39 #[.int .i64 42] w fun e w' => e = .returned (.int .i64 0) ∧ w = w' := by
 go_enter Try.func39, Try.ntmps39
 go_wp2
 go_ret
 exact ⟨rfl, rfl⟩
theorem size_43 (w : World) : Calls Try.prog 39 #[.int .i64 43] w fun e w' => e = .returned (.int .i64 0) ∧ w = w' := by
 go_enter Try.func39, Try.ntmps39
 go_wp2
 go_ret
 exact ⟨rfl, rfl⟩
theorem size_44 (w : World) : Calls Try.prog 39 #[.int .i64 44] w fun e w' => e = .returned (.int .i64 1) ∧ w = w' := by
 go_enter Try.func39, Try.ntmps39
 go_wp2
 go_ret
 exact ⟨rfl, rfl⟩
theorem size_45 (w : World) : Calls Try.prog 39 #[.int .i64 45] w fun e w' => e = .returned (.int .i64 1) ∧ w = w' := by
 go_enter Try.func39, Try.ntmps39
 go_wp2
 go_ret
 exact ⟨rfl, rfl⟩
theorem size_46 (w : World) : Calls Try.prog 39 #[.int .i64 46] w fun e w' => e = .returned (.int .i64 2) ∧ w = w' := by
 go_enter Try.func39, Try.ntmps39
 go_wp2
 go_ret
 exact ⟨rfl, rfl⟩
theorem size_47 (w : World) : Calls Try.prog 39 #[.int .i64 47] w fun e w' => e = .returned (.int .i64 2) ∧ w = w' := by
 go_enter Try.func39, Try.ntmps39
 go_wp2
 go_ret
 exact ⟨rfl, rfl⟩
theorem size_48 (w : World) : Calls Try.prog 39 #[.int .i64 48] w fun e w' => e = .returned (.int .i64 1) ∧ w = w' := by
 go_enter Try.func39, Try.ntmps39
 go_wp2
 go_ret
 exact ⟨rfl, rfl⟩
theorem size_49 (w : World) : Calls Try.prog 39 #[.int .i64 49] w fun e w' => e = .returned (.int .i64 1) ∧ w = w' := by
 go_enter Try.func39, Try.ntmps39
 go_wp2
 go_ret
 exact ⟨rfl, rfl⟩
theorem size_50 (w : World) : Calls Try.prog 39 #[.int .i64 50] w fun e w' => e = .returned (.int .i64 2) ∧ w = w' := by
 go_enter Try.func39, Try.ntmps39
 go_wp2
 go_ret
 exact ⟨rfl, rfl⟩
theorem size_51 (w : World) : Calls Try.prog 39 #[.int .i64 51] w fun e w' => e = .returned (.int .i64 2) ∧ w = w' := by
 go_enter Try.func39, Try.ntmps39
 go_wp2
 go_ret
 exact ⟨rfl, rfl⟩
theorem size_52 (w : World) : Calls Try.prog 39 #[.int .i64 52] w fun e w' => e = .returned (.int .i64 4) ∧ w = w' := by
 go_enter Try.func39, Try.ntmps39
 go_wp2
 go_ret
 exact ⟨rfl, rfl⟩
theorem size_53 (w : World) : Calls Try.prog 39 #[.int .i64 53] w fun e w' => e = .returned (.int .i64 4) ∧ w = w' := by
 go_enter Try.func39, Try.ntmps39
 go_wp2
 go_ret
 exact ⟨rfl, rfl⟩
theorem size_54 (w : World) : Calls Try.prog 39 #[.int .i64 54] w fun e w' => e = .returned (.int .i64 4) ∧ w = w' := by
 go_enter Try.func39, Try.ntmps39
 go_wp2
 go_ret
 exact ⟨rfl, rfl⟩
theorem size_55 (w : World) : Calls Try.prog 39 #[.int .i64 55] w fun e w' => e = .returned (.int .i64 8) ∧ w = w' := by
 go_enter Try.func39, Try.ntmps39
 go_wp2
 go_ret
 exact ⟨rfl, rfl⟩
theorem size_56 (w : World) : Calls Try.prog 39 #[.int .i64 56] w fun e w' => e = .returned (.int .i64 0) ∧ w = w' := by
 go_enter Try.func39, Try.ntmps39
 go_wp2
 go_ret
 exact ⟨rfl, rfl⟩
theorem size_57 (w : World) : Calls Try.prog 39 #[.int .i64 57] w fun e w' => e = .returned (.int .i64 0) ∧ w = w' := by
 go_enter Try.func39, Try.ntmps39
 go_wp2
 go_ret
 exact ⟨rfl, rfl⟩
theorem size_58 (w : World) : Calls Try.prog 39 #[.int .i64 58] w fun e w' => e = .returned (.int .i64 1) ∧ w = w' := by
 go_enter Try.func39, Try.ntmps39
 go_wp2
 go_ret
 exact ⟨rfl, rfl⟩
theorem size_59 (w : World) : Calls Try.prog 39 #[.int .i64 59] w fun e w' => e = .returned (.int .i64 2) ∧ w = w' := by
 go_enter Try.func39, Try.ntmps39
 go_wp2
 go_ret
 exact ⟨rfl, rfl⟩
theorem size_60 (w : World) : Calls Try.prog 39 #[.int .i64 60] w fun e w' => e = .returned (.int .i64 1) ∧ w = w' := by
 go_enter Try.func39, Try.ntmps39
 go_wp2
 go_ret
 exact ⟨rfl, rfl⟩
theorem size_61 (w : World) : Calls Try.prog 39 #[.int .i64 61] w fun e w' => e = .returned (.int .i64 2) ∧ w = w' := by
 go_enter Try.func39, Try.ntmps39
 go_wp2
 go_ret
 exact ⟨rfl, rfl⟩
theorem size_62 (w : World) : Calls Try.prog 39 #[.int .i64 62] w fun e w' => e = .returned (.int .i64 4) ∧ w = w' := by
 go_enter Try.func39, Try.ntmps39
 go_wp2
 go_ret
 exact ⟨rfl, rfl⟩
theorem size_any (op : Int) (w : World) : Calls Try.prog 39 #[.int .i64 op] w fun e w' => e = .returned (.int .i64 (szI op)) ∧ w = w' := by
 by_cases h0 : op ≤ 39
 ·rw [show szI op = 0 by unfold szI; rw [if_neg (by omega), if_neg (by omega), if_neg (by omega), if_neg (by omega)]]
  exact size_lo op h0 w
 ·by_cases h1 : 63 ≤ op
  ·rw [show szI op = 0 by unfold szI; rw [if_neg (by omega), if_neg (by omega), if_neg (by omega), if_neg (by omega)]]
   exact size_hi op h1 w
  ·have h : op = 40 ∨ op = 41 ∨ op = 42 ∨ op = 43 ∨ op = 44 ∨ op = 45 ∨ op = 46 ∨ op = 47 ∨ op = 48 ∨ op = 49 ∨ op = 50 ∨ op = 51 ∨ op = 52 ∨ op = 53 ∨ op = 54 ∨ op = 55 ∨ op = 56 ∨ op = 57 ∨ op = 58 ∨ op = 59 ∨ op = 60 ∨ op = 61 ∨ op = 62 := by omega
   rcases h with rfl | rfl | rfl | rfl | rfl | rfl | rfl | rfl | rfl | rfl | rfl | rfl | rfl | rfl | rfl | rfl | rfl | rfl | rfl | rfl | rfl | rfl | rfl
   ·exact size_40 w
   ·exact size_41 w
   ·exact size_42 w
   ·exact size_43 w
   ·exact size_44 w
   ·exact size_45 w
   ·exact size_46 w
   ·exact size_47 w
   ·exact size_48 w
   ·exact size_49 w
   ·exact size_50 w
   ·exact size_51 w
   ·exact size_52 w
   ·exact size_53 w
   ·exact size_54 w
   ·exact size_55 w
   ·exact size_56 w
   ·exact size_57 w
   ·exact size_58 w
   ·exact size_59 w
   ·exact size_60 w
   ·exact size_61 w
   ·exact size_62 w
theorem stores_any (op : Int) (w : World) : Calls Try.prog 43 #[.int .i64 op] w fun e w' => e = .returned (.bool (strB op)) ∧ w = w' := by
 have HS := Lib.hid (size_any op w)
 obtain ⟨s, hs⟩ : ∃ s, szI op = s := ⟨_, rfl⟩
 rw [hs] at HS
 unfold strB
 rw [hs]
 clear hs
 by_cases h : 54 ≤ op
 ·rw [decide_eq_true h]
  go_enter Try.func43, Try.ntmps43
  go_wp2_with fail
  refine HS.out.mono ?_
  rintro e w1 ⟨rfl, rfl⟩
  go_wp2
  go_ret
  exact ⟨by simp, rfl⟩
 ·rw [decide_eq_false h]
  go_enter Try.func43, Try.ntmps43
  go_wp2_with fail
  go_wp2
  go_ret
  exact ⟨rfl, rfl⟩
theorem below_any (n e : Int) (w : World) : Calls Try.prog 42 #[.int .i64 n, .int .i64 e] w fun r w' => r = .returned (.bool (belB n e)) ∧ w = w' := by
 unfold belB
 by_cases h : 0 ≤ n
 ·rw [decide_eq_true h]
  go_enter Try.func42, Try.ntmps42
  go_wp2
  go_ret
  exact ⟨by simp, rfl⟩
 ·rw [decide_eq_false h]
  go_enter Try.func42, Try.ntmps42
  go_wp2
  go_ret
  exact ⟨rfl, rfl⟩
theorem scal_0 (w : World) : Calls Try.prog 22 #[.int .i64 0] w fun e w' => e = .returned (.bool true) ∧ w = w' := by
 go_enter Try.func22, Try.ntmps22
 go_wp2
 go_ret
 exact ⟨rfl, rfl⟩
theorem scal_12 (w : World) : Calls Try.prog 22 #[.int .i64 12] w fun e w' => e = .returned (.bool true) ∧ w = w' := by
 go_enter Try.func22, Try.ntmps22
 go_wp2
 go_ret
 exact ⟨rfl, rfl⟩
theorem scal_13 (w : World) : Calls Try.prog 22 #[.int .i64 13] w fun e w' => e = .returned (.bool true) ∧ w = w' := by
 go_enter Try.func22, Try.ntmps22
 go_wp2
 go_ret
 exact ⟨rfl, rfl⟩
theorem scal_14 (w : World) : Calls Try.prog 22 #[.int .i64 14] w fun e w' => e = .returned (.bool true) ∧ w = w' := by
 go_enter Try.func22, Try.ntmps22
 go_wp2
 go_ret
 exact ⟨rfl, rfl⟩
theorem scal_15 (w : World) : Calls Try.prog 22 #[.int .i64 15] w fun e w' => e = .returned (.bool true) ∧ w = w' := by
 go_enter Try.func22, Try.ntmps22
 go_wp2
 go_ret
 exact ⟨rfl, rfl⟩
theorem scal_16 (w : World) : Calls Try.prog 22 #[.int .i64 16] w fun e w' => e = .returned (.bool true) ∧ w = w' := by
 go_enter Try.func22, Try.ntmps22
 go_wp2
 go_ret
 exact ⟨rfl, rfl⟩
theorem scal_17 (w : World) : Calls Try.prog 22 #[.int .i64 17] w fun e w' => e = .returned (.bool true) ∧ w = w' := by
 go_enter Try.func22, Try.ntmps22
 go_wp2
 go_ret
 exact ⟨rfl, rfl⟩
theorem scal_26 (w : World) : Calls Try.prog 22 #[.int .i64 26] w fun e w' => e = .returned (.bool true) ∧ w = w' := by
 go_enter Try.func22, Try.ntmps22
 go_wp2
 go_ret
 exact ⟨rfl, rfl⟩
theorem scal_27 (w : World) : Calls Try.prog 22 #[.int .i64 27] w fun e w' => e = .returned (.bool true) ∧ w = w' := by
 go_enter Try.func22, Try.ntmps22
 go_wp2
 go_ret
 exact ⟨rfl, rfl⟩
theorem scal_32 (w : World) : Calls Try.prog 22 #[.int .i64 32] w fun e w' => e = .returned (.bool true) ∧ w = w' := by
 go_enter Try.func22, Try.ntmps22
 go_wp2
 go_ret
 exact ⟨rfl, rfl⟩
theorem scal_33 (w : World) : Calls Try.prog 22 #[.int .i64 33] w fun e w' => e = .returned (.bool true) ∧ w = w' := by
 go_enter Try.func22, Try.ntmps22
 go_wp2
 go_ret
 exact ⟨rfl, rfl⟩
theorem scal_34 (w : World) : Calls Try.prog 22 #[.int .i64 34] w fun e w' => e = .returned (.bool true) ∧ w = w' := by
 go_enter Try.func22, Try.ntmps22
 go_wp2
 go_ret
 exact ⟨rfl, rfl⟩
theorem scal_35 (w : World) : Calls Try.prog 22 #[.int .i64 35] w fun e w' => e = .returned (.bool true) ∧ w = w' := by
 go_enter Try.func22, Try.ntmps22
 go_wp2
 go_ret
 exact ⟨rfl, rfl⟩
theorem scal_36 (w : World) : Calls Try.prog 22 #[.int .i64 36] w fun e w' => e = .returned (.bool true) ∧ w = w' := by
 go_enter Try.func22, Try.ntmps22
 go_wp2
 go_ret
 exact ⟨rfl, rfl⟩
theorem scal_63 (w : World) : Calls Try.prog 22 #[.int .i64 63] w fun e w' => e = .returned (.bool true) ∧ w = w' := by
 go_enter Try.func22, Try.ntmps22
 go_wp2
 go_ret
 exact ⟨rfl, rfl⟩
theorem scal_64 (w : World) : Calls Try.prog 22 #[.int .i64 64] w fun e w' => e = .returned (.bool true) ∧ w = w' := by
 go_enter Try.func22, Try.ntmps22
 go_wp2
 go_ret
 exact ⟨rfl, rfl⟩
theorem scal_66 (w : World) : Calls Try.prog 22 #[.int .i64 66] w fun e w' => e = .returned (.bool true) ∧ w = w' := by
 go_enter Try.func22, Try.ntmps22
 go_wp2
 go_ret
 exact ⟨rfl, rfl⟩
theorem scal_256 (w : World) : Calls Try.prog 22 #[.int .i64 256] w fun e w' => e = .returned (.bool true) ∧ w = w' := by
 go_enter Try.func22, Try.ntmps22
 go_wp2
 go_ret
 exact ⟨rfl, rfl⟩
theorem scal_257 (w : World) : Calls Try.prog 22 #[.int .i64 257] w fun e w' => e = .returned (.bool true) ∧ w = w' := by
 go_enter Try.func22, Try.ntmps22
 go_wp2
 go_ret
 exact ⟨rfl, rfl⟩
theorem scal_no (op : Int) (hop : op ≤ 9223372036854775807) (h : ¬ CtlP op) (w : World) : Calls Try.prog 22 #[.int .i64 op] w fun e w' => e = .returned (.bool ((arI op != 0) || (szI op != 0))) ∧ w = w' := by
 unfold CtlP at h
 have HA := Lib.hid (fun w => arity_any op hop w)
 have HS := Lib.hid (fun w => size_any op w)
 obtain ⟨a, ha⟩ : ∃ a, arI op = a := ⟨_, rfl⟩
 obtain ⟨s, hs⟩ : ∃ s, szI op = s := ⟨_, rfl⟩
 rw [ha] at HA ⊢
 rw [hs] at HS ⊢
 have t0 : (op == 0) = false := by simp; omega
 have t12 : (op == 12) = false := by simp; omega
 have t13 : (op == 13) = false := by simp; omega
 have t14 : (op == 14) = false := by simp; omega
 have t15 : (op == 15) = false := by simp; omega
 have t16 : (op == 16) = false := by simp; omega
 have t17 : (op == 17) = false := by simp; omega
 have t26 : (op == 26) = false := by simp; omega
 have t27 : (op == 27) = false := by simp; omega
 have t32 : (op == 32) = false := by simp; omega
 have t33 : (op == 33) = false := by simp; omega
 have t34 : (op == 34) = false := by simp; omega
 have t35 : (op == 35) = false := by simp; omega
 have t36 : (op == 36) = false := by simp; omega
 have t63 : (op == 63) = false := by simp; omega
 have t64 : (op == 64) = false := by simp; omega
 have t66 : (op == 66) = false := by simp; omega
 have t256 : (op == 256) = false := by simp; omega
 have t257 : (op == 257) = false := by simp; omega
 clear h ha hs
 by_cases hz : a = 0
 ·subst hz
  go_enter Try.func22, Try.ntmps22
  go_wp2_with fail
  refine (HA.out _).mono ?_
  rintro e w1 ⟨rfl, rfl⟩
  go_wp2_with fail
  refine (HS.out _).mono ?_
  rintro e w1 ⟨rfl, rfl⟩
  go_wp2
  go_ret
  exact ⟨by simp, rfl⟩
 ·have hz' : (a != 0) = true := by simp [hz]
  go_enter Try.func22, Try.ntmps22
  go_wp2_with fail
  refine (HA.out _).mono ?_
  rintro e w1 ⟨rfl, rfl⟩
  go_wp2
  go_ret
  exact ⟨by simp [hz], rfl⟩
theorem scalar_any (op : Int) (hop : op ≤ 9223372036854775807) (w : World) : Calls Try.prog 22 #[.int .i64 op] w fun e w' => e = .returned (.bool (sclB op)) ∧ w = w' := by
 by_cases h : CtlP op
 ·rw [show sclB op = true by unfold sclB; rw [decide_eq_true h]; rfl]
  unfold CtlP at h
  rcases h with rfl | rfl | rfl | rfl | rfl | rfl | rfl | rfl | rfl | rfl | rfl | rfl | rfl | rfl | rfl | rfl | rfl | rfl | rfl
  ·exact scal_0 w
  ·exact scal_12 w
  ·exact scal_13 w
  ·exact scal_14 w
  ·exact scal_15 w
  ·exact scal_16 w
  ·exact scal_17 w
  ·exact scal_26 w
  ·exact scal_27 w
  ·exact scal_32 w
  ·exact scal_33 w
  ·exact scal_34 w
  ·exact scal_35 w
  ·exact scal_36 w
  ·exact scal_63 w
  ·exact scal_64 w
  ·exact scal_66 w
  ·exact scal_256 w
  ·exact scal_257 w
 ·rw [show sclB op = ((arI op != 0) || (szI op != 0)) by unfold sclB; rw [decide_eq_false h, Bool.false_or]]
  exact scal_no op hop h w
theorem tscalar_any (op : Int) (hop : op ≤ 9223372036854775807) (w : World) : Calls Try.prog 10 #[.int .i64 op] w fun e w' => e = .returned (.bool (sclB op)) ∧ w = w' := by
 have HS := Lib.hid (scalar_any op hop w)
 go_enter Try.func10, Try.ntmps10
 go_wp2_with fail
 refine HS.out.mono ?_
 rintro e w1 ⟨rfl, rfl⟩
 go_wp2
 go_ret
 exact ⟨rfl, rfl⟩
end Tg
end Go.Proofs.Ytifjgocfdnhdeaa
/- TgC -/
namespace Go.Proofs.Ytifjgocfdnhdeaa
open Go.RowKit
namespace Tg
open Ins
theorem cells2 {w : World} {g : Nat} {a b : Value} {t : TypeId} {z : Nat × Nat} (h : w.heap[g]? = some (.cells #[a, b] t z)) : w.cell? ⟨g, 0, none⟩ = some a ∧ w.cell? ⟨g, 1, none⟩ = some b :=
 ⟨(cell_of_row _ _ 0 _ _ _ h).trans rfl, (cell_of_row _ _ 1 _ _ _ h).trans rfl⟩
theorem cells3 {w : World} {g : Nat} {a b c : Value} {t : TypeId} {z : Nat × Nat} (h : w.heap[g]? = some (.cells #[a, b, c] t z)) : w.cell? ⟨g, 0, none⟩ = some a ∧ w.cell? ⟨g, 1, none⟩ = some b ∧ w.cell? ⟨g, 2, none⟩ = some c :=
 ⟨(cell_of_row _ _ 0 _ _ _ h).trans rfl, (cell_of_row _ _ 1 _ _ _ h).trans rfl, (cell_of_row _ _ 2 _ _ _ h).trans rfl⟩
theorem cells7 {w : World} {g : Nat} {a b c d e f m : Value} {t : TypeId} {z : Nat × Nat} (h : w.heap[g]? = some (.cells #[a, b, c, d, e, f, m] t z)) : w.cell? ⟨g, 0, none⟩ = some a ∧ w.cell? ⟨g, 1, none⟩ = some b ∧ w.cell? ⟨g, 2, none⟩ = some c ∧ w.cell? ⟨g, 3, none⟩ = some d ∧ w.cell? ⟨g, 4, none⟩ = some e ∧ w.cell? ⟨g, 5, none⟩ = some f ∧ w.cell? ⟨g, 6, none⟩ = some m :=
 ⟨(cell_of_row _ _ 0 _ _ _ h).trans rfl, (cell_of_row _ _ 1 _ _ _ h).trans rfl, (cell_of_row _ _ 2 _ _ _ h).trans rfl, (cell_of_row _ _ 3 _ _ _ h).trans rfl, (cell_of_row _ _ 4 _ _ _ h).trans rfl, (cell_of_row _ _ 5 _ _ _ h).trans rfl, (cell_of_row _ _ 6 _ _ _ h).trans rfl⟩
theorem hsz_alloc (w : World) (o : Obj) : (w.alloc o).heap.size = w.heap.size + 1 := by simp
theorem box2 (w : World) (A B : Array Value) (t u : TypeId) :
  Gr w ((w.alloc (.cells A t)).alloc (.cells B u)) ∧ ((w.alloc (.cells A t)).alloc (.cells B u)).heap[w.heap.size]? = some (.cells A t) ∧ ((w.alloc (.cells A t)).alloc (.cells B u)).heap[w.heap.size + 1]? = some (.cells B u) :=
 ⟨((Gr.refl w).alloc _ _).alloc _ _, gr_block ((Gr.refl (w.alloc (.cells A t))).alloc _ _) (heap_alloc_new w _), by rw [← hsz_alloc w (.cells A t)]; exact heap_alloc_new _ _⟩
theorem box3 (w : World) (A B C : Array Value) (t u v : TypeId) :
  Gr w (((w.alloc (.cells A t)).alloc (.cells B u)).alloc (.cells C v)) ∧ (((w.alloc (.cells A t)).alloc (.cells B u)).alloc (.cells C v)).heap[w.heap.size]? = some (.cells A t) ∧ (((w.alloc (.cells A t)).alloc (.cells B u)).alloc (.cells C v)).heap[w.heap.size + 1]? = some (.cells B u) ∧ (((w.alloc (.cells A t)).alloc (.cells B u)).alloc (.cells C v)).heap[w.heap.size + 1 + 1]? = some (.cells C v) := by
 have h := box2 w A B t u
 have hg := (Gr.refl ((w.alloc (.cells A t)).alloc (.cells B u))).alloc C v
 refine ⟨gr_trans h.1 hg, gr_block hg h.2.1, gr_block hg h.2.2, ?_⟩
 rw [show w.heap.size + 1 + 1 = ((w.alloc (.cells A t)).alloc (.cells B u)).heap.size by rw [hsz_alloc, hsz_alloc]]
 exact heap_alloc_new _ _
def effF (P : Pr) (out : Int) (c : Ce) : Int × Int :=
 if c.op = 15 then (out, 0)
 else if c.op = 16 ∧ 0 ≤ c.a ∧ c.a < P.fs.length then ((P.fs[c.a.toNat]?.map (·.f.inn)).getD 0, (P.fs[c.a.toNat]?.map (·.f.out)).getD 0)
 else if c.op = 17 ∧ 0 ≤ c.a ∧ c.a < P.ss.length then (1 + ((P.ss[c.a.toNat]?.map (·.s.i.length)).getD 0 : Nat), ((P.ss[c.a.toNat]?.map (·.s.o.length)).getD 0 : Nat))
 else if c.op = 256 then (wrap64 (c.a + wrap64 c.n), c.a)
 else if c.op = 27 then (3, 1)
 else if c.op = 13 ∨ c.op = 14 ∨ c.op = 26 ∨ c.op = 33 ∨ c.op = 36 then (1, 0)
 else if c.op = 32 ∨ c.op = 35 ∨ c.op = 63 ∨ c.op = 66 then (0, 1)
 else if c.op = 34 ∨ c.op = 64 then (1, 1)
 else if arI c.op ≠ 0 then (arI c.op, 1)
 else if strB c.op = true then (2, 0)
 else if szI c.op ≠ 0 then (1, 1) else (0, 0)
theorem eff_15 {w : World} {xs xf xc : Option Addr} {ns cs nf cf nc cc : Nat} {host sig inn out loc a n : Int} {mv : Value} :
  Calls Try.prog 28 #[.agg #[.slice xs ns cs, .slice xf nf cf], .agg #[.int .i64 host, .int .i64 sig, .int .i64 inn, .int .i64 out, .int .i64 loc, .slice xc nc cc, mv], .agg #[.int .i64 15, .int .i64 a, .int .u64 n]] w fun e w' => e = .returned (.tuple #[.int .i64 out, .int .i64 0]) ∧ Gr w w' := by
 go_enter Try.func28, Try.ntmps28
 go_upto_region 1 with fail
 obtain ⟨hg, hb1, hb2, hb3⟩ := box3 w #[.slice xs ns cs, .slice xf nf cf] #[.int .i64 host, .int .i64 sig, .int .i64 inn, .int .i64 out, .int .i64 loc, .slice xc nc cc, mv] #[.int .i64 15, .int .i64 a, .int .u64 n] 34 39 47
 generalize ((w.alloc (.cells #[.slice xs ns cs, .slice xf nf cf] 34)).alloc (.cells #[.int .i64 host, .int .i64 sig, .int .i64 inn, .int .i64 out, .int .i64 loc, .slice xc nc cc, mv] 39)).alloc (.cells #[.int .i64 15, .int .i64 a, .int .u64 n] 47) = w1 at *
 have HG := Lib.hid hg
 obtain ⟨p0, p1⟩ := cells2 hb1
 obtain ⟨f0, f1, f2, f3, f4, f5, f6⟩ := cells7 hb2
 obtain ⟨c0, c1, c2⟩ := cells3 hb3
 clear hg hb1 hb2 hb3
 go_wp2
 go_ret2
 exact ⟨rfl, HG.out⟩
theorem eff_256 {w : World} {xs xf xc : Option Addr} {ns cs nf cf nc cc : Nat} {host sig inn out loc a n : Int} {mv : Value} :
  Calls Try.prog 28 #[.agg #[.slice xs ns cs, .slice xf nf cf], .agg #[.int .i64 host, .int .i64 sig, .int .i64 inn, .int .i64 out, .int .i64 loc, .slice xc nc cc, mv], .agg #[.int .i64 256, .int .i64 a, .int .u64 n]] w fun e w' => e = .returned (.tuple #[.int .i64 (wrap64 (a + wrap64 n)), .int .i64 a]) ∧ Gr w w' := by
 go_enter Try.func28, Try.ntmps28
 go_upto_region 1 with fail
 obtain ⟨hg, hb1, hb2, hb3⟩ := box3 w #[.slice xs ns cs, .slice xf nf cf] #[.int .i64 host, .int .i64 sig, .int .i64 inn, .int .i64 out, .int .i64 loc, .slice xc nc cc, mv] #[.int .i64 256, .int .i64 a, .int .u64 n] 34 39 47
 generalize ((w.alloc (.cells #[.slice xs ns cs, .slice xf nf cf] 34)).alloc (.cells #[.int .i64 host, .int .i64 sig, .int .i64 inn, .int .i64 out, .int .i64 loc, .slice xc nc cc, mv] 39)).alloc (.cells #[.int .i64 256, .int .i64 a, .int .u64 n] 47) = w1 at *
 have HG := Lib.hid hg
 obtain ⟨p0, p1⟩ := cells2 hb1
 obtain ⟨f0, f1, f2, f3, f4, f5, f6⟩ := cells7 hb2
 obtain ⟨c0, c1, c2⟩ := cells3 hb3
 clear hg hb1 hb2 hb3
 have T1 : IntKind.i64.wrap (a + wrap64 n) = wrap64 (a + wrap64 n) := by rw [IntKind.wrap_i64]; unfold wrap64; omega
 go_wp2_with fail
 go_quiet (fail)
 go_wp2
 go_ret2
 exact ⟨rfl, HG.out.drewN _⟩
theorem eff_27 {w : World} {xs xf xc : Option Addr} {ns cs nf cf nc cc : Nat} {host sig inn out loc a n : Int} {mv : Value} :
  Calls Try.prog 28 #[.agg #[.slice xs ns cs, .slice xf nf cf], .agg #[.int .i64 host, .int .i64 sig, .int .i64 inn, .int .i64 out, .int .i64 loc, .slice xc nc cc, mv], .agg #[.int .i64 27, .int .i64 a, .int .u64 n]] w fun e w' => e = .returned (.tuple #[.int .i64 3, .int .i64 1]) ∧ Gr w w' := by
 go_enter Try.func28, Try.ntmps28
 go_upto_region 1 with fail
 obtain ⟨hg, hb1, hb2, hb3⟩ := box3 w #[.slice xs ns cs, .slice xf nf cf] #[.int .i64 host, .int .i64 sig, .int .i64 inn, .int .i64 out, .int .i64 loc, .slice xc nc cc, mv] #[.int .i64 27, .int .i64 a, .int .u64 n] 34 39 47
 generalize ((w.alloc (.cells #[.slice xs ns cs, .slice xf nf cf] 34)).alloc (.cells #[.int .i64 host, .int .i64 sig, .int .i64 inn, .int .i64 out, .int .i64 loc, .slice xc nc cc, mv] 39)).alloc (.cells #[.int .i64 27, .int .i64 a, .int .u64 n] 47) = w1 at *
 have HG := Lib.hid hg
 obtain ⟨p0, p1⟩ := cells2 hb1
 obtain ⟨f0, f1, f2, f3, f4, f5, f6⟩ := cells7 hb2
 obtain ⟨c0, c1, c2⟩ := cells3 hb3
 clear hg hb1 hb2 hb3
 go_wp2
 go_ret2
 exact ⟨rfl, HG.out⟩
theorem eff_13 {w : World} {xs xf xc : Option Addr} {ns cs nf cf nc cc : Nat} {host sig inn out loc a n : Int} {mv : Value} :
  Calls Try.prog 28 #[.agg #[.slice xs ns cs, .slice xf nf cf], .agg #[.int .i64 host, .int .i64 sig, .int .i64 inn, .int .i64 out, .int .i64 loc, .slice xc nc cc, mv], .agg #[.int .i64 13, .int .i64 a, .int .u64 n]] w fun e w' => e = .returned (.tuple #[.int .i64 1, .int .i64 0]) ∧ Gr w w' := by
 go_enter Try.func28, Try.ntmps28
 go_upto_region 1 with fail
 obtain ⟨hg, hb1, hb2, hb3⟩ := box3 w #[.slice xs ns cs, .slice xf nf cf] #[.int .i64 host, .int .i64 sig, .int .i64 inn, .int .i64 out, .int .i64 loc, .slice xc nc cc, mv] #[.int .i64 13, .int .i64 a, .int .u64 n] 34 39 47
 generalize ((w.alloc (.cells #[.slice xs ns cs, .slice xf nf cf] 34)).alloc (.cells #[.int .i64 host, .int .i64 sig, .int .i64 inn, .int .i64 out, .int .i64 loc, .slice xc nc cc, mv] 39)).alloc (.cells #[.int .i64 13, .int .i64 a, .int .u64 n] 47) = w1 at *
 have HG := Lib.hid hg
 obtain ⟨p0, p1⟩ := cells2 hb1
 obtain ⟨f0, f1, f2, f3, f4, f5, f6⟩ := cells7 hb2
 obtain ⟨c0, c1, c2⟩ := cells3 hb3
 clear hg hb1 hb2 hb3
 go_wp2
 go_ret2
 exact ⟨rfl, HG.out⟩
theorem eff_14 {w : World} {xs xf xc : Option Addr} {ns cs nf cf nc cc : Nat} {host sig inn out loc a n : Int} {mv : Value} :
  Calls Try.prog 28 #[.agg #[.slice xs ns cs, .slice xf nf cf], .agg #[.int .i64 host, .int .i64 sig, .int .i64 inn, .int .i64 out, .int .i64 loc, .slice xc nc cc, mv], .agg #[.int .i64 14, .int .i64 a, .int .u64 n]] w fun e w' => e = .returned (.tuple #[.int .i64 1, .int .i64 0]) ∧ Gr w w' := by
 go_enter Try.func28, Try.ntmps28
 go_upto_region 1 with fail
 obtain ⟨hg, hb1, hb2, hb3⟩ := box3 w #[.slice xs ns cs, .slice xf nf cf] #[.int .i64 host, .int .i64 sig, .int .i64 inn, .int .i64 out, .int .i64 loc, .slice xc nc cc, mv] #[.int .i64 14, .int .i64 a, .int .u64 n] 34 39 47
 generalize ((w.alloc (.cells #[.slice xs ns cs, .slice xf nf cf] 34)).alloc (.cells #[.int .i64 host, .int .i64 sig, .int .i64 inn, .int .i64 out, .int .i64 loc, .slice xc nc cc, mv] 39)).alloc (.cells #[.int .i64 14, .int .i64 a, .int .u64 n] 47) = w1 at *
 have HG := Lib.hid hg
 obtain ⟨p0, p1⟩ := cells2 hb1
 obtain ⟨f0, f1, f2, f3, f4, f5, f6⟩ := cells7 hb2
 obtain ⟨c0, c1, c2⟩ := cells3 hb3
 clear hg hb1 hb2 hb3
 go_wp2
 go_ret2
 exact ⟨rfl, HG.out⟩
theorem eff_26 {w : World} {xs xf xc : Option Addr} {ns cs nf cf nc cc : Nat} {host sig inn out loc a n : Int} {mv : Value} :
  Calls Try.prog 28 #[.agg #[.slice xs ns cs, .slice xf nf cf], .agg #[.int .i64 host, .int .i64 sig, .int .i64 inn, .int .i64 out, .int .i64 loc, .slice xc nc cc, mv], .agg #[.int .i64 26, .int .i64 a, .int .u64 n]] w fun e w' => e = .returned (.tuple #[.int .i64 1, .int .i64 0]) ∧ Gr w w' := by
 go_enter Try.func28, Try.ntmps28
 go_upto_region 1 with fail
 obtain ⟨hg, hb1, hb2, hb3⟩ := box3 w #[.slice xs ns cs, .slice xf nf cf] #[.int .i64 host, .int .i64 sig, .int .i64 inn, .int .i64 out, .int .i64 loc, .slice xc nc cc, mv] #[.int .i64 26, .int .i64 a, .int .u64 n] 34 39 47
 generalize ((w.alloc (.cells #[.slice xs ns cs, .slice xf nf cf] 34)).alloc (.cells #[.int .i64 host, .int .i64 sig, .int .i64 inn, .int .i64 out, .int .i64 loc, .slice xc nc cc, mv] 39)).alloc (.cells #[.int .i64 26, .int .i64 a, .int .u64 n] 47) = w1 at *
 have HG := Lib.hid hg
 obtain ⟨p0, p1⟩ := cells2 hb1
 obtain ⟨f0, f1, f2, f3, f4, f5, f6⟩ := cells7 hb2
 obtain ⟨c0, c1, c2⟩ := cells3 hb3
 clear hg hb1 hb2 hb3
 go_wp2
 go_ret2
 exact ⟨rfl, HG.out⟩
theorem eff_33 {w : World} {xs xf xc : Option Addr} {ns cs nf cf nc cc : Nat} {host sig inn out loc a n : Int} {mv : Value} :
  Calls Try.prog 28 #[.agg #[.slice xs ns cs, .slice xf nf cf], .agg #[.int .i64 host, .int .i64 sig, .int .i64 inn, .int .i64 out, .int .i64 loc, .slice xc nc cc, mv], .agg #[.int .i64 33, .int .i64 a, .int .u64 n]] w fun e w' => e = .returned (.tuple #[.int .i64 1, .int .i64 0]) ∧ Gr w w' := by
 go_enter Try.func28, Try.ntmps28
 go_upto_region 1 with fail
 obtain ⟨hg, hb1, hb2, hb3⟩ := box3 w #[.slice xs ns cs, .slice xf nf cf] #[.int .i64 host, .int .i64 sig, .int .i64 inn, .int .i64 out, .int .i64 loc, .slice xc nc cc, mv] #[.int .i64 33, .int .i64 a, .int .u64 n] 34 39 47
 generalize ((w.alloc (.cells #[.slice xs ns cs, .slice xf nf cf] 34)).alloc (.cells #[.int .i64 host, .int .i64 sig, .int .i64 inn, .int .i64 out, .int .i64 loc, .slice xc nc cc, mv] 39)).alloc (.cells #[.int .i64 33, .int .i64 a, .int .u64 n] 47) = w1 at *
 have HG := Lib.hid hg
 obtain ⟨p0, p1⟩ := cells2 hb1
 obtain ⟨f0, f1, f2, f3, f4, f5, f6⟩ := cells7 hb2
 obtain ⟨c0, c1, c2⟩ := cells3 hb3
 clear hg hb1 hb2 hb3
 go_wp2
 go_ret2
 exact ⟨rfl, HG.out⟩
theorem eff_36 {w : World} {xs xf xc : Option Addr} {ns cs nf cf nc cc : Nat} {host sig inn out loc a n : Int} {mv : Value} :
  Calls Try.prog 28 #[.agg #[.slice xs ns cs, .slice xf nf cf], .agg #[.int .i64 host, .int .i64 sig, .int .i64 inn, .int .i64 out, .int .i64 loc, .slice xc nc cc, mv], .agg #[.int .i64 36, .int .i64 a, .int .u64 n]] w fun e w' => e = .returned (.tuple #[.int .i64 1, .int .i64 0]) ∧ Gr w w' := by
 go_enter Try.func28, Try.ntmps28
 go_upto_region 1 with fail
 obtain ⟨hg, hb1, hb2, hb3⟩ := box3 w #[.slice xs ns cs, .slice xf nf cf] #[.int .i64 host, .int .i64 sig, .int .i64 inn, .int .i64 out, .int .i64 loc, .slice xc nc cc, mv] #[.int .i64 36, .int .i64 a, .int .u64 n] 34 39 47
 generalize ((w.alloc (.cells #[.slice xs ns cs, .slice xf nf cf] 34)).alloc (.cells #[.int .i64 host, .int .i64 sig, .int .i64 inn, .int .i64 out, .int .i64 loc, .slice xc nc cc, mv] 39)).alloc (.cells #[.int .i64 36, .int .i64 a, .int .u64 n] 47) = w1 at *
 have HG := Lib.hid hg
 obtain ⟨p0, p1⟩ := cells2 hb1
 obtain ⟨f0, f1, f2, f3, f4, f5, f6⟩ := cells7 hb2
 obtain ⟨c0, c1, c2⟩ := cells3 hb3
 clear hg hb1 hb2 hb3
 go_wp2
 go_ret2
 exact ⟨rfl, HG.out⟩
theorem eff_32 {w : World} {xs xf xc : Option Addr} {ns cs nf cf nc cc : Nat} {host sig inn out loc a n : Int} {mv : Value} :
  Calls Try.prog 28 #[.agg #[.slice xs ns cs, .slice xf nf cf], .agg #[.int .i64 host, .int .i64 sig, .int .i64 inn, .int .i64 out, .int .i64 loc, .slice xc nc cc, mv], .agg #[.int .i64 32, .int .i64 a, .int .u64 n]] w fun e w' => e = .returned (.tuple #[.int .i64 0, .int .i64 1]) ∧ Gr w w' := by
 go_enter Try.func28, Try.ntmps28
 go_upto_region 1 with fail
 obtain ⟨hg, hb1, hb2, hb3⟩ := box3 w #[.slice xs ns cs, .slice xf nf cf] #[.int .i64 host, .int .i64 sig, .int .i64 inn, .int .i64 out, .int .i64 loc, .slice xc nc cc, mv] #[.int .i64 32, .int .i64 a, .int .u64 n] 34 39 47
 generalize ((w.alloc (.cells #[.slice xs ns cs, .slice xf nf cf] 34)).alloc (.cells #[.int .i64 host, .int .i64 sig, .int .i64 inn, .int .i64 out, .int .i64 loc, .slice xc nc cc, mv] 39)).alloc (.cells #[.int .i64 32, .int .i64 a, .int .u64 n] 47) = w1 at *
 have HG := Lib.hid hg
 obtain ⟨p0, p1⟩ := cells2 hb1
 obtain ⟨f0, f1, f2, f3, f4, f5, f6⟩ := cells7 hb2
 obtain ⟨c0, c1, c2⟩ := cells3 hb3
 clear hg hb1 hb2 hb3
 go_wp2
 go_ret2
 exact ⟨rfl, HG.out⟩
theorem eff_35 {w : World} {xs xf xc : Option Addr} {ns cs nf cf nc cc : Nat} {host sig inn out loc a n : Int} {mv : Value} :
  Calls Try.prog 28 #[.agg #[.slice xs ns cs, .slice xf nf cf], .agg #[.int .i64 host, .int .i64 sig, .int .i64 inn, .int .i64 out, .int .i64 loc, .slice xc nc cc, mv], .agg #[.int .i64 35, .int .i64 a, .int .u64 n]] w fun e w' => e = .returned (.tuple #[.int .i64 0, .int .i64 1]) ∧ Gr w w' := by
 go_enter Try.func28, Try.ntmps28
 go_upto_region 1 with fail
 obtain ⟨hg, hb1, hb2, hb3⟩ := box3 w #[.slice xs ns cs, .slice xf nf cf] #[.int .i64 host, .int .i64 sig, .int .i64 inn, .int .i64 out, .int .i64 loc, .slice xc nc cc, mv] #[.int .i64 35, .int .i64 a, .int .u64 n] 34 39 47
 generalize ((w.alloc (.cells #[.slice xs ns cs, .slice xf nf cf] 34)).alloc (.cells #[.int .i64 host, .int .i64 sig, .int .i64 inn, .int .i64 out, .int .i64 loc, .slice xc nc cc, mv] 39)).alloc (.cells #[.int .i64 35, .int .i64 a, .int .u64 n] 47) = w1 at *
 have HG := Lib.hid hg
 obtain ⟨p0, p1⟩ := cells2 hb1
 obtain ⟨f0, f1, f2, f3, f4, f5, f6⟩ := cells7 hb2
 obtain ⟨c0, c1, c2⟩ := cells3 hb3
 clear hg hb1 hb2 hb3
 go_wp2
 go_ret2
 exact ⟨rfl, HG.out⟩
theorem eff_63 {w : World} {xs xf xc : Option Addr} {ns cs nf cf nc cc : Nat} {host sig inn out loc a n : Int} {mv : Value} :
  Calls Try.prog 28 #[.agg #[.slice xs ns cs, .slice xf nf cf], .agg #[.int .i64 host, .int .i64 sig, .int .i64 inn, .int .i64 out, .int .i64 loc, .slice xc nc cc, mv], .agg #[.int .i64 63, .int .i64 a, .int .u64 n]] w fun e w' => e = .returned (.tuple #[.int .i64 0, .int .i64 1]) ∧ Gr w w' := by
 go_enter Try.func28, Try.ntmps28
 go_upto_region 1 with fail
 obtain ⟨hg, hb1, hb2, hb3⟩ := box3 w #[.slice xs ns cs, .slice xf nf cf] #[.int .i64 host, .int .i64 sig, .int .i64 inn, .int .i64 out, .int .i64 loc, .slice xc nc cc, mv] #[.int .i64 63, .int .i64 a, .int .u64 n] 34 39 47
 generalize ((w.alloc (.cells #[.slice xs ns cs, .slice xf nf cf] 34)).alloc (.cells #[.int .i64 host, .int .i64 sig, .int .i64 inn, .int .i64 out, .int .i64 loc, .slice xc nc cc, mv] 39)).alloc (.cells #[.int .i64 63, .int .i64 a, .int .u64 n] 47) = w1 at *
 have HG := Lib.hid hg
 obtain ⟨p0, p1⟩ := cells2 hb1
 obtain ⟨f0, f1, f2, f3, f4, f5, f6⟩ := cells7 hb2
 obtain ⟨c0, c1, c2⟩ := cells3 hb3
 clear hg hb1 hb2 hb3
 go_wp2
 go_ret2
 exact ⟨rfl, HG.out⟩
theorem eff_66 {w : World} {xs xf xc : Option Addr} {ns cs nf cf nc cc : Nat} {host sig inn out loc a n : Int} {mv : Value} :
  Calls Try.prog 28 #[.agg #[.slice xs ns cs, .slice xf nf cf], .agg #[.int .i64 host, .int .i64 sig, .int .i64 inn, .int .i64 out, .int .i64 loc, .slice xc nc cc, mv], .agg #[.int .i64 66, .int .i64 a, .int .u64 n]] w fun e w' => e = .returned (.tuple #[.int .i64 0, .int .i64 1]) ∧ Gr w w' := by
 go_enter Try.func28, Try.ntmps28
 go_upto_region 1 with fail
 obtain ⟨hg, hb1, hb2, hb3⟩ := box3 w #[.slice xs ns cs, .slice xf nf cf] #[.int .i64 host, .int .i64 sig, .int .i64 inn, .int .i64 out, .int .i64 loc, .slice xc nc cc, mv] #[.int .i64 66, .int .i64 a, .int .u64 n] 34 39 47
 generalize ((w.alloc (.cells #[.slice xs ns cs, .slice xf nf cf] 34)).alloc (.cells #[.int .i64 host, .int .i64 sig, .int .i64 inn, .int .i64 out, .int .i64 loc, .slice xc nc cc, mv] 39)).alloc (.cells #[.int .i64 66, .int .i64 a, .int .u64 n] 47) = w1 at *
 have HG := Lib.hid hg
 obtain ⟨p0, p1⟩ := cells2 hb1
 obtain ⟨f0, f1, f2, f3, f4, f5, f6⟩ := cells7 hb2
 obtain ⟨c0, c1, c2⟩ := cells3 hb3
 clear hg hb1 hb2 hb3
 go_wp2
 go_ret2
 exact ⟨rfl, HG.out⟩
theorem eff_34 {w : World} {xs xf xc : Option Addr} {ns cs nf cf nc cc : Nat} {host sig inn out loc a n : Int} {mv : Value} :
  Calls Try.prog 28 #[.agg #[.slice xs ns cs, .slice xf nf cf], .agg #[.int .i64 host, .int .i64 sig, .int .i64 inn, .int .i64 out, .int .i64 loc, .slice xc nc cc, mv], .agg #[.int .i64 34, .int .i64 a, .int .u64 n]] w fun e w' => e = .returned (.tuple #[.int .i64 1, .int .i64 1]) ∧ Gr w w' := by
 go_enter Try.func28, Try.ntmps28
 go_upto_region 1 with fail
 obtain ⟨hg, hb1, hb2, hb3⟩ := box3 w #[.slice xs ns cs, .slice xf nf cf] #[.int .i64 host, .int .i64 sig, .int .i64 inn, .int .i64 out, .int .i64 loc, .slice xc nc cc, mv] #[.int .i64 34, .int .i64 a, .int .u64 n] 34 39 47
 generalize ((w.alloc (.cells #[.slice xs ns cs, .slice xf nf cf] 34)).alloc (.cells #[.int .i64 host, .int .i64 sig, .int .i64 inn, .int .i64 out, .int .i64 loc, .slice xc nc cc, mv] 39)).alloc (.cells #[.int .i64 34, .int .i64 a, .int .u64 n] 47) = w1 at *
 have HG := Lib.hid hg
 obtain ⟨p0, p1⟩ := cells2 hb1
 obtain ⟨f0, f1, f2, f3, f4, f5, f6⟩ := cells7 hb2
 obtain ⟨c0, c1, c2⟩ := cells3 hb3
 clear hg hb1 hb2 hb3
 go_wp2
 go_ret2
 exact ⟨rfl, HG.out⟩
theorem eff_64 {w : World} {xs xf xc : Option Addr} {ns cs nf cf nc cc : Nat} {host sig inn out loc a n : Int} {mv : Value} :
  Calls Try.prog 28 #[.agg #[.slice xs ns cs, .slice xf nf cf], .agg #[.int .i64 host, .int .i64 sig, .int .i64 inn, .int .i64 out, .int .i64 loc, .slice xc nc cc, mv], .agg #[.int .i64 64, .int .i64 a, .int .u64 n]] w fun e w' => e = .returned (.tuple #[.int .i64 1, .int .i64 1]) ∧ Gr w w' := by
 go_enter Try.func28, Try.ntmps28
 go_upto_region 1 with fail
 obtain ⟨hg, hb1, hb2, hb3⟩ := box3 w #[.slice xs ns cs, .slice xf nf cf] #[.int .i64 host, .int .i64 sig, .int .i64 inn, .int .i64 out, .int .i64 loc, .slice xc nc cc, mv] #[.int .i64 64, .int .i64 a, .int .u64 n] 34 39 47
 generalize ((w.alloc (.cells #[.slice xs ns cs, .slice xf nf cf] 34)).alloc (.cells #[.int .i64 host, .int .i64 sig, .int .i64 inn, .int .i64 out, .int .i64 loc, .slice xc nc cc, mv] 39)).alloc (.cells #[.int .i64 64, .int .i64 a, .int .u64 n] 47) = w1 at *
 have HG := Lib.hid hg
 obtain ⟨p0, p1⟩ := cells2 hb1
 obtain ⟨f0, f1, f2, f3, f4, f5, f6⟩ := cells7 hb2
 obtain ⟨c0, c1, c2⟩ := cells3 hb3
 clear hg hb1 hb2 hb3
 go_wp2
 go_ret2
 exact ⟨rfl, HG.out⟩
theorem eff_16y {w : World} {xs xf xc : Option Addr} {ns cs nf cf nc cc : Nat} {host sig inn out loc a n : Int} {mv : Value} {b off i : Nat} {finn fout : Int} (hi : i < nf) (_hnf : nf ≤ 1099511627776) (ha : a = i) (hx : xf = some ⟨b, off, none⟩) (h2 : w.cell? ⟨b, off + i * 7 + 2, none⟩ = some (.int .i64 finn)) (h3 : w.cell? ⟨b, off + i * 7 + 3, none⟩ = some (.int .i64 fout)) :
  Calls Try.prog 28 #[.agg #[.slice xs ns cs, .slice xf nf cf], .agg #[.int .i64 host, .int .i64 sig, .int .i64 inn, .int .i64 out, .int .i64 loc, .slice xc nc cc, mv], .agg #[.int .i64 16, .int .i64 a, .int .u64 n]] w fun e w' => e = .returned (.tuple #[.int .i64 (finn), .int .i64 (fout)]) ∧ Gr w w' := by
 subst ha hx
 go_enter Try.func28, Try.ntmps28
 go_upto_region 1 with fail
 obtain ⟨hg, hb1, hb2, hb3⟩ := box3 w #[.slice xs ns cs, .slice (some ⟨b, off, none⟩) nf cf] #[.int .i64 host, .int .i64 sig, .int .i64 inn, .int .i64 out, .int .i64 loc, .slice xc nc cc, mv] #[.int .i64 16, .int .i64 (i : Nat), .int .u64 n] 34 39 47
 generalize ((w.alloc (.cells #[.slice xs ns cs, .slice (some ⟨b, off, none⟩) nf cf] 34)).alloc (.cells #[.int .i64 host, .int .i64 sig, .int .i64 inn, .int .i64 out, .int .i64 loc, .slice xc nc cc, mv] 39)).alloc (.cells #[.int .i64 16, .int .i64 (i : Nat), .int .u64 n] 47) = w1 at *
 have HG := Lib.hid hg
 obtain ⟨p0, p1⟩ := cells2 hb1
 obtain ⟨f0, f1, f2, f3, f4, f5, f6⟩ := cells7 hb2
 obtain ⟨c0, c1, c2⟩ := cells3 hb3
 clear hg hb1 hb2 hb3
 have d2 := gr_cell HG.out h2
 have d3 := gr_cell HG.out h3
 have hi' : (i : Int) < (nf : Int) := by omega
 clear h2 h3
 go_wp2_with fail
 go_quiet (fail)
 go_wp2
 go_ret2
 exact ⟨rfl, HG.out.drewN _⟩
theorem eff_17y {w : World} {xs xf xc : Option Addr} {ns cs nf cf nc cc : Nat} {host sig inn out loc a n : Int} {mv : Value} {b off i ni no ci co : Nat} {vi vo : Option Addr} (hi : i < ns) (_hnf : ns ≤ 1099511627776) (hni : ni ≤ 1099511627776) (ha : a = i) (hx : xs = some ⟨b, off, none⟩) (h2 : w.cell? ⟨b, off + i * 2, none⟩ = some (.slice vi ni ci)) (h3 : w.cell? ⟨b, off + i * 2 + 1, none⟩ = some (.slice vo no co)) :
  Calls Try.prog 28 #[.agg #[.slice xs ns cs, .slice xf nf cf], .agg #[.int .i64 host, .int .i64 sig, .int .i64 inn, .int .i64 out, .int .i64 loc, .slice xc nc cc, mv], .agg #[.int .i64 17, .int .i64 a, .int .u64 n]] w fun e w' => e = .returned (.tuple #[.int .i64 (1 + ni), .int .i64 no]) ∧ Gr w w' := by
 subst ha hx
 go_enter Try.func28, Try.ntmps28
 go_upto_region 1 with fail
 obtain ⟨hg, hb1, hb2, hb3⟩ := box3 w #[.slice (some ⟨b, off, none⟩) ns cs, .slice xf nf cf] #[.int .i64 host, .int .i64 sig, .int .i64 inn, .int .i64 out, .int .i64 loc, .slice xc nc cc, mv] #[.int .i64 17, .int .i64 (i : Nat), .int .u64 n] 34 39 47
 generalize ((w.alloc (.cells #[.slice (some ⟨b, off, none⟩) ns cs, .slice xf nf cf] 34)).alloc (.cells #[.int .i64 host, .int .i64 sig, .int .i64 inn, .int .i64 out, .int .i64 loc, .slice xc nc cc, mv] 39)).alloc (.cells #[.int .i64 17, .int .i64 (i : Nat), .int .u64 n] 47) = w1 at *
 have HG := Lib.hid hg
 obtain ⟨p0, p1⟩ := cells2 hb1
 obtain ⟨f0, f1, f2, f3, f4, f5, f6⟩ := cells7 hb2
 obtain ⟨c0, c1, c2⟩ := cells3 hb3
 clear hg hb1 hb2 hb3
 have d2 := gr_cell HG.out h2
 have d3 := gr_cell HG.out h3
 have hi' : (i : Int) < (ns : Int) := by omega
 have T1 : IntKind.i64.wrap (1 + (ni : Int)) = 1 + ni := by rw [IntKind.wrap_i64]; omega
 have T4 : wrap64 (1 + (ni : Int)) = 1 + ni := by unfold wrap64; omega
 clear h2 h3
 go_wp2_with fail
 go_quiet (fail)
 go_wp2
 go_ret2
 exact ⟨by first | rfl | rw [T4], HG.out.drewN _⟩
theorem eff_16neg {w : World} {xs xf xc : Option Addr} {ns cs nf cf nc cc : Nat} {host sig inn out loc a n : Int} {mv : Value} (h : a < 0) :
  Calls Try.prog 28 #[.agg #[.slice xs ns cs, .slice xf nf cf], .agg #[.int .i64 host, .int .i64 sig, .int .i64 inn, .int .i64 out, .int .i64 loc, .slice xc nc cc, mv], .agg #[.int .i64 16, .int .i64 a, .int .u64 n]] w fun e w' => e = .returned (.tuple #[.int .i64 0, .int .i64 0]) ∧ Gr w w' := by
 have HA := Lib.hid (fun w => arity_any 16 (by decide) w)
 have HT := Lib.hid (fun w => stores_any 16 w)
 have HS := Lib.hid (fun w => size_any 16 w)
 rw [show arI 16 = 0 by decide] at HA
 rw [show strB 16 = false by decide] at HT
 rw [show szI 16 = 0 by decide] at HS
 go_enter Try.func28, Try.ntmps28
 go_upto_region 1 with fail
 obtain ⟨hg, hb1, hb2, hb3⟩ := box3 w #[.slice xs ns cs, .slice xf nf cf] #[.int .i64 host, .int .i64 sig, .int .i64 inn, .int .i64 out, .int .i64 loc, .slice xc nc cc, mv] #[.int .i64 16, .int .i64 a, .int .u64 n] 34 39 47
 generalize ((w.alloc (.cells #[.slice xs ns cs, .slice xf nf cf] 34)).alloc (.cells #[.int .i64 host, .int .i64 sig, .int .i64 inn, .int .i64 out, .int .i64 loc, .slice xc nc cc, mv] 39)).alloc (.cells #[.int .i64 16, .int .i64 a, .int .u64 n] 47) = w1 at *
 have HG := Lib.hid hg
 obtain ⟨p0, p1⟩ := cells2 hb1
 obtain ⟨f0, f1, f2, f3, f4, f5, f6⟩ := cells7 hb2
 obtain ⟨c0, c1, c2⟩ := cells3 hb3
 clear hg hb1 hb2 hb3
 go_wp2_with fail
 refine (HA.out _).mono ?_
 rintro e w2 ⟨rfl, rfl⟩
 go_wp2_with fail
 refine (HT.out _).mono ?_
 rintro e w2 ⟨rfl, rfl⟩
 go_wp2_with fail
 refine (HS.out _).mono ?_
 rintro e w2 ⟨rfl, rfl⟩
 go_wp2_with fail
 go_wp2
 go_ret2
 exact ⟨rfl, HG.out⟩
theorem eff_16big {w : World} {xs xf xc : Option Addr} {ns cs nf cf nc cc : Nat} {host sig inn out loc a n : Int} {mv : Value} (h0 : 0 ≤ a) (h : (nf : Int) ≤ a) :
  Calls Try.prog 28 #[.agg #[.slice xs ns cs, .slice xf nf cf], .agg #[.int .i64 host, .int .i64 sig, .int .i64 inn, .int .i64 out, .int .i64 loc, .slice xc nc cc, mv], .agg #[.int .i64 16, .int .i64 a, .int .u64 n]] w fun e w' => e = .returned (.tuple #[.int .i64 0, .int .i64 0]) ∧ Gr w w' := by
 have HA := Lib.hid (fun w => arity_any 16 (by decide) w)
 have HT := Lib.hid (fun w => stores_any 16 w)
 have HS := Lib.hid (fun w => size_any 16 w)
 rw [show arI 16 = 0 by decide] at HA
 rw [show strB 16 = false by decide] at HT
 rw [show szI 16 = 0 by decide] at HS
 go_enter Try.func28, Try.ntmps28
 go_upto_region 1 with fail
 obtain ⟨hg, hb1, hb2, hb3⟩ := box3 w #[.slice xs ns cs, .slice xf nf cf] #[.int .i64 host, .int .i64 sig, .int .i64 inn, .int .i64 out, .int .i64 loc, .slice xc nc cc, mv] #[.int .i64 16, .int .i64 a, .int .u64 n] 34 39 47
 generalize ((w.alloc (.cells #[.slice xs ns cs, .slice xf nf cf] 34)).alloc (.cells #[.int .i64 host, .int .i64 sig, .int .i64 inn, .int .i64 out, .int .i64 loc, .slice xc nc cc, mv] 39)).alloc (.cells #[.int .i64 16, .int .i64 a, .int .u64 n] 47) = w1 at *
 have HG := Lib.hid hg
 obtain ⟨p0, p1⟩ := cells2 hb1
 obtain ⟨f0, f1, f2, f3, f4, f5, f6⟩ := cells7 hb2
 obtain ⟨c0, c1, c2⟩ := cells3 hb3
 clear hg hb1 hb2 hb3
 go_wp2_with fail
 refine (HA.out _).mono ?_
 rintro e w2 ⟨rfl, rfl⟩
 go_wp2_with fail
 refine (HT.out _).mono ?_
 rintro e w2 ⟨rfl, rfl⟩
 go_wp2_with fail
 refine (HS.out _).mono ?_
 rintro e w2 ⟨rfl, rfl⟩
 go_wp2_with fail
 go_wp2
 go_ret2
 exact ⟨rfl, HG.out⟩
theorem eff_17neg {w : World} {xs xf xc : Option Addr} {ns cs nf cf nc cc : Nat} {host sig inn out loc a n : Int} {mv : Value} (h : a < 0) :
  Calls Try.prog 28 #[.agg #[.slice xs ns cs, .slice xf nf cf], .agg #[.int .i64 host, .int .i64 sig, .int .i64 inn, .int .i64 out, .int .i64 loc, .slice xc nc cc, mv], .agg #[.int .i64 17, .int .i64 a, .int .u64 n]] w fun e w' => e = .returned (.tuple #[.int .i64 0, .int .i64 0]) ∧ Gr w w' := by
 have HA := Lib.hid (fun w => arity_any 17 (by decide) w)
 have HT := Lib.hid (fun w => stores_any 17 w)
 have HS := Lib.hid (fun w => size_any 17 w)
 rw [show arI 17 = 0 by decide] at HA
 rw [show strB 17 = false by decide] at HT
 rw [show szI 17 = 0 by decide] at HS
 go_enter Try.func28, Try.ntmps28
 go_upto_region 1 with fail
 obtain ⟨hg, hb1, hb2, hb3⟩ := box3 w #[.slice xs ns cs, .slice xf nf cf] #[.int .i64 host, .int .i64 sig, .int .i64 inn, .int .i64 out, .int .i64 loc, .slice xc nc cc, mv] #[.int .i64 17, .int .i64 a, .int .u64 n] 34 39 47
 generalize ((w.alloc (.cells #[.slice xs ns cs, .slice xf nf cf] 34)).alloc (.cells #[.int .i64 host, .int .i64 sig, .int .i64 inn, .int .i64 out, .int .i64 loc, .slice xc nc cc, mv] 39)).alloc (.cells #[.int .i64 17, .int .i64 a, .int .u64 n] 47) = w1 at *
 have HG := Lib.hid hg
 obtain ⟨p0, p1⟩ := cells2 hb1
 obtain ⟨f0, f1, f2, f3, f4, f5, f6⟩ := cells7 hb2
 obtain ⟨c0, c1, c2⟩ := cells3 hb3
 clear hg hb1 hb2 hb3
 go_wp2_with fail
 refine (HA.out _).mono ?_
 rintro e w2 ⟨rfl, rfl⟩
 go_wp2_with fail
 refine (HT.out _).mono ?_
 rintro e w2 ⟨rfl, rfl⟩
 go_wp2_with fail
 refine (HS.out _).mono ?_
 rintro e w2 ⟨rfl, rfl⟩
 go_wp2_with fail
 go_wp2
 go_ret2
 exact ⟨rfl, HG.out⟩
theorem eff_17big {w : World} {xs xf xc : Option Addr} {ns cs nf cf nc cc : Nat} {host sig inn out loc a n : Int} {mv : Value} (h0 : 0 ≤ a) (h : (ns : Int) ≤ a) :
  Calls Try.prog 28 #[.agg #[.slice xs ns cs, .slice xf nf cf], .agg #[.int .i64 host, .int .i64 sig, .int .i64 inn, .int .i64 out, .int .i64 loc, .slice xc nc cc, mv], .agg #[.int .i64 17, .int .i64 a, .int .u64 n]] w fun e w' => e = .returned (.tuple #[.int .i64 0, .int .i64 0]) ∧ Gr w w' := by
 have HA := Lib.hid (fun w => arity_any 17 (by decide) w)
 have HT := Lib.hid (fun w => stores_any 17 w)
 have HS := Lib.hid (fun w => size_any 17 w)
 rw [show arI 17 = 0 by decide] at HA
 rw [show strB 17 = false by decide] at HT
 rw [show szI 17 = 0 by decide] at HS
 go_enter Try.func28, Try.ntmps28
 go_upto_region 1 with fail
 obtain ⟨hg, hb1, hb2, hb3⟩ := box3 w #[.slice xs ns cs, .slice xf nf cf] #[.int .i64 host, .int .i64 sig, .int .i64 inn, .int .i64 out, .int .i64 loc, .slice xc nc cc, mv] #[.int .i64 17, .int .i64 a, .int .u64 n] 34 39 47
 generalize ((w.alloc (.cells #[.slice xs ns cs, .slice xf nf cf] 34)).alloc (.cells #[.int .i64 host, .int .i64 sig, .int .i64 inn, .int .i64 out, .int .i64 loc, .slice xc nc cc, mv] 39)).alloc (.cells #[.int .i64 17, .int .i64 a, .int .u64 n] 47) = w1 at *
 have HG := Lib.hid hg
 obtain ⟨p0, p1⟩ := cells2 hb1
 obtain ⟨f0, f1, f2, f3, f4, f5, f6⟩ := cells7 hb2
 obtain ⟨c0, c1, c2⟩ := cells3 hb3
 clear hg hb1 hb2 hb3
 go_wp2_with fail
 refine (HA.out _).mono ?_
 rintro e w2 ⟨rfl, rfl⟩
 go_wp2_with fail
 refine (HT.out _).mono ?_
 rintro e w2 ⟨rfl, rfl⟩
 go_wp2_with fail
 refine (HS.out _).mono ?_
 rintro e w2 ⟨rfl, rfl⟩
 go_wp2_with fail
 go_wp2
 go_ret2
 exact ⟨rfl, HG.out⟩
theorem eff_ar {w : World} {xs xf xc : Option Addr} {ns cs nf cf nc cc : Nat} {host sig inn out loc op a n : Int} {mv : Value} (hn : op ≠ 13 ∧ op ≠ 14 ∧ op ≠ 15 ∧ op ≠ 16 ∧ op ≠ 17 ∧ op ≠ 26 ∧ op ≠ 27 ∧ op ≠ 32 ∧ op ≠ 33 ∧ op ≠ 34 ∧ op ≠ 35 ∧ op ≠ 36 ∧ op ≠ 63 ∧ op ≠ 64 ∧ op ≠ 66 ∧ op ≠ 256) (hop : op ≤ 9223372036854775807) (h : arI op ≠ 0) :
  Calls Try.prog 28 #[.agg #[.slice xs ns cs, .slice xf nf cf], .agg #[.int .i64 host, .int .i64 sig, .int .i64 inn, .int .i64 out, .int .i64 loc, .slice xc nc cc, mv], .agg #[.int .i64 op, .int .i64 a, .int .u64 n]] w fun e w' => e = .returned (.tuple #[.int .i64 (arI op), .int .i64 1]) ∧ Gr w w' := by
 have HA := Lib.hid (fun w => arity_any op hop w)
 have HT := Lib.hid (fun w => stores_any op w)
 have HS := Lib.hid (fun w => size_any op w)
 obtain ⟨ar, har⟩ : ∃ x, arI op = x := ⟨_, rfl⟩
 obtain ⟨st, hst⟩ : ∃ x, strB op = x := ⟨_, rfl⟩
 obtain ⟨sz, hsz⟩ : ∃ x, szI op = x := ⟨_, rfl⟩
 rw [har] at HA
 rw [hst] at HT
 rw [hsz] at HS
 have t13 : (op == 13) = false := by simp; omega
 have t14 : (op == 14) = false := by simp; omega
 have t15 : (op == 15) = false := by simp; omega
 have t16 : (op == 16) = false := by simp; omega
 have t17 : (op == 17) = false := by simp; omega
 have t26 : (op == 26) = false := by simp; omega
 have t27 : (op == 27) = false := by simp; omega
 have t32 : (op == 32) = false := by simp; omega
 have t33 : (op == 33) = false := by simp; omega
 have t34 : (op == 34) = false := by simp; omega
 have t35 : (op == 35) = false := by simp; omega
 have t36 : (op == 36) = false := by simp; omega
 have t63 : (op == 63) = false := by simp; omega
 have t64 : (op == 64) = false := by simp; omega
 have t66 : (op == 66) = false := by simp; omega
 have t256 : (op == 256) = false := by simp; omega
 rw [har] at h ⊢
 have hb : (ar != 0) = true := by simp [h]
 clear har hst hsz
 clear hn
 go_enter Try.func28, Try.ntmps28
 go_upto_region 1 with fail
 obtain ⟨hg, hb1, hb2, hb3⟩ := box3 w #[.slice xs ns cs, .slice xf nf cf] #[.int .i64 host, .int .i64 sig, .int .i64 inn, .int .i64 out, .int .i64 loc, .slice xc nc cc, mv] #[.int .i64 op, .int .i64 a, .int .u64 n] 34 39 47
 generalize ((w.alloc (.cells #[.slice xs ns cs, .slice xf nf cf] 34)).alloc (.cells #[.int .i64 host, .int .i64 sig, .int .i64 inn, .int .i64 out, .int .i64 loc, .slice xc nc cc, mv] 39)).alloc (.cells #[.int .i64 op, .int .i64 a, .int .u64 n] 47) = w1 at *
 have HG := Lib.hid hg
 obtain ⟨p0, p1⟩ := cells2 hb1
 obtain ⟨f0, f1, f2, f3, f4, f5, f6⟩ := cells7 hb2
 obtain ⟨c0, c1, c2⟩ := cells3 hb3
 clear hg hb1 hb2 hb3
 go_wp2_with fail
 refine (HA.out _).mono ?_
 rintro e w2 ⟨rfl, rfl⟩
 go_wp2_with fail
 refine (HA.out _).mono ?_
 rintro e w2 ⟨rfl, rfl⟩
 go_wp2_with fail
 go_wp2
 go_ret2
 exact ⟨rfl, HG.out⟩
theorem eff_st {w : World} {xs xf xc : Option Addr} {ns cs nf cf nc cc : Nat} {host sig inn out loc op a n : Int} {mv : Value} (hn : op ≠ 13 ∧ op ≠ 14 ∧ op ≠ 15 ∧ op ≠ 16 ∧ op ≠ 17 ∧ op ≠ 26 ∧ op ≠ 27 ∧ op ≠ 32 ∧ op ≠ 33 ∧ op ≠ 34 ∧ op ≠ 35 ∧ op ≠ 36 ∧ op ≠ 63 ∧ op ≠ 64 ∧ op ≠ 66 ∧ op ≠ 256) (hop : op ≤ 9223372036854775807) (h : arI op = 0) (h2 : strB op = true) :
  Calls Try.prog 28 #[.agg #[.slice xs ns cs, .slice xf nf cf], .agg #[.int .i64 host, .int .i64 sig, .int .i64 inn, .int .i64 out, .int .i64 loc, .slice xc nc cc, mv], .agg #[.int .i64 op, .int .i64 a, .int .u64 n]] w fun e w' => e = .returned (.tuple #[.int .i64 2, .int .i64 0]) ∧ Gr w w' := by
 have HA := Lib.hid (fun w => arity_any op hop w)
 have HT := Lib.hid (fun w => stores_any op w)
 have HS := Lib.hid (fun w => size_any op w)
 obtain ⟨ar, har⟩ : ∃ x, arI op = x := ⟨_, rfl⟩
 obtain ⟨st, hst⟩ : ∃ x, strB op = x := ⟨_, rfl⟩
 obtain ⟨sz, hsz⟩ : ∃ x, szI op = x := ⟨_, rfl⟩
 rw [har] at HA
 rw [hst] at HT
 rw [hsz] at HS
 have t13 : (op == 13) = false := by simp; omega
 have t14 : (op == 14) = false := by simp; omega
 have t15 : (op == 15) = false := by simp; omega
 have t16 : (op == 16) = false := by simp; omega
 have t17 : (op == 17) = false := by simp; omega
 have t26 : (op == 26) = false := by simp; omega
 have t27 : (op == 27) = false := by simp; omega
 have t32 : (op == 32) = false := by simp; omega
 have t33 : (op == 33) = false := by simp; omega
 have t34 : (op == 34) = false := by simp; omega
 have t35 : (op == 35) = false := by simp; omega
 have t36 : (op == 36) = false := by simp; omega
 have t63 : (op == 63) = false := by simp; omega
 have t64 : (op == 64) = false := by simp; omega
 have t66 : (op == 66) = false := by simp; omega
 have t256 : (op == 256) = false := by simp; omega
 rw [har] at h
 rw [hst] at h2
 subst h h2
 clear har hst hsz
 clear hn
 go_enter Try.func28, Try.ntmps28
 go_upto_region 1 with fail
 obtain ⟨hg, hb1, hb2, hb3⟩ := box3 w #[.slice xs ns cs, .slice xf nf cf] #[.int .i64 host, .int .i64 sig, .int .i64 inn, .int .i64 out, .int .i64 loc, .slice xc nc cc, mv] #[.int .i64 op, .int .i64 a, .int .u64 n] 34 39 47
 generalize ((w.alloc (.cells #[.slice xs ns cs, .slice xf nf cf] 34)).alloc (.cells #[.int .i64 host, .int .i64 sig, .int .i64 inn, .int .i64 out, .int .i64 loc, .slice xc nc cc, mv] 39)).alloc (.cells #[.int .i64 op, .int .i64 a, .int .u64 n] 47) = w1 at *
 have HG := Lib.hid hg
 obtain ⟨p0, p1⟩ := cells2 hb1
 obtain ⟨f0, f1, f2, f3, f4, f5, f6⟩ := cells7 hb2
 obtain ⟨c0, c1, c2⟩ := cells3 hb3
 clear hg hb1 hb2 hb3
 go_wp2_with fail
 refine (HA.out _).mono ?_
 rintro e w2 ⟨rfl, rfl⟩
 go_wp2_with fail
 refine (HT.out _).mono ?_
 rintro e w2 ⟨rfl, rfl⟩
 go_wp2_with fail
 go_wp2
 go_ret2
 exact ⟨rfl, HG.out⟩
theorem eff_sz {w : World} {xs xf xc : Option Addr} {ns cs nf cf nc cc : Nat} {host sig inn out loc op a n : Int} {mv : Value} (hn : op ≠ 13 ∧ op ≠ 14 ∧ op ≠ 15 ∧ op ≠ 16 ∧ op ≠ 17 ∧ op ≠ 26 ∧ op ≠ 27 ∧ op ≠ 32 ∧ op ≠ 33 ∧ op ≠ 34 ∧ op ≠ 35 ∧ op ≠ 36 ∧ op ≠ 63 ∧ op ≠ 64 ∧ op ≠ 66 ∧ op ≠ 256) (hop : op ≤ 9223372036854775807) (h : arI op = 0) (h2 : strB op = false) (h3 : szI op ≠ 0) :
  Calls Try.prog 28 #[.agg #[.slice xs ns cs, .slice xf nf cf], .agg #[.int .i64 host, .int .i64 sig, .int .i64 inn, .int .i64 out, .int .i64 loc, .slice xc nc cc, mv], .agg #[.int .i64 op, .int .i64 a, .int .u64 n]] w fun e w' => e = .returned (.tuple #[.int .i64 1, .int .i64 1]) ∧ Gr w w' := by
 have HA := Lib.hid (fun w => arity_any op hop w)
 have HT := Lib.hid (fun w => stores_any op w)
 have HS := Lib.hid (fun w => size_any op w)
 obtain ⟨ar, har⟩ : ∃ x, arI op = x := ⟨_, rfl⟩
 obtain ⟨st, hst⟩ : ∃ x, strB op = x := ⟨_, rfl⟩
 obtain ⟨sz, hsz⟩ : ∃ x, szI op = x := ⟨_, rfl⟩
 rw [har] at HA
 rw [hst] at HT
 rw [hsz] at HS
 have t13 : (op == 13) = false := by simp; omega
 have t14 : (op == 14) = false := by simp; omega
 have t15 : (op == 15) = false := by simp; omega
 have t16 : (op == 16) = false := by simp; omega
 have t17 : (op == 17) = false := by simp; omega
 have t26 : (op == 26) = false := by simp; omega
 have t27 : (op == 27) = false := by simp; omega
 have t32 : (op == 32) = false := by simp; omega
 have t33 : (op == 33) = false := by simp; omega
 have t34 : (op == 34) = false := by simp; omega
 have t35 : (op == 35) = false := by simp; omega
 have t36 : (op == 36) = false := by simp; omega
 have t63 : (op == 63) = false := by simp; omega
 have t64 : (op == 64) = false := by simp; omega
 have t66 : (op == 66) = false := by simp; omega
 have t256 : (op == 256) = false := by simp; omega
 rw [har] at h
 rw [hst] at h2
 rw [hsz] at h3
 subst h h2
 have hb : (sz != 0) = true := by simp [h3]
 clear har hst hsz
 clear hn
 go_enter Try.func28, Try.ntmps28
 go_upto_region 1 with fail
 obtain ⟨hg, hb1, hb2, hb3⟩ := box3 w #[.slice xs ns cs, .slice xf nf cf] #[.int .i64 host, .int .i64 sig, .int .i64 inn, .int .i64 out, .int .i64 loc, .slice xc nc cc, mv] #[.int .i64 op, .int .i64 a, .int .u64 n] 34 39 47
 generalize ((w.alloc (.cells #[.slice xs ns cs, .slice xf nf cf] 34)).alloc (.cells #[.int .i64 host, .int .i64 sig, .int .i64 inn, .int .i64 out, .int .i64 loc, .slice xc nc cc, mv] 39)).alloc (.cells #[.int .i64 op, .int .i64 a, .int .u64 n] 47) = w1 at *
 have HG := Lib.hid hg
 obtain ⟨p0, p1⟩ := cells2 hb1
 obtain ⟨f0, f1, f2, f3, f4, f5, f6⟩ := cells7 hb2
 obtain ⟨c0, c1, c2⟩ := cells3 hb3
 clear hg hb1 hb2 hb3
 go_wp2_with fail
 refine (HA.out _).mono ?_
 rintro e w2 ⟨rfl, rfl⟩
 go_wp2_with fail
 refine (HT.out _).mono ?_
 rintro e w2 ⟨rfl, rfl⟩
 go_wp2_with fail
 refine (HS.out _).mono ?_
 rintro e w2 ⟨rfl, rfl⟩
 go_wp2_with fail
 go_wp2
 go_ret2
 exact ⟨rfl, HG.out⟩
theorem eff_no {w : World} {xs xf xc : Option Addr} {ns cs nf cf nc cc : Nat} {host sig inn out loc op a n : Int} {mv : Value} (hn : op ≠ 13 ∧ op ≠ 14 ∧ op ≠ 15 ∧ op ≠ 16 ∧ op ≠ 17 ∧ op ≠ 26 ∧ op ≠ 27 ∧ op ≠ 32 ∧ op ≠ 33 ∧ op ≠ 34 ∧ op ≠ 35 ∧ op ≠ 36 ∧ op ≠ 63 ∧ op ≠ 64 ∧ op ≠ 66 ∧ op ≠ 256) (hop : op ≤ 9223372036854775807) (h : arI op = 0) (h2 : strB op = false) (h3 : szI op = 0) :
  Calls Try.prog 28 #[.agg #[.slice xs ns cs, .slice xf nf cf], .agg #[.int .i64 host, .int .i64 sig, .int .i64 inn, .int .i64 out, .int .i64 loc, .slice xc nc cc, mv], .agg #[.int .i64 op, .int .i64 a, .int .u64 n]] w fun e w' => e = .returned (.tuple #[.int .i64 0, .int .i64 0]) ∧ Gr w w' := by
 have HA := Lib.hid (fun w => arity_any op hop w)
 have HT := Lib.hid (fun w => stores_any op w)
 have HS := Lib.hid (fun w => size_any op w)
 obtain ⟨ar, har⟩ : ∃ x, arI op = x := ⟨_, rfl⟩
 obtain ⟨st, hst⟩ : ∃ x, strB op = x := ⟨_, rfl⟩
 obtain ⟨sz, hsz⟩ : ∃ x, szI op = x := ⟨_, rfl⟩
 rw [har] at HA
 rw [hst] at HT
 rw [hsz] at HS
 have t13 : (op == 13) = false := by simp; omega
 have t14 : (op == 14) = false := by simp; omega
 have t15 : (op == 15) = false := by simp; omega
 have t16 : (op == 16) = false := by simp; omega
 have t17 : (op == 17) = false := by simp; omega
 have t26 : (op == 26) = false := by simp; omega
 have t27 : (op == 27) = false := by simp; omega
 have t32 : (op == 32) = false := by simp; omega
 have t33 : (op == 33) = false := by simp; omega
 have t34 : (op == 34) = false := by simp; omega
 have t35 : (op == 35) = false := by simp; omega
 have t36 : (op == 36) = false := by simp; omega
 have t63 : (op == 63) = false := by simp; omega
 have t64 : (op == 64) = false := by simp; omega
 have t66 : (op == 66) = false := by simp; omega
 have t256 : (op == 256) = false := by simp; omega
 rw [har] at h
 rw [hst] at h2
 rw [hsz] at h3
 subst h h2 h3
 clear har hst hsz
 clear hn
 go_enter Try.func28, Try.ntmps28
 go_upto_region 1 with fail
 obtain ⟨hg, hb1, hb2, hb3⟩ := box3 w #[.slice xs ns cs, .slice xf nf cf] #[.int .i64 host, .int .i64 sig, .int .i64 inn, .int .i64 out, .int .i64 loc, .slice xc nc cc, mv] #[.int .i64 op, .int .i64 a, .int .u64 n] 34 39 47
 generalize ((w.alloc (.cells #[.slice xs ns cs, .slice xf nf cf] 34)).alloc (.cells #[.int .i64 host, .int .i64 sig, .int .i64 inn, .int .i64 out, .int .i64 loc, .slice xc nc cc, mv] 39)).alloc (.cells #[.int .i64 op, .int .i64 a, .int .u64 n] 47) = w1 at *
 have HG := Lib.hid hg
 obtain ⟨p0, p1⟩ := cells2 hb1
 obtain ⟨f0, f1, f2, f3, f4, f5, f6⟩ := cells7 hb2
 obtain ⟨c0, c1, c2⟩ := cells3 hb3
 clear hg hb1 hb2 hb3
 go_wp2_with fail
 refine (HA.out _).mono ?_
 rintro e w2 ⟨rfl, rfl⟩
 go_wp2_with fail
 refine (HT.out _).mono ?_
 rintro e w2 ⟨rfl, rfl⟩
 go_wp2_with fail
 refine (HS.out _).mono ?_
 rintro e w2 ⟨rfl, rfl⟩
 go_wp2_with fail
 go_wp2
 go_ret2
 exact ⟨rfl, HG.out⟩
theorem eff_any {w : World} {sv fv : Value} {P : Pr} (h : PrR w sv fv P) {f : FuV} (hf : ∃ x n c, f.cv = .slice x n c) {c : Ce} (hc : CeB c) :
  Calls Try.prog 28 #[.agg #[sv, fv], .agg (fuA f), .agg (ceA c)] w fun e w' => e = .returned (.tuple #[.int .i64 (effF P f.f.out c).1, .int .i64 (effF P f.f.out c).2]) ∧ Gr w w' := by
 obtain ⟨xs, cs, rfl, _⟩ := id h.ss
 obtain ⟨xf, cf, rfl, _⟩ := id h.fs
 obtain ⟨⟨host, sig, inn, out, loc, l⟩, cv, mv⟩ := f
 obtain ⟨xc, nc, cc, e⟩ := hf
 dsimp only at e
 subst e
 obtain ⟨op, a, n⟩ := c
 have hop := hc.op.2
 dsimp only at hop
 unfold fuA ceA
 dsimp only
 by_cases c13 : op = 13
 ·subst c13
  rw [show effF P out ⟨13, a, n⟩ = (1, 0) from (by unfold effF; dsimp only; rw [if_neg (by omega), if_neg (by omega), if_neg (by omega), if_neg (by omega), if_neg (by omega), if_pos (by omega)])]
  exact eff_13
 by_cases c14 : op = 14
 ·subst c14
  rw [show effF P out ⟨14, a, n⟩ = (1, 0) from (by unfold effF; dsimp only; rw [if_neg (by omega), if_neg (by omega), if_neg (by omega), if_neg (by omega), if_neg (by omega), if_pos (by omega)])]
  exact eff_14
 by_cases c15 : op = 15
 ·subst c15
  rw [show effF P out ⟨15, a, n⟩ = (out, 0) from (by unfold effF; dsimp only; rw [if_pos (by omega)])]
  exact eff_15
 by_cases c26 : op = 26
 ·subst c26
  rw [show effF P out ⟨26, a, n⟩ = (1, 0) from (by unfold effF; dsimp only; rw [if_neg (by omega), if_neg (by omega), if_neg (by omega), if_neg (by omega), if_neg (by omega), if_pos (by omega)])]
  exact eff_26
 by_cases c27 : op = 27
 ·subst c27
  rw [show effF P out ⟨27, a, n⟩ = (3, 1) from (by unfold effF; dsimp only; rw [if_neg (by omega), if_neg (by omega), if_neg (by omega), if_neg (by omega), if_pos (by omega)])]
  exact eff_27
 by_cases c32 : op = 32
 ·subst c32
  rw [show effF P out ⟨32, a, n⟩ = (0, 1) from (by unfold effF; dsimp only; rw [if_neg (by omega), if_neg (by omega), if_neg (by omega), if_neg (by omega), if_neg (by omega), if_neg (by omega), if_pos (by omega)])]
  exact eff_32
 by_cases c33 : op = 33
 ·subst c33
  rw [show effF P out ⟨33, a, n⟩ = (1, 0) from (by unfold effF; dsimp only; rw [if_neg (by omega), if_neg (by omega), if_neg (by omega), if_neg (by omega), if_neg (by omega), if_pos (by omega)])]
  exact eff_33
 by_cases c34 : op = 34
 ·subst c34
  rw [show effF P out ⟨34, a, n⟩ = (1, 1) from (by unfold effF; dsimp only; rw [if_neg (by omega), if_neg (by omega), if_neg (by omega), if_neg (by omega), if_neg (by omega), if_neg (by omega), if_neg (by omega), if_pos (by omega)])]
  exact eff_34
 by_cases c35 : op = 35
 ·subst c35
  rw [show effF P out ⟨35, a, n⟩ = (0, 1) from (by unfold effF; dsimp only; rw [if_neg (by omega), if_neg (by omega), if_neg (by omega), if_neg (by omega), if_neg (by omega), if_neg (by omega), if_pos (by omega)])]
  exact eff_35
 by_cases c36 : op = 36
 ·subst c36
  rw [show effF P out ⟨36, a, n⟩ = (1, 0) from (by unfold effF; dsimp only; rw [if_neg (by omega), if_neg (by omega), if_neg (by omega), if_neg (by omega), if_neg (by omega), if_pos (by omega)])]
  exact eff_36
 by_cases c63 : op = 63
 ·subst c63
  rw [show effF P out ⟨63, a, n⟩ = (0, 1) from (by unfold effF; dsimp only; rw [if_neg (by omega), if_neg (by omega), if_neg (by omega), if_neg (by omega), if_neg (by omega), if_neg (by omega), if_pos (by omega)])]
  exact eff_63
 by_cases c64 : op = 64
 ·subst c64
  rw [show effF P out ⟨64, a, n⟩ = (1, 1) from (by unfold effF; dsimp only; rw [if_neg (by omega), if_neg (by omega), if_neg (by omega), if_neg (by omega), if_neg (by omega), if_neg (by omega), if_neg (by omega), if_pos (by omega)])]
  exact eff_64
 by_cases c66 : op = 66
 ·subst c66
  rw [show effF P out ⟨66, a, n⟩ = (0, 1) from (by unfold effF; dsimp only; rw [if_neg (by omega), if_neg (by omega), if_neg (by omega), if_neg (by omega), if_neg (by omega), if_neg (by omega), if_pos (by omega)])]
  exact eff_66
 by_cases c256 : op = 256
 ·subst c256
  rw [show effF P out ⟨256, a, n⟩ = ((wrap64 (a + wrap64 n)), a) from (by unfold effF; dsimp only; rw [if_neg (by omega), if_neg (by omega), if_neg (by omega), if_pos (by omega)])]
  exact eff_256
 by_cases c16 : op = 16
 ·subst c16
  by_cases h0 : a < 0
  ·rw [show effF P out ⟨16, a, n⟩ = (0, 0) from (by unfold effF; dsimp only; rw [if_neg (by omega), if_neg (by omega), if_neg (by omega), if_neg (by omega), if_neg (by omega), if_neg (by omega), if_neg (by omega), if_neg (by omega), if_neg (by decide), if_neg (by decide), if_neg (by decide)])]
   exact eff_16neg h0
  ·by_cases h1 : (P.fs.length : Int) ≤ a
   ·rw [show effF P out ⟨16, a, n⟩ = (0, 0) from (by unfold effF; dsimp only; rw [if_neg (by omega), if_neg (by omega), if_neg (by omega), if_neg (by omega), if_neg (by omega), if_neg (by omega), if_neg (by omega), if_neg (by omega), if_neg (by decide), if_neg (by decide), if_neg (by decide)])]
    exact eff_16big (by omega) h1
   ·obtain ⟨i, rfl⟩ : ∃ i : Nat, a = i := ⟨a.toNat, by omega⟩
    obtain ⟨g, hg⟩ : ∃ g, P.fs[i]? = some g := ⟨_, List.getElem?_eq_getElem (by omega)⟩
    obtain ⟨b, off, hx, hcl⟩ := rwR_at (z := 7) (fun _ => rfl) h.fs hg (by decide)
    rw [show effF P out ⟨16, (i : Int), n⟩ = (g.f.inn, g.f.out) from (by unfold effF; dsimp only; rw [if_neg (by omega), if_pos (by omega), Int.toNat_natCast, hg]; rfl)]
    exact eff_16y (i := i) (by omega) h.lf rfl hx (hcl 2 _ rfl) (hcl 3 _ rfl)
 by_cases c17 : op = 17
 ·subst c17
  by_cases h0 : a < 0
  ·rw [show effF P out ⟨17, a, n⟩ = (0, 0) from (by unfold effF; dsimp only; rw [if_neg (by omega), if_neg (by omega), if_neg (by omega), if_neg (by omega), if_neg (by omega), if_neg (by omega), if_neg (by omega), if_neg (by omega), if_neg (by decide), if_neg (by decide), if_neg (by decide)])]
   exact eff_17neg h0
  ·by_cases h1 : (P.ss.length : Int) ≤ a
   ·rw [show effF P out ⟨17, a, n⟩ = (0, 0) from (by unfold effF; dsimp only; rw [if_neg (by omega), if_neg (by omega), if_neg (by omega), if_neg (by omega), if_neg (by omega), if_neg (by omega), if_neg (by omega), if_neg (by omega), if_neg (by decide), if_neg (by decide), if_neg (by decide)])]
    exact eff_17big (by omega) h1
   ·obtain ⟨i, rfl⟩ : ∃ i : Nat, a = i := ⟨a.toNat, by omega⟩
    obtain ⟨g, hg⟩ : ∃ g, P.ss[i]? = some g := ⟨_, List.getElem?_eq_getElem (by omega)⟩
    obtain ⟨b, off, hx, hcl⟩ := rwR_at (z := 2) (fun _ => rfl) h.ss hg (by decide)
    have hs := h.sis g (List.mem_of_getElem? hg)
    obtain ⟨vi, ci, e1, _⟩ := hs.iv
    obtain ⟨vo, co, e2, _⟩ := hs.ov
    rw [show effF P out ⟨17, (i : Int), n⟩ = (1 + (g.s.i.length : Int), (g.s.o.length : Int)) from (by unfold effF; dsimp only; rw [if_neg (by omega), if_neg (by omega), if_pos (by omega), Int.toNat_natCast, hg]; rfl)]
    exact eff_17y (i := i) (by omega) h.ls hs.li rfl hx (hcl 0 _ (by rw [← e1]; rfl)) (hcl 1 _ (by rw [← e2]; rfl))
 have hn : op ≠ 13 ∧ op ≠ 14 ∧ op ≠ 15 ∧ op ≠ 16 ∧ op ≠ 17 ∧ op ≠ 26 ∧ op ≠ 27 ∧ op ≠ 32 ∧ op ≠ 33 ∧ op ≠ 34 ∧ op ≠ 35 ∧ op ≠ 36 ∧ op ≠ 63 ∧ op ≠ 64 ∧ op ≠ 66 ∧ op ≠ 256 := ⟨c13, c14, c15, c16, c17, c26, c27, c32, c33, c34, c35, c36, c63, c64, c66, c256⟩
 by_cases h3 : arI op = 0
 ·by_cases h4 : strB op = true
  ·rw [show effF P out ⟨op, a, n⟩ = (2, 0) from (by unfold effF; dsimp only; rw [if_neg (by omega), if_neg (by omega), if_neg (by omega), if_neg (by omega), if_neg (by omega), if_neg (by omega), if_neg (by omega), if_neg (by omega), if_neg (by simp [h3]), if_pos (by assumption)])]
   exact eff_st hn hop h3 h4
  ·by_cases h5 : szI op = 0
   ·rw [show effF P out ⟨op, a, n⟩ = (0, 0) from (by unfold effF; dsimp only; rw [if_neg (by omega), if_neg (by omega), if_neg (by omega), if_neg (by omega), if_neg (by omega), if_neg (by omega), if_neg (by omega), if_neg (by omega), if_neg (by simp [h3]), if_neg (by simp [h4]), if_neg (by simp [h5])])]
    exact eff_no hn hop h3 (by simpa using h4) h5
   ·rw [show effF P out ⟨op, a, n⟩ = (1, 1) from (by unfold effF; dsimp only; rw [if_neg (by omega), if_neg (by omega), if_neg (by omega), if_neg (by omega), if_neg (by omega), if_neg (by omega), if_neg (by omega), if_neg (by omega), if_neg (by simp [h3]), if_neg (by simp [h4]), if_pos (by assumption)])]
    exact eff_sz hn hop h3 (by simpa using h4) h5
 ·rw [show effF P out ⟨op, a, n⟩ = (arI op, 1) from (by unfold effF; dsimp only; rw [if_neg (by omega), if_neg (by omega), if_neg (by omega), if_neg (by omega), if_neg (by omega), if_neg (by omega), if_neg (by omega), if_neg (by omega), if_pos (by assumption)])]
  exact eff_ar hn hop h3
end Tg
end Go.Proofs.Ytifjgocfdnhdeaa
/- TgD -/
namespace Go.Proofs.Ytifjgocfdnhdeaa
open Go.RowKit
namespace Tg
open Ins
theorem _root_.Go.Proofs.Ytifjgocfdnhdeaa.Sep.setRow {ex : Nat → Prop} (w : World) {g : Nat} (hg : ex g) (c : Array Value) : Sep ex w (w.setRow g c) :=
 ⟨rfl, rfl, rfl, by simp [World.setRow], fun i _ hx => by
  simp only [World.setRow, Array.getElem?_modify]
  rw [if_neg (fun e : g = i => hx (by rw [← e]; exact hg))]⟩
theorem numsB_no {l : List Int} {k : Nat} {t : Int} (h : l[k]? = some t) (h1 : t ≠ 127) (h2 : t ≠ 126) : numsB l = false := by
 unfold numsB
 rw [List.all_eq_false]
 exact ⟨t, List.mem_of_getElem? h, by simp [h1, h2]⟩
theorem numsB_yes {l : List Int} (h : ∀ j t, j < l.length → l[j]? = some t → t = 127 ∨ t = 126) : numsB l = true := by
 unfold numsB
 rw [List.all_eq_true]
 intro t ht
 obtain ⟨j, hj, e⟩ := List.getElem_of_mem ht
 rcases h j t hj (by rw [List.getElem?_eq_getElem hj, e]) with h | h <;> simp [h]
set_option maxHeartbeats 2000000 in
theorem nums_any {w : World} {v : Value} {l : List Int} (h : RwR w v l.length (ivs l)) (hl : l.length ≤ 1099511627776) :
  Calls Try.prog 25 #[v] w fun e w' => e = .returned (.bool (numsB l)) ∧ Gr w w' := by
 obtain ⟨x, c, rfl, hc⟩ := h
 have HC := Lib.hid hc
 obtain ⟨n, hn⟩ : ∃ n, l.length = n := ⟨_, rfl⟩
 have HN := Lib.hid hn
 rw [hn] at hl ⊢
 clear hc hn
 go_enter Try.func25, Try.ntmps25
 go_wp2_with fail
 go_loopw [7] (fun i wr => ∃ k : Nat, k ≤ n ∧ i = .int .i64 k ∧ Gr w wr ∧ ∀ j t, j < k → l[j]? = some t → t = 127 ∨ t = 126) (fun i _ => n - (intOf i).toNat)
 case atStart => exact ⟨0, by omega, rfl, Gr.refl _, fun j t hj => by omega⟩
 case round =>
  obtain ⟨k, hk, rfl, hg, ha⟩ := hrel
  have HG := Lib.hid hg
  have HA := Lib.hid ha
  clear hg ha
  by_cases hlt : k < n
  ·have hki : (k : Int) < (n : Int) := by omega
   obtain ⟨t, ht⟩ : ∃ t, l[k]? = some t := ⟨_, List.getElem?_eq_getElem (by rw [HN.out]; exact hlt)⟩
   have HT := Lib.hid ht
   obtain ⟨b, off, rfl, hcl⟩ := HC.out k (.int .i64 t) (by unfold ivs; rw [List.getElem?_map, ht]; rfl)
   have hcl' := gr_cell HG.out hcl
   clear hcl ht
   have T4 : wrap64 ((k : Int) + 1) = (k : Int) + 1 := by unfold wrap64; omega
   have HLT := Lib.hid hlt
   by_cases h1 : t = 127
   ·subst h1
    go_wp2
    exact ⟨⟨k + 1, HLT.out, by first | rfl | (rw [T4]; rfl) | go_num, HG.out, fun j u hj hu => by
     by_cases e : j = k
     ·subst e; rw [HT.out] at hu; exact .inl (Option.some.inj hu).symm
     ·exact HA.out j u (by omega) hu⟩, by have := HLT.out; first | (rw [T4]; simp [intOf]; omega) | (simp [intOf]; omega)⟩
   ·by_cases h2 : t = 126
    ·subst h2
     go_wp2
     exact ⟨⟨k + 1, HLT.out, by first | rfl | (rw [T4]; rfl) | go_num, HG.out, fun j u hj hu => by
      by_cases e : j = k
      ·subst e; rw [HT.out] at hu; exact .inr (Option.some.inj hu).symm
      ·exact HA.out j u (by omega) hu⟩, by have := HLT.out; first | (rw [T4]; simp [intOf]; omega) | (simp [intOf]; omega)⟩
    ·have e1 : (t != 127) = true := by simp [h1]
     have e2 : (t != 126) = true := by simp [h2]
     have HR := Lib.hid (numsB_no HT.out h1 h2)
     clear h1 h2
     go_wp2
     go_ret
     exact ⟨by rw [HR.out]; rfl, HG.out⟩
  ·obtain rfl : n = k := by omega
   have HR := Lib.hid (numsB_yes (l := l) (fun j t hj => HA.out j t (by rw [← HN.out]; exact hj)))
   clear hlt hk
   go_wp2
   go_ret
   exact ⟨by rw [HR.out]; rfl, HG.out⟩
theorem infoSi : (Try.prog.info? 53).map (·.size) = some 2 := by kernel_rfl
theorem infoFn : (Try.prog.info? 39).map (·.size) = some 7 := by kernel_rfl
theorem infoCe : (Try.prog.info? 47).map (·.size) = some 3 := by kernel_rfl
def whlB (P : Pr) (f : Fu) : Bool :=
 decide (-1 ≤ f.host) && decide (0 ≤ f.sig) && decide (f.sig < P.ss.length) && (match P.ss[f.sig.toNat]? with
  | some s => (f.inn == (s.s.i.length : Nat)) && (f.out == (s.s.o.length : Nat)) && decide (0 ≤ f.loc) && decide (f.loc ≤ 4096) && (decide (f.host = -1) == decide (0 < f.cs.length))
  | none => false)
set_option maxHeartbeats 2000000 in
theorem whl_host {w : World} {xs xf xc : Option Addr} {ns cs nf cf nc cc : Nat} {host sig inn out loc : Int} {mv : Value} (h : host < -1) :
  Calls Try.prog 26 #[.agg #[.slice xs ns cs, .slice xf nf cf], .agg #[.int .i64 host, .int .i64 sig, .int .i64 inn, .int .i64 out, .int .i64 loc, .slice xc nc cc, mv]] w fun e w' => e = .returned (.bool false) ∧ Gr w w' := by
 go_enter Try.func26, Try.ntmps26
 go_upto_region 1 with fail
 obtain ⟨hg, hb1, hb2⟩ := box2 w #[.slice xs ns cs, .slice xf nf cf] #[.int .i64 host, .int .i64 sig, .int .i64 inn, .int .i64 out, .int .i64 loc, .slice xc nc cc, mv] 34 39
 generalize (w.alloc (.cells #[.slice xs ns cs, .slice xf nf cf] 34)).alloc (.cells #[.int .i64 host, .int .i64 sig, .int .i64 inn, .int .i64 out, .int .i64 loc, .slice xc nc cc, mv] 39) = w1 at *
 have HG := Lib.hid hg
 obtain ⟨p0, p1⟩ := cells2 hb1
 obtain ⟨f0, f1, f2, f3, f4, f5, f6⟩ := cells7 hb2
 clear hg hb1 hb2
 go_wp2
 go_ret
 exact ⟨rfl, HG.out⟩
set_option maxHeartbeats 2000000 in
theorem whl_neg {w : World} {xs xf xc : Option Addr} {ns cs nf cf nc cc : Nat} {host sig inn out loc : Int} {mv : Value} (h0 : -1 ≤ host) (h : sig < 0) :
  Calls Try.prog 26 #[.agg #[.slice xs ns cs, .slice xf nf cf], .agg #[.int .i64 host, .int .i64 sig, .int .i64 inn, .int .i64 out, .int .i64 loc, .slice xc nc cc, mv]] w fun e w' => e = .returned (.bool false) ∧ Gr w w' := by
 go_enter Try.func26, Try.ntmps26
 go_upto_region 1 with fail
 obtain ⟨hg, hb1, hb2⟩ := box2 w #[.slice xs ns cs, .slice xf nf cf] #[.int .i64 host, .int .i64 sig, .int .i64 inn, .int .i64 out, .int .i64 loc, .slice xc nc cc, mv] 34 39
 generalize (w.alloc (.cells #[.slice xs ns cs, .slice xf nf cf] 34)).alloc (.cells #[.int .i64 host, .int .i64 sig, .int .i64 inn, .int .i64 out, .int .i64 loc, .slice xc nc cc, mv] 39) = w1 at *
 have HG := Lib.hid hg
 obtain ⟨p0, p1⟩ := cells2 hb1
 obtain ⟨f0, f1, f2, f3, f4, f5, f6⟩ := cells7 hb2
 clear hg hb1 hb2
 go_wp2
 go_ret
 exact ⟨rfl, HG.out⟩
set_option maxHeartbeats 2000000 in
theorem whl_big {w : World} {xs xf xc : Option Addr} {ns cs nf cf nc cc : Nat} {host sig inn out loc : Int} {mv : Value} (h0 : -1 ≤ host) (h1 : 0 ≤ sig) (h : (ns : Int) ≤ sig) :
  Calls Try.prog 26 #[.agg #[.slice xs ns cs, .slice xf nf cf], .agg #[.int .i64 host, .int .i64 sig, .int .i64 inn, .int .i64 out, .int .i64 loc, .slice xc nc cc, mv]] w fun e w' => e = .returned (.bool false) ∧ Gr w w' := by
 go_enter Try.func26, Try.ntmps26
 go_upto_region 1 with fail
 obtain ⟨hg, hb1, hb2⟩ := box2 w #[.slice xs ns cs, .slice xf nf cf] #[.int .i64 host, .int .i64 sig, .int .i64 inn, .int .i64 out, .int .i64 loc, .slice xc nc cc, mv] 34 39
 generalize (w.alloc (.cells #[.slice xs ns cs, .slice xf nf cf] 34)).alloc (.cells #[.int .i64 host, .int .i64 sig, .int .i64 inn, .int .i64 out, .int .i64 loc, .slice xc nc cc, mv] 39) = w1 at *
 have HG := Lib.hid hg
 obtain ⟨p0, p1⟩ := cells2 hb1
 obtain ⟨f0, f1, f2, f3, f4, f5, f6⟩ := cells7 hb2
 clear hg hb1 hb2
 go_wp2
 go_ret
 exact ⟨rfl, HG.out⟩
set_option maxHeartbeats 2000000 in
theorem whl_n1 {w : World} {xf xc : Option Addr} {ns cs nf cf nc cc : Nat} {host inn out loc : Int} {mv : Value} (h0 : -1 ≤ host) {b off i ni no ci co : Nat} {vi vo : Option Addr} (hi : i < ns) (_hns : ns ≤ 1099511627776) (h2 : w.cell? ⟨b, off + i * 2, none⟩ = some (.slice vi ni ci)) (h3 : w.cell? ⟨b, off + i * 2 + 1, none⟩ = some (.slice vo no co)) (e1 : (inn == (ni : Nat)) = false) :
  Calls Try.prog 26 #[.agg #[.slice (some ⟨b, off, none⟩) ns cs, .slice xf nf cf], .agg #[.int .i64 host, .int .i64 (i : Nat), .int .i64 inn, .int .i64 out, .int .i64 loc, .slice xc nc cc, mv]] w fun e w' => e = .returned (.bool false) ∧ Gr w w' := by
 go_enter Try.func26, Try.ntmps26
 go_upto_region 1 with fail
 obtain ⟨hg, hb1, hb2⟩ := box2 w #[.slice (some ⟨b, off, none⟩) ns cs, .slice xf nf cf] #[.int .i64 host, .int .i64 (i : Nat), .int .i64 inn, .int .i64 out, .int .i64 loc, .slice xc nc cc, mv] 34 39
 generalize (w.alloc (.cells #[.slice (some ⟨b, off, none⟩) ns cs, .slice xf nf cf] 34)).alloc (.cells #[.int .i64 host, .int .i64 (i : Nat), .int .i64 inn, .int .i64 out, .int .i64 loc, .slice xc nc cc, mv] 39) = w1 at *
 have HG := Lib.hid hg
 obtain ⟨p0, p1⟩ := cells2 hb1
 obtain ⟨f0, f1, f2, f3, f4, f5, f6⟩ := cells7 hb2
 clear hg hb1 hb2
 have HD := Lib.hid (show ∀ j u, (#[.slice vi ni ci, .slice vo no co] : Array Value).toList[j]? = some u → w1.cell? ⟨b, off + i * 2 + j, none⟩ = some u from fun j u hu => by
  match j, hu with
  | 0, hu => obtain rfl := Option.some.inj hu; exact gr_cell HG.out h2
  | 1, hu => obtain rfl := Option.some.inj hu; exact gr_cell HG.out h3
  | j + 2, hu => cases hu)
 have hi' : (i : Int) < (ns : Int) := by omega
 clear h2 h3
 go_upto_region 4 with (first | (refine wpList_load_cells rfl 53 _ rfl b (off + i * 2) rfl #[.slice vi ni ci, .slice vo no co] _ HD.out Try.underlying53 rfl infoSi ?_) | (refine wpList_store_row rfl 53 _ _ rfl w1.heap.size #[.slice vi ni ci, .slice vo no co] rfl rfl 53 #[.slice none 0 0, .slice none 0 0] (heap_alloc_new w1 _) infoSi rfl (by kernel_rfl) ?_))
 have hrw := Sep.setRow (ex := fun b => b = w1.heap.size) (w1.alloc (.cells #[.slice none 0 0, .slice none 0 0] 53)) rfl #[.slice vi ni ci, .slice vo no co]
 have hgg : Gr w1 ((w1.alloc (.cells #[.slice none 0 0, .slice none 0 0] 53)).setRow w1.heap.size #[.slice vi ni ci, .slice vo no co]) := Sep.toGr ((Gr.refl w1).alloc #[.slice none 0 0, .slice none 0 0] 53) hrw (fun q hq => by have e' : q = w1.heap.size := hq; omega)
 have hbk := setRow_block (c := #[.slice vi ni ci, .slice vo no co]) (heap_alloc_new w1 (.cells #[.slice none 0 0, .slice none 0 0] 53))
 have HS2 := Lib.hid hgg
 clear hrw hgg
 generalize (w1.alloc (.cells #[.slice none 0 0, .slice none 0 0] 53)).setRow w1.heap.size #[.slice vi ni ci, .slice vo no co] = w2 at *
 generalize hgs : w1.heap.size = gs at *
 obtain ⟨s0, s1⟩ := cells2 hbk
 have HG2 := Lib.hid (gr_trans HG.out HS2.out)
 have f0' := gr_cell HS2.out f0
 have f2' := gr_cell HS2.out f2
 have f3' := gr_cell HS2.out f3
 have f4' := gr_cell HS2.out f4
 have f5' := gr_cell HS2.out f5
 clear f0 f1 f2 f3 f4 f5 f6 p0 p1 hbk
 go_wp2
 go_ret
 exact ⟨rfl, HG2.out⟩
set_option maxHeartbeats 2000000 in
theorem whl_n2 {w : World} {xf xc : Option Addr} {ns cs nf cf nc cc : Nat} {host inn out loc : Int} {mv : Value} (h0 : -1 ≤ host) {b off i ni no ci co : Nat} {vi vo : Option Addr} (hi : i < ns) (_hns : ns ≤ 1099511627776) (h2 : w.cell? ⟨b, off + i * 2, none⟩ = some (.slice vi ni ci)) (h3 : w.cell? ⟨b, off + i * 2 + 1, none⟩ = some (.slice vo no co)) (e1 : (inn == (ni : Nat)) = true) (e2 : (out == (no : Nat)) = false) :
  Calls Try.prog 26 #[.agg #[.slice (some ⟨b, off, none⟩) ns cs, .slice xf nf cf], .agg #[.int .i64 host, .int .i64 (i : Nat), .int .i64 inn, .int .i64 out, .int .i64 loc, .slice xc nc cc, mv]] w fun e w' => e = .returned (.bool false) ∧ Gr w w' := by
 go_enter Try.func26, Try.ntmps26
 go_upto_region 1 with fail
 obtain ⟨hg, hb1, hb2⟩ := box2 w #[.slice (some ⟨b, off, none⟩) ns cs, .slice xf nf cf] #[.int .i64 host, .int .i64 (i : Nat), .int .i64 inn, .int .i64 out, .int .i64 loc, .slice xc nc cc, mv] 34 39
 generalize (w.alloc (.cells #[.slice (some ⟨b, off, none⟩) ns cs, .slice xf nf cf] 34)).alloc (.cells #[.int .i64 host, .int .i64 (i : Nat), .int .i64 inn, .int .i64 out, .int .i64 loc, .slice xc nc cc, mv] 39) = w1 at *
 have HG := Lib.hid hg
 obtain ⟨p0, p1⟩ := cells2 hb1
 obtain ⟨f0, f1, f2, f3, f4, f5, f6⟩ := cells7 hb2
 clear hg hb1 hb2
 have HD := Lib.hid (show ∀ j u, (#[.slice vi ni ci, .slice vo no co] : Array Value).toList[j]? = some u → w1.cell? ⟨b, off + i * 2 + j, none⟩ = some u from fun j u hu => by
  match j, hu with
  | 0, hu => obtain rfl := Option.some.inj hu; exact gr_cell HG.out h2
  | 1, hu => obtain rfl := Option.some.inj hu; exact gr_cell HG.out h3
  | j + 2, hu => cases hu)
 have hi' : (i : Int) < (ns : Int) := by omega
 clear h2 h3
 go_upto_region 4 with (first | (refine wpList_load_cells rfl 53 _ rfl b (off + i * 2) rfl #[.slice vi ni ci, .slice vo no co] _ HD.out Try.underlying53 rfl infoSi ?_) | (refine wpList_store_row rfl 53 _ _ rfl w1.heap.size #[.slice vi ni ci, .slice vo no co] rfl rfl 53 #[.slice none 0 0, .slice none 0 0] (heap_alloc_new w1 _) infoSi rfl (by kernel_rfl) ?_))
 have hrw := Sep.setRow (ex := fun b => b = w1.heap.size) (w1.alloc (.cells #[.slice none 0 0, .slice none 0 0] 53)) rfl #[.slice vi ni ci, .slice vo no co]
 have hgg : Gr w1 ((w1.alloc (.cells #[.slice none 0 0, .slice none 0 0] 53)).setRow w1.heap.size #[.slice vi ni ci, .slice vo no co]) := Sep.toGr ((Gr.refl w1).alloc #[.slice none 0 0, .slice none 0 0] 53) hrw (fun q hq => by have e' : q = w1.heap.size := hq; omega)
 have hbk := setRow_block (c := #[.slice vi ni ci, .slice vo no co]) (heap_alloc_new w1 (.cells #[.slice none 0 0, .slice none 0 0] 53))
 have HS2 := Lib.hid hgg
 clear hrw hgg
 generalize (w1.alloc (.cells #[.slice none 0 0, .slice none 0 0] 53)).setRow w1.heap.size #[.slice vi ni ci, .slice vo no co] = w2 at *
 generalize hgs : w1.heap.size = gs at *
 obtain ⟨s0, s1⟩ := cells2 hbk
 have HG2 := Lib.hid (gr_trans HG.out HS2.out)
 have f0' := gr_cell HS2.out f0
 have f2' := gr_cell HS2.out f2
 have f3' := gr_cell HS2.out f3
 have f4' := gr_cell HS2.out f4
 have f5' := gr_cell HS2.out f5
 clear f0 f1 f2 f3 f4 f5 f6 p0 p1 hbk
 go_wp2
 go_ret
 exact ⟨rfl, HG2.out⟩
set_option maxHeartbeats 2000000 in
theorem whl_n3 {w : World} {xf xc : Option Addr} {ns cs nf cf nc cc : Nat} {host inn out loc : Int} {mv : Value} (h0 : -1 ≤ host) {b off i ni no ci co : Nat} {vi vo : Option Addr} (hi : i < ns) (_hns : ns ≤ 1099511627776) (h2 : w.cell? ⟨b, off + i * 2, none⟩ = some (.slice vi ni ci)) (h3 : w.cell? ⟨b, off + i * 2 + 1, none⟩ = some (.slice vo no co)) (e1 : (inn == (ni : Nat)) = true) (e2 : (out == (no : Nat)) = true) (e3 : loc < 0) :
  Calls Try.prog 26 #[.agg #[.slice (some ⟨b, off, none⟩) ns cs, .slice xf nf cf], .agg #[.int .i64 host, .int .i64 (i : Nat), .int .i64 inn, .int .i64 out, .int .i64 loc, .slice xc nc cc, mv]] w fun e w' => e = .returned (.bool false) ∧ Gr w w' := by
 go_enter Try.func26, Try.ntmps26
 go_upto_region 1 with fail
 obtain ⟨hg, hb1, hb2⟩ := box2 w #[.slice (some ⟨b, off, none⟩) ns cs, .slice xf nf cf] #[.int .i64 host, .int .i64 (i : Nat), .int .i64 inn, .int .i64 out, .int .i64 loc, .slice xc nc cc, mv] 34 39
 generalize (w.alloc (.cells #[.slice (some ⟨b, off, none⟩) ns cs, .slice xf nf cf] 34)).alloc (.cells #[.int .i64 host, .int .i64 (i : Nat), .int .i64 inn, .int .i64 out, .int .i64 loc, .slice xc nc cc, mv] 39) = w1 at *
 have HG := Lib.hid hg
 obtain ⟨p0, p1⟩ := cells2 hb1
 obtain ⟨f0, f1, f2, f3, f4, f5, f6⟩ := cells7 hb2
 clear hg hb1 hb2
 have HD := Lib.hid (show ∀ j u, (#[.slice vi ni ci, .slice vo no co] : Array Value).toList[j]? = some u → w1.cell? ⟨b, off + i * 2 + j, none⟩ = some u from fun j u hu => by
  match j, hu with
  | 0, hu => obtain rfl := Option.some.inj hu; exact gr_cell HG.out h2
  | 1, hu => obtain rfl := Option.some.inj hu; exact gr_cell HG.out h3
  | j + 2, hu => cases hu)
 have hi' : (i : Int) < (ns : Int) := by omega
 clear h2 h3
 go_upto_region 4 with (first | (refine wpList_load_cells rfl 53 _ rfl b (off + i * 2) rfl #[.slice vi ni ci, .slice vo no co] _ HD.out Try.underlying53 rfl infoSi ?_) | (refine wpList_store_row rfl 53 _ _ rfl w1.heap.size #[.slice vi ni ci, .slice vo no co] rfl rfl 53 #[.slice none 0 0, .slice none 0 0] (heap_alloc_new w1 _) infoSi rfl (by kernel_rfl) ?_))
 have hrw := Sep.setRow (ex := fun b => b = w1.heap.size) (w1.alloc (.cells #[.slice none 0 0, .slice none 0 0] 53)) rfl #[.slice vi ni ci, .slice vo no co]
 have hgg : Gr w1 ((w1.alloc (.cells #[.slice none 0 0, .slice none 0 0] 53)).setRow w1.heap.size #[.slice vi ni ci, .slice vo no co]) := Sep.toGr ((Gr.refl w1).alloc #[.slice none 0 0, .slice none 0 0] 53) hrw (fun q hq => by have e' : q = w1.heap.size := hq; omega)
 have hbk := setRow_block (c := #[.slice vi ni ci, .slice vo no co]) (heap_alloc_new w1 (.cells #[.slice none 0 0, .slice none 0 0] 53))
 have HS2 := Lib.hid hgg
 clear hrw hgg
 generalize (w1.alloc (.cells #[.slice none 0 0, .slice none 0 0] 53)).setRow w1.heap.size #[.slice vi ni ci, .slice vo no co] = w2 at *
 generalize hgs : w1.heap.size = gs at *
 obtain ⟨s0, s1⟩ := cells2 hbk
 have HG2 := Lib.hid (gr_trans HG.out HS2.out)
 have f0' := gr_cell HS2.out f0
 have f2' := gr_cell HS2.out f2
 have f3' := gr_cell HS2.out f3
 have f4' := gr_cell HS2.out f4
 have f5' := gr_cell HS2.out f5
 clear f0 f1 f2 f3 f4 f5 f6 p0 p1 hbk
 go_wp2
 go_ret
 exact ⟨rfl, HG2.out⟩
set_option maxHeartbeats 2000000 in
theorem whl_n4 {w : World} {xf xc : Option Addr} {ns cs nf cf nc cc : Nat} {host inn out loc : Int} {mv : Value} (h0 : -1 ≤ host) {b off i ni no ci co : Nat} {vi vo : Option Addr} (hi : i < ns) (_hns : ns ≤ 1099511627776) (h2 : w.cell? ⟨b, off + i * 2, none⟩ = some (.slice vi ni ci)) (h3 : w.cell? ⟨b, off + i * 2 + 1, none⟩ = some (.slice vo no co)) (e1 : (inn == (ni : Nat)) = true) (e2 : (out == (no : Nat)) = true) (e3 : 4096 < loc) :
  Calls Try.prog 26 #[.agg #[.slice (some ⟨b, off, none⟩) ns cs, .slice xf nf cf], .agg #[.int .i64 host, .int .i64 (i : Nat), .int .i64 inn, .int .i64 out, .int .i64 loc, .slice xc nc cc, mv]] w fun e w' => e = .returned (.bool false) ∧ Gr w w' := by
 go_enter Try.func26, Try.ntmps26
 go_upto_region 1 with fail
 obtain ⟨hg, hb1, hb2⟩ := box2 w #[.slice (some ⟨b, off, none⟩) ns cs, .slice xf nf cf] #[.int .i64 host, .int .i64 (i : Nat), .int .i64 inn, .int .i64 out, .int .i64 loc, .slice xc nc cc, mv] 34 39
 generalize (w.alloc (.cells #[.slice (some ⟨b, off, none⟩) ns cs, .slice xf nf cf] 34)).alloc (.cells #[.int .i64 host, .int .i64 (i : Nat), .int .i64 inn, .int .i64 out, .int .i64 loc, .slice xc nc cc, mv] 39) = w1 at *
 have HG := Lib.hid hg
 obtain ⟨p0, p1⟩ := cells2 hb1
 obtain ⟨f0, f1, f2, f3, f4, f5, f6⟩ := cells7 hb2
 clear hg hb1 hb2
 have HD := Lib.hid (show ∀ j u, (#[.slice vi ni ci, .slice vo no co] : Array Value).toList[j]? = some u → w1.cell? ⟨b, off + i * 2 + j, none⟩ = some u from fun j u hu => by
  match j, hu with
  | 0, hu => obtain rfl := Option.some.inj hu; exact gr_cell HG.out h2
  | 1, hu => obtain rfl := Option.some.inj hu; exact gr_cell HG.out h3
  | j + 2, hu => cases hu)
 have hi' : (i : Int) < (ns : Int) := by omega
 clear h2 h3
 go_upto_region 4 with (first | (refine wpList_load_cells rfl 53 _ rfl b (off + i * 2) rfl #[.slice vi ni ci, .slice vo no co] _ HD.out Try.underlying53 rfl infoSi ?_) | (refine wpList_store_row rfl 53 _ _ rfl w1.heap.size #[.slice vi ni ci, .slice vo no co] rfl rfl 53 #[.slice none 0 0, .slice none 0 0] (heap_alloc_new w1 _) infoSi rfl (by kernel_rfl) ?_))
 have hrw := Sep.setRow (ex := fun b => b = w1.heap.size) (w1.alloc (.cells #[.slice none 0 0, .slice none 0 0] 53)) rfl #[.slice vi ni ci, .slice vo no co]
 have hgg : Gr w1 ((w1.alloc (.cells #[.slice none 0 0, .slice none 0 0] 53)).setRow w1.heap.size #[.slice vi ni ci, .slice vo no co]) := Sep.toGr ((Gr.refl w1).alloc #[.slice none 0 0, .slice none 0 0] 53) hrw (fun q hq => by have e' : q = w1.heap.size := hq; omega)
 have hbk := setRow_block (c := #[.slice vi ni ci, .slice vo no co]) (heap_alloc_new w1 (.cells #[.slice none 0 0, .slice none 0 0] 53))
 have HS2 := Lib.hid hgg
 clear hrw hgg
 generalize (w1.alloc (.cells #[.slice none 0 0, .slice none 0 0] 53)).setRow w1.heap.size #[.slice vi ni ci, .slice vo no co] = w2 at *
 generalize hgs : w1.heap.size = gs at *
 obtain ⟨s0, s1⟩ := cells2 hbk
 have HG2 := Lib.hid (gr_trans HG.out HS2.out)
 have f0' := gr_cell HS2.out f0
 have f2' := gr_cell HS2.out f2
 have f3' := gr_cell HS2.out f3
 have f4' := gr_cell HS2.out f4
 have f5' := gr_cell HS2.out f5
 clear f0 f1 f2 f3 f4 f5 f6 p0 p1 hbk
 go_wp2
 go_ret
 exact ⟨rfl, HG2.out⟩
set_option maxHeartbeats 2000000 in
theorem whl_y1 {w : World} {xf xc : Option Addr} {ns cs nf cf cc : Nat} {host inn out loc : Int} {mv : Value} (h0 : -1 ≤ host) {b off i ni no ci co : Nat} {vi vo : Option Addr} (hi : i < ns) (_hns : ns ≤ 1099511627776) (h2 : w.cell? ⟨b, off + i * 2, none⟩ = some (.slice vi ni ci)) (h3 : w.cell? ⟨b, off + i * 2 + 1, none⟩ = some (.slice vo no co)) (e1 : (inn == (ni : Nat)) = true) (e2 : (out == (no : Nat)) = true) (e3 : 0 ≤ loc) (e4 : loc ≤ 4096) (e5 : (host == -1) = true) :
  Calls Try.prog 26 #[.agg #[.slice (some ⟨b, off, none⟩) ns cs, .slice xf nf cf], .agg #[.int .i64 host, .int .i64 (i : Nat), .int .i64 inn, .int .i64 out, .int .i64 loc, .slice xc 0 cc, mv]] w fun e w' => e = .returned (.bool false) ∧ Gr w w' := by
 go_enter Try.func26, Try.ntmps26
 go_upto_region 1 with fail
 obtain ⟨hg, hb1, hb2⟩ := box2 w #[.slice (some ⟨b, off, none⟩) ns cs, .slice xf nf cf] #[.int .i64 host, .int .i64 (i : Nat), .int .i64 inn, .int .i64 out, .int .i64 loc, .slice xc 0 cc, mv] 34 39
 generalize (w.alloc (.cells #[.slice (some ⟨b, off, none⟩) ns cs, .slice xf nf cf] 34)).alloc (.cells #[.int .i64 host, .int .i64 (i : Nat), .int .i64 inn, .int .i64 out, .int .i64 loc, .slice xc 0 cc, mv] 39) = w1 at *
 have HG := Lib.hid hg
 obtain ⟨p0, p1⟩ := cells2 hb1
 obtain ⟨f0, f1, f2, f3, f4, f5, f6⟩ := cells7 hb2
 clear hg hb1 hb2
 have HD := Lib.hid (show ∀ j u, (#[.slice vi ni ci, .slice vo no co] : Array Value).toList[j]? = some u → w1.cell? ⟨b, off + i * 2 + j, none⟩ = some u from fun j u hu => by
  match j, hu with
  | 0, hu => obtain rfl := Option.some.inj hu; exact gr_cell HG.out h2
  | 1, hu => obtain rfl := Option.some.inj hu; exact gr_cell HG.out h3
  | j + 2, hu => cases hu)
 have hi' : (i : Int) < (ns : Int) := by omega
 clear h2 h3
 go_upto_region 4 with (first | (refine wpList_load_cells rfl 53 _ rfl b (off + i * 2) rfl #[.slice vi ni ci, .slice vo no co] _ HD.out Try.underlying53 rfl infoSi ?_) | (refine wpList_store_row rfl 53 _ _ rfl w1.heap.size #[.slice vi ni ci, .slice vo no co] rfl rfl 53 #[.slice none 0 0, .slice none 0 0] (heap_alloc_new w1 _) infoSi rfl (by kernel_rfl) ?_))
 have hrw := Sep.setRow (ex := fun b => b = w1.heap.size) (w1.alloc (.cells #[.slice none 0 0, .slice none 0 0] 53)) rfl #[.slice vi ni ci, .slice vo no co]
 have hgg : Gr w1 ((w1.alloc (.cells #[.slice none 0 0, .slice none 0 0] 53)).setRow w1.heap.size #[.slice vi ni ci, .slice vo no co]) := Sep.toGr ((Gr.refl w1).alloc #[.slice none 0 0, .slice none 0 0] 53) hrw (fun q hq => by have e' : q = w1.heap.size := hq; omega)
 have hbk := setRow_block (c := #[.slice vi ni ci, .slice vo no co]) (heap_alloc_new w1 (.cells #[.slice none 0 0, .slice none 0 0] 53))
 have HS2 := Lib.hid hgg
 clear hrw hgg
 generalize (w1.alloc (.cells #[.slice none 0 0, .slice none 0 0] 53)).setRow w1.heap.size #[.slice vi ni ci, .slice vo no co] = w2 at *
 generalize hgs : w1.heap.size = gs at *
 obtain ⟨s0, s1⟩ := cells2 hbk
 have HG2 := Lib.hid (gr_trans HG.out HS2.out)
 have f0' := gr_cell HS2.out f0
 have f2' := gr_cell HS2.out f2
 have f3' := gr_cell HS2.out f3
 have f4' := gr_cell HS2.out f4
 have f5' := gr_cell HS2.out f5
 clear f0 f1 f2 f3 f4 f5 f6 p0 p1 hbk
 go_wp2
 go_ret
 exact ⟨rfl, HG2.out⟩
set_option maxHeartbeats 2000000 in
theorem whl_y2 {w : World} {xf xc : Option Addr} {ns cs nf cf nc cc : Nat} {host inn out loc : Int} {mv : Value} (h0 : -1 ≤ host) {b off i ni no ci co : Nat} {vi vo : Option Addr} (hi : i < ns) (_hns : ns ≤ 1099511627776) (h2 : w.cell? ⟨b, off + i * 2, none⟩ = some (.slice vi ni ci)) (h3 : w.cell? ⟨b, off + i * 2 + 1, none⟩ = some (.slice vo no co)) (e1 : (inn == (ni : Nat)) = true) (e2 : (out == (no : Nat)) = true) (e3 : 0 ≤ loc) (e4 : loc ≤ 4096) (e5 : (host == -1) = true) (e6 : 0 < nc) :
  Calls Try.prog 26 #[.agg #[.slice (some ⟨b, off, none⟩) ns cs, .slice xf nf cf], .agg #[.int .i64 host, .int .i64 (i : Nat), .int .i64 inn, .int .i64 out, .int .i64 loc, .slice xc nc cc, mv]] w fun e w' => e = .returned (.bool true) ∧ Gr w w' := by
 have hnc : (0 : Int) < (nc : Int) := by omega
 go_enter Try.func26, Try.ntmps26
 go_upto_region 1 with fail
 obtain ⟨hg, hb1, hb2⟩ := box2 w #[.slice (some ⟨b, off, none⟩) ns cs, .slice xf nf cf] #[.int .i64 host, .int .i64 (i : Nat), .int .i64 inn, .int .i64 out, .int .i64 loc, .slice xc nc cc, mv] 34 39
 generalize (w.alloc (.cells #[.slice (some ⟨b, off, none⟩) ns cs, .slice xf nf cf] 34)).alloc (.cells #[.int .i64 host, .int .i64 (i : Nat), .int .i64 inn, .int .i64 out, .int .i64 loc, .slice xc nc cc, mv] 39) = w1 at *
 have HG := Lib.hid hg
 obtain ⟨p0, p1⟩ := cells2 hb1
 obtain ⟨f0, f1, f2, f3, f4, f5, f6⟩ := cells7 hb2
 clear hg hb1 hb2
 have HD := Lib.hid (show ∀ j u, (#[.slice vi ni ci, .slice vo no co] : Array Value).toList[j]? = some u → w1.cell? ⟨b, off + i * 2 + j, none⟩ = some u from fun j u hu => by
  match j, hu with
  | 0, hu => obtain rfl := Option.some.inj hu; exact gr_cell HG.out h2
  | 1, hu => obtain rfl := Option.some.inj hu; exact gr_cell HG.out h3
  | j + 2, hu => cases hu)
 have hi' : (i : Int) < (ns : Int) := by omega
 clear h2 h3
 go_upto_region 4 with (first | (refine wpList_load_cells rfl 53 _ rfl b (off + i * 2) rfl #[.slice vi ni ci, .slice vo no co] _ HD.out Try.underlying53 rfl infoSi ?_) | (refine wpList_store_row rfl 53 _ _ rfl w1.heap.size #[.slice vi ni ci, .slice vo no co] rfl rfl 53 #[.slice none 0 0, .slice none 0 0] (heap_alloc_new w1 _) infoSi rfl (by kernel_rfl) ?_))
 have hrw := Sep.setRow (ex := fun b => b = w1.heap.size) (w1.alloc (.cells #[.slice none 0 0, .slice none 0 0] 53)) rfl #[.slice vi ni ci, .slice vo no co]
 have hgg : Gr w1 ((w1.alloc (.cells #[.slice none 0 0, .slice none 0 0] 53)).setRow w1.heap.size #[.slice vi ni ci, .slice vo no co]) := Sep.toGr ((Gr.refl w1).alloc #[.slice none 0 0, .slice none 0 0] 53) hrw (fun q hq => by have e' : q = w1.heap.size := hq; omega)
 have hbk := setRow_block (c := #[.slice vi ni ci, .slice vo no co]) (heap_alloc_new w1 (.cells #[.slice none 0 0, .slice none 0 0] 53))
 have HS2 := Lib.hid hgg
 clear hrw hgg
 generalize (w1.alloc (.cells #[.slice none 0 0, .slice none 0 0] 53)).setRow w1.heap.size #[.slice vi ni ci, .slice vo no co] = w2 at *
 generalize hgs : w1.heap.size = gs at *
 obtain ⟨s0, s1⟩ := cells2 hbk
 have HG2 := Lib.hid (gr_trans HG.out HS2.out)
 have f0' := gr_cell HS2.out f0
 have f2' := gr_cell HS2.out f2
 have f3' := gr_cell HS2.out f3
 have f4' := gr_cell HS2.out f4
 have f5' := gr_cell HS2.out f5
 clear f0 f1 f2 f3 f4 f5 f6 p0 p1 hbk
 go_wp2
 go_ret
 exact ⟨rfl, HG2.out⟩
set_option maxHeartbeats 2000000 in
theorem whl_y3 {w : World} {xf xc : Option Addr} {ns cs nf cf cc : Nat} {host inn out loc : Int} {mv : Value} (h0 : -1 ≤ host) {b off i ni no ci co : Nat} {vi vo : Option Addr} (hi : i < ns) (_hns : ns ≤ 1099511627776) (h2 : w.cell? ⟨b, off + i * 2, none⟩ = some (.slice vi ni ci)) (h3 : w.cell? ⟨b, off + i * 2 + 1, none⟩ = some (.slice vo no co)) (e1 : (inn == (ni : Nat)) = true) (e2 : (out == (no : Nat)) = true) (e3 : 0 ≤ loc) (e4 : loc ≤ 4096) (e5 : (host == -1) = false) :
  Calls Try.prog 26 #[.agg #[.slice (some ⟨b, off, none⟩) ns cs, .slice xf nf cf], .agg #[.int .i64 host, .int .i64 (i : Nat), .int .i64 inn, .int .i64 out, .int .i64 loc, .slice xc 0 cc, mv]] w fun e w' => e = .returned (.bool true) ∧ Gr w w' := by
 go_enter Try.func26, Try.ntmps26
 go_upto_region 1 with fail
 obtain ⟨hg, hb1, hb2⟩ := box2 w #[.slice (some ⟨b, off, none⟩) ns cs, .slice xf nf cf] #[.int .i64 host, .int .i64 (i : Nat), .int .i64 inn, .int .i64 out, .int .i64 loc, .slice xc 0 cc, mv] 34 39
 generalize (w.alloc (.cells #[.slice (some ⟨b, off, none⟩) ns cs, .slice xf nf cf] 34)).alloc (.cells #[.int .i64 host, .int .i64 (i : Nat), .int .i64 inn, .int .i64 out, .int .i64 loc, .slice xc 0 cc, mv] 39) = w1 at *
 have HG := Lib.hid hg
 obtain ⟨p0, p1⟩ := cells2 hb1
 obtain ⟨f0, f1, f2, f3, f4, f5, f6⟩ := cells7 hb2
 clear hg hb1 hb2
 have HD := Lib.hid (show ∀ j u, (#[.slice vi ni ci, .slice vo no co] : Array Value).toList[j]? = some u → w1.cell? ⟨b, off + i * 2 + j, none⟩ = some u from fun j u hu => by
  match j, hu with
  | 0, hu => obtain rfl := Option.some.inj hu; exact gr_cell HG.out h2
  | 1, hu => obtain rfl := Option.some.inj hu; exact gr_cell HG.out h3
  | j + 2, hu => cases hu)
 have hi' : (i : Int) < (ns : Int) := by omega
 clear h2 h3
 go_upto_region 4 with (first | (refine wpList_load_cells rfl 53 _ rfl b (off + i * 2) rfl #[.slice vi ni ci, .slice vo no co] _ HD.out Try.underlying53 rfl infoSi ?_) | (refine wpList_store_row rfl 53 _ _ rfl w1.heap.size #[.slice vi ni ci, .slice vo no co] rfl rfl 53 #[.slice none 0 0, .slice none 0 0] (heap_alloc_new w1 _) infoSi rfl (by kernel_rfl) ?_))
 have hrw := Sep.setRow (ex := fun b => b = w1.heap.size) (w1.alloc (.cells #[.slice none 0 0, .slice none 0 0] 53)) rfl #[.slice vi ni ci, .slice vo no co]
 have hgg : Gr w1 ((w1.alloc (.cells #[.slice none 0 0, .slice none 0 0] 53)).setRow w1.heap.size #[.slice vi ni ci, .slice vo no co]) := Sep.toGr ((Gr.refl w1).alloc #[.slice none 0 0, .slice none 0 0] 53) hrw (fun q hq => by have e' : q = w1.heap.size := hq; omega)
 have hbk := setRow_block (c := #[.slice vi ni ci, .slice vo no co]) (heap_alloc_new w1 (.cells #[.slice none 0 0, .slice none 0 0] 53))
 have HS2 := Lib.hid hgg
 clear hrw hgg
 generalize (w1.alloc (.cells #[.slice none 0 0, .slice none 0 0] 53)).setRow w1.heap.size #[.slice vi ni ci, .slice vo no co] = w2 at *
 generalize hgs : w1.heap.size = gs at *
 obtain ⟨s0, s1⟩ := cells2 hbk
 have HG2 := Lib.hid (gr_trans HG.out HS2.out)
 have f0' := gr_cell HS2.out f0
 have f2' := gr_cell HS2.out f2
 have f3' := gr_cell HS2.out f3
 have f4' := gr_cell HS2.out f4
 have f5' := gr_cell HS2.out f5
 clear f0 f1 f2 f3 f4 f5 f6 p0 p1 hbk
 go_wp2
 go_ret
 exact ⟨rfl, HG2.out⟩
set_option maxHeartbeats 2000000 in
theorem whl_y4 {w : World} {xf xc : Option Addr} {ns cs nf cf nc cc : Nat} {host inn out loc : Int} {mv : Value} (h0 : -1 ≤ host) {b off i ni no ci co : Nat} {vi vo : Option Addr} (hi : i < ns) (_hns : ns ≤ 1099511627776) (h2 : w.cell? ⟨b, off + i * 2, none⟩ = some (.slice vi ni ci)) (h3 : w.cell? ⟨b, off + i * 2 + 1, none⟩ = some (.slice vo no co)) (e1 : (inn == (ni : Nat)) = true) (e2 : (out == (no : Nat)) = true) (e3 : 0 ≤ loc) (e4 : loc ≤ 4096) (e5 : (host == -1) = false) (e6 : 0 < nc) :
  Calls Try.prog 26 #[.agg #[.slice (some ⟨b, off, none⟩) ns cs, .slice xf nf cf], .agg #[.int .i64 host, .int .i64 (i : Nat), .int .i64 inn, .int .i64 out, .int .i64 loc, .slice xc nc cc, mv]] w fun e w' => e = .returned (.bool false) ∧ Gr w w' := by
 have hnc : (0 : Int) < (nc : Int) := by omega
 go_enter Try.func26, Try.ntmps26
 go_upto_region 1 with fail
 obtain ⟨hg, hb1, hb2⟩ := box2 w #[.slice (some ⟨b, off, none⟩) ns cs, .slice xf nf cf] #[.int .i64 host, .int .i64 (i : Nat), .int .i64 inn, .int .i64 out, .int .i64 loc, .slice xc nc cc, mv] 34 39
 generalize (w.alloc (.cells #[.slice (some ⟨b, off, none⟩) ns cs, .slice xf nf cf] 34)).alloc (.cells #[.int .i64 host, .int .i64 (i : Nat), .int .i64 inn, .int .i64 out, .int .i64 loc, .slice xc nc cc, mv] 39) = w1 at *
 have HG := Lib.hid hg
 obtain ⟨p0, p1⟩ := cells2 hb1
 obtain ⟨f0, f1, f2, f3, f4, f5, f6⟩ := cells7 hb2
 clear hg hb1 hb2
 have HD := Lib.hid (show ∀ j u, (#[.slice vi ni ci, .slice vo no co] : Array Value).toList[j]? = some u → w1.cell? ⟨b, off + i * 2 + j, none⟩ = some u from fun j u hu => by
  match j, hu with
  | 0, hu => obtain rfl := Option.some.inj hu; exact gr_cell HG.out h2
  | 1, hu => obtain rfl := Option.some.inj hu; exact gr_cell HG.out h3
  | j + 2, hu => cases hu)
 have hi' : (i : Int) < (ns : Int) := by omega
 clear h2 h3
 go_upto_region 4 with (first | (refine wpList_load_cells rfl 53 _ rfl b (off + i * 2) rfl #[.slice vi ni ci, .slice vo no co] _ HD.out Try.underlying53 rfl infoSi ?_) | (refine wpList_store_row rfl 53 _ _ rfl w1.heap.size #[.slice vi ni ci, .slice vo no co] rfl rfl 53 #[.slice none 0 0, .slice none 0 0] (heap_alloc_new w1 _) infoSi rfl (by kernel_rfl) ?_))
 have hrw := Sep.setRow (ex := fun b => b = w1.heap.size) (w1.alloc (.cells #[.slice none 0 0, .slice none 0 0] 53)) rfl #[.slice vi ni ci, .slice vo no co]
 have hgg : Gr w1 ((w1.alloc (.cells #[.slice none 0 0, .slice none 0 0] 53)).setRow w1.heap.size #[.slice vi ni ci, .slice vo no co]) := Sep.toGr ((Gr.refl w1).alloc #[.slice none 0 0, .slice none 0 0] 53) hrw (fun q hq => by have e' : q = w1.heap.size := hq; omega)
 have hbk := setRow_block (c := #[.slice vi ni ci, .slice vo no co]) (heap_alloc_new w1 (.cells #[.slice none 0 0, .slice none 0 0] 53))
 have HS2 := Lib.hid hgg
 clear hrw hgg
 generalize (w1.alloc (.cells #[.slice none 0 0, .slice none 0 0] 53)).setRow w1.heap.size #[.slice vi ni ci, .slice vo no co] = w2 at *
 generalize hgs : w1.heap.size = gs at *
 obtain ⟨s0, s1⟩ := cells2 hbk
 have HG2 := Lib.hid (gr_trans HG.out HS2.out)
 have f0' := gr_cell HS2.out f0
 have f2' := gr_cell HS2.out f2
 have f3' := gr_cell HS2.out f3
 have f4' := gr_cell HS2.out f4
 have f5' := gr_cell HS2.out f5
 clear f0 f1 f2 f3 f4 f5 f6 p0 p1 hbk
 go_wp2
 go_ret
 exact ⟨rfl, HG2.out⟩
theorem whole_any {w : World} {sv fv : Value} {P : Pr} (h : PrR w sv fv P) {f : FuV} (hf : ∃ x c, f.cv = .slice x f.f.cs.length c) :
  Calls Try.prog 26 #[.agg #[sv, fv], .agg (fuA f)] w fun e w' => e = .returned (.bool (whlB P f.f)) ∧ Gr w w' := by
 obtain ⟨xs, cs, rfl, _⟩ := id h.ss
 obtain ⟨xf, cf, rfl, _⟩ := id h.fs
 obtain ⟨⟨host, sig, inn, out, loc, l⟩, cv, mv⟩ := f
 obtain ⟨xc, cc, e⟩ := hf
 dsimp only at e
 subst e
 unfold fuA
 dsimp only
 by_cases h0 : host < -1
 ·rw [show whlB P ⟨host, sig, inn, out, loc, l⟩ = false by unfold whlB; dsimp only; rw [decide_eq_false (by omega)]; rfl]
  exact whl_host h0
 by_cases h1 : sig < 0
 ·rw [show whlB P ⟨host, sig, inn, out, loc, l⟩ = false by unfold whlB; dsimp only; rw [decide_eq_false (p := 0 ≤ sig) (by omega), Bool.and_false]; rfl]
  exact whl_neg (by omega) h1
 by_cases h2 : (P.ss.length : Int) ≤ sig
 ·rw [show whlB P ⟨host, sig, inn, out, loc, l⟩ = false by unfold whlB; dsimp only; rw [decide_eq_false (p := sig < P.ss.length) (by omega), Bool.and_false]; rfl]
  exact whl_big (by omega) (by omega) h2
 obtain ⟨i, rfl⟩ : ∃ i : Nat, sig = i := ⟨sig.toNat, by omega⟩
 obtain ⟨g, hg⟩ : ∃ g, P.ss[i]? = some g := ⟨_, List.getElem?_eq_getElem (by omega)⟩
 obtain ⟨b, off, rfl, hcl⟩ := rwR_at (z := 2) (fun _ => rfl) h.ss hg (by decide)
 have hs := h.sis g (List.mem_of_getElem? hg)
 obtain ⟨vi, ci, e1, _⟩ := hs.iv
 obtain ⟨vo, co, e2, _⟩ := hs.ov
 have k2 : w.cell? ⟨b, off + i * 2, none⟩ = some (.slice vi g.s.i.length ci) := hcl 0 _ (by rw [← e1]; rfl)
 have k3 : w.cell? ⟨b, off + i * 2 + 1, none⟩ = some (.slice vo g.s.o.length co) := hcl 1 _ (by rw [← e2]; rfl)
 have hi : i < P.ss.length := by omega
 have hw : whlB P ⟨host, (i : Int), inn, out, loc, l⟩ = ((inn == (g.s.i.length : Nat)) && (out == (g.s.o.length : Nat)) && decide (0 ≤ loc) && decide (loc ≤ 4096) && (decide (host = -1) == decide (0 < l.length))) := by
  unfold whlB
  dsimp only
  rw [Int.toNat_natCast, hg, decide_eq_true (p := -1 ≤ host) (by omega), decide_eq_true (p := (0 : Int) ≤ i) (by omega), decide_eq_true (p := (i : Int) < P.ss.length) (by omega)]
  rfl
 rw [hw]
 have hb : (host == -1) = decide (host = -1) := rfl
 cases q1 : (inn == (g.s.i.length : Nat)) with
 | false => exact whl_n1 (by omega) hi h.ls k2 k3 q1
 | true =>
 cases q2 : (out == (g.s.o.length : Nat)) with
 | false => exact whl_n2 (by omega) hi h.ls k2 k3 q1 q2
 | true =>
 by_cases q3 : loc < 0
 ·rw [decide_eq_false (p := 0 ≤ loc) (by omega)]
  exact whl_n3 (by omega) hi h.ls k2 k3 q1 q2 q3
 rw [decide_eq_true (p := 0 ≤ loc) (by omega)]
 by_cases q4 : 4096 < loc
 ·rw [decide_eq_false (p := loc ≤ 4096) (by omega)]
  exact whl_n4 (by omega) hi h.ls k2 k3 q1 q2 q4
 rw [decide_eq_true (p := loc ≤ 4096) (by omega)]
 by_cases q5 : host = -1
 ·have q5' : (host == -1) = true := by rw [hb]; exact decide_eq_true q5
  rw [decide_eq_true q5]
  by_cases q6 : l.length = 0
  ·rw [q6]
   exact whl_y1 (by omega) hi h.ls k2 k3 q1 q2 (by omega) (by omega) q5'
  ·rw [decide_eq_true (p := 0 < l.length) (by omega)]
   exact whl_y2 (by omega) hi h.ls k2 k3 q1 q2 (by omega) (by omega) q5' (by omega)
 ·have q5' : (host == -1) = false := by rw [hb]; exact decide_eq_false q5
  rw [decide_eq_false q5]
  by_cases q6 : l.length = 0
  ·rw [q6]
   exact whl_y3 (by omega) hi h.ls k2 k3 q1 q2 (by omega) (by omega) q5'
  ·rw [decide_eq_true (p := 0 < l.length) (by omega)]
   exact whl_y4 (by omega) hi h.ls k2 k3 q1 q2 (by omega) (by omega) q5' (by omega)
def stdB (P : Pr) (f : Fu) (at_ : Int) (c : Ce) : Bool :=
 if c.op = 12 ∨ c.op = 13 then belB c.a f.cs.length
 else if c.op = 14 then belB c.a (f.cs.length - at_ - 1)
 else if c.op = 16 then belB c.a P.fs.length
 else if c.op = 17 then belB c.a P.ss.length
 else if c.op = 32 ∨ c.op = 33 ∨ c.op = 34 then belB c.a (wrap64 (f.inn + f.loc))
 else if c.op = 35 ∨ c.op = 36 then decide (0 ≤ c.a)
 else if c.op = 256 then decide (0 ≤ c.a) && decide (c.a ≤ 1048576) && decide (c.n ≤ 1048576)
 else sclB c.op
set_option maxHeartbeats 2000000 in
theorem std_12 {w : World} {xs xf xc : Option Addr} {ns cs nf cf nc cc : Nat} {host sig inn out loc a n at_ : Int} {mv : Value} :
  Calls Try.prog 27 #[.agg #[.slice xs ns cs, .slice xf nf cf], .agg #[.int .i64 host, .int .i64 sig, .int .i64 inn, .int .i64 out, .int .i64 loc, .slice xc nc cc, mv], .int .i64 at_, .agg #[.int .i64 12, .int .i64 a, .int .u64 n]] w fun e w' => e = .returned (.bool (belB a nc)) ∧ Gr w w' := by
 have HB := Lib.hid (fun n e w => below_any n e w)
 go_enter Try.func27, Try.ntmps27
 go_upto_region 1 with fail
 obtain ⟨hg, hb1, hb2, hb3⟩ := box3 w #[.slice xs ns cs, .slice xf nf cf] #[.int .i64 host, .int .i64 sig, .int .i64 inn, .int .i64 out, .int .i64 loc, .slice xc nc cc, mv] #[.int .i64 12, .int .i64 a, .int .u64 n] 34 39 47
 generalize ((w.alloc (.cells #[.slice xs ns cs, .slice xf nf cf] 34)).alloc (.cells #[.int .i64 host, .int .i64 sig, .int .i64 inn, .int .i64 out, .int .i64 loc, .slice xc nc cc, mv] 39)).alloc (.cells #[.int .i64 12, .int .i64 a, .int .u64 n] 47) = w1 at *
 have HG := Lib.hid hg
 obtain ⟨p0, p1⟩ := cells2 hb1
 obtain ⟨f0, f1, f2, f3, f4, f5, f6⟩ := cells7 hb2
 obtain ⟨c0, c1, c2⟩ := cells3 hb3
 clear hg hb1 hb2 hb3
 go_wp2_with fail
 refine (HB.out _ _ _).mono ?_
 rintro e w2 ⟨rfl, rfl⟩
 go_wp2
 go_ret
 exact ⟨rfl, HG.out⟩
set_option maxHeartbeats 2000000 in
theorem std_13 {w : World} {xs xf xc : Option Addr} {ns cs nf cf nc cc : Nat} {host sig inn out loc a n at_ : Int} {mv : Value} :
  Calls Try.prog 27 #[.agg #[.slice xs ns cs, .slice xf nf cf], .agg #[.int .i64 host, .int .i64 sig, .int .i64 inn, .int .i64 out, .int .i64 loc, .slice xc nc cc, mv], .int .i64 at_, .agg #[.int .i64 13, .int .i64 a, .int .u64 n]] w fun e w' => e = .returned (.bool (belB a nc)) ∧ Gr w w' := by
 have HB := Lib.hid (fun n e w => below_any n e w)
 go_enter Try.func27, Try.ntmps27
 go_upto_region 1 with fail
 obtain ⟨hg, hb1, hb2, hb3⟩ := box3 w #[.slice xs ns cs, .slice xf nf cf] #[.int .i64 host, .int .i64 sig, .int .i64 inn, .int .i64 out, .int .i64 loc, .slice xc nc cc, mv] #[.int .i64 13, .int .i64 a, .int .u64 n] 34 39 47
 generalize ((w.alloc (.cells #[.slice xs ns cs, .slice xf nf cf] 34)).alloc (.cells #[.int .i64 host, .int .i64 sig, .int .i64 inn, .int .i64 out, .int .i64 loc, .slice xc nc cc, mv] 39)).alloc (.cells #[.int .i64 13, .int .i64 a, .int .u64 n] 47) = w1 at *
 have HG := Lib.hid hg
 obtain ⟨p0, p1⟩ := cells2 hb1
 obtain ⟨f0, f1, f2, f3, f4, f5, f6⟩ := cells7 hb2
 obtain ⟨c0, c1, c2⟩ := cells3 hb3
 clear hg hb1 hb2 hb3
 go_wp2_with fail
 refine (HB.out _ _ _).mono ?_
 rintro e w2 ⟨rfl, rfl⟩
 go_wp2
 go_ret
 exact ⟨rfl, HG.out⟩
set_option maxHeartbeats 2000000 in
theorem std_14 {w : World} {xs xf xc : Option Addr} {ns cs nf cf nc cc : Nat} {host sig inn out loc a n at_ : Int} {mv : Value} (h1 : 0 ≤ at_) (h2 : at_ ≤ 1099511627776) (h3 : nc ≤ 1099511627776) :
  Calls Try.prog 27 #[.agg #[.slice xs ns cs, .slice xf nf cf], .agg #[.int .i64 host, .int .i64 sig, .int .i64 inn, .int .i64 out, .int .i64 loc, .slice xc nc cc, mv], .int .i64 at_, .agg #[.int .i64 14, .int .i64 a, .int .u64 n]] w fun e w' => e = .returned (.bool (belB a (nc - at_ - 1))) ∧ Gr w w' := by
 have HB := Lib.hid (fun n e w => below_any n e w)
 have T1 : IntKind.i64.wrap ((nc : Int) - at_) = nc - at_ := by rw [IntKind.wrap_i64]; omega
 have T2 : IntKind.i64.wrap ((nc : Int) - at_ - 1) = nc - at_ - 1 := by rw [IntKind.wrap_i64]; omega
 have T3 : wrap64 ((nc : Int) - at_) = nc - at_ := by unfold wrap64; omega
 have T4 : wrap64 ((nc : Int) - at_ - 1) = nc - at_ - 1 := by unfold wrap64; omega
 go_enter Try.func27, Try.ntmps27
 go_upto_region 1 with fail
 obtain ⟨hg, hb1, hb2, hb3⟩ := box3 w #[.slice xs ns cs, .slice xf nf cf] #[.int .i64 host, .int .i64 sig, .int .i64 inn, .int .i64 out, .int .i64 loc, .slice xc nc cc, mv] #[.int .i64 14, .int .i64 a, .int .u64 n] 34 39 47
 generalize ((w.alloc (.cells #[.slice xs ns cs, .slice xf nf cf] 34)).alloc (.cells #[.int .i64 host, .int .i64 sig, .int .i64 inn, .int .i64 out, .int .i64 loc, .slice xc nc cc, mv] 39)).alloc (.cells #[.int .i64 14, .int .i64 a, .int .u64 n] 47) = w1 at *
 have HG := Lib.hid hg
 obtain ⟨p0, p1⟩ := cells2 hb1
 obtain ⟨f0, f1, f2, f3, f4, f5, f6⟩ := cells7 hb2
 obtain ⟨c0, c1, c2⟩ := cells3 hb3
 clear hg hb1 hb2 hb3
 go_wp2_with fail
 refine (HB.out _ _ _).mono ?_
 rintro e w2 ⟨rfl, rfl⟩
 go_wp2
 go_ret
 exact ⟨rfl, HG.out⟩
set_option maxHeartbeats 2000000 in
theorem std_16 {w : World} {xs xf xc : Option Addr} {ns cs nf cf nc cc : Nat} {host sig inn out loc a n at_ : Int} {mv : Value} :
  Calls Try.prog 27 #[.agg #[.slice xs ns cs, .slice xf nf cf], .agg #[.int .i64 host, .int .i64 sig, .int .i64 inn, .int .i64 out, .int .i64 loc, .slice xc nc cc, mv], .int .i64 at_, .agg #[.int .i64 16, .int .i64 a, .int .u64 n]] w fun e w' => e = .returned (.bool (belB a nf)) ∧ Gr w w' := by
 have HB := Lib.hid (fun n e w => below_any n e w)
 go_enter Try.func27, Try.ntmps27
 go_upto_region 1 with fail
 obtain ⟨hg, hb1, hb2, hb3⟩ := box3 w #[.slice xs ns cs, .slice xf nf cf] #[.int .i64 host, .int .i64 sig, .int .i64 inn, .int .i64 out, .int .i64 loc, .slice xc nc cc, mv] #[.int .i64 16, .int .i64 a, .int .u64 n] 34 39 47
 generalize ((w.alloc (.cells #[.slice xs ns cs, .slice xf nf cf] 34)).alloc (.cells #[.int .i64 host, .int .i64 sig, .int .i64 inn, .int .i64 out, .int .i64 loc, .slice xc nc cc, mv] 39)).alloc (.cells #[.int .i64 16, .int .i64 a, .int .u64 n] 47) = w1 at *
 have HG := Lib.hid hg
 obtain ⟨p0, p1⟩ := cells2 hb1
 obtain ⟨f0, f1, f2, f3, f4, f5, f6⟩ := cells7 hb2
 obtain ⟨c0, c1, c2⟩ := cells3 hb3
 clear hg hb1 hb2 hb3
 go_wp2_with fail
 refine (HB.out _ _ _).mono ?_
 rintro e w2 ⟨rfl, rfl⟩
 go_wp2
 go_ret
 exact ⟨rfl, HG.out⟩
set_option maxHeartbeats 2000000 in
theorem std_17 {w : World} {xs xf xc : Option Addr} {ns cs nf cf nc cc : Nat} {host sig inn out loc a n at_ : Int} {mv : Value} :
  Calls Try.prog 27 #[.agg #[.slice xs ns cs, .slice xf nf cf], .agg #[.int .i64 host, .int .i64 sig, .int .i64 inn, .int .i64 out, .int .i64 loc, .slice xc nc cc, mv], .int .i64 at_, .agg #[.int .i64 17, .int .i64 a, .int .u64 n]] w fun e w' => e = .returned (.bool (belB a ns)) ∧ Gr w w' := by
 have HB := Lib.hid (fun n e w => below_any n e w)
 go_enter Try.func27, Try.ntmps27
 go_upto_region 1 with fail
 obtain ⟨hg, hb1, hb2, hb3⟩ := box3 w #[.slice xs ns cs, .slice xf nf cf] #[.int .i64 host, .int .i64 sig, .int .i64 inn, .int .i64 out, .int .i64 loc, .slice xc nc cc, mv] #[.int .i64 17, .int .i64 a, .int .u64 n] 34 39 47
 generalize ((w.alloc (.cells #[.slice xs ns cs, .slice xf nf cf] 34)).alloc (.cells #[.int .i64 host, .int .i64 sig, .int .i64 inn, .int .i64 out, .int .i64 loc, .slice xc nc cc, mv] 39)).alloc (.cells #[.int .i64 17, .int .i64 a, .int .u64 n] 47) = w1 at *
 have HG := Lib.hid hg
 obtain ⟨p0, p1⟩ := cells2 hb1
 obtain ⟨f0, f1, f2, f3, f4, f5, f6⟩ := cells7 hb2
 obtain ⟨c0, c1, c2⟩ := cells3 hb3
 clear hg hb1 hb2 hb3
 go_wp2_with fail
 refine (HB.out _ _ _).mono ?_
 rintro e w2 ⟨rfl, rfl⟩
 go_wp2
 go_ret
 exact ⟨rfl, HG.out⟩
set_option maxHeartbeats 2000000 in
theorem std_32 {w : World} {xs xf xc : Option Addr} {ns cs nf cf nc cc : Nat} {host sig inn out loc a n at_ : Int} {mv : Value} :
  Calls Try.prog 27 #[.agg #[.slice xs ns cs, .slice xf nf cf], .agg #[.int .i64 host, .int .i64 sig, .int .i64 inn, .int .i64 out, .int .i64 loc, .slice xc nc cc, mv], .int .i64 at_, .agg #[.int .i64 32, .int .i64 a, .int .u64 n]] w fun e w' => e = .returned (.bool (belB a (wrap64 (inn + loc)))) ∧ Gr w w' := by
 have HB := Lib.hid (fun n e w => below_any n e w)
 have T1 : IntKind.i64.wrap (inn + loc) = wrap64 (inn + loc) := by rw [IntKind.wrap_i64]; unfold wrap64; omega
 go_enter Try.func27, Try.ntmps27
 go_upto_region 1 with fail
 obtain ⟨hg, hb1, hb2, hb3⟩ := box3 w #[.slice xs ns cs, .slice xf nf cf] #[.int .i64 host, .int .i64 sig, .int .i64 inn, .int .i64 out, .int .i64 loc, .slice xc nc cc, mv] #[.int .i64 32, .int .i64 a, .int .u64 n] 34 39 47
 generalize ((w.alloc (.cells #[.slice xs ns cs, .slice xf nf cf] 34)).alloc (.cells #[.int .i64 host, .int .i64 sig, .int .i64 inn, .int .i64 out, .int .i64 loc, .slice xc nc cc, mv] 39)).alloc (.cells #[.int .i64 32, .int .i64 a, .int .u64 n] 47) = w1 at *
 have HG := Lib.hid hg
 obtain ⟨p0, p1⟩ := cells2 hb1
 obtain ⟨f0, f1, f2, f3, f4, f5, f6⟩ := cells7 hb2
 obtain ⟨c0, c1, c2⟩ := cells3 hb3
 clear hg hb1 hb2 hb3
 go_wp2_with fail
 refine (HB.out _ _ _).mono ?_
 rintro e w2 ⟨rfl, rfl⟩
 go_wp2
 go_ret
 exact ⟨rfl, HG.out⟩
set_option maxHeartbeats 2000000 in
theorem std_33 {w : World} {xs xf xc : Option Addr} {ns cs nf cf nc cc : Nat} {host sig inn out loc a n at_ : Int} {mv : Value} :
  Calls Try.prog 27 #[.agg #[.slice xs ns cs, .slice xf nf cf], .agg #[.int .i64 host, .int .i64 sig, .int .i64 inn, .int .i64 out, .int .i64 loc, .slice xc nc cc, mv], .int .i64 at_, .agg #[.int .i64 33, .int .i64 a, .int .u64 n]] w fun e w' => e = .returned (.bool (belB a (wrap64 (inn + loc)))) ∧ Gr w w' := by
 have HB := Lib.hid (fun n e w => below_any n e w)
 have T1 : IntKind.i64.wrap (inn + loc) = wrap64 (inn + loc) := by rw [IntKind.wrap_i64]; unfold wrap64; omega
 go_enter Try.func27, Try.ntmps27
 go_upto_region 1 with fail
 obtain ⟨hg, hb1, hb2, hb3⟩ := box3 w #[.slice xs ns cs, .slice xf nf cf] #[.int .i64 host, .int .i64 sig, .int .i64 inn, .int .i64 out, .int .i64 loc, .slice xc nc cc, mv] #[.int .i64 33, .int .i64 a, .int .u64 n] 34 39 47
 generalize ((w.alloc (.cells #[.slice xs ns cs, .slice xf nf cf] 34)).alloc (.cells #[.int .i64 host, .int .i64 sig, .int .i64 inn, .int .i64 out, .int .i64 loc, .slice xc nc cc, mv] 39)).alloc (.cells #[.int .i64 33, .int .i64 a, .int .u64 n] 47) = w1 at *
 have HG := Lib.hid hg
 obtain ⟨p0, p1⟩ := cells2 hb1
 obtain ⟨f0, f1, f2, f3, f4, f5, f6⟩ := cells7 hb2
 obtain ⟨c0, c1, c2⟩ := cells3 hb3
 clear hg hb1 hb2 hb3
 go_wp2_with fail
 refine (HB.out _ _ _).mono ?_
 rintro e w2 ⟨rfl, rfl⟩
 go_wp2
 go_ret
 exact ⟨rfl, HG.out⟩
set_option maxHeartbeats 2000000 in
theorem std_34 {w : World} {xs xf xc : Option Addr} {ns cs nf cf nc cc : Nat} {host sig inn out loc a n at_ : Int} {mv : Value} :
  Calls Try.prog 27 #[.agg #[.slice xs ns cs, .slice xf nf cf], .agg #[.int .i64 host, .int .i64 sig, .int .i64 inn, .int .i64 out, .int .i64 loc, .slice xc nc cc, mv], .int .i64 at_, .agg #[.int .i64 34, .int .i64 a, .int .u64 n]] w fun e w' => e = .returned (.bool (belB a (wrap64 (inn + loc)))) ∧ Gr w w' := by
 have HB := Lib.hid (fun n e w => below_any n e w)
 have T1 : IntKind.i64.wrap (inn + loc) = wrap64 (inn + loc) := by rw [IntKind.wrap_i64]; unfold wrap64; omega
 go_enter Try.func27, Try.ntmps27
 go_upto_region 1 with fail
 obtain ⟨hg, hb1, hb2, hb3⟩ := box3 w #[.slice xs ns cs, .slice xf nf cf] #[.int .i64 host, .int .i64 sig, .int .i64 inn, .int .i64 out, .int .i64 loc, .slice xc nc cc, mv] #[.int .i64 34, .int .i64 a, .int .u64 n] 34 39 47
 generalize ((w.alloc (.cells #[.slice xs ns cs, .slice xf nf cf] 34)).alloc (.cells #[.int .i64 host, .int .i64 sig, .int .i64 inn, .int .i64 out, .int .i64 loc, .slice xc nc cc, mv] 39)).alloc (.cells #[.int .i64 34, .int .i64 a, .int .u64 n] 47) = w1 at *
 have HG := Lib.hid hg
 obtain ⟨p0, p1⟩ := cells2 hb1
 obtain ⟨f0, f1, f2, f3, f4, f5, f6⟩ := cells7 hb2
 obtain ⟨c0, c1, c2⟩ := cells3 hb3
 clear hg hb1 hb2 hb3
 go_wp2_with fail
 refine (HB.out _ _ _).mono ?_
 rintro e w2 ⟨rfl, rfl⟩
 go_wp2
 go_ret
 exact ⟨rfl, HG.out⟩
set_option maxHeartbeats 2000000 in
theorem std_35 {w : World} {xs xf xc : Option Addr} {ns cs nf cf nc cc : Nat} {host sig inn out loc a n at_ : Int} {mv : Value} :
  Calls Try.prog 27 #[.agg #[.slice xs ns cs, .slice xf nf cf], .agg #[.int .i64 host, .int .i64 sig, .int .i64 inn, .int .i64 out, .int .i64 loc, .slice xc nc cc, mv], .int .i64 at_, .agg #[.int .i64 35, .int .i64 a, .int .u64 n]] w fun e w' => e = .returned (.bool (decide (0 ≤ a))) ∧ Gr w w' := by
 go_enter Try.func27, Try.ntmps27
 go_upto_region 1 with fail
 obtain ⟨hg, hb1, hb2, hb3⟩ := box3 w #[.slice xs ns cs, .slice xf nf cf] #[.int .i64 host, .int .i64 sig, .int .i64 inn, .int .i64 out, .int .i64 loc, .slice xc nc cc, mv] #[.int .i64 35, .int .i64 a, .int .u64 n] 34 39 47
 generalize ((w.alloc (.cells #[.slice xs ns cs, .slice xf nf cf] 34)).alloc (.cells #[.int .i64 host, .int .i64 sig, .int .i64 inn, .int .i64 out, .int .i64 loc, .slice xc nc cc, mv] 39)).alloc (.cells #[.int .i64 35, .int .i64 a, .int .u64 n] 47) = w1 at *
 have HG := Lib.hid hg
 obtain ⟨p0, p1⟩ := cells2 hb1
 obtain ⟨f0, f1, f2, f3, f4, f5, f6⟩ := cells7 hb2
 obtain ⟨c0, c1, c2⟩ := cells3 hb3
 clear hg hb1 hb2 hb3
 go_wp2
 go_ret
 exact ⟨rfl, HG.out⟩
set_option maxHeartbeats 2000000 in
theorem std_36 {w : World} {xs xf xc : Option Addr} {ns cs nf cf nc cc : Nat} {host sig inn out loc a n at_ : Int} {mv : Value} :
  Calls Try.prog 27 #[.agg #[.slice xs ns cs, .slice xf nf cf], .agg #[.int .i64 host, .int .i64 sig, .int .i64 inn, .int .i64 out, .int .i64 loc, .slice xc nc cc, mv], .int .i64 at_, .agg #[.int .i64 36, .int .i64 a, .int .u64 n]] w fun e w' => e = .returned (.bool (decide (0 ≤ a))) ∧ Gr w w' := by
 go_enter Try.func27, Try.ntmps27
 go_upto_region 1 with fail
 obtain ⟨hg, hb1, hb2, hb3⟩ := box3 w #[.slice xs ns cs, .slice xf nf cf] #[.int .i64 host, .int .i64 sig, .int .i64 inn, .int .i64 out, .int .i64 loc, .slice xc nc cc, mv] #[.int .i64 36, .int .i64 a, .int .u64 n] 34 39 47
 generalize ((w.alloc (.cells #[.slice xs ns cs, .slice xf nf cf] 34)).alloc (.cells #[.int .i64 host, .int .i64 sig, .int .i64 inn, .int .i64 out, .int .i64 loc, .slice xc nc cc, mv] 39)).alloc (.cells #[.int .i64 36, .int .i64 a, .int .u64 n] 47) = w1 at *
 have HG := Lib.hid hg
 obtain ⟨p0, p1⟩ := cells2 hb1
 obtain ⟨f0, f1, f2, f3, f4, f5, f6⟩ := cells7 hb2
 obtain ⟨c0, c1, c2⟩ := cells3 hb3
 clear hg hb1 hb2 hb3
 go_wp2
 go_ret
 exact ⟨rfl, HG.out⟩
set_option maxHeartbeats 2000000 in
theorem std_256a {w : World} {xs xf xc : Option Addr} {ns cs nf cf nc cc : Nat} {host sig inn out loc a n at_ : Int} {mv : Value} (h : a < 0) :
  Calls Try.prog 27 #[.agg #[.slice xs ns cs, .slice xf nf cf], .agg #[.int .i64 host, .int .i64 sig, .int .i64 inn, .int .i64 out, .int .i64 loc, .slice xc nc cc, mv], .int .i64 at_, .agg #[.int .i64 256, .int .i64 a, .int .u64 n]] w fun e w' => e = .returned (.bool false) ∧ Gr w w' := by
 go_enter Try.func27, Try.ntmps27
 go_upto_region 1 with fail
 obtain ⟨hg, hb1, hb2, hb3⟩ := box3 w #[.slice xs ns cs, .slice xf nf cf] #[.int .i64 host, .int .i64 sig, .int .i64 inn, .int .i64 out, .int .i64 loc, .slice xc nc cc, mv] #[.int .i64 256, .int .i64 a, .int .u64 n] 34 39 47
 generalize ((w.alloc (.cells #[.slice xs ns cs, .slice xf nf cf] 34)).alloc (.cells #[.int .i64 host, .int .i64 sig, .int .i64 inn, .int .i64 out, .int .i64 loc, .slice xc nc cc, mv] 39)).alloc (.cells #[.int .i64 256, .int .i64 a, .int .u64 n] 47) = w1 at *
 have HG := Lib.hid hg
 obtain ⟨p0, p1⟩ := cells2 hb1
 obtain ⟨f0, f1, f2, f3, f4, f5, f6⟩ := cells7 hb2
 obtain ⟨c0, c1, c2⟩ := cells3 hb3
 clear hg hb1 hb2 hb3
 go_wp2
 go_ret
 exact ⟨by first | rfl | (rw [decide_eq_false (p := n ≤ 1048576) (by omega)]; rfl) | (rw [decide_eq_true (p := n ≤ 1048576) (by omega)]; rfl), HG.out⟩
set_option maxHeartbeats 2000000 in
theorem std_256b {w : World} {xs xf xc : Option Addr} {ns cs nf cf nc cc : Nat} {host sig inn out loc a n at_ : Int} {mv : Value} (h0 : 0 ≤ a) (h : 1048576 < a) :
  Calls Try.prog 27 #[.agg #[.slice xs ns cs, .slice xf nf cf], .agg #[.int .i64 host, .int .i64 sig, .int .i64 inn, .int .i64 out, .int .i64 loc, .slice xc nc cc, mv], .int .i64 at_, .agg #[.int .i64 256, .int .i64 a, .int .u64 n]] w fun e w' => e = .returned (.bool false) ∧ Gr w w' := by
 go_enter Try.func27, Try.ntmps27
 go_upto_region 1 with fail
 obtain ⟨hg, hb1, hb2, hb3⟩ := box3 w #[.slice xs ns cs, .slice xf nf cf] #[.int .i64 host, .int .i64 sig, .int .i64 inn, .int .i64 out, .int .i64 loc, .slice xc nc cc, mv] #[.int .i64 256, .int .i64 a, .int .u64 n] 34 39 47
 generalize ((w.alloc (.cells #[.slice xs ns cs, .slice xf nf cf] 34)).alloc (.cells #[.int .i64 host, .int .i64 sig, .int .i64 inn, .int .i64 out, .int .i64 loc, .slice xc nc cc, mv] 39)).alloc (.cells #[.int .i64 256, .int .i64 a, .int .u64 n] 47) = w1 at *
 have HG := Lib.hid hg
 obtain ⟨p0, p1⟩ := cells2 hb1
 obtain ⟨f0, f1, f2, f3, f4, f5, f6⟩ := cells7 hb2
 obtain ⟨c0, c1, c2⟩ := cells3 hb3
 clear hg hb1 hb2 hb3
 go_wp2
 go_ret
 exact ⟨by first | rfl | (rw [decide_eq_false (p := n ≤ 1048576) (by omega)]; rfl) | (rw [decide_eq_true (p := n ≤ 1048576) (by omega)]; rfl), HG.out⟩
set_option maxHeartbeats 2000000 in
theorem std_256c {w : World} {xs xf xc : Option Addr} {ns cs nf cf nc cc : Nat} {host sig inn out loc a n at_ : Int} {mv : Value} (h0 : 0 ≤ a) (h : a ≤ 1048576) (h1 : 1048576 < n) :
  Calls Try.prog 27 #[.agg #[.slice xs ns cs, .slice xf nf cf], .agg #[.int .i64 host, .int .i64 sig, .int .i64 inn, .int .i64 out, .int .i64 loc, .slice xc nc cc, mv], .int .i64 at_, .agg #[.int .i64 256, .int .i64 a, .int .u64 n]] w fun e w' => e = .returned (.bool false) ∧ Gr w w' := by
 go_enter Try.func27, Try.ntmps27
 go_upto_region 1 with fail
 obtain ⟨hg, hb1, hb2, hb3⟩ := box3 w #[.slice xs ns cs, .slice xf nf cf] #[.int .i64 host, .int .i64 sig, .int .i64 inn, .int .i64 out, .int .i64 loc, .slice xc nc cc, mv] #[.int .i64 256, .int .i64 a, .int .u64 n] 34 39 47
 generalize ((w.alloc (.cells #[.slice xs ns cs, .slice xf nf cf] 34)).alloc (.cells #[.int .i64 host, .int .i64 sig, .int .i64 inn, .int .i64 out, .int .i64 loc, .slice xc nc cc, mv] 39)).alloc (.cells #[.int .i64 256, .int .i64 a, .int .u64 n] 47) = w1 at *
 have HG := Lib.hid hg
 obtain ⟨p0, p1⟩ := cells2 hb1
 obtain ⟨f0, f1, f2, f3, f4, f5, f6⟩ := cells7 hb2
 obtain ⟨c0, c1, c2⟩ := cells3 hb3
 clear hg hb1 hb2 hb3
 go_wp2
 go_ret
 exact ⟨by first | rfl | (rw [decide_eq_false (p := n ≤ 1048576) (by omega)]; rfl) | (rw [decide_eq_true (p := n ≤ 1048576) (by omega)]; rfl), HG.out⟩
set_option maxHeartbeats 2000000 in
theorem std_256d {w : World} {xs xf xc : Option Addr} {ns cs nf cf nc cc : Nat} {host sig inn out loc a n at_ : Int} {mv : Value} (h0 : 0 ≤ a) (h : a ≤ 1048576) (h1 : n ≤ 1048576) :
  Calls Try.prog 27 #[.agg #[.slice xs ns cs, .slice xf nf cf], .agg #[.int .i64 host, .int .i64 sig, .int .i64 inn, .int .i64 out, .int .i64 loc, .slice xc nc cc, mv], .int .i64 at_, .agg #[.int .i64 256, .int .i64 a, .int .u64 n]] w fun e w' => e = .returned (.bool true) ∧ Gr w w' := by
 go_enter Try.func27, Try.ntmps27
 go_upto_region 1 with fail
 obtain ⟨hg, hb1, hb2, hb3⟩ := box3 w #[.slice xs ns cs, .slice xf nf cf] #[.int .i64 host, .int .i64 sig, .int .i64 inn, .int .i64 out, .int .i64 loc, .slice xc nc cc, mv] #[.int .i64 256, .int .i64 a, .int .u64 n] 34 39 47
 generalize ((w.alloc (.cells #[.slice xs ns cs, .slice xf nf cf] 34)).alloc (.cells #[.int .i64 host, .int .i64 sig, .int .i64 inn, .int .i64 out, .int .i64 loc, .slice xc nc cc, mv] 39)).alloc (.cells #[.int .i64 256, .int .i64 a, .int .u64 n] 47) = w1 at *
 have HG := Lib.hid hg
 obtain ⟨p0, p1⟩ := cells2 hb1
 obtain ⟨f0, f1, f2, f3, f4, f5, f6⟩ := cells7 hb2
 obtain ⟨c0, c1, c2⟩ := cells3 hb3
 clear hg hb1 hb2 hb3
 go_wp2
 go_ret
 exact ⟨by first | rfl | (rw [decide_eq_false (p := n ≤ 1048576) (by omega)]; rfl) | (rw [decide_eq_true (p := n ≤ 1048576) (by omega)]; rfl), HG.out⟩
set_option maxHeartbeats 2000000 in
theorem std_no {w : World} {xs xf xc : Option Addr} {ns cs nf cf nc cc : Nat} {host sig inn out loc op a n at_ : Int} {mv : Value} (hn : op ≠ 12 ∧ op ≠ 13 ∧ op ≠ 14 ∧ op ≠ 16 ∧ op ≠ 17 ∧ op ≠ 32 ∧ op ≠ 33 ∧ op ≠ 34 ∧ op ≠ 35 ∧ op ≠ 36 ∧ op ≠ 256) (hop : op ≤ 9223372036854775807) :
  Calls Try.prog 27 #[.agg #[.slice xs ns cs, .slice xf nf cf], .agg #[.int .i64 host, .int .i64 sig, .int .i64 inn, .int .i64 out, .int .i64 loc, .slice xc nc cc, mv], .int .i64 at_, .agg #[.int .i64 op, .int .i64 a, .int .u64 n]] w fun e w' => e = .returned (.bool (sclB op)) ∧ Gr w w' := by
 have HS := Lib.hid (fun w => scalar_any op hop w)
 have t12 : (op == 12) = false := by simp; omega
 have t13 : (op == 13) = false := by simp; omega
 have t14 : (op == 14) = false := by simp; omega
 have t16 : (op == 16) = false := by simp; omega
 have t17 : (op == 17) = false := by simp; omega
 have t32 : (op == 32) = false := by simp; omega
 have t33 : (op == 33) = false := by simp; omega
 have t34 : (op == 34) = false := by simp; omega
 have t35 : (op == 35) = false := by simp; omega
 have t36 : (op == 36) = false := by simp; omega
 have t256 : (op == 256) = false := by simp; omega
 clear hn
 go_enter Try.func27, Try.ntmps27
 go_upto_region 1 with fail
 obtain ⟨hg, hb1, hb2, hb3⟩ := box3 w #[.slice xs ns cs, .slice xf nf cf] #[.int .i64 host, .int .i64 sig, .int .i64 inn, .int .i64 out, .int .i64 loc, .slice xc nc cc, mv] #[.int .i64 op, .int .i64 a, .int .u64 n] 34 39 47
 generalize ((w.alloc (.cells #[.slice xs ns cs, .slice xf nf cf] 34)).alloc (.cells #[.int .i64 host, .int .i64 sig, .int .i64 inn, .int .i64 out, .int .i64 loc, .slice xc nc cc, mv] 39)).alloc (.cells #[.int .i64 op, .int .i64 a, .int .u64 n] 47) = w1 at *
 have HG := Lib.hid hg
 obtain ⟨p0, p1⟩ := cells2 hb1
 obtain ⟨f0, f1, f2, f3, f4, f5, f6⟩ := cells7 hb2
 obtain ⟨c0, c1, c2⟩ := cells3 hb3
 clear hg hb1 hb2 hb3
 go_wp2_with fail
 refine (HS.out _).mono ?_
 rintro e w2 ⟨rfl, rfl⟩
 go_wp2
 go_ret
 exact ⟨rfl, HG.out⟩
theorem stands_any {w : World} {sv fv : Value} {P : Pr} (h : PrR w sv fv P) {f : FuV} (hf : ∃ x c, f.cv = .slice x f.f.cs.length c) (hl : f.f.cs.length ≤ 1099511627776) {c : Ce} (hc : CeB c) {at_ : Int} (h1 : 0 ≤ at_) (h2 : at_ ≤ 1099511627776) :
  Calls Try.prog 27 #[.agg #[sv, fv], .agg (fuA f), .int .i64 at_, .agg (ceA c)] w fun e w' => e = .returned (.bool (stdB P f.f at_ c)) ∧ Gr w w' := by
 obtain ⟨xs, cs, rfl, _⟩ := id h.ss
 obtain ⟨xf, cf, rfl, _⟩ := id h.fs
 obtain ⟨⟨host, sig, inn, out, loc, l⟩, cv, mv⟩ := f
 obtain ⟨xc, cc, e⟩ := hf
 dsimp only at e hl
 subst e
 obtain ⟨op, a, n⟩ := c
 have hop := hc.op.2
 dsimp only at hop
 unfold fuA ceA
 dsimp only
 by_cases c12 : op = 12
 ·subst c12
  rw [show stdB P ⟨host, sig, inn, out, loc, l⟩ at_ ⟨12, a, n⟩ = belB a l.length from (by unfold stdB; dsimp only; rw [if_pos (by omega)])]
  exact std_12
 by_cases c13 : op = 13
 ·subst c13
  rw [show stdB P ⟨host, sig, inn, out, loc, l⟩ at_ ⟨13, a, n⟩ = belB a l.length from (by unfold stdB; dsimp only; rw [if_pos (by omega)])]
  exact std_13
 by_cases c14 : op = 14
 ·subst c14
  rw [show stdB P ⟨host, sig, inn, out, loc, l⟩ at_ ⟨14, a, n⟩ = belB a (l.length - at_ - 1) from (by unfold stdB; dsimp only; rw [if_neg (by omega), if_pos (by omega)])]
  exact std_14 h1 h2 hl
 by_cases c16 : op = 16
 ·subst c16
  rw [show stdB P ⟨host, sig, inn, out, loc, l⟩ at_ ⟨16, a, n⟩ = belB a P.fs.length from (by unfold stdB; dsimp only; rw [if_neg (by omega), if_neg (by omega), if_pos (by omega)])]
  exact std_16
 by_cases c17 : op = 17
 ·subst c17
  rw [show stdB P ⟨host, sig, inn, out, loc, l⟩ at_ ⟨17, a, n⟩ = belB a P.ss.length from (by unfold stdB; dsimp only; rw [if_neg (by omega), if_neg (by omega), if_neg (by omega), if_pos (by omega)])]
  exact std_17
 by_cases c32 : op = 32
 ·subst c32
  rw [show stdB P ⟨host, sig, inn, out, loc, l⟩ at_ ⟨32, a, n⟩ = belB a (wrap64 (inn + loc)) from (by unfold stdB; dsimp only; rw [if_neg (by omega), if_neg (by omega), if_neg (by omega), if_neg (by omega), if_pos (by omega)])]
  exact std_32
 by_cases c33 : op = 33
 ·subst c33
  rw [show stdB P ⟨host, sig, inn, out, loc, l⟩ at_ ⟨33, a, n⟩ = belB a (wrap64 (inn + loc)) from (by unfold stdB; dsimp only; rw [if_neg (by omega), if_neg (by omega), if_neg (by omega), if_neg (by omega), if_pos (by omega)])]
  exact std_33
 by_cases c34 : op = 34
 ·subst c34
  rw [show stdB P ⟨host, sig, inn, out, loc, l⟩ at_ ⟨34, a, n⟩ = belB a (wrap64 (inn + loc)) from (by unfold stdB; dsimp only; rw [if_neg (by omega), if_neg (by omega), if_neg (by omega), if_neg (by omega), if_pos (by omega)])]
  exact std_34
 by_cases c35 : op = 35
 ·subst c35
  rw [show stdB P ⟨host, sig, inn, out, loc, l⟩ at_ ⟨35, a, n⟩ = decide (0 ≤ a) from (by unfold stdB; dsimp only; rw [if_neg (by omega), if_neg (by omega), if_neg (by omega), if_neg (by omega), if_neg (by omega), if_pos (by omega)])]
  exact std_35
 by_cases c36 : op = 36
 ·subst c36
  rw [show stdB P ⟨host, sig, inn, out, loc, l⟩ at_ ⟨36, a, n⟩ = decide (0 ≤ a) from (by unfold stdB; dsimp only; rw [if_neg (by omega), if_neg (by omega), if_neg (by omega), if_neg (by omega), if_neg (by omega), if_pos (by omega)])]
  exact std_36
 by_cases c256 : op = 256
 ·subst c256
  rw [show stdB P ⟨host, sig, inn, out, loc, l⟩ at_ ⟨256, a, n⟩ = (decide (0 ≤ a) && decide (a ≤ 1048576) && decide (n ≤ 1048576)) from (by unfold stdB; dsimp only; rw [if_neg (by omega), if_neg (by omega), if_neg (by omega), if_neg (by omega), if_neg (by omega), if_neg (by omega), if_pos (by omega)])]
  by_cases q1 : a < 0
  ·rw [decide_eq_false (p := 0 ≤ a) (by omega)]
   exact std_256a q1
  ·rw [decide_eq_true (p := 0 ≤ a) (by omega)]
   by_cases q2 : 1048576 < a
   ·rw [decide_eq_false (p := a ≤ 1048576) (by omega)]
    exact std_256b (by omega) q2
   ·rw [decide_eq_true (p := a ≤ 1048576) (by omega)]
    by_cases q3 : 1048576 < n
    ·rw [decide_eq_false (p := n ≤ 1048576) (by omega)]
     exact std_256c (by omega) (by omega) q3
    ·rw [decide_eq_true (p := n ≤ 1048576) (by omega)]
     exact std_256d (by omega) (by omega) (by omega)
 rw [show stdB P ⟨host, sig, inn, out, loc, l⟩ at_ ⟨op, a, n⟩ = sclB op from (by unfold stdB; dsimp only; rw [if_neg (by omega), if_neg (by omega), if_neg (by omega), if_neg (by omega), if_neg (by omega), if_neg (by omega), if_neg (by omega)])]
 exact std_no ⟨c12, c13, c14, c16, c17, c32, c33, c34, c35, c36, c256⟩ hop
end Tg
end Go.Proofs.Ytifjgocfdnhdeaa
/- TgE -/
namespace Go.Proofs.Ytifjgocfdnhdeaa
open Go.RowKit
namespace Tg
open Ins
def ChkP (P : Pr) : Prop := (∀ (j : Nat) (s : SiV), P.ss[j]? = some s → numsB s.s.i = true ∧ numsB s.s.o = true) ∧ ∀ (j : Nat) (f : FuV), P.fs[j]? = some f → whlB P f.f = true ∧ ∀ (k : Nat) (c : Ce), f.f.cs[k]? = some c → stdB P f.f k c = true
open Classical in
noncomputable def chkI (P : Pr) : Int := if ChkP P then 0 else 1
theorem chk_no {P : Pr} (h : ¬ ChkP P) : chkI P = 1 := by unfold chkI; rw [if_neg h]
theorem chk_yes {P : Pr} (h : ChkP P) : chkI P = 0 := by unfold chkI; rw [if_pos h]
theorem pr_hid {w : World} {sv fv : Value} {P : Pr} (h : PrR w sv fv P) : ∀ wx, Gr w wx → PrR wx sv fv P := fun _ hg => prR_gr h hg
set_option maxRecDepth 100000 in
set_option maxHeartbeats 8000000 in
theorem check_any {w : World} {sv fv : Value} {P : Pr} (h : PrR w sv fv P) :
  Calls Try.prog 12 #[.agg #[sv, fv]] w fun e w' => e = .returned (.int .i64 (chkI P)) ∧ Gr w w' := by
 have HP := Lib.hid (pr_hid h)
 obtain ⟨xs, cs, rfl, -⟩ := id h.ss
 obtain ⟨xf, cf, rfl, -⟩ := id h.fs
 obtain ⟨ns, hns⟩ : ∃ n, P.ss.length = n := ⟨_, rfl⟩
 obtain ⟨nf, hnf⟩ : ∃ n, P.fs.length = n := ⟨_, rfl⟩
 have HNS := Lib.hid hns
 have HNF := Lib.hid hnf
 have hls := h.ls
 have hlf := h.lf
 rw [hns] at HP hls ⊢
 rw [hnf] at HP hlf ⊢
 have HLS := Lib.hid hls
 have HLF := Lib.hid hlf
 clear h hns hnf hls hlf
 go_enter Try.func12, Try.ntmps12
 go_upto_region 1 with fail
 have HG1 := Lib.hid ((Gr.refl w).alloc #[.slice xs ns cs, .slice xf nf cf] 34)
 have HB1 := Lib.hid (heap_alloc_new w (.cells #[.slice xs ns cs, .slice xf nf cf] 34))
 generalize w.alloc (.cells #[.slice xs ns cs, .slice xf nf cf] 34) = w1 at *
 generalize hgp : w.heap.size = gp at *
 obtain ⟨p0, p1⟩ := cells2 HB1.out
 go_wp2_with fail
 clear p0 p1
 go_loopw [12] (fun i wr => ∃ k : Nat, k ≤ ns ∧ i = .int .i64 k ∧ Gr w1 wr ∧ ∀ j s, j < k → P.ss[j]? = some s → numsB s.s.i = true ∧ numsB s.s.o = true) (fun i _ => ns - (intOf i).toNat)
 case atStart => exact ⟨0, by omega, rfl, Gr.refl _, fun j s hj => by omega⟩
 case round =>
  obtain ⟨k, hk, rfl, hg, ha⟩ := hrel
  have HG := Lib.hid hg
  have HA := Lib.hid ha
  clear hg ha
  by_cases hlt : k < ns
  ·have hki : (k : Int) < (ns : Int) := by omega
   have hw := HP.out _ (gr_trans HG1.out HG.out)
   obtain ⟨s, hs⟩ : ∃ s, P.ss[k]? = some s := ⟨_, List.getElem?_eq_getElem (by rw [HNS.out]; exact hlt)⟩
   have HS := Lib.hid hs
   obtain ⟨b, off, rfl, hcl⟩ := rwR_at (z := 2) (fun _ => rfl) (HNS.out ▸ hw.ss) hs (by decide)
   have hsr := hw.sis s (List.mem_of_getElem? hs)
   have HSR := Lib.hid hsr
   obtain ⟨vi, ci, e1, -⟩ := hsr.iv
   obtain ⟨vo, co, e2, -⟩ := hsr.ov
   have HD := Lib.hid (show ∀ j u, (#[.slice vi s.s.i.length ci, .slice vo s.s.o.length co] : Array Value).toList[j]? = some u → wr.cell? ⟨b, off + k * 2 + j, none⟩ = some u from fun j u hu => hcl j u (by rw [← hu, ← e1, ← e2]; unfold siA; rw [Array.getElem?_toList]))
   have HNI := Lib.hid (fun wx (hg : Gr wr wx) => nums_any (v := .slice vi s.s.i.length ci) (e1 ▸ rwR_gr HSR.out.iv hg) HSR.out.li)
   have HNO := Lib.hid (fun wx (hg : Gr wr wx) => nums_any (v := .slice vo s.s.o.length co) (e2 ▸ rwR_gr HSR.out.ov hg) HSR.out.lo)
   have HLT := Lib.hid hlt
   obtain ⟨qi, hqi⟩ : ∃ q, numsB s.s.i = q := ⟨_, rfl⟩
   obtain ⟨qo, hqo⟩ : ∃ q, numsB s.s.o = q := ⟨_, rfl⟩
   rw [hqi] at HNI
   rw [hqo] at HNO
   have HQI := Lib.hid hqi
   have HQO := Lib.hid hqo
   generalize s.s.i.length = ni at *
   generalize s.s.o.length = no at *
   have T4 : wrap64 ((k : Int) + 1) = (k : Int) + 1 := by have := HLS.out; unfold wrap64; omega
   clear hw hs hcl hsr e1 e2 hqi hqo hlt
   go_upto_region 4 with (first | (refine wpList_load_cells rfl 53 _ rfl b (off + k * 2) rfl #[.slice vi ni ci, .slice vo no co] _ HD.out Try.underlying53 rfl infoSi ?_) | (refine wpList_store_row rfl 53 _ _ rfl wr.heap.size #[.slice vi ni ci, .slice vo no co] rfl rfl 53 #[.slice none 0 0, .slice none 0 0] (heap_alloc_new wr _) infoSi rfl (by kernel_rfl) ?_))
   have hrw := Sep.setRow (ex := fun b => b = wr.heap.size) (wr.alloc (.cells #[.slice none 0 0, .slice none 0 0] 53)) rfl #[.slice vi ni ci, .slice vo no co]
   have hgg : Gr wr ((wr.alloc (.cells #[.slice none 0 0, .slice none 0 0] 53)).setRow wr.heap.size #[.slice vi ni ci, .slice vo no co]) := Sep.toGr ((Gr.refl wr).alloc #[.slice none 0 0, .slice none 0 0] 53) hrw (fun q hq => by have e' : q = wr.heap.size := hq; omega)
   have hbk := setRow_block (c := #[.slice vi ni ci, .slice vo no co]) (heap_alloc_new wr (.cells #[.slice none 0 0, .slice none 0 0] 53))
   have HS2 := Lib.hid hgg
   clear hrw hgg
   generalize (wr.alloc (.cells #[.slice none 0 0, .slice none 0 0] 53)).setRow wr.heap.size #[.slice vi ni ci, .slice vo no co] = w2 at *
   generalize hgs : wr.heap.size = gs at *
   obtain ⟨s0, s1⟩ := cells2 hbk
   clear hbk
   cases qi with
   | false =>
    go_wp2_with fail
    refine (HNI.out _ HS2.out).mono ?_
    rintro e w3 ⟨rfl, hg3⟩
    have HG3 := Lib.hid hg3
    clear hg3 s0 s1
    go_wp2
    go_ret
    exact ⟨by rw [chk_no (fun hc => by have := (hc.1 k s HS.out).1; rw [HQI.out] at this; cases this)]; rfl, gr_trans HG1.out (gr_trans HG.out (gr_trans HS2.out HG3.out))⟩
   | true =>
    go_wp2_with fail
    refine (HNI.out _ HS2.out).mono ?_
    rintro e w3 ⟨rfl, hg3⟩
    have HG3 := Lib.hid hg3
    have s1' := gr_cell hg3 s1
    clear hg3 s0 s1
    go_wp2_with fail
    refine (HNO.out _ (gr_trans HS2.out HG3.out)).mono ?_
    rintro e w4 ⟨rfl, hg4⟩
    have HG4 := Lib.hid (gr_trans HG.out (gr_trans HS2.out (gr_trans HG3.out hg4)))
    clear hg4 s1'
    cases qo with
    | false =>
     go_wp2
     go_ret
     exact ⟨by rw [chk_no (fun hc => by have := (hc.1 k s HS.out).2; rw [HQO.out] at this; cases this)]; rfl, gr_trans HG1.out HG4.out⟩
    | true =>
     go_wp2
     exact ⟨⟨k + 1, HLT.out, by first | rfl | (rw [T4]; rfl), HG4.out, fun j u hj hu => by
      by_cases e : j = k
      ·subst e; rw [HS.out] at hu; obtain rfl := Option.some.inj hu; exact ⟨HQI.out, HQO.out⟩
      ·exact HA.out j u (by omega) hu⟩, by have := HLT.out; first | (rw [T4]; simp [intOf]; omega) | (simp [intOf]; omega)⟩
  ·obtain rfl : ns = k := by omega
   have HSS := Lib.hid (show ∀ j s, P.ss[j]? = some s → numsB s.s.i = true ∧ numsB s.s.o = true from fun j s hs => HA.out j s (by have := (List.getElem?_eq_some_iff.1 hs).1; rw [HNS.out] at this; exact this) hs)
   clear hlt hk HA
   obtain ⟨w5, rfl⟩ : ∃ w5, w5 = wr := ⟨_, rfl⟩
   obtain ⟨p0, p1⟩ := cells2 (gr_block HG.out HB1.out)
   go_wp2_with fail
   clear p0 p1
   go_loopw [30] (fun i wr => ∃ k : Nat, k ≤ nf ∧ i = .int .i64 k ∧ Gr w5 wr ∧ ∀ (j : Nat) (f : FuV), j < k → P.fs[j]? = some f → whlB P f.f = true ∧ ∀ (k : Nat) (c : Ce), f.f.cs[k]? = some c → stdB P f.f k c = true) (fun i _ => nf - (intOf i).toNat)
   case atStart => exact ⟨0, by omega, rfl, Gr.refl _, fun j s hj => by omega⟩
   case round =>
    obtain ⟨k, hk, rfl, hg, ha⟩ := hrel
    have HGf := Lib.hid (gr_trans HG.out hg)
    have HG5 := Lib.hid hg
    have HA := Lib.hid ha
    clear hg ha
    by_cases hlt : k < nf
    ·have hki : (k : Int) < (nf : Int) := by omega
     have hw := HP.out _ (gr_trans HG1.out HGf.out)
     obtain ⟨fv, hfv⟩ : ∃ f, P.fs[k]? = some f := ⟨_, List.getElem?_eq_getElem (by rw [HNF.out]; exact hlt)⟩
     have HF := Lib.hid hfv
     obtain ⟨b, off, rfl, hcl⟩ := rwR_at (z := 7) (fun _ => rfl) (HNF.out ▸ hw.fs) hfv (by decide)
     have hfr := hw.fus fv (List.mem_of_getElem? hfv)
     have HFR := Lib.hid hfr
     obtain ⟨⟨host, sig, inn, out, loc, l⟩, cv, mv⟩ := fv
     obtain ⟨xc, cc, e1, -⟩ := hfr.cs
     obtain ⟨xm, nm, cm, e2⟩ := hfr.mv
     dsimp only at e1 e2
     subst e1 e2
     obtain ⟨nc, hnc⟩ : ∃ n, l.length = n := ⟨_, rfl⟩
     have HNC := Lib.hid hnc
     have HLC := Lib.hid hfr.len
     dsimp only at HLC
     have HD := Lib.hid (show ∀ j u, (#[.int .i64 host, .int .i64 sig, .int .i64 inn, .int .i64 out, .int .i64 loc, .slice xc nc cc, .slice xm nm cm] : Array Value).toList[j]? = some u → wr.cell? ⟨b, off + k * 7 + j, none⟩ = some u from fun j u hu => hcl j u (by rw [← hu, ← hnc]; unfold fuA; rw [Array.getElem?_toList]))
     have HW := Lib.hid (fun wx (hg : Gr w1 wx) => whole_any (f := ⟨⟨host, sig, inn, out, loc, l⟩, .slice xc l.length cc, .slice xm nm cm⟩) (HP.out _ (gr_trans HG1.out hg)) ⟨xc, cc, rfl⟩)
     have HST := Lib.hid (fun wx (hg : Gr w1 wx) c (hc : CeB c) (at_ : Int) (h1 : 0 ≤ at_) (h2 : at_ ≤ 1099511627776) => stands_any (f := ⟨⟨host, sig, inn, out, loc, l⟩, .slice xc l.length cc, .slice xm nm cm⟩) (HP.out _ (gr_trans HG1.out hg)) ⟨xc, cc, rfl⟩ HLC.out hc h1 h2)
     unfold fuA at HW HST
     dsimp only at HW HST
     rw [hnc] at HW HST HLC
     have HLT := Lib.hid hlt
     obtain ⟨qw, hqw⟩ : ∃ q, whlB P ⟨host, sig, inn, out, loc, l⟩ = q := ⟨_, rfl⟩
     have HQW := Lib.hid hqw
     rw [hqw] at HW
     have T4 : wrap64 ((k : Int) + 1) = (k : Int) + 1 := by have := HLF.out; unfold wrap64; omega
     clear hw hfv hcl hfr hnc hqw hlt
     go_upto_region 10 with (first | (refine wpList_load_cells rfl 39 _ rfl b (off + k * 7) rfl #[.int .i64 host, .int .i64 sig, .int .i64 inn, .int .i64 out, .int .i64 loc, .slice xc nc cc, .slice xm nm cm] _ HD.out Try.underlying39 rfl infoFn ?_) | (refine wpList_store_row rfl 39 _ _ rfl wr.heap.size #[.int .i64 host, .int .i64 sig, .int .i64 inn, .int .i64 out, .int .i64 loc, .slice xc nc cc, .slice xm nm cm] rfl rfl 39 #[.int .i64 0, .int .i64 0, .int .i64 0, .int .i64 0, .int .i64 0, .slice none 0 0, .slice none 0 0] (heap_alloc_new wr _) infoFn rfl (by kernel_rfl) ?_))
     have hrw := Sep.setRow (ex := fun b => b = wr.heap.size) (wr.alloc (.cells #[.int .i64 0, .int .i64 0, .int .i64 0, .int .i64 0, .int .i64 0, .slice none 0 0, .slice none 0 0] 39)) rfl #[.int .i64 host, .int .i64 sig, .int .i64 inn, .int .i64 out, .int .i64 loc, .slice xc nc cc, .slice xm nm cm]
     have hgg : Gr wr ((wr.alloc (.cells #[.int .i64 0, .int .i64 0, .int .i64 0, .int .i64 0, .int .i64 0, .slice none 0 0, .slice none 0 0] 39)).setRow wr.heap.size #[.int .i64 host, .int .i64 sig, .int .i64 inn, .int .i64 out, .int .i64 loc, .slice xc nc cc, .slice xm nm cm]) := Sep.toGr ((Gr.refl wr).alloc #[.int .i64 0, .int .i64 0, .int .i64 0, .int .i64 0, .int .i64 0, .slice none 0 0, .slice none 0 0] 39) hrw (fun q hq => by have e' : q = wr.heap.size := hq; omega)
     have hbk := setRow_block (c := #[.int .i64 host, .int .i64 sig, .int .i64 inn, .int .i64 out, .int .i64 loc, .slice xc nc cc, .slice xm nm cm]) (heap_alloc_new wr (.cells #[.int .i64 0, .int .i64 0, .int .i64 0, .int .i64 0, .int .i64 0, .slice none 0 0, .slice none 0 0] 39))
     have HS6 := Lib.hid hgg
     clear hrw hgg
     generalize (wr.alloc (.cells #[.int .i64 0, .int .i64 0, .int .i64 0, .int .i64 0, .int .i64 0, .slice none 0 0, .slice none 0 0] 39)).setRow wr.heap.size #[.int .i64 host, .int .i64 sig, .int .i64 inn, .int .i64 out, .int .i64 loc, .slice xc nc cc, .slice xm nm cm] = w6 at *
     generalize hgs : wr.heap.size = gs at *
     have HB6 := Lib.hid hbk
     have HG6 := Lib.hid (gr_trans HGf.out HS6.out)
     obtain ⟨p0, p1⟩ := cells2 (gr_block HG6.out HB1.out)
     obtain ⟨f0, f1, f2, f3, f4, f5, f6⟩ := cells7 hbk
     clear hbk
     cases qw with
     | false =>
      go_wp2_with fail
      refine (HW.out _ HG6.out).mono ?_
      rintro e w7 ⟨rfl, hg7⟩
      have HG7 := Lib.hid hg7
      clear hg7 p0 p1 f0 f1 f2 f3 f4 f5 f6
      go_wp2
      go_ret
      exact ⟨by rw [chk_no (fun hc => by have := (hc.2 k _ HF.out).1; rw [HQW.out] at this; cases this)]; rfl, gr_trans HG1.out (gr_trans HG6.out HG7.out)⟩
     | true =>
      go_wp2_with fail
      refine (HW.out _ HG6.out).mono ?_
      rintro e w7 ⟨rfl, hg7⟩
      have HG7 := Lib.hid hg7
      have f5' := gr_cell hg7 f5
      clear hg7 p0 p1 f0 f1 f2 f3 f4 f5 f6
      go_wp2_with fail
      clear f5'
      go_loopw [41] (fun i wr => ∃ k : Nat, k ≤ nc ∧ i = .int .i64 k ∧ Gr w7 wr ∧ ∀ (j : Nat) (c : Ce), j < k → l[j]? = some c → stdB P ⟨host, sig, inn, out, loc, l⟩ j c = true) (fun i _ => nc - (intOf i).toNat)
      case atStart => exact ⟨0, by omega, rfl, Gr.refl _, fun j s hj => by omega⟩
      case round =>
       obtain ⟨i, hi, rfl, hg, hb⟩ := hrel
       have HG8 := Lib.hid hg
       have HBe := Lib.hid hb
       clear hg hb
       by_cases hlt : i < nc
       ·have hii : (i : Int) < (nc : Int) := by omega
        have hw := (HP.out _ (gr_trans HG1.out (gr_trans HG6.out (gr_trans HG7.out HG8.out)))).fus _ (List.mem_of_getElem? HF.out)
        obtain ⟨c, hc⟩ : ∃ c, l[i]? = some c := ⟨_, List.getElem?_eq_getElem (by rw [HNC.out]; exact hlt)⟩
        have HC := Lib.hid hc
        have HCB := Lib.hid (hw.ces c (List.mem_of_getElem? hc))
        have hcs := hw.cs
        dsimp only at hcs
        obtain ⟨bc, oc, rfl, hcl⟩ := rwR_at (g := ceA) (z := 3) (n := nc) (x := xc) (c := cc) (fun _ => rfl) (by rw [← HNC.out]; exact hcs) hc (by decide)
        obtain ⟨op, a, n⟩ := c
        have HDC := Lib.hid (show ∀ j u, (#[.int .i64 op, .int .i64 a, .int .u64 n] : Array Value).toList[j]? = some u → wr.cell? ⟨bc, oc + i * 3 + j, none⟩ = some u from fun j u hu => hcl j u (by rw [← hu]; unfold ceA; rw [Array.getElem?_toList]))
        have HS1 := Lib.hid (fun wx (hg : Gr w1 wx) => HST.out wx hg _ HCB.out i (by omega) (by have := HLC.out; omega))
        unfold ceA at HS1
        dsimp only at HS1
        obtain ⟨qs, hqs⟩ : ∃ q, stdB P ⟨host, sig, inn, out, loc, l⟩ i ⟨op, a, n⟩ = q := ⟨_, rfl⟩
        have HQS := Lib.hid hqs
        rw [hqs] at HS1
        have HLI := Lib.hid hlt
        have T5 : wrap64 ((i : Int) + 1) = (i : Int) + 1 := by have := HLC.out; unfold wrap64; omega
        clear hw hc hcl hcs hqs hlt
        go_upto_region 15 with (first | (refine wpList_load_cells rfl 47 _ rfl bc (oc + i * 3) rfl #[.int .i64 op, .int .i64 a, .int .u64 n] _ HDC.out Try.underlying47 rfl infoCe ?_) | (refine wpList_store_row rfl 47 _ _ rfl wr.heap.size #[.int .i64 op, .int .i64 a, .int .u64 n] rfl rfl 47 #[.int .i64 0, .int .i64 0, .int .u64 0] (heap_alloc_new wr _) infoCe rfl (by kernel_rfl) ?_))
        have hrw := Sep.setRow (ex := fun b => b = wr.heap.size) (wr.alloc (.cells #[.int .i64 0, .int .i64 0, .int .u64 0] 47)) rfl #[.int .i64 op, .int .i64 a, .int .u64 n]
        have hgg : Gr wr ((wr.alloc (.cells #[.int .i64 0, .int .i64 0, .int .u64 0] 47)).setRow wr.heap.size #[.int .i64 op, .int .i64 a, .int .u64 n]) := Sep.toGr ((Gr.refl wr).alloc #[.int .i64 0, .int .i64 0, .int .u64 0] 47) hrw (fun q hq => by have e' : q = wr.heap.size := hq; omega)
        have hbk := setRow_block (c := #[.int .i64 op, .int .i64 a, .int .u64 n]) (heap_alloc_new wr (.cells #[.int .i64 0, .int .i64 0, .int .u64 0] 47))
        have HS9 := Lib.hid hgg
        clear hrw hgg
        generalize (wr.alloc (.cells #[.int .i64 0, .int .i64 0, .int .u64 0] 47)).setRow wr.heap.size #[.int .i64 op, .int .i64 a, .int .u64 n] = w9 at *
        generalize hgc : wr.heap.size = gc at *
        have HG9 := Lib.hid (gr_trans HG8.out HS9.out)
        obtain ⟨p0, p1⟩ := cells2 (gr_block (gr_trans HG6.out (gr_trans HG7.out HG9.out)) HB1.out)
        obtain ⟨f0, f1, f2, f3, f4, f5, f6⟩ := cells7 (gr_block (gr_trans HG7.out HG9.out) HB6.out)
        obtain ⟨c0, c1, c2⟩ := cells3 hbk
        clear hbk
        go_wp2_with fail
        refine (HS1.out _ (gr_trans HG6.out (gr_trans HG7.out HG9.out))).mono ?_
        rintro e w10 ⟨rfl, hg10⟩
        have HG10 := Lib.hid hg10
        clear hg10 p0 p1 f0 f1 f2 f3 f4 f5 f6 c0 c1 c2
        cases qs with
        | false =>
         go_wp2
         go_ret
         exact ⟨by rw [chk_no (fun hc => by have := (hc.2 k _ HF.out).2 i _ HC.out; rw [HQS.out] at this; cases this)]; rfl, gr_trans HG1.out (gr_trans HG6.out (gr_trans HG7.out (gr_trans HG9.out HG10.out)))⟩
        | true =>
         go_wp2
         exact ⟨⟨i + 1, HLI.out, by first | rfl | (rw [T5]; rfl), gr_trans HG9.out HG10.out, fun j u hj hu => by
          by_cases e : j = i
          ·subst e; rw [HC.out] at hu; obtain rfl := Option.some.inj hu; exact HQS.out
          ·exact HBe.out j u (by omega) hu⟩, by have := HLI.out; first | (rw [T5]; simp [intOf]; omega) | (simp [intOf]; omega)⟩
       ·obtain rfl : nc = i := by omega
        have HAL := Lib.hid (show ∀ (j : Nat) (c : Ce), l[j]? = some c → stdB P ⟨host, sig, inn, out, loc, l⟩ j c = true from fun j c hc => HBe.out j c (by have := (List.getElem?_eq_some_iff.1 hc).1; rw [HNC.out] at this; exact this) hc)
        have HG10 := Lib.hid (gr_trans HS6.out (gr_trans HG7.out HG8.out))
        clear hlt hi HBe
        obtain ⟨wy, hwy⟩ : ∃ wy, wy = wr := ⟨_, rfl⟩
        go_wp2
        exact ⟨⟨k + 1, HLT.out, by first | rfl | (rw [T4]; rfl), gr_trans HG5.out HG10.out, fun j u hj hu => by
         by_cases e : j = k
         ·subst e; rw [HF.out] at hu; obtain rfl := Option.some.inj hu; exact ⟨HQW.out, HAL.out⟩
         ·exact HA.out j u (by omega) hu⟩, by have := HLT.out; first | (rw [T4]; simp [intOf]; omega) | (simp [intOf]; omega)⟩
    ·obtain rfl : nf = k := by omega
     have HFS := Lib.hid (show ∀ (j : Nat) (f : FuV), P.fs[j]? = some f → whlB P f.f = true ∧ ∀ (k : Nat) (c : Ce), f.f.cs[k]? = some c → stdB P f.f k c = true from fun j f hf => HA.out j f (by have := (List.getElem?_eq_some_iff.1 hf).1; rw [HNF.out] at this; exact this) hf)
     clear hlt hk HA
     go_wp2
     go_ret
     exact ⟨by rw [chk_yes ⟨HSS.out, HFS.out⟩]; rfl, gr_trans HG1.out HGf.out⟩
end Tg
end Go.Proofs.Ytifjgocfdnhdeaa
/- InsLaw -/
namespace Go.Proofs.Ytifjgocfdnhdeaa
open Go.RowKit
namespace Ins
end Ins
end Go.Proofs.Ytifjgocfdnhdeaa
