/-
  Of layer 3: the law of the laws' first test (awake): in any world it returns true. No condition.
-/
import Derived.Test.YthdklnkaeddogacDoorBin2
namespace Go.Proofs.YthdklnkaeddogacDoor
open Go.RowKit NumM
set_option maxHeartbeats 400000 in
theorem arity_106 (w : World) : Calls Tryd.prog 11 #[.int .i64 106] w fun e w' => e = .returned (.int .i64 2) ∧ w = w' := by
  go_enter Tryd.func11, Tryd.ntmps11
  go_wp2
  go_ret
  exact ⟨rfl, rfl⟩
set_option maxHeartbeats 400000 in
theorem arity_172 (w : World) : Calls Tryd.prog 11 #[.int .i64 172] w fun e w' => e = .returned (.int .i64 1) ∧ w = w' := by
  go_enter Tryd.func11, Tryd.ntmps11
  go_wp2
  go_ret
  exact ⟨rfl, rfl⟩
theorem un_lit : IntKind.u64.wrap (wrap32 2147483648) = 18446744071562067968 := by decide +kernel
set_option maxHeartbeats 400000 in
theorem un_awake (w : World) : Calls Tryd.prog 18 #[.int .i64 172, .int .u64 2147483648] w fun e w' => e = .returned (.tuple #[.int .u64 18446744071562067968, .int .i64 0]) ∧ w = w' := by
  go_enter Tryd.func18, Tryd.ntmps18
  go_wp2_with fail
  refine (arity_172 _).mono ?_
  rintro e w1 ⟨rfl, rfl⟩
  go_wp2
  go_ret2
  exact ⟨ret_pair un_lit rfl, rfl⟩
theorem ab1 : bI 127 18446744073709551609 2 = 18446744073709551613 := by decide +kernel
theorem ae1 : eI 127 18446744073709551609 2 = 0 := by decide +kernel
theorem ae2 : eI 110 1 4294967296 = 21 := by decide +kernel
theorem ab2 : bI 110 1 4294967296 = 0 := by decide +kernel
set_option maxHeartbeats 400000 in
theorem awake (w : World) : Calls Tryd.prog 10 #[] w fun e w' => e = .returned (.bool true) ∧ Grown w w' := by
  have C1 := Bin_any 127 18446744073709551609 2 ⟨by decide, by decide⟩ ⟨by decide, by decide⟩
  rw [ab1, ae1] at C1
  have C2 := Bin_any 110 1 4294967296 ⟨by decide, by decide⟩ ⟨by decide, by decide⟩
  rw [ab2, ae2] at C2
  have H1 := Lib.hid C1
  have H2 := Lib.hid C2
  clear C1 C2
  go_enter Tryd.func10, Tryd.ntmps10
  go_wp2_with fail
  refine (H1.out _).mono ?_
  rintro e w1 ⟨rfl, hg1⟩
  go_wp2_with fail
  refine (un_awake _).mono ?_
  rintro e w2 ⟨rfl, rfl⟩
  go_wp2_with fail
  refine (H2.out _).mono ?_
  rintro e w2 ⟨rfl, hg2⟩
  go_wp2_with fail
  refine (arity_106 _).mono ?_
  rintro e w2 ⟨rfl, rfl⟩
  go_wp2
  go_ret
  exact ⟨rfl, grown_trans hg1 hg2⟩
end Go.Proofs.YthdklnkaeddogacDoor
