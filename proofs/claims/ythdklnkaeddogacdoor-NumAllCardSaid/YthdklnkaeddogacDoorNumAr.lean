/-
  The reference's arith of layer 3: the same number as the program's work. (For NumAll.)
-/
import Derived.Test.YthdklnkaeddogacDoorNumArM
namespace Go.Proofs.YthdklnkaeddogacDoor
open Go.RowKit NumRM NumRef NumM
namespace NumAr
theorem wk0 (v a b c d : Int) : workI 0 v a b c d = IntKind.u64.wrap (a + c) := by simp [workI]
theorem wk1 (v a b c d : Int) : workI 1 v a b c d = IntKind.u64.wrap (a - c) := by simp [workI]
theorem wk2 (v a b c d : Int) : workI 2 v a b c d = IntKind.u64.wrap (a * c) := by simp [workI]
theorem wk7 (v a b c d : Int) : workI 7 v a b c d = bits .and .u64 a c := by simp [workI]
theorem wk8 (v a b c d : Int) : workI 8 v a b c d = bits .or .u64 a c := by simp [workI]
theorem wk9 (v a b c d : Int) : workI 9 v a b c d = bits .xor .u64 a c := by simp [workI]
theorem wk10 (v a b c d : Int) : workI 10 v a b c d = IntKind.u64.wrap (a * 2 ^ (c % v).toNat) := by simp [workI, shiftI]
theorem wk11 (v a b c d : Int) : workI 11 v a b c d = IntKind.u64.wrap (b / 2 ^ (c % v).toNat) := by simp [workI, shiftI]
theorem wk12 (v a b c d : Int) : workI 12 v a b c d = a / 2 ^ (c % v).toNat := by simp [workI, shiftI]
theorem wk13 (v a b c d : Int) : workI 13 v a b c d = bits .or .u64 (IntKind.u64.wrap (a * 2 ^ (c % v).toNat)) (a / 2 ^ (v - c % v).toNat) := by simp [workI, shiftI]
theorem wk14 (v a b c d : Int) : workI 14 v a b c d = bits .or .u64 (a / 2 ^ (c % v).toNat) (IntKind.u64.wrap (a * 2 ^ (v - c % v).toNat)) := by simp [workI, shiftI]
theorem wk3 (v a b c d : Int) (h : divE 3 v b c d = 0) : workI 3 v a b c d = IntKind.u64.wrap (wrap64 (b.tdiv d)) := by simp [workI, divI, h]
theorem wk4 (v a b c d : Int) (h : divE 4 v b c d = 0) : workI 4 v a b c d = IntKind.u64.wrap (a.tdiv c) := by simp [workI, divI, h]
theorem wk5 (v a b c d : Int) (h : divE 5 v b c d = 0) : workI 5 v a b c d = IntKind.u64.wrap (b.tmod d) := by simp [workI, divI, h]
theorem wk6 (v a b c d : Int) (h : divE 6 v b c d = 0) : workI 6 v a b c d = a.tmod c := by simp [workI, divI, h]
/-- what arith's four first calls answer -/
structure Four (x y W sx sy ux uy : Int) : Prop where
  a : ∀ w, Calls Tryd.prog 30 #[.int .u64 x, .int .i64 W] w fun e w' => e = .returned (.int .u64 sx) ∧ w = w'
  b : ∀ w, Calls Tryd.prog 30 #[.int .u64 y, .int .i64 W] w fun e w' => e = .returned (.int .u64 sy) ∧ w = w'
  c : ∀ w, Calls Tryd.prog 28 #[.int .u64 x, .int .i64 W] w fun e w' => e = .returned (.int .u64 ux) ∧ w = w'
  d : ∀ w, Calls Tryd.prog 28 #[.int .u64 y, .int .i64 W] w fun e w' => e = .returned (.int .u64 uy) ∧ w = w'
  sx : 0 ≤ sx ∧ sx < 18446744073709551616
  sy : 0 ≤ sy ∧ sy < 18446744073709551616
  ux : 0 ≤ ux ∧ ux < 18446744073709551616
  uy : 0 ≤ uy ∧ uy < 18446744073709551616
theorem size_is (x : Int) (hx : 0 ≤ x ∧ x < 18446744073709551616) (w : World) :
    Calls Tryd.prog 44 #[.int .u64 x] w fun e w' => e = .returned (.int .u64 (sizeI x)) ∧ w = w' := size_any x hx w
theorem sizeI_bd (x : Int) (hx : 0 ≤ x ∧ x < 18446744073709551616) : 0 ≤ sizeI x ∧ sizeI x < 18446744073709551616 := by unfold sizeI; split <;> omega
theorem sizeI_ne (x : Int) (hx : 0 ≤ x ∧ x < 18446744073709551616) (h : x ≠ 0) : 0 < sizeI x := by unfold sizeI; split <;> omega
set_option maxHeartbeats 1000000 in
theorem ar0_32 (x y sx sy ux uy : Int) (F : Four x y 32 sx sy ux uy) (n : Int) (hn : uy % 32 = n) (w : World) :
    Calls Tryd.prog 32 #[.int .i64 0, .int .u64 x, .int .u64 y, .int .i64 32] w fun e w' => e = .returned (.int .u64 (IntKind.u64.wrap (ux + uy))) ∧ w = w' := by
  have hn2 : uy.tmod 32 = n := by rw [Int.tmod_eq_emod_of_nonneg F.uy.1, hn]
  have hn3 : 0 ≤ n ∧ n < 32 := by omega
  have hx := F.sx
  have hy := F.sy
  have hux := F.ux
  have huy := F.uy
  go_enter Tryd.func32, Tryd.ntmps32
  go_wp2_with fail
  refine (F.a _).mono ?_
  rintro e w1 ⟨rfl, rfl⟩
  go_wp2_with fail
  refine (F.b _).mono ?_
  rintro e w1 ⟨rfl, rfl⟩
  go_wp2_with fail
  refine (F.c _).mono ?_
  rintro e w1 ⟨rfl, rfl⟩
  go_wp2_with fail
  refine (F.d _).mono ?_
  rintro e w1 ⟨rfl, rfl⟩
  go_wp2
  go_ret
  exact ⟨rfl, rfl⟩
set_option maxHeartbeats 1000000 in
theorem ar1_32 (x y sx sy ux uy : Int) (F : Four x y 32 sx sy ux uy) (n : Int) (hn : uy % 32 = n) (w : World) :
    Calls Tryd.prog 32 #[.int .i64 1, .int .u64 x, .int .u64 y, .int .i64 32] w fun e w' => e = .returned (.int .u64 (IntKind.u64.wrap (ux - uy))) ∧ w = w' := by
  have hn2 : uy.tmod 32 = n := by rw [Int.tmod_eq_emod_of_nonneg F.uy.1, hn]
  have hn3 : 0 ≤ n ∧ n < 32 := by omega
  have hx := F.sx
  have hy := F.sy
  have hux := F.ux
  have huy := F.uy
  go_enter Tryd.func32, Tryd.ntmps32
  go_wp2_with fail
  refine (F.a _).mono ?_
  rintro e w1 ⟨rfl, rfl⟩
  go_wp2_with fail
  refine (F.b _).mono ?_
  rintro e w1 ⟨rfl, rfl⟩
  go_wp2_with fail
  refine (F.c _).mono ?_
  rintro e w1 ⟨rfl, rfl⟩
  go_wp2_with fail
  refine (F.d _).mono ?_
  rintro e w1 ⟨rfl, rfl⟩
  go_wp2
  go_ret
  exact ⟨rfl, rfl⟩
set_option maxHeartbeats 1000000 in
theorem ar2_32 (x y sx sy ux uy : Int) (F : Four x y 32 sx sy ux uy) (n : Int) (hn : uy % 32 = n) (w : World) :
    Calls Tryd.prog 32 #[.int .i64 2, .int .u64 x, .int .u64 y, .int .i64 32] w fun e w' => e = .returned (.int .u64 (IntKind.u64.wrap (ux * uy))) ∧ w = w' := by
  have hn2 : uy.tmod 32 = n := by rw [Int.tmod_eq_emod_of_nonneg F.uy.1, hn]
  have hn3 : 0 ≤ n ∧ n < 32 := by omega
  have hx := F.sx
  have hy := F.sy
  have hux := F.ux
  have huy := F.uy
  go_enter Tryd.func32, Tryd.ntmps32
  go_wp2_with fail
  refine (F.a _).mono ?_
  rintro e w1 ⟨rfl, rfl⟩
  go_wp2_with fail
  refine (F.b _).mono ?_
  rintro e w1 ⟨rfl, rfl⟩
  go_wp2_with fail
  refine (F.c _).mono ?_
  rintro e w1 ⟨rfl, rfl⟩
  go_wp2_with fail
  refine (F.d _).mono ?_
  rintro e w1 ⟨rfl, rfl⟩
  go_wp2
  go_ret
  exact ⟨rfl, rfl⟩
set_option maxHeartbeats 1000000 in
theorem ar7_32 (x y sx sy ux uy : Int) (F : Four x y 32 sx sy ux uy) (n : Int) (hn : uy % 32 = n) (w : World) :
    Calls Tryd.prog 32 #[.int .i64 7, .int .u64 x, .int .u64 y, .int .i64 32] w fun e w' => e = .returned (.int .u64 (bits .and .u64 ux uy)) ∧ w = w' := by
  have hn2 : uy.tmod 32 = n := by rw [Int.tmod_eq_emod_of_nonneg F.uy.1, hn]
  have hn3 : 0 ≤ n ∧ n < 32 := by omega
  have hx := F.sx
  have hy := F.sy
  have hux := F.ux
  have huy := F.uy
  go_enter Tryd.func32, Tryd.ntmps32
  go_wp2_with fail
  refine (F.a _).mono ?_
  rintro e w1 ⟨rfl, rfl⟩
  go_wp2_with fail
  refine (F.b _).mono ?_
  rintro e w1 ⟨rfl, rfl⟩
  go_wp2_with fail
  refine (F.c _).mono ?_
  rintro e w1 ⟨rfl, rfl⟩
  go_wp2_with fail
  refine (F.d _).mono ?_
  rintro e w1 ⟨rfl, rfl⟩
  go_wp2
  go_ret
  exact ⟨rfl, rfl⟩
set_option maxHeartbeats 1000000 in
theorem ar8_32 (x y sx sy ux uy : Int) (F : Four x y 32 sx sy ux uy) (n : Int) (hn : uy % 32 = n) (w : World) :
    Calls Tryd.prog 32 #[.int .i64 8, .int .u64 x, .int .u64 y, .int .i64 32] w fun e w' => e = .returned (.int .u64 (bits .or .u64 ux uy)) ∧ w = w' := by
  have hn2 : uy.tmod 32 = n := by rw [Int.tmod_eq_emod_of_nonneg F.uy.1, hn]
  have hn3 : 0 ≤ n ∧ n < 32 := by omega
  have hx := F.sx
  have hy := F.sy
  have hux := F.ux
  have huy := F.uy
  go_enter Tryd.func32, Tryd.ntmps32
  go_wp2_with fail
  refine (F.a _).mono ?_
  rintro e w1 ⟨rfl, rfl⟩
  go_wp2_with fail
  refine (F.b _).mono ?_
  rintro e w1 ⟨rfl, rfl⟩
  go_wp2_with fail
  refine (F.c _).mono ?_
  rintro e w1 ⟨rfl, rfl⟩
  go_wp2_with fail
  refine (F.d _).mono ?_
  rintro e w1 ⟨rfl, rfl⟩
  go_wp2
  go_ret
  exact ⟨rfl, rfl⟩
set_option maxHeartbeats 1000000 in
theorem ar9_32 (x y sx sy ux uy : Int) (F : Four x y 32 sx sy ux uy) (n : Int) (hn : uy % 32 = n) (w : World) :
    Calls Tryd.prog 32 #[.int .i64 9, .int .u64 x, .int .u64 y, .int .i64 32] w fun e w' => e = .returned (.int .u64 (bits .xor .u64 ux uy)) ∧ w = w' := by
  have hn2 : uy.tmod 32 = n := by rw [Int.tmod_eq_emod_of_nonneg F.uy.1, hn]
  have hn3 : 0 ≤ n ∧ n < 32 := by omega
  have hx := F.sx
  have hy := F.sy
  have hux := F.ux
  have huy := F.uy
  go_enter Tryd.func32, Tryd.ntmps32
  go_wp2_with fail
  refine (F.a _).mono ?_
  rintro e w1 ⟨rfl, rfl⟩
  go_wp2_with fail
  refine (F.b _).mono ?_
  rintro e w1 ⟨rfl, rfl⟩
  go_wp2_with fail
  refine (F.c _).mono ?_
  rintro e w1 ⟨rfl, rfl⟩
  go_wp2_with fail
  refine (F.d _).mono ?_
  rintro e w1 ⟨rfl, rfl⟩
  go_wp2
  go_ret
  exact ⟨rfl, rfl⟩
set_option maxHeartbeats 1000000 in
theorem ar10_32 (x y sx sy ux uy : Int) (F : Four x y 32 sx sy ux uy) (n : Int) (hn : uy % 32 = n) (w : World) :
    Calls Tryd.prog 32 #[.int .i64 10, .int .u64 x, .int .u64 y, .int .i64 32] w fun e w' => e = .returned (.int .u64 (IntKind.u64.wrap (ux * 2 ^ n.toNat))) ∧ w = w' := by
  have hn2 : uy.tmod 32 = n := by rw [Int.tmod_eq_emod_of_nonneg F.uy.1, hn]
  have hn3 : 0 ≤ n ∧ n < 32 := by omega
  have hx := F.sx
  have hy := F.sy
  have hux := F.ux
  have huy := F.uy
  go_enter Tryd.func32, Tryd.ntmps32
  go_wp2_with fail
  refine (F.a _).mono ?_
  rintro e w1 ⟨rfl, rfl⟩
  go_wp2_with fail
  refine (F.b _).mono ?_
  rintro e w1 ⟨rfl, rfl⟩
  go_wp2_with fail
  refine (F.c _).mono ?_
  rintro e w1 ⟨rfl, rfl⟩
  go_wp2_with fail
  refine (F.d _).mono ?_
  rintro e w1 ⟨rfl, rfl⟩
  go_wp2
  go_ret
  exact ⟨rfl, rfl⟩
set_option maxHeartbeats 1000000 in
theorem ar12_32 (x y sx sy ux uy : Int) (F : Four x y 32 sx sy ux uy) (n : Int) (hn : uy % 32 = n) (w : World) :
    Calls Tryd.prog 32 #[.int .i64 12, .int .u64 x, .int .u64 y, .int .i64 32] w fun e w' => e = .returned (.int .u64 (ux / 2 ^ n.toNat)) ∧ w = w' := by
  have hn2 : uy.tmod 32 = n := by rw [Int.tmod_eq_emod_of_nonneg F.uy.1, hn]
  have hn3 : 0 ≤ n ∧ n < 32 := by omega
  have hx := F.sx
  have hy := F.sy
  have hux := F.ux
  have huy := F.uy
  go_enter Tryd.func32, Tryd.ntmps32
  go_wp2_with fail
  refine (F.a _).mono ?_
  rintro e w1 ⟨rfl, rfl⟩
  go_wp2_with fail
  refine (F.b _).mono ?_
  rintro e w1 ⟨rfl, rfl⟩
  go_wp2_with fail
  refine (F.c _).mono ?_
  rintro e w1 ⟨rfl, rfl⟩
  go_wp2_with fail
  refine (F.d _).mono ?_
  rintro e w1 ⟨rfl, rfl⟩
  go_wp2
  go_ret
  exact ⟨rfl, rfl⟩
set_option maxHeartbeats 1000000 in
theorem ar13_32 (x y sx sy ux uy : Int) (F : Four x y 32 sx sy ux uy) (n : Int) (hn : uy % 32 = n) (w : World) :
    Calls Tryd.prog 32 #[.int .i64 13, .int .u64 x, .int .u64 y, .int .i64 32] w fun e w' => e = .returned (.int .u64 (bits .or .u64 (IntKind.u64.wrap (ux * 2 ^ n.toNat)) (ux / 2 ^ (32 - n).toNat))) ∧ w = w' := by
  have hn2 : uy.tmod 32 = n := by rw [Int.tmod_eq_emod_of_nonneg F.uy.1, hn]
  have hn3 : 0 ≤ n ∧ n < 32 := by omega
  have hx := F.sx
  have hy := F.sy
  have hux := F.ux
  have huy := F.uy
  go_enter Tryd.func32, Tryd.ntmps32
  go_wp2_with fail
  refine (F.a _).mono ?_
  rintro e w1 ⟨rfl, rfl⟩
  go_wp2_with fail
  refine (F.b _).mono ?_
  rintro e w1 ⟨rfl, rfl⟩
  go_wp2_with fail
  refine (F.c _).mono ?_
  rintro e w1 ⟨rfl, rfl⟩
  go_wp2_with fail
  refine (F.d _).mono ?_
  rintro e w1 ⟨rfl, rfl⟩
  go_wp2
  go_ret
  exact ⟨rfl, rfl⟩
set_option maxHeartbeats 1000000 in
theorem ar14_32 (x y sx sy ux uy : Int) (F : Four x y 32 sx sy ux uy) (n : Int) (hn : uy % 32 = n) (w : World) :
    Calls Tryd.prog 32 #[.int .i64 14, .int .u64 x, .int .u64 y, .int .i64 32] w fun e w' => e = .returned (.int .u64 (bits .or .u64 (ux / 2 ^ n.toNat) (IntKind.u64.wrap (ux * 2 ^ (32 - n).toNat)))) ∧ w = w' := by
  have hn2 : uy.tmod 32 = n := by rw [Int.tmod_eq_emod_of_nonneg F.uy.1, hn]
  have hn3 : 0 ≤ n ∧ n < 32 := by omega
  have hx := F.sx
  have hy := F.sy
  have hux := F.ux
  have huy := F.uy
  go_enter Tryd.func32, Tryd.ntmps32
  go_wp2_with fail
  refine (F.a _).mono ?_
  rintro e w1 ⟨rfl, rfl⟩
  go_wp2_with fail
  refine (F.b _).mono ?_
  rintro e w1 ⟨rfl, rfl⟩
  go_wp2_with fail
  refine (F.c _).mono ?_
  rintro e w1 ⟨rfl, rfl⟩
  go_wp2_with fail
  refine (F.d _).mono ?_
  rintro e w1 ⟨rfl, rfl⟩
  go_wp2
  go_ret
  exact ⟨rfl, rfl⟩
set_option maxHeartbeats 1000000 in
theorem ar11_32 (x y sx sy ux uy : Int) (F : Four x y 32 sx sy ux uy) (n hi : Int) (hn : uy % 32 = n) (hhi : sx / 9223372036854775808 = hi) (w : World) :
    Calls Tryd.prog 32 #[.int .i64 11, .int .u64 x, .int .u64 y, .int .i64 32] w fun e w' => e = .returned (.int .u64 (bits .or .u64 (sx / 2 ^ n.toNat) (fillI hi n))) ∧ w = w' := by
  have hn2 : uy.tmod 32 = n := by rw [Int.tmod_eq_emod_of_nonneg F.uy.1, hn]
  have hn3 : 0 ≤ n ∧ n < 32 := by omega
  have CF := fill_any hi n (by have := F.sx; omega) (by omega)
  have HF := Lib.hid CF
  clear CF
  generalize fillI hi n = fl at *
  have hx := F.sx
  have hy := F.sy
  have hux := F.ux
  have huy := F.uy
  go_enter Tryd.func32, Tryd.ntmps32
  go_wp2_with fail
  refine (F.a _).mono ?_
  rintro e w1 ⟨rfl, rfl⟩
  go_wp2_with fail
  refine (F.b _).mono ?_
  rintro e w1 ⟨rfl, rfl⟩
  go_wp2_with fail
  refine (F.c _).mono ?_
  rintro e w1 ⟨rfl, rfl⟩
  go_wp2_with fail
  refine (F.d _).mono ?_
  rintro e w1 ⟨rfl, rfl⟩
  go_wp2_with (go_at_call 45; refine (HF.out _).mono ?_; rintro e w1 ⟨rfl, rfl⟩)
  go_ret
  exact ⟨rfl, rfl⟩
set_option maxHeartbeats 1000000 in
theorem ar4_32 (x y sx sy ux uy : Int) (F : Four x y 32 sx sy ux uy) (d : Int) (hd : ux / uy = d) (h0 : 0 < uy) (w : World) :
    Calls Tryd.prog 32 #[.int .i64 4, .int .u64 x, .int .u64 y, .int .i64 32] w fun e w' => e = .returned (.int .u64 (d)) ∧ w = w' := by
  have CD := NumRef.divide_any ux uy F.ux ⟨h0, F.uy.2⟩
  rw [hd] at CD
  have HD := Lib.hid CD
  clear CD hd
  have hx := F.sx
  have hy := F.sy
  have hux := F.ux
  have huy := F.uy
  go_enter Tryd.func32, Tryd.ntmps32
  go_wp2_with fail
  refine (F.a _).mono ?_
  rintro e w1 ⟨rfl, rfl⟩
  go_wp2_with fail
  refine (F.b _).mono ?_
  rintro e w1 ⟨rfl, rfl⟩
  go_wp2_with fail
  refine (F.c _).mono ?_
  rintro e w1 ⟨rfl, rfl⟩
  go_wp2_with fail
  refine (F.d _).mono ?_
  rintro e w1 ⟨rfl, rfl⟩
  go_wp2_with (go_at_call 43; refine (HD.out _).mono ?_; rintro e w1 ⟨rfl, rfl⟩)
  go_ret
  exact ⟨rfl, rfl⟩
set_option maxHeartbeats 1000000 in
theorem ar6_32 (x y sx sy ux uy : Int) (F : Four x y 32 sx sy ux uy) (d : Int) (hd : ux / uy = d) (h0 : 0 < uy) (w : World) :
    Calls Tryd.prog 32 #[.int .i64 6, .int .u64 x, .int .u64 y, .int .i64 32] w fun e w' => e = .returned (.int .u64 (IntKind.u64.wrap (ux - IntKind.u64.wrap (d * uy)))) ∧ w = w' := by
  have CD := NumRef.divide_any ux uy F.ux ⟨h0, F.uy.2⟩
  rw [hd] at CD
  have HD := Lib.hid CD
  clear CD hd
  have hx := F.sx
  have hy := F.sy
  have hux := F.ux
  have huy := F.uy
  go_enter Tryd.func32, Tryd.ntmps32
  go_wp2_with fail
  refine (F.a _).mono ?_
  rintro e w1 ⟨rfl, rfl⟩
  go_wp2_with fail
  refine (F.b _).mono ?_
  rintro e w1 ⟨rfl, rfl⟩
  go_wp2_with fail
  refine (F.c _).mono ?_
  rintro e w1 ⟨rfl, rfl⟩
  go_wp2_with fail
  refine (F.d _).mono ?_
  rintro e w1 ⟨rfl, rfl⟩
  go_wp2_with (go_at_call 43; refine (HD.out _).mono ?_; rintro e w1 ⟨rfl, rfl⟩)
  go_ret
  exact ⟨rfl, rfl⟩
set_option maxHeartbeats 1000000 in
theorem ar3s_32 (x y sx sy ux uy : Int) (F : Four x y 32 sx sy ux uy) (q d hx1 hy1 : Int) (hq : q = d) (hd : sizeI sx / sizeI sy = d) (h0 : sy ≠ 0) (e1 : sx / 9223372036854775808 = hx1) (e2 : sy / 9223372036854775808 = hy1) (hb : (hx1 != hy1) = false) (w : World) :
    Calls Tryd.prog 32 #[.int .i64 3, .int .u64 x, .int .u64 y, .int .i64 32] w fun e w' => e = .returned (.int .u64 (q)) ∧ w = w' := by
  have CD := NumRef.divide_any (sizeI sx) (sizeI sy) (sizeI_bd sx F.sx) ⟨sizeI_ne sy F.sy h0, (sizeI_bd sy F.sy).2⟩
  rw [hd] at CD
  have HD := Lib.hid CD
  have C1 := size_is sx F.sx
  have C2 := size_is sy F.sy
  generalize sizeI sx = zx at *
  generalize sizeI sy = zy at *
  have H1 := Lib.hid C1
  have H2 := Lib.hid C2
  have HQ := Lib.hid hq
  clear CD hd C1 C2 h0 hq
  have hx := F.sx
  have hy := F.sy
  have hux := F.ux
  have huy := F.uy
  go_enter Tryd.func32, Tryd.ntmps32
  go_wp2_with fail
  refine (F.a _).mono ?_
  rintro e w1 ⟨rfl, rfl⟩
  go_wp2_with fail
  refine (F.b _).mono ?_
  rintro e w1 ⟨rfl, rfl⟩
  go_wp2_with fail
  refine (F.c _).mono ?_
  rintro e w1 ⟨rfl, rfl⟩
  go_wp2_with fail
  refine (F.d _).mono ?_
  rintro e w1 ⟨rfl, rfl⟩
  go_wp2_with fail
  refine (H1.out _).mono ?_
  rintro e w1 ⟨rfl, rfl⟩
  go_wp2_with fail
  refine (H2.out _).mono ?_
  rintro e w1 ⟨rfl, rfl⟩
  go_wp2_with fail
  refine (HD.out _).mono ?_
  rintro e w1 ⟨rfl, rfl⟩
  go_wp2
  go_ret
  exact ⟨ret_u (by rw [HQ.out]), rfl⟩
set_option maxHeartbeats 1000000 in
theorem ar3t_32 (x y sx sy ux uy : Int) (F : Four x y 32 sx sy ux uy) (q d hx1 hy1 : Int) (hq : q = IntKind.u64.wrap (-d)) (hd : sizeI sx / sizeI sy = d) (h0 : sy ≠ 0) (e1 : sx / 9223372036854775808 = hx1) (e2 : sy / 9223372036854775808 = hy1) (hb : (hx1 != hy1) = true) (w : World) :
    Calls Tryd.prog 32 #[.int .i64 3, .int .u64 x, .int .u64 y, .int .i64 32] w fun e w' => e = .returned (.int .u64 (q)) ∧ w = w' := by
  have CD := NumRef.divide_any (sizeI sx) (sizeI sy) (sizeI_bd sx F.sx) ⟨sizeI_ne sy F.sy h0, (sizeI_bd sy F.sy).2⟩
  rw [hd] at CD
  have HD := Lib.hid CD
  have C1 := size_is sx F.sx
  have C2 := size_is sy F.sy
  generalize sizeI sx = zx at *
  generalize sizeI sy = zy at *
  have H1 := Lib.hid C1
  have H2 := Lib.hid C2
  have HQ := Lib.hid hq
  clear CD hd C1 C2 h0 hq
  have hx := F.sx
  have hy := F.sy
  have hux := F.ux
  have huy := F.uy
  go_enter Tryd.func32, Tryd.ntmps32
  go_wp2_with fail
  refine (F.a _).mono ?_
  rintro e w1 ⟨rfl, rfl⟩
  go_wp2_with fail
  refine (F.b _).mono ?_
  rintro e w1 ⟨rfl, rfl⟩
  go_wp2_with fail
  refine (F.c _).mono ?_
  rintro e w1 ⟨rfl, rfl⟩
  go_wp2_with fail
  refine (F.d _).mono ?_
  rintro e w1 ⟨rfl, rfl⟩
  go_wp2_with fail
  refine (H1.out _).mono ?_
  rintro e w1 ⟨rfl, rfl⟩
  go_wp2_with fail
  refine (H2.out _).mono ?_
  rintro e w1 ⟨rfl, rfl⟩
  go_wp2_with fail
  refine (HD.out _).mono ?_
  rintro e w1 ⟨rfl, rfl⟩
  go_wp2
  go_ret
  exact ⟨ret_u (by rw [HQ.out]), rfl⟩
set_option maxHeartbeats 1000000 in
theorem ar5s_32 (x y sx sy ux uy : Int) (F : Four x y 32 sx sy ux uy) (q d hx1 hy1 : Int) (hq : q = d) (hd : sizeI sx / sizeI sy = d) (h0 : sy ≠ 0) (e1 : sx / 9223372036854775808 = hx1) (e2 : sy / 9223372036854775808 = hy1) (hb : (hx1 != hy1) = false) (w : World) :
    Calls Tryd.prog 32 #[.int .i64 5, .int .u64 x, .int .u64 y, .int .i64 32] w fun e w' => e = .returned (.int .u64 (IntKind.u64.wrap (sx - IntKind.u64.wrap (q * sy)))) ∧ w = w' := by
  have CD := NumRef.divide_any (sizeI sx) (sizeI sy) (sizeI_bd sx F.sx) ⟨sizeI_ne sy F.sy h0, (sizeI_bd sy F.sy).2⟩
  rw [hd] at CD
  have HD := Lib.hid CD
  have C1 := size_is sx F.sx
  have C2 := size_is sy F.sy
  generalize sizeI sx = zx at *
  generalize sizeI sy = zy at *
  have H1 := Lib.hid C1
  have H2 := Lib.hid C2
  have HQ := Lib.hid hq
  clear CD hd C1 C2 h0 hq
  have hx := F.sx
  have hy := F.sy
  have hux := F.ux
  have huy := F.uy
  go_enter Tryd.func32, Tryd.ntmps32
  go_wp2_with fail
  refine (F.a _).mono ?_
  rintro e w1 ⟨rfl, rfl⟩
  go_wp2_with fail
  refine (F.b _).mono ?_
  rintro e w1 ⟨rfl, rfl⟩
  go_wp2_with fail
  refine (F.c _).mono ?_
  rintro e w1 ⟨rfl, rfl⟩
  go_wp2_with fail
  refine (F.d _).mono ?_
  rintro e w1 ⟨rfl, rfl⟩
  go_wp2_with fail
  refine (H1.out _).mono ?_
  rintro e w1 ⟨rfl, rfl⟩
  go_wp2_with fail
  refine (H2.out _).mono ?_
  rintro e w1 ⟨rfl, rfl⟩
  go_wp2_with fail
  refine (HD.out _).mono ?_
  rintro e w1 ⟨rfl, rfl⟩
  go_wp2
  go_ret
  exact ⟨ret_u (by rw [HQ.out]), rfl⟩
set_option maxHeartbeats 1000000 in
theorem ar5t_32 (x y sx sy ux uy : Int) (F : Four x y 32 sx sy ux uy) (q d hx1 hy1 : Int) (hq : q = IntKind.u64.wrap (-d)) (hd : sizeI sx / sizeI sy = d) (h0 : sy ≠ 0) (e1 : sx / 9223372036854775808 = hx1) (e2 : sy / 9223372036854775808 = hy1) (hb : (hx1 != hy1) = true) (w : World) :
    Calls Tryd.prog 32 #[.int .i64 5, .int .u64 x, .int .u64 y, .int .i64 32] w fun e w' => e = .returned (.int .u64 (IntKind.u64.wrap (sx - IntKind.u64.wrap (q * sy)))) ∧ w = w' := by
  have CD := NumRef.divide_any (sizeI sx) (sizeI sy) (sizeI_bd sx F.sx) ⟨sizeI_ne sy F.sy h0, (sizeI_bd sy F.sy).2⟩
  rw [hd] at CD
  have HD := Lib.hid CD
  have C1 := size_is sx F.sx
  have C2 := size_is sy F.sy
  generalize sizeI sx = zx at *
  generalize sizeI sy = zy at *
  have H1 := Lib.hid C1
  have H2 := Lib.hid C2
  have HQ := Lib.hid hq
  clear CD hd C1 C2 h0 hq
  have hx := F.sx
  have hy := F.sy
  have hux := F.ux
  have huy := F.uy
  go_enter Tryd.func32, Tryd.ntmps32
  go_wp2_with fail
  refine (F.a _).mono ?_
  rintro e w1 ⟨rfl, rfl⟩
  go_wp2_with fail
  refine (F.b _).mono ?_
  rintro e w1 ⟨rfl, rfl⟩
  go_wp2_with fail
  refine (F.c _).mono ?_
  rintro e w1 ⟨rfl, rfl⟩
  go_wp2_with fail
  refine (F.d _).mono ?_
  rintro e w1 ⟨rfl, rfl⟩
  go_wp2_with fail
  refine (H1.out _).mono ?_
  rintro e w1 ⟨rfl, rfl⟩
  go_wp2_with fail
  refine (H2.out _).mono ?_
  rintro e w1 ⟨rfl, rfl⟩
  go_wp2_with fail
  refine (HD.out _).mono ?_
  rintro e w1 ⟨rfl, rfl⟩
  go_wp2
  go_ret
  exact ⟨ret_u (by rw [HQ.out]), rfl⟩
set_option maxHeartbeats 1000000 in
theorem ar0_64 (x y sx sy ux uy : Int) (F : Four x y 64 sx sy ux uy) (n : Int) (hn : uy % 64 = n) (w : World) :
    Calls Tryd.prog 32 #[.int .i64 0, .int .u64 x, .int .u64 y, .int .i64 64] w fun e w' => e = .returned (.int .u64 (IntKind.u64.wrap (ux + uy))) ∧ w = w' := by
  have hn2 : uy.tmod 64 = n := by rw [Int.tmod_eq_emod_of_nonneg F.uy.1, hn]
  have hn3 : 0 ≤ n ∧ n < 64 := by omega
  have hx := F.sx
  have hy := F.sy
  have hux := F.ux
  have huy := F.uy
  go_enter Tryd.func32, Tryd.ntmps32
  go_wp2_with fail
  refine (F.a _).mono ?_
  rintro e w1 ⟨rfl, rfl⟩
  go_wp2_with fail
  refine (F.b _).mono ?_
  rintro e w1 ⟨rfl, rfl⟩
  go_wp2_with fail
  refine (F.c _).mono ?_
  rintro e w1 ⟨rfl, rfl⟩
  go_wp2_with fail
  refine (F.d _).mono ?_
  rintro e w1 ⟨rfl, rfl⟩
  go_wp2
  go_ret
  exact ⟨rfl, rfl⟩
set_option maxHeartbeats 1000000 in
theorem ar1_64 (x y sx sy ux uy : Int) (F : Four x y 64 sx sy ux uy) (n : Int) (hn : uy % 64 = n) (w : World) :
    Calls Tryd.prog 32 #[.int .i64 1, .int .u64 x, .int .u64 y, .int .i64 64] w fun e w' => e = .returned (.int .u64 (IntKind.u64.wrap (ux - uy))) ∧ w = w' := by
  have hn2 : uy.tmod 64 = n := by rw [Int.tmod_eq_emod_of_nonneg F.uy.1, hn]
  have hn3 : 0 ≤ n ∧ n < 64 := by omega
  have hx := F.sx
  have hy := F.sy
  have hux := F.ux
  have huy := F.uy
  go_enter Tryd.func32, Tryd.ntmps32
  go_wp2_with fail
  refine (F.a _).mono ?_
  rintro e w1 ⟨rfl, rfl⟩
  go_wp2_with fail
  refine (F.b _).mono ?_
  rintro e w1 ⟨rfl, rfl⟩
  go_wp2_with fail
  refine (F.c _).mono ?_
  rintro e w1 ⟨rfl, rfl⟩
  go_wp2_with fail
  refine (F.d _).mono ?_
  rintro e w1 ⟨rfl, rfl⟩
  go_wp2
  go_ret
  exact ⟨rfl, rfl⟩
set_option maxHeartbeats 1000000 in
theorem ar2_64 (x y sx sy ux uy : Int) (F : Four x y 64 sx sy ux uy) (n : Int) (hn : uy % 64 = n) (w : World) :
    Calls Tryd.prog 32 #[.int .i64 2, .int .u64 x, .int .u64 y, .int .i64 64] w fun e w' => e = .returned (.int .u64 (IntKind.u64.wrap (ux * uy))) ∧ w = w' := by
  have hn2 : uy.tmod 64 = n := by rw [Int.tmod_eq_emod_of_nonneg F.uy.1, hn]
  have hn3 : 0 ≤ n ∧ n < 64 := by omega
  have hx := F.sx
  have hy := F.sy
  have hux := F.ux
  have huy := F.uy
  go_enter Tryd.func32, Tryd.ntmps32
  go_wp2_with fail
  refine (F.a _).mono ?_
  rintro e w1 ⟨rfl, rfl⟩
  go_wp2_with fail
  refine (F.b _).mono ?_
  rintro e w1 ⟨rfl, rfl⟩
  go_wp2_with fail
  refine (F.c _).mono ?_
  rintro e w1 ⟨rfl, rfl⟩
  go_wp2_with fail
  refine (F.d _).mono ?_
  rintro e w1 ⟨rfl, rfl⟩
  go_wp2
  go_ret
  exact ⟨rfl, rfl⟩
set_option maxHeartbeats 1000000 in
theorem ar7_64 (x y sx sy ux uy : Int) (F : Four x y 64 sx sy ux uy) (n : Int) (hn : uy % 64 = n) (w : World) :
    Calls Tryd.prog 32 #[.int .i64 7, .int .u64 x, .int .u64 y, .int .i64 64] w fun e w' => e = .returned (.int .u64 (bits .and .u64 ux uy)) ∧ w = w' := by
  have hn2 : uy.tmod 64 = n := by rw [Int.tmod_eq_emod_of_nonneg F.uy.1, hn]
  have hn3 : 0 ≤ n ∧ n < 64 := by omega
  have hx := F.sx
  have hy := F.sy
  have hux := F.ux
  have huy := F.uy
  go_enter Tryd.func32, Tryd.ntmps32
  go_wp2_with fail
  refine (F.a _).mono ?_
  rintro e w1 ⟨rfl, rfl⟩
  go_wp2_with fail
  refine (F.b _).mono ?_
  rintro e w1 ⟨rfl, rfl⟩
  go_wp2_with fail
  refine (F.c _).mono ?_
  rintro e w1 ⟨rfl, rfl⟩
  go_wp2_with fail
  refine (F.d _).mono ?_
  rintro e w1 ⟨rfl, rfl⟩
  go_wp2
  go_ret
  exact ⟨rfl, rfl⟩
set_option maxHeartbeats 1000000 in
theorem ar8_64 (x y sx sy ux uy : Int) (F : Four x y 64 sx sy ux uy) (n : Int) (hn : uy % 64 = n) (w : World) :
    Calls Tryd.prog 32 #[.int .i64 8, .int .u64 x, .int .u64 y, .int .i64 64] w fun e w' => e = .returned (.int .u64 (bits .or .u64 ux uy)) ∧ w = w' := by
  have hn2 : uy.tmod 64 = n := by rw [Int.tmod_eq_emod_of_nonneg F.uy.1, hn]
  have hn3 : 0 ≤ n ∧ n < 64 := by omega
  have hx := F.sx
  have hy := F.sy
  have hux := F.ux
  have huy := F.uy
  go_enter Tryd.func32, Tryd.ntmps32
  go_wp2_with fail
  refine (F.a _).mono ?_
  rintro e w1 ⟨rfl, rfl⟩
  go_wp2_with fail
  refine (F.b _).mono ?_
  rintro e w1 ⟨rfl, rfl⟩
  go_wp2_with fail
  refine (F.c _).mono ?_
  rintro e w1 ⟨rfl, rfl⟩
  go_wp2_with fail
  refine (F.d _).mono ?_
  rintro e w1 ⟨rfl, rfl⟩
  go_wp2
  go_ret
  exact ⟨rfl, rfl⟩
set_option maxHeartbeats 1000000 in
theorem ar9_64 (x y sx sy ux uy : Int) (F : Four x y 64 sx sy ux uy) (n : Int) (hn : uy % 64 = n) (w : World) :
    Calls Tryd.prog 32 #[.int .i64 9, .int .u64 x, .int .u64 y, .int .i64 64] w fun e w' => e = .returned (.int .u64 (bits .xor .u64 ux uy)) ∧ w = w' := by
  have hn2 : uy.tmod 64 = n := by rw [Int.tmod_eq_emod_of_nonneg F.uy.1, hn]
  have hn3 : 0 ≤ n ∧ n < 64 := by omega
  have hx := F.sx
  have hy := F.sy
  have hux := F.ux
  have huy := F.uy
  go_enter Tryd.func32, Tryd.ntmps32
  go_wp2_with fail
  refine (F.a _).mono ?_
  rintro e w1 ⟨rfl, rfl⟩
  go_wp2_with fail
  refine (F.b _).mono ?_
  rintro e w1 ⟨rfl, rfl⟩
  go_wp2_with fail
  refine (F.c _).mono ?_
  rintro e w1 ⟨rfl, rfl⟩
  go_wp2_with fail
  refine (F.d _).mono ?_
  rintro e w1 ⟨rfl, rfl⟩
  go_wp2
  go_ret
  exact ⟨rfl, rfl⟩
set_option maxHeartbeats 1000000 in
theorem ar10_64 (x y sx sy ux uy : Int) (F : Four x y 64 sx sy ux uy) (n : Int) (hn : uy % 64 = n) (w : World) :
    Calls Tryd.prog 32 #[.int .i64 10, .int .u64 x, .int .u64 y, .int .i64 64] w fun e w' => e = .returned (.int .u64 (IntKind.u64.wrap (ux * 2 ^ n.toNat))) ∧ w = w' := by
  have hn2 : uy.tmod 64 = n := by rw [Int.tmod_eq_emod_of_nonneg F.uy.1, hn]
  have hn3 : 0 ≤ n ∧ n < 64 := by omega
  have hx := F.sx
  have hy := F.sy
  have hux := F.ux
  have huy := F.uy
  go_enter Tryd.func32, Tryd.ntmps32
  go_wp2_with fail
  refine (F.a _).mono ?_
  rintro e w1 ⟨rfl, rfl⟩
  go_wp2_with fail
  refine (F.b _).mono ?_
  rintro e w1 ⟨rfl, rfl⟩
  go_wp2_with fail
  refine (F.c _).mono ?_
  rintro e w1 ⟨rfl, rfl⟩
  go_wp2_with fail
  refine (F.d _).mono ?_
  rintro e w1 ⟨rfl, rfl⟩
  go_wp2
  go_ret
  exact ⟨rfl, rfl⟩
set_option maxHeartbeats 1000000 in
theorem ar12_64 (x y sx sy ux uy : Int) (F : Four x y 64 sx sy ux uy) (n : Int) (hn : uy % 64 = n) (w : World) :
    Calls Tryd.prog 32 #[.int .i64 12, .int .u64 x, .int .u64 y, .int .i64 64] w fun e w' => e = .returned (.int .u64 (ux / 2 ^ n.toNat)) ∧ w = w' := by
  have hn2 : uy.tmod 64 = n := by rw [Int.tmod_eq_emod_of_nonneg F.uy.1, hn]
  have hn3 : 0 ≤ n ∧ n < 64 := by omega
  have hx := F.sx
  have hy := F.sy
  have hux := F.ux
  have huy := F.uy
  go_enter Tryd.func32, Tryd.ntmps32
  go_wp2_with fail
  refine (F.a _).mono ?_
  rintro e w1 ⟨rfl, rfl⟩
  go_wp2_with fail
  refine (F.b _).mono ?_
  rintro e w1 ⟨rfl, rfl⟩
  go_wp2_with fail
  refine (F.c _).mono ?_
  rintro e w1 ⟨rfl, rfl⟩
  go_wp2_with fail
  refine (F.d _).mono ?_
  rintro e w1 ⟨rfl, rfl⟩
  go_wp2
  go_ret
  exact ⟨rfl, rfl⟩
set_option maxHeartbeats 1000000 in
theorem ar13_64 (x y sx sy ux uy : Int) (F : Four x y 64 sx sy ux uy) (n : Int) (hn : uy % 64 = n) (w : World) :
    Calls Tryd.prog 32 #[.int .i64 13, .int .u64 x, .int .u64 y, .int .i64 64] w fun e w' => e = .returned (.int .u64 (bits .or .u64 (IntKind.u64.wrap (ux * 2 ^ n.toNat)) (ux / 2 ^ (64 - n).toNat))) ∧ w = w' := by
  have hn2 : uy.tmod 64 = n := by rw [Int.tmod_eq_emod_of_nonneg F.uy.1, hn]
  have hn3 : 0 ≤ n ∧ n < 64 := by omega
  have hx := F.sx
  have hy := F.sy
  have hux := F.ux
  have huy := F.uy
  go_enter Tryd.func32, Tryd.ntmps32
  go_wp2_with fail
  refine (F.a _).mono ?_
  rintro e w1 ⟨rfl, rfl⟩
  go_wp2_with fail
  refine (F.b _).mono ?_
  rintro e w1 ⟨rfl, rfl⟩
  go_wp2_with fail
  refine (F.c _).mono ?_
  rintro e w1 ⟨rfl, rfl⟩
  go_wp2_with fail
  refine (F.d _).mono ?_
  rintro e w1 ⟨rfl, rfl⟩
  go_wp2
  go_ret
  exact ⟨rfl, rfl⟩
set_option maxHeartbeats 1000000 in
theorem ar14_64 (x y sx sy ux uy : Int) (F : Four x y 64 sx sy ux uy) (n : Int) (hn : uy % 64 = n) (w : World) :
    Calls Tryd.prog 32 #[.int .i64 14, .int .u64 x, .int .u64 y, .int .i64 64] w fun e w' => e = .returned (.int .u64 (bits .or .u64 (ux / 2 ^ n.toNat) (IntKind.u64.wrap (ux * 2 ^ (64 - n).toNat)))) ∧ w = w' := by
  have hn2 : uy.tmod 64 = n := by rw [Int.tmod_eq_emod_of_nonneg F.uy.1, hn]
  have hn3 : 0 ≤ n ∧ n < 64 := by omega
  have hx := F.sx
  have hy := F.sy
  have hux := F.ux
  have huy := F.uy
  go_enter Tryd.func32, Tryd.ntmps32
  go_wp2_with fail
  refine (F.a _).mono ?_
  rintro e w1 ⟨rfl, rfl⟩
  go_wp2_with fail
  refine (F.b _).mono ?_
  rintro e w1 ⟨rfl, rfl⟩
  go_wp2_with fail
  refine (F.c _).mono ?_
  rintro e w1 ⟨rfl, rfl⟩
  go_wp2_with fail
  refine (F.d _).mono ?_
  rintro e w1 ⟨rfl, rfl⟩
  go_wp2
  go_ret
  exact ⟨rfl, rfl⟩
set_option maxHeartbeats 1000000 in
theorem ar11_64 (x y sx sy ux uy : Int) (F : Four x y 64 sx sy ux uy) (n hi : Int) (hn : uy % 64 = n) (hhi : sx / 9223372036854775808 = hi) (w : World) :
    Calls Tryd.prog 32 #[.int .i64 11, .int .u64 x, .int .u64 y, .int .i64 64] w fun e w' => e = .returned (.int .u64 (bits .or .u64 (sx / 2 ^ n.toNat) (fillI hi n))) ∧ w = w' := by
  have hn2 : uy.tmod 64 = n := by rw [Int.tmod_eq_emod_of_nonneg F.uy.1, hn]
  have hn3 : 0 ≤ n ∧ n < 64 := by omega
  have CF := fill_any hi n (by have := F.sx; omega) (by omega)
  have HF := Lib.hid CF
  clear CF
  generalize fillI hi n = fl at *
  have hx := F.sx
  have hy := F.sy
  have hux := F.ux
  have huy := F.uy
  go_enter Tryd.func32, Tryd.ntmps32
  go_wp2_with fail
  refine (F.a _).mono ?_
  rintro e w1 ⟨rfl, rfl⟩
  go_wp2_with fail
  refine (F.b _).mono ?_
  rintro e w1 ⟨rfl, rfl⟩
  go_wp2_with fail
  refine (F.c _).mono ?_
  rintro e w1 ⟨rfl, rfl⟩
  go_wp2_with fail
  refine (F.d _).mono ?_
  rintro e w1 ⟨rfl, rfl⟩
  go_wp2_with (go_at_call 45; refine (HF.out _).mono ?_; rintro e w1 ⟨rfl, rfl⟩)
  go_ret
  exact ⟨rfl, rfl⟩
set_option maxHeartbeats 1000000 in
theorem ar4_64 (x y sx sy ux uy : Int) (F : Four x y 64 sx sy ux uy) (d : Int) (hd : ux / uy = d) (h0 : 0 < uy) (w : World) :
    Calls Tryd.prog 32 #[.int .i64 4, .int .u64 x, .int .u64 y, .int .i64 64] w fun e w' => e = .returned (.int .u64 (d)) ∧ w = w' := by
  have CD := NumRef.divide_any ux uy F.ux ⟨h0, F.uy.2⟩
  rw [hd] at CD
  have HD := Lib.hid CD
  clear CD hd
  have hx := F.sx
  have hy := F.sy
  have hux := F.ux
  have huy := F.uy
  go_enter Tryd.func32, Tryd.ntmps32
  go_wp2_with fail
  refine (F.a _).mono ?_
  rintro e w1 ⟨rfl, rfl⟩
  go_wp2_with fail
  refine (F.b _).mono ?_
  rintro e w1 ⟨rfl, rfl⟩
  go_wp2_with fail
  refine (F.c _).mono ?_
  rintro e w1 ⟨rfl, rfl⟩
  go_wp2_with fail
  refine (F.d _).mono ?_
  rintro e w1 ⟨rfl, rfl⟩
  go_wp2_with (go_at_call 43; refine (HD.out _).mono ?_; rintro e w1 ⟨rfl, rfl⟩)
  go_ret
  exact ⟨rfl, rfl⟩
set_option maxHeartbeats 1000000 in
theorem ar6_64 (x y sx sy ux uy : Int) (F : Four x y 64 sx sy ux uy) (d : Int) (hd : ux / uy = d) (h0 : 0 < uy) (w : World) :
    Calls Tryd.prog 32 #[.int .i64 6, .int .u64 x, .int .u64 y, .int .i64 64] w fun e w' => e = .returned (.int .u64 (IntKind.u64.wrap (ux - IntKind.u64.wrap (d * uy)))) ∧ w = w' := by
  have CD := NumRef.divide_any ux uy F.ux ⟨h0, F.uy.2⟩
  rw [hd] at CD
  have HD := Lib.hid CD
  clear CD hd
  have hx := F.sx
  have hy := F.sy
  have hux := F.ux
  have huy := F.uy
  go_enter Tryd.func32, Tryd.ntmps32
  go_wp2_with fail
  refine (F.a _).mono ?_
  rintro e w1 ⟨rfl, rfl⟩
  go_wp2_with fail
  refine (F.b _).mono ?_
  rintro e w1 ⟨rfl, rfl⟩
  go_wp2_with fail
  refine (F.c _).mono ?_
  rintro e w1 ⟨rfl, rfl⟩
  go_wp2_with fail
  refine (F.d _).mono ?_
  rintro e w1 ⟨rfl, rfl⟩
  go_wp2_with (go_at_call 43; refine (HD.out _).mono ?_; rintro e w1 ⟨rfl, rfl⟩)
  go_ret
  exact ⟨rfl, rfl⟩
set_option maxHeartbeats 1000000 in
theorem ar3s_64 (x y sx sy ux uy : Int) (F : Four x y 64 sx sy ux uy) (q d hx1 hy1 : Int) (hq : q = d) (hd : sizeI sx / sizeI sy = d) (h0 : sy ≠ 0) (e1 : sx / 9223372036854775808 = hx1) (e2 : sy / 9223372036854775808 = hy1) (hb : (hx1 != hy1) = false) (w : World) :
    Calls Tryd.prog 32 #[.int .i64 3, .int .u64 x, .int .u64 y, .int .i64 64] w fun e w' => e = .returned (.int .u64 (q)) ∧ w = w' := by
  have CD := NumRef.divide_any (sizeI sx) (sizeI sy) (sizeI_bd sx F.sx) ⟨sizeI_ne sy F.sy h0, (sizeI_bd sy F.sy).2⟩
  rw [hd] at CD
  have HD := Lib.hid CD
  have C1 := size_is sx F.sx
  have C2 := size_is sy F.sy
  generalize sizeI sx = zx at *
  generalize sizeI sy = zy at *
  have H1 := Lib.hid C1
  have H2 := Lib.hid C2
  have HQ := Lib.hid hq
  clear CD hd C1 C2 h0 hq
  have hx := F.sx
  have hy := F.sy
  have hux := F.ux
  have huy := F.uy
  go_enter Tryd.func32, Tryd.ntmps32
  go_wp2_with fail
  refine (F.a _).mono ?_
  rintro e w1 ⟨rfl, rfl⟩
  go_wp2_with fail
  refine (F.b _).mono ?_
  rintro e w1 ⟨rfl, rfl⟩
  go_wp2_with fail
  refine (F.c _).mono ?_
  rintro e w1 ⟨rfl, rfl⟩
  go_wp2_with fail
  refine (F.d _).mono ?_
  rintro e w1 ⟨rfl, rfl⟩
  go_wp2_with fail
  refine (H1.out _).mono ?_
  rintro e w1 ⟨rfl, rfl⟩
  go_wp2_with fail
  refine (H2.out _).mono ?_
  rintro e w1 ⟨rfl, rfl⟩
  go_wp2_with fail
  refine (HD.out _).mono ?_
  rintro e w1 ⟨rfl, rfl⟩
  go_wp2
  go_ret
  exact ⟨ret_u (by rw [HQ.out]), rfl⟩
set_option maxHeartbeats 1000000 in
theorem ar3t_64 (x y sx sy ux uy : Int) (F : Four x y 64 sx sy ux uy) (q d hx1 hy1 : Int) (hq : q = IntKind.u64.wrap (-d)) (hd : sizeI sx / sizeI sy = d) (h0 : sy ≠ 0) (e1 : sx / 9223372036854775808 = hx1) (e2 : sy / 9223372036854775808 = hy1) (hb : (hx1 != hy1) = true) (w : World) :
    Calls Tryd.prog 32 #[.int .i64 3, .int .u64 x, .int .u64 y, .int .i64 64] w fun e w' => e = .returned (.int .u64 (q)) ∧ w = w' := by
  have CD := NumRef.divide_any (sizeI sx) (sizeI sy) (sizeI_bd sx F.sx) ⟨sizeI_ne sy F.sy h0, (sizeI_bd sy F.sy).2⟩
  rw [hd] at CD
  have HD := Lib.hid CD
  have C1 := size_is sx F.sx
  have C2 := size_is sy F.sy
  generalize sizeI sx = zx at *
  generalize sizeI sy = zy at *
  have H1 := Lib.hid C1
  have H2 := Lib.hid C2
  have HQ := Lib.hid hq
  clear CD hd C1 C2 h0 hq
  have hx := F.sx
  have hy := F.sy
  have hux := F.ux
  have huy := F.uy
  go_enter Tryd.func32, Tryd.ntmps32
  go_wp2_with fail
  refine (F.a _).mono ?_
  rintro e w1 ⟨rfl, rfl⟩
  go_wp2_with fail
  refine (F.b _).mono ?_
  rintro e w1 ⟨rfl, rfl⟩
  go_wp2_with fail
  refine (F.c _).mono ?_
  rintro e w1 ⟨rfl, rfl⟩
  go_wp2_with fail
  refine (F.d _).mono ?_
  rintro e w1 ⟨rfl, rfl⟩
  go_wp2_with fail
  refine (H1.out _).mono ?_
  rintro e w1 ⟨rfl, rfl⟩
  go_wp2_with fail
  refine (H2.out _).mono ?_
  rintro e w1 ⟨rfl, rfl⟩
  go_wp2_with fail
  refine (HD.out _).mono ?_
  rintro e w1 ⟨rfl, rfl⟩
  go_wp2
  go_ret
  exact ⟨ret_u (by rw [HQ.out]), rfl⟩
set_option maxHeartbeats 1000000 in
theorem ar5s_64 (x y sx sy ux uy : Int) (F : Four x y 64 sx sy ux uy) (q d hx1 hy1 : Int) (hq : q = d) (hd : sizeI sx / sizeI sy = d) (h0 : sy ≠ 0) (e1 : sx / 9223372036854775808 = hx1) (e2 : sy / 9223372036854775808 = hy1) (hb : (hx1 != hy1) = false) (w : World) :
    Calls Tryd.prog 32 #[.int .i64 5, .int .u64 x, .int .u64 y, .int .i64 64] w fun e w' => e = .returned (.int .u64 (IntKind.u64.wrap (sx - IntKind.u64.wrap (q * sy)))) ∧ w = w' := by
  have CD := NumRef.divide_any (sizeI sx) (sizeI sy) (sizeI_bd sx F.sx) ⟨sizeI_ne sy F.sy h0, (sizeI_bd sy F.sy).2⟩
  rw [hd] at CD
  have HD := Lib.hid CD
  have C1 := size_is sx F.sx
  have C2 := size_is sy F.sy
  generalize sizeI sx = zx at *
  generalize sizeI sy = zy at *
  have H1 := Lib.hid C1
  have H2 := Lib.hid C2
  have HQ := Lib.hid hq
  clear CD hd C1 C2 h0 hq
  have hx := F.sx
  have hy := F.sy
  have hux := F.ux
  have huy := F.uy
  go_enter Tryd.func32, Tryd.ntmps32
  go_wp2_with fail
  refine (F.a _).mono ?_
  rintro e w1 ⟨rfl, rfl⟩
  go_wp2_with fail
  refine (F.b _).mono ?_
  rintro e w1 ⟨rfl, rfl⟩
  go_wp2_with fail
  refine (F.c _).mono ?_
  rintro e w1 ⟨rfl, rfl⟩
  go_wp2_with fail
  refine (F.d _).mono ?_
  rintro e w1 ⟨rfl, rfl⟩
  go_wp2_with fail
  refine (H1.out _).mono ?_
  rintro e w1 ⟨rfl, rfl⟩
  go_wp2_with fail
  refine (H2.out _).mono ?_
  rintro e w1 ⟨rfl, rfl⟩
  go_wp2_with fail
  refine (HD.out _).mono ?_
  rintro e w1 ⟨rfl, rfl⟩
  go_wp2
  go_ret
  exact ⟨ret_u (by rw [HQ.out]), rfl⟩
set_option maxHeartbeats 1000000 in
theorem ar5t_64 (x y sx sy ux uy : Int) (F : Four x y 64 sx sy ux uy) (q d hx1 hy1 : Int) (hq : q = IntKind.u64.wrap (-d)) (hd : sizeI sx / sizeI sy = d) (h0 : sy ≠ 0) (e1 : sx / 9223372036854775808 = hx1) (e2 : sy / 9223372036854775808 = hy1) (hb : (hx1 != hy1) = true) (w : World) :
    Calls Tryd.prog 32 #[.int .i64 5, .int .u64 x, .int .u64 y, .int .i64 64] w fun e w' => e = .returned (.int .u64 (IntKind.u64.wrap (sx - IntKind.u64.wrap (q * sy)))) ∧ w = w' := by
  have CD := NumRef.divide_any (sizeI sx) (sizeI sy) (sizeI_bd sx F.sx) ⟨sizeI_ne sy F.sy h0, (sizeI_bd sy F.sy).2⟩
  rw [hd] at CD
  have HD := Lib.hid CD
  have C1 := size_is sx F.sx
  have C2 := size_is sy F.sy
  generalize sizeI sx = zx at *
  generalize sizeI sy = zy at *
  have H1 := Lib.hid C1
  have H2 := Lib.hid C2
  have HQ := Lib.hid hq
  clear CD hd C1 C2 h0 hq
  have hx := F.sx
  have hy := F.sy
  have hux := F.ux
  have huy := F.uy
  go_enter Tryd.func32, Tryd.ntmps32
  go_wp2_with fail
  refine (F.a _).mono ?_
  rintro e w1 ⟨rfl, rfl⟩
  go_wp2_with fail
  refine (F.b _).mono ?_
  rintro e w1 ⟨rfl, rfl⟩
  go_wp2_with fail
  refine (F.c _).mono ?_
  rintro e w1 ⟨rfl, rfl⟩
  go_wp2_with fail
  refine (F.d _).mono ?_
  rintro e w1 ⟨rfl, rfl⟩
  go_wp2_with fail
  refine (H1.out _).mono ?_
  rintro e w1 ⟨rfl, rfl⟩
  go_wp2_with fail
  refine (H2.out _).mono ?_
  rintro e w1 ⟨rfl, rfl⟩
  go_wp2_with fail
  refine (HD.out _).mono ?_
  rintro e w1 ⟨rfl, rfl⟩
  go_wp2
  go_ret
  exact ⟨ret_u (by rw [HQ.out]), rfl⟩
end NumAr
end Go.Proofs.YthdklnkaeddogacDoor
