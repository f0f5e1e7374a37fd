/-
  NumRing: for every x, y, z the law returns true. No condition.
-/
import Derived.Test.YthdklnkaeddogacDoorAwake
namespace Go.Proofs.YthdklnkaeddogacDoor
open Go.RowKit NumM
theorem bin_acc {w0 w : World} (op x y : Int) (hx : U64 x) (hy : U64 y) (hg : Grown w0 w) :
    Calls Tryd.prog 15 #[.int .i64 op, .int .u64 x, .int .u64 y] w fun e w' => e = .returned (.int .u64 (bI op x y)) ∧ Grown w0 w' :=
  (bin_any op x y hx hy w).mono fun _ _ h => ⟨h.1, grown_trans hg h.2⟩
theorem awake_acc {w0 w : World} (hg : Grown w0 w) : Calls Tryd.prog 10 #[] w fun e w' => e = .returned (.bool true) ∧ Grown w0 w' :=
  (awake w).mono fun _ _ h => ⟨h.1, grown_trans hg h.2⟩
namespace NumM
theorem n1 (x y : Int) : (bI 106 x y != bI 106 y x) = false := ne_false (r1 view32 x y)
theorem n2 (x y : Int) : (bI 107 (bI 106 x y) y != bI 106 x 0) = false := ne_false (r2 view32 x y)
theorem n3 (x y z : Int) : (bI 108 x (bI 106 y z) != bI 106 (bI 108 x y) (bI 108 z x)) = false := ne_false (r3 view32 x y z)
theorem n4 (x y z : Int) : (bI 108 x (bI 108 y z) != bI 108 (bI 108 x y) z) = false := ne_false (r4 view32 x y z)
theorem n5 (x y : Int) : (bI 106 (bI 113 x y) (bI 114 x y) != bI 106 x y) = false := ne_false (r5 view32 x y)
theorem n6 (x y : Int) : (bI 107 (bI 114 x y) (bI 113 x y) != bI 115 x y) = false := ne_false (r6 view32 x y)
theorem n7 (x y : Int) : (bI 115 (bI 115 x y) y != bI 106 x 0) = false := ne_false (r7 view32 x y)
theorem n8 (x y : Int) : (bI 107 x y != bI 106 (bI 106 x (bI 115 y 18446744073709551615)) 1) = false := ne_false (r8 view32 x y (by decide))
theorem m1 (x y : Int) : (bI 124 x y != bI 124 y x) = false := ne_false (r1 view64 x y)
theorem m2 (x y : Int) : (bI 125 (bI 124 x y) y != bI 124 x 0) = false := ne_false (r2 view64 x y)
theorem m3 (x y z : Int) : (bI 126 x (bI 124 y z) != bI 124 (bI 126 x y) (bI 126 z x)) = false := ne_false (r3 view64 x y z)
theorem m4 (x y z : Int) : (bI 126 x (bI 126 y z) != bI 126 (bI 126 x y) z) = false := ne_false (r4 view64 x y z)
theorem m5 (x y : Int) : (bI 124 (bI 131 x y) (bI 132 x y) != bI 124 x y) = false := ne_false (r5 view64 x y)
theorem m6 (x y : Int) : (bI 125 (bI 132 x y) (bI 131 x y) != bI 133 x y) = false := ne_false (r6 view64 x y)
theorem m7 (x y : Int) : (bI 133 (bI 133 x y) y != bI 124 x 0) = false := ne_false (r7 view64 x y)
theorem m8 (x y : Int) : (bI 125 x y != bI 124 (bI 124 x (bI 133 y 18446744073709551615)) 1) = false := ne_false (r8 view64 x y (by decide))
theorem m9 (x : Int) : (bI 126 x 3 == IntKind.u64.wrap (IntKind.u64.wrap (x + x) + x)) = true := by rw [r9]; simp
theorem m10 (x : Int) : (bI 108 x 2 == bI 116 x 1) = true := by rw [r10]; simp
end NumM
set_option maxRecDepth 100000 in
set_option maxHeartbeats 2000000 in
theorem ring_walk (x y z : Int) (hx : U64 x) (hy : U64 y) (hz : U64 z) (w : World) :
    Calls Tryd.prog 9 #[.int .u64 x, .int .u64 y, .int .u64 z] w fun e w' => e = .returned (.bool true) ∧ Grown w w' := by
  go_enter Tryd.func9, Tryd.ntmps9
  go_wp2_with fail
  refine (awake_acc (Grown.refl w)).mono ?_
  rintro e w1 ⟨rfl, hg1⟩
  go_wp2_with fail
  go_loopw [7] (fun i wr => ∃ k : Int, 0 ≤ k ∧ k ≤ 2 ∧ i = .int .i64 k ∧ Grown w wr) (fun i _ => 2 - (intOf i).toNat)
  case atStart => exact ⟨0, by omega, by omega, rfl, hg1⟩
  case round =>
    obtain ⟨k, hk0, hk, rfl, hgk⟩ := hrel
    clear hg1
    obtain rfl | rfl | rfl : k = 0 ∨ k = 1 ∨ k = 2 := by omega
    · clear hk0 hk
      have t1 := n1 x y
      have t2 := n2 x y
      have t3 := n3 x y z
      have t4 := n4 x y z
      have t5 := n5 x y
      have t6 := n6 x y
      have t7 := n7 x y
      have t8 := n8 x y
      go_wp2_with (go_at_call 15; refine (bin_acc _ _ _ (by first | assumption | exact U64_bI _ _ _ | exact ⟨by decide, by decide⟩) (by first | assumption | exact U64_bI _ _ _ | exact ⟨by decide, by decide⟩) (by assumption)).mono ?_; rintro e w' ⟨rfl, hg⟩)
      exact ⟨⟨1, by omega, by omega, rfl, by assumption⟩, by simp [intOf]⟩
    · clear hk0 hk
      have t1 := m1 x y
      have t2 := m2 x y
      have t3 := m3 x y z
      have t4 := m4 x y z
      have t5 := m5 x y
      have t6 := m6 x y
      have t7 := m7 x y
      have t8 := m8 x y
      go_wp2_with (go_at_call 15; refine (bin_acc _ _ _ (by first | assumption | exact U64_bI _ _ _ | exact ⟨by decide, by decide⟩) (by first | assumption | exact U64_bI _ _ _ | exact ⟨by decide, by decide⟩) (by assumption)).mono ?_; rintro e w' ⟨rfl, hg⟩)
      exact ⟨⟨2, by omega, by omega, rfl, by assumption⟩, by simp [intOf]⟩
    · clear hk0 hk
      have t1 := m9 x
      have t2 := m10 x
      go_wp2_with (go_at_call 15; refine (bin_acc _ _ _ (by first | assumption | exact U64_bI _ _ _ | exact ⟨by decide, by decide⟩) (by first | assumption | exact U64_bI _ _ _ | exact ⟨by decide, by decide⟩) (by assumption)).mono ?_; rintro e w' ⟨rfl, hg⟩)
      go_ret
      exact ⟨rfl, by assumption⟩
end Go.Proofs.YthdklnkaeddogacDoor
