/-
  NumOrders: for every x, y the law returns true. No condition.
-/
import Derived.Test.YthdklnkaeddogacDoorOrdM
namespace Go.Proofs.YthdklnkaeddogacDoor
open Go.RowKit NumM
theorem bin_acc {w0 w : World} (op x y : Int) (hx : U64 x) (hy : U64 y) (hg : Grown w0 w) :
    Calls Tryd.prog 15 #[.int .i64 op, .int .u64 x, .int .u64 y] w fun e w' => e = .returned (.int .u64 (bI op x y)) ∧ Grown w0 w' :=
  (bin_any op x y hx hy w).mono fun _ _ h => ⟨h.1, grown_trans hg h.2⟩
theorem awake_acc {w0 w : World} (hg : Grown w0 w) : Calls Tryd.prog 10 #[] w fun e w' => e = .returned (.bool true) ∧ Grown w0 w' :=
  (awake w).mono fun _ _ h => ⟨h.1, grown_trans hg h.2⟩
set_option maxHeartbeats 400000 in
theorem arity_69 (w : World) : Calls Tryd.prog 11 #[.int .i64 69] w fun e w' => e = .returned (.int .i64 1) ∧ w = w' := by
  go_enter Tryd.func11, Tryd.ntmps11
  go_wp2
  go_ret
  exact ⟨rfl, rfl⟩
set_option maxHeartbeats 400000 in
theorem arity_80 (w : World) : Calls Tryd.prog 11 #[.int .i64 80] w fun e w' => e = .returned (.int .i64 1) ∧ w = w' := by
  go_enter Tryd.func11, Tryd.ntmps11
  go_wp2
  go_ret
  exact ⟨rfl, rfl⟩
set_option maxHeartbeats 400000 in
theorem one_69 (x y : Int) (w : World) : Calls Tryd.prog 26 #[.int .i64 69, .int .u64 x, .int .u32 y] w fun e w' => e = .returned (.int .u64 (tI (y == 0))) ∧ w = w' := by
  go_enter Tryd.func26, Tryd.ntmps26
  go_wp2_with (go_at_call 33; refine (truth_any _ _).mono ?_; rintro e w' ⟨rfl, rfl⟩)
  go_ret
  exact ⟨rfl, rfl⟩
set_option maxHeartbeats 400000 in
theorem one_80 (x y : Int) (w : World) : Calls Tryd.prog 26 #[.int .i64 80, .int .u64 x, .int .u32 y] w fun e w' => e = .returned (.int .u64 (tI (x == 0))) ∧ w = w' := by
  go_enter Tryd.func26, Tryd.ntmps26
  go_wp2_with (go_at_call 33; refine (truth_any _ _).mono ?_; rintro e w' ⟨rfl, rfl⟩)
  go_ret
  exact ⟨rfl, rfl⟩
set_option maxHeartbeats 400000 in
theorem un_69 (x : Int) (w : World) : Calls Tryd.prog 16 #[.int .i64 69, .int .u64 x] w fun e w' => e = .returned (.int .u64 (tI (x % 4294967296 == 0))) ∧ w = w' := by
  go_enter Tryd.func16, Tryd.ntmps16
  go_wp2_with (first | (go_at_call 18; go_in) | (go_at_call 11; refine (arity_69 _).mono ?_; rintro e w' ⟨rfl, rfl⟩) | (go_at_call 26; refine (one_69 _ _ _).mono ?_; rintro e w' ⟨rfl, rfl⟩))
  go_ret
  exact ⟨rfl, rfl⟩
set_option maxHeartbeats 400000 in
theorem un_80 (x : Int) (w : World) : Calls Tryd.prog 16 #[.int .i64 80, .int .u64 x] w fun e w' => e = .returned (.int .u64 (tI (x == 0))) ∧ w = w' := by
  go_enter Tryd.func16, Tryd.ntmps16
  go_wp2_with (first | (go_at_call 18; go_in) | (go_at_call 11; refine (arity_80 _).mono ?_; rintro e w' ⟨rfl, rfl⟩) | (go_at_call 26; refine (one_80 _ _ _).mono ?_; rintro e w' ⟨rfl, rfl⟩))
  go_ret
  exact ⟨rfl, rfl⟩
set_option maxRecDepth 100000 in
set_option maxHeartbeats 4000000 in
theorem orders_walk (x y : Int) (hx : U64 x) (hy : U64 y) (w : World) :
    Calls Tryd.prog 5 #[.int .u64 x, .int .u64 y] w fun e w' => e = .returned (.bool true) ∧ Grown w w' := by
  go_enter Tryd.func5, Tryd.ntmps5
  go_wp2_with fail
  refine (awake_acc (Grown.refl w)).mono ?_
  rintro e w1 ⟨rfl, hg1⟩
  go_wp2_with fail
  go_loopw [5] (fun i wr => ∃ k : Int, 0 ≤ k ∧ k ≤ 2 ∧ i = .int .i64 k ∧ Grown w wr) (fun i _ => 2 - (intOf i).toNat)
  case atStart => exact ⟨0, by omega, by omega, rfl, hg1⟩
  case round =>
    obtain ⟨k, hk0, hk, rfl, hgk⟩ := hrel
    clear hg1
    obtain rfl | rfl | rfl : k = 0 ∨ k = 1 ∨ k = 2 := by omega
    · clear hk0 hk
      have t1 := p1 x y
      go_wp2_with (go_at_call 15; refine (bin_acc _ _ _ (by first | assumption | exact U64_bI _ _ _ | exact U64_xor _ _ | exact ⟨by decide, by decide⟩) (by first | assumption | exact U64_bI _ _ _ | exact U64_xor _ _ | exact ⟨by decide, by decide⟩) (by assumption)).mono ?_; rintro e w' ⟨rfl, hg⟩)
      clear t1
      obtain ⟨wo, hgo, hwo⟩ : ∃ wo : World, Grown w wo ∧ wo = w' := ⟨_, by assumption, rfl⟩
      subst hwo
      clear hg hgk
      go_loopw [9] (fun i wr => ∃ k : Int, 0 ≤ k ∧ k ≤ 2 ∧ i = .int .i64 k ∧ Grown w wr) (fun i _ => 2 - (intOf i).toNat)
      case atStart => exact ⟨0, by omega, by omega, rfl, hgo⟩
      case round =>
        obtain ⟨k, hk0, hk, rfl, hgk⟩ := hrel
        clear hgo
        obtain rfl | rfl | rfl : k = 0 ∨ k = 1 ∨ k = 2 := by omega
        · clear hk0 hk
          have t2 := p2 x y
          have t4 := p4 x y
          have t6 := p6 x y
          have t8 := p8 x y
          go_wp2_with (first | (go_at_call 15; refine (bin_acc _ _ _ (by first | assumption | exact U64_bI _ _ _ | exact U64_xor _ _ | exact ⟨by decide, by decide⟩) (by first | assumption | exact U64_bI _ _ _ | exact U64_xor _ _ | exact ⟨by decide, by decide⟩) (by assumption)).mono ?_; rintro e w' ⟨rfl, hg⟩) | (go_at_call 16; refine (un_69 _ _).mono ?_; rintro e w' ⟨rfl, rfl⟩))
          exact ⟨⟨1, by omega, by omega, rfl, by assumption⟩, by simp [intOf]⟩
        · clear hk0 hk
          have t3 := p3 x y
          have t5 := p5 x y
          have t7 := p7 x y
          have t9 := p9 x y
          go_wp2_with (first | (go_at_call 15; refine (bin_acc _ _ _ (by first | assumption | exact U64_bI _ _ _ | exact U64_xor _ _ | exact ⟨by decide, by decide⟩) (by first | assumption | exact U64_bI _ _ _ | exact U64_xor _ _ | exact ⟨by decide, by decide⟩) (by assumption)).mono ?_; rintro e w' ⟨rfl, hg⟩) | (go_at_call 16; refine (un_69 _ _).mono ?_; rintro e w' ⟨rfl, rfl⟩))
          exact ⟨⟨2, by omega, by omega, rfl, by assumption⟩, by simp [intOf]⟩
        · clear hk0 hk
          have t10 := p10 x y
          have t11 := p11 x
          have t12 := p12 x y
          go_wp2_with (first | (go_at_call 15; refine (bin_acc _ _ _ (by first | assumption | exact U64_bI _ _ _ | exact U64_xor _ _ | exact ⟨by decide, by decide⟩) (by first | assumption | exact U64_bI _ _ _ | exact U64_xor _ _ | exact ⟨by decide, by decide⟩) (by assumption)).mono ?_; rintro e w' ⟨rfl, hg⟩) | (go_at_call 16; refine (un_69 _ _).mono ?_; rintro e w' ⟨rfl, rfl⟩))
          exact ⟨⟨1, by omega, by omega, rfl, by assumption⟩, by simp [intOf]⟩
    · clear hk0 hk
      have t1 := q1 x y
      go_wp2_with (first | (go_at_call 15; refine (bin_acc _ _ _ (by first | assumption | exact U64_bI _ _ _ | exact U64_xor _ _ | exact ⟨by decide, by decide⟩) (by first | assumption | exact U64_bI _ _ _ | exact U64_xor _ _ | exact ⟨by decide, by decide⟩) (by assumption)).mono ?_; rintro e w' ⟨rfl, hg⟩) | (go_at_call 16; refine (un_80 _ _).mono ?_; rintro e w' ⟨rfl, rfl⟩))
      clear t1
      obtain ⟨wo, hgo, hwo⟩ : ∃ wo : World, Grown w wo ∧ wo = w' := ⟨_, by assumption, rfl⟩
      subst hwo
      clear hg hgk
      go_loopw [9] (fun i wr => ∃ k : Int, 0 ≤ k ∧ k ≤ 2 ∧ i = .int .i64 k ∧ Grown w wr) (fun i _ => 2 - (intOf i).toNat)
      case atStart => exact ⟨0, by omega, by omega, rfl, hgo⟩
      case round =>
        obtain ⟨k, hk0, hk, rfl, hgk⟩ := hrel
        clear hgo
        obtain rfl | rfl | rfl : k = 0 ∨ k = 1 ∨ k = 2 := by omega
        · clear hk0 hk
          have t2 := q2 x y
          have t4 := q4 x y
          have t6 := q6 x y
          have t8 := q8 x y
          go_wp2_with (first | (go_at_call 15; refine (bin_acc _ _ _ (by first | assumption | exact U64_bI _ _ _ | exact U64_xor _ _ | exact ⟨by decide, by decide⟩) (by first | assumption | exact U64_bI _ _ _ | exact U64_xor _ _ | exact ⟨by decide, by decide⟩) (by assumption)).mono ?_; rintro e w' ⟨rfl, hg⟩) | (go_at_call 16; refine (un_80 _ _).mono ?_; rintro e w' ⟨rfl, rfl⟩))
          exact ⟨⟨1, by omega, by omega, rfl, by assumption⟩, by simp [intOf]⟩
        · clear hk0 hk
          have t3 := q3 x y
          have t5 := q5 x y
          have t7 := q7 x y
          have t9 := q9 x y
          go_wp2_with (first | (go_at_call 15; refine (bin_acc _ _ _ (by first | assumption | exact U64_bI _ _ _ | exact U64_xor _ _ | exact ⟨by decide, by decide⟩) (by first | assumption | exact U64_bI _ _ _ | exact U64_xor _ _ | exact ⟨by decide, by decide⟩) (by assumption)).mono ?_; rintro e w' ⟨rfl, hg⟩) | (go_at_call 16; refine (un_80 _ _).mono ?_; rintro e w' ⟨rfl, rfl⟩))
          exact ⟨⟨2, by omega, by omega, rfl, by assumption⟩, by simp [intOf]⟩
        · clear hk0 hk
          have t10 := q10 x y
          have t11 := q11 x
          have t12 := q12 x y
          go_wp2_with (first | (go_at_call 15; refine (bin_acc _ _ _ (by first | assumption | exact U64_bI _ _ _ | exact U64_xor _ _ | exact ⟨by decide, by decide⟩) (by first | assumption | exact U64_bI _ _ _ | exact U64_xor _ _ | exact ⟨by decide, by decide⟩) (by assumption)).mono ?_; rintro e w' ⟨rfl, hg⟩) | (go_at_call 16; refine (un_80 _ _).mono ?_; rintro e w' ⟨rfl, rfl⟩))
          exact ⟨⟨2, by omega, by omega, rfl, by assumption⟩, by simp [intOf]⟩
    · clear hk0 hk
      go_wp2
      go_ret
      exact ⟨rfl, by assumption⟩
end Go.Proofs.YthdklnkaeddogacDoor
