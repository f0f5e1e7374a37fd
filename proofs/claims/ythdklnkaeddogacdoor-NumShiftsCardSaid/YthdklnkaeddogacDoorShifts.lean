/-
  NumShifts: for every x, n the law returns true. No condition.
-/
import Derived.Test.YthdklnkaeddogacDoorShM
namespace Go.Proofs.YthdklnkaeddogacDoor
open Go.RowKit NumM
namespace Sh
theorem bin_acc {w0 w : World} (op x y : Int) (hx : U64 x) (hy : U64 y) (hg : Grown w0 w) :
    Calls Tryd.prog 15 #[.int .i64 op, .int .u64 x, .int .u64 y] w fun e w' => e = .returned (.int .u64 (bI op x y)) ∧ Grown w0 w' :=
  (bin_any op x y hx hy w).mono fun _ _ h => ⟨h.1, grown_trans hg h.2⟩
theorem awake_acc {w0 w : World} (hg : Grown w0 w) : Calls Tryd.prog 10 #[] w fun e w' => e = .returned (.bool true) ∧ Grown w0 w' :=
  (awake w).mono fun _ _ h => ⟨h.1, grown_trans hg h.2⟩
theorem U64_mod32 (n : Int) (_h : U64 n) : U64 (n % 32) := ⟨by omega, by omega⟩
theorem U64_mod64 (n : Int) (_h : U64 n) : U64 (n % 64) := ⟨by omega, by omega⟩
theorem U64_less32 (n : Int) : U64 (32 - n % 32) := ⟨by omega, by omega⟩
theorem U64_less64 (n : Int) : U64 (64 - n % 64) := ⟨by omega, by omega⟩
set_option maxRecDepth 100000 in
set_option maxHeartbeats 8000000 in
theorem shifts_walk (x n : Int) (hx : U64 x) (hn : U64 n) (w : World) :
    Calls Tryd.prog 6 #[.int .u64 x, .int .u64 n] w fun e w' => e = .returned (.bool true) ∧ Grown w w' := by
  have HN := Lib.hid hn
  have h0 : 0 ≤ n := hn.1
  go_enter Tryd.func6, Tryd.ntmps6
  go_wp2_with fail
  refine (awake_acc (Grown.refl w)).mono ?_
  rintro e w1 ⟨rfl, hg1⟩
  go_wp2_with fail
  go_loopw [5] (fun i wr => ∃ k : Int, 0 ≤ k ∧ k ≤ 2 ∧ i = .int .i64 k ∧ Grown w wr) (fun i _ => 2 - (intOf i).toNat)
  case atStart => exact ⟨0, by omega, by omega, rfl, hg1⟩
  case round =>
    obtain ⟨k, hk0, hk, rfl, hgk⟩ := hrel
    clear hg1
    obtain rfl | rfl | rfl : k = 0 ∨ k = 1 ∨ k = 2 := by omega
    · clear hk0 hk
      have t1 := a1 x n
      have t2 := a2 x n
      have t3 := a3 x
      have t4 := a4 x
      have t5 := a5 x n
      have t6 := a6 x n
      have t9 := a9 x n
      have t10 := a10 x n
      by_cases hz : n % 32 = 0
      · have t7 := a7z x n hz
        have t8 := a8f x n (Or.inl hz)
        have z1 : (n % 32 == 0) = true := beq_iff_eq.2 hz
        have z2 : n % 32 ≤ 0 := by omega
        clear hz
        by_cases hs : bI 118 x 31 = 1
        · have s1 : (bI 118 x 31 == 1) = true := beq_iff_eq.2 hs
          clear hs
          go_wp2_with (first | (go_at_call 15; refine (bin_acc _ _ _ (by first | assumption | exact U64_bI _ _ _ | exact U64_mod32 _ HN.out | exact U64_less32 _ | exact U64_mod64 _ HN.out | exact U64_less64 _ | exact U64_wrap _ | exact ⟨by decide, by decide⟩) (by first | assumption | exact U64_bI _ _ _ | exact U64_mod32 _ HN.out | exact U64_less32 _ | exact U64_mod64 _ HN.out | exact U64_less64 _ | exact U64_wrap _ | exact ⟨by decide, by decide⟩) (by assumption)).mono ?_; rintro e w' ⟨rfl, hg⟩) | (go_at_call 17; go_in))
          exact ⟨⟨1, by omega, by omega, rfl, by assumption⟩, by simp [intOf]⟩
        · have s1 : (bI 118 x 31 == 1) = false := beq_eq_false_iff_ne.2 hs
          clear hs
          go_wp2_with (first | (go_at_call 15; refine (bin_acc _ _ _ (by first | assumption | exact U64_bI _ _ _ | exact U64_mod32 _ HN.out | exact U64_less32 _ | exact U64_mod64 _ HN.out | exact U64_less64 _ | exact U64_wrap _ | exact ⟨by decide, by decide⟩) (by first | assumption | exact U64_bI _ _ _ | exact U64_mod32 _ HN.out | exact U64_less32 _ | exact U64_mod64 _ HN.out | exact U64_less64 _ | exact U64_wrap _ | exact ⟨by decide, by decide⟩) (by assumption)).mono ?_; rintro e w' ⟨rfl, hg⟩) | (go_at_call 17; go_in))
          exact ⟨⟨1, by omega, by omega, rfl, by assumption⟩, by simp [intOf]⟩
      · have z2 : 0 < n % 32 := by omega
        have t7 := a7p x n z2
        have z1 : (n % 32 == 0) = false := beq_eq_false_iff_ne.2 hz
        clear hz
        by_cases hs : bI 118 x 31 = 1
        · have s1 : (bI 118 x 31 == 1) = true := beq_iff_eq.2 hs
          have t8 := a8t x n z2 hs
          clear hs
          go_wp2_with (first | (go_at_call 15; refine (bin_acc _ _ _ (by first | assumption | exact U64_bI _ _ _ | exact U64_mod32 _ HN.out | exact U64_less32 _ | exact U64_mod64 _ HN.out | exact U64_less64 _ | exact U64_wrap _ | exact ⟨by decide, by decide⟩) (by first | assumption | exact U64_bI _ _ _ | exact U64_mod32 _ HN.out | exact U64_less32 _ | exact U64_mod64 _ HN.out | exact U64_less64 _ | exact U64_wrap _ | exact ⟨by decide, by decide⟩) (by assumption)).mono ?_; rintro e w' ⟨rfl, hg⟩) | (go_at_call 17; go_in))
          exact ⟨⟨1, by omega, by omega, rfl, by assumption⟩, by simp [intOf]⟩
        · have s1 : (bI 118 x 31 == 1) = false := beq_eq_false_iff_ne.2 hs
          have t8 := a8f x n (Or.inr hs)
          clear hs
          go_wp2_with (first | (go_at_call 15; refine (bin_acc _ _ _ (by first | assumption | exact U64_bI _ _ _ | exact U64_mod32 _ HN.out | exact U64_less32 _ | exact U64_mod64 _ HN.out | exact U64_less64 _ | exact U64_wrap _ | exact ⟨by decide, by decide⟩) (by first | assumption | exact U64_bI _ _ _ | exact U64_mod32 _ HN.out | exact U64_less32 _ | exact U64_mod64 _ HN.out | exact U64_less64 _ | exact U64_wrap _ | exact ⟨by decide, by decide⟩) (by assumption)).mono ?_; rintro e w' ⟨rfl, hg⟩) | (go_at_call 17; go_in))
          exact ⟨⟨1, by omega, by omega, rfl, by assumption⟩, by simp [intOf]⟩
    · clear hk0 hk
      have t1 := b1 x n
      have t2 := b2 x n
      have t3 := b3 x
      have t4 := b4 x
      have t5 := b5 x n
      have t6 := b6 x n
      have t9 := b9 x n
      have t10 := b10 x n
      by_cases hz : n % 64 = 0
      · have t7 := b7z x n hz
        have t8 := b8f x n (Or.inl hz)
        have z1 : (n % 64 == 0) = true := beq_iff_eq.2 hz
        have z2 : n % 64 ≤ 0 := by omega
        clear hz
        by_cases hs : bI 136 x 63 = 1
        · have s1 : (bI 136 x 63 == 1) = true := beq_iff_eq.2 hs
          clear hs
          go_wp2_with (first | (go_at_call 15; refine (bin_acc _ _ _ (by first | assumption | exact U64_bI _ _ _ | exact U64_mod32 _ HN.out | exact U64_less32 _ | exact U64_mod64 _ HN.out | exact U64_less64 _ | exact U64_wrap _ | exact ⟨by decide, by decide⟩) (by first | assumption | exact U64_bI _ _ _ | exact U64_mod32 _ HN.out | exact U64_less32 _ | exact U64_mod64 _ HN.out | exact U64_less64 _ | exact U64_wrap _ | exact ⟨by decide, by decide⟩) (by assumption)).mono ?_; rintro e w' ⟨rfl, hg⟩) | (go_at_call 17; go_in))
          exact ⟨⟨2, by omega, by omega, rfl, by assumption⟩, by simp [intOf]⟩
        · have s1 : (bI 136 x 63 == 1) = false := beq_eq_false_iff_ne.2 hs
          clear hs
          go_wp2_with (first | (go_at_call 15; refine (bin_acc _ _ _ (by first | assumption | exact U64_bI _ _ _ | exact U64_mod32 _ HN.out | exact U64_less32 _ | exact U64_mod64 _ HN.out | exact U64_less64 _ | exact U64_wrap _ | exact ⟨by decide, by decide⟩) (by first | assumption | exact U64_bI _ _ _ | exact U64_mod32 _ HN.out | exact U64_less32 _ | exact U64_mod64 _ HN.out | exact U64_less64 _ | exact U64_wrap _ | exact ⟨by decide, by decide⟩) (by assumption)).mono ?_; rintro e w' ⟨rfl, hg⟩) | (go_at_call 17; go_in))
          exact ⟨⟨2, by omega, by omega, rfl, by assumption⟩, by simp [intOf]⟩
      · have z2 : 0 < n % 64 := by omega
        have t7 := b7p x n z2
        have z1 : (n % 64 == 0) = false := beq_eq_false_iff_ne.2 hz
        clear hz
        by_cases hs : bI 136 x 63 = 1
        · have s1 : (bI 136 x 63 == 1) = true := beq_iff_eq.2 hs
          have t8 := b8t x n z2 hs
          clear hs
          go_wp2_with (first | (go_at_call 15; refine (bin_acc _ _ _ (by first | assumption | exact U64_bI _ _ _ | exact U64_mod32 _ HN.out | exact U64_less32 _ | exact U64_mod64 _ HN.out | exact U64_less64 _ | exact U64_wrap _ | exact ⟨by decide, by decide⟩) (by first | assumption | exact U64_bI _ _ _ | exact U64_mod32 _ HN.out | exact U64_less32 _ | exact U64_mod64 _ HN.out | exact U64_less64 _ | exact U64_wrap _ | exact ⟨by decide, by decide⟩) (by assumption)).mono ?_; rintro e w' ⟨rfl, hg⟩) | (go_at_call 17; go_in))
          exact ⟨⟨2, by omega, by omega, rfl, by assumption⟩, by simp [intOf]⟩
        · have s1 : (bI 136 x 63 == 1) = false := beq_eq_false_iff_ne.2 hs
          have t8 := b8f x n (Or.inr hs)
          clear hs
          go_wp2_with (first | (go_at_call 15; refine (bin_acc _ _ _ (by first | assumption | exact U64_bI _ _ _ | exact U64_mod32 _ HN.out | exact U64_less32 _ | exact U64_mod64 _ HN.out | exact U64_less64 _ | exact U64_wrap _ | exact ⟨by decide, by decide⟩) (by first | assumption | exact U64_bI _ _ _ | exact U64_mod32 _ HN.out | exact U64_less32 _ | exact U64_mod64 _ HN.out | exact U64_less64 _ | exact U64_wrap _ | exact ⟨by decide, by decide⟩) (by assumption)).mono ?_; rintro e w' ⟨rfl, hg⟩) | (go_at_call 17; go_in))
          exact ⟨⟨2, by omega, by omega, rfl, by assumption⟩, by simp [intOf]⟩
    · clear hk0 hk
      go_wp2
      go_ret
      exact ⟨rfl, by assumption⟩
end Sh
end Go.Proofs.YthdklnkaeddogacDoor
