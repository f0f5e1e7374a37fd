/-
  The reference's less, fill and order of layer 3. (For NumAll.)
-/
import Derived.Test.YthdklnkaeddogacDoorNumRef
import Derived.Test.YthdklnkaeddogacDoorOrdM
namespace Go.Proofs.YthdklnkaeddogacDoor
open Go.RowKit NumRM NumRef NumM
theorem xor_top_int (x : Int) (hx : 0 ≤ x ∧ x < 18446744073709551616) : bits .xor .u64 x 9223372036854775808 = (x + 9223372036854775808) % 18446744073709551616 := by
  obtain ⟨X, rfl, hX⟩ := of_U64 hx
  show IntKind.u64.wrap ((BitVec.ofInt 64 (X.toNat : Int) ^^^ BitVec.ofInt 64 9223372036854775808).toNat : Int) = _
  rw [hX]
  have h := xor_top (n := 64) (by decide) X
  rw [show BitVec.ofNat 64 (2 ^ (64 - 1)) = BitVec.ofInt 64 9223372036854775808 by decide, show (2 : Nat) ^ (64 - 1) = 9223372036854775808 from rfl, show (2 : Nat) ^ 64 = 18446744073709551616 from rfl] at h
  rw [h, IntKind.wrap_u64]; omega
theorem ret_b {a b : Bool} (h : a = b) : Ending.returned (.bool a) = .returned (.bool b) := by rw [h]
theorem less_any (x y : Int) (hx : 0 ≤ x ∧ x < 18446744073709551616) (hy : 0 ≤ y ∧ y < 18446744073709551616) (w : World) :
    Calls Tryd.prog 42 #[.int .u64 x, .int .u64 y] w fun e w' => e = .returned (.bool (decide (wrap64 x < wrap64 y))) ∧ w = w' := by
  have h : decide (bits .xor .u64 x 9223372036854775808 < bits .xor .u64 y 9223372036854775808) = decide (wrap64 x < wrap64 y) := by
    rw [xor_top_int x hx, xor_top_int y hy]
    unfold wrap64
    rw [Bool.eq_iff_iff, decide_eq_true_iff, decide_eq_true_iff]; omega
  have H := Lib.hid h
  clear h hx hy
  generalize decide (wrap64 x < wrap64 y) = b at *
  go_enter Tryd.func42, Tryd.ntmps42
  go_wp2
  go_ret
  exact ⟨ret_b H.out, rfl⟩
def fillI (s n : Int) : Int := if s = 0 ∨ n = 0 then 0 else 18446744073709551616 - 2 ^ (64 - n).toNat
theorem fill_any (s n : Int) (hs : s = 0 ∨ s = 1) (hn : 0 ≤ n ∧ n < 64) (w : World) :
    Calls Tryd.prog 45 #[.int .u64 s, .int .u64 n] w fun e w' => e = .returned (.int .u64 (fillI s n)) ∧ w = w' := by
  rcases hs with rfl | rfl
  · go_enter Tryd.func45, Tryd.ntmps45
    go_wp2
    go_ret
    exact ⟨rfl, rfl⟩
  · by_cases h : n = 0
    · subst h
      go_enter Tryd.func45, Tryd.ntmps45
      go_wp2
      go_ret
      exact ⟨rfl, rfl⟩
    · have hb : (n == 0) = false := beq_eq_false_iff_ne.2 h
      have e : fillI 1 n = 18446744073709551616 - 2 ^ (64 - n).toNat := if_neg (by omega)
      obtain ⟨m, hm⟩ : ∃ m : Nat, (64 - n).toNat = m := ⟨_, rfl⟩
      have hm1 : m ≤ 63 := by omega
      have hp : (2 : Int) ^ m ≤ 2 ^ 63 := by
        have h := Nat.pow_le_pow_right (show 0 < 2 by decide) hm1
        exact_mod_cast h
      rw [show (2 : Int) ^ 63 = 9223372036854775808 from rfl] at hp
      have hp0 : (0 : Int) < 2 ^ m := Int.pow_pos (by decide)
      rw [e]
      have hfin : IntKind.u64.wrap (18446744073709551615 - IntKind.u64.wrap (IntKind.u64.wrap (2 ^ (64 - n).toNat) - 1)) = 18446744073709551616 - 2 ^ (64 - n).toNat := by
        rw [hm, IntKind.wrap_u64, IntKind.wrap_u64, IntKind.wrap_u64]
        generalize (2 : Int) ^ m = p at *
        omega
      have HF := Lib.hid hfin
      clear h hfin hp hp0 e hm hm1
      go_enter Tryd.func45, Tryd.ntmps45
      go_wp2
      go_ret
      exact ⟨ret_u HF.out, rfl⟩
/-- the ten comparisons, by what less tells (b: x below y, c: y below x) -/
def ordB (k : Int) (b c : Bool) : Bool :=
  if k = 0 then !b && !c else if k = 1 then b || c else if k = 2 ∨ k = 3 then b else if k = 4 ∨ k = 5 then c else if k = 6 ∨ k = 7 then !c else !b
set_option maxHeartbeats 2000000 in
theorem order_s (k x y : Int) (hk : k = 0 ∨ k = 1 ∨ k = 2 ∨ k = 4 ∨ k = 6 ∨ k = 8) (hx : 0 ≤ x ∧ x < 18446744073709551616) (hy : 0 ≤ y ∧ y < 18446744073709551616) (w : World) :
    Calls Tryd.prog 31 #[.int .i64 k, .int .u64 x, .int .u64 y] w fun e w' => e = .returned (.int .u64 (if ordB k (decide (wrap64 x < wrap64 y)) (decide (wrap64 y < wrap64 x)) then 1 else 0)) ∧ w = w' := by
  have C1 := less_any x y hx hy
  have C2 := less_any y x hy hx
  clear hx hy
  generalize decide (wrap64 x < wrap64 y) = b at *
  generalize decide (wrap64 y < wrap64 x) = c at *
  have H1 := Lib.hid C1
  have H2 := Lib.hid C2
  clear C1 C2
  rcases hk with rfl | rfl | rfl | rfl | rfl | rfl
  all_goals
    cases b
    all_goals
      cases c
      all_goals
        go_enter Tryd.func31, Tryd.ntmps31
        go_wp2_with fail
        refine (H1.out _).mono ?_
        rintro e w1 ⟨rfl, rfl⟩
        go_wp2_with fail
        refine (H2.out _).mono ?_
        rintro e w1 ⟨rfl, rfl⟩
        go_wp2_with ((go_at_call 27); refine (yes_any _ _).mono ?_; rintro e w1 ⟨rfl, rfl⟩)
        go_ret
        exact ⟨rfl, rfl⟩
set_option maxHeartbeats 2000000 in
theorem order_u (k x y : Int) (hk : k = 3 ∨ k = 5 ∨ k = 7 ∨ k = 9) (hx : 0 ≤ x ∧ x < 18446744073709551616) (hy : 0 ≤ y ∧ y < 18446744073709551616) (w : World) :
    Calls Tryd.prog 31 #[.int .i64 k, .int .u64 x, .int .u64 y] w fun e w' => e = .returned (.int .u64 (if ordB k (decide (x < y)) (decide (y < x)) then 1 else 0)) ∧ w = w' := by
  have C1 := less_any x y hx hy
  have C2 := less_any y x hy hx
  clear hx hy
  generalize decide (wrap64 x < wrap64 y) = b at *
  generalize decide (wrap64 y < wrap64 x) = c at *
  have H1 := Lib.hid C1
  have H2 := Lib.hid C2
  clear C1 C2
  have HL := Lib.hid (Int.lt_asymm : x < y → ¬ y < x)
  by_cases h1 : x < y
  · have h2 : ¬ y < x := HL.out h1
    rw [decide_eq_true h1, decide_eq_false h2]
    have g1 : decide (y < x) = false := decide_eq_false h2
    clear h2
    rcases hk with rfl | rfl | rfl | rfl
    all_goals
      go_enter Tryd.func31, Tryd.ntmps31
      go_wp2_with fail
      refine (H1.out _).mono ?_
      rintro e w1 ⟨rfl, rfl⟩
      go_wp2_with fail
      refine (H2.out _).mono ?_
      rintro e w1 ⟨rfl, rfl⟩
      go_wp2_with ((go_at_call 27); refine (yes_any _ _).mono ?_; rintro e w1 ⟨rfl, rfl⟩)
      go_ret
      exact ⟨rfl, rfl⟩
  · have g0 : decide (x < y) = false := decide_eq_false h1
    rw [g0]
    clear h1
    by_cases h2 : y < x
    · rw [decide_eq_true h2]
      rcases hk with rfl | rfl | rfl | rfl
      all_goals
        go_enter Tryd.func31, Tryd.ntmps31
        go_wp2_with fail
        refine (H1.out _).mono ?_
        rintro e w1 ⟨rfl, rfl⟩
        go_wp2_with fail
        refine (H2.out _).mono ?_
        rintro e w1 ⟨rfl, rfl⟩
        go_wp2_with ((go_at_call 27); refine (yes_any _ _).mono ?_; rintro e w1 ⟨rfl, rfl⟩)
        go_ret
        exact ⟨rfl, rfl⟩
    · have g1 : decide (y < x) = false := decide_eq_false h2
      rw [g1]
      clear h2
      rcases hk with rfl | rfl | rfl | rfl
      all_goals
        go_enter Tryd.func31, Tryd.ntmps31
        go_wp2_with fail
        refine (H1.out _).mono ?_
        rintro e w1 ⟨rfl, rfl⟩
        go_wp2_with fail
        refine (H2.out _).mono ?_
        rintro e w1 ⟨rfl, rfl⟩
        go_wp2_with ((go_at_call 27); refine (yes_any _ _).mono ?_; rintro e w1 ⟨rfl, rfl⟩)
        go_ret
        exact ⟨rfl, rfl⟩
end Go.Proofs.YthdklnkaeddogacDoor
