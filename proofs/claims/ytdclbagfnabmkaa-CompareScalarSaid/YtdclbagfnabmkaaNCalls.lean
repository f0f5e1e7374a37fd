/-
  The contracts of layer 3's functions (num.Bin and what it calls), as functions of the model's integers.
-/
import Derived.Test.YtdclbagfnabmkaaKit
import Derived.Test.YtdclbagfnabmkaaNMath
import Derived.WalkKit
import Derived.WalkSpells
import Derived.WalkLawsBesides
import Derived.Deep.QuietTactic
import Derived.BigQuiet
import Derived.StillTailTactics
import Derived.Lib.Hide
import Derived.Deep.RegionWith
namespace Go.Proofs.Ytdclbagfnabmkaa
open Go.RowKit
theorem ret_u64 {a b : Int} (h : a = b) : Ending.returned (.int .u64 a) = .returned (.int .u64 b) := by rw [h]
theorem ret_pair {a b c d : Int} (h : a = b) (h' : c = d) : Ending.returned (.tuple #[.int .u64 a, .int .i64 c]) = .returned (.tuple #[.int .u64 b, .int .i64 d]) := by rw [h, h']
/-! ### truth, stands -/
def tI (b : Bool) : Int := if b then 1 else 0
def standsB (k a b c d : Int) : Bool :=
  if k = 0 then a == c else if k = 1 then a != c else if k = 2 then decide (b < d) else if k = 3 then decide (a < c)
  else if k = 4 then decide (d < b) else if k = 5 then decide (c < a) else if k = 6 then decide (b ≤ d) else if k = 7 then decide (a ≤ c)
  else if k = 8 then decide (d ≤ b) else decide (c ≤ a)
theorem truth_any (b : Bool) (w : World) :
    Calls Try.prog 47 #[.bool b] w fun e w' => e = .returned (.int .u64 (tI b)) ∧ w = w' := by
  cases b
  · go_enter Try.func47, Try.ntmps47
    go_wp2
    go_ret
    exact ⟨rfl, rfl⟩
  · go_enter Try.func47, Try.ntmps47
    go_wp2
    go_ret
    exact ⟨rfl, rfl⟩
set_option maxHeartbeats 400000 in
theorem stands_any (k : Int) (h0 : 0 ≤ k) (h9 : k ≤ 9) (a b c d : Int) (w : World) :
    Calls Try.prog 39 #[.int .i64 k, .agg #[.int .u64 a, .int .i64 b], .agg #[.int .u64 c, .int .i64 d]] w fun e w' => e = .returned (.int .u64 (tI (standsB k a b c d))) ∧ Gr w w' := by
  obtain rfl | rfl | rfl | rfl | rfl | rfl | rfl | rfl | rfl | rfl : k = 0 ∨ k = 1 ∨ k = 2 ∨ k = 3 ∨ k = 4 ∨ k = 5 ∨ k = 6 ∨ k = 7 ∨ k = 8 ∨ k = 9 := by omega
  all_goals
    clear h0 h9
    go_enter Try.func39, Try.ntmps39
    go_wp2_with (go_at_call 47; refine (truth_any _ _).mono ?_; rintro e w' ⟨rfl, rfl⟩)
    go_ret
    exact ⟨rfl, by repeat (first | exact Gr.refl _ | apply Gr.drew | apply Gr.alloc)⟩
/-! ### shift -/
def shiftI (k w a b n : Int) : Int :=
  if k = 10 then IntKind.u64.wrap (a * 2 ^ n.toNat) else if k = 11 then IntKind.u64.wrap (b / 2 ^ n.toNat) else if k = 12 then a / 2 ^ n.toNat
  else if k = 13 then bits .or .u64 (IntKind.u64.wrap (a * 2 ^ n.toNat)) (a / 2 ^ (w - n).toNat)
  else bits .or .u64 (a / 2 ^ n.toNat) (IntKind.u64.wrap (a * 2 ^ (w - n).toNat))
set_option maxHeartbeats 400000 in
theorem shift_any (k v : Int) (h0 : 10 ≤ k) (h9 : k ≤ 14) (hv : v = 32 ∨ v = 64) (a b n : Int) (hn0 : 0 ≤ n) (hn : n < v) (w : World) :
    Calls Try.prog 49 #[.int .i64 k, .int .u64 v, .agg #[.int .u64 a, .int .i64 b], .int .u64 n] w fun e w' => e = .returned (.int .u64 (shiftI k v a b n)) ∧ Gr w w' := by
  rcases hv with rfl | rfl
  all_goals
    obtain rfl | rfl | rfl | rfl | rfl : k = 10 ∨ k = 11 ∨ k = 12 ∨ k = 13 ∨ k = 14 := by omega
    all_goals
      clear h0 h9
      go_enter Try.func49, Try.ntmps49
      go_wp2
      go_ret
      exact ⟨ret_u64 rfl, by repeat (first | exact Gr.refl _ | apply Gr.drew | apply Gr.alloc)⟩
/-! ### divide -/
def leastI (v : Int) : Int := if v = 32 then -2147483648 else -9223372036854775808
def divE (k v b c d : Int) : Int := if c = 0 then 21 else if k = 3 ∧ b = leastI v ∧ d = -1 then 22 else 0
def divI (k v a b c d : Int) : Int :=
  if divE k v b c d ≠ 0 then 0
  else if k = 3 then IntKind.u64.wrap (wrap64 (b.tdiv d)) else if k = 4 then IntKind.u64.wrap (a.tdiv c)
  else if k = 5 then IntKind.u64.wrap (b.tmod d) else a.tmod c
theorem divide_zero (k v a b d : Int) (w : World) :
    Calls Try.prog 48 #[.int .i64 k, .int .i64 v, .agg #[.int .u64 a, .int .i64 b], .agg #[.int .u64 0, .int .i64 d]] w fun e w' => e = .returned (.tuple #[.int .u64 0, .int .i64 21]) ∧ Gr w w' := by
  go_enter Try.func48, Try.ntmps48
  go_wp2
  go_ret2
  exact ⟨rfl, by repeat (first | exact Gr.refl _ | apply Gr.drew | apply Gr.alloc)⟩
theorem divide_3t (v a b c d : Int) (hv : v = 32 ∨ v = 64) (hc : (c == 0) = false) (hb : b = leastI v) (hd1 : (d == -1) = true) (w : World) :
    Calls Try.prog 48 #[.int .i64 3, .int .i64 v, .agg #[.int .u64 a, .int .i64 b], .agg #[.int .u64 c, .int .i64 d]] w fun e w' => e = .returned (.tuple #[.int .u64 0, .int .i64 22]) ∧ Gr w w' := by
  rcases hv with rfl | rfl
  · have hb' : (b == -2147483648) = true := by rw [hb]; rfl
    clear hb
    go_enter Try.func48, Try.ntmps48
    go_wp2
    go_quiet (fail)
    go_wp2
    go_ret2
    exact ⟨ret_pair rfl rfl, by repeat (first | exact Gr.refl _ | apply Gr.drewN | apply Gr.drew | apply Gr.alloc)⟩
  · have hb' : (b == -9223372036854775808) = true := by rw [hb]; rfl
    clear hb
    go_enter Try.func48, Try.ntmps48
    go_wp2
    go_quiet (fail)
    go_wp2
    go_ret2
    exact ⟨ret_pair rfl rfl, by repeat (first | exact Gr.refl _ | apply Gr.drewN | apply Gr.drew | apply Gr.alloc)⟩
theorem divide_3g (v a b c d : Int) (hv : v = 32 ∨ v = 64) (hc : (c == 0) = false) (hd : ¬ d = 0) (hb : b = leastI v) (hd1 : (d == -1) = false) (w : World) :
    Calls Try.prog 48 #[.int .i64 3, .int .i64 v, .agg #[.int .u64 a, .int .i64 b], .agg #[.int .u64 c, .int .i64 d]] w fun e w' => e = .returned (.tuple #[.int .u64 (IntKind.u64.wrap (wrap64 (b.tdiv d))), .int .i64 0]) ∧ Gr w w' := by
  rcases hv with rfl | rfl
  · have hb' : (b == -2147483648) = true := by rw [hb]; rfl
    clear hb
    go_enter Try.func48, Try.ntmps48
    go_wp2
    go_quiet (fail)
    go_wp2
    go_ret2
    exact ⟨ret_pair rfl rfl, by repeat (first | exact Gr.refl _ | apply Gr.drewN | apply Gr.drew | apply Gr.alloc)⟩
  · have hb' : (b == -9223372036854775808) = true := by rw [hb]; rfl
    clear hb
    go_enter Try.func48, Try.ntmps48
    go_wp2
    go_quiet (fail)
    go_wp2
    go_ret2
    exact ⟨ret_pair rfl rfl, by repeat (first | exact Gr.refl _ | apply Gr.drewN | apply Gr.drew | apply Gr.alloc)⟩
theorem divide_3f (v a b c d : Int) (hv : v = 32 ∨ v = 64) (hc : (c == 0) = false) (hd : ¬ d = 0) (hb : ¬ b = leastI v) (w : World) :
    Calls Try.prog 48 #[.int .i64 3, .int .i64 v, .agg #[.int .u64 a, .int .i64 b], .agg #[.int .u64 c, .int .i64 d]] w fun e w' => e = .returned (.tuple #[.int .u64 (IntKind.u64.wrap (wrap64 (b.tdiv d))), .int .i64 0]) ∧ Gr w w' := by
  rcases hv with rfl | rfl
  · have hb' : (b == -2147483648) = false := by rw [beq_eq_false_iff_ne]; exact hb
    clear hb
    go_enter Try.func48, Try.ntmps48
    go_wp2
    go_quiet (fail)
    go_wp2
    go_ret2
    exact ⟨ret_pair rfl rfl, by repeat (first | exact Gr.refl _ | apply Gr.drewN | apply Gr.drew | apply Gr.alloc)⟩
  · have hb' : (b == -9223372036854775808) = false := by rw [beq_eq_false_iff_ne]; exact hb
    clear hb
    go_enter Try.func48, Try.ntmps48
    go_wp2
    go_quiet (fail)
    go_wp2
    go_ret2
    exact ⟨ret_pair rfl rfl, by repeat (first | exact Gr.refl _ | apply Gr.drewN | apply Gr.drew | apply Gr.alloc)⟩
theorem divide_any (k v a b c d : Int) (h3 : 3 ≤ k) (h6 : k ≤ 6) (hv : v = 32 ∨ v = 64) (hcd : c ≠ 0 → d ≠ 0) (w : World) :
    Calls Try.prog 48 #[.int .i64 k, .int .i64 v, .agg #[.int .u64 a, .int .i64 b], .agg #[.int .u64 c, .int .i64 d]] w fun e w' => e = .returned (.tuple #[.int .u64 (divI k v a b c d), .int .i64 (divE k v b c d)]) ∧ Gr w w' := by
  by_cases hc0 : c = 0
  · have e1 : divE k v b c d = 21 := by unfold divE; rw [if_pos hc0]
    have e2 : divI k v a b c d = 0 := by unfold divI; rw [if_pos (by rw [e1]; decide)]
    rw [e1, e2, hc0]
    exact divide_zero k v a b d w
  · have hc : (c == 0) = false := by rw [beq_eq_false_iff_ne]; exact hc0
    have hd : ¬ d = 0 := hcd hc0
    by_cases h : k = 3 ∧ b = leastI v ∧ d = -1
    · have e1 : divE k v b c d = 22 := by unfold divE; rw [if_neg hc0, if_pos h]
      have e2 : divI k v a b c d = 0 := by unfold divI; rw [if_pos (by rw [e1]; decide)]
      rw [e1, e2]
      obtain ⟨rfl, hb, rfl⟩ := h
      exact divide_3t v a b c _ hv hc hb rfl w
    · have e1 : divE k v b c d = 0 := by unfold divE; rw [if_neg hc0, if_neg h]
      have e2 : divI k v a b c d = if k = 3 then IntKind.u64.wrap (wrap64 (b.tdiv d)) else if k = 4 then IntKind.u64.wrap (a.tdiv c) else if k = 5 then IntKind.u64.wrap (b.tmod d) else a.tmod c := by
        unfold divI; rw [if_neg (by rw [e1]; decide)]
      rw [e1, e2]
      obtain rfl | rfl | rfl | rfl : k = 3 ∨ k = 4 ∨ k = 5 ∨ k = 6 := by omega
      · rw [if_pos rfl]
        by_cases hb : b = leastI v
        · exact divide_3g v a b c d hv hc hd hb (by rw [beq_eq_false_iff_ne]; intro h1; exact h ⟨rfl, hb, h1⟩) w
        · exact divide_3f v a b c d hv hc hd hb w
      all_goals
        clear h h3 h6 hcd e1 e2
        go_enter Try.func48, Try.ntmps48
        go_wp2
        go_ret2
        exact ⟨ret_pair rfl rfl, by repeat (first | exact Gr.refl _ | apply Gr.drew | apply Gr.alloc)⟩
/-! ### work -/
def workE (k v b c d : Int) : Int := if 3 ≤ k ∧ k ≤ 6 then divE k v b c d else 0
def workI (k v a b c d : Int) : Int :=
  if k = 0 then IntKind.u64.wrap (a + c) else if k = 1 then IntKind.u64.wrap (a - c) else if k = 2 then IntKind.u64.wrap (a * c)
  else if 3 ≤ k ∧ k ≤ 6 then divI k v a b c d
  else if k = 7 then bits .and .u64 a c else if k = 8 then bits .or .u64 a c else if k = 9 then bits .xor .u64 a c
  else shiftI k v a b (c % v)
set_option maxHeartbeats 1000000 in
theorem work_plain (k v a b c d : Int) (hk : k = 0 ∨ k = 1 ∨ k = 2 ∨ k = 7 ∨ k = 8 ∨ k = 9) (w : World) :
    Calls Try.prog 42 #[.int .i64 k, .int .i64 v, .agg #[.int .u64 a, .int .i64 b], .agg #[.int .u64 c, .int .i64 d]] w fun e w' => e = .returned (.tuple #[.int .u64 (workI k v a b c d), .int .i64 0]) ∧ Gr w w' := by
  obtain rfl | rfl | rfl | rfl | rfl | rfl := hk
  all_goals
    go_enter Try.func42, Try.ntmps42
    go_wp2
    go_ret2
    exact ⟨ret_pair rfl rfl, by repeat (first | exact Gr.refl _ | apply Gr.drew | apply Gr.alloc)⟩
set_option maxHeartbeats 1000000 in
theorem work_divide (k v a b c d : Int) (hk : k = 3 ∨ k = 4 ∨ k = 5 ∨ k = 6) (hv : v = 32 ∨ v = 64) (hcd : c ≠ 0 → d ≠ 0) (w : World) :
    Calls Try.prog 42 #[.int .i64 k, .int .i64 v, .agg #[.int .u64 a, .int .i64 b], .agg #[.int .u64 c, .int .i64 d]] w fun e w' => e = .returned (.tuple #[.int .u64 (divI k v a b c d), .int .i64 (divE k v b c d)]) ∧ Gr w w' := by
  have HC := Lib.hid hcd
  have HV := Lib.hid hv
  clear hcd hv
  obtain rfl | rfl | rfl | rfl := hk
  all_goals
    go_enter Try.func42, Try.ntmps42
    go_wp2_with fail
    refine (divide_any _ v a b c d (by decide) (by decide) HV.out HC.out _).mono ?_
    rintro e w' ⟨rfl, hg⟩
    go_wp2
    go_ret2
    exact ⟨ret_pair rfl rfl, gr_trans (by repeat (first | exact Gr.refl _ | apply Gr.drew | apply Gr.alloc)) hg⟩
/-! ### work: the shifts -/
theorem emod_lt (c v : Int) (hv : v = 32 ∨ v = 64) : 0 ≤ c % v ∧ c % v < v := by rcases hv with rfl | rfl <;> omega
theorem wrap_v (v : Int) (hv : v = 32 ∨ v = 64) : IntKind.u64.wrap v = v := by rcases hv with rfl | rfl <;> rfl
set_option maxHeartbeats 1000000 in
theorem work_shift (k v a b c d : Int) (h0 : 10 ≤ k) (h9 : k ≤ 14) (hv : v = 32 ∨ v = 64) (hc0 : 0 ≤ c) (w : World) :
    Calls Try.prog 42 #[.int .i64 k, .int .i64 v, .agg #[.int .u64 a, .int .i64 b], .agg #[.int .u64 c, .int .i64 d]] w fun e w' => e = .returned (.tuple #[.int .u64 (shiftI k v a b (c % v)), .int .i64 0]) ∧ Gr w w' := by
  have C := fun m (hm : 0 ≤ m ∧ m < v) wx => shift_any k v h0 h9 hv a b m hm.1 hm.2 wx
  have HC := Lib.hid C
  clear C
  have hb := emod_lt c v hv
  have hw := wrap_v v hv
  have hm : c.tmod v = c % v := Int.tmod_eq_emod_of_nonneg hc0
  have HB := Lib.hid hb
  clear hb hc0
  rcases hv with rfl | rfl
  · go_enter Try.func42, Try.ntmps42
    go_wp2
    go_region_with (go_at_call 49; refine (HC.out _ HB.out _).mono ?_; rintro e w' ⟨rfl, hg⟩)
    all_goals
      go_wp2
      go_ret2
      exact ⟨ret_pair rfl rfl, gr_trans (by repeat (first | exact Gr.refl _ | apply Gr.drew | apply Gr.alloc)) hg⟩
  · go_enter Try.func42, Try.ntmps42
    go_wp2
    go_region_with (go_at_call 49; refine (HC.out _ HB.out _).mono ?_; rintro e w' ⟨rfl, hg⟩)
    all_goals
      go_wp2
      go_ret2
      exact ⟨ret_pair rfl rfl, gr_trans (by repeat (first | exact Gr.refl _ | apply Gr.drew | apply Gr.alloc)) hg⟩
theorem work_any (k v a b c d : Int) (h0 : 0 ≤ k) (h9 : k ≤ 14) (hv : v = 32 ∨ v = 64) (hc0 : 0 ≤ c) (hcd : c ≠ 0 → d ≠ 0) (w : World) :
    Calls Try.prog 42 #[.int .i64 k, .int .i64 v, .agg #[.int .u64 a, .int .i64 b], .agg #[.int .u64 c, .int .i64 d]] w fun e w' => e = .returned (.tuple #[.int .u64 (workI k v a b c d), .int .i64 (workE k v b c d)]) ∧ Gr w w' := by
  by_cases h1 : 3 ≤ k ∧ k ≤ 6
  · rw [show workE k v b c d = divE k v b c d by unfold workE; rw [if_pos h1],
      show workI k v a b c d = divI k v a b c d by unfold workI; rw [if_neg (by omega), if_neg (by omega), if_neg (by omega), if_pos h1]]
    exact work_divide k v a b c d (by omega) hv hcd w
  · rw [show workE k v b c d = 0 by unfold workE; rw [if_neg h1]]
    by_cases h2 : 10 ≤ k
    · rw [show workI k v a b c d = shiftI k v a b (c % v) by
        unfold workI; rw [if_neg (by omega), if_neg (by omega), if_neg (by omega), if_neg h1, if_neg (by omega), if_neg (by omega), if_neg (by omega)]]
      exact work_shift k v a b c d h2 h9 hv hc0 w
    · exact work_plain k v a b c d (by omega) w
end Go.Proofs.Ytdclbagfnabmkaa
