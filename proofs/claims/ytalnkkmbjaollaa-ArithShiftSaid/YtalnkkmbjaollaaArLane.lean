/-
  Of layer 5: what the program makes of two lanes: arith.lane, with saturate and hold. Conditions: those of each theorem (lanes within their width).
-/
import Derived.Test.YtalnkkmbjaollaaArSh
namespace Go.Proofs.Ytalnkkmbjaollaa
open Go.RowKit VecM
namespace Ar
def minI (a b : Int) : Int := if a ≤ b then a else b
def maxI (a b : Int) : Int := if a ≤ b then b else a
def holdI (n a b : Int) : Int := if n < a then a else if b < n then b else n
theorem holdI_bd (n : Int) {a b : Int} (h : a ≤ b) : a ≤ holdI n a b ∧ holdI n a b ≤ b := by
  unfold holdI
  repeat' split
  all_goals omega
theorem ret_u' {a b : Int} (h : a = b) : Ending.returned (.int .u64 a) = .returned (.int .u64 b) := by rw [h]
theorem ret_i' {a b : Int} (h : a = b) : Ending.returned (.int .i64 a) = .returned (.int .i64 b) := by rw [h]
theorem hold_any (n a b : Int) (h : a ≤ b) (w : World) : Calls Try.prog 53 #[.int .i64 n, .int .i64 a, .int .i64 b] w fun e w' => e = .returned (.int .i64 (holdI n a b)) ∧ w = w' := by
  by_cases h1 : n < a
  · have e : holdI n a b = a := if_pos h1
    have g1 : n ≤ a := by omega
    have g2 : ¬ a ≤ n := by omega
    have HE := Lib.hid e
    clear e h1
    go_enter Try.func53, Try.ntmps53
    go_wp2
    go_ret
    exact ⟨ret_i' HE.out.symm, rfl⟩
  · by_cases h2 : b < n
    · have e : holdI n a b = b := by unfold holdI; rw [if_neg h1, if_pos h2]
      have g1 : a ≤ n := by omega
      have g2 : ¬ n ≤ b := by omega
      have g3 : b ≤ n := by omega
      by_cases g4 : n ≤ a
      · omega
      · have HE := Lib.hid e
        clear e h1 h2
        go_enter Try.func53, Try.ntmps53
        go_wp2
        go_ret
        exact ⟨ret_i' HE.out.symm, rfl⟩
    · have e : holdI n a b = n := by unfold holdI; rw [if_neg h1, if_neg h2]
      have HE := Lib.hid e
      have g1 : a ≤ n := by omega
      have g2 : n ≤ b := by omega
      clear e h1 h2
      by_cases g4 : n ≤ a
      · obtain rfl : n = a := by omega
        go_enter Try.func53, Try.ntmps53
        go_wp2
        all_goals
          go_ret
          exact ⟨ret_i' HE.out.symm, rfl⟩
      · by_cases g5 : b ≤ n
        · obtain rfl : n = b := by omega
          go_enter Try.func53, Try.ntmps53
          go_wp2
          all_goals
            go_ret
            exact ⟨ret_i' HE.out.symm, rfl⟩
        · go_enter Try.func53, Try.ntmps53
          go_wp2
          go_ret
          exact ⟨ret_i' HE.out.symm, rfl⟩
set_option maxHeartbeats 1000000 in
theorem sat_15_8 (x y s r : Int) (_hx : 0 ≤ x ∧ x < 256) (_hy : 0 ≤ y ∧ y < 256) (hs : -128 ≤ s ∧ s < 128) (hr : -128 ≤ r ∧ r < 128) (w : World) :
    Calls Try.prog 48 #[.int .i64 15, .int .i64 8, .int .i64 x, .int .i64 y, .int .i64 s, .int .i64 r] w fun e w' => e = .returned (.int .u64 (IntKind.u64.wrap (holdI (s + r) (-128) 127))) ∧ w = w' := by
  have C := fun w => hold_any (s + r) (-128) 127 (by decide) w
  have hb := holdI_bd (s + r) (a := -128) (b := 127) (by decide)
  have HC := Lib.hid C
  clear C
  generalize holdI (s + r) (-128) 127 = z at *
  go_enter Try.func48, Try.ntmps48
  go_wp2_with (go_at_call 53; refine (HC.out _).mono ?_; rintro e w' ⟨rfl, rfl⟩)
  go_ret
  exact ⟨rfl, rfl⟩
set_option maxHeartbeats 1000000 in
theorem lane_15_8 (x y s r : Int) (_hx : 0 ≤ x ∧ x < 256) (_hy : 0 ≤ y ∧ y < 256) (hs : -128 ≤ s ∧ s < 128) (hr : -128 ≤ r ∧ r < 128) (w : World) :
    Calls Try.prog 38 #[.int .i64 15, .int .i64 8, .int .u64 x, .int .u64 y, .int .i64 s, .int .i64 r] w fun e w' => e = .returned (.int .u64 (IntKind.u64.wrap (holdI (s + r) (-128) 127))) ∧ w = w' := by
  have C := fun w => sat_15_8 x y s r _hx _hy hs hr w
  have HC := Lib.hid C
  clear C
  generalize IntKind.u64.wrap (holdI (s + r) (-128) 127) = z at *
  go_enter Try.func38, Try.ntmps38
  go_wp2_with (go_at_call 48; refine (HC.out _).mono ?_; rintro e w' ⟨rfl, rfl⟩)
  go_ret
  exact ⟨rfl, rfl⟩
set_option maxHeartbeats 1000000 in
theorem sat_16_8 (x y s r : Int) (hx : 0 ≤ x ∧ x < 256) (hy : 0 ≤ y ∧ y < 256) (_hs : -128 ≤ s ∧ s < 128) (_hr : -128 ≤ r ∧ r < 128) (w : World) :
    Calls Try.prog 48 #[.int .i64 16, .int .i64 8, .int .i64 x, .int .i64 y, .int .i64 s, .int .i64 r] w fun e w' => e = .returned (.int .u64 (holdI (x + y) (0) 255)) ∧ w = w' := by
  have C := fun w => hold_any (x + y) (0) 255 (by decide) w
  have hb := holdI_bd (x + y) (a := 0) (b := 255) (by decide)
  have HC := Lib.hid C
  clear C
  generalize holdI (x + y) (0) 255 = z at *
  go_enter Try.func48, Try.ntmps48
  go_wp2_with (go_at_call 53; refine (HC.out _).mono ?_; rintro e w' ⟨rfl, rfl⟩)
  go_ret
  exact ⟨rfl, rfl⟩
set_option maxHeartbeats 1000000 in
theorem lane_16_8 (x y s r : Int) (hx : 0 ≤ x ∧ x < 256) (hy : 0 ≤ y ∧ y < 256) (_hs : -128 ≤ s ∧ s < 128) (_hr : -128 ≤ r ∧ r < 128) (w : World) :
    Calls Try.prog 38 #[.int .i64 16, .int .i64 8, .int .u64 x, .int .u64 y, .int .i64 s, .int .i64 r] w fun e w' => e = .returned (.int .u64 (holdI (x + y) (0) 255)) ∧ w = w' := by
  have C := fun w => sat_16_8 x y s r hx hy _hs _hr w
  have HC := Lib.hid C
  clear C
  generalize holdI (x + y) (0) 255 = z at *
  go_enter Try.func38, Try.ntmps38
  go_wp2_with (go_at_call 48; refine (HC.out _).mono ?_; rintro e w' ⟨rfl, rfl⟩)
  go_ret
  exact ⟨rfl, rfl⟩
set_option maxHeartbeats 1000000 in
theorem sat_18_8 (x y s r : Int) (_hx : 0 ≤ x ∧ x < 256) (_hy : 0 ≤ y ∧ y < 256) (hs : -128 ≤ s ∧ s < 128) (hr : -128 ≤ r ∧ r < 128) (w : World) :
    Calls Try.prog 48 #[.int .i64 18, .int .i64 8, .int .i64 x, .int .i64 y, .int .i64 s, .int .i64 r] w fun e w' => e = .returned (.int .u64 (IntKind.u64.wrap (holdI (s - r) (-128) 127))) ∧ w = w' := by
  have C := fun w => hold_any (s - r) (-128) 127 (by decide) w
  have hb := holdI_bd (s - r) (a := -128) (b := 127) (by decide)
  have HC := Lib.hid C
  clear C
  generalize holdI (s - r) (-128) 127 = z at *
  go_enter Try.func48, Try.ntmps48
  go_wp2_with (go_at_call 53; refine (HC.out _).mono ?_; rintro e w' ⟨rfl, rfl⟩)
  go_ret
  exact ⟨rfl, rfl⟩
set_option maxHeartbeats 1000000 in
theorem lane_18_8 (x y s r : Int) (_hx : 0 ≤ x ∧ x < 256) (_hy : 0 ≤ y ∧ y < 256) (hs : -128 ≤ s ∧ s < 128) (hr : -128 ≤ r ∧ r < 128) (w : World) :
    Calls Try.prog 38 #[.int .i64 18, .int .i64 8, .int .u64 x, .int .u64 y, .int .i64 s, .int .i64 r] w fun e w' => e = .returned (.int .u64 (IntKind.u64.wrap (holdI (s - r) (-128) 127))) ∧ w = w' := by
  have C := fun w => sat_18_8 x y s r _hx _hy hs hr w
  have HC := Lib.hid C
  clear C
  generalize IntKind.u64.wrap (holdI (s - r) (-128) 127) = z at *
  go_enter Try.func38, Try.ntmps38
  go_wp2_with (go_at_call 48; refine (HC.out _).mono ?_; rintro e w' ⟨rfl, rfl⟩)
  go_ret
  exact ⟨rfl, rfl⟩
set_option maxHeartbeats 1000000 in
theorem sat_19_8 (x y s r : Int) (hx : 0 ≤ x ∧ x < 256) (hy : 0 ≤ y ∧ y < 256) (_hs : -128 ≤ s ∧ s < 128) (_hr : -128 ≤ r ∧ r < 128) (w : World) :
    Calls Try.prog 48 #[.int .i64 19, .int .i64 8, .int .i64 x, .int .i64 y, .int .i64 s, .int .i64 r] w fun e w' => e = .returned (.int .u64 (holdI (x - y) (0) 255)) ∧ w = w' := by
  have C := fun w => hold_any (x - y) (0) 255 (by decide) w
  have hb := holdI_bd (x - y) (a := 0) (b := 255) (by decide)
  have HC := Lib.hid C
  clear C
  generalize holdI (x - y) (0) 255 = z at *
  go_enter Try.func48, Try.ntmps48
  go_wp2_with (go_at_call 53; refine (HC.out _).mono ?_; rintro e w' ⟨rfl, rfl⟩)
  go_ret
  exact ⟨rfl, rfl⟩
set_option maxHeartbeats 1000000 in
theorem lane_19_8 (x y s r : Int) (hx : 0 ≤ x ∧ x < 256) (hy : 0 ≤ y ∧ y < 256) (_hs : -128 ≤ s ∧ s < 128) (_hr : -128 ≤ r ∧ r < 128) (w : World) :
    Calls Try.prog 38 #[.int .i64 19, .int .i64 8, .int .u64 x, .int .u64 y, .int .i64 s, .int .i64 r] w fun e w' => e = .returned (.int .u64 (holdI (x - y) (0) 255)) ∧ w = w' := by
  have C := fun w => sat_19_8 x y s r hx hy _hs _hr w
  have HC := Lib.hid C
  clear C
  generalize holdI (x - y) (0) 255 = z at *
  go_enter Try.func38, Try.ntmps38
  go_wp2_with (go_at_call 48; refine (HC.out _).mono ?_; rintro e w' ⟨rfl, rfl⟩)
  go_ret
  exact ⟨rfl, rfl⟩
set_option maxHeartbeats 1000000 in
theorem sat_15_16 (x y s r : Int) (_hx : 0 ≤ x ∧ x < 65536) (_hy : 0 ≤ y ∧ y < 65536) (hs : -32768 ≤ s ∧ s < 32768) (hr : -32768 ≤ r ∧ r < 32768) (w : World) :
    Calls Try.prog 48 #[.int .i64 15, .int .i64 16, .int .i64 x, .int .i64 y, .int .i64 s, .int .i64 r] w fun e w' => e = .returned (.int .u64 (IntKind.u64.wrap (holdI (s + r) (-32768) 32767))) ∧ w = w' := by
  have C := fun w => hold_any (s + r) (-32768) 32767 (by decide) w
  have hb := holdI_bd (s + r) (a := -32768) (b := 32767) (by decide)
  have HC := Lib.hid C
  clear C
  generalize holdI (s + r) (-32768) 32767 = z at *
  go_enter Try.func48, Try.ntmps48
  go_wp2_with (go_at_call 53; refine (HC.out _).mono ?_; rintro e w' ⟨rfl, rfl⟩)
  go_ret
  exact ⟨rfl, rfl⟩
set_option maxHeartbeats 1000000 in
theorem lane_15_16 (x y s r : Int) (_hx : 0 ≤ x ∧ x < 65536) (_hy : 0 ≤ y ∧ y < 65536) (hs : -32768 ≤ s ∧ s < 32768) (hr : -32768 ≤ r ∧ r < 32768) (w : World) :
    Calls Try.prog 38 #[.int .i64 15, .int .i64 16, .int .u64 x, .int .u64 y, .int .i64 s, .int .i64 r] w fun e w' => e = .returned (.int .u64 (IntKind.u64.wrap (holdI (s + r) (-32768) 32767))) ∧ w = w' := by
  have C := fun w => sat_15_16 x y s r _hx _hy hs hr w
  have HC := Lib.hid C
  clear C
  generalize IntKind.u64.wrap (holdI (s + r) (-32768) 32767) = z at *
  go_enter Try.func38, Try.ntmps38
  go_wp2_with (go_at_call 48; refine (HC.out _).mono ?_; rintro e w' ⟨rfl, rfl⟩)
  go_ret
  exact ⟨rfl, rfl⟩
set_option maxHeartbeats 1000000 in
theorem sat_16_16 (x y s r : Int) (hx : 0 ≤ x ∧ x < 65536) (hy : 0 ≤ y ∧ y < 65536) (_hs : -32768 ≤ s ∧ s < 32768) (_hr : -32768 ≤ r ∧ r < 32768) (w : World) :
    Calls Try.prog 48 #[.int .i64 16, .int .i64 16, .int .i64 x, .int .i64 y, .int .i64 s, .int .i64 r] w fun e w' => e = .returned (.int .u64 (holdI (x + y) (0) 65535)) ∧ w = w' := by
  have C := fun w => hold_any (x + y) (0) 65535 (by decide) w
  have hb := holdI_bd (x + y) (a := 0) (b := 65535) (by decide)
  have HC := Lib.hid C
  clear C
  generalize holdI (x + y) (0) 65535 = z at *
  go_enter Try.func48, Try.ntmps48
  go_wp2_with (go_at_call 53; refine (HC.out _).mono ?_; rintro e w' ⟨rfl, rfl⟩)
  go_ret
  exact ⟨rfl, rfl⟩
set_option maxHeartbeats 1000000 in
theorem lane_16_16 (x y s r : Int) (hx : 0 ≤ x ∧ x < 65536) (hy : 0 ≤ y ∧ y < 65536) (_hs : -32768 ≤ s ∧ s < 32768) (_hr : -32768 ≤ r ∧ r < 32768) (w : World) :
    Calls Try.prog 38 #[.int .i64 16, .int .i64 16, .int .u64 x, .int .u64 y, .int .i64 s, .int .i64 r] w fun e w' => e = .returned (.int .u64 (holdI (x + y) (0) 65535)) ∧ w = w' := by
  have C := fun w => sat_16_16 x y s r hx hy _hs _hr w
  have HC := Lib.hid C
  clear C
  generalize holdI (x + y) (0) 65535 = z at *
  go_enter Try.func38, Try.ntmps38
  go_wp2_with (go_at_call 48; refine (HC.out _).mono ?_; rintro e w' ⟨rfl, rfl⟩)
  go_ret
  exact ⟨rfl, rfl⟩
set_option maxHeartbeats 1000000 in
theorem sat_18_16 (x y s r : Int) (_hx : 0 ≤ x ∧ x < 65536) (_hy : 0 ≤ y ∧ y < 65536) (hs : -32768 ≤ s ∧ s < 32768) (hr : -32768 ≤ r ∧ r < 32768) (w : World) :
    Calls Try.prog 48 #[.int .i64 18, .int .i64 16, .int .i64 x, .int .i64 y, .int .i64 s, .int .i64 r] w fun e w' => e = .returned (.int .u64 (IntKind.u64.wrap (holdI (s - r) (-32768) 32767))) ∧ w = w' := by
  have C := fun w => hold_any (s - r) (-32768) 32767 (by decide) w
  have hb := holdI_bd (s - r) (a := -32768) (b := 32767) (by decide)
  have HC := Lib.hid C
  clear C
  generalize holdI (s - r) (-32768) 32767 = z at *
  go_enter Try.func48, Try.ntmps48
  go_wp2_with (go_at_call 53; refine (HC.out _).mono ?_; rintro e w' ⟨rfl, rfl⟩)
  go_ret
  exact ⟨rfl, rfl⟩
set_option maxHeartbeats 1000000 in
theorem lane_18_16 (x y s r : Int) (_hx : 0 ≤ x ∧ x < 65536) (_hy : 0 ≤ y ∧ y < 65536) (hs : -32768 ≤ s ∧ s < 32768) (hr : -32768 ≤ r ∧ r < 32768) (w : World) :
    Calls Try.prog 38 #[.int .i64 18, .int .i64 16, .int .u64 x, .int .u64 y, .int .i64 s, .int .i64 r] w fun e w' => e = .returned (.int .u64 (IntKind.u64.wrap (holdI (s - r) (-32768) 32767))) ∧ w = w' := by
  have C := fun w => sat_18_16 x y s r _hx _hy hs hr w
  have HC := Lib.hid C
  clear C
  generalize IntKind.u64.wrap (holdI (s - r) (-32768) 32767) = z at *
  go_enter Try.func38, Try.ntmps38
  go_wp2_with (go_at_call 48; refine (HC.out _).mono ?_; rintro e w' ⟨rfl, rfl⟩)
  go_ret
  exact ⟨rfl, rfl⟩
set_option maxHeartbeats 1000000 in
theorem sat_19_16 (x y s r : Int) (hx : 0 ≤ x ∧ x < 65536) (hy : 0 ≤ y ∧ y < 65536) (_hs : -32768 ≤ s ∧ s < 32768) (_hr : -32768 ≤ r ∧ r < 32768) (w : World) :
    Calls Try.prog 48 #[.int .i64 19, .int .i64 16, .int .i64 x, .int .i64 y, .int .i64 s, .int .i64 r] w fun e w' => e = .returned (.int .u64 (holdI (x - y) (0) 65535)) ∧ w = w' := by
  have C := fun w => hold_any (x - y) (0) 65535 (by decide) w
  have hb := holdI_bd (x - y) (a := 0) (b := 65535) (by decide)
  have HC := Lib.hid C
  clear C
  generalize holdI (x - y) (0) 65535 = z at *
  go_enter Try.func48, Try.ntmps48
  go_wp2_with (go_at_call 53; refine (HC.out _).mono ?_; rintro e w' ⟨rfl, rfl⟩)
  go_ret
  exact ⟨rfl, rfl⟩
set_option maxHeartbeats 1000000 in
theorem lane_19_16 (x y s r : Int) (hx : 0 ≤ x ∧ x < 65536) (hy : 0 ≤ y ∧ y < 65536) (_hs : -32768 ≤ s ∧ s < 32768) (_hr : -32768 ≤ r ∧ r < 32768) (w : World) :
    Calls Try.prog 38 #[.int .i64 19, .int .i64 16, .int .u64 x, .int .u64 y, .int .i64 s, .int .i64 r] w fun e w' => e = .returned (.int .u64 (holdI (x - y) (0) 65535)) ∧ w = w' := by
  have C := fun w => sat_19_16 x y s r hx hy _hs _hr w
  have HC := Lib.hid C
  clear C
  generalize holdI (x - y) (0) 65535 = z at *
  go_enter Try.func38, Try.ntmps38
  go_wp2_with (go_at_call 48; refine (HC.out _).mono ?_; rintro e w' ⟨rfl, rfl⟩)
  go_ret
  exact ⟨rfl, rfl⟩
theorem lane_14 (v x y s r : Int) (w : World) :
    Calls Try.prog 38 #[.int .i64 14, .int .i64 v, .int .u64 x, .int .u64 y, .int .i64 s, .int .i64 r] w fun e w' => e = .returned (.int .u64 (IntKind.u64.wrap (x + y))) ∧ w = w' := by
  go_enter Try.func38, Try.ntmps38
  go_wp2
  go_ret
  exact ⟨rfl, rfl⟩
theorem lane_17 (v x y s r : Int) (w : World) :
    Calls Try.prog 38 #[.int .i64 17, .int .i64 v, .int .u64 x, .int .u64 y, .int .i64 s, .int .i64 r] w fun e w' => e = .returned (.int .u64 (IntKind.u64.wrap (x - y))) ∧ w = w' := by
  go_enter Try.func38, Try.ntmps38
  go_wp2
  go_ret
  exact ⟨rfl, rfl⟩
theorem lane_21 (v x y s r : Int) (w : World) :
    Calls Try.prog 38 #[.int .i64 21, .int .i64 v, .int .u64 x, .int .u64 y, .int .i64 s, .int .i64 r] w fun e w' => e = .returned (.int .u64 (IntKind.u64.wrap (x * y))) ∧ w = w' := by
  go_enter Try.func38, Try.ntmps38
  go_wp2
  go_ret
  exact ⟨rfl, rfl⟩
theorem lane_27 (v x y s r : Int) (hx : 0 ≤ x ∧ x < 65536) (hy : 0 ≤ y ∧ y < 65536) (w : World) :
    Calls Try.prog 38 #[.int .i64 27, .int .i64 v, .int .u64 x, .int .u64 y, .int .i64 s, .int .i64 r] w fun e w' => e = .returned (.int .u64 ((x + y + 1) / 2)) ∧ w = w' := by
  go_enter Try.func38, Try.ntmps38
  go_wp2
  go_ret
  exact ⟨rfl, rfl⟩
theorem lane_22 (v x y s r : Int) (w : World) :
    Calls Try.prog 38 #[.int .i64 22, .int .i64 v, .int .u64 x, .int .u64 y, .int .i64 s, .int .i64 r] w fun e w' => e = .returned (.int .u64 (IntKind.u64.wrap (minI s r))) ∧ w = w' := by
  have hm : minI s r = if s ≤ r then s else r := rfl
  by_cases h : s ≤ r
  · rw [if_pos h] at hm
    rw [hm]
    clear hm
    go_enter Try.func38, Try.ntmps38
    go_wp2
    all_goals
      go_ret
      exact ⟨ret_u' (by first | rfl | (congr 1; omega) | omega), rfl⟩
  · rw [if_neg h] at hm
    rw [hm]
    clear hm
    go_enter Try.func38, Try.ntmps38
    go_wp2
    all_goals
      go_ret
      exact ⟨ret_u' (by first | rfl | (congr 1; omega) | omega), rfl⟩
theorem lane_23 (v x y s r : Int) (w : World) :
    Calls Try.prog 38 #[.int .i64 23, .int .i64 v, .int .u64 x, .int .u64 y, .int .i64 s, .int .i64 r] w fun e w' => e = .returned (.int .u64 (minI x y)) ∧ w = w' := by
  have hm : minI x y = if x ≤ y then x else y := rfl
  by_cases h : x ≤ y
  · rw [if_pos h] at hm
    rw [hm]
    clear hm
    go_enter Try.func38, Try.ntmps38
    go_wp2
    all_goals
      go_ret
      exact ⟨ret_u' (by first | rfl | (congr 1; omega) | omega), rfl⟩
  · rw [if_neg h] at hm
    rw [hm]
    clear hm
    go_enter Try.func38, Try.ntmps38
    go_wp2
    all_goals
      go_ret
      exact ⟨ret_u' (by first | rfl | (congr 1; omega) | omega), rfl⟩
theorem lane_24 (v x y s r : Int) (w : World) :
    Calls Try.prog 38 #[.int .i64 24, .int .i64 v, .int .u64 x, .int .u64 y, .int .i64 s, .int .i64 r] w fun e w' => e = .returned (.int .u64 (IntKind.u64.wrap (maxI s r))) ∧ w = w' := by
  have hm : maxI s r = if s ≤ r then r else s := rfl
  by_cases h : s ≤ r
  · rw [if_pos h] at hm
    rw [hm]
    clear hm
    go_enter Try.func38, Try.ntmps38
    go_wp2
    all_goals
      go_ret
      exact ⟨ret_u' (by first | rfl | (congr 1; omega) | omega), rfl⟩
  · rw [if_neg h] at hm
    rw [hm]
    clear hm
    go_enter Try.func38, Try.ntmps38
    go_wp2
    all_goals
      go_ret
      exact ⟨ret_u' (by first | rfl | (congr 1; omega) | omega), rfl⟩
theorem lane_25 (v x y s r : Int) (w : World) :
    Calls Try.prog 38 #[.int .i64 25, .int .i64 v, .int .u64 x, .int .u64 y, .int .i64 s, .int .i64 r] w fun e w' => e = .returned (.int .u64 (maxI x y)) ∧ w = w' := by
  have hm : maxI x y = if x ≤ y then y else x := rfl
  by_cases h : x ≤ y
  · rw [if_pos h] at hm
    rw [hm]
    clear hm
    go_enter Try.func38, Try.ntmps38
    go_wp2
    all_goals
      go_ret
      exact ⟨ret_u' (by first | rfl | (congr 1; omega) | omega), rfl⟩
  · rw [if_neg h] at hm
    rw [hm]
    clear hm
    go_enter Try.func38, Try.ntmps38
    go_wp2
    all_goals
      go_ret
      exact ⟨ret_u' (by first | rfl | (congr 1; omega) | omega), rfl⟩
/-- what a lane of v bits becomes; of it the lowest v bits count -/
def laneI (k v x y s r : Int) : Int :=
  if k = 14 then IntKind.u64.wrap (x + y) else if k = 17 then IntKind.u64.wrap (x - y) else if k = 21 then IntKind.u64.wrap (x * y)
  else if k = 22 then IntKind.u64.wrap (minI s r) else if k = 23 then minI x y else if k = 24 then IntKind.u64.wrap (maxI s r) else if k = 25 then maxI x y
  else if k = 27 then (x + y + 1) / 2
  else if k = 15 then IntKind.u64.wrap (holdI (s + r) (if v = 8 then -128 else -32768) (if v = 8 then 127 else 32767))
  else if k = 18 then IntKind.u64.wrap (holdI (s - r) (if v = 8 then -128 else -32768) (if v = 8 then 127 else 32767))
  else if k = 16 then holdI (x + y) 0 (if v = 8 then 255 else 65535) else holdI (x - y) 0 (if v = 8 then 255 else 65535)
def binK (k : Int) : Prop := k = 14 ∨ k = 17 ∨ k = 21 ∨ k = 22 ∨ k = 23 ∨ k = 24 ∨ k = 25 ∨ k = 27 ∨ k = 15 ∨ k = 18 ∨ k = 16 ∨ k = 19
theorem binK_of (v k : Int) (h : hasB v k = true) (h14 : 14 ≤ k) : binK k ∧ ((k = 15 ∨ k = 16 ∨ k = 18 ∨ k = 19 ∨ k = 27) → v ≤ 16) := by
  unfold hasB at h
  unfold binK
  by_cases a : k = 0 ∨ k = 1 ∨ k = 11 ∨ k = 12 ∨ k = 13 ∨ k = 14 ∨ k = 17
  · omega
  · rw [if_neg a] at h
    by_cases b : k = 2
    · omega
    · rw [if_neg b] at h
      by_cases c : k = 15 ∨ k = 16 ∨ k = 18 ∨ k = 19 ∨ k = 27
      · rw [if_pos c] at h
        have := of_decide_eq_true h
        omega
      · rw [if_neg c] at h
        by_cases d : k = 21
        · omega
        · rw [if_neg d] at h
          by_cases e : k = 22 ∨ k = 23 ∨ k = 24 ∨ k = 25
          · omega
          · rw [if_neg e] at h; cases h
structure Fit (v x y s r : Int) : Prop where
  x : 0 ≤ x ∧ x < 2 ^ v.toNat
  y : 0 ≤ y ∧ y < 2 ^ v.toNat
  s : -(2 ^ (v.toNat - 1)) ≤ s ∧ s < 2 ^ (v.toNat - 1)
  r : -(2 ^ (v.toNat - 1)) ≤ r ∧ r < 2 ^ (v.toNat - 1)
theorem lane_any (k v x y s r : Int) (hv : v = 8 ∨ v = 16 ∨ v = 32 ∨ v = 64) (hk : binK k) (hs : (k = 15 ∨ k = 16 ∨ k = 18 ∨ k = 19 ∨ k = 27) → v ≤ 16) (F : Fit v x y s r) (w : World) :
    Calls Try.prog 38 #[.int .i64 k, .int .i64 v, .int .u64 x, .int .u64 y, .int .i64 s, .int .i64 r] w fun e w' => e = .returned (.int .u64 (laneI k v x y s r)) ∧ w = w' := by
  rcases hk with rfl | rfl | rfl | rfl | rfl | rfl | rfl | rfl | rfl | rfl | rfl | rfl
  · exact lane_14 v x y s r w
  · exact lane_17 v x y s r w
  · exact lane_21 v x y s r w
  · exact lane_22 v x y s r w
  · exact lane_23 v x y s r w
  · exact lane_24 v x y s r w
  · exact lane_25 v x y s r w
  · have h := hs (by omega)
    have hx := F.x
    have hy := F.y
    rcases hv with rfl | rfl | rfl | rfl
    · have h2 : (2 : Int) ^ (8 : Int).toNat = 256 := rfl
      rw [h2] at hx hy
      exact lane_27 8 x y s r (by omega) (by omega) w
    · have h2 : (2 : Int) ^ (16 : Int).toNat = 65536 := rfl
      rw [h2] at hx hy
      exact lane_27 16 x y s r (by omega) (by omega) w
    · omega
    · omega
  all_goals
    have h := hs (by omega)
    have hx := F.x
    have hy := F.y
    have hs' := F.s
    have hr := F.r
    rcases hv with rfl | rfl | rfl | rfl
    · rw [show (2 : Int) ^ (8 : Int).toNat = 256 from rfl] at hx hy
      rw [show (2 : Int) ^ ((8 : Int).toNat - 1) = 128 from rfl] at hs' hr
      first | exact lane_15_8 x y s r hx hy hs' hr w | exact lane_18_8 x y s r hx hy hs' hr w | exact lane_16_8 x y s r hx hy hs' hr w | exact lane_19_8 x y s r hx hy hs' hr w
    · rw [show (2 : Int) ^ (16 : Int).toNat = 65536 from rfl] at hx hy
      rw [show (2 : Int) ^ ((16 : Int).toNat - 1) = 32768 from rfl] at hs' hr
      first | exact lane_15_16 x y s r hx hy hs' hr w | exact lane_18_16 x y s r hx hy hs' hr w | exact lane_16_16 x y s r hx hy hs' hr w | exact lane_19_16 x y s r hx hy hs' hr w
    · omega
    · omega
end Ar
end Go.Proofs.Ytalnkkmbjaollaa
