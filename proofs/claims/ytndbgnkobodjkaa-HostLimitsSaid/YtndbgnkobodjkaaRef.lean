/-
  The contracts of the document's answers for vectors (plaitref02): Lanes, Get, Set, Sign, Signed.
-/
import Derived.Test.YtndbgnkobodjkaaAll
namespace Go.Proofs.Ytndbgnkobodjkaa
open Go.RowKit VecM
theorem rlanes_any (v : Int) (w : World) : Calls Try.prog 46 #[.int .i64 v] w fun e w' => e = .returned (.int .i64 (lanesI v)) ∧ w = w' := by
  by_cases h : v = 8 ∨ v = 16 ∨ v = 32 ∨ v = 64
  · rcases h with rfl | rfl | rfl | rfl
    all_goals
      go_enter Try.func46, Try.ntmps46
      go_wp2
      go_ret
      exact ⟨rfl, rfl⟩
  · have h1 : (v == 8) = false := beq_eq_false_iff_ne.2 (by omega)
    have h2 : (v == 16) = false := beq_eq_false_iff_ne.2 (by omega)
    have h3 : (v == 32) = false := beq_eq_false_iff_ne.2 (by omega)
    have h4 : (v == 64) = false := beq_eq_false_iff_ne.2 (by omega)
    have e : lanesI v = 0 := by unfold lanesI; rw [if_neg (by omega), if_neg (by omega), if_neg (by omega), if_neg (by omega)]
    rw [e]
    clear h e
    go_enter Try.func46, Try.ntmps46
    go_wp2
    go_ret
    exact ⟨rfl, rfl⟩
/-- the bytes from the highest down to place q -/
def revN (b : Nat → Int) (base n q : Nat) : Int := sumN b (base + q) (n - q)
theorem rget_step {b : Nat → Int} (hb : Byt b) (base q n : Nat) (hq : q < n) (hn : n ≤ 8) :
    IntKind.u64.wrap (IntKind.u64.wrap (revN b base n (q + 1) * 256) + b (base + q)) = revN b base n q := by
  unfold revN
  have e : n - q = (n - (q + 1)) + 1 := by omega
  rw [e, sumN_front, show base + q + 1 = base + (q + 1) by omega]
  obtain ⟨h0, h1⟩ := sumN_bd hb (base + (q + 1)) (n - (q + 1))
  obtain ⟨b0, b1⟩ := hb (base + q)
  have hp : (256 : Int) ^ (n - (q + 1)) ≤ 72057594037927936 := by
    have h7 : (256 : Nat) ^ (n - (q + 1)) ≤ 72057594037927936 := Nat.pow_le_pow_right (show 0 < 256 by decide) (show n - (q + 1) ≤ 7 by omega)
    rw [show (256 : Int) ^ (n - (q + 1)) = ((256 ^ (n - (q + 1)) : Nat) : Int) from (Int.natCast_pow 256 _).symm]
    omega
  rw [IntKind.wrap_u64, IntKind.wrap_u64]
  generalize sumN b (base + (q + 1)) (n - (q + 1)) = S at *
  generalize (256 : Int) ^ (n - (q + 1)) = p at *
  omega
set_option maxHeartbeats 400000 in
theorem rget_8 (b : Nat → Int) (hb : Byt b) (i : Nat) (hi : i * 1 + 1 ≤ 16) (w : World) :
    Calls Try.prog 41 #[.agg (bs b), .int .i64 8, .int .i64 i] w fun e w' => e = .returned (.int .u64 (sumN b (i * 1) 1)) ∧ Gr w w' := by
  rw [Nat.mul_one]
  have hl := rlanes_any 8
  rw [show lanesI 8 = 16 by decide] at hl
  have HL := Lib.hid hl
  have HB := Lib.hid hb
  have hc := bs_cell w b
  have HC := Lib.hid hc
  have hi0 : 0 ≤ (i : Int) := by omega
  have hi1 : (i : Int) < 16 := by omega
  clear hb hc hl
  go_enter Try.func41, Try.ntmps41
  go_wp2_with (go_at_call 46; refine (HL.out _).mono ?_; rintro e w' ⟨rfl, rfl⟩)
  go_loop [7, 8] (fun x j => ∃ m : Nat, m ≤ 1 ∧ x = .int .u64 (revN b (i) 1 m) ∧ j = .int .i64 ((m : Int) - 1)) (fun _ j => (intOf j + 1).toNat)
  case atStart => exact ⟨1, by omega, by unfold revN; rw [Nat.sub_self]; rfl, rfl⟩
  case round =>
    obtain ⟨m, hm, rfl, rfl⟩ := hrel
    match m, hm with
    | 0, _ =>
      rw [show ((0 : Nat) : Int) - 1 = -1 by decide]
      go_wp2
      go_ret
      exact ⟨by unfold revN; rfl, (Gr.refl _).alloc _ _⟩
    | q + 1, hm =>
      rw [show ((q + 1 : Nat) : Int) - 1 = (q : Int) by omega]
      have h1 := HC.out (i + q) (by omega)
      have h2 := HB.out (i + q)
      have h3 := rget_step HB.out (i) q 1 (by omega) (by omega)
      have H3 := Lib.hid h3
      clear h3
      go_wp2
      exact ⟨⟨q, by omega, by rw [H3.out], rfl⟩, by simp [intOf]⟩
set_option maxHeartbeats 400000 in
theorem rget_16 (b : Nat → Int) (hb : Byt b) (i : Nat) (hi : i * 2 + 2 ≤ 16) (w : World) :
    Calls Try.prog 41 #[.agg (bs b), .int .i64 16, .int .i64 i] w fun e w' => e = .returned (.int .u64 (sumN b (i * 2) 2)) ∧ Gr w w' := by
  have hl := rlanes_any 16
  rw [show lanesI 16 = 8 by decide] at hl
  have HL := Lib.hid hl
  have HB := Lib.hid hb
  have hc := bs_cell w b
  have HC := Lib.hid hc
  have hi0 : 0 ≤ (i : Int) := by omega
  have hi1 : (i : Int) < 8 := by omega
  clear hb hc hl
  go_enter Try.func41, Try.ntmps41
  go_wp2_with (go_at_call 46; refine (HL.out _).mono ?_; rintro e w' ⟨rfl, rfl⟩)
  go_loop [7, 8] (fun x j => ∃ m : Nat, m ≤ 2 ∧ x = .int .u64 (revN b (i * 2) 2 m) ∧ j = .int .i64 ((m : Int) - 1)) (fun _ j => (intOf j + 1).toNat)
  case atStart => exact ⟨2, by omega, by unfold revN; rw [Nat.sub_self]; rfl, rfl⟩
  case round =>
    obtain ⟨m, hm, rfl, rfl⟩ := hrel
    match m, hm with
    | 0, _ =>
      rw [show ((0 : Nat) : Int) - 1 = -1 by decide]
      go_wp2
      go_ret
      exact ⟨by unfold revN; rfl, (Gr.refl _).alloc _ _⟩
    | q + 1, hm =>
      rw [show ((q + 1 : Nat) : Int) - 1 = (q : Int) by omega]
      have h1 := HC.out (i * 2 + q) (by omega)
      have h2 := HB.out (i * 2 + q)
      have h3 := rget_step HB.out (i * 2) q 2 (by omega) (by omega)
      have H3 := Lib.hid h3
      clear h3
      go_wp2
      exact ⟨⟨q, by omega, by rw [H3.out], rfl⟩, by simp [intOf]⟩
set_option maxHeartbeats 400000 in
theorem rget_32 (b : Nat → Int) (hb : Byt b) (i : Nat) (hi : i * 4 + 4 ≤ 16) (w : World) :
    Calls Try.prog 41 #[.agg (bs b), .int .i64 32, .int .i64 i] w fun e w' => e = .returned (.int .u64 (sumN b (i * 4) 4)) ∧ Gr w w' := by
  have hl := rlanes_any 32
  rw [show lanesI 32 = 4 by decide] at hl
  have HL := Lib.hid hl
  have HB := Lib.hid hb
  have hc := bs_cell w b
  have HC := Lib.hid hc
  have hi0 : 0 ≤ (i : Int) := by omega
  have hi1 : (i : Int) < 4 := by omega
  clear hb hc hl
  go_enter Try.func41, Try.ntmps41
  go_wp2_with (go_at_call 46; refine (HL.out _).mono ?_; rintro e w' ⟨rfl, rfl⟩)
  go_loop [7, 8] (fun x j => ∃ m : Nat, m ≤ 4 ∧ x = .int .u64 (revN b (i * 4) 4 m) ∧ j = .int .i64 ((m : Int) - 1)) (fun _ j => (intOf j + 1).toNat)
  case atStart => exact ⟨4, by omega, by unfold revN; rw [Nat.sub_self]; rfl, rfl⟩
  case round =>
    obtain ⟨m, hm, rfl, rfl⟩ := hrel
    match m, hm with
    | 0, _ =>
      rw [show ((0 : Nat) : Int) - 1 = -1 by decide]
      go_wp2
      go_ret
      exact ⟨by unfold revN; rfl, (Gr.refl _).alloc _ _⟩
    | q + 1, hm =>
      rw [show ((q + 1 : Nat) : Int) - 1 = (q : Int) by omega]
      have h1 := HC.out (i * 4 + q) (by omega)
      have h2 := HB.out (i * 4 + q)
      have h3 := rget_step HB.out (i * 4) q 4 (by omega) (by omega)
      have H3 := Lib.hid h3
      clear h3
      go_wp2
      exact ⟨⟨q, by omega, by rw [H3.out], rfl⟩, by simp [intOf]⟩
set_option maxHeartbeats 400000 in
theorem rget_64 (b : Nat → Int) (hb : Byt b) (i : Nat) (hi : i * 8 + 8 ≤ 16) (w : World) :
    Calls Try.prog 41 #[.agg (bs b), .int .i64 64, .int .i64 i] w fun e w' => e = .returned (.int .u64 (sumN b (i * 8) 8)) ∧ Gr w w' := by
  have hl := rlanes_any 64
  rw [show lanesI 64 = 2 by decide] at hl
  have HL := Lib.hid hl
  have HB := Lib.hid hb
  have hc := bs_cell w b
  have HC := Lib.hid hc
  have hi0 : 0 ≤ (i : Int) := by omega
  have hi1 : (i : Int) < 2 := by omega
  clear hb hc hl
  go_enter Try.func41, Try.ntmps41
  go_wp2_with (go_at_call 46; refine (HL.out _).mono ?_; rintro e w' ⟨rfl, rfl⟩)
  go_loop [7, 8] (fun x j => ∃ m : Nat, m ≤ 8 ∧ x = .int .u64 (revN b (i * 8) 8 m) ∧ j = .int .i64 ((m : Int) - 1)) (fun _ j => (intOf j + 1).toNat)
  case atStart => exact ⟨8, by omega, by unfold revN; rw [Nat.sub_self]; rfl, rfl⟩
  case round =>
    obtain ⟨m, hm, rfl, rfl⟩ := hrel
    match m, hm with
    | 0, _ =>
      rw [show ((0 : Nat) : Int) - 1 = -1 by decide]
      go_wp2
      go_ret
      exact ⟨by unfold revN; rfl, (Gr.refl _).alloc _ _⟩
    | q + 1, hm =>
      rw [show ((q + 1 : Nat) : Int) - 1 = (q : Int) by omega]
      have h1 := HC.out (i * 8 + q) (by omega)
      have h2 := HB.out (i * 8 + q)
      have h3 := rget_step HB.out (i * 8) q 8 (by omega) (by omega)
      have H3 := Lib.hid h3
      clear h3
      go_wp2
      exact ⟨⟨q, by omega, by rw [H3.out], rfl⟩, by simp [intOf]⟩
theorem rget_no (b : Nat → Int) (v i : Int) (h : thereB v i = false) (w : World) :
    Calls Try.prog 41 #[.agg (bs b), .int .i64 v, .int .i64 i] w fun e w' => e = .returned (.int .u64 0) ∧ Gr w w' := by
  have hl := rlanes_any v
  have h' : ¬ (0 ≤ i ∧ i < lanesI v) := fun hh => by rw [there_iff.2 hh] at h; cases h
  have hb := lanes_bd v
  generalize lanesI v = L at *
  have HL := Lib.hid hl
  clear hl h
  by_cases h0 : L = 0
  · subst h0
    clear h' hb
    go_enter Try.func41, Try.ntmps41
    go_wp2_with (go_at_call 46; refine (HL.out _).mono ?_; rintro e w' ⟨rfl, rfl⟩)
    go_ret
    exact ⟨rfl, (Gr.refl _).alloc _ _⟩
  · have hn : (L == 0) = false := beq_eq_false_iff_ne.2 h0
    by_cases h1 : i < 0
    · clear h' hb
      go_enter Try.func41, Try.ntmps41
      go_wp2_with (go_at_call 46; refine (HL.out _).mono ?_; rintro e w' ⟨rfl, rfl⟩)
      go_ret
      exact ⟨rfl, (Gr.refl _).alloc _ _⟩
    · have h2 : 0 ≤ i := by omega
      have h3 : L ≤ i := by omega
      clear h' hb h1 h0
      go_enter Try.func41, Try.ntmps41
      go_wp2_with (go_at_call 46; refine (HL.out _).mono ?_; rintro e w' ⟨rfl, rfl⟩)
      go_ret
      exact ⟨rfl, (Gr.refl _).alloc _ _⟩
theorem rget_any (b : Nat → Int) (hb : Byt b) (v i : Int) (w : World) :
    Calls Try.prog 41 #[.agg (bs b), .int .i64 v, .int .i64 i] w fun e w' => e = .returned (.int .u64 (getI b v i)) ∧ Gr w w' := by
  by_cases h : thereB v i = true
  · obtain ⟨h0, _⟩ := there_iff.1 h
    obtain ⟨n, rfl⟩ := Int.eq_ofNat_of_zero_le h0
    have e : getI b v n = sumN b (n * wid v) (wid v) := by unfold getI; rw [if_pos h, Int.toNat_natCast]
    rw [e]
    rcases there_cases h with ⟨rfl, _, h1⟩ | ⟨rfl, _, h1⟩ | ⟨rfl, _, h1⟩ | ⟨rfl, _, h1⟩
    · exact rget_8 b hb n (by omega) w
    · exact rget_16 b hb n (by omega) w
    · exact rget_32 b hb n (by omega) w
    · exact rget_64 b hb n (by omega) w
  · rw [show getI b v i = 0 by unfold getI; rw [if_neg h]]
    exact rget_no b v i (by simpa using h) w
/-- what is left of a number behind k bytes -/
def divP (x : Int) (k : Nat) : Int := x / 256 ^ k
theorem divP_bd {x : Int} (h0 : 0 ≤ x) (h1 : x < 18446744073709551616) (k : Nat) : 0 ≤ divP x k ∧ divP x k ≤ 18446744073709551615 := by
  unfold divP
  have := Int.ediv_le_self (256 ^ k) h0
  exact ⟨Int.ediv_nonneg h0 (Int.le_of_lt (pow_pos' k)), by omega⟩
theorem divP_succ (x : Int) (k : Nat) : divP x k / 256 = divP x (k + 1) := div_pow_div x k
set_option maxHeartbeats 400000 in
theorem rset_8 (b : Nat → Int) (i : Nat) (x : Int) (hi : i * 1 + 1 ≤ 16) (hx0 : 0 ≤ x) (hx1 : x < 18446744073709551616) (w : World) :
    Calls Try.prog 40 #[.agg (bs b), .int .i64 8, .int .i64 i, .int .u64 x] w fun e w' => e = .returned (.agg (bs (setN b (i * 1) x 1))) ∧ Gr w w' := by
  rw [Nat.mul_one]
  have hl := rlanes_any 8
  rw [show lanesI 8 = 16 by decide] at hl
  have HL := Lib.hid hl
  have hi0 : 0 ≤ (i : Int) := by omega
  have hi1 : (i : Int) < 16 := by omega
  have HX := Lib.hid (divP_bd hx0 hx1)
  have e0 : x = divP x 0 := by unfold divP; simp
  have H0 := Lib.hid e0
  clear hl e0
  go_enter Try.func40, Try.ntmps40
  go_wp2_with (go_at_call 46; refine (HL.out _).mono ?_; rintro e w' ⟨rfl, rfl⟩)
  go_loopw [3, 9] (fun y j wr => ∃ k : Nat, k ≤ 1 ∧ y = .int .u64 (divP x k) ∧ j = .int .i64 k ∧ wr = (w.alloc (.cells (bs (setN b (i) x k)) 86)).alloc (.cells (bs fun _ => 0) 86)) (fun _ j _ => 1 - (intOf j).toNat)
  case atStart => exact ⟨0, by omega, by rw [← H0.out], rfl, by rw [setN_zero]⟩
  case round =>
    obtain ⟨k, hk, rfl, rfl, rfl⟩ := hrel
    by_cases hlt : k < 1
    · have h1 := bs_cell2 w (setN b (i) x k) (.cells (bs fun _ => 0) 86) (i + k) (by omega)
      obtain ⟨h2, h3⟩ := HX.out k
      have H4 := Lib.hid (divP_succ x k)
      go_wp2
      exact ⟨⟨k + 1, by omega, by rw [H4.out], by go_num, by rw [bs_setL _ _ _ (by omega), setN_succ]; rfl⟩, by simp [intOf]; omega⟩
    · go_upto_region 8 with (fail)
      obtain rfl : k = 1 := by omega
      refine wp_region_lit ?_
      refine wpList_load_row rfl 86 _ rfl w.heap.size rfl 86 (bs (setN b (i) x 1)) (0, 0) _ (heap_alloc2_old w _ _) Try.underlying86 rfl infoV ?_
      refine wpList_store_row rfl 86 _ _ rfl (w.heap.size + 1) (bs (setN b (i) x 1)) rfl rfl 86 (bs fun _ => 0) (heap_alloc2_new w _ _) infoV rfl (bs_one _) ?_
      rw [setRow2]
      go_wp2
      exact bodyPost_ret (v := .agg (bs (setN b (i) x 1))) (results_cell_row Try.results40 _ _ (w.heap.size + 1) 86 (bs (setN b (i) x 1)) (0, 0) _ rfl (heap_alloc2_new w _ _) Try.underlying86 rfl infoV) rfl ⟨rfl, ((Gr.refl _).alloc _ _).alloc _ _⟩
set_option maxHeartbeats 400000 in
theorem rset_16 (b : Nat → Int) (i : Nat) (x : Int) (hi : i * 2 + 2 ≤ 16) (hx0 : 0 ≤ x) (hx1 : x < 18446744073709551616) (w : World) :
    Calls Try.prog 40 #[.agg (bs b), .int .i64 16, .int .i64 i, .int .u64 x] w fun e w' => e = .returned (.agg (bs (setN b (i * 2) x 2))) ∧ Gr w w' := by
  have hl := rlanes_any 16
  rw [show lanesI 16 = 8 by decide] at hl
  have HL := Lib.hid hl
  have hi0 : 0 ≤ (i : Int) := by omega
  have hi1 : (i : Int) < 8 := by omega
  have HX := Lib.hid (divP_bd hx0 hx1)
  have e0 : x = divP x 0 := by unfold divP; simp
  have H0 := Lib.hid e0
  clear hl e0
  go_enter Try.func40, Try.ntmps40
  go_wp2_with (go_at_call 46; refine (HL.out _).mono ?_; rintro e w' ⟨rfl, rfl⟩)
  go_loopw [3, 9] (fun y j wr => ∃ k : Nat, k ≤ 2 ∧ y = .int .u64 (divP x k) ∧ j = .int .i64 k ∧ wr = (w.alloc (.cells (bs (setN b (i * 2) x k)) 86)).alloc (.cells (bs fun _ => 0) 86)) (fun _ j _ => 2 - (intOf j).toNat)
  case atStart => exact ⟨0, by omega, by rw [← H0.out], rfl, by rw [setN_zero]⟩
  case round =>
    obtain ⟨k, hk, rfl, rfl, rfl⟩ := hrel
    by_cases hlt : k < 2
    · have h1 := bs_cell2 w (setN b (i * 2) x k) (.cells (bs fun _ => 0) 86) (i * 2 + k) (by omega)
      obtain ⟨h2, h3⟩ := HX.out k
      have H4 := Lib.hid (divP_succ x k)
      go_wp2
      exact ⟨⟨k + 1, by omega, by rw [H4.out], by go_num, by rw [bs_setL _ _ _ (by omega), setN_succ]; rfl⟩, by simp [intOf]; omega⟩
    · go_upto_region 8 with (fail)
      obtain rfl : k = 2 := by omega
      refine wp_region_lit ?_
      refine wpList_load_row rfl 86 _ rfl w.heap.size rfl 86 (bs (setN b (i * 2) x 2)) (0, 0) _ (heap_alloc2_old w _ _) Try.underlying86 rfl infoV ?_
      refine wpList_store_row rfl 86 _ _ rfl (w.heap.size + 1) (bs (setN b (i * 2) x 2)) rfl rfl 86 (bs fun _ => 0) (heap_alloc2_new w _ _) infoV rfl (bs_one _) ?_
      rw [setRow2]
      go_wp2
      exact bodyPost_ret (v := .agg (bs (setN b (i * 2) x 2))) (results_cell_row Try.results40 _ _ (w.heap.size + 1) 86 (bs (setN b (i * 2) x 2)) (0, 0) _ rfl (heap_alloc2_new w _ _) Try.underlying86 rfl infoV) rfl ⟨rfl, ((Gr.refl _).alloc _ _).alloc _ _⟩
set_option maxHeartbeats 400000 in
theorem rset_32 (b : Nat → Int) (i : Nat) (x : Int) (hi : i * 4 + 4 ≤ 16) (hx0 : 0 ≤ x) (hx1 : x < 18446744073709551616) (w : World) :
    Calls Try.prog 40 #[.agg (bs b), .int .i64 32, .int .i64 i, .int .u64 x] w fun e w' => e = .returned (.agg (bs (setN b (i * 4) x 4))) ∧ Gr w w' := by
  have hl := rlanes_any 32
  rw [show lanesI 32 = 4 by decide] at hl
  have HL := Lib.hid hl
  have hi0 : 0 ≤ (i : Int) := by omega
  have hi1 : (i : Int) < 4 := by omega
  have HX := Lib.hid (divP_bd hx0 hx1)
  have e0 : x = divP x 0 := by unfold divP; simp
  have H0 := Lib.hid e0
  clear hl e0
  go_enter Try.func40, Try.ntmps40
  go_wp2_with (go_at_call 46; refine (HL.out _).mono ?_; rintro e w' ⟨rfl, rfl⟩)
  go_loopw [3, 9] (fun y j wr => ∃ k : Nat, k ≤ 4 ∧ y = .int .u64 (divP x k) ∧ j = .int .i64 k ∧ wr = (w.alloc (.cells (bs (setN b (i * 4) x k)) 86)).alloc (.cells (bs fun _ => 0) 86)) (fun _ j _ => 4 - (intOf j).toNat)
  case atStart => exact ⟨0, by omega, by rw [← H0.out], rfl, by rw [setN_zero]⟩
  case round =>
    obtain ⟨k, hk, rfl, rfl, rfl⟩ := hrel
    by_cases hlt : k < 4
    · have h1 := bs_cell2 w (setN b (i * 4) x k) (.cells (bs fun _ => 0) 86) (i * 4 + k) (by omega)
      obtain ⟨h2, h3⟩ := HX.out k
      have H4 := Lib.hid (divP_succ x k)
      go_wp2
      exact ⟨⟨k + 1, by omega, by rw [H4.out], by go_num, by rw [bs_setL _ _ _ (by omega), setN_succ]; rfl⟩, by simp [intOf]; omega⟩
    · go_upto_region 8 with (fail)
      obtain rfl : k = 4 := by omega
      refine wp_region_lit ?_
      refine wpList_load_row rfl 86 _ rfl w.heap.size rfl 86 (bs (setN b (i * 4) x 4)) (0, 0) _ (heap_alloc2_old w _ _) Try.underlying86 rfl infoV ?_
      refine wpList_store_row rfl 86 _ _ rfl (w.heap.size + 1) (bs (setN b (i * 4) x 4)) rfl rfl 86 (bs fun _ => 0) (heap_alloc2_new w _ _) infoV rfl (bs_one _) ?_
      rw [setRow2]
      go_wp2
      exact bodyPost_ret (v := .agg (bs (setN b (i * 4) x 4))) (results_cell_row Try.results40 _ _ (w.heap.size + 1) 86 (bs (setN b (i * 4) x 4)) (0, 0) _ rfl (heap_alloc2_new w _ _) Try.underlying86 rfl infoV) rfl ⟨rfl, ((Gr.refl _).alloc _ _).alloc _ _⟩
set_option maxHeartbeats 400000 in
theorem rset_64 (b : Nat → Int) (i : Nat) (x : Int) (hi : i * 8 + 8 ≤ 16) (hx0 : 0 ≤ x) (hx1 : x < 18446744073709551616) (w : World) :
    Calls Try.prog 40 #[.agg (bs b), .int .i64 64, .int .i64 i, .int .u64 x] w fun e w' => e = .returned (.agg (bs (setN b (i * 8) x 8))) ∧ Gr w w' := by
  have hl := rlanes_any 64
  rw [show lanesI 64 = 2 by decide] at hl
  have HL := Lib.hid hl
  have hi0 : 0 ≤ (i : Int) := by omega
  have hi1 : (i : Int) < 2 := by omega
  have HX := Lib.hid (divP_bd hx0 hx1)
  have e0 : x = divP x 0 := by unfold divP; simp
  have H0 := Lib.hid e0
  clear hl e0
  go_enter Try.func40, Try.ntmps40
  go_wp2_with (go_at_call 46; refine (HL.out _).mono ?_; rintro e w' ⟨rfl, rfl⟩)
  go_loopw [3, 9] (fun y j wr => ∃ k : Nat, k ≤ 8 ∧ y = .int .u64 (divP x k) ∧ j = .int .i64 k ∧ wr = (w.alloc (.cells (bs (setN b (i * 8) x k)) 86)).alloc (.cells (bs fun _ => 0) 86)) (fun _ j _ => 8 - (intOf j).toNat)
  case atStart => exact ⟨0, by omega, by rw [← H0.out], rfl, by rw [setN_zero]⟩
  case round =>
    obtain ⟨k, hk, rfl, rfl, rfl⟩ := hrel
    by_cases hlt : k < 8
    · have h1 := bs_cell2 w (setN b (i * 8) x k) (.cells (bs fun _ => 0) 86) (i * 8 + k) (by omega)
      obtain ⟨h2, h3⟩ := HX.out k
      have H4 := Lib.hid (divP_succ x k)
      go_wp2
      exact ⟨⟨k + 1, by omega, by rw [H4.out], by go_num, by rw [bs_setL _ _ _ (by omega), setN_succ]; rfl⟩, by simp [intOf]; omega⟩
    · go_upto_region 8 with (fail)
      obtain rfl : k = 8 := by omega
      refine wp_region_lit ?_
      refine wpList_load_row rfl 86 _ rfl w.heap.size rfl 86 (bs (setN b (i * 8) x 8)) (0, 0) _ (heap_alloc2_old w _ _) Try.underlying86 rfl infoV ?_
      refine wpList_store_row rfl 86 _ _ rfl (w.heap.size + 1) (bs (setN b (i * 8) x 8)) rfl rfl 86 (bs fun _ => 0) (heap_alloc2_new w _ _) infoV rfl (bs_one _) ?_
      rw [setRow2]
      go_wp2
      exact bodyPost_ret (v := .agg (bs (setN b (i * 8) x 8))) (results_cell_row Try.results40 _ _ (w.heap.size + 1) 86 (bs (setN b (i * 8) x 8)) (0, 0) _ rfl (heap_alloc2_new w _ _) Try.underlying86 rfl infoV) rfl ⟨rfl, ((Gr.refl _).alloc _ _).alloc _ _⟩
theorem rset_no (b : Nat → Int) (v i x : Int) (h : thereB v i = false) (w : World) :
    Calls Try.prog 40 #[.agg (bs b), .int .i64 v, .int .i64 i, .int .u64 x] w fun e w' => e = .returned (.agg (bs b)) ∧ Gr w w' := by
  have hl := rlanes_any v
  have h' : ¬ (0 ≤ i ∧ i < lanesI v) := fun hh => by rw [there_iff.2 hh] at h; cases h
  have hb := lanes_bd v
  generalize lanesI v = L at *
  have HL := Lib.hid hl
  clear hl h
  by_cases h0 : L = 0
  · subst h0
    clear h' hb
    by_cases h1 : True
    · clear h1
      go_enter Try.func40, Try.ntmps40
      go_upto_region 2 with (go_at_call 46; refine (HL.out _).mono ?_; rintro e w' ⟨rfl, rfl⟩)
      refine wp_region_lit ?_
      refine wpList_load_row rfl 86 _ rfl w.heap.size rfl 86 (bs b) (0, 0) _ (heap_alloc2_old w _ _) Try.underlying86 rfl infoV ?_
      refine wpList_store_row rfl 86 _ _ rfl (w.heap.size + 1) (bs b) rfl rfl 86 (bs fun _ => 0) (heap_alloc2_new w _ _) infoV rfl (bs_one _) ?_
      rw [setRow2]
      go_wp2
      exact bodyPost_ret (v := .agg (bs b)) (results_cell_row Try.results40 _ _ (w.heap.size + 1) 86 (bs b) (0, 0) _ rfl (heap_alloc2_new w _ _) Try.underlying86 rfl infoV) rfl ⟨rfl, ((Gr.refl _).alloc _ _).alloc _ _⟩
    · exact absurd trivial h1
  · have hn : (L == 0) = false := beq_eq_false_iff_ne.2 h0
    by_cases h1 : i < 0
    · clear h' hb
      go_enter Try.func40, Try.ntmps40
      go_upto_region 2 with (go_at_call 46; refine (HL.out _).mono ?_; rintro e w' ⟨rfl, rfl⟩)
      refine wp_region_lit ?_
      refine wpList_load_row rfl 86 _ rfl w.heap.size rfl 86 (bs b) (0, 0) _ (heap_alloc2_old w _ _) Try.underlying86 rfl infoV ?_
      refine wpList_store_row rfl 86 _ _ rfl (w.heap.size + 1) (bs b) rfl rfl 86 (bs fun _ => 0) (heap_alloc2_new w _ _) infoV rfl (bs_one _) ?_
      rw [setRow2]
      go_wp2
      exact bodyPost_ret (v := .agg (bs b)) (results_cell_row Try.results40 _ _ (w.heap.size + 1) 86 (bs b) (0, 0) _ rfl (heap_alloc2_new w _ _) Try.underlying86 rfl infoV) rfl ⟨rfl, ((Gr.refl _).alloc _ _).alloc _ _⟩
    · have h2 : 0 ≤ i := by omega
      have h3 : L ≤ i := by omega
      clear h' hb h1 h0
      go_enter Try.func40, Try.ntmps40
      go_upto_region 2 with (go_at_call 46; refine (HL.out _).mono ?_; rintro e w' ⟨rfl, rfl⟩)
      refine wp_region_lit ?_
      refine wpList_load_row rfl 86 _ rfl w.heap.size rfl 86 (bs b) (0, 0) _ (heap_alloc2_old w _ _) Try.underlying86 rfl infoV ?_
      refine wpList_store_row rfl 86 _ _ rfl (w.heap.size + 1) (bs b) rfl rfl 86 (bs fun _ => 0) (heap_alloc2_new w _ _) infoV rfl (bs_one _) ?_
      rw [setRow2]
      go_wp2
      exact bodyPost_ret (v := .agg (bs b)) (results_cell_row Try.results40 _ _ (w.heap.size + 1) 86 (bs b) (0, 0) _ rfl (heap_alloc2_new w _ _) Try.underlying86 rfl infoV) rfl ⟨rfl, ((Gr.refl _).alloc _ _).alloc _ _⟩
theorem rset_any (b : Nat → Int) (v i x : Int) (hx0 : 0 ≤ x) (hx1 : x < 18446744073709551616) (w : World) :
    Calls Try.prog 40 #[.agg (bs b), .int .i64 v, .int .i64 i, .int .u64 x] w fun e w' => e = .returned (.agg (bs (setI b v i x))) ∧ Gr w w' := by
  by_cases h : thereB v i = true
  · obtain ⟨h0, _⟩ := there_iff.1 h
    obtain ⟨n, rfl⟩ := Int.eq_ofNat_of_zero_le h0
    have e : setI b v n x = setN b (n * wid v) x (wid v) := by unfold setI; rw [if_pos h, Int.toNat_natCast]
    rw [e]
    rcases there_cases h with ⟨rfl, _, h1⟩ | ⟨rfl, _, h1⟩ | ⟨rfl, _, h1⟩ | ⟨rfl, _, h1⟩
    · exact rset_8 b n x (by omega) hx0 hx1 w
    · exact rset_16 b n x (by omega) hx0 hx1 w
    · exact rset_32 b n x (by omega) hx0 hx1 w
    · exact rset_64 b n x (by omega) hx0 hx1 w
  · rw [show setI b v i x = b by unfold setI; rw [if_neg h]]
    exact rset_no b v i x (by simpa using h) w
end Go.Proofs.Ytndbgnkobodjkaa
