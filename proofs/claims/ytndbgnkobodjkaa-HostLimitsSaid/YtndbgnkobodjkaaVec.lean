/-
  The contracts of pair's functions on one vector: Lanes, there, Get, Set, Signed, Split, Of, Join; a vector is a function of its bytes' places.
-/
import Derived.Test.YtndbgnkobodjkaaSteady
import Derived.ChangeKeysEq
namespace Go.Proofs.Ytndbgnkobodjkaa
open Go.RowKit VecM
/-- sixteen bytes, as cells -/
abbrev bs (b : Nat → Int) : Array Value := #[.int .u8 (b 0), .int .u8 (b 1), .int .u8 (b 2), .int .u8 (b 3), .int .u8 (b 4), .int .u8 (b 5), .int .u8 (b 6), .int .u8 (b 7), .int .u8 (b 8), .int .u8 (b 9), .int .u8 (b 10), .int .u8 (b 11), .int .u8 (b 12), .int .u8 (b 13), .int .u8 (b 14), .int .u8 (b 15)]
theorem bs_get (b : Nat → Int) (j : Nat) (h : j < 16) : (bs b)[j]? = some (.int .u8 (b j)) := by
  match j with
  | 0 => rfl
  | 1 => rfl
  | 2 => rfl
  | 3 => rfl
  | 4 => rfl
  | 5 => rfl
  | 6 => rfl
  | 7 => rfl
  | 8 => rfl
  | 9 => rfl
  | 10 => rfl
  | 11 => rfl
  | 12 => rfl
  | 13 => rfl
  | 14 => rfl
  | 15 => rfl
  | k + 16 => omega
theorem bs_congr {b c : Nat → Int} (h : ∀ m, m < 16 → b m = c m) : bs b = bs c := by
  unfold bs
  rw [h 0 (by decide), h 1 (by decide), h 2 (by decide), h 3 (by decide), h 4 (by decide), h 5 (by decide), h 6 (by decide), h 7 (by decide), h 8 (by decide), h 9 (by decide), h 10 (by decide), h 11 (by decide), h 12 (by decide), h 13 (by decide), h 14 (by decide), h 15 (by decide)]
theorem bs_cell (w : World) (b : Nat → Int) (j : Nat) (h : j < 16) : (w.alloc (.cells (bs b) 86)).cell? ⟨w.heap.size, j, none⟩ = some (.int .u8 (b j)) := by
  have e : (w.alloc (.cells (bs b) 86)).heap[w.heap.size]? = some (.cells (bs b) 86) := (MapKept.heap_alloc w _).1
  simp only [World.cell?, e]
  exact bs_get b j h
theorem bs_cell2 (w : World) (b : Nat → Int) (o : Obj) (j : Nat) (h : j < 16) : ((w.alloc (.cells (bs b) 86)).alloc o).cell? ⟨w.heap.size, j, none⟩ = some (.int .u8 (b j)) := by
  have e : ((w.alloc (.cells (bs b) 86)).alloc o).heap[w.heap.size]? = some (.cells (bs b) 86) := by
    show ((w.heap.push _).push _)[w.heap.size]? = _
    simp only [Array.getElem?_push, Array.size_push]
    rw [if_neg (by omega), if_pos trivial]
  simp only [World.cell?, e]
  exact bs_get b j h
theorem bs_setL (c : Nat → Int) (j : Nat) (y : Int) (h : j < 16) : (([.int .u8 (c 0), .int .u8 (c 1), .int .u8 (c 2), .int .u8 (c 3), .int .u8 (c 4), .int .u8 (c 5), .int .u8 (c 6), .int .u8 (c 7), .int .u8 (c 8), .int .u8 (c 9), .int .u8 (c 10), .int .u8 (c 11), .int .u8 (c 12), .int .u8 (c 13), .int .u8 (c 14), .int .u8 (c 15)] : List Value).set j (.int .u8 y)).toArray = bs (upd c j y) := by
  match j with
  | 0 => rfl
  | 1 => rfl
  | 2 => rfl
  | 3 => rfl
  | 4 => rfl
  | 5 => rfl
  | 6 => rfl
  | 7 => rfl
  | 8 => rfl
  | 9 => rfl
  | 10 => rfl
  | 11 => rfl
  | 12 => rfl
  | 13 => rfl
  | 14 => rfl
  | 15 => rfl
  | k + 16 => omega
theorem infoV : (Try.prog.info? 86).map (·.size) = some 16 := by kernel_rfl
theorem bs_one (c : Nat → Int) : (bs c).all (·.oneCell') = true := by kernel_rfl
theorem setRow2 (w : World) (A : Obj) (c c' : Array Value) : ((w.alloc A).alloc (.cells c 86)).setRow (w.heap.size + 1) c' = (w.alloc A).alloc (.cells c' 86) := by
  have := World.setRow_alloc_new (w.alloc A) c c' 86
  rwa [show (w.alloc A).heap.size = w.heap.size + 1 by show (w.heap.push A).size = _; simp] at this
theorem lanes_any (v : Int) (w : World) : Calls Try.prog 47 #[.int .i64 v] w fun e w' => e = .returned (.int .i64 (lanesI v)) ∧ w = w' := by
  by_cases h : v = 8 ∨ v = 16 ∨ v = 32 ∨ v = 64
  · rcases h with rfl | rfl | rfl | rfl
    all_goals
      go_enter Try.func47, Try.ntmps47
      go_wp2
      go_ret
      exact ⟨rfl, rfl⟩
  · have h1 : (v == 8) = false := beq_eq_false_iff_ne.2 (by omega)
    have h2 : (v == 16) = false := beq_eq_false_iff_ne.2 (by omega)
    have h3 : (v == 32) = false := beq_eq_false_iff_ne.2 (by omega)
    have h4 : (v == 64) = false := beq_eq_false_iff_ne.2 (by omega)
    have e : lanesI v = 0 := by unfold lanesI; rw [if_neg (by omega), if_neg (by omega), if_neg (by omega), if_neg (by omega)]
    rw [e]
    clear h e
    go_enter Try.func47, Try.ntmps47
    go_wp2
    go_ret
    exact ⟨rfl, rfl⟩
theorem there_any (v i : Int) (w : World) : Calls Try.prog 49 #[.int .i64 v, .int .i64 i] w fun e w' => e = .returned (.bool (thereB v i)) ∧ w = w' := by
  by_cases h : 0 ≤ i
  · have e : thereB v i = decide (i < lanesI v) := by unfold thereB; rw [decide_eq_true h]; rfl
    rw [e]
    go_enter Try.func49, Try.ntmps49
    go_wp2_with (go_at_call 47; refine (lanes_any _ _).mono ?_; rintro e w' ⟨rfl, rfl⟩)
    go_ret
    exact ⟨rfl, rfl⟩
  · have e : thereB v i = false := by unfold thereB; rw [decide_eq_false h]; rfl
    rw [e]
    go_enter Try.func49, Try.ntmps49
    go_wp2_with (go_at_call 47; refine (lanes_any _ _).mono ?_; rintro e w' ⟨rfl, rfl⟩)
    go_ret
    exact ⟨rfl, rfl⟩
/-- Get's sum behind k bytes -/
def getP (b : Nat → Int) (base : Nat) : Nat → Int
  | 0 => 0
  | k + 1 => bits .or .u64 (getP b base k) (IntKind.u64.wrap (b (base + k) * 2 ^ (8 * k)))
theorem or_sum (x y : Nat) (m : Nat) (hx : x < 2 ^ m) (hx64 : x < 18446744073709551616) (hy : y * 2 ^ m < 18446744073709551616) : bits .or .u64 (x : Int) (IntKind.u64.wrap ((y : Int) * 2 ^ m)) = ((x + y * 2 ^ m : Nat) : Int) := by
  rw [show (y : Int) * 2 ^ m = ((y * 2 ^ m : Nat) : Int) by push_cast; rfl, IntKind.wrap_u64, show (((y * 2 ^ m : Nat) : Int) % 18446744073709551616) = ((y * 2 ^ m : Nat) : Int) by omega, bits_or_u64_nat _ _ hx64 hy]
  have := Nat.two_pow_add_eq_or_of_lt hx y
  rw [Nat.or_comm, Nat.mul_comm y, ← this, Nat.add_comm]
theorem getP_sum {b : Nat → Int} (hb : Byt b) (base : Nat) : ∀ k, k ≤ 8 → getP b base k = sumN b base k
  | 0, _ => rfl
  | k + 1, hk => by
    rw [getP, getP_sum hb base k (by omega), sumN]
    obtain ⟨h0, h1⟩ := sumN_bd hb base k
    obtain ⟨b0, b1⟩ := hb (base + k)
    obtain ⟨x, hx⟩ := Int.eq_ofNat_of_zero_le h0
    obtain ⟨y, hy⟩ := Int.eq_ofNat_of_zero_le b0
    rw [hx] at h1 ⊢
    rw [hy] at b1 ⊢
    have h256 : (256 : Int) ^ k = ((2 ^ (8 * k) : Nat) : Int) := by rw [← pow8]; push_cast; rfl
    have hp : (2 : Nat) ^ (8 * k) ≤ 2 ^ 56 := Nat.pow_le_pow_right (by decide) (by omega)
    have hx2 : x < 2 ^ (8 * k) := by rw [h256] at h1; exact_mod_cast h1
    have hy2 : y * 2 ^ (8 * k) ≤ 255 * 2 ^ (8 * k) := Nat.mul_le_mul_right _ (by omega)
    have e := or_sum x y (8 * k) hx2 (by omega) (by omega)
    rw [show ((2 : Int) ^ (8 * k)) = 256 ^ k from pow8 k] at e ⊢
    rw [e, h256]; push_cast; rfl
set_option maxHeartbeats 400000 in
theorem get_8 (b : Nat → Int) (hb : Byt b) (i : Nat) (hi : i * 1 + 1 ≤ 16) (w : World) :
    Calls Try.prog 45 #[.agg (bs b), .int .i64 8, .int .i64 i] w fun e w' => e = .returned (.int .u64 (sumN b (i * 1) 1)) ∧ Gr w w' := by
  rw [Nat.mul_one]
  rw [← getP_sum hb (i) 1 (by decide)]
  have ht : thereB 8 i = true := there_iff.2 (by unfold lanesI; simp; omega)
  have HB := Lib.hid hb
  have hc := bs_cell w b
  have HC := Lib.hid hc
  clear hb hc
  go_enter Try.func45, Try.ntmps45
  go_wp2_with (go_at_call 49; refine (there_any _ _ _).mono ?_; rintro e w' ⟨rfl, rfl⟩)
  go_loop [8, 17] (fun x j => ∃ k : Nat, k ≤ 1 ∧ x = .int .u64 (getP b (i) k) ∧ j = .int .i64 k) (fun _ j => 1 - (intOf j).toNat)
  case atStart => exact ⟨0, by omega, rfl, rfl⟩
  case round =>
    obtain ⟨k, hk, rfl, rfl⟩ := hrel
    by_cases hlt : k < 1
    · have h1 := HC.out (i + k) (by omega)
      have h2 := HB.out (i + k)
      go_wp2
      exact ⟨⟨k + 1, by omega, rfl, by go_num⟩, by simp [intOf]; omega⟩
    · go_wp2
      obtain rfl : k = 1 := by omega
      go_ret
      exact ⟨rfl, (Gr.refl _).alloc _ _⟩
set_option maxHeartbeats 400000 in
theorem get_16 (b : Nat → Int) (hb : Byt b) (i : Nat) (hi : i * 2 + 2 ≤ 16) (w : World) :
    Calls Try.prog 45 #[.agg (bs b), .int .i64 16, .int .i64 i] w fun e w' => e = .returned (.int .u64 (sumN b (i * 2) 2)) ∧ Gr w w' := by
  rw [← getP_sum hb (i * 2) 2 (by decide)]
  have ht : thereB 16 i = true := there_iff.2 (by unfold lanesI; simp; omega)
  have HB := Lib.hid hb
  have hc := bs_cell w b
  have HC := Lib.hid hc
  clear hb hc
  go_enter Try.func45, Try.ntmps45
  go_wp2_with (go_at_call 49; refine (there_any _ _ _).mono ?_; rintro e w' ⟨rfl, rfl⟩)
  go_loop [8, 17] (fun x j => ∃ k : Nat, k ≤ 2 ∧ x = .int .u64 (getP b (i * 2) k) ∧ j = .int .i64 k) (fun _ j => 2 - (intOf j).toNat)
  case atStart => exact ⟨0, by omega, rfl, rfl⟩
  case round =>
    obtain ⟨k, hk, rfl, rfl⟩ := hrel
    by_cases hlt : k < 2
    · have h1 := HC.out (i * 2 + k) (by omega)
      have h2 := HB.out (i * 2 + k)
      go_wp2
      exact ⟨⟨k + 1, by omega, rfl, by go_num⟩, by simp [intOf]; omega⟩
    · go_wp2
      obtain rfl : k = 2 := by omega
      go_ret
      exact ⟨rfl, (Gr.refl _).alloc _ _⟩
set_option maxHeartbeats 400000 in
theorem get_32 (b : Nat → Int) (hb : Byt b) (i : Nat) (hi : i * 4 + 4 ≤ 16) (w : World) :
    Calls Try.prog 45 #[.agg (bs b), .int .i64 32, .int .i64 i] w fun e w' => e = .returned (.int .u64 (sumN b (i * 4) 4)) ∧ Gr w w' := by
  rw [← getP_sum hb (i * 4) 4 (by decide)]
  have ht : thereB 32 i = true := there_iff.2 (by unfold lanesI; simp; omega)
  have HB := Lib.hid hb
  have hc := bs_cell w b
  have HC := Lib.hid hc
  clear hb hc
  go_enter Try.func45, Try.ntmps45
  go_wp2_with (go_at_call 49; refine (there_any _ _ _).mono ?_; rintro e w' ⟨rfl, rfl⟩)
  go_loop [8, 17] (fun x j => ∃ k : Nat, k ≤ 4 ∧ x = .int .u64 (getP b (i * 4) k) ∧ j = .int .i64 k) (fun _ j => 4 - (intOf j).toNat)
  case atStart => exact ⟨0, by omega, rfl, rfl⟩
  case round =>
    obtain ⟨k, hk, rfl, rfl⟩ := hrel
    by_cases hlt : k < 4
    · have h1 := HC.out (i * 4 + k) (by omega)
      have h2 := HB.out (i * 4 + k)
      go_wp2
      exact ⟨⟨k + 1, by omega, rfl, by go_num⟩, by simp [intOf]; omega⟩
    · go_wp2
      obtain rfl : k = 4 := by omega
      go_ret
      exact ⟨rfl, (Gr.refl _).alloc _ _⟩
set_option maxHeartbeats 400000 in
theorem get_64 (b : Nat → Int) (hb : Byt b) (i : Nat) (hi : i * 8 + 8 ≤ 16) (w : World) :
    Calls Try.prog 45 #[.agg (bs b), .int .i64 64, .int .i64 i] w fun e w' => e = .returned (.int .u64 (sumN b (i * 8) 8)) ∧ Gr w w' := by
  rw [← getP_sum hb (i * 8) 8 (by decide)]
  have ht : thereB 64 i = true := there_iff.2 (by unfold lanesI; simp; omega)
  have HB := Lib.hid hb
  have hc := bs_cell w b
  have HC := Lib.hid hc
  clear hb hc
  go_enter Try.func45, Try.ntmps45
  go_wp2_with (go_at_call 49; refine (there_any _ _ _).mono ?_; rintro e w' ⟨rfl, rfl⟩)
  go_loop [8, 17] (fun x j => ∃ k : Nat, k ≤ 8 ∧ x = .int .u64 (getP b (i * 8) k) ∧ j = .int .i64 k) (fun _ j => 8 - (intOf j).toNat)
  case atStart => exact ⟨0, by omega, rfl, rfl⟩
  case round =>
    obtain ⟨k, hk, rfl, rfl⟩ := hrel
    by_cases hlt : k < 8
    · have h1 := HC.out (i * 8 + k) (by omega)
      have h2 := HB.out (i * 8 + k)
      go_wp2
      exact ⟨⟨k + 1, by omega, rfl, by go_num⟩, by simp [intOf]; omega⟩
    · go_wp2
      obtain rfl : k = 8 := by omega
      go_ret
      exact ⟨rfl, (Gr.refl _).alloc _ _⟩
theorem get_no (b : Nat → Int) (v i : Int) (h : thereB v i = false) (w : World) :
    Calls Try.prog 45 #[.agg (bs b), .int .i64 v, .int .i64 i] w fun e w' => e = .returned (.int .u64 0) ∧ Gr w w' := by
  go_enter Try.func45, Try.ntmps45
  go_wp2_with (go_at_call 49; refine (there_any _ _ _).mono ?_; rintro e w' ⟨rfl, rfl⟩)
  go_ret
  exact ⟨rfl, (Gr.refl _).alloc _ _⟩
theorem get_any (b : Nat → Int) (hb : Byt b) (v i : Int) (w : World) :
    Calls Try.prog 45 #[.agg (bs b), .int .i64 v, .int .i64 i] w fun e w' => e = .returned (.int .u64 (getI b v i)) ∧ Gr w w' := by
  by_cases h : thereB v i = true
  · obtain ⟨h0, _⟩ := there_iff.1 h
    obtain ⟨n, rfl⟩ := Int.eq_ofNat_of_zero_le h0
    have e : getI b v n = sumN b (n * wid v) (wid v) := by unfold getI; rw [if_pos h, Int.toNat_natCast]
    rw [e]
    rcases there_cases h with ⟨rfl, _, h1⟩ | ⟨rfl, _, h1⟩ | ⟨rfl, _, h1⟩ | ⟨rfl, _, h1⟩
    · exact get_8 b hb n (by omega) w
    · exact get_16 b hb n (by omega) w
    · exact get_32 b hb n (by omega) w
    · exact get_64 b hb n (by omega) w
  · rw [show getI b v i = 0 by unfold getI; rw [if_neg h]]
    exact get_no b v i (by simpa using h) w
set_option maxHeartbeats 400000 in
theorem set_8 (b : Nat → Int) (i : Nat) (x : Int) (hi : i * 1 + 1 ≤ 16) (w : World) :
    Calls Try.prog 48 #[.agg (bs b), .int .i64 8, .int .i64 i, .int .u64 x] w fun e w' => e = .returned (.agg (bs (setN b (i * 1) x 1))) ∧ Gr w w' := by
  rw [Nat.mul_one]
  have ht : thereB 8 i = true := there_iff.2 (by unfold lanesI; simp; omega)
  go_enter Try.func48, Try.ntmps48
  go_wp2_with (go_at_call 49; refine (there_any _ _ _).mono ?_; rintro e w' ⟨rfl, rfl⟩)
  go_loopw [19] (fun j wr => ∃ k : Nat, k ≤ 1 ∧ j = .int .i64 k ∧ wr = (w.alloc (.cells (bs (setN b (i) x k)) 86)).alloc (.cells (bs fun _ => 0) 86)) (fun j _ => 1 - (intOf j).toNat)
  case atStart => exact ⟨0, by omega, rfl, by rw [setN_zero]⟩
  case round =>
    obtain ⟨k, hk, rfl, rfl⟩ := hrel
    by_cases hlt : k < 1
    · have h1 := bs_cell2 w (setN b (i) x k) (.cells (bs fun _ => 0) 86) (i + k) (by omega)
      go_wp2
      exact ⟨⟨k + 1, by omega, by go_num, by rw [bs_setL _ _ _ (by omega), setN_succ, ← pow8]⟩, by simp [intOf]; omega⟩
    · go_upto_region 9 with (fail)
      obtain rfl : k = 1 := by omega
      refine wp_region_lit ?_
      refine wpList_load_row rfl 86 _ rfl w.heap.size rfl 86 (bs (setN b (i) x 1)) (0, 0) _ (heap_alloc2_old w _ _) Try.underlying86 rfl infoV ?_
      refine wpList_store_row rfl 86 _ _ rfl (w.heap.size + 1) (bs (setN b (i) x 1)) rfl rfl 86 (bs fun _ => 0) (heap_alloc2_new w _ _) infoV rfl (bs_one _) ?_
      rw [setRow2]
      go_wp2
      exact bodyPost_ret (v := .agg (bs (setN b (i) x 1))) (results_cell_row Try.results48 _ _ (w.heap.size + 1) 86 (bs (setN b (i) x 1)) (0, 0) _ rfl (heap_alloc2_new w _ _) Try.underlying86 rfl infoV) rfl ⟨rfl, ((Gr.refl _).alloc _ _).alloc _ _⟩
set_option maxHeartbeats 400000 in
theorem set_16 (b : Nat → Int) (i : Nat) (x : Int) (hi : i * 2 + 2 ≤ 16) (w : World) :
    Calls Try.prog 48 #[.agg (bs b), .int .i64 16, .int .i64 i, .int .u64 x] w fun e w' => e = .returned (.agg (bs (setN b (i * 2) x 2))) ∧ Gr w w' := by
  have ht : thereB 16 i = true := there_iff.2 (by unfold lanesI; simp; omega)
  go_enter Try.func48, Try.ntmps48
  go_wp2_with (go_at_call 49; refine (there_any _ _ _).mono ?_; rintro e w' ⟨rfl, rfl⟩)
  go_loopw [19] (fun j wr => ∃ k : Nat, k ≤ 2 ∧ j = .int .i64 k ∧ wr = (w.alloc (.cells (bs (setN b (i * 2) x k)) 86)).alloc (.cells (bs fun _ => 0) 86)) (fun j _ => 2 - (intOf j).toNat)
  case atStart => exact ⟨0, by omega, rfl, by rw [setN_zero]⟩
  case round =>
    obtain ⟨k, hk, rfl, rfl⟩ := hrel
    by_cases hlt : k < 2
    · have h1 := bs_cell2 w (setN b (i * 2) x k) (.cells (bs fun _ => 0) 86) (i * 2 + k) (by omega)
      go_wp2
      exact ⟨⟨k + 1, by omega, by go_num, by rw [bs_setL _ _ _ (by omega), setN_succ, ← pow8]⟩, by simp [intOf]; omega⟩
    · go_upto_region 9 with (fail)
      obtain rfl : k = 2 := by omega
      refine wp_region_lit ?_
      refine wpList_load_row rfl 86 _ rfl w.heap.size rfl 86 (bs (setN b (i * 2) x 2)) (0, 0) _ (heap_alloc2_old w _ _) Try.underlying86 rfl infoV ?_
      refine wpList_store_row rfl 86 _ _ rfl (w.heap.size + 1) (bs (setN b (i * 2) x 2)) rfl rfl 86 (bs fun _ => 0) (heap_alloc2_new w _ _) infoV rfl (bs_one _) ?_
      rw [setRow2]
      go_wp2
      exact bodyPost_ret (v := .agg (bs (setN b (i * 2) x 2))) (results_cell_row Try.results48 _ _ (w.heap.size + 1) 86 (bs (setN b (i * 2) x 2)) (0, 0) _ rfl (heap_alloc2_new w _ _) Try.underlying86 rfl infoV) rfl ⟨rfl, ((Gr.refl _).alloc _ _).alloc _ _⟩
set_option maxHeartbeats 400000 in
theorem set_32 (b : Nat → Int) (i : Nat) (x : Int) (hi : i * 4 + 4 ≤ 16) (w : World) :
    Calls Try.prog 48 #[.agg (bs b), .int .i64 32, .int .i64 i, .int .u64 x] w fun e w' => e = .returned (.agg (bs (setN b (i * 4) x 4))) ∧ Gr w w' := by
  have ht : thereB 32 i = true := there_iff.2 (by unfold lanesI; simp; omega)
  go_enter Try.func48, Try.ntmps48
  go_wp2_with (go_at_call 49; refine (there_any _ _ _).mono ?_; rintro e w' ⟨rfl, rfl⟩)
  go_loopw [19] (fun j wr => ∃ k : Nat, k ≤ 4 ∧ j = .int .i64 k ∧ wr = (w.alloc (.cells (bs (setN b (i * 4) x k)) 86)).alloc (.cells (bs fun _ => 0) 86)) (fun j _ => 4 - (intOf j).toNat)
  case atStart => exact ⟨0, by omega, rfl, by rw [setN_zero]⟩
  case round =>
    obtain ⟨k, hk, rfl, rfl⟩ := hrel
    by_cases hlt : k < 4
    · have h1 := bs_cell2 w (setN b (i * 4) x k) (.cells (bs fun _ => 0) 86) (i * 4 + k) (by omega)
      go_wp2
      exact ⟨⟨k + 1, by omega, by go_num, by rw [bs_setL _ _ _ (by omega), setN_succ, ← pow8]⟩, by simp [intOf]; omega⟩
    · go_upto_region 9 with (fail)
      obtain rfl : k = 4 := by omega
      refine wp_region_lit ?_
      refine wpList_load_row rfl 86 _ rfl w.heap.size rfl 86 (bs (setN b (i * 4) x 4)) (0, 0) _ (heap_alloc2_old w _ _) Try.underlying86 rfl infoV ?_
      refine wpList_store_row rfl 86 _ _ rfl (w.heap.size + 1) (bs (setN b (i * 4) x 4)) rfl rfl 86 (bs fun _ => 0) (heap_alloc2_new w _ _) infoV rfl (bs_one _) ?_
      rw [setRow2]
      go_wp2
      exact bodyPost_ret (v := .agg (bs (setN b (i * 4) x 4))) (results_cell_row Try.results48 _ _ (w.heap.size + 1) 86 (bs (setN b (i * 4) x 4)) (0, 0) _ rfl (heap_alloc2_new w _ _) Try.underlying86 rfl infoV) rfl ⟨rfl, ((Gr.refl _).alloc _ _).alloc _ _⟩
set_option maxHeartbeats 400000 in
theorem set_64 (b : Nat → Int) (i : Nat) (x : Int) (hi : i * 8 + 8 ≤ 16) (w : World) :
    Calls Try.prog 48 #[.agg (bs b), .int .i64 64, .int .i64 i, .int .u64 x] w fun e w' => e = .returned (.agg (bs (setN b (i * 8) x 8))) ∧ Gr w w' := by
  have ht : thereB 64 i = true := there_iff.2 (by unfold lanesI; simp; omega)
  go_enter Try.func48, Try.ntmps48
  go_wp2_with (go_at_call 49; refine (there_any _ _ _).mono ?_; rintro e w' ⟨rfl, rfl⟩)
  go_loopw [19] (fun j wr => ∃ k : Nat, k ≤ 8 ∧ j = .int .i64 k ∧ wr = (w.alloc (.cells (bs (setN b (i * 8) x k)) 86)).alloc (.cells (bs fun _ => 0) 86)) (fun j _ => 8 - (intOf j).toNat)
  case atStart => exact ⟨0, by omega, rfl, by rw [setN_zero]⟩
  case round =>
    obtain ⟨k, hk, rfl, rfl⟩ := hrel
    by_cases hlt : k < 8
    · have h1 := bs_cell2 w (setN b (i * 8) x k) (.cells (bs fun _ => 0) 86) (i * 8 + k) (by omega)
      go_wp2
      exact ⟨⟨k + 1, by omega, by go_num, by rw [bs_setL _ _ _ (by omega), setN_succ, ← pow8]⟩, by simp [intOf]; omega⟩
    · go_upto_region 9 with (fail)
      obtain rfl : k = 8 := by omega
      refine wp_region_lit ?_
      refine wpList_load_row rfl 86 _ rfl w.heap.size rfl 86 (bs (setN b (i * 8) x 8)) (0, 0) _ (heap_alloc2_old w _ _) Try.underlying86 rfl infoV ?_
      refine wpList_store_row rfl 86 _ _ rfl (w.heap.size + 1) (bs (setN b (i * 8) x 8)) rfl rfl 86 (bs fun _ => 0) (heap_alloc2_new w _ _) infoV rfl (bs_one _) ?_
      rw [setRow2]
      go_wp2
      exact bodyPost_ret (v := .agg (bs (setN b (i * 8) x 8))) (results_cell_row Try.results48 _ _ (w.heap.size + 1) 86 (bs (setN b (i * 8) x 8)) (0, 0) _ rfl (heap_alloc2_new w _ _) Try.underlying86 rfl infoV) rfl ⟨rfl, ((Gr.refl _).alloc _ _).alloc _ _⟩
theorem set_no (b : Nat → Int) (v i x : Int) (h : thereB v i = false) (w : World) :
    Calls Try.prog 48 #[.agg (bs b), .int .i64 v, .int .i64 i, .int .u64 x] w fun e w' => e = .returned (.agg (bs b)) ∧ Gr w w' := by
  go_enter Try.func48, Try.ntmps48
  go_upto_region 2 with (go_at_call 49; refine (there_any _ _ _).mono ?_; rintro e w' ⟨rfl, rfl⟩)
  refine wp_region_lit ?_
  refine wpList_load_row rfl 86 _ rfl w.heap.size rfl 86 (bs (b)) (0, 0) _ (heap_alloc2_old w _ _) Try.underlying86 rfl infoV ?_
  refine wpList_store_row rfl 86 _ _ rfl (w.heap.size + 1) (bs (b)) rfl rfl 86 (bs fun _ => 0) (heap_alloc2_new w _ _) infoV rfl (bs_one _) ?_
  rw [setRow2]
  go_wp2
  exact bodyPost_ret (v := .agg (bs (b))) (results_cell_row Try.results48 _ _ (w.heap.size + 1) 86 (bs (b)) (0, 0) _ rfl (heap_alloc2_new w _ _) Try.underlying86 rfl infoV) rfl ⟨rfl, ((Gr.refl _).alloc _ _).alloc _ _⟩
theorem set_any (b : Nat → Int) (v i x : Int) (w : World) :
    Calls Try.prog 48 #[.agg (bs b), .int .i64 v, .int .i64 i, .int .u64 x] w fun e w' => e = .returned (.agg (bs (setI b v i x))) ∧ Gr w w' := by
  by_cases h : thereB v i = true
  · obtain ⟨h0, _⟩ := there_iff.1 h
    obtain ⟨n, rfl⟩ := Int.eq_ofNat_of_zero_le h0
    have e : setI b v n x = setN b (n * wid v) x (wid v) := by unfold setI; rw [if_pos h, Int.toNat_natCast]
    rw [e]
    rcases there_cases h with ⟨rfl, _, h1⟩ | ⟨rfl, _, h1⟩ | ⟨rfl, _, h1⟩ | ⟨rfl, _, h1⟩
    · exact set_8 b n x (by omega) w
    · exact set_16 b n x (by omega) w
    · exact set_32 b n x (by omega) w
    · exact set_64 b n x (by omega) w
  · rw [show setI b v i x = b by unfold setI; rw [if_neg h]]
    exact set_no b v i x (by simpa using h) w
/-! ### vectors held against each other -/
theorem cells5 : Try.prog.cellsOf 5 = 1 := by kernel_rfl
theorem run_part_bs (b : Nat → Int) (j : Nat) (hj : j < 16) (w : World) : (part 5 (bs b) j).run Try.prog w = .ok (.int .u8 (b j)) w := by
  have h := bs_get b j hj
  simp [part, isAgg, run_underlying Try.underlying5, h]
theorem eqItems_bs (b c : Nat → Int) (d : Nat) (w : World) : ∀ is : List Nat, (∀ i ∈ is, i < 16) → (Op.eqItems (d + 1) 5 1 (bs b) (bs c) is).run Try.prog w = .ok (is.all fun i => b i == c i) w
  | [], _ => by simp [Op.eqItems]
  | i :: is, h => by
    have hi := h i (by simp)
    have ih := eqItems_bs b c d w is fun j hj => h j (by simp [hj])
    have h1 := run_part_bs b i hi w
    have h2 := run_part_bs c i hi w
    have h3 : (Op.equalIn (d + 1) 5 (.int .u8 (b i)) (.int .u8 (c i))).run Try.prog w = .ok (b i == c i) w := by
      simp [Op.equalIn, run_underlying Try.underlying5]
    simp only [Op.eqItems, Nat.mul_one, Sem.run_bind, h1, h2, h3, Result.andThen_ok]
    by_cases hq : (b i == c i) = true
    · rw [hq]; simp [ih, hq]
    · have hq' : (b i == c i) = false := by simpa using hq
      rw [hq']; simp [hq']
def vecB (b c : Nat → Int) : Bool := (List.range 16).all fun i => b i == c i
theorem eq_vec (b c : Nat → Int) (w : World) : (Op.equalIn 10000 86 (.agg (bs b)) (.agg (bs c))).run Try.prog w = .ok (vecB b c) w := by
  obtain ⟨i5, hi5⟩ : ∃ i, Try.prog.info? 5 = some i := by
    cases h : Try.prog.info? 5 with
    | none => exact absurd (show (Try.prog.info? 5).isSome = true by kernel_rfl) (by rw [h]; decide)
    | some i => exact ⟨i, rfl⟩
  rw [show (10000 : Nat) = 9999 + 1 from rfl, run_equalIn_array w 9999 _ _ Try.underlying86 hi5, cells5]
  exact eqItems_bs b c 9998 w _ fun i hi => List.mem_range.1 hi
theorem vecB_refl (b : Nat → Int) : vecB b b = true := by unfold vecB; simp
end Go.Proofs.Ytndbgnkobodjkaa
