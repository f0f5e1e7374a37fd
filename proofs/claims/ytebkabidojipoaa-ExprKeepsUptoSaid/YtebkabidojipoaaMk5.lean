/-
  Texts of this seat, joined: Vec, Pair. Each says what it proves.
-/
import Derived.Test.YtebkabidojipoaaMk3
import Derived.ChangeKeysEq
/- Vec -/
namespace Go.Proofs.Ytebkabidojipoaa
open Go.RowKit VecM
abbrev bs (b : Nat → Int) : Array Value := #[.int .u8 (b 0), .int .u8 (b 1), .int .u8 (b 2), .int .u8 (b 3), .int .u8 (b 4), .int .u8 (b 5), .int .u8 (b 6), .int .u8 (b 7), .int .u8 (b 8), .int .u8 (b 9), .int .u8 (b 10), .int .u8 (b 11), .int .u8 (b 12), .int .u8 (b 13), .int .u8 (b 14), .int .u8 (b 15)]
theorem bs_get (b : Nat → Int) (j : Nat) (h : j < 16) : (bs b)[j]? = some (.int .u8 (b j)) := by
 match j with
 | 0 => rfl
 | 1 => rfl
 | 2 => rfl
 | 3 => rfl
 | 4 => rfl
 | 5 => rfl
 | 6 => rfl
 | 7 => rfl
 | 8 => rfl
 | 9 => rfl
 | 10 => rfl
 | 11 => rfl
 | 12 => rfl
 | 13 => rfl
 | 14 => rfl
 | 15 => rfl
 | k + 16 => omega
theorem bs_cell (w : World) (b : Nat → Int) (j : Nat) (h : j < 16) : (w.alloc (.cells (bs b) 85)).cell? ⟨w.heap.size, j, none⟩ = some (.int .u8 (b j)) := by
 have e : (w.alloc (.cells (bs b) 85)).heap[w.heap.size]? = some (.cells (bs b) 85) := (MapKept.heap_alloc w _).1
 simp only [World.cell?, e]
 exact bs_get b j h
theorem bs_cell2 (w : World) (b : Nat → Int) (o : Obj) (j : Nat) (h : j < 16) : ((w.alloc (.cells (bs b) 85)).alloc o).cell? ⟨w.heap.size, j, none⟩ = some (.int .u8 (b j)) := by
 have e : ((w.alloc (.cells (bs b) 85)).alloc o).heap[w.heap.size]? = some (.cells (bs b) 85) := by
  show ((w.heap.push _).push _)[w.heap.size]? = _
  simp only [Array.getElem?_push, Array.size_push]
  rw [if_neg (by omega), if_pos trivial]
 simp only [World.cell?, e]
 exact bs_get b j h
theorem bs_setL (c : Nat → Int) (j : Nat) (y : Int) (h : j < 16) : (([.int .u8 (c 0), .int .u8 (c 1), .int .u8 (c 2), .int .u8 (c 3), .int .u8 (c 4), .int .u8 (c 5), .int .u8 (c 6), .int .u8 (c 7), .int .u8 (c 8), .int .u8 (c 9), .int .u8 (c 10), .int .u8 (c 11), .int .u8 (c 12), .int .u8 (c 13), .int .u8 (c 14), .int .u8 (c 15)] : List Value).set j (.int .u8 y)).toArray = bs (upd c j y) := by
 match j with
 | 0 => rfl
 | 1 => rfl
 | 2 => rfl
 | 3 => rfl
 | 4 => rfl
 | 5 => rfl
 | 6 => rfl
 | 7 => rfl
 | 8 => rfl
 | 9 => rfl
 | 10 => rfl
 | 11 => rfl
 | 12 => rfl
 | 13 => rfl
 | 14 => rfl
 | 15 => rfl
 | k + 16 => omega
theorem infoV : (Try.prog.info? 85).map (·.size) = some 16 := by kernel_rfl
theorem bs_one (c : Nat → Int) : (bs c).all (·.oneCell') = true := by kernel_rfl
theorem setRow2 (w : World) (A : Obj) (c c' : Array Value) : ((w.alloc A).alloc (.cells c 85)).setRow (w.heap.size + 1) c' = (w.alloc A).alloc (.cells c' 85) := by
 have := World.setRow_alloc_new (w.alloc A) c c' 85
 rwa [show (w.alloc A).heap.size = w.heap.size + 1 by show (w.heap.push A).size = _; simp] at this
theorem lanes_any (v : Int) (w : World) : Calls Try.prog 85 #[.int .i64 v] w fun e w' => e = .returned (.int .i64 (lanesI v)) ∧ w = w' := by
 by_cases h : v = 8 ∨ v = 16 ∨ v = 32 ∨ v = 64
 ·rcases h with rfl | rfl | rfl | rfl
  all_goals
   go_enter Try.func85, Try.ntmps85
   go_wp2
   go_ret
   exact ⟨rfl, rfl⟩
 ·have h1 : (v == 8) = false := beq_eq_false_iff_ne.2 (by omega)
  have h2 : (v == 16) = false := beq_eq_false_iff_ne.2 (by omega)
  have h3 : (v == 32) = false := beq_eq_false_iff_ne.2 (by omega)
  have h4 : (v == 64) = false := beq_eq_false_iff_ne.2 (by omega)
  have e : lanesI v = 0 := by unfold lanesI; rw [if_neg (by omega), if_neg (by omega), if_neg (by omega), if_neg (by omega)]
  rw [e]
  clear h e
  go_enter Try.func85, Try.ntmps85
  go_wp2
  go_ret
  exact ⟨rfl, rfl⟩
theorem there_any (v i : Int) (w : World) : Calls Try.prog 96 #[.int .i64 v, .int .i64 i] w fun e w' => e = .returned (.bool (thereB v i)) ∧ w = w' := by
 by_cases h : 0 ≤ i
 ·have e : thereB v i = decide (i < lanesI v) := by unfold thereB; rw [decide_eq_true h]; rfl
  rw [e]
  go_enter Try.func96, Try.ntmps96
  go_wp2_with (go_at_call 85; refine (lanes_any _ _).mono ?_; rintro e w' ⟨rfl, rfl⟩)
  go_ret
  exact ⟨rfl, rfl⟩
 ·have e : thereB v i = false := by unfold thereB; rw [decide_eq_false h]; rfl
  rw [e]
  go_enter Try.func96, Try.ntmps96
  go_wp2_with (go_at_call 85; refine (lanes_any _ _).mono ?_; rintro e w' ⟨rfl, rfl⟩)
  go_ret
  exact ⟨rfl, rfl⟩
def getP (b : Nat → Int) (base : Nat) : Nat → Int
 | 0 => 0
 | k + 1 => bits .or .u64 (getP b base k) (IntKind.u64.wrap (b (base + k) * 2 ^ (8 * k)))
theorem or_sum (x y : Nat) (m : Nat) (hx : x < 2 ^ m) (hx64 : x < 18446744073709551616) (hy : y * 2 ^ m < 18446744073709551616) : bits .or .u64 (x : Int) (IntKind.u64.wrap ((y : Int) * 2 ^ m)) = ((x + y * 2 ^ m : Nat) : Int) := by
 rw [show (y : Int) * 2 ^ m = ((y * 2 ^ m : Nat) : Int) by push_cast; rfl, IntKind.wrap_u64, show (((y * 2 ^ m : Nat) : Int) % 18446744073709551616) = ((y * 2 ^ m : Nat) : Int) by omega, bits_or_u64_nat _ _ hx64 hy]
 have := Nat.two_pow_add_eq_or_of_lt hx y
 rw [Nat.or_comm, Nat.mul_comm y, ← this, Nat.add_comm]
theorem getP_sum {b : Nat → Int} (hb : Byt b) (base : Nat) : ∀ k, k ≤ 8 → getP b base k = sumN b base k
 | 0, _ => rfl
 | k + 1, hk => by
  rw [getP, getP_sum hb base k (by omega), sumN]
  obtain ⟨h0, h1⟩ := sumN_bd hb base k
  obtain ⟨b0, b1⟩ := hb (base + k)
  obtain ⟨x, hx⟩ := Int.eq_ofNat_of_zero_le h0
  obtain ⟨y, hy⟩ := Int.eq_ofNat_of_zero_le b0
  rw [hx] at h1 ⊢
  rw [hy] at b1 ⊢
  have h256 : (256 : Int) ^ k = ((2 ^ (8 * k) : Nat) : Int) := by rw [← pow8]; push_cast; rfl
  have hp : (2 : Nat) ^ (8 * k) ≤ 2 ^ 56 := Nat.pow_le_pow_right (by decide) (by omega)
  have hx2 : x < 2 ^ (8 * k) := by rw [h256] at h1; exact_mod_cast h1
  have hy2 : y * 2 ^ (8 * k) ≤ 255 * 2 ^ (8 * k) := Nat.mul_le_mul_right _ (by omega)
  have e := or_sum x y (8 * k) hx2 (by omega) (by omega)
  rw [show ((2 : Int) ^ (8 * k)) = 256 ^ k from pow8 k] at e ⊢
  rw [e, h256]; push_cast; rfl
set_option maxHeartbeats 400000 in
theorem get_8 (b : Nat → Int) (hb : Byt b) (i : Nat) (hi : i * 1 + 1 ≤ 16) (w : World) :
  Calls Try.prog 91 #[.agg (bs b), .int .i64 8, .int .i64 i] w fun e w' => e = .returned (.int .u64 (sumN b (i * 1) 1)) ∧ Gr w w' := by
 rw [Nat.mul_one]
 rw [← getP_sum hb (i) 1 (by decide)]
 have ht : thereB 8 i = true := there_iff.2 (by unfold lanesI; simp; omega)
 have HB := Lib.hid hb
 have hc := bs_cell w b
 have HC := Lib.hid hc
 clear hb hc
 go_enter Try.func91, Try.ntmps91
 go_wp2_with (go_at_call 96; refine (there_any _ _ _).mono ?_; rintro e w' ⟨rfl, rfl⟩)
 go_loop [8, 17] (fun x j => ∃ k : Nat, k ≤ 1 ∧ x = .int .u64 (getP b (i) k) ∧ j = .int .i64 k) (fun _ j => 1 - (intOf j).toNat)
 case atStart => exact ⟨0, by omega, rfl, rfl⟩
 case round =>
  obtain ⟨k, hk, rfl, rfl⟩ := hrel
  by_cases hlt : k < 1
  ·have h1 := HC.out (i + k) (by omega)
   have h2 := HB.out (i + k)
   go_wp2
   exact ⟨⟨k + 1, by omega, rfl, by go_num⟩, by simp [intOf]; omega⟩
  ·go_wp2
   obtain rfl : k = 1 := by omega
   go_ret
   exact ⟨rfl, (Gr.refl _).alloc _ _⟩
set_option maxHeartbeats 400000 in
theorem get_16 (b : Nat → Int) (hb : Byt b) (i : Nat) (hi : i * 2 + 2 ≤ 16) (w : World) :
  Calls Try.prog 91 #[.agg (bs b), .int .i64 16, .int .i64 i] w fun e w' => e = .returned (.int .u64 (sumN b (i * 2) 2)) ∧ Gr w w' := by
 rw [← getP_sum hb (i * 2) 2 (by decide)]
 have ht : thereB 16 i = true := there_iff.2 (by unfold lanesI; simp; omega)
 have HB := Lib.hid hb
 have hc := bs_cell w b
 have HC := Lib.hid hc
 clear hb hc
 go_enter Try.func91, Try.ntmps91
 go_wp2_with (go_at_call 96; refine (there_any _ _ _).mono ?_; rintro e w' ⟨rfl, rfl⟩)
 go_loop [8, 17] (fun x j => ∃ k : Nat, k ≤ 2 ∧ x = .int .u64 (getP b (i * 2) k) ∧ j = .int .i64 k) (fun _ j => 2 - (intOf j).toNat)
 case atStart => exact ⟨0, by omega, rfl, rfl⟩
 case round =>
  obtain ⟨k, hk, rfl, rfl⟩ := hrel
  by_cases hlt : k < 2
  ·have h1 := HC.out (i * 2 + k) (by omega)
   have h2 := HB.out (i * 2 + k)
   go_wp2
   exact ⟨⟨k + 1, by omega, rfl, by go_num⟩, by simp [intOf]; omega⟩
  ·go_wp2
   obtain rfl : k = 2 := by omega
   go_ret
   exact ⟨rfl, (Gr.refl _).alloc _ _⟩
set_option maxHeartbeats 400000 in
theorem get_32 (b : Nat → Int) (hb : Byt b) (i : Nat) (hi : i * 4 + 4 ≤ 16) (w : World) :
  Calls Try.prog 91 #[.agg (bs b), .int .i64 32, .int .i64 i] w fun e w' => e = .returned (.int .u64 (sumN b (i * 4) 4)) ∧ Gr w w' := by
 rw [← getP_sum hb (i * 4) 4 (by decide)]
 have ht : thereB 32 i = true := there_iff.2 (by unfold lanesI; simp; omega)
 have HB := Lib.hid hb
 have hc := bs_cell w b
 have HC := Lib.hid hc
 clear hb hc
 go_enter Try.func91, Try.ntmps91
 go_wp2_with (go_at_call 96; refine (there_any _ _ _).mono ?_; rintro e w' ⟨rfl, rfl⟩)
 go_loop [8, 17] (fun x j => ∃ k : Nat, k ≤ 4 ∧ x = .int .u64 (getP b (i * 4) k) ∧ j = .int .i64 k) (fun _ j => 4 - (intOf j).toNat)
 case atStart => exact ⟨0, by omega, rfl, rfl⟩
 case round =>
  obtain ⟨k, hk, rfl, rfl⟩ := hrel
  by_cases hlt : k < 4
  ·have h1 := HC.out (i * 4 + k) (by omega)
   have h2 := HB.out (i * 4 + k)
   go_wp2
   exact ⟨⟨k + 1, by omega, rfl, by go_num⟩, by simp [intOf]; omega⟩
  ·go_wp2
   obtain rfl : k = 4 := by omega
   go_ret
   exact ⟨rfl, (Gr.refl _).alloc _ _⟩
set_option maxHeartbeats 400000 in
theorem get_64 (b : Nat → Int) (hb : Byt b) (i : Nat) (hi : i * 8 + 8 ≤ 16) (w : World) :
  Calls Try.prog 91 #[.agg (bs b), .int .i64 64, .int .i64 i] w fun e w' => e = .returned (.int .u64 (sumN b (i * 8) 8)) ∧ Gr w w' := by
 rw [← getP_sum hb (i * 8) 8 (by decide)]
 have ht : thereB 64 i = true := there_iff.2 (by unfold lanesI; simp; omega)
 have HB := Lib.hid hb
 have hc := bs_cell w b
 have HC := Lib.hid hc
 clear hb hc
 go_enter Try.func91, Try.ntmps91
 go_wp2_with (go_at_call 96; refine (there_any _ _ _).mono ?_; rintro e w' ⟨rfl, rfl⟩)
 go_loop [8, 17] (fun x j => ∃ k : Nat, k ≤ 8 ∧ x = .int .u64 (getP b (i * 8) k) ∧ j = .int .i64 k) (fun _ j => 8 - (intOf j).toNat)
 case atStart => exact ⟨0, by omega, rfl, rfl⟩
 case round =>
  obtain ⟨k, hk, rfl, rfl⟩ := hrel
  by_cases hlt : k < 8
  ·have h1 := HC.out (i * 8 + k) (by omega)
   have h2 := HB.out (i * 8 + k)
   go_wp2
   exact ⟨⟨k + 1, by omega, rfl, by go_num⟩, by simp [intOf]; omega⟩
  ·go_wp2
   obtain rfl : k = 8 := by omega
   go_ret
   exact ⟨rfl, (Gr.refl _).alloc _ _⟩
theorem get_no (b : Nat → Int) (v i : Int) (h : thereB v i = false) (w : World) :
  Calls Try.prog 91 #[.agg (bs b), .int .i64 v, .int .i64 i] w fun e w' => e = .returned (.int .u64 0) ∧ Gr w w' := by
 go_enter Try.func91, Try.ntmps91
 go_wp2_with (go_at_call 96; refine (there_any _ _ _).mono ?_; rintro e w' ⟨rfl, rfl⟩)
 go_ret
 exact ⟨rfl, (Gr.refl _).alloc _ _⟩
theorem get_any (b : Nat → Int) (hb : Byt b) (v i : Int) (w : World) :
  Calls Try.prog 91 #[.agg (bs b), .int .i64 v, .int .i64 i] w fun e w' => e = .returned (.int .u64 (getI b v i)) ∧ Gr w w' := by
 by_cases h : thereB v i = true
 ·obtain ⟨h0, _⟩ := there_iff.1 h
  obtain ⟨n, rfl⟩ := Int.eq_ofNat_of_zero_le h0
  have e : getI b v n = sumN b (n * wid v) (wid v) := by unfold getI; rw [if_pos h, Int.toNat_natCast]
  rw [e]
  rcases there_cases h with ⟨rfl, _, h1⟩ | ⟨rfl, _, h1⟩ | ⟨rfl, _, h1⟩ | ⟨rfl, _, h1⟩
  ·exact get_8 b hb n (by omega) w
  ·exact get_16 b hb n (by omega) w
  ·exact get_32 b hb n (by omega) w
  ·exact get_64 b hb n (by omega) w
 ·rw [show getI b v i = 0 by unfold getI; rw [if_neg h]]
  exact get_no b v i (by simpa using h) w
set_option maxHeartbeats 400000 in
theorem set_8 (b : Nat → Int) (i : Nat) (x : Int) (hi : i * 1 + 1 ≤ 16) (w : World) :
  Calls Try.prog 86 #[.agg (bs b), .int .i64 8, .int .i64 i, .int .u64 x] w fun e w' => e = .returned (.agg (bs (setN b (i * 1) x 1))) ∧ Gr w w' := by
 rw [Nat.mul_one]
 have ht : thereB 8 i = true := there_iff.2 (by unfold lanesI; simp; omega)
 go_enter Try.func86, Try.ntmps86
 go_wp2_with (go_at_call 96; refine (there_any _ _ _).mono ?_; rintro e w' ⟨rfl, rfl⟩)
 go_loopw [19] (fun j wr => ∃ k : Nat, k ≤ 1 ∧ j = .int .i64 k ∧ wr = (w.alloc (.cells (bs (setN b (i) x k)) 85)).alloc (.cells (bs fun _ => 0) 85)) (fun j _ => 1 - (intOf j).toNat)
 case atStart => exact ⟨0, by omega, rfl, by rw [setN_zero]⟩
 case round =>
  obtain ⟨k, hk, rfl, rfl⟩ := hrel
  by_cases hlt : k < 1
  ·have h1 := bs_cell2 w (setN b (i) x k) (.cells (bs fun _ => 0) 85) (i + k) (by omega)
   go_wp2
   exact ⟨⟨k + 1, by omega, by go_num, by rw [bs_setL _ _ _ (by omega), setN_succ, ← pow8]⟩, by simp [intOf]; omega⟩
  ·go_upto_region 9 with (fail)
   obtain rfl : k = 1 := by omega
   refine wp_region_lit ?_
   refine wpList_load_row rfl 85 _ rfl w.heap.size rfl 85 (bs (setN b (i) x 1)) (0, 0) _ (heap_alloc2_old w _ _) Try.underlying85 rfl infoV ?_
   refine wpList_store_row rfl 85 _ _ rfl (w.heap.size + 1) (bs (setN b (i) x 1)) rfl rfl 85 (bs fun _ => 0) (heap_alloc2_new w _ _) infoV rfl (bs_one _) ?_
   rw [setRow2]
   go_wp2
   exact bodyPost_ret (v := .agg (bs (setN b (i) x 1))) (results_cell_row Try.results86 _ _ (w.heap.size + 1) 85 (bs (setN b (i) x 1)) (0, 0) _ rfl (heap_alloc2_new w _ _) Try.underlying85 rfl infoV) rfl ⟨rfl, ((Gr.refl _).alloc _ _).alloc _ _⟩
set_option maxHeartbeats 400000 in
theorem set_16 (b : Nat → Int) (i : Nat) (x : Int) (hi : i * 2 + 2 ≤ 16) (w : World) :
  Calls Try.prog 86 #[.agg (bs b), .int .i64 16, .int .i64 i, .int .u64 x] w fun e w' => e = .returned (.agg (bs (setN b (i * 2) x 2))) ∧ Gr w w' := by
 have ht : thereB 16 i = true := there_iff.2 (by unfold lanesI; simp; omega)
 go_enter Try.func86, Try.ntmps86
 go_wp2_with (go_at_call 96; refine (there_any _ _ _).mono ?_; rintro e w' ⟨rfl, rfl⟩)
 go_loopw [19] (fun j wr => ∃ k : Nat, k ≤ 2 ∧ j = .int .i64 k ∧ wr = (w.alloc (.cells (bs (setN b (i * 2) x k)) 85)).alloc (.cells (bs fun _ => 0) 85)) (fun j _ => 2 - (intOf j).toNat)
 case atStart => exact ⟨0, by omega, rfl, by rw [setN_zero]⟩
 case round =>
  obtain ⟨k, hk, rfl, rfl⟩ := hrel
  by_cases hlt : k < 2
  ·have h1 := bs_cell2 w (setN b (i * 2) x k) (.cells (bs fun _ => 0) 85) (i * 2 + k) (by omega)
   go_wp2
   exact ⟨⟨k + 1, by omega, by go_num, by rw [bs_setL _ _ _ (by omega), setN_succ, ← pow8]⟩, by simp [intOf]; omega⟩
  ·go_upto_region 9 with (fail)
   obtain rfl : k = 2 := by omega
   refine wp_region_lit ?_
   refine wpList_load_row rfl 85 _ rfl w.heap.size rfl 85 (bs (setN b (i * 2) x 2)) (0, 0) _ (heap_alloc2_old w _ _) Try.underlying85 rfl infoV ?_
   refine wpList_store_row rfl 85 _ _ rfl (w.heap.size + 1) (bs (setN b (i * 2) x 2)) rfl rfl 85 (bs fun _ => 0) (heap_alloc2_new w _ _) infoV rfl (bs_one _) ?_
   rw [setRow2]
   go_wp2
   exact bodyPost_ret (v := .agg (bs (setN b (i * 2) x 2))) (results_cell_row Try.results86 _ _ (w.heap.size + 1) 85 (bs (setN b (i * 2) x 2)) (0, 0) _ rfl (heap_alloc2_new w _ _) Try.underlying85 rfl infoV) rfl ⟨rfl, ((Gr.refl _).alloc _ _).alloc _ _⟩
set_option maxHeartbeats 400000 in
theorem set_32 (b : Nat → Int) (i : Nat) (x : Int) (hi : i * 4 + 4 ≤ 16) (w : World) :
  Calls Try.prog 86 #[.agg (bs b), .int .i64 32, .int .i64 i, .int .u64 x] w fun e w' => e = .returned (.agg (bs (setN b (i * 4) x 4))) ∧ Gr w w' := by
 have ht : thereB 32 i = true := there_iff.2 (by unfold lanesI; simp; omega)
 go_enter Try.func86, Try.ntmps86
 go_wp2_with (go_at_call 96; refine (there_any _ _ _).mono ?_; rintro e w' ⟨rfl, rfl⟩)
 go_loopw [19] (fun j wr => ∃ k : Nat, k ≤ 4 ∧ j = .int .i64 k ∧ wr = (w.alloc (.cells (bs (setN b (i * 4) x k)) 85)).alloc (.cells (bs fun _ => 0) 85)) (fun j _ => 4 - (intOf j).toNat)
 case atStart => exact ⟨0, by omega, rfl, by rw [setN_zero]⟩
 case round =>
  obtain ⟨k, hk, rfl, rfl⟩ := hrel
  by_cases hlt : k < 4
  ·have h1 := bs_cell2 w (setN b (i * 4) x k) (.cells (bs fun _ => 0) 85) (i * 4 + k) (by omega)
   go_wp2
   exact ⟨⟨k + 1, by omega, by go_num, by rw [bs_setL _ _ _ (by omega), setN_succ, ← pow8]⟩, by simp [intOf]; omega⟩
  ·go_upto_region 9 with (fail)
   obtain rfl : k = 4 := by omega
   refine wp_region_lit ?_
   refine wpList_load_row rfl 85 _ rfl w.heap.size rfl 85 (bs (setN b (i * 4) x 4)) (0, 0) _ (heap_alloc2_old w _ _) Try.underlying85 rfl infoV ?_
   refine wpList_store_row rfl 85 _ _ rfl (w.heap.size + 1) (bs (setN b (i * 4) x 4)) rfl rfl 85 (bs fun _ => 0) (heap_alloc2_new w _ _) infoV rfl (bs_one _) ?_
   rw [setRow2]
   go_wp2
   exact bodyPost_ret (v := .agg (bs (setN b (i * 4) x 4))) (results_cell_row Try.results86 _ _ (w.heap.size + 1) 85 (bs (setN b (i * 4) x 4)) (0, 0) _ rfl (heap_alloc2_new w _ _) Try.underlying85 rfl infoV) rfl ⟨rfl, ((Gr.refl _).alloc _ _).alloc _ _⟩
set_option maxHeartbeats 400000 in
theorem set_64 (b : Nat → Int) (i : Nat) (x : Int) (hi : i * 8 + 8 ≤ 16) (w : World) :
  Calls Try.prog 86 #[.agg (bs b), .int .i64 64, .int .i64 i, .int .u64 x] w fun e w' => e = .returned (.agg (bs (setN b (i * 8) x 8))) ∧ Gr w w' := by
 have ht : thereB 64 i = true := there_iff.2 (by unfold lanesI; simp; omega)
 go_enter Try.func86, Try.ntmps86
 go_wp2_with (go_at_call 96; refine (there_any _ _ _).mono ?_; rintro e w' ⟨rfl, rfl⟩)
 go_loopw [19] (fun j wr => ∃ k : Nat, k ≤ 8 ∧ j = .int .i64 k ∧ wr = (w.alloc (.cells (bs (setN b (i * 8) x k)) 85)).alloc (.cells (bs fun _ => 0) 85)) (fun j _ => 8 - (intOf j).toNat)
 case atStart => exact ⟨0, by omega, rfl, by rw [setN_zero]⟩
 case round =>
  obtain ⟨k, hk, rfl, rfl⟩ := hrel
  by_cases hlt : k < 8
  ·have h1 := bs_cell2 w (setN b (i * 8) x k) (.cells (bs fun _ => 0) 85) (i * 8 + k) (by omega)
   go_wp2
   exact ⟨⟨k + 1, by omega, by go_num, by rw [bs_setL _ _ _ (by omega), setN_succ, ← pow8]⟩, by simp [intOf]; omega⟩
  ·go_upto_region 9 with (fail)
   obtain rfl : k = 8 := by omega
   refine wp_region_lit ?_
   refine wpList_load_row rfl 85 _ rfl w.heap.size rfl 85 (bs (setN b (i * 8) x 8)) (0, 0) _ (heap_alloc2_old w _ _) Try.underlying85 rfl infoV ?_
   refine wpList_store_row rfl 85 _ _ rfl (w.heap.size + 1) (bs (setN b (i * 8) x 8)) rfl rfl 85 (bs fun _ => 0) (heap_alloc2_new w _ _) infoV rfl (bs_one _) ?_
   rw [setRow2]
   go_wp2
   exact bodyPost_ret (v := .agg (bs (setN b (i * 8) x 8))) (results_cell_row Try.results86 _ _ (w.heap.size + 1) 85 (bs (setN b (i * 8) x 8)) (0, 0) _ rfl (heap_alloc2_new w _ _) Try.underlying85 rfl infoV) rfl ⟨rfl, ((Gr.refl _).alloc _ _).alloc _ _⟩
theorem set_no (b : Nat → Int) (v i x : Int) (h : thereB v i = false) (w : World) :
  Calls Try.prog 86 #[.agg (bs b), .int .i64 v, .int .i64 i, .int .u64 x] w fun e w' => e = .returned (.agg (bs b)) ∧ Gr w w' := by
 go_enter Try.func86, Try.ntmps86
 go_upto_region 2 with (go_at_call 96; refine (there_any _ _ _).mono ?_; rintro e w' ⟨rfl, rfl⟩)
 refine wp_region_lit ?_
 refine wpList_load_row rfl 85 _ rfl w.heap.size rfl 85 (bs (b)) (0, 0) _ (heap_alloc2_old w _ _) Try.underlying85 rfl infoV ?_
 refine wpList_store_row rfl 85 _ _ rfl (w.heap.size + 1) (bs (b)) rfl rfl 85 (bs fun _ => 0) (heap_alloc2_new w _ _) infoV rfl (bs_one _) ?_
 rw [setRow2]
 go_wp2
 exact bodyPost_ret (v := .agg (bs (b))) (results_cell_row Try.results86 _ _ (w.heap.size + 1) 85 (bs (b)) (0, 0) _ rfl (heap_alloc2_new w _ _) Try.underlying85 rfl infoV) rfl ⟨rfl, ((Gr.refl _).alloc _ _).alloc _ _⟩
theorem set_any (b : Nat → Int) (v i x : Int) (w : World) :
  Calls Try.prog 86 #[.agg (bs b), .int .i64 v, .int .i64 i, .int .u64 x] w fun e w' => e = .returned (.agg (bs (setI b v i x))) ∧ Gr w w' := by
 by_cases h : thereB v i = true
 ·obtain ⟨h0, _⟩ := there_iff.1 h
  obtain ⟨n, rfl⟩ := Int.eq_ofNat_of_zero_le h0
  have e : setI b v n x = setN b (n * wid v) x (wid v) := by unfold setI; rw [if_pos h, Int.toNat_natCast]
  rw [e]
  rcases there_cases h with ⟨rfl, _, h1⟩ | ⟨rfl, _, h1⟩ | ⟨rfl, _, h1⟩ | ⟨rfl, _, h1⟩
  ·exact set_8 b n x (by omega) w
  ·exact set_16 b n x (by omega) w
  ·exact set_32 b n x (by omega) w
  ·exact set_64 b n x (by omega) w
 ·rw [show setI b v i x = b by unfold setI; rw [if_neg h]]
  exact set_no b v i x (by simpa using h) w
theorem cells5 : Try.prog.cellsOf 5 = 1 := by kernel_rfl
def vecB (b c : Nat → Int) : Bool := (List.range 16).all fun i => b i == c i
end Go.Proofs.Ytebkabidojipoaa
/- Pair -/
namespace Go.Proofs.Ytebkabidojipoaa
open Go.RowKit VecM
theorem lanes_bd (v : Int) : 0 ≤ lanesI v ∧ lanesI v ≤ 16 := by
 unfold lanesI; repeat' split
 all_goals omega
set_option maxHeartbeats 1000000 in
theorem of_lanes (v : Int) (b off cap len L : Nat) (hL : lanesI v = (L : Int)) (hcase : L ≤ len) (zs : Nat → Int) (w : World) (hl : len ≤ 9223372036854775807) (hc : ∀ j, j < len → w.cell? ⟨b, off + j, none⟩ = some (.int .u64 (zs j))) :
  Calls Try.prog 72 #[.int .i64 v, .slice (some ⟨b, off, none⟩) len cap] w fun e w' => e = .returned (.agg (bs (ofK (fun _ => 0) v zs L))) ∧ Gr w w' := by
 have HC := Lib.hid hc
 have hb : L ≤ 16 := by have := lanes_bd v; omega
 have hcon : ∀ w, Calls Try.prog 85 #[.int .i64 v] w fun e w' => e = .returned (.int .i64 (L : Int)) ∧ w = w' := by rw [← hL]; exact lanes_any v
 have HK := Lib.hid hcon
 clear hL hcon hc
 go_enter Try.func72, Try.ntmps72
 go_wp2_with (go_at_call 85; refine (HK.out _).mono ?_; rintro e w' ⟨rfl, rfl⟩)
 go_loopw [12] (fun i wr => ∃ k : Nat, k ≤ L ∧ i = .int .i64 k ∧ Gr w wr ∧ wr.heap[w.heap.size + 1]? = some (.cells (bs (ofK (fun _ => 0) v zs k)) 85 (0, 0)) ∧ wr.heap[w.heap.size]? = some (.cells (bs fun _ => 0) 85 (0, 0))) (fun i _ => L - (intOf i).toNat)
 case atStart => exact ⟨0, by omega, rfl, ((Gr.refl _).alloc _ _).alloc _ _, heap_alloc2_new w _ _, heap_alloc2_old w _ _⟩
 case round =>
  obtain ⟨k, hk, rfl, hg, hv, hr⟩ := hrel
  have HG := Lib.hid hg
  have HV := Lib.hid hv
  have HR := Lib.hid hr
  clear hg hv hr
  by_cases hlt : k < L
  ·have hkl : k < len := by omega
   go_upto_region 5 with (fail)
   refine wp_region_steady_tail 8 (by kernel_rfl) (by kernel_rfl) ?_
   simp only [List.take_succ_cons, List.take_zero, List.drop_succ_cons, List.drop_zero]
   refine steady_step (fun K hK => ?_)
   refine steady_load_row rfl 85 _ rfl (w.heap.size + 1) rfl 85 (bs (ofK (fun _ => 0) v zs k)) (0, 0) _ HV.out Try.underlying85 rfl infoV ?_
   go_simp; refine hK _ ?_; clear hK K
   iterate 5 (refine steady_step (fun K hK => ?_); apply steady_op rfl; (focus (intro wx hw; go_simp; exact ⟨rfl, hw⟩)); go_simp; refine hK _ ?_; clear hK K)
   have hcell := gr_cell (gr_trans HG.out (Gr.drew (Gr.refl _))) (HC.out k (by omega))
   refine steady_step (fun K hK => ?_)
   apply steady_op rfl
   ·intro wx hw; have hcx := gr_cell hw hcell; go_simp; exact ⟨rfl, hw⟩
   go_simp; refine hK _ ?_; clear hK K
   refine steady_step (fun K hK => ?_)
   apply steady_op rfl
   ·intro wx hw; go_simp; exact (set_any _ v k (zs k) wx).mono fun e w3 h => ⟨h.1, gr_trans hw h.2⟩
   go_simp; refine hK _ ?_; clear hK K
   refine steady_nil ?_
   intro w1 hg1
   have hs1 := Lib.hid (gr_block hg1 HV.out)
   have hs0 := Lib.hid (gr_block hg1 HR.out)
   refine wpList_store_row rfl 85 _ _ rfl (w.heap.size + 1) (bs (setI (ofK (fun _ => 0) v zs k) v k (zs k))) rfl rfl 85 (bs (ofK (fun _ => 0) v zs k)) hs1.out infoV rfl (bs_one _) ?_
   have hs2 := Lib.hid (setRow_block (c := bs (setI (ofK (fun _ => 0) v zs k) v k (zs k))) hs1.out)
   have hs3 := Lib.hid ((setRow_block_other (w := w1) (c := bs (setI (ofK (fun _ => 0) v zs k) v k (zs k))) (show w.heap.size ≠ w.heap.size + 1 by omega)).trans hs0.out)
   have hgg := Lib.hid (gr_setRow (gr_trans (Gr.drew HG.out) hg1) (g := w.heap.size + 1) (by omega) (bs (setI (ofK (fun _ => 0) v zs k) v k (zs k))))
   clear hs0 hs1 hg1 hcell
   go_wp2
   exact ⟨⟨k + 1, by omega, by go_num, hgg.out, hs2.out, hs3.out⟩, by simp [intOf]; omega⟩
  ·go_upto_region 7 with (fail)
   obtain rfl : L = k := by omega
   refine wp_region_lit ?_
   refine wpList_load_row rfl 85 _ rfl (w.heap.size + 1) rfl 85 (bs (ofK (fun _ => 0) v zs L)) (0, 0) _ HV.out Try.underlying85 rfl infoV ?_
   refine wpList_store_row rfl 85 _ _ rfl w.heap.size (bs (ofK (fun _ => 0) v zs L)) rfl rfl 85 (bs fun _ => 0) HR.out infoV rfl (bs_one _) ?_
   have hs2 := Lib.hid (setRow_block (c := bs (ofK (fun _ => 0) v zs L)) HR.out)
   have hgg := Lib.hid (gr_setRow HG.out (g := w.heap.size) (by omega) (bs (ofK (fun _ => 0) v zs L)))
   go_wp2
   exact bodyPost_ret (v := .agg (bs (ofK (fun _ => 0) v zs L))) (results_cell_row Try.results72 _ _ w.heap.size 85 _ (0, 0) _ rfl hs2.out Try.underlying85 rfl infoV) rfl ⟨rfl, hgg.out⟩
set_option maxHeartbeats 1000000 in
theorem of_len (v : Int) (b off cap len L : Nat) (hL : lanesI v = (L : Int)) (hcase : len < L) (zs : Nat → Int) (w : World) (hl : len ≤ 9223372036854775807) (hc : ∀ j, j < len → w.cell? ⟨b, off + j, none⟩ = some (.int .u64 (zs j))) :
  Calls Try.prog 72 #[.int .i64 v, .slice (some ⟨b, off, none⟩) len cap] w fun e w' => e = .returned (.agg (bs (ofK (fun _ => 0) v zs len))) ∧ Gr w w' := by
 have HC := Lib.hid hc
 have hb : L ≤ 16 := by have := lanes_bd v; omega
 have hcon : ∀ w, Calls Try.prog 85 #[.int .i64 v] w fun e w' => e = .returned (.int .i64 (L : Int)) ∧ w = w' := by rw [← hL]; exact lanes_any v
 have HK := Lib.hid hcon
 clear hL hcon hc
 go_enter Try.func72, Try.ntmps72
 go_wp2_with (go_at_call 85; refine (HK.out _).mono ?_; rintro e w' ⟨rfl, rfl⟩)
 go_loopw [12] (fun i wr => ∃ k : Nat, k ≤ len ∧ i = .int .i64 k ∧ Gr w wr ∧ wr.heap[w.heap.size + 1]? = some (.cells (bs (ofK (fun _ => 0) v zs k)) 85 (0, 0)) ∧ wr.heap[w.heap.size]? = some (.cells (bs fun _ => 0) 85 (0, 0))) (fun i _ => len - (intOf i).toNat)
 case atStart => exact ⟨0, by omega, rfl, ((Gr.refl _).alloc _ _).alloc _ _, heap_alloc2_new w _ _, heap_alloc2_old w _ _⟩
 case round =>
  obtain ⟨k, hk, rfl, hg, hv, hr⟩ := hrel
  have HG := Lib.hid hg
  have HV := Lib.hid hv
  have HR := Lib.hid hr
  clear hg hv hr
  by_cases hlt : k < len
  ·have hkl : k < len := by omega
   go_upto_region 5 with (fail)
   refine wp_region_steady_tail 8 (by kernel_rfl) (by kernel_rfl) ?_
   simp only [List.take_succ_cons, List.take_zero, List.drop_succ_cons, List.drop_zero]
   refine steady_step (fun K hK => ?_)
   refine steady_load_row rfl 85 _ rfl (w.heap.size + 1) rfl 85 (bs (ofK (fun _ => 0) v zs k)) (0, 0) _ HV.out Try.underlying85 rfl infoV ?_
   go_simp; refine hK _ ?_; clear hK K
   iterate 5 (refine steady_step (fun K hK => ?_); apply steady_op rfl; (focus (intro wx hw; go_simp; exact ⟨rfl, hw⟩)); go_simp; refine hK _ ?_; clear hK K)
   have hcell := gr_cell (gr_trans HG.out (Gr.drew (Gr.refl _))) (HC.out k (by omega))
   refine steady_step (fun K hK => ?_)
   apply steady_op rfl
   ·intro wx hw; have hcx := gr_cell hw hcell; go_simp; exact ⟨rfl, hw⟩
   go_simp; refine hK _ ?_; clear hK K
   refine steady_step (fun K hK => ?_)
   apply steady_op rfl
   ·intro wx hw; go_simp; exact (set_any _ v k (zs k) wx).mono fun e w3 h => ⟨h.1, gr_trans hw h.2⟩
   go_simp; refine hK _ ?_; clear hK K
   refine steady_nil ?_
   intro w1 hg1
   have hs1 := Lib.hid (gr_block hg1 HV.out)
   have hs0 := Lib.hid (gr_block hg1 HR.out)
   refine wpList_store_row rfl 85 _ _ rfl (w.heap.size + 1) (bs (setI (ofK (fun _ => 0) v zs k) v k (zs k))) rfl rfl 85 (bs (ofK (fun _ => 0) v zs k)) hs1.out infoV rfl (bs_one _) ?_
   have hs2 := Lib.hid (setRow_block (c := bs (setI (ofK (fun _ => 0) v zs k) v k (zs k))) hs1.out)
   have hs3 := Lib.hid ((setRow_block_other (w := w1) (c := bs (setI (ofK (fun _ => 0) v zs k) v k (zs k))) (show w.heap.size ≠ w.heap.size + 1 by omega)).trans hs0.out)
   have hgg := Lib.hid (gr_setRow (gr_trans (Gr.drew HG.out) hg1) (g := w.heap.size + 1) (by omega) (bs (setI (ofK (fun _ => 0) v zs k) v k (zs k))))
   clear hs0 hs1 hg1 hcell
   go_wp2
   exact ⟨⟨k + 1, by omega, by go_num, hgg.out, hs2.out, hs3.out⟩, by simp [intOf]; omega⟩
  ·go_upto_region 7 with (fail)
   obtain rfl : len = k := by omega
   refine wp_region_lit ?_
   refine wpList_load_row rfl 85 _ rfl (w.heap.size + 1) rfl 85 (bs (ofK (fun _ => 0) v zs len)) (0, 0) _ HV.out Try.underlying85 rfl infoV ?_
   refine wpList_store_row rfl 85 _ _ rfl w.heap.size (bs (ofK (fun _ => 0) v zs len)) rfl rfl 85 (bs fun _ => 0) HR.out infoV rfl (bs_one _) ?_
   have hs2 := Lib.hid (setRow_block (c := bs (ofK (fun _ => 0) v zs len)) HR.out)
   have hgg := Lib.hid (gr_setRow HG.out (g := w.heap.size) (by omega) (bs (ofK (fun _ => 0) v zs len)))
   go_wp2
   exact bodyPost_ret (v := .agg (bs (ofK (fun _ => 0) v zs len))) (results_cell_row Try.results72 _ _ w.heap.size 85 _ (0, 0) _ rfl hs2.out Try.underlying85 rfl infoV) rfl ⟨rfl, hgg.out⟩
def U64s (w : World) (sv : Value) (len : Nat) (zs : Nat → Int) : Prop :=
 (len = 0 ∧ ∃ x c, sv = .slice x 0 c) ∨ (len ≤ 9223372036854775807 ∧ ∃ b off cap, sv = .slice (some ⟨b, off, none⟩) len cap ∧ ∀ j, j < len → w.cell? ⟨b, off + j, none⟩ = some (.int .u64 (zs j)))
set_option maxHeartbeats 1000000 in
theorem of_nil (v : Int) (L : Nat) (hL : lanesI v = (L : Int)) (x : Option Addr) (c : Nat) (w : World) :
  Calls Try.prog 72 #[.int .i64 v, .slice x 0 c] w fun e w' => e = .returned (.agg (bs fun _ => 0)) ∧ Gr w w' := by
 have hcon : ∀ w, Calls Try.prog 85 #[.int .i64 v] w fun e w' => e = .returned (.int .i64 (L : Int)) ∧ w = w' := by rw [← hL]; exact lanes_any v
 have HK := Lib.hid hcon
 clear hL hcon
 by_cases hz : 0 < L
 ·go_enter Try.func72, Try.ntmps72
  go_wp2_with (go_at_call 85; refine (HK.out _).mono ?_; rintro e w' ⟨rfl, rfl⟩)
  refine wp_loop_rounds 1 ?_
  rw [rounds_succ]
  go_upto_region 7 with (fail)
  refine wp_region_lit ?_
  refine wpList_load_row rfl 85 _ rfl (w.heap.size + 1) rfl 85 (bs fun _ => 0) (0, 0) _ (heap_alloc2_new w _ _) Try.underlying85 rfl infoV ?_
  refine wpList_store_row rfl 85 _ _ rfl w.heap.size (bs fun _ => 0) rfl rfl 85 (bs fun _ => 0) (heap_alloc2_old w _ _) infoV rfl (bs_one _) ?_
  have hs2 := Lib.hid (setRow_block (c := bs fun _ => 0) (heap_alloc2_old w (.cells (bs fun _ => 0) 85) (.cells (bs fun _ => 0) 85)))
  have hgg := Lib.hid (gr_setRow (((Gr.refl w).alloc (bs fun _ => 0) 85).alloc (bs fun _ => 0) 85) (g := w.heap.size) (by omega) (bs fun _ => 0))
  go_wp2
  exact bodyPost_ret (v := .agg (bs fun _ => 0)) (results_cell_row Try.results72 _ _ w.heap.size 85 _ (0, 0) _ rfl hs2.out Try.underlying85 rfl infoV) rfl ⟨rfl, hgg.out⟩
 ·obtain rfl : L = 0 := by omega
  go_enter Try.func72, Try.ntmps72
  go_wp2_with (go_at_call 85; refine (HK.out _).mono ?_; rintro e w' ⟨rfl, rfl⟩)
  refine wp_loop_rounds 1 ?_
  rw [rounds_succ]
  go_upto_region 7 with (fail)
  refine wp_region_lit ?_
  refine wpList_load_row rfl 85 _ rfl (w.heap.size + 1) rfl 85 (bs fun _ => 0) (0, 0) _ (heap_alloc2_new w _ _) Try.underlying85 rfl infoV ?_
  refine wpList_store_row rfl 85 _ _ rfl w.heap.size (bs fun _ => 0) rfl rfl 85 (bs fun _ => 0) (heap_alloc2_old w _ _) infoV rfl (bs_one _) ?_
  have hs2 := Lib.hid (setRow_block (c := bs fun _ => 0) (heap_alloc2_old w (.cells (bs fun _ => 0) 85) (.cells (bs fun _ => 0) 85)))
  have hgg := Lib.hid (gr_setRow (((Gr.refl w).alloc (bs fun _ => 0) 85).alloc (bs fun _ => 0) 85) (g := w.heap.size) (by omega) (bs fun _ => 0))
  go_wp2
  exact bodyPost_ret (v := .agg (bs fun _ => 0)) (results_cell_row Try.results72 _ _ w.heap.size 85 _ (0, 0) _ rfl hs2.out Try.underlying85 rfl infoV) rfl ⟨rfl, hgg.out⟩
def ofN (v : Int) (len : Nat) : Nat := min (lanesI v).toNat len
theorem of_any (v : Int) (sv : Value) (len : Nat) (zs : Nat → Int) (w : World) (h : U64s w sv len zs) :
  Calls Try.prog 72 #[.int .i64 v, sv] w fun e w' => e = .returned (.agg (bs (ofK (fun _ => 0) v zs (ofN v len)))) ∧ Gr w w' := by
 have hb := lanes_bd v
 obtain ⟨L, hL⟩ : ∃ L : Nat, lanesI v = L := ⟨(lanesI v).toNat, by omega⟩
 have e : ofN v len = min L len := by unfold ofN; rw [hL, Int.toNat_natCast]
 rw [e]
 rcases h with ⟨rfl, x, c, rfl⟩ | ⟨hl, b, off, cap, rfl, hc⟩
 ·rw [Nat.min_zero]; exact of_nil v L hL x c w
 ·by_cases hc2 : L ≤ len
  ·rw [Nat.min_eq_left hc2]; exact of_lanes v b off cap len L hL hc2 zs w hl hc
  ·rw [Nat.min_eq_right (by omega)]; exact of_len v b off cap len L hL (by omega) zs w hl hc
theorem infoH : (Try.prog.info? 88).map (·.size) = some 2 := by kernel_rfl
set_option maxHeartbeats 1000000 in
theorem split_any (b : Nat → Int) (hb : Byt b) (w : World) :
  Calls Try.prog 78 #[.agg (bs b)] w fun e w' => e = .returned (.agg #[.int .u64 (getI b 64 0), .int .u64 (getI b 64 1)]) ∧ Gr w w' := by
 have HB := Lib.hid hb
 clear hb
 go_enter Try.func78, Try.ntmps78
 go_upto_region 1 with (fail)
 refine wp_region_steady_tail 5 (by kernel_rfl) (by kernel_rfl) ?_
 simp only [List.take_succ_cons, List.take_zero, List.drop_succ_cons, List.drop_zero]
 refine steady_step (fun K hK => ?_)
 refine steady_load_row rfl 85 _ rfl w.heap.size rfl 85 (bs b) (0, 0) _ (heap_alloc2_old w _ _) Try.underlying85 rfl infoV ?_
 go_simp; refine hK _ ?_; clear hK K
 refine steady_step (fun K hK => ?_)
 apply steady_op rfl
 ·intro wx hw; go_simp; exact (get_any b HB.out 64 0 wx).mono fun e w3 h => ⟨h.1, gr_trans hw h.2⟩
 go_simp; refine hK _ ?_; clear hK K
 refine steady_step (fun K hK => ?_)
 refine steady_load_row rfl 85 _ rfl w.heap.size rfl 85 (bs b) (0, 0) _ (heap_alloc2_old w _ _) Try.underlying85 rfl infoV ?_
 go_simp; refine hK _ ?_; clear hK K
 refine steady_step (fun K hK => ?_)
 apply steady_op rfl
 ·intro wx hw; go_simp; exact (get_any b HB.out 64 1 wx).mono fun e w3 h => ⟨h.1, gr_trans hw h.2⟩
 go_simp; refine hK _ ?_; clear hK K
 refine steady_step (fun K hK => ?_)
 refine steady_build rfl 88 _ rfl #[.int .u64 (getI b 64 0), .int .u64 (getI b 64 1)] (by kernel_rfl) ?_
 go_simp; refine hK _ ?_; clear hK K
 refine steady_nil ?_
 intro w1 hg
 have hg2 := gr_trans (Gr.drew ((((Gr.refl w).alloc _ _).alloc _ _))) hg
 refine wpList_store_row rfl 88 _ _ rfl (w.heap.size + 1) #[.int .u64 (getI b 64 0), .int .u64 (getI b 64 1)] rfl rfl 88 #[.int .u64 0, .int .u64 0] (gr_block hg (heap_alloc2_new w _ _)) infoH rfl (by kernel_rfl) ?_
 have hs := setRow_block (c := #[.int .u64 (getI b 64 0), .int .u64 (getI b 64 1)]) (gr_block hg (heap_alloc2_new w _ _))
 have HS := Lib.hid hs
 have HG := Lib.hid (gr_setRow hg2 (g := w.heap.size + 1) (by omega) #[.int .u64 (getI b 64 0), .int .u64 (getI b 64 1)])
 clear hs hg2 hg
 go_wp2
 exact bodyPost_ret (v := .agg #[.int .u64 (getI b 64 0), .int .u64 (getI b 64 1)]) (results_cell_row Try.results78 _ _ (w.heap.size + 1) 88 _ (0, 0) _ rfl HS.out Try.underlying88 rfl infoH) rfl ⟨rfl, HG.out⟩
theorem heap3n (w : World) (a b c : Obj) : (((w.alloc a).alloc b).alloc c).heap[w.heap.size + 2]? = some c := by
 have h := heap_alloc_new ((w.alloc a).alloc b) c
 rwa [show ((w.alloc a).alloc b).heap.size = w.heap.size + 2 by show ((w.heap.push a).push b).size = _; simp] at h
theorem cell3 (w : World) (a b : Obj) (c : Array Value) (t : TypeId) (j : Nat) : (((w.alloc a).alloc b).alloc (.cells c t)).cell? ⟨w.heap.size + 2, j, none⟩ = c[j]? :=
 cell_of_row _ _ j _ _ _ (heap3n w a b _)
theorem heap3 (w : World) (a b c : Obj) : (((w.alloc a).alloc b).alloc c).heap[w.heap.size + 1]? = some b := by
 have hlt : w.heap.size + 1 < ((w.alloc a).alloc b).heap.size := by show _ < ((w.heap.push a).push b).size; simp
 exact (heap_alloc_old _ _ hlt).trans (heap_alloc2_new w a b)
set_option maxHeartbeats 1000000 in
theorem join_any (lo hi : Int) (w : World) :
  Calls Try.prog 49 #[.agg #[.int .u64 lo, .int .u64 hi]] w fun e w' => e = .returned (.agg (bs (ofK (fun _ => 0) 64 (fun j => if j = 0 then lo else hi) 2))) ∧ Gr w w' := by
 go_enter Try.func49, Try.ntmps49
 go_wp2_with fail
 refine (of_any 64 _ 2 (fun j => if j = 0 then lo else hi) _ (.inr ⟨by decide, w.heap.size + 2, 0, 2, rfl, fun j hj => ?_⟩)).mono ?_
 ·match j, hj with
  | 0, _ => exact cell3 _ _ _ _ _ 0
  | 1, _ => exact cell3 _ _ _ _ _ 1
 rintro e w1 ⟨he, hg⟩
 rw [show ofN 64 2 = 2 from rfl] at he
 subst he
 simp only []
 rename_i hK
 refine hK _ _ ?_
 clear hK
 have hs := Lib.hid (gr_block hg (heap3 w _ _ _))
 have hgg := Lib.hid (gr_trans ((((Gr.refl w).alloc _ _).alloc _ _).alloc _ _) hg)
 clear hg
 refine wpList_store_row rfl 85 _ _ rfl (w.heap.size + 1) (bs (ofK (fun _ => 0) 64 (fun j => if j = 0 then lo else hi) 2)) rfl rfl 85 (bs fun _ => 0) hs.out infoV rfl (bs_one _) ?_
 have hs2 := Lib.hid (setRow_block (c := bs (ofK (fun _ => 0) 64 (fun j => if j = 0 then lo else hi) 2)) hs.out)
 have hg2 := Lib.hid (gr_setRow hgg.out (g := w.heap.size + 1) (by omega) (bs (ofK (fun _ => 0) 64 (fun j => if j = 0 then lo else hi) 2)))
 show wpList _ _ _ _ _ (w1.setRow (w.heap.size + 1) (bs (ofK (fun _ => 0) 64 (fun j => if j = 0 then lo else hi) 2)))
 go_wp2
 exact bodyPost_ret (v := .agg (bs (ofK (fun _ => 0) 64 (fun j => if j = 0 then lo else hi) 2))) (results_cell_row Try.results49 _ _ (w.heap.size + 1) 85 _ (0, 0) _ rfl hs2.out Try.underlying85 rfl infoV) rfl ⟨rfl, hg2.out⟩
end Go.Proofs.Ytebkabidojipoaa
