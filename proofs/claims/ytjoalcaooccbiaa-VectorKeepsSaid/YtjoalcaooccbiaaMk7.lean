/-
  Texts of this seat, joined: Vec, Ev, EvS, SlV, SlQ, Sn, SlC, SlI, SlP, Pair, MvSh, Sig, MvEx, ArShP, ArLane. Each says what it proves.
-/
import Derived.Test.YtjoalcaooccbiaaMk5
import Derived.ChangeKeysEq
/- Vec -/
namespace Go.Proofs.Ytjoalcaooccbiaa
open Go.RowKit VecM
abbrev bs (b : Nat → Int) : Array Value := #[.int .u8 (b 0), .int .u8 (b 1), .int .u8 (b 2), .int .u8 (b 3), .int .u8 (b 4), .int .u8 (b 5), .int .u8 (b 6), .int .u8 (b 7), .int .u8 (b 8), .int .u8 (b 9), .int .u8 (b 10), .int .u8 (b 11), .int .u8 (b 12), .int .u8 (b 13), .int .u8 (b 14), .int .u8 (b 15)]
theorem bs_get (b : Nat → Int) (j : Nat) (h : j < 16) : (bs b)[j]? = some (.int .u8 (b j)) := by
 match j with
 | 0 => rfl
 | 1 => rfl
 | 2 => rfl
 | 3 => rfl
 | 4 => rfl
 | 5 => rfl
 | 6 => rfl
 | 7 => rfl
 | 8 => rfl
 | 9 => rfl
 | 10 => rfl
 | 11 => rfl
 | 12 => rfl
 | 13 => rfl
 | 14 => rfl
 | 15 => rfl
 | k + 16 => omega
theorem bs_congr {b c : Nat → Int} (h : ∀ m, m < 16 → b m = c m) : bs b = bs c := by
 unfold bs
 rw [h 0 (by decide), h 1 (by decide), h 2 (by decide), h 3 (by decide), h 4 (by decide), h 5 (by decide), h 6 (by decide), h 7 (by decide), h 8 (by decide), h 9 (by decide), h 10 (by decide), h 11 (by decide), h 12 (by decide), h 13 (by decide), h 14 (by decide), h 15 (by decide)]
theorem bs_cell (w : World) (b : Nat → Int) (j : Nat) (h : j < 16) : (w.alloc (.cells (bs b) 40)).cell? ⟨w.heap.size, j, none⟩ = some (.int .u8 (b j)) := by
 have e : (w.alloc (.cells (bs b) 40)).heap[w.heap.size]? = some (.cells (bs b) 40) := (MapKept.heap_alloc w _).1
 simp only [World.cell?, e]
 exact bs_get b j h
theorem bs_cell2 (w : World) (b : Nat → Int) (o : Obj) (j : Nat) (h : j < 16) : ((w.alloc (.cells (bs b) 40)).alloc o).cell? ⟨w.heap.size, j, none⟩ = some (.int .u8 (b j)) := by
 have e : ((w.alloc (.cells (bs b) 40)).alloc o).heap[w.heap.size]? = some (.cells (bs b) 40) := by
  show ((w.heap.push _).push _)[w.heap.size]? = _
  simp only [Array.getElem?_push, Array.size_push]
  rw [if_neg (by omega), if_pos trivial]
 simp only [World.cell?, e]
 exact bs_get b j h
theorem bs_setL (c : Nat → Int) (j : Nat) (y : Int) (h : j < 16) : (([.int .u8 (c 0), .int .u8 (c 1), .int .u8 (c 2), .int .u8 (c 3), .int .u8 (c 4), .int .u8 (c 5), .int .u8 (c 6), .int .u8 (c 7), .int .u8 (c 8), .int .u8 (c 9), .int .u8 (c 10), .int .u8 (c 11), .int .u8 (c 12), .int .u8 (c 13), .int .u8 (c 14), .int .u8 (c 15)] : List Value).set j (.int .u8 y)).toArray = bs (upd c j y) := by
 match j with
 | 0 => rfl
 | 1 => rfl
 | 2 => rfl
 | 3 => rfl
 | 4 => rfl
 | 5 => rfl
 | 6 => rfl
 | 7 => rfl
 | 8 => rfl
 | 9 => rfl
 | 10 => rfl
 | 11 => rfl
 | 12 => rfl
 | 13 => rfl
 | 14 => rfl
 | 15 => rfl
 | k + 16 => omega
theorem infoV : (Try.prog.info? 40).map (·.size) = some 16 := by kernel_rfl
theorem bs_one (c : Nat → Int) : (bs c).all (·.oneCell') = true := by kernel_rfl
theorem setRow2 (w : World) (A : Obj) (c c' : Array Value) : ((w.alloc A).alloc (.cells c 40)).setRow (w.heap.size + 1) c' = (w.alloc A).alloc (.cells c' 40) := by
 have := World.setRow_alloc_new (w.alloc A) c c' 40
 rwa [show (w.alloc A).heap.size = w.heap.size + 1 by show (w.heap.push A).size = _; simp] at this
theorem lanes_any (v : Int) (w : World) : Calls Try.prog 37 #[.int .i64 v] w fun e w' => e = .returned (.int .i64 (lanesI v)) ∧ w = w' := by
 by_cases h : v = 8 ∨ v = 16 ∨ v = 32 ∨ v = 64
 ·rcases h with rfl | rfl | rfl | rfl
  all_goals
   go_enter Try.func37, Try.ntmps37
   go_wp2
   go_ret
   exact ⟨rfl, rfl⟩
 ·have h1 : (v == 8) = false := beq_eq_false_iff_ne.2 (by omega)
  have h2 : (v == 16) = false := beq_eq_false_iff_ne.2 (by omega)
  have h3 : (v == 32) = false := beq_eq_false_iff_ne.2 (by omega)
  have h4 : (v == 64) = false := beq_eq_false_iff_ne.2 (by omega)
  have e : lanesI v = 0 := by unfold lanesI; rw [if_neg (by omega), if_neg (by omega), if_neg (by omega), if_neg (by omega)]
  rw [e]
  clear h e
  go_enter Try.func37, Try.ntmps37
  go_wp2
  go_ret
  exact ⟨rfl, rfl⟩
theorem there_any (v i : Int) (w : World) : Calls Try.prog 78 #[.int .i64 v, .int .i64 i] w fun e w' => e = .returned (.bool (thereB v i)) ∧ w = w' := by
 by_cases h : 0 ≤ i
 ·have e : thereB v i = decide (i < lanesI v) := by unfold thereB; rw [decide_eq_true h]; rfl
  rw [e]
  go_enter Try.func78, Try.ntmps78
  go_wp2_with (go_at_call 37; refine (lanes_any _ _).mono ?_; rintro e w' ⟨rfl, rfl⟩)
  go_ret
  exact ⟨rfl, rfl⟩
 ·have e : thereB v i = false := by unfold thereB; rw [decide_eq_false h]; rfl
  rw [e]
  go_enter Try.func78, Try.ntmps78
  go_wp2_with (go_at_call 37; refine (lanes_any _ _).mono ?_; rintro e w' ⟨rfl, rfl⟩)
  go_ret
  exact ⟨rfl, rfl⟩
def getP (b : Nat → Int) (base : Nat) : Nat → Int
 | 0 => 0
 | k + 1 => bits .or .u64 (getP b base k) (IntKind.u64.wrap (b (base + k) * 2 ^ (8 * k)))
theorem or_sum (x y : Nat) (m : Nat) (hx : x < 2 ^ m) (hx64 : x < 18446744073709551616) (hy : y * 2 ^ m < 18446744073709551616) : bits .or .u64 (x : Int) (IntKind.u64.wrap ((y : Int) * 2 ^ m)) = ((x + y * 2 ^ m : Nat) : Int) := by
 rw [show (y : Int) * 2 ^ m = ((y * 2 ^ m : Nat) : Int) by push_cast; rfl, IntKind.wrap_u64, show (((y * 2 ^ m : Nat) : Int) % 18446744073709551616) = ((y * 2 ^ m : Nat) : Int) by omega, bits_or_u64_nat _ _ hx64 hy]
 have := Nat.two_pow_add_eq_or_of_lt hx y
 rw [Nat.or_comm, Nat.mul_comm y, ← this, Nat.add_comm]
theorem getP_sum {b : Nat → Int} (hb : Byt b) (base : Nat) : ∀ k, k ≤ 8 → getP b base k = sumN b base k
 | 0, _ => rfl
 | k + 1, hk => by
  rw [getP, getP_sum hb base k (by omega), sumN]
  obtain ⟨h0, h1⟩ := sumN_bd hb base k
  obtain ⟨b0, b1⟩ := hb (base + k)
  obtain ⟨x, hx⟩ := Int.eq_ofNat_of_zero_le h0
  obtain ⟨y, hy⟩ := Int.eq_ofNat_of_zero_le b0
  rw [hx] at h1 ⊢
  rw [hy] at b1 ⊢
  have h256 : (256 : Int) ^ k = ((2 ^ (8 * k) : Nat) : Int) := by rw [← pow8]; push_cast; rfl
  have hp : (2 : Nat) ^ (8 * k) ≤ 2 ^ 56 := Nat.pow_le_pow_right (by decide) (by omega)
  have hx2 : x < 2 ^ (8 * k) := by rw [h256] at h1; exact_mod_cast h1
  have hy2 : y * 2 ^ (8 * k) ≤ 255 * 2 ^ (8 * k) := Nat.mul_le_mul_right _ (by omega)
  have e := or_sum x y (8 * k) hx2 (by omega) (by omega)
  rw [show ((2 : Int) ^ (8 * k)) = 256 ^ k from pow8 k] at e ⊢
  rw [e, h256]; push_cast; rfl
set_option maxHeartbeats 400000 in
theorem get_8 (b : Nat → Int) (hb : Byt b) (i : Nat) (hi : i * 1 + 1 ≤ 16) (w : World) :
  Calls Try.prog 35 #[.agg (bs b), .int .i64 8, .int .i64 i] w fun e w' => e = .returned (.int .u64 (sumN b (i * 1) 1)) ∧ Gr w w' := by
 rw [Nat.mul_one]
 rw [← getP_sum hb (i) 1 (by decide)]
 have ht : thereB 8 i = true := there_iff.2 (by unfold lanesI; simp; omega)
 have HB := Lib.hid hb
 have hc := bs_cell w b
 have HC := Lib.hid hc
 clear hb hc
 go_enter Try.func35, Try.ntmps35
 go_wp2_with (go_at_call 78; refine (there_any _ _ _).mono ?_; rintro e w' ⟨rfl, rfl⟩)
 go_loop [8, 17] (fun x j => ∃ k : Nat, k ≤ 1 ∧ x = .int .u64 (getP b (i) k) ∧ j = .int .i64 k) (fun _ j => 1 - (intOf j).toNat)
 case atStart => exact ⟨0, by omega, rfl, rfl⟩
 case round =>
  obtain ⟨k, hk, rfl, rfl⟩ := hrel
  by_cases hlt : k < 1
  ·have h1 := HC.out (i + k) (by omega)
   have h2 := HB.out (i + k)
   go_wp2
   exact ⟨⟨k + 1, by omega, rfl, by go_num⟩, by simp [intOf]; omega⟩
  ·go_wp2
   obtain rfl : k = 1 := by omega
   go_ret
   exact ⟨rfl, (Gr.refl _).alloc _ _⟩
set_option maxHeartbeats 400000 in
theorem get_16 (b : Nat → Int) (hb : Byt b) (i : Nat) (hi : i * 2 + 2 ≤ 16) (w : World) :
  Calls Try.prog 35 #[.agg (bs b), .int .i64 16, .int .i64 i] w fun e w' => e = .returned (.int .u64 (sumN b (i * 2) 2)) ∧ Gr w w' := by
 rw [← getP_sum hb (i * 2) 2 (by decide)]
 have ht : thereB 16 i = true := there_iff.2 (by unfold lanesI; simp; omega)
 have HB := Lib.hid hb
 have hc := bs_cell w b
 have HC := Lib.hid hc
 clear hb hc
 go_enter Try.func35, Try.ntmps35
 go_wp2_with (go_at_call 78; refine (there_any _ _ _).mono ?_; rintro e w' ⟨rfl, rfl⟩)
 go_loop [8, 17] (fun x j => ∃ k : Nat, k ≤ 2 ∧ x = .int .u64 (getP b (i * 2) k) ∧ j = .int .i64 k) (fun _ j => 2 - (intOf j).toNat)
 case atStart => exact ⟨0, by omega, rfl, rfl⟩
 case round =>
  obtain ⟨k, hk, rfl, rfl⟩ := hrel
  by_cases hlt : k < 2
  ·have h1 := HC.out (i * 2 + k) (by omega)
   have h2 := HB.out (i * 2 + k)
   go_wp2
   exact ⟨⟨k + 1, by omega, rfl, by go_num⟩, by simp [intOf]; omega⟩
  ·go_wp2
   obtain rfl : k = 2 := by omega
   go_ret
   exact ⟨rfl, (Gr.refl _).alloc _ _⟩
set_option maxHeartbeats 400000 in
theorem get_32 (b : Nat → Int) (hb : Byt b) (i : Nat) (hi : i * 4 + 4 ≤ 16) (w : World) :
  Calls Try.prog 35 #[.agg (bs b), .int .i64 32, .int .i64 i] w fun e w' => e = .returned (.int .u64 (sumN b (i * 4) 4)) ∧ Gr w w' := by
 rw [← getP_sum hb (i * 4) 4 (by decide)]
 have ht : thereB 32 i = true := there_iff.2 (by unfold lanesI; simp; omega)
 have HB := Lib.hid hb
 have hc := bs_cell w b
 have HC := Lib.hid hc
 clear hb hc
 go_enter Try.func35, Try.ntmps35
 go_wp2_with (go_at_call 78; refine (there_any _ _ _).mono ?_; rintro e w' ⟨rfl, rfl⟩)
 go_loop [8, 17] (fun x j => ∃ k : Nat, k ≤ 4 ∧ x = .int .u64 (getP b (i * 4) k) ∧ j = .int .i64 k) (fun _ j => 4 - (intOf j).toNat)
 case atStart => exact ⟨0, by omega, rfl, rfl⟩
 case round =>
  obtain ⟨k, hk, rfl, rfl⟩ := hrel
  by_cases hlt : k < 4
  ·have h1 := HC.out (i * 4 + k) (by omega)
   have h2 := HB.out (i * 4 + k)
   go_wp2
   exact ⟨⟨k + 1, by omega, rfl, by go_num⟩, by simp [intOf]; omega⟩
  ·go_wp2
   obtain rfl : k = 4 := by omega
   go_ret
   exact ⟨rfl, (Gr.refl _).alloc _ _⟩
set_option maxHeartbeats 400000 in
theorem get_64 (b : Nat → Int) (hb : Byt b) (i : Nat) (hi : i * 8 + 8 ≤ 16) (w : World) :
  Calls Try.prog 35 #[.agg (bs b), .int .i64 64, .int .i64 i] w fun e w' => e = .returned (.int .u64 (sumN b (i * 8) 8)) ∧ Gr w w' := by
 rw [← getP_sum hb (i * 8) 8 (by decide)]
 have ht : thereB 64 i = true := there_iff.2 (by unfold lanesI; simp; omega)
 have HB := Lib.hid hb
 have hc := bs_cell w b
 have HC := Lib.hid hc
 clear hb hc
 go_enter Try.func35, Try.ntmps35
 go_wp2_with (go_at_call 78; refine (there_any _ _ _).mono ?_; rintro e w' ⟨rfl, rfl⟩)
 go_loop [8, 17] (fun x j => ∃ k : Nat, k ≤ 8 ∧ x = .int .u64 (getP b (i * 8) k) ∧ j = .int .i64 k) (fun _ j => 8 - (intOf j).toNat)
 case atStart => exact ⟨0, by omega, rfl, rfl⟩
 case round =>
  obtain ⟨k, hk, rfl, rfl⟩ := hrel
  by_cases hlt : k < 8
  ·have h1 := HC.out (i * 8 + k) (by omega)
   have h2 := HB.out (i * 8 + k)
   go_wp2
   exact ⟨⟨k + 1, by omega, rfl, by go_num⟩, by simp [intOf]; omega⟩
  ·go_wp2
   obtain rfl : k = 8 := by omega
   go_ret
   exact ⟨rfl, (Gr.refl _).alloc _ _⟩
theorem get_no (b : Nat → Int) (v i : Int) (h : thereB v i = false) (w : World) :
  Calls Try.prog 35 #[.agg (bs b), .int .i64 v, .int .i64 i] w fun e w' => e = .returned (.int .u64 0) ∧ Gr w w' := by
 go_enter Try.func35, Try.ntmps35
 go_wp2_with (go_at_call 78; refine (there_any _ _ _).mono ?_; rintro e w' ⟨rfl, rfl⟩)
 go_ret
 exact ⟨rfl, (Gr.refl _).alloc _ _⟩
theorem get_any (b : Nat → Int) (hb : Byt b) (v i : Int) (w : World) :
  Calls Try.prog 35 #[.agg (bs b), .int .i64 v, .int .i64 i] w fun e w' => e = .returned (.int .u64 (getI b v i)) ∧ Gr w w' := by
 by_cases h : thereB v i = true
 ·obtain ⟨h0, _⟩ := there_iff.1 h
  obtain ⟨n, rfl⟩ := Int.eq_ofNat_of_zero_le h0
  have e : getI b v n = sumN b (n * wid v) (wid v) := by unfold getI; rw [if_pos h, Int.toNat_natCast]
  rw [e]
  rcases there_cases h with ⟨rfl, _, h1⟩ | ⟨rfl, _, h1⟩ | ⟨rfl, _, h1⟩ | ⟨rfl, _, h1⟩
  ·exact get_8 b hb n (by omega) w
  ·exact get_16 b hb n (by omega) w
  ·exact get_32 b hb n (by omega) w
  ·exact get_64 b hb n (by omega) w
 ·rw [show getI b v i = 0 by unfold getI; rw [if_neg h]]
  exact get_no b v i (by simpa using h) w
set_option maxHeartbeats 400000 in
theorem set_8 (b : Nat → Int) (i : Nat) (x : Int) (hi : i * 1 + 1 ≤ 16) (w : World) :
  Calls Try.prog 40 #[.agg (bs b), .int .i64 8, .int .i64 i, .int .u64 x] w fun e w' => e = .returned (.agg (bs (setN b (i * 1) x 1))) ∧ Gr w w' := by
 rw [Nat.mul_one]
 have ht : thereB 8 i = true := there_iff.2 (by unfold lanesI; simp; omega)
 go_enter Try.func40, Try.ntmps40
 go_wp2_with (go_at_call 78; refine (there_any _ _ _).mono ?_; rintro e w' ⟨rfl, rfl⟩)
 go_loopw [19] (fun j wr => ∃ k : Nat, k ≤ 1 ∧ j = .int .i64 k ∧ wr = (w.alloc (.cells (bs (setN b (i) x k)) 40)).alloc (.cells (bs fun _ => 0) 40)) (fun j _ => 1 - (intOf j).toNat)
 case atStart => exact ⟨0, by omega, rfl, by rw [setN_zero]⟩
 case round =>
  obtain ⟨k, hk, rfl, rfl⟩ := hrel
  by_cases hlt : k < 1
  ·have h1 := bs_cell2 w (setN b (i) x k) (.cells (bs fun _ => 0) 40) (i + k) (by omega)
   go_wp2
   exact ⟨⟨k + 1, by omega, by go_num, by rw [bs_setL _ _ _ (by omega), setN_succ, ← pow8]⟩, by simp [intOf]; omega⟩
  ·go_upto_region 9 with (fail)
   obtain rfl : k = 1 := by omega
   refine wp_region_lit ?_
   refine wpList_load_row rfl 40 _ rfl w.heap.size rfl 40 (bs (setN b (i) x 1)) (0, 0) _ (heap_alloc2_old w _ _) Try.underlying40 rfl infoV ?_
   refine wpList_store_row rfl 40 _ _ rfl (w.heap.size + 1) (bs (setN b (i) x 1)) rfl rfl 40 (bs fun _ => 0) (heap_alloc2_new w _ _) infoV rfl (bs_one _) ?_
   rw [setRow2]
   go_wp2
   exact bodyPost_ret (v := .agg (bs (setN b (i) x 1))) (results_cell_row Try.results40 _ _ (w.heap.size + 1) 40 (bs (setN b (i) x 1)) (0, 0) _ rfl (heap_alloc2_new w _ _) Try.underlying40 rfl infoV) rfl ⟨rfl, ((Gr.refl _).alloc _ _).alloc _ _⟩
set_option maxHeartbeats 400000 in
theorem set_16 (b : Nat → Int) (i : Nat) (x : Int) (hi : i * 2 + 2 ≤ 16) (w : World) :
  Calls Try.prog 40 #[.agg (bs b), .int .i64 16, .int .i64 i, .int .u64 x] w fun e w' => e = .returned (.agg (bs (setN b (i * 2) x 2))) ∧ Gr w w' := by
 have ht : thereB 16 i = true := there_iff.2 (by unfold lanesI; simp; omega)
 go_enter Try.func40, Try.ntmps40
 go_wp2_with (go_at_call 78; refine (there_any _ _ _).mono ?_; rintro e w' ⟨rfl, rfl⟩)
 go_loopw [19] (fun j wr => ∃ k : Nat, k ≤ 2 ∧ j = .int .i64 k ∧ wr = (w.alloc (.cells (bs (setN b (i * 2) x k)) 40)).alloc (.cells (bs fun _ => 0) 40)) (fun j _ => 2 - (intOf j).toNat)
 case atStart => exact ⟨0, by omega, rfl, by rw [setN_zero]⟩
 case round =>
  obtain ⟨k, hk, rfl, rfl⟩ := hrel
  by_cases hlt : k < 2
  ·have h1 := bs_cell2 w (setN b (i * 2) x k) (.cells (bs fun _ => 0) 40) (i * 2 + k) (by omega)
   go_wp2
   exact ⟨⟨k + 1, by omega, by go_num, by rw [bs_setL _ _ _ (by omega), setN_succ, ← pow8]⟩, by simp [intOf]; omega⟩
  ·go_upto_region 9 with (fail)
   obtain rfl : k = 2 := by omega
   refine wp_region_lit ?_
   refine wpList_load_row rfl 40 _ rfl w.heap.size rfl 40 (bs (setN b (i * 2) x 2)) (0, 0) _ (heap_alloc2_old w _ _) Try.underlying40 rfl infoV ?_
   refine wpList_store_row rfl 40 _ _ rfl (w.heap.size + 1) (bs (setN b (i * 2) x 2)) rfl rfl 40 (bs fun _ => 0) (heap_alloc2_new w _ _) infoV rfl (bs_one _) ?_
   rw [setRow2]
   go_wp2
   exact bodyPost_ret (v := .agg (bs (setN b (i * 2) x 2))) (results_cell_row Try.results40 _ _ (w.heap.size + 1) 40 (bs (setN b (i * 2) x 2)) (0, 0) _ rfl (heap_alloc2_new w _ _) Try.underlying40 rfl infoV) rfl ⟨rfl, ((Gr.refl _).alloc _ _).alloc _ _⟩
set_option maxHeartbeats 400000 in
theorem set_32 (b : Nat → Int) (i : Nat) (x : Int) (hi : i * 4 + 4 ≤ 16) (w : World) :
  Calls Try.prog 40 #[.agg (bs b), .int .i64 32, .int .i64 i, .int .u64 x] w fun e w' => e = .returned (.agg (bs (setN b (i * 4) x 4))) ∧ Gr w w' := by
 have ht : thereB 32 i = true := there_iff.2 (by unfold lanesI; simp; omega)
 go_enter Try.func40, Try.ntmps40
 go_wp2_with (go_at_call 78; refine (there_any _ _ _).mono ?_; rintro e w' ⟨rfl, rfl⟩)
 go_loopw [19] (fun j wr => ∃ k : Nat, k ≤ 4 ∧ j = .int .i64 k ∧ wr = (w.alloc (.cells (bs (setN b (i * 4) x k)) 40)).alloc (.cells (bs fun _ => 0) 40)) (fun j _ => 4 - (intOf j).toNat)
 case atStart => exact ⟨0, by omega, rfl, by rw [setN_zero]⟩
 case round =>
  obtain ⟨k, hk, rfl, rfl⟩ := hrel
  by_cases hlt : k < 4
  ·have h1 := bs_cell2 w (setN b (i * 4) x k) (.cells (bs fun _ => 0) 40) (i * 4 + k) (by omega)
   go_wp2
   exact ⟨⟨k + 1, by omega, by go_num, by rw [bs_setL _ _ _ (by omega), setN_succ, ← pow8]⟩, by simp [intOf]; omega⟩
  ·go_upto_region 9 with (fail)
   obtain rfl : k = 4 := by omega
   refine wp_region_lit ?_
   refine wpList_load_row rfl 40 _ rfl w.heap.size rfl 40 (bs (setN b (i * 4) x 4)) (0, 0) _ (heap_alloc2_old w _ _) Try.underlying40 rfl infoV ?_
   refine wpList_store_row rfl 40 _ _ rfl (w.heap.size + 1) (bs (setN b (i * 4) x 4)) rfl rfl 40 (bs fun _ => 0) (heap_alloc2_new w _ _) infoV rfl (bs_one _) ?_
   rw [setRow2]
   go_wp2
   exact bodyPost_ret (v := .agg (bs (setN b (i * 4) x 4))) (results_cell_row Try.results40 _ _ (w.heap.size + 1) 40 (bs (setN b (i * 4) x 4)) (0, 0) _ rfl (heap_alloc2_new w _ _) Try.underlying40 rfl infoV) rfl ⟨rfl, ((Gr.refl _).alloc _ _).alloc _ _⟩
set_option maxHeartbeats 400000 in
theorem set_64 (b : Nat → Int) (i : Nat) (x : Int) (hi : i * 8 + 8 ≤ 16) (w : World) :
  Calls Try.prog 40 #[.agg (bs b), .int .i64 64, .int .i64 i, .int .u64 x] w fun e w' => e = .returned (.agg (bs (setN b (i * 8) x 8))) ∧ Gr w w' := by
 have ht : thereB 64 i = true := there_iff.2 (by unfold lanesI; simp; omega)
 go_enter Try.func40, Try.ntmps40
 go_wp2_with (go_at_call 78; refine (there_any _ _ _).mono ?_; rintro e w' ⟨rfl, rfl⟩)
 go_loopw [19] (fun j wr => ∃ k : Nat, k ≤ 8 ∧ j = .int .i64 k ∧ wr = (w.alloc (.cells (bs (setN b (i * 8) x k)) 40)).alloc (.cells (bs fun _ => 0) 40)) (fun j _ => 8 - (intOf j).toNat)
 case atStart => exact ⟨0, by omega, rfl, by rw [setN_zero]⟩
 case round =>
  obtain ⟨k, hk, rfl, rfl⟩ := hrel
  by_cases hlt : k < 8
  ·have h1 := bs_cell2 w (setN b (i * 8) x k) (.cells (bs fun _ => 0) 40) (i * 8 + k) (by omega)
   go_wp2
   exact ⟨⟨k + 1, by omega, by go_num, by rw [bs_setL _ _ _ (by omega), setN_succ, ← pow8]⟩, by simp [intOf]; omega⟩
  ·go_upto_region 9 with (fail)
   obtain rfl : k = 8 := by omega
   refine wp_region_lit ?_
   refine wpList_load_row rfl 40 _ rfl w.heap.size rfl 40 (bs (setN b (i * 8) x 8)) (0, 0) _ (heap_alloc2_old w _ _) Try.underlying40 rfl infoV ?_
   refine wpList_store_row rfl 40 _ _ rfl (w.heap.size + 1) (bs (setN b (i * 8) x 8)) rfl rfl 40 (bs fun _ => 0) (heap_alloc2_new w _ _) infoV rfl (bs_one _) ?_
   rw [setRow2]
   go_wp2
   exact bodyPost_ret (v := .agg (bs (setN b (i * 8) x 8))) (results_cell_row Try.results40 _ _ (w.heap.size + 1) 40 (bs (setN b (i * 8) x 8)) (0, 0) _ rfl (heap_alloc2_new w _ _) Try.underlying40 rfl infoV) rfl ⟨rfl, ((Gr.refl _).alloc _ _).alloc _ _⟩
theorem set_no (b : Nat → Int) (v i x : Int) (h : thereB v i = false) (w : World) :
  Calls Try.prog 40 #[.agg (bs b), .int .i64 v, .int .i64 i, .int .u64 x] w fun e w' => e = .returned (.agg (bs b)) ∧ Gr w w' := by
 go_enter Try.func40, Try.ntmps40
 go_upto_region 2 with (go_at_call 78; refine (there_any _ _ _).mono ?_; rintro e w' ⟨rfl, rfl⟩)
 refine wp_region_lit ?_
 refine wpList_load_row rfl 40 _ rfl w.heap.size rfl 40 (bs (b)) (0, 0) _ (heap_alloc2_old w _ _) Try.underlying40 rfl infoV ?_
 refine wpList_store_row rfl 40 _ _ rfl (w.heap.size + 1) (bs (b)) rfl rfl 40 (bs fun _ => 0) (heap_alloc2_new w _ _) infoV rfl (bs_one _) ?_
 rw [setRow2]
 go_wp2
 exact bodyPost_ret (v := .agg (bs (b))) (results_cell_row Try.results40 _ _ (w.heap.size + 1) 40 (bs (b)) (0, 0) _ rfl (heap_alloc2_new w _ _) Try.underlying40 rfl infoV) rfl ⟨rfl, ((Gr.refl _).alloc _ _).alloc _ _⟩
theorem set_any (b : Nat → Int) (v i x : Int) (w : World) :
  Calls Try.prog 40 #[.agg (bs b), .int .i64 v, .int .i64 i, .int .u64 x] w fun e w' => e = .returned (.agg (bs (setI b v i x))) ∧ Gr w w' := by
 by_cases h : thereB v i = true
 ·obtain ⟨h0, _⟩ := there_iff.1 h
  obtain ⟨n, rfl⟩ := Int.eq_ofNat_of_zero_le h0
  have e : setI b v n x = setN b (n * wid v) x (wid v) := by unfold setI; rw [if_pos h, Int.toNat_natCast]
  rw [e]
  rcases there_cases h with ⟨rfl, _, h1⟩ | ⟨rfl, _, h1⟩ | ⟨rfl, _, h1⟩ | ⟨rfl, _, h1⟩
  ·exact set_8 b n x (by omega) w
  ·exact set_16 b n x (by omega) w
  ·exact set_32 b n x (by omega) w
  ·exact set_64 b n x (by omega) w
 ·rw [show setI b v i x = b by unfold setI; rw [if_neg h]]
  exact set_no b v i x (by simpa using h) w
theorem cells5 : Try.prog.cellsOf 5 = 1 := by kernel_rfl
theorem run_part_bs (b : Nat → Int) (j : Nat) (hj : j < 16) (w : World) : (part 5 (bs b) j).run Try.prog w = .ok (.int .u8 (b j)) w := by
 have h := bs_get b j hj
 simp [part, isAgg, run_underlying Try.underlying5, h]
theorem eqItems_bs (b c : Nat → Int) (d : Nat) (w : World) : ∀ is : List Nat, (∀ i ∈ is, i < 16) → (Op.eqItems (d + 1) 5 1 (bs b) (bs c) is).run Try.prog w = .ok (is.all fun i => b i == c i) w
 | [], _ => by simp [Op.eqItems]
 | i :: is, h => by
  have hi := h i (by simp)
  have ih := eqItems_bs b c d w is fun j hj => h j (by simp [hj])
  have h1 := run_part_bs b i hi w
  have h2 := run_part_bs c i hi w
  have h3 : (Op.equalIn (d + 1) 5 (.int .u8 (b i)) (.int .u8 (c i))).run Try.prog w = .ok (b i == c i) w := by
   simp [Op.equalIn, run_underlying Try.underlying5]
  simp only [Op.eqItems, Nat.mul_one, Sem.run_bind, h1, h2, h3, Result.andThen_ok]
  by_cases hq : (b i == c i) = true
  ·rw [hq]; simp [ih, hq]
  ·have hq' : (b i == c i) = false := by simpa using hq
   rw [hq']; simp [hq']
def vecB (b c : Nat → Int) : Bool := (List.range 16).all fun i => b i == c i
theorem eq_vec (b c : Nat → Int) (w : World) : (Op.equalIn 10000 40 (.agg (bs b)) (.agg (bs c))).run Try.prog w = .ok (vecB b c) w := by
 obtain ⟨i5, hi5⟩ : ∃ i, Try.prog.info? 5 = some i := by
  cases h : Try.prog.info? 5 with
  | none => exact absurd (show (Try.prog.info? 5).isSome = true by kernel_rfl) (by rw [h]; decide)
  | some i => exact ⟨i, rfl⟩
 rw [show (10000 : Nat) = 9999 + 1 from rfl, run_equalIn_array w 9999 _ _ Try.underlying40 hi5, cells5]
 exact eqItems_bs b c 9998 w _ fun i hi => List.mem_range.1 hi
theorem vecB_refl (b : Nat → Int) : vecB b b = true := by unfold vecB; simp
end Go.Proofs.Ytjoalcaooccbiaa
/- Ev -/
namespace Go.Proofs.Ytjoalcaooccbiaa
open Go.RowKit VecM
namespace Ev
structure Fr where
 b : Nat
 x : Nat → Value
 t : List Value
inductive Lv where
 | v (x : Value)
 | c (x : Code)
inductive It where
 | row (j : Nat)
 | eqv (x y : Value)
 | con (c b : Bool)
 | cod (x y : Code)
 | sub (v : Value) (l : List It)
 | lay (v : Value) (l : List It)
 | nx (x : Next) (l : List It)
 | cal (v : Fr → Value) (c : Fr → List Value) (t : TypeId) (l : List It)
inductive Md where
 | find
 | follow
 | check
structure Rw where
 b : Nat
 c : List Value
 t : TypeId
 own : Bool
structure Sg where
 n : Nat
 h : List It
 M : List Rw
 acc : List It
abbrev Out := Except Nat (List It)
structure Hole where
 code : Code
 n : Nat
 need : List (Nat × Value)
 rows : List Rw
 pre : List Bool
 test : Bool
 post : Bool → (Nat → Value) → Exit × List (Nat × Value) × List Rw
noncomputable def findB (M : List Rw) : Nat → Nat → Option (Nat × Rw) :=
 List.rec (motive := fun _ => Nat → Nat → Option (Nat × Rw)) (fun _ _ => none)
  (fun r _ ih b j => Bool.rec (motive := fun _ => Option (Nat × Rw)) (ih b (Nat.succ j)) (some (j, r)) (Nat.beq r.b b)) M
noncomputable def rowAt (M : List Rw) : Nat → Option Rw :=
 List.rec (motive := fun _ => Nat → Option Rw) (fun _ => none) (fun r _ ih n => Nat.rec (motive := fun _ => Option Rw) (some r) (fun m _ => ih m) n) M
noncomputable def nth (l : List Value) : Nat → Value :=
 List.rec (motive := fun _ => Nat → Value) (fun _ => undef) (fun x _ ih n => Nat.rec (motive := fun _ => Value) x (fun m _ => ih m) n) l
noncomputable def nth? (l : List Value) : Nat → Option Value :=
 List.rec (motive := fun _ => Nat → Option Value) (fun _ => none) (fun x _ ih n => Nat.rec (motive := fun _ => Option Value) (some x) (fun m _ => ih m) n) l
noncomputable def putK (l : List Value) : Nat → Value → (List Value → Out) → Out :=
 List.rec (motive := fun _ => Nat → Value → (List Value → Out) → Out) (fun _ _ k => k [])
  (fun x l ih n v k => Nat.rec (motive := fun _ => Out) (k (v :: l)) (fun m _ => ih m v fun l' => k (x :: l')) n) l
noncomputable def putR (M : List Rw) : Nat → Rw → (List Rw → Out) → Out :=
 List.rec (motive := fun _ => Nat → Rw → (List Rw → Out) → Out) (fun _ _ k => k [])
  (fun x l ih n v k => Nat.rec (motive := fun _ => Out) (k (v :: l)) (fun m _ => ih m v fun l' => k (x :: l')) n) M
inductive Tr where
 | e
 | n (v : Value) (l r : Tr)
structure Tm where
 n : Nat
 t : Tr
 h : n ≤ 4000
structure OHole where
 n : Nat
 need : List (Nat × Value)
 rows : List Rw
 pre : List Bool
 v : Option Value
 rows1 : List Rw
structure CHole where
 rows : List Rw
 pre : List Bool
 n : Nat := 0
 v : List Fr → Value
 lay : List Fr → List Rw := fun _ => []
structure Env where
 P : Program
 known : List (Nat → Int)
 sum : FuncId → List Value → Option (List (List Value) × (List (Nat → Int) → Value × List Bool))
 cc : Op → Bool := fun _ => false
 hole : Nat → Code → Tm → List Rw → Option Hole := fun _ _ _ _ => none
 oph : Oper → Tm → List Rw → Option OHole := fun _ _ _ => none
 csum : FuncId → List Value → List Rw → Option CHole := fun _ _ _ => none
noncomputable def getR (t : Tr) : Nat → Value :=
 Tr.rec (motive := fun _ => Nat → Value) (fun _ => undef)
  (fun v _ _ l r i => Nat.rec (motive := fun _ => Value) v (fun m _ => Nat.rec (motive := fun _ => Value) (l (Nat.div m 2)) (fun _ _ => r (Nat.div m 2)) (Nat.mod m 2)) i) t
noncomputable def setR (f : Nat) : Tr → Nat → Value → (Tr → Out) → Out :=
 Nat.rec (motive := fun _ => Tr → Nat → Value → (Tr → Out) → Out) (fun t _ _ k => k t)
  (fun _ ih t i v k => Tr.rec (motive := fun _ => Out)
   (Nat.rec (motive := fun _ => Out) (k (.n v .e .e)) (fun m _ => Nat.rec (motive := fun _ => Out) (ih .e (Nat.div m 2) v fun l => k (.n undef l .e)) (fun _ _ => ih .e (Nat.div m 2) v fun r => k (.n undef .e r)) (Nat.mod m 2)) i)
   (fun x l r _ _ => Nat.rec (motive := fun _ => Out) (k (.n v l r)) (fun m _ => Nat.rec (motive := fun _ => Out) (ih l (Nat.div m 2) v fun l => k (.n x l r)) (fun _ _ => ih r (Nat.div m 2) v fun r => k (.n x l r)) (Nat.mod m 2)) i) t) f
noncomputable def tget (T : Tm) (i : Nat) : Value := Bool.rec (motive := fun _ => Value) undef (getR T.t i) (Nat.blt i T.n)
noncomputable def tget? (T : Tm) (i : Nat) : Option Value := Bool.rec (motive := fun _ => Option Value) none (some (getR T.t i)) (Nat.blt i T.n)
noncomputable def tputK (T : Tm) (i : Nat) (v : Value) (k : Tm → Out) : Out := Bool.rec (motive := fun _ => Out) (k T) (setR 12 T.t i v fun t => k ⟨T.n, t, T.h⟩) (Nat.blt i T.n)
def noB : Nat → Fr := fun i => ⟨i, fun _ => undef, []⟩
noncomputable def pickRow (md : Md) (blk : Nat) (s : Sg) (k : Nat → Rw → Sg → Out) : Out :=
 match md with
 | .find => match findB s.M blk 0 with
  | some (j, r) => k j r ⟨s.n, s.h, s.M, .row j :: s.acc⟩
  | none => .error 1
 | .follow => match s.h with
  | .row j :: h => match rowAt s.M j with
   | some r => k j r ⟨s.n, h, s.M, .row j :: s.acc⟩
   | none => .error 2
  | _ => .error 3
 | .check => match s.h with
  | .row j :: h => match rowAt s.M j with
   | some r => k j r ⟨s.n, h, s.M, .eqv (.int .u64 blk) (.int .u64 r.b) :: s.acc⟩
   | none => .error 4
  | _ => .error 5
def pickCon (md : Md) (c : Bool) (s : Sg) (k : Bool → Sg → Out) : Out :=
 match md with
 | .find => match c with
  | true => k true ⟨s.n, s.h, s.M, .con true true :: s.acc⟩
  | false => k false ⟨s.n, s.h, s.M, .con false false :: s.acc⟩
 | _ => match s.h with
  | .con _ b :: h => k b ⟨s.n, h, s.M, .con c b :: s.acc⟩
  | _ => .error 6
def kNum : IntKind → Nat
 | .i8 => 0 | .i16 => 1 | .i32 => 2 | .i64 => 3 | .u8 => 4 | .u16 => 5 | .u32 => 6 | .u64 => 7
def fastI (b : BinOp) (k : IntKind) (m : Int) (k' : IntKind) (n : Int) : Option Value :=
 match b with
 | .shl => match decide (n < 0) with
  | true => none
  | false => some (.int k (k.wrap (m * 2 ^ (min n.toNat k.bits))))
 | .shr => match decide (n < 0) with
  | true => none
  | false => some (.int k (m.fdiv (2 ^ (min n.toNat k.bits))))
 | _ => match Nat.beq (kNum k) (kNum k') with
  | false => none
  | true => match b with
   | .add => some (.int k (k.wrap (m + n)))
   | .sub => some (.int k (k.wrap (m - n)))
   | .mul => some (.int k (k.wrap (m * n)))
   | .eql => some (.bool (m == n))
   | .neq => some (.bool (m != n))
   | .lss => some (.bool (decide (m < n)))
   | .leq => some (.bool (decide (m ≤ n)))
   | .gtr => some (.bool (decide (m > n)))
   | .geq => some (.bool (decide (m ≥ n)))
   | _ => none
def asBs : List Value → Option (Nat → Int)
 | [.int .u8 a0, .int .u8 a1, .int .u8 a2, .int .u8 a3, .int .u8 a4, .int .u8 a5, .int .u8 a6, .int .u8 a7, .int .u8 a8, .int .u8 a9, .int .u8 a10, .int .u8 a11, .int .u8 a12, .int .u8 a13, .int .u8 a14, .int .u8 a15] =>
  some fun i => [a0, a1, a2, a3, a4, a5, a6, a7, a8, a9, a10, a11, a12, a13, a14, a15].getD i 0
 | _ => none
def eqInts : List Value → List Value → Option Bool
 | [], [] => some true
 | .int .u8 x :: l, .int .u8 y :: l' => match eqInts l l' with
  | some q => some (and (x == y) q)
  | none => none
 | _, _ => none
noncomputable def fastV (P : Program) (ρ : Operand → Value) (op : Op) : Option Value :=
 match op with
 | .move x => some (ρ x)
 | .assign x => some (ρ x)
 | .binOp b t x y _ => match ρ x, ρ y with
  | .int k m, .int k' n => fastI b k m k' n
  | .agg ⟨c⟩, .agg ⟨d⟩ => match Nat.beq t 40 with
   | true => match b with
    | .eql => match eqInts c d with
     | some q => match Nat.beq c.length 16 with
      | true => some (.bool q)
      | false => none
     | none => none
    | .neq => match eqInts c d with
     | some q => match Nat.beq c.length 16 with
      | true => some (.bool (!q))
      | false => none
     | none => none
    | _ => none
   | false => none
  | _, _ => none
 | .convert s d x => match ρ x with
  | .int _ n => match P.underlying s, P.underlying d with
   | some _, some (.int k) => some (.int k (k.wrap n))
   | _, _ => none
  | _ => none
 | _ => none
noncomputable def evS (P : Program) (md : Md) (β : Nat → Fr) {α : Type} (x : Sem α) : Sg → (α → Sg → Out) → Out :=
 Sem.rec (motive := fun _ => Sg → (α → Sg → Out) → Out)
  (fun a s k => k a s)
  (fun _ a _ ih s k => pickRow md a.block s fun _ r s => match a.spot with
   | some _ => .error 7
   | none => match nth? r.c a.off with
    | some v => ih v s k
    | none => .error 8)
  (fun _ a v _ ih s k => pickRow md a.block s fun j r s => match a.spot with
   | some _ => .error 9
   | none => match v.oneCell', r.own with
    | true, true => match nth? r.c a.off with
     | some _ => putK r.c a.off v fun c => putR s.M j ⟨r.b, c, r.t, true⟩ fun M => ih ⟨s.n, s.h, M, s.acc⟩ k
     | none => .error 10
    | _, _ => .error 11)
  (fun o _ ih s k => match o with
   | .cells c t (0, 0) => ih (β s.n).b ⟨s.n + 1, s.h, ⟨(β s.n).b, c.toList, t, true⟩ :: s.M, s.acc⟩ k
   | _ => .error 12)
  (fun r _ ih s k => pickRow md r s fun _ r s => ih (some (r.t, r.c.length)) s k)
  (fun _ _ _ _ _ _ => .error 13)
  (fun a _ ih s k => pickRow md a.block s fun _ r s => match r.own with
   | true => ih false s k
   | false => .error 14)
  (fun _ _ _ _ _ => .error 15)
  (fun _ _ _ _ _ _ => .error 16)
  (fun q _ ih s k => match q.forced with
   | true => ih 0 s k
   | false => .error 17)
  (fun _ _ _ _ _ => .error 18)
  (fun _ ih s k => ih P s k)
  (fun _ _ ih s k => ih s k)
  (fun _ _ _ => .error 19)
  x
noncomputable def evV (P : Program) (md : Md) {α : Type} (x : Sem α) : Sg → (α → Sg → Out) → Out :=
 Sem.rec (motive := fun _ => Sg → (α → Sg → Out) → Out)
  (fun a s k => k a s)
  (fun _ a _ ih s k => pickRow md a.block s fun _ r s => match a.spot with
   | some _ => .error 20
   | none => match nth? r.c a.off with
    | some v => ih v s k
    | none => .error 21)
  (fun _ _ _ _ _ _ _ => .error 22)
  (fun _ _ _ _ _ => .error 23)
  (fun r _ ih s k => pickRow md r s fun _ r s => ih (some (r.t, r.c.length)) s k)
  (fun _ _ _ _ _ _ => .error 24)
  (fun a _ ih s k => pickRow md a.block s fun _ r s => match r.own with
   | true => ih false s k
   | false => .error 25)
  (fun _ _ _ _ _ => .error 26)
  (fun _ _ _ _ _ _ => .error 27)
  (fun q _ ih s k => match q.forced with
   | true => ih 0 s k
   | false => .error 28)
  (fun _ _ _ _ _ => .error 29)
  (fun _ ih s k => ih P s k)
  (fun _ _ ih s k => ih s k)
  (fun _ _ _ => .error 30)
  x
noncomputable def newV (P : Program) {α : Type} (x : Sem α) : Option (Array Value × TypeId × (Nat → Sem α)) :=
 Sem.rec (motive := fun _ => Option (Array Value × TypeId × (Nat → Sem α)))
  (fun _ => none) (fun _ _ _ _ => none) (fun _ _ _ _ _ => none)
  (fun o k _ => match o with
   | .cells c t (0, 0) => some (c, t, k)
   | _ => none)
  (fun _ _ _ => none) (fun _ _ _ _ => none) (fun _ _ _ => none) (fun _ _ _ => none) (fun _ _ _ _ => none) (fun _ _ _ => none) (fun _ _ _ => none)
  (fun _ ih => ih P) (fun _ _ ih => ih) (fun _ => none) x
noncomputable def evalT (T : Tm) : Operand → Value
 | .tmp t => tget T t
 | .const v => v
 | .global g => .pointer (some ⟨g, 0, none⟩)
 | .func f => .func (.func f) #[] #[]
noncomputable def putT (T : Tm) (d : Option Tmp) (v : Value) (k : Tm → Out) : Out :=
 match d with
 | some d => tputK T d v k
 | none => k T
noncomputable def yieldT (ops : List Oper) (T : Tm) (j : Nat) : Option Bool :=
 match ((ops[j]?).bind (·.dst)).bind (tget? T) with
 | some (.bool b) => some b
 | _ => none
noncomputable def askG (md : Md) (ops : List Oper) (T : Tm) (o : Oper) (s : Sg) (k : Bool → Sg → Out) : Out :=
 match o.guard with
 | none => k true s
 | some (j, want) => match yieldT ops T j with
  | some b => pickCon md b s fun b s => k (b == want) s
  | none => k false s
def aggB (P : Program) (t : TypeId) : Option Nat :=
 match P.underlying t with
 | some (.struct _) | some (.array _ _) => (P.info? t).map (·.size)
 | _ => none
noncomputable def takeK (n : Nat) : List Value → (List Value → Out) → Out :=
 Nat.rec (motive := fun _ => List Value → (List Value → Out) → Out) (fun _ k => k [])
  (fun _ ih l k => match l with | [] => .error 97 | x :: l => ih l fun q => k (x :: q)) n
noncomputable def loadE (P : Program) (md : Md) (x : Value) (t : TypeId) (s : Sg) (k : Value → Sg → Out) : Out :=
 match x with
 | .pointer (some ⟨b, off, none⟩) => match aggB P t with
  | some n => pickRow md b s fun _ r s => takeK n (r.c.drop off) fun q => k (.agg ⟨q⟩) s
  | none => evV P md (loadVar t ⟨b, off, none⟩) s k
 | .pointer (some a) => evV P md (loadVar t a) s k
 | _ => .error 32
noncomputable def storeE (P : Program) (md : Md) (β : Nat → Fr) (x v : Value) (t : TypeId) (s : Sg) (k : Sg → Out) : Out :=
 match x with
 | .pointer (some ⟨b, 0, none⟩) => match v with
  | .agg ⟨c⟩ => match (P.info? t).map (·.size) with
   | some n => pickRow md b s fun j r s => match r.own && (Nat.beq n r.c.length && (Nat.beq n c.length && c.all (·.oneCell'))) with
    | true => putR s.M j ⟨r.b, c, r.t, true⟩ fun M => k ⟨s.n, s.h, M, s.acc⟩
    | false => .error 33
   | none => .error 34
  | v => evS P md β (storeVar t ⟨b, 0, none⟩ v) s fun _ s => k s
 | .pointer (some a) => evS P md β (storeVar t a v) s fun _ s => k s
 | _ => .error 35
noncomputable def joinK (l : List Value) : List Value → (List Value → Out) → Out :=
 List.rec (motive := fun _ => List Value → (List Value → Out) → Out) (fun r k => k r) (fun x _ ih r k => ih r fun q => k (x :: q)) l
noncomputable def delR (M : List Rw) : Nat → (List Rw → Out) → Out :=
 List.rec (motive := fun _ => Nat → (List Rw → Out) → Out) (fun _ k => k [])
  (fun x l ih n k => Nat.rec (motive := fun _ => Out) (k l) (fun m _ => ih m fun l' => k (x :: l')) n) M
def appOf (o : Oper) : Option (Operand × Operand × TypeId) :=
 match o.guard with
 | some _ => none
 | none => match o.op with
  | .call ci => match ci.callee with
   | .builtin .append => match ci.args with
    | ⟨[s, x]⟩ => match ci.argTypes with
     | ⟨[t, t']⟩ => match Nat.beq t t' with
      | true => some (s, x, t)
      | false => none
     | _ => none
    | _ => none
   | _ => none
  | _ => none
def appT (P : Program) (t : TypeId) : Option (TypeId × Nat × Nat) :=
 match P.underlying t with
 | some (.slice e) => match P.info? e with
  | some i => match i.zero with
   | some z => match Nat.blt 0 i.size && Nat.beq z.cells.size i.size with
    | true => some (e, i.size, i.bytes)
    | false => none
   | none => none
  | none => none
 | _ => none
noncomputable def srcK (md : Md) (size : Nat) (y : Value) (s : Sg) (k : Nat → List Value → Sg → Out) : Out :=
 match y with
 | .slice (some ⟨b, off, none⟩) m _ => pickRow md b s fun _ r s => takeK (Nat.mul m size) (r.c.drop off) fun q => k m q s
 | _ => .error 98
noncomputable def appFin (β : Nat → Fr) (e : TypeId) (size bytes n m : Nat) (xs news : List Value) (s : Sg) (k : Value → Sg → Out) : Out :=
 match Nat.blt 0 m && (Nat.ble (Nat.add n m) 4000000 && (Nat.ble (Nat.mul (Nat.add n m) bytes) 140737488355328 && news.all (·.oneCell'))) with
 | true => joinK news (β s.n).t fun q => joinK xs q fun c => k (.slice (some ⟨(β s.n).b, 0, none⟩) (Nat.add n m) (Nat.div c.length size)) ⟨s.n + 1, s.h, ⟨(β s.n).b, c, e, true⟩ :: s.M, s.acc⟩
 | false => .error 101
def capI (md : Md) (cap len : Nat) (acc : List It) : List It :=
 match md with
 | .check => .eqv (.int .u64 cap) (.int .u64 len) :: acc
 | _ => acc
noncomputable def appE (P : Program) (md : Md) (β : Nat → Fr) (x y : Value) (t : TypeId) (s : Sg) (k : Value → Sg → Out) : Out :=
 match appT P t with
 | none => .error 95
 | some (e, size, bytes) => srcK md size y s fun m news s => match x with
  | .slice none 0 0 => appFin β e size bytes 0 m [] news s k
  | .slice (some ⟨b, 0, none⟩) n cap => pickRow md b s fun j r s => match r.own && Nat.beq r.t e with
   | true => takeK (Nat.mul n size) r.c fun xs => delR s.M j fun M => appFin β e size bytes n m xs news ⟨s.n, s.h, M, capI md cap (Nat.div r.c.length size) s.acc⟩ k
   | false => .error 99
  | _ => .error 100
noncomputable def evR (P : Program) (md : Md) : List ResultVar → Tm → Sg → List Value → (Value → Sg → Out) → Out
 | [], _, s, acc, k => match acc with
  | [v] => k v s
  | acc => k (.tuple acc.reverse.toArray) s
 | .tmp t :: rs, T, s, acc, k => evR P md rs T s (tget T t :: acc) k
 | .cell a t :: rs, T, s, acc, k => loadE P md (tget T a) t s fun v s => evR P md rs T s (v :: acc) k
noncomputable def pickV (md : Md) (x a b : Value) (s : Sg) (k : Value → Sg → Out) : Out :=
 match x with
 | .bool x => pickCon md x s fun x s => match x with
  | true => k a s
  | false => k b s
 | _ => .error 74
abbrev CallE := FuncId → List Value → Sg → (Value → Sg → Out) → Out
def eqVals : List Value → List Value → Bool
 | [], [] => true
 | .int _ x :: l, .int _ y :: l' => match x == y with
  | true => eqVals l l'
  | false => false
 | _, _ => false
def findK (K : List (Nat → Int)) (c : List Value) (j : Nat) : Option (Nat × (Nat → Int)) :=
 match K with
 | [] => none
 | x :: K => match eqVals (bs x).toList c with
  | true => some (j, x)
  | false => findK K c (j + 1)
def atK (K : List (Nat → Int)) : Nat → Option (Nat → Int) :=
 match K with
 | [] => fun _ => none
 | x :: K => fun n => match n with
  | 0 => some x
  | n + 1 => atK K n
def pickK (md : Md) (K : List (Nat → Int)) (c : List Value) (s : Sg) (k : (Nat → Int) → Sg → Out) : Out :=
 match md with
 | .find => match findK K c 0 with
  | some (j, x) => k x ⟨s.n, s.h, s.M, .row j :: s.acc⟩
  | none => .error 36
 | .follow => match s.h with
  | .row j :: h => match atK K j with
   | some x => k x ⟨s.n, h, s.M, .row j :: s.acc⟩
   | none => .error 72
  | _ => .error 37
 | .check => match s.h with
  | .row j :: h => match atK K j with
   | some x => k x ⟨s.n, h, s.M, .eqv (.agg ⟨c⟩) (.agg (bs x)) :: s.acc⟩
   | none => .error 38
  | _ => .error 39
def pickKs (md : Md) (K : List (Nat → Int)) : List (List Value) → List (Nat → Int) → Sg → (List (Nat → Int) → Sg → Out) → Out
 | [], fs, s, k => k fs s
 | c :: cs, fs, s, k => pickK md K c s fun x s => pickKs md K cs (fs ++ [x]) s k
def pickPs (md : Md) : List Bool → Sg → (Sg → Out) → Out
 | [], s, k => k s
 | p :: ps, s, k => pickCon md p s fun b s => match b with
  | true => pickPs md ps s k
  | false => .error 73
noncomputable def callE (E : Env) (md : Md) (run : CallE) (f : FuncId) (args : List Value) (s : Sg) (k : Value → Sg → Out) : Out :=
 match E.sum f args with
 | some (cs, mk) => pickKs md E.known cs [] s fun fs s => pickPs md (mk fs).2 s fun s => k (mk fs).1 s
 | none => run f args s k
def thaw (r : Rw) : Rw := ⟨r.b, r.c, r.t, false⟩
def laysK (P : Program) : Op → Option (TypeId × (Nat → Value))
 | .alloc t => some (t, fun b => .pointer (some ⟨b, 0, none⟩))
 | .box t _ => some (t, fun b => .pointer (some ⟨b, 0, none⟩))
 | .buildSlice t n _ => match P.underlying t with
  | some (.slice e) => some (e, fun b => .slice (some ⟨b, 0, none⟩) n n)
  | _ => none
 | _ => none
def cellsV : Value → List Value
 | .agg ⟨c⟩ => c
 | _ => []
def headN : List Oper → Nat
 | [] => 0
 | o :: l => match o.op with
  | .store _ _ _ => 0
  | _ => match appOf o with
   | some _ => 0
   | none => headN l + 1
def drawK (l : List Oper) (n : Nat) : Option Region.Mode :=
 match Nat.blt n l.length with
 | true => match smB l.toArray n [] with
  | true => some .text
  | false => none
 | false => match smAllB l.toArray [] with
  | true => some .text
  | false => match smAnyB l.toArray [] with
   | true => some .any
   | false => none
inductive Res where
 | bad (n : Nat)
 | val (v : Value) (acc : List It)
 | lay (v : Value) (r : Rw) (mk : Nat → Value) (acc : List It)
 | cal (v : Fr → Value) (c : Fr → List Value) (t : TypeId) (acc : List It)
noncomputable def valE (E : Env) (md : Md) (run : CallE) (o : Oper) (T : Tm) (v0 : Value) (s : Sg) : Res :=
 match fastV E.P (evalT T) o.op with
 | some v => .val v s.acc
 | none => match o.op with
  | .load t x => match loadE E.P md (evalT T x) t s fun v s => .ok (.sub v [] :: s.acc) with
   | .ok (.sub v _ :: acc) => .val v acc
   | .error e => .bad e
   | _ => .bad 62
  | .pick c a b => match pickV md (evalT T c) (evalT T a) (evalT T b) s fun v s => .ok (.sub v [] :: s.acc) with
   | .ok (.sub v _ :: acc) => .val v acc
   | .error e => .bad e
   | _ => .bad 75
  | _ => match evV E.P md (execOp (evalT T) o) s fun x s => .ok (.nx x s.h :: s.acc) with
   | .ok (.nx x l :: acc) => match x with
    | .value v => .val v acc
    | .enter f args => match E.P.inits.toList.all (fun g => !(Nat.beq g f)) with
     | false => .bad 64
     | true => match md with
      | .check => match callE E .check run f args.toList ⟨s.n, l, s.M.map thaw, acc⟩ fun v s => .ok (.eqv v v0 :: s.acc) with
       | .ok acc => .val v0 acc
       | .error e => .bad e
      | md => match callE E md run f args.toList ⟨s.n, l, s.M.map thaw, acc⟩ fun v s => .ok (.eqv v v :: s.acc) with
       | .ok (.eqv v _ :: acc) => .val v acc
       | .error e => .bad e
       | _ => .bad 65
    | _ => .bad 66
   | .error e => .bad e
   | _ => .bad 67
noncomputable def layE (E : Env) (β : Nat → Fr) (o : Oper) (T : Tm) (t : TypeId) (mk : Nat → Value) (s : Sg) : Res :=
 match newV E.P (execOp (evalT T) o) with
 | some (c, t', k) => match Nat.beq t t', k (β s.n).b with
  | true, .pure (.value v) => .lay v ⟨(β s.n).b, c.toList, t, true⟩ mk s.acc
  | _, _ => .bad 60
 | none => .bad 61
def encR (r : Rw) : Value := .tuple #[.int .u64 r.b, .int .u64 r.t, .bool r.own, .agg ⟨r.c⟩]
def encM (M : List Rw) : Value := .tuple ⟨M.map encR⟩
noncomputable def cI (md : Md) (H : CHole) (M : List Rw) (acc : List It) : List It :=
 match md with
 | .check => .eqv (encM M) (encM H.rows) :: acc
 | _ => acc
def hdC : List Rw → List Value
 | r :: _ => r.c
 | [] => []
noncomputable def calF (E : Env) (md : Md) (H : CHole) (β : Nat → Fr) (n : Nat) (f : FuncId) (acc : List It) : Res :=
 match Nat.beq H.n 1 with
 | true => match H.lay [β n] with
  | [r] => .cal (fun fr => H.v [fr]) (fun fr => hdC (H.lay [fr])) r.t (match md with | .check => .eqv (encM (H.lay [β n])) (encM [⟨(β n).b, hdC (H.lay [β n]), r.t, true⟩]) :: acc | _ => acc)
  | _ => .bad 110
 | false => match Nat.beq H.n 0, H.lay [], E.P.inits.toList.all (fun g => !(Nat.beq g f)) with
  | true, [], true => .val (H.v []) acc
  | _, _, _ => .bad 111
noncomputable def calE (E : Env) (md : Md) (β : Nat → Fr) (o : Oper) (T : Tm) (s : Sg) : Option Res :=
 match o.op with
 | .call _ => match evV E.P md (execOp (evalT T) o) s fun x s => .ok (.nx x s.h :: s.acc) with
  | .ok (.nx (.enter f args) l :: acc) => match E.csum f args.toList (s.M.map thaw) with
   | some H => match pickPs md H.pre ⟨s.n, l, s.M, cI md H (s.M.map thaw) acc⟩ fun s => .ok s.acc with
    | .error e => some (.bad e)
    | .ok acc => some (calF E md H β s.n f acc)
   | none => none
  | _ => none
 | _ => none
noncomputable def opE (E : Env) (md : Md) (β : Nat → Fr) (run : CallE) (o : Oper) (T : Tm) (v0 : Value) (s : Sg) : Res :=
 match laysK E.P o.op with
 | some (t, mk) => layE E β o T t mk s
 | none => match calE E md β o T s with
  | some r => r
  | none => valE E md run o T v0 s
noncomputable def opD (E : Env) (md : Md) (β : Nat → Fr) (run : CallE) (all : List Oper) (o : Oper) (T : Tm) (v0 : Value) (s : Sg) : Res :=
 match askG md all T o s fun g s => .ok (.sub (.bool g) s.h :: s.acc) with
 | .ok (.sub (.bool g) l :: acc) => match g with
  | false => .val undef acc
  | true => opE E md β run o T v0 ⟨s.n, l, s.M, acc⟩
 | .error e => .bad e
 | _ => .bad 63
def rowsD (rm : Region.Mode) (all : List Oper) (i : Nat) (L : List (Nat × Rw)) (M : List Rw) : List Rw :=
 (L.filter fun x => ancB rm all.toArray all.length i x.1).map (·.2) ++ M
noncomputable def evD (E : Env) (rm : Region.Mode) (md : Md) (β : Nat → Fr) (run : CallE) (all : List Oper) (l : List Oper) : Nat → Tm → Sg → List (Nat × Rw) → (Tm → Sg → Out) → Out :=
 List.rec (motive := fun _ => Nat → Tm → Sg → List (Nat × Rw) → (Tm → Sg → Out) → Out)
  (fun _ T s L K => K T ⟨s.n, s.h, L.map (·.2) ++ s.M, s.acc⟩)
  (fun o _ ih i T s L K => match md with
   | .check => match s.h with
    | .sub v0 l :: h => match opD E .check β run all o T v0 ⟨s.n, l, rowsD rm all i L s.M, s.acc⟩ with
     | .val v acc => putT T o.dst v fun T => ih (i + 1) T ⟨s.n, h, s.M, acc⟩ L K
     | .lay _ _ _ _ => .error 68
     | .cal _ _ _ _ => .error 112
     | .bad n => .error n
    | .cal v c t l :: h => match opD E .check β run all o T undef ⟨s.n, l, rowsD rm all i L s.M, s.acc⟩ with
     | .cal v' c' t' acc => putT T o.dst (v (β s.n)) fun T => ih (i + 1) T ⟨s.n + 1, h, s.M, .eqv (v' (β s.n)) (v (β s.n)) :: .eqv (encM [⟨(β s.n).b, c' (β s.n), t', true⟩]) (encM [⟨(β s.n).b, c (β s.n), t, true⟩]) :: acc⟩ (L ++ [(i, ⟨(β s.n).b, c (β s.n), t, true⟩)]) K
     | .bad n => .error n
     | _ => .error 113
    | .lay v0 l :: h => match opD E .check β run all o T v0 ⟨s.n, l, rowsD rm all i L s.M, s.acc⟩ with
     | .cal _ _ _ _ => .error 114
     | .val _ _ => .error 69
     | .lay v r mk acc => putT T o.dst (mk (β s.n).b) fun T => ih (i + 1) T ⟨s.n + 1, h, s.M, .eqv v (mk (β s.n).b) :: .eqv (.agg ⟨r.c⟩) (.agg ⟨cellsV v0⟩) :: acc⟩ (L ++ [(i, ⟨(β s.n).b, cellsV v0, r.t, true⟩)]) K
     | .bad n => .error n
    | _ => .error 46
   | .find => match opD E .find β run all o T undef ⟨s.n, [], rowsD rm all i L s.M, []⟩ with
    | .val v acc => putT T o.dst v fun T => ih (i + 1) T ⟨s.n, s.h, s.M, .sub v acc.reverse :: s.acc⟩ L K
    | .lay v r _ acc => putT T o.dst v fun T => ih (i + 1) T ⟨s.n + 1, s.h, s.M, .lay (.agg ⟨r.c⟩) acc.reverse :: s.acc⟩ (L ++ [(i, r)]) K
    | .cal v c t acc => putT T o.dst (v (β s.n)) fun T => ih (i + 1) T ⟨s.n + 1, s.h, s.M, .cal v c t acc.reverse :: s.acc⟩ (L ++ [(i, ⟨(β s.n).b, c (β s.n), t, true⟩)]) K
    | .bad n => .error n
   | .follow => match s.h with
    | .sub _ l :: h => match opD E .follow β run all o T undef ⟨s.n, l, rowsD rm all i L s.M, []⟩ with
     | .val v acc => putT T o.dst v fun T => ih (i + 1) T ⟨s.n, h, s.M, .sub v acc.reverse :: s.acc⟩ L K
     | .lay _ _ _ _ => .error 70
     | .cal _ _ _ _ => .error 115
     | .bad n => .error n
    | .cal _ _ _ l :: h => match opD E .follow β run all o T undef ⟨s.n, l, rowsD rm all i L s.M, []⟩ with
     | .cal v c t acc => putT T o.dst (v (β s.n)) fun T => ih (i + 1) T ⟨s.n + 1, h, s.M, .cal v c t acc.reverse :: s.acc⟩ (L ++ [(i, ⟨(β s.n).b, c (β s.n), t, true⟩)]) K
     | .bad n => .error n
     | _ => .error 116
    | .lay _ l :: h => match opD E .follow β run all o T undef ⟨s.n, l, rowsD rm all i L s.M, []⟩ with
     | .val _ _ => .error 71
     | .cal _ _ _ _ => .error 117
     | .lay v r _ acc => putT T o.dst v fun T => ih (i + 1) T ⟨s.n + 1, h, s.M, .lay (.agg ⟨r.c⟩) acc.reverse :: s.acc⟩ (L ++ [(i, r)]) K
     | .bad n => .error n
    | _ => .error 47) l
noncomputable def needE (T : Tm) : List (Nat × Value) → List It → List It
 | [], acc => acc
 | (i, v) :: l, acc => needE T l (.eqv (tget T i) v :: acc)
noncomputable def opI (md : Md) (H : OHole) (T : Tm) (M : List Rw) (acc : List It) : List It :=
 match md with
 | .check => needE T H.need (.eqv (encM M) (encM H.rows) :: acc)
 | _ => acc
def frL (β : Nat → Fr) (n k : Nat) : List Fr := (List.range k).map fun i => β (n + i)
noncomputable def concE (E : Env) (md : Md) (o : Oper) (v : Value) (s : Sg) (k : Value → Sg → Out) : Out :=
 match E.cc o.op with
 | false => k v s
 | true => match v with
  | .int kd z => match md with
   | .find => k v ⟨s.n, s.h, s.M, .sub v [] :: s.acc⟩
   | .follow => match s.h with
    | .sub (.int _ z0) _ :: h => k (.int kd z0) ⟨s.n, h, s.M, .sub (.int kd z0) [] :: s.acc⟩
    | _ => .error 90
   | .check => match s.h with
    | .sub (.int _ z0) _ :: h => k (.int kd z0) ⟨s.n, h, s.M, .con (z == z0) true :: s.acc⟩
    | _ => .error 91
  | _ => .error 92
noncomputable def evO (E : Env) (md : Md) (β : Nat → Fr) (run : CallE) (all : List Oper) (l : List Oper) : Tm → Sg → (Tm → Sg → Out) → Out :=
 List.rec (motive := fun _ => Tm → Sg → (Tm → Sg → Out) → Out) (fun T s K => K T s)
  (fun o _ ih T s K => askG md all T o s fun g s => match g with
   | false => putT T o.dst undef fun T => ih T s K
   | true => match E.oph o T s.M with
   | some H => match Nat.beq T.n H.n with
    | true => pickPs md H.pre ⟨s.n, s.h, s.M, opI md H T s.M s.acc⟩ fun s => putT T o.dst (H.v.getD undef) fun T => ih T ⟨s.n, s.h, H.rows1, s.acc⟩ K
    | false => .error 102
   | none => match fastV E.P (evalT T) o.op with
    | some v => putT T o.dst v fun T => ih T s K
    | none => match appOf o with
    | some (x, y, t) => appE E.P md β (evalT T x) (evalT T y) t s fun v s => putT T o.dst v fun T => ih T s K
    | none => match o.op with
     | .load t x => loadE E.P md (evalT T x) t s fun v s => putT T o.dst v fun T => ih T s K
     | .store t x y => storeE E.P md β (evalT T x) (evalT T y) t s fun s => putT T o.dst undef fun T => ih T s K
     | .pick c a b => pickV md (evalT T c) (evalT T a) (evalT T b) s fun v s => putT T o.dst v fun T => ih T s K
     | _ => evS E.P md β (execOp (evalT T) o) s fun nx s => match nx with
      | .value v => concE E md o v s fun v s => putT T o.dst v fun T => ih T s K
      | .skip => putT T o.dst undef fun T => ih T s K
      | .enter f args => match E.csum f args.toList s.M with
       | some H => pickPs md H.pre ⟨s.n, s.h, s.M, cI md H s.M s.acc⟩ fun s => putT T o.dst (H.v (frL β s.n H.n)) fun T => ih T ⟨s.n + H.n, s.h, H.lay (frL β s.n H.n) ++ s.M, s.acc⟩ K
       | none => callE E md run f args.toList s fun v s => putT T o.dst v fun T => ih T s K
      | _ => .error 50) l
noncomputable def fillT (i : Nat) : List Value → Tm → (Tm → Out) → Out
 | [], T, k => k T
 | v :: l, T, k => tputK T i v fun T => fillT (i + 1) l T k
noncomputable def putsT : List (Nat × Value) → Tm → (Tm → Out) → Out
 | [], T, k => k T
 | (i, v) :: l, T, k => tputK T i v fun T => putsT l T k
abbrev CodeK := Exit → Tm → Sg → Out
abbrev CodeE := Code → Tm → Sg → CodeK → Out
noncomputable def runE (E : Env) (md : Md) (ih : CodeE) : CallE := fun f args s k =>
 match E.P.funcs[f]? with
 | none => .error 51
 | some fn => match fn.body with
  | none => .error 52
  | some c => match Nat.decLe (max fn.ntmps args.length) 4000 with
   | isFalse _ => .error 81
   | isTrue h => fillT 0 args ⟨max fn.ntmps args.length, .e, h⟩ fun T => ih c T s fun e T s => match e with
   | .normal => evR E.P md fn.results.toList T s [] k
   | .ret => evR E.P md fn.results.toList T s [] k
   | _ => .error 53
noncomputable def stepC (E : Env) (md : Md) (β : Nat → Fr) (ih : CodeE) : CodeE := fun c T s K =>
 match c with
 | .skip => K .normal T s
 | .region _ ops draw => match draw with
  | false => evO E md β (runE E md ih) ops.toList ops.toList T s fun T s => K .normal T s
  | true => match drawK ops.toList (headN ops.toList) with
   | some rm => evD E rm md β (runE E md ih) ops.toList (ops.toList.take (headN ops.toList)) 0 T s [] fun T s =>
    evO E md β (runE E md ih) ops.toList (ops.toList.drop (headN ops.toList)) T s fun T s => K .normal T s
   | none => .error 57
 | .seq a b => ih a T s fun e T s => match e with
  | .normal => ih b T s K
  | e => K e T s
 | .cond c x y => match evalT T c with
  | .bool b => pickCon md b s fun b s => match b with
   | true => ih x T s K
   | false => ih y T s K
  | _ => .error 54
 | .block id body => match E.hole id body T s.M with
  | some H => match Nat.beq T.n H.n with
   | true => pickPs md H.pre ⟨s.n, s.h, s.M, match md with | .check => needE T H.need (.eqv (encM s.M) (encM H.rows) :: .cod (.block id body) H.code :: s.acc) | _ => s.acc⟩ fun s => pickCon md H.test s fun b s =>
    putsT (H.post b (β s.n).x).2.1 T fun T => K (H.post b (β s.n).x).1 T ⟨s.n + 1, s.h, (H.post b (β s.n).x).2.2, s.acc⟩
   | false => .error 93
  | none => ih body T s fun e T s => match e with
   | .exit j => match Nat.beq j id with
    | true => K .normal T s
    | false => K (.exit j) T s
   | e => K e T s
 | .loop body => ih body T s fun e T s => match e with
  | .normal => ih (.loop body) T s K
  | e => K e T s
 | .exit id => K (.exit id) T s
 | .ret => K .ret T s
 | _ => .error 55
noncomputable def evC (E : Env) (md : Md) (β : Nat → Fr) (fuel : Nat) : CodeE :=
 Nat.rec (motive := fun _ => CodeE) (fun _ _ _ _ => .error 56) (fun _ ih => stepC E md β ih) fuel
noncomputable def evF (E : Env) (md : Md) (β : Nat → Fr) (fuel : Nat) : CallE := runE E md (evC E md β fuel)
def encE : Exit → Value
 | .normal => .int .u8 0
 | .exit n => .tuple #[.int .u64 n]
 | .ret => .int .u8 1
 | _ => undef
noncomputable def evCodeM (E : Env) (md : Md) (fuel : Nat) (c : Code) (vals : List Value) (M : List Rw) (h : List It) (ex : Exit) (keep : List (Nat × Value)) (M1 : List Rw) (β : Nat → Fr) : Out :=
 match Nat.decLe (max vals.length vals.length) 4000 with
 | isFalse _ => .error 94
 | isTrue hl => fillT 0 vals ⟨max vals.length vals.length, .e, hl⟩ fun T => evC E md β fuel c T ⟨0, h, M, []⟩ fun e T s =>
  .ok (needE T keep (.eqv (encE e) (encE ex) :: .eqv (encM (s.M.drop (s.M.length - M1.length))) (encM M1) :: .eqv (.int .u64 T.n) (.int .u64 vals.length) :: s.acc))
noncomputable def evCodeHints (E E' : Env) (fuel : Nat) (c : Code) (vals vals' : List Value) (M M' : List Rw) : List It :=
 match evCodeM E' .find fuel c vals' M' [] .normal [] [] noB with
 | .error _ => []
 | .ok h => match evCodeM E .follow fuel c vals M (h.drop 3).reverse .normal [] [] noB with
  | .error _ => []
  | .ok h => (h.drop 3).reverse
noncomputable def evCode (E E' : Env) (fuel : Nat) (c : Code) (vals vals' : List Value) (M M' : List Rw) (ex : Exit) (keep : List (Nat × Value)) (M1 : List Rw) (β : Nat → Fr) : Out :=
 evCodeM E .check fuel c vals M (evCodeHints E E' fuel c vals vals' M M') ex keep M1 β
def assocN : List (Nat × Value) → Nat → Option Value
 | [], _ => none
 | (j, v) :: l, i => match Nat.beq j i with
  | true => some v
  | false => assocN l i
def valsOf (need : List (Nat × Value)) (g : Nat → Value) (n : Nat) : List Value := (List.range n).map fun i => match assocN need i with | some v => v | none => g i
def memN : List Nat → Nat → Bool
 | [], _ => false
 | j :: l, i => match Nat.beq j i with
  | true => true
  | false => memN l i
def keepOf (need : List (Nat × Value)) (g : Nat → Value) (n : Nat) (hav : List Nat) : List (Nat × Value) :=
 ((List.range n).filter fun i => !(memN hav i)).map fun i => (i, match assocN need i with | some v => v | none => g i)
noncomputable def evTop (E : Env) (fuel : Nat) (f : FuncId) (args : List Value) (v : Value) (β : Nat → Fr) : Out :=
 match evF E .find noB fuel f args ⟨0, [], [], []⟩ fun _ s => .ok s.acc with
 | .error e => .error e
 | .ok h => evF E .check β fuel f args ⟨0, h.reverse, [], []⟩ fun r s => .ok (.eqv r v :: s.acc)
noncomputable def evHints (E E' : Env) (fuel : Nat) (f : FuncId) (args args' : List Value) : List It :=
 match evF E' .find noB fuel f args' ⟨0, [], [], []⟩ fun _ s => .ok s.acc with
 | .error _ => []
 | .ok h => match evF E .follow noB fuel f args ⟨0, h.reverse, [], []⟩ fun _ s => .ok s.acc with
  | .error _ => []
  | .ok h => h.reverse
noncomputable def evPath (E E' : Env) (fuel : Nat) (f : FuncId) (args args' : List Value) (v : Value) (β : Nat → Fr) : Out :=
 evF E .check β fuel f args ⟨0, evHints E E' fuel f args args', [], []⟩ fun r s => .ok (.eqv r v :: s.acc)
def It.l : It → Lv
 | .eqv x _ => .v x
 | .con c _ => .v (.bool c)
 | .cod x _ => .c x
 | _ => .v undef
def It.r : It → Lv
 | .eqv _ y => .v y
 | .con _ b => .v (.bool b)
 | .cod _ y => .c y
 | _ => .v undef
def lhsO (o : Out) : List Lv := match o with
 | .ok l => l.map It.l
 | .error _ => [.v (.bool false)]
def rhsO (o : Out) : List Lv := match o with
 | .ok l => l.map It.r
 | .error _ => [.v (.bool true)]
def tagL (D : List (Bool × Bool)) : List It → List Nat → List Lv
 | [], _ => []
 | .con c b :: l, t :: ts => match t with
  | 0 => .v (.bool c) :: tagL D l ts
  | _ + 1 => .v (.bool c) :: .v (.bool b) :: tagL D l ts
 | .con c _ :: l, [] => .v (.bool c) :: tagL D l []
 | x :: l, ts => x.l :: tagL D l ts
def tagR (D : List (Bool × Bool)) : List It → List Nat → List Lv
 | [], _ => []
 | .con _ b :: l, t :: ts => match t with
  | 0 => .v (.bool b) :: tagR D l ts
  | k + 1 => match D[k]? with
   | some (x, y) => .v (.bool x) :: .v (.bool y) :: tagR D l ts
   | none => [.v (.bool true), .v (.int .u8 0)]
 | .con _ b :: l, [] => .v (.bool b) :: tagR D l []
 | x :: l, ts => x.r :: tagR D l ts
def tagOL (D : List (Bool × Bool)) (ts : List Nat) (o : Out) : List Lv := match o with
 | .ok l => tagL D l ts
 | .error _ => [.v (.bool false)]
def tagOR (D : List (Bool × Bool)) (ts : List Nat) (o : Out) : List Lv := match o with
 | .ok l => tagR D l ts
 | .error _ => [.v (.bool true)]
end Ev
end Go.Proofs.Ytjoalcaooccbiaa
/- EvS -/
namespace Go.Proofs.Ytjoalcaooccbiaa
open Go.RowKit VecM
namespace Ev
def ents (M : List Rw) : List Ent := (M.filter (·.own)).map fun r => ⟨r.b, r.c.toArray, r.t⟩
def SG (w0 : World) (M : List Rw) (w : World) : Prop :=
 St w0 (ents M) w ∧ ∀ r ∈ M, r.own = false → ∃ fr, w0.heap[r.b]? = some (.cells r.c.toArray r.t fr)
theorem Has.of_mem {M : List Ent} {e : Ent} (h : e ∈ M) : Has M e.b e.c e.t := by
 induction M with
 | nil => cases h
 | cons x M ih =>
  rcases List.mem_cons.1 h with rfl | h
  ·exact .hd
  ·exact .tl (ih h)
theorem ents_mem {M : List Rw} {r : Rw} (h : r ∈ M) (ho : r.own = true) : Has (ents M) r.b r.c.toArray r.t :=
 Has.of_mem (e := ⟨r.b, r.c.toArray, r.t⟩) (List.mem_map.2 ⟨r, List.mem_filter.2 ⟨h, ho⟩, rfl⟩)
theorem SG.row {w0 w : World} {M : List Rw} (h : SG w0 M w) {r : Rw} (hr : r ∈ M) : ∃ fr, w.heap[r.b]? = some (.cells r.c.toArray r.t fr) ∧ (r.own = true → fr = (0, 0)) := by
 cases ho : r.own with
 | true => exact ⟨(0, 0), h.1.row (ents_mem hr ho), fun _ => rfl⟩
 | false =>
  obtain ⟨fr, hf⟩ := h.2 r hr ho
  exact ⟨fr, gr_block h.1.gr hf, fun h => by cases h⟩
theorem SG.gr {w0 w : World} {M : List Rw} (h : SG w0 M w) : Gr w0 w := h.1.gr
theorem SG.grow {w0 w w' : World} {M : List Rw} (h : SG w0 M w) (hg : Gr w w') : SG w0 M w' := ⟨h.1.grow hg, h.2⟩
theorem SG.alloc {w0 w : World} {M : List Rw} (h : SG w0 M w) (c : List Value) (t : TypeId) : SG w0 (⟨w.heap.size, c, t, true⟩ :: M) (w.alloc (.cells c.toArray t)) := by
 refine ⟨?_, fun r hr ho => ?_⟩
 ·exact h.1.alloc c.toArray t
 ·rcases List.mem_cons.1 hr with rfl | hr
  ·cases ho
  ·exact h.2 r hr ho
theorem SG.thaw {w0 w : World} {M : List Rw} (h : SG w0 M w) : SG w (M.map thaw) w := by
 refine ⟨?_, fun r hr _ => ?_⟩
 ·have e : ents (M.map Ev.thaw) = [] := by
   unfold ents
   rw [List.map_eq_nil_iff, List.filter_eq_nil_iff]
   intro r hr
   obtain ⟨q, _, rfl⟩ := List.mem_map.1 hr
   simp [Ev.thaw]
  rw [e]
  exact St.start w
 ·obtain ⟨q, hq, rfl⟩ := List.mem_map.1 hr
  obtain ⟨fr, hf, _⟩ := h.row hq
  exact ⟨fr, hf⟩
theorem nth_eq (l : List Value) (n : Nat) : nth l n = l.getD n undef := by
 induction l generalizing n with
 | nil => rfl
 | cons x l ih =>
  cases n with
  | zero => rfl
  | succ n => exact ih n
theorem nth?_eq (l : List Value) (n : Nat) : nth? l n = l[n]? := by
 induction l generalizing n with
 | nil => rfl
 | cons x l ih =>
  cases n with
  | zero => rfl
  | succ n => exact ih n
theorem getR_set : ∀ (f : Nat) (t : Tr) (i : Nat) (v : Value), i + 1 < 2 ^ f → ∃ t', (∀ k, setR f t i v k = k t') ∧ ∀ j, getR t' j = if j = i then v else getR t j := by
 intro f
 induction f with
 | zero => intro t i v h; simp at h
 | succ f ih =>
  intro t i v h
  have hp : (2 : Nat) ^ (f + 1) = 2 * 2 ^ f := by rw [Nat.pow_succ]; omega
  have ge : ∀ (x : Value) (l r : Tr) (m : Nat), getR (.n x l r) (m + 1) = if m % 2 = 0 then getR l (m / 2) else getR r (m / 2) := fun x l r m => by
   show Nat.rec (motive := fun _ => Value) (getR l (Nat.div m 2)) (fun _ _ => getR r (Nat.div m 2)) (Nat.mod m 2) = _
   have e : Nat.mod m 2 = m % 2 := rfl
   have e2 : Nat.div m 2 = m / 2 := rfl
   rw [e, e2]
   rcases Nat.mod_two_eq_zero_or_one m with h | h <;> rw [h] <;> rfl
  have g0 : ∀ (x : Value) (l r : Tr), getR (.n x l r) 0 = x := fun _ _ _ => rfl
  have key : ∀ (x : Value) (l r : Tr), (∀ j, getR t j = getR (.n x l r) j) → (∀ k, setR (f + 1) t i v k = Nat.rec (motive := fun _ => Out) (k (.n v l r)) (fun m _ => Nat.rec (motive := fun _ => Out) (setR f l (Nat.div m 2) v fun l => k (.n x l r)) (fun _ _ => setR f r (Nat.div m 2) v fun r => k (.n x l r)) (Nat.mod m 2)) i) →
    ∃ t', (∀ k, setR (f + 1) t i v k = k t') ∧ ∀ j, getR t' j = if j = i then v else getR t j := fun x l r hg hs => by
   cases i with
   | zero =>
    refine ⟨.n v l r, fun k => hs k, fun j => ?_⟩
    cases j with
    | zero => rfl
    | succ j => rw [if_neg (by omega), hg, ge, ge]
   | succ m =>
    have hm : m / 2 + 1 < 2 ^ f := by omega
    rcases Nat.mod_two_eq_zero_or_one m with h0 | h0
    ·obtain ⟨l', h1, h2⟩ := ih l (m / 2) v hm
     refine ⟨.n x l' r, fun k => ?_, fun j => ?_⟩
     ·rw [hs]
      show Nat.rec (motive := fun _ => Out) (setR f l (m / 2) v fun l => k (.n x l r)) (fun _ _ => setR f r (m / 2) v fun r => k (.n x l r)) (m % 2) = _
      rw [h0]
      exact h1 _
     ·rw [hg]
      cases j with
      | zero => rw [if_neg (by omega), g0, g0]
      | succ j =>
       rw [ge, ge, h2]
       by_cases hj : j = m
       ·subst hj; simp [h0]
       ·rw [if_neg (show ¬ j + 1 = m + 1 by omega)]
        split
        ·rw [if_neg (by omega)]
        ·rfl
    ·obtain ⟨r', h1, h2⟩ := ih r (m / 2) v hm
     refine ⟨.n x l r', fun k => ?_, fun j => ?_⟩
     ·rw [hs]
      show Nat.rec (motive := fun _ => Out) (setR f l (m / 2) v fun l => k (.n x l r)) (fun _ _ => setR f r (m / 2) v fun r => k (.n x l r)) (m % 2) = _
      rw [h0]
      exact h1 _
     ·rw [hg]
      cases j with
      | zero => rw [if_neg (by omega), g0, g0]
      | succ j =>
       rw [ge, ge, h2]
       by_cases hj : j = m
       ·subst hj; simp [h0]
       ·rw [if_neg (show ¬ j + 1 = m + 1 by omega)]
        split
        ·rfl
        ·rw [if_neg (by omega)]
  cases t with
  | e =>
   refine key undef .e .e (fun j => ?_) (fun k => rfl)
   cases j with
   | zero => rfl
   | succ j => rw [ge]; split <;> rfl
  | n x l r => exact key x l r (fun _ => rfl) (fun k => rfl)
noncomputable def Tm.toArray (T : Tm) : Array Value := ((List.range T.n).map (getR T.t)).toArray
theorem blt_iff (i n : Nat) : Nat.blt i n = true ↔ i < n := by unfold Nat.blt; rw [Nat.ble_eq]; omega
theorem tget_eq (T : Tm) (i : Nat) : tget T i = T.toArray.getD i undef := by
 unfold tget Tm.toArray
 cases h : Nat.blt i T.n with
 | true =>
  have := (blt_iff _ _).1 h
  simp [this]
 | false =>
  have h' : ¬ i < T.n := fun hh => by rw [(blt_iff _ _).2 hh] at h; cases h
  simp [h']
theorem tget?_eq (T : Tm) (i : Nat) : tget? T i = T.toArray[i]? := by
 unfold tget? Tm.toArray
 cases h : Nat.blt i T.n with
 | true =>
  have := (blt_iff _ _).1 h
  simp [this]
 | false =>
  have h' : ¬ i < T.n := fun hh => by rw [(blt_iff _ _).2 hh] at h; cases h
  simp [h']
theorem tput_ex (T : Tm) (i : Nat) (v : Value) : ∃ T' : Tm, (∀ k, tputK T i v k = k T') ∧ T'.toArray = T.toArray.setIfInBounds i v := by
 cases h : Nat.blt i T.n with
 | true =>
  have hi := (blt_iff _ _).1 h
  obtain ⟨t', h1, h2⟩ := getR_set 12 T.t i v (by have := T.h; omega)
  refine ⟨⟨T.n, t', T.h⟩, fun k => ?_, ?_⟩
  ·unfold tputK; rw [h]; exact h1 _
  ·unfold Tm.toArray
   simp only [List.setIfInBounds_toArray]
   congr 1
   apply List.ext_getElem
   ·simp
   ·intro j hj hj'
    simp [h2, List.getElem_set]
    by_cases hji : j = i
    ·subst hji; simp
    ·rw [if_neg hji, if_neg (fun e => hji e.symm)]
 | false =>
  have h' : ¬ i < T.n := fun hh => by rw [(blt_iff _ _).2 hh] at h; cases h
  refine ⟨T, fun k => ?_, ?_⟩
  ·unfold tputK; rw [h]
  ·unfold Tm.toArray
   simp only [List.setIfInBounds_toArray]
   congr 1
   rw [List.set_eq_of_length_le (by simp; omega)]
theorem rowAt_eq (l : List Rw) (n : Nat) : rowAt l n = l[n]? := by
 induction l generalizing n with
 | nil => rfl
 | cons x l ih =>
  cases n with
  | zero => rfl
  | succ n => exact ih n
theorem putK_eq (l : List Value) (n : Nat) (v : Value) (k : List Value → Out) : putK l n v k = k (l.set n v) := by
 induction l generalizing n k with
 | nil => rfl
 | cons x l ih =>
  cases n with
  | zero => rfl
  | succ n => exact ih n _
theorem putR_eq (l : List Rw) (n : Nat) (v : Rw) (k : List Rw → Out) : putR l n v k = k (l.set n v) := by
 induction l generalizing n k with
 | nil => rfl
 | cons x l ih =>
  cases n with
  | zero => rfl
  | succ n => exact ih n _
theorem rep_set {M : List Rw} {j : Nat} {r : Rw} (h : M[j]? = some r) (ho : r.own = true) (c : List Value) : Rep (ents M) r.b r.c.toArray r.t c.toArray (ents (M.set j ⟨r.b, c, r.t, true⟩)) := by
 induction M generalizing j with
 | nil => simp at h
 | cons x M ih =>
  cases j with
  | zero =>
   simp at h
   subst h
   unfold ents
   simp only [List.set_cons_zero, List.filter_cons, ho, if_true, List.map_cons]
   exact .hd
  | succ j =>
   simp at h
   have := ih h
   unfold ents at *
   simp only [List.set_cons_succ, List.filter_cons]
   split
   ·exact .tl this
   ·exact this
theorem SG.set {w0 w : World} {M : List Rw} (h : SG w0 M w) {j : Nat} {r : Rw} (hj : M[j]? = some r) (ho : r.own = true) (c : List Value) : SG w0 (M.set j ⟨r.b, c, r.t, true⟩) (w.setRow r.b c.toArray) := by
 refine ⟨h.1.setRow (rep_set hj ho c), fun q hq hn => ?_⟩
 rcases List.mem_or_eq_of_mem_set hq with hq | rfl
 ·exact h.2 q hq hn
 ·cases hn
theorem SG.setCell {w0 w : World} {M : List Rw} (h : SG w0 M w) {j : Nat} {r : Rw} (hj : M[j]? = some r) (ho : r.own = true) (off : Nat) (v : Value) : SG w0 (M.set j ⟨r.b, r.c.set off v, r.t, true⟩) (w.setCell ⟨r.b, off, none⟩ v) := by
 refine ⟨h.1.setCell (c := r.c.toArray) (t := r.t) off v ?_, fun q hq hn => ?_⟩
 ·have := rep_set hj ho (r.c.set off v)
  simpa using this
 ·rcases List.mem_or_eq_of_mem_set hq with hq | rfl
  ·exact h.2 q hq hn
  ·cases hn
def good (o : Out) : Prop := ∃ l, o = .ok l ∧ ∀ x ∈ l, x.l = x.r
theorem good_ok {l : List It} : good (.ok l) ↔ ∀ x ∈ l, x.l = x.r := ⟨fun ⟨_, h, h'⟩ => by cases h; exact h', fun h => ⟨l, rfl, h⟩⟩
theorem not_good {n : Nat} : ¬ good (.error n) := fun ⟨_, h, _⟩ => by cases h
def Kp (A : List It) (o : Out) : Prop := ∀ l, o = .ok l → (∀ x ∈ l, x.l = x.r) → ∀ x ∈ A, x.l = x.r
theorem Kp.err {A : List It} {n : Nat} : Kp A (.error n) := fun _ h => by cases h
theorem Kp.tail {x : It} {A : List It} {o : Out} (h : Kp (x :: A) o) : Kp A o := fun l hl hg _ hi => h l hl hg _ (List.mem_cons_of_mem _ hi)
theorem Kp.holds {x : It} {A : List It} {o : Out} (h : Kp (x :: A) o) (hg : good o) : x.l = x.r := by
 obtain ⟨l, hl, h'⟩ := hg
 exact h l hl h' _ (List.mem_cons_self ..)
abbrev KK (α : Type) := α → Sg → Out
def KeepK {α : Type} (k : KK α) : Prop := ∀ a s, Kp s.acc (k a s)
theorem pickRow_kp {blk : Nat} {s : Sg} {k : Nat → Rw → Sg → Out} (hk : ∀ j r s, Kp s.acc (k j r s)) : Kp s.acc (pickRow .check blk s k) := by
 unfold pickRow
 simp only
 split
 ·split
  ·exact (hk _ _ _).tail
  ·exact .err
 ·exact .err
theorem pickRow_inv {blk : Nat} {s : Sg} {k : Nat → Rw → Sg → Out} (hk : ∀ j r s, Kp s.acc (k j r s)) (hg : good (pickRow .check blk s k)) :
  ∃ j h r, s.M[j]? = some r ∧ blk = r.b ∧ ∀ (A : List It) (k' : Nat → Rw → Sg → Out), pickRow .check blk ⟨s.n, s.h, s.M, A⟩ k' = k' j r ⟨s.n, h, s.M, .eqv (.int .u64 blk) (.int .u64 r.b) :: A⟩ := by
 unfold pickRow at hg
 simp only at hg
 split at hg
 ·rename_i j h hh
  split at hg
  ·rename_i r hr
   refine ⟨j, h, r, by rw [← rowAt_eq]; exact hr, ?_, fun A k' => ?_⟩
   ·have e := (hk j r ⟨s.n, h, s.M, .eqv (.int .u64 blk) (.int .u64 r.b) :: s.acc⟩).holds hg
    simp only [It.l, It.r, Lv.v.injEq, Value.int.injEq, true_and] at e
    omega
   ·unfold pickRow
    simp only [hh, hr]
  ·exact absurd hg not_good
 ·exact absurd hg not_good
theorem pickCon_kp {c : Bool} {s : Sg} {k : Bool → Sg → Out} (hk : ∀ b s, Kp s.acc (k b s)) : Kp s.acc (pickCon .check c s k) := by
 unfold pickCon
 simp only
 split
 ·exact (hk _ _).tail
 ·exact .err
theorem pickCon_inv {c : Bool} {s : Sg} {k : Bool → Sg → Out} (hk : ∀ b s, Kp s.acc (k b s)) (hg : good (pickCon .check c s k)) :
  ∃ b h, c = b ∧ ∀ (A : List It) (k' : Bool → Sg → Out), pickCon .check c ⟨s.n, s.h, s.M, A⟩ k' = k' b ⟨s.n, h, s.M, .con c b :: A⟩ := by
 unfold pickCon at hg
 simp only at hg
 split at hg
 ·rename_i x b h hh
  refine ⟨b, h, ?_, fun A k' => ?_⟩
  ·have e := (hk b ⟨s.n, h, s.M, .con c b :: s.acc⟩).holds hg
   simpa [It.l, It.r] using e
  ·unfold pickCon
   simp only [hh]
 ·exact absurd hg not_good
noncomputable def kLoad (e1 e2 : Nat) (a : Addr) (f : Value → Sg → Out) (_ : Nat) (r : Rw) (s : Sg) : Out :=
 match a.spot with
 | some _ => .error e1
 | none => match nth? r.c a.off with
  | some v => f v s
  | none => .error e2
def kFroz (e : Nat) (f : Bool → Sg → Out) (_ : Nat) (r : Rw) (s : Sg) : Out :=
 match r.own with
 | true => f false s
 | false => .error e
theorem kLoad_kp {e1 e2 : Nat} {a : Addr} {f : Value → Sg → Out} (hf : ∀ v s, Kp s.acc (f v s)) (j : Nat) (r : Rw) (s : Sg) : Kp s.acc (kLoad e1 e2 a f j r s) := by
 unfold kLoad
 split
 ·exact .err
 ·split
  ·exact hf _ _
  ·exact .err
theorem kFroz_kp {e : Nat} {f : Bool → Sg → Out} (hf : ∀ v s, Kp s.acc (f v s)) (j : Nat) (r : Rw) (s : Sg) : Kp s.acc (kFroz e f j r s) := by
 unfold kFroz
 split
 ·exact hf _ _
 ·exact .err
theorem kLoad_inv {e1 e2 : Nat} {a : Addr} {f : Value → Sg → Out} {j : Nat} {r : Rw} {s : Sg} (hg : good (kLoad e1 e2 a f j r s)) :
  ∃ v, a.spot = none ∧ r.c[a.off]? = some v ∧ ∀ f' j' s', kLoad e1 e2 a f' j' r s' = f' v s' := by
 unfold kLoad at hg
 split at hg
 ·exact absurd hg not_good
 ·rename_i hsp
  split at hg
  ·rename_i v hv
   exact ⟨v, hsp, by rw [← nth?_eq]; exact hv, fun f' j' s' => by simp [kLoad, hsp, hv]⟩
  ·exact absurd hg not_good
theorem kFroz_inv {e : Nat} {f : Bool → Sg → Out} {j : Nat} {r : Rw} {s : Sg} (hg : good (kFroz e f j r s)) : r.own = true ∧ ∀ f' j' s', kFroz e f' j' r s' = f' false s' := by
 unfold kFroz at hg
 split at hg
 ·rename_i ho
  exact ⟨ho, fun f' j' s' => by simp [kFroz, ho]⟩
 ·exact absurd hg not_good
section
variable {P : Program} {α : Type}
theorem evV_load (m : Mode) (a : Addr) (q : Value → Sem α) (s : Sg) (k : KK α) : evV P .check (.load m a q) s k = pickRow .check a.block s (kLoad 20 21 a fun v s => evV P .check (q v) s k) := rfl
theorem evV_shape (b : Nat) (q : Option (TypeId × Nat) → Sem α) (s : Sg) (k : KK α) : evV P .check (.shape b q) s k = pickRow .check b s (fun _ r s => evV P .check (q (some (r.t, r.c.length))) s k) := rfl
theorem evV_frozen (a : Addr) (q : Bool → Sem α) (s : Sg) (k : KK α) : evV P .check (.frozen a q) s k = pickRow .check a.block s (kFroz 25 fun v s => evV P .check (q v) s k) := rfl
end
theorem evV_kp {P : Program} {α : Type} (x : Sem α) : ∀ (s : Sg) (k : KK α), KeepK k → Kp s.acc (evV P .check x s k) := by
 induction x with
 | pure a => exact fun s k hk => hk a s
 | load m a q ih => exact fun s k hk => pickRow_kp (kLoad_kp fun v s => ih v s k hk)
 | store m a v q ih => exact fun s k hk => .err
 | new o q ih => exact fun s k hk => .err
 | shape r q ih => exact fun s k hk => pickRow_kp (s := s) (k := fun _ r s => evV P .check (q (some (r.t, r.c.length))) s k) fun j r s => ih _ s k hk
 | freeze a n q ih => exact fun s k hk => .err
 | frozen a q ih => exact fun s k hk => pickRow_kp (kFroz_kp fun v s => ih v s k hk)
 | getObj r q ih => exact fun s k hk => .err
 | setObj r o q ih => exact fun s k hk => .err
 | choose q c ih =>
  intro s k hk
  show Kp s.acc (match q.forced with | true => evV P .check (c 0) s k | false => .error 28)
  split
  ·exact ih _ _ _ hk
  ·exact .err
 | sys c q ih => exact fun s k hk => .err
 | program q ih => exact fun s k hk => ih _ _ _ hk
 | mark m q ih => exact fun s k hk => ih _ _ hk
 | halt h => exact fun s k hk => .err
theorem cell_row {w : World} {b off : Nat} {c : List Value} {t : TypeId} {fr : Nat × Nat} (h : w.heap[b]? = some (.cells c.toArray t fr)) : w.cell? ⟨b, off, none⟩ = c[off]? := by
 simp [World.cell?, h]
theorem cell_row' {w : World} {a : Addr} {b : Nat} {c : List Value} {t : TypeId} {fr : Nat × Nat} (h : w.heap[b]? = some (.cells c.toArray t fr)) (hb : a.block = b) (hs : a.spot = none) : w.cell? a = c[a.off]? := by
 obtain ⟨b', off, sp⟩ := a
 simp only at hb hs
 subst hb hs
 exact cell_row h
theorem evV_st {P : Program} {α : Type} (x : Sem α) : ∀ (s : Sg) (k : KK α), KeepK k → good (evV P .check x s k) →
  ∃ a h, (∀ w0 w, SG w0 s.M w → x.run P w = .ok a w) ∧ ∀ A, ∃ B, A ⊆ B ∧ ∀ k', evV P .check x ⟨s.n, s.h, s.M, A⟩ k' = k' a ⟨s.n, h, s.M, B⟩ := by
 induction x with
 | pure a => exact fun s k hk hg => ⟨a, s.h, fun _ _ _ => rfl, fun A => ⟨A, fun _ h => h, fun _ => rfl⟩⟩
 | load m a q ih =>
  intro s k hk hg
  rw [evV_load] at hg
  obtain ⟨j, h, r, hj, hb, he⟩ := pickRow_inv (kLoad_kp fun v s => evV_kp (q v) s k hk) hg
  have hg' := he s.acc (kLoad 20 21 a fun v s => evV P .check (q v) s k) ▸ hg
  obtain ⟨v, hsp, hv, hl⟩ := kLoad_inv hg'
  rw [hl] at hg'
  obtain ⟨u, h', hrun, hE⟩ := ih v ⟨s.n, h, s.M, _⟩ k hk hg'
  refine ⟨u, h', fun w0 w hS => ?_, fun A => ?_⟩
  ·obtain ⟨fr, hrow, _⟩ := hS.row (List.mem_of_getElem? hj)
   simp only [Sem.run, (cell_row' hrow hb hsp).trans hv]
   exact hrun w0 w hS
  ·obtain ⟨B, hB, hE⟩ := hE (.eqv (.int .u64 a.block) (.int .u64 r.b) :: A)
   exact ⟨B, fun _ hx => hB (List.mem_cons_of_mem _ hx), fun k' => by rw [evV_load, he, hl]; exact hE k'⟩
 | store m a v q ih => exact fun s k hk hg => absurd hg not_good
 | new o q ih => exact fun s k hk hg => absurd hg not_good
 | shape b q ih =>
  intro s k hk hg
  rw [evV_shape] at hg
  obtain ⟨j, h, r, hj, hb, he⟩ := pickRow_inv (fun j r s => evV_kp (q (some (r.t, r.c.length))) s k hk) hg
  rw [he s.acc] at hg
  obtain ⟨u, h', hrun, hE⟩ := ih _ ⟨s.n, h, s.M, _⟩ k hk hg
  refine ⟨u, h', fun w0 w hS => ?_, fun A => ?_⟩
  ·obtain ⟨fr, hrow, _⟩ := hS.row (List.mem_of_getElem? hj)
   have hc : w.shape? b = some (r.t, r.c.length) := by simp [World.shape?, hb, hrow]
   simp only [Sem.run, hc]
   exact hrun w0 w hS
  ·obtain ⟨B, hB, hE⟩ := hE (.eqv (.int .u64 b) (.int .u64 r.b) :: A)
   exact ⟨B, fun _ hx => hB (List.mem_cons_of_mem _ hx), fun k' => by rw [evV_shape, he]; exact hE k'⟩
 | freeze a n q ih => exact fun s k hk hg => absurd hg not_good
 | frozen a q ih =>
  intro s k hk hg
  rw [evV_frozen] at hg
  obtain ⟨j, h, r, hj, hb, he⟩ := pickRow_inv (kFroz_kp fun v s => evV_kp (q v) s k hk) hg
  have hg' := he s.acc (kFroz 25 fun v s => evV P .check (q v) s k) ▸ hg
  obtain ⟨ho, hl⟩ := kFroz_inv hg'
  rw [hl] at hg'
  obtain ⟨u, h', hrun, hE⟩ := ih _ ⟨s.n, h, s.M, _⟩ k hk hg'
  refine ⟨u, h', fun w0 w hS => ?_, fun A => ?_⟩
  ·obtain ⟨fr, hrow, hfr⟩ := hS.row (List.mem_of_getElem? hj)
   obtain rfl := hfr ho
   have hc : w.frozen? a = false := by simp [World.frozen?, hb, hrow]
   simp only [Sem.run, hc]
   exact hrun w0 w hS
  ·obtain ⟨B, hB, hE⟩ := hE (.eqv (.int .u64 a.block) (.int .u64 r.b) :: A)
   exact ⟨B, fun _ hx => hB (List.mem_cons_of_mem _ hx), fun k' => by rw [evV_frozen, he, hl]; exact hE k'⟩
 | getObj r q ih => exact fun s k hk hg => absurd hg not_good
 | setObj r o q ih => exact fun s k hk hg => absurd hg not_good
 | choose q c ih =>
  intro s k hk hg
  have hg : good (match q.forced with | true => evV P .check (c 0) s k | false => .error 28) := hg
  split at hg
  ·rename_i hf
   obtain ⟨u, h', hrun, hE⟩ := ih 0 _ k hk hg
   refine ⟨u, h', fun w0 w hS => ?_, fun A => ?_⟩
   ·simp only [Sem.run, hf, if_true]
    exact hrun w0 w hS
   ·obtain ⟨B, hB, hE⟩ := hE A
    refine ⟨B, hB, fun k' => ?_⟩
    show (match q.forced with | true => evV P .check (c 0) ⟨s.n, s.h, s.M, A⟩ k' | false => .error 28) = _
    simp only [hf]
    exact hE k'
  ·exact absurd hg not_good
 | sys c q ih => exact fun s k hk hg => absurd hg not_good
 | program q ih => exact fun s k hk hg => ih P _ k hk hg
 | mark m q ih => exact fun s k hk hg => ih _ k hk hg
 | halt h => exact fun s k hk hg => absurd hg not_good
theorem evV_ok {P : Program} {α : Type} {w0 w : World} (x : Sem α) (s : Sg) (k : KK α) (hk : KeepK k) (hS : SG w0 s.M w) (hg : good (evV P .check x s k)) :
  ∃ a h, x.run P w = .ok a w ∧ ∀ A, ∃ B, A ⊆ B ∧ ∀ k', evV P .check x ⟨s.n, s.h, s.M, A⟩ k' = k' a ⟨s.n, h, s.M, B⟩ := by
 obtain ⟨a, h, hr, he⟩ := evV_st x s k hk hg
 exact ⟨a, h, hr w0 w hS, he⟩
noncomputable def kStore (a : Addr) (v : Value) (f : Sg → Out) (j : Nat) (r : Rw) (s : Sg) : Out :=
 match a.spot with
 | some _ => .error 9
 | none => match v.oneCell', r.own with
  | true, true => match nth? r.c a.off with
   | some _ => putK r.c a.off v fun c => putR s.M j ⟨r.b, c, r.t, true⟩ fun M => f ⟨s.n, s.h, M, s.acc⟩
   | none => .error 10
  | _, _ => .error 11
theorem kStore_kp {a : Addr} {v : Value} {f : Sg → Out} (hf : ∀ s, Kp s.acc (f s)) (j : Nat) (r : Rw) (s : Sg) : Kp s.acc (kStore a v f j r s) := by
 unfold kStore
 split
 ·exact .err
 ·split
  ·split
   ·rw [putK_eq, putR_eq]
    exact hf ⟨s.n, s.h, _, s.acc⟩
   ·exact .err
  ·exact .err
theorem kStore_inv {a : Addr} {v : Value} {f : Sg → Out} {j : Nat} {r : Rw} {s : Sg} (hg : good (kStore a v f j r s)) :
  a.spot = none ∧ v.oneCell' = true ∧ r.own = true ∧ (∃ u, r.c[a.off]? = some u) ∧ ∀ f' s', kStore a v f' j r s' = f' ⟨s'.n, s'.h, s'.M.set j ⟨r.b, r.c.set a.off v, r.t, true⟩, s'.acc⟩ := by
 unfold kStore at hg
 split at hg
 ·exact absurd hg not_good
 ·rename_i hsp
  split at hg
  ·rename_i h1 h2
   split at hg
   ·rename_i u hu
    exact ⟨hsp, h1, h2, ⟨u, by rw [← nth?_eq]; exact hu⟩, fun f' s' => by simp [kStore, hsp, h1, h2, hu, putK_eq, putR_eq]⟩
   ·exact absurd hg not_good
  ·exact absurd hg not_good
section
variable {P : Program} {α : Type} {β : Nat → Fr}
theorem evS_load (m : Mode) (a : Addr) (q : Value → Sem α) (s : Sg) (k : KK α) : evS P .check β (.load m a q) s k = pickRow .check a.block s (kLoad 7 8 a fun v s => evS P .check β (q v) s k) := rfl
theorem evS_store (m : Mode) (a : Addr) (v : Value) (q : Sem α) (s : Sg) (k : KK α) : evS P .check β (.store m a v q) s k = pickRow .check a.block s (kStore a v fun s => evS P .check β q s k) := rfl
theorem evS_shape (b : Nat) (q : Option (TypeId × Nat) → Sem α) (s : Sg) (k : KK α) : evS P .check β (.shape b q) s k = pickRow .check b s (fun _ r s => evS P .check β (q (some (r.t, r.c.length))) s k) := rfl
theorem evS_frozen (a : Addr) (q : Bool → Sem α) (s : Sg) (k : KK α) : evS P .check β (.frozen a q) s k = pickRow .check a.block s (kFroz 14 fun v s => evS P .check β (q v) s k) := rfl
theorem evS_new (c : Array Value) (t : TypeId) (q : Nat → Sem α) (s : Sg) (k : KK α) : evS P .check β (.new (.cells c t (0, 0)) q) s k = evS P .check β (q (β s.n).b) ⟨s.n + 1, s.h, ⟨(β s.n).b, c.toList, t, true⟩ :: s.M, s.acc⟩ k := rfl
theorem evS_new' (o : Obj) (q : Nat → Sem α) (s : Sg) (k : KK α) : evS P .check β (.new o q) s k = (match o with | .cells c t (0, 0) => evS P .check β (q (β s.n).b) ⟨s.n + 1, s.h, ⟨(β s.n).b, c.toList, t, true⟩ :: s.M, s.acc⟩ k | _ => .error 12) := rfl
theorem evS_new_inv {o : Obj} {q : Nat → Sem α} {s : Sg} {k : KK α} (hg : good (evS P .check β (.new o q) s k)) : ∃ c t, o = .cells c t (0, 0) := by
 rw [evS_new'] at hg
 split at hg
 ·exact ⟨_, _, rfl⟩
 ·exact absurd hg not_good
theorem evS_choose (q : Question) (c : Nat → Sem α) (s : Sg) (k : KK α) : evS P .check β (.choose q c) s k = (match q.forced with | true => evS P .check β (c 0) s k | false => .error 17) := rfl
end
theorem evS_kp {P : Program} {β : Nat → Fr} {α : Type} (x : Sem α) : ∀ (s : Sg) (k : KK α), KeepK k → Kp s.acc (evS P .check β x s k) := by
 induction x with
 | pure a => exact fun s k hk => hk a s
 | load m a q ih => exact fun s k hk => pickRow_kp (kLoad_kp fun v s => ih v s k hk)
 | store m a v q ih => exact fun s k hk => pickRow_kp (kStore_kp fun s => ih s k hk)
 | new o q ih =>
  intro s k hk
  show Kp s.acc (match o with | .cells c t (0, 0) => evS P .check β (q (β s.n).b) ⟨s.n + 1, s.h, ⟨(β s.n).b, c.toList, t, true⟩ :: s.M, s.acc⟩ k | _ => .error 12)
  split
  ·exact ih _ ⟨s.n + 1, s.h, _, s.acc⟩ k hk
  ·exact .err
 | shape r q ih => exact fun s k hk => pickRow_kp (s := s) (k := fun _ r s => evS P .check β (q (some (r.t, r.c.length))) s k) fun j r s => ih _ s k hk
 | freeze a n q ih => exact fun s k hk => .err
 | frozen a q ih => exact fun s k hk => pickRow_kp (kFroz_kp fun v s => ih v s k hk)
 | getObj r q ih => exact fun s k hk => .err
 | setObj r o q ih => exact fun s k hk => .err
 | choose q c ih =>
  intro s k hk
  rw [evS_choose]
  split
  ·exact ih _ _ _ hk
  ·exact .err
 | sys c q ih => exact fun s k hk => .err
 | program q ih => exact fun s k hk => ih _ _ _ hk
 | mark m q ih => exact fun s k hk => ih _ _ hk
 | halt h => exact fun s k hk => .err
def Ag (n : Nat) (β γ : Nat → Fr) : Prop := ∀ i, i < n → β i = γ i
theorem Ag.refl {n : Nat} {γ : Nat → Fr} : Ag n γ γ := fun _ _ => rfl
theorem Ag.le {n m : Nat} {β γ : Nat → Fr} (h : Ag m β γ) (hn : n ≤ m) : Ag n β γ := fun i hi => h i (Nat.lt_of_lt_of_le hi hn)
theorem Ag.trans {n : Nat} {a b c : Nat → Fr} (h : Ag n a b) (h' : Ag n b c) : Ag n a c := fun i hi => (h i hi).trans (h' i hi)
def Gd {α : Type} (n : Nat) (γ : Nat → Fr) (K : (Nat → Fr) → KK α) (a : α) (h : List It) (M : List Rw) (A : (Nat → Fr) → List It) : Prop :=
 ∀ β, Ag n β γ → good (K β a ⟨n, h, M, A β⟩)
def On {α : Type} (w0 : World) (n : Nat) (γ : Nat → Fr) (K : (Nat → Fr) → KK α) (a : α) (w : World) : Prop :=
 ∃ γ' n' h M A, SG w0 M w ∧ n ≤ n' ∧ Ag n γ' γ ∧ Gd n' γ' K a h M A
theorem On.le {α : Type} {w0 : World} {n n1 : Nat} {γ γ1 : Nat → Fr} {K : (Nat → Fr) → KK α} {a : α} {w : World} (h : On w0 n1 γ1 K a w) (hn : n ≤ n1) (hg : Ag n γ1 γ) : On w0 n γ K a w := by
 obtain ⟨γ', n', h', M, A, hS, hle, hag, hgd⟩ := h
 exact ⟨γ', n', h', M, A, hS, Nat.le_trans hn hle, (hag.le hn).trans hg, hgd⟩
def upN (γ : Nat → Fr) (n : Nat) (b : Fr) : Nat → Fr := fun i => if i = n then b else γ i
theorem upN_ag (γ : Nat → Fr) (n : Nat) (b : Fr) : Ag n (upN γ n b) γ := fun i hi => by unfold upN; rw [if_neg (by omega)]
theorem upN_at (γ : Nat → Fr) (n : Nat) (b : Fr) : upN γ n b n = b := by unfold upN; rw [if_pos rfl]
theorem evS_ok {P : Program} {α : Type} {w0 : World} (x : Sem α) : ∀ (γ : Nat → Fr) (n : Nat) (h : List It) (M : List Rw) (A : (Nat → Fr) → List It) (w : World) (K : (Nat → Fr) → KK α), (∀ β, KeepK (K β)) → SG w0 M w →
  (∀ β, Ag n β γ → good (evS P .check β x ⟨n, h, M, A β⟩ (K β))) → ∃ a w', x.run P w = .ok a w' ∧ On w0 n γ K a w' := by
 induction x with
 | pure a => exact fun γ n h M A w K hk hS hg => ⟨a, w, rfl, γ, n, h, M, A, hS, Nat.le_refl _, .refl, hg⟩
 | load m a q ih =>
  intro γ n h M A w K hk hS hg
  have h0 := hg γ .refl
  rw [evS_load] at h0
  obtain ⟨j, h', r, hj, hb, he⟩ := pickRow_inv (kLoad_kp fun v s => evS_kp (q v) s _ (hk γ)) h0
  rw [he (A γ)] at h0
  obtain ⟨v, hsp, hv, hl⟩ := kLoad_inv h0
  obtain ⟨fr, hrow, _⟩ := hS.row (List.mem_of_getElem? hj)
  obtain ⟨u, w', hrun, hon⟩ := ih v γ n h' M (fun β => .eqv (.int .u64 a.block) (.int .u64 r.b) :: A β) w K hk hS (fun β hβ => by
   have h1 := hg β hβ
   rw [evS_load, he (A β), hl] at h1
   exact h1)
  refine ⟨u, w', ?_, hon⟩
  simp only [Sem.run, (cell_row' hrow hb hsp).trans hv]
  exact hrun
 | store m a v q ih =>
  intro γ n h M A w K hk hS hg
  have h0 := hg γ .refl
  rw [evS_store] at h0
  obtain ⟨j, h', r, hj, hb, he⟩ := pickRow_inv (kStore_kp fun s => evS_kp q s _ (hk γ)) h0
  rw [he (A γ)] at h0
  obtain ⟨hsp, h1, ho, ⟨u0, hu0⟩, hl⟩ := kStore_inv h0
  obtain ⟨fr, hrow, hfr⟩ := hS.row (List.mem_of_getElem? hj)
  obtain rfl := hfr ho
  have hS' := hS.setCell hj ho a.off v
  have ea : (⟨r.b, a.off, none⟩ : Addr) = a := by
   obtain ⟨b, off, sp⟩ := a
   simp only at hsp hb
   subst hsp hb
   rfl
  rw [ea] at hS'
  obtain ⟨u, w', hrun, hon⟩ := ih γ n h' (M.set j ⟨r.b, r.c.set a.off v, r.t, true⟩) (fun β => .eqv (.int .u64 a.block) (.int .u64 r.b) :: A β) _ K hk hS' (fun β hβ => by
   have h1 := hg β hβ
   rw [evS_store, he (A β), hl] at h1
   exact h1)
  refine ⟨u, w', ?_, hon⟩
  have hc : w.cell? a = some u0 := (cell_row' hrow hb hsp).trans hu0
  have hz : w.frozen? a = false := by simp [World.frozen?, hb, hrow]
  cases v <;> first | (simp [Value.oneCell'] at h1; done) | (simp only [Sem.run, hc, hz]; exact hrun)
 | new o q ih =>
  intro γ n h M A w K hk hS hg
  obtain ⟨c, t, rfl⟩ := evS_new_inv (hg γ .refl)
  have hS' := hS.alloc c.toList t
  obtain ⟨u, w', hrun, hon⟩ := ih w.heap.size (upN γ n ⟨w.heap.size, fun _ => undef, []⟩) (n + 1) h (⟨w.heap.size, c.toList, t, true⟩ :: M) A _ K hk hS' (fun β hβ => by
   have h1 := hg β ((hβ.le (Nat.le_succ n)).trans (upN_ag _ _ _))
   have e : (β n).b = w.heap.size := by rw [hβ n (Nat.lt_succ_self n), upN_at]
   rw [evS_new] at h1
   simp only [e] at h1
   exact h1)
  refine ⟨u, w', ?_, hon.le (Nat.le_succ n) (upN_ag _ _ _)⟩
  simp only [Sem.run]
  exact hrun
 | shape b q ih =>
  intro γ n h M A w K hk hS hg
  have h0 := hg γ .refl
  rw [evS_shape] at h0
  obtain ⟨j, h', r, hj, hb, he⟩ := pickRow_inv (fun j r s => evS_kp (q (some (r.t, r.c.length))) s _ (hk γ)) h0
  obtain ⟨fr, hrow, _⟩ := hS.row (List.mem_of_getElem? hj)
  obtain ⟨u, w', hrun, hon⟩ := ih (some (r.t, r.c.length)) γ n h' M (fun β => .eqv (.int .u64 b) (.int .u64 r.b) :: A β) w K hk hS (fun β hβ => by
   have h1 := hg β hβ
   rw [evS_shape, he (A β)] at h1
   exact h1)
  refine ⟨u, w', ?_, hon⟩
  have hc : w.shape? b = some (r.t, r.c.length) := by simp [World.shape?, hb, hrow]
  simp only [Sem.run, hc]
  exact hrun
 | freeze a n q ih => exact fun γ n h M A w K hk hS hg => absurd (hg γ .refl) not_good
 | frozen a q ih =>
  intro γ n h M A w K hk hS hg
  have h0 := hg γ .refl
  rw [evS_frozen] at h0
  obtain ⟨j, h', r, hj, hb, he⟩ := pickRow_inv (kFroz_kp fun v s => evS_kp (q v) s _ (hk γ)) h0
  rw [he (A γ)] at h0
  obtain ⟨ho, hl⟩ := kFroz_inv h0
  obtain ⟨fr, hrow, hfr⟩ := hS.row (List.mem_of_getElem? hj)
  obtain rfl := hfr ho
  obtain ⟨u, w', hrun, hon⟩ := ih false γ n h' M (fun β => .eqv (.int .u64 a.block) (.int .u64 r.b) :: A β) w K hk hS (fun β hβ => by
   have h1 := hg β hβ
   rw [evS_frozen, he (A β), hl] at h1
   exact h1)
  refine ⟨u, w', ?_, hon⟩
  have hc : w.frozen? a = false := by simp [World.frozen?, hb, hrow]
  simp only [Sem.run, hc]
  exact hrun
 | getObj r q ih => exact fun γ n h M A w K hk hS hg => absurd (hg γ .refl) not_good
 | setObj r o q ih => exact fun γ n h M A w K hk hS hg => absurd (hg γ .refl) not_good
 | choose q c ih =>
  intro γ n h M A w K hk hS hg
  cases hf : q.forced with
  | true =>
   obtain ⟨u, w', hrun, hon⟩ := ih 0 γ n h M A w K hk hS (fun β hβ => by
    have h1 := hg β hβ
    rw [evS_choose, hf] at h1
    exact h1)
   refine ⟨u, w', ?_, hon⟩
   simp only [Sem.run, hf, if_true]
   exact hrun
  | false =>
   have h1 := hg γ .refl
   rw [evS_choose, hf] at h1
   exact absurd h1 not_good
 | sys c q ih => exact fun γ n h M A w K hk hS hg => absurd (hg γ .refl) not_good
 | program q ih => exact fun γ n h M A w K hk hS hg => ih P γ n h M A w K hk hS hg
 | mark m q ih => exact fun γ n h M A w K hk hS hg => ih γ n h M A w K hk hS hg
 | halt h => exact fun γ n h M A w K hk hS hg => absurd (hg γ .refl) not_good
end Ev
end Go.Proofs.Ytjoalcaooccbiaa
/- SlV -/
namespace Go.Proofs.Ytjoalcaooccbiaa
open Go.RowKit VecM
theorem alloc_vec {o : Oper} {a : Act} (h : o.op = .alloc 40) (w : World) : (execOp a.eval o).run Try.prog w = .ok (.value (.pointer (some ⟨w.heap.size, 0, none⟩))) (w.alloc (.cells (bs fun _ => 0) 40)) := by
 unfold execOp
 simp only [h]
 go_simp
theorem box_vec {o : Oper} {a : Act} {x : Operand} {b : Nat → Int} (h : o.op = .box 40 x) (hx : a.eval x = .agg (bs b)) (w : World) : (execOp a.eval o).run Try.prog w = .ok (.value (.pointer (some ⟨w.heap.size, 0, none⟩))) (w.alloc (.cells (bs b) 40)) := by
 unfold execOp
 simp only [h, hx]
 go_simp
theorem lays_vec {ops : Array Oper} {p : Nat} {o : Oper} (ho : ops[p]? = some o) (hg : o.guard = none) (h : o.op = .alloc 40) : LaysAt Try.prog ops p (bs fun _ => 0) 40 := by
 intro o' ho'
 obtain rfl : o = o' := Option.some.inj (ho.symm.trans ho')
 exact ⟨hg, fun a w => alloc_vec h w⟩
theorem ldV {w0 w : World} {M : List Ent} {ops : Array Oper} {Q : Exit → Act → World → Prop} {a : Act} {o : Oper} {rest : List Oper} (hS : St w0 M w) (hw : Region.wanted o (yielded ops a.tmps) = true) (x : Operand) (ho : o.op = .load 40 x) {b : Nat} (hx : a.eval x = .pointer (some ⟨b, 0, none⟩)) {c : Array Value} {t : TypeId} (h : wpList Try.prog ops Q rest (a.put o.dst (.agg c)) w)
  (hm : Has M b c t := by repeat (first | exact Has.hd | apply Has.tl)) (hz : c.size = 16 := by rfl) : wpList Try.prog ops Q (o :: rest) a w :=
 sl_load hS hw 40 x ho hx hm Try.underlying40 rfl (hz ▸ infoV) h
theorem stV {w0 w : World} {M M' : List Ent} {ops : Array Oper} {Q : Exit → Act → World → Prop} {a : Act} {o : Oper} {rest : List Oper} (hS : St w0 M w) (hgd : o.guard = none) (x y : Operand) (ho : o.op = .store 40 x y) {b : Nat} (hx : a.eval x = .pointer (some ⟨b, 0, none⟩)) {f : Nat → Int} (hy : a.eval y = .agg (bs f)) {c : Array Value} {t : TypeId}
  (h : ∀ w', St w0 M' w' → wpList Try.prog ops Q rest (a.put o.dst undef) w') (hr : Rep M b c t (bs f) M' := by repeat (first | exact Rep.hd | apply Rep.tl)) (hz : 16 = c.size := by rfl) : wpList Try.prog ops Q (o :: rest) a w :=
 sl_store hS hgd 40 x y ho hx hy hr infoV hz (bs_one f) h
end Go.Proofs.Ytjoalcaooccbiaa
/- SlQ -/
namespace Go.Proofs.Ytjoalcaooccbiaa
open Go.RowKit VecM
theorem run_neq {o : Oper} {a : Act} {x y : Operand} {t : TypeId} {b c : Nat → Int} (ho : o.op = .binOp .neq 40 x y t) (hx : a.eval x = .agg (bs b)) (hy : a.eval y = .agg (bs c)) (w : World) :
  (execOp a.eval o).run Try.prog w = .ok (.value (.bool (!vecB b c))) w := by
 have hq := eq_vec b c w
 unfold execOp
 simp only [ho, hx, hy]
 go_simp
theorem sl_neq {ops : Array Oper} {Q : Exit → Act → World → Prop} {w : World} {a : Act} {o : Oper} {rest : List Oper} (hw : Region.wanted o (yielded ops a.tmps) = true) {x y : Operand} {t : TypeId} {b c : Nat → Int} (ho : o.op = .binOp .neq 40 x y t)
  (hx : a.eval x = .agg (bs b)) (hy : a.eval y = .agg (bs c)) {q : Bool} (hq : vecB b c = q) (h : wpList Try.prog ops Q rest (a.put o.dst (.bool (!q))) w) : wpList Try.prog ops Q (o :: rest) a w := by
 unfold wpList
 rw [if_pos hw]
 refine .inl ?_
 unfold Oper.wp
 rw [run_neq ho hx hy w, hq]
 exact h
end Go.Proofs.Ytjoalcaooccbiaa
/- Sn -/
namespace Go.Proofs.Ytjoalcaooccbiaa
open Go.RowKit
namespace Sn
section
variable {P : Program}
abbrev Fz := Ev.Fr
structure LayT where
 at_ : Fz → Value
 c : Fz → Array Value
 t : TypeId
variable {ops : Array Oper} {md : Region.Mode} {w0 : World} {M : List Ent} {lay : Nat → Option LayT}
def upL (P : Program) (y : LayT) (w : World) : Result Next → Prop
 | .ok (.value u) w' => ∃ z : Fz, u = y.at_ z ∧ w.heap.size ≤ z.b ∧ w'.heap[z.b]? = some (.cells (y.c z) y.t (0, 0)) ∧ Gr w w'
 | .ok (.enter f args) w' => Gr w w' ∧ Calls P f args w' fun e w'' => ∃ z : Fz, e = .returned (y.at_ z) ∧ w.heap.size ≤ z.b ∧ w''.heap[z.b]? = some (.cells (y.c z) y.t (0, 0)) ∧ Gr w' w''
 | _ => False
def rowsOf (lay : Nat → Option LayT) (β : Nat → Fz) (js : List Nat) : List Ent := js.filterMap fun j => (lay j).map fun y => ⟨(β j).b, y.c (β j), y.t⟩
def YB (P : Program) (md : Region.Mode) (ops : Array Oper) (w0 : World) (M : List Ent) (lay : Nat → Option LayT) (β : Nat → Fz) (i : Nat) (o : Oper) (v : Value) (a : Act) : Prop :=
 match lay i with
 | some y => Region.wanted o (yielded ops a.tmps) = true ∧ (∃ needs : List Nat, needs.Nodup ∧ (∀ j ∈ needs, ancB md ops ops.size i j = true) ∧ ∀ w, St w0 (rowsOf lay β needs ++ M) w → upL P y w ((execOp a.eval o).run P w)) ∧ v = y.at_ (β i)
 | none => ∃ needs : List Nat, needs.Nodup ∧ (∀ j ∈ needs, ancB md ops ops.size i j = true) ∧ YldI P ops w0 (rowsOf lay β needs ++ M) o v a
theorem YB.of_same {β : Nat → Fz} {i : Nat} {o : Oper} {v : Value} {a a' : Act} (hy : YB P md ops w0 M lay β i o v a) (he : execOp a'.eval o = execOp a.eval o)
  (hw : Region.wanted o (yielded ops a'.tmps) = Region.wanted o (yielded ops a.tmps)) : YB P md ops w0 M lay β i o v a' := by
 unfold YB YldI StdI at *
 rw [he, hw]
 exact hy
def stB (P : Program) (md : Region.Mode) (ops : Array Oper) (w0 : World) (M : List Ent) (lay : Nat → Option LayT) (β : Nat → Fz) (i : Nat) (K : Act → Prop) (a : Act) : Prop :=
 match ops[i]? with
 | none => K a
 | some o => ∃ v, YB P md ops w0 M lay β i o v a ∧ K (a.put o.dst v)
theorem stB_mono {β : Nat → Fz} {i : Nat} {a : Act} {K K' : Act → Prop} (h : ∀ a, K a → K' a) (hh : stB P md ops w0 M lay β i K a) : stB P md ops w0 M lay β i K' a := by
 unfold stB at *
 split
 ·exact h _ (by simpa [*] using hh)
 ·rename_i o ho
  simp only [ho] at hh
  obtain ⟨v, hy, hk⟩ := hh
  exact ⟨v, hy, h _ hk⟩
theorem stB_put {β : Nat → Fz} {i j : Nat} {oi oj : Oper} {v : Value} (hj : ops[j]? = some oj) (hap : oi.apart ops oj = true)
  (hsi : ∀ cs b, oi.op ≠ .select cs b) (hsj : ∀ cs b, oj.op ≠ .select cs b) {K : Act → Prop} {a : Act}
  (hy : YB P md ops w0 M lay β i oi v a) (h : stB P md ops w0 M lay β j K (a.put oi.dst v)) :
  stB P md ops w0 M lay β j (fun a' => YB P md ops w0 M lay β i oi v a' ∧ K (a'.put oi.dst v)) a := by
 obtain ⟨h1, h2, h3⟩ := Oper.apart_spec hap
 unfold stB at *
 simp only [hj] at *
 obtain ⟨u, hyu, hk⟩ := h
 refine ⟨u, ?_, hy.of_same (execOp_put oi hsi a oj.dst u h3) (wanted_put oi a oj.dst u h3), by rw [← Act.put_comm a v u h2]; exact hk⟩
 exact hyu.of_same (execOp_put oj hsj a oi.dst v h1).symm (wanted_put oj a oi.dst v h1).symm
def wpB (P : Program) (md : Region.Mode) (ops : Array Oper) (w0 : World) (M : List Ent) (lay : Nat → Option LayT) (n : Nat) (β : Nat → Fz) (L : Array Bool → Act → Prop) : Nat → Array Bool → Act → Prop
 | 0, listed, a => L listed a
 | f + 1, listed, a => Region.ready md ops listed ≠ [] ∧ ∀ i ∈ Region.ready md ops listed, i < n ∧ stB P md ops w0 M lay β i (wpB P md ops w0 M lay n β L f (listed.setIfInBounds i true)) a
theorem wpB_first {β : Nat → Fz} {n i : Nat} {oi : Oper} {v : Value} {L : Array Bool → Act → Prop} (hi : ops[i]? = some oi) (hsel : ∀ (j : Nat) (o : Oper) cs b, ops[j]? = some o → o.op ≠ .select cs b)
  (hin : i < n) (htw : ∀ listed i, HeadInv md ops n listed → i < n → listed.getD i true = false → ∀ t, n ≤ t → t ∉ Region.ready md ops listed)
  (hdone : ∀ listed a, L listed a → ∀ j ∈ Region.ready md ops listed, n ≤ j) :
  ∀ (f : Nat) (listed : Array Bool) (a : Act), HeadInv md ops n listed →
   (∀ j oj, ops[j]? = some oj → j ≠ i → listed.getD j true = false → (∀ e ∈ oj.after, Region.binds md e = true → e.on ≠ i) → oi.apart ops oj = true) →
   i ∈ Region.ready md ops listed → YB P md ops w0 M lay β i oi v a →
   wpB P md ops w0 M lay n β L f (listed.setIfInBounds i true) (a.put oi.dst v) → wpB P md ops w0 M lay n β L (f + 1) listed a := by
 intro f
 induction f with
 | zero =>
  intro listed a inv _ hr hy H
  have hun := (mem_ready.1 hr).1
  refine ⟨fun h => (by rw [h] at hr; cases hr), fun j hj => ?_⟩
  have hjn : j < n := by
   rcases Nat.lt_or_ge j n with h | h
   ·exact h
   ·exact absurd hj (htw _ i inv hin hun j h)
  refine ⟨hjn, ?_⟩
  by_cases hji : j = i
  ·subst hji
   unfold stB; rw [hi]; exact ⟨v, hy, H⟩
  ·have := hdone _ _ H j (ready_mono hj hji)
   omega
 | succ f ih =>
  intro listed a inv hfree hr hy H
  have hun := (mem_ready.1 hr).1
  refine ⟨fun h => (by rw [h] at hr; cases hr), fun j hj => ?_⟩
  have hjn : j < n := by
   rcases Nat.lt_or_ge j n with h | h
   ·exact h
   ·exact absurd hj (htw _ i inv hin hun j h)
  refine ⟨hjn, ?_⟩
  by_cases hji : j = i
  ·subst hji
   unfold stB; rw [hi]; exact ⟨v, hy, H⟩
  ·have h1 := (H.2 j (ready_mono hj hji)).2
   obtain ⟨hjun, oj, hoj, hall⟩ := mem_ready.1 hj
   have hnot : ∀ e ∈ oj.after, Region.binds md e = true → e.on ≠ i := fun e he hb heq => by
    have h1 := hall e he hb
    rw [heq, getD_both hun] at h1
    cases h1
   have h2 := stB_put hoj (hfree j oj hoj hji hjun hnot) (fun cs b => hsel i oi cs b hi) (fun cs b => hsel j oj cs b hoj) hy h1
   have hfree' : ∀ k ok, ops[k]? = some ok → k ≠ i → (listed.setIfInBounds j true).getD k true = false →
     (∀ e ∈ ok.after, Region.binds md e = true → e.on ≠ i) → oi.apart ops ok = true := fun k ok hk hki hun hno => by
    refine hfree k ok hk hki ?_ hno
    by_cases hjk : j = k
    ·subst hjk; exact hjun
    ·rw [getD_set_ne true hjk] at hun; exact hun
   refine stB_mono (fun a' h3 => ih (listed.setIfInBounds j true) a' (inv.set hj hjn) hfree' (ready_mono hr (Ne.symm hji)) h3.1 ?_) h2
   rw [Array.setIfInBounds_comm _ _ hji]
   exact h3.2
def wpTxt (P : Program) (md : Region.Mode) (ops : Array Oper) (w0 : World) (M : List Ent) (lay : Nat → Option LayT) (β : Nat → Fz) (Q : Act → Prop) : Nat → List Oper → Act → Prop
 | _, [], a => Q a
 | i, o :: rest, a => ∃ v, YB P md ops w0 M lay β i o v a ∧ wpTxt P md ops w0 M lay β Q (i + 1) rest (a.put o.dst v)
theorem wpB_lex {β : Nat → Fz} {n : Nat} {Lq : Array Bool → Act → Prop} {Kq : Act → Prop} (hsel : Region.noSelect ops = true) (htw : ∀ listed i, HeadInv md ops n listed → i < n → listed.getD i true = false → ∀ t, n ≤ t → t ∉ Region.ready md ops listed)
  (hdone : ∀ listed a, Lq listed a → ∀ j ∈ Region.ready md ops listed, n ≤ j) (hn : n ≤ ops.size)
  (h : Nat) (hend : ∀ listed a, HeadInv md ops n listed → Kq a → (∀ j, j < n → listed.getD j false = true) → Region.seqB md ops h n listed = true → Lq listed a) :
  ∀ (l : List Oper) (k : Nat) (listed : Array Bool) (a : Act), (∀ j, j < l.length → l[j]? = ops[k + j]?) → k + l.length = n → HeadInv md ops n listed → (∀ j, j < k → listed.getD j false = true) →
  Region.lexHead md ops h l.length k listed = true → wpTxt P md ops w0 M lay β Kq k l a →
  wpB P md ops w0 M lay n β Lq l.length listed a
 | [], k, listed, a, _, hk, inv, hdn, hB, hq => by
  have : k = n := by simpa using hk
  subst this
  exact hend listed a inv hq hdn hB
 | o :: l, k, listed, a, hl, hk, inv, hdn, hB, hq => by
  have h0 : ops[k]? = some o := by simpa using (hl 0 (by simp)).symm
  simp only [List.length_cons, Region.lexHead, Bool.and_eq_true] at hB
  obtain ⟨⟨hr, hf⟩, hB'⟩ := hB
  have hkm : k < n := by simp only [List.length_cons] at hk; omega
  have hr' : k ∈ Region.ready md ops listed := by simpa using hr
  obtain ⟨v, hy, hK⟩ := hq
  exact wpB_first h0 (Region.noSelect_spec hsel) (by omega) htw hdone l.length listed a inv (Region.free_spec h0 hf) hr' hy
   (wpB_lex hsel htw hdone hn h hend l (k + 1) _ _ (fun j hj => by have := hl (j + 1) (by simp; omega); simpa [Nat.add_assoc, Nat.add_comm 1 j] using this) (by simp only [List.length_cons] at hk; omega) (inv.set hr' (by omega)) (fun j hj => by
    by_cases hjk : j = k
    ·subst hjk
     have : j < listed.size := by rw [inv.size]; omega
     simp [this]
    ·exact getD_set_true (hdn j (by omega))) hB' hK)
structure ClsM (w0 : World) (M : List Ent) (lay : Nat → Option LayT) (listed : Array Bool) (obs : Nat → Option Fz) (w : World) : Prop where
 st : St w0 M w
 has : ∀ j z, obs j = some z → ∃ y, lay j = some y ∧ w0.heap.size ≤ z.b ∧ w.heap[z.b]? = some (.cells (y.c z) y.t (0, 0)) ∧ ∀ e ∈ M, e.b ≠ z.b
 inj : ∀ j j' z z', obs j = some z → obs j' = some z' → z.b = z'.b → j = j'
 done : ∀ j, listed.getD j false = true → (lay j).isSome = true → (obs j).isSome = true
 only : ∀ j b, obs j = some b → listed.getD j false = true
def Con (obs : Nat → Option Fz) (β : Nat → Fz) : Prop := ∀ j z, obs j = some z → β j = z
theorem ClsM.rows {listed : Array Bool} {obs : Nat → Option Fz} {w : World} (h : ClsM w0 M lay listed obs w) {β : Nat → Fz} (hc : Con obs β) (js : List Nat) (hn : js.Nodup) (hl : ∀ j ∈ js, listed.getD j false = true) : St w0 (rowsOf lay β js ++ M) w := by
 have hrow : ∀ j ∈ js, ∀ y, lay j = some y → obs j = some (β j) := fun j hj y hy => by
  have h1 := h.done j (hl j hj) (by rw [hy]; rfl)
  cases ho : obs j with
  | none => rw [ho] at h1; cases h1
  | some b => rw [hc j b ho]
 have hmem : ∀ e ∈ rowsOf lay β js, ∃ j ∈ js, ∃ y, lay j = some y ∧ e = ⟨(β j).b, y.c (β j), y.t⟩ := fun e he => by
  obtain ⟨j, hj, h1⟩ := List.mem_filterMap.1 he
  cases hy : lay j with
  | none => rw [hy] at h1; cases h1
  | some y => rw [hy] at h1; exact ⟨j, hj, y, hy, by simpa using h1.symm⟩
 refine ⟨h.st.1, ?_, fun e he => ?_⟩
 ·rw [List.map_append, List.nodup_append]
  refine ⟨?_, h.st.2.1, fun b hb b' hb' hbb => ?_⟩
  ·clear hmem hl
   induction js with
   | nil => exact List.nodup_nil
   | cons j js ih =>
    obtain ⟨hnj, hns⟩ := List.nodup_cons.1 hn
    have ih' := ih hns (fun k hk => hrow k (List.mem_cons_of_mem _ hk))
    unfold rowsOf at *
    cases hy : lay j with
    | none => simp only [List.filterMap_cons, hy, Option.map_none]; exact ih'
    | some y =>
     simp only [List.filterMap_cons, hy, Option.map_some, List.map_cons]
     refine List.nodup_cons.2 ⟨fun hm => ?_, ih'⟩
     obtain ⟨e, he, hb⟩ := List.mem_map.1 hm
     obtain ⟨k, hk, h1⟩ := List.mem_filterMap.1 he
     cases hyk : lay k with
     | none => rw [hyk] at h1; cases h1
     | some z =>
      rw [hyk] at h1
      have h2 : e = ⟨(β k).b, z.c (β k), z.t⟩ := by simpa using h1.symm
      rw [h2] at hb
      have e1 := hrow j (List.mem_cons_self ..) y hy
      have e2 := hrow k (List.mem_cons_of_mem _ hk) z hyk
      simp only at hb
      exact hnj (h.inj _ _ _ _ e1 e2 hb.symm ▸ hk)
  ·obtain ⟨e, he, rfl⟩ := List.mem_map.1 hb
   obtain ⟨e', he', rfl⟩ := List.mem_map.1 hb'
   obtain ⟨j, hj, y, hy, rfl⟩ := hmem e he
   obtain ⟨y', _, _, _, h4⟩ := h.has j _ (hrow j hj y hy)
   exact h4 e' he' hbb.symm
 ·rcases List.mem_append.1 he with he | he
  ·obtain ⟨j, hj, y, hy, rfl⟩ := hmem e he
   obtain ⟨y', hy', h2, h3, _⟩ := h.has j _ (hrow j hj y hy)
   rw [hy] at hy'
   cases hy'
   exact ⟨h2, h3⟩
  ·exact h.st.2.2 e he
theorem ClsM.grow {listed : Array Bool} {obs : Nat → Option Fz} {w w' : World} (h : ClsM w0 M lay listed obs w) (hg : Gr w w') : ClsM w0 M lay listed obs w' :=
 ⟨h.st.grow hg, fun j b hb => by
  obtain ⟨y, h1, h2, h3, h4⟩ := h.has j b hb
  exact ⟨y, h1, h2, gr_block hg h3, h4⟩, h.inj, h.done, h.only⟩
theorem ClsM.list {listed : Array Bool} {obs : Nat → Option Fz} {w : World} (h : ClsM w0 M lay listed obs w) {i : Nat} (hi : lay i = none) : ClsM w0 M lay (listed.setIfInBounds i true) obs w :=
 ⟨h.st, h.has, h.inj, fun j hl hy => by
  by_cases hij : i = j
  ·subst hij; rw [hi] at hy; cases hy
  ·rw [getD_set_ne false hij] at hl; exact h.done j hl hy, fun j b hb => getD_set_true (h.only j b hb)⟩
theorem any_of_B {n g : Nat} {L : (Nat → Fz) → Array Bool → Act → Prop} {Q' : Exit → Act → World → Prop} (hns : n ≤ ops.size)
  (hL : ∀ listed obs a w, ClsM w0 M lay listed obs w → (∀ β, Con obs β → L β listed a) → wpAny P md ops Q' g listed a w) :
  ∀ (f : Nat) (listed : Array Bool) (obs : Nat → Option Fz) (a : Act) (w : World), HeadInv md ops n listed → ClsM w0 M lay listed obs w → (∀ β, Con obs β → wpB P md ops w0 M lay n β (L β) f listed a) → wpAny P md ops Q' (f + g) listed a w
 | 0, listed, obs, a, w, _, hw, h => by rw [Nat.zero_add]; exact hL _ _ _ _ hw h
 | f + 1, listed, obs, a, w, inv, hw, h => by
  rw [show f + 1 + g = (f + g) + 1 by omega]
  have hβ : Con obs (fun j => (obs j).getD ⟨0, fun _ => undef, []⟩) := fun j b hb => by simp [hb]
  refine ⟨fun h0 => absurd h0 (h _ hβ).1, fun i hi => ?_⟩
  have hin := ((h _ hβ).2 i hi).1
  have hst : ∀ β, Con obs β → stB P md ops w0 M lay β i (wpB P md ops w0 M lay n β (L β) f (listed.setIfInBounds i true)) a := fun β hc => ((h β hc).2 i hi).2
  obtain ⟨hiun, o, ho, hall⟩ := mem_ready.1 hi
  have hilt : i < listed.size := by rw [inv.size]; omega
  have inv' := inv.set hi hin
  unfold wpOp
  simp only [ho]
  unfold stB at hst
  simp only [ho] at hst
  cases hy : lay i with
  | some y =>
   have hst' : ∀ β, Con obs β → Region.wanted o (yielded ops a.tmps) = true ∧ upL P y w ((execOp a.eval o).run P w) ∧ wpB P md ops w0 M lay n β (L β) f (listed.setIfInBounds i true) (a.put o.dst (y.at_ (β i))) := fun β hc => by
    obtain ⟨v, hyb, hk⟩ := hst β hc
    unfold YB at hyb
    rw [hy] at hyb
    obtain ⟨h1, ⟨needs, hnd, hanc, h2⟩, rfl⟩ := hyb
    exact ⟨h1, h2 w (hw.rows hc needs hnd fun j hj => anc_ready inv (hanc j hj) hi), hk⟩
   obtain ⟨hg, hup, _⟩ := hst' _ hβ
   rw [if_pos hg]
   left
   unfold Oper.wp
   have hob : obs i = none := by
    cases ho : obs i with
    | none => rfl
    | some b => have := hw.only i b ho; rw [getD_both hiun] at this; cases this
   have hfresh : ∀ j z, obs j = some z → z.b < w.heap.size := fun j z hb => by
    obtain ⟨y', _, _, h3, _⟩ := hw.has j z hb
    exact (Array.getElem?_eq_some_iff.1 h3).1
   have fin : ∀ (z : Fz) (w' : World), w.heap.size ≤ z.b → w'.heap[z.b]? = some (.cells (y.c z) y.t (0, 0)) → Gr w w' → wpAny P md ops Q' (f + g) (listed.setIfInBounds i true) (a.put o.dst (y.at_ z)) w' := fun z w' hz hrow hgr => by
    refine any_of_B hns hL f (listed.setIfInBounds i true) (fun j => if j = i then some z else obs j) _ _ inv' ⟨hw.st.grow hgr, fun j b hb => ?_, fun j j' b b' hb hb' hbb => ?_, fun j hl hj => ?_, fun j b hb => ?_⟩ (fun β hc => ?_)
    ·by_cases hji : j = i
     ·rw [if_pos hji] at hb
      cases hb
      subst hji
      exact ⟨y, hy, Nat.le_trans hw.st.1.size hz, hrow, fun e he => Nat.ne_of_lt (Nat.lt_of_lt_of_le (hw.st.fresh he) hz)⟩
     ·rw [if_neg hji] at hb
      obtain ⟨y', h1, h2, h3, h4⟩ := hw.has j b hb
      exact ⟨y', h1, h2, gr_block hgr h3, h4⟩
    ·by_cases hji : j = i <;> by_cases hji' : j' = i
     ·rw [hji, hji']
     ·rw [if_pos hji] at hb; rw [if_neg hji'] at hb'
      cases hb
      have := hfresh _ _ hb'; omega
     ·rw [if_neg hji] at hb; rw [if_pos hji'] at hb'
      cases hb'
      have := hfresh _ _ hb; omega
     ·rw [if_neg hji] at hb; rw [if_neg hji'] at hb'
      exact hw.inj _ _ _ _ hb hb' hbb
    ·by_cases hji : j = i
     ·simp [hji]
     ·rw [if_neg hji]
      rw [getD_set_ne false (Ne.symm hji)] at hl
      exact hw.done j hl hj
    ·by_cases hji : j = i
     ·subst hji; simp [hilt]
     ·rw [if_neg hji] at hb; exact getD_set_true (hw.only j b hb)
    ·have hc' : Con obs β := fun j b hb => hc j b (by
      have hji : j ≠ i := fun e => by rw [e, hob] at hb; cases hb
      simp only []; rw [if_neg hji]; exact hb)
     have := (hst' β hc').2.2
     rw [hc i z (by simp)] at this
     exact this
   generalize (execOp a.eval o).run P w = r at *
   cases r with
   | ok nx w' =>
    cases nx <;> simp only [upL] at hup <;> simp only [Oper.upon]
    case value u =>
     obtain ⟨z, rfl, h1, h2, h3⟩ := hup
     exact fin z w' h1 h2 h3
    case enter fn args =>
     refine hup.2.mono fun e w'' ⟨z, he, h1, h2, h3⟩ => ?_
     subst he
     exact fin z w'' h1 h2 (gr_trans hup.1 h3)
   | halt x w' => simp only [upL] at hup
  | none =>
   have hst' : ∀ β, Con obs β → ∃ v, ((Region.wanted o (yielded ops a.tmps) = true ∧ upI P v w ((execOp a.eval o).run P w)) ∨ (Region.wanted o (yielded ops a.tmps) = false ∧ v = undef)) ∧ wpB P md ops w0 M lay n β (L β) f (listed.setIfInBounds i true) (a.put o.dst v) := fun β hc => by
    obtain ⟨v, hyb, hk⟩ := hst β hc
    unfold YB at hyb
    rw [hy] at hyb
    obtain ⟨needs, hnd, hanc, hyi⟩ := hyb
    refine ⟨v, ?_, hk⟩
    rcases hyi with ⟨h1, h2⟩ | h1
    ·exact .inl ⟨h1, h2 w (hw.rows hc needs hnd fun j hj => anc_ready inv (hanc j hj) hi)⟩
    ·exact .inr h1
   have hw' := hw.list (i := i) hy
   obtain ⟨v, hv, _⟩ := hst' _ hβ
   rcases hv with ⟨hwt, hup⟩ | ⟨hwt, rfl⟩
   ·rw [if_pos hwt]
    left
    unfold Oper.wp
    have hall' : ∀ β, Con obs β → ∃ v, upI P v w ((execOp a.eval o).run P w) ∧ wpB P md ops w0 M lay n β (L β) f (listed.setIfInBounds i true) (a.put o.dst v) := fun β hc => by
     obtain ⟨v, hv, hk⟩ := hst' β hc
     rcases hv with ⟨_, h2⟩ | ⟨h1, _⟩
     ·exact ⟨v, h2, hk⟩
     ·rw [hwt] at h1; cases h1
    generalize (execOp a.eval o).run P w = r at *
    cases r with
    | ok nx w' =>
     cases nx <;> simp only [upI] at hup hall' <;> simp only [Oper.upon]
     case value u =>
      exact any_of_B hns hL f _ obs _ _ inv' (hw'.grow hup.2) fun β hc => by
       obtain ⟨v', ⟨rfl, _⟩, hk⟩ := hall' β hc
       exact hk
     case skip =>
      exact any_of_B hns hL f _ obs _ _ inv' (hw'.grow hup.2) fun β hc => by
       obtain ⟨v', ⟨rfl, _⟩, hk⟩ := hall' β hc
       exact hk
     case enter fn args =>
      refine hup.2.1.mono fun e w'' ⟨he, hg⟩ => ?_
      subst he
      exact any_of_B hns hL f _ obs _ _ inv' ((hw'.grow hup.2.2).grow hg) fun β hc => by
       obtain ⟨v', ⟨h1, h2, _⟩, hk⟩ := hall' β hc
       rw [calls_det h1 hup.2.1 h2]
       exact hk
    | halt x w' => simp only [upI] at hup
   ·rw [if_neg (by rw [hwt]; decide)]
    exact any_of_B hns hL f _ obs _ _ inv' hw' fun β hc => by
     obtain ⟨v', hv', hk⟩ := hst' β hc
     rcases hv' with ⟨h1, _⟩ | ⟨_, rfl⟩
     ·rw [hwt] at h1; cases h1
     ·exact hk
def layL (ls : List (Nat × LayT)) (i : Nat) : Option LayT := ls.lookup i
theorem cls0 {w : World} (hS : St w0 M w) (k : Nat) : ClsM w0 M lay (Array.replicate k false) (fun _ => none) w :=
 ⟨hS, fun _ _ h => (by cases h), fun _ _ _ _ h _ _ => (by cases h), fun j h _ => (by rw [getD_replicate_false] at h; cases h), fun _ _ h => (by cases h)⟩
theorem sn_tail {id : Nat} {Q : Exit → Act → World → Prop} {a : Act} {w : World} {l : List Oper} (n : Nat) (ls : List (Nat × LayT)) (hS : St w0 M w) (hm : P.follows .mixedOrders = true) (hB : smB l.toArray n (ls.map (·.1)) = true)
  (h : ∀ β : Nat → Fz, wpTxt P .text l.toArray w0 M (layL ls) β (fun a' => ∀ w', St w0 (rowsOf (layL ls) β (ls.map (·.1)) ++ M) w' → wpList P l.toArray (onlyN Q) (l.drop n) a' w') 0 (l.take n) a) : (Code.region id l.toArray true).wp P Q a w := by
 simp only [smB, Bool.and_eq_true, decide_eq_true_eq] at hB
 obtain ⟨⟨⟨⟨⟨⟨⟨hlate, hsel⟩, hn⟩, hs⟩, hc⟩, hlex⟩, hnd⟩, hjn⟩ := hB
 have hn' : n < l.length := by simpa using hn
 have htl : (l.take n).length = n := by simp; omega
 have hdl : (l.drop n).length = l.toArray.size - n := by simp
 have htw := fun (listed : Array Bool) (i : Nat) (inv : HeadInv .text l.toArray n listed) (hi : i < n) (hun : listed.getD i true = false) (t : Nat) (ht : n ≤ t) => tail_waits hs hc hn inv _ i rfl hi hun t ht
 have H := fun β => wpB_lex (md := .text) (n := n) (P := P) (w0 := w0) (M := M) (lay := layL ls) (β := β)
  (Lq := fun listed' a' => Region.seqB .text l.toArray (l.toArray.size - n) n listed' = true ∧ (∀ j, j < n → listed'.getD j false = true) ∧ ∀ w', St w0 (rowsOf (layL ls) β (ls.map (·.1)) ++ M) w' → wpList P l.toArray (onlyN Q) (l.drop n) a' w') hsel htw
  (fun listed a ⟨h, _⟩ j hj => seqB_ready h j hj) (Nat.le_of_lt hn) (l.toArray.size - n) (fun listed a inv hq hdn hB => ⟨hB, hdn, hq⟩) (l.take n) 0 _ a (fun j hj => by
    have hj' : j < n := by rw [htl] at hj; exact hj
    simp [hj']) (by simpa using htl) (text_inv0 _ _) (fun j hj => by omega) (by rw [htl]; exact hlex) (h β)
 refine wp_region_any hm ?_
 have h2 := any_of_B (P := P) (md := .text) (ops := l.toArray) (w0 := w0) (M := M) (lay := layL ls) (n := n) (g := l.toArray.size - n) (Q' := onlyN Q)
  (L := fun β listed' a' => Region.seqB .text l.toArray (l.toArray.size - n) n listed' = true ∧ (∀ j, j < n → listed'.getD j false = true) ∧ ∀ w', St w0 (rowsOf (layL ls) β (ls.map (·.1)) ++ M) w' → wpList P l.toArray (onlyN Q) (l.drop n) a' w') (Nat.le_of_lt hn)
  (fun listed obs a' w' hw hL => by
   have hβ : Con obs (fun j => (obs j).getD ⟨0, fun _ => undef, []⟩) := fun j b hb => by simp [hb]
   obtain ⟨h1, h3, h4⟩ := hL _ hβ
   have := wpAny_of_seq (md := .text) (Q' := onlyN Q) (l.drop n) n listed a' w' (fun j => by simp [List.getElem?_drop]) (by rw [hdl]; exact h1) (h4 _ (hw.rows hβ _ hnd fun j hj => h3 j (by simpa using List.all_eq_true.1 hjn j hj)))
   rwa [hdl] at this) (l.take n).length _ (fun _ => none) a w.drew (text_inv0 _ _) (cls0 hS.drew _) (fun β _ => H β)
 rw [htl, show n + (l.toArray.size - n) = l.toArray.size by omega] at h2
 exact wpAny_le (fun _ _ _ h => onlyN_le h) _ _ _ _ (late_any hlate _ _ _ _ h2)
theorem sn_all {id : Nat} {Q : Exit → Act → World → Prop} {a : Act} {w : World} {l : List Oper} (ls : List (Nat × LayT)) (hS : St w0 M w) (hm : P.follows .mixedOrders = true) (hB : smAllB l.toArray (ls.map (·.1)) = true)
  (h : ∀ β : Nat → Fz, wpTxt P .text l.toArray w0 M (layL ls) β (fun a' => ∀ w', St w0 (rowsOf (layL ls) β (ls.map (·.1)) ++ M) w' → Q .normal a' w') 0 l a) : (Code.region id l.toArray true).wp P Q a w := by
 simp only [smAllB, Bool.and_eq_true, decide_eq_true_eq] at hB
 obtain ⟨⟨⟨⟨hlate, hsel⟩, hlex⟩, hnd⟩, hjn⟩ := hB
 have htw := fun (listed : Array Bool) (i : Nat) (_ : HeadInv .text l.toArray l.toArray.size listed) (_ : i < l.toArray.size) (_ : listed.getD i true = false) (t : Nat) (ht : l.toArray.size ≤ t) => show t ∉ Region.ready .text l.toArray listed from fun hr => by
  obtain ⟨_, ot, hot, _⟩ := mem_ready.1 hr
  have := (Array.getElem?_eq_some_iff.1 hot).1
  omega
 have H := fun β => wpB_lex (md := .text) (n := l.toArray.size) (P := P) (w0 := w0) (M := M) (lay := layL ls) (β := β)
  (Lq := fun listed' a' => Region.ready .text l.toArray listed' = [] ∧ (∀ j, j < l.toArray.size → listed'.getD j false = true) ∧ ∀ w', St w0 (rowsOf (layL ls) β (ls.map (·.1)) ++ M) w' → Q .normal a' w') hsel htw
  (fun listed a ⟨h, _⟩ j hj => by rw [h] at hj; cases hj) (Nat.le_refl _) 0 (fun listed a inv hq hdn hB => ⟨(by simpa [Region.seqB] using hB), hdn, hq⟩) l 0 _ a (fun j hj => by simp) (by simp) (text_inv0 _ _) (fun j hj => by omega) (by simpa using hlex) (h β)
 refine wp_region_any hm ?_
 have h2 := any_of_B (P := P) (md := .text) (ops := l.toArray) (w0 := w0) (M := M) (lay := layL ls) (n := l.toArray.size) (g := 0) (Q' := onlyN Q)
  (L := fun β listed' a' => Region.ready .text l.toArray listed' = [] ∧ (∀ j, j < l.toArray.size → listed'.getD j false = true) ∧ ∀ w', St w0 (rowsOf (layL ls) β (ls.map (·.1)) ++ M) w' → Q .normal a' w') (Nat.le_refl _)
  (fun listed obs a' w' hw hL => by
   have hβ : Con obs (fun j => (obs j).getD ⟨0, fun _ => undef, []⟩) := fun j b hb => by simp [hb]
   obtain ⟨h1, h3, h4⟩ := hL _ hβ
   exact ⟨h1, h4 _ (hw.rows hβ _ hnd fun j hj => h3 j (by simpa using List.all_eq_true.1 hjn j hj))⟩) l.length _ (fun _ => none) a w.drew (text_inv0 _ _) (cls0 hS.drew _) (fun β _ => H β)
 rw [Nat.add_zero] at h2
 exact wpAny_le (fun _ _ _ h => onlyN_le h) _ _ _ _ (late_any hlate _ _ _ _ (by simpa using h2))
theorem sn_allA {id : Nat} {Q : Exit → Act → World → Prop} {a : Act} {w : World} {l : List Oper} (ls : List (Nat × LayT)) (hS : St w0 M w) (hm : P.follows .mixedOrders = true) (hB : smAnyB l.toArray (ls.map (·.1)) = true)
  (h : ∀ β : Nat → Fz, wpTxt P .any l.toArray w0 M (layL ls) β (fun a' => ∀ w', St w0 (rowsOf (layL ls) β (ls.map (·.1)) ++ M) w' → Q .normal a' w') 0 l a) : (Code.region id l.toArray true).wp P Q a w := by
 simp only [smAnyB, Bool.and_eq_true, decide_eq_true_eq] at hB
 obtain ⟨⟨⟨hsel, hlex⟩, hnd⟩, hjn⟩ := hB
 have htw := fun (listed : Array Bool) (i : Nat) (_ : HeadInv .any l.toArray l.toArray.size listed) (_ : i < l.toArray.size) (_ : listed.getD i true = false) (t : Nat) (ht : l.toArray.size ≤ t) => show t ∉ Region.ready .any l.toArray listed from fun hr => by
  obtain ⟨_, ot, hot, _⟩ := mem_ready.1 hr
  have := (Array.getElem?_eq_some_iff.1 hot).1
  omega
 have H := fun β => wpB_lex (md := .any) (n := l.toArray.size) (P := P) (w0 := w0) (M := M) (lay := layL ls) (β := β)
  (Lq := fun listed' a' => Region.ready .any l.toArray listed' = [] ∧ (∀ j, j < l.toArray.size → listed'.getD j false = true) ∧ ∀ w', St w0 (rowsOf (layL ls) β (ls.map (·.1)) ++ M) w' → Q .normal a' w') hsel htw
  (fun listed a ⟨h, _⟩ j hj => by rw [h] at hj; cases hj) (Nat.le_refl _) 0 (fun listed a inv hq hdn hB => ⟨(by simpa [Region.seqB] using hB), hdn, hq⟩) l 0 _ a (fun j hj => by simp) (by simp) (any_inv0 _ _) (fun j hj => by omega) (by simpa using hlex) (h β)
 refine wp_region_any hm ?_
 have h2 := any_of_B (P := P) (md := .any) (ops := l.toArray) (w0 := w0) (M := M) (lay := layL ls) (n := l.toArray.size) (g := 0) (Q' := Q)
  (L := fun β listed' a' => Region.ready .any l.toArray listed' = [] ∧ (∀ j, j < l.toArray.size → listed'.getD j false = true) ∧ ∀ w', St w0 (rowsOf (layL ls) β (ls.map (·.1)) ++ M) w' → Q .normal a' w') (Nat.le_refl _)
  (fun listed obs a' w' hw hL => by
   have hβ : Con obs (fun j => (obs j).getD ⟨0, fun _ => undef, []⟩) := fun j b hb => by simp [hb]
   obtain ⟨h1, h3, h4⟩ := hL _ hβ
   exact ⟨h1, h4 _ (hw.rows hβ _ hnd fun j hj => h3 j (by simpa using List.all_eq_true.1 hjn j hj))⟩) l.length _ (fun _ => none) a w.drew (any_inv0 _ _) (cls0 hS.drew _) (fun β _ => H β)
 rw [Nat.add_zero] at h2
 simpa using h2
variable {β : Nat → Fz} {Q : Act → Prop} {a : Act} {o : Oper} {rest : List Oper} {i : Nat}
theorem sn_step (h : ∀ K : Act → Prop, (∀ a, wpTxt P md ops w0 M lay β Q (i + 1) rest a → K a) → ∃ v, YB P md ops w0 M lay β i o v a ∧ K (a.put o.dst v)) : wpTxt P md ops w0 M lay β Q i (o :: rest) a :=
 h _ (fun _ h => h)
end
end Sn
end Go.Proofs.Ytjoalcaooccbiaa
/- SlC -/
namespace Go.Proofs.Ytjoalcaooccbiaa
open Go.RowKit VecM
section
variable {P : Program} {ops : Array Oper} {Q : Exit → Act → World → Prop} {w0 w : World} {M M' : List Ent} {a : Act} {o : Oper} {rest : List Oper}
theorem sl_cell (hS : St w0 M w) (hw : Region.wanted o (yielded ops a.tmps) = true) (ty : TypeId) (x : Operand) (_ho : o.op = .load ty x) {b off : Nat} (_hx : a.eval x = .pointer (some ⟨b, off, none⟩)) {c : Array Value} {t : TypeId} (hm : Has M b c t)
  {v : Value} (hv : c[off]? = some v) (hrun : ∀ w : World, w.cell? ⟨b, off, none⟩ = some v → (execOp a.eval o).run P w = .ok (.value v) w)
  (h : wpList P ops Q rest (a.put o.dst v) w) : wpList P ops Q (o :: rest) a w := by
 unfold wpList
 rw [if_pos hw]
 refine .inl ?_
 unfold Oper.wp
 rw [hrun w ((hS.cell hm off).trans hv)]
 exact h
theorem sl_new (hS : St w0 M w) (hgd : o.guard = none) (c : Array Value) (t : TypeId) (mk : Nat → Value) (hrun : ∀ w : World, (execOp a.eval o).run P w = .ok (.value (mk w.heap.size)) (w.alloc (.cells c t)))
  (h : ∀ b w', St w0 (⟨b, c, t⟩ :: M) w' → wpList P ops Q rest (a.put o.dst (mk b)) w') : wpList P ops Q (o :: rest) a w :=
 wpList_plain hgd fun K hK => by
  unfold Oper.wp
  rw [hrun w]
  exact hK _ _ (h _ _ (hS.alloc c t))
theorem sd_cell {K : Act → Prop} (hw : Region.wanted o (yielded ops a.tmps) = true) (ty : TypeId) (x : Operand) (_ho : o.op = .load ty x) {b off : Nat} (_hx : a.eval x = .pointer (some ⟨b, off, none⟩)) {c : Array Value} {t : TypeId} (hm : Has M b c t)
  {v : Value} (hv : c[off]? = some v) (hrun : ∀ w : World, w.cell? ⟨b, off, none⟩ = some v → (execOp a.eval o).run P w = .ok (.value v) w)
  (h : K (a.put o.dst v)) : ∃ v, YldM P ops w0 M o v a ∧ K (a.put o.dst v) :=
 sd_yes hw (v := v) (fun w hS => by
  rw [hrun w ((hS.cell hm off).trans hv)]
  exact ⟨rfl, Gr.refl _⟩) h
end
end Go.Proofs.Ytjoalcaooccbiaa
/- SlI -/
namespace Go.Proofs.Ytjoalcaooccbiaa
open Go.RowKit VecM
section
variable {P : Program} {ops : Array Oper} {Q : Exit → Act → World → Prop} {w0 w : World} {M M' : List Ent} {a : Act} {o : Oper} {rest : List Oper}
theorem addr_add0 (b j : Nat) : (⟨b, 0, none⟩ : Addr).add j = ⟨b, j, none⟩ := by unfold Addr.add; split <;> simp_all
theorem run_addr {t e : TypeId} {n j b : Nat} {kd : IntKind} {x i : Operand} (ho : o.op = .indexAddr t x i) (hx : a.eval x = .pointer (some ⟨b, 0, none⟩)) (hi : a.eval i = .int kd (j : Int)) (hu : P.underlying t = some (.array n e)) {f : TypeInfo} (hf : P.info? e = some f) (h1 : f.size = 1) (hj : j < n) (w : World) :
  (execOp a.eval o).run P w = .ok (.value (.pointer (some ⟨b, j, none⟩))) w := by
 unfold execOp
 simp [ho, hx, hi, Instr.indexAt, asIntOf, Instr.sureAddr, run_underlying hu, sizeOf, typeInfo, hf, h1, hj, addr_add0, Result.andThen]
theorem run_saddr {t e : TypeId} {n c j b : Nat} {kd : IntKind} {x i : Operand} (ho : o.op = .indexAddr t x i) (hx : a.eval x = .slice (some ⟨b, 0, none⟩) n c) (hi : a.eval i = .int kd (j : Int)) (hu : P.underlying t = some (.slice e)) {f : TypeInfo} (hf : P.info? e = some f) (h1 : f.size = 1) (hj : j < n) (w : World) :
  (execOp a.eval o).run P w = .ok (.value (.pointer (some ⟨b, j, none⟩))) w := by
 unfold execOp
 simp [ho, hx, hi, Instr.indexAt, asIntOf, run_underlying hu, sizeOf, typeInfo, hf, h1, hj, addr_add0, Result.andThen]
theorem run_idx {t e : TypeId} {n j : Nat} {kd : IntKind} {x i : Operand} {c : Array Value} {v : Value} (ho : o.op = .index t x i) (hx : a.eval x = .agg c) (hi : a.eval i = .int kd (j : Int)) (hu : P.underlying t = some (.array n e)) {f : TypeInfo} (hf : P.info? e = some f) (h1 : f.size = 1)
  {ek : IntKind} (he : P.underlying e = some (.int ek)) (hj : j < n) (hv : c[j]? = some v) (w : World) :
  (execOp a.eval o).run P w = .ok (.value v) w := by
 unfold execOp
 simp [ho, hx, hi, Instr.index, asIntOf, run_underlying hu, sizeOf, typeInfo, hf, h1, hj, part, isAgg, run_underlying he, hv, Result.andThen]
theorem run_put {t : TypeId} {b j : Nat} {x y : Operand} {u v : Value} (ho : o.op = .store t x y) (hx : a.eval x = .pointer (some ⟨b, j, none⟩)) (hy : a.eval y = v) {f : TypeInfo} (hf : P.info? t = some f) (h1 : f.size = 1) (hv : v.oneCell' = true) (w : World)
  (hc : w.cell? ⟨b, j, none⟩ = some u) (hz : w.frozen? ⟨b, j, none⟩ = false) : (execOp a.eval o).run P w = .ok .skip (w.setCell ⟨b, j, none⟩ v) := by
 unfold execOp
 cases v <;> first | (simp [Value.oneCell'] at hv; done) | simp [ho, hx, hy, Instr.storeAt, Instr.sureAddr, storeVar, Value.cells, sizeOf, typeInfo, hf, h1, storeCells, Addr.add, store, Sem.run, hc, hz, Result.andThen]
theorem sl_addr (hw : Region.wanted o (yielded ops a.tmps) = true) (t e : TypeId) {n : Nat} (x i : Operand) (ho : o.op = .indexAddr t x i) {b : Nat} (hx : a.eval x = .pointer (some ⟨b, 0, none⟩)) (kd : IntKind) (j : Nat) (hi : a.eval i = .int kd (j : Int)) (hu : P.underlying t = some (.array n e))
  {f : TypeInfo} (hf : P.info? e = some f) (h1 : f.size = 1) (hj : j < n) (h : wpList P ops Q rest (a.put o.dst (.pointer (some ⟨b, j, none⟩))) w) : wpList P ops Q (o :: rest) a w := by
 unfold wpList
 rw [if_pos hw]
 refine .inl ?_
 unfold Oper.wp
 rw [run_addr ho hx hi hu hf h1 hj]
 exact h
theorem sl_idx (hw : Region.wanted o (yielded ops a.tmps) = true) (t e : TypeId) {n : Nat} (x i : Operand) (ho : o.op = .index t x i) {c : Array Value} (hx : a.eval x = .agg c) (kd : IntKind) (j : Nat) (hi : a.eval i = .int kd (j : Int)) (hu : P.underlying t = some (.array n e))
  {f : TypeInfo} (hf : P.info? e = some f) (h1 : f.size = 1) {ek : IntKind} (he : P.underlying e = some (.int ek)) (hj : j < n) {v : Value} (hv : c[j]? = some v) (h : wpList P ops Q rest (a.put o.dst v) w) : wpList P ops Q (o :: rest) a w := by
 unfold wpList
 rw [if_pos hw]
 refine .inl ?_
 unfold Oper.wp
 rw [run_idx ho hx hi hu hf h1 he hj hv]
 exact h
theorem sl_lcell (hw : Region.wanted o (yielded ops a.tmps) = true) (ty : TypeId) (x : Operand) (_ho : o.op = .load ty x) {b off : Nat} (_hx : a.eval x = .pointer (some ⟨b, off, none⟩))
  {v : Value} (hv : w.cell? ⟨b, off, none⟩ = some v) (hrun : ∀ w : World, w.cell? ⟨b, off, none⟩ = some v → (execOp a.eval o).run P w = .ok (.value v) w)
  (h : wpList P ops Q rest (a.put o.dst v) w) : wpList P ops Q (o :: rest) a w := by
 unfold wpList
 rw [if_pos hw]
 refine .inl ?_
 unfold Oper.wp
 rw [hrun w hv]
 exact h
theorem sl_put (hS : St w0 M w) (hgd : o.guard = none) (ty : TypeId) (x y : Operand) (ho : o.op = .store ty x y) {b j : Nat} (hx : a.eval x = .pointer (some ⟨b, j, none⟩)) {v : Value} (hy : a.eval y = v) {c c' : Array Value} {t : TypeId} (hr : Rep M b c t c' M') (hj : j < c.size) (hc : c.setIfInBounds j v = c')
  {f : TypeInfo} (hf : P.info? ty = some f) (h1 : f.size = 1) (hv : v.oneCell' = true) (h : ∀ w', St w0 M' w' → wpList P ops Q rest (a.put o.dst undef) w') : wpList P ops Q (o :: rest) a w := by
 subst hc
 refine wpList_plain hgd fun K hK => ?_
 unfold Oper.wp
 rw [run_put (u := c[j]) ho hx hy hf h1 hv w (by rw [hS.cell hr.has j, Array.getElem?_eq_getElem hj]) (hS.thawed hr.has j)]
 exact hK _ _ (h _ (hS.setCell j v hr))
theorem sd_addr {K : Act → Prop} (hw : Region.wanted o (yielded ops a.tmps) = true) (t e : TypeId) {n : Nat} (x i : Operand) (ho : o.op = .indexAddr t x i) {b : Nat} (hx : a.eval x = .pointer (some ⟨b, 0, none⟩)) (kd : IntKind) (j : Nat) (hi : a.eval i = .int kd (j : Int)) (hu : P.underlying t = some (.array n e))
  {f : TypeInfo} (hf : P.info? e = some f) (h1 : f.size = 1) (hj : j < n) (h : K (a.put o.dst (.pointer (some ⟨b, j, none⟩)))) : ∃ v, YldM P ops w0 M o v a ∧ K (a.put o.dst v) :=
 sd_yes hw (fun w _ => by rw [run_addr ho hx hi hu hf h1 hj]; exact ⟨rfl, Gr.refl _⟩) h
theorem sd_idx {K : Act → Prop} (hw : Region.wanted o (yielded ops a.tmps) = true) (t e : TypeId) {n : Nat} (x i : Operand) (ho : o.op = .index t x i) {c : Array Value} (hx : a.eval x = .agg c) (kd : IntKind) (j : Nat) (hi : a.eval i = .int kd (j : Int)) (hu : P.underlying t = some (.array n e))
  {f : TypeInfo} (hf : P.info? e = some f) (h1 : f.size = 1) {ek : IntKind} (he : P.underlying e = some (.int ek)) (hj : j < n) {v : Value} (hv : c[j]? = some v) (h : K (a.put o.dst v)) : ∃ v, YldM P ops w0 M o v a ∧ K (a.put o.dst v) :=
 sd_yes hw (fun w _ => by rw [run_idx ho hx hi hu hf h1 he hj hv]; exact ⟨rfl, Gr.refl _⟩) h
theorem info8 : Try.prog.info? 5 = some ((Try.prog.info? 5).getD default) := by kernel_rfl
theorem size8 : ((Try.prog.info? 5).getD default).size = 1 := by kernel_rfl
theorem bs_upd (c : Nat → Int) (j : Nat) (y : Int) (h : j < 16) : (bs c).setIfInBounds j (.int .u8 y) = bs (upd c j y) := by
 match j with
 | 0 | 1 | 2 | 3 | 4 | 5 | 6 | 7 | 8 | 9 | 10 | 11 | 12 | 13 | 14 | 15 => rfl
 | k + 16 => omega
end
end Go.Proofs.Ytjoalcaooccbiaa
/- SlP -/
namespace Go.Proofs.Ytjoalcaooccbiaa
open Go.RowKit VecM
section
variable {P : Program} {ops : Array Oper} {Q : Exit → Act → World → Prop} {w0 w : World} {M M' : List Ent} {a : Act} {o : Oper} {rest : List Oper}
theorem sl_step (h : ∀ K : Act → World → Prop, (∀ a w, wpList P ops Q rest a w → K a w) → (Region.wanted o (yielded ops a.tmps) = true ∧ o.wp P a w K Q) ∨ (Region.wanted o (yielded ops a.tmps) = false ∧ K (a.put o.dst undef) w)) : wpList P ops Q (o :: rest) a w := by
 rcases h _ (fun _ _ h => h) with ⟨h1, h2⟩ | ⟨h1, h2⟩
 ·unfold wpList; rw [if_pos h1]; exact .inl h2
 ·unfold wpList; rw [if_neg (by rw [h1]; decide)]; exact h2
theorem sl_val (hw : Region.wanted o (yielded ops a.tmps) = true) {v : Value} (hrun : ∀ w, (execOp a.eval o).run P w = .ok (.value v) w) (h : wpList P ops Q rest (a.put o.dst v) w) : wpList P ops Q (o :: rest) a w := by
 unfold wpList; rw [if_pos hw]; refine .inl ?_; unfold Oper.wp; rw [hrun]; exact h
theorem sl_skip (hw : Region.wanted o (yielded ops a.tmps) = false) (h : wpList P ops Q rest (a.put o.dst undef) w) : wpList P ops Q (o :: rest) a w := by
 unfold wpList; rw [if_neg (by rw [hw]; decide)]; exact h
theorem sl_go (hS : St w0 M w) (hw : Region.wanted o (yielded ops a.tmps) = true) {v : Value} {f : FuncId} {args : Array Value} (hrun : ∀ w, (execOp a.eval o).run P w = .ok (.enter f args) w) (hc : Calls P f args w fun e w' => e = .returned v ∧ Gr w w') (h : ∀ w', St w0 M w' → wpList P ops Q rest (a.put o.dst v) w') : wpList P ops Q (o :: rest) a w := by
 unfold wpList; rw [if_pos hw]; refine .inl ?_; unfold Oper.wp; rw [hrun]
 exact hc.mono fun e w' ⟨he, hg⟩ => by subst he; exact h w' (hS.grow hg)
theorem run_ar {b : BinOp} {k : IntKind} {t t' : TypeId} {x y : Operand} {m n z : Int} (ho : o.op = .binOp b t x y t') (hx : a.eval x = .int k m) (hy : a.eval y = .int k n) (hb : b = .add ∨ b = .sub ∨ b = .mul)
  (hz : k.wrap (if b = .add then m + n else if b = .sub then m - n else m * n) = z) (w : World) : (execOp a.eval o).run P w = .ok (.value (.int k z)) w := by
 unfold execOp
 rcases hb with rfl | rfl | rfl <;> simp_all [eqGuard, binOp, Op.intArith]
theorem run_add {k : IntKind} {t t' : TypeId} {x y : Operand} {m n z : Int} (ho : o.op = .binOp .add t x y t') (hx : a.eval x = .int k m) (hy : a.eval y = .int k n) (hz : k.wrap (m + n) = z) (w : World) : (execOp a.eval o).run P w = .ok (.value (.int k z)) w := by
 unfold execOp; simp [ho, hx, hy, eqGuard, binOp, Op.intArith, hz]
theorem run_sub {k : IntKind} {t t' : TypeId} {x y : Operand} {m n z : Int} (ho : o.op = .binOp .sub t x y t') (hx : a.eval x = .int k m) (hy : a.eval y = .int k n) (hz : k.wrap (m - n) = z) (w : World) : (execOp a.eval o).run P w = .ok (.value (.int k z)) w := by
 unfold execOp; simp [ho, hx, hy, eqGuard, binOp, Op.intArith, hz]
theorem run_mul {k : IntKind} {t t' : TypeId} {x y : Operand} {m n z : Int} (ho : o.op = .binOp .mul t x y t') (hx : a.eval x = .int k m) (hy : a.eval y = .int k n) (hz : k.wrap (m * n) = z) (w : World) : (execOp a.eval o).run P w = .ok (.value (.int k z)) w := by
 unfold execOp; simp [ho, hx, hy, eqGuard, binOp, Op.intArith, hz]
theorem run_rem {k : IntKind} {t t' : TypeId} {x y : Operand} {m n z : Int} (ho : o.op = .binOp .rem t x y t') (hx : a.eval x = .int k m) (hy : a.eval y = .int k n) (hn : n ≠ 0) (hz : m.tmod n = z) (w : World) : (execOp a.eval o).run P w = .ok (.value (.int k z)) w := by
 unfold execOp; simp [ho, hx, hy, eqGuard, binOp, Op.intDiv, hz, hn]
theorem run_quo {k : IntKind} {t t' : TypeId} {x y : Operand} {m n z : Int} (ho : o.op = .binOp .quo t x y t') (hx : a.eval x = .int k m) (hy : a.eval y = .int k n) (hn : n ≠ 0) (hz : k.wrap (m.tdiv n) = z) (w : World) : (execOp a.eval o).run P w = .ok (.value (.int k z)) w := by
 unfold execOp; simp [ho, hx, hy, eqGuard, binOp, Op.intDiv, hz, hn]
theorem run_shl {k k' : IntKind} {t t' : TypeId} {x y : Operand} {m n z : Int} (ho : o.op = .binOp .shl t x y t') (hx : a.eval x = .int k m) (hy : a.eval y = .int k' n) (hn : 0 ≤ n) (hz : k.wrap (m * 2 ^ (min n.toNat k.bits)) = z) (w : World) : (execOp a.eval o).run P w = .ok (.value (.int k z)) w := by
 unfold execOp; simp [ho, hx, hy, eqGuard, binOp, Op.shift, hz, Int.not_lt.2 hn]
theorem run_shr {k k' : IntKind} {t t' : TypeId} {x y : Operand} {m n z : Int} (ho : o.op = .binOp .shr t x y t') (hx : a.eval x = .int k m) (hy : a.eval y = .int k' n) (hn : 0 ≤ n) (hz : m.fdiv (2 ^ (min n.toNat k.bits)) = z) (w : World) : (execOp a.eval o).run P w = .ok (.value (.int k z)) w := by
 unfold execOp; simp [ho, hx, hy, eqGuard, binOp, Op.shift, hz, Int.not_lt.2 hn]
theorem run_conv {k k' : IntKind} {s d : TypeId} {x : Operand} {m z : Int} (ho : o.op = .convert s d x) (hx : a.eval x = .int k m) {ds : TypeDesc} (hs : P.underlying s = some ds) (hd : P.underlying d = some (.int k')) (hz : k'.wrap m = z) (w : World) : (execOp a.eval o).run P w = .ok (.value (.int k' z)) w := by
 unfold execOp; simp [ho, hx, convert, run_underlying hs, run_underlying hd, Conv.intToInt, Result.andThen, hz]
theorem run_eql {k : IntKind} {t t' : TypeId} {x y : Operand} {m n : Int} {z : Bool} (ho : o.op = .binOp .eql t x y t') (hx : a.eval x = .int k m) (hy : a.eval y = .int k n) (hz : (m == n) = z) (w : World) : (execOp a.eval o).run P w = .ok (.value (.bool z)) w := by
 unfold execOp; subst hz; simp [ho, hx, hy, eqGuard, binOp, Op.intCmp]
theorem run_neq' {k : IntKind} {t t' : TypeId} {x y : Operand} {m n : Int} {z : Bool} (ho : o.op = .binOp .neq t x y t') (hx : a.eval x = .int k m) (hy : a.eval y = .int k n) (hz : (m != n) = z) (w : World) : (execOp a.eval o).run P w = .ok (.value (.bool z)) w := by
 unfold execOp; subst hz; simp [ho, hx, hy, eqGuard, binOp, Op.intCmp]
theorem run_lss {k : IntKind} {t t' : TypeId} {x y : Operand} {m n : Int} {z : Bool} (ho : o.op = .binOp .lss t x y t') (hx : a.eval x = .int k m) (hy : a.eval y = .int k n) (hz : decide (m < n) = z) (w : World) : (execOp a.eval o).run P w = .ok (.value (.bool z)) w := by
 unfold execOp; subst hz; simp [ho, hx, hy, eqGuard, binOp, Op.intCmp]
theorem run_leq {k : IntKind} {t t' : TypeId} {x y : Operand} {m n : Int} {z : Bool} (ho : o.op = .binOp .leq t x y t') (hx : a.eval x = .int k m) (hy : a.eval y = .int k n) (hz : decide (m ≤ n) = z) (w : World) : (execOp a.eval o).run P w = .ok (.value (.bool z)) w := by
 unfold execOp; subst hz; simp [ho, hx, hy, eqGuard, binOp, Op.intCmp]
theorem run_gtr {k : IntKind} {t t' : TypeId} {x y : Operand} {m n : Int} {z : Bool} (ho : o.op = .binOp .gtr t x y t') (hx : a.eval x = .int k m) (hy : a.eval y = .int k n) (hz : decide (n < m) = z) (w : World) : (execOp a.eval o).run P w = .ok (.value (.bool z)) w := by
 unfold execOp; subst hz; simp [ho, hx, hy, eqGuard, binOp, Op.intCmp]
theorem run_geq {k : IntKind} {t t' : TypeId} {x y : Operand} {m n : Int} {z : Bool} (ho : o.op = .binOp .geq t x y t') (hx : a.eval x = .int k m) (hy : a.eval y = .int k n) (hz : decide (n ≤ m) = z) (w : World) : (execOp a.eval o).run P w = .ok (.value (.bool z)) w := by
 unfold execOp; subst hz; simp [ho, hx, hy, eqGuard, binOp, Op.intCmp]
theorem results_tmp_cell {fn : Func} {p q : Tmp} {ty : TypeId} (h : fn.results = #[.tmp q, .cell p ty]) (tmps : Array Value) (w : World) (g : Nat) (t : TypeId) (cs : Array Value) (fr : Nat × Nat) (d : TypeDesc)
  (hp : tmps.getD p undef = .pointer (some ⟨g, 0, none⟩)) (hg : w.heap[g]? = some (.cells cs t fr))
  (hu : P.underlying ty = some d) (hd : (match d with | .struct _ | .array _ _ => true | _ => false) = true) (hi : (P.info? ty).map (·.size) = some cs.size) :
  (results fn tmps).run P w = .ok (.tuple #[tmps.getD q undef, .agg cs]) w := by
 have hp' : tmps[p]?.getD undef = .pointer (some ⟨g, 0, none⟩) := by simpa using hp
 simp [results, h, hp', asAddr, run_loadVar_row w g t ty cs fr d hg hu hd hi]
theorem sl_ret2r {fn : Func} {R : Ending → World → Prop} {p q : Tmp} {ty : TypeId} {b : Nat} {c : Array Value} {t : TypeId} {d : TypeDesc} (hS : St w0 M w) (hr : fn.results = #[.tmp q, .cell p ty]) (hx : a.tmps.getD p undef = .pointer (some ⟨b, 0, none⟩)) (hm : Has M b c t)
  (hu : P.underlying ty = some d) (hd : (match d with | .struct _ | .array _ _ => true | _ => false) = true) (hi : (P.info? ty).map (·.size) = some c.size) (hdf : a.defers = []) (hR : R (.returned (.tuple #[a.tmps.getD q undef, .agg c])) w) : bodyPost P fn R .ret a w :=
 bodyPost_ret (results_tmp_cell hr a.tmps w b t c (0, 0) d hx (hS.row hm) hu hd hi) hdf hR
theorem sl_nil (h : Q .normal a w) : wpList P ops Q [] a w := h
end
end Go.Proofs.Ytjoalcaooccbiaa
/- Pair -/
namespace Go.Proofs.Ytjoalcaooccbiaa
open Go.RowKit VecM
theorem lanes_bd (v : Int) : 0 ≤ lanesI v ∧ lanesI v ≤ 16 := by
 unfold lanesI; repeat' split
 all_goals omega
set_option maxHeartbeats 1000000 in
theorem of_lanes (v : Int) (b off cap len L : Nat) (hL : lanesI v = (L : Int)) (hcase : L ≤ len) (zs : Nat → Int) (w : World) (hl : len ≤ 9223372036854775807) (hc : ∀ j, j < len → w.cell? ⟨b, off + j, none⟩ = some (.int .u64 (zs j))) :
  Calls Try.prog 73 #[.int .i64 v, .slice (some ⟨b, off, none⟩) len cap] w fun e w' => e = .returned (.agg (bs (ofK (fun _ => 0) v zs L))) ∧ Gr w w' := by
 have HC := Lib.hid hc
 have hb : L ≤ 16 := by have := lanes_bd v; omega
 have hcon : ∀ w, Calls Try.prog 37 #[.int .i64 v] w fun e w' => e = .returned (.int .i64 (L : Int)) ∧ w = w' := by rw [← hL]; exact lanes_any v
 have HK := Lib.hid hcon
 clear hL hcon hc
 go_enter Try.func73, Try.ntmps73
 go_wp2_with (go_at_call 37; refine (HK.out _).mono ?_; rintro e w' ⟨rfl, rfl⟩)
 go_loopw [12] (fun i wr => ∃ k : Nat, k ≤ L ∧ i = .int .i64 k ∧ Gr w wr ∧ wr.heap[w.heap.size + 1]? = some (.cells (bs (ofK (fun _ => 0) v zs k)) 40 (0, 0)) ∧ wr.heap[w.heap.size]? = some (.cells (bs fun _ => 0) 40 (0, 0))) (fun i _ => L - (intOf i).toNat)
 case atStart => exact ⟨0, by omega, rfl, ((Gr.refl _).alloc _ _).alloc _ _, heap_alloc2_new w _ _, heap_alloc2_old w _ _⟩
 case round =>
  obtain ⟨k, hk, rfl, hg, hv, hr⟩ := hrel
  have HG := Lib.hid hg
  have HV := Lib.hid hv
  have HR := Lib.hid hr
  clear hg hv hr
  by_cases hlt : k < L
  ·have hkl : k < len := by omega
   go_upto_region 5 with (fail)
   refine wp_region_steady_tail 8 (by kernel_rfl) (by kernel_rfl) ?_
   simp only [List.take_succ_cons, List.take_zero, List.drop_succ_cons, List.drop_zero]
   refine steady_step (fun K hK => ?_)
   refine steady_load_row rfl 40 _ rfl (w.heap.size + 1) rfl 40 (bs (ofK (fun _ => 0) v zs k)) (0, 0) _ HV.out Try.underlying40 rfl infoV ?_
   go_simp; refine hK _ ?_; clear hK K
   iterate 5 (refine steady_step (fun K hK => ?_); apply steady_op rfl; (focus (intro wx hw; go_simp; exact ⟨rfl, hw⟩)); go_simp; refine hK _ ?_; clear hK K)
   have hcell := gr_cell (gr_trans HG.out (Gr.drew (Gr.refl _))) (HC.out k (by omega))
   refine steady_step (fun K hK => ?_)
   apply steady_op rfl
   ·intro wx hw; have hcx := gr_cell hw hcell; go_simp; exact ⟨rfl, hw⟩
   go_simp; refine hK _ ?_; clear hK K
   refine steady_step (fun K hK => ?_)
   apply steady_op rfl
   ·intro wx hw; go_simp; exact (set_any _ v k (zs k) wx).mono fun e w3 h => ⟨h.1, gr_trans hw h.2⟩
   go_simp; refine hK _ ?_; clear hK K
   refine steady_nil ?_
   intro w1 hg1
   have hs1 := Lib.hid (gr_block hg1 HV.out)
   have hs0 := Lib.hid (gr_block hg1 HR.out)
   refine wpList_store_row rfl 40 _ _ rfl (w.heap.size + 1) (bs (setI (ofK (fun _ => 0) v zs k) v k (zs k))) rfl rfl 40 (bs (ofK (fun _ => 0) v zs k)) hs1.out infoV rfl (bs_one _) ?_
   have hs2 := Lib.hid (setRow_block (c := bs (setI (ofK (fun _ => 0) v zs k) v k (zs k))) hs1.out)
   have hs3 := Lib.hid ((setRow_block_other (w := w1) (c := bs (setI (ofK (fun _ => 0) v zs k) v k (zs k))) (show w.heap.size ≠ w.heap.size + 1 by omega)).trans hs0.out)
   have hgg := Lib.hid (gr_setRow (gr_trans (Gr.drew HG.out) hg1) (g := w.heap.size + 1) (by omega) (bs (setI (ofK (fun _ => 0) v zs k) v k (zs k))))
   clear hs0 hs1 hg1 hcell
   go_wp2
   exact ⟨⟨k + 1, by omega, by go_num, hgg.out, hs2.out, hs3.out⟩, by simp [intOf]; omega⟩
  ·go_upto_region 7 with (fail)
   obtain rfl : L = k := by omega
   refine wp_region_lit ?_
   refine wpList_load_row rfl 40 _ rfl (w.heap.size + 1) rfl 40 (bs (ofK (fun _ => 0) v zs L)) (0, 0) _ HV.out Try.underlying40 rfl infoV ?_
   refine wpList_store_row rfl 40 _ _ rfl w.heap.size (bs (ofK (fun _ => 0) v zs L)) rfl rfl 40 (bs fun _ => 0) HR.out infoV rfl (bs_one _) ?_
   have hs2 := Lib.hid (setRow_block (c := bs (ofK (fun _ => 0) v zs L)) HR.out)
   have hgg := Lib.hid (gr_setRow HG.out (g := w.heap.size) (by omega) (bs (ofK (fun _ => 0) v zs L)))
   go_wp2
   exact bodyPost_ret (v := .agg (bs (ofK (fun _ => 0) v zs L))) (results_cell_row Try.results73 _ _ w.heap.size 40 _ (0, 0) _ rfl hs2.out Try.underlying40 rfl infoV) rfl ⟨rfl, hgg.out⟩
set_option maxHeartbeats 1000000 in
theorem of_len (v : Int) (b off cap len L : Nat) (hL : lanesI v = (L : Int)) (hcase : len < L) (zs : Nat → Int) (w : World) (hl : len ≤ 9223372036854775807) (hc : ∀ j, j < len → w.cell? ⟨b, off + j, none⟩ = some (.int .u64 (zs j))) :
  Calls Try.prog 73 #[.int .i64 v, .slice (some ⟨b, off, none⟩) len cap] w fun e w' => e = .returned (.agg (bs (ofK (fun _ => 0) v zs len))) ∧ Gr w w' := by
 have HC := Lib.hid hc
 have hb : L ≤ 16 := by have := lanes_bd v; omega
 have hcon : ∀ w, Calls Try.prog 37 #[.int .i64 v] w fun e w' => e = .returned (.int .i64 (L : Int)) ∧ w = w' := by rw [← hL]; exact lanes_any v
 have HK := Lib.hid hcon
 clear hL hcon hc
 go_enter Try.func73, Try.ntmps73
 go_wp2_with (go_at_call 37; refine (HK.out _).mono ?_; rintro e w' ⟨rfl, rfl⟩)
 go_loopw [12] (fun i wr => ∃ k : Nat, k ≤ len ∧ i = .int .i64 k ∧ Gr w wr ∧ wr.heap[w.heap.size + 1]? = some (.cells (bs (ofK (fun _ => 0) v zs k)) 40 (0, 0)) ∧ wr.heap[w.heap.size]? = some (.cells (bs fun _ => 0) 40 (0, 0))) (fun i _ => len - (intOf i).toNat)
 case atStart => exact ⟨0, by omega, rfl, ((Gr.refl _).alloc _ _).alloc _ _, heap_alloc2_new w _ _, heap_alloc2_old w _ _⟩
 case round =>
  obtain ⟨k, hk, rfl, hg, hv, hr⟩ := hrel
  have HG := Lib.hid hg
  have HV := Lib.hid hv
  have HR := Lib.hid hr
  clear hg hv hr
  by_cases hlt : k < len
  ·have hkl : k < len := by omega
   go_upto_region 5 with (fail)
   refine wp_region_steady_tail 8 (by kernel_rfl) (by kernel_rfl) ?_
   simp only [List.take_succ_cons, List.take_zero, List.drop_succ_cons, List.drop_zero]
   refine steady_step (fun K hK => ?_)
   refine steady_load_row rfl 40 _ rfl (w.heap.size + 1) rfl 40 (bs (ofK (fun _ => 0) v zs k)) (0, 0) _ HV.out Try.underlying40 rfl infoV ?_
   go_simp; refine hK _ ?_; clear hK K
   iterate 5 (refine steady_step (fun K hK => ?_); apply steady_op rfl; (focus (intro wx hw; go_simp; exact ⟨rfl, hw⟩)); go_simp; refine hK _ ?_; clear hK K)
   have hcell := gr_cell (gr_trans HG.out (Gr.drew (Gr.refl _))) (HC.out k (by omega))
   refine steady_step (fun K hK => ?_)
   apply steady_op rfl
   ·intro wx hw; have hcx := gr_cell hw hcell; go_simp; exact ⟨rfl, hw⟩
   go_simp; refine hK _ ?_; clear hK K
   refine steady_step (fun K hK => ?_)
   apply steady_op rfl
   ·intro wx hw; go_simp; exact (set_any _ v k (zs k) wx).mono fun e w3 h => ⟨h.1, gr_trans hw h.2⟩
   go_simp; refine hK _ ?_; clear hK K
   refine steady_nil ?_
   intro w1 hg1
   have hs1 := Lib.hid (gr_block hg1 HV.out)
   have hs0 := Lib.hid (gr_block hg1 HR.out)
   refine wpList_store_row rfl 40 _ _ rfl (w.heap.size + 1) (bs (setI (ofK (fun _ => 0) v zs k) v k (zs k))) rfl rfl 40 (bs (ofK (fun _ => 0) v zs k)) hs1.out infoV rfl (bs_one _) ?_
   have hs2 := Lib.hid (setRow_block (c := bs (setI (ofK (fun _ => 0) v zs k) v k (zs k))) hs1.out)
   have hs3 := Lib.hid ((setRow_block_other (w := w1) (c := bs (setI (ofK (fun _ => 0) v zs k) v k (zs k))) (show w.heap.size ≠ w.heap.size + 1 by omega)).trans hs0.out)
   have hgg := Lib.hid (gr_setRow (gr_trans (Gr.drew HG.out) hg1) (g := w.heap.size + 1) (by omega) (bs (setI (ofK (fun _ => 0) v zs k) v k (zs k))))
   clear hs0 hs1 hg1 hcell
   go_wp2
   exact ⟨⟨k + 1, by omega, by go_num, hgg.out, hs2.out, hs3.out⟩, by simp [intOf]; omega⟩
  ·go_upto_region 7 with (fail)
   obtain rfl : len = k := by omega
   refine wp_region_lit ?_
   refine wpList_load_row rfl 40 _ rfl (w.heap.size + 1) rfl 40 (bs (ofK (fun _ => 0) v zs len)) (0, 0) _ HV.out Try.underlying40 rfl infoV ?_
   refine wpList_store_row rfl 40 _ _ rfl w.heap.size (bs (ofK (fun _ => 0) v zs len)) rfl rfl 40 (bs fun _ => 0) HR.out infoV rfl (bs_one _) ?_
   have hs2 := Lib.hid (setRow_block (c := bs (ofK (fun _ => 0) v zs len)) HR.out)
   have hgg := Lib.hid (gr_setRow HG.out (g := w.heap.size) (by omega) (bs (ofK (fun _ => 0) v zs len)))
   go_wp2
   exact bodyPost_ret (v := .agg (bs (ofK (fun _ => 0) v zs len))) (results_cell_row Try.results73 _ _ w.heap.size 40 _ (0, 0) _ rfl hs2.out Try.underlying40 rfl infoV) rfl ⟨rfl, hgg.out⟩
def U64s (w : World) (sv : Value) (len : Nat) (zs : Nat → Int) : Prop :=
 (len = 0 ∧ ∃ x c, sv = .slice x 0 c) ∨ (len ≤ 9223372036854775807 ∧ ∃ b off cap, sv = .slice (some ⟨b, off, none⟩) len cap ∧ ∀ j, j < len → w.cell? ⟨b, off + j, none⟩ = some (.int .u64 (zs j)))
theorem u64s_gr {w w' : World} {sv : Value} {len : Nat} {zs : Nat → Int} (h : U64s w sv len zs) (hg : Gr w w') : U64s w' sv len zs := by
 rcases h with h | ⟨hl, b, off, cap, rfl, hc⟩
 ·exact .inl h
 ·exact .inr ⟨hl, b, off, cap, rfl, fun j hj => gr_cell hg (hc j hj)⟩
set_option maxHeartbeats 1000000 in
theorem of_nil (v : Int) (L : Nat) (hL : lanesI v = (L : Int)) (x : Option Addr) (c : Nat) (w : World) :
  Calls Try.prog 73 #[.int .i64 v, .slice x 0 c] w fun e w' => e = .returned (.agg (bs fun _ => 0)) ∧ Gr w w' := by
 have hcon : ∀ w, Calls Try.prog 37 #[.int .i64 v] w fun e w' => e = .returned (.int .i64 (L : Int)) ∧ w = w' := by rw [← hL]; exact lanes_any v
 have HK := Lib.hid hcon
 clear hL hcon
 by_cases hz : 0 < L
 ·go_enter Try.func73, Try.ntmps73
  go_wp2_with (go_at_call 37; refine (HK.out _).mono ?_; rintro e w' ⟨rfl, rfl⟩)
  refine wp_loop_rounds 1 ?_
  rw [rounds_succ]
  go_upto_region 7 with (fail)
  refine wp_region_lit ?_
  refine wpList_load_row rfl 40 _ rfl (w.heap.size + 1) rfl 40 (bs fun _ => 0) (0, 0) _ (heap_alloc2_new w _ _) Try.underlying40 rfl infoV ?_
  refine wpList_store_row rfl 40 _ _ rfl w.heap.size (bs fun _ => 0) rfl rfl 40 (bs fun _ => 0) (heap_alloc2_old w _ _) infoV rfl (bs_one _) ?_
  have hs2 := Lib.hid (setRow_block (c := bs fun _ => 0) (heap_alloc2_old w (.cells (bs fun _ => 0) 40) (.cells (bs fun _ => 0) 40)))
  have hgg := Lib.hid (gr_setRow (((Gr.refl w).alloc (bs fun _ => 0) 40).alloc (bs fun _ => 0) 40) (g := w.heap.size) (by omega) (bs fun _ => 0))
  go_wp2
  exact bodyPost_ret (v := .agg (bs fun _ => 0)) (results_cell_row Try.results73 _ _ w.heap.size 40 _ (0, 0) _ rfl hs2.out Try.underlying40 rfl infoV) rfl ⟨rfl, hgg.out⟩
 ·obtain rfl : L = 0 := by omega
  go_enter Try.func73, Try.ntmps73
  go_wp2_with (go_at_call 37; refine (HK.out _).mono ?_; rintro e w' ⟨rfl, rfl⟩)
  refine wp_loop_rounds 1 ?_
  rw [rounds_succ]
  go_upto_region 7 with (fail)
  refine wp_region_lit ?_
  refine wpList_load_row rfl 40 _ rfl (w.heap.size + 1) rfl 40 (bs fun _ => 0) (0, 0) _ (heap_alloc2_new w _ _) Try.underlying40 rfl infoV ?_
  refine wpList_store_row rfl 40 _ _ rfl w.heap.size (bs fun _ => 0) rfl rfl 40 (bs fun _ => 0) (heap_alloc2_old w _ _) infoV rfl (bs_one _) ?_
  have hs2 := Lib.hid (setRow_block (c := bs fun _ => 0) (heap_alloc2_old w (.cells (bs fun _ => 0) 40) (.cells (bs fun _ => 0) 40)))
  have hgg := Lib.hid (gr_setRow (((Gr.refl w).alloc (bs fun _ => 0) 40).alloc (bs fun _ => 0) 40) (g := w.heap.size) (by omega) (bs fun _ => 0))
  go_wp2
  exact bodyPost_ret (v := .agg (bs fun _ => 0)) (results_cell_row Try.results73 _ _ w.heap.size 40 _ (0, 0) _ rfl hs2.out Try.underlying40 rfl infoV) rfl ⟨rfl, hgg.out⟩
def ofN (v : Int) (len : Nat) : Nat := min (lanesI v).toNat len
theorem of_any (v : Int) (sv : Value) (len : Nat) (zs : Nat → Int) (w : World) (h : U64s w sv len zs) :
  Calls Try.prog 73 #[.int .i64 v, sv] w fun e w' => e = .returned (.agg (bs (ofK (fun _ => 0) v zs (ofN v len)))) ∧ Gr w w' := by
 have hb := lanes_bd v
 obtain ⟨L, hL⟩ : ∃ L : Nat, lanesI v = L := ⟨(lanesI v).toNat, by omega⟩
 have e : ofN v len = min L len := by unfold ofN; rw [hL, Int.toNat_natCast]
 rw [e]
 rcases h with ⟨rfl, x, c, rfl⟩ | ⟨hl, b, off, cap, rfl, hc⟩
 ·rw [Nat.min_zero]; exact of_nil v L hL x c w
 ·by_cases hc2 : L ≤ len
  ·rw [Nat.min_eq_left hc2]; exact of_lanes v b off cap len L hL hc2 zs w hl hc
  ·rw [Nat.min_eq_right (by omega)]; exact of_len v b off cap len L hL (by omega) zs w hl hc
theorem infoH : (Try.prog.info? 42).map (·.size) = some 2 := by kernel_rfl
set_option maxHeartbeats 1000000 in
theorem split_any (b : Nat → Int) (hb : Byt b) (w : World) :
  Calls Try.prog 11 #[.agg (bs b)] w fun e w' => e = .returned (.agg #[.int .u64 (getI b 64 0), .int .u64 (getI b 64 1)]) ∧ Gr w w' := by
 have HB := Lib.hid hb
 clear hb
 go_enter Try.func11, Try.ntmps11
 go_upto_region 1 with (fail)
 refine wp_region_steady_tail 5 (by kernel_rfl) (by kernel_rfl) ?_
 simp only [List.take_succ_cons, List.take_zero, List.drop_succ_cons, List.drop_zero]
 refine steady_step (fun K hK => ?_)
 refine steady_load_row rfl 40 _ rfl w.heap.size rfl 40 (bs b) (0, 0) _ (heap_alloc2_old w _ _) Try.underlying40 rfl infoV ?_
 go_simp; refine hK _ ?_; clear hK K
 refine steady_step (fun K hK => ?_)
 apply steady_op rfl
 ·intro wx hw; go_simp; exact (get_any b HB.out 64 0 wx).mono fun e w3 h => ⟨h.1, gr_trans hw h.2⟩
 go_simp; refine hK _ ?_; clear hK K
 refine steady_step (fun K hK => ?_)
 refine steady_load_row rfl 40 _ rfl w.heap.size rfl 40 (bs b) (0, 0) _ (heap_alloc2_old w _ _) Try.underlying40 rfl infoV ?_
 go_simp; refine hK _ ?_; clear hK K
 refine steady_step (fun K hK => ?_)
 apply steady_op rfl
 ·intro wx hw; go_simp; exact (get_any b HB.out 64 1 wx).mono fun e w3 h => ⟨h.1, gr_trans hw h.2⟩
 go_simp; refine hK _ ?_; clear hK K
 refine steady_step (fun K hK => ?_)
 refine steady_build rfl 42 _ rfl #[.int .u64 (getI b 64 0), .int .u64 (getI b 64 1)] (by kernel_rfl) ?_
 go_simp; refine hK _ ?_; clear hK K
 refine steady_nil ?_
 intro w1 hg
 have hg2 := gr_trans (Gr.drew ((((Gr.refl w).alloc _ _).alloc _ _))) hg
 refine wpList_store_row rfl 42 _ _ rfl (w.heap.size + 1) #[.int .u64 (getI b 64 0), .int .u64 (getI b 64 1)] rfl rfl 42 #[.int .u64 0, .int .u64 0] (gr_block hg (heap_alloc2_new w _ _)) infoH rfl (by kernel_rfl) ?_
 have hs := setRow_block (c := #[.int .u64 (getI b 64 0), .int .u64 (getI b 64 1)]) (gr_block hg (heap_alloc2_new w _ _))
 have HS := Lib.hid hs
 have HG := Lib.hid (gr_setRow hg2 (g := w.heap.size + 1) (by omega) #[.int .u64 (getI b 64 0), .int .u64 (getI b 64 1)])
 clear hs hg2 hg
 go_wp2
 exact bodyPost_ret (v := .agg #[.int .u64 (getI b 64 0), .int .u64 (getI b 64 1)]) (results_cell_row Try.results11 _ _ (w.heap.size + 1) 42 _ (0, 0) _ rfl HS.out Try.underlying42 rfl infoH) rfl ⟨rfl, HG.out⟩
theorem heap3n (w : World) (a b c : Obj) : (((w.alloc a).alloc b).alloc c).heap[w.heap.size + 2]? = some c := by
 have h := heap_alloc_new ((w.alloc a).alloc b) c
 rwa [show ((w.alloc a).alloc b).heap.size = w.heap.size + 2 by show ((w.heap.push a).push b).size = _; simp] at h
theorem cell3 (w : World) (a b : Obj) (c : Array Value) (t : TypeId) (j : Nat) : (((w.alloc a).alloc b).alloc (.cells c t)).cell? ⟨w.heap.size + 2, j, none⟩ = c[j]? :=
 cell_of_row _ _ j _ _ _ (heap3n w a b _)
theorem heap3 (w : World) (a b c : Obj) : (((w.alloc a).alloc b).alloc c).heap[w.heap.size + 1]? = some b := by
 have hlt : w.heap.size + 1 < ((w.alloc a).alloc b).heap.size := by show _ < ((w.heap.push a).push b).size; simp
 exact (heap_alloc_old _ _ hlt).trans (heap_alloc2_new w a b)
set_option maxHeartbeats 1000000 in
theorem join_any (lo hi : Int) (w : World) :
  Calls Try.prog 89 #[.agg #[.int .u64 lo, .int .u64 hi]] w fun e w' => e = .returned (.agg (bs (ofK (fun _ => 0) 64 (fun j => if j = 0 then lo else hi) 2))) ∧ Gr w w' := by
 go_enter Try.func89, Try.ntmps89
 go_wp2_with fail
 refine (of_any 64 _ 2 (fun j => if j = 0 then lo else hi) _ (.inr ⟨by decide, w.heap.size + 2, 0, 2, rfl, fun j hj => ?_⟩)).mono ?_
 ·match j, hj with
  | 0, _ => exact cell3 _ _ _ _ _ 0
  | 1, _ => exact cell3 _ _ _ _ _ 1
 rintro e w1 ⟨he, hg⟩
 rw [show ofN 64 2 = 2 from rfl] at he
 subst he
 simp only []
 rename_i hK
 refine hK _ _ ?_
 clear hK
 have hs := Lib.hid (gr_block hg (heap3 w _ _ _))
 have hgg := Lib.hid (gr_trans ((((Gr.refl w).alloc _ _).alloc _ _).alloc _ _) hg)
 clear hg
 refine wpList_store_row rfl 40 _ _ rfl (w.heap.size + 1) (bs (ofK (fun _ => 0) 64 (fun j => if j = 0 then lo else hi) 2)) rfl rfl 40 (bs fun _ => 0) hs.out infoV rfl (bs_one _) ?_
 have hs2 := Lib.hid (setRow_block (c := bs (ofK (fun _ => 0) 64 (fun j => if j = 0 then lo else hi) 2)) hs.out)
 have hg2 := Lib.hid (gr_setRow hgg.out (g := w.heap.size + 1) (by omega) (bs (ofK (fun _ => 0) 64 (fun j => if j = 0 then lo else hi) 2)))
 show wpList _ _ _ _ _ (w1.setRow (w.heap.size + 1) (bs (ofK (fun _ => 0) 64 (fun j => if j = 0 then lo else hi) 2)))
 go_wp2
 exact bodyPost_ret (v := .agg (bs (ofK (fun _ => 0) 64 (fun j => if j = 0 then lo else hi) 2))) (results_cell_row Try.results89 _ _ (w.heap.size + 1) 40 _ (0, 0) _ rfl hs2.out Try.underlying40 rfl infoV) rfl ⟨rfl, hg2.out⟩
end Go.Proofs.Ytjoalcaooccbiaa
/- MvSh -/
namespace Go.Proofs.Ytjoalcaooccbiaa
open Go.RowKit VecM
namespace Mv
def spW (op : Int) : Int := if op = 64783 then 8 else if op = 64784 then 16 else if op = 64785 then 32 else if op = 64786 then 64 else 0
def exW (op : Int) : Int := if op = 64789 then 8 else if op = 64790 then 8 else if op = 64792 then 16 else if op = 64793 then 16 else if op = 64795 then 32 else if op = 64797 then 64 else 0
def exS (op : Int) : Bool := decide (op = 64789) || decide (op = 64792)
def reW (op : Int) : Int := if op = 64791 then 8 else if op = 64794 then 16 else if op = 64796 then 32 else if op = 64798 then 64 else 0
theorem spW_cases (op : Int) : spW op = 0 ∨ spW op = 8 ∨ spW op = 16 ∨ spW op = 32 ∨ spW op = 64 := by
 unfold spW; repeat' split
 all_goals omega
theorem exW_cases (op : Int) : exW op = 0 ∨ exW op = 8 ∨ exW op = 16 ∨ exW op = 32 ∨ exW op = 64 := by
 unfold exW; repeat' split
 all_goals omega
theorem reW_cases (op : Int) : reW op = 0 ∨ reW op = 8 ∨ reW op = 16 ∨ reW op = 32 ∨ reW op = 64 := by
 unfold reW; repeat' split
 all_goals omega
theorem splatW_any (op : Int) (ho : -9223372036854775808 ≤ op ∧ op ≤ 9223372036854775807) (w : World) : Calls Try.prog 55 #[.int .i64 op] w fun e w' => e = .returned (.int .i64 (spW op)) ∧ w = w' := by
 by_cases h : op = 64783 ∨ op = 64784 ∨ op = 64785 ∨ op = 64786
 ·clear ho
  rcases h with rfl | rfl | rfl | rfl
  all_goals
   go_enter Try.func55, Try.ntmps55
   go_wp2
   go_ret
   exact ⟨rfl, rfl⟩
 ·have e : spW op = 0 := by unfold spW; rw [if_neg (by omega), if_neg (by omega), if_neg (by omega), if_neg (by omega)]
  rw [e]
  have h' : op < 64783 ∨ 64786 < op := by omega
  clear h e
  rcases h' with h | h
  all_goals
   go_enter Try.func55, Try.ntmps55
   go_wp2
   go_ret
   exact ⟨rfl, rfl⟩
theorem exW_any (op : Int) (w : World) : Calls Try.prog 57 #[.int .i64 op] w fun e w' => e = .returned (.tuple #[.int .i64 (exW op), .bool (exS op)]) ∧ w = w' := by
 by_cases h : op = 64789 ∨ op = 64790 ∨ op = 64792 ∨ op = 64793 ∨ op = 64795 ∨ op = 64797
 ·rcases h with rfl | rfl | rfl | rfl | rfl | rfl
  all_goals
   go_enter Try.func57, Try.ntmps57
   go_wp2
   go_ret2
   exact ⟨rfl, rfl⟩
 ·have e : exW op = 0 := by unfold exW; rw [if_neg (by omega)]; rw [if_neg (by omega)]; rw [if_neg (by omega)]; rw [if_neg (by omega)]; rw [if_neg (by omega)]; rw [if_neg (by omega)]
  have e2 : exS op = false := by unfold exS; rw [decide_eq_false (by omega), decide_eq_false (by omega)]; rfl
  rw [e, e2]
  clear e e2
  have h0 : (op == 64789) = false := beq_eq_false_iff_ne.2 (by omega)
  have h1 : (op == 64790) = false := beq_eq_false_iff_ne.2 (by omega)
  have h2 : (op == 64792) = false := beq_eq_false_iff_ne.2 (by omega)
  have h3 : (op == 64793) = false := beq_eq_false_iff_ne.2 (by omega)
  have h4 : (op == 64795) = false := beq_eq_false_iff_ne.2 (by omega)
  have h5 : (op == 64797) = false := beq_eq_false_iff_ne.2 (by omega)
  clear h
  go_enter Try.func57, Try.ntmps57
  go_wp2
  go_ret2
  exact ⟨rfl, rfl⟩
theorem reW_any (op : Int) (w : World) : Calls Try.prog 56 #[.int .i64 op] w fun e w' => e = .returned (.int .i64 (reW op)) ∧ w = w' := by
 by_cases h : op = 64791 ∨ op = 64794 ∨ op = 64796 ∨ op = 64798
 ·rcases h with rfl | rfl | rfl | rfl
  all_goals
   go_enter Try.func56, Try.ntmps56
   go_wp2
   go_ret
   exact ⟨rfl, rfl⟩
 ·have e : reW op = 0 := by unfold reW; rw [if_neg (by omega)]; rw [if_neg (by omega)]; rw [if_neg (by omega)]; rw [if_neg (by omega)]
  rw [e]
  clear e
  have h0 : (op == 64791) = false := beq_eq_false_iff_ne.2 (by omega)
  have h1 : (op == 64794) = false := beq_eq_false_iff_ne.2 (by omega)
  have h2 : (op == 64796) = false := beq_eq_false_iff_ne.2 (by omega)
  have h3 : (op == 64798) = false := beq_eq_false_iff_ne.2 (by omega)
  clear h
  go_enter Try.func56, Try.ntmps56
  go_wp2
  go_ret
  exact ⟨rfl, rfl⟩
end Mv
end Go.Proofs.Ytjoalcaooccbiaa
/- Sig -/
namespace Go.Proofs.Ytjoalcaooccbiaa
open Go.RowKit VecM
def sg (v : Int) (g : Int) : Int := if 2 ^ (v.toNat - 1) ≤ g then g - 2 ^ v.toNat else g
def sgnI (b : Nat → Int) (v i : Int) : Int := if thereB v i then sg v (getI b v i) else 0
theorem sgn_8 (g : Int) (h0 : 0 ≤ g) (h1 : g < 256 ^ wid 8) : wrap64 (IntKind.u64.wrap (g * 72057594037927936)) / 72057594037927936 = sg 8 g := by
 rw [wid8] at h1
 rw [IntKind.wrap_u64]
 unfold wrap64 sg
 rw [show ((2 : Int) ^ (((8 : Int)).toNat - 1)) = 128 by decide, show ((2 : Int) ^ ((8 : Int)).toNat) = 256 by decide]
 by_cases hc : (128 : Int) ≤ g
 ·rw [if_pos hc]; omega
 ·rw [if_neg hc]; omega
set_option maxHeartbeats 400000 in
theorem signed_8 (b : Nat → Int) (hb : Byt b) (i : Int) (h : thereB 8 i = true) (w : World) :
  Calls Try.prog 39 #[.agg (bs b), .int .i64 8, .int .i64 i] w fun e w' => e = .returned (.int .i64 (sg 8 (getI b 8 i))) ∧ Gr w w' := by
 have hgb := getI_bd hb 8 i
 rw [← sgn_8 _ hgb.1 hgb.2]
 have C := get_any b hb 8 i
 have HC := Lib.hid C
 clear C hb hgb
 generalize getI b 8 i = g at *
 go_enter Try.func39, Try.ntmps39
 go_upto_region 4 with (go_at_call 78; refine (there_any _ _ _).mono ?_; rintro e w' ⟨rfl, rfl⟩)
 refine wp_region_lit ?_
 refine wpList_load_row rfl 40 _ rfl w.heap.size rfl 40 (bs b) (0, 0) _ (heap_alloc_new w _) Try.underlying40 rfl infoV ?_
 go_wp2_with (go_at_call 35; refine (HC.out _).mono ?_; rintro e w1 ⟨rfl, hg⟩)
 go_ret
 exact ⟨rfl, gr_trans ((Gr.refl _).alloc _ _) hg⟩
theorem sgn_16 (g : Int) (h0 : 0 ≤ g) (h1 : g < 256 ^ wid 16) : wrap64 (IntKind.u64.wrap (g * 281474976710656)) / 281474976710656 = sg 16 g := by
 rw [wid16] at h1
 rw [IntKind.wrap_u64]
 unfold wrap64 sg
 rw [show ((2 : Int) ^ (((16 : Int)).toNat - 1)) = 32768 by decide, show ((2 : Int) ^ ((16 : Int)).toNat) = 65536 by decide]
 by_cases hc : (32768 : Int) ≤ g
 ·rw [if_pos hc]; omega
 ·rw [if_neg hc]; omega
set_option maxHeartbeats 400000 in
theorem signed_16 (b : Nat → Int) (hb : Byt b) (i : Int) (h : thereB 16 i = true) (w : World) :
  Calls Try.prog 39 #[.agg (bs b), .int .i64 16, .int .i64 i] w fun e w' => e = .returned (.int .i64 (sg 16 (getI b 16 i))) ∧ Gr w w' := by
 have hgb := getI_bd hb 16 i
 rw [← sgn_16 _ hgb.1 hgb.2]
 have C := get_any b hb 16 i
 have HC := Lib.hid C
 clear C hb hgb
 generalize getI b 16 i = g at *
 go_enter Try.func39, Try.ntmps39
 go_upto_region 4 with (go_at_call 78; refine (there_any _ _ _).mono ?_; rintro e w' ⟨rfl, rfl⟩)
 refine wp_region_lit ?_
 refine wpList_load_row rfl 40 _ rfl w.heap.size rfl 40 (bs b) (0, 0) _ (heap_alloc_new w _) Try.underlying40 rfl infoV ?_
 go_wp2_with (go_at_call 35; refine (HC.out _).mono ?_; rintro e w1 ⟨rfl, hg⟩)
 go_ret
 exact ⟨rfl, gr_trans ((Gr.refl _).alloc _ _) hg⟩
theorem sgn_32 (g : Int) (h0 : 0 ≤ g) (h1 : g < 256 ^ wid 32) : wrap64 (IntKind.u64.wrap (g * 4294967296)) / 4294967296 = sg 32 g := by
 rw [wid32] at h1
 rw [IntKind.wrap_u64]
 unfold wrap64 sg
 rw [show ((2 : Int) ^ (((32 : Int)).toNat - 1)) = 2147483648 by decide, show ((2 : Int) ^ ((32 : Int)).toNat) = 4294967296 by decide]
 by_cases hc : (2147483648 : Int) ≤ g
 ·rw [if_pos hc]; omega
 ·rw [if_neg hc]; omega
set_option maxHeartbeats 400000 in
theorem signed_32 (b : Nat → Int) (hb : Byt b) (i : Int) (h : thereB 32 i = true) (w : World) :
  Calls Try.prog 39 #[.agg (bs b), .int .i64 32, .int .i64 i] w fun e w' => e = .returned (.int .i64 (sg 32 (getI b 32 i))) ∧ Gr w w' := by
 have hgb := getI_bd hb 32 i
 rw [← sgn_32 _ hgb.1 hgb.2]
 have C := get_any b hb 32 i
 have HC := Lib.hid C
 clear C hb hgb
 generalize getI b 32 i = g at *
 go_enter Try.func39, Try.ntmps39
 go_upto_region 4 with (go_at_call 78; refine (there_any _ _ _).mono ?_; rintro e w' ⟨rfl, rfl⟩)
 refine wp_region_lit ?_
 refine wpList_load_row rfl 40 _ rfl w.heap.size rfl 40 (bs b) (0, 0) _ (heap_alloc_new w _) Try.underlying40 rfl infoV ?_
 go_wp2_with (go_at_call 35; refine (HC.out _).mono ?_; rintro e w1 ⟨rfl, hg⟩)
 go_ret
 exact ⟨rfl, gr_trans ((Gr.refl _).alloc _ _) hg⟩
theorem sgn_64 (g : Int) (h0 : 0 ≤ g) (h1 : g < 256 ^ wid 64) : wrap64 (IntKind.u64.wrap g) = sg 64 g := by
 rw [wid64] at h1
 rw [IntKind.wrap_u64]
 unfold wrap64 sg
 rw [show ((2 : Int) ^ (((64 : Int)).toNat - 1)) = 9223372036854775808 by decide, show ((2 : Int) ^ ((64 : Int)).toNat) = 18446744073709551616 by decide]
 by_cases hc : (9223372036854775808 : Int) ≤ g
 ·rw [if_pos hc]; omega
 ·rw [if_neg hc]; omega
set_option maxHeartbeats 400000 in
theorem signed_64 (b : Nat → Int) (hb : Byt b) (i : Int) (h : thereB 64 i = true) (w : World) :
  Calls Try.prog 39 #[.agg (bs b), .int .i64 64, .int .i64 i] w fun e w' => e = .returned (.int .i64 (sg 64 (getI b 64 i))) ∧ Gr w w' := by
 have hgb := getI_bd hb 64 i
 rw [← sgn_64 _ hgb.1 hgb.2]
 have C := get_any b hb 64 i
 have HC := Lib.hid C
 clear C hb hgb
 generalize getI b 64 i = g at *
 go_enter Try.func39, Try.ntmps39
 go_upto_region 4 with (go_at_call 78; refine (there_any _ _ _).mono ?_; rintro e w' ⟨rfl, rfl⟩)
 refine wp_region_lit ?_
 refine wpList_load_row rfl 40 _ rfl w.heap.size rfl 40 (bs b) (0, 0) _ (heap_alloc_new w _) Try.underlying40 rfl infoV ?_
 go_wp2_with (go_at_call 35; refine (HC.out _).mono ?_; rintro e w1 ⟨rfl, hg⟩)
 go_ret
 exact ⟨rfl, gr_trans ((Gr.refl _).alloc _ _) hg⟩
theorem signed_any (b : Nat → Int) (hb : Byt b) (v i : Int) (w : World) :
  Calls Try.prog 39 #[.agg (bs b), .int .i64 v, .int .i64 i] w fun e w' => e = .returned (.int .i64 (sgnI b v i)) ∧ Gr w w' := by
 by_cases h : thereB v i = true
 ·rw [show sgnI b v i = sg v (getI b v i) by unfold sgnI; rw [if_pos h]]
  rcases there_cases h with ⟨rfl, _, h1⟩ | ⟨rfl, _, h1⟩ | ⟨rfl, _, h1⟩ | ⟨rfl, _, h1⟩
  ·exact signed_8 b hb i h w
  ·exact signed_16 b hb i h w
  ·exact signed_32 b hb i h w
  ·exact signed_64 b hb i h w
 ·rw [show sgnI b v i = 0 by unfold sgnI; rw [if_neg h]]
  have h' : thereB v i = false := by simpa using h
  clear h
  go_enter Try.func39, Try.ntmps39
  go_wp2_with (go_at_call 78; refine (there_any _ _ _).mono ?_; rintro e w' ⟨rfl, rfl⟩)
  go_ret
  exact ⟨rfl, (Gr.refl _).alloc _ _⟩
end Go.Proofs.Ytjoalcaooccbiaa
/- MvEx -/
namespace Go.Proofs.Ytjoalcaooccbiaa
open Go.RowKit VecM
namespace Mv
set_option maxRecDepth 100000 in
theorem lanes_nat (v : Int) : lanesI v = ((lanesI v).toNat : Int) ∧ (lanesI v).toNat ≤ 16 := by
 have := lanes_bd v
 omega
set_option maxRecDepth 100000 in
theorem lanes0 : lanesI 0 = 0 := by decide
def splV (v x : Int) : Nat → Int := ofK (fun _ => 0) v (fun _ => x) (lanesI v).toNat
set_option maxHeartbeats 2000000 in
set_option maxRecDepth 100000 in
theorem splat_any (op x : Int) (ho : -9223372036854775808 ≤ op ∧ op ≤ 9223372036854775807) (w : World) : Calls Try.prog 20 #[.int .i64 op, .int .u64 x] w fun e w' => e = .returned (.tuple #[.agg (bs (splV (spW op) x)), .int .i64 (if spW op = 0 then 1 else 0)]) ∧ Gr w w' := by
 have CR := fun w => splatW_any op ho w
 obtain ⟨hL, h16⟩ := lanes_nat (spW op)
 unfold splV
 clear ho
 generalize spW op = v at *
 by_cases h0 : v = 0
 ·subst h0
  have XCR := Lib.hid CR
  clear CR hL h16
  rw [lanes0]
  have hS := St.start w
  go_enter Try.func20, Try.ntmps20
  go_upto_region 3 with (first | (refine ldV hS rfl _ rfl rfl ?_) | (refine stV hS rfl _ _ rfl rfl rfl ?_; clear hS; intro wk hS) | (refine sl_box hS rfl _ 40 (box_vec rfl rfl) ?_; clear hS; intro bk wk hS) | (refine sl_box hS rfl _ 40 (alloc_vec rfl) ?_; clear hS; intro bk wk hS) | (refine onlyN_end ?_) | (refine onlyN_now ?_) | ((go_at_call 55); (with_reducible refine (XCR.out _).mono ?_); rintro _ _ ⟨rfl, rfl⟩))
  refine wp_region_lit ?_
  refine wpList_build_at rfl 40 _ rfl (bs fun _ => 0) (by first | (simp only [List.map_toArray, List.map_nil]; kernel_rfl) | (simp only [Array.map_empty]; kernel_rfl)) ?_
  go_wp2_with (first | (refine ldV hS rfl _ rfl rfl ?_) | (refine stV hS rfl _ _ rfl rfl rfl ?_; clear hS; intro wk hS) | (refine sl_box hS rfl _ 40 (box_vec rfl rfl) ?_; clear hS; intro bk wk hS) | (refine sl_box hS rfl _ 40 (alloc_vec rfl) ?_; clear hS; intro bk wk hS) | (refine onlyN_end ?_) | (refine onlyN_now ?_))
  refine sl_ret2 hS Try.results20 (by rfl) (by repeat (first | exact Has.hd | apply Has.tl)) Try.underlying40 rfl (by exact infoV) (by rfl) ?_
  exact ⟨rfl, hS.gr⟩
 ·have hv0 : (v == 0) = false := beq_eq_false_iff_ne.2 h0
  rw [if_neg h0]
  have CL : ∀ w, Calls Try.prog 37 #[.int .i64 v] w fun e w' => e = .returned (.int .i64 ((lanesI v).toNat : Int)) ∧ Gr w w' := fun w => by rw [← hL]; exact calls_gr (lanes_any v w)
  clear h0 hL
  generalize (lanesI v).toNat = L at *
  have hS := St.start w
  have XCR := Lib.hid CR
  clear CR
  have XCL := Lib.hid CL
  clear CL
  go_enter Try.func20, Try.ntmps20
  go_upto_region 0 with (fail)
  refine wp_region_lit ?_
  refine sl_box hS rfl _ 40 (alloc_vec rfl) ?_
  clear hS
  intro r wk hS
  go_wp2_with (first | (refine ldV hS rfl _ rfl rfl ?_) | (refine stV hS rfl _ _ rfl rfl rfl ?_; clear hS; intro wk hS) | (refine sl_box hS rfl _ 40 (box_vec rfl rfl) ?_; clear hS; intro bk wk hS) | (refine sl_box hS rfl _ 40 (alloc_vec rfl) ?_; clear hS; intro t wk hS) | (refine onlyN_end ?_) | (refine onlyN_now ?_) | ((go_at_call 55); (with_reducible refine (XCR.out _).mono ?_); rintro _ _ ⟨rfl, rfl⟩) | ((go_at_call 37); (with_reducible refine sl_call hS (XCL.out _) ?_); clear hS; intro wk hS))
  go_loopw [16] (fun u wr => ∃ k : Nat, k ≤ L ∧ u = .int .i64 k ∧ St w [⟨t, bs (ofK (fun _ => 0) v (fun _ => x) k), 40⟩, ⟨r, bs (fun _ => 0), 40⟩] wr) (fun u _ => L - (intOf u).toNat)
  case atStart => exact ⟨0, by omega, rfl, hS⟩
  case round =>
   obtain ⟨k, hk, rfl, hS⟩ := hrel
   by_cases hlt : k < L
   ·have E6 := fun w => set_any (ofK (fun _ => 0) v (fun _ => x) k) v k x w
    have HM := Lib.hid (show ofK (fun _ => 0) v (fun _ => x) (k + 1) = setI (ofK (fun _ => 0) v (fun _ => x) k) v k x from rfl)
    generalize hc0 : ofK (fun _ => 0) v (fun _ => x) k = c0 at *
    have XE6 := Lib.hid E6
    clear E6
    have Xhc0 := Lib.hid hc0
    clear hc0
    go_wp2_with (first | (refine ldV hS rfl _ rfl rfl ?_) | (refine stV hS rfl _ _ rfl rfl rfl ?_; clear hS; intro wk hS) | (refine sl_box hS rfl _ 40 (box_vec rfl rfl) ?_; clear hS; intro bk wk hS) | (refine sl_box hS rfl _ 40 (alloc_vec rfl) ?_; clear hS; intro bk wk hS) | (refine onlyN_end ?_) | (refine onlyN_now ?_) | ((go_at_call 40); (with_reducible refine sl_call hS (XE6.out _) ?_); clear hS; intro wk hS))
    exact ⟨⟨k + 1, by omega, by go_num, by rw [HM.out]; exact hS⟩, by simp [intOf]; omega⟩
   ·obtain rfl : k = L := by omega
    go_wp2_with (first | (refine ldV hS rfl _ rfl rfl ?_) | (refine stV hS rfl _ _ rfl rfl rfl ?_; clear hS; intro wk hS) | (refine sl_box hS rfl _ 40 (box_vec rfl rfl) ?_; clear hS; intro bk wk hS) | (refine sl_box hS rfl _ 40 (alloc_vec rfl) ?_; clear hS; intro bk wk hS) | (refine onlyN_end ?_) | (refine onlyN_now ?_))
    refine sl_ret2 hS Try.results20 (by rfl) (by repeat (first | exact Has.hd | apply Has.tl)) Try.underlying40 rfl (by exact infoV) (by rfl) ?_
    exact ⟨rfl, hS.gr⟩
set_option maxRecDepth 100000 in
theorem ret_e {a b : Int} (h : a = b) : Ending.returned (.tuple #[.int .u64 a, .int .i64 0]) = .returned (.tuple #[.int .u64 b, .int .i64 0]) := by rw [h]
def exV (op lane : Int) (b : Nat → Int) : Int := if thereB (exW op) lane then (if exS op then IntKind.u32.wrap (sgnI b (exW op) lane) else getI b (exW op) lane) else 0
set_option maxHeartbeats 2000000 in
set_option maxRecDepth 100000 in
theorem extract_any (op lane : Int) (hl : -9223372036854775808 ≤ lane ∧ lane ≤ 9223372036854775807) (b : Nat → Int) (hb : Byt b) (w : World) : Calls Try.prog 22 #[.int .i64 op, .int .i64 lane, .agg (bs b)] w fun e w' => e = .returned (.tuple #[.int .u64 (exV op lane b), .int .i64 (if thereB (exW op) lane then 0 else 1)]) ∧ Gr w w' := by
 have CR := fun w => exW_any op w
 have C1 := fun w => signed_any b hb (exW op) lane w
 have C2 := fun w => get_any b hb (exW op) lane w
 have CL := fun w => lanes_any (exW op) w
 have hx : thereB (exW op) lane = true ↔ _ := there_iff
 have hsb : IntKind.u64.wrap (IntKind.u32.wrap (sgnI b (exW op) lane)) = IntKind.u32.wrap (sgnI b (exW op) lane) := by
  rw [IntKind.wrap_u64, IntKind.wrap_u32]; omega
 unfold exV
 clear hb
 generalize exS op = sgd at *
 generalize sgnI b (exW op) lane = x at *
 generalize getI b (exW op) lane = y at *
 generalize ht : thereB (exW op) lane = t at *
 generalize exW op = v at *
 generalize lanesI v = L at *
 obtain ⟨z, hz⟩ : ∃ z, z = IntKind.u32.wrap x := ⟨_, rfl⟩
 rw [← hz] at hsb
 have hsc := hsb.trans hz
 have hS := St.start w
 have C3 : ∀ w : World, (convert 2 50 (.int .i64 x)).run Try.prog w = .ok (.int .u32 z) w := fun w => by rw [hz]; rfl
 clear hz ht
 have XCR := Lib.hid CR
 clear CR
 have XC1 := Lib.hid C1
 clear C1
 have XC2 := Lib.hid C2
 clear C2
 have XCL := Lib.hid CL
 clear CL
 have Xhsb := Lib.hid hsb
 clear hsb
 have Xhsc := Lib.hid hsc
 clear hsc
 cases t
 ·have h : lane < 0 ∨ (0 ≤ lane ∧ L ≤ lane) := by
   have : ¬ (0 ≤ lane ∧ lane < L) := fun h => by have := hx.2 h; cases this
   omega
  clear hx
  rcases h with h | ⟨h, h'⟩
  all_goals
   go_enter Try.func22, Try.ntmps22
   go_wp2_with (first | (refine ldV hS rfl _ rfl rfl ?_) | (refine stV hS rfl _ _ rfl rfl rfl ?_; clear hS; intro wk hS) | (refine sl_box hS rfl _ 40 (box_vec rfl rfl) ?_; clear hS; intro bk wk hS) | (refine sl_box hS rfl _ 40 (alloc_vec rfl) ?_; clear hS; intro bk wk hS) | (refine onlyN_end ?_) | (refine onlyN_now ?_) | ((go_at_call 57); (with_reducible refine (XCR.out _).mono ?_); rintro _ _ ⟨rfl, rfl⟩) | ((go_at_call 37); (with_reducible refine (XCL.out _).mono ?_); rintro _ _ ⟨rfl, rfl⟩))
   go_ret2
   exact ⟨rfl, hS.gr⟩
 ·obtain ⟨h0, h1⟩ := hx.1 rfl
  clear hx
  cases sgd
  ·go_enter Try.func22, Try.ntmps22
   go_wp2_with (first | (refine ldV hS rfl _ rfl rfl ?_) | (refine stV hS rfl _ _ rfl rfl rfl ?_; clear hS; intro wk hS) | (refine sl_box hS rfl _ 40 (box_vec rfl rfl) ?_; clear hS; intro bk wk hS) | (refine sl_box hS rfl _ 40 (alloc_vec rfl) ?_; clear hS; intro bk wk hS) | (refine onlyN_end ?_) | (refine onlyN_now ?_) | ((go_at_call 57); (with_reducible refine (XCR.out _).mono ?_); rintro _ _ ⟨rfl, rfl⟩) | ((go_at_call 37); (with_reducible refine (XCL.out _).mono ?_); rintro _ _ ⟨rfl, rfl⟩) | ((go_at_call 35); (with_reducible refine sl_call hS (XC2.out _) ?_); clear hS; intro wk hS))
   go_ret2
   exact ⟨rfl, hS.gr⟩
  ·go_enter Try.func22, Try.ntmps22
   go_wp2_with (first | (refine ldV hS rfl _ rfl rfl ?_) | (refine stV hS rfl _ _ rfl rfl rfl ?_; clear hS; intro wk hS) | (refine sl_box hS rfl _ 40 (box_vec rfl rfl) ?_; clear hS; intro bk wk hS) | (refine sl_box hS rfl _ 40 (alloc_vec rfl) ?_; clear hS; intro bk wk hS) | (refine onlyN_end ?_) | (refine onlyN_now ?_) | ((go_at_call 57); (with_reducible refine (XCR.out _).mono ?_); rintro _ _ ⟨rfl, rfl⟩) | ((go_at_call 37); (with_reducible refine (XCL.out _).mono ?_); rintro _ _ ⟨rfl, rfl⟩) | ((go_at_call 39); (with_reducible refine sl_call hS (XC1.out _) ?_); clear hS; intro wk hS))
   go_ret2
   exact ⟨ret_e Xhsc.out, hS.gr⟩
def reV (op lane x : Int) (b : Nat → Int) : Nat → Int := if thereB (reW op) lane then setI b (reW op) lane x else fun _ => 0
set_option maxHeartbeats 2000000 in
set_option maxRecDepth 100000 in
theorem replace_any (op lane x : Int) (hl : -9223372036854775808 ≤ lane ∧ lane ≤ 9223372036854775807) (b : Nat → Int) (w : World) : Calls Try.prog 21 #[.int .i64 op, .int .i64 lane, .agg (bs b), .int .u64 x] w fun e w' => e = .returned (.tuple #[.agg (bs (reV op lane x b)), .int .i64 (if thereB (reW op) lane then 0 else 1)]) ∧ Gr w w' := by
 have CR := fun w => reW_any op w
 have C2 := fun w => set_any b (reW op) lane x w
 have CL := fun w => lanes_any (reW op) w
 have hx : thereB (reW op) lane = true ↔ _ := there_iff
 unfold reV
 generalize setI b (reW op) lane x = y at *
 generalize ht : thereB (reW op) lane = t at *
 generalize reW op = v at *
 generalize lanesI v = L at *
 have hS := St.start w
 clear ht
 have XCR := Lib.hid CR
 clear CR
 have XC2 := Lib.hid C2
 clear C2
 have XCL := Lib.hid CL
 clear CL
 cases t
 ·have h : lane < 0 ∨ (0 ≤ lane ∧ L ≤ lane) := by
   have : ¬ (0 ≤ lane ∧ lane < L) := fun h => by have := hx.2 h; cases this
   omega
  clear hx
  rcases h with h | ⟨h, h'⟩
  all_goals
   go_enter Try.func21, Try.ntmps21
   go_upto_region 3 with (first | (refine ldV hS rfl _ rfl rfl ?_) | (refine stV hS rfl _ _ rfl rfl rfl ?_; clear hS; intro wk hS) | (refine sl_box hS rfl _ 40 (box_vec rfl rfl) ?_; clear hS; intro bk wk hS) | (refine sl_box hS rfl _ 40 (alloc_vec rfl) ?_; clear hS; intro bk wk hS) | (refine onlyN_end ?_) | (refine onlyN_now ?_) | ((go_at_call 56); (with_reducible refine (XCR.out _).mono ?_); rintro _ _ ⟨rfl, rfl⟩) | ((go_at_call 37); (with_reducible refine (XCL.out _).mono ?_); rintro _ _ ⟨rfl, rfl⟩))
   refine wp_region_lit ?_
   refine wpList_build_at rfl 40 _ rfl (bs fun _ => 0) (by first | (simp only [List.map_toArray, List.map_nil]; kernel_rfl) | (simp only [Array.map_empty]; kernel_rfl)) ?_
   go_wp2_with (first | (refine ldV hS rfl _ rfl rfl ?_) | (refine stV hS rfl _ _ rfl rfl rfl ?_; clear hS; intro wk hS) | (refine sl_box hS rfl _ 40 (box_vec rfl rfl) ?_; clear hS; intro bk wk hS) | (refine sl_box hS rfl _ 40 (alloc_vec rfl) ?_; clear hS; intro bk wk hS) | (refine onlyN_end ?_) | (refine onlyN_now ?_))
   refine sl_ret2 hS Try.results21 (by rfl) (by repeat (first | exact Has.hd | apply Has.tl)) Try.underlying40 rfl (by exact infoV) (by rfl) ?_
   exact ⟨rfl, hS.gr⟩
 ·obtain ⟨h0, h1⟩ := hx.1 rfl
  clear hx
  go_enter Try.func21, Try.ntmps21
  go_wp2_with (first | (refine ldV hS rfl _ rfl rfl ?_) | (refine stV hS rfl _ _ rfl rfl rfl ?_; clear hS; intro wk hS) | (refine sl_box hS rfl _ 40 (box_vec rfl rfl) ?_; clear hS; intro bk wk hS) | (refine sl_box hS rfl _ 40 (alloc_vec rfl) ?_; clear hS; intro bk wk hS) | (refine onlyN_end ?_) | (refine onlyN_now ?_) | ((go_at_call 56); (with_reducible refine (XCR.out _).mono ?_); rintro _ _ ⟨rfl, rfl⟩) | ((go_at_call 37); (with_reducible refine (XCL.out _).mono ?_); rintro _ _ ⟨rfl, rfl⟩) | ((go_at_call 40); (with_reducible refine sl_call hS (XC2.out _) ?_); clear hS; intro wk hS))
  refine sl_ret2 hS Try.results21 (by rfl) (by repeat (first | exact Has.hd | apply Has.tl)) Try.underlying40 rfl (by exact infoV) (by rfl) ?_
  exact ⟨rfl, hS.gr⟩
end Mv
end Go.Proofs.Ytjoalcaooccbiaa
/- ArShP -/
namespace Go.Proofs.Ytjoalcaooccbiaa
open Go.RowKit VecM
namespace Ar
def hasB (w k : Int) : Bool :=
 if k = 0 ∨ k = 1 ∨ k = 11 ∨ k = 12 ∨ k = 13 ∨ k = 14 ∨ k = 17 then true else if k = 2 then w == 8
 else if k = 15 ∨ k = 16 ∨ k = 18 ∨ k = 19 ∨ k = 27 then decide (w ≤ 16) else if k = 21 then decide (16 ≤ w)
 else if k = 22 ∨ k = 23 ∨ k = 24 ∨ k = 25 then decide (w ≤ 32) else false
theorem hasB_0 (w : Int) : hasB w 0 = (true) := by simp [hasB]
theorem has_0 (w : Int) (W : World) : Calls Try.prog 79 #[.int .i64 w, .int .i64 0] W fun e w' => e = .returned (.bool (hasB w 0)) ∧ W = w' := by
 rw [hasB_0]
 go_enter Try.func79, Try.ntmps79
 go_wp2
 go_ret
 exact ⟨rfl, rfl⟩
theorem hasB_1 (w : Int) : hasB w 1 = (true) := by simp [hasB]
theorem has_1 (w : Int) (W : World) : Calls Try.prog 79 #[.int .i64 w, .int .i64 1] W fun e w' => e = .returned (.bool (hasB w 1)) ∧ W = w' := by
 rw [hasB_1]
 go_enter Try.func79, Try.ntmps79
 go_wp2
 go_ret
 exact ⟨rfl, rfl⟩
theorem hasB_2 (w : Int) : hasB w 2 = (w == 8) := by simp [hasB]
theorem has_2 (w : Int) (W : World) : Calls Try.prog 79 #[.int .i64 w, .int .i64 2] W fun e w' => e = .returned (.bool (hasB w 2)) ∧ W = w' := by
 rw [hasB_2]
 go_enter Try.func79, Try.ntmps79
 go_wp2
 go_ret
 exact ⟨rfl, rfl⟩
theorem hasB_3 (w : Int) : hasB w 3 = (false) := by simp [hasB]
theorem has_3 (w : Int) (W : World) : Calls Try.prog 79 #[.int .i64 w, .int .i64 3] W fun e w' => e = .returned (.bool (hasB w 3)) ∧ W = w' := by
 rw [hasB_3]
 go_enter Try.func79, Try.ntmps79
 go_wp2
 go_ret
 exact ⟨rfl, rfl⟩
theorem hasB_4 (w : Int) : hasB w 4 = (false) := by simp [hasB]
theorem has_4 (w : Int) (W : World) : Calls Try.prog 79 #[.int .i64 w, .int .i64 4] W fun e w' => e = .returned (.bool (hasB w 4)) ∧ W = w' := by
 rw [hasB_4]
 go_enter Try.func79, Try.ntmps79
 go_wp2
 go_ret
 exact ⟨rfl, rfl⟩
theorem hasB_5 (w : Int) : hasB w 5 = (false) := by simp [hasB]
theorem has_5 (w : Int) (W : World) : Calls Try.prog 79 #[.int .i64 w, .int .i64 5] W fun e w' => e = .returned (.bool (hasB w 5)) ∧ W = w' := by
 rw [hasB_5]
 go_enter Try.func79, Try.ntmps79
 go_wp2
 go_ret
 exact ⟨rfl, rfl⟩
theorem hasB_6 (w : Int) : hasB w 6 = (false) := by simp [hasB]
theorem has_6 (w : Int) (W : World) : Calls Try.prog 79 #[.int .i64 w, .int .i64 6] W fun e w' => e = .returned (.bool (hasB w 6)) ∧ W = w' := by
 rw [hasB_6]
 go_enter Try.func79, Try.ntmps79
 go_wp2
 go_ret
 exact ⟨rfl, rfl⟩
theorem hasB_7 (w : Int) : hasB w 7 = (false) := by simp [hasB]
theorem has_7 (w : Int) (W : World) : Calls Try.prog 79 #[.int .i64 w, .int .i64 7] W fun e w' => e = .returned (.bool (hasB w 7)) ∧ W = w' := by
 rw [hasB_7]
 go_enter Try.func79, Try.ntmps79
 go_wp2
 go_ret
 exact ⟨rfl, rfl⟩
theorem hasB_8 (w : Int) : hasB w 8 = (false) := by simp [hasB]
theorem has_8 (w : Int) (W : World) : Calls Try.prog 79 #[.int .i64 w, .int .i64 8] W fun e w' => e = .returned (.bool (hasB w 8)) ∧ W = w' := by
 rw [hasB_8]
 go_enter Try.func79, Try.ntmps79
 go_wp2
 go_ret
 exact ⟨rfl, rfl⟩
theorem hasB_9 (w : Int) : hasB w 9 = (false) := by simp [hasB]
theorem has_9 (w : Int) (W : World) : Calls Try.prog 79 #[.int .i64 w, .int .i64 9] W fun e w' => e = .returned (.bool (hasB w 9)) ∧ W = w' := by
 rw [hasB_9]
 go_enter Try.func79, Try.ntmps79
 go_wp2
 go_ret
 exact ⟨rfl, rfl⟩
theorem hasB_10 (w : Int) : hasB w 10 = (false) := by simp [hasB]
theorem has_10 (w : Int) (W : World) : Calls Try.prog 79 #[.int .i64 w, .int .i64 10] W fun e w' => e = .returned (.bool (hasB w 10)) ∧ W = w' := by
 rw [hasB_10]
 go_enter Try.func79, Try.ntmps79
 go_wp2
 go_ret
 exact ⟨rfl, rfl⟩
theorem hasB_11 (w : Int) : hasB w 11 = (true) := by simp [hasB]
theorem has_11 (w : Int) (W : World) : Calls Try.prog 79 #[.int .i64 w, .int .i64 11] W fun e w' => e = .returned (.bool (hasB w 11)) ∧ W = w' := by
 rw [hasB_11]
 go_enter Try.func79, Try.ntmps79
 go_wp2
 go_ret
 exact ⟨rfl, rfl⟩
theorem hasB_12 (w : Int) : hasB w 12 = (true) := by simp [hasB]
theorem has_12 (w : Int) (W : World) : Calls Try.prog 79 #[.int .i64 w, .int .i64 12] W fun e w' => e = .returned (.bool (hasB w 12)) ∧ W = w' := by
 rw [hasB_12]
 go_enter Try.func79, Try.ntmps79
 go_wp2
 go_ret
 exact ⟨rfl, rfl⟩
theorem hasB_13 (w : Int) : hasB w 13 = (true) := by simp [hasB]
theorem has_13 (w : Int) (W : World) : Calls Try.prog 79 #[.int .i64 w, .int .i64 13] W fun e w' => e = .returned (.bool (hasB w 13)) ∧ W = w' := by
 rw [hasB_13]
 go_enter Try.func79, Try.ntmps79
 go_wp2
 go_ret
 exact ⟨rfl, rfl⟩
theorem hasB_14 (w : Int) : hasB w 14 = (true) := by simp [hasB]
theorem has_14 (w : Int) (W : World) : Calls Try.prog 79 #[.int .i64 w, .int .i64 14] W fun e w' => e = .returned (.bool (hasB w 14)) ∧ W = w' := by
 rw [hasB_14]
 go_enter Try.func79, Try.ntmps79
 go_wp2
 go_ret
 exact ⟨rfl, rfl⟩
theorem hasB_15 (w : Int) : hasB w 15 = (decide (w ≤ 16)) := by simp [hasB]
theorem has_15 (w : Int) (W : World) : Calls Try.prog 79 #[.int .i64 w, .int .i64 15] W fun e w' => e = .returned (.bool (hasB w 15)) ∧ W = w' := by
 rw [hasB_15]
 go_enter Try.func79, Try.ntmps79
 go_wp2
 go_ret
 exact ⟨rfl, rfl⟩
theorem hasB_16 (w : Int) : hasB w 16 = (decide (w ≤ 16)) := by simp [hasB]
theorem has_16 (w : Int) (W : World) : Calls Try.prog 79 #[.int .i64 w, .int .i64 16] W fun e w' => e = .returned (.bool (hasB w 16)) ∧ W = w' := by
 rw [hasB_16]
 go_enter Try.func79, Try.ntmps79
 go_wp2
 go_ret
 exact ⟨rfl, rfl⟩
theorem hasB_17 (w : Int) : hasB w 17 = (true) := by simp [hasB]
theorem has_17 (w : Int) (W : World) : Calls Try.prog 79 #[.int .i64 w, .int .i64 17] W fun e w' => e = .returned (.bool (hasB w 17)) ∧ W = w' := by
 rw [hasB_17]
 go_enter Try.func79, Try.ntmps79
 go_wp2
 go_ret
 exact ⟨rfl, rfl⟩
theorem hasB_18 (w : Int) : hasB w 18 = (decide (w ≤ 16)) := by simp [hasB]
theorem has_18 (w : Int) (W : World) : Calls Try.prog 79 #[.int .i64 w, .int .i64 18] W fun e w' => e = .returned (.bool (hasB w 18)) ∧ W = w' := by
 rw [hasB_18]
 go_enter Try.func79, Try.ntmps79
 go_wp2
 go_ret
 exact ⟨rfl, rfl⟩
theorem hasB_19 (w : Int) : hasB w 19 = (decide (w ≤ 16)) := by simp [hasB]
theorem has_19 (w : Int) (W : World) : Calls Try.prog 79 #[.int .i64 w, .int .i64 19] W fun e w' => e = .returned (.bool (hasB w 19)) ∧ W = w' := by
 rw [hasB_19]
 go_enter Try.func79, Try.ntmps79
 go_wp2
 go_ret
 exact ⟨rfl, rfl⟩
theorem hasB_20 (w : Int) : hasB w 20 = (false) := by simp [hasB]
theorem has_20 (w : Int) (W : World) : Calls Try.prog 79 #[.int .i64 w, .int .i64 20] W fun e w' => e = .returned (.bool (hasB w 20)) ∧ W = w' := by
 rw [hasB_20]
 go_enter Try.func79, Try.ntmps79
 go_wp2
 go_ret
 exact ⟨rfl, rfl⟩
theorem hasB_21 (w : Int) : hasB w 21 = (decide (16 ≤ w)) := by simp [hasB]
theorem has_21 (w : Int) (W : World) : Calls Try.prog 79 #[.int .i64 w, .int .i64 21] W fun e w' => e = .returned (.bool (hasB w 21)) ∧ W = w' := by
 rw [hasB_21]
 go_enter Try.func79, Try.ntmps79
 go_wp2
 go_ret
 exact ⟨rfl, rfl⟩
theorem hasB_22 (w : Int) : hasB w 22 = (decide (w ≤ 32)) := by simp [hasB]
theorem has_22 (w : Int) (W : World) : Calls Try.prog 79 #[.int .i64 w, .int .i64 22] W fun e w' => e = .returned (.bool (hasB w 22)) ∧ W = w' := by
 rw [hasB_22]
 go_enter Try.func79, Try.ntmps79
 go_wp2
 go_ret
 exact ⟨rfl, rfl⟩
theorem hasB_23 (w : Int) : hasB w 23 = (decide (w ≤ 32)) := by simp [hasB]
theorem has_23 (w : Int) (W : World) : Calls Try.prog 79 #[.int .i64 w, .int .i64 23] W fun e w' => e = .returned (.bool (hasB w 23)) ∧ W = w' := by
 rw [hasB_23]
 go_enter Try.func79, Try.ntmps79
 go_wp2
 go_ret
 exact ⟨rfl, rfl⟩
theorem hasB_24 (w : Int) : hasB w 24 = (decide (w ≤ 32)) := by simp [hasB]
theorem has_24 (w : Int) (W : World) : Calls Try.prog 79 #[.int .i64 w, .int .i64 24] W fun e w' => e = .returned (.bool (hasB w 24)) ∧ W = w' := by
 rw [hasB_24]
 go_enter Try.func79, Try.ntmps79
 go_wp2
 go_ret
 exact ⟨rfl, rfl⟩
theorem hasB_25 (w : Int) : hasB w 25 = (decide (w ≤ 32)) := by simp [hasB]
theorem has_25 (w : Int) (W : World) : Calls Try.prog 79 #[.int .i64 w, .int .i64 25] W fun e w' => e = .returned (.bool (hasB w 25)) ∧ W = w' := by
 rw [hasB_25]
 go_enter Try.func79, Try.ntmps79
 go_wp2
 go_ret
 exact ⟨rfl, rfl⟩
theorem hasB_26 (w : Int) : hasB w 26 = (false) := by simp [hasB]
theorem has_26 (w : Int) (W : World) : Calls Try.prog 79 #[.int .i64 w, .int .i64 26] W fun e w' => e = .returned (.bool (hasB w 26)) ∧ W = w' := by
 rw [hasB_26]
 go_enter Try.func79, Try.ntmps79
 go_wp2
 go_ret
 exact ⟨rfl, rfl⟩
theorem hasB_27 (w : Int) : hasB w 27 = (decide (w ≤ 16)) := by simp [hasB]
theorem has_27 (w : Int) (W : World) : Calls Try.prog 79 #[.int .i64 w, .int .i64 27] W fun e w' => e = .returned (.bool (hasB w 27)) ∧ W = w' := by
 rw [hasB_27]
 go_enter Try.func79, Try.ntmps79
 go_wp2
 go_ret
 exact ⟨rfl, rfl⟩
theorem hasB_28 (w : Int) : hasB w 28 = (false) := by simp [hasB]
theorem has_28 (w : Int) (W : World) : Calls Try.prog 79 #[.int .i64 w, .int .i64 28] W fun e w' => e = .returned (.bool (hasB w 28)) ∧ W = w' := by
 rw [hasB_28]
 go_enter Try.func79, Try.ntmps79
 go_wp2
 go_ret
 exact ⟨rfl, rfl⟩
theorem hasB_29 (w : Int) : hasB w 29 = (false) := by simp [hasB]
theorem has_29 (w : Int) (W : World) : Calls Try.prog 79 #[.int .i64 w, .int .i64 29] W fun e w' => e = .returned (.bool (hasB w 29)) ∧ W = w' := by
 rw [hasB_29]
 go_enter Try.func79, Try.ntmps79
 go_wp2
 go_ret
 exact ⟨rfl, rfl⟩
theorem hasB_30 (w : Int) : hasB w 30 = (false) := by simp [hasB]
theorem has_30 (w : Int) (W : World) : Calls Try.prog 79 #[.int .i64 w, .int .i64 30] W fun e w' => e = .returned (.bool (hasB w 30)) ∧ W = w' := by
 rw [hasB_30]
 go_enter Try.func79, Try.ntmps79
 go_wp2
 go_ret
 exact ⟨rfl, rfl⟩
theorem hasB_31 (w : Int) : hasB w 31 = (false) := by simp [hasB]
theorem has_31 (w : Int) (W : World) : Calls Try.prog 79 #[.int .i64 w, .int .i64 31] W fun e w' => e = .returned (.bool (hasB w 31)) ∧ W = w' := by
 rw [hasB_31]
 go_enter Try.func79, Try.ntmps79
 go_wp2
 go_ret
 exact ⟨rfl, rfl⟩
theorem has_any (w k : Int) (h0 : 0 ≤ k) (h1 : k < 32) (W : World) : Calls Try.prog 79 #[.int .i64 w, .int .i64 k] W fun e w' => e = .returned (.bool (hasB w k)) ∧ W = w' := by
 obtain rfl | rfl | rfl | rfl | rfl | rfl | rfl | rfl | rfl | rfl | rfl | rfl | rfl | rfl | rfl | rfl | rfl | rfl | rfl | rfl | rfl | rfl | rfl | rfl | rfl | rfl | rfl | rfl | rfl | rfl | rfl | rfl : k = 0 ∨ k = 1 ∨ k = 2 ∨ k = 3 ∨ k = 4 ∨ k = 5 ∨ k = 6 ∨ k = 7 ∨ k = 8 ∨ k = 9 ∨ k = 10 ∨ k = 11 ∨ k = 12 ∨ k = 13 ∨ k = 14 ∨ k = 15 ∨ k = 16 ∨ k = 17 ∨ k = 18 ∨ k = 19 ∨ k = 20 ∨ k = 21 ∨ k = 22 ∨ k = 23 ∨ k = 24 ∨ k = 25 ∨ k = 26 ∨ k = 27 ∨ k = 28 ∨ k = 29 ∨ k = 30 ∨ k = 31 := by omega
 ·exact has_0 w W
 ·exact has_1 w W
 ·exact has_2 w W
 ·exact has_3 w W
 ·exact has_4 w W
 ·exact has_5 w W
 ·exact has_6 w W
 ·exact has_7 w W
 ·exact has_8 w W
 ·exact has_9 w W
 ·exact has_10 w W
 ·exact has_11 w W
 ·exact has_12 w W
 ·exact has_13 w W
 ·exact has_14 w W
 ·exact has_15 w W
 ·exact has_16 w W
 ·exact has_17 w W
 ·exact has_18 w W
 ·exact has_19 w W
 ·exact has_20 w W
 ·exact has_21 w W
 ·exact has_22 w W
 ·exact has_23 w W
 ·exact has_24 w W
 ·exact has_25 w W
 ·exact has_26 w W
 ·exact has_27 w W
 ·exact has_28 w W
 ·exact has_29 w W
 ·exact has_30 w W
 ·exact has_31 w W
def wq (q : Int) : Int := if q = 0 then 8 else if q = 1 then 16 else if q = 2 then 32 else 64
set_option maxHeartbeats 1000000 in
theorem arith_in (op q k : Int) (hq : q = 0 ∨ q = 1 ∨ q = 2 ∨ q = 3) (h0 : 0 ≤ k) (h1 : k < 32) (e : op = 64864 + 32 * q + k) (w : World) :
  Calls Try.prog 36 #[.int .i64 op] w fun e w' => e = .returned (.tuple #[.int .i64 (if hasB (wq q) k then wq q else 0), .int .i64 (if hasB (wq q) k then k else 0)]) ∧ w = w' := by
 have C := fun w => has_any (wq q) k h0 h1 w
 have hl : 64864 ≤ op := by rcases hq with rfl | rfl | rfl | rfl <;> omega
 have hu : op ≤ 64991 := by rcases hq with rfl | rfl | rfl | rfl <;> omega
 have e1 : (op - 64864) / 32 = q := by rcases hq with rfl | rfl | rfl | rfl <;> omega
 have e2 : (op - 64864) % 32 = k := by rcases hq with rfl | rfl | rfl | rfl <;> omega
 clear e h0 h1
 rcases hq with rfl | rfl | rfl | rfl
 ·have hw : wq 0 = 8 := rfl
  rw [hw] at C ⊢
  clear hw
  generalize hasB 8 k = b at *
  have HC := Lib.hid C
  clear C
  cases b
  ·go_enter Try.func36, Try.ntmps36
   go_wp2_with (go_at_call 79; refine (HC.out _).mono ?_; rintro e w' ⟨rfl, rfl⟩)
   go_ret2
   exact ⟨rfl, rfl⟩
  ·go_enter Try.func36, Try.ntmps36
   go_wp2_with (go_at_call 79; refine (HC.out _).mono ?_; rintro e w' ⟨rfl, rfl⟩)
   go_ret2
   exact ⟨rfl, rfl⟩
 ·have hw : wq 1 = 16 := rfl
  rw [hw] at C ⊢
  clear hw
  generalize hasB 16 k = b at *
  have HC := Lib.hid C
  clear C
  cases b
  ·go_enter Try.func36, Try.ntmps36
   go_wp2_with (go_at_call 79; refine (HC.out _).mono ?_; rintro e w' ⟨rfl, rfl⟩)
   go_ret2
   exact ⟨rfl, rfl⟩
  ·go_enter Try.func36, Try.ntmps36
   go_wp2_with (go_at_call 79; refine (HC.out _).mono ?_; rintro e w' ⟨rfl, rfl⟩)
   go_ret2
   exact ⟨rfl, rfl⟩
 ·have hw : wq 2 = 32 := rfl
  rw [hw] at C ⊢
  clear hw
  generalize hasB 32 k = b at *
  have HC := Lib.hid C
  clear C
  cases b
  ·go_enter Try.func36, Try.ntmps36
   go_wp2_with (go_at_call 79; refine (HC.out _).mono ?_; rintro e w' ⟨rfl, rfl⟩)
   go_ret2
   exact ⟨rfl, rfl⟩
  ·go_enter Try.func36, Try.ntmps36
   go_wp2_with (go_at_call 79; refine (HC.out _).mono ?_; rintro e w' ⟨rfl, rfl⟩)
   go_ret2
   exact ⟨rfl, rfl⟩
 ·have hw : wq 3 = 64 := rfl
  rw [hw] at C ⊢
  clear hw
  generalize hasB 64 k = b at *
  have HC := Lib.hid C
  clear C
  cases b
  ·go_enter Try.func36, Try.ntmps36
   go_wp2_with (go_at_call 79; refine (HC.out _).mono ?_; rintro e w' ⟨rfl, rfl⟩)
   go_ret2
   exact ⟨rfl, rfl⟩
  ·go_enter Try.func36, Try.ntmps36
   go_wp2_with (go_at_call 79; refine (HC.out _).mono ?_; rintro e w' ⟨rfl, rfl⟩)
   go_ret2
   exact ⟨rfl, rfl⟩
theorem arith_out (op : Int) (h : op < 64864 ∨ 64991 < op) (w : World) :
  Calls Try.prog 36 #[.int .i64 op] w fun e w' => e = .returned (.tuple #[.int .i64 0, .int .i64 0]) ∧ w = w' := by
 rcases h with h | h
 ·go_enter Try.func36, Try.ntmps36
  go_wp2
  go_ret2
  exact ⟨rfl, rfl⟩
 ·have h' : ¬ op < 64864 := by omega
  go_enter Try.func36, Try.ntmps36
  go_wp2
  go_ret2
  exact ⟨rfl, rfl⟩
def inA (op : Int) : Bool := decide (64864 ≤ op) && decide (op ≤ 64991) && hasB (wq ((op - 64864) / 32)) ((op - 64864) % 32)
def aW (op : Int) : Int := if inA op then wq ((op - 64864) / 32) else 0
def aK (op : Int) : Int := if inA op then (op - 64864) % 32 else 0
theorem arith_any (op : Int) (w : World) :
  Calls Try.prog 36 #[.int .i64 op] w fun e w' => e = .returned (.tuple #[.int .i64 (aW op), .int .i64 (aK op)]) ∧ w = w' := by
 by_cases h : 64864 ≤ op ∧ op ≤ 64991
 ·have C := arith_in op ((op - 64864) / 32) ((op - 64864) % 32) (by omega) (by omega) (by omega) (by omega) w
  have e : inA op = hasB (wq ((op - 64864) / 32)) ((op - 64864) % 32) := by unfold inA; simp [h.1, h.2]
  unfold aW aK
  rw [e]
  exact C
 ·have e : inA op = false := by
   unfold inA
   by_cases h1 : 64864 ≤ op
   ·have h2 : ¬ op ≤ 64991 := fun h2 => h ⟨h1, h2⟩
    simp [h2]
   ·simp [h1]
  unfold aW aK
  rw [e]
  exact arith_out op (by omega) w
theorem aW_cases (op : Int) : aW op = 0 ∨ aW op = 8 ∨ aW op = 16 ∨ aW op = 32 ∨ aW op = 64 := by
 unfold aW wq
 repeat' split
 all_goals omega
theorem aK_bd (op : Int) : 0 ≤ aK op ∧ aK op < 32 := by unfold aK; split <;> omega
end Ar
end Go.Proofs.Ytjoalcaooccbiaa
/- ArLane -/
namespace Go.Proofs.Ytjoalcaooccbiaa
open Go.RowKit VecM
namespace Ar
def minI (a b : Int) : Int := if a ≤ b then a else b
def maxI (a b : Int) : Int := if a ≤ b then b else a
def holdI (n a b : Int) : Int := if n < a then a else if b < n then b else n
theorem holdI_bd (n : Int) {a b : Int} (h : a ≤ b) : a ≤ holdI n a b ∧ holdI n a b ≤ b := by
 unfold holdI
 repeat' split
 all_goals omega
theorem ret_u' {a b : Int} (h : a = b) : Ending.returned (.int .u64 a) = .returned (.int .u64 b) := by rw [h]
theorem ret_i' {a b : Int} (h : a = b) : Ending.returned (.int .i64 a) = .returned (.int .i64 b) := by rw [h]
theorem hold_any (n a b : Int) (h : a ≤ b) (w : World) : Calls Try.prog 90 #[.int .i64 n, .int .i64 a, .int .i64 b] w fun e w' => e = .returned (.int .i64 (holdI n a b)) ∧ w = w' := by
 by_cases h1 : n < a
 ·have e : holdI n a b = a := if_pos h1
  have g1 : n ≤ a := by omega
  have g2 : ¬ a ≤ n := by omega
  have HE := Lib.hid e
  clear e h1
  go_enter Try.func90, Try.ntmps90
  go_wp2
  go_ret
  exact ⟨ret_i' HE.out.symm, rfl⟩
 ·by_cases h2 : b < n
  ·have e : holdI n a b = b := by unfold holdI; rw [if_neg h1, if_pos h2]
   have g1 : a ≤ n := by omega
   have g2 : ¬ n ≤ b := by omega
   have g3 : b ≤ n := by omega
   by_cases g4 : n ≤ a
   ·omega
   ·have HE := Lib.hid e
    clear e h1 h2
    go_enter Try.func90, Try.ntmps90
    go_wp2
    go_ret
    exact ⟨ret_i' HE.out.symm, rfl⟩
  ·have e : holdI n a b = n := by unfold holdI; rw [if_neg h1, if_neg h2]
   have HE := Lib.hid e
   have g1 : a ≤ n := by omega
   have g2 : n ≤ b := by omega
   clear e h1 h2
   by_cases g4 : n ≤ a
   ·obtain rfl : n = a := by omega
    go_enter Try.func90, Try.ntmps90
    go_wp2
    all_goals
     go_ret
     exact ⟨ret_i' HE.out.symm, rfl⟩
   ·by_cases g5 : b ≤ n
    ·obtain rfl : n = b := by omega
     go_enter Try.func90, Try.ntmps90
     go_wp2
     all_goals
      go_ret
      exact ⟨ret_i' HE.out.symm, rfl⟩
    ·go_enter Try.func90, Try.ntmps90
     go_wp2
     go_ret
     exact ⟨ret_i' HE.out.symm, rfl⟩
set_option maxHeartbeats 1000000 in
theorem sat_15_8 (x y s r : Int) (_hx : 0 ≤ x ∧ x < 256) (_hy : 0 ≤ y ∧ y < 256) (hs : -128 ≤ s ∧ s < 128) (hr : -128 ≤ r ∧ r < 128) (w : World) :
  Calls Try.prog 83 #[.int .i64 15, .int .i64 8, .int .i64 x, .int .i64 y, .int .i64 s, .int .i64 r] w fun e w' => e = .returned (.int .u64 (IntKind.u64.wrap (holdI (s + r) (-128) 127))) ∧ w = w' := by
 have C := fun w => hold_any (s + r) (-128) 127 (by decide) w
 have hb := holdI_bd (s + r) (a := -128) (b := 127) (by decide)
 have HC := Lib.hid C
 clear C
 generalize holdI (s + r) (-128) 127 = z at *
 go_enter Try.func83, Try.ntmps83
 go_wp2_with (go_at_call 90; refine (HC.out _).mono ?_; rintro e w' ⟨rfl, rfl⟩)
 go_ret
 exact ⟨rfl, rfl⟩
set_option maxHeartbeats 1000000 in
theorem lane_15_8 (x y s r : Int) (_hx : 0 ≤ x ∧ x < 256) (_hy : 0 ≤ y ∧ y < 256) (hs : -128 ≤ s ∧ s < 128) (hr : -128 ≤ r ∧ r < 128) (w : World) :
  Calls Try.prog 46 #[.int .i64 15, .int .i64 8, .int .u64 x, .int .u64 y, .int .i64 s, .int .i64 r] w fun e w' => e = .returned (.int .u64 (IntKind.u64.wrap (holdI (s + r) (-128) 127))) ∧ w = w' := by
 have C := fun w => sat_15_8 x y s r _hx _hy hs hr w
 have HC := Lib.hid C
 clear C
 generalize IntKind.u64.wrap (holdI (s + r) (-128) 127) = z at *
 go_enter Try.func46, Try.ntmps46
 go_wp2_with (go_at_call 83; refine (HC.out _).mono ?_; rintro e w' ⟨rfl, rfl⟩)
 go_ret
 exact ⟨rfl, rfl⟩
set_option maxHeartbeats 1000000 in
theorem sat_16_8 (x y s r : Int) (hx : 0 ≤ x ∧ x < 256) (hy : 0 ≤ y ∧ y < 256) (_hs : -128 ≤ s ∧ s < 128) (_hr : -128 ≤ r ∧ r < 128) (w : World) :
  Calls Try.prog 83 #[.int .i64 16, .int .i64 8, .int .i64 x, .int .i64 y, .int .i64 s, .int .i64 r] w fun e w' => e = .returned (.int .u64 (holdI (x + y) (0) 255)) ∧ w = w' := by
 have C := fun w => hold_any (x + y) (0) 255 (by decide) w
 have hb := holdI_bd (x + y) (a := 0) (b := 255) (by decide)
 have HC := Lib.hid C
 clear C
 generalize holdI (x + y) (0) 255 = z at *
 go_enter Try.func83, Try.ntmps83
 go_wp2_with (go_at_call 90; refine (HC.out _).mono ?_; rintro e w' ⟨rfl, rfl⟩)
 go_ret
 exact ⟨rfl, rfl⟩
set_option maxHeartbeats 1000000 in
theorem lane_16_8 (x y s r : Int) (hx : 0 ≤ x ∧ x < 256) (hy : 0 ≤ y ∧ y < 256) (_hs : -128 ≤ s ∧ s < 128) (_hr : -128 ≤ r ∧ r < 128) (w : World) :
  Calls Try.prog 46 #[.int .i64 16, .int .i64 8, .int .u64 x, .int .u64 y, .int .i64 s, .int .i64 r] w fun e w' => e = .returned (.int .u64 (holdI (x + y) (0) 255)) ∧ w = w' := by
 have C := fun w => sat_16_8 x y s r hx hy _hs _hr w
 have HC := Lib.hid C
 clear C
 generalize holdI (x + y) (0) 255 = z at *
 go_enter Try.func46, Try.ntmps46
 go_wp2_with (go_at_call 83; refine (HC.out _).mono ?_; rintro e w' ⟨rfl, rfl⟩)
 go_ret
 exact ⟨rfl, rfl⟩
set_option maxHeartbeats 1000000 in
theorem sat_18_8 (x y s r : Int) (_hx : 0 ≤ x ∧ x < 256) (_hy : 0 ≤ y ∧ y < 256) (hs : -128 ≤ s ∧ s < 128) (hr : -128 ≤ r ∧ r < 128) (w : World) :
  Calls Try.prog 83 #[.int .i64 18, .int .i64 8, .int .i64 x, .int .i64 y, .int .i64 s, .int .i64 r] w fun e w' => e = .returned (.int .u64 (IntKind.u64.wrap (holdI (s - r) (-128) 127))) ∧ w = w' := by
 have C := fun w => hold_any (s - r) (-128) 127 (by decide) w
 have hb := holdI_bd (s - r) (a := -128) (b := 127) (by decide)
 have HC := Lib.hid C
 clear C
 generalize holdI (s - r) (-128) 127 = z at *
 go_enter Try.func83, Try.ntmps83
 go_wp2_with (go_at_call 90; refine (HC.out _).mono ?_; rintro e w' ⟨rfl, rfl⟩)
 go_ret
 exact ⟨rfl, rfl⟩
set_option maxHeartbeats 1000000 in
theorem lane_18_8 (x y s r : Int) (_hx : 0 ≤ x ∧ x < 256) (_hy : 0 ≤ y ∧ y < 256) (hs : -128 ≤ s ∧ s < 128) (hr : -128 ≤ r ∧ r < 128) (w : World) :
  Calls Try.prog 46 #[.int .i64 18, .int .i64 8, .int .u64 x, .int .u64 y, .int .i64 s, .int .i64 r] w fun e w' => e = .returned (.int .u64 (IntKind.u64.wrap (holdI (s - r) (-128) 127))) ∧ w = w' := by
 have C := fun w => sat_18_8 x y s r _hx _hy hs hr w
 have HC := Lib.hid C
 clear C
 generalize IntKind.u64.wrap (holdI (s - r) (-128) 127) = z at *
 go_enter Try.func46, Try.ntmps46
 go_wp2_with (go_at_call 83; refine (HC.out _).mono ?_; rintro e w' ⟨rfl, rfl⟩)
 go_ret
 exact ⟨rfl, rfl⟩
set_option maxHeartbeats 1000000 in
theorem sat_19_8 (x y s r : Int) (hx : 0 ≤ x ∧ x < 256) (hy : 0 ≤ y ∧ y < 256) (_hs : -128 ≤ s ∧ s < 128) (_hr : -128 ≤ r ∧ r < 128) (w : World) :
  Calls Try.prog 83 #[.int .i64 19, .int .i64 8, .int .i64 x, .int .i64 y, .int .i64 s, .int .i64 r] w fun e w' => e = .returned (.int .u64 (holdI (x - y) (0) 255)) ∧ w = w' := by
 have C := fun w => hold_any (x - y) (0) 255 (by decide) w
 have hb := holdI_bd (x - y) (a := 0) (b := 255) (by decide)
 have HC := Lib.hid C
 clear C
 generalize holdI (x - y) (0) 255 = z at *
 go_enter Try.func83, Try.ntmps83
 go_wp2_with (go_at_call 90; refine (HC.out _).mono ?_; rintro e w' ⟨rfl, rfl⟩)
 go_ret
 exact ⟨rfl, rfl⟩
set_option maxHeartbeats 1000000 in
theorem lane_19_8 (x y s r : Int) (hx : 0 ≤ x ∧ x < 256) (hy : 0 ≤ y ∧ y < 256) (_hs : -128 ≤ s ∧ s < 128) (_hr : -128 ≤ r ∧ r < 128) (w : World) :
  Calls Try.prog 46 #[.int .i64 19, .int .i64 8, .int .u64 x, .int .u64 y, .int .i64 s, .int .i64 r] w fun e w' => e = .returned (.int .u64 (holdI (x - y) (0) 255)) ∧ w = w' := by
 have C := fun w => sat_19_8 x y s r hx hy _hs _hr w
 have HC := Lib.hid C
 clear C
 generalize holdI (x - y) (0) 255 = z at *
 go_enter Try.func46, Try.ntmps46
 go_wp2_with (go_at_call 83; refine (HC.out _).mono ?_; rintro e w' ⟨rfl, rfl⟩)
 go_ret
 exact ⟨rfl, rfl⟩
set_option maxHeartbeats 1000000 in
theorem sat_15_16 (x y s r : Int) (_hx : 0 ≤ x ∧ x < 65536) (_hy : 0 ≤ y ∧ y < 65536) (hs : -32768 ≤ s ∧ s < 32768) (hr : -32768 ≤ r ∧ r < 32768) (w : World) :
  Calls Try.prog 83 #[.int .i64 15, .int .i64 16, .int .i64 x, .int .i64 y, .int .i64 s, .int .i64 r] w fun e w' => e = .returned (.int .u64 (IntKind.u64.wrap (holdI (s + r) (-32768) 32767))) ∧ w = w' := by
 have C := fun w => hold_any (s + r) (-32768) 32767 (by decide) w
 have hb := holdI_bd (s + r) (a := -32768) (b := 32767) (by decide)
 have HC := Lib.hid C
 clear C
 generalize holdI (s + r) (-32768) 32767 = z at *
 go_enter Try.func83, Try.ntmps83
 go_wp2_with (go_at_call 90; refine (HC.out _).mono ?_; rintro e w' ⟨rfl, rfl⟩)
 go_ret
 exact ⟨rfl, rfl⟩
set_option maxHeartbeats 1000000 in
theorem lane_15_16 (x y s r : Int) (_hx : 0 ≤ x ∧ x < 65536) (_hy : 0 ≤ y ∧ y < 65536) (hs : -32768 ≤ s ∧ s < 32768) (hr : -32768 ≤ r ∧ r < 32768) (w : World) :
  Calls Try.prog 46 #[.int .i64 15, .int .i64 16, .int .u64 x, .int .u64 y, .int .i64 s, .int .i64 r] w fun e w' => e = .returned (.int .u64 (IntKind.u64.wrap (holdI (s + r) (-32768) 32767))) ∧ w = w' := by
 have C := fun w => sat_15_16 x y s r _hx _hy hs hr w
 have HC := Lib.hid C
 clear C
 generalize IntKind.u64.wrap (holdI (s + r) (-32768) 32767) = z at *
 go_enter Try.func46, Try.ntmps46
 go_wp2_with (go_at_call 83; refine (HC.out _).mono ?_; rintro e w' ⟨rfl, rfl⟩)
 go_ret
 exact ⟨rfl, rfl⟩
set_option maxHeartbeats 1000000 in
theorem sat_16_16 (x y s r : Int) (hx : 0 ≤ x ∧ x < 65536) (hy : 0 ≤ y ∧ y < 65536) (_hs : -32768 ≤ s ∧ s < 32768) (_hr : -32768 ≤ r ∧ r < 32768) (w : World) :
  Calls Try.prog 83 #[.int .i64 16, .int .i64 16, .int .i64 x, .int .i64 y, .int .i64 s, .int .i64 r] w fun e w' => e = .returned (.int .u64 (holdI (x + y) (0) 65535)) ∧ w = w' := by
 have C := fun w => hold_any (x + y) (0) 65535 (by decide) w
 have hb := holdI_bd (x + y) (a := 0) (b := 65535) (by decide)
 have HC := Lib.hid C
 clear C
 generalize holdI (x + y) (0) 65535 = z at *
 go_enter Try.func83, Try.ntmps83
 go_wp2_with (go_at_call 90; refine (HC.out _).mono ?_; rintro e w' ⟨rfl, rfl⟩)
 go_ret
 exact ⟨rfl, rfl⟩
set_option maxHeartbeats 1000000 in
theorem lane_16_16 (x y s r : Int) (hx : 0 ≤ x ∧ x < 65536) (hy : 0 ≤ y ∧ y < 65536) (_hs : -32768 ≤ s ∧ s < 32768) (_hr : -32768 ≤ r ∧ r < 32768) (w : World) :
  Calls Try.prog 46 #[.int .i64 16, .int .i64 16, .int .u64 x, .int .u64 y, .int .i64 s, .int .i64 r] w fun e w' => e = .returned (.int .u64 (holdI (x + y) (0) 65535)) ∧ w = w' := by
 have C := fun w => sat_16_16 x y s r hx hy _hs _hr w
 have HC := Lib.hid C
 clear C
 generalize holdI (x + y) (0) 65535 = z at *
 go_enter Try.func46, Try.ntmps46
 go_wp2_with (go_at_call 83; refine (HC.out _).mono ?_; rintro e w' ⟨rfl, rfl⟩)
 go_ret
 exact ⟨rfl, rfl⟩
set_option maxHeartbeats 1000000 in
theorem sat_18_16 (x y s r : Int) (_hx : 0 ≤ x ∧ x < 65536) (_hy : 0 ≤ y ∧ y < 65536) (hs : -32768 ≤ s ∧ s < 32768) (hr : -32768 ≤ r ∧ r < 32768) (w : World) :
  Calls Try.prog 83 #[.int .i64 18, .int .i64 16, .int .i64 x, .int .i64 y, .int .i64 s, .int .i64 r] w fun e w' => e = .returned (.int .u64 (IntKind.u64.wrap (holdI (s - r) (-32768) 32767))) ∧ w = w' := by
 have C := fun w => hold_any (s - r) (-32768) 32767 (by decide) w
 have hb := holdI_bd (s - r) (a := -32768) (b := 32767) (by decide)
 have HC := Lib.hid C
 clear C
 generalize holdI (s - r) (-32768) 32767 = z at *
 go_enter Try.func83, Try.ntmps83
 go_wp2_with (go_at_call 90; refine (HC.out _).mono ?_; rintro e w' ⟨rfl, rfl⟩)
 go_ret
 exact ⟨rfl, rfl⟩
set_option maxHeartbeats 1000000 in
theorem lane_18_16 (x y s r : Int) (_hx : 0 ≤ x ∧ x < 65536) (_hy : 0 ≤ y ∧ y < 65536) (hs : -32768 ≤ s ∧ s < 32768) (hr : -32768 ≤ r ∧ r < 32768) (w : World) :
  Calls Try.prog 46 #[.int .i64 18, .int .i64 16, .int .u64 x, .int .u64 y, .int .i64 s, .int .i64 r] w fun e w' => e = .returned (.int .u64 (IntKind.u64.wrap (holdI (s - r) (-32768) 32767))) ∧ w = w' := by
 have C := fun w => sat_18_16 x y s r _hx _hy hs hr w
 have HC := Lib.hid C
 clear C
 generalize IntKind.u64.wrap (holdI (s - r) (-32768) 32767) = z at *
 go_enter Try.func46, Try.ntmps46
 go_wp2_with (go_at_call 83; refine (HC.out _).mono ?_; rintro e w' ⟨rfl, rfl⟩)
 go_ret
 exact ⟨rfl, rfl⟩
set_option maxHeartbeats 1000000 in
theorem sat_19_16 (x y s r : Int) (hx : 0 ≤ x ∧ x < 65536) (hy : 0 ≤ y ∧ y < 65536) (_hs : -32768 ≤ s ∧ s < 32768) (_hr : -32768 ≤ r ∧ r < 32768) (w : World) :
  Calls Try.prog 83 #[.int .i64 19, .int .i64 16, .int .i64 x, .int .i64 y, .int .i64 s, .int .i64 r] w fun e w' => e = .returned (.int .u64 (holdI (x - y) (0) 65535)) ∧ w = w' := by
 have C := fun w => hold_any (x - y) (0) 65535 (by decide) w
 have hb := holdI_bd (x - y) (a := 0) (b := 65535) (by decide)
 have HC := Lib.hid C
 clear C
 generalize holdI (x - y) (0) 65535 = z at *
 go_enter Try.func83, Try.ntmps83
 go_wp2_with (go_at_call 90; refine (HC.out _).mono ?_; rintro e w' ⟨rfl, rfl⟩)
 go_ret
 exact ⟨rfl, rfl⟩
set_option maxHeartbeats 1000000 in
theorem lane_19_16 (x y s r : Int) (hx : 0 ≤ x ∧ x < 65536) (hy : 0 ≤ y ∧ y < 65536) (_hs : -32768 ≤ s ∧ s < 32768) (_hr : -32768 ≤ r ∧ r < 32768) (w : World) :
  Calls Try.prog 46 #[.int .i64 19, .int .i64 16, .int .u64 x, .int .u64 y, .int .i64 s, .int .i64 r] w fun e w' => e = .returned (.int .u64 (holdI (x - y) (0) 65535)) ∧ w = w' := by
 have C := fun w => sat_19_16 x y s r hx hy _hs _hr w
 have HC := Lib.hid C
 clear C
 generalize holdI (x - y) (0) 65535 = z at *
 go_enter Try.func46, Try.ntmps46
 go_wp2_with (go_at_call 83; refine (HC.out _).mono ?_; rintro e w' ⟨rfl, rfl⟩)
 go_ret
 exact ⟨rfl, rfl⟩
theorem lane_14 (v x y s r : Int) (w : World) :
  Calls Try.prog 46 #[.int .i64 14, .int .i64 v, .int .u64 x, .int .u64 y, .int .i64 s, .int .i64 r] w fun e w' => e = .returned (.int .u64 (IntKind.u64.wrap (x + y))) ∧ w = w' := by
 go_enter Try.func46, Try.ntmps46
 go_wp2
 go_ret
 exact ⟨rfl, rfl⟩
theorem lane_17 (v x y s r : Int) (w : World) :
  Calls Try.prog 46 #[.int .i64 17, .int .i64 v, .int .u64 x, .int .u64 y, .int .i64 s, .int .i64 r] w fun e w' => e = .returned (.int .u64 (IntKind.u64.wrap (x - y))) ∧ w = w' := by
 go_enter Try.func46, Try.ntmps46
 go_wp2
 go_ret
 exact ⟨rfl, rfl⟩
theorem lane_21 (v x y s r : Int) (w : World) :
  Calls Try.prog 46 #[.int .i64 21, .int .i64 v, .int .u64 x, .int .u64 y, .int .i64 s, .int .i64 r] w fun e w' => e = .returned (.int .u64 (IntKind.u64.wrap (x * y))) ∧ w = w' := by
 go_enter Try.func46, Try.ntmps46
 go_wp2
 go_ret
 exact ⟨rfl, rfl⟩
theorem lane_27 (v x y s r : Int) (hx : 0 ≤ x ∧ x < 65536) (hy : 0 ≤ y ∧ y < 65536) (w : World) :
  Calls Try.prog 46 #[.int .i64 27, .int .i64 v, .int .u64 x, .int .u64 y, .int .i64 s, .int .i64 r] w fun e w' => e = .returned (.int .u64 ((x + y + 1) / 2)) ∧ w = w' := by
 go_enter Try.func46, Try.ntmps46
 go_wp2
 go_ret
 exact ⟨rfl, rfl⟩
theorem lane_22 (v x y s r : Int) (w : World) :
  Calls Try.prog 46 #[.int .i64 22, .int .i64 v, .int .u64 x, .int .u64 y, .int .i64 s, .int .i64 r] w fun e w' => e = .returned (.int .u64 (IntKind.u64.wrap (minI s r))) ∧ w = w' := by
 have hm : minI s r = if s ≤ r then s else r := rfl
 by_cases h : s ≤ r
 ·rw [if_pos h] at hm
  rw [hm]
  clear hm
  go_enter Try.func46, Try.ntmps46
  go_wp2
  all_goals
   go_ret
   exact ⟨ret_u' (by first | rfl | (congr 1; omega) | omega), rfl⟩
 ·rw [if_neg h] at hm
  rw [hm]
  clear hm
  go_enter Try.func46, Try.ntmps46
  go_wp2
  all_goals
   go_ret
   exact ⟨ret_u' (by first | rfl | (congr 1; omega) | omega), rfl⟩
theorem lane_23 (v x y s r : Int) (w : World) :
  Calls Try.prog 46 #[.int .i64 23, .int .i64 v, .int .u64 x, .int .u64 y, .int .i64 s, .int .i64 r] w fun e w' => e = .returned (.int .u64 (minI x y)) ∧ w = w' := by
 have hm : minI x y = if x ≤ y then x else y := rfl
 by_cases h : x ≤ y
 ·rw [if_pos h] at hm
  rw [hm]
  clear hm
  go_enter Try.func46, Try.ntmps46
  go_wp2
  all_goals
   go_ret
   exact ⟨ret_u' (by first | rfl | (congr 1; omega) | omega), rfl⟩
 ·rw [if_neg h] at hm
  rw [hm]
  clear hm
  go_enter Try.func46, Try.ntmps46
  go_wp2
  all_goals
   go_ret
   exact ⟨ret_u' (by first | rfl | (congr 1; omega) | omega), rfl⟩
theorem lane_24 (v x y s r : Int) (w : World) :
  Calls Try.prog 46 #[.int .i64 24, .int .i64 v, .int .u64 x, .int .u64 y, .int .i64 s, .int .i64 r] w fun e w' => e = .returned (.int .u64 (IntKind.u64.wrap (maxI s r))) ∧ w = w' := by
 have hm : maxI s r = if s ≤ r then r else s := rfl
 by_cases h : s ≤ r
 ·rw [if_pos h] at hm
  rw [hm]
  clear hm
  go_enter Try.func46, Try.ntmps46
  go_wp2
  all_goals
   go_ret
   exact ⟨ret_u' (by first | rfl | (congr 1; omega) | omega), rfl⟩
 ·rw [if_neg h] at hm
  rw [hm]
  clear hm
  go_enter Try.func46, Try.ntmps46
  go_wp2
  all_goals
   go_ret
   exact ⟨ret_u' (by first | rfl | (congr 1; omega) | omega), rfl⟩
theorem lane_25 (v x y s r : Int) (w : World) :
  Calls Try.prog 46 #[.int .i64 25, .int .i64 v, .int .u64 x, .int .u64 y, .int .i64 s, .int .i64 r] w fun e w' => e = .returned (.int .u64 (maxI x y)) ∧ w = w' := by
 have hm : maxI x y = if x ≤ y then y else x := rfl
 by_cases h : x ≤ y
 ·rw [if_pos h] at hm
  rw [hm]
  clear hm
  go_enter Try.func46, Try.ntmps46
  go_wp2
  all_goals
   go_ret
   exact ⟨ret_u' (by first | rfl | (congr 1; omega) | omega), rfl⟩
 ·rw [if_neg h] at hm
  rw [hm]
  clear hm
  go_enter Try.func46, Try.ntmps46
  go_wp2
  all_goals
   go_ret
   exact ⟨ret_u' (by first | rfl | (congr 1; omega) | omega), rfl⟩
def laneI (k v x y s r : Int) : Int :=
 if k = 14 then IntKind.u64.wrap (x + y) else if k = 17 then IntKind.u64.wrap (x - y) else if k = 21 then IntKind.u64.wrap (x * y)
 else if k = 22 then IntKind.u64.wrap (minI s r) else if k = 23 then minI x y else if k = 24 then IntKind.u64.wrap (maxI s r) else if k = 25 then maxI x y
 else if k = 27 then (x + y + 1) / 2
 else if k = 15 then IntKind.u64.wrap (holdI (s + r) (if v = 8 then -128 else -32768) (if v = 8 then 127 else 32767))
 else if k = 18 then IntKind.u64.wrap (holdI (s - r) (if v = 8 then -128 else -32768) (if v = 8 then 127 else 32767))
 else if k = 16 then holdI (x + y) 0 (if v = 8 then 255 else 65535) else holdI (x - y) 0 (if v = 8 then 255 else 65535)
def binK (k : Int) : Prop := k = 14 ∨ k = 17 ∨ k = 21 ∨ k = 22 ∨ k = 23 ∨ k = 24 ∨ k = 25 ∨ k = 27 ∨ k = 15 ∨ k = 18 ∨ k = 16 ∨ k = 19
theorem binK_of (v k : Int) (h : hasB v k = true) (h14 : 14 ≤ k) : binK k ∧ ((k = 15 ∨ k = 16 ∨ k = 18 ∨ k = 19 ∨ k = 27) → v ≤ 16) := by
 unfold hasB at h
 unfold binK
 by_cases a : k = 0 ∨ k = 1 ∨ k = 11 ∨ k = 12 ∨ k = 13 ∨ k = 14 ∨ k = 17
 ·omega
 ·rw [if_neg a] at h
  by_cases b : k = 2
  ·omega
  ·rw [if_neg b] at h
   by_cases c : k = 15 ∨ k = 16 ∨ k = 18 ∨ k = 19 ∨ k = 27
   ·rw [if_pos c] at h
    have := of_decide_eq_true h
    omega
   ·rw [if_neg c] at h
    by_cases d : k = 21
    ·omega
    ·rw [if_neg d] at h
     by_cases e : k = 22 ∨ k = 23 ∨ k = 24 ∨ k = 25
     ·omega
     ·rw [if_neg e] at h; cases h
structure Fit (v x y s r : Int) : Prop where
 x : 0 ≤ x ∧ x < 2 ^ v.toNat
 y : 0 ≤ y ∧ y < 2 ^ v.toNat
 s : -(2 ^ (v.toNat - 1)) ≤ s ∧ s < 2 ^ (v.toNat - 1)
 r : -(2 ^ (v.toNat - 1)) ≤ r ∧ r < 2 ^ (v.toNat - 1)
theorem lane_any (k v x y s r : Int) (hv : v = 8 ∨ v = 16 ∨ v = 32 ∨ v = 64) (hk : binK k) (hs : (k = 15 ∨ k = 16 ∨ k = 18 ∨ k = 19 ∨ k = 27) → v ≤ 16) (F : Fit v x y s r) (w : World) :
  Calls Try.prog 46 #[.int .i64 k, .int .i64 v, .int .u64 x, .int .u64 y, .int .i64 s, .int .i64 r] w fun e w' => e = .returned (.int .u64 (laneI k v x y s r)) ∧ w = w' := by
 rcases hk with rfl | rfl | rfl | rfl | rfl | rfl | rfl | rfl | rfl | rfl | rfl | rfl
 ·exact lane_14 v x y s r w
 ·exact lane_17 v x y s r w
 ·exact lane_21 v x y s r w
 ·exact lane_22 v x y s r w
 ·exact lane_23 v x y s r w
 ·exact lane_24 v x y s r w
 ·exact lane_25 v x y s r w
 ·have h := hs (by omega)
  have hx := F.x
  have hy := F.y
  rcases hv with rfl | rfl | rfl | rfl
  ·have h2 : (2 : Int) ^ (8 : Int).toNat = 256 := rfl
   rw [h2] at hx hy
   exact lane_27 8 x y s r (by omega) (by omega) w
  ·have h2 : (2 : Int) ^ (16 : Int).toNat = 65536 := rfl
   rw [h2] at hx hy
   exact lane_27 16 x y s r (by omega) (by omega) w
  ·omega
  ·omega
 all_goals
  have h := hs (by omega)
  have hx := F.x
  have hy := F.y
  have hs' := F.s
  have hr := F.r
  rcases hv with rfl | rfl | rfl | rfl
  ·rw [show (2 : Int) ^ (8 : Int).toNat = 256 from rfl] at hx hy
   rw [show (2 : Int) ^ ((8 : Int).toNat - 1) = 128 from rfl] at hs' hr
   first | exact lane_15_8 x y s r hx hy hs' hr w | exact lane_18_8 x y s r hx hy hs' hr w | exact lane_16_8 x y s r hx hy hs' hr w | exact lane_19_8 x y s r hx hy hs' hr w
  ·rw [show (2 : Int) ^ (16 : Int).toNat = 65536 from rfl] at hx hy
   rw [show (2 : Int) ^ ((16 : Int).toNat - 1) = 32768 from rfl] at hs' hr
   first | exact lane_15_16 x y s r hx hy hs' hr w | exact lane_18_16 x y s r hx hy hs' hr w | exact lane_16_16 x y s r hx hy hs' hr w | exact lane_19_16 x y s r hx hy hs' hr w
  ·omega
  ·omega
end Ar
end Go.Proofs.Ytjoalcaooccbiaa
