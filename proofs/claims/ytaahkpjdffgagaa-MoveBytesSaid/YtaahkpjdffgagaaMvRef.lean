/-
  Of layer 7: the reference's Shuffle and Swizzle. Conditions: bytes.
-/
import Derived.Test.YtaahkpjdffgagaaMvSw
import Derived.Test.YtaahkpjdffgagaaSlP
import Derived.IntWalk
namespace Go.Proofs.Ytaahkpjdffgagaa
open Go.RowKit VecM
namespace Mv
abbrev bs32 (f : Nat → Int) : Array Value := #[.int .u8 (f 0), .int .u8 (f 1), .int .u8 (f 2), .int .u8 (f 3), .int .u8 (f 4), .int .u8 (f 5), .int .u8 (f 6), .int .u8 (f 7), .int .u8 (f 8), .int .u8 (f 9), .int .u8 (f 10), .int .u8 (f 11), .int .u8 (f 12), .int .u8 (f 13), .int .u8 (f 14), .int .u8 (f 15), .int .u8 (f 16), .int .u8 (f 17), .int .u8 (f 18), .int .u8 (f 19), .int .u8 (f 20), .int .u8 (f 21), .int .u8 (f 22), .int .u8 (f 23), .int .u8 (f 24), .int .u8 (f 25), .int .u8 (f 26), .int .u8 (f 27), .int .u8 (f 28), .int .u8 (f 29), .int .u8 (f 30), .int .u8 (f 31)]
theorem bs32_get (f : Nat → Int) (j : Nat) (h : j < 32) : (bs32 f)[j]? = some (.int .u8 (f j)) := by
  match j with
  | 0 | 1 | 2 | 3 | 4 | 5 | 6 | 7 | 8 | 9 | 10 | 11 | 12 | 13 | 14 | 15 | 16 | 17 | 18 | 19 | 20 | 21 | 22 | 23 | 24 | 25 | 26 | 27 | 28 | 29 | 30 | 31 => rfl
  | k + 32 => omega
theorem bs32_upd (f : Nat → Int) (j : Nat) (y : Int) (h : j < 32) : (bs32 f).setIfInBounds j (.int .u8 y) = bs32 (upd f j y) := by
  match j with
  | 0 | 1 | 2 | 3 | 4 | 5 | 6 | 7 | 8 | 9 | 10 | 11 | 12 | 13 | 14 | 15 | 16 | 17 | 18 | 19 | 20 | 21 | 22 | 23 | 24 | 25 | 26 | 27 | 28 | 29 | 30 | 31 => rfl
  | k + 32 => omega
def boK (a b : Nat → Int) (k : Nat) : Nat → Int := fun m => if m < k then a m else if 16 ≤ m ∧ m < 16 + k then b (m - 16) else 0
theorem boK0 (a b : Nat → Int) : boK a b 0 = fun _ => 0 := by
  funext m; unfold boK; rw [if_neg (by omega), if_neg (by omega)]
theorem boK_succ (a b : Nat → Int) (k : Nat) (h : k < 16) : upd (upd (boK a b k) k (a k)) (16 + k) (b k) = boK a b (k + 1) := by
  funext m; unfold upd boK
  by_cases h1 : m = 16 + k
  · subst h1; rw [if_pos rfl, if_neg (by omega), if_pos (by omega)]; congr 1; omega
  · rw [if_neg h1]
    by_cases h2 : m = k
    · subst h2; rw [if_pos rfl, if_pos (by omega)]
    · rw [if_neg h2]
      by_cases h3 : m < k
      · rw [if_pos h3, if_pos (by omega)]
      · rw [if_neg h3, if_neg (show ¬ m < k + 1 by omega)]
        by_cases h4 : 16 ≤ m ∧ m < 16 + k
        · rw [if_pos h4, if_pos (by omega)]
        · rw [if_neg h4, if_neg (by omega)]
theorem boK_at (a b s : Nat → Int) (k x : Nat) (hx : s k = x) (h : x < 32) : boK a b 16 x = shV a b s k := by
  unfold boK shV
  by_cases h1 : x < 16
  · rw [if_pos h1, if_pos (by omega)]; congr 1; omega
  · rw [if_neg h1, if_pos (by omega), if_neg (by omega)]; congr 1; omega
set_option maxRecDepth 100000 in
set_option maxHeartbeats 4000000 in
theorem rshuffle_ok (a b s : Nat → Int) (hs : Byt s) (ho : ∀ m, m < 16 → s m < 32) (w : World) : Calls Try.prog 17 #[.agg (bs s), .agg (bs a), .agg (bs b)] w fun e w' => e = .returned (.tuple #[.agg (bs (shV a b s)), .int .i64 0]) ∧ Gr w w' := by
  rw [← upto_all (shV a b s)]
  have HB := Lib.hid hs
  have HO := Lib.hid ho
  clear hs ho
  have hS := St.start w
  go_enter Try.func17, Try.ntmps17
  go_upto_region 0 with (fail)
  refine wp_region_lit ?_
  refine sl_box hS rfl _ 26 (box_vec rfl rfl) ?_
  clear hS
  intro p1 wk hS
  refine sl_box hS rfl _ 26 (box_vec rfl rfl) ?_
  clear hS
  intro p2 wk hS
  refine sl_box hS rfl _ 26 (box_vec rfl rfl) ?_
  clear hS
  intro p3 wk hS
  refine sl_box hS rfl _ 26 (alloc_vec rfl) ?_
  clear hS
  intro p4 wk hS
  go_upto_region 1 with (fail)
  try refine wp_region_lit ?_
  iterate 3 ((first | (refine sl_load hS rfl 26 _ rfl rfl (by repeat (first | exact Has.hd | apply Has.tl)) Try.underlying26 rfl (by exact infoV) ?_) | (refine sl_store hS rfl 26 _ _ rfl rfl rfl (by repeat (first | exact Rep.hd | apply Rep.tl)) (by exact infoV) (by rfl) (bs_one _) ?_; clear hS; intro wk hS) | ((with_reducible show wpList _ _ _ (⟨_, .build 54 _, _, _, _, _⟩ :: _) _ _); refine wpList_build_at rfl 54 _ rfl (bs32 fun _ => 0) (by first | (simp only [List.map_toArray, List.map_cons, List.map_nil]; kernel_rfl) | kernel_rfl) ?_) | ((with_reducible show wpList _ _ _ (⟨_, .alloc 54 , _, _, _, _⟩ :: _) _ _); refine sl_new hS rfl (bs32 fun _ => 0) 54 (fun b => .pointer (some ⟨b, 0, none⟩)) (by intro w; go_simp) ?_; clear hS; intro p5 wk hS) | ((with_reducible show wpList _ _ _ (⟨_, .store 54 _ _, _, _, _, _⟩ :: _) _ _); refine sl_store hS rfl 54 _ _ rfl rfl rfl (by repeat (first | exact Rep.hd | apply Rep.tl)) (by kernel_rfl) (by rfl) (by kernel_rfl) ?_; clear hS; intro wk hS) | (apply sl_val rfl; focus (intro w; go_simp; (try simp (disch := omega) only [IntWalk.i64_in, IntWalk.u64_in, IntWalk.u8_in, IntWalk.u32_in, IntWalk.i32_in]); first | exact rfl | rfl)) | (refine sl_skip rfl ?_)); go_simp)
  go_wp2_with fail
  go_loopw [9] (fun u wr => ∃ k : Nat, k ≤ 16 ∧ u = .int .i64 k ∧ St w [⟨p5, bs32 (boK a b k), 54⟩, ⟨p4, bs (fun _ => 0), 26⟩, ⟨p3, bs b, 26⟩, ⟨p2, bs a, 26⟩, ⟨p1, bs s, 26⟩] wr) (fun u _ => 16 - (intOf u).toNat)
  case atStart => exact ⟨0, by omega, rfl, by rw [boK0]; exact hS⟩
  case round =>
    obtain ⟨k, hk, rfl, hS⟩ := hrel
    by_cases hlt : k < 16
    · have v1 := bs_get a k hlt
      have v2 := bs_get b k hlt
      have h32 : k < 32 := by omega
      have h33 : 16 + k < 32 := by omega
      have p1' := bs32_upd (boK a b k) k (a k) h32
      have p2' := bs32_upd (upd (boK a b k) k (a k)) (16 + k) (b k) h33
      rw [boK_succ a b k hlt] at p2'
      have T0 : IntKind.i64.wrap ((16 : Int) + (k : Int)) = ((16 + k : Nat) : Int) := by rw [IntWalk.i64_in _ (by omega)]; omega
      have T1 : IntKind.i64.wrap ((k : Int) + 1) = (k : Int) + 1 := IntWalk.i64_in _ (by omega)
      have T2 : decide ((k : Int) < 16) = true := by simp; omega
      have X2 := Lib.hid hlt
      generalize upd (boK a b k) k (a k) = c1 at *
      generalize a k = x at *
      generalize b k = y at *
      clear hk
      have Xv1 := Lib.hid v1
      clear v1
      have Xv2 := Lib.hid v2
      clear v2
      have Xp1' := Lib.hid p1'
      clear p1'
      have Xp2' := Lib.hid p2'
      clear p2'
      have XT0 := Lib.hid T0
      clear T0
      go_upto_region 5 with (fail)
      try refine wp_region_lit ?_
      iterate 6 ((first | (refine sl_load hS rfl 26 _ rfl rfl (by repeat (first | exact Has.hd | apply Has.tl)) Try.underlying26 rfl (by exact infoV) ?_) | (refine sl_store hS rfl 26 _ _ rfl rfl rfl (by repeat (first | exact Rep.hd | apply Rep.tl)) (by exact infoV) (by rfl) (bs_one _) ?_; clear hS; intro wk hS) | (refine sl_val rfl (run_add rfl rfl rfl XT0.out) ?_) | (refine sl_addr rfl 26 5 _ _ rfl rfl _ k rfl Try.underlying26 info8 size8 hlt ?_) | (refine sl_addr rfl 54 5 _ _ rfl rfl _ k rfl Try.underlying54 info8 size8 h32 ?_) | (refine sl_addr rfl 54 5 _ _ rfl rfl _ (16 + k) rfl Try.underlying54 info8 size8 h33 ?_) | (refine sl_cell hS rfl _ _ rfl rfl (by repeat (first | exact Has.hd | apply Has.tl)) Xv1.out (by intro w hc; go_simp) ?_) | (refine sl_cell hS rfl _ _ rfl rfl (by repeat (first | exact Has.hd | apply Has.tl)) Xv2.out (by intro w hc; go_simp) ?_) | ((with_reducible show wpList _ _ _ (⟨_, .store _ _ _, _, _, _, _⟩ :: _) _ _); refine sl_put hS rfl 5 _ _ rfl rfl rfl (by repeat (first | exact Rep.hd | apply Rep.tl)) (by exact h32) Xp1'.out info8 size8 rfl ?_; clear hS; intro wk hS) | ((with_reducible show wpList _ _ _ (⟨_, .store _ _ _, _, _, _, _⟩ :: _) _ _); refine sl_put hS rfl 5 _ _ rfl rfl rfl (by repeat (first | exact Rep.hd | apply Rep.tl)) (by exact h33) Xp2'.out info8 size8 rfl ?_; clear hS; intro wk hS) | (apply sl_val rfl; focus (intro w; go_simp; (try simp (disch := omega) only [IntWalk.i64_in, IntWalk.u64_in, IntWalk.u8_in, IntWalk.u32_in, IntWalk.i32_in]); first | exact rfl | rfl)) | (refine sl_skip rfl ?_)); go_simp)
      go_upto_region 6 with (fail)
      try refine wp_region_lit ?_
      iterate 7 ((first | (refine sl_load hS rfl 26 _ rfl rfl (by repeat (first | exact Has.hd | apply Has.tl)) Try.underlying26 rfl (by exact infoV) ?_) | (refine sl_store hS rfl 26 _ _ rfl rfl rfl (by repeat (first | exact Rep.hd | apply Rep.tl)) (by exact infoV) (by rfl) (bs_one _) ?_; clear hS; intro wk hS) | (refine sl_val rfl (run_add rfl rfl rfl XT0.out) ?_) | (refine sl_addr rfl 26 5 _ _ rfl rfl _ k rfl Try.underlying26 info8 size8 hlt ?_) | (refine sl_addr rfl 54 5 _ _ rfl rfl _ k rfl Try.underlying54 info8 size8 h32 ?_) | (refine sl_addr rfl 54 5 _ _ rfl rfl _ (16 + k) rfl Try.underlying54 info8 size8 h33 ?_) | (refine sl_cell hS rfl _ _ rfl rfl (by repeat (first | exact Has.hd | apply Has.tl)) Xv1.out (by intro w hc; go_simp) ?_) | (refine sl_cell hS rfl _ _ rfl rfl (by repeat (first | exact Has.hd | apply Has.tl)) Xv2.out (by intro w hc; go_simp) ?_) | ((with_reducible show wpList _ _ _ (⟨_, .store _ _ _, _, _, _, _⟩ :: _) _ _); refine sl_put hS rfl 5 _ _ rfl rfl rfl (by repeat (first | exact Rep.hd | apply Rep.tl)) (by exact h32) Xp1'.out info8 size8 rfl ?_; clear hS; intro wk hS) | ((with_reducible show wpList _ _ _ (⟨_, .store _ _ _, _, _, _, _⟩ :: _) _ _); refine sl_put hS rfl 5 _ _ rfl rfl rfl (by repeat (first | exact Rep.hd | apply Rep.tl)) (by exact h33) Xp2'.out info8 size8 rfl ?_; clear hS; intro wk hS) | (apply sl_val rfl; focus (intro w; go_simp; (try simp (disch := omega) only [IntWalk.i64_in, IntWalk.u64_in, IntWalk.u8_in, IntWalk.u32_in, IntWalk.i32_in]); first | exact rfl | rfl)) | (refine sl_skip rfl ?_)); go_simp)
      go_wp2_with fail
      have X4 := X2.out
      exact ⟨⟨k + 1, by omega, by go_num, hS⟩, by simp [intOf]; omega⟩
    · obtain rfl : k = 16 := by omega
      go_upto_region 7 with (fail)
      try refine wp_region_lit ?_
      iterate 3 ((first | (refine sl_load hS rfl 26 _ rfl rfl (by repeat (first | exact Has.hd | apply Has.tl)) Try.underlying26 rfl (by exact infoV) ?_) | (refine sl_store hS rfl 26 _ _ rfl rfl rfl (by repeat (first | exact Rep.hd | apply Rep.tl)) (by exact infoV) (by rfl) (bs_one _) ?_; clear hS; intro wk hS) | ((with_reducible show wpList _ _ _ (⟨_, .build 26 _, _, _, _, _⟩ :: _) _ _); refine wpList_build_at rfl 26 _ rfl (bs fun _ => 0) (by first | (simp only [List.map_toArray, List.map_cons, List.map_nil]; kernel_rfl) | kernel_rfl) ?_) | ((with_reducible show wpList _ _ _ (⟨_, .alloc 26 , _, _, _, _⟩ :: _) _ _); refine sl_box hS rfl _ 26 (alloc_vec rfl) ?_; clear hS; intro p6 wk hS) | ((with_reducible show wpList _ _ _ (⟨_, .store 26 _ _, _, _, _, _⟩ :: _) _ _); refine sl_store hS rfl 26 _ _ rfl rfl rfl (by repeat (first | exact Rep.hd | apply Rep.tl)) (by kernel_rfl) (by rfl) (by kernel_rfl) ?_; clear hS; intro wk hS) | (apply sl_val rfl; focus (intro w; go_simp; (try simp (disch := omega) only [IntWalk.i64_in, IntWalk.u64_in, IntWalk.u8_in, IntWalk.u32_in, IntWalk.i32_in]); first | exact rfl | rfl)) | (refine sl_skip rfl ?_)); go_simp)
      go_wp2_with fail
      go_loopw [11] (fun u wr => ∃ k : Nat, k ≤ 16 ∧ u = .int .i64 k ∧  St w [⟨p6, bs (upto k (shV a b s)), 26⟩, ⟨p5, bs32 (boK a b 16), 54⟩, ⟨p4, bs (fun _ => 0), 26⟩, ⟨p3, bs b, 26⟩, ⟨p2, bs a, 26⟩, ⟨p1, bs s, 26⟩] wr) (fun u _ => 16 - (intOf u).toNat)
      case atStart => exact ⟨0, by omega, rfl,  by rw [upto0]; exact hS⟩
      case round =>
        obtain ⟨k, hk, rfl,  hS⟩ := hrel
        by_cases hlt : k < 16
        · have HJ := True.intro
          have v1 := bs_get s k hlt
          have hb := HB.out k
          obtain ⟨x, hx⟩ : ∃ x : Nat, s k = x := ⟨(s k).toNat, by omega⟩
          have hx' := Lib.hid hx
          rw [hx] at v1 hb
          have T1 : IntKind.i64.wrap ((k : Int) + 1) = (k : Int) + 1 := IntWalk.i64_in _ (by omega)
          have T2 : decide ((k : Int) < 16) = true := by simp; omega
          have X2 := Lib.hid hlt
          have hd : x < 32 := by have := HO.out k hlt; omega
          have h32 : x < 32 := hd
          have v2 := bs32_get (boK a b 16) x hd
          rw [boK_at a b s k x hx hd] at v2
          have p1' := bs_upd (upto k (shV a b s)) k (shV a b s k) hlt
          rw [upto_succ] at p1'
          have T3 : decide (31 < (x : Int)) = false := decide_eq_false (by omega)
          generalize shV a b s k = z at *
          clear hk hb hx hd
          have Xv1 := Lib.hid v1
          clear v1
          have Xv2 := Lib.hid v2
          clear v2
          have Xp1' := Lib.hid p1'
          clear p1'
          go_upto_region 11 with (fail)
          try refine wp_region_lit ?_
          iterate 4 ((first | (refine sl_load hS rfl 26 _ rfl rfl (by repeat (first | exact Has.hd | apply Has.tl)) Try.underlying26 rfl (by exact infoV) ?_) | (refine sl_store hS rfl 26 _ _ rfl rfl rfl (by repeat (first | exact Rep.hd | apply Rep.tl)) (by exact infoV) (by rfl) (bs_one _) ?_; clear hS; intro wk hS) | (refine sl_val rfl (run_gtr rfl rfl rfl T3) ?_) | (refine sl_addr rfl 26 5 _ _ rfl rfl _ k rfl Try.underlying26 info8 size8 hlt ?_) | (refine sl_addr rfl 54 5 _ _ rfl rfl _ x rfl Try.underlying54 info8 size8 h32 ?_) | (refine sl_cell hS rfl _ _ rfl rfl (by repeat (first | exact Has.hd | apply Has.tl)) Xv1.out (by intro w hc; go_simp) ?_) | (refine sl_cell hS rfl _ _ rfl rfl (by repeat (first | exact Has.hd | apply Has.tl)) Xv2.out (by intro w hc; go_simp) ?_) | ((with_reducible show wpList _ _ _ (⟨_, .store _ _ _, _, _, _, _⟩ :: _) _ _); refine sl_put hS rfl 5 _ _ rfl rfl rfl (by repeat (first | exact Rep.hd | apply Rep.tl)) (by exact hlt) Xp1'.out info8 size8 rfl ?_; clear hS; intro wk hS) | (apply sl_val rfl; focus (intro w; go_simp; (try simp (disch := omega) only [IntWalk.i64_in, IntWalk.u64_in, IntWalk.u8_in, IntWalk.u32_in, IntWalk.i32_in]); first | exact rfl | rfl)) | (refine sl_skip rfl ?_)); go_simp)
          go_upto_region 13 with (fail)
          try refine wp_region_lit ?_
          iterate 8 ((first | (refine sl_load hS rfl 26 _ rfl rfl (by repeat (first | exact Has.hd | apply Has.tl)) Try.underlying26 rfl (by exact infoV) ?_) | (refine sl_store hS rfl 26 _ _ rfl rfl rfl (by repeat (first | exact Rep.hd | apply Rep.tl)) (by exact infoV) (by rfl) (bs_one _) ?_; clear hS; intro wk hS) | (refine sl_val rfl (run_gtr rfl rfl rfl T3) ?_) | (refine sl_addr rfl 26 5 _ _ rfl rfl _ k rfl Try.underlying26 info8 size8 hlt ?_) | (refine sl_addr rfl 54 5 _ _ rfl rfl _ x rfl Try.underlying54 info8 size8 h32 ?_) | (refine sl_cell hS rfl _ _ rfl rfl (by repeat (first | exact Has.hd | apply Has.tl)) Xv1.out (by intro w hc; go_simp) ?_) | (refine sl_cell hS rfl _ _ rfl rfl (by repeat (first | exact Has.hd | apply Has.tl)) Xv2.out (by intro w hc; go_simp) ?_) | ((with_reducible show wpList _ _ _ (⟨_, .store _ _ _, _, _, _, _⟩ :: _) _ _); refine sl_put hS rfl 5 _ _ rfl rfl rfl (by repeat (first | exact Rep.hd | apply Rep.tl)) (by exact hlt) Xp1'.out info8 size8 rfl ?_; clear hS; intro wk hS) | (apply sl_val rfl; focus (intro w; go_simp; (try simp (disch := omega) only [IntWalk.i64_in, IntWalk.u64_in, IntWalk.u8_in, IntWalk.u32_in, IntWalk.i32_in]); first | exact rfl | rfl)) | (refine sl_skip rfl ?_)); go_simp)
          go_wp2_with fail
          have X4 := X2.out
          exact ⟨⟨k + 1, by omega, by go_num,  hS⟩, by simp [intOf]; omega⟩
        · obtain rfl : k = 16 := by omega
          go_wp2_with (first | (refine sl_load hS rfl 26 _ rfl rfl (by repeat (first | exact Has.hd | apply Has.tl)) Try.underlying26 rfl (by exact infoV) ?_) | (refine sl_store hS rfl 26 _ _ rfl rfl rfl (by repeat (first | exact Rep.hd | apply Rep.tl)) (by exact infoV) (by rfl) (bs_one _) ?_; clear hS; intro wk hS) | (refine sl_box hS rfl _ 26 (box_vec rfl rfl) ?_; clear hS; intro bk wk hS) | (refine sl_box hS rfl _ 26 (alloc_vec rfl) ?_; clear hS; intro bk wk hS) | (refine onlyN_end ?_) | (refine onlyN_now ?_))
          refine sl_ret2 hS Try.results17 (by rfl) (by repeat (first | exact Has.hd | apply Has.tl)) Try.underlying26 rfl (by exact infoV) (by rfl) ?_
          exact ⟨rfl, hS.gr⟩
set_option maxRecDepth 100000 in
set_option maxHeartbeats 4000000 in
theorem rshuffle_bad (a b s : Nat → Int) (hs : Byt s) (ho : ∃ m, m < 16 ∧ 32 ≤ s m) (w : World) : Calls Try.prog 17 #[.agg (bs s), .agg (bs a), .agg (bs b)] w fun e w' => e = .returned (.tuple #[.agg (bs fun _ => 0), .int .i64 1]) ∧ Gr w w' := by
  have HB := Lib.hid hs
  have HO := Lib.hid ho
  clear hs ho
  have hS := St.start w
  go_enter Try.func17, Try.ntmps17
  go_upto_region 0 with (fail)
  refine wp_region_lit ?_
  refine sl_box hS rfl _ 26 (box_vec rfl rfl) ?_
  clear hS
  intro p1 wk hS
  refine sl_box hS rfl _ 26 (box_vec rfl rfl) ?_
  clear hS
  intro p2 wk hS
  refine sl_box hS rfl _ 26 (box_vec rfl rfl) ?_
  clear hS
  intro p3 wk hS
  refine sl_box hS rfl _ 26 (alloc_vec rfl) ?_
  clear hS
  intro p4 wk hS
  go_upto_region 1 with (fail)
  try refine wp_region_lit ?_
  iterate 3 ((first | (refine sl_load hS rfl 26 _ rfl rfl (by repeat (first | exact Has.hd | apply Has.tl)) Try.underlying26 rfl (by exact infoV) ?_) | (refine sl_store hS rfl 26 _ _ rfl rfl rfl (by repeat (first | exact Rep.hd | apply Rep.tl)) (by exact infoV) (by rfl) (bs_one _) ?_; clear hS; intro wk hS) | ((with_reducible show wpList _ _ _ (⟨_, .build 54 _, _, _, _, _⟩ :: _) _ _); refine wpList_build_at rfl 54 _ rfl (bs32 fun _ => 0) (by first | (simp only [List.map_toArray, List.map_cons, List.map_nil]; kernel_rfl) | kernel_rfl) ?_) | ((with_reducible show wpList _ _ _ (⟨_, .alloc 54 , _, _, _, _⟩ :: _) _ _); refine sl_new hS rfl (bs32 fun _ => 0) 54 (fun b => .pointer (some ⟨b, 0, none⟩)) (by intro w; go_simp) ?_; clear hS; intro p5 wk hS) | ((with_reducible show wpList _ _ _ (⟨_, .store 54 _ _, _, _, _, _⟩ :: _) _ _); refine sl_store hS rfl 54 _ _ rfl rfl rfl (by repeat (first | exact Rep.hd | apply Rep.tl)) (by kernel_rfl) (by rfl) (by kernel_rfl) ?_; clear hS; intro wk hS) | (apply sl_val rfl; focus (intro w; go_simp; (try simp (disch := omega) only [IntWalk.i64_in, IntWalk.u64_in, IntWalk.u8_in, IntWalk.u32_in, IntWalk.i32_in]); first | exact rfl | rfl)) | (refine sl_skip rfl ?_)); go_simp)
  go_wp2_with fail
  go_loopw [9] (fun u wr => ∃ k : Nat, k ≤ 16 ∧ u = .int .i64 k ∧ St w [⟨p5, bs32 (boK a b k), 54⟩, ⟨p4, bs (fun _ => 0), 26⟩, ⟨p3, bs b, 26⟩, ⟨p2, bs a, 26⟩, ⟨p1, bs s, 26⟩] wr) (fun u _ => 16 - (intOf u).toNat)
  case atStart => exact ⟨0, by omega, rfl, by rw [boK0]; exact hS⟩
  case round =>
    obtain ⟨k, hk, rfl, hS⟩ := hrel
    by_cases hlt : k < 16
    · have v1 := bs_get a k hlt
      have v2 := bs_get b k hlt
      have h32 : k < 32 := by omega
      have h33 : 16 + k < 32 := by omega
      have p1' := bs32_upd (boK a b k) k (a k) h32
      have p2' := bs32_upd (upd (boK a b k) k (a k)) (16 + k) (b k) h33
      rw [boK_succ a b k hlt] at p2'
      have T0 : IntKind.i64.wrap ((16 : Int) + (k : Int)) = ((16 + k : Nat) : Int) := by rw [IntWalk.i64_in _ (by omega)]; omega
      have T1 : IntKind.i64.wrap ((k : Int) + 1) = (k : Int) + 1 := IntWalk.i64_in _ (by omega)
      have T2 : decide ((k : Int) < 16) = true := by simp; omega
      have X2 := Lib.hid hlt
      generalize upd (boK a b k) k (a k) = c1 at *
      generalize a k = x at *
      generalize b k = y at *
      clear hk
      have Xv1 := Lib.hid v1
      clear v1
      have Xv2 := Lib.hid v2
      clear v2
      have Xp1' := Lib.hid p1'
      clear p1'
      have Xp2' := Lib.hid p2'
      clear p2'
      have XT0 := Lib.hid T0
      clear T0
      go_upto_region 5 with (fail)
      try refine wp_region_lit ?_
      iterate 6 ((first | (refine sl_load hS rfl 26 _ rfl rfl (by repeat (first | exact Has.hd | apply Has.tl)) Try.underlying26 rfl (by exact infoV) ?_) | (refine sl_store hS rfl 26 _ _ rfl rfl rfl (by repeat (first | exact Rep.hd | apply Rep.tl)) (by exact infoV) (by rfl) (bs_one _) ?_; clear hS; intro wk hS) | (refine sl_val rfl (run_add rfl rfl rfl XT0.out) ?_) | (refine sl_addr rfl 26 5 _ _ rfl rfl _ k rfl Try.underlying26 info8 size8 hlt ?_) | (refine sl_addr rfl 54 5 _ _ rfl rfl _ k rfl Try.underlying54 info8 size8 h32 ?_) | (refine sl_addr rfl 54 5 _ _ rfl rfl _ (16 + k) rfl Try.underlying54 info8 size8 h33 ?_) | (refine sl_cell hS rfl _ _ rfl rfl (by repeat (first | exact Has.hd | apply Has.tl)) Xv1.out (by intro w hc; go_simp) ?_) | (refine sl_cell hS rfl _ _ rfl rfl (by repeat (first | exact Has.hd | apply Has.tl)) Xv2.out (by intro w hc; go_simp) ?_) | ((with_reducible show wpList _ _ _ (⟨_, .store _ _ _, _, _, _, _⟩ :: _) _ _); refine sl_put hS rfl 5 _ _ rfl rfl rfl (by repeat (first | exact Rep.hd | apply Rep.tl)) (by exact h32) Xp1'.out info8 size8 rfl ?_; clear hS; intro wk hS) | ((with_reducible show wpList _ _ _ (⟨_, .store _ _ _, _, _, _, _⟩ :: _) _ _); refine sl_put hS rfl 5 _ _ rfl rfl rfl (by repeat (first | exact Rep.hd | apply Rep.tl)) (by exact h33) Xp2'.out info8 size8 rfl ?_; clear hS; intro wk hS) | (apply sl_val rfl; focus (intro w; go_simp; (try simp (disch := omega) only [IntWalk.i64_in, IntWalk.u64_in, IntWalk.u8_in, IntWalk.u32_in, IntWalk.i32_in]); first | exact rfl | rfl)) | (refine sl_skip rfl ?_)); go_simp)
      go_upto_region 6 with (fail)
      try refine wp_region_lit ?_
      iterate 7 ((first | (refine sl_load hS rfl 26 _ rfl rfl (by repeat (first | exact Has.hd | apply Has.tl)) Try.underlying26 rfl (by exact infoV) ?_) | (refine sl_store hS rfl 26 _ _ rfl rfl rfl (by repeat (first | exact Rep.hd | apply Rep.tl)) (by exact infoV) (by rfl) (bs_one _) ?_; clear hS; intro wk hS) | (refine sl_val rfl (run_add rfl rfl rfl XT0.out) ?_) | (refine sl_addr rfl 26 5 _ _ rfl rfl _ k rfl Try.underlying26 info8 size8 hlt ?_) | (refine sl_addr rfl 54 5 _ _ rfl rfl _ k rfl Try.underlying54 info8 size8 h32 ?_) | (refine sl_addr rfl 54 5 _ _ rfl rfl _ (16 + k) rfl Try.underlying54 info8 size8 h33 ?_) | (refine sl_cell hS rfl _ _ rfl rfl (by repeat (first | exact Has.hd | apply Has.tl)) Xv1.out (by intro w hc; go_simp) ?_) | (refine sl_cell hS rfl _ _ rfl rfl (by repeat (first | exact Has.hd | apply Has.tl)) Xv2.out (by intro w hc; go_simp) ?_) | ((with_reducible show wpList _ _ _ (⟨_, .store _ _ _, _, _, _, _⟩ :: _) _ _); refine sl_put hS rfl 5 _ _ rfl rfl rfl (by repeat (first | exact Rep.hd | apply Rep.tl)) (by exact h32) Xp1'.out info8 size8 rfl ?_; clear hS; intro wk hS) | ((with_reducible show wpList _ _ _ (⟨_, .store _ _ _, _, _, _, _⟩ :: _) _ _); refine sl_put hS rfl 5 _ _ rfl rfl rfl (by repeat (first | exact Rep.hd | apply Rep.tl)) (by exact h33) Xp2'.out info8 size8 rfl ?_; clear hS; intro wk hS) | (apply sl_val rfl; focus (intro w; go_simp; (try simp (disch := omega) only [IntWalk.i64_in, IntWalk.u64_in, IntWalk.u8_in, IntWalk.u32_in, IntWalk.i32_in]); first | exact rfl | rfl)) | (refine sl_skip rfl ?_)); go_simp)
      go_wp2_with fail
      have X4 := X2.out
      exact ⟨⟨k + 1, by omega, by go_num, hS⟩, by simp [intOf]; omega⟩
    · obtain rfl : k = 16 := by omega
      go_upto_region 7 with (fail)
      try refine wp_region_lit ?_
      iterate 3 ((first | (refine sl_load hS rfl 26 _ rfl rfl (by repeat (first | exact Has.hd | apply Has.tl)) Try.underlying26 rfl (by exact infoV) ?_) | (refine sl_store hS rfl 26 _ _ rfl rfl rfl (by repeat (first | exact Rep.hd | apply Rep.tl)) (by exact infoV) (by rfl) (bs_one _) ?_; clear hS; intro wk hS) | ((with_reducible show wpList _ _ _ (⟨_, .build 26 _, _, _, _, _⟩ :: _) _ _); refine wpList_build_at rfl 26 _ rfl (bs fun _ => 0) (by first | (simp only [List.map_toArray, List.map_cons, List.map_nil]; kernel_rfl) | kernel_rfl) ?_) | ((with_reducible show wpList _ _ _ (⟨_, .alloc 26 , _, _, _, _⟩ :: _) _ _); refine sl_box hS rfl _ 26 (alloc_vec rfl) ?_; clear hS; intro p6 wk hS) | ((with_reducible show wpList _ _ _ (⟨_, .store 26 _ _, _, _, _, _⟩ :: _) _ _); refine sl_store hS rfl 26 _ _ rfl rfl rfl (by repeat (first | exact Rep.hd | apply Rep.tl)) (by kernel_rfl) (by rfl) (by kernel_rfl) ?_; clear hS; intro wk hS) | (apply sl_val rfl; focus (intro w; go_simp; (try simp (disch := omega) only [IntWalk.i64_in, IntWalk.u64_in, IntWalk.u8_in, IntWalk.u32_in, IntWalk.i32_in]); first | exact rfl | rfl)) | (refine sl_skip rfl ?_)); go_simp)
      go_wp2_with fail
      go_loopw [11] (fun u wr => ∃ k : Nat, k ≤ 16 ∧ u = .int .i64 k ∧ (∀ i, i < k → s i < 32) ∧ St w [⟨p6, bs (upto k (shV a b s)), 26⟩, ⟨p5, bs32 (boK a b 16), 54⟩, ⟨p4, bs (fun _ => 0), 26⟩, ⟨p3, bs b, 26⟩, ⟨p2, bs a, 26⟩, ⟨p1, bs s, 26⟩] wr) (fun u _ => 16 - (intOf u).toNat)
      case atStart => exact ⟨0, by omega, rfl, (fun i hi => absurd hi (Nat.not_lt_zero _)), by rw [upto0]; exact hS⟩
      case round =>
        obtain ⟨k, hk, rfl, hJ, hS⟩ := hrel
        by_cases hlt : k < 16
        · have HJ := Lib.hid hJ
          clear hJ
          have v1 := bs_get s k hlt
          have hb := HB.out k
          obtain ⟨x, hx⟩ : ∃ x : Nat, s k = x := ⟨(s k).toNat, by omega⟩
          have hx' := Lib.hid hx
          rw [hx] at v1 hb
          have T1 : IntKind.i64.wrap ((k : Int) + 1) = (k : Int) + 1 := IntWalk.i64_in _ (by omega)
          have T2 : decide ((k : Int) < 16) = true := by simp; omega
          have X2 := Lib.hid hlt
          by_cases hd : x < 32
          case neg =>
            have T3 : decide (31 < (x : Int)) = true := decide_eq_true (by omega)
            clear hk hb hx hd
            have Xv1 := Lib.hid v1
            clear v1
            go_upto_region 11 with (fail)
            try refine wp_region_lit ?_
            iterate 4 ((first | (refine sl_load hS rfl 26 _ rfl rfl (by repeat (first | exact Has.hd | apply Has.tl)) Try.underlying26 rfl (by exact infoV) ?_) | (refine sl_store hS rfl 26 _ _ rfl rfl rfl (by repeat (first | exact Rep.hd | apply Rep.tl)) (by exact infoV) (by rfl) (bs_one _) ?_; clear hS; intro wk hS) | (refine sl_val rfl (run_gtr rfl rfl rfl T3) ?_) | (refine sl_addr rfl 26 5 _ _ rfl rfl _ k rfl Try.underlying26 info8 size8 hlt ?_) | (refine sl_cell hS rfl _ _ rfl rfl (by repeat (first | exact Has.hd | apply Has.tl)) Xv1.out (by intro w hc; go_simp) ?_) | (apply sl_val rfl; focus (intro w; go_simp; (try simp (disch := omega) only [IntWalk.i64_in, IntWalk.u64_in, IntWalk.u8_in, IntWalk.u32_in, IntWalk.i32_in]); first | exact rfl | rfl)) | (refine sl_skip rfl ?_)); go_simp)
            go_upto_region 12 with (fail)
            try refine wp_region_lit ?_
            iterate 3 ((first | (refine sl_load hS rfl 26 _ rfl rfl (by repeat (first | exact Has.hd | apply Has.tl)) Try.underlying26 rfl (by exact infoV) ?_) | (refine sl_store hS rfl 26 _ _ rfl rfl rfl (by repeat (first | exact Rep.hd | apply Rep.tl)) (by exact infoV) (by rfl) (bs_one _) ?_; clear hS; intro wk hS) | ((with_reducible show wpList _ _ _ (⟨_, .build 26 _, _, _, _, _⟩ :: _) _ _); refine wpList_build_at rfl 26 _ rfl (bs fun _ => 0) (by first | (simp only [List.map_toArray, List.map_cons, List.map_nil]; kernel_rfl) | kernel_rfl) ?_) | ((with_reducible show wpList _ _ _ (⟨_, .store 26 _ _, _, _, _, _⟩ :: _) _ _); refine sl_store hS rfl 26 _ _ rfl rfl rfl (by repeat (first | exact Rep.hd | apply Rep.tl)) (by kernel_rfl) (by rfl) (by kernel_rfl) ?_; clear hS; intro wk hS) | (apply sl_val rfl; focus (intro w; go_simp; (try simp (disch := omega) only [IntWalk.i64_in, IntWalk.u64_in, IntWalk.u8_in, IntWalk.u32_in, IntWalk.i32_in]); first | exact rfl | rfl)) | (refine sl_skip rfl ?_)); go_simp)
            go_wp2_with fail
            refine sl_ret2 hS Try.results17 (by rfl) (by repeat (first | exact Has.hd | apply Has.tl)) Try.underlying26 rfl (by exact infoV) (by rfl) ?_
            exact ⟨rfl, hS.gr⟩
          have h32 : x < 32 := hd
          have v2 := bs32_get (boK a b 16) x hd
          rw [boK_at a b s k x hx hd] at v2
          have p1' := bs_upd (upto k (shV a b s)) k (shV a b s k) hlt
          rw [upto_succ] at p1'
          have T3 : decide (31 < (x : Int)) = false := decide_eq_false (by omega)
          generalize shV a b s k = z at *
          clear hk hb hx hd
          have Xv1 := Lib.hid v1
          clear v1
          have Xv2 := Lib.hid v2
          clear v2
          have Xp1' := Lib.hid p1'
          clear p1'
          go_upto_region 11 with (fail)
          try refine wp_region_lit ?_
          iterate 4 ((first | (refine sl_load hS rfl 26 _ rfl rfl (by repeat (first | exact Has.hd | apply Has.tl)) Try.underlying26 rfl (by exact infoV) ?_) | (refine sl_store hS rfl 26 _ _ rfl rfl rfl (by repeat (first | exact Rep.hd | apply Rep.tl)) (by exact infoV) (by rfl) (bs_one _) ?_; clear hS; intro wk hS) | (refine sl_val rfl (run_gtr rfl rfl rfl T3) ?_) | (refine sl_addr rfl 26 5 _ _ rfl rfl _ k rfl Try.underlying26 info8 size8 hlt ?_) | (refine sl_addr rfl 54 5 _ _ rfl rfl _ x rfl Try.underlying54 info8 size8 h32 ?_) | (refine sl_cell hS rfl _ _ rfl rfl (by repeat (first | exact Has.hd | apply Has.tl)) Xv1.out (by intro w hc; go_simp) ?_) | (refine sl_cell hS rfl _ _ rfl rfl (by repeat (first | exact Has.hd | apply Has.tl)) Xv2.out (by intro w hc; go_simp) ?_) | ((with_reducible show wpList _ _ _ (⟨_, .store _ _ _, _, _, _, _⟩ :: _) _ _); refine sl_put hS rfl 5 _ _ rfl rfl rfl (by repeat (first | exact Rep.hd | apply Rep.tl)) (by exact hlt) Xp1'.out info8 size8 rfl ?_; clear hS; intro wk hS) | (apply sl_val rfl; focus (intro w; go_simp; (try simp (disch := omega) only [IntWalk.i64_in, IntWalk.u64_in, IntWalk.u8_in, IntWalk.u32_in, IntWalk.i32_in]); first | exact rfl | rfl)) | (refine sl_skip rfl ?_)); go_simp)
          go_upto_region 13 with (fail)
          try refine wp_region_lit ?_
          iterate 8 ((first | (refine sl_load hS rfl 26 _ rfl rfl (by repeat (first | exact Has.hd | apply Has.tl)) Try.underlying26 rfl (by exact infoV) ?_) | (refine sl_store hS rfl 26 _ _ rfl rfl rfl (by repeat (first | exact Rep.hd | apply Rep.tl)) (by exact infoV) (by rfl) (bs_one _) ?_; clear hS; intro wk hS) | (refine sl_val rfl (run_gtr rfl rfl rfl T3) ?_) | (refine sl_addr rfl 26 5 _ _ rfl rfl _ k rfl Try.underlying26 info8 size8 hlt ?_) | (refine sl_addr rfl 54 5 _ _ rfl rfl _ x rfl Try.underlying54 info8 size8 h32 ?_) | (refine sl_cell hS rfl _ _ rfl rfl (by repeat (first | exact Has.hd | apply Has.tl)) Xv1.out (by intro w hc; go_simp) ?_) | (refine sl_cell hS rfl _ _ rfl rfl (by repeat (first | exact Has.hd | apply Has.tl)) Xv2.out (by intro w hc; go_simp) ?_) | ((with_reducible show wpList _ _ _ (⟨_, .store _ _ _, _, _, _, _⟩ :: _) _ _); refine sl_put hS rfl 5 _ _ rfl rfl rfl (by repeat (first | exact Rep.hd | apply Rep.tl)) (by exact hlt) Xp1'.out info8 size8 rfl ?_; clear hS; intro wk hS) | (apply sl_val rfl; focus (intro w; go_simp; (try simp (disch := omega) only [IntWalk.i64_in, IntWalk.u64_in, IntWalk.u8_in, IntWalk.u32_in, IntWalk.i32_in]); first | exact rfl | rfl)) | (refine sl_skip rfl ?_)); go_simp)
          go_wp2_with fail
          have X4 := X2.out
          exact ⟨⟨k + 1, by omega, by go_num, (fun i hi => by by_cases h : i = k; exact h ▸ (by rw [hx'.out]; omega); exact HJ.out i (by omega)), hS⟩, by simp [intOf]; omega⟩
        · exfalso
          obtain ⟨m, hm, h32⟩ := HO.out
          have := hJ m (by omega)
          omega
def sk (a s : Nat → Int) (i k : Nat) : Nat → Int := fun m => if m < i then swzV a s m else if m = i ∧ s i < k then a (s i).toNat else 0
theorem sk0 (a s : Nat → Int) (i : Nat) (h : 0 ≤ s i) : sk a s i 0 = upto i (swzV a s) := by
  funext m; unfold sk upto
  by_cases h1 : m < i
  · rw [if_pos h1, if_pos h1]
  · rw [if_neg h1, if_neg h1, if_neg (by omega)]
theorem sk16 (a s : Nat → Int) (i : Nat) : sk a s i 16 = upto (i + 1) (swzV a s) := by
  funext m; unfold sk upto
  by_cases h1 : m < i
  · rw [if_pos h1, if_pos (by omega)]
  · rw [if_neg h1]
    by_cases h2 : m = i
    · subst h2
      have e : (if m < m + 1 then swzV a s m else 0) = swzV a s m := if_pos (by omega)
      rw [e]
      unfold swzV
      by_cases h3 : s m < 16
      · rw [if_pos (show m = m ∧ s m < ((16 : Nat) : Int) from ⟨rfl, by omega⟩), if_pos h3]
      · rw [if_neg (show ¬ (m = m ∧ s m < ((16 : Nat) : Int)) by omega), if_neg h3]
    · rw [if_neg (by omega), if_neg (by omega)]
theorem sk_hit (a s : Nat → Int) (i k : Nat) (h : s i = k) : upd (sk a s i k) i (a k) = sk a s i (k + 1) := by
  funext m; unfold upd sk
  by_cases h2 : m = i
  · subst h2; rw [if_pos rfl, if_neg (by omega), if_pos ⟨rfl, by omega⟩, h]; rfl
  · rw [if_neg h2]
    by_cases h1 : m < i
    · rw [if_pos h1, if_pos h1]
    · rw [if_neg h1, if_neg h1, if_neg (by omega), if_neg (by omega)]
theorem sk_miss (a s : Nat → Int) (i k : Nat) (h : s i ≠ k) : sk a s i k = sk a s i (k + 1) := by
  funext m; unfold sk
  by_cases h1 : m < i
  · rw [if_pos h1, if_pos h1]
  · rw [if_neg h1, if_neg h1]
    by_cases h2 : m = i ∧ s i < k
    · rw [if_pos h2, if_pos (by omega)]
    · rw [if_neg h2, if_neg (by omega)]
set_option maxRecDepth 100000 in
set_option maxHeartbeats 4000000 in
theorem rswizzle_any (a s : Nat → Int) (hs : Byt s) (w : World) : Calls Try.prog 19 #[.agg (bs a), .agg (bs s)] w fun e w' => e = .returned (.agg (bs (swzV a s))) ∧ Gr w w' := by
  rw [← upto_all (swzV a s)]
  have HB := Lib.hid hs
  clear hs
  have hS := St.start w
  go_enter Try.func19, Try.ntmps19
  go_upto_region 0 with (fail)
  refine wp_region_lit ?_
  refine sl_box hS rfl _ 26 (box_vec rfl rfl) ?_
  clear hS
  intro p1 wk hS
  refine sl_box hS rfl _ 26 (box_vec rfl rfl) ?_
  clear hS
  intro p2 wk hS
  refine sl_box hS rfl _ 26 (alloc_vec rfl) ?_
  clear hS
  intro p3 wk hS
  go_upto_region 1 with (fail)
  try refine wp_region_lit ?_
  iterate 3 ((first | (refine sl_load hS rfl 26 _ rfl rfl (by repeat (first | exact Has.hd | apply Has.tl)) Try.underlying26 rfl (by exact infoV) ?_) | (refine sl_store hS rfl 26 _ _ rfl rfl rfl (by repeat (first | exact Rep.hd | apply Rep.tl)) (by exact infoV) (by rfl) (bs_one _) ?_; clear hS; intro wk hS) | ((with_reducible show wpList _ _ _ (⟨_, .build 26 _, _, _, _, _⟩ :: _) _ _); refine wpList_build_at rfl 26 _ rfl (bs fun _ => 0) (by first | (simp only [List.map_toArray, List.map_cons, List.map_nil]; kernel_rfl) | kernel_rfl) ?_) | ((with_reducible show wpList _ _ _ (⟨_, .alloc 26 , _, _, _, _⟩ :: _) _ _); refine sl_box hS rfl _ 26 (alloc_vec rfl) ?_; clear hS; intro p4 wk hS) | ((with_reducible show wpList _ _ _ (⟨_, .store 26 _ _, _, _, _, _⟩ :: _) _ _); refine sl_store hS rfl 26 _ _ rfl rfl rfl (by repeat (first | exact Rep.hd | apply Rep.tl)) (by kernel_rfl) (by rfl) (by kernel_rfl) ?_; clear hS; intro wk hS) | (apply sl_val rfl; focus (intro w; go_simp; (try simp (disch := omega) only [IntWalk.i64_in, IntWalk.u64_in, IntWalk.u8_in, IntWalk.u32_in, IntWalk.i32_in]); first | exact rfl | rfl)) | (refine sl_skip rfl ?_)); go_simp)
  go_wp2_with fail
  go_loopw [6] (fun u wr => ∃ i : Nat, i ≤ 16 ∧ u = .int .i64 i ∧ St w [⟨p4, bs (upto i (swzV a s)), 26⟩, ⟨p3, bs (fun _ => 0), 26⟩, ⟨p2, bs s, 26⟩, ⟨p1, bs a, 26⟩] wr) (fun u _ => 16 - (intOf u).toNat)
  case atStart => exact ⟨0, by omega, rfl, by rw [upto0]; exact hS⟩
  case round =>
    obtain ⟨i, hi, rfl, hS⟩ := hrel
    by_cases hlt : i < 16
    · have T2 : decide ((i : Int) < 16) = true := by simp; omega
      have T1 : IntKind.i64.wrap ((i : Int) + 1) = (i : Int) + 1 := IntWalk.i64_in _ (by omega)
      have X2 := Lib.hid hlt
      clear hi
      go_upto_region 5 with (fail)
      try refine wp_region_lit ?_
      iterate 1 ((first | (refine sl_load hS rfl 26 _ rfl rfl (by repeat (first | exact Has.hd | apply Has.tl)) Try.underlying26 rfl (by exact infoV) ?_) | (refine sl_store hS rfl 26 _ _ rfl rfl rfl (by repeat (first | exact Rep.hd | apply Rep.tl)) (by exact infoV) (by rfl) (bs_one _) ?_; clear hS; intro wk hS) | (apply sl_val rfl; focus (intro w; go_simp; (try simp (disch := omega) only [IntWalk.i64_in, IntWalk.u64_in, IntWalk.u8_in, IntWalk.u32_in, IntWalk.i32_in]); first | exact rfl | rfl)) | (refine sl_skip rfl ?_)); go_simp)
      go_wp2_with fail
      go_loopw [7] (fun u wr => ∃ k : Nat, k ≤ 16 ∧ u = .int .i64 k ∧ St w [⟨p4, bs (sk a s i k), 26⟩, ⟨p3, bs (fun _ => 0), 26⟩, ⟨p2, bs s, 26⟩, ⟨p1, bs a, 26⟩] wr) (fun u _ => 16 - (intOf u).toNat)
      case atStart => exact ⟨0, by omega, rfl, by rw [sk0 a s i (HB.out i).1]; exact hS⟩
      case round =>
        obtain ⟨k, hk, rfl, hS⟩ := hrel
        by_cases hkl : k < 16
        · have S2 : decide ((k : Int) < 16) = true := by simp; omega
          have S1 : IntKind.i64.wrap ((k : Int) + 1) = (k : Int) + 1 := IntWalk.i64_in _ (by omega)
          have X3 := Lib.hid hkl
          have v1 := bs_get s i hlt
          have v2 := bs_get a k hkl
          have hb := HB.out i
          obtain ⟨y, hy⟩ : ∃ y : Nat, s i = y := ⟨(s i).toNat, by omega⟩
          have T3 : IntKind.i64.wrap (y : Int) = (y : Int) := IntWalk.i64_in _ (by omega)
          by_cases hc : y = k
          · subst hc
            have hW := Lib.hid (sk_hit a s i y hy)
            have p1' := Lib.hid (bs_upd (sk a s i y) i (a y) hlt)
            have T4 : ((y : Int) == (y : Int)) = true := by simp
            rw [hy] at v1
            generalize a y = z at *
            clear hb hk hy
            have Xv1 := Lib.hid v1
            clear v1
            have Xv2 := Lib.hid v2
            clear v2
            go_upto_region 8 with (fail)
            try refine wp_region_lit ?_
            iterate 6 ((first | (refine sl_load hS rfl 26 _ rfl rfl (by repeat (first | exact Has.hd | apply Has.tl)) Try.underlying26 rfl (by exact infoV) ?_) | (refine sl_store hS rfl 26 _ _ rfl rfl rfl (by repeat (first | exact Rep.hd | apply Rep.tl)) (by exact infoV) (by rfl) (bs_one _) ?_; clear hS; intro wk hS) | (refine sl_val rfl (run_eql rfl rfl rfl T4) ?_) | (refine sl_val rfl (run_conv rfl rfl Try.underlying5 Try.underlying3 T3) ?_) | (refine sl_addr rfl 26 5 _ _ rfl rfl _ i rfl Try.underlying26 info8 size8 hlt ?_) | (refine sl_addr rfl 26 5 _ _ rfl rfl _ y rfl Try.underlying26 info8 size8 hkl ?_) | (refine sl_addr rfl 26 5 _ _ rfl rfl _ k rfl Try.underlying26 info8 size8 hkl ?_) | (refine sl_cell hS rfl _ _ rfl rfl (by repeat (first | exact Has.hd | apply Has.tl)) Xv1.out (by intro w hc; go_simp) ?_) | (refine sl_cell hS rfl _ _ rfl rfl (by repeat (first | exact Has.hd | apply Has.tl)) Xv2.out (by intro w hc; go_simp) ?_) | ((with_reducible show wpList _ _ _ (⟨_, .store _ _ _, _, _, _, _⟩ :: _) _ _); refine sl_put hS rfl 5 _ _ rfl rfl rfl (by repeat (first | exact Rep.hd | apply Rep.tl)) (by exact hlt) p1'.out info8 size8 rfl ?_; clear hS; intro wk hS) | (apply sl_val rfl; focus (intro w; go_simp; (try simp (disch := omega) only [IntWalk.i64_in, IntWalk.u64_in, IntWalk.u8_in, IntWalk.u32_in, IntWalk.i32_in]); first | exact rfl | rfl)) | (refine sl_skip rfl ?_)); go_simp)
            go_upto_region 9 with (fail)
            try refine wp_region_lit ?_
            iterate 6 ((first | (refine sl_load hS rfl 26 _ rfl rfl (by repeat (first | exact Has.hd | apply Has.tl)) Try.underlying26 rfl (by exact infoV) ?_) | (refine sl_store hS rfl 26 _ _ rfl rfl rfl (by repeat (first | exact Rep.hd | apply Rep.tl)) (by exact infoV) (by rfl) (bs_one _) ?_; clear hS; intro wk hS) | (refine sl_val rfl (run_eql rfl rfl rfl T4) ?_) | (refine sl_val rfl (run_conv rfl rfl Try.underlying5 Try.underlying3 T3) ?_) | (refine sl_addr rfl 26 5 _ _ rfl rfl _ i rfl Try.underlying26 info8 size8 hlt ?_) | (refine sl_addr rfl 26 5 _ _ rfl rfl _ y rfl Try.underlying26 info8 size8 hkl ?_) | (refine sl_addr rfl 26 5 _ _ rfl rfl _ k rfl Try.underlying26 info8 size8 hkl ?_) | (refine sl_cell hS rfl _ _ rfl rfl (by repeat (first | exact Has.hd | apply Has.tl)) Xv1.out (by intro w hc; go_simp) ?_) | (refine sl_cell hS rfl _ _ rfl rfl (by repeat (first | exact Has.hd | apply Has.tl)) Xv2.out (by intro w hc; go_simp) ?_) | ((with_reducible show wpList _ _ _ (⟨_, .store _ _ _, _, _, _, _⟩ :: _) _ _); refine sl_put hS rfl 5 _ _ rfl rfl rfl (by repeat (first | exact Rep.hd | apply Rep.tl)) (by exact hlt) p1'.out info8 size8 rfl ?_; clear hS; intro wk hS) | (apply sl_val rfl; focus (intro w; go_simp; (try simp (disch := omega) only [IntWalk.i64_in, IntWalk.u64_in, IntWalk.u8_in, IntWalk.u32_in, IntWalk.i32_in]); first | exact rfl | rfl)) | (refine sl_skip rfl ?_)); go_simp)
            go_wp2_with fail
            have X4 := X3.out
            exact ⟨⟨y + 1, by omega, by go_num, by rw [← hW.out]; exact hS⟩, by simp [intOf]; omega⟩
          · have hW := Lib.hid (sk_miss a s i k (by rw [hy]; omega))
            have T4 : ((y : Int) == (k : Int)) = false := beq_eq_false_iff_ne.2 (by omega)
            rw [hy] at v1
            clear hb hk hy hc
            have Xv1 := Lib.hid v1
            clear v1
            go_upto_region 8 with (fail)
            try refine wp_region_lit ?_
            iterate 6 ((first | (refine sl_load hS rfl 26 _ rfl rfl (by repeat (first | exact Has.hd | apply Has.tl)) Try.underlying26 rfl (by exact infoV) ?_) | (refine sl_store hS rfl 26 _ _ rfl rfl rfl (by repeat (first | exact Rep.hd | apply Rep.tl)) (by exact infoV) (by rfl) (bs_one _) ?_; clear hS; intro wk hS) | (refine sl_val rfl (run_eql rfl rfl rfl T4) ?_) | (refine sl_val rfl (run_conv rfl rfl Try.underlying5 Try.underlying3 T3) ?_) | (refine sl_addr rfl 26 5 _ _ rfl rfl _ i rfl Try.underlying26 info8 size8 hlt ?_) | (refine sl_addr rfl 26 5 _ _ rfl rfl _ y rfl Try.underlying26 info8 size8 hkl ?_) | (refine sl_cell hS rfl _ _ rfl rfl (by repeat (first | exact Has.hd | apply Has.tl)) Xv1.out (by intro w hc; go_simp) ?_) | (apply sl_val rfl; focus (intro w; go_simp; (try simp (disch := omega) only [IntWalk.i64_in, IntWalk.u64_in, IntWalk.u8_in, IntWalk.u32_in, IntWalk.i32_in]); first | exact rfl | rfl)) | (refine sl_skip rfl ?_)); go_simp)
            go_wp2_with fail
            have X4 := X3.out
            exact ⟨⟨k + 1, by omega, by go_num, by rw [← hW.out]; exact hS⟩, by simp [intOf]; omega⟩
        · obtain rfl : k = 16 := by omega
          rw [sk16] at hS
          clear hk hkl
          go_wp2_with fail
          have X4 := X2.out
          exact ⟨⟨i + 1, by omega, by go_num, hS⟩, by simp [intOf]; omega⟩
    · obtain rfl : i = 16 := by omega
      go_wp2_with (first | (refine sl_load hS rfl 26 _ rfl rfl (by repeat (first | exact Has.hd | apply Has.tl)) Try.underlying26 rfl (by exact infoV) ?_) | (refine sl_store hS rfl 26 _ _ rfl rfl rfl (by repeat (first | exact Rep.hd | apply Rep.tl)) (by exact infoV) (by rfl) (bs_one _) ?_; clear hS; intro wk hS) | (refine sl_box hS rfl _ 26 (box_vec rfl rfl) ?_; clear hS; intro bk wk hS) | (refine sl_box hS rfl _ 26 (alloc_vec rfl) ?_; clear hS; intro bk wk hS) | (refine onlyN_end ?_) | (refine onlyN_now ?_))
      refine sl_ret hS Try.results19 (by rfl) (by repeat (first | exact Has.hd | apply Has.tl)) Try.underlying26 rfl (by exact infoV) (by rfl) ?_
      exact ⟨rfl, hS.gr⟩
end Mv
end Go.Proofs.Ytaahkpjdffgagaa
