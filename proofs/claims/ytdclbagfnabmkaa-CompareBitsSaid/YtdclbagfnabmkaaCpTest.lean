/-
  Of layer 6: compare.Test for all opcodes and vectors, with shapes.Whole, full, signs, truth. Conditions: bytes.
-/
import Derived.Test.YtdclbagfnabmkaaCpCmp
namespace Go.Proofs.Ytdclbagfnabmkaa
open Go.RowKit VecM
namespace Cp
def wW (op : Int) : Int := if op = 64851 ∨ op = 64867 ∨ op = 64868 then 8 else if op = 64899 ∨ op = 64900 then 16 else if op = 64931 ∨ op = 64932 then 32 else if op = 64963 ∨ op = 64964 then 64 else 0
def wK (op : Int) : Int := if op = 64851 then 64851 else if op = 64867 ∨ op = 64899 ∨ op = 64931 ∨ op = 64963 then 64867 else if op = 64868 ∨ op = 64900 ∨ op = 64932 ∨ op = 64964 then 64868 else 0
theorem whole_51 (w : World) : Calls Try.prog 31 #[.int .i64 64851] w fun e w' => e = .returned (.tuple #[.int .i64 8, .int .i64 64851]) ∧ w = w' := by
  go_enter Try.func31, Try.ntmps31
  go_wp2
  go_ret2
  exact ⟨rfl, rfl⟩
theorem whole_64867 (w : World) : Calls Try.prog 31 #[.int .i64 64867] w fun e w' => e = .returned (.tuple #[.int .i64 8, .int .i64 64867]) ∧ w = w' := by
  go_enter Try.func31, Try.ntmps31
  go_wp2
  go_loopw [7] (fun u wr => ∃ k : Int, (k = 0) ∧ u = .int .i64 k ∧ w = wr) (fun u _ => (8 - intOf u).toNat)
  case atStart => exact ⟨0, by omega, rfl, rfl⟩
  case round =>
    obtain ⟨k, hk, rfl, rfl⟩ := hrel
    subst hk
    · go_wp2
      go_ret2
      exact ⟨rfl, rfl⟩
theorem whole_64868 (w : World) : Calls Try.prog 31 #[.int .i64 64868] w fun e w' => e = .returned (.tuple #[.int .i64 8, .int .i64 64868]) ∧ w = w' := by
  go_enter Try.func31, Try.ntmps31
  go_wp2
  go_loopw [7] (fun u wr => ∃ k : Int, (k = 0) ∧ u = .int .i64 k ∧ w = wr) (fun u _ => (8 - intOf u).toNat)
  case atStart => exact ⟨0, by omega, rfl, rfl⟩
  case round =>
    obtain ⟨k, hk, rfl, rfl⟩ := hrel
    subst hk
    · go_wp2
      go_ret2
      exact ⟨rfl, rfl⟩
theorem whole_64899 (w : World) : Calls Try.prog 31 #[.int .i64 64899] w fun e w' => e = .returned (.tuple #[.int .i64 16, .int .i64 64867]) ∧ w = w' := by
  go_enter Try.func31, Try.ntmps31
  go_wp2
  go_loopw [7] (fun u wr => ∃ k : Int, (k = 0 ∨ k = 1) ∧ u = .int .i64 k ∧ w = wr) (fun u _ => (8 - intOf u).toNat)
  case atStart => exact ⟨0, by omega, rfl, rfl⟩
  case round =>
    obtain ⟨k, hk, rfl, rfl⟩ := hrel
    rcases hk with rfl | rfl
    · go_wp2
      exact ⟨⟨1, by omega, rfl, trivial⟩, by simp [intOf]⟩
    · go_wp2
      go_ret2
      exact ⟨rfl, rfl⟩
theorem whole_64900 (w : World) : Calls Try.prog 31 #[.int .i64 64900] w fun e w' => e = .returned (.tuple #[.int .i64 16, .int .i64 64868]) ∧ w = w' := by
  go_enter Try.func31, Try.ntmps31
  go_wp2
  go_loopw [7] (fun u wr => ∃ k : Int, (k = 0 ∨ k = 1) ∧ u = .int .i64 k ∧ w = wr) (fun u _ => (8 - intOf u).toNat)
  case atStart => exact ⟨0, by omega, rfl, rfl⟩
  case round =>
    obtain ⟨k, hk, rfl, rfl⟩ := hrel
    rcases hk with rfl | rfl
    · go_wp2
      exact ⟨⟨1, by omega, rfl, trivial⟩, by simp [intOf]⟩
    · go_wp2
      go_ret2
      exact ⟨rfl, rfl⟩
theorem whole_64931 (w : World) : Calls Try.prog 31 #[.int .i64 64931] w fun e w' => e = .returned (.tuple #[.int .i64 32, .int .i64 64867]) ∧ w = w' := by
  go_enter Try.func31, Try.ntmps31
  go_wp2
  go_loopw [7] (fun u wr => ∃ k : Int, (k = 0 ∨ k = 1 ∨ k = 2) ∧ u = .int .i64 k ∧ w = wr) (fun u _ => (8 - intOf u).toNat)
  case atStart => exact ⟨0, by omega, rfl, rfl⟩
  case round =>
    obtain ⟨k, hk, rfl, rfl⟩ := hrel
    rcases hk with rfl | rfl | rfl
    · go_wp2
      exact ⟨⟨1, by omega, rfl, trivial⟩, by simp [intOf]⟩
    · go_wp2
      exact ⟨⟨2, by omega, rfl, trivial⟩, by simp [intOf]⟩
    · go_wp2
      go_ret2
      exact ⟨rfl, rfl⟩
theorem whole_64932 (w : World) : Calls Try.prog 31 #[.int .i64 64932] w fun e w' => e = .returned (.tuple #[.int .i64 32, .int .i64 64868]) ∧ w = w' := by
  go_enter Try.func31, Try.ntmps31
  go_wp2
  go_loopw [7] (fun u wr => ∃ k : Int, (k = 0 ∨ k = 1 ∨ k = 2) ∧ u = .int .i64 k ∧ w = wr) (fun u _ => (8 - intOf u).toNat)
  case atStart => exact ⟨0, by omega, rfl, rfl⟩
  case round =>
    obtain ⟨k, hk, rfl, rfl⟩ := hrel
    rcases hk with rfl | rfl | rfl
    · go_wp2
      exact ⟨⟨1, by omega, rfl, trivial⟩, by simp [intOf]⟩
    · go_wp2
      exact ⟨⟨2, by omega, rfl, trivial⟩, by simp [intOf]⟩
    · go_wp2
      go_ret2
      exact ⟨rfl, rfl⟩
theorem whole_64963 (w : World) : Calls Try.prog 31 #[.int .i64 64963] w fun e w' => e = .returned (.tuple #[.int .i64 64, .int .i64 64867]) ∧ w = w' := by
  go_enter Try.func31, Try.ntmps31
  go_wp2
  go_loopw [7] (fun u wr => ∃ k : Int, (k = 0 ∨ k = 1 ∨ k = 2 ∨ k = 3) ∧ u = .int .i64 k ∧ w = wr) (fun u _ => (8 - intOf u).toNat)
  case atStart => exact ⟨0, by omega, rfl, rfl⟩
  case round =>
    obtain ⟨k, hk, rfl, rfl⟩ := hrel
    rcases hk with rfl | rfl | rfl | rfl
    · go_wp2
      exact ⟨⟨1, by omega, rfl, trivial⟩, by simp [intOf]⟩
    · go_wp2
      exact ⟨⟨2, by omega, rfl, trivial⟩, by simp [intOf]⟩
    · go_wp2
      exact ⟨⟨3, by omega, rfl, trivial⟩, by simp [intOf]⟩
    · go_wp2
      go_ret2
      exact ⟨rfl, rfl⟩
theorem whole_64964 (w : World) : Calls Try.prog 31 #[.int .i64 64964] w fun e w' => e = .returned (.tuple #[.int .i64 64, .int .i64 64868]) ∧ w = w' := by
  go_enter Try.func31, Try.ntmps31
  go_wp2
  go_loopw [7] (fun u wr => ∃ k : Int, (k = 0 ∨ k = 1 ∨ k = 2 ∨ k = 3) ∧ u = .int .i64 k ∧ w = wr) (fun u _ => (8 - intOf u).toNat)
  case atStart => exact ⟨0, by omega, rfl, rfl⟩
  case round =>
    obtain ⟨k, hk, rfl, rfl⟩ := hrel
    rcases hk with rfl | rfl | rfl | rfl
    · go_wp2
      exact ⟨⟨1, by omega, rfl, trivial⟩, by simp [intOf]⟩
    · go_wp2
      exact ⟨⟨2, by omega, rfl, trivial⟩, by simp [intOf]⟩
    · go_wp2
      exact ⟨⟨3, by omega, rfl, trivial⟩, by simp [intOf]⟩
    · go_wp2
      go_ret2
      exact ⟨rfl, rfl⟩
theorem whole_no (op : Int) (ho : -9223372036854775808 ≤ op ∧ op ≤ 9223372036854775807) (h0 : wK op = 0) (w : World) : Calls Try.prog 31 #[.int .i64 op] w fun e w' => e = .returned (.tuple #[.int .i64 0, .int .i64 0]) ∧ w = w' := by
  have hn : op ≠ 64851 ∧ (∀ k : Int, 0 ≤ k → k < 4 → op ≠ 64867 + 32 * k ∧ op ≠ 64868 + 32 * k) := by
    unfold wK at h0
    by_cases a : op = 64851
    · rw [if_pos a] at h0; omega
    · rw [if_neg a] at h0
      by_cases b : op = 64867 ∨ op = 64899 ∨ op = 64931 ∨ op = 64963
      · rw [if_pos b] at h0; omega
      · rw [if_neg b] at h0
        by_cases c : op = 64868 ∨ op = 64900 ∨ op = 64932 ∨ op = 64964
        · rw [if_pos c] at h0; omega
        · exact ⟨a, fun k h1 h2 => by omega⟩
  have h1 : (op == 64851) = false := beq_eq_false_iff_ne.2 hn.1
  have HN := Lib.hid hn.2
  have HO := Lib.hid ho
  clear hn h0 ho
  go_enter Try.func31, Try.ntmps31
  go_wp2
  go_loopw [7] (fun u wr => ∃ k : Int, (0 ≤ k ∧ k ≤ 4) ∧ u = .int .i64 k ∧ w = wr) (fun u _ => (8 - intOf u).toNat)
  case atStart => exact ⟨0, by omega, rfl, rfl⟩
  case round =>
    obtain ⟨k, ⟨k0, k4⟩, rfl, rfl⟩ := hrel
    by_cases hlt : k < 4
    · have h2 := HN.out k k0 hlt
      obtain ⟨y, hy⟩ : ∃ y, IntKind.i64.wrap (op - k * 32) = y := ⟨_, rfl⟩
      have h3 : (y == 64867) = false ∧ (y == 64868) = false := by
        have := HO.out
        rw [← hy, IntKind.wrap_i64]
        constructor <;> refine beq_eq_false_iff_ne.2 ?_ <;> omega
      obtain ⟨h4, h5⟩ := h3
      clear h2
      go_wp2
      exact ⟨⟨k + 1, by omega, by go_num, trivial⟩, by simp [intOf]; omega⟩
    · obtain rfl : k = 4 := by omega
      go_wp2
      go_ret2
      exact ⟨rfl, rfl⟩
theorem whole_any (op : Int) (ho : -9223372036854775808 ≤ op ∧ op ≤ 9223372036854775807) (w : World) : Calls Try.prog 31 #[.int .i64 op] w fun e w' => e = .returned (.tuple #[.int .i64 (if wK op = 0 then 0 else wW op), .int .i64 (wK op)]) ∧ w = w' := by
  by_cases h0 : wK op = 0
  · rw [if_pos h0, h0]; exact whole_no op ho h0 w
  · have hc : op = 64851 ∨ op = 64867 ∨ op = 64868 ∨ op = 64899 ∨ op = 64900 ∨ op = 64931 ∨ op = 64932 ∨ op = 64963 ∨ op = 64964 := by
      apply Classical.byContradiction
      intro h
      apply h0
      unfold wK
      rw [if_neg (by omega), if_neg (by omega), if_neg (by omega)]
    rcases hc with rfl | rfl | rfl | rfl | rfl | rfl | rfl | rfl | rfl
    · exact whole_51 w
    · exact whole_64867 w
    · exact whole_64868 w
    · exact whole_64899 w
    · exact whole_64900 w
    · exact whole_64931 w
    · exact whole_64932 w
    · exact whole_64963 w
    · exact whole_64964 w
def t32 (b : Bool) : Int := if b then 1 else 0
theorem truth_any (b : Bool) (w : World) : Calls Try.prog 32 #[.bool b] w fun e w' => e = .returned (.int .u32 (t32 b)) ∧ w = w' := by
  cases b
  all_goals
    go_enter Try.func32, Try.ntmps32
    go_wp2
    go_ret
    exact ⟨rfl, rfl⟩
def fullB (b : Nat → Int) (v : Int) (n : Nat) : Bool := (List.range n).all fun j => getI b v j != 0
theorem full_at {b : Nat → Int} {v : Int} {n k : Nat} (hk : k < n) (h : getI b v k = 0) : fullB b v n = false := by
  unfold fullB
  rw [List.all_eq_false]
  exact ⟨k, List.mem_range.2 hk, by simp [h]⟩
theorem full_end {b : Nat → Int} {v : Int} {n : Nat} (h : ∀ j : Nat, j < n → getI b v j ≠ 0) : fullB b v n = true := by
  unfold fullB
  rw [List.all_eq_true]
  intro j hj
  have := h j (List.mem_range.1 hj)
  simpa using this
set_option maxHeartbeats 2000000 in
theorem full_any (b : Nat → Int) (hb : Byt b) (v : Int) (w : World) : Calls Try.prog 33 #[.agg (bs b), .int .i64 v] w fun e w' => e = .returned (.bool (fullB b v (lanesI v).toNat)) ∧ Gr w w' := by
  have HB := Lib.hid hb
  obtain ⟨hL, h16⟩ := lanes_nat v
  have CL : ∀ w, Calls Try.prog 26 #[.int .i64 v] w fun e w' => e = .returned (.int .i64 ((lanesI v).toNat : Int)) ∧ Gr w w' := fun w => by rw [← hL]; exact calls_gr (lanes_any v w)
  clear hb hL
  generalize (lanesI v).toNat = L at *
  have XCL := Lib.hid CL
  clear CL
  have hS := St.start w
  go_enter Try.func33, Try.ntmps33
  go_upto_region 0 with (fail)
  refine wp_region_lit ?_
  refine sl_box hS rfl _ 23 (box_vec rfl rfl) ?_
  clear hS
  intro p wk hS
  go_wp2_with (first | (refine sl_load hS rfl 23 _ rfl rfl (by repeat (first | exact Has.hd | apply Has.tl)) Try.underlying23 rfl (by exact infoV) ?_) | (refine sl_store hS rfl 23 _ _ rfl rfl rfl (by repeat (first | exact Rep.hd | apply Rep.tl)) (by exact infoV) (by rfl) (bs_one _) ?_; clear hS; intro wk hS) | (refine sl_box hS rfl _ 23 (box_vec rfl rfl) ?_; clear hS; intro bk wk hS) | (refine sl_box hS rfl _ 23 (alloc_vec rfl) ?_; clear hS; intro bk wk hS) | (refine onlyN_end ?_) | (refine onlyN_now ?_) | ((go_at_call 26); (with_reducible refine sl_call hS (XCL.out _) ?_); clear hS; intro wk hS))
  go_loopw [8] (fun u wr => ∃ k : Nat, k ≤ L ∧ u = .int .i64 k ∧ Hid (∀ j : Nat, j < k → getI b v j ≠ 0) ∧ St w [⟨p, bs b, 23⟩] wr) (fun u _ => L - (intOf u).toNat)
  case atStart => exact ⟨0, by omega, rfl, Lib.hid (fun j hj => by omega), hS⟩
  case round =>
    obtain ⟨k, hk, rfl, HJ, hS⟩ := hrel
    by_cases hlt : k < L
    · have E1 := fun w => get_any b HB.out v k w
      by_cases h0 : getI b v k = 0
      · have HF := Lib.hid (full_at hlt h0)
        rw [h0] at E1
        have XE1 := Lib.hid E1
        clear E1 h0
        go_wp2_with (first | (refine sl_load hS rfl 23 _ rfl rfl (by repeat (first | exact Has.hd | apply Has.tl)) Try.underlying23 rfl (by exact infoV) ?_) | (refine sl_store hS rfl 23 _ _ rfl rfl rfl (by repeat (first | exact Rep.hd | apply Rep.tl)) (by exact infoV) (by rfl) (bs_one _) ?_; clear hS; intro wk hS) | (refine sl_box hS rfl _ 23 (box_vec rfl rfl) ?_; clear hS; intro bk wk hS) | (refine sl_box hS rfl _ 23 (alloc_vec rfl) ?_; clear hS; intro bk wk hS) | (refine onlyN_end ?_) | (refine onlyN_now ?_) | ((go_at_call 22); (with_reducible refine sl_call hS (XE1.out _) ?_); clear hS; intro wk hS))
        go_ret
        exact ⟨by rw [HF.out]; rfl, hS.gr⟩
      · have HG : Hid (∀ j : Nat, j < k + 1 → getI b v j ≠ 0) := Lib.hid (fun j hj => by
          by_cases e : j = k
          · rw [e]; exact h0
          · exact HJ.out j (by omega))
        have h1 : (getI b v k == 0) = false := beq_eq_false_iff_ne.2 h0
        clear HJ h0
        generalize getI b v k = x at E1 h1
        have XE1 := Lib.hid E1
        clear E1
        go_wp2_with (first | (refine sl_load hS rfl 23 _ rfl rfl (by repeat (first | exact Has.hd | apply Has.tl)) Try.underlying23 rfl (by exact infoV) ?_) | (refine sl_store hS rfl 23 _ _ rfl rfl rfl (by repeat (first | exact Rep.hd | apply Rep.tl)) (by exact infoV) (by rfl) (bs_one _) ?_; clear hS; intro wk hS) | (refine sl_box hS rfl _ 23 (box_vec rfl rfl) ?_; clear hS; intro bk wk hS) | (refine sl_box hS rfl _ 23 (alloc_vec rfl) ?_; clear hS; intro bk wk hS) | (refine onlyN_end ?_) | (refine onlyN_now ?_) | ((go_at_call 22); (with_reducible refine sl_call hS (XE1.out _) ?_); clear hS; intro wk hS))
        exact ⟨⟨k + 1, by omega, by go_num, HG, hS⟩, by simp [intOf]; omega⟩
    · obtain rfl : k = L := by omega
      have HF := Lib.hid (full_end HJ.out)
      go_wp2_with (first | (refine sl_load hS rfl 23 _ rfl rfl (by repeat (first | exact Has.hd | apply Has.tl)) Try.underlying23 rfl (by exact infoV) ?_) | (refine sl_store hS rfl 23 _ _ rfl rfl rfl (by repeat (first | exact Rep.hd | apply Rep.tl)) (by exact infoV) (by rfl) (bs_one _) ?_; clear hS; intro wk hS) | (refine sl_box hS rfl _ 23 (box_vec rfl rfl) ?_; clear hS; intro bk wk hS) | (refine sl_box hS rfl _ 23 (alloc_vec rfl) ?_; clear hS; intro bk wk hS) | (refine onlyN_end ?_) | (refine onlyN_now ?_))
      go_ret
      exact ⟨by rw [HF.out]; rfl, hS.gr⟩
def sgI (b : Nat → Int) (v : Int) : Nat → Int
  | 0 => 0
  | k + 1 => bits .or .u32 (sgI b v k) (t32 (decide (sgnI b v k < 0)) * 2 ^ k % 4294967296)
set_option maxHeartbeats 2000000 in
theorem signs_any (b : Nat → Int) (hb : Byt b) (v : Int) (w : World) : Calls Try.prog 34 #[.agg (bs b), .int .i64 v] w fun e w' => e = .returned (.int .u32 (sgI b v (lanesI v).toNat)) ∧ Gr w w' := by
  have HB := Lib.hid hb
  obtain ⟨hL, h16⟩ := lanes_nat v
  have CL : ∀ w, Calls Try.prog 26 #[.int .i64 v] w fun e w' => e = .returned (.int .i64 ((lanesI v).toNat : Int)) ∧ Gr w w' := fun w => by rw [← hL]; exact calls_gr (lanes_any v w)
  clear hb hL
  generalize (lanesI v).toNat = L at *
  have XCL := Lib.hid CL
  clear CL
  have hS := St.start w
  go_enter Try.func34, Try.ntmps34
  go_upto_region 0 with (fail)
  refine wp_region_lit ?_
  refine sl_box hS rfl _ 23 (box_vec rfl rfl) ?_
  clear hS
  intro p wk hS
  go_wp2_with (first | (refine sl_load hS rfl 23 _ rfl rfl (by repeat (first | exact Has.hd | apply Has.tl)) Try.underlying23 rfl (by exact infoV) ?_) | (refine sl_store hS rfl 23 _ _ rfl rfl rfl (by repeat (first | exact Rep.hd | apply Rep.tl)) (by exact infoV) (by rfl) (bs_one _) ?_; clear hS; intro wk hS) | (refine sl_box hS rfl _ 23 (box_vec rfl rfl) ?_; clear hS; intro bk wk hS) | (refine sl_box hS rfl _ 23 (alloc_vec rfl) ?_; clear hS; intro bk wk hS) | (refine onlyN_end ?_) | (refine onlyN_now ?_) | ((go_at_call 26); (with_reducible refine sl_call hS (XCL.out _) ?_); clear hS; intro wk hS))
  go_loopw [9, 5] (fun u n wr => ∃ k : Nat, k ≤ L ∧ u = .int .i64 k ∧ n = .int .u32 (sgI b v k) ∧ St w [⟨p, bs b, 23⟩] wr) (fun u _ _ => L - (intOf u).toNat)
  case atStart => exact ⟨0, by omega, rfl, rfl, hS⟩
  case round =>
    obtain ⟨k, hk, rfl, rfl, hS⟩ := hrel
    by_cases hlt : k < L
    · have E1 := fun w => signed_any b HB.out v k w
      have HK := Lib.hid (show sgI b v (k + 1) = bits .or .u32 (sgI b v k) (t32 (decide (sgnI b v k < 0)) * 2 ^ k % 4294967296) from rfl)
      have HN := Lib.hid HK.out
      clear HK
      generalize sgI b v k = n at *
      generalize sgnI b v k = g at *
      have E2 := fun w => truth_any (decide (g < 0)) w
      generalize hbb : decide (g < 0) = bb at *
      generalize t32 bb = t at *
      have XE1 := Lib.hid E1
      have XE2 := Lib.hid E2
      clear E1 E2
      go_wp2_with (first | (refine sl_load hS rfl 23 _ rfl rfl (by repeat (first | exact Has.hd | apply Has.tl)) Try.underlying23 rfl (by exact infoV) ?_) | (refine sl_store hS rfl 23 _ _ rfl rfl rfl (by repeat (first | exact Rep.hd | apply Rep.tl)) (by exact infoV) (by rfl) (bs_one _) ?_; clear hS; intro wk hS) | (refine sl_box hS rfl _ 23 (box_vec rfl rfl) ?_; clear hS; intro bk wk hS) | (refine sl_box hS rfl _ 23 (alloc_vec rfl) ?_; clear hS; intro bk wk hS) | (refine onlyN_end ?_) | (refine onlyN_now ?_) | ((go_at_call 20); (with_reducible refine sl_call hS (XE1.out _) ?_); clear hS; intro wk hS) | ((go_at_call 32); (with_reducible refine (XE2.out _).mono ?_); rintro _ _ ⟨rfl, rfl⟩))
      exact ⟨⟨k + 1, by omega, by go_num, by rw [HN.out], hS⟩, by simp [intOf]; omega⟩
    · obtain rfl : k = L := by omega
      go_wp2_with (first | (refine sl_load hS rfl 23 _ rfl rfl (by repeat (first | exact Has.hd | apply Has.tl)) Try.underlying23 rfl (by exact infoV) ?_) | (refine sl_store hS rfl 23 _ _ rfl rfl rfl (by repeat (first | exact Rep.hd | apply Rep.tl)) (by exact infoV) (by rfl) (bs_one _) ?_; clear hS; intro wk hS) | (refine sl_box hS rfl _ 23 (box_vec rfl rfl) ?_; clear hS; intro bk wk hS) | (refine sl_box hS rfl _ 23 (alloc_vec rfl) ?_; clear hS; intro bk wk hS) | (refine onlyN_end ?_) | (refine onlyN_now ?_))
      go_ret
      exact ⟨rfl, hS.gr⟩
def tsOk (op : Int) : Int := if wK op = 0 then 1 else 0
def tsV (op : Int) (b : Nat → Int) : Int := if wK op = 64851 then t32 (!vecB b (fun _ => 0)) else if wK op = 64867 then t32 (fullB b (wW op) (lanesI (wW op)).toNat) else if wK op = 64868 then sgI b (wW op) (lanesI (wW op)).toNat else 0
theorem wK_cases (op : Int) : wK op = 0 ∨ wK op = 64851 ∨ wK op = 64867 ∨ wK op = 64868 := by
  unfold wK
  repeat' split
  all_goals omega
set_option maxHeartbeats 2000000 in
theorem test_any (op : Int) (ho : -9223372036854775808 ≤ op ∧ op ≤ 9223372036854775807) (b : Nat → Int) (hb : Byt b) (w : World) :
    Calls Try.prog 13 #[.int .i64 op, .agg (bs b)] w fun e w' => e = .returned (.tuple #[.int .u32 (tsV op b), .int .i64 (tsOk op)]) ∧ Gr w w' := by
  have CW := fun w => calls_gr (whole_any op ho w)
  have CF := fun w => full_any b hb (wW op) w
  have CS := fun w => signs_any b hb (wW op) w
  have CT := fun x w => calls_gr (truth_any x w)
  have hk := wK_cases op
  unfold tsV tsOk
  generalize wK op = kk at *
  generalize wW op = ww at *
  generalize fullB b ww (lanesI ww).toNat = ff at *
  generalize sgI b ww (lanesI ww).toNat = sg at *
  have hv := fun w => eq_vec b (fun _ => 0) w
  generalize vecB b (fun _ => 0) = vb at *
  have HT := Lib.hid CT
  clear CT ho hb
  rcases hk with rfl | rfl | rfl | rfl
  · have XCW := Lib.hid CW
    clear CW CF CS hv
    have hS := St.start w
    go_enter Try.func13, Try.ntmps13
    go_wp2_with (first | (refine sl_load hS rfl 23 _ rfl rfl (by repeat (first | exact Has.hd | apply Has.tl)) Try.underlying23 rfl (by exact infoV) ?_) | (refine sl_store hS rfl 23 _ _ rfl rfl rfl (by repeat (first | exact Rep.hd | apply Rep.tl)) (by exact infoV) (by rfl) (bs_one _) ?_; clear hS; intro wk hS) | (refine sl_box hS rfl _ 23 (box_vec rfl rfl) ?_; clear hS; intro bk wk hS) | (refine sl_box hS rfl _ 23 (alloc_vec rfl) ?_; clear hS; intro bk wk hS) | (refine onlyN_end ?_) | (refine onlyN_now ?_) | ((go_at_call 31); (with_reducible refine sl_call hS (XCW.out _) ?_); clear hS; intro wk hS))
    go_ret2
    exact ⟨rfl, hS.gr⟩
  · rw [if_neg (by decide)] at CW
    have XCW := Lib.hid CW
    clear CW CF CS
    have hS := St.start w
    go_enter Try.func13, Try.ntmps13
    cases vb
    all_goals
      go_upto_region 4 with (first | (refine sl_load hS rfl 23 _ rfl rfl (by repeat (first | exact Has.hd | apply Has.tl)) Try.underlying23 rfl (by exact infoV) ?_) | (refine sl_store hS rfl 23 _ _ rfl rfl rfl (by repeat (first | exact Rep.hd | apply Rep.tl)) (by exact infoV) (by rfl) (bs_one _) ?_; clear hS; intro wk hS) | (refine sl_box hS rfl _ 23 (box_vec rfl rfl) ?_; clear hS; intro bk wk hS) | (refine sl_box hS rfl _ 23 (alloc_vec rfl) ?_; clear hS; intro bk wk hS) | (refine onlyN_end ?_) | (refine onlyN_now ?_) | ((go_at_call 31); (with_reducible refine sl_call hS (XCW.out _) ?_); clear hS; intro wk hS))
      refine wp_region_lit ?_
      refine sl_load hS rfl 23 _ rfl rfl (by repeat (first | exact Has.hd | apply Has.tl)) Try.underlying23 rfl (by exact infoV) ?_
      refine wpList_build_at rfl 23 _ rfl (bs fun _ => 0) (by first | (simp only [List.map_toArray, List.map_nil]; kernel_rfl) | (simp only [Array.map_empty]; kernel_rfl)) ?_
      go_wp2_with (first | (refine sl_load hS rfl 23 _ rfl rfl (by repeat (first | exact Has.hd | apply Has.tl)) Try.underlying23 rfl (by exact infoV) ?_) | (refine sl_store hS rfl 23 _ _ rfl rfl rfl (by repeat (first | exact Rep.hd | apply Rep.tl)) (by exact infoV) (by rfl) (bs_one _) ?_; clear hS; intro wk hS) | (refine sl_box hS rfl _ 23 (box_vec rfl rfl) ?_; clear hS; intro bk wk hS) | (refine sl_box hS rfl _ 23 (alloc_vec rfl) ?_; clear hS; intro bk wk hS) | (refine onlyN_end ?_) | (refine onlyN_now ?_) | ((go_at_call 32); (with_reducible refine sl_call hS (HT.out _ _) ?_); clear hS; intro wk hS))
      go_ret2
      exact ⟨rfl, hS.gr⟩
  · rw [if_neg (by decide)] at CW
    have XCW := Lib.hid CW
    have XCF := Lib.hid CF
    clear CW CF CS hv
    have hS := St.start w
    go_enter Try.func13, Try.ntmps13
    go_wp2_with (first | (refine sl_load hS rfl 23 _ rfl rfl (by repeat (first | exact Has.hd | apply Has.tl)) Try.underlying23 rfl (by exact infoV) ?_) | (refine sl_store hS rfl 23 _ _ rfl rfl rfl (by repeat (first | exact Rep.hd | apply Rep.tl)) (by exact infoV) (by rfl) (bs_one _) ?_; clear hS; intro wk hS) | (refine sl_box hS rfl _ 23 (box_vec rfl rfl) ?_; clear hS; intro bk wk hS) | (refine sl_box hS rfl _ 23 (alloc_vec rfl) ?_; clear hS; intro bk wk hS) | (refine onlyN_end ?_) | (refine onlyN_now ?_) | ((go_at_call 31); (with_reducible refine sl_call hS (XCW.out _) ?_); clear hS; intro wk hS) | ((go_at_call 33); (with_reducible refine sl_call hS (XCF.out _) ?_); clear hS; intro wk hS) | ((go_at_call 32); (with_reducible refine sl_call hS (HT.out _ _) ?_); clear hS; intro wk hS))
    go_ret2
    exact ⟨rfl, hS.gr⟩
  · rw [if_neg (by decide)] at CW
    have XCW := Lib.hid CW
    have XCS := Lib.hid CS
    clear CW CF CS hv
    have hS := St.start w
    go_enter Try.func13, Try.ntmps13
    go_wp2_with (first | (refine sl_load hS rfl 23 _ rfl rfl (by repeat (first | exact Has.hd | apply Has.tl)) Try.underlying23 rfl (by exact infoV) ?_) | (refine sl_store hS rfl 23 _ _ rfl rfl rfl (by repeat (first | exact Rep.hd | apply Rep.tl)) (by exact infoV) (by rfl) (bs_one _) ?_; clear hS; intro wk hS) | (refine sl_box hS rfl _ 23 (box_vec rfl rfl) ?_; clear hS; intro bk wk hS) | (refine sl_box hS rfl _ 23 (alloc_vec rfl) ?_; clear hS; intro bk wk hS) | (refine onlyN_end ?_) | (refine onlyN_now ?_) | ((go_at_call 31); (with_reducible refine sl_call hS (XCW.out _) ?_); clear hS; intro wk hS) | ((go_at_call 34); (with_reducible refine sl_call hS (XCS.out _) ?_); clear hS; intro wk hS))
    go_ret2
    exact ⟨rfl, hS.gr⟩
end Cp
end Go.Proofs.Ytdclbagfnabmkaa
