/-
  Texts of this seat, joined: WdRow, WdPt, WdEx, WdNa. Each says what it proves.
-/
import Derived.Test.YtjoalcaooccbiaaMk5
import Derived.Test.YtjoalcaooccbiaaMk7
import Derived.IntWalk
/- WdRow -/
namespace Go.Proofs.Ytjoalcaooccbiaa
open Go.RowKit VecM
namespace Wd
theorem infoI : Try.prog.info? 3 = some ((Try.prog.info? 3).getD default) := by kernel_rfl
theorem sizeI : ((Try.prog.info? 3).getD default).size = 1 := by kernel_rfl
def pw (k : Nat) : Int := if k = 0 then 1 else if k = 1 then 2 else 4
def inR (op n z : Int) : Prop := z ≤ op ∧ op < z + n
theorem ret_2 {a b c d : Int} (h : a = b) (h' : c = d) : Ending.returned (.tuple #[.int .i64 a, .int .i64 c]) = .returned (.tuple #[.int .i64 b, .int .i64 d]) := by rw [h, h']
set_option maxHeartbeats 2000000 in
theorem row_at (op n : Int) (ho : -9223372036854775808 ≤ op ∧ op ≤ 9223372036854775807) (f : Nat → Int) (L k : Nat) (hk : k < L) (hL : L ≤ 3) (hn : n = 2 ∨ n = 4) (hf : ∀ i, 60000 ≤ f i ∧ f i ≤ 70000) (hin : inR op n (f k)) (hno : ∀ i, i < k → ¬ inR op n (f i)) (w : World) (g : Nat)
  (hc : ∀ j, j < L → w.cell? ⟨g, j, none⟩ = some (.int .i64 (f j))) :
  Calls Try.prog 82 #[.int .i64 op, .int .i64 n, .slice (some ⟨g, 0, none⟩) L L] w fun e w' => e = .returned (.tuple #[.int .i64 (pw k), .int .i64 (op - f k)]) ∧ w = w' := by
 have HC := Lib.hid hc
 have HNO := Lib.hid hno
 have HF := Lib.hid hf
 have HIN := Lib.hid hin
 have HO := Lib.hid ho
 have HN := Lib.hid hn
 clear hc hno hf hin ho hn
 go_enter Try.func82, Try.ntmps82
 go_wp2
 go_loopw [12] (fun u wr => ∃ j : Nat, j ≤ k ∧ u = .int .i64 j ∧ w = wr) (fun u _ => k + 1 - (intOf u).toNat)
 case atStart => exact ⟨0, by omega, rfl, rfl⟩
 case round =>
  obtain ⟨j, hj, rfl, rfl⟩ := hrel
  have hjL : j < L := by omega
  have hcj := HC.out j hjL
  have hfj := HF.out j
  have hop := HO.out
  have hn' := HN.out
  have T0 : decide ((j : Int) < (L : Int)) = true := by simp; omega
  have T5 : IntKind.i64.wrap ((j : Int) + 1) = (j : Int) + 1 := IntWalk.i64_in _ (by omega)
  have T2 : IntKind.i64.wrap (f j + n) = f j + n := IntWalk.i64_in _ (by omega)
  by_cases hlt : j < k
  ·have hnj := HNO.out j hlt
   unfold inR at hnj
   by_cases h1 : f j ≤ op
   ·have T1 : decide (f j ≤ op) = true := decide_eq_true h1
    have T3 : decide (op < f j + n) = false := decide_eq_false (fun h => hnj ⟨h1, h⟩)
    have T4 := True.intro
    have X1 := Lib.hid hj
    have X2 := Lib.hid hlt
    clear hnj h1 hfj hop hn' hj hlt hk hL
    go_upto_region 2 with (fail)
    try refine wp_region_lit ?_
    iterate 1 ((first | (refine sl_val rfl (run_saddr rfl rfl rfl Try.underlying26 infoI sizeI (j := j) hjL) ?_) | (refine sl_lcell rfl _ _ rfl rfl hcj (by intro w hc; go_simp) ?_) | (refine sl_val rfl (run_lss rfl rfl rfl T0) ?_) | (refine sl_val rfl (run_geq rfl rfl rfl T1) ?_) | (refine sl_val rfl (run_add rfl rfl rfl T2) ?_) | (refine sl_val rfl (run_lss rfl rfl rfl T3) ?_) | (refine sl_val rfl (run_sub rfl rfl rfl T4) ?_) | (refine sl_val rfl (run_shl rfl rfl rfl T7 T6) ?_) | (apply sl_val rfl; focus (intro w; go_simp; (try simp (disch := omega) only [IntWalk.i64_in, IntWalk.u64_in, IntWalk.u8_in, IntWalk.u32_in, IntWalk.i32_in]); first | exact rfl | rfl)) | (refine sl_skip rfl ?_)); go_simp)
    go_upto_region 3 with (fail)
    try refine wp_region_lit ?_
    iterate 5 ((first | (refine sl_val rfl (run_saddr rfl rfl rfl Try.underlying26 infoI sizeI (j := j) hjL) ?_) | (refine sl_lcell rfl _ _ rfl rfl hcj (by intro w hc; go_simp) ?_) | (refine sl_val rfl (run_lss rfl rfl rfl T0) ?_) | (refine sl_val rfl (run_geq rfl rfl rfl T1) ?_) | (refine sl_val rfl (run_add rfl rfl rfl T2) ?_) | (refine sl_val rfl (run_lss rfl rfl rfl T3) ?_) | (refine sl_val rfl (run_sub rfl rfl rfl T4) ?_) | (refine sl_val rfl (run_shl rfl rfl rfl T7 T6) ?_) | (apply sl_val rfl; focus (intro w; go_simp; (try simp (disch := omega) only [IntWalk.i64_in, IntWalk.u64_in, IntWalk.u8_in, IntWalk.u32_in, IntWalk.i32_in]); first | exact rfl | rfl)) | (refine sl_skip rfl ?_)); go_simp)
    go_upto_region 4 with (fail)
    try refine wp_region_lit ?_
    iterate 10 ((first | (refine sl_val rfl (run_saddr rfl rfl rfl Try.underlying26 infoI sizeI (j := j) hjL) ?_) | (refine sl_lcell rfl _ _ rfl rfl hcj (by intro w hc; go_simp) ?_) | (refine sl_val rfl (run_lss rfl rfl rfl T0) ?_) | (refine sl_val rfl (run_geq rfl rfl rfl T1) ?_) | (refine sl_val rfl (run_add rfl rfl rfl T2) ?_) | (refine sl_val rfl (run_lss rfl rfl rfl T3) ?_) | (refine sl_val rfl (run_sub rfl rfl rfl T4) ?_) | (refine sl_val rfl (run_shl rfl rfl rfl T7 T6) ?_) | (apply sl_val rfl; focus (intro w; go_simp; (try simp (disch := omega) only [IntWalk.i64_in, IntWalk.u64_in, IntWalk.u8_in, IntWalk.u32_in, IntWalk.i32_in]); first | exact rfl | rfl)) | (refine sl_skip rfl ?_)); go_simp)
    go_upto_region 6 with (fail)
    try refine wp_region_lit ?_
    iterate 2 ((first | (refine sl_val rfl (run_saddr rfl rfl rfl Try.underlying26 infoI sizeI (j := j) hjL) ?_) | (refine sl_lcell rfl _ _ rfl rfl hcj (by intro w hc; go_simp) ?_) | (refine sl_val rfl (run_lss rfl rfl rfl T0) ?_) | (refine sl_val rfl (run_geq rfl rfl rfl T1) ?_) | (refine sl_val rfl (run_add rfl rfl rfl T2) ?_) | (refine sl_val rfl (run_lss rfl rfl rfl T3) ?_) | (refine sl_val rfl (run_sub rfl rfl rfl T4) ?_) | (refine sl_val rfl (run_shl rfl rfl rfl T7 T6) ?_) | (apply sl_val rfl; focus (intro w; go_simp; (try simp (disch := omega) only [IntWalk.i64_in, IntWalk.u64_in, IntWalk.u8_in, IntWalk.u32_in, IntWalk.i32_in]); first | exact rfl | rfl)) | (refine sl_skip rfl ?_)); go_simp)
    go_wp2_with fail
    have X4 := X2.out
    exact ⟨⟨j + 1, by omega, by go_num, trivial⟩, by simp [intOf]; omega⟩
   ·have T1 : decide (f j ≤ op) = false := decide_eq_false h1
    have T3 := True.intro
    have T4 := True.intro
    have X1 := Lib.hid hj
    have X2 := Lib.hid hlt
    clear hnj h1 hfj hop hn' hj hlt hk hL
    go_upto_region 2 with (fail)
    try refine wp_region_lit ?_
    iterate 1 ((first | (refine sl_val rfl (run_saddr rfl rfl rfl Try.underlying26 infoI sizeI (j := j) hjL) ?_) | (refine sl_lcell rfl _ _ rfl rfl hcj (by intro w hc; go_simp) ?_) | (refine sl_val rfl (run_lss rfl rfl rfl T0) ?_) | (refine sl_val rfl (run_geq rfl rfl rfl T1) ?_) | (refine sl_val rfl (run_add rfl rfl rfl T2) ?_) | (refine sl_val rfl (run_lss rfl rfl rfl T3) ?_) | (refine sl_val rfl (run_sub rfl rfl rfl T4) ?_) | (refine sl_val rfl (run_shl rfl rfl rfl T7 T6) ?_) | (apply sl_val rfl; focus (intro w; go_simp; (try simp (disch := omega) only [IntWalk.i64_in, IntWalk.u64_in, IntWalk.u8_in, IntWalk.u32_in, IntWalk.i32_in]); first | exact rfl | rfl)) | (refine sl_skip rfl ?_)); go_simp)
    go_upto_region 3 with (fail)
    try refine wp_region_lit ?_
    iterate 5 ((first | (refine sl_val rfl (run_saddr rfl rfl rfl Try.underlying26 infoI sizeI (j := j) hjL) ?_) | (refine sl_lcell rfl _ _ rfl rfl hcj (by intro w hc; go_simp) ?_) | (refine sl_val rfl (run_lss rfl rfl rfl T0) ?_) | (refine sl_val rfl (run_geq rfl rfl rfl T1) ?_) | (refine sl_val rfl (run_add rfl rfl rfl T2) ?_) | (refine sl_val rfl (run_lss rfl rfl rfl T3) ?_) | (refine sl_val rfl (run_sub rfl rfl rfl T4) ?_) | (refine sl_val rfl (run_shl rfl rfl rfl T7 T6) ?_) | (apply sl_val rfl; focus (intro w; go_simp; (try simp (disch := omega) only [IntWalk.i64_in, IntWalk.u64_in, IntWalk.u8_in, IntWalk.u32_in, IntWalk.i32_in]); first | exact rfl | rfl)) | (refine sl_skip rfl ?_)); go_simp)
    go_upto_region 4 with (fail)
    try refine wp_region_lit ?_
    iterate 10 ((first | (refine sl_val rfl (run_saddr rfl rfl rfl Try.underlying26 infoI sizeI (j := j) hjL) ?_) | (refine sl_lcell rfl _ _ rfl rfl hcj (by intro w hc; go_simp) ?_) | (refine sl_val rfl (run_lss rfl rfl rfl T0) ?_) | (refine sl_val rfl (run_geq rfl rfl rfl T1) ?_) | (refine sl_val rfl (run_add rfl rfl rfl T2) ?_) | (refine sl_val rfl (run_lss rfl rfl rfl T3) ?_) | (refine sl_val rfl (run_sub rfl rfl rfl T4) ?_) | (refine sl_val rfl (run_shl rfl rfl rfl T7 T6) ?_) | (apply sl_val rfl; focus (intro w; go_simp; (try simp (disch := omega) only [IntWalk.i64_in, IntWalk.u64_in, IntWalk.u8_in, IntWalk.u32_in, IntWalk.i32_in]); first | exact rfl | rfl)) | (refine sl_skip rfl ?_)); go_simp)
    go_upto_region 6 with (fail)
    try refine wp_region_lit ?_
    iterate 2 ((first | (refine sl_val rfl (run_saddr rfl rfl rfl Try.underlying26 infoI sizeI (j := j) hjL) ?_) | (refine sl_lcell rfl _ _ rfl rfl hcj (by intro w hc; go_simp) ?_) | (refine sl_val rfl (run_lss rfl rfl rfl T0) ?_) | (refine sl_val rfl (run_geq rfl rfl rfl T1) ?_) | (refine sl_val rfl (run_add rfl rfl rfl T2) ?_) | (refine sl_val rfl (run_lss rfl rfl rfl T3) ?_) | (refine sl_val rfl (run_sub rfl rfl rfl T4) ?_) | (refine sl_val rfl (run_shl rfl rfl rfl T7 T6) ?_) | (apply sl_val rfl; focus (intro w; go_simp; (try simp (disch := omega) only [IntWalk.i64_in, IntWalk.u64_in, IntWalk.u8_in, IntWalk.u32_in, IntWalk.i32_in]); first | exact rfl | rfl)) | (refine sl_skip rfl ?_)); go_simp)
    go_wp2_with fail
    have X4 := X2.out
    exact ⟨⟨j + 1, by omega, by go_num, trivial⟩, by simp [intOf]; omega⟩
  ·obtain rfl : j = k := by omega
   have h := HIN.out
   unfold inR at h
   have hcase : j = 0 ∨ j = 1 ∨ j = 2 := by omega
   have T1 : decide (f j ≤ op) = true := decide_eq_true h.1
   have T3 : decide (op < f j + n) = true := decide_eq_true h.2
   have T4 : IntKind.i64.wrap (op - f j) = op - f j := IntWalk.i64_in _ (by omega)
   have T6 : IntKind.i64.wrap (1 * 2 ^ (min ((j : Int)).toNat IntKind.i64.bits)) = pw j := by rcases hcase with rfl | rfl | rfl <;> decide
   have T7 : (0 : Int) ≤ (j : Int) := by omega
   clear h hfj hop hn' hj hlt hk hL hcase
   go_upto_region 2 with (fail)
   try refine wp_region_lit ?_
   iterate 1 ((first | (refine sl_val rfl (run_saddr rfl rfl rfl Try.underlying26 infoI sizeI (j := j) hjL) ?_) | (refine sl_lcell rfl _ _ rfl rfl hcj (by intro w hc; go_simp) ?_) | (refine sl_val rfl (run_lss rfl rfl rfl T0) ?_) | (refine sl_val rfl (run_geq rfl rfl rfl T1) ?_) | (refine sl_val rfl (run_add rfl rfl rfl T2) ?_) | (refine sl_val rfl (run_lss rfl rfl rfl T3) ?_) | (refine sl_val rfl (run_sub rfl rfl rfl T4) ?_) | (refine sl_val rfl (run_shl rfl rfl rfl T7 T6) ?_) | (apply sl_val rfl; focus (intro w; go_simp; (try simp (disch := omega) only [IntWalk.i64_in, IntWalk.u64_in, IntWalk.u8_in, IntWalk.u32_in, IntWalk.i32_in]); first | exact rfl | rfl)) | (refine sl_skip rfl ?_)); go_simp)
   go_upto_region 3 with (fail)
   try refine wp_region_lit ?_
   iterate 5 ((first | (refine sl_val rfl (run_saddr rfl rfl rfl Try.underlying26 infoI sizeI (j := j) hjL) ?_) | (refine sl_lcell rfl _ _ rfl rfl hcj (by intro w hc; go_simp) ?_) | (refine sl_val rfl (run_lss rfl rfl rfl T0) ?_) | (refine sl_val rfl (run_geq rfl rfl rfl T1) ?_) | (refine sl_val rfl (run_add rfl rfl rfl T2) ?_) | (refine sl_val rfl (run_lss rfl rfl rfl T3) ?_) | (refine sl_val rfl (run_sub rfl rfl rfl T4) ?_) | (refine sl_val rfl (run_shl rfl rfl rfl T7 T6) ?_) | (apply sl_val rfl; focus (intro w; go_simp; (try simp (disch := omega) only [IntWalk.i64_in, IntWalk.u64_in, IntWalk.u8_in, IntWalk.u32_in, IntWalk.i32_in]); first | exact rfl | rfl)) | (refine sl_skip rfl ?_)); go_simp)
   go_upto_region 4 with (fail)
   try refine wp_region_lit ?_
   iterate 10 ((first | (refine sl_val rfl (run_saddr rfl rfl rfl Try.underlying26 infoI sizeI (j := j) hjL) ?_) | (refine sl_lcell rfl _ _ rfl rfl hcj (by intro w hc; go_simp) ?_) | (refine sl_val rfl (run_lss rfl rfl rfl T0) ?_) | (refine sl_val rfl (run_geq rfl rfl rfl T1) ?_) | (refine sl_val rfl (run_add rfl rfl rfl T2) ?_) | (refine sl_val rfl (run_lss rfl rfl rfl T3) ?_) | (refine sl_val rfl (run_sub rfl rfl rfl T4) ?_) | (refine sl_val rfl (run_shl rfl rfl rfl T7 T6) ?_) | (apply sl_val rfl; focus (intro w; go_simp; (try simp (disch := omega) only [IntWalk.i64_in, IntWalk.u64_in, IntWalk.u8_in, IntWalk.u32_in, IntWalk.i32_in]); first | exact rfl | rfl)) | (refine sl_skip rfl ?_)); go_simp)
   go_upto_region 5 with (fail)
   try refine wp_region_lit ?_
   iterate 7 ((first | (refine sl_val rfl (run_saddr rfl rfl rfl Try.underlying26 infoI sizeI (j := j) hjL) ?_) | (refine sl_lcell rfl _ _ rfl rfl hcj (by intro w hc; go_simp) ?_) | (refine sl_val rfl (run_lss rfl rfl rfl T0) ?_) | (refine sl_val rfl (run_geq rfl rfl rfl T1) ?_) | (refine sl_val rfl (run_add rfl rfl rfl T2) ?_) | (refine sl_val rfl (run_lss rfl rfl rfl T3) ?_) | (refine sl_val rfl (run_sub rfl rfl rfl T4) ?_) | (refine sl_val rfl (run_shl rfl rfl rfl T7 T6) ?_) | (apply sl_val rfl; focus (intro w; go_simp; (try simp (disch := omega) only [IntWalk.i64_in, IntWalk.u64_in, IntWalk.u8_in, IntWalk.u32_in, IntWalk.i32_in]); first | exact rfl | rfl)) | (refine sl_skip rfl ?_)); go_simp)
   go_wp2_with fail
   go_ret2
   exact ⟨rfl, rfl⟩
set_option maxHeartbeats 2000000 in
theorem row_no (op n : Int) (ho : -9223372036854775808 ≤ op ∧ op ≤ 9223372036854775807) (f : Nat → Int) (L : Nat) (hL : L ≤ 3) (hn : n = 2 ∨ n = 4) (hf : ∀ i, 60000 ≤ f i ∧ f i ≤ 70000) (hno : ∀ i, i < L → ¬ inR op n (f i)) (w : World) (g : Nat)
  (hc : ∀ j, j < L → w.cell? ⟨g, j, none⟩ = some (.int .i64 (f j))) :
  Calls Try.prog 82 #[.int .i64 op, .int .i64 n, .slice (some ⟨g, 0, none⟩) L L] w fun e w' => e = .returned (.tuple #[.int .i64 0, .int .i64 0]) ∧ w = w' := by
 have HC := Lib.hid hc
 have HNO := Lib.hid hno
 have HF := Lib.hid hf
 have HO := Lib.hid ho
 have HN := Lib.hid hn
 clear hc hno hf ho hn
 go_enter Try.func82, Try.ntmps82
 go_wp2
 go_loopw [12] (fun u wr => ∃ j : Nat, j ≤ L ∧ u = .int .i64 j ∧ w = wr) (fun u _ => L + 1 - (intOf u).toNat)
 case atStart => exact ⟨0, by omega, rfl, rfl⟩
 case round =>
  obtain ⟨j, hj, rfl, rfl⟩ := hrel
  by_cases hjL : j < L
  ·have hcj := HC.out j hjL
   have hfj := HF.out j
   have hop := HO.out
   have hn' := HN.out
   have T0 : decide ((j : Int) < (L : Int)) = true := by simp; omega
   have T5 : IntKind.i64.wrap ((j : Int) + 1) = (j : Int) + 1 := IntWalk.i64_in _ (by omega)
   have T2 : IntKind.i64.wrap (f j + n) = f j + n := IntWalk.i64_in _ (by omega)
   have hnj := HNO.out j hjL
   unfold inR at hnj
   have X2 := Lib.hid hjL
   by_cases h1 : f j ≤ op
   ·have T1 : decide (f j ≤ op) = true := decide_eq_true h1
    have T3 : decide (op < f j + n) = false := decide_eq_false (fun h => hnj ⟨h1, h⟩)
    have T4 := True.intro
    clear hnj h1 hfj hop hn' hj hL
    go_upto_region 2 with (fail)
    try refine wp_region_lit ?_
    iterate 1 ((first | (refine sl_val rfl (run_saddr rfl rfl rfl Try.underlying26 infoI sizeI (j := j) hjL) ?_) | (refine sl_lcell rfl _ _ rfl rfl hcj (by intro w hc; go_simp) ?_) | (refine sl_val rfl (run_lss rfl rfl rfl T0) ?_) | (refine sl_val rfl (run_geq rfl rfl rfl T1) ?_) | (refine sl_val rfl (run_add rfl rfl rfl T2) ?_) | (refine sl_val rfl (run_lss rfl rfl rfl T3) ?_) | (refine sl_val rfl (run_sub rfl rfl rfl T4) ?_) | (refine sl_val rfl (run_shl rfl rfl rfl T7 T6) ?_) | (apply sl_val rfl; focus (intro w; go_simp; (try simp (disch := omega) only [IntWalk.i64_in, IntWalk.u64_in, IntWalk.u8_in, IntWalk.u32_in, IntWalk.i32_in]); first | exact rfl | rfl)) | (refine sl_skip rfl ?_)); go_simp)
    go_upto_region 3 with (fail)
    try refine wp_region_lit ?_
    iterate 5 ((first | (refine sl_val rfl (run_saddr rfl rfl rfl Try.underlying26 infoI sizeI (j := j) hjL) ?_) | (refine sl_lcell rfl _ _ rfl rfl hcj (by intro w hc; go_simp) ?_) | (refine sl_val rfl (run_lss rfl rfl rfl T0) ?_) | (refine sl_val rfl (run_geq rfl rfl rfl T1) ?_) | (refine sl_val rfl (run_add rfl rfl rfl T2) ?_) | (refine sl_val rfl (run_lss rfl rfl rfl T3) ?_) | (refine sl_val rfl (run_sub rfl rfl rfl T4) ?_) | (refine sl_val rfl (run_shl rfl rfl rfl T7 T6) ?_) | (apply sl_val rfl; focus (intro w; go_simp; (try simp (disch := omega) only [IntWalk.i64_in, IntWalk.u64_in, IntWalk.u8_in, IntWalk.u32_in, IntWalk.i32_in]); first | exact rfl | rfl)) | (refine sl_skip rfl ?_)); go_simp)
    go_upto_region 4 with (fail)
    try refine wp_region_lit ?_
    iterate 10 ((first | (refine sl_val rfl (run_saddr rfl rfl rfl Try.underlying26 infoI sizeI (j := j) hjL) ?_) | (refine sl_lcell rfl _ _ rfl rfl hcj (by intro w hc; go_simp) ?_) | (refine sl_val rfl (run_lss rfl rfl rfl T0) ?_) | (refine sl_val rfl (run_geq rfl rfl rfl T1) ?_) | (refine sl_val rfl (run_add rfl rfl rfl T2) ?_) | (refine sl_val rfl (run_lss rfl rfl rfl T3) ?_) | (refine sl_val rfl (run_sub rfl rfl rfl T4) ?_) | (refine sl_val rfl (run_shl rfl rfl rfl T7 T6) ?_) | (apply sl_val rfl; focus (intro w; go_simp; (try simp (disch := omega) only [IntWalk.i64_in, IntWalk.u64_in, IntWalk.u8_in, IntWalk.u32_in, IntWalk.i32_in]); first | exact rfl | rfl)) | (refine sl_skip rfl ?_)); go_simp)
    go_upto_region 6 with (fail)
    try refine wp_region_lit ?_
    iterate 2 ((first | (refine sl_val rfl (run_saddr rfl rfl rfl Try.underlying26 infoI sizeI (j := j) hjL) ?_) | (refine sl_lcell rfl _ _ rfl rfl hcj (by intro w hc; go_simp) ?_) | (refine sl_val rfl (run_lss rfl rfl rfl T0) ?_) | (refine sl_val rfl (run_geq rfl rfl rfl T1) ?_) | (refine sl_val rfl (run_add rfl rfl rfl T2) ?_) | (refine sl_val rfl (run_lss rfl rfl rfl T3) ?_) | (refine sl_val rfl (run_sub rfl rfl rfl T4) ?_) | (refine sl_val rfl (run_shl rfl rfl rfl T7 T6) ?_) | (apply sl_val rfl; focus (intro w; go_simp; (try simp (disch := omega) only [IntWalk.i64_in, IntWalk.u64_in, IntWalk.u8_in, IntWalk.u32_in, IntWalk.i32_in]); first | exact rfl | rfl)) | (refine sl_skip rfl ?_)); go_simp)
    go_wp2_with fail
    have X4 := X2.out
    exact ⟨⟨j + 1, by omega, by go_num, trivial⟩, by simp [intOf]; omega⟩
   ·have T1 : decide (f j ≤ op) = false := decide_eq_false h1
    have T3 := True.intro
    have T4 := True.intro
    clear hnj h1 hfj hop hn' hj hL
    go_upto_region 2 with (fail)
    try refine wp_region_lit ?_
    iterate 1 ((first | (refine sl_val rfl (run_saddr rfl rfl rfl Try.underlying26 infoI sizeI (j := j) hjL) ?_) | (refine sl_lcell rfl _ _ rfl rfl hcj (by intro w hc; go_simp) ?_) | (refine sl_val rfl (run_lss rfl rfl rfl T0) ?_) | (refine sl_val rfl (run_geq rfl rfl rfl T1) ?_) | (refine sl_val rfl (run_add rfl rfl rfl T2) ?_) | (refine sl_val rfl (run_lss rfl rfl rfl T3) ?_) | (refine sl_val rfl (run_sub rfl rfl rfl T4) ?_) | (refine sl_val rfl (run_shl rfl rfl rfl T7 T6) ?_) | (apply sl_val rfl; focus (intro w; go_simp; (try simp (disch := omega) only [IntWalk.i64_in, IntWalk.u64_in, IntWalk.u8_in, IntWalk.u32_in, IntWalk.i32_in]); first | exact rfl | rfl)) | (refine sl_skip rfl ?_)); go_simp)
    go_upto_region 3 with (fail)
    try refine wp_region_lit ?_
    iterate 5 ((first | (refine sl_val rfl (run_saddr rfl rfl rfl Try.underlying26 infoI sizeI (j := j) hjL) ?_) | (refine sl_lcell rfl _ _ rfl rfl hcj (by intro w hc; go_simp) ?_) | (refine sl_val rfl (run_lss rfl rfl rfl T0) ?_) | (refine sl_val rfl (run_geq rfl rfl rfl T1) ?_) | (refine sl_val rfl (run_add rfl rfl rfl T2) ?_) | (refine sl_val rfl (run_lss rfl rfl rfl T3) ?_) | (refine sl_val rfl (run_sub rfl rfl rfl T4) ?_) | (refine sl_val rfl (run_shl rfl rfl rfl T7 T6) ?_) | (apply sl_val rfl; focus (intro w; go_simp; (try simp (disch := omega) only [IntWalk.i64_in, IntWalk.u64_in, IntWalk.u8_in, IntWalk.u32_in, IntWalk.i32_in]); first | exact rfl | rfl)) | (refine sl_skip rfl ?_)); go_simp)
    go_upto_region 4 with (fail)
    try refine wp_region_lit ?_
    iterate 10 ((first | (refine sl_val rfl (run_saddr rfl rfl rfl Try.underlying26 infoI sizeI (j := j) hjL) ?_) | (refine sl_lcell rfl _ _ rfl rfl hcj (by intro w hc; go_simp) ?_) | (refine sl_val rfl (run_lss rfl rfl rfl T0) ?_) | (refine sl_val rfl (run_geq rfl rfl rfl T1) ?_) | (refine sl_val rfl (run_add rfl rfl rfl T2) ?_) | (refine sl_val rfl (run_lss rfl rfl rfl T3) ?_) | (refine sl_val rfl (run_sub rfl rfl rfl T4) ?_) | (refine sl_val rfl (run_shl rfl rfl rfl T7 T6) ?_) | (apply sl_val rfl; focus (intro w; go_simp; (try simp (disch := omega) only [IntWalk.i64_in, IntWalk.u64_in, IntWalk.u8_in, IntWalk.u32_in, IntWalk.i32_in]); first | exact rfl | rfl)) | (refine sl_skip rfl ?_)); go_simp)
    go_upto_region 6 with (fail)
    try refine wp_region_lit ?_
    iterate 2 ((first | (refine sl_val rfl (run_saddr rfl rfl rfl Try.underlying26 infoI sizeI (j := j) hjL) ?_) | (refine sl_lcell rfl _ _ rfl rfl hcj (by intro w hc; go_simp) ?_) | (refine sl_val rfl (run_lss rfl rfl rfl T0) ?_) | (refine sl_val rfl (run_geq rfl rfl rfl T1) ?_) | (refine sl_val rfl (run_add rfl rfl rfl T2) ?_) | (refine sl_val rfl (run_lss rfl rfl rfl T3) ?_) | (refine sl_val rfl (run_sub rfl rfl rfl T4) ?_) | (refine sl_val rfl (run_shl rfl rfl rfl T7 T6) ?_) | (apply sl_val rfl; focus (intro w; go_simp; (try simp (disch := omega) only [IntWalk.i64_in, IntWalk.u64_in, IntWalk.u8_in, IntWalk.u32_in, IntWalk.i32_in]); first | exact rfl | rfl)) | (refine sl_skip rfl ?_)); go_simp)
    go_wp2_with fail
    have X4 := X2.out
    exact ⟨⟨j + 1, by omega, by go_num, trivial⟩, by simp [intOf]; omega⟩
  ·obtain rfl : j = L := by omega
   go_wp2
   go_ret2
   exact ⟨rfl, rfl⟩
end Wd
end Go.Proofs.Ytjoalcaooccbiaa
/- WdPt -/
namespace Go.Proofs.Ytjoalcaooccbiaa
open Go.RowKit VecM
namespace Wd
def hiB (d : Int) : Bool := decide (d % 2 = 1)
def sgB (d : Int) : Bool := decide (d < 2)
set_option maxHeartbeats 2000000 in
theorem part_at (op : Int) (ho : -9223372036854775808 ≤ op ∧ op ≤ 9223372036854775807) (f : Nat → Int) (L k : Nat) (hk : k < L) (hL : L ≤ 3) (hf : ∀ i, 60000 ≤ f i ∧ f i ≤ 70000) (hin : inR op 4 (f k)) (hno : ∀ i, i < k → ¬ inR op 4 (f i)) (w : World) (g : Nat)
  (hc : ∀ j, j < L → w.cell? ⟨g, j, none⟩ = some (.int .i64 (f j))) :
  Calls Try.prog 80 #[.int .i64 op, .slice (some ⟨g, 0, none⟩) L L] w fun e w' => e = .returned (.tuple #[.int .i64 (16 * pw k), .agg #[.bool (hiB (op - f k)), .bool (sgB (op - f k))]]) ∧ Gr w w' := by
 have C : ∀ w', Gr w w' → Calls Try.prog 82 #[.int .i64 op, .int .i64 4, .slice (some ⟨g, 0, none⟩) L L] w' fun e w'' => e = .returned (.tuple #[.int .i64 (pw k), .int .i64 (op - f k)]) ∧ Gr w' w'' := fun w' hg =>
  calls_gr (row_at op 4 ho f L k hk hL (.inr rfl) hf hin hno w' g (fun j hj => gr_cell hg (hc j hj)))
 have hd : op - f k = 0 ∨ op - f k = 1 ∨ op - f k = 2 ∨ op - f k = 3 := by unfold inR at hin; omega
 have hp : pw k = 1 ∨ pw k = 2 ∨ pw k = 4 := by unfold pw; split; omega; split <;> omega
 clear hin hno hf ho hc hk hL
 generalize op - f k = d at *
 generalize pw k = q at *
 have hS := St.start w
 have XC := Lib.hid C
 clear C
 rcases hd with rfl | rfl | rfl | rfl
 ·rcases hp with rfl | rfl | rfl
  all_goals
   go_enter Try.func80, Try.ntmps80
   go_upto_region 0 with (fail)
   try refine wp_region_lit ?_
   iterate 2 ((first | (refine ldV hS rfl _ rfl rfl ?_) | (refine stV hS rfl _ _ rfl rfl rfl ?_; clear hS; intro wk hS) | ((with_reducible show wpList _ _ _ (⟨_, .alloc 83 , _, _, _, _⟩ :: _) _ _); refine sl_new hS rfl #[.bool false, .bool false] 83 (fun b => .pointer (some ⟨b, 0, none⟩)) (by intro w; go_simp) ?_; clear hS; intro bp wk hS) | ((with_reducible show wpList _ _ _ (⟨_, .store 83 _ _, _, _, _, _⟩ :: _) _ _); refine sl_store hS rfl 83 _ _ rfl rfl rfl (by repeat (first | exact Rep.hd | apply Rep.tl)) (by kernel_rfl) (by rfl) (by kernel_rfl) ?_; clear hS; intro wk hS) | (apply sl_val rfl; focus (intro w; go_simp; (try simp (disch := omega) only [IntWalk.i64_in, IntWalk.u64_in, IntWalk.u8_in, IntWalk.u32_in, IntWalk.i32_in]); first | exact rfl | rfl)) | (refine sl_step (fun K hK => .inl ⟨rfl, ?_⟩); unfold Oper.wp; go_simp; (first | with_reducible refine sl_call hS (XC.out _ hS.gr) ?_); clear hS; intro wk hS; refine hK _ _ ?_; clear hK K) | (refine sl_skip rfl ?_)); go_simp)
   go_upto_region 1 with (fail)
   try refine wp_region_lit ?_
   iterate 8 ((first | (refine ldV hS rfl _ rfl rfl ?_) | (refine stV hS rfl _ _ rfl rfl rfl ?_; clear hS; intro wk hS) | ((with_reducible show wpList _ _ _ (⟨_, .alloc 83 , _, _, _, _⟩ :: _) _ _); refine sl_new hS rfl #[.bool false, .bool false] 83 (fun b => .pointer (some ⟨b, 0, none⟩)) (by intro w; go_simp) ?_; clear hS; intro bp wk hS) | ((with_reducible show wpList _ _ _ (⟨_, .store 83 _ _, _, _, _, _⟩ :: _) _ _); refine sl_store hS rfl 83 _ _ rfl rfl rfl (by repeat (first | exact Rep.hd | apply Rep.tl)) (by kernel_rfl) (by rfl) (by kernel_rfl) ?_; clear hS; intro wk hS) | (apply sl_val rfl; focus (intro w; go_simp; (try simp (disch := omega) only [IntWalk.i64_in, IntWalk.u64_in, IntWalk.u8_in, IntWalk.u32_in, IntWalk.i32_in]); first | exact rfl | rfl)) | (refine sl_step (fun K hK => .inl ⟨rfl, ?_⟩); unfold Oper.wp; go_simp; (first | with_reducible refine sl_call hS (XC.out _ hS.gr) ?_); clear hS; intro wk hS; refine hK _ _ ?_; clear hK K) | (refine sl_skip rfl ?_)); go_simp)
   go_upto_region 2 with (fail)
   try refine wp_region_lit ?_
   iterate 2 ((first | (refine ldV hS rfl _ rfl rfl ?_) | (refine stV hS rfl _ _ rfl rfl rfl ?_; clear hS; intro wk hS) | ((with_reducible show wpList _ _ _ (⟨_, .alloc 83 , _, _, _, _⟩ :: _) _ _); refine sl_new hS rfl #[.bool false, .bool false] 83 (fun b => .pointer (some ⟨b, 0, none⟩)) (by intro w; go_simp) ?_; clear hS; intro bp wk hS) | ((with_reducible show wpList _ _ _ (⟨_, .store 83 _ _, _, _, _, _⟩ :: _) _ _); refine sl_store hS rfl 83 _ _ rfl rfl rfl (by repeat (first | exact Rep.hd | apply Rep.tl)) (by kernel_rfl) (by rfl) (by kernel_rfl) ?_; clear hS; intro wk hS) | (apply sl_val rfl; focus (intro w; go_simp; (try simp (disch := omega) only [IntWalk.i64_in, IntWalk.u64_in, IntWalk.u8_in, IntWalk.u32_in, IntWalk.i32_in]); first | exact rfl | rfl)) | (refine sl_step (fun K hK => .inl ⟨rfl, ?_⟩); unfold Oper.wp; go_simp; (first | with_reducible refine sl_call hS (XC.out _ hS.gr) ?_); clear hS; intro wk hS; refine hK _ _ ?_; clear hK K) | (refine sl_skip rfl ?_)); go_simp)
   go_upto_region 4 with (fail)
   try refine wp_region_lit ?_
   iterate 10 ((first | (refine ldV hS rfl _ rfl rfl ?_) | (refine stV hS rfl _ _ rfl rfl rfl ?_; clear hS; intro wk hS) | ((with_reducible show wpList _ _ _ (⟨_, .alloc 83 , _, _, _, _⟩ :: _) _ _); refine sl_new hS rfl #[.bool false, .bool false] 83 (fun b => .pointer (some ⟨b, 0, none⟩)) (by intro w; go_simp) ?_; clear hS; intro bp wk hS) | ((with_reducible show wpList _ _ _ (⟨_, .store 83 _ _, _, _, _, _⟩ :: _) _ _); refine sl_store hS rfl 83 _ _ rfl rfl rfl (by repeat (first | exact Rep.hd | apply Rep.tl)) (by kernel_rfl) (by rfl) (by kernel_rfl) ?_; clear hS; intro wk hS) | ((with_reducible show wpList _ _ _ (⟨_, .build 83 _, _, _, _, _⟩ :: _) _ _); refine wpList_build_at rfl 83 _ rfl #[.bool (hiB 0), .bool (sgB 0)] (by kernel_rfl) ?_) | (apply sl_val rfl; focus (intro w; go_simp; (try simp (disch := omega) only [IntWalk.i64_in]); first | exact rfl | rfl)) | (refine sl_skip rfl ?_)); go_simp)
   go_wp2_with fail
   refine sl_ret2r hS Try.results80 (by rfl) (by repeat (first | exact Has.hd | apply Has.tl)) Try.underlying83 rfl (by kernel_rfl) (by rfl) ?_
   exact ⟨rfl, hS.gr⟩
 ·rcases hp with rfl | rfl | rfl
  all_goals
   go_enter Try.func80, Try.ntmps80
   go_upto_region 0 with (fail)
   try refine wp_region_lit ?_
   iterate 2 ((first | (refine ldV hS rfl _ rfl rfl ?_) | (refine stV hS rfl _ _ rfl rfl rfl ?_; clear hS; intro wk hS) | ((with_reducible show wpList _ _ _ (⟨_, .alloc 83 , _, _, _, _⟩ :: _) _ _); refine sl_new hS rfl #[.bool false, .bool false] 83 (fun b => .pointer (some ⟨b, 0, none⟩)) (by intro w; go_simp) ?_; clear hS; intro bp wk hS) | ((with_reducible show wpList _ _ _ (⟨_, .store 83 _ _, _, _, _, _⟩ :: _) _ _); refine sl_store hS rfl 83 _ _ rfl rfl rfl (by repeat (first | exact Rep.hd | apply Rep.tl)) (by kernel_rfl) (by rfl) (by kernel_rfl) ?_; clear hS; intro wk hS) | (apply sl_val rfl; focus (intro w; go_simp; (try simp (disch := omega) only [IntWalk.i64_in, IntWalk.u64_in, IntWalk.u8_in, IntWalk.u32_in, IntWalk.i32_in]); first | exact rfl | rfl)) | (refine sl_step (fun K hK => .inl ⟨rfl, ?_⟩); unfold Oper.wp; go_simp; (first | with_reducible refine sl_call hS (XC.out _ hS.gr) ?_); clear hS; intro wk hS; refine hK _ _ ?_; clear hK K) | (refine sl_skip rfl ?_)); go_simp)
   go_upto_region 1 with (fail)
   try refine wp_region_lit ?_
   iterate 8 ((first | (refine ldV hS rfl _ rfl rfl ?_) | (refine stV hS rfl _ _ rfl rfl rfl ?_; clear hS; intro wk hS) | ((with_reducible show wpList _ _ _ (⟨_, .alloc 83 , _, _, _, _⟩ :: _) _ _); refine sl_new hS rfl #[.bool false, .bool false] 83 (fun b => .pointer (some ⟨b, 0, none⟩)) (by intro w; go_simp) ?_; clear hS; intro bp wk hS) | ((with_reducible show wpList _ _ _ (⟨_, .store 83 _ _, _, _, _, _⟩ :: _) _ _); refine sl_store hS rfl 83 _ _ rfl rfl rfl (by repeat (first | exact Rep.hd | apply Rep.tl)) (by kernel_rfl) (by rfl) (by kernel_rfl) ?_; clear hS; intro wk hS) | (apply sl_val rfl; focus (intro w; go_simp; (try simp (disch := omega) only [IntWalk.i64_in, IntWalk.u64_in, IntWalk.u8_in, IntWalk.u32_in, IntWalk.i32_in]); first | exact rfl | rfl)) | (refine sl_step (fun K hK => .inl ⟨rfl, ?_⟩); unfold Oper.wp; go_simp; (first | with_reducible refine sl_call hS (XC.out _ hS.gr) ?_); clear hS; intro wk hS; refine hK _ _ ?_; clear hK K) | (refine sl_skip rfl ?_)); go_simp)
   go_upto_region 2 with (fail)
   try refine wp_region_lit ?_
   iterate 2 ((first | (refine ldV hS rfl _ rfl rfl ?_) | (refine stV hS rfl _ _ rfl rfl rfl ?_; clear hS; intro wk hS) | ((with_reducible show wpList _ _ _ (⟨_, .alloc 83 , _, _, _, _⟩ :: _) _ _); refine sl_new hS rfl #[.bool false, .bool false] 83 (fun b => .pointer (some ⟨b, 0, none⟩)) (by intro w; go_simp) ?_; clear hS; intro bp wk hS) | ((with_reducible show wpList _ _ _ (⟨_, .store 83 _ _, _, _, _, _⟩ :: _) _ _); refine sl_store hS rfl 83 _ _ rfl rfl rfl (by repeat (first | exact Rep.hd | apply Rep.tl)) (by kernel_rfl) (by rfl) (by kernel_rfl) ?_; clear hS; intro wk hS) | (apply sl_val rfl; focus (intro w; go_simp; (try simp (disch := omega) only [IntWalk.i64_in, IntWalk.u64_in, IntWalk.u8_in, IntWalk.u32_in, IntWalk.i32_in]); first | exact rfl | rfl)) | (refine sl_step (fun K hK => .inl ⟨rfl, ?_⟩); unfold Oper.wp; go_simp; (first | with_reducible refine sl_call hS (XC.out _ hS.gr) ?_); clear hS; intro wk hS; refine hK _ _ ?_; clear hK K) | (refine sl_skip rfl ?_)); go_simp)
   go_upto_region 4 with (fail)
   try refine wp_region_lit ?_
   iterate 10 ((first | (refine ldV hS rfl _ rfl rfl ?_) | (refine stV hS rfl _ _ rfl rfl rfl ?_; clear hS; intro wk hS) | ((with_reducible show wpList _ _ _ (⟨_, .alloc 83 , _, _, _, _⟩ :: _) _ _); refine sl_new hS rfl #[.bool false, .bool false] 83 (fun b => .pointer (some ⟨b, 0, none⟩)) (by intro w; go_simp) ?_; clear hS; intro bp wk hS) | ((with_reducible show wpList _ _ _ (⟨_, .store 83 _ _, _, _, _, _⟩ :: _) _ _); refine sl_store hS rfl 83 _ _ rfl rfl rfl (by repeat (first | exact Rep.hd | apply Rep.tl)) (by kernel_rfl) (by rfl) (by kernel_rfl) ?_; clear hS; intro wk hS) | ((with_reducible show wpList _ _ _ (⟨_, .build 83 _, _, _, _, _⟩ :: _) _ _); refine wpList_build_at rfl 83 _ rfl #[.bool (hiB 1), .bool (sgB 1)] (by kernel_rfl) ?_) | (apply sl_val rfl; focus (intro w; go_simp; (try simp (disch := omega) only [IntWalk.i64_in]); first | exact rfl | rfl)) | (refine sl_skip rfl ?_)); go_simp)
   go_wp2_with fail
   refine sl_ret2r hS Try.results80 (by rfl) (by repeat (first | exact Has.hd | apply Has.tl)) Try.underlying83 rfl (by kernel_rfl) (by rfl) ?_
   exact ⟨rfl, hS.gr⟩
 ·rcases hp with rfl | rfl | rfl
  all_goals
   go_enter Try.func80, Try.ntmps80
   go_upto_region 0 with (fail)
   try refine wp_region_lit ?_
   iterate 2 ((first | (refine ldV hS rfl _ rfl rfl ?_) | (refine stV hS rfl _ _ rfl rfl rfl ?_; clear hS; intro wk hS) | ((with_reducible show wpList _ _ _ (⟨_, .alloc 83 , _, _, _, _⟩ :: _) _ _); refine sl_new hS rfl #[.bool false, .bool false] 83 (fun b => .pointer (some ⟨b, 0, none⟩)) (by intro w; go_simp) ?_; clear hS; intro bp wk hS) | ((with_reducible show wpList _ _ _ (⟨_, .store 83 _ _, _, _, _, _⟩ :: _) _ _); refine sl_store hS rfl 83 _ _ rfl rfl rfl (by repeat (first | exact Rep.hd | apply Rep.tl)) (by kernel_rfl) (by rfl) (by kernel_rfl) ?_; clear hS; intro wk hS) | (apply sl_val rfl; focus (intro w; go_simp; (try simp (disch := omega) only [IntWalk.i64_in, IntWalk.u64_in, IntWalk.u8_in, IntWalk.u32_in, IntWalk.i32_in]); first | exact rfl | rfl)) | (refine sl_step (fun K hK => .inl ⟨rfl, ?_⟩); unfold Oper.wp; go_simp; (first | with_reducible refine sl_call hS (XC.out _ hS.gr) ?_); clear hS; intro wk hS; refine hK _ _ ?_; clear hK K) | (refine sl_skip rfl ?_)); go_simp)
   go_upto_region 1 with (fail)
   try refine wp_region_lit ?_
   iterate 8 ((first | (refine ldV hS rfl _ rfl rfl ?_) | (refine stV hS rfl _ _ rfl rfl rfl ?_; clear hS; intro wk hS) | ((with_reducible show wpList _ _ _ (⟨_, .alloc 83 , _, _, _, _⟩ :: _) _ _); refine sl_new hS rfl #[.bool false, .bool false] 83 (fun b => .pointer (some ⟨b, 0, none⟩)) (by intro w; go_simp) ?_; clear hS; intro bp wk hS) | ((with_reducible show wpList _ _ _ (⟨_, .store 83 _ _, _, _, _, _⟩ :: _) _ _); refine sl_store hS rfl 83 _ _ rfl rfl rfl (by repeat (first | exact Rep.hd | apply Rep.tl)) (by kernel_rfl) (by rfl) (by kernel_rfl) ?_; clear hS; intro wk hS) | (apply sl_val rfl; focus (intro w; go_simp; (try simp (disch := omega) only [IntWalk.i64_in, IntWalk.u64_in, IntWalk.u8_in, IntWalk.u32_in, IntWalk.i32_in]); first | exact rfl | rfl)) | (refine sl_step (fun K hK => .inl ⟨rfl, ?_⟩); unfold Oper.wp; go_simp; (first | with_reducible refine sl_call hS (XC.out _ hS.gr) ?_); clear hS; intro wk hS; refine hK _ _ ?_; clear hK K) | (refine sl_skip rfl ?_)); go_simp)
   go_upto_region 2 with (fail)
   try refine wp_region_lit ?_
   iterate 2 ((first | (refine ldV hS rfl _ rfl rfl ?_) | (refine stV hS rfl _ _ rfl rfl rfl ?_; clear hS; intro wk hS) | ((with_reducible show wpList _ _ _ (⟨_, .alloc 83 , _, _, _, _⟩ :: _) _ _); refine sl_new hS rfl #[.bool false, .bool false] 83 (fun b => .pointer (some ⟨b, 0, none⟩)) (by intro w; go_simp) ?_; clear hS; intro bp wk hS) | ((with_reducible show wpList _ _ _ (⟨_, .store 83 _ _, _, _, _, _⟩ :: _) _ _); refine sl_store hS rfl 83 _ _ rfl rfl rfl (by repeat (first | exact Rep.hd | apply Rep.tl)) (by kernel_rfl) (by rfl) (by kernel_rfl) ?_; clear hS; intro wk hS) | (apply sl_val rfl; focus (intro w; go_simp; (try simp (disch := omega) only [IntWalk.i64_in, IntWalk.u64_in, IntWalk.u8_in, IntWalk.u32_in, IntWalk.i32_in]); first | exact rfl | rfl)) | (refine sl_step (fun K hK => .inl ⟨rfl, ?_⟩); unfold Oper.wp; go_simp; (first | with_reducible refine sl_call hS (XC.out _ hS.gr) ?_); clear hS; intro wk hS; refine hK _ _ ?_; clear hK K) | (refine sl_skip rfl ?_)); go_simp)
   go_upto_region 4 with (fail)
   try refine wp_region_lit ?_
   iterate 10 ((first | (refine ldV hS rfl _ rfl rfl ?_) | (refine stV hS rfl _ _ rfl rfl rfl ?_; clear hS; intro wk hS) | ((with_reducible show wpList _ _ _ (⟨_, .alloc 83 , _, _, _, _⟩ :: _) _ _); refine sl_new hS rfl #[.bool false, .bool false] 83 (fun b => .pointer (some ⟨b, 0, none⟩)) (by intro w; go_simp) ?_; clear hS; intro bp wk hS) | ((with_reducible show wpList _ _ _ (⟨_, .store 83 _ _, _, _, _, _⟩ :: _) _ _); refine sl_store hS rfl 83 _ _ rfl rfl rfl (by repeat (first | exact Rep.hd | apply Rep.tl)) (by kernel_rfl) (by rfl) (by kernel_rfl) ?_; clear hS; intro wk hS) | ((with_reducible show wpList _ _ _ (⟨_, .build 83 _, _, _, _, _⟩ :: _) _ _); refine wpList_build_at rfl 83 _ rfl #[.bool (hiB 2), .bool (sgB 2)] (by kernel_rfl) ?_) | (apply sl_val rfl; focus (intro w; go_simp; (try simp (disch := omega) only [IntWalk.i64_in]); first | exact rfl | rfl)) | (refine sl_skip rfl ?_)); go_simp)
   go_wp2_with fail
   refine sl_ret2r hS Try.results80 (by rfl) (by repeat (first | exact Has.hd | apply Has.tl)) Try.underlying83 rfl (by kernel_rfl) (by rfl) ?_
   exact ⟨rfl, hS.gr⟩
 ·rcases hp with rfl | rfl | rfl
  all_goals
   go_enter Try.func80, Try.ntmps80
   go_upto_region 0 with (fail)
   try refine wp_region_lit ?_
   iterate 2 ((first | (refine ldV hS rfl _ rfl rfl ?_) | (refine stV hS rfl _ _ rfl rfl rfl ?_; clear hS; intro wk hS) | ((with_reducible show wpList _ _ _ (⟨_, .alloc 83 , _, _, _, _⟩ :: _) _ _); refine sl_new hS rfl #[.bool false, .bool false] 83 (fun b => .pointer (some ⟨b, 0, none⟩)) (by intro w; go_simp) ?_; clear hS; intro bp wk hS) | ((with_reducible show wpList _ _ _ (⟨_, .store 83 _ _, _, _, _, _⟩ :: _) _ _); refine sl_store hS rfl 83 _ _ rfl rfl rfl (by repeat (first | exact Rep.hd | apply Rep.tl)) (by kernel_rfl) (by rfl) (by kernel_rfl) ?_; clear hS; intro wk hS) | (apply sl_val rfl; focus (intro w; go_simp; (try simp (disch := omega) only [IntWalk.i64_in, IntWalk.u64_in, IntWalk.u8_in, IntWalk.u32_in, IntWalk.i32_in]); first | exact rfl | rfl)) | (refine sl_step (fun K hK => .inl ⟨rfl, ?_⟩); unfold Oper.wp; go_simp; (first | with_reducible refine sl_call hS (XC.out _ hS.gr) ?_); clear hS; intro wk hS; refine hK _ _ ?_; clear hK K) | (refine sl_skip rfl ?_)); go_simp)
   go_upto_region 1 with (fail)
   try refine wp_region_lit ?_
   iterate 8 ((first | (refine ldV hS rfl _ rfl rfl ?_) | (refine stV hS rfl _ _ rfl rfl rfl ?_; clear hS; intro wk hS) | ((with_reducible show wpList _ _ _ (⟨_, .alloc 83 , _, _, _, _⟩ :: _) _ _); refine sl_new hS rfl #[.bool false, .bool false] 83 (fun b => .pointer (some ⟨b, 0, none⟩)) (by intro w; go_simp) ?_; clear hS; intro bp wk hS) | ((with_reducible show wpList _ _ _ (⟨_, .store 83 _ _, _, _, _, _⟩ :: _) _ _); refine sl_store hS rfl 83 _ _ rfl rfl rfl (by repeat (first | exact Rep.hd | apply Rep.tl)) (by kernel_rfl) (by rfl) (by kernel_rfl) ?_; clear hS; intro wk hS) | (apply sl_val rfl; focus (intro w; go_simp; (try simp (disch := omega) only [IntWalk.i64_in, IntWalk.u64_in, IntWalk.u8_in, IntWalk.u32_in, IntWalk.i32_in]); first | exact rfl | rfl)) | (refine sl_step (fun K hK => .inl ⟨rfl, ?_⟩); unfold Oper.wp; go_simp; (first | with_reducible refine sl_call hS (XC.out _ hS.gr) ?_); clear hS; intro wk hS; refine hK _ _ ?_; clear hK K) | (refine sl_skip rfl ?_)); go_simp)
   go_upto_region 2 with (fail)
   try refine wp_region_lit ?_
   iterate 2 ((first | (refine ldV hS rfl _ rfl rfl ?_) | (refine stV hS rfl _ _ rfl rfl rfl ?_; clear hS; intro wk hS) | ((with_reducible show wpList _ _ _ (⟨_, .alloc 83 , _, _, _, _⟩ :: _) _ _); refine sl_new hS rfl #[.bool false, .bool false] 83 (fun b => .pointer (some ⟨b, 0, none⟩)) (by intro w; go_simp) ?_; clear hS; intro bp wk hS) | ((with_reducible show wpList _ _ _ (⟨_, .store 83 _ _, _, _, _, _⟩ :: _) _ _); refine sl_store hS rfl 83 _ _ rfl rfl rfl (by repeat (first | exact Rep.hd | apply Rep.tl)) (by kernel_rfl) (by rfl) (by kernel_rfl) ?_; clear hS; intro wk hS) | (apply sl_val rfl; focus (intro w; go_simp; (try simp (disch := omega) only [IntWalk.i64_in, IntWalk.u64_in, IntWalk.u8_in, IntWalk.u32_in, IntWalk.i32_in]); first | exact rfl | rfl)) | (refine sl_step (fun K hK => .inl ⟨rfl, ?_⟩); unfold Oper.wp; go_simp; (first | with_reducible refine sl_call hS (XC.out _ hS.gr) ?_); clear hS; intro wk hS; refine hK _ _ ?_; clear hK K) | (refine sl_skip rfl ?_)); go_simp)
   go_upto_region 4 with (fail)
   try refine wp_region_lit ?_
   iterate 10 ((first | (refine ldV hS rfl _ rfl rfl ?_) | (refine stV hS rfl _ _ rfl rfl rfl ?_; clear hS; intro wk hS) | ((with_reducible show wpList _ _ _ (⟨_, .alloc 83 , _, _, _, _⟩ :: _) _ _); refine sl_new hS rfl #[.bool false, .bool false] 83 (fun b => .pointer (some ⟨b, 0, none⟩)) (by intro w; go_simp) ?_; clear hS; intro bp wk hS) | ((with_reducible show wpList _ _ _ (⟨_, .store 83 _ _, _, _, _, _⟩ :: _) _ _); refine sl_store hS rfl 83 _ _ rfl rfl rfl (by repeat (first | exact Rep.hd | apply Rep.tl)) (by kernel_rfl) (by rfl) (by kernel_rfl) ?_; clear hS; intro wk hS) | ((with_reducible show wpList _ _ _ (⟨_, .build 83 _, _, _, _, _⟩ :: _) _ _); refine wpList_build_at rfl 83 _ rfl #[.bool (hiB 3), .bool (sgB 3)] (by kernel_rfl) ?_) | (apply sl_val rfl; focus (intro w; go_simp; (try simp (disch := omega) only [IntWalk.i64_in]); first | exact rfl | rfl)) | (refine sl_skip rfl ?_)); go_simp)
   go_wp2_with fail
   refine sl_ret2r hS Try.results80 (by rfl) (by repeat (first | exact Has.hd | apply Has.tl)) Try.underlying83 rfl (by kernel_rfl) (by rfl) ?_
   exact ⟨rfl, hS.gr⟩
set_option maxHeartbeats 2000000 in
theorem part_no (op : Int) (ho : -9223372036854775808 ≤ op ∧ op ≤ 9223372036854775807) (f : Nat → Int) (L : Nat) (hL : L ≤ 3) (hf : ∀ i, 60000 ≤ f i ∧ f i ≤ 70000) (hno : ∀ i, i < L → ¬ inR op 4 (f i)) (w : World) (g : Nat)
  (hc : ∀ j, j < L → w.cell? ⟨g, j, none⟩ = some (.int .i64 (f j))) :
  Calls Try.prog 80 #[.int .i64 op, .slice (some ⟨g, 0, none⟩) L L] w fun e w' => e = .returned (.tuple #[.int .i64 0, .agg #[.bool false, .bool false]]) ∧ Gr w w' := by
 have C : ∀ w', Gr w w' → Calls Try.prog 82 #[.int .i64 op, .int .i64 4, .slice (some ⟨g, 0, none⟩) L L] w' fun e w'' => e = .returned (.tuple #[.int .i64 0, .int .i64 0]) ∧ Gr w' w'' := fun w' hg =>
  calls_gr (row_no op 4 ho f L hL (.inr rfl) hf hno w' g (fun j hj => gr_cell hg (hc j hj)))
 clear hno hf ho hc hL
 have hS := St.start w
 have XC := Lib.hid C
 clear C
 go_enter Try.func80, Try.ntmps80
 go_upto_region 0 with (fail)
 try refine wp_region_lit ?_
 iterate 2 ((first | (refine ldV hS rfl _ rfl rfl ?_) | (refine stV hS rfl _ _ rfl rfl rfl ?_; clear hS; intro wk hS) | ((with_reducible show wpList _ _ _ (⟨_, .alloc 83 , _, _, _, _⟩ :: _) _ _); refine sl_new hS rfl #[.bool false, .bool false] 83 (fun b => .pointer (some ⟨b, 0, none⟩)) (by intro w; go_simp) ?_; clear hS; intro bp wk hS) | ((with_reducible show wpList _ _ _ (⟨_, .store 83 _ _, _, _, _, _⟩ :: _) _ _); refine sl_store hS rfl 83 _ _ rfl rfl rfl (by repeat (first | exact Rep.hd | apply Rep.tl)) (by kernel_rfl) (by rfl) (by kernel_rfl) ?_; clear hS; intro wk hS) | (apply sl_val rfl; focus (intro w; go_simp; (try simp (disch := omega) only [IntWalk.i64_in, IntWalk.u64_in, IntWalk.u8_in, IntWalk.u32_in, IntWalk.i32_in]); first | exact rfl | rfl)) | (refine sl_step (fun K hK => .inl ⟨rfl, ?_⟩); unfold Oper.wp; go_simp; (first | with_reducible refine sl_call hS (XC.out _ hS.gr) ?_); clear hS; intro wk hS; refine hK _ _ ?_; clear hK K) | (refine sl_skip rfl ?_)); go_simp)
 go_upto_region 1 with (fail)
 try refine wp_region_lit ?_
 iterate 8 ((first | (refine ldV hS rfl _ rfl rfl ?_) | (refine stV hS rfl _ _ rfl rfl rfl ?_; clear hS; intro wk hS) | ((with_reducible show wpList _ _ _ (⟨_, .alloc 83 , _, _, _, _⟩ :: _) _ _); refine sl_new hS rfl #[.bool false, .bool false] 83 (fun b => .pointer (some ⟨b, 0, none⟩)) (by intro w; go_simp) ?_; clear hS; intro bp wk hS) | ((with_reducible show wpList _ _ _ (⟨_, .store 83 _ _, _, _, _, _⟩ :: _) _ _); refine sl_store hS rfl 83 _ _ rfl rfl rfl (by repeat (first | exact Rep.hd | apply Rep.tl)) (by kernel_rfl) (by rfl) (by kernel_rfl) ?_; clear hS; intro wk hS) | (apply sl_val rfl; focus (intro w; go_simp; (try simp (disch := omega) only [IntWalk.i64_in, IntWalk.u64_in, IntWalk.u8_in, IntWalk.u32_in, IntWalk.i32_in]); first | exact rfl | rfl)) | (refine sl_step (fun K hK => .inl ⟨rfl, ?_⟩); unfold Oper.wp; go_simp; (first | with_reducible refine sl_call hS (XC.out _ hS.gr) ?_); clear hS; intro wk hS; refine hK _ _ ?_; clear hK K) | (refine sl_skip rfl ?_)); go_simp)
 go_upto_region 2 with (fail)
 try refine wp_region_lit ?_
 iterate 2 ((first | (refine ldV hS rfl _ rfl rfl ?_) | (refine stV hS rfl _ _ rfl rfl rfl ?_; clear hS; intro wk hS) | ((with_reducible show wpList _ _ _ (⟨_, .alloc 83 , _, _, _, _⟩ :: _) _ _); refine sl_new hS rfl #[.bool false, .bool false] 83 (fun b => .pointer (some ⟨b, 0, none⟩)) (by intro w; go_simp) ?_; clear hS; intro bp wk hS) | ((with_reducible show wpList _ _ _ (⟨_, .store 83 _ _, _, _, _, _⟩ :: _) _ _); refine sl_store hS rfl 83 _ _ rfl rfl rfl (by repeat (first | exact Rep.hd | apply Rep.tl)) (by kernel_rfl) (by rfl) (by kernel_rfl) ?_; clear hS; intro wk hS) | (apply sl_val rfl; focus (intro w; go_simp; (try simp (disch := omega) only [IntWalk.i64_in, IntWalk.u64_in, IntWalk.u8_in, IntWalk.u32_in, IntWalk.i32_in]); first | exact rfl | rfl)) | (refine sl_step (fun K hK => .inl ⟨rfl, ?_⟩); unfold Oper.wp; go_simp; (first | with_reducible refine sl_call hS (XC.out _ hS.gr) ?_); clear hS; intro wk hS; refine hK _ _ ?_; clear hK K) | (refine sl_skip rfl ?_)); go_simp)
 go_upto_region 3 with (fail)
 try refine wp_region_lit ?_
 iterate 3 ((first | (refine ldV hS rfl _ rfl rfl ?_) | (refine stV hS rfl _ _ rfl rfl rfl ?_; clear hS; intro wk hS) | ((with_reducible show wpList _ _ _ (⟨_, .alloc 83 , _, _, _, _⟩ :: _) _ _); refine sl_new hS rfl #[.bool false, .bool false] 83 (fun b => .pointer (some ⟨b, 0, none⟩)) (by intro w; go_simp) ?_; clear hS; intro bp wk hS) | ((with_reducible show wpList _ _ _ (⟨_, .store 83 _ _, _, _, _, _⟩ :: _) _ _); refine sl_store hS rfl 83 _ _ rfl rfl rfl (by repeat (first | exact Rep.hd | apply Rep.tl)) (by kernel_rfl) (by rfl) (by kernel_rfl) ?_; clear hS; intro wk hS) | ((with_reducible show wpList _ _ _ (⟨_, .build 83 _, _, _, _, _⟩ :: _) _ _); refine wpList_build_at rfl 83 _ rfl #[.bool false, .bool false] (by kernel_rfl) ?_) | (apply sl_val rfl; focus (intro w; go_simp; (try simp (disch := omega) only [IntWalk.i64_in, IntWalk.u64_in, IntWalk.u8_in, IntWalk.u32_in, IntWalk.i32_in]); first | exact rfl | rfl)) | (refine sl_skip rfl ?_)); go_simp)
 go_wp2_with fail
 refine sl_ret2r hS Try.results80 (by rfl) (by repeat (first | exact Has.hd | apply Has.tl)) Try.underlying83 rfl (by kernel_rfl) (by rfl) ?_
 exact ⟨rfl, hS.gr⟩
def tri (a b c : Int) : Nat → Int := fun i => if i = 0 then a else if i = 1 then b else c
theorem tri_bd (a b c : Int) (h : 60000 ≤ a ∧ a ≤ 70000) (h' : 60000 ≤ b ∧ b ≤ 70000) (h'' : 60000 ≤ c ∧ c ≤ 70000) (i : Nat) : 60000 ≤ tri a b c i ∧ tri a b c i ≤ 70000 := by
 unfold tri; split; exact h; split; exact h'; exact h''
theorem no_lt0 {P : Nat → Prop} (i : Nat) (h : i < 0) : ¬ P i := absurd h (Nat.not_lt_zero _)
instance (op n z : Int) : Decidable (inR op n z) := by unfold inR; infer_instance
def xW (a op : Int) : Int := if inR op 4 a then 16 else if inR op 4 (a + 32) then 32 else if inR op 4 (a + 64) then 64 else 0
def xD (a op : Int) : Int := (op - a) % 32
theorem xW_cases (a op : Int) : xW a op = 0 ∨ ((xW a op = 16 ∨ xW a op = 32 ∨ xW a op = 64) ∧ 0 ≤ xD a op ∧ xD a op ≤ 3) := by
 by_cases h0 : inR op 4 a
 ·have e : xW a op = 16 := by unfold xW; rw [if_pos h0]
  right; exact ⟨.inl e, by unfold xD; unfold inR at h0; omega⟩
 ·by_cases h1 : inR op 4 (a + 32)
  ·have e : xW a op = 32 := by unfold xW; rw [if_neg h0, if_pos h1]
   right; exact ⟨.inr (.inl e), by unfold xD; unfold inR at h1; omega⟩
  ·by_cases h2 : inR op 4 (a + 64)
   ·have e : xW a op = 64 := by unfold xW; rw [if_neg h0, if_neg h1, if_pos h2]
    right; exact ⟨.inr (.inr e), by unfold xD; unfold inR at h2; omega⟩
   ·left; unfold xW; rw [if_neg h0, if_neg h1, if_neg h2]
def xP (a op : Int) : Array Value := if xW a op = 0 then #[.bool false, .bool false] else #[.bool (hiB (xD a op)), .bool (sgB (xD a op))]
theorem ext_part (op : Int) (ho : -9223372036854775808 ≤ op ∧ op ≤ 9223372036854775807) {w : World} {w0 : World} {M : List Ent} (hS : St w0 M w) {g : Nat} (hm : Has M g #[.int .i64 64903, .int .i64 64935, .int .i64 64967] 3) :
  Calls Try.prog 80 #[.int .i64 op, .slice (some ⟨g, 0, none⟩) 3 3] w fun e w' => e = .returned (.tuple #[.int .i64 (xW 64903 op), .agg (xP 64903 op)]) ∧ Gr w w' := by
 have hc : ∀ j, j < 3 → w.cell? ⟨g, j, none⟩ = some (.int .i64 (tri 64903 64935 64967 j)) := fun j hj => by
  rw [hS.cell hm j]
  match j, hj with
  | 0, _ => rfl
  | 1, _ => rfl
  | 2, _ => rfl
 have hf := tri_bd 64903 64935 64967 (by decide) (by decide) (by decide)
 have eX : xW 64903 op = if inR op 4 64903 then 16 else if inR op 4 64935 then 32 else if inR op 4 64967 then 64 else 0 := rfl
 by_cases h0 : inR op 4 64903
 ·have e1 : xW 64903 op = 16 := by rw [eX, if_pos h0]
  have e2 : xD 64903 op = op - 64903 := by unfold xD; unfold inR at h0; omega
  have := part_at op ho (tri 64903 64935 64967) 3 0 (by decide) (by decide) hf h0 (fun i hi => absurd hi (Nat.not_lt_zero _)) w g hc
  unfold xP; rw [if_neg (by rw [e1]; decide), e1, e2]; exact this
 ·by_cases h1 : inR op 4 64935
  ·have e1 : xW 64903 op = 32 := by rw [eX, if_neg h0, if_pos h1]
   have e2 : xD 64903 op = op - 64935 := by unfold xD; unfold inR at h1; omega
   have := part_at op ho (tri 64903 64935 64967) 3 1 (by decide) (by decide) hf h1 (fun i hi => by rw [show i = 0 by omega]; exact h0) w g hc
   unfold xP; rw [if_neg (by rw [e1]; decide), e1, e2]; exact this
  ·by_cases h2 : inR op 4 64967
   ·have e1 : xW 64903 op = 64 := by rw [eX, if_neg h0, if_neg h1, if_pos h2]
    have e2 : xD 64903 op = op - 64967 := by unfold xD; unfold inR at h2; omega
    have := part_at op ho (tri 64903 64935 64967) 3 2 (by decide) (by decide) hf h2 (fun i hi => by
     match i, hi with
     | 0, _ => exact h0
     | 1, _ => exact h1) w g hc
    unfold xP; rw [if_neg (by rw [e1]; decide), e1, e2]; exact this
   ·have e1 : xW 64903 op = 0 := by rw [eX, if_neg h0, if_neg h1, if_neg h2]
    have := part_no op ho (tri 64903 64935 64967) 3 (by decide) hf (fun i hi => by
     match i, hi with
     | 0, _ => exact h0
     | 1, _ => exact h1
     | 2, _ => exact h2) w g hc
    unfold xP; rw [if_pos e1, e1]; exact this
theorem ext_any (op : Int) (ho : -9223372036854775808 ≤ op ∧ op ≤ 9223372036854775807) (w : World) : Calls Try.prog 41 #[.int .i64 op] w fun e w' => e = .returned (.tuple #[.int .i64 (xW 64903 op), .agg (xP 64903 op)]) ∧ Gr w w' := by
 obtain ⟨p1, p2, hp⟩ : ∃ p1 p2, xP 64903 op = #[.bool p1, .bool p2] := by unfold xP; split <;> exact ⟨_, _, rfl⟩
 have hS := St.start w
 have C := fun {w : World} {M : List Ent} (hS : St w M w) => True.intro
 have D := fun (w1 : World) (M : List Ent) (g : Nat) (h : St w M w1) (hm : Has M g #[.int .i64 64903, .int .i64 64935, .int .i64 64967] 3) => ext_part op ho h hm
 rw [hp] at D ⊢
 clear hp C ho
 generalize xW 64903 op = x at *
 have XD := Lib.hid D
 clear D
 go_enter Try.func41, Try.ntmps41
 go_upto_region 0 with (fail)
 try refine wp_region_lit ?_
 iterate 2 ((first | (refine ldV hS rfl _ rfl rfl ?_) | (refine stV hS rfl _ _ rfl rfl rfl ?_; clear hS; intro wk hS) | ((with_reducible show wpList _ _ _ (⟨_, .alloc 83 , _, _, _, _⟩ :: _) _ _); refine sl_new hS rfl #[.bool false, .bool false] 83 (fun b => .pointer (some ⟨b, 0, none⟩)) (by intro w; go_simp) ?_; clear hS; intro bp wk hS) | ((with_reducible show wpList _ _ _ (⟨_, .buildSlice _ _ _, _, _, _, _⟩ :: _) _ _); refine sl_new hS rfl #[.int .i64 64903, .int .i64 64935, .int .i64 64967] 3 (fun b => .slice (some ⟨b, 0, none⟩) 3 3) (by intro w; go_simp) ?_; clear hS; intro bs wk hS) | ((with_reducible show wpList _ _ _ (⟨_, .store 83 _ _, _, _, _, _⟩ :: _) _ _); refine sl_store hS rfl 83 _ _ rfl rfl rfl (by repeat (first | exact Rep.hd | apply Rep.tl)) (by kernel_rfl) (by rfl) (by kernel_rfl) ?_; clear hS; intro wk hS) | (apply sl_val rfl; focus (intro w; go_simp; (try simp (disch := omega) only [IntWalk.i64_in, IntWalk.u64_in, IntWalk.u8_in, IntWalk.u32_in, IntWalk.i32_in]); first | exact rfl | rfl)) | (refine sl_step (fun K hK => .inl ⟨rfl, ?_⟩); unfold Oper.wp; go_simp; (first | with_reducible refine sl_call hS (XD.out _ _ _ hS Has.hd) ?_); clear hS; intro wk hS; refine hK _ _ ?_; clear hK K) | (refine sl_skip rfl ?_)); go_simp)
 go_upto_region 1 with (fail)
 try refine wp_region_lit ?_
 iterate 7 ((first | (refine ldV hS rfl _ rfl rfl ?_) | (refine stV hS rfl _ _ rfl rfl rfl ?_; clear hS; intro wk hS) | ((with_reducible show wpList _ _ _ (⟨_, .alloc 83 , _, _, _, _⟩ :: _) _ _); refine sl_new hS rfl #[.bool false, .bool false] 83 (fun b => .pointer (some ⟨b, 0, none⟩)) (by intro w; go_simp) ?_; clear hS; intro bp wk hS) | ((with_reducible show wpList _ _ _ (⟨_, .buildSlice _ _ _, _, _, _, _⟩ :: _) _ _); refine sl_new hS rfl #[.int .i64 64903, .int .i64 64935, .int .i64 64967] 3 (fun b => .slice (some ⟨b, 0, none⟩) 3 3) (by intro w; go_simp) ?_; clear hS; intro bs wk hS) | ((with_reducible show wpList _ _ _ (⟨_, .store 83 _ _, _, _, _, _⟩ :: _) _ _); refine sl_store hS rfl 83 _ _ rfl rfl rfl (by repeat (first | exact Rep.hd | apply Rep.tl)) (by kernel_rfl) (by rfl) (by kernel_rfl) ?_; clear hS; intro wk hS) | (apply sl_val rfl; focus (intro w; go_simp; (try simp (disch := omega) only [IntWalk.i64_in, IntWalk.u64_in, IntWalk.u8_in, IntWalk.u32_in, IntWalk.i32_in]); first | exact rfl | rfl)) | (refine sl_step (fun K hK => .inl ⟨rfl, ?_⟩); unfold Oper.wp; go_simp; (first | with_reducible refine sl_call hS (XD.out _ _ _ hS Has.hd) ?_); clear hS; intro wk hS; refine hK _ _ ?_; clear hK K) | (refine sl_skip rfl ?_)); go_simp)
 go_wp2_with fail
 refine sl_ret2r hS Try.results41 (by rfl) (by repeat (first | exact Has.hd | apply Has.tl)) Try.underlying83 rfl (by kernel_rfl) (by rfl) ?_
 exact ⟨rfl, hS.gr⟩
theorem mul_part (op : Int) (ho : -9223372036854775808 ≤ op ∧ op ≤ 9223372036854775807) {w : World} {w0 : World} {M : List Ent} (hS : St w0 M w) {g : Nat} (hm : Has M g #[.int .i64 64924, .int .i64 64956, .int .i64 64988] 3) :
  Calls Try.prog 80 #[.int .i64 op, .slice (some ⟨g, 0, none⟩) 3 3] w fun e w' => e = .returned (.tuple #[.int .i64 (xW 64924 op), .agg (xP 64924 op)]) ∧ Gr w w' := by
 have hc : ∀ j, j < 3 → w.cell? ⟨g, j, none⟩ = some (.int .i64 (tri 64924 64956 64988 j)) := fun j hj => by
  rw [hS.cell hm j]
  match j, hj with
  | 0, _ => rfl
  | 1, _ => rfl
  | 2, _ => rfl
 have hf := tri_bd 64924 64956 64988 (by decide) (by decide) (by decide)
 have eX : xW 64924 op = if inR op 4 64924 then 16 else if inR op 4 64956 then 32 else if inR op 4 64988 then 64 else 0 := rfl
 by_cases h0 : inR op 4 64924
 ·have e1 : xW 64924 op = 16 := by rw [eX, if_pos h0]
  have e2 : xD 64924 op = op - 64924 := by unfold xD; unfold inR at h0; omega
  have := part_at op ho (tri 64924 64956 64988) 3 0 (by decide) (by decide) hf h0 (fun i hi => absurd hi (Nat.not_lt_zero _)) w g hc
  unfold xP; rw [if_neg (by rw [e1]; decide), e1, e2]; exact this
 ·by_cases h1 : inR op 4 64956
  ·have e1 : xW 64924 op = 32 := by rw [eX, if_neg h0, if_pos h1]
   have e2 : xD 64924 op = op - 64956 := by unfold xD; unfold inR at h1; omega
   have := part_at op ho (tri 64924 64956 64988) 3 1 (by decide) (by decide) hf h1 (fun i hi => by rw [show i = 0 by omega]; exact h0) w g hc
   unfold xP; rw [if_neg (by rw [e1]; decide), e1, e2]; exact this
  ·by_cases h2 : inR op 4 64988
   ·have e1 : xW 64924 op = 64 := by rw [eX, if_neg h0, if_neg h1, if_pos h2]
    have e2 : xD 64924 op = op - 64988 := by unfold xD; unfold inR at h2; omega
    have := part_at op ho (tri 64924 64956 64988) 3 2 (by decide) (by decide) hf h2 (fun i hi => by
     match i, hi with
     | 0, _ => exact h0
     | 1, _ => exact h1) w g hc
    unfold xP; rw [if_neg (by rw [e1]; decide), e1, e2]; exact this
   ·have e1 : xW 64924 op = 0 := by rw [eX, if_neg h0, if_neg h1, if_neg h2]
    have := part_no op ho (tri 64924 64956 64988) 3 (by decide) hf (fun i hi => by
     match i, hi with
     | 0, _ => exact h0
     | 1, _ => exact h1
     | 2, _ => exact h2) w g hc
    unfold xP; rw [if_pos e1, e1]; exact this
theorem mul_any (op : Int) (ho : -9223372036854775808 ≤ op ∧ op ≤ 9223372036854775807) (w : World) : Calls Try.prog 49 #[.int .i64 op] w fun e w' => e = .returned (.tuple #[.int .i64 (xW 64924 op), .agg (xP 64924 op)]) ∧ Gr w w' := by
 obtain ⟨p1, p2, hp⟩ : ∃ p1 p2, xP 64924 op = #[.bool p1, .bool p2] := by unfold xP; split <;> exact ⟨_, _, rfl⟩
 have hS := St.start w
 have C := fun {w : World} {M : List Ent} (hS : St w M w) => True.intro
 have D := fun (w1 : World) (M : List Ent) (g : Nat) (h : St w M w1) (hm : Has M g #[.int .i64 64924, .int .i64 64956, .int .i64 64988] 3) => mul_part op ho h hm
 rw [hp] at D ⊢
 clear hp C ho
 generalize xW 64924 op = x at *
 have XD := Lib.hid D
 clear D
 go_enter Try.func49, Try.ntmps49
 go_upto_region 0 with (fail)
 try refine wp_region_lit ?_
 iterate 2 ((first | (refine ldV hS rfl _ rfl rfl ?_) | (refine stV hS rfl _ _ rfl rfl rfl ?_; clear hS; intro wk hS) | ((with_reducible show wpList _ _ _ (⟨_, .alloc 83 , _, _, _, _⟩ :: _) _ _); refine sl_new hS rfl #[.bool false, .bool false] 83 (fun b => .pointer (some ⟨b, 0, none⟩)) (by intro w; go_simp) ?_; clear hS; intro bp wk hS) | ((with_reducible show wpList _ _ _ (⟨_, .buildSlice _ _ _, _, _, _, _⟩ :: _) _ _); refine sl_new hS rfl #[.int .i64 64924, .int .i64 64956, .int .i64 64988] 3 (fun b => .slice (some ⟨b, 0, none⟩) 3 3) (by intro w; go_simp) ?_; clear hS; intro bs wk hS) | ((with_reducible show wpList _ _ _ (⟨_, .store 83 _ _, _, _, _, _⟩ :: _) _ _); refine sl_store hS rfl 83 _ _ rfl rfl rfl (by repeat (first | exact Rep.hd | apply Rep.tl)) (by kernel_rfl) (by rfl) (by kernel_rfl) ?_; clear hS; intro wk hS) | (apply sl_val rfl; focus (intro w; go_simp; (try simp (disch := omega) only [IntWalk.i64_in, IntWalk.u64_in, IntWalk.u8_in, IntWalk.u32_in, IntWalk.i32_in]); first | exact rfl | rfl)) | (refine sl_step (fun K hK => .inl ⟨rfl, ?_⟩); unfold Oper.wp; go_simp; (first | with_reducible refine sl_call hS (XD.out _ _ _ hS Has.hd) ?_); clear hS; intro wk hS; refine hK _ _ ?_; clear hK K) | (refine sl_skip rfl ?_)); go_simp)
 go_upto_region 1 with (fail)
 try refine wp_region_lit ?_
 iterate 7 ((first | (refine ldV hS rfl _ rfl rfl ?_) | (refine stV hS rfl _ _ rfl rfl rfl ?_; clear hS; intro wk hS) | ((with_reducible show wpList _ _ _ (⟨_, .alloc 83 , _, _, _, _⟩ :: _) _ _); refine sl_new hS rfl #[.bool false, .bool false] 83 (fun b => .pointer (some ⟨b, 0, none⟩)) (by intro w; go_simp) ?_; clear hS; intro bp wk hS) | ((with_reducible show wpList _ _ _ (⟨_, .buildSlice _ _ _, _, _, _, _⟩ :: _) _ _); refine sl_new hS rfl #[.int .i64 64924, .int .i64 64956, .int .i64 64988] 3 (fun b => .slice (some ⟨b, 0, none⟩) 3 3) (by intro w; go_simp) ?_; clear hS; intro bs wk hS) | ((with_reducible show wpList _ _ _ (⟨_, .store 83 _ _, _, _, _, _⟩ :: _) _ _); refine sl_store hS rfl 83 _ _ rfl rfl rfl (by repeat (first | exact Rep.hd | apply Rep.tl)) (by kernel_rfl) (by rfl) (by kernel_rfl) ?_; clear hS; intro wk hS) | (apply sl_val rfl; focus (intro w; go_simp; (try simp (disch := omega) only [IntWalk.i64_in, IntWalk.u64_in, IntWalk.u8_in, IntWalk.u32_in, IntWalk.i32_in]); first | exact rfl | rfl)) | (refine sl_step (fun K hK => .inl ⟨rfl, ?_⟩); unfold Oper.wp; go_simp; (first | with_reducible refine sl_call hS (XD.out _ _ _ hS Has.hd) ?_); clear hS; intro wk hS; refine hK _ _ ?_; clear hK K) | (refine sl_skip rfl ?_)); go_simp)
 go_wp2_with fail
 refine sl_ret2r hS Try.results49 (by rfl) (by repeat (first | exact Has.hd | apply Has.tl)) Try.underlying83 rfl (by kernel_rfl) (by rfl) ?_
 exact ⟨rfl, hS.gr⟩
def pwsW (op : Int) : Int := if inR op 2 64892 then 16 else if inR op 2 64894 then 32 else 0
def pwsS (op : Int) : Bool := decide (op = 64892) || decide (op = 64894)
theorem pwsW_cases (op : Int) : pwsW op = 0 ∨ pwsW op = 16 ∨ pwsW op = 32 := by
 unfold pwsW; split; exact .inr (.inl rfl); split; exact .inr (.inr rfl); exact .inl rfl
theorem pws_any (op : Int) (ho : -9223372036854775808 ≤ op ∧ op ≤ 9223372036854775807) (w : World) : Calls Try.prog 43 #[.int .i64 op] w fun e w' => e = .returned (.tuple #[.int .i64 (pwsW op), .bool (pwsS op)]) ∧ Gr w w' := by
 have hf := tri_bd 64892 64894 64894 (by decide) (by decide) (by decide)
 have hc : ∀ (w1 : World) (M : List Ent) (g : Nat) (hS : St w M w1) (hm : Has M g #[.int .i64 64892, .int .i64 64894] 3) (j : Nat), j < 2 → w1.cell? ⟨g, j, none⟩ = some (.int .i64 (tri 64892 64894 64894 j)) := fun w1 M g hS hm j hj => by
  rw [hS.cell hm j]
  match j, hj with
  | 0, _ => rfl
  | 1, _ => rfl
 have hS := St.start w
 by_cases h0 : inR op 2 64892
 ·have e1 : pwsW op = 16 := by unfold pwsW; rw [if_pos h0]
  have D := fun (w1 : World) (M : List Ent) (g : Nat) (h : St w M w1) (hm : Has M g #[.int .i64 64892, .int .i64 64894] 3) => calls_gr (row_at op 2 ho (tri 64892 64894 64894) 2 0 (by decide) (by decide) (.inl rfl) hf h0 (fun i hi => absurd hi (Nat.not_lt_zero _)) w1 g (hc w1 M g h hm))
  rw [e1]
  have e2 : op = 64892 ∨ op = 64893 := by unfold inR at h0; omega
  rcases e2 with rfl | rfl
  all_goals
   clear ho h0 hc hf e1
   have XD := Lib.hid D
   clear D
   go_enter Try.func43, Try.ntmps43
   go_upto_region 0 with (fail)
   try refine wp_region_lit ?_
   iterate 2 ((first | (refine ldV hS rfl _ rfl rfl ?_) | (refine stV hS rfl _ _ rfl rfl rfl ?_; clear hS; intro wk hS) | ((with_reducible show wpList _ _ _ (⟨_, .buildSlice _ _ _, _, _, _, _⟩ :: _) _ _); refine sl_new hS rfl #[.int .i64 64892, .int .i64 64894] 3 (fun b => .slice (some ⟨b, 0, none⟩) 2 2) (by intro w; go_simp) ?_; clear hS; intro bs wk hS) | (apply sl_val rfl; focus (intro w; go_simp; (try simp (disch := omega) only [IntWalk.i64_in, IntWalk.u64_in, IntWalk.u8_in, IntWalk.u32_in, IntWalk.i32_in]); first | exact rfl | rfl)) | (refine sl_step (fun K hK => .inl ⟨rfl, ?_⟩); unfold Oper.wp; go_simp; (first | with_reducible refine sl_call hS (XD.out _ _ _ hS Has.hd) ?_); clear hS; intro wk hS; refine hK _ _ ?_; clear hK K) | (refine sl_skip rfl ?_)); go_simp)
   go_upto_region 1 with (fail)
   try refine wp_region_lit ?_
   iterate 8 ((first | (refine ldV hS rfl _ rfl rfl ?_) | (refine stV hS rfl _ _ rfl rfl rfl ?_; clear hS; intro wk hS) | ((with_reducible show wpList _ _ _ (⟨_, .buildSlice _ _ _, _, _, _, _⟩ :: _) _ _); refine sl_new hS rfl #[.int .i64 64892, .int .i64 64894] 3 (fun b => .slice (some ⟨b, 0, none⟩) 2 2) (by intro w; go_simp) ?_; clear hS; intro bs wk hS) | (apply sl_val rfl; focus (intro w; go_simp; (try simp (disch := omega) only [IntWalk.i64_in, IntWalk.u64_in, IntWalk.u8_in, IntWalk.u32_in, IntWalk.i32_in]); first | exact rfl | rfl)) | (refine sl_step (fun K hK => .inl ⟨rfl, ?_⟩); unfold Oper.wp; go_simp; (first | with_reducible refine sl_call hS (XD.out _ _ _ hS Has.hd) ?_); clear hS; intro wk hS; refine hK _ _ ?_; clear hK K) | (refine sl_skip rfl ?_)); go_simp)
   go_upto_region 2 with (fail)
   try refine wp_region_lit ?_
   iterate 10 ((first | (refine ldV hS rfl _ rfl rfl ?_) | (refine stV hS rfl _ _ rfl rfl rfl ?_; clear hS; intro wk hS) | ((with_reducible show wpList _ _ _ (⟨_, .buildSlice _ _ _, _, _, _, _⟩ :: _) _ _); refine sl_new hS rfl #[.int .i64 64892, .int .i64 64894] 3 (fun b => .slice (some ⟨b, 0, none⟩) 2 2) (by intro w; go_simp) ?_; clear hS; intro bs wk hS) | (apply sl_val rfl; focus (intro w; go_simp; (try simp (disch := omega) only [IntWalk.i64_in, IntWalk.u64_in, IntWalk.u8_in, IntWalk.u32_in, IntWalk.i32_in]); first | exact rfl | rfl)) | (refine sl_step (fun K hK => .inl ⟨rfl, ?_⟩); unfold Oper.wp; go_simp; (first | with_reducible refine sl_call hS (XD.out _ _ _ hS Has.hd) ?_); clear hS; intro wk hS; refine hK _ _ ?_; clear hK K) | (refine sl_skip rfl ?_)); go_simp)
   go_wp2_with fail
   go_ret2
   exact ⟨rfl, hS.gr⟩
 ·by_cases h1 : inR op 2 64894
  ·have e1 : pwsW op = 32 := by unfold pwsW; rw [if_neg h0, if_pos h1]
   have D := fun (w1 : World) (M : List Ent) (g : Nat) (h : St w M w1) (hm : Has M g #[.int .i64 64892, .int .i64 64894] 3) => calls_gr (row_at op 2 ho (tri 64892 64894 64894) 2 1 (by decide) (by decide) (.inl rfl) hf h1 (fun i hi => by rw [show i = 0 by omega]; exact h0) w1 g (hc w1 M g h hm))
   rw [e1]
   have e2 : op = 64894 ∨ op = 64895 := by unfold inR at h1; omega
   rcases e2 with rfl | rfl
   all_goals
    clear ho h0 h1 hc hf e1
    have XD := Lib.hid D
    clear D
    go_enter Try.func43, Try.ntmps43
    go_upto_region 0 with (fail)
    try refine wp_region_lit ?_
    iterate 2 ((first | (refine ldV hS rfl _ rfl rfl ?_) | (refine stV hS rfl _ _ rfl rfl rfl ?_; clear hS; intro wk hS) | ((with_reducible show wpList _ _ _ (⟨_, .buildSlice _ _ _, _, _, _, _⟩ :: _) _ _); refine sl_new hS rfl #[.int .i64 64892, .int .i64 64894] 3 (fun b => .slice (some ⟨b, 0, none⟩) 2 2) (by intro w; go_simp) ?_; clear hS; intro bs wk hS) | (apply sl_val rfl; focus (intro w; go_simp; (try simp (disch := omega) only [IntWalk.i64_in, IntWalk.u64_in, IntWalk.u8_in, IntWalk.u32_in, IntWalk.i32_in]); first | exact rfl | rfl)) | (refine sl_step (fun K hK => .inl ⟨rfl, ?_⟩); unfold Oper.wp; go_simp; (first | with_reducible refine sl_call hS (XD.out _ _ _ hS Has.hd) ?_); clear hS; intro wk hS; refine hK _ _ ?_; clear hK K) | (refine sl_skip rfl ?_)); go_simp)
    go_upto_region 1 with (fail)
    try refine wp_region_lit ?_
    iterate 8 ((first | (refine ldV hS rfl _ rfl rfl ?_) | (refine stV hS rfl _ _ rfl rfl rfl ?_; clear hS; intro wk hS) | ((with_reducible show wpList _ _ _ (⟨_, .buildSlice _ _ _, _, _, _, _⟩ :: _) _ _); refine sl_new hS rfl #[.int .i64 64892, .int .i64 64894] 3 (fun b => .slice (some ⟨b, 0, none⟩) 2 2) (by intro w; go_simp) ?_; clear hS; intro bs wk hS) | (apply sl_val rfl; focus (intro w; go_simp; (try simp (disch := omega) only [IntWalk.i64_in, IntWalk.u64_in, IntWalk.u8_in, IntWalk.u32_in, IntWalk.i32_in]); first | exact rfl | rfl)) | (refine sl_step (fun K hK => .inl ⟨rfl, ?_⟩); unfold Oper.wp; go_simp; (first | with_reducible refine sl_call hS (XD.out _ _ _ hS Has.hd) ?_); clear hS; intro wk hS; refine hK _ _ ?_; clear hK K) | (refine sl_skip rfl ?_)); go_simp)
    go_upto_region 2 with (fail)
    try refine wp_region_lit ?_
    iterate 10 ((first | (refine ldV hS rfl _ rfl rfl ?_) | (refine stV hS rfl _ _ rfl rfl rfl ?_; clear hS; intro wk hS) | ((with_reducible show wpList _ _ _ (⟨_, .buildSlice _ _ _, _, _, _, _⟩ :: _) _ _); refine sl_new hS rfl #[.int .i64 64892, .int .i64 64894] 3 (fun b => .slice (some ⟨b, 0, none⟩) 2 2) (by intro w; go_simp) ?_; clear hS; intro bs wk hS) | (apply sl_val rfl; focus (intro w; go_simp; (try simp (disch := omega) only [IntWalk.i64_in, IntWalk.u64_in, IntWalk.u8_in, IntWalk.u32_in, IntWalk.i32_in]); first | exact rfl | rfl)) | (refine sl_step (fun K hK => .inl ⟨rfl, ?_⟩); unfold Oper.wp; go_simp; (first | with_reducible refine sl_call hS (XD.out _ _ _ hS Has.hd) ?_); clear hS; intro wk hS; refine hK _ _ ?_; clear hK K) | (refine sl_skip rfl ?_)); go_simp)
    go_wp2_with fail
    go_ret2
    exact ⟨rfl, hS.gr⟩
  ·have e1 : pwsW op = 0 := by unfold pwsW; rw [if_neg h0, if_neg h1]
   have e2 : pwsS op = false := by unfold pwsS; unfold inR at h0 h1; rw [decide_eq_false (by omega), decide_eq_false (by omega)]; rfl
   have D := fun (w1 : World) (M : List Ent) (g : Nat) (h : St w M w1) (hm : Has M g #[.int .i64 64892, .int .i64 64894] 3) => calls_gr (row_no op 2 ho (tri 64892 64894 64894) 2 (by decide) (.inl rfl) hf (fun i hi => by
    match i, hi with
    | 0, _ => exact h0
    | 1, _ => exact h1) w1 g (hc w1 M g h hm))
   rw [e1, e2]
   clear ho h0 h1 hc hf e1 e2
   have XD := Lib.hid D
   clear D
   go_enter Try.func43, Try.ntmps43
   go_upto_region 0 with (fail)
   try refine wp_region_lit ?_
   iterate 2 ((first | (refine ldV hS rfl _ rfl rfl ?_) | (refine stV hS rfl _ _ rfl rfl rfl ?_; clear hS; intro wk hS) | ((with_reducible show wpList _ _ _ (⟨_, .buildSlice _ _ _, _, _, _, _⟩ :: _) _ _); refine sl_new hS rfl #[.int .i64 64892, .int .i64 64894] 3 (fun b => .slice (some ⟨b, 0, none⟩) 2 2) (by intro w; go_simp) ?_; clear hS; intro bs wk hS) | (apply sl_val rfl; focus (intro w; go_simp; (try simp (disch := omega) only [IntWalk.i64_in, IntWalk.u64_in, IntWalk.u8_in, IntWalk.u32_in, IntWalk.i32_in]); first | exact rfl | rfl)) | (refine sl_step (fun K hK => .inl ⟨rfl, ?_⟩); unfold Oper.wp; go_simp; (first | with_reducible refine sl_call hS (XD.out _ _ _ hS Has.hd) ?_); clear hS; intro wk hS; refine hK _ _ ?_; clear hK K) | (refine sl_skip rfl ?_)); go_simp)
   go_upto_region 1 with (fail)
   try refine wp_region_lit ?_
   iterate 8 ((first | (refine ldV hS rfl _ rfl rfl ?_) | (refine stV hS rfl _ _ rfl rfl rfl ?_; clear hS; intro wk hS) | ((with_reducible show wpList _ _ _ (⟨_, .buildSlice _ _ _, _, _, _, _⟩ :: _) _ _); refine sl_new hS rfl #[.int .i64 64892, .int .i64 64894] 3 (fun b => .slice (some ⟨b, 0, none⟩) 2 2) (by intro w; go_simp) ?_; clear hS; intro bs wk hS) | (apply sl_val rfl; focus (intro w; go_simp; (try simp (disch := omega) only [IntWalk.i64_in, IntWalk.u64_in, IntWalk.u8_in, IntWalk.u32_in, IntWalk.i32_in]); first | exact rfl | rfl)) | (refine sl_step (fun K hK => .inl ⟨rfl, ?_⟩); unfold Oper.wp; go_simp; (first | with_reducible refine sl_call hS (XD.out _ _ _ hS Has.hd) ?_); clear hS; intro wk hS; refine hK _ _ ?_; clear hK K) | (refine sl_skip rfl ?_)); go_simp)
   go_upto_region 2 with (fail)
   try refine wp_region_lit ?_
   iterate 10 ((first | (refine ldV hS rfl _ rfl rfl ?_) | (refine stV hS rfl _ _ rfl rfl rfl ?_; clear hS; intro wk hS) | ((with_reducible show wpList _ _ _ (⟨_, .buildSlice _ _ _, _, _, _, _⟩ :: _) _ _); refine sl_new hS rfl #[.int .i64 64892, .int .i64 64894] 3 (fun b => .slice (some ⟨b, 0, none⟩) 2 2) (by intro w; go_simp) ?_; clear hS; intro bs wk hS) | (apply sl_val rfl; focus (intro w; go_simp; (try simp (disch := omega) only [IntWalk.i64_in]); first | exact rfl | rfl)) | (refine sl_step (fun K hK => .inl ⟨rfl, ?_⟩); unfold Oper.wp; go_simp; (first | with_reducible refine sl_call hS (XD.out _ _ _ hS Has.hd) ?_); clear hS; intro wk hS; refine hK _ _ ?_; clear hK K) | (refine sl_skip rfl ?_)); go_simp)
   go_wp2_with fail
   go_ret2
   exact ⟨rfl, hS.gr⟩
def narW (op : Int) : Int := if inR op 2 64869 then 8 else if inR op 2 64901 then 16 else 0
def narS (op : Int) : Bool := decide (op = 64869) || decide (op = 64901)
theorem narW_cases (op : Int) : narW op = 0 ∨ narW op = 8 ∨ narW op = 16 := by
 unfold narW; split; exact .inr (.inl rfl); split; exact .inr (.inr rfl); exact .inl rfl
theorem nar_any (op : Int) (ho : -9223372036854775808 ≤ op ∧ op ≤ 9223372036854775807) (w : World) : Calls Try.prog 47 #[.int .i64 op] w fun e w' => e = .returned (.tuple #[.int .i64 (narW op), .bool (narS op)]) ∧ Gr w w' := by
 have hf := tri_bd 64869 64901 64901 (by decide) (by decide) (by decide)
 have hc : ∀ (w1 : World) (M : List Ent) (g : Nat) (hS : St w M w1) (hm : Has M g #[.int .i64 64869, .int .i64 64901] 3) (j : Nat), j < 2 → w1.cell? ⟨g, j, none⟩ = some (.int .i64 (tri 64869 64901 64901 j)) := fun w1 M g hS hm j hj => by
  rw [hS.cell hm j]
  match j, hj with
  | 0, _ => rfl
  | 1, _ => rfl
 have hS := St.start w
 by_cases h0 : inR op 2 64869
 ·have e1 : narW op = 8 := by unfold narW; rw [if_pos h0]
  have D := fun (w1 : World) (M : List Ent) (g : Nat) (h : St w M w1) (hm : Has M g #[.int .i64 64869, .int .i64 64901] 3) => calls_gr (row_at op 2 ho (tri 64869 64901 64901) 2 0 (by decide) (by decide) (.inl rfl) hf h0 (fun i hi => absurd hi (Nat.not_lt_zero _)) w1 g (hc w1 M g h hm))
  rw [e1]
  have e2 : op = 64869 ∨ op = 64870 := by unfold inR at h0; omega
  rcases e2 with rfl | rfl
  all_goals
   clear ho h0 hc hf e1
   have XD := Lib.hid D
   clear D
   go_enter Try.func47, Try.ntmps47
   go_upto_region 0 with (fail)
   try refine wp_region_lit ?_
   iterate 2 ((first | (refine ldV hS rfl _ rfl rfl ?_) | (refine stV hS rfl _ _ rfl rfl rfl ?_; clear hS; intro wk hS) | ((with_reducible show wpList _ _ _ (⟨_, .buildSlice _ _ _, _, _, _, _⟩ :: _) _ _); refine sl_new hS rfl #[.int .i64 64869, .int .i64 64901] 3 (fun b => .slice (some ⟨b, 0, none⟩) 2 2) (by intro w; go_simp) ?_; clear hS; intro bs wk hS) | (apply sl_val rfl; focus (intro w; go_simp; (try simp (disch := omega) only [IntWalk.i64_in, IntWalk.u64_in, IntWalk.u8_in, IntWalk.u32_in, IntWalk.i32_in]); first | exact rfl | rfl)) | (refine sl_step (fun K hK => .inl ⟨rfl, ?_⟩); unfold Oper.wp; go_simp; (first | with_reducible refine sl_call hS (XD.out _ _ _ hS Has.hd) ?_); clear hS; intro wk hS; refine hK _ _ ?_; clear hK K) | (refine sl_skip rfl ?_)); go_simp)
   go_upto_region 1 with (fail)
   try refine wp_region_lit ?_
   iterate 8 ((first | (refine ldV hS rfl _ rfl rfl ?_) | (refine stV hS rfl _ _ rfl rfl rfl ?_; clear hS; intro wk hS) | ((with_reducible show wpList _ _ _ (⟨_, .buildSlice _ _ _, _, _, _, _⟩ :: _) _ _); refine sl_new hS rfl #[.int .i64 64869, .int .i64 64901] 3 (fun b => .slice (some ⟨b, 0, none⟩) 2 2) (by intro w; go_simp) ?_; clear hS; intro bs wk hS) | (apply sl_val rfl; focus (intro w; go_simp; (try simp (disch := omega) only [IntWalk.i64_in, IntWalk.u64_in, IntWalk.u8_in, IntWalk.u32_in, IntWalk.i32_in]); first | exact rfl | rfl)) | (refine sl_step (fun K hK => .inl ⟨rfl, ?_⟩); unfold Oper.wp; go_simp; (first | with_reducible refine sl_call hS (XD.out _ _ _ hS Has.hd) ?_); clear hS; intro wk hS; refine hK _ _ ?_; clear hK K) | (refine sl_skip rfl ?_)); go_simp)
   go_upto_region 2 with (fail)
   try refine wp_region_lit ?_
   iterate 10 ((first | (refine ldV hS rfl _ rfl rfl ?_) | (refine stV hS rfl _ _ rfl rfl rfl ?_; clear hS; intro wk hS) | ((with_reducible show wpList _ _ _ (⟨_, .buildSlice _ _ _, _, _, _, _⟩ :: _) _ _); refine sl_new hS rfl #[.int .i64 64869, .int .i64 64901] 3 (fun b => .slice (some ⟨b, 0, none⟩) 2 2) (by intro w; go_simp) ?_; clear hS; intro bs wk hS) | (apply sl_val rfl; focus (intro w; go_simp; (try simp (disch := omega) only [IntWalk.i64_in, IntWalk.u64_in, IntWalk.u8_in, IntWalk.u32_in, IntWalk.i32_in]); first | exact rfl | rfl)) | (refine sl_step (fun K hK => .inl ⟨rfl, ?_⟩); unfold Oper.wp; go_simp; (first | with_reducible refine sl_call hS (XD.out _ _ _ hS Has.hd) ?_); clear hS; intro wk hS; refine hK _ _ ?_; clear hK K) | (refine sl_skip rfl ?_)); go_simp)
   go_wp2_with fail
   go_ret2
   exact ⟨rfl, hS.gr⟩
 ·by_cases h1 : inR op 2 64901
  ·have e1 : narW op = 16 := by unfold narW; rw [if_neg h0, if_pos h1]
   have D := fun (w1 : World) (M : List Ent) (g : Nat) (h : St w M w1) (hm : Has M g #[.int .i64 64869, .int .i64 64901] 3) => calls_gr (row_at op 2 ho (tri 64869 64901 64901) 2 1 (by decide) (by decide) (.inl rfl) hf h1 (fun i hi => by rw [show i = 0 by omega]; exact h0) w1 g (hc w1 M g h hm))
   rw [e1]
   have e2 : op = 64901 ∨ op = 64902 := by unfold inR at h1; omega
   rcases e2 with rfl | rfl
   all_goals
    clear ho h0 h1 hc hf e1
    have XD := Lib.hid D
    clear D
    go_enter Try.func47, Try.ntmps47
    go_upto_region 0 with (fail)
    try refine wp_region_lit ?_
    iterate 2 ((first | (refine ldV hS rfl _ rfl rfl ?_) | (refine stV hS rfl _ _ rfl rfl rfl ?_; clear hS; intro wk hS) | ((with_reducible show wpList _ _ _ (⟨_, .buildSlice _ _ _, _, _, _, _⟩ :: _) _ _); refine sl_new hS rfl #[.int .i64 64869, .int .i64 64901] 3 (fun b => .slice (some ⟨b, 0, none⟩) 2 2) (by intro w; go_simp) ?_; clear hS; intro bs wk hS) | (apply sl_val rfl; focus (intro w; go_simp; (try simp (disch := omega) only [IntWalk.i64_in, IntWalk.u64_in, IntWalk.u8_in, IntWalk.u32_in, IntWalk.i32_in]); first | exact rfl | rfl)) | (refine sl_step (fun K hK => .inl ⟨rfl, ?_⟩); unfold Oper.wp; go_simp; (first | with_reducible refine sl_call hS (XD.out _ _ _ hS Has.hd) ?_); clear hS; intro wk hS; refine hK _ _ ?_; clear hK K) | (refine sl_skip rfl ?_)); go_simp)
    go_upto_region 1 with (fail)
    try refine wp_region_lit ?_
    iterate 8 ((first | (refine ldV hS rfl _ rfl rfl ?_) | (refine stV hS rfl _ _ rfl rfl rfl ?_; clear hS; intro wk hS) | ((with_reducible show wpList _ _ _ (⟨_, .buildSlice _ _ _, _, _, _, _⟩ :: _) _ _); refine sl_new hS rfl #[.int .i64 64869, .int .i64 64901] 3 (fun b => .slice (some ⟨b, 0, none⟩) 2 2) (by intro w; go_simp) ?_; clear hS; intro bs wk hS) | (apply sl_val rfl; focus (intro w; go_simp; (try simp (disch := omega) only [IntWalk.i64_in, IntWalk.u64_in, IntWalk.u8_in, IntWalk.u32_in, IntWalk.i32_in]); first | exact rfl | rfl)) | (refine sl_step (fun K hK => .inl ⟨rfl, ?_⟩); unfold Oper.wp; go_simp; (first | with_reducible refine sl_call hS (XD.out _ _ _ hS Has.hd) ?_); clear hS; intro wk hS; refine hK _ _ ?_; clear hK K) | (refine sl_skip rfl ?_)); go_simp)
    go_upto_region 2 with (fail)
    try refine wp_region_lit ?_
    iterate 10 ((first | (refine ldV hS rfl _ rfl rfl ?_) | (refine stV hS rfl _ _ rfl rfl rfl ?_; clear hS; intro wk hS) | ((with_reducible show wpList _ _ _ (⟨_, .buildSlice _ _ _, _, _, _, _⟩ :: _) _ _); refine sl_new hS rfl #[.int .i64 64869, .int .i64 64901] 3 (fun b => .slice (some ⟨b, 0, none⟩) 2 2) (by intro w; go_simp) ?_; clear hS; intro bs wk hS) | (apply sl_val rfl; focus (intro w; go_simp; (try simp (disch := omega) only [IntWalk.i64_in, IntWalk.u64_in, IntWalk.u8_in, IntWalk.u32_in, IntWalk.i32_in]); first | exact rfl | rfl)) | (refine sl_step (fun K hK => .inl ⟨rfl, ?_⟩); unfold Oper.wp; go_simp; (first | with_reducible refine sl_call hS (XD.out _ _ _ hS Has.hd) ?_); clear hS; intro wk hS; refine hK _ _ ?_; clear hK K) | (refine sl_skip rfl ?_)); go_simp)
    go_wp2_with fail
    go_ret2
    exact ⟨rfl, hS.gr⟩
  ·have e1 : narW op = 0 := by unfold narW; rw [if_neg h0, if_neg h1]
   have e2 : narS op = false := by unfold narS; unfold inR at h0 h1; rw [decide_eq_false (by omega), decide_eq_false (by omega)]; rfl
   have D := fun (w1 : World) (M : List Ent) (g : Nat) (h : St w M w1) (hm : Has M g #[.int .i64 64869, .int .i64 64901] 3) => calls_gr (row_no op 2 ho (tri 64869 64901 64901) 2 (by decide) (.inl rfl) hf (fun i hi => by
    match i, hi with
    | 0, _ => exact h0
    | 1, _ => exact h1) w1 g (hc w1 M g h hm))
   rw [e1, e2]
   clear ho h0 h1 hc hf e1 e2
   have XD := Lib.hid D
   clear D
   go_enter Try.func47, Try.ntmps47
   go_upto_region 0 with (fail)
   try refine wp_region_lit ?_
   iterate 2 ((first | (refine ldV hS rfl _ rfl rfl ?_) | (refine stV hS rfl _ _ rfl rfl rfl ?_; clear hS; intro wk hS) | ((with_reducible show wpList _ _ _ (⟨_, .buildSlice _ _ _, _, _, _, _⟩ :: _) _ _); refine sl_new hS rfl #[.int .i64 64869, .int .i64 64901] 3 (fun b => .slice (some ⟨b, 0, none⟩) 2 2) (by intro w; go_simp) ?_; clear hS; intro bs wk hS) | (apply sl_val rfl; focus (intro w; go_simp; (try simp (disch := omega) only [IntWalk.i64_in, IntWalk.u64_in, IntWalk.u8_in, IntWalk.u32_in, IntWalk.i32_in]); first | exact rfl | rfl)) | (refine sl_step (fun K hK => .inl ⟨rfl, ?_⟩); unfold Oper.wp; go_simp; (first | with_reducible refine sl_call hS (XD.out _ _ _ hS Has.hd) ?_); clear hS; intro wk hS; refine hK _ _ ?_; clear hK K) | (refine sl_skip rfl ?_)); go_simp)
   go_upto_region 1 with (fail)
   try refine wp_region_lit ?_
   iterate 8 ((first | (refine ldV hS rfl _ rfl rfl ?_) | (refine stV hS rfl _ _ rfl rfl rfl ?_; clear hS; intro wk hS) | ((with_reducible show wpList _ _ _ (⟨_, .buildSlice _ _ _, _, _, _, _⟩ :: _) _ _); refine sl_new hS rfl #[.int .i64 64869, .int .i64 64901] 3 (fun b => .slice (some ⟨b, 0, none⟩) 2 2) (by intro w; go_simp) ?_; clear hS; intro bs wk hS) | (apply sl_val rfl; focus (intro w; go_simp; (try simp (disch := omega) only [IntWalk.i64_in, IntWalk.u64_in, IntWalk.u8_in, IntWalk.u32_in, IntWalk.i32_in]); first | exact rfl | rfl)) | (refine sl_step (fun K hK => .inl ⟨rfl, ?_⟩); unfold Oper.wp; go_simp; (first | with_reducible refine sl_call hS (XD.out _ _ _ hS Has.hd) ?_); clear hS; intro wk hS; refine hK _ _ ?_; clear hK K) | (refine sl_skip rfl ?_)); go_simp)
   go_upto_region 2 with (fail)
   try refine wp_region_lit ?_
   iterate 10 ((first | (refine ldV hS rfl _ rfl rfl ?_) | (refine stV hS rfl _ _ rfl rfl rfl ?_; clear hS; intro wk hS) | ((with_reducible show wpList _ _ _ (⟨_, .buildSlice _ _ _, _, _, _, _⟩ :: _) _ _); refine sl_new hS rfl #[.int .i64 64869, .int .i64 64901] 3 (fun b => .slice (some ⟨b, 0, none⟩) 2 2) (by intro w; go_simp) ?_; clear hS; intro bs wk hS) | (apply sl_val rfl; focus (intro w; go_simp; (try simp (disch := omega) only [IntWalk.i64_in]); first | exact rfl | rfl)) | (refine sl_step (fun K hK => .inl ⟨rfl, ?_⟩); unfold Oper.wp; go_simp; (first | with_reducible refine sl_call hS (XD.out _ _ _ hS Has.hd) ?_); clear hS; intro wk hS; refine hK _ _ ?_; clear hK K) | (refine sl_skip rfl ?_)); go_simp)
   go_wp2_with fail
   go_ret2
   exact ⟨rfl, hS.gr⟩
end Wd
end Go.Proofs.Ytjoalcaooccbiaa
/- WdEx -/
namespace Go.Proofs.Ytjoalcaooccbiaa
open Go.RowKit VecM
namespace Wd
def laI (sg : Bool) (b : Nat → Int) (v i : Int) : Int := if sg then IntKind.u64.wrap (sgnI b v i) else getI b v i
theorem lane_any (sg : Bool) (b : Nat → Int) (hb : Byt b) (v i : Int) (w : World) : Calls Try.prog 81 #[.agg (bs b), .int .i64 v, .int .i64 i, .bool sg] w fun e w' => e = .returned (.int .u64 (laI sg b v i)) ∧ Gr w w' := by
 have C1 := fun w => signed_any b hb v i w
 have C2 := fun w => get_any b hb v i w
 unfold laI
 generalize sgnI b v i = x at *
 generalize getI b v i = y at *
 have hS := St.start w
 have XC1 := Lib.hid C1
 clear C1
 have XC2 := Lib.hid C2
 clear C2
 cases sg
 ·go_enter Try.func81, Try.ntmps81
  go_wp2_with (first | (refine ldV hS rfl _ rfl rfl ?_) | (refine stV hS rfl _ _ rfl rfl rfl ?_; clear hS; intro wk hS) | (refine sl_box hS rfl _ 40 (box_vec rfl rfl) ?_; clear hS; intro bk wk hS) | (refine sl_box hS rfl _ 40 (alloc_vec rfl) ?_; clear hS; intro bk wk hS) | (refine onlyN_end ?_) | (refine onlyN_now ?_) | ((go_at_call 35); (with_reducible refine sl_call hS (XC2.out _) ?_); clear hS; intro wk hS))
  go_ret
  exact ⟨rfl, hS.gr⟩
 ·go_enter Try.func81, Try.ntmps81
  go_wp2_with (first | (refine ldV hS rfl _ rfl rfl ?_) | (refine stV hS rfl _ _ rfl rfl rfl ?_; clear hS; intro wk hS) | (refine sl_box hS rfl _ 40 (box_vec rfl rfl) ?_; clear hS; intro bk wk hS) | (refine sl_box hS rfl _ 40 (alloc_vec rfl) ?_; clear hS; intro bk wk hS) | (refine onlyN_end ?_) | (refine onlyN_now ?_) | ((go_at_call 39); (with_reducible refine sl_call hS (XC1.out _) ?_); clear hS; intro wk hS))
  go_ret
  exact ⟨rfl, hS.gr⟩
def exV (v h : Int) (L : Nat) (hi sg : Bool) (b : Nat → Int) : Nat → Int := if hi then ofK (fun _ => 0) v (fun i => laI sg b h ((L : Int) + i)) L else ofK (fun _ => 0) v (fun i => laI sg b h (i : Int)) L
set_option maxHeartbeats 2000000 in
theorem extend_true (v h : Int) (L : Nat) (hL : lanesI v = (L : Int)) (h16 : L ≤ 16) (hq : IntKind.i64.wrap (Int.tdiv v 2) = h) (sg : Bool) (b : Nat → Int) (hb : Byt b) (w : World) :
  Calls Try.prog 42 #[.int .i64 v, .agg #[.bool true, .bool sg], .agg (bs b)] w fun e w' => e = .returned (.agg (bs (ofK (fun _ => 0) v (fun i => laI sg b h ((L : Int) + i)) L))) ∧ Gr w w' := by
 have HB := Lib.hid hb
 have CL : ∀ w, Calls Try.prog 37 #[.int .i64 v] w fun e w' => e = .returned (.int .i64 (L : Int)) ∧ Gr w w' := fun w => by rw [← hL]; exact calls_gr (lanes_any v w)
 clear hb hL
 have hS := St.start w
 have XCL := Lib.hid CL
 clear CL
 go_enter Try.func42, Try.ntmps42
 go_upto_region 0 with (fail)
 try refine wp_region_lit ?_
 iterate 3 ((first | (refine ldV hS rfl _ rfl rfl ?_) | (refine stV hS rfl _ _ rfl rfl rfl ?_; clear hS; intro wk hS) | ((with_reducible show wpList _ _ _ (⟨_, .box 83 _, _, _, _, _⟩ :: _) _ _); refine sl_new hS rfl #[.bool true, .bool sg] 83 (fun b => .pointer (some ⟨b, 0, none⟩)) (by intro w; go_simp) ?_; clear hS; intro p wk hS) | ((with_reducible show wpList _ _ _ (⟨_, .box 40 _, _, _, _, _⟩ :: _) _ _); refine sl_box hS rfl _ 40 (box_vec rfl rfl) ?_; clear hS; intro q wk hS) | ((with_reducible show wpList _ _ _ (⟨_, .alloc 40 , _, _, _, _⟩ :: _) _ _); refine sl_box hS rfl _ 40 (alloc_vec rfl) ?_; clear hS; intro r wk hS) | (apply sl_val rfl; focus (intro w; go_simp; (try simp (disch := omega) only [IntWalk.i64_in, IntWalk.u64_in, IntWalk.u8_in, IntWalk.u32_in, IntWalk.i32_in]); first | exact rfl | rfl)) | (refine sl_skip rfl ?_)); go_simp)
 go_upto_region 1 with (fail)
 try refine wp_region_lit ?_
 iterate 1 ((first | (refine ldV hS rfl _ rfl rfl ?_) | (refine stV hS rfl _ _ rfl rfl rfl ?_; clear hS; intro wk hS) | ((with_reducible show wpList _ _ _ (⟨_, .alloc 40 , _, _, _, _⟩ :: _) _ _); refine sl_box hS rfl _ 40 (alloc_vec rfl) ?_; clear hS; intro t wk hS) | (apply sl_val rfl; focus (intro w; go_simp; (try simp (disch := omega) only [IntWalk.i64_in, IntWalk.u64_in, IntWalk.u8_in, IntWalk.u32_in, IntWalk.i32_in]); first | exact rfl | rfl)) | (refine sl_step (fun K hK => .inl ⟨rfl, ?_⟩); unfold Oper.wp; go_simp; (first | with_reducible refine sl_call hS (XCL.out _) ?_); clear hS; intro wk hS; refine hK _ _ ?_; clear hK K) | (refine sl_skip rfl ?_)); go_simp)
 go_upto_region 2 with (fail)
 try refine wp_region_lit ?_
 iterate 4 ((first | (refine ldV hS rfl _ rfl rfl ?_) | (refine stV hS rfl _ _ rfl rfl rfl ?_; clear hS; intro wk hS) | ((with_reducible show wpList _ _ _ (⟨_, .alloc 40 , _, _, _, _⟩ :: _) _ _); refine sl_box hS rfl _ 40 (alloc_vec rfl) ?_; clear hS; intro t wk hS) | (apply sl_val rfl; focus (intro w; go_simp; (try simp (disch := omega) only [IntWalk.i64_in, IntWalk.u64_in, IntWalk.u8_in, IntWalk.u32_in, IntWalk.i32_in]); first | exact rfl | rfl)) | (refine sl_step (fun K hK => .inl ⟨rfl, ?_⟩); unfold Oper.wp; go_simp; (first | with_reducible refine sl_call hS (XCL.out _) ?_); clear hS; intro wk hS; refine hK _ _ ?_; clear hK K) | (refine sl_skip rfl ?_)); go_simp)
 go_upto_region 3 with (fail)
 try refine wp_region_lit ?_
 iterate 2 ((first | (refine ldV hS rfl _ rfl rfl ?_) | (refine stV hS rfl _ _ rfl rfl rfl ?_; clear hS; intro wk hS) | (refine sl_cell hS rfl _ _ rfl rfl (by repeat (first | exact Has.hd | apply Has.tl)) (by rfl) (by intro w hc; go_simp) ?_) | (apply sl_val rfl; focus (intro w; go_simp; (try simp (disch := omega) only [IntWalk.i64_in, IntWalk.u64_in, IntWalk.u8_in, IntWalk.u32_in, IntWalk.i32_in]); first | exact rfl | rfl)) | (refine sl_skip rfl ?_)); go_simp)
 go_upto_region 4 with (fail)
 try refine wp_region_lit ?_
 iterate 2 ((first | (refine ldV hS rfl _ rfl rfl ?_) | (refine stV hS rfl _ _ rfl rfl rfl ?_; clear hS; intro wk hS) | (refine sl_cell hS rfl _ _ rfl rfl (by repeat (first | exact Has.hd | apply Has.tl)) (by rfl) (by intro w hc; go_simp) ?_) | (apply sl_val rfl; focus (intro w; go_simp; (try simp (disch := omega) only [IntWalk.i64_in, IntWalk.u64_in, IntWalk.u8_in, IntWalk.u32_in, IntWalk.i32_in]); first | exact rfl | rfl)) | (refine sl_skip rfl ?_)); go_simp)
 go_upto_region 5 with (fail)
 try refine wp_region_lit ?_
 iterate 2 ((first | (refine ldV hS rfl _ rfl rfl ?_) | (refine stV hS rfl _ _ rfl rfl rfl ?_; clear hS; intro wk hS) | (refine sl_cell hS rfl _ _ rfl rfl (by repeat (first | exact Has.hd | apply Has.tl)) (by rfl) (by intro w hc; go_simp) ?_) | (apply sl_val rfl; focus (intro w; go_simp; (try simp (disch := omega) only [IntWalk.i64_in, IntWalk.u64_in, IntWalk.u8_in, IntWalk.u32_in, IntWalk.i32_in]); first | exact rfl | rfl)) | (refine sl_skip rfl ?_)); go_simp)
 go_wp2_with fail
 go_loopw [17] (fun u wr => ∃ k : Nat, k ≤ L ∧ u = .int .i64 k ∧ St w [⟨t, bs (ofK (fun _ => 0) v (fun i => laI sg b h ((L : Int) + i)) k), 40⟩, ⟨r, bs (fun _ => 0), 40⟩, ⟨q, bs b, 40⟩, ⟨p, #[.bool true, .bool sg], 83⟩] wr) (fun u _ => L - (intOf u).toNat)
 case atStart => exact ⟨0, by omega, rfl, hS⟩
 case round =>
  obtain ⟨k, hk, rfl, hS⟩ := hrel
  by_cases hlt : k < L
  ·have C1 := fun w => lane_any sg b HB.out h ((L : Int) + k) w
   have HM := Lib.hid (show ofK (fun _ => 0) v (fun i => laI sg b h ((L : Int) + i)) (k + 1) = setI (ofK (fun _ => 0) v (fun i => laI sg b h ((L : Int) + i)) k) v k (laI sg b h ((L : Int) + k)) from rfl)
   have C2 := fun w => set_any (ofK (fun _ => 0) v (fun i => laI sg b h ((L : Int) + i)) k) v k (laI sg b h ((L : Int) + k)) w
   have T0 : IntKind.i64.wrap ((L : Int) + (k : Int)) = ((L : Int) + k) := by rw [IntWalk.i64_in _ (by omega)]
   have T1 : IntKind.i64.wrap ((k : Int) + 1) = (k : Int) + 1 := IntWalk.i64_in _ (by omega)
   have T2 : decide ((k : Int) < (L : Int)) = true := by simp; omega
   have T4 : IntKind.i64.wrap (k : Int) = (k : Int) := IntWalk.i64_in _ (by omega)
   have X2 := Lib.hid hlt
   generalize laI sg b h ((L : Int) + k) = x at *
   generalize hc0 : ofK (fun _ => 0) v (fun i => laI sg b h ((L : Int) + i)) k = c0 at *
   clear hc0 hlt hk
   have XC1 := Lib.hid C1
   clear C1
   have XC2 := Lib.hid C2
   clear C2
   go_upto_region 7 with (fail)
   try refine wp_region_lit ?_
   iterate 2 ((first | (refine ldV hS rfl _ rfl rfl ?_) | (refine stV hS rfl _ _ rfl rfl rfl ?_; clear hS; intro wk hS) | (apply sl_val rfl; focus (intro w; go_simp; (try simp (disch := omega) only [IntWalk.i64_in, IntWalk.u64_in, IntWalk.u8_in, IntWalk.u32_in, IntWalk.i32_in]); first | exact rfl | rfl)) | (refine sl_skip rfl ?_)); go_simp)
   go_upto_region 8 with (fail)
   refine sm_tail 13 [] hS (by kernel_rfl) (by kernel_rfl) (fun β => ?_)
   simp only [List.take_succ_cons, List.take_zero, List.drop_succ_cons, List.drop_zero]
   iterate 13 (refine sm_step (fun K hK => ?_); (first | (refine sm_load rfl rfl 40 _ rfl rfl (by repeat (first | exact Has.hd | apply Has.tl)) Try.underlying40 rfl (by exact infoV) ?_) | (refine sm_lay rfl rfl (by intro w; go_simp) ?_) | (refine sm_build rfl rfl 40 _ rfl (bs fun _ => 0) (by first | (simp only; kernel_rfl) | (simp only [Array.map_empty]; kernel_rfl)) ?_) | (apply sm_yes rfl rfl; focus (intro wx hx; go_simp; first | (apply sm_enter (by kernel_rfl); first | fail | with_reducible exact XC1.out wx | with_reducible exact XC2.out wx) | exact ⟨rfl, Gr.refl _⟩)) | (refine sm_cell rfl rfl _ _ rfl rfl (by repeat (first | exact Has.hd | apply Has.tl)) (by rfl) (by intro w hc; go_simp) ?_) | (refine sm_val rfl rfl (run_add rfl rfl rfl T0) ?_) | (refine sm_no rfl rfl ?_)); go_simp; refine hK _ ?_; clear hK K)
   refine sm_nil ?_
   clear hS
   intro wk hS
   replace hS : St w [⟨t, bs c0, 40⟩, ⟨r, bs (fun _ => 0), 40⟩, ⟨q, bs b, 40⟩, ⟨p, #[.bool true, .bool sg], 83⟩] wk := hS
   go_wp2_with (first | (refine ldV hS rfl _ rfl rfl ?_) | (refine stV hS rfl _ _ rfl rfl rfl ?_; clear hS; intro wk hS) | (refine sl_box hS rfl _ 40 (box_vec rfl rfl) ?_; clear hS; intro bk wk hS) | (refine sl_box hS rfl _ 40 (alloc_vec rfl) ?_; clear hS; intro bk wk hS) | (refine onlyN_end ?_) | (refine onlyN_now ?_))
   have X4 := X2.out
   exact ⟨⟨k + 1, by omega, by go_num, by rw [HM.out]; exact hS⟩, by simp [intOf]; omega⟩
  ·obtain rfl : k = L := by omega
   go_wp2_with (first | (refine ldV hS rfl _ rfl rfl ?_) | (refine stV hS rfl _ _ rfl rfl rfl ?_; clear hS; intro wk hS) | (refine sl_box hS rfl _ 40 (box_vec rfl rfl) ?_; clear hS; intro bk wk hS) | (refine sl_box hS rfl _ 40 (alloc_vec rfl) ?_; clear hS; intro bk wk hS) | (refine onlyN_end ?_) | (refine onlyN_now ?_))
   refine sl_ret hS Try.results42 (by rfl) (by repeat (first | exact Has.hd | apply Has.tl)) Try.underlying40 rfl (by exact infoV) (by rfl) ?_
   exact ⟨rfl, hS.gr⟩
set_option maxHeartbeats 2000000 in
theorem extend_false (v h : Int) (L : Nat) (hL : lanesI v = (L : Int)) (h16 : L ≤ 16) (hq : IntKind.i64.wrap (Int.tdiv v 2) = h) (sg : Bool) (b : Nat → Int) (hb : Byt b) (w : World) :
  Calls Try.prog 42 #[.int .i64 v, .agg #[.bool false, .bool sg], .agg (bs b)] w fun e w' => e = .returned (.agg (bs (ofK (fun _ => 0) v (fun i => laI sg b h (i : Int)) L))) ∧ Gr w w' := by
 have HB := Lib.hid hb
 have CL : ∀ w, Calls Try.prog 37 #[.int .i64 v] w fun e w' => e = .returned (.int .i64 (L : Int)) ∧ Gr w w' := fun w => by rw [← hL]; exact calls_gr (lanes_any v w)
 clear hb hL
 have hS := St.start w
 have XCL := Lib.hid CL
 clear CL
 go_enter Try.func42, Try.ntmps42
 go_upto_region 0 with (fail)
 try refine wp_region_lit ?_
 iterate 3 ((first | (refine ldV hS rfl _ rfl rfl ?_) | (refine stV hS rfl _ _ rfl rfl rfl ?_; clear hS; intro wk hS) | ((with_reducible show wpList _ _ _ (⟨_, .box 83 _, _, _, _, _⟩ :: _) _ _); refine sl_new hS rfl #[.bool false, .bool sg] 83 (fun b => .pointer (some ⟨b, 0, none⟩)) (by intro w; go_simp) ?_; clear hS; intro p wk hS) | ((with_reducible show wpList _ _ _ (⟨_, .box 40 _, _, _, _, _⟩ :: _) _ _); refine sl_box hS rfl _ 40 (box_vec rfl rfl) ?_; clear hS; intro q wk hS) | ((with_reducible show wpList _ _ _ (⟨_, .alloc 40 , _, _, _, _⟩ :: _) _ _); refine sl_box hS rfl _ 40 (alloc_vec rfl) ?_; clear hS; intro r wk hS) | (apply sl_val rfl; focus (intro w; go_simp; (try simp (disch := omega) only [IntWalk.i64_in, IntWalk.u64_in, IntWalk.u8_in, IntWalk.u32_in, IntWalk.i32_in]); first | exact rfl | rfl)) | (refine sl_skip rfl ?_)); go_simp)
 go_upto_region 1 with (fail)
 try refine wp_region_lit ?_
 iterate 1 ((first | (refine ldV hS rfl _ rfl rfl ?_) | (refine stV hS rfl _ _ rfl rfl rfl ?_; clear hS; intro wk hS) | ((with_reducible show wpList _ _ _ (⟨_, .alloc 40 , _, _, _, _⟩ :: _) _ _); refine sl_box hS rfl _ 40 (alloc_vec rfl) ?_; clear hS; intro t wk hS) | (apply sl_val rfl; focus (intro w; go_simp; (try simp (disch := omega) only [IntWalk.i64_in, IntWalk.u64_in, IntWalk.u8_in, IntWalk.u32_in, IntWalk.i32_in]); first | exact rfl | rfl)) | (refine sl_step (fun K hK => .inl ⟨rfl, ?_⟩); unfold Oper.wp; go_simp; (first | with_reducible refine sl_call hS (XCL.out _) ?_); clear hS; intro wk hS; refine hK _ _ ?_; clear hK K) | (refine sl_skip rfl ?_)); go_simp)
 go_upto_region 2 with (fail)
 try refine wp_region_lit ?_
 iterate 4 ((first | (refine ldV hS rfl _ rfl rfl ?_) | (refine stV hS rfl _ _ rfl rfl rfl ?_; clear hS; intro wk hS) | ((with_reducible show wpList _ _ _ (⟨_, .alloc 40 , _, _, _, _⟩ :: _) _ _); refine sl_box hS rfl _ 40 (alloc_vec rfl) ?_; clear hS; intro t wk hS) | (apply sl_val rfl; focus (intro w; go_simp; (try simp (disch := omega) only [IntWalk.i64_in, IntWalk.u64_in, IntWalk.u8_in, IntWalk.u32_in, IntWalk.i32_in]); first | exact rfl | rfl)) | (refine sl_step (fun K hK => .inl ⟨rfl, ?_⟩); unfold Oper.wp; go_simp; (first | with_reducible refine sl_call hS (XCL.out _) ?_); clear hS; intro wk hS; refine hK _ _ ?_; clear hK K) | (refine sl_skip rfl ?_)); go_simp)
 go_upto_region 3 with (fail)
 try refine wp_region_lit ?_
 iterate 2 ((first | (refine ldV hS rfl _ rfl rfl ?_) | (refine stV hS rfl _ _ rfl rfl rfl ?_; clear hS; intro wk hS) | (refine sl_cell hS rfl _ _ rfl rfl (by repeat (first | exact Has.hd | apply Has.tl)) (by rfl) (by intro w hc; go_simp) ?_) | (apply sl_val rfl; focus (intro w; go_simp; (try simp (disch := omega) only [IntWalk.i64_in, IntWalk.u64_in, IntWalk.u8_in, IntWalk.u32_in, IntWalk.i32_in]); first | exact rfl | rfl)) | (refine sl_skip rfl ?_)); go_simp)
 go_upto_region 5 with (fail)
 try refine wp_region_lit ?_
 iterate 2 ((first | (refine ldV hS rfl _ rfl rfl ?_) | (refine stV hS rfl _ _ rfl rfl rfl ?_; clear hS; intro wk hS) | (refine sl_cell hS rfl _ _ rfl rfl (by repeat (first | exact Has.hd | apply Has.tl)) (by rfl) (by intro w hc; go_simp) ?_) | (apply sl_val rfl; focus (intro w; go_simp; (try simp (disch := omega) only [IntWalk.i64_in, IntWalk.u64_in, IntWalk.u8_in, IntWalk.u32_in, IntWalk.i32_in]); first | exact rfl | rfl)) | (refine sl_skip rfl ?_)); go_simp)
 go_wp2_with fail
 go_loopw [17] (fun u wr => ∃ k : Nat, k ≤ L ∧ u = .int .i64 k ∧ St w [⟨t, bs (ofK (fun _ => 0) v (fun i => laI sg b h (i : Int)) k), 40⟩, ⟨r, bs (fun _ => 0), 40⟩, ⟨q, bs b, 40⟩, ⟨p, #[.bool false, .bool sg], 83⟩] wr) (fun u _ => L - (intOf u).toNat)
 case atStart => exact ⟨0, by omega, rfl, hS⟩
 case round =>
  obtain ⟨k, hk, rfl, hS⟩ := hrel
  by_cases hlt : k < L
  ·have C1 := fun w => lane_any sg b HB.out h (k : Int) w
   have HM := Lib.hid (show ofK (fun _ => 0) v (fun i => laI sg b h (i : Int)) (k + 1) = setI (ofK (fun _ => 0) v (fun i => laI sg b h (i : Int)) k) v k (laI sg b h (k : Int)) from rfl)
   have C2 := fun w => set_any (ofK (fun _ => 0) v (fun i => laI sg b h (i : Int)) k) v k (laI sg b h (k : Int)) w
   have T0 : IntKind.i64.wrap ((0 : Int) + (k : Int)) = (k : Int) := by rw [IntWalk.i64_in _ (by omega)]; omega
   have T1 : IntKind.i64.wrap ((k : Int) + 1) = (k : Int) + 1 := IntWalk.i64_in _ (by omega)
   have T2 : decide ((k : Int) < (L : Int)) = true := by simp; omega
   have T4 : IntKind.i64.wrap (k : Int) = (k : Int) := IntWalk.i64_in _ (by omega)
   have X2 := Lib.hid hlt
   generalize laI sg b h (k : Int) = x at *
   generalize hc0 : ofK (fun _ => 0) v (fun i => laI sg b h (i : Int)) k = c0 at *
   clear hc0 hlt hk
   have XC1 := Lib.hid C1
   clear C1
   have XC2 := Lib.hid C2
   clear C2
   go_upto_region 7 with (fail)
   try refine wp_region_lit ?_
   iterate 2 ((first | (refine ldV hS rfl _ rfl rfl ?_) | (refine stV hS rfl _ _ rfl rfl rfl ?_; clear hS; intro wk hS) | (apply sl_val rfl; focus (intro w; go_simp; (try simp (disch := omega) only [IntWalk.i64_in, IntWalk.u64_in, IntWalk.u8_in, IntWalk.u32_in, IntWalk.i32_in]); first | exact rfl | rfl)) | (refine sl_skip rfl ?_)); go_simp)
   go_upto_region 8 with (fail)
   refine sm_tail 13 [] hS (by kernel_rfl) (by kernel_rfl) (fun β => ?_)
   simp only [List.take_succ_cons, List.take_zero, List.drop_succ_cons, List.drop_zero]
   iterate 13 (refine sm_step (fun K hK => ?_); (first | (refine sm_load rfl rfl 40 _ rfl rfl (by repeat (first | exact Has.hd | apply Has.tl)) Try.underlying40 rfl (by exact infoV) ?_) | (refine sm_lay rfl rfl (by intro w; go_simp) ?_) | (refine sm_build rfl rfl 40 _ rfl (bs fun _ => 0) (by first | (simp only; kernel_rfl) | (simp only [Array.map_empty]; kernel_rfl)) ?_) | (apply sm_yes rfl rfl; focus (intro wx hx; go_simp; first | (apply sm_enter (by kernel_rfl); first | fail | with_reducible exact XC1.out wx | with_reducible exact XC2.out wx) | exact ⟨rfl, Gr.refl _⟩)) | (refine sm_cell rfl rfl _ _ rfl rfl (by repeat (first | exact Has.hd | apply Has.tl)) (by rfl) (by intro w hc; go_simp) ?_) | (refine sm_val rfl rfl (run_add rfl rfl rfl T0) ?_) | (refine sm_no rfl rfl ?_)); go_simp; refine hK _ ?_; clear hK K)
   refine sm_nil ?_
   clear hS
   intro wk hS
   replace hS : St w [⟨t, bs c0, 40⟩, ⟨r, bs (fun _ => 0), 40⟩, ⟨q, bs b, 40⟩, ⟨p, #[.bool false, .bool sg], 83⟩] wk := hS
   go_wp2_with (first | (refine ldV hS rfl _ rfl rfl ?_) | (refine stV hS rfl _ _ rfl rfl rfl ?_; clear hS; intro wk hS) | (refine sl_box hS rfl _ 40 (box_vec rfl rfl) ?_; clear hS; intro bk wk hS) | (refine sl_box hS rfl _ 40 (alloc_vec rfl) ?_; clear hS; intro bk wk hS) | (refine onlyN_end ?_) | (refine onlyN_now ?_))
   have X4 := X2.out
   exact ⟨⟨k + 1, by omega, by go_num, by rw [HM.out]; exact hS⟩, by simp [intOf]; omega⟩
  ·obtain rfl : k = L := by omega
   go_wp2_with (first | (refine ldV hS rfl _ rfl rfl ?_) | (refine stV hS rfl _ _ rfl rfl rfl ?_; clear hS; intro wk hS) | (refine sl_box hS rfl _ 40 (box_vec rfl rfl) ?_; clear hS; intro bk wk hS) | (refine sl_box hS rfl _ 40 (alloc_vec rfl) ?_; clear hS; intro bk wk hS) | (refine onlyN_end ?_) | (refine onlyN_now ?_))
   refine sl_ret hS Try.results42 (by rfl) (by repeat (first | exact Has.hd | apply Has.tl)) Try.underlying40 rfl (by exact infoV) (by rfl) ?_
   exact ⟨rfl, hS.gr⟩
theorem extend_any (v h : Int) (L : Nat) (hL : lanesI v = (L : Int)) (h16 : L ≤ 16) (hq : IntKind.i64.wrap (Int.tdiv v 2) = h) (hi sg : Bool) (b : Nat → Int) (hb : Byt b) (w : World) :
  Calls Try.prog 42 #[.int .i64 v, .agg #[.bool hi, .bool sg], .agg (bs b)] w fun e w' => e = .returned (.agg (bs (exV v h L hi sg b))) ∧ Gr w w' := by
 cases hi
 ·exact extend_false v h L hL h16 hq sg b hb w
 ·exact extend_true v h L hL h16 hq sg b hb w
def pwV (v h : Int) (L : Nat) (sg : Bool) (b : Nat → Int) : Nat → Int := ofK (fun _ => 0) v (fun i => IntKind.u64.wrap (laI sg b h (2 * i) + laI sg b h (2 * i + 1))) L
set_option maxHeartbeats 2000000 in
theorem pairwise_any (v h : Int) (L : Nat) (hL : lanesI v = (L : Int)) (h16 : L ≤ 16) (hq : IntKind.i64.wrap (Int.tdiv v 2) = h) (sg : Bool) (b : Nat → Int) (hb : Byt b) (w : World) :
  Calls Try.prog 44 #[.int .i64 v, .bool sg, .agg (bs b)] w fun e w' => e = .returned (.agg (bs (pwV v h L sg b))) ∧ Gr w w' := by
 have HB := Lib.hid hb
 have CL : ∀ w, Calls Try.prog 37 #[.int .i64 v] w fun e w' => e = .returned (.int .i64 (L : Int)) ∧ Gr w w' := fun w => by rw [← hL]; exact calls_gr (lanes_any v w)
 clear hb hL
 unfold pwV
 have hS := St.start w
 have XCL := Lib.hid CL
 clear CL
 go_enter Try.func44, Try.ntmps44
 go_upto_region 0 with (fail)
 try refine wp_region_lit ?_
 iterate 2 ((first | (refine ldV hS rfl _ rfl rfl ?_) | (refine stV hS rfl _ _ rfl rfl rfl ?_; clear hS; intro wk hS) | ((with_reducible show wpList _ _ _ (⟨_, .box 40 _, _, _, _, _⟩ :: _) _ _); refine sl_box hS rfl _ 40 (box_vec rfl rfl) ?_; clear hS; intro q wk hS) | ((with_reducible show wpList _ _ _ (⟨_, .alloc 40 , _, _, _, _⟩ :: _) _ _); refine sl_box hS rfl _ 40 (alloc_vec rfl) ?_; clear hS; intro r wk hS) | (apply sl_val rfl; focus (intro w; go_simp; (try simp (disch := omega) only [IntWalk.i64_in, IntWalk.u64_in, IntWalk.u8_in, IntWalk.u32_in, IntWalk.i32_in]); first | exact rfl | rfl)) | (refine sl_step (fun K hK => .inl ⟨rfl, ?_⟩); unfold Oper.wp; go_simp; (first | with_reducible refine sl_call hS (XCL.out _) ?_); clear hS; intro wk hS; refine hK _ _ ?_; clear hK K) | (refine sl_skip rfl ?_)); go_simp)
 go_upto_region 1 with (fail)
 try refine wp_region_lit ?_
 iterate 1 ((first | (refine ldV hS rfl _ rfl rfl ?_) | (refine stV hS rfl _ _ rfl rfl rfl ?_; clear hS; intro wk hS) | ((with_reducible show wpList _ _ _ (⟨_, .box 40 _, _, _, _, _⟩ :: _) _ _); refine sl_box hS rfl _ 40 (box_vec rfl rfl) ?_; clear hS; intro q wk hS) | ((with_reducible show wpList _ _ _ (⟨_, .alloc 40 , _, _, _, _⟩ :: _) _ _); refine sl_box hS rfl _ 40 (alloc_vec rfl) ?_; clear hS; intro t wk hS) | (apply sl_val rfl; focus (intro w; go_simp; (try simp (disch := omega) only [IntWalk.i64_in, IntWalk.u64_in, IntWalk.u8_in, IntWalk.u32_in, IntWalk.i32_in]); first | exact rfl | rfl)) | (refine sl_step (fun K hK => .inl ⟨rfl, ?_⟩); unfold Oper.wp; go_simp; (first | with_reducible refine sl_call hS (XCL.out _) ?_); clear hS; intro wk hS; refine hK _ _ ?_; clear hK K) | (refine sl_skip rfl ?_)); go_simp)
 go_upto_region 2 with (fail)
 try refine wp_region_lit ?_
 iterate 3 ((first | (refine ldV hS rfl _ rfl rfl ?_) | (refine stV hS rfl _ _ rfl rfl rfl ?_; clear hS; intro wk hS) | ((with_reducible show wpList _ _ _ (⟨_, .box 40 _, _, _, _, _⟩ :: _) _ _); refine sl_box hS rfl _ 40 (box_vec rfl rfl) ?_; clear hS; intro q wk hS) | ((with_reducible show wpList _ _ _ (⟨_, .alloc 40 , _, _, _, _⟩ :: _) _ _); refine sl_box hS rfl _ 40 (alloc_vec rfl) ?_; clear hS; intro t wk hS) | (apply sl_val rfl; focus (intro w; go_simp; (try simp (disch := omega) only [IntWalk.i64_in, IntWalk.u64_in, IntWalk.u8_in, IntWalk.u32_in, IntWalk.i32_in]); first | exact rfl | rfl)) | (refine sl_step (fun K hK => .inl ⟨rfl, ?_⟩); unfold Oper.wp; go_simp; (first | with_reducible refine sl_call hS (XCL.out _) ?_); clear hS; intro wk hS; refine hK _ _ ?_; clear hK K) | (refine sl_skip rfl ?_)); go_simp)
 go_wp2_with fail
 go_loopw [12] (fun u wr => ∃ k : Nat, k ≤ L ∧ u = .int .i64 k ∧ St w [⟨t, bs (ofK (fun _ => 0) v (fun i => IntKind.u64.wrap (laI sg b h (2 * i) + laI sg b h (2 * i + 1))) k), 40⟩, ⟨r, bs (fun _ => 0), 40⟩, ⟨q, bs b, 40⟩] wr) (fun u _ => L - (intOf u).toNat)
 case atStart => exact ⟨0, by omega, rfl, hS⟩
 case round =>
  obtain ⟨k, hk, rfl, hS⟩ := hrel
  by_cases hlt : k < L
  ·have C1 := fun w => lane_any sg b HB.out h (2 * k) w
   have C3 := fun w => lane_any sg b HB.out h (2 * k + 1) w
   have HM := Lib.hid (show ofK (fun _ => 0) v (fun i => IntKind.u64.wrap (laI sg b h (2 * i) + laI sg b h (2 * i + 1))) (k + 1) = setI (ofK (fun _ => 0) v (fun i => IntKind.u64.wrap (laI sg b h (2 * i) + laI sg b h (2 * i + 1))) k) v k (IntKind.u64.wrap (laI sg b h (2 * k) + laI sg b h (2 * k + 1))) from rfl)
   have C2 := fun w => set_any (ofK (fun _ => 0) v (fun i => IntKind.u64.wrap (laI sg b h (2 * i) + laI sg b h (2 * i + 1))) k) v k (IntKind.u64.wrap (laI sg b h (2 * k) + laI sg b h (2 * k + 1))) w
   have T0 : IntKind.i64.wrap (2 * (k : Int)) = 2 * (k : Int) := IntWalk.i64_in _ (by omega)
   have T1 : IntKind.i64.wrap ((k : Int) + 1) = (k : Int) + 1 := IntWalk.i64_in _ (by omega)
   have T2 : decide ((k : Int) < (L : Int)) = true := by simp; omega
   have T3 : IntKind.i64.wrap (2 * (k : Int) + 1) = 2 * (k : Int) + 1 := IntWalk.i64_in _ (by omega)
   have X2 := Lib.hid hlt
   generalize laI sg b h (2 * k) = x at *
   generalize laI sg b h (2 * k + 1) = y at *
   obtain ⟨z, hz⟩ : ∃ z, IntKind.u64.wrap (x + y) = z := ⟨_, rfl⟩
   rw [hz] at C2 HM
   generalize hc0 : ofK (fun _ => 0) v (fun i => IntKind.u64.wrap (laI sg b h (2 * i) + laI sg b h (2 * i + 1))) k = c0 at *
   clear hc0 hlt hk
   have XC1 := Lib.hid C1
   clear C1
   have XC2 := Lib.hid C2
   clear C2
   have XC3 := Lib.hid C3
   clear C3
   go_upto_region 4 with (fail)
   try refine wp_region_lit ?_
   iterate 2 ((first | (refine ldV hS rfl _ rfl rfl ?_) | (refine stV hS rfl _ _ rfl rfl rfl ?_; clear hS; intro wk hS) | (apply sl_val rfl; focus (intro w; go_simp; (try simp (disch := omega) only [IntWalk.i64_in, IntWalk.u64_in, IntWalk.u8_in, IntWalk.u32_in, IntWalk.i32_in]); first | exact rfl | rfl)) | (refine sl_skip rfl ?_)); go_simp)
   go_upto_region 5 with (fail)
   refine sm_all [] hS (by kernel_rfl) (by kernel_rfl) (fun β => ?_)
   repeat (refine sm_step (fun K hK => ?_); (first | (refine sm_load rfl rfl 40 _ rfl rfl (by repeat (first | exact Has.hd | apply Has.tl)) Try.underlying40 rfl (by exact infoV) ?_) | (refine sm_lay rfl rfl (by intro w; go_simp) ?_) | (refine sm_build rfl rfl 40 _ rfl (bs fun _ => 0) (by first | (simp only; kernel_rfl) | (simp only [Array.map_empty]; kernel_rfl)) ?_) | (apply sm_yes rfl rfl; focus (intro wx hx; go_simp; first | (apply sm_enter (by kernel_rfl); first | fail | with_reducible exact XC1.out wx | with_reducible exact XC3.out wx) | exact ⟨rfl, Gr.refl _⟩)) | (refine sm_val rfl rfl (run_mul rfl rfl rfl T0) ?_) | (refine sm_val rfl rfl (run_add rfl rfl rfl T3) ?_) | (refine sm_val rfl rfl (run_add rfl rfl rfl hz) ?_) | (refine sm_no rfl rfl ?_)); go_simp; refine hK _ ?_; clear hK K)
   refine sm_nil ?_
   clear hS
   intro wk hS
   replace hS : St w [⟨t, bs c0, 40⟩, ⟨r, bs (fun _ => 0), 40⟩, ⟨q, bs b, 40⟩] wk := hS
   go_upto_region 6 with (fail)
   try refine wp_region_lit ?_
   iterate 6 ((first | (refine ldV hS rfl _ rfl rfl ?_) | (refine stV hS rfl _ _ rfl rfl rfl ?_; clear hS; intro wk hS) | (apply sl_val rfl; focus (intro w; go_simp; (try simp (disch := omega) only [IntWalk.i64_in, IntWalk.u64_in, IntWalk.u8_in, IntWalk.u32_in, IntWalk.i32_in]); first | exact rfl | rfl)) | (refine sl_step (fun K hK => .inl ⟨rfl, ?_⟩); unfold Oper.wp; go_simp; (first | with_reducible refine sl_call hS (XC2.out _) ?_); clear hS; intro wk hS; refine hK _ _ ?_; clear hK K) | (refine sl_skip rfl ?_)); go_simp)
   go_wp2_with (first | (refine ldV hS rfl _ rfl rfl ?_) | (refine stV hS rfl _ _ rfl rfl rfl ?_; clear hS; intro wk hS) | (refine sl_box hS rfl _ 40 (box_vec rfl rfl) ?_; clear hS; intro bk wk hS) | (refine sl_box hS rfl _ 40 (alloc_vec rfl) ?_; clear hS; intro bk wk hS) | (refine onlyN_end ?_) | (refine onlyN_now ?_))
   have X4 := X2.out
   exact ⟨⟨k + 1, by omega, by go_num, by rw [HM.out]; exact hS⟩, by simp [intOf]; omega⟩
  ·obtain rfl : k = L := by omega
   go_wp2_with (first | (refine ldV hS rfl _ rfl rfl ?_) | (refine stV hS rfl _ _ rfl rfl rfl ?_; clear hS; intro wk hS) | (refine sl_box hS rfl _ 40 (box_vec rfl rfl) ?_; clear hS; intro bk wk hS) | (refine sl_box hS rfl _ 40 (alloc_vec rfl) ?_; clear hS; intro bk wk hS) | (refine onlyN_end ?_) | (refine onlyN_now ?_))
   refine sl_ret hS Try.results44 (by rfl) (by repeat (first | exact Has.hd | apply Has.tl)) Try.underlying40 rfl (by exact infoV) (by rfl) ?_
   exact ⟨rfl, hS.gr⟩
end Wd
end Go.Proofs.Ytjoalcaooccbiaa
/- WdNa -/
namespace Go.Proofs.Ytjoalcaooccbiaa
open Go.RowKit VecM
namespace Wd
def holdI (n a b : Int) : Int := if n < a then a else if b < n then b else n
theorem holdI_bd (n : Int) {a b : Int} (h : a ≤ b) : a ≤ holdI n a b ∧ holdI n a b ≤ b := by
 unfold holdI
 repeat' split
 all_goals omega
theorem ret_u' {a b : Int} (h : a = b) : Ending.returned (.int .u64 a) = .returned (.int .u64 b) := by rw [h]
theorem ret_i' {a b : Int} (h : a = b) : Ending.returned (.int .i64 a) = .returned (.int .i64 b) := by rw [h]
theorem hold_any (n a b : Int) (h : a ≤ b) (w : World) : Calls Try.prog 84 #[.int .i64 n, .int .i64 a, .int .i64 b] w fun e w' => e = .returned (.int .i64 (holdI n a b)) ∧ w = w' := by
 by_cases h1 : n < a
 ·have e : holdI n a b = a := if_pos h1
  have g1 : n ≤ a := by omega
  have g2 : ¬ a ≤ n := by omega
  have HE := Lib.hid e
  clear e h1
  go_enter Try.func84, Try.ntmps84
  go_wp2
  go_ret
  exact ⟨ret_i' HE.out.symm, rfl⟩
 ·by_cases h2 : b < n
  ·have e : holdI n a b = b := by unfold holdI; rw [if_neg h1, if_pos h2]
   have g1 : a ≤ n := by omega
   have g2 : ¬ n ≤ b := by omega
   have g3 : b ≤ n := by omega
   by_cases g4 : n ≤ a
   ·omega
   ·have HE := Lib.hid e
    clear e h1 h2
    go_enter Try.func84, Try.ntmps84
    go_wp2
    go_ret
    exact ⟨ret_i' HE.out.symm, rfl⟩
  ·have e : holdI n a b = n := by unfold holdI; rw [if_neg h1, if_neg h2]
   have HE := Lib.hid e
   have g1 : a ≤ n := by omega
   have g2 : n ≤ b := by omega
   clear e h1 h2
   by_cases g4 : n ≤ a
   ·obtain rfl : n = a := by omega
    go_enter Try.func84, Try.ntmps84
    go_wp2
    all_goals
     go_ret
     exact ⟨ret_i' HE.out.symm, rfl⟩
   ·by_cases g5 : b ≤ n
    ·obtain rfl : n = b := by omega
     go_enter Try.func84, Try.ntmps84
     go_wp2
     all_goals
      go_ret
      exact ⟨ret_i' HE.out.symm, rfl⟩
    ·go_enter Try.func84, Try.ntmps84
     go_wp2
     go_ret
     exact ⟨ret_i' HE.out.symm, rfl⟩
def muV (v : Int) (L : Nat) (a b : Nat → Int) : Nat → Int := ofK a v (fun i => IntKind.u64.wrap (getI a v i * getI b v i)) L
section
variable {P : Program} {a : Act} {o : Oper}
theorem run_min {x y : Operand} {ts : Array TypeId} {k : IntKind} {m n z : Int} (ho : o.op = .call { callee := .builtin .min, args := #[x, y], argTypes := ts }) (hx : a.eval x = .int k m) (hy : a.eval y = .int k n) (hz : z = if m < n then m else n) (w : World) : (execOp a.eval o).run P w = .ok (.value (.int k z)) w := by
 unfold execOp
 subst hz
 have e : (if n < m then n else m) = if m < n then m else n := by
  by_cases h : n < m
  ·rw [if_pos h, if_neg (by omega)]
  ·rw [if_neg h]; by_cases h2 : m < n
   ·rw [if_pos h2]
   ·rw [if_neg h2]; omega
 simp [ho, hx, hy, resolve, invoke, builtin, Builtin.min_, Builtin.min2, e]
end
set_option maxHeartbeats 2000000 in
theorem multiply_any (v : Int) (L : Nat) (hL : lanesI v = (L : Int)) (h16 : L ≤ 16) (a b : Nat → Int) (ha : Byt a) (hb : Byt b) (w : World) :
  Calls Try.prog 50 #[.int .i64 v, .agg (bs a), .agg (bs b)] w fun e w' => e = .returned (.agg (bs (muV v L a b))) ∧ Gr w w' := by
 have HA := Lib.hid ha
 have HB := Lib.hid hb
 have HL := Lib.hid hL
 have CL : ∀ w, Calls Try.prog 37 #[.int .i64 v] w fun e w' => e = .returned (.int .i64 (L : Int)) ∧ Gr w w' := fun w => by rw [← hL]; exact calls_gr (lanes_any v w)
 clear ha hb hL
 unfold muV
 have hS := St.start w
 have XCL := Lib.hid CL
 clear CL
 go_enter Try.func50, Try.ntmps50
 go_upto_region 0 with (fail)
 refine wp_region_lit ?_
 refine sl_box hS rfl _ 40 (box_vec rfl rfl) ?_
 clear hS
 intro p wk hS
 refine sl_box hS rfl _ 40 (box_vec rfl rfl) ?_
 clear hS
 intro q wk hS
 go_upto_region 1 with (first | (refine ldV hS rfl _ rfl rfl ?_) | (refine stV hS rfl _ _ rfl rfl rfl ?_; clear hS; intro wk hS) | (refine sl_box hS rfl _ 40 (box_vec rfl rfl) ?_; clear hS; intro bk wk hS) | (refine sl_box hS rfl _ 40 (alloc_vec rfl) ?_; clear hS; intro r wk hS) | (refine onlyN_end ?_) | (refine onlyN_now ?_))
 try refine wp_region_lit ?_
 iterate 3 ((first | (refine ldV hS rfl _ rfl rfl ?_) | (refine stV hS rfl _ _ rfl rfl rfl ?_; clear hS; intro wk hS) | (apply sl_val rfl; focus (intro w; go_simp; (try simp (disch := omega) only [IntWalk.i64_in, IntWalk.u64_in, IntWalk.u8_in, IntWalk.u32_in, IntWalk.i32_in]); first | exact rfl | rfl)) | (refine sl_step (fun K hK => .inl ⟨rfl, ?_⟩); unfold Oper.wp; go_simp; (first | with_reducible refine sl_call hS (XCL.out _) ?_); clear hS; intro wk hS; refine hK _ _ ?_; clear hK K) | (refine sl_skip rfl ?_)); go_simp)
 go_wp2_with fail
 go_loopw [10] (fun u wr => ∃ k : Nat, k ≤ L ∧ u = .int .i64 k ∧ St w [⟨r, bs (fun _ => 0), 40⟩, ⟨q, bs b, 40⟩, ⟨p, bs (ofK a v (fun i => IntKind.u64.wrap (getI a v i * getI b v i)) k), 40⟩] wr) (fun u _ => L - (intOf u).toNat)
 case atStart => exact ⟨0, by omega, rfl, hS⟩
 case round =>
  obtain ⟨k, hk, rfl, hS⟩ := hrel
  by_cases hlt : k < L
  ·have ht : thereB v k = true := there_iff.2 ⟨by omega, by have := HL.out; omega⟩
   have g1 : getI (ofK a v (fun i => IntKind.u64.wrap (getI a v i * getI b v i)) k) v k = getI a v k := by rw [get_ofK a v _ k ht k, if_neg (by omega)]
   have C1 := fun w => get_any (ofK a v (fun i => IntKind.u64.wrap (getI a v i * getI b v i)) k) (ofK_byt HA.out _ _ _) v k w
   rw [g1] at C1
   have C3 := fun w => get_any b HB.out v k w
   have HM := Lib.hid (show ofK a v (fun i => IntKind.u64.wrap (getI a v i * getI b v i)) (k + 1) = setI (ofK a v (fun i => IntKind.u64.wrap (getI a v i * getI b v i)) k) v k (IntKind.u64.wrap (getI a v k * getI b v k)) from rfl)
   have C2 := fun w => set_any (ofK a v (fun i => IntKind.u64.wrap (getI a v i * getI b v i)) k) v k (IntKind.u64.wrap (getI a v k * getI b v k)) w
   have T1 : IntKind.i64.wrap ((k : Int) + 1) = (k : Int) + 1 := IntWalk.i64_in _ (by omega)
   have T2 : decide ((k : Int) < (L : Int)) = true := by simp; omega
   have X2 := Lib.hid hlt
   clear g1 ht
   generalize getI a v k = x at *
   generalize getI b v k = y at *
   obtain ⟨z, hz⟩ : ∃ z, IntKind.u64.wrap (x * y) = z := ⟨_, rfl⟩
   rw [hz] at C2 HM
   generalize hc0 : ofK a v (fun i => IntKind.u64.wrap (getI a v i * getI b v i)) k = c0 at *
   clear hc0 hlt hk
   have XC1 := Lib.hid C1
   clear C1
   have XC2 := Lib.hid C2
   clear C2
   have XC3 := Lib.hid C3
   clear C3
   go_upto_region 3 with (fail)
   try refine wp_region_lit ?_
   iterate 2 ((first | (refine ldV hS rfl _ rfl rfl ?_) | (refine stV hS rfl _ _ rfl rfl rfl ?_; clear hS; intro wk hS) | (apply sl_val rfl; focus (intro w; go_simp; (try simp (disch := omega) only [IntWalk.i64_in, IntWalk.u64_in, IntWalk.u8_in, IntWalk.u32_in, IntWalk.i32_in]); first | exact rfl | rfl)) | (refine sl_skip rfl ?_)); go_simp)
   go_upto_region 4 with (fail)
   refine sm_tail 13 [] hS (by kernel_rfl) (by kernel_rfl) (fun β => ?_)
   simp only [List.take_succ_cons, List.take_zero, List.drop_succ_cons, List.drop_zero]
   iterate 13 (refine sm_step (fun K hK => ?_); (first | (refine sm_load rfl rfl 40 _ rfl rfl (by repeat (first | exact Has.hd | apply Has.tl)) Try.underlying40 rfl (by exact infoV) ?_) | (refine sm_lay rfl rfl (by intro w; go_simp) ?_) | (refine sm_build rfl rfl 40 _ rfl (bs fun _ => 0) (by kernel_rfl) ?_) | (apply sm_yes rfl rfl; focus (intro wx hx; go_simp; first | (apply sm_enter (by kernel_rfl); first | fail | with_reducible exact XC1.out wx | with_reducible exact XC3.out wx | with_reducible exact XC2.out wx) | exact ⟨rfl, Gr.refl _⟩)) | (refine sm_val rfl rfl (run_mul rfl rfl rfl hz) ?_) | (refine sm_no rfl rfl ?_)); go_simp; refine hK _ ?_; clear hK K)
   refine sm_nil ?_
   clear hS
   intro wk hS
   replace hS : St w [⟨r, bs (fun _ => 0), 40⟩, ⟨q, bs b, 40⟩, ⟨p, bs c0, 40⟩] wk := hS
   go_wp2_with (first | (refine ldV hS rfl _ rfl rfl ?_) | (refine stV hS rfl _ _ rfl rfl rfl ?_; clear hS; intro wk hS) | (refine sl_box hS rfl _ 40 (box_vec rfl rfl) ?_; clear hS; intro bk wk hS) | (refine sl_box hS rfl _ 40 (alloc_vec rfl) ?_; clear hS; intro bk wk hS) | (refine onlyN_end ?_) | (refine onlyN_now ?_))
   have X4 := X2.out
   exact ⟨⟨k + 1, by omega, by go_num, by rw [HM.out]; exact hS⟩, by simp [intOf]; omega⟩
  ·obtain rfl : k = L := by omega
   go_wp2_with (first | (refine ldV hS rfl _ rfl rfl ?_) | (refine stV hS rfl _ _ rfl rfl rfl ?_; clear hS; intro wk hS) | (refine sl_box hS rfl _ 40 (box_vec rfl rfl) ?_; clear hS; intro bk wk hS) | (refine sl_box hS rfl _ 40 (alloc_vec rfl) ?_; clear hS; intro bk wk hS) | (refine onlyN_end ?_) | (refine onlyN_now ?_))
   refine sl_ret hS Try.results50 (by rfl) (by repeat (first | exact Has.hd | apply Has.tl)) Try.underlying40 rfl (by exact infoV) (by rfl) ?_
   exact ⟨rfl, hS.gr⟩
def prV (a b : Nat → Int) : Nat → Int := ofK (fun _ => 0) 32 (fun i => IntKind.u64.wrap (IntKind.i64.wrap (IntKind.i64.wrap (sgnI a 16 (2 * i) * sgnI b 16 (2 * i)) + IntKind.i64.wrap (sgnI a 16 (2 * i + 1) * sgnI b 16 (2 * i + 1))))) 4
set_option maxHeartbeats 2000000 in
theorem products_any (a b : Nat → Int) (ha : Byt a) (hb : Byt b) (w : World) :
  Calls Try.prog 51 #[.agg (bs a), .agg (bs b)] w fun e w' => e = .returned (.agg (bs (prV a b))) ∧ Gr w w' := by
 have HA := Lib.hid ha
 have HB := Lib.hid hb
 have CL : ∀ w, Calls Try.prog 37 #[.int .i64 32] w fun e w' => e = .returned (.int .i64 4) ∧ Gr w w' := fun w => calls_gr (lanes_any 32 w)
 clear ha hb
 unfold prV
 have hS := St.start w
 have XCL := Lib.hid CL
 clear CL
 go_enter Try.func51, Try.ntmps51
 go_upto_region 0 with (fail)
 refine wp_region_lit ?_
 refine sl_box hS rfl _ 40 (box_vec rfl rfl) ?_
 clear hS
 intro p wk hS
 refine sl_box hS rfl _ 40 (box_vec rfl rfl) ?_
 clear hS
 intro q wk hS
 refine sl_box hS rfl _ 40 (alloc_vec rfl) ?_
 clear hS
 intro r wk hS
 go_upto_region 1 with (fail)
 try refine wp_region_lit ?_
 iterate 1 ((first | (refine ldV hS rfl _ rfl rfl ?_) | (refine stV hS rfl _ _ rfl rfl rfl ?_; clear hS; intro wk hS) | ((with_reducible show wpList _ _ _ (⟨_, .alloc 40 , _, _, _, _⟩ :: _) _ _); refine sl_box hS rfl _ 40 (alloc_vec rfl) ?_; clear hS; intro t wk hS) | (apply sl_val rfl; focus (intro w; go_simp; (try simp (disch := omega) only [IntWalk.i64_in, IntWalk.u64_in, IntWalk.u8_in, IntWalk.u32_in, IntWalk.i32_in]); first | exact rfl | rfl)) | (refine sl_step (fun K hK => .inl ⟨rfl, ?_⟩); unfold Oper.wp; go_simp; (first | with_reducible refine sl_call hS (XCL.out _) ?_); clear hS; intro wk hS; refine hK _ _ ?_; clear hK K) | (refine sl_skip rfl ?_)); go_simp)
 go_upto_region 2 with (fail)
 try refine wp_region_lit ?_
 iterate 2 ((first | (refine ldV hS rfl _ rfl rfl ?_) | (refine stV hS rfl _ _ rfl rfl rfl ?_; clear hS; intro wk hS) | ((with_reducible show wpList _ _ _ (⟨_, .alloc 40 , _, _, _, _⟩ :: _) _ _); refine sl_box hS rfl _ 40 (alloc_vec rfl) ?_; clear hS; intro t wk hS) | (apply sl_val rfl; focus (intro w; go_simp; (try simp (disch := omega) only [IntWalk.i64_in, IntWalk.u64_in, IntWalk.u8_in, IntWalk.u32_in, IntWalk.i32_in]); first | exact rfl | rfl)) | (refine sl_step (fun K hK => .inl ⟨rfl, ?_⟩); unfold Oper.wp; go_simp; (first | with_reducible refine sl_call hS (XCL.out _) ?_); clear hS; intro wk hS; refine hK _ _ ?_; clear hK K) | (refine sl_skip rfl ?_)); go_simp)
 go_wp2_with fail
 go_loopw [10] (fun u wr => ∃ k : Nat, k ≤ 4 ∧ u = .int .i64 k ∧ St w [⟨t, bs (ofK (fun _ => 0) 32 (fun i => IntKind.u64.wrap (IntKind.i64.wrap (IntKind.i64.wrap (sgnI a 16 (2 * i) * sgnI b 16 (2 * i)) + IntKind.i64.wrap (sgnI a 16 (2 * i + 1) * sgnI b 16 (2 * i + 1))))) k), 40⟩, ⟨r, bs (fun _ => 0), 40⟩, ⟨q, bs b, 40⟩, ⟨p, bs a, 40⟩] wr) (fun u _ => 4 - (intOf u).toNat)
 case atStart => exact ⟨0, by omega, rfl, hS⟩
 case round =>
  obtain ⟨k, hk, rfl, hS⟩ := hrel
  by_cases hlt : k < 4
  ·have C1 := fun w => signed_any a HA.out 16 (2 * k) w
   have C2 := fun w => signed_any b HB.out 16 (2 * k) w
   have C3 := fun w => signed_any a HA.out 16 (2 * k + 1) w
   have C4 := fun w => signed_any b HB.out 16 (2 * k + 1) w
   have HM := Lib.hid (show ofK (fun _ => 0) 32 (fun i => IntKind.u64.wrap (IntKind.i64.wrap (IntKind.i64.wrap (sgnI a 16 (2 * i) * sgnI b 16 (2 * i)) + IntKind.i64.wrap (sgnI a 16 (2 * i + 1) * sgnI b 16 (2 * i + 1))))) (k + 1) = setI (ofK (fun _ => 0) 32 (fun i => IntKind.u64.wrap (IntKind.i64.wrap (IntKind.i64.wrap (sgnI a 16 (2 * i) * sgnI b 16 (2 * i)) + IntKind.i64.wrap (sgnI a 16 (2 * i + 1) * sgnI b 16 (2 * i + 1))))) k) 32 k (IntKind.u64.wrap (IntKind.i64.wrap (IntKind.i64.wrap (sgnI a 16 (2 * k) * sgnI b 16 (2 * k)) + IntKind.i64.wrap (sgnI a 16 (2 * k + 1) * sgnI b 16 (2 * k + 1))))) from rfl)
   have C5 := fun w => set_any (ofK (fun _ => 0) 32 (fun i => IntKind.u64.wrap (IntKind.i64.wrap (IntKind.i64.wrap (sgnI a 16 (2 * i) * sgnI b 16 (2 * i)) + IntKind.i64.wrap (sgnI a 16 (2 * i + 1) * sgnI b 16 (2 * i + 1))))) k) 32 k (IntKind.u64.wrap (IntKind.i64.wrap (IntKind.i64.wrap (sgnI a 16 (2 * k) * sgnI b 16 (2 * k)) + IntKind.i64.wrap (sgnI a 16 (2 * k + 1) * sgnI b 16 (2 * k + 1))))) w
   have T1 : IntKind.i64.wrap ((k : Int) + 1) = (k : Int) + 1 := IntWalk.i64_in _ (by omega)
   have T2 : decide ((k : Int) < 4) = true := by simp; omega
   have X2 := Lib.hid hlt
   have T0 : IntKind.i64.wrap (2 * (k : Int)) = 2 * (k : Int) := IntWalk.i64_in _ (by omega)
   have T3 : IntKind.i64.wrap (2 * (k : Int) + 1) = 2 * (k : Int) + 1 := IntWalk.i64_in _ (by omega)
   generalize sgnI a 16 (2 * k) = x at *
   generalize sgnI b 16 (2 * k) = y at *
   generalize sgnI a 16 (2 * k + 1) = x' at *
   generalize sgnI b 16 (2 * k + 1) = y' at *
   obtain ⟨z1, hz1⟩ : ∃ z, IntKind.i64.wrap (x * y) = z := ⟨_, rfl⟩
   obtain ⟨z2, hz2⟩ : ∃ z, IntKind.i64.wrap (x' * y') = z := ⟨_, rfl⟩
   rw [hz1, hz2] at C5 HM
   obtain ⟨z3, hz3⟩ : ∃ z, IntKind.i64.wrap (z1 + z2) = z := ⟨_, rfl⟩
   rw [hz3] at C5 HM
   obtain ⟨z4, hz4⟩ : ∃ z, IntKind.u64.wrap z3 = z := ⟨_, rfl⟩
   rw [hz4] at C5 HM
   generalize hc0 : ofK (fun _ => 0) 32 (fun i => IntKind.u64.wrap (IntKind.i64.wrap (IntKind.i64.wrap (sgnI a 16 (2 * i) * sgnI b 16 (2 * i)) + IntKind.i64.wrap (sgnI a 16 (2 * i + 1) * sgnI b 16 (2 * i + 1))))) k = c0 at *
   clear hc0 hlt hk
   have XC1 := Lib.hid C1
   clear C1
   have XC2 := Lib.hid C2
   clear C2
   have XC3 := Lib.hid C3
   clear C3
   have XC4 := Lib.hid C4
   clear C4
   have XC5 := Lib.hid C5
   clear C5
   go_upto_region 4 with (fail)
   try refine wp_region_lit ?_
   iterate 2 ((first | (refine ldV hS rfl _ rfl rfl ?_) | (refine stV hS rfl _ _ rfl rfl rfl ?_; clear hS; intro wk hS) | (apply sl_val rfl; focus (intro w; go_simp; (try simp (disch := omega) only [IntWalk.i64_in, IntWalk.u64_in, IntWalk.u8_in, IntWalk.u32_in, IntWalk.i32_in]); first | exact rfl | rfl)) | (refine sl_skip rfl ?_)); go_simp)
   go_upto_region 5 with (fail)
   refine sm_all [] hS (by kernel_rfl) (by kernel_rfl) (fun β => ?_)
   repeat (refine sm_step (fun K hK => ?_); (first | (refine sm_load rfl rfl 40 _ rfl rfl (by repeat (first | exact Has.hd | apply Has.tl)) Try.underlying40 rfl (by exact infoV) ?_) | (refine sm_lay rfl rfl (by intro w; go_simp) ?_) | (refine sm_build rfl rfl 40 _ rfl (bs fun _ => 0) (by kernel_rfl) ?_) | (apply sm_yes rfl rfl; focus (intro wx hx; go_simp; first | (apply sm_enter (by kernel_rfl); first | fail | with_reducible exact XC1.out wx | with_reducible exact XC2.out wx) | exact ⟨rfl, Gr.refl _⟩)) | (refine sm_val rfl rfl (run_mul rfl rfl rfl T0) ?_) | (refine sm_val rfl rfl (run_add rfl rfl rfl T3) ?_) | (refine sm_val rfl rfl (run_mul rfl rfl rfl hz1) ?_) | (refine sm_val rfl rfl (run_mul rfl rfl rfl hz2) ?_) | (refine sm_no rfl rfl ?_)); go_simp; refine hK _ ?_; clear hK K)
   refine sm_nil ?_
   clear hS
   intro wk hS
   replace hS : St w [⟨t, bs c0, 40⟩, ⟨r, bs (fun _ => 0), 40⟩, ⟨q, bs b, 40⟩, ⟨p, bs a, 40⟩] wk := hS
   go_upto_region 6 with (fail)
   refine sm_all [] hS (by kernel_rfl) (by kernel_rfl) (fun β => ?_)
   repeat (refine sm_step (fun K hK => ?_); (first | (refine sm_load rfl rfl 40 _ rfl rfl (by repeat (first | exact Has.hd | apply Has.tl)) Try.underlying40 rfl (by exact infoV) ?_) | (refine sm_lay rfl rfl (by intro w; go_simp) ?_) | (refine sm_build rfl rfl 40 _ rfl (bs fun _ => 0) (by kernel_rfl) ?_) | (apply sm_yes rfl rfl; focus (intro wx hx; go_simp; first | (apply sm_enter (by kernel_rfl); first | fail | with_reducible exact XC3.out wx | with_reducible exact XC4.out wx) | exact ⟨rfl, Gr.refl _⟩)) | (refine sm_val rfl rfl (run_mul rfl rfl rfl T0) ?_) | (refine sm_val rfl rfl (run_add rfl rfl rfl T3) ?_) | (refine sm_val rfl rfl (run_mul rfl rfl rfl hz1) ?_) | (refine sm_val rfl rfl (run_mul rfl rfl rfl hz2) ?_) | (refine sm_no rfl rfl ?_)); go_simp; refine hK _ ?_; clear hK K)
   refine sm_nil ?_
   clear hS
   intro wk hS
   replace hS : St w [⟨t, bs c0, 40⟩, ⟨r, bs (fun _ => 0), 40⟩, ⟨q, bs b, 40⟩, ⟨p, bs a, 40⟩] wk := hS
   go_upto_region 7 with (fail)
   try refine wp_region_lit ?_
   iterate 8 ((first | (refine ldV hS rfl _ rfl rfl ?_) | (refine stV hS rfl _ _ rfl rfl rfl ?_; clear hS; intro wk hS) | (refine sl_val rfl (run_add rfl rfl rfl hz3) ?_) | (refine sl_val rfl (run_conv rfl rfl Try.underlying2 Try.underlying22 hz4) ?_) | (apply sl_val rfl; focus (intro w; go_simp; (try simp (disch := omega) only [IntWalk.i64_in, IntWalk.u64_in, IntWalk.u8_in, IntWalk.u32_in, IntWalk.i32_in]); first | exact rfl | rfl)) | (refine sl_step (fun K hK => .inl ⟨rfl, ?_⟩); unfold Oper.wp; go_simp; (first | with_reducible refine sl_call hS (XC5.out _) ?_); clear hS; intro wk hS; refine hK _ _ ?_; clear hK K) | (refine sl_skip rfl ?_)); go_simp)
   go_wp2_with (first | (refine ldV hS rfl _ rfl rfl ?_) | (refine stV hS rfl _ _ rfl rfl rfl ?_; clear hS; intro wk hS) | (refine sl_box hS rfl _ 40 (box_vec rfl rfl) ?_; clear hS; intro bk wk hS) | (refine sl_box hS rfl _ 40 (alloc_vec rfl) ?_; clear hS; intro bk wk hS) | (refine onlyN_end ?_) | (refine onlyN_now ?_))
   have X4 := X2.out
   exact ⟨⟨k + 1, by omega, by go_num, by rw [HM.out]; exact hS⟩, by simp [intOf]; omega⟩
  ·obtain rfl : k = 4 := by omega
   go_wp2_with (first | (refine ldV hS rfl _ rfl rfl ?_) | (refine stV hS rfl _ _ rfl rfl rfl ?_; clear hS; intro wk hS) | (refine sl_box hS rfl _ 40 (box_vec rfl rfl) ?_; clear hS; intro bk wk hS) | (refine sl_box hS rfl _ 40 (alloc_vec rfl) ?_; clear hS; intro bk wk hS) | (refine onlyN_end ?_) | (refine onlyN_now ?_))
   refine sl_ret hS Try.results51 (by rfl) (by repeat (first | exact Has.hd | apply Has.tl)) Try.underlying40 rfl (by exact infoV) (by rfl) ?_
   exact ⟨rfl, hS.gr⟩
def q15 (x : Int) : Int := if (x + 16384) / 32768 < 32767 then (x + 16384) / 32768 else 32767
def roV (a b : Nat → Int) : Nat → Int := ofK (fun _ => 0) 16 (fun i => IntKind.u64.wrap (q15 (sgnI a 16 i * sgnI b 16 i))) 8
theorem sg16_bd {b : Nat → Int} (hb : Byt b) (i : Nat) : -32768 ≤ sgnI b 16 i ∧ sgnI b 16 i ≤ 32767 := by
 unfold sgnI
 split
 ·have hg := getI_bd hb 16 i
  rw [wid16] at hg
  unfold sg
  rw [show ((2 : Int) ^ (((16 : Int)).toNat - 1)) = 32768 by decide, show ((2 : Int) ^ ((16 : Int)).toNat) = 65536 by decide]
  split <;> omega
 ·omega
theorem mul_bd (x y : Int) (h : -32768 ≤ x ∧ x ≤ 32767) (h' : -32768 ≤ y ∧ y ≤ 32767) : -1073741824 ≤ x * y ∧ x * y ≤ 1073741824 := by
 have e1 : (x + 32768) * (y + 32768) ≥ 0 := Int.mul_nonneg (by omega) (by omega)
 have e2 : (32768 - x) * (y + 32768) ≥ 0 := Int.mul_nonneg (by omega) (by omega)
 have e3 : (x + 32768) * (32768 - y) ≥ 0 := Int.mul_nonneg (by omega) (by omega)
 have e4 : (32768 - x) * (32768 - y) ≥ 0 := Int.mul_nonneg (by omega) (by omega)
 simp only [Int.add_mul, Int.sub_mul, Int.mul_add, Int.mul_sub] at e1 e2 e3 e4
 omega
set_option maxHeartbeats 2000000 in
theorem rounded_any (a b : Nat → Int) (ha : Byt a) (hb : Byt b) (w : World) :
  Calls Try.prog 52 #[.agg (bs a), .agg (bs b)] w fun e w' => e = .returned (.agg (bs (roV a b))) ∧ Gr w w' := by
 have HA := Lib.hid ha
 have HB := Lib.hid hb
 have CL : ∀ w, Calls Try.prog 37 #[.int .i64 16] w fun e w' => e = .returned (.int .i64 8) ∧ Gr w w' := fun w => calls_gr (lanes_any 16 w)
 clear ha hb
 unfold roV
 have hS := St.start w
 have XCL := Lib.hid CL
 clear CL
 go_enter Try.func52, Try.ntmps52
 go_upto_region 0 with (fail)
 refine wp_region_lit ?_
 refine sl_box hS rfl _ 40 (box_vec rfl rfl) ?_
 clear hS
 intro p wk hS
 refine sl_box hS rfl _ 40 (box_vec rfl rfl) ?_
 clear hS
 intro q wk hS
 refine sl_box hS rfl _ 40 (alloc_vec rfl) ?_
 clear hS
 intro r wk hS
 go_upto_region 1 with (fail)
 try refine wp_region_lit ?_
 iterate 1 ((first | (refine ldV hS rfl _ rfl rfl ?_) | (refine stV hS rfl _ _ rfl rfl rfl ?_; clear hS; intro wk hS) | ((with_reducible show wpList _ _ _ (⟨_, .alloc 40 , _, _, _, _⟩ :: _) _ _); refine sl_box hS rfl _ 40 (alloc_vec rfl) ?_; clear hS; intro t wk hS) | (apply sl_val rfl; focus (intro w; go_simp; (try simp (disch := omega) only [IntWalk.i64_in, IntWalk.u64_in, IntWalk.u8_in, IntWalk.u32_in, IntWalk.i32_in]); first | exact rfl | rfl)) | (refine sl_step (fun K hK => .inl ⟨rfl, ?_⟩); unfold Oper.wp; go_simp; (first | with_reducible refine sl_call hS (XCL.out _) ?_); clear hS; intro wk hS; refine hK _ _ ?_; clear hK K) | (refine sl_skip rfl ?_)); go_simp)
 go_upto_region 2 with (fail)
 try refine wp_region_lit ?_
 iterate 2 ((first | (refine ldV hS rfl _ rfl rfl ?_) | (refine stV hS rfl _ _ rfl rfl rfl ?_; clear hS; intro wk hS) | ((with_reducible show wpList _ _ _ (⟨_, .alloc 40 , _, _, _, _⟩ :: _) _ _); refine sl_box hS rfl _ 40 (alloc_vec rfl) ?_; clear hS; intro t wk hS) | (apply sl_val rfl; focus (intro w; go_simp; (try simp (disch := omega) only [IntWalk.i64_in, IntWalk.u64_in, IntWalk.u8_in, IntWalk.u32_in, IntWalk.i32_in]); first | exact rfl | rfl)) | (refine sl_step (fun K hK => .inl ⟨rfl, ?_⟩); unfold Oper.wp; go_simp; (first | with_reducible refine sl_call hS (XCL.out _) ?_); clear hS; intro wk hS; refine hK _ _ ?_; clear hK K) | (refine sl_skip rfl ?_)); go_simp)
 go_wp2_with fail
 go_loopw [9] (fun u wr => ∃ k : Nat, k ≤ 8 ∧ u = .int .i64 k ∧ St w [⟨t, bs (ofK (fun _ => 0) 16 (fun i => IntKind.u64.wrap (q15 (sgnI a 16 i * sgnI b 16 i))) k), 40⟩, ⟨r, bs (fun _ => 0), 40⟩, ⟨q, bs b, 40⟩, ⟨p, bs a, 40⟩] wr) (fun u _ => 8 - (intOf u).toNat)
 case atStart => exact ⟨0, by omega, rfl, hS⟩
 case round =>
  obtain ⟨k, hk, rfl, hS⟩ := hrel
  by_cases hlt : k < 8
  ·have C1 := fun w => signed_any a HA.out 16 k w
   have C2 := fun w => signed_any b HB.out 16 k w
   have b1 := sg16_bd HA.out k
   have b2 := sg16_bd HB.out k
   have HM := Lib.hid (show ofK (fun _ => 0) 16 (fun i => IntKind.u64.wrap (q15 (sgnI a 16 i * sgnI b 16 i))) (k + 1) = setI (ofK (fun _ => 0) 16 (fun i => IntKind.u64.wrap (q15 (sgnI a 16 i * sgnI b 16 i))) k) 16 k (IntKind.u64.wrap (q15 (sgnI a 16 k * sgnI b 16 k))) from rfl)
   have C5 := fun w => set_any (ofK (fun _ => 0) 16 (fun i => IntKind.u64.wrap (q15 (sgnI a 16 i * sgnI b 16 i))) k) 16 k (IntKind.u64.wrap (q15 (sgnI a 16 k * sgnI b 16 k))) w
   have T1 : IntKind.i64.wrap ((k : Int) + 1) = (k : Int) + 1 := IntWalk.i64_in _ (by omega)
   have T2 : decide ((k : Int) < 8) = true := by simp; omega
   have X2 := Lib.hid hlt
   generalize sgnI a 16 k = x at *
   generalize sgnI b 16 k = y at *
   have hxy := mul_bd x y b1 b2
   have hz1 : IntKind.i64.wrap (x * y) = x * y := IntWalk.i64_in _ (by omega)
   have hz2 : IntKind.i64.wrap (x * y + 16384) = x * y + 16384 := IntWalk.i64_in _ (by omega)
   have hz3 : (x * y + 16384).fdiv (2 ^ (min (15 : Int).toNat IntKind.i64.bits)) = (x * y + 16384) / 32768 := by
    rw [show (2 : Int) ^ (min (15 : Int).toNat IntKind.i64.bits) = 32768 by decide, Int.fdiv_eq_ediv_of_nonneg _ (by decide)]
   obtain ⟨z4, hz4⟩ : ∃ z, IntKind.u64.wrap (q15 (x * y)) = z := ⟨_, rfl⟩
   rw [hz4] at C5 HM
   generalize hc0 : ofK (fun _ => 0) 16 (fun i => IntKind.u64.wrap (q15 (sgnI a 16 i * sgnI b 16 i))) k = c0 at *
   clear hc0 hlt hk b1 b2
   have hq : q15 (x * y) = if (x * y + 16384) / 32768 < 32767 then (x * y + 16384) / 32768 else 32767 := rfl
   obtain ⟨xy, hxy0⟩ : ∃ z, x * y = z := ⟨_, rfl⟩
   rw [hxy0] at hz1 hz2 hz3 hz4 hq hxy
   rw [← hxy0] at hz1
   have hz1' : IntKind.i64.wrap (x * y) = xy := hz1.trans hxy0
   generalize q15 xy = qq at *
   clear hz1 hxy0
   have Hq := Lib.hid hq
   clear hq
   generalize (xy + 16384) / 32768 = z0 at *
   clear hxy
   have XC1 := Lib.hid C1
   clear C1
   have XC2 := Lib.hid C2
   clear C2
   have XC5 := Lib.hid C5
   clear C5
   go_upto_region 4 with (fail)
   try refine wp_region_lit ?_
   iterate 2 ((first | (refine ldV hS rfl _ rfl rfl ?_) | (refine stV hS rfl _ _ rfl rfl rfl ?_; clear hS; intro wk hS) | (apply sl_val rfl; focus (intro w; go_simp; (try simp (disch := omega) only [IntWalk.i64_in, IntWalk.u64_in, IntWalk.u8_in, IntWalk.u32_in, IntWalk.i32_in]); first | exact rfl | rfl)) | (refine sl_skip rfl ?_)); go_simp)
   go_upto_region 5 with (fail)
   refine sm_all [] hS (by kernel_rfl) (by kernel_rfl) (fun β => ?_)
   repeat (refine sm_step (fun K hK => ?_); (first | (refine sm_load rfl rfl 40 _ rfl rfl (by repeat (first | exact Has.hd | apply Has.tl)) Try.underlying40 rfl (by exact infoV) ?_) | (refine sm_lay rfl rfl (by intro w; go_simp) ?_) | (refine sm_build rfl rfl 40 _ rfl (bs fun _ => 0) (by kernel_rfl) ?_) | (apply sm_yes rfl rfl; focus (intro wx hx; go_simp; first | (apply sm_enter (by kernel_rfl); first | fail | with_reducible exact XC1.out wx | with_reducible exact XC2.out wx) | exact ⟨rfl, Gr.refl _⟩)) | (refine sm_val rfl rfl (run_mul rfl rfl rfl hz1') ?_) | (refine sm_no rfl rfl ?_)); go_simp; refine hK _ ?_; clear hK K)
   refine sm_nil ?_
   clear hS
   intro wk hS
   replace hS : St w [⟨t, bs c0, 40⟩, ⟨r, bs (fun _ => 0), 40⟩, ⟨q, bs b, 40⟩, ⟨p, bs a, 40⟩] wk := hS
   go_upto_region 6 with (fail)
   try refine wp_region_lit ?_
   iterate 9 ((first | (refine ldV hS rfl _ rfl rfl ?_) | (refine stV hS rfl _ _ rfl rfl rfl ?_; clear hS; intro wk hS) | (refine sl_val rfl (run_add rfl rfl rfl hz2) ?_) | (refine sl_val rfl (run_shr rfl rfl rfl (by decide) hz3) ?_) | (refine sl_val rfl (run_min rfl rfl rfl Hq.out) ?_) | (refine sl_val rfl (run_conv rfl rfl Try.underlying2 Try.underlying22 hz4) ?_) | (apply sl_val rfl; focus (intro w; go_simp; (try simp (disch := omega) only [IntWalk.i64_in, IntWalk.u64_in, IntWalk.u8_in, IntWalk.u32_in, IntWalk.i32_in]); first | exact rfl | rfl)) | (refine sl_step (fun K hK => .inl ⟨rfl, ?_⟩); unfold Oper.wp; go_simp; (first | with_reducible refine sl_call hS (XC5.out _) ?_); clear hS; intro wk hS; refine hK _ _ ?_; clear hK K) | (refine sl_skip rfl ?_)); go_simp)
   go_wp2_with (first | (refine ldV hS rfl _ rfl rfl ?_) | (refine stV hS rfl _ _ rfl rfl rfl ?_; clear hS; intro wk hS) | (refine sl_box hS rfl _ 40 (box_vec rfl rfl) ?_; clear hS; intro bk wk hS) | (refine sl_box hS rfl _ 40 (alloc_vec rfl) ?_; clear hS; intro bk wk hS) | (refine onlyN_end ?_) | (refine onlyN_now ?_))
   have X4 := X2.out
   exact ⟨⟨k + 1, by omega, by go_num, by rw [HM.out]; exact hS⟩, by simp [intOf]; omega⟩
  ·obtain rfl : k = 8 := by omega
   go_wp2_with (first | (refine ldV hS rfl _ rfl rfl ?_) | (refine stV hS rfl _ _ rfl rfl rfl ?_; clear hS; intro wk hS) | (refine sl_box hS rfl _ 40 (box_vec rfl rfl) ?_; clear hS; intro bk wk hS) | (refine sl_box hS rfl _ 40 (alloc_vec rfl) ?_; clear hS; intro bk wk hS) | (refine onlyN_end ?_) | (refine onlyN_now ?_))
   refine sl_ret hS Try.results52 (by rfl) (by repeat (first | exact Has.hd | apply Has.tl)) Try.underlying40 rfl (by exact infoV) (by rfl) ?_
   exact ⟨rfl, hS.gr⟩
def naK (v m n lo hi : Int) (a b : Nat → Int) : Nat → (Nat → Int)
 | 0 => fun _ => 0
 | k + 1 => setI (setI (naK v m n lo hi a b k) v k (IntKind.u64.wrap (holdI (sgnI a m k) lo hi))) v (n + k) (IntKind.u64.wrap (holdI (sgnI b m k) lo hi))
set_option maxHeartbeats 2000000 in
theorem narrow_8_true (a b : Nat → Int) (ha : Byt a) (hb : Byt b) (w : World) :
  Calls Try.prog 48 #[.int .i64 8, .bool true, .agg (bs a), .agg (bs b)] w fun e w' => e = .returned (.agg (bs (naK 8 16 8 (-128) 127 a b 8))) ∧ Gr w w' := by
 have HA := Lib.hid ha
 have HB := Lib.hid hb
 have CL : ∀ w, Calls Try.prog 37 #[.int .i64 16] w fun e w' => e = .returned (.int .i64 8) ∧ Gr w w' := fun w => calls_gr (lanes_any 16 w)
 clear ha hb
 have hS := St.start w
 have XCL := Lib.hid CL
 clear CL
 go_enter Try.func48, Try.ntmps48
 go_upto_region 0 with (fail)
 refine wp_region_lit ?_
 refine sl_box hS rfl _ 40 (box_vec rfl rfl) ?_
 clear hS
 intro p wk hS
 refine sl_box hS rfl _ 40 (box_vec rfl rfl) ?_
 clear hS
 intro q wk hS
 refine sl_box hS rfl _ 40 (alloc_vec rfl) ?_
 clear hS
 intro r wk hS
 go_upto_region 1 with (fail)
 refine sm_allA [] hS (by kernel_rfl) (by kernel_rfl) (fun β => ?_)
 repeat (refine sm_step (fun K hK => ?_); (first | (refine sm_load rfl rfl 40 _ rfl rfl (by repeat (first | exact Has.hd | apply Has.tl)) Try.underlying40 rfl (by exact infoV) ?_) | (refine sm_lay rfl rfl (by intro w; go_simp) ?_) | (refine sm_build rfl rfl 40 _ rfl (bs fun _ => 0) (by kernel_rfl) ?_) | (refine sm_val rfl rfl (run_shl rfl rfl rfl (by decide) (z := 256) (by decide)) ?_) | (refine sm_val rfl rfl (run_sub rfl rfl rfl (z := 255) (by decide)) ?_) | (apply sm_yes rfl rfl; focus (intro wx hx; go_simp; first | (apply sm_enter (by kernel_rfl); first | fail) | exact ⟨rfl, Gr.refl _⟩)) | (refine sm_no rfl rfl ?_)); go_simp; refine hK _ ?_; clear hK K)
 refine sm_nil ?_
 clear hS
 intro wk hS
 replace hS : St w [⟨r, bs (fun _ => 0), 40⟩, ⟨q, bs b, 40⟩, ⟨p, bs a, 40⟩] wk := hS
 go_upto_region 3 with (fail)
 refine sm_allA [] hS (by kernel_rfl) (by kernel_rfl) (fun β => ?_)
 repeat (refine sm_step (fun K hK => ?_); (first | (refine sm_load rfl rfl 40 _ rfl rfl (by repeat (first | exact Has.hd | apply Has.tl)) Try.underlying40 rfl (by exact infoV) ?_) | (refine sm_lay rfl rfl (by intro w; go_simp) ?_) | (refine sm_build rfl rfl 40 _ rfl (bs fun _ => 0) (by kernel_rfl) ?_) | (refine sm_val rfl rfl (run_sub rfl rfl rfl (z := 7) (by decide)) ?_) | (refine sm_val rfl rfl (run_shl rfl rfl rfl (by decide) (z := (-128)) (by decide)) ?_) | (refine sm_val rfl rfl (run_shl rfl rfl rfl (by decide) (z := 128) (by decide)) ?_) | (refine sm_val rfl rfl (run_sub rfl rfl rfl (z := 127) (by decide)) ?_) | (apply sm_yes rfl rfl; focus (intro wx hx; go_simp; first | (apply sm_enter (by kernel_rfl); first | fail) | exact ⟨rfl, Gr.refl _⟩)) | (refine sm_no rfl rfl ?_)); go_simp; refine hK _ ?_; clear hK K)
 refine sm_nil ?_
 clear hS
 intro wk hS
 replace hS : St w [⟨r, bs (fun _ => 0), 40⟩, ⟨q, bs b, 40⟩, ⟨p, bs a, 40⟩] wk := hS
 go_upto_region 4 with (fail)
 try refine wp_region_lit ?_
 iterate 1 ((first | (refine ldV hS rfl _ rfl rfl ?_) | (refine stV hS rfl _ _ rfl rfl rfl ?_; clear hS; intro wk hS) | ((with_reducible show wpList _ _ _ (⟨_, .alloc 40 , _, _, _, _⟩ :: _) _ _); refine sl_box hS rfl _ 40 (alloc_vec rfl) ?_; clear hS; intro t wk hS) | (refine sl_val rfl (run_mul rfl rfl rfl (z := 16) (by decide)) ?_) | (apply sl_val rfl; focus (intro w; go_simp; (try simp (disch := omega) only [IntWalk.i64_in, IntWalk.u64_in, IntWalk.u8_in, IntWalk.u32_in, IntWalk.i32_in]); first | exact rfl | rfl)) | (refine sl_step (fun K hK => .inl ⟨rfl, ?_⟩); unfold Oper.wp; go_simp; (first | with_reducible refine sl_call hS (XCL.out _) ?_); clear hS; intro wk hS; refine hK _ _ ?_; clear hK K) | (refine sl_skip rfl ?_)); go_simp)
 go_upto_region 5 with (fail)
 try refine wp_region_lit ?_
 iterate 4 ((first | (refine ldV hS rfl _ rfl rfl ?_) | (refine stV hS rfl _ _ rfl rfl rfl ?_; clear hS; intro wk hS) | ((with_reducible show wpList _ _ _ (⟨_, .alloc 40 , _, _, _, _⟩ :: _) _ _); refine sl_box hS rfl _ 40 (alloc_vec rfl) ?_; clear hS; intro t wk hS) | (refine sl_val rfl (run_mul rfl rfl rfl (z := 16) (by decide)) ?_) | (apply sl_val rfl; focus (intro w; go_simp; (try simp (disch := omega) only [IntWalk.i64_in, IntWalk.u64_in, IntWalk.u8_in, IntWalk.u32_in, IntWalk.i32_in]); first | exact rfl | rfl)) | (refine sl_step (fun K hK => .inl ⟨rfl, ?_⟩); unfold Oper.wp; go_simp; (first | with_reducible refine sl_call hS (XCL.out _) ?_); clear hS; intro wk hS; refine hK _ _ ?_; clear hK K) | (refine sl_skip rfl ?_)); go_simp)
 go_upto_region 6 with (fail)
 try refine wp_region_lit ?_
 iterate 2 ((first | (refine ldV hS rfl _ rfl rfl ?_) | (refine stV hS rfl _ _ rfl rfl rfl ?_; clear hS; intro wk hS) | ((with_reducible show wpList _ _ _ (⟨_, .alloc 40 , _, _, _, _⟩ :: _) _ _); refine sl_box hS rfl _ 40 (alloc_vec rfl) ?_; clear hS; intro t wk hS) | (refine sl_val rfl (run_mul rfl rfl rfl (z := 16) (by decide)) ?_) | (apply sl_val rfl; focus (intro w; go_simp; (try simp (disch := omega) only [IntWalk.i64_in, IntWalk.u64_in, IntWalk.u8_in, IntWalk.u32_in, IntWalk.i32_in]); first | exact rfl | rfl)) | (refine sl_step (fun K hK => .inl ⟨rfl, ?_⟩); unfold Oper.wp; go_simp; (first | with_reducible refine sl_call hS (XCL.out _) ?_); clear hS; intro wk hS; refine hK _ _ ?_; clear hK K) | (refine sl_skip rfl ?_)); go_simp)
 go_wp2_with fail
 go_loopw [29] (fun u wr => ∃ k : Nat, k ≤ 8 ∧ u = .int .i64 k ∧ St w [⟨t, bs (naK 8 16 8 (-128) 127 a b k), 40⟩, ⟨r, bs (fun _ => 0), 40⟩, ⟨q, bs b, 40⟩, ⟨p, bs a, 40⟩] wr) (fun u _ => 8 - (intOf u).toNat)
 case atStart => exact ⟨0, by omega, rfl, hS⟩
 case round =>
  obtain ⟨k, hk, rfl, hS⟩ := hrel
  by_cases hlt : k < 8
  ·have C1 := fun w => signed_any a HA.out 16 k w
   have C2 := fun w => signed_any b HB.out 16 k w
   have HM := Lib.hid (show (naK 8 16 8 (-128) 127 a b (k + 1)) = setI (setI (naK 8 16 8 (-128) 127 a b k) 8 k (IntKind.u64.wrap (holdI (sgnI a 16 k) (-128) 127))) 8 (8 + k) (IntKind.u64.wrap (holdI (sgnI b 16 k) (-128) 127)) from rfl)
   have C3 := fun w => calls_gr (hold_any (sgnI a 16 k) (-128) 127 (by decide) w)
   have C4 := fun w => calls_gr (hold_any (sgnI b 16 k) (-128) 127 (by decide) w)
   have C5 := fun w => set_any (naK 8 16 8 (-128) 127 a b k) 8 k (IntKind.u64.wrap (holdI (sgnI a 16 k) (-128) 127)) w
   have C6 := fun w => set_any (setI (naK 8 16 8 (-128) 127 a b k) 8 k (IntKind.u64.wrap (holdI (sgnI a 16 k) (-128) 127))) 8 (8 + k) (IntKind.u64.wrap (holdI (sgnI b 16 k) (-128) 127)) w
   have T1 : IntKind.i64.wrap ((k : Int) + 1) = (k : Int) + 1 := IntWalk.i64_in _ (by omega)
   have T2 : decide ((k : Int) < 8) = true := by simp; omega
   have X2 := Lib.hid hlt
   have T3 : IntKind.i64.wrap ((8 : Int) + (k : Int)) = (8 : Int) + (k : Int) := IntWalk.i64_in _ (by omega)
   generalize holdI (sgnI a 16 k) (-128) 127 = z1 at *
   generalize holdI (sgnI b 16 k) (-128) 127 = z2 at *
   generalize sgnI a 16 k = x at *
   generalize sgnI b 16 k = y at *
   obtain ⟨y1, hz1⟩ : ∃ z, IntKind.u64.wrap z1 = z := ⟨_, rfl⟩
   obtain ⟨y2, hz2⟩ : ∃ z, IntKind.u64.wrap z2 = z := ⟨_, rfl⟩
   rw [hz1] at C5 C6 HM
   rw [hz2] at C6 HM
   generalize hc0 : (naK 8 16 8 (-128) 127 a b k) = c0 at *
   generalize setI c0 8 k y1 = c1 at *
   clear hc0 hlt hk
   have XC1 := Lib.hid C1
   clear C1
   have XC2 := Lib.hid C2
   clear C2
   have XC3 := Lib.hid C3
   clear C3
   have XC4 := Lib.hid C4
   clear C4
   have XC5 := Lib.hid C5
   clear C5
   have XC6 := Lib.hid C6
   clear C6
   go_upto_region 8 with (fail)
   try refine wp_region_lit ?_
   iterate 2 ((first | (refine ldV hS rfl _ rfl rfl ?_) | (refine stV hS rfl _ _ rfl rfl rfl ?_; clear hS; intro wk hS) | (apply sl_val rfl; focus (intro w; go_simp; (try simp (disch := omega) only [IntWalk.i64_in, IntWalk.u64_in, IntWalk.u8_in, IntWalk.u32_in, IntWalk.i32_in]); first | exact rfl | rfl)) | (refine sl_skip rfl ?_)); go_simp)
   go_upto_region 9 with (fail)
   refine sm_tail 13 [] hS (by kernel_rfl) (by kernel_rfl) (fun β => ?_)
   simp only [List.take_succ_cons, List.take_zero, List.drop_succ_cons, List.drop_zero]
   iterate 13 (refine sm_step (fun K hK => ?_); (first | (refine sm_load rfl rfl 40 _ rfl rfl (by repeat (first | exact Has.hd | apply Has.tl)) Try.underlying40 rfl (by exact infoV) ?_) | (refine sm_lay rfl rfl (by intro w; go_simp) ?_) | (refine sm_build rfl rfl 40 _ rfl (bs fun _ => 0) (by kernel_rfl) ?_) | (refine sm_val rfl rfl (run_mul rfl rfl rfl (z := 16) (by decide)) ?_) | (refine sm_val rfl rfl (run_conv rfl rfl Try.underlying2 Try.underlying22 hz1) ?_) | (refine sm_val rfl rfl (run_conv rfl rfl Try.underlying2 Try.underlying22 hz2) ?_) | (refine sm_val rfl rfl (run_add rfl rfl rfl T3) ?_) | (apply sm_yes rfl rfl; focus (intro wx hx; go_simp; first | (apply sm_enter (by kernel_rfl); first | fail | with_reducible exact XC1.out wx | with_reducible exact XC2.out wx | with_reducible exact XC3.out wx | with_reducible exact XC4.out wx | with_reducible exact XC5.out wx | with_reducible exact XC6.out wx) | exact ⟨rfl, Gr.refl _⟩)) | (refine sm_no rfl rfl ?_)); go_simp; refine hK _ ?_; clear hK K)
   refine sm_nil ?_
   clear hS
   intro wk hS
   replace hS : St w [⟨t, bs c0, 40⟩, ⟨r, bs (fun _ => 0), 40⟩, ⟨q, bs b, 40⟩, ⟨p, bs a, 40⟩] wk := hS
   go_upto_region 10 with (first | (refine ldV hS rfl _ rfl rfl ?_) | (refine stV hS rfl _ _ rfl rfl rfl ?_; clear hS; intro wk hS) | (refine sl_box hS rfl _ 40 (box_vec rfl rfl) ?_; clear hS; intro bk wk hS) | (refine sl_box hS rfl _ 40 (alloc_vec rfl) ?_; clear hS; intro bk wk hS) | (refine onlyN_end ?_) | (refine onlyN_now ?_))
   refine sm_tail 15 [] hS (by kernel_rfl) (by kernel_rfl) (fun β => ?_)
   simp only [List.take_succ_cons, List.take_zero, List.drop_succ_cons, List.drop_zero]
   iterate 15 (refine sm_step (fun K hK => ?_); (first | (refine sm_load rfl rfl 40 _ rfl rfl (by repeat (first | exact Has.hd | apply Has.tl)) Try.underlying40 rfl (by exact infoV) ?_) | (refine sm_lay rfl rfl (by intro w; go_simp) ?_) | (refine sm_build rfl rfl 40 _ rfl (bs fun _ => 0) (by kernel_rfl) ?_) | (refine sm_val rfl rfl (run_mul rfl rfl rfl (z := 16) (by decide)) ?_) | (refine sm_val rfl rfl (run_conv rfl rfl Try.underlying2 Try.underlying22 hz1) ?_) | (refine sm_val rfl rfl (run_conv rfl rfl Try.underlying2 Try.underlying22 hz2) ?_) | (refine sm_val rfl rfl (run_add rfl rfl rfl T3) ?_) | (apply sm_yes rfl rfl; focus (intro wx hx; go_simp; first | (apply sm_enter (by kernel_rfl); first | fail | with_reducible exact XC1.out wx | with_reducible exact XC2.out wx | with_reducible exact XC3.out wx | with_reducible exact XC4.out wx | with_reducible exact XC5.out wx | with_reducible exact XC6.out wx) | exact ⟨rfl, Gr.refl _⟩)) | (refine sm_no rfl rfl ?_)); go_simp; refine hK _ ?_; clear hK K)
   refine sm_nil ?_
   clear hS
   intro wk hS
   replace hS : St w [⟨t, bs c1, 40⟩, ⟨r, bs (fun _ => 0), 40⟩, ⟨q, bs b, 40⟩, ⟨p, bs a, 40⟩] wk := hS
   go_wp2_with (first | (refine ldV hS rfl _ rfl rfl ?_) | (refine stV hS rfl _ _ rfl rfl rfl ?_; clear hS; intro wk hS) | (refine sl_box hS rfl _ 40 (box_vec rfl rfl) ?_; clear hS; intro bk wk hS) | (refine sl_box hS rfl _ 40 (alloc_vec rfl) ?_; clear hS; intro bk wk hS) | (refine onlyN_end ?_) | (refine onlyN_now ?_))
   have X4 := X2.out
   exact ⟨⟨k + 1, by omega, by go_num, by rw [HM.out]; exact hS⟩, by simp [intOf]; omega⟩
  ·obtain rfl : k = 8 := by omega
   go_wp2_with (first | (refine ldV hS rfl _ rfl rfl ?_) | (refine stV hS rfl _ _ rfl rfl rfl ?_; clear hS; intro wk hS) | (refine sl_box hS rfl _ 40 (box_vec rfl rfl) ?_; clear hS; intro bk wk hS) | (refine sl_box hS rfl _ 40 (alloc_vec rfl) ?_; clear hS; intro bk wk hS) | (refine onlyN_end ?_) | (refine onlyN_now ?_))
   refine sl_ret hS Try.results48 (by rfl) (by repeat (first | exact Has.hd | apply Has.tl)) Try.underlying40 rfl (by exact infoV) (by rfl) ?_
   exact ⟨rfl, hS.gr⟩
set_option maxHeartbeats 2000000 in
theorem narrow_8_false (a b : Nat → Int) (ha : Byt a) (hb : Byt b) (w : World) :
  Calls Try.prog 48 #[.int .i64 8, .bool false, .agg (bs a), .agg (bs b)] w fun e w' => e = .returned (.agg (bs (naK 8 16 8 (0) 255 a b 8))) ∧ Gr w w' := by
 have HA := Lib.hid ha
 have HB := Lib.hid hb
 have CL : ∀ w, Calls Try.prog 37 #[.int .i64 16] w fun e w' => e = .returned (.int .i64 8) ∧ Gr w w' := fun w => calls_gr (lanes_any 16 w)
 clear ha hb
 have hS := St.start w
 have XCL := Lib.hid CL
 clear CL
 go_enter Try.func48, Try.ntmps48
 go_upto_region 0 with (fail)
 refine wp_region_lit ?_
 refine sl_box hS rfl _ 40 (box_vec rfl rfl) ?_
 clear hS
 intro p wk hS
 refine sl_box hS rfl _ 40 (box_vec rfl rfl) ?_
 clear hS
 intro q wk hS
 refine sl_box hS rfl _ 40 (alloc_vec rfl) ?_
 clear hS
 intro r wk hS
 go_upto_region 1 with (fail)
 refine sm_allA [] hS (by kernel_rfl) (by kernel_rfl) (fun β => ?_)
 repeat (refine sm_step (fun K hK => ?_); (first | (refine sm_load rfl rfl 40 _ rfl rfl (by repeat (first | exact Has.hd | apply Has.tl)) Try.underlying40 rfl (by exact infoV) ?_) | (refine sm_lay rfl rfl (by intro w; go_simp) ?_) | (refine sm_build rfl rfl 40 _ rfl (bs fun _ => 0) (by kernel_rfl) ?_) | (refine sm_val rfl rfl (run_shl rfl rfl rfl (by decide) (z := 256) (by decide)) ?_) | (refine sm_val rfl rfl (run_sub rfl rfl rfl (z := 255) (by decide)) ?_) | (apply sm_yes rfl rfl; focus (intro wx hx; go_simp; first | (apply sm_enter (by kernel_rfl); first | fail) | exact ⟨rfl, Gr.refl _⟩)) | (refine sm_no rfl rfl ?_)); go_simp; refine hK _ ?_; clear hK K)
 refine sm_nil ?_
 clear hS
 intro wk hS
 replace hS : St w [⟨r, bs (fun _ => 0), 40⟩, ⟨q, bs b, 40⟩, ⟨p, bs a, 40⟩] wk := hS
 go_upto_region 4 with (fail)
 try refine wp_region_lit ?_
 iterate 1 ((first | (refine ldV hS rfl _ rfl rfl ?_) | (refine stV hS rfl _ _ rfl rfl rfl ?_; clear hS; intro wk hS) | ((with_reducible show wpList _ _ _ (⟨_, .alloc 40 , _, _, _, _⟩ :: _) _ _); refine sl_box hS rfl _ 40 (alloc_vec rfl) ?_; clear hS; intro t wk hS) | (refine sl_val rfl (run_mul rfl rfl rfl (z := 16) (by decide)) ?_) | (apply sl_val rfl; focus (intro w; go_simp; (try simp (disch := omega) only [IntWalk.i64_in, IntWalk.u64_in, IntWalk.u8_in, IntWalk.u32_in, IntWalk.i32_in]); first | exact rfl | rfl)) | (refine sl_step (fun K hK => .inl ⟨rfl, ?_⟩); unfold Oper.wp; go_simp; (first | with_reducible refine sl_call hS (XCL.out _) ?_); clear hS; intro wk hS; refine hK _ _ ?_; clear hK K) | (refine sl_skip rfl ?_)); go_simp)
 go_upto_region 5 with (fail)
 try refine wp_region_lit ?_
 iterate 4 ((first | (refine ldV hS rfl _ rfl rfl ?_) | (refine stV hS rfl _ _ rfl rfl rfl ?_; clear hS; intro wk hS) | ((with_reducible show wpList _ _ _ (⟨_, .alloc 40 , _, _, _, _⟩ :: _) _ _); refine sl_box hS rfl _ 40 (alloc_vec rfl) ?_; clear hS; intro t wk hS) | (refine sl_val rfl (run_mul rfl rfl rfl (z := 16) (by decide)) ?_) | (apply sl_val rfl; focus (intro w; go_simp; (try simp (disch := omega) only [IntWalk.i64_in, IntWalk.u64_in, IntWalk.u8_in, IntWalk.u32_in, IntWalk.i32_in]); first | exact rfl | rfl)) | (refine sl_step (fun K hK => .inl ⟨rfl, ?_⟩); unfold Oper.wp; go_simp; (first | with_reducible refine sl_call hS (XCL.out _) ?_); clear hS; intro wk hS; refine hK _ _ ?_; clear hK K) | (refine sl_skip rfl ?_)); go_simp)
 go_upto_region 6 with (fail)
 try refine wp_region_lit ?_
 iterate 2 ((first | (refine ldV hS rfl _ rfl rfl ?_) | (refine stV hS rfl _ _ rfl rfl rfl ?_; clear hS; intro wk hS) | ((with_reducible show wpList _ _ _ (⟨_, .alloc 40 , _, _, _, _⟩ :: _) _ _); refine sl_box hS rfl _ 40 (alloc_vec rfl) ?_; clear hS; intro t wk hS) | (refine sl_val rfl (run_mul rfl rfl rfl (z := 16) (by decide)) ?_) | (apply sl_val rfl; focus (intro w; go_simp; (try simp (disch := omega) only [IntWalk.i64_in, IntWalk.u64_in, IntWalk.u8_in, IntWalk.u32_in, IntWalk.i32_in]); first | exact rfl | rfl)) | (refine sl_step (fun K hK => .inl ⟨rfl, ?_⟩); unfold Oper.wp; go_simp; (first | with_reducible refine sl_call hS (XCL.out _) ?_); clear hS; intro wk hS; refine hK _ _ ?_; clear hK K) | (refine sl_skip rfl ?_)); go_simp)
 go_wp2_with fail
 go_loopw [29] (fun u wr => ∃ k : Nat, k ≤ 8 ∧ u = .int .i64 k ∧ St w [⟨t, bs (naK 8 16 8 (0) 255 a b k), 40⟩, ⟨r, bs (fun _ => 0), 40⟩, ⟨q, bs b, 40⟩, ⟨p, bs a, 40⟩] wr) (fun u _ => 8 - (intOf u).toNat)
 case atStart => exact ⟨0, by omega, rfl, hS⟩
 case round =>
  obtain ⟨k, hk, rfl, hS⟩ := hrel
  by_cases hlt : k < 8
  ·have C1 := fun w => signed_any a HA.out 16 k w
   have C2 := fun w => signed_any b HB.out 16 k w
   have HM := Lib.hid (show (naK 8 16 8 (0) 255 a b (k + 1)) = setI (setI (naK 8 16 8 (0) 255 a b k) 8 k (IntKind.u64.wrap (holdI (sgnI a 16 k) (0) 255))) 8 (8 + k) (IntKind.u64.wrap (holdI (sgnI b 16 k) (0) 255)) from rfl)
   have C3 := fun w => calls_gr (hold_any (sgnI a 16 k) (0) 255 (by decide) w)
   have C4 := fun w => calls_gr (hold_any (sgnI b 16 k) (0) 255 (by decide) w)
   have C5 := fun w => set_any (naK 8 16 8 (0) 255 a b k) 8 k (IntKind.u64.wrap (holdI (sgnI a 16 k) (0) 255)) w
   have C6 := fun w => set_any (setI (naK 8 16 8 (0) 255 a b k) 8 k (IntKind.u64.wrap (holdI (sgnI a 16 k) (0) 255))) 8 (8 + k) (IntKind.u64.wrap (holdI (sgnI b 16 k) (0) 255)) w
   have T1 : IntKind.i64.wrap ((k : Int) + 1) = (k : Int) + 1 := IntWalk.i64_in _ (by omega)
   have T2 : decide ((k : Int) < 8) = true := by simp; omega
   have X2 := Lib.hid hlt
   have T3 : IntKind.i64.wrap ((8 : Int) + (k : Int)) = (8 : Int) + (k : Int) := IntWalk.i64_in _ (by omega)
   generalize holdI (sgnI a 16 k) (0) 255 = z1 at *
   generalize holdI (sgnI b 16 k) (0) 255 = z2 at *
   generalize sgnI a 16 k = x at *
   generalize sgnI b 16 k = y at *
   obtain ⟨y1, hz1⟩ : ∃ z, IntKind.u64.wrap z1 = z := ⟨_, rfl⟩
   obtain ⟨y2, hz2⟩ : ∃ z, IntKind.u64.wrap z2 = z := ⟨_, rfl⟩
   rw [hz1] at C5 C6 HM
   rw [hz2] at C6 HM
   generalize hc0 : (naK 8 16 8 (0) 255 a b k) = c0 at *
   generalize setI c0 8 k y1 = c1 at *
   clear hc0 hlt hk
   have XC1 := Lib.hid C1
   clear C1
   have XC2 := Lib.hid C2
   clear C2
   have XC3 := Lib.hid C3
   clear C3
   have XC4 := Lib.hid C4
   clear C4
   have XC5 := Lib.hid C5
   clear C5
   have XC6 := Lib.hid C6
   clear C6
   go_upto_region 8 with (fail)
   try refine wp_region_lit ?_
   iterate 2 ((first | (refine ldV hS rfl _ rfl rfl ?_) | (refine stV hS rfl _ _ rfl rfl rfl ?_; clear hS; intro wk hS) | (apply sl_val rfl; focus (intro w; go_simp; (try simp (disch := omega) only [IntWalk.i64_in, IntWalk.u64_in, IntWalk.u8_in, IntWalk.u32_in, IntWalk.i32_in]); first | exact rfl | rfl)) | (refine sl_skip rfl ?_)); go_simp)
   go_upto_region 9 with (fail)
   refine sm_tail 13 [] hS (by kernel_rfl) (by kernel_rfl) (fun β => ?_)
   simp only [List.take_succ_cons, List.take_zero, List.drop_succ_cons, List.drop_zero]
   iterate 13 (refine sm_step (fun K hK => ?_); (first | (refine sm_load rfl rfl 40 _ rfl rfl (by repeat (first | exact Has.hd | apply Has.tl)) Try.underlying40 rfl (by exact infoV) ?_) | (refine sm_lay rfl rfl (by intro w; go_simp) ?_) | (refine sm_build rfl rfl 40 _ rfl (bs fun _ => 0) (by kernel_rfl) ?_) | (refine sm_val rfl rfl (run_mul rfl rfl rfl (z := 16) (by decide)) ?_) | (refine sm_val rfl rfl (run_conv rfl rfl Try.underlying2 Try.underlying22 hz1) ?_) | (refine sm_val rfl rfl (run_conv rfl rfl Try.underlying2 Try.underlying22 hz2) ?_) | (refine sm_val rfl rfl (run_add rfl rfl rfl T3) ?_) | (apply sm_yes rfl rfl; focus (intro wx hx; go_simp; first | (apply sm_enter (by kernel_rfl); first | fail | with_reducible exact XC1.out wx | with_reducible exact XC2.out wx | with_reducible exact XC3.out wx | with_reducible exact XC4.out wx | with_reducible exact XC5.out wx | with_reducible exact XC6.out wx) | exact ⟨rfl, Gr.refl _⟩)) | (refine sm_no rfl rfl ?_)); go_simp; refine hK _ ?_; clear hK K)
   refine sm_nil ?_
   clear hS
   intro wk hS
   replace hS : St w [⟨t, bs c0, 40⟩, ⟨r, bs (fun _ => 0), 40⟩, ⟨q, bs b, 40⟩, ⟨p, bs a, 40⟩] wk := hS
   go_upto_region 10 with (first | (refine ldV hS rfl _ rfl rfl ?_) | (refine stV hS rfl _ _ rfl rfl rfl ?_; clear hS; intro wk hS) | (refine sl_box hS rfl _ 40 (box_vec rfl rfl) ?_; clear hS; intro bk wk hS) | (refine sl_box hS rfl _ 40 (alloc_vec rfl) ?_; clear hS; intro bk wk hS) | (refine onlyN_end ?_) | (refine onlyN_now ?_))
   refine sm_tail 15 [] hS (by kernel_rfl) (by kernel_rfl) (fun β => ?_)
   simp only [List.take_succ_cons, List.take_zero, List.drop_succ_cons, List.drop_zero]
   iterate 15 (refine sm_step (fun K hK => ?_); (first | (refine sm_load rfl rfl 40 _ rfl rfl (by repeat (first | exact Has.hd | apply Has.tl)) Try.underlying40 rfl (by exact infoV) ?_) | (refine sm_lay rfl rfl (by intro w; go_simp) ?_) | (refine sm_build rfl rfl 40 _ rfl (bs fun _ => 0) (by kernel_rfl) ?_) | (refine sm_val rfl rfl (run_mul rfl rfl rfl (z := 16) (by decide)) ?_) | (refine sm_val rfl rfl (run_conv rfl rfl Try.underlying2 Try.underlying22 hz1) ?_) | (refine sm_val rfl rfl (run_conv rfl rfl Try.underlying2 Try.underlying22 hz2) ?_) | (refine sm_val rfl rfl (run_add rfl rfl rfl T3) ?_) | (apply sm_yes rfl rfl; focus (intro wx hx; go_simp; first | (apply sm_enter (by kernel_rfl); first | fail | with_reducible exact XC1.out wx | with_reducible exact XC2.out wx | with_reducible exact XC3.out wx | with_reducible exact XC4.out wx | with_reducible exact XC5.out wx | with_reducible exact XC6.out wx) | exact ⟨rfl, Gr.refl _⟩)) | (refine sm_no rfl rfl ?_)); go_simp; refine hK _ ?_; clear hK K)
   refine sm_nil ?_
   clear hS
   intro wk hS
   replace hS : St w [⟨t, bs c1, 40⟩, ⟨r, bs (fun _ => 0), 40⟩, ⟨q, bs b, 40⟩, ⟨p, bs a, 40⟩] wk := hS
   go_wp2_with (first | (refine ldV hS rfl _ rfl rfl ?_) | (refine stV hS rfl _ _ rfl rfl rfl ?_; clear hS; intro wk hS) | (refine sl_box hS rfl _ 40 (box_vec rfl rfl) ?_; clear hS; intro bk wk hS) | (refine sl_box hS rfl _ 40 (alloc_vec rfl) ?_; clear hS; intro bk wk hS) | (refine onlyN_end ?_) | (refine onlyN_now ?_))
   have X4 := X2.out
   exact ⟨⟨k + 1, by omega, by go_num, by rw [HM.out]; exact hS⟩, by simp [intOf]; omega⟩
  ·obtain rfl : k = 8 := by omega
   go_wp2_with (first | (refine ldV hS rfl _ rfl rfl ?_) | (refine stV hS rfl _ _ rfl rfl rfl ?_; clear hS; intro wk hS) | (refine sl_box hS rfl _ 40 (box_vec rfl rfl) ?_; clear hS; intro bk wk hS) | (refine sl_box hS rfl _ 40 (alloc_vec rfl) ?_; clear hS; intro bk wk hS) | (refine onlyN_end ?_) | (refine onlyN_now ?_))
   refine sl_ret hS Try.results48 (by rfl) (by repeat (first | exact Has.hd | apply Has.tl)) Try.underlying40 rfl (by exact infoV) (by rfl) ?_
   exact ⟨rfl, hS.gr⟩
set_option maxHeartbeats 2000000 in
theorem narrow_16_true (a b : Nat → Int) (ha : Byt a) (hb : Byt b) (w : World) :
  Calls Try.prog 48 #[.int .i64 16, .bool true, .agg (bs a), .agg (bs b)] w fun e w' => e = .returned (.agg (bs (naK 16 32 4 (-32768) 32767 a b 4))) ∧ Gr w w' := by
 have HA := Lib.hid ha
 have HB := Lib.hid hb
 have CL : ∀ w, Calls Try.prog 37 #[.int .i64 32] w fun e w' => e = .returned (.int .i64 4) ∧ Gr w w' := fun w => calls_gr (lanes_any 32 w)
 clear ha hb
 have hS := St.start w
 have XCL := Lib.hid CL
 clear CL
 go_enter Try.func48, Try.ntmps48
 go_upto_region 0 with (fail)
 refine wp_region_lit ?_
 refine sl_box hS rfl _ 40 (box_vec rfl rfl) ?_
 clear hS
 intro p wk hS
 refine sl_box hS rfl _ 40 (box_vec rfl rfl) ?_
 clear hS
 intro q wk hS
 refine sl_box hS rfl _ 40 (alloc_vec rfl) ?_
 clear hS
 intro r wk hS
 go_upto_region 1 with (fail)
 refine sm_allA [] hS (by kernel_rfl) (by kernel_rfl) (fun β => ?_)
 repeat (refine sm_step (fun K hK => ?_); (first | (refine sm_load rfl rfl 40 _ rfl rfl (by repeat (first | exact Has.hd | apply Has.tl)) Try.underlying40 rfl (by exact infoV) ?_) | (refine sm_lay rfl rfl (by intro w; go_simp) ?_) | (refine sm_build rfl rfl 40 _ rfl (bs fun _ => 0) (by kernel_rfl) ?_) | (refine sm_val rfl rfl (run_shl rfl rfl rfl (by decide) (z := 65536) (by decide)) ?_) | (refine sm_val rfl rfl (run_sub rfl rfl rfl (z := 65535) (by decide)) ?_) | (apply sm_yes rfl rfl; focus (intro wx hx; go_simp; first | (apply sm_enter (by kernel_rfl); first | fail) | exact ⟨rfl, Gr.refl _⟩)) | (refine sm_no rfl rfl ?_)); go_simp; refine hK _ ?_; clear hK K)
 refine sm_nil ?_
 clear hS
 intro wk hS
 replace hS : St w [⟨r, bs (fun _ => 0), 40⟩, ⟨q, bs b, 40⟩, ⟨p, bs a, 40⟩] wk := hS
 go_upto_region 3 with (fail)
 refine sm_allA [] hS (by kernel_rfl) (by kernel_rfl) (fun β => ?_)
 repeat (refine sm_step (fun K hK => ?_); (first | (refine sm_load rfl rfl 40 _ rfl rfl (by repeat (first | exact Has.hd | apply Has.tl)) Try.underlying40 rfl (by exact infoV) ?_) | (refine sm_lay rfl rfl (by intro w; go_simp) ?_) | (refine sm_build rfl rfl 40 _ rfl (bs fun _ => 0) (by kernel_rfl) ?_) | (refine sm_val rfl rfl (run_sub rfl rfl rfl (z := 15) (by decide)) ?_) | (refine sm_val rfl rfl (run_shl rfl rfl rfl (by decide) (z := (-32768)) (by decide)) ?_) | (refine sm_val rfl rfl (run_shl rfl rfl rfl (by decide) (z := 32768) (by decide)) ?_) | (refine sm_val rfl rfl (run_sub rfl rfl rfl (z := 32767) (by decide)) ?_) | (apply sm_yes rfl rfl; focus (intro wx hx; go_simp; first | (apply sm_enter (by kernel_rfl); first | fail) | exact ⟨rfl, Gr.refl _⟩)) | (refine sm_no rfl rfl ?_)); go_simp; refine hK _ ?_; clear hK K)
 refine sm_nil ?_
 clear hS
 intro wk hS
 replace hS : St w [⟨r, bs (fun _ => 0), 40⟩, ⟨q, bs b, 40⟩, ⟨p, bs a, 40⟩] wk := hS
 go_upto_region 4 with (fail)
 try refine wp_region_lit ?_
 iterate 1 ((first | (refine ldV hS rfl _ rfl rfl ?_) | (refine stV hS rfl _ _ rfl rfl rfl ?_; clear hS; intro wk hS) | ((with_reducible show wpList _ _ _ (⟨_, .alloc 40 , _, _, _, _⟩ :: _) _ _); refine sl_box hS rfl _ 40 (alloc_vec rfl) ?_; clear hS; intro t wk hS) | (refine sl_val rfl (run_mul rfl rfl rfl (z := 32) (by decide)) ?_) | (apply sl_val rfl; focus (intro w; go_simp; (try simp (disch := omega) only [IntWalk.i64_in, IntWalk.u64_in, IntWalk.u8_in, IntWalk.u32_in, IntWalk.i32_in]); first | exact rfl | rfl)) | (refine sl_step (fun K hK => .inl ⟨rfl, ?_⟩); unfold Oper.wp; go_simp; (first | with_reducible refine sl_call hS (XCL.out _) ?_); clear hS; intro wk hS; refine hK _ _ ?_; clear hK K) | (refine sl_skip rfl ?_)); go_simp)
 go_upto_region 5 with (fail)
 try refine wp_region_lit ?_
 iterate 4 ((first | (refine ldV hS rfl _ rfl rfl ?_) | (refine stV hS rfl _ _ rfl rfl rfl ?_; clear hS; intro wk hS) | ((with_reducible show wpList _ _ _ (⟨_, .alloc 40 , _, _, _, _⟩ :: _) _ _); refine sl_box hS rfl _ 40 (alloc_vec rfl) ?_; clear hS; intro t wk hS) | (refine sl_val rfl (run_mul rfl rfl rfl (z := 32) (by decide)) ?_) | (apply sl_val rfl; focus (intro w; go_simp; (try simp (disch := omega) only [IntWalk.i64_in, IntWalk.u64_in, IntWalk.u8_in, IntWalk.u32_in, IntWalk.i32_in]); first | exact rfl | rfl)) | (refine sl_step (fun K hK => .inl ⟨rfl, ?_⟩); unfold Oper.wp; go_simp; (first | with_reducible refine sl_call hS (XCL.out _) ?_); clear hS; intro wk hS; refine hK _ _ ?_; clear hK K) | (refine sl_skip rfl ?_)); go_simp)
 go_upto_region 6 with (fail)
 try refine wp_region_lit ?_
 iterate 2 ((first | (refine ldV hS rfl _ rfl rfl ?_) | (refine stV hS rfl _ _ rfl rfl rfl ?_; clear hS; intro wk hS) | ((with_reducible show wpList _ _ _ (⟨_, .alloc 40 , _, _, _, _⟩ :: _) _ _); refine sl_box hS rfl _ 40 (alloc_vec rfl) ?_; clear hS; intro t wk hS) | (refine sl_val rfl (run_mul rfl rfl rfl (z := 32) (by decide)) ?_) | (apply sl_val rfl; focus (intro w; go_simp; (try simp (disch := omega) only [IntWalk.i64_in, IntWalk.u64_in, IntWalk.u8_in, IntWalk.u32_in, IntWalk.i32_in]); first | exact rfl | rfl)) | (refine sl_step (fun K hK => .inl ⟨rfl, ?_⟩); unfold Oper.wp; go_simp; (first | with_reducible refine sl_call hS (XCL.out _) ?_); clear hS; intro wk hS; refine hK _ _ ?_; clear hK K) | (refine sl_skip rfl ?_)); go_simp)
 go_wp2_with fail
 go_loopw [29] (fun u wr => ∃ k : Nat, k ≤ 4 ∧ u = .int .i64 k ∧ St w [⟨t, bs (naK 16 32 4 (-32768) 32767 a b k), 40⟩, ⟨r, bs (fun _ => 0), 40⟩, ⟨q, bs b, 40⟩, ⟨p, bs a, 40⟩] wr) (fun u _ => 4 - (intOf u).toNat)
 case atStart => exact ⟨0, by omega, rfl, hS⟩
 case round =>
  obtain ⟨k, hk, rfl, hS⟩ := hrel
  by_cases hlt : k < 4
  ·have C1 := fun w => signed_any a HA.out 32 k w
   have C2 := fun w => signed_any b HB.out 32 k w
   have HM := Lib.hid (show (naK 16 32 4 (-32768) 32767 a b (k + 1)) = setI (setI (naK 16 32 4 (-32768) 32767 a b k) 16 k (IntKind.u64.wrap (holdI (sgnI a 32 k) (-32768) 32767))) 16 (4 + k) (IntKind.u64.wrap (holdI (sgnI b 32 k) (-32768) 32767)) from rfl)
   have C3 := fun w => calls_gr (hold_any (sgnI a 32 k) (-32768) 32767 (by decide) w)
   have C4 := fun w => calls_gr (hold_any (sgnI b 32 k) (-32768) 32767 (by decide) w)
   have C5 := fun w => set_any (naK 16 32 4 (-32768) 32767 a b k) 16 k (IntKind.u64.wrap (holdI (sgnI a 32 k) (-32768) 32767)) w
   have C6 := fun w => set_any (setI (naK 16 32 4 (-32768) 32767 a b k) 16 k (IntKind.u64.wrap (holdI (sgnI a 32 k) (-32768) 32767))) 16 (4 + k) (IntKind.u64.wrap (holdI (sgnI b 32 k) (-32768) 32767)) w
   have T1 : IntKind.i64.wrap ((k : Int) + 1) = (k : Int) + 1 := IntWalk.i64_in _ (by omega)
   have T2 : decide ((k : Int) < 4) = true := by simp; omega
   have X2 := Lib.hid hlt
   have T3 : IntKind.i64.wrap ((4 : Int) + (k : Int)) = (4 : Int) + (k : Int) := IntWalk.i64_in _ (by omega)
   generalize holdI (sgnI a 32 k) (-32768) 32767 = z1 at *
   generalize holdI (sgnI b 32 k) (-32768) 32767 = z2 at *
   generalize sgnI a 32 k = x at *
   generalize sgnI b 32 k = y at *
   obtain ⟨y1, hz1⟩ : ∃ z, IntKind.u64.wrap z1 = z := ⟨_, rfl⟩
   obtain ⟨y2, hz2⟩ : ∃ z, IntKind.u64.wrap z2 = z := ⟨_, rfl⟩
   rw [hz1] at C5 C6 HM
   rw [hz2] at C6 HM
   generalize hc0 : (naK 16 32 4 (-32768) 32767 a b k) = c0 at *
   generalize setI c0 16 k y1 = c1 at *
   clear hc0 hlt hk
   have XC1 := Lib.hid C1
   clear C1
   have XC2 := Lib.hid C2
   clear C2
   have XC3 := Lib.hid C3
   clear C3
   have XC4 := Lib.hid C4
   clear C4
   have XC5 := Lib.hid C5
   clear C5
   have XC6 := Lib.hid C6
   clear C6
   go_upto_region 8 with (fail)
   try refine wp_region_lit ?_
   iterate 2 ((first | (refine ldV hS rfl _ rfl rfl ?_) | (refine stV hS rfl _ _ rfl rfl rfl ?_; clear hS; intro wk hS) | (apply sl_val rfl; focus (intro w; go_simp; (try simp (disch := omega) only [IntWalk.i64_in, IntWalk.u64_in, IntWalk.u8_in, IntWalk.u32_in, IntWalk.i32_in]); first | exact rfl | rfl)) | (refine sl_skip rfl ?_)); go_simp)
   go_upto_region 9 with (fail)
   refine sm_tail 13 [] hS (by kernel_rfl) (by kernel_rfl) (fun β => ?_)
   simp only [List.take_succ_cons, List.take_zero, List.drop_succ_cons, List.drop_zero]
   iterate 13 (refine sm_step (fun K hK => ?_); (first | (refine sm_load rfl rfl 40 _ rfl rfl (by repeat (first | exact Has.hd | apply Has.tl)) Try.underlying40 rfl (by exact infoV) ?_) | (refine sm_lay rfl rfl (by intro w; go_simp) ?_) | (refine sm_build rfl rfl 40 _ rfl (bs fun _ => 0) (by kernel_rfl) ?_) | (refine sm_val rfl rfl (run_mul rfl rfl rfl (z := 32) (by decide)) ?_) | (refine sm_val rfl rfl (run_conv rfl rfl Try.underlying2 Try.underlying22 hz1) ?_) | (refine sm_val rfl rfl (run_conv rfl rfl Try.underlying2 Try.underlying22 hz2) ?_) | (refine sm_val rfl rfl (run_add rfl rfl rfl T3) ?_) | (apply sm_yes rfl rfl; focus (intro wx hx; go_simp; first | (apply sm_enter (by kernel_rfl); first | fail | with_reducible exact XC1.out wx | with_reducible exact XC2.out wx | with_reducible exact XC3.out wx | with_reducible exact XC4.out wx | with_reducible exact XC5.out wx | with_reducible exact XC6.out wx) | exact ⟨rfl, Gr.refl _⟩)) | (refine sm_no rfl rfl ?_)); go_simp; refine hK _ ?_; clear hK K)
   refine sm_nil ?_
   clear hS
   intro wk hS
   replace hS : St w [⟨t, bs c0, 40⟩, ⟨r, bs (fun _ => 0), 40⟩, ⟨q, bs b, 40⟩, ⟨p, bs a, 40⟩] wk := hS
   go_upto_region 10 with (first | (refine ldV hS rfl _ rfl rfl ?_) | (refine stV hS rfl _ _ rfl rfl rfl ?_; clear hS; intro wk hS) | (refine sl_box hS rfl _ 40 (box_vec rfl rfl) ?_; clear hS; intro bk wk hS) | (refine sl_box hS rfl _ 40 (alloc_vec rfl) ?_; clear hS; intro bk wk hS) | (refine onlyN_end ?_) | (refine onlyN_now ?_))
   refine sm_tail 15 [] hS (by kernel_rfl) (by kernel_rfl) (fun β => ?_)
   simp only [List.take_succ_cons, List.take_zero, List.drop_succ_cons, List.drop_zero]
   iterate 15 (refine sm_step (fun K hK => ?_); (first | (refine sm_load rfl rfl 40 _ rfl rfl (by repeat (first | exact Has.hd | apply Has.tl)) Try.underlying40 rfl (by exact infoV) ?_) | (refine sm_lay rfl rfl (by intro w; go_simp) ?_) | (refine sm_build rfl rfl 40 _ rfl (bs fun _ => 0) (by kernel_rfl) ?_) | (refine sm_val rfl rfl (run_mul rfl rfl rfl (z := 32) (by decide)) ?_) | (refine sm_val rfl rfl (run_conv rfl rfl Try.underlying2 Try.underlying22 hz1) ?_) | (refine sm_val rfl rfl (run_conv rfl rfl Try.underlying2 Try.underlying22 hz2) ?_) | (refine sm_val rfl rfl (run_add rfl rfl rfl T3) ?_) | (apply sm_yes rfl rfl; focus (intro wx hx; go_simp; first | (apply sm_enter (by kernel_rfl); first | fail | with_reducible exact XC1.out wx | with_reducible exact XC2.out wx | with_reducible exact XC3.out wx | with_reducible exact XC4.out wx | with_reducible exact XC5.out wx | with_reducible exact XC6.out wx) | exact ⟨rfl, Gr.refl _⟩)) | (refine sm_no rfl rfl ?_)); go_simp; refine hK _ ?_; clear hK K)
   refine sm_nil ?_
   clear hS
   intro wk hS
   replace hS : St w [⟨t, bs c1, 40⟩, ⟨r, bs (fun _ => 0), 40⟩, ⟨q, bs b, 40⟩, ⟨p, bs a, 40⟩] wk := hS
   go_wp2_with (first | (refine ldV hS rfl _ rfl rfl ?_) | (refine stV hS rfl _ _ rfl rfl rfl ?_; clear hS; intro wk hS) | (refine sl_box hS rfl _ 40 (box_vec rfl rfl) ?_; clear hS; intro bk wk hS) | (refine sl_box hS rfl _ 40 (alloc_vec rfl) ?_; clear hS; intro bk wk hS) | (refine onlyN_end ?_) | (refine onlyN_now ?_))
   have X4 := X2.out
   exact ⟨⟨k + 1, by omega, by go_num, by rw [HM.out]; exact hS⟩, by simp [intOf]; omega⟩
  ·obtain rfl : k = 4 := by omega
   go_wp2_with (first | (refine ldV hS rfl _ rfl rfl ?_) | (refine stV hS rfl _ _ rfl rfl rfl ?_; clear hS; intro wk hS) | (refine sl_box hS rfl _ 40 (box_vec rfl rfl) ?_; clear hS; intro bk wk hS) | (refine sl_box hS rfl _ 40 (alloc_vec rfl) ?_; clear hS; intro bk wk hS) | (refine onlyN_end ?_) | (refine onlyN_now ?_))
   refine sl_ret hS Try.results48 (by rfl) (by repeat (first | exact Has.hd | apply Has.tl)) Try.underlying40 rfl (by exact infoV) (by rfl) ?_
   exact ⟨rfl, hS.gr⟩
set_option maxHeartbeats 2000000 in
theorem narrow_16_false (a b : Nat → Int) (ha : Byt a) (hb : Byt b) (w : World) :
  Calls Try.prog 48 #[.int .i64 16, .bool false, .agg (bs a), .agg (bs b)] w fun e w' => e = .returned (.agg (bs (naK 16 32 4 (0) 65535 a b 4))) ∧ Gr w w' := by
 have HA := Lib.hid ha
 have HB := Lib.hid hb
 have CL : ∀ w, Calls Try.prog 37 #[.int .i64 32] w fun e w' => e = .returned (.int .i64 4) ∧ Gr w w' := fun w => calls_gr (lanes_any 32 w)
 clear ha hb
 have hS := St.start w
 have XCL := Lib.hid CL
 clear CL
 go_enter Try.func48, Try.ntmps48
 go_upto_region 0 with (fail)
 refine wp_region_lit ?_
 refine sl_box hS rfl _ 40 (box_vec rfl rfl) ?_
 clear hS
 intro p wk hS
 refine sl_box hS rfl _ 40 (box_vec rfl rfl) ?_
 clear hS
 intro q wk hS
 refine sl_box hS rfl _ 40 (alloc_vec rfl) ?_
 clear hS
 intro r wk hS
 go_upto_region 1 with (fail)
 refine sm_allA [] hS (by kernel_rfl) (by kernel_rfl) (fun β => ?_)
 repeat (refine sm_step (fun K hK => ?_); (first | (refine sm_load rfl rfl 40 _ rfl rfl (by repeat (first | exact Has.hd | apply Has.tl)) Try.underlying40 rfl (by exact infoV) ?_) | (refine sm_lay rfl rfl (by intro w; go_simp) ?_) | (refine sm_build rfl rfl 40 _ rfl (bs fun _ => 0) (by kernel_rfl) ?_) | (refine sm_val rfl rfl (run_shl rfl rfl rfl (by decide) (z := 65536) (by decide)) ?_) | (refine sm_val rfl rfl (run_sub rfl rfl rfl (z := 65535) (by decide)) ?_) | (apply sm_yes rfl rfl; focus (intro wx hx; go_simp; first | (apply sm_enter (by kernel_rfl); first | fail) | exact ⟨rfl, Gr.refl _⟩)) | (refine sm_no rfl rfl ?_)); go_simp; refine hK _ ?_; clear hK K)
 refine sm_nil ?_
 clear hS
 intro wk hS
 replace hS : St w [⟨r, bs (fun _ => 0), 40⟩, ⟨q, bs b, 40⟩, ⟨p, bs a, 40⟩] wk := hS
 go_upto_region 4 with (fail)
 try refine wp_region_lit ?_
 iterate 1 ((first | (refine ldV hS rfl _ rfl rfl ?_) | (refine stV hS rfl _ _ rfl rfl rfl ?_; clear hS; intro wk hS) | ((with_reducible show wpList _ _ _ (⟨_, .alloc 40 , _, _, _, _⟩ :: _) _ _); refine sl_box hS rfl _ 40 (alloc_vec rfl) ?_; clear hS; intro t wk hS) | (refine sl_val rfl (run_mul rfl rfl rfl (z := 32) (by decide)) ?_) | (apply sl_val rfl; focus (intro w; go_simp; (try simp (disch := omega) only [IntWalk.i64_in, IntWalk.u64_in, IntWalk.u8_in, IntWalk.u32_in, IntWalk.i32_in]); first | exact rfl | rfl)) | (refine sl_step (fun K hK => .inl ⟨rfl, ?_⟩); unfold Oper.wp; go_simp; (first | with_reducible refine sl_call hS (XCL.out _) ?_); clear hS; intro wk hS; refine hK _ _ ?_; clear hK K) | (refine sl_skip rfl ?_)); go_simp)
 go_upto_region 5 with (fail)
 try refine wp_region_lit ?_
 iterate 4 ((first | (refine ldV hS rfl _ rfl rfl ?_) | (refine stV hS rfl _ _ rfl rfl rfl ?_; clear hS; intro wk hS) | ((with_reducible show wpList _ _ _ (⟨_, .alloc 40 , _, _, _, _⟩ :: _) _ _); refine sl_box hS rfl _ 40 (alloc_vec rfl) ?_; clear hS; intro t wk hS) | (refine sl_val rfl (run_mul rfl rfl rfl (z := 32) (by decide)) ?_) | (apply sl_val rfl; focus (intro w; go_simp; (try simp (disch := omega) only [IntWalk.i64_in, IntWalk.u64_in, IntWalk.u8_in, IntWalk.u32_in, IntWalk.i32_in]); first | exact rfl | rfl)) | (refine sl_step (fun K hK => .inl ⟨rfl, ?_⟩); unfold Oper.wp; go_simp; (first | with_reducible refine sl_call hS (XCL.out _) ?_); clear hS; intro wk hS; refine hK _ _ ?_; clear hK K) | (refine sl_skip rfl ?_)); go_simp)
 go_upto_region 6 with (fail)
 try refine wp_region_lit ?_
 iterate 2 ((first | (refine ldV hS rfl _ rfl rfl ?_) | (refine stV hS rfl _ _ rfl rfl rfl ?_; clear hS; intro wk hS) | ((with_reducible show wpList _ _ _ (⟨_, .alloc 40 , _, _, _, _⟩ :: _) _ _); refine sl_box hS rfl _ 40 (alloc_vec rfl) ?_; clear hS; intro t wk hS) | (refine sl_val rfl (run_mul rfl rfl rfl (z := 32) (by decide)) ?_) | (apply sl_val rfl; focus (intro w; go_simp; (try simp (disch := omega) only [IntWalk.i64_in, IntWalk.u64_in, IntWalk.u8_in, IntWalk.u32_in, IntWalk.i32_in]); first | exact rfl | rfl)) | (refine sl_step (fun K hK => .inl ⟨rfl, ?_⟩); unfold Oper.wp; go_simp; (first | with_reducible refine sl_call hS (XCL.out _) ?_); clear hS; intro wk hS; refine hK _ _ ?_; clear hK K) | (refine sl_skip rfl ?_)); go_simp)
 go_wp2_with fail
 go_loopw [29] (fun u wr => ∃ k : Nat, k ≤ 4 ∧ u = .int .i64 k ∧ St w [⟨t, bs (naK 16 32 4 (0) 65535 a b k), 40⟩, ⟨r, bs (fun _ => 0), 40⟩, ⟨q, bs b, 40⟩, ⟨p, bs a, 40⟩] wr) (fun u _ => 4 - (intOf u).toNat)
 case atStart => exact ⟨0, by omega, rfl, hS⟩
 case round =>
  obtain ⟨k, hk, rfl, hS⟩ := hrel
  by_cases hlt : k < 4
  ·have C1 := fun w => signed_any a HA.out 32 k w
   have C2 := fun w => signed_any b HB.out 32 k w
   have HM := Lib.hid (show (naK 16 32 4 (0) 65535 a b (k + 1)) = setI (setI (naK 16 32 4 (0) 65535 a b k) 16 k (IntKind.u64.wrap (holdI (sgnI a 32 k) (0) 65535))) 16 (4 + k) (IntKind.u64.wrap (holdI (sgnI b 32 k) (0) 65535)) from rfl)
   have C3 := fun w => calls_gr (hold_any (sgnI a 32 k) (0) 65535 (by decide) w)
   have C4 := fun w => calls_gr (hold_any (sgnI b 32 k) (0) 65535 (by decide) w)
   have C5 := fun w => set_any (naK 16 32 4 (0) 65535 a b k) 16 k (IntKind.u64.wrap (holdI (sgnI a 32 k) (0) 65535)) w
   have C6 := fun w => set_any (setI (naK 16 32 4 (0) 65535 a b k) 16 k (IntKind.u64.wrap (holdI (sgnI a 32 k) (0) 65535))) 16 (4 + k) (IntKind.u64.wrap (holdI (sgnI b 32 k) (0) 65535)) w
   have T1 : IntKind.i64.wrap ((k : Int) + 1) = (k : Int) + 1 := IntWalk.i64_in _ (by omega)
   have T2 : decide ((k : Int) < 4) = true := by simp; omega
   have X2 := Lib.hid hlt
   have T3 : IntKind.i64.wrap ((4 : Int) + (k : Int)) = (4 : Int) + (k : Int) := IntWalk.i64_in _ (by omega)
   generalize holdI (sgnI a 32 k) (0) 65535 = z1 at *
   generalize holdI (sgnI b 32 k) (0) 65535 = z2 at *
   generalize sgnI a 32 k = x at *
   generalize sgnI b 32 k = y at *
   obtain ⟨y1, hz1⟩ : ∃ z, IntKind.u64.wrap z1 = z := ⟨_, rfl⟩
   obtain ⟨y2, hz2⟩ : ∃ z, IntKind.u64.wrap z2 = z := ⟨_, rfl⟩
   rw [hz1] at C5 C6 HM
   rw [hz2] at C6 HM
   generalize hc0 : (naK 16 32 4 (0) 65535 a b k) = c0 at *
   generalize setI c0 16 k y1 = c1 at *
   clear hc0 hlt hk
   have XC1 := Lib.hid C1
   clear C1
   have XC2 := Lib.hid C2
   clear C2
   have XC3 := Lib.hid C3
   clear C3
   have XC4 := Lib.hid C4
   clear C4
   have XC5 := Lib.hid C5
   clear C5
   have XC6 := Lib.hid C6
   clear C6
   go_upto_region 8 with (fail)
   try refine wp_region_lit ?_
   iterate 2 ((first | (refine ldV hS rfl _ rfl rfl ?_) | (refine stV hS rfl _ _ rfl rfl rfl ?_; clear hS; intro wk hS) | (apply sl_val rfl; focus (intro w; go_simp; (try simp (disch := omega) only [IntWalk.i64_in, IntWalk.u64_in, IntWalk.u8_in, IntWalk.u32_in, IntWalk.i32_in]); first | exact rfl | rfl)) | (refine sl_skip rfl ?_)); go_simp)
   go_upto_region 9 with (fail)
   refine sm_tail 13 [] hS (by kernel_rfl) (by kernel_rfl) (fun β => ?_)
   simp only [List.take_succ_cons, List.take_zero, List.drop_succ_cons, List.drop_zero]
   iterate 13 (refine sm_step (fun K hK => ?_); (first | (refine sm_load rfl rfl 40 _ rfl rfl (by repeat (first | exact Has.hd | apply Has.tl)) Try.underlying40 rfl (by exact infoV) ?_) | (refine sm_lay rfl rfl (by intro w; go_simp) ?_) | (refine sm_build rfl rfl 40 _ rfl (bs fun _ => 0) (by kernel_rfl) ?_) | (refine sm_val rfl rfl (run_mul rfl rfl rfl (z := 32) (by decide)) ?_) | (refine sm_val rfl rfl (run_conv rfl rfl Try.underlying2 Try.underlying22 hz1) ?_) | (refine sm_val rfl rfl (run_conv rfl rfl Try.underlying2 Try.underlying22 hz2) ?_) | (refine sm_val rfl rfl (run_add rfl rfl rfl T3) ?_) | (apply sm_yes rfl rfl; focus (intro wx hx; go_simp; first | (apply sm_enter (by kernel_rfl); first | fail | with_reducible exact XC1.out wx | with_reducible exact XC2.out wx | with_reducible exact XC3.out wx | with_reducible exact XC4.out wx | with_reducible exact XC5.out wx | with_reducible exact XC6.out wx) | exact ⟨rfl, Gr.refl _⟩)) | (refine sm_no rfl rfl ?_)); go_simp; refine hK _ ?_; clear hK K)
   refine sm_nil ?_
   clear hS
   intro wk hS
   replace hS : St w [⟨t, bs c0, 40⟩, ⟨r, bs (fun _ => 0), 40⟩, ⟨q, bs b, 40⟩, ⟨p, bs a, 40⟩] wk := hS
   go_upto_region 10 with (first | (refine ldV hS rfl _ rfl rfl ?_) | (refine stV hS rfl _ _ rfl rfl rfl ?_; clear hS; intro wk hS) | (refine sl_box hS rfl _ 40 (box_vec rfl rfl) ?_; clear hS; intro bk wk hS) | (refine sl_box hS rfl _ 40 (alloc_vec rfl) ?_; clear hS; intro bk wk hS) | (refine onlyN_end ?_) | (refine onlyN_now ?_))
   refine sm_tail 15 [] hS (by kernel_rfl) (by kernel_rfl) (fun β => ?_)
   simp only [List.take_succ_cons, List.take_zero, List.drop_succ_cons, List.drop_zero]
   iterate 15 (refine sm_step (fun K hK => ?_); (first | (refine sm_load rfl rfl 40 _ rfl rfl (by repeat (first | exact Has.hd | apply Has.tl)) Try.underlying40 rfl (by exact infoV) ?_) | (refine sm_lay rfl rfl (by intro w; go_simp) ?_) | (refine sm_build rfl rfl 40 _ rfl (bs fun _ => 0) (by kernel_rfl) ?_) | (refine sm_val rfl rfl (run_mul rfl rfl rfl (z := 32) (by decide)) ?_) | (refine sm_val rfl rfl (run_conv rfl rfl Try.underlying2 Try.underlying22 hz1) ?_) | (refine sm_val rfl rfl (run_conv rfl rfl Try.underlying2 Try.underlying22 hz2) ?_) | (refine sm_val rfl rfl (run_add rfl rfl rfl T3) ?_) | (apply sm_yes rfl rfl; focus (intro wx hx; go_simp; first | (apply sm_enter (by kernel_rfl); first | fail | with_reducible exact XC1.out wx | with_reducible exact XC2.out wx | with_reducible exact XC3.out wx | with_reducible exact XC4.out wx | with_reducible exact XC5.out wx | with_reducible exact XC6.out wx) | exact ⟨rfl, Gr.refl _⟩)) | (refine sm_no rfl rfl ?_)); go_simp; refine hK _ ?_; clear hK K)
   refine sm_nil ?_
   clear hS
   intro wk hS
   replace hS : St w [⟨t, bs c1, 40⟩, ⟨r, bs (fun _ => 0), 40⟩, ⟨q, bs b, 40⟩, ⟨p, bs a, 40⟩] wk := hS
   go_wp2_with (first | (refine ldV hS rfl _ rfl rfl ?_) | (refine stV hS rfl _ _ rfl rfl rfl ?_; clear hS; intro wk hS) | (refine sl_box hS rfl _ 40 (box_vec rfl rfl) ?_; clear hS; intro bk wk hS) | (refine sl_box hS rfl _ 40 (alloc_vec rfl) ?_; clear hS; intro bk wk hS) | (refine onlyN_end ?_) | (refine onlyN_now ?_))
   have X4 := X2.out
   exact ⟨⟨k + 1, by omega, by go_num, by rw [HM.out]; exact hS⟩, by simp [intOf]; omega⟩
  ·obtain rfl : k = 4 := by omega
   go_wp2_with (first | (refine ldV hS rfl _ rfl rfl ?_) | (refine stV hS rfl _ _ rfl rfl rfl ?_; clear hS; intro wk hS) | (refine sl_box hS rfl _ 40 (box_vec rfl rfl) ?_; clear hS; intro bk wk hS) | (refine sl_box hS rfl _ 40 (alloc_vec rfl) ?_; clear hS; intro bk wk hS) | (refine onlyN_end ?_) | (refine onlyN_now ?_))
   refine sl_ret hS Try.results48 (by rfl) (by repeat (first | exact Has.hd | apply Has.tl)) Try.underlying40 rfl (by exact infoV) (by rfl) ?_
   exact ⟨rfl, hS.gr⟩
end Wd
end Go.Proofs.Ytjoalcaooccbiaa
