/-
  Of layer 8: shapes.row and what asks it. Conditions: those of each theorem.
-/
import Derived.Test.YtmgkejpjljkfdaaSlP
import Derived.IntWalk
namespace Go.Proofs.Ytmgkejpjljkfdaa
open Go.RowKit VecM
namespace Wd
theorem infoI : Try.prog.info? 3 = some ((Try.prog.info? 3).getD default) := by kernel_rfl
theorem sizeI : ((Try.prog.info? 3).getD default).size = 1 := by kernel_rfl
def pw (k : Nat) : Int := if k = 0 then 1 else if k = 1 then 2 else 4
def inR (op n z : Int) : Prop := z ≤ op ∧ op < z + n
theorem ret_2 {a b c d : Int} (h : a = b) (h' : c = d) : Ending.returned (.tuple #[.int .i64 a, .int .i64 c]) = .returned (.tuple #[.int .i64 b, .int .i64 d]) := by rw [h, h']
set_option maxHeartbeats 2000000 in
theorem row_at (op n : Int) (ho : -9223372036854775808 ≤ op ∧ op ≤ 9223372036854775807) (f : Nat → Int) (L k : Nat) (hk : k < L) (hL : L ≤ 3) (hn : n = 2 ∨ n = 4) (hf : ∀ i, 60000 ≤ f i ∧ f i ≤ 70000) (hin : inR op n (f k)) (hno : ∀ i, i < k → ¬ inR op n (f i)) (w : World) (g : Nat)
    (hc : ∀ j, j < L → w.cell? ⟨g, j, none⟩ = some (.int .i64 (f j))) :
    Calls Try.prog 58 #[.int .i64 op, .int .i64 n, .slice (some ⟨g, 0, none⟩) L L] w fun e w' => e = .returned (.tuple #[.int .i64 (pw k), .int .i64 (op - f k)]) ∧ w = w' := by
  have HC := Lib.hid hc
  have HNO := Lib.hid hno
  have HF := Lib.hid hf
  have HIN := Lib.hid hin
  have HO := Lib.hid ho
  have HN := Lib.hid hn
  clear hc hno hf hin ho hn
  go_enter Try.func58, Try.ntmps58
  go_wp2
  go_loopw [12] (fun u wr => ∃ j : Nat, j ≤ k ∧ u = .int .i64 j ∧ w = wr) (fun u _ => k + 1 - (intOf u).toNat)
  case atStart => exact ⟨0, by omega, rfl, rfl⟩
  case round =>
    obtain ⟨j, hj, rfl, rfl⟩ := hrel
    have hjL : j < L := by omega
    have hcj := HC.out j hjL
    have hfj := HF.out j
    have hop := HO.out
    have hn' := HN.out
    have T0 : decide ((j : Int) < (L : Int)) = true := by simp; omega
    have T5 : IntKind.i64.wrap ((j : Int) + 1) = (j : Int) + 1 := IntWalk.i64_in _ (by omega)
    have T2 : IntKind.i64.wrap (f j + n) = f j + n := IntWalk.i64_in _ (by omega)
    by_cases hlt : j < k
    · have hnj := HNO.out j hlt
      unfold inR at hnj
      by_cases h1 : f j ≤ op
      · have T1 : decide (f j ≤ op) = true := decide_eq_true h1
        have T3 : decide (op < f j + n) = false := decide_eq_false (fun h => hnj ⟨h1, h⟩)
        have T4 := True.intro
        have X1 := Lib.hid hj
        have X2 := Lib.hid hlt
        clear hnj h1 hfj hop hn' hj hlt hk hL
        go_upto_region 2 with (fail)
        try refine wp_region_lit ?_
        iterate 1 ((first | (refine sl_val rfl (run_saddr rfl rfl rfl Try.underlying38 infoI sizeI (j := j) hjL) ?_) | (refine sl_lcell rfl _ _ rfl rfl hcj (by intro w hc; go_simp) ?_) | (refine sl_val rfl (run_lss rfl rfl rfl T0) ?_) | (refine sl_val rfl (run_geq rfl rfl rfl T1) ?_) | (refine sl_val rfl (run_add rfl rfl rfl T2) ?_) | (refine sl_val rfl (run_lss rfl rfl rfl T3) ?_) | (refine sl_val rfl (run_sub rfl rfl rfl T4) ?_) | (refine sl_val rfl (run_shl rfl rfl rfl T7 T6) ?_) | (apply sl_val rfl; focus (intro w; go_simp; (try simp (disch := omega) only [IntWalk.i64_in, IntWalk.u64_in, IntWalk.u8_in, IntWalk.u32_in, IntWalk.i32_in]); first | exact rfl | rfl)) | (refine sl_skip rfl ?_)); go_simp)
        go_upto_region 3 with (fail)
        try refine wp_region_lit ?_
        iterate 5 ((first | (refine sl_val rfl (run_saddr rfl rfl rfl Try.underlying38 infoI sizeI (j := j) hjL) ?_) | (refine sl_lcell rfl _ _ rfl rfl hcj (by intro w hc; go_simp) ?_) | (refine sl_val rfl (run_lss rfl rfl rfl T0) ?_) | (refine sl_val rfl (run_geq rfl rfl rfl T1) ?_) | (refine sl_val rfl (run_add rfl rfl rfl T2) ?_) | (refine sl_val rfl (run_lss rfl rfl rfl T3) ?_) | (refine sl_val rfl (run_sub rfl rfl rfl T4) ?_) | (refine sl_val rfl (run_shl rfl rfl rfl T7 T6) ?_) | (apply sl_val rfl; focus (intro w; go_simp; (try simp (disch := omega) only [IntWalk.i64_in, IntWalk.u64_in, IntWalk.u8_in, IntWalk.u32_in, IntWalk.i32_in]); first | exact rfl | rfl)) | (refine sl_skip rfl ?_)); go_simp)
        go_upto_region 4 with (fail)
        try refine wp_region_lit ?_
        iterate 10 ((first | (refine sl_val rfl (run_saddr rfl rfl rfl Try.underlying38 infoI sizeI (j := j) hjL) ?_) | (refine sl_lcell rfl _ _ rfl rfl hcj (by intro w hc; go_simp) ?_) | (refine sl_val rfl (run_lss rfl rfl rfl T0) ?_) | (refine sl_val rfl (run_geq rfl rfl rfl T1) ?_) | (refine sl_val rfl (run_add rfl rfl rfl T2) ?_) | (refine sl_val rfl (run_lss rfl rfl rfl T3) ?_) | (refine sl_val rfl (run_sub rfl rfl rfl T4) ?_) | (refine sl_val rfl (run_shl rfl rfl rfl T7 T6) ?_) | (apply sl_val rfl; focus (intro w; go_simp; (try simp (disch := omega) only [IntWalk.i64_in, IntWalk.u64_in, IntWalk.u8_in, IntWalk.u32_in, IntWalk.i32_in]); first | exact rfl | rfl)) | (refine sl_skip rfl ?_)); go_simp)
        go_upto_region 6 with (fail)
        try refine wp_region_lit ?_
        iterate 2 ((first | (refine sl_val rfl (run_saddr rfl rfl rfl Try.underlying38 infoI sizeI (j := j) hjL) ?_) | (refine sl_lcell rfl _ _ rfl rfl hcj (by intro w hc; go_simp) ?_) | (refine sl_val rfl (run_lss rfl rfl rfl T0) ?_) | (refine sl_val rfl (run_geq rfl rfl rfl T1) ?_) | (refine sl_val rfl (run_add rfl rfl rfl T2) ?_) | (refine sl_val rfl (run_lss rfl rfl rfl T3) ?_) | (refine sl_val rfl (run_sub rfl rfl rfl T4) ?_) | (refine sl_val rfl (run_shl rfl rfl rfl T7 T6) ?_) | (apply sl_val rfl; focus (intro w; go_simp; (try simp (disch := omega) only [IntWalk.i64_in, IntWalk.u64_in, IntWalk.u8_in, IntWalk.u32_in, IntWalk.i32_in]); first | exact rfl | rfl)) | (refine sl_skip rfl ?_)); go_simp)
        go_wp2_with fail
        have X4 := X2.out
        exact ⟨⟨j + 1, by omega, by go_num, trivial⟩, by simp [intOf]; omega⟩
      · have T1 : decide (f j ≤ op) = false := decide_eq_false h1
        have T3 := True.intro
        have T4 := True.intro
        have X1 := Lib.hid hj
        have X2 := Lib.hid hlt
        clear hnj h1 hfj hop hn' hj hlt hk hL
        go_upto_region 2 with (fail)
        try refine wp_region_lit ?_
        iterate 1 ((first | (refine sl_val rfl (run_saddr rfl rfl rfl Try.underlying38 infoI sizeI (j := j) hjL) ?_) | (refine sl_lcell rfl _ _ rfl rfl hcj (by intro w hc; go_simp) ?_) | (refine sl_val rfl (run_lss rfl rfl rfl T0) ?_) | (refine sl_val rfl (run_geq rfl rfl rfl T1) ?_) | (refine sl_val rfl (run_add rfl rfl rfl T2) ?_) | (refine sl_val rfl (run_lss rfl rfl rfl T3) ?_) | (refine sl_val rfl (run_sub rfl rfl rfl T4) ?_) | (refine sl_val rfl (run_shl rfl rfl rfl T7 T6) ?_) | (apply sl_val rfl; focus (intro w; go_simp; (try simp (disch := omega) only [IntWalk.i64_in, IntWalk.u64_in, IntWalk.u8_in, IntWalk.u32_in, IntWalk.i32_in]); first | exact rfl | rfl)) | (refine sl_skip rfl ?_)); go_simp)
        go_upto_region 3 with (fail)
        try refine wp_region_lit ?_
        iterate 5 ((first | (refine sl_val rfl (run_saddr rfl rfl rfl Try.underlying38 infoI sizeI (j := j) hjL) ?_) | (refine sl_lcell rfl _ _ rfl rfl hcj (by intro w hc; go_simp) ?_) | (refine sl_val rfl (run_lss rfl rfl rfl T0) ?_) | (refine sl_val rfl (run_geq rfl rfl rfl T1) ?_) | (refine sl_val rfl (run_add rfl rfl rfl T2) ?_) | (refine sl_val rfl (run_lss rfl rfl rfl T3) ?_) | (refine sl_val rfl (run_sub rfl rfl rfl T4) ?_) | (refine sl_val rfl (run_shl rfl rfl rfl T7 T6) ?_) | (apply sl_val rfl; focus (intro w; go_simp; (try simp (disch := omega) only [IntWalk.i64_in, IntWalk.u64_in, IntWalk.u8_in, IntWalk.u32_in, IntWalk.i32_in]); first | exact rfl | rfl)) | (refine sl_skip rfl ?_)); go_simp)
        go_upto_region 4 with (fail)
        try refine wp_region_lit ?_
        iterate 10 ((first | (refine sl_val rfl (run_saddr rfl rfl rfl Try.underlying38 infoI sizeI (j := j) hjL) ?_) | (refine sl_lcell rfl _ _ rfl rfl hcj (by intro w hc; go_simp) ?_) | (refine sl_val rfl (run_lss rfl rfl rfl T0) ?_) | (refine sl_val rfl (run_geq rfl rfl rfl T1) ?_) | (refine sl_val rfl (run_add rfl rfl rfl T2) ?_) | (refine sl_val rfl (run_lss rfl rfl rfl T3) ?_) | (refine sl_val rfl (run_sub rfl rfl rfl T4) ?_) | (refine sl_val rfl (run_shl rfl rfl rfl T7 T6) ?_) | (apply sl_val rfl; focus (intro w; go_simp; (try simp (disch := omega) only [IntWalk.i64_in, IntWalk.u64_in, IntWalk.u8_in, IntWalk.u32_in, IntWalk.i32_in]); first | exact rfl | rfl)) | (refine sl_skip rfl ?_)); go_simp)
        go_upto_region 6 with (fail)
        try refine wp_region_lit ?_
        iterate 2 ((first | (refine sl_val rfl (run_saddr rfl rfl rfl Try.underlying38 infoI sizeI (j := j) hjL) ?_) | (refine sl_lcell rfl _ _ rfl rfl hcj (by intro w hc; go_simp) ?_) | (refine sl_val rfl (run_lss rfl rfl rfl T0) ?_) | (refine sl_val rfl (run_geq rfl rfl rfl T1) ?_) | (refine sl_val rfl (run_add rfl rfl rfl T2) ?_) | (refine sl_val rfl (run_lss rfl rfl rfl T3) ?_) | (refine sl_val rfl (run_sub rfl rfl rfl T4) ?_) | (refine sl_val rfl (run_shl rfl rfl rfl T7 T6) ?_) | (apply sl_val rfl; focus (intro w; go_simp; (try simp (disch := omega) only [IntWalk.i64_in, IntWalk.u64_in, IntWalk.u8_in, IntWalk.u32_in, IntWalk.i32_in]); first | exact rfl | rfl)) | (refine sl_skip rfl ?_)); go_simp)
        go_wp2_with fail
        have X4 := X2.out
        exact ⟨⟨j + 1, by omega, by go_num, trivial⟩, by simp [intOf]; omega⟩
    · obtain rfl : j = k := by omega
      have h := HIN.out
      unfold inR at h
      have hcase : j = 0 ∨ j = 1 ∨ j = 2 := by omega
      have T1 : decide (f j ≤ op) = true := decide_eq_true h.1
      have T3 : decide (op < f j + n) = true := decide_eq_true h.2
      have T4 : IntKind.i64.wrap (op - f j) = op - f j := IntWalk.i64_in _ (by omega)
      have T6 : IntKind.i64.wrap (1 * 2 ^ (min ((j : Int)).toNat IntKind.i64.bits)) = pw j := by rcases hcase with rfl | rfl | rfl <;> decide
      have T7 : (0 : Int) ≤ (j : Int) := by omega
      clear h hfj hop hn' hj hlt hk hL hcase
      go_upto_region 2 with (fail)
      try refine wp_region_lit ?_
      iterate 1 ((first | (refine sl_val rfl (run_saddr rfl rfl rfl Try.underlying38 infoI sizeI (j := j) hjL) ?_) | (refine sl_lcell rfl _ _ rfl rfl hcj (by intro w hc; go_simp) ?_) | (refine sl_val rfl (run_lss rfl rfl rfl T0) ?_) | (refine sl_val rfl (run_geq rfl rfl rfl T1) ?_) | (refine sl_val rfl (run_add rfl rfl rfl T2) ?_) | (refine sl_val rfl (run_lss rfl rfl rfl T3) ?_) | (refine sl_val rfl (run_sub rfl rfl rfl T4) ?_) | (refine sl_val rfl (run_shl rfl rfl rfl T7 T6) ?_) | (apply sl_val rfl; focus (intro w; go_simp; (try simp (disch := omega) only [IntWalk.i64_in, IntWalk.u64_in, IntWalk.u8_in, IntWalk.u32_in, IntWalk.i32_in]); first | exact rfl | rfl)) | (refine sl_skip rfl ?_)); go_simp)
      go_upto_region 3 with (fail)
      try refine wp_region_lit ?_
      iterate 5 ((first | (refine sl_val rfl (run_saddr rfl rfl rfl Try.underlying38 infoI sizeI (j := j) hjL) ?_) | (refine sl_lcell rfl _ _ rfl rfl hcj (by intro w hc; go_simp) ?_) | (refine sl_val rfl (run_lss rfl rfl rfl T0) ?_) | (refine sl_val rfl (run_geq rfl rfl rfl T1) ?_) | (refine sl_val rfl (run_add rfl rfl rfl T2) ?_) | (refine sl_val rfl (run_lss rfl rfl rfl T3) ?_) | (refine sl_val rfl (run_sub rfl rfl rfl T4) ?_) | (refine sl_val rfl (run_shl rfl rfl rfl T7 T6) ?_) | (apply sl_val rfl; focus (intro w; go_simp; (try simp (disch := omega) only [IntWalk.i64_in, IntWalk.u64_in, IntWalk.u8_in, IntWalk.u32_in, IntWalk.i32_in]); first | exact rfl | rfl)) | (refine sl_skip rfl ?_)); go_simp)
      go_upto_region 4 with (fail)
      try refine wp_region_lit ?_
      iterate 10 ((first | (refine sl_val rfl (run_saddr rfl rfl rfl Try.underlying38 infoI sizeI (j := j) hjL) ?_) | (refine sl_lcell rfl _ _ rfl rfl hcj (by intro w hc; go_simp) ?_) | (refine sl_val rfl (run_lss rfl rfl rfl T0) ?_) | (refine sl_val rfl (run_geq rfl rfl rfl T1) ?_) | (refine sl_val rfl (run_add rfl rfl rfl T2) ?_) | (refine sl_val rfl (run_lss rfl rfl rfl T3) ?_) | (refine sl_val rfl (run_sub rfl rfl rfl T4) ?_) | (refine sl_val rfl (run_shl rfl rfl rfl T7 T6) ?_) | (apply sl_val rfl; focus (intro w; go_simp; (try simp (disch := omega) only [IntWalk.i64_in, IntWalk.u64_in, IntWalk.u8_in, IntWalk.u32_in, IntWalk.i32_in]); first | exact rfl | rfl)) | (refine sl_skip rfl ?_)); go_simp)
      go_upto_region 5 with (fail)
      try refine wp_region_lit ?_
      iterate 7 ((first | (refine sl_val rfl (run_saddr rfl rfl rfl Try.underlying38 infoI sizeI (j := j) hjL) ?_) | (refine sl_lcell rfl _ _ rfl rfl hcj (by intro w hc; go_simp) ?_) | (refine sl_val rfl (run_lss rfl rfl rfl T0) ?_) | (refine sl_val rfl (run_geq rfl rfl rfl T1) ?_) | (refine sl_val rfl (run_add rfl rfl rfl T2) ?_) | (refine sl_val rfl (run_lss rfl rfl rfl T3) ?_) | (refine sl_val rfl (run_sub rfl rfl rfl T4) ?_) | (refine sl_val rfl (run_shl rfl rfl rfl T7 T6) ?_) | (apply sl_val rfl; focus (intro w; go_simp; (try simp (disch := omega) only [IntWalk.i64_in, IntWalk.u64_in, IntWalk.u8_in, IntWalk.u32_in, IntWalk.i32_in]); first | exact rfl | rfl)) | (refine sl_skip rfl ?_)); go_simp)
      go_wp2_with fail
      go_ret2
      exact ⟨rfl, rfl⟩
set_option maxHeartbeats 2000000 in
theorem row_no (op n : Int) (ho : -9223372036854775808 ≤ op ∧ op ≤ 9223372036854775807) (f : Nat → Int) (L : Nat) (hL : L ≤ 3) (hn : n = 2 ∨ n = 4) (hf : ∀ i, 60000 ≤ f i ∧ f i ≤ 70000) (hno : ∀ i, i < L → ¬ inR op n (f i)) (w : World) (g : Nat)
    (hc : ∀ j, j < L → w.cell? ⟨g, j, none⟩ = some (.int .i64 (f j))) :
    Calls Try.prog 58 #[.int .i64 op, .int .i64 n, .slice (some ⟨g, 0, none⟩) L L] w fun e w' => e = .returned (.tuple #[.int .i64 0, .int .i64 0]) ∧ w = w' := by
  have HC := Lib.hid hc
  have HNO := Lib.hid hno
  have HF := Lib.hid hf
  have HO := Lib.hid ho
  have HN := Lib.hid hn
  clear hc hno hf ho hn
  go_enter Try.func58, Try.ntmps58
  go_wp2
  go_loopw [12] (fun u wr => ∃ j : Nat, j ≤ L ∧ u = .int .i64 j ∧ w = wr) (fun u _ => L + 1 - (intOf u).toNat)
  case atStart => exact ⟨0, by omega, rfl, rfl⟩
  case round =>
    obtain ⟨j, hj, rfl, rfl⟩ := hrel
    by_cases hjL : j < L
    · have hcj := HC.out j hjL
      have hfj := HF.out j
      have hop := HO.out
      have hn' := HN.out
      have T0 : decide ((j : Int) < (L : Int)) = true := by simp; omega
      have T5 : IntKind.i64.wrap ((j : Int) + 1) = (j : Int) + 1 := IntWalk.i64_in _ (by omega)
      have T2 : IntKind.i64.wrap (f j + n) = f j + n := IntWalk.i64_in _ (by omega)
      have hnj := HNO.out j hjL
      unfold inR at hnj
      have X2 := Lib.hid hjL
      by_cases h1 : f j ≤ op
      · have T1 : decide (f j ≤ op) = true := decide_eq_true h1
        have T3 : decide (op < f j + n) = false := decide_eq_false (fun h => hnj ⟨h1, h⟩)
        have T4 := True.intro
        clear hnj h1 hfj hop hn' hj hL
        go_upto_region 2 with (fail)
        try refine wp_region_lit ?_
        iterate 1 ((first | (refine sl_val rfl (run_saddr rfl rfl rfl Try.underlying38 infoI sizeI (j := j) hjL) ?_) | (refine sl_lcell rfl _ _ rfl rfl hcj (by intro w hc; go_simp) ?_) | (refine sl_val rfl (run_lss rfl rfl rfl T0) ?_) | (refine sl_val rfl (run_geq rfl rfl rfl T1) ?_) | (refine sl_val rfl (run_add rfl rfl rfl T2) ?_) | (refine sl_val rfl (run_lss rfl rfl rfl T3) ?_) | (refine sl_val rfl (run_sub rfl rfl rfl T4) ?_) | (refine sl_val rfl (run_shl rfl rfl rfl T7 T6) ?_) | (apply sl_val rfl; focus (intro w; go_simp; (try simp (disch := omega) only [IntWalk.i64_in, IntWalk.u64_in, IntWalk.u8_in, IntWalk.u32_in, IntWalk.i32_in]); first | exact rfl | rfl)) | (refine sl_skip rfl ?_)); go_simp)
        go_upto_region 3 with (fail)
        try refine wp_region_lit ?_
        iterate 5 ((first | (refine sl_val rfl (run_saddr rfl rfl rfl Try.underlying38 infoI sizeI (j := j) hjL) ?_) | (refine sl_lcell rfl _ _ rfl rfl hcj (by intro w hc; go_simp) ?_) | (refine sl_val rfl (run_lss rfl rfl rfl T0) ?_) | (refine sl_val rfl (run_geq rfl rfl rfl T1) ?_) | (refine sl_val rfl (run_add rfl rfl rfl T2) ?_) | (refine sl_val rfl (run_lss rfl rfl rfl T3) ?_) | (refine sl_val rfl (run_sub rfl rfl rfl T4) ?_) | (refine sl_val rfl (run_shl rfl rfl rfl T7 T6) ?_) | (apply sl_val rfl; focus (intro w; go_simp; (try simp (disch := omega) only [IntWalk.i64_in, IntWalk.u64_in, IntWalk.u8_in, IntWalk.u32_in, IntWalk.i32_in]); first | exact rfl | rfl)) | (refine sl_skip rfl ?_)); go_simp)
        go_upto_region 4 with (fail)
        try refine wp_region_lit ?_
        iterate 10 ((first | (refine sl_val rfl (run_saddr rfl rfl rfl Try.underlying38 infoI sizeI (j := j) hjL) ?_) | (refine sl_lcell rfl _ _ rfl rfl hcj (by intro w hc; go_simp) ?_) | (refine sl_val rfl (run_lss rfl rfl rfl T0) ?_) | (refine sl_val rfl (run_geq rfl rfl rfl T1) ?_) | (refine sl_val rfl (run_add rfl rfl rfl T2) ?_) | (refine sl_val rfl (run_lss rfl rfl rfl T3) ?_) | (refine sl_val rfl (run_sub rfl rfl rfl T4) ?_) | (refine sl_val rfl (run_shl rfl rfl rfl T7 T6) ?_) | (apply sl_val rfl; focus (intro w; go_simp; (try simp (disch := omega) only [IntWalk.i64_in, IntWalk.u64_in, IntWalk.u8_in, IntWalk.u32_in, IntWalk.i32_in]); first | exact rfl | rfl)) | (refine sl_skip rfl ?_)); go_simp)
        go_upto_region 6 with (fail)
        try refine wp_region_lit ?_
        iterate 2 ((first | (refine sl_val rfl (run_saddr rfl rfl rfl Try.underlying38 infoI sizeI (j := j) hjL) ?_) | (refine sl_lcell rfl _ _ rfl rfl hcj (by intro w hc; go_simp) ?_) | (refine sl_val rfl (run_lss rfl rfl rfl T0) ?_) | (refine sl_val rfl (run_geq rfl rfl rfl T1) ?_) | (refine sl_val rfl (run_add rfl rfl rfl T2) ?_) | (refine sl_val rfl (run_lss rfl rfl rfl T3) ?_) | (refine sl_val rfl (run_sub rfl rfl rfl T4) ?_) | (refine sl_val rfl (run_shl rfl rfl rfl T7 T6) ?_) | (apply sl_val rfl; focus (intro w; go_simp; (try simp (disch := omega) only [IntWalk.i64_in, IntWalk.u64_in, IntWalk.u8_in, IntWalk.u32_in, IntWalk.i32_in]); first | exact rfl | rfl)) | (refine sl_skip rfl ?_)); go_simp)
        go_wp2_with fail
        have X4 := X2.out
        exact ⟨⟨j + 1, by omega, by go_num, trivial⟩, by simp [intOf]; omega⟩
      · have T1 : decide (f j ≤ op) = false := decide_eq_false h1
        have T3 := True.intro
        have T4 := True.intro
        clear hnj h1 hfj hop hn' hj hL
        go_upto_region 2 with (fail)
        try refine wp_region_lit ?_
        iterate 1 ((first | (refine sl_val rfl (run_saddr rfl rfl rfl Try.underlying38 infoI sizeI (j := j) hjL) ?_) | (refine sl_lcell rfl _ _ rfl rfl hcj (by intro w hc; go_simp) ?_) | (refine sl_val rfl (run_lss rfl rfl rfl T0) ?_) | (refine sl_val rfl (run_geq rfl rfl rfl T1) ?_) | (refine sl_val rfl (run_add rfl rfl rfl T2) ?_) | (refine sl_val rfl (run_lss rfl rfl rfl T3) ?_) | (refine sl_val rfl (run_sub rfl rfl rfl T4) ?_) | (refine sl_val rfl (run_shl rfl rfl rfl T7 T6) ?_) | (apply sl_val rfl; focus (intro w; go_simp; (try simp (disch := omega) only [IntWalk.i64_in, IntWalk.u64_in, IntWalk.u8_in, IntWalk.u32_in, IntWalk.i32_in]); first | exact rfl | rfl)) | (refine sl_skip rfl ?_)); go_simp)
        go_upto_region 3 with (fail)
        try refine wp_region_lit ?_
        iterate 5 ((first | (refine sl_val rfl (run_saddr rfl rfl rfl Try.underlying38 infoI sizeI (j := j) hjL) ?_) | (refine sl_lcell rfl _ _ rfl rfl hcj (by intro w hc; go_simp) ?_) | (refine sl_val rfl (run_lss rfl rfl rfl T0) ?_) | (refine sl_val rfl (run_geq rfl rfl rfl T1) ?_) | (refine sl_val rfl (run_add rfl rfl rfl T2) ?_) | (refine sl_val rfl (run_lss rfl rfl rfl T3) ?_) | (refine sl_val rfl (run_sub rfl rfl rfl T4) ?_) | (refine sl_val rfl (run_shl rfl rfl rfl T7 T6) ?_) | (apply sl_val rfl; focus (intro w; go_simp; (try simp (disch := omega) only [IntWalk.i64_in, IntWalk.u64_in, IntWalk.u8_in, IntWalk.u32_in, IntWalk.i32_in]); first | exact rfl | rfl)) | (refine sl_skip rfl ?_)); go_simp)
        go_upto_region 4 with (fail)
        try refine wp_region_lit ?_
        iterate 10 ((first | (refine sl_val rfl (run_saddr rfl rfl rfl Try.underlying38 infoI sizeI (j := j) hjL) ?_) | (refine sl_lcell rfl _ _ rfl rfl hcj (by intro w hc; go_simp) ?_) | (refine sl_val rfl (run_lss rfl rfl rfl T0) ?_) | (refine sl_val rfl (run_geq rfl rfl rfl T1) ?_) | (refine sl_val rfl (run_add rfl rfl rfl T2) ?_) | (refine sl_val rfl (run_lss rfl rfl rfl T3) ?_) | (refine sl_val rfl (run_sub rfl rfl rfl T4) ?_) | (refine sl_val rfl (run_shl rfl rfl rfl T7 T6) ?_) | (apply sl_val rfl; focus (intro w; go_simp; (try simp (disch := omega) only [IntWalk.i64_in, IntWalk.u64_in, IntWalk.u8_in, IntWalk.u32_in, IntWalk.i32_in]); first | exact rfl | rfl)) | (refine sl_skip rfl ?_)); go_simp)
        go_upto_region 6 with (fail)
        try refine wp_region_lit ?_
        iterate 2 ((first | (refine sl_val rfl (run_saddr rfl rfl rfl Try.underlying38 infoI sizeI (j := j) hjL) ?_) | (refine sl_lcell rfl _ _ rfl rfl hcj (by intro w hc; go_simp) ?_) | (refine sl_val rfl (run_lss rfl rfl rfl T0) ?_) | (refine sl_val rfl (run_geq rfl rfl rfl T1) ?_) | (refine sl_val rfl (run_add rfl rfl rfl T2) ?_) | (refine sl_val rfl (run_lss rfl rfl rfl T3) ?_) | (refine sl_val rfl (run_sub rfl rfl rfl T4) ?_) | (refine sl_val rfl (run_shl rfl rfl rfl T7 T6) ?_) | (apply sl_val rfl; focus (intro w; go_simp; (try simp (disch := omega) only [IntWalk.i64_in, IntWalk.u64_in, IntWalk.u8_in, IntWalk.u32_in, IntWalk.i32_in]); first | exact rfl | rfl)) | (refine sl_skip rfl ?_)); go_simp)
        go_wp2_with fail
        have X4 := X2.out
        exact ⟨⟨j + 1, by omega, by go_num, trivial⟩, by simp [intOf]; omega⟩
    · obtain rfl : j = L := by omega
      go_wp2
      go_ret2
      exact ⟨rfl, rfl⟩
end Wd
end Go.Proofs.Ytmgkejpjljkfdaa
