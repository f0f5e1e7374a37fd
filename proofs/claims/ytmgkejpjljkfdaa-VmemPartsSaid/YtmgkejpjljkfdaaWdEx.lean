/-
  Of layer 8: widen.lane, extend, pairwise. Conditions: bytes.
-/
import Derived.Test.YtmgkejpjljkfdaaWdPt
import Derived.Test.YtmgkejpjljkfdaaSig
import Derived.Test.YtmgkejpjljkfdaaSm
namespace Go.Proofs.Ytmgkejpjljkfdaa
open Go.RowKit VecM
namespace Wd
/-- a lane as a number of 64 bits, with or without its sign -/
def laI (sg : Bool) (b : Nat → Int) (v i : Int) : Int := if sg then IntKind.u64.wrap (sgnI b v i) else getI b v i
theorem lane_any (sg : Bool) (b : Nat → Int) (hb : Byt b) (v i : Int) (w : World) : Calls Try.prog 57 #[.agg (bs b), .int .i64 v, .int .i64 i, .bool sg] w fun e w' => e = .returned (.int .u64 (laI sg b v i)) ∧ Gr w w' := by
  have C1 := fun w => signed_any b hb v i w
  have C2 := fun w => get_any b hb v i w
  unfold laI
  generalize sgnI b v i = x at *
  generalize getI b v i = y at *
  have hS := St.start w
  have XC1 := Lib.hid C1
  clear C1
  have XC2 := Lib.hid C2
  clear C2
  cases sg
  · go_enter Try.func57, Try.ntmps57
    go_wp2_with (first | (refine sl_load hS rfl 35 _ rfl rfl (by repeat (first | exact Has.hd | apply Has.tl)) Try.underlying35 rfl (by exact infoV) ?_) | (refine sl_store hS rfl 35 _ _ rfl rfl rfl (by repeat (first | exact Rep.hd | apply Rep.tl)) (by exact infoV) (by rfl) (bs_one _) ?_; clear hS; intro wk hS) | (refine sl_box hS rfl _ 35 (box_vec rfl rfl) ?_; clear hS; intro bk wk hS) | (refine sl_box hS rfl _ 35 (alloc_vec rfl) ?_; clear hS; intro bk wk hS) | (refine onlyN_end ?_) | (refine onlyN_now ?_) | ((go_at_call 28); (with_reducible refine sl_call hS (XC2.out _) ?_); clear hS; intro wk hS))
    go_ret
    exact ⟨rfl, hS.gr⟩
  · go_enter Try.func57, Try.ntmps57
    go_wp2_with (first | (refine sl_load hS rfl 35 _ rfl rfl (by repeat (first | exact Has.hd | apply Has.tl)) Try.underlying35 rfl (by exact infoV) ?_) | (refine sl_store hS rfl 35 _ _ rfl rfl rfl (by repeat (first | exact Rep.hd | apply Rep.tl)) (by exact infoV) (by rfl) (bs_one _) ?_; clear hS; intro wk hS) | (refine sl_box hS rfl _ 35 (box_vec rfl rfl) ?_; clear hS; intro bk wk hS) | (refine sl_box hS rfl _ 35 (alloc_vec rfl) ?_; clear hS; intro bk wk hS) | (refine onlyN_end ?_) | (refine onlyN_now ?_) | ((go_at_call 59); (with_reducible refine sl_call hS (XC1.out _) ?_); clear hS; intro wk hS))
    go_ret
    exact ⟨rfl, hS.gr⟩
def exV (v h : Int) (L : Nat) (hi sg : Bool) (b : Nat → Int) : Nat → Int := if hi then ofK (fun _ => 0) v (fun i => laI sg b h ((L : Int) + i)) L else ofK (fun _ => 0) v (fun i => laI sg b h (i : Int)) L
set_option maxHeartbeats 2000000 in
theorem extend_true (v h : Int) (L : Nat) (hL : lanesI v = (L : Int)) (h16 : L ≤ 16) (hq : IntKind.i64.wrap (Int.tdiv v 2) = h) (sg : Bool) (b : Nat → Int) (hb : Byt b) (w : World) :
    Calls Try.prog 44 #[.int .i64 v, .agg #[.bool true, .bool sg], .agg (bs b)] w fun e w' => e = .returned (.agg (bs (ofK (fun _ => 0) v (fun i => laI sg b h ((L : Int) + i)) L))) ∧ Gr w w' := by
  have HB := Lib.hid hb
  have CL : ∀ w, Calls Try.prog 49 #[.int .i64 v] w fun e w' => e = .returned (.int .i64 (L : Int)) ∧ Gr w w' := fun w => by rw [← hL]; exact calls_gr (lanes_any v w)
  clear hb hL
  have hS := St.start w
  have XCL := Lib.hid CL
  clear CL
  go_enter Try.func44, Try.ntmps44
  go_upto_region 0 with (fail)
  try refine wp_region_lit ?_
  iterate 3 ((first | (refine sl_load hS rfl 35 _ rfl rfl (by repeat (first | exact Has.hd | apply Has.tl)) Try.underlying35 rfl (by exact infoV) ?_) | (refine sl_store hS rfl 35 _ _ rfl rfl rfl (by repeat (first | exact Rep.hd | apply Rep.tl)) (by exact infoV) (by rfl) (bs_one _) ?_; clear hS; intro wk hS) | ((with_reducible show wpList _ _ _ (⟨_, .box 83 _, _, _, _, _⟩ :: _) _ _); refine sl_new hS rfl #[.bool true, .bool sg] 83 (fun b => .pointer (some ⟨b, 0, none⟩)) (by intro w; go_simp) ?_; clear hS; intro p wk hS) | ((with_reducible show wpList _ _ _ (⟨_, .box 35 _, _, _, _, _⟩ :: _) _ _); refine sl_box hS rfl _ 35 (box_vec rfl rfl) ?_; clear hS; intro q wk hS) | ((with_reducible show wpList _ _ _ (⟨_, .alloc 35 , _, _, _, _⟩ :: _) _ _); refine sl_box hS rfl _ 35 (alloc_vec rfl) ?_; clear hS; intro r wk hS) | (apply sl_val rfl; focus (intro w; go_simp; (try simp (disch := omega) only [IntWalk.i64_in, IntWalk.u64_in, IntWalk.u8_in, IntWalk.u32_in, IntWalk.i32_in]); first | exact rfl | rfl)) | (refine sl_skip rfl ?_)); go_simp)
  go_upto_region 1 with (fail)
  try refine wp_region_lit ?_
  iterate 1 ((first | (refine sl_load hS rfl 35 _ rfl rfl (by repeat (first | exact Has.hd | apply Has.tl)) Try.underlying35 rfl (by exact infoV) ?_) | (refine sl_store hS rfl 35 _ _ rfl rfl rfl (by repeat (first | exact Rep.hd | apply Rep.tl)) (by exact infoV) (by rfl) (bs_one _) ?_; clear hS; intro wk hS) | ((with_reducible show wpList _ _ _ (⟨_, .alloc 35 , _, _, _, _⟩ :: _) _ _); refine sl_box hS rfl _ 35 (alloc_vec rfl) ?_; clear hS; intro t wk hS) | (apply sl_val rfl; focus (intro w; go_simp; (try simp (disch := omega) only [IntWalk.i64_in, IntWalk.u64_in, IntWalk.u8_in, IntWalk.u32_in, IntWalk.i32_in]); first | exact rfl | rfl)) | (refine sl_step (fun K hK => .inl ⟨rfl, ?_⟩); unfold Oper.wp; go_simp; (first | with_reducible refine sl_call hS (XCL.out _) ?_); clear hS; intro wk hS; refine hK _ _ ?_; clear hK K) | (refine sl_skip rfl ?_)); go_simp)
  go_upto_region 2 with (fail)
  try refine wp_region_lit ?_
  iterate 4 ((first | (refine sl_load hS rfl 35 _ rfl rfl (by repeat (first | exact Has.hd | apply Has.tl)) Try.underlying35 rfl (by exact infoV) ?_) | (refine sl_store hS rfl 35 _ _ rfl rfl rfl (by repeat (first | exact Rep.hd | apply Rep.tl)) (by exact infoV) (by rfl) (bs_one _) ?_; clear hS; intro wk hS) | ((with_reducible show wpList _ _ _ (⟨_, .alloc 35 , _, _, _, _⟩ :: _) _ _); refine sl_box hS rfl _ 35 (alloc_vec rfl) ?_; clear hS; intro t wk hS) | (apply sl_val rfl; focus (intro w; go_simp; (try simp (disch := omega) only [IntWalk.i64_in, IntWalk.u64_in, IntWalk.u8_in, IntWalk.u32_in, IntWalk.i32_in]); first | exact rfl | rfl)) | (refine sl_step (fun K hK => .inl ⟨rfl, ?_⟩); unfold Oper.wp; go_simp; (first | with_reducible refine sl_call hS (XCL.out _) ?_); clear hS; intro wk hS; refine hK _ _ ?_; clear hK K) | (refine sl_skip rfl ?_)); go_simp)
  go_upto_region 3 with (fail)
  try refine wp_region_lit ?_
  iterate 2 ((first | (refine sl_load hS rfl 35 _ rfl rfl (by repeat (first | exact Has.hd | apply Has.tl)) Try.underlying35 rfl (by exact infoV) ?_) | (refine sl_store hS rfl 35 _ _ rfl rfl rfl (by repeat (first | exact Rep.hd | apply Rep.tl)) (by exact infoV) (by rfl) (bs_one _) ?_; clear hS; intro wk hS) | (refine sl_cell hS rfl _ _ rfl rfl (by repeat (first | exact Has.hd | apply Has.tl)) (by rfl) (by intro w hc; go_simp) ?_) | (apply sl_val rfl; focus (intro w; go_simp; (try simp (disch := omega) only [IntWalk.i64_in, IntWalk.u64_in, IntWalk.u8_in, IntWalk.u32_in, IntWalk.i32_in]); first | exact rfl | rfl)) | (refine sl_skip rfl ?_)); go_simp)
  go_upto_region 4 with (fail)
  try refine wp_region_lit ?_
  iterate 2 ((first | (refine sl_load hS rfl 35 _ rfl rfl (by repeat (first | exact Has.hd | apply Has.tl)) Try.underlying35 rfl (by exact infoV) ?_) | (refine sl_store hS rfl 35 _ _ rfl rfl rfl (by repeat (first | exact Rep.hd | apply Rep.tl)) (by exact infoV) (by rfl) (bs_one _) ?_; clear hS; intro wk hS) | (refine sl_cell hS rfl _ _ rfl rfl (by repeat (first | exact Has.hd | apply Has.tl)) (by rfl) (by intro w hc; go_simp) ?_) | (apply sl_val rfl; focus (intro w; go_simp; (try simp (disch := omega) only [IntWalk.i64_in, IntWalk.u64_in, IntWalk.u8_in, IntWalk.u32_in, IntWalk.i32_in]); first | exact rfl | rfl)) | (refine sl_skip rfl ?_)); go_simp)
  go_upto_region 5 with (fail)
  try refine wp_region_lit ?_
  iterate 2 ((first | (refine sl_load hS rfl 35 _ rfl rfl (by repeat (first | exact Has.hd | apply Has.tl)) Try.underlying35 rfl (by exact infoV) ?_) | (refine sl_store hS rfl 35 _ _ rfl rfl rfl (by repeat (first | exact Rep.hd | apply Rep.tl)) (by exact infoV) (by rfl) (bs_one _) ?_; clear hS; intro wk hS) | (refine sl_cell hS rfl _ _ rfl rfl (by repeat (first | exact Has.hd | apply Has.tl)) (by rfl) (by intro w hc; go_simp) ?_) | (apply sl_val rfl; focus (intro w; go_simp; (try simp (disch := omega) only [IntWalk.i64_in, IntWalk.u64_in, IntWalk.u8_in, IntWalk.u32_in, IntWalk.i32_in]); first | exact rfl | rfl)) | (refine sl_skip rfl ?_)); go_simp)
  go_wp2_with fail
  go_loopw [17] (fun u wr => ∃ k : Nat, k ≤ L ∧ u = .int .i64 k ∧ St w [⟨t, bs (ofK (fun _ => 0) v (fun i => laI sg b h ((L : Int) + i)) k), 35⟩, ⟨r, bs (fun _ => 0), 35⟩, ⟨q, bs b, 35⟩, ⟨p, #[.bool true, .bool sg], 83⟩] wr) (fun u _ => L - (intOf u).toNat)
  case atStart => exact ⟨0, by omega, rfl, hS⟩
  case round =>
    obtain ⟨k, hk, rfl, hS⟩ := hrel
    by_cases hlt : k < L
    · have C1 := fun w => lane_any sg b HB.out h ((L : Int) + k) w
      have HM := Lib.hid (show ofK (fun _ => 0) v (fun i => laI sg b h ((L : Int) + i)) (k + 1) = setI (ofK (fun _ => 0) v (fun i => laI sg b h ((L : Int) + i)) k) v k (laI sg b h ((L : Int) + k)) from rfl)
      have C2 := fun w => set_any (ofK (fun _ => 0) v (fun i => laI sg b h ((L : Int) + i)) k) v k (laI sg b h ((L : Int) + k)) w
      have T0 : IntKind.i64.wrap ((L : Int) + (k : Int)) = ((L : Int) + k) := by rw [IntWalk.i64_in _ (by omega)]
      have T1 : IntKind.i64.wrap ((k : Int) + 1) = (k : Int) + 1 := IntWalk.i64_in _ (by omega)
      have T2 : decide ((k : Int) < (L : Int)) = true := by simp; omega
      have T4 : IntKind.i64.wrap (k : Int) = (k : Int) := IntWalk.i64_in _ (by omega)
      have X2 := Lib.hid hlt
      generalize laI sg b h ((L : Int) + k) = x at *
      generalize hc0 : ofK (fun _ => 0) v (fun i => laI sg b h ((L : Int) + i)) k = c0 at *
      clear hc0 hlt hk
      have XC1 := Lib.hid C1
      clear C1
      have XC2 := Lib.hid C2
      clear C2
      go_upto_region 7 with (fail)
      try refine wp_region_lit ?_
      iterate 2 ((first | (refine sl_load hS rfl 35 _ rfl rfl (by repeat (first | exact Has.hd | apply Has.tl)) Try.underlying35 rfl (by exact infoV) ?_) | (refine sl_store hS rfl 35 _ _ rfl rfl rfl (by repeat (first | exact Rep.hd | apply Rep.tl)) (by exact infoV) (by rfl) (bs_one _) ?_; clear hS; intro wk hS) | (apply sl_val rfl; focus (intro w; go_simp; (try simp (disch := omega) only [IntWalk.i64_in, IntWalk.u64_in, IntWalk.u8_in, IntWalk.u32_in, IntWalk.i32_in]); first | exact rfl | rfl)) | (refine sl_skip rfl ?_)); go_simp)
      go_upto_region 8 with (fail)
      refine sm_tail 13 [] hS (by kernel_rfl) (by kernel_rfl) (fun β => ?_)
      simp only [List.take_succ_cons, List.take_zero, List.drop_succ_cons, List.drop_zero]
      iterate 13 (refine sm_step (fun K hK => ?_); (first | (refine sm_load rfl rfl 35 _ rfl rfl (by repeat (first | exact Has.hd | apply Has.tl)) Try.underlying35 rfl (by exact infoV) ?_) | (refine sm_lay rfl rfl (by intro w; go_simp) ?_) | (refine sm_build rfl rfl 35 _ rfl (bs fun _ => 0) (by first | (simp only [List.map_toArray, List.map_nil]; kernel_rfl) | (simp only [Array.map_empty]; kernel_rfl)) ?_) | (apply sm_yes rfl rfl; focus (intro wx hx; go_simp; first | (apply sm_enter (by kernel_rfl); first | fail | with_reducible exact XC1.out wx | with_reducible exact XC2.out wx) | exact ⟨rfl, Gr.refl _⟩)) | (refine sm_cell rfl rfl _ _ rfl rfl (by repeat (first | exact Has.hd | apply Has.tl)) (by rfl) (by intro w hc; go_simp) ?_) | (refine sm_val rfl rfl (run_add rfl rfl rfl T0) ?_) | (refine sm_no rfl rfl ?_)); go_simp; refine hK _ ?_; clear hK K)
      refine sm_nil ?_
      clear hS
      intro wk hS
      replace hS : St w [⟨t, bs c0, 35⟩, ⟨r, bs (fun _ => 0), 35⟩, ⟨q, bs b, 35⟩, ⟨p, #[.bool true, .bool sg], 83⟩] wk := hS
      go_wp2_with (first | (refine sl_load hS rfl 35 _ rfl rfl (by repeat (first | exact Has.hd | apply Has.tl)) Try.underlying35 rfl (by exact infoV) ?_) | (refine sl_store hS rfl 35 _ _ rfl rfl rfl (by repeat (first | exact Rep.hd | apply Rep.tl)) (by exact infoV) (by rfl) (bs_one _) ?_; clear hS; intro wk hS) | (refine sl_box hS rfl _ 35 (box_vec rfl rfl) ?_; clear hS; intro bk wk hS) | (refine sl_box hS rfl _ 35 (alloc_vec rfl) ?_; clear hS; intro bk wk hS) | (refine onlyN_end ?_) | (refine onlyN_now ?_))
      have X4 := X2.out
      exact ⟨⟨k + 1, by omega, by go_num, by rw [HM.out]; exact hS⟩, by simp [intOf]; omega⟩
    · obtain rfl : k = L := by omega
      go_wp2_with (first | (refine sl_load hS rfl 35 _ rfl rfl (by repeat (first | exact Has.hd | apply Has.tl)) Try.underlying35 rfl (by exact infoV) ?_) | (refine sl_store hS rfl 35 _ _ rfl rfl rfl (by repeat (first | exact Rep.hd | apply Rep.tl)) (by exact infoV) (by rfl) (bs_one _) ?_; clear hS; intro wk hS) | (refine sl_box hS rfl _ 35 (box_vec rfl rfl) ?_; clear hS; intro bk wk hS) | (refine sl_box hS rfl _ 35 (alloc_vec rfl) ?_; clear hS; intro bk wk hS) | (refine onlyN_end ?_) | (refine onlyN_now ?_))
      refine sl_ret hS Try.results44 (by rfl) (by repeat (first | exact Has.hd | apply Has.tl)) Try.underlying35 rfl (by exact infoV) (by rfl) ?_
      exact ⟨rfl, hS.gr⟩
set_option maxHeartbeats 2000000 in
theorem extend_false (v h : Int) (L : Nat) (hL : lanesI v = (L : Int)) (h16 : L ≤ 16) (hq : IntKind.i64.wrap (Int.tdiv v 2) = h) (sg : Bool) (b : Nat → Int) (hb : Byt b) (w : World) :
    Calls Try.prog 44 #[.int .i64 v, .agg #[.bool false, .bool sg], .agg (bs b)] w fun e w' => e = .returned (.agg (bs (ofK (fun _ => 0) v (fun i => laI sg b h (i : Int)) L))) ∧ Gr w w' := by
  have HB := Lib.hid hb
  have CL : ∀ w, Calls Try.prog 49 #[.int .i64 v] w fun e w' => e = .returned (.int .i64 (L : Int)) ∧ Gr w w' := fun w => by rw [← hL]; exact calls_gr (lanes_any v w)
  clear hb hL
  have hS := St.start w
  have XCL := Lib.hid CL
  clear CL
  go_enter Try.func44, Try.ntmps44
  go_upto_region 0 with (fail)
  try refine wp_region_lit ?_
  iterate 3 ((first | (refine sl_load hS rfl 35 _ rfl rfl (by repeat (first | exact Has.hd | apply Has.tl)) Try.underlying35 rfl (by exact infoV) ?_) | (refine sl_store hS rfl 35 _ _ rfl rfl rfl (by repeat (first | exact Rep.hd | apply Rep.tl)) (by exact infoV) (by rfl) (bs_one _) ?_; clear hS; intro wk hS) | ((with_reducible show wpList _ _ _ (⟨_, .box 83 _, _, _, _, _⟩ :: _) _ _); refine sl_new hS rfl #[.bool false, .bool sg] 83 (fun b => .pointer (some ⟨b, 0, none⟩)) (by intro w; go_simp) ?_; clear hS; intro p wk hS) | ((with_reducible show wpList _ _ _ (⟨_, .box 35 _, _, _, _, _⟩ :: _) _ _); refine sl_box hS rfl _ 35 (box_vec rfl rfl) ?_; clear hS; intro q wk hS) | ((with_reducible show wpList _ _ _ (⟨_, .alloc 35 , _, _, _, _⟩ :: _) _ _); refine sl_box hS rfl _ 35 (alloc_vec rfl) ?_; clear hS; intro r wk hS) | (apply sl_val rfl; focus (intro w; go_simp; (try simp (disch := omega) only [IntWalk.i64_in, IntWalk.u64_in, IntWalk.u8_in, IntWalk.u32_in, IntWalk.i32_in]); first | exact rfl | rfl)) | (refine sl_skip rfl ?_)); go_simp)
  go_upto_region 1 with (fail)
  try refine wp_region_lit ?_
  iterate 1 ((first | (refine sl_load hS rfl 35 _ rfl rfl (by repeat (first | exact Has.hd | apply Has.tl)) Try.underlying35 rfl (by exact infoV) ?_) | (refine sl_store hS rfl 35 _ _ rfl rfl rfl (by repeat (first | exact Rep.hd | apply Rep.tl)) (by exact infoV) (by rfl) (bs_one _) ?_; clear hS; intro wk hS) | ((with_reducible show wpList _ _ _ (⟨_, .alloc 35 , _, _, _, _⟩ :: _) _ _); refine sl_box hS rfl _ 35 (alloc_vec rfl) ?_; clear hS; intro t wk hS) | (apply sl_val rfl; focus (intro w; go_simp; (try simp (disch := omega) only [IntWalk.i64_in, IntWalk.u64_in, IntWalk.u8_in, IntWalk.u32_in, IntWalk.i32_in]); first | exact rfl | rfl)) | (refine sl_step (fun K hK => .inl ⟨rfl, ?_⟩); unfold Oper.wp; go_simp; (first | with_reducible refine sl_call hS (XCL.out _) ?_); clear hS; intro wk hS; refine hK _ _ ?_; clear hK K) | (refine sl_skip rfl ?_)); go_simp)
  go_upto_region 2 with (fail)
  try refine wp_region_lit ?_
  iterate 4 ((first | (refine sl_load hS rfl 35 _ rfl rfl (by repeat (first | exact Has.hd | apply Has.tl)) Try.underlying35 rfl (by exact infoV) ?_) | (refine sl_store hS rfl 35 _ _ rfl rfl rfl (by repeat (first | exact Rep.hd | apply Rep.tl)) (by exact infoV) (by rfl) (bs_one _) ?_; clear hS; intro wk hS) | ((with_reducible show wpList _ _ _ (⟨_, .alloc 35 , _, _, _, _⟩ :: _) _ _); refine sl_box hS rfl _ 35 (alloc_vec rfl) ?_; clear hS; intro t wk hS) | (apply sl_val rfl; focus (intro w; go_simp; (try simp (disch := omega) only [IntWalk.i64_in, IntWalk.u64_in, IntWalk.u8_in, IntWalk.u32_in, IntWalk.i32_in]); first | exact rfl | rfl)) | (refine sl_step (fun K hK => .inl ⟨rfl, ?_⟩); unfold Oper.wp; go_simp; (first | with_reducible refine sl_call hS (XCL.out _) ?_); clear hS; intro wk hS; refine hK _ _ ?_; clear hK K) | (refine sl_skip rfl ?_)); go_simp)
  go_upto_region 3 with (fail)
  try refine wp_region_lit ?_
  iterate 2 ((first | (refine sl_load hS rfl 35 _ rfl rfl (by repeat (first | exact Has.hd | apply Has.tl)) Try.underlying35 rfl (by exact infoV) ?_) | (refine sl_store hS rfl 35 _ _ rfl rfl rfl (by repeat (first | exact Rep.hd | apply Rep.tl)) (by exact infoV) (by rfl) (bs_one _) ?_; clear hS; intro wk hS) | (refine sl_cell hS rfl _ _ rfl rfl (by repeat (first | exact Has.hd | apply Has.tl)) (by rfl) (by intro w hc; go_simp) ?_) | (apply sl_val rfl; focus (intro w; go_simp; (try simp (disch := omega) only [IntWalk.i64_in, IntWalk.u64_in, IntWalk.u8_in, IntWalk.u32_in, IntWalk.i32_in]); first | exact rfl | rfl)) | (refine sl_skip rfl ?_)); go_simp)
  go_upto_region 5 with (fail)
  try refine wp_region_lit ?_
  iterate 2 ((first | (refine sl_load hS rfl 35 _ rfl rfl (by repeat (first | exact Has.hd | apply Has.tl)) Try.underlying35 rfl (by exact infoV) ?_) | (refine sl_store hS rfl 35 _ _ rfl rfl rfl (by repeat (first | exact Rep.hd | apply Rep.tl)) (by exact infoV) (by rfl) (bs_one _) ?_; clear hS; intro wk hS) | (refine sl_cell hS rfl _ _ rfl rfl (by repeat (first | exact Has.hd | apply Has.tl)) (by rfl) (by intro w hc; go_simp) ?_) | (apply sl_val rfl; focus (intro w; go_simp; (try simp (disch := omega) only [IntWalk.i64_in, IntWalk.u64_in, IntWalk.u8_in, IntWalk.u32_in, IntWalk.i32_in]); first | exact rfl | rfl)) | (refine sl_skip rfl ?_)); go_simp)
  go_wp2_with fail
  go_loopw [17] (fun u wr => ∃ k : Nat, k ≤ L ∧ u = .int .i64 k ∧ St w [⟨t, bs (ofK (fun _ => 0) v (fun i => laI sg b h (i : Int)) k), 35⟩, ⟨r, bs (fun _ => 0), 35⟩, ⟨q, bs b, 35⟩, ⟨p, #[.bool false, .bool sg], 83⟩] wr) (fun u _ => L - (intOf u).toNat)
  case atStart => exact ⟨0, by omega, rfl, hS⟩
  case round =>
    obtain ⟨k, hk, rfl, hS⟩ := hrel
    by_cases hlt : k < L
    · have C1 := fun w => lane_any sg b HB.out h (k : Int) w
      have HM := Lib.hid (show ofK (fun _ => 0) v (fun i => laI sg b h (i : Int)) (k + 1) = setI (ofK (fun _ => 0) v (fun i => laI sg b h (i : Int)) k) v k (laI sg b h (k : Int)) from rfl)
      have C2 := fun w => set_any (ofK (fun _ => 0) v (fun i => laI sg b h (i : Int)) k) v k (laI sg b h (k : Int)) w
      have T0 : IntKind.i64.wrap ((0 : Int) + (k : Int)) = (k : Int) := by rw [IntWalk.i64_in _ (by omega)]; omega
      have T1 : IntKind.i64.wrap ((k : Int) + 1) = (k : Int) + 1 := IntWalk.i64_in _ (by omega)
      have T2 : decide ((k : Int) < (L : Int)) = true := by simp; omega
      have T4 : IntKind.i64.wrap (k : Int) = (k : Int) := IntWalk.i64_in _ (by omega)
      have X2 := Lib.hid hlt
      generalize laI sg b h (k : Int) = x at *
      generalize hc0 : ofK (fun _ => 0) v (fun i => laI sg b h (i : Int)) k = c0 at *
      clear hc0 hlt hk
      have XC1 := Lib.hid C1
      clear C1
      have XC2 := Lib.hid C2
      clear C2
      go_upto_region 7 with (fail)
      try refine wp_region_lit ?_
      iterate 2 ((first | (refine sl_load hS rfl 35 _ rfl rfl (by repeat (first | exact Has.hd | apply Has.tl)) Try.underlying35 rfl (by exact infoV) ?_) | (refine sl_store hS rfl 35 _ _ rfl rfl rfl (by repeat (first | exact Rep.hd | apply Rep.tl)) (by exact infoV) (by rfl) (bs_one _) ?_; clear hS; intro wk hS) | (apply sl_val rfl; focus (intro w; go_simp; (try simp (disch := omega) only [IntWalk.i64_in, IntWalk.u64_in, IntWalk.u8_in, IntWalk.u32_in, IntWalk.i32_in]); first | exact rfl | rfl)) | (refine sl_skip rfl ?_)); go_simp)
      go_upto_region 8 with (fail)
      refine sm_tail 13 [] hS (by kernel_rfl) (by kernel_rfl) (fun β => ?_)
      simp only [List.take_succ_cons, List.take_zero, List.drop_succ_cons, List.drop_zero]
      iterate 13 (refine sm_step (fun K hK => ?_); (first | (refine sm_load rfl rfl 35 _ rfl rfl (by repeat (first | exact Has.hd | apply Has.tl)) Try.underlying35 rfl (by exact infoV) ?_) | (refine sm_lay rfl rfl (by intro w; go_simp) ?_) | (refine sm_build rfl rfl 35 _ rfl (bs fun _ => 0) (by first | (simp only [List.map_toArray, List.map_nil]; kernel_rfl) | (simp only [Array.map_empty]; kernel_rfl)) ?_) | (apply sm_yes rfl rfl; focus (intro wx hx; go_simp; first | (apply sm_enter (by kernel_rfl); first | fail | with_reducible exact XC1.out wx | with_reducible exact XC2.out wx) | exact ⟨rfl, Gr.refl _⟩)) | (refine sm_cell rfl rfl _ _ rfl rfl (by repeat (first | exact Has.hd | apply Has.tl)) (by rfl) (by intro w hc; go_simp) ?_) | (refine sm_val rfl rfl (run_add rfl rfl rfl T0) ?_) | (refine sm_no rfl rfl ?_)); go_simp; refine hK _ ?_; clear hK K)
      refine sm_nil ?_
      clear hS
      intro wk hS
      replace hS : St w [⟨t, bs c0, 35⟩, ⟨r, bs (fun _ => 0), 35⟩, ⟨q, bs b, 35⟩, ⟨p, #[.bool false, .bool sg], 83⟩] wk := hS
      go_wp2_with (first | (refine sl_load hS rfl 35 _ rfl rfl (by repeat (first | exact Has.hd | apply Has.tl)) Try.underlying35 rfl (by exact infoV) ?_) | (refine sl_store hS rfl 35 _ _ rfl rfl rfl (by repeat (first | exact Rep.hd | apply Rep.tl)) (by exact infoV) (by rfl) (bs_one _) ?_; clear hS; intro wk hS) | (refine sl_box hS rfl _ 35 (box_vec rfl rfl) ?_; clear hS; intro bk wk hS) | (refine sl_box hS rfl _ 35 (alloc_vec rfl) ?_; clear hS; intro bk wk hS) | (refine onlyN_end ?_) | (refine onlyN_now ?_))
      have X4 := X2.out
      exact ⟨⟨k + 1, by omega, by go_num, by rw [HM.out]; exact hS⟩, by simp [intOf]; omega⟩
    · obtain rfl : k = L := by omega
      go_wp2_with (first | (refine sl_load hS rfl 35 _ rfl rfl (by repeat (first | exact Has.hd | apply Has.tl)) Try.underlying35 rfl (by exact infoV) ?_) | (refine sl_store hS rfl 35 _ _ rfl rfl rfl (by repeat (first | exact Rep.hd | apply Rep.tl)) (by exact infoV) (by rfl) (bs_one _) ?_; clear hS; intro wk hS) | (refine sl_box hS rfl _ 35 (box_vec rfl rfl) ?_; clear hS; intro bk wk hS) | (refine sl_box hS rfl _ 35 (alloc_vec rfl) ?_; clear hS; intro bk wk hS) | (refine onlyN_end ?_) | (refine onlyN_now ?_))
      refine sl_ret hS Try.results44 (by rfl) (by repeat (first | exact Has.hd | apply Has.tl)) Try.underlying35 rfl (by exact infoV) (by rfl) ?_
      exact ⟨rfl, hS.gr⟩
theorem extend_any (v h : Int) (L : Nat) (hL : lanesI v = (L : Int)) (h16 : L ≤ 16) (hq : IntKind.i64.wrap (Int.tdiv v 2) = h) (hi sg : Bool) (b : Nat → Int) (hb : Byt b) (w : World) :
    Calls Try.prog 44 #[.int .i64 v, .agg #[.bool hi, .bool sg], .agg (bs b)] w fun e w' => e = .returned (.agg (bs (exV v h L hi sg b))) ∧ Gr w w' := by
  cases hi
  · exact extend_false v h L hL h16 hq sg b hb w
  · exact extend_true v h L hL h16 hq sg b hb w
def pwV (v h : Int) (L : Nat) (sg : Bool) (b : Nat → Int) : Nat → Int := ofK (fun _ => 0) v (fun i => IntKind.u64.wrap (laI sg b h (2 * i) + laI sg b h (2 * i + 1))) L
set_option maxHeartbeats 2000000 in
theorem pairwise_any (v h : Int) (L : Nat) (hL : lanesI v = (L : Int)) (h16 : L ≤ 16) (hq : IntKind.i64.wrap (Int.tdiv v 2) = h) (sg : Bool) (b : Nat → Int) (hb : Byt b) (w : World) :
    Calls Try.prog 46 #[.int .i64 v, .bool sg, .agg (bs b)] w fun e w' => e = .returned (.agg (bs (pwV v h L sg b))) ∧ Gr w w' := by
  have HB := Lib.hid hb
  have CL : ∀ w, Calls Try.prog 49 #[.int .i64 v] w fun e w' => e = .returned (.int .i64 (L : Int)) ∧ Gr w w' := fun w => by rw [← hL]; exact calls_gr (lanes_any v w)
  clear hb hL
  unfold pwV
  have hS := St.start w
  have XCL := Lib.hid CL
  clear CL
  go_enter Try.func46, Try.ntmps46
  go_upto_region 0 with (fail)
  try refine wp_region_lit ?_
  iterate 2 ((first | (refine sl_load hS rfl 35 _ rfl rfl (by repeat (first | exact Has.hd | apply Has.tl)) Try.underlying35 rfl (by exact infoV) ?_) | (refine sl_store hS rfl 35 _ _ rfl rfl rfl (by repeat (first | exact Rep.hd | apply Rep.tl)) (by exact infoV) (by rfl) (bs_one _) ?_; clear hS; intro wk hS) | ((with_reducible show wpList _ _ _ (⟨_, .box 35 _, _, _, _, _⟩ :: _) _ _); refine sl_box hS rfl _ 35 (box_vec rfl rfl) ?_; clear hS; intro q wk hS) | ((with_reducible show wpList _ _ _ (⟨_, .alloc 35 , _, _, _, _⟩ :: _) _ _); refine sl_box hS rfl _ 35 (alloc_vec rfl) ?_; clear hS; intro r wk hS) | (apply sl_val rfl; focus (intro w; go_simp; (try simp (disch := omega) only [IntWalk.i64_in, IntWalk.u64_in, IntWalk.u8_in, IntWalk.u32_in, IntWalk.i32_in]); first | exact rfl | rfl)) | (refine sl_step (fun K hK => .inl ⟨rfl, ?_⟩); unfold Oper.wp; go_simp; (first | with_reducible refine sl_call hS (XCL.out _) ?_); clear hS; intro wk hS; refine hK _ _ ?_; clear hK K) | (refine sl_skip rfl ?_)); go_simp)
  go_upto_region 1 with (fail)
  try refine wp_region_lit ?_
  iterate 1 ((first | (refine sl_load hS rfl 35 _ rfl rfl (by repeat (first | exact Has.hd | apply Has.tl)) Try.underlying35 rfl (by exact infoV) ?_) | (refine sl_store hS rfl 35 _ _ rfl rfl rfl (by repeat (first | exact Rep.hd | apply Rep.tl)) (by exact infoV) (by rfl) (bs_one _) ?_; clear hS; intro wk hS) | ((with_reducible show wpList _ _ _ (⟨_, .box 35 _, _, _, _, _⟩ :: _) _ _); refine sl_box hS rfl _ 35 (box_vec rfl rfl) ?_; clear hS; intro q wk hS) | ((with_reducible show wpList _ _ _ (⟨_, .alloc 35 , _, _, _, _⟩ :: _) _ _); refine sl_box hS rfl _ 35 (alloc_vec rfl) ?_; clear hS; intro t wk hS) | (apply sl_val rfl; focus (intro w; go_simp; (try simp (disch := omega) only [IntWalk.i64_in, IntWalk.u64_in, IntWalk.u8_in, IntWalk.u32_in, IntWalk.i32_in]); first | exact rfl | rfl)) | (refine sl_step (fun K hK => .inl ⟨rfl, ?_⟩); unfold Oper.wp; go_simp; (first | with_reducible refine sl_call hS (XCL.out _) ?_); clear hS; intro wk hS; refine hK _ _ ?_; clear hK K) | (refine sl_skip rfl ?_)); go_simp)
  go_upto_region 2 with (fail)
  try refine wp_region_lit ?_
  iterate 3 ((first | (refine sl_load hS rfl 35 _ rfl rfl (by repeat (first | exact Has.hd | apply Has.tl)) Try.underlying35 rfl (by exact infoV) ?_) | (refine sl_store hS rfl 35 _ _ rfl rfl rfl (by repeat (first | exact Rep.hd | apply Rep.tl)) (by exact infoV) (by rfl) (bs_one _) ?_; clear hS; intro wk hS) | ((with_reducible show wpList _ _ _ (⟨_, .box 35 _, _, _, _, _⟩ :: _) _ _); refine sl_box hS rfl _ 35 (box_vec rfl rfl) ?_; clear hS; intro q wk hS) | ((with_reducible show wpList _ _ _ (⟨_, .alloc 35 , _, _, _, _⟩ :: _) _ _); refine sl_box hS rfl _ 35 (alloc_vec rfl) ?_; clear hS; intro t wk hS) | (apply sl_val rfl; focus (intro w; go_simp; (try simp (disch := omega) only [IntWalk.i64_in, IntWalk.u64_in, IntWalk.u8_in, IntWalk.u32_in, IntWalk.i32_in]); first | exact rfl | rfl)) | (refine sl_step (fun K hK => .inl ⟨rfl, ?_⟩); unfold Oper.wp; go_simp; (first | with_reducible refine sl_call hS (XCL.out _) ?_); clear hS; intro wk hS; refine hK _ _ ?_; clear hK K) | (refine sl_skip rfl ?_)); go_simp)
  go_wp2_with fail
  go_loopw [12] (fun u wr => ∃ k : Nat, k ≤ L ∧ u = .int .i64 k ∧ St w [⟨t, bs (ofK (fun _ => 0) v (fun i => IntKind.u64.wrap (laI sg b h (2 * i) + laI sg b h (2 * i + 1))) k), 35⟩, ⟨r, bs (fun _ => 0), 35⟩, ⟨q, bs b, 35⟩] wr) (fun u _ => L - (intOf u).toNat)
  case atStart => exact ⟨0, by omega, rfl, hS⟩
  case round =>
    obtain ⟨k, hk, rfl, hS⟩ := hrel
    by_cases hlt : k < L
    · have C1 := fun w => lane_any sg b HB.out h (2 * k) w
      have C3 := fun w => lane_any sg b HB.out h (2 * k + 1) w
      have HM := Lib.hid (show ofK (fun _ => 0) v (fun i => IntKind.u64.wrap (laI sg b h (2 * i) + laI sg b h (2 * i + 1))) (k + 1) = setI (ofK (fun _ => 0) v (fun i => IntKind.u64.wrap (laI sg b h (2 * i) + laI sg b h (2 * i + 1))) k) v k (IntKind.u64.wrap (laI sg b h (2 * k) + laI sg b h (2 * k + 1))) from rfl)
      have C2 := fun w => set_any (ofK (fun _ => 0) v (fun i => IntKind.u64.wrap (laI sg b h (2 * i) + laI sg b h (2 * i + 1))) k) v k (IntKind.u64.wrap (laI sg b h (2 * k) + laI sg b h (2 * k + 1))) w
      have T0 : IntKind.i64.wrap (2 * (k : Int)) = 2 * (k : Int) := IntWalk.i64_in _ (by omega)
      have T1 : IntKind.i64.wrap ((k : Int) + 1) = (k : Int) + 1 := IntWalk.i64_in _ (by omega)
      have T2 : decide ((k : Int) < (L : Int)) = true := by simp; omega
      have T3 : IntKind.i64.wrap (2 * (k : Int) + 1) = 2 * (k : Int) + 1 := IntWalk.i64_in _ (by omega)
      have X2 := Lib.hid hlt
      generalize laI sg b h (2 * k) = x at *
      generalize laI sg b h (2 * k + 1) = y at *
      obtain ⟨z, hz⟩ : ∃ z, IntKind.u64.wrap (x + y) = z := ⟨_, rfl⟩
      rw [hz] at C2 HM
      generalize hc0 : ofK (fun _ => 0) v (fun i => IntKind.u64.wrap (laI sg b h (2 * i) + laI sg b h (2 * i + 1))) k = c0 at *
      clear hc0 hlt hk
      have XC1 := Lib.hid C1
      clear C1
      have XC2 := Lib.hid C2
      clear C2
      have XC3 := Lib.hid C3
      clear C3
      go_upto_region 4 with (fail)
      try refine wp_region_lit ?_
      iterate 2 ((first | (refine sl_load hS rfl 35 _ rfl rfl (by repeat (first | exact Has.hd | apply Has.tl)) Try.underlying35 rfl (by exact infoV) ?_) | (refine sl_store hS rfl 35 _ _ rfl rfl rfl (by repeat (first | exact Rep.hd | apply Rep.tl)) (by exact infoV) (by rfl) (bs_one _) ?_; clear hS; intro wk hS) | (apply sl_val rfl; focus (intro w; go_simp; (try simp (disch := omega) only [IntWalk.i64_in, IntWalk.u64_in, IntWalk.u8_in, IntWalk.u32_in, IntWalk.i32_in]); first | exact rfl | rfl)) | (refine sl_skip rfl ?_)); go_simp)
      go_upto_region 5 with (fail)
      refine sm_all [] hS (by kernel_rfl) (by kernel_rfl) (fun β => ?_)
      repeat (refine sm_step (fun K hK => ?_); (first | (refine sm_load rfl rfl 35 _ rfl rfl (by repeat (first | exact Has.hd | apply Has.tl)) Try.underlying35 rfl (by exact infoV) ?_) | (refine sm_lay rfl rfl (by intro w; go_simp) ?_) | (refine sm_build rfl rfl 35 _ rfl (bs fun _ => 0) (by first | (simp only [List.map_toArray, List.map_nil]; kernel_rfl) | (simp only [Array.map_empty]; kernel_rfl)) ?_) | (apply sm_yes rfl rfl; focus (intro wx hx; go_simp; first | (apply sm_enter (by kernel_rfl); first | fail | with_reducible exact XC1.out wx | with_reducible exact XC3.out wx) | exact ⟨rfl, Gr.refl _⟩)) | (refine sm_val rfl rfl (run_mul rfl rfl rfl T0) ?_) | (refine sm_val rfl rfl (run_add rfl rfl rfl T3) ?_) | (refine sm_val rfl rfl (run_add rfl rfl rfl hz) ?_) | (refine sm_no rfl rfl ?_)); go_simp; refine hK _ ?_; clear hK K)
      refine sm_nil ?_
      clear hS
      intro wk hS
      replace hS : St w [⟨t, bs c0, 35⟩, ⟨r, bs (fun _ => 0), 35⟩, ⟨q, bs b, 35⟩] wk := hS
      go_upto_region 6 with (fail)
      try refine wp_region_lit ?_
      iterate 6 ((first | (refine sl_load hS rfl 35 _ rfl rfl (by repeat (first | exact Has.hd | apply Has.tl)) Try.underlying35 rfl (by exact infoV) ?_) | (refine sl_store hS rfl 35 _ _ rfl rfl rfl (by repeat (first | exact Rep.hd | apply Rep.tl)) (by exact infoV) (by rfl) (bs_one _) ?_; clear hS; intro wk hS) | (apply sl_val rfl; focus (intro w; go_simp; (try simp (disch := omega) only [IntWalk.i64_in, IntWalk.u64_in, IntWalk.u8_in, IntWalk.u32_in, IntWalk.i32_in]); first | exact rfl | rfl)) | (refine sl_step (fun K hK => .inl ⟨rfl, ?_⟩); unfold Oper.wp; go_simp; (first | with_reducible refine sl_call hS (XC2.out _) ?_); clear hS; intro wk hS; refine hK _ _ ?_; clear hK K) | (refine sl_skip rfl ?_)); go_simp)
      go_wp2_with (first | (refine sl_load hS rfl 35 _ rfl rfl (by repeat (first | exact Has.hd | apply Has.tl)) Try.underlying35 rfl (by exact infoV) ?_) | (refine sl_store hS rfl 35 _ _ rfl rfl rfl (by repeat (first | exact Rep.hd | apply Rep.tl)) (by exact infoV) (by rfl) (bs_one _) ?_; clear hS; intro wk hS) | (refine sl_box hS rfl _ 35 (box_vec rfl rfl) ?_; clear hS; intro bk wk hS) | (refine sl_box hS rfl _ 35 (alloc_vec rfl) ?_; clear hS; intro bk wk hS) | (refine onlyN_end ?_) | (refine onlyN_now ?_))
      have X4 := X2.out
      exact ⟨⟨k + 1, by omega, by go_num, by rw [HM.out]; exact hS⟩, by simp [intOf]; omega⟩
    · obtain rfl : k = L := by omega
      go_wp2_with (first | (refine sl_load hS rfl 35 _ rfl rfl (by repeat (first | exact Has.hd | apply Has.tl)) Try.underlying35 rfl (by exact infoV) ?_) | (refine sl_store hS rfl 35 _ _ rfl rfl rfl (by repeat (first | exact Rep.hd | apply Rep.tl)) (by exact infoV) (by rfl) (bs_one _) ?_; clear hS; intro wk hS) | (refine sl_box hS rfl _ 35 (box_vec rfl rfl) ?_; clear hS; intro bk wk hS) | (refine sl_box hS rfl _ 35 (alloc_vec rfl) ?_; clear hS; intro bk wk hS) | (refine onlyN_end ?_) | (refine onlyN_now ?_))
      refine sl_ret hS Try.results46 (by rfl) (by repeat (first | exact Has.hd | apply Has.tl)) Try.underlying35 rfl (by exact infoV) (by rfl) ?_
      exact ⟨rfl, hS.gr⟩
end Wd
end Go.Proofs.Ytmgkejpjljkfdaa
