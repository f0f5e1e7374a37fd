/-
  Of layer 8: widen.Un and Bin for all opcodes and vectors. Conditions: bytes.
-/
import Derived.Test.YtmgkejpjljkfdaaWdNa
namespace Go.Proofs.Ytmgkejpjljkfdaa
open Go.RowKit VecM
namespace Wd
def lan (v : Int) : Nat := (lanesI v).toNat
def exO (a op : Int) (b : Nat → Int) : Nat → Int := exV (xW a op) (xW a op / 2) (lan (xW a op)) (hiB (xD a op)) (sgB (xD a op)) b
def unV (op : Int) (b : Nat → Int) : Nat → Int := if xW 64903 op ≠ 0 then exO 64903 op b else if pwsW op ≠ 0 then pwV (pwsW op) (pwsW op / 2) (lan (pwsW op)) (pwsS op) b else fun _ => 0
def unE (op : Int) : Int := if xW 64903 op ≠ 0 then 0 else if pwsW op ≠ 0 then 0 else 1
theorem ext_o (a op : Int) (h : xW a op ≠ 0) (b : Nat → Int) (hb : Byt b) (p : Array Value) (hp : xP a op = p) (w : World) : Calls Try.prog 44 #[.int .i64 (xW a op), .agg p, .agg (bs b)] w fun e w' => e = .returned (.agg (bs (exO a op b))) ∧ Gr w w' := by
  subst hp
  unfold exO xP
  rw [if_neg h]
  rcases xW_cases a op with h0 | ⟨h1 | h1 | h1, _, _⟩
  · exact absurd h0 h
  · rw [h1]; exact extend_any 16 8 8 (by decide) (by decide) (by decide) _ _ b hb w
  · rw [h1]; exact extend_any 32 16 4 (by decide) (by decide) (by decide) _ _ b hb w
  · rw [h1]; exact extend_any 64 32 2 (by decide) (by decide) (by decide) _ _ b hb w
theorem pws_o (op : Int) (h : pwsW op ≠ 0) (b : Nat → Int) (hb : Byt b) (w : World) : Calls Try.prog 46 #[.int .i64 (pwsW op), .bool (pwsS op), .agg (bs b)] w fun e w' => e = .returned (.agg (bs (pwV (pwsW op) (pwsW op / 2) (lan (pwsW op)) (pwsS op) b))) ∧ Gr w w' := by
  rcases pwsW_cases op with h0 | h1 | h1
  · exact absurd h0 h
  · rw [h1]; exact pairwise_any 16 8 8 (by decide) (by decide) (by decide) _ b hb w
  · rw [h1]; exact pairwise_any 32 16 4 (by decide) (by decide) (by decide) _ b hb w
theorem xP_two (a op : Int) : ∃ p1 p2, xP a op = #[.bool p1, .bool p2] := by unfold xP; split <;> exact ⟨_, _, rfl⟩
set_option maxHeartbeats 4000000 in
theorem un_any (op : Int) (ho : -9223372036854775808 ≤ op ∧ op ≤ 9223372036854775807) (b : Nat → Int) (hb : Byt b) (w : World) : Calls Try.prog 23 #[.int .i64 op, .agg (bs b)] w fun e w' => e = .returned (.tuple #[.agg (bs (unV op b)), .int .i64 (unE op)]) ∧ Gr w w' := by
  have C1 := fun w => ext_any op ho w
  have C2 := fun w => pws_any op ho w
  have C3 := fun (h : xW 64903 op ≠ 0) p hp w => ext_o 64903 op h b hb p hp w
  have C4 := fun (h : pwsW op ≠ 0) w => pws_o op h b hb w
  obtain ⟨p1, p2, hp⟩ := xP_two 64903 op
  have C5 := fun h w => C3 h _ hp w
  rw [hp] at C1
  unfold unV unE
  clear C3 hp hb ho
  generalize exO 64903 op b = y1 at *
  generalize pwV (pwsW op) (pwsW op / 2) (lan (pwsW op)) (pwsS op) b = y2 at *
  generalize xW 64903 op = x at *
  generalize pwsW op = y at *
  generalize pwsS op = sg at *
  have hS := St.start w
  by_cases h0 : x = 0
  · have hx : ¬ x ≠ 0 := by omega
    rw [if_neg hx, if_neg hx]
    clear hx
    have t0 : (x != 0) = false := by rw [h0]; rfl
    by_cases h1 : y = 0
    · have hy : ¬ y ≠ 0 := by omega
      rw [if_neg hy, if_neg hy]
      clear hy
      have t1 : (y != 0) = false := by rw [h1]; rfl
      clear C4 C5 h0 h1
      have XC1 := Lib.hid C1
      clear C1
      have XC2 := Lib.hid C2
      clear C2
      have hS := hS
      go_enter Try.func23, Try.ntmps23
      go_upto_region 0 with (fail)
      refine wp_region_lit ?_
      refine sl_box hS rfl _ 35 (box_vec rfl rfl) ?_
      clear hS
      intro p wk hS
      go_upto_region 1 with (first | (refine sl_load hS rfl 35 _ rfl rfl (by repeat (first | exact Has.hd | apply Has.tl)) Try.underlying35 rfl (by exact infoV) ?_) | (refine sl_store hS rfl 35 _ _ rfl rfl rfl (by repeat (first | exact Rep.hd | apply Rep.tl)) (by exact infoV) (by rfl) (bs_one _) ?_; clear hS; intro wk hS) | (refine sl_box hS rfl _ 35 (box_vec rfl rfl) ?_; clear hS; intro bk wk hS) | (refine sl_box hS rfl _ 35 (alloc_vec rfl) ?_; clear hS; intro r wk hS) | (refine onlyN_end ?_) | (refine onlyN_now ?_))
      try refine wp_region_lit ?_
      iterate 8 ((first | (refine sl_load hS rfl 35 _ rfl rfl (by repeat (first | exact Has.hd | apply Has.tl)) Try.underlying35 rfl (by exact infoV) ?_) | (refine sl_store hS rfl 35 _ _ rfl rfl rfl (by repeat (first | exact Rep.hd | apply Rep.tl)) (by exact infoV) (by rfl) (bs_one _) ?_; clear hS; intro wk hS) | ((with_reducible show wpList _ _ _ (⟨_, .alloc 83 , _, _, _, _⟩ :: _) _ _); refine sl_new hS rfl #[.bool false, .bool false] 83 (fun b => .pointer (some ⟨b, 0, none⟩)) (by intro w; go_simp) ?_; clear hS; intro bp wk hS) | ((with_reducible show wpList _ _ _ (⟨_, .store 83 _ _, _, _, _, _⟩ :: _) _ _); refine sl_store hS rfl 83 _ _ rfl rfl rfl (by repeat (first | exact Rep.hd | apply Rep.tl)) (by kernel_rfl) (by rfl) (by kernel_rfl) ?_; clear hS; intro wk hS) | (apply sl_val rfl; focus (intro w; go_simp; (try simp (disch := omega) only [IntWalk.i64_in, IntWalk.u64_in, IntWalk.u8_in, IntWalk.u32_in, IntWalk.i32_in]); first | exact rfl | rfl)) | (refine sl_step (fun K hK => .inl ⟨rfl, ?_⟩); unfold Oper.wp; go_simp; (first | with_reducible refine sl_call hS (XC1.out _) ?_); clear hS; intro wk hS; refine hK _ _ ?_; clear hK K) | (refine sl_skip rfl ?_)); go_simp)
      go_upto_region 2 with (fail)
      try refine wp_region_lit ?_
      iterate 2 ((first | (refine sl_load hS rfl 35 _ rfl rfl (by repeat (first | exact Has.hd | apply Has.tl)) Try.underlying35 rfl (by exact infoV) ?_) | (refine sl_store hS rfl 35 _ _ rfl rfl rfl (by repeat (first | exact Rep.hd | apply Rep.tl)) (by exact infoV) (by rfl) (bs_one _) ?_; clear hS; intro wk hS) | (refine sl_val rfl (run_neq' rfl rfl rfl t0) ?_) | (apply sl_val rfl; focus (intro w; go_simp; (try simp (disch := omega) only [IntWalk.i64_in, IntWalk.u64_in, IntWalk.u8_in, IntWalk.u32_in, IntWalk.i32_in]); first | exact rfl | rfl)) | (refine sl_skip rfl ?_)); go_simp)
      go_upto_region 4 with (fail)
      try refine wp_region_lit ?_
      iterate 7 ((first | (refine sl_load hS rfl 35 _ rfl rfl (by repeat (first | exact Has.hd | apply Has.tl)) Try.underlying35 rfl (by exact infoV) ?_) | (refine sl_store hS rfl 35 _ _ rfl rfl rfl (by repeat (first | exact Rep.hd | apply Rep.tl)) (by exact infoV) (by rfl) (bs_one _) ?_; clear hS; intro wk hS) | (apply sl_val rfl; focus (intro w; go_simp; (try simp (disch := omega) only [IntWalk.i64_in, IntWalk.u64_in, IntWalk.u8_in, IntWalk.u32_in, IntWalk.i32_in]); first | exact rfl | rfl)) | (refine sl_step (fun K hK => .inl ⟨rfl, ?_⟩); unfold Oper.wp; go_simp; (first | with_reducible refine sl_call hS (XC2.out _) ?_); clear hS; intro wk hS; refine hK _ _ ?_; clear hK K) | (refine sl_skip rfl ?_)); go_simp)
      go_upto_region 5 with (fail)
      try refine wp_region_lit ?_
      iterate 2 ((first | (refine sl_load hS rfl 35 _ rfl rfl (by repeat (first | exact Has.hd | apply Has.tl)) Try.underlying35 rfl (by exact infoV) ?_) | (refine sl_store hS rfl 35 _ _ rfl rfl rfl (by repeat (first | exact Rep.hd | apply Rep.tl)) (by exact infoV) (by rfl) (bs_one _) ?_; clear hS; intro wk hS) | (refine sl_val rfl (run_neq' rfl rfl rfl t1) ?_) | (apply sl_val rfl; focus (intro w; go_simp; (try simp (disch := omega) only [IntWalk.i64_in, IntWalk.u64_in, IntWalk.u8_in, IntWalk.u32_in, IntWalk.i32_in]); first | exact rfl | rfl)) | (refine sl_skip rfl ?_)); go_simp)
      go_upto_region 7 with (fail)
      try refine wp_region_lit ?_
      iterate 3 ((first | (refine sl_load hS rfl 35 _ rfl rfl (by repeat (first | exact Has.hd | apply Has.tl)) Try.underlying35 rfl (by exact infoV) ?_) | (refine sl_store hS rfl 35 _ _ rfl rfl rfl (by repeat (first | exact Rep.hd | apply Rep.tl)) (by exact infoV) (by rfl) (bs_one _) ?_; clear hS; intro wk hS) | ((with_reducible show wpList _ _ _ (⟨_, .build 35 _, _, _, _, _⟩ :: _) _ _); refine wpList_build_at rfl 35 _ rfl (bs fun _ => 0) (by kernel_rfl) ?_) | (apply sl_val rfl; focus (intro w; go_simp; (try simp (disch := omega) only [IntWalk.i64_in, IntWalk.u64_in, IntWalk.u8_in, IntWalk.u32_in, IntWalk.i32_in]); first | exact rfl | rfl)) | (refine sl_skip rfl ?_)); go_simp)
      go_wp2_with fail
      refine sl_ret2 hS Try.results23 (by rfl) (by repeat (first | exact Has.hd | apply Has.tl)) Try.underlying35 rfl (by exact infoV) (by rfl) ?_
      exact ⟨rfl, hS.gr⟩
    · rw [if_pos h1, if_pos h1]
      have t1 : (y != 0) = true := by simp [h1]
      have C6 := C4 h1
      clear C4 C5 h0 h1
      have XC1 := Lib.hid C1
      clear C1
      have XC2 := Lib.hid C2
      clear C2
      have XC6 := Lib.hid C6
      clear C6
      go_enter Try.func23, Try.ntmps23
      go_upto_region 0 with (fail)
      refine wp_region_lit ?_
      refine sl_box hS rfl _ 35 (box_vec rfl rfl) ?_
      clear hS
      intro p wk hS
      go_upto_region 1 with (first | (refine sl_load hS rfl 35 _ rfl rfl (by repeat (first | exact Has.hd | apply Has.tl)) Try.underlying35 rfl (by exact infoV) ?_) | (refine sl_store hS rfl 35 _ _ rfl rfl rfl (by repeat (first | exact Rep.hd | apply Rep.tl)) (by exact infoV) (by rfl) (bs_one _) ?_; clear hS; intro wk hS) | (refine sl_box hS rfl _ 35 (box_vec rfl rfl) ?_; clear hS; intro bk wk hS) | (refine sl_box hS rfl _ 35 (alloc_vec rfl) ?_; clear hS; intro r wk hS) | (refine onlyN_end ?_) | (refine onlyN_now ?_))
      try refine wp_region_lit ?_
      iterate 8 ((first | (refine sl_load hS rfl 35 _ rfl rfl (by repeat (first | exact Has.hd | apply Has.tl)) Try.underlying35 rfl (by exact infoV) ?_) | (refine sl_store hS rfl 35 _ _ rfl rfl rfl (by repeat (first | exact Rep.hd | apply Rep.tl)) (by exact infoV) (by rfl) (bs_one _) ?_; clear hS; intro wk hS) | ((with_reducible show wpList _ _ _ (⟨_, .alloc 83 , _, _, _, _⟩ :: _) _ _); refine sl_new hS rfl #[.bool false, .bool false] 83 (fun b => .pointer (some ⟨b, 0, none⟩)) (by intro w; go_simp) ?_; clear hS; intro bp wk hS) | ((with_reducible show wpList _ _ _ (⟨_, .store 83 _ _, _, _, _, _⟩ :: _) _ _); refine sl_store hS rfl 83 _ _ rfl rfl rfl (by repeat (first | exact Rep.hd | apply Rep.tl)) (by kernel_rfl) (by rfl) (by kernel_rfl) ?_; clear hS; intro wk hS) | (apply sl_val rfl; focus (intro w; go_simp; (try simp (disch := omega) only [IntWalk.i64_in, IntWalk.u64_in, IntWalk.u8_in, IntWalk.u32_in, IntWalk.i32_in]); first | exact rfl | rfl)) | (refine sl_step (fun K hK => .inl ⟨rfl, ?_⟩); unfold Oper.wp; go_simp; (first | with_reducible refine sl_call hS (XC1.out _) ?_); clear hS; intro wk hS; refine hK _ _ ?_; clear hK K) | (refine sl_skip rfl ?_)); go_simp)
      go_upto_region 2 with (fail)
      try refine wp_region_lit ?_
      iterate 2 ((first | (refine sl_load hS rfl 35 _ rfl rfl (by repeat (first | exact Has.hd | apply Has.tl)) Try.underlying35 rfl (by exact infoV) ?_) | (refine sl_store hS rfl 35 _ _ rfl rfl rfl (by repeat (first | exact Rep.hd | apply Rep.tl)) (by exact infoV) (by rfl) (bs_one _) ?_; clear hS; intro wk hS) | (refine sl_val rfl (run_neq' rfl rfl rfl t0) ?_) | (apply sl_val rfl; focus (intro w; go_simp; (try simp (disch := omega) only [IntWalk.i64_in, IntWalk.u64_in, IntWalk.u8_in, IntWalk.u32_in, IntWalk.i32_in]); first | exact rfl | rfl)) | (refine sl_skip rfl ?_)); go_simp)
      go_upto_region 4 with (fail)
      try refine wp_region_lit ?_
      iterate 7 ((first | (refine sl_load hS rfl 35 _ rfl rfl (by repeat (first | exact Has.hd | apply Has.tl)) Try.underlying35 rfl (by exact infoV) ?_) | (refine sl_store hS rfl 35 _ _ rfl rfl rfl (by repeat (first | exact Rep.hd | apply Rep.tl)) (by exact infoV) (by rfl) (bs_one _) ?_; clear hS; intro wk hS) | (apply sl_val rfl; focus (intro w; go_simp; (try simp (disch := omega) only [IntWalk.i64_in, IntWalk.u64_in, IntWalk.u8_in, IntWalk.u32_in, IntWalk.i32_in]); first | exact rfl | rfl)) | (refine sl_step (fun K hK => .inl ⟨rfl, ?_⟩); unfold Oper.wp; go_simp; (first | with_reducible refine sl_call hS (XC2.out _) ?_); clear hS; intro wk hS; refine hK _ _ ?_; clear hK K) | (refine sl_skip rfl ?_)); go_simp)
      go_upto_region 5 with (fail)
      try refine wp_region_lit ?_
      iterate 2 ((first | (refine sl_load hS rfl 35 _ rfl rfl (by repeat (first | exact Has.hd | apply Has.tl)) Try.underlying35 rfl (by exact infoV) ?_) | (refine sl_store hS rfl 35 _ _ rfl rfl rfl (by repeat (first | exact Rep.hd | apply Rep.tl)) (by exact infoV) (by rfl) (bs_one _) ?_; clear hS; intro wk hS) | (refine sl_val rfl (run_neq' rfl rfl rfl t1) ?_) | (apply sl_val rfl; focus (intro w; go_simp; (try simp (disch := omega) only [IntWalk.i64_in, IntWalk.u64_in, IntWalk.u8_in, IntWalk.u32_in, IntWalk.i32_in]); first | exact rfl | rfl)) | (refine sl_skip rfl ?_)); go_simp)
      go_upto_region 6 with (fail)
      try refine wp_region_lit ?_
      iterate 6 ((first | (refine sl_load hS rfl 35 _ rfl rfl (by repeat (first | exact Has.hd | apply Has.tl)) Try.underlying35 rfl (by exact infoV) ?_) | (refine sl_store hS rfl 35 _ _ rfl rfl rfl (by repeat (first | exact Rep.hd | apply Rep.tl)) (by exact infoV) (by rfl) (bs_one _) ?_; clear hS; intro wk hS) | (apply sl_val rfl; focus (intro w; go_simp; (try simp (disch := omega) only [IntWalk.i64_in, IntWalk.u64_in, IntWalk.u8_in, IntWalk.u32_in, IntWalk.i32_in]); first | exact rfl | rfl)) | (refine sl_step (fun K hK => .inl ⟨rfl, ?_⟩); unfold Oper.wp; go_simp; (first | with_reducible refine sl_call hS (XC6.out _) ?_); clear hS; intro wk hS; refine hK _ _ ?_; clear hK K) | (refine sl_skip rfl ?_)); go_simp)
      go_wp2_with fail
      refine sl_ret2 hS Try.results23 (by rfl) (by repeat (first | exact Has.hd | apply Has.tl)) Try.underlying35 rfl (by exact infoV) (by rfl) ?_
      exact ⟨rfl, hS.gr⟩
  · rw [if_pos h0, if_pos h0]
    have t0 : (x != 0) = true := by simp [h0]
    have C6 := C5 h0
    clear C4 C5 h0
    have XC1 := Lib.hid C1
    clear C1
    have XC2 := Lib.hid C2
    clear C2
    have XC6 := Lib.hid C6
    clear C6
    go_enter Try.func23, Try.ntmps23
    go_upto_region 0 with (fail)
    refine wp_region_lit ?_
    refine sl_box hS rfl _ 35 (box_vec rfl rfl) ?_
    clear hS
    intro p wk hS
    go_upto_region 1 with (first | (refine sl_load hS rfl 35 _ rfl rfl (by repeat (first | exact Has.hd | apply Has.tl)) Try.underlying35 rfl (by exact infoV) ?_) | (refine sl_store hS rfl 35 _ _ rfl rfl rfl (by repeat (first | exact Rep.hd | apply Rep.tl)) (by exact infoV) (by rfl) (bs_one _) ?_; clear hS; intro wk hS) | (refine sl_box hS rfl _ 35 (box_vec rfl rfl) ?_; clear hS; intro bk wk hS) | (refine sl_box hS rfl _ 35 (alloc_vec rfl) ?_; clear hS; intro r wk hS) | (refine onlyN_end ?_) | (refine onlyN_now ?_))
    try refine wp_region_lit ?_
    iterate 8 ((first | (refine sl_load hS rfl 35 _ rfl rfl (by repeat (first | exact Has.hd | apply Has.tl)) Try.underlying35 rfl (by exact infoV) ?_) | (refine sl_store hS rfl 35 _ _ rfl rfl rfl (by repeat (first | exact Rep.hd | apply Rep.tl)) (by exact infoV) (by rfl) (bs_one _) ?_; clear hS; intro wk hS) | ((with_reducible show wpList _ _ _ (⟨_, .alloc 83 , _, _, _, _⟩ :: _) _ _); refine sl_new hS rfl #[.bool false, .bool false] 83 (fun b => .pointer (some ⟨b, 0, none⟩)) (by intro w; go_simp) ?_; clear hS; intro bp wk hS) | ((with_reducible show wpList _ _ _ (⟨_, .store 83 _ _, _, _, _, _⟩ :: _) _ _); refine sl_store hS rfl 83 _ _ rfl rfl rfl (by repeat (first | exact Rep.hd | apply Rep.tl)) (by kernel_rfl) (by rfl) (by kernel_rfl) ?_; clear hS; intro wk hS) | (apply sl_val rfl; focus (intro w; go_simp; (try simp (disch := omega) only [IntWalk.i64_in, IntWalk.u64_in, IntWalk.u8_in, IntWalk.u32_in, IntWalk.i32_in]); first | exact rfl | rfl)) | (refine sl_step (fun K hK => .inl ⟨rfl, ?_⟩); unfold Oper.wp; go_simp; (first | with_reducible refine sl_call hS (XC1.out _) ?_); clear hS; intro wk hS; refine hK _ _ ?_; clear hK K) | (refine sl_skip rfl ?_)); go_simp)
    go_upto_region 2 with (fail)
    try refine wp_region_lit ?_
    iterate 2 ((first | (refine sl_load hS rfl 35 _ rfl rfl (by repeat (first | exact Has.hd | apply Has.tl)) Try.underlying35 rfl (by exact infoV) ?_) | (refine sl_store hS rfl 35 _ _ rfl rfl rfl (by repeat (first | exact Rep.hd | apply Rep.tl)) (by exact infoV) (by rfl) (bs_one _) ?_; clear hS; intro wk hS) | (refine sl_val rfl (run_neq' rfl rfl rfl t0) ?_) | (apply sl_val rfl; focus (intro w; go_simp; (try simp (disch := omega) only [IntWalk.i64_in, IntWalk.u64_in, IntWalk.u8_in, IntWalk.u32_in, IntWalk.i32_in]); first | exact rfl | rfl)) | (refine sl_skip rfl ?_)); go_simp)
    go_upto_region 3 with (fail)
    try refine wp_region_lit ?_
    iterate 6 ((first | (refine sl_load hS rfl 35 _ rfl rfl (by repeat (first | exact Has.hd | apply Has.tl)) Try.underlying35 rfl (by exact infoV) ?_) | (refine sl_store hS rfl 35 _ _ rfl rfl rfl (by repeat (first | exact Rep.hd | apply Rep.tl)) (by exact infoV) (by rfl) (bs_one _) ?_; clear hS; intro wk hS) | (refine sl_load hS rfl 83 _ rfl rfl (by repeat (first | exact Has.hd | apply Has.tl)) Try.underlying83 rfl (by kernel_rfl) ?_) | (apply sl_val rfl; focus (intro w; go_simp; (try simp (disch := omega) only [IntWalk.i64_in, IntWalk.u64_in, IntWalk.u8_in, IntWalk.u32_in, IntWalk.i32_in]); first | exact rfl | rfl)) | (refine sl_step (fun K hK => .inl ⟨rfl, ?_⟩); unfold Oper.wp; go_simp; (first | with_reducible refine sl_call hS (XC6.out _) ?_); clear hS; intro wk hS; refine hK _ _ ?_; clear hK K) | (refine sl_skip rfl ?_)); go_simp)
    go_wp2_with fail
    refine sl_ret2 hS Try.results23 (by rfl) (by repeat (first | exact Has.hd | apply Has.tl)) Try.underlying35 rfl (by exact infoV) (by rfl) ?_
    exact ⟨rfl, hS.gr⟩
def naO (op : Int) (a b : Nat → Int) : Nat → Int := if narS op then (if narW op = 8 then naK 8 16 8 (-128) 127 a b 8 else naK 16 32 4 (-32768) 32767 a b 4) else (if narW op = 8 then naK 8 16 8 0 255 a b 8 else naK 16 32 4 0 65535 a b 4)
def biV (op : Int) (a b : Nat → Int) : Nat → Int := if narW op ≠ 0 then naO op a b else if xW 64924 op ≠ 0 then muV (xW 64924 op) (lan (xW 64924 op)) (exO 64924 op a) (exO 64924 op b) else if op = 64954 then prV a b else if op = 64898 then roV a b else fun _ => 0
def biE (op : Int) : Int := if narW op ≠ 0 then 0 else if xW 64924 op ≠ 0 then 0 else if op = 64954 then 0 else if op = 64898 then 0 else 1
theorem exO_byt (a op : Int) (h : xW a op ≠ 0) {b : Nat → Int} (_hb : Byt b) : Byt (exO a op b) := by
  have h0 : Byt fun _ => 0 := fun _ => ⟨Int.le_refl _, by show (0 : Int) ≤ 255; decide⟩
  unfold exO exV
  split
  · exact ofK_byt h0 _ _ _
  · exact ofK_byt h0 _ _ _
end Wd
end Go.Proofs.Ytmgkejpjljkfdaa
