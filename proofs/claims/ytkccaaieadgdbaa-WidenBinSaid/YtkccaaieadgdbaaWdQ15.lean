/-
  WidenQ15: for all vectors the law returns true. Condition: bytes.
-/
import Derived.Test.YtkccaaieadgdbaaWdAw
namespace Go.Proofs.Ytkccaaieadgdbaa
open Go.RowKit VecM
namespace Wd
theorem ro_bi (a b : Nat → Int) : biV 64898 a b = roV a b := by
  unfold biV
  rw [if_neg (show ¬ narW 64898 ≠ 0 by decide), if_neg (show ¬ xW 64924 64898 ≠ 0 by decide), if_neg (show ¬ ((64898 : Int) = 64954) by decide), if_pos rfl]
theorem ro_byt (a b : Nat → Int) : Byt (roV a b) := ofK_byt byt0 _ _ _
theorem q15_bd (x y : Int) (h : -32768 ≤ x ∧ x ≤ 32767) (h' : -32768 ≤ y ∧ y ≤ 32767) : -32768 ≤ q15 (x * y) ∧ q15 (x * y) ≤ 32767 := by
  have := mul_bd x y h h'
  unfold q15
  split <;> omega
theorem sg_of (b : Nat → Int) (f : Nat → Int) (i : Nat) (hi : i < 8) (q : Int) (hq : -32768 ≤ q ∧ q ≤ 32767) (hf : f i = IntKind.u64.wrap q) : sgnI (ofK b 16 f 8) 16 i = q := by
  have ht : thereB 16 i = true := there_iff.2 ⟨by omega, by unfold lanesI; simp; omega⟩
  unfold sgnI
  rw [if_pos ht, get_ofK b 16 f i ht 8, if_pos hi, hf, wid16, IntKind.wrap_u64]
  unfold sg
  rw [show ((2 : Int) ^ (((16 : Int)).toNat - 1)) = 32768 by decide, show ((2 : Int) ^ ((16 : Int)).toNat) = 65536 by decide]
  split <;> omega
theorem ro_at (a b : Nat → Int) (ha : Byt a) (hb : Byt b) (i : Nat) (hi : i < 8) : sgnI (roV a b) 16 i = q15 (sgnI a 16 i * sgnI b 16 i) :=
  sg_of _ _ i hi _ (q15_bd _ _ (sg16_bd ha i) (sg16_bd hb i)) rfl
theorem ro_comm (a b : Nat → Int) : roV b a = roV a b := by
  unfold roV
  congr 1
  funext i
  rw [Int.mul_comm]
def hlf : Nat → Int := ofK (fun _ => 0) 16 (fun _ => 16384) (ofN 16 8)
theorem hlf_at (i : Nat) (hi : i < 8) : sgnI hlf 16 i = 16384 := sg_of _ _ i hi 16384 (by decide) (by decide)
theorem hlf_byt : Byt hlf := ofK_byt byt0 _ _ _
theorem q_half (x : Int) (h : -32768 ≤ x ∧ x ≤ 32767) : q15 (x * 16384) = (x + 1) / 2 := by
  unfold q15
  have e : (x * 16384 + 16384) / 32768 = (x + 1) / 2 := by omega
  rw [e, if_pos (by omega)]
theorem q_rest (x y : Int) (h : -32768 ≤ x ∧ x ≤ 32767) (h' : -32768 ≤ y ∧ y ≤ 32767) (hn : ¬ (x = -32768 ∧ y = -32768)) : -16384 ≤ x * y - q15 (x * y) * 32768 ∧ x * y - q15 (x * y) * 32768 < 16384 := by
  have hm : x * y ≤ 1073709056 := by
    by_cases hx : x = -32768
    · subst hx
      have : -32767 ≤ y := by omega
      omega
    · have e1 : (x + 32767) * (y + 32768) ≥ 0 := Int.mul_nonneg (by omega) (by omega)
      have e4 : (32767 - x) * (y + 32768) ≥ 0 := Int.mul_nonneg (by omega) (by omega)
      have e2 : (32767 - x) * (32767 - y) ≥ 0 := Int.mul_nonneg (by omega) (by omega)
      have e3 : (x + 32767) * (32767 - y) ≥ 0 := Int.mul_nonneg (by omega) (by omega)
      simp only [Int.add_mul, Int.sub_mul, Int.mul_add, Int.mul_sub] at e1 e2 e3 e4
      omega
  unfold q15
  split <;> omega
theorem q_both : q15 ((-32768) * (-32768)) = 32767 := by decide
set_option maxRecDepth 100000 in
set_option maxHeartbeats 16000000 in
theorem q15_walk (a b : Nat → Int) (ha : Byt a) (hb : Byt b) (w : World) : Calls Try.prog 8 #[.agg (bs a), .agg (bs b)] w fun e w' => e = .returned (.bool true) ∧ Gr w w' := by
  have C1 := fun w => bin_k 130 64898 (by omega) (by omega) a b ha hb w
  have C2 := fun w => bin_k 130 64898 (by omega) (by omega) a hlf ha hlf_byt w
  have C3 := fun w => bin_k 130 64898 (by omega) (by omega) b a hb ha w
  rw [ro_bi] at C1 C2 C3
  rw [ro_comm] at C3
  have HR := Lib.hid (fun i hi => ro_at a b ha hb i hi)
  have HH := Lib.hid (fun i hi => ro_at a hlf ha hlf_byt i hi)
  have HVB := Lib.hid (ro_byt a b)
  have HHB := Lib.hid (ro_byt a hlf)
  have HA := Lib.hid ha
  have HB := Lib.hid hb
  clear ha hb
  generalize roV a b = v at *
  generalize roV a hlf = h at *
  have hS := St.start w
  have XC1 := Lib.hid C1
  clear C1
  have XC2 := Lib.hid C2
  clear C2
  have XC3 := Lib.hid C3
  clear C3
  go_enter Try.func8, Try.ntmps8
  go_upto_region 0 with (fail)
  refine wp_region_lit ?_
  refine sl_box hS rfl _ 23 (box_vec rfl rfl) ?_
  clear hS
  intro p wk hS
  refine sl_box hS rfl _ 23 (box_vec rfl rfl) ?_
  clear hS
  intro q wk hS
  go_upto_region 3 with (first | (refine sl_load hS rfl 23 _ rfl rfl (by repeat (first | exact Has.hd | apply Has.tl)) Try.underlying23 rfl (by exact infoV) ?_) | (refine sl_store hS rfl 23 _ _ rfl rfl rfl (by repeat (first | exact Rep.hd | apply Rep.tl)) (by exact infoV) (by rfl) (bs_one _) ?_; clear hS; intro wk hS) | (refine sl_box hS rfl _ 23 (box_vec rfl rfl) ?_; clear hS; intro bk wk hS) | (refine sl_box hS rfl _ 23 (alloc_vec rfl) ?_; clear hS; intro bk wk hS) | (refine onlyN_end ?_) | (refine onlyN_now ?_) | ((go_at_call 9); (with_reducible refine sl_call hS (awake _) ?_); clear hS; intro wk hS))
  try refine wp_region_lit ?_
  iterate 5 ((first | (refine sl_load hS rfl 23 _ rfl rfl (by repeat (first | exact Has.hd | apply Has.tl)) Try.underlying23 rfl (by exact infoV) ?_) | (refine sl_store hS rfl 23 _ _ rfl rfl rfl (by repeat (first | exact Rep.hd | apply Rep.tl)) (by exact infoV) (by rfl) (bs_one _) ?_; clear hS; intro wk hS) | ((with_reducible show wpList _ _ _ (⟨_, .alloc 23 , _, _, _, _⟩ :: _) _ _); refine sl_box hS rfl _ 23 (alloc_vec rfl) ?_; clear hS; intro tv wk hS) | (apply sl_val rfl; focus (intro w; go_simp; (try simp (disch := omega) only [IntWalk.i64_in, IntWalk.u64_in, IntWalk.u8_in, IntWalk.u32_in, IntWalk.i32_in]); first | exact rfl | rfl)) | (refine sl_step (fun K hK => .inl ⟨rfl, ?_⟩); unfold Oper.wp; go_simp; (first | with_reducible refine sl_call hS (XC1.out _) ?_); clear hS; intro wk hS; refine hK _ _ ?_; clear hK K) | (refine sl_skip rfl ?_)); go_simp)
  go_wp2_with (first | (refine sl_load hS rfl 23 _ rfl rfl (by repeat (first | exact Has.hd | apply Has.tl)) Try.underlying23 rfl (by exact infoV) ?_) | (refine sl_store hS rfl 23 _ _ rfl rfl rfl (by repeat (first | exact Rep.hd | apply Rep.tl)) (by exact infoV) (by rfl) (bs_one _) ?_; clear hS; intro wk hS) | (refine sl_box hS rfl _ 23 (box_vec rfl rfl) ?_; clear hS; intro bk wk hS) | (refine sl_box hS rfl _ 23 (alloc_vec rfl) ?_; clear hS; intro bk wk hS) | (refine onlyN_end ?_) | (refine onlyN_now ?_))
  go_loopw [6] (fun u wr => ∃ i : Nat, i ≤ 8 ∧ u = .int .i64 i ∧ St w [⟨tv, bs v, 23⟩, ⟨q, bs b, 23⟩, ⟨p, bs a, 23⟩] wr) (fun u _ => 8 - (intOf u).toNat)
  case atStart => exact ⟨0, by omega, rfl, hS⟩
  case round =>
    obtain ⟨i, hi, rfl, hS⟩ := hrel
    by_cases hlt : i < 8
    · have D1 := fun w => signed_any a HA.out 16 i w
      have D2 := fun w => signed_any b HB.out 16 i w
      have D3 := fun w => signed_any v HVB.out 16 i w
      have b1 := sg16_bd HA.out i
      have b2 := sg16_bd HB.out i
      rw [HR.out i hlt] at D3
      have T1 : IntKind.i64.wrap ((i : Int) + 1) = (i : Int) + 1 := IntWalk.i64_in _ (by omega)
      have T2 : decide ((i : Int) < 8) = true := by simp; omega
      have X2 := Lib.hid hlt
      clear hi hlt
      generalize sgnI a 16 i = x at *
      generalize sgnI b 16 i = y at *
      by_cases hc : x = -32768 ∧ y = -32768
      · obtain ⟨rfl, rfl⟩ := hc
        rw [q_both] at D3
        clear b1 b2
        have XD1 := Lib.hid D1
        clear D1
        have XD2 := Lib.hid D2
        clear D2
        have XD3 := Lib.hid D3
        clear D3
        go_upto_region 7 with (fail)
        try refine wp_region_lit ?_
        iterate 4 ((first | (refine sl_load hS rfl 23 _ rfl rfl (by repeat (first | exact Has.hd | apply Has.tl)) Try.underlying23 rfl (by exact infoV) ?_) | (refine sl_store hS rfl 23 _ _ rfl rfl rfl (by repeat (first | exact Rep.hd | apply Rep.tl)) (by exact infoV) (by rfl) (bs_one _) ?_; clear hS; intro wk hS) | (apply sl_val rfl; focus (intro w; go_simp; (try simp (disch := omega) only [IntWalk.i64_in, IntWalk.u64_in, IntWalk.u8_in, IntWalk.u32_in, IntWalk.i32_in]); first | exact rfl | rfl)) | (refine sl_step (fun K hK => .inl ⟨rfl, ?_⟩); unfold Oper.wp; go_simp; (first | with_reducible refine sl_call hS (XD1.out _) ?_ | with_reducible refine sl_call hS (XD2.out _) ?_ | with_reducible refine sl_call hS (XD3.out _) ?_); clear hS; intro wk hS; refine hK _ _ ?_; clear hK K) | (refine sl_skip rfl ?_)); go_simp)
        go_upto_region 8 with (fail)
        try refine wp_region_lit ?_
        iterate 4 ((first | (refine sl_load hS rfl 23 _ rfl rfl (by repeat (first | exact Has.hd | apply Has.tl)) Try.underlying23 rfl (by exact infoV) ?_) | (refine sl_store hS rfl 23 _ _ rfl rfl rfl (by repeat (first | exact Rep.hd | apply Rep.tl)) (by exact infoV) (by rfl) (bs_one _) ?_; clear hS; intro wk hS) | (apply sl_val rfl; focus (intro w; go_simp; (try simp (disch := omega) only [IntWalk.i64_in, IntWalk.u64_in, IntWalk.u8_in, IntWalk.u32_in, IntWalk.i32_in]); first | exact rfl | rfl)) | (refine sl_step (fun K hK => .inl ⟨rfl, ?_⟩); unfold Oper.wp; go_simp; (first | with_reducible refine sl_call hS (XD1.out _) ?_ | with_reducible refine sl_call hS (XD2.out _) ?_ | with_reducible refine sl_call hS (XD3.out _) ?_); clear hS; intro wk hS; refine hK _ _ ?_; clear hK K) | (refine sl_skip rfl ?_)); go_simp)
        go_upto_region 9 with (fail)
        try refine wp_region_lit ?_
        iterate 4 ((first | (refine sl_load hS rfl 23 _ rfl rfl (by repeat (first | exact Has.hd | apply Has.tl)) Try.underlying23 rfl (by exact infoV) ?_) | (refine sl_store hS rfl 23 _ _ rfl rfl rfl (by repeat (first | exact Rep.hd | apply Rep.tl)) (by exact infoV) (by rfl) (bs_one _) ?_; clear hS; intro wk hS) | (apply sl_val rfl; focus (intro w; go_simp; (try simp (disch := omega) only [IntWalk.i64_in, IntWalk.u64_in, IntWalk.u8_in, IntWalk.u32_in, IntWalk.i32_in]); first | exact rfl | rfl)) | (refine sl_step (fun K hK => .inl ⟨rfl, ?_⟩); unfold Oper.wp; go_simp; (first | with_reducible refine sl_call hS (XD1.out _) ?_ | with_reducible refine sl_call hS (XD2.out _) ?_ | with_reducible refine sl_call hS (XD3.out _) ?_); clear hS; intro wk hS; refine hK _ _ ?_; clear hK K) | (refine sl_skip rfl ?_)); go_simp)
        go_upto_region 10 with (fail)
        try refine wp_region_lit ?_
        iterate 6 ((first | (refine sl_load hS rfl 23 _ rfl rfl (by repeat (first | exact Has.hd | apply Has.tl)) Try.underlying23 rfl (by exact infoV) ?_) | (refine sl_store hS rfl 23 _ _ rfl rfl rfl (by repeat (first | exact Rep.hd | apply Rep.tl)) (by exact infoV) (by rfl) (bs_one _) ?_; clear hS; intro wk hS) | (apply sl_val rfl; focus (intro w; go_simp; (try simp (disch := omega) only [IntWalk.i64_in, IntWalk.u64_in, IntWalk.u8_in, IntWalk.u32_in, IntWalk.i32_in]); first | exact rfl | rfl)) | (refine sl_step (fun K hK => .inl ⟨rfl, ?_⟩); unfold Oper.wp; go_simp; (first | with_reducible refine sl_call hS (XD1.out _) ?_ | with_reducible refine sl_call hS (XD2.out _) ?_ | with_reducible refine sl_call hS (XD3.out _) ?_); clear hS; intro wk hS; refine hK _ _ ?_; clear hK K) | (refine sl_skip rfl ?_)); go_simp)
        go_upto_region 11 with (fail)
        try refine wp_region_lit ?_
        iterate 2 ((first | (refine sl_load hS rfl 23 _ rfl rfl (by repeat (first | exact Has.hd | apply Has.tl)) Try.underlying23 rfl (by exact infoV) ?_) | (refine sl_store hS rfl 23 _ _ rfl rfl rfl (by repeat (first | exact Rep.hd | apply Rep.tl)) (by exact infoV) (by rfl) (bs_one _) ?_; clear hS; intro wk hS) | (apply sl_val rfl; focus (intro w; go_simp; (try simp (disch := omega) only [IntWalk.i64_in, IntWalk.u64_in, IntWalk.u8_in, IntWalk.u32_in, IntWalk.i32_in]); first | exact rfl | rfl)) | (refine sl_step (fun K hK => .inl ⟨rfl, ?_⟩); unfold Oper.wp; go_simp; (first | with_reducible refine sl_call hS (XD1.out _) ?_ | with_reducible refine sl_call hS (XD2.out _) ?_ | with_reducible refine sl_call hS (XD3.out _) ?_); clear hS; intro wk hS; refine hK _ _ ?_; clear hK K) | (refine sl_skip rfl ?_)); go_simp)
        go_wp2_with fail
        have X4 := X2.out
        exact ⟨⟨i + 1, by omega, by go_num, hS⟩, by simp [intOf]; omega⟩
      · have hr := q_rest x y b1 b2 hc
        have hm := mul_bd x y b1 b2
        have hqb := q15_bd x y b1 b2
        obtain ⟨xy, hxy⟩ : ∃ z, x * y = z := ⟨_, rfl⟩
        rw [hxy] at D3 hr hm hqb
        generalize q15 xy = z at *
        have t1 : IntKind.i64.wrap (x * y) = xy := by rw [hxy]; exact IntWalk.i64_in _ (by omega)
        have t2 : IntKind.i64.wrap (z * 32768) = z * 32768 := IntWalk.i64_in _ (by omega)
        obtain ⟨rst, hrst⟩ : ∃ r, xy - z * 32768 = r := ⟨_, rfl⟩
        have t3 : IntKind.i64.wrap (xy - z * 32768) = rst := by rw [hrst]; exact IntWalk.i64_in _ (by omega)
        have t4 : decide (rst < -16384) = false := decide_eq_false (by omega)
        have t5 : decide (16384 ≤ rst) = false := decide_eq_false (by omega)
        have t6 : (x == -32768) = false ∨ (x == -32768) = true ∧ (y == -32768) = false := by
          by_cases hx : x = -32768
          · right; exact ⟨by simp [hx], beq_eq_false_iff_ne.2 fun hy => hc ⟨hx, hy⟩⟩
          · left; exact beq_eq_false_iff_ne.2 hx
        clear b1 b2 hc hr hm hqb hxy hrst
        have XD1 := Lib.hid D1
        clear D1
        have XD2 := Lib.hid D2
        clear D2
        have XD3 := Lib.hid D3
        clear D3
        rcases t6 with t6 | ⟨t6, t7⟩
        · as_aux_lemma =>
          go_upto_region 7 with (fail)
          try refine wp_region_lit ?_
          iterate 4 ((first | (refine sl_load hS rfl 23 _ rfl rfl (by repeat (first | exact Has.hd | apply Has.tl)) Try.underlying23 rfl (by exact infoV) ?_) | (refine sl_store hS rfl 23 _ _ rfl rfl rfl (by repeat (first | exact Rep.hd | apply Rep.tl)) (by exact infoV) (by rfl) (bs_one _) ?_; clear hS; intro wk hS) | (refine sl_val rfl (run_mul rfl rfl rfl t1) ?_) | (refine sl_val rfl (run_mul rfl rfl rfl t2) ?_) | (refine sl_val rfl (run_sub rfl rfl rfl t3) ?_) | (refine sl_val rfl (run_lss rfl rfl rfl t4) ?_) | (refine sl_val rfl (run_geq rfl rfl rfl t5) ?_) | (refine sl_val rfl (run_eql rfl rfl rfl t6) ?_) | (apply sl_val rfl; focus (intro w; go_simp; (try simp (disch := omega) only [IntWalk.i64_in, IntWalk.u64_in, IntWalk.u8_in, IntWalk.u32_in, IntWalk.i32_in]); first | exact rfl | rfl)) | (refine sl_step (fun K hK => .inl ⟨rfl, ?_⟩); unfold Oper.wp; go_simp; (first | with_reducible refine sl_call hS (XD1.out _) ?_ | with_reducible refine sl_call hS (XD2.out _) ?_ | with_reducible refine sl_call hS (XD3.out _) ?_); clear hS; intro wk hS; refine hK _ _ ?_; clear hK K) | (refine sl_skip rfl ?_)); go_simp)
          go_upto_region 8 with (fail)
          try refine wp_region_lit ?_
          iterate 4 ((first | (refine sl_load hS rfl 23 _ rfl rfl (by repeat (first | exact Has.hd | apply Has.tl)) Try.underlying23 rfl (by exact infoV) ?_) | (refine sl_store hS rfl 23 _ _ rfl rfl rfl (by repeat (first | exact Rep.hd | apply Rep.tl)) (by exact infoV) (by rfl) (bs_one _) ?_; clear hS; intro wk hS) | (refine sl_val rfl (run_mul rfl rfl rfl t1) ?_) | (refine sl_val rfl (run_mul rfl rfl rfl t2) ?_) | (refine sl_val rfl (run_sub rfl rfl rfl t3) ?_) | (refine sl_val rfl (run_lss rfl rfl rfl t4) ?_) | (refine sl_val rfl (run_geq rfl rfl rfl t5) ?_) | (refine sl_val rfl (run_eql rfl rfl rfl t6) ?_) | (apply sl_val rfl; focus (intro w; go_simp; (try simp (disch := omega) only [IntWalk.i64_in, IntWalk.u64_in, IntWalk.u8_in, IntWalk.u32_in, IntWalk.i32_in]); first | exact rfl | rfl)) | (refine sl_step (fun K hK => .inl ⟨rfl, ?_⟩); unfold Oper.wp; go_simp; (first | with_reducible refine sl_call hS (XD1.out _) ?_ | with_reducible refine sl_call hS (XD2.out _) ?_ | with_reducible refine sl_call hS (XD3.out _) ?_); clear hS; intro wk hS; refine hK _ _ ?_; clear hK K) | (refine sl_skip rfl ?_)); go_simp)
          go_upto_region 9 with (fail)
          try refine wp_region_lit ?_
          iterate 4 ((first | (refine sl_load hS rfl 23 _ rfl rfl (by repeat (first | exact Has.hd | apply Has.tl)) Try.underlying23 rfl (by exact infoV) ?_) | (refine sl_store hS rfl 23 _ _ rfl rfl rfl (by repeat (first | exact Rep.hd | apply Rep.tl)) (by exact infoV) (by rfl) (bs_one _) ?_; clear hS; intro wk hS) | (refine sl_val rfl (run_mul rfl rfl rfl t1) ?_) | (refine sl_val rfl (run_mul rfl rfl rfl t2) ?_) | (refine sl_val rfl (run_sub rfl rfl rfl t3) ?_) | (refine sl_val rfl (run_lss rfl rfl rfl t4) ?_) | (refine sl_val rfl (run_geq rfl rfl rfl t5) ?_) | (refine sl_val rfl (run_eql rfl rfl rfl t6) ?_) | (apply sl_val rfl; focus (intro w; go_simp; (try simp (disch := omega) only [IntWalk.i64_in, IntWalk.u64_in, IntWalk.u8_in, IntWalk.u32_in, IntWalk.i32_in]); first | exact rfl | rfl)) | (refine sl_step (fun K hK => .inl ⟨rfl, ?_⟩); unfold Oper.wp; go_simp; (first | with_reducible refine sl_call hS (XD1.out _) ?_ | with_reducible refine sl_call hS (XD2.out _) ?_ | with_reducible refine sl_call hS (XD3.out _) ?_); clear hS; intro wk hS; refine hK _ _ ?_; clear hK K) | (refine sl_skip rfl ?_)); go_simp)
          go_upto_region 10 with (fail)
          try refine wp_region_lit ?_
          iterate 6 ((first | (refine sl_load hS rfl 23 _ rfl rfl (by repeat (first | exact Has.hd | apply Has.tl)) Try.underlying23 rfl (by exact infoV) ?_) | (refine sl_store hS rfl 23 _ _ rfl rfl rfl (by repeat (first | exact Rep.hd | apply Rep.tl)) (by exact infoV) (by rfl) (bs_one _) ?_; clear hS; intro wk hS) | (refine sl_val rfl (run_mul rfl rfl rfl t1) ?_) | (refine sl_val rfl (run_mul rfl rfl rfl t2) ?_) | (refine sl_val rfl (run_sub rfl rfl rfl t3) ?_) | (refine sl_val rfl (run_lss rfl rfl rfl t4) ?_) | (refine sl_val rfl (run_geq rfl rfl rfl t5) ?_) | (refine sl_val rfl (run_eql rfl rfl rfl t6) ?_) | (apply sl_val rfl; focus (intro w; go_simp; (try simp (disch := omega) only [IntWalk.i64_in, IntWalk.u64_in, IntWalk.u8_in, IntWalk.u32_in, IntWalk.i32_in]); first | exact rfl | rfl)) | (refine sl_step (fun K hK => .inl ⟨rfl, ?_⟩); unfold Oper.wp; go_simp; (first | with_reducible refine sl_call hS (XD1.out _) ?_ | with_reducible refine sl_call hS (XD2.out _) ?_ | with_reducible refine sl_call hS (XD3.out _) ?_); clear hS; intro wk hS; refine hK _ _ ?_; clear hK K) | (refine sl_skip rfl ?_)); go_simp)
          go_upto_region 13 with (fail)
          try refine wp_region_lit ?_
          iterate 7 ((first | (refine sl_load hS rfl 23 _ rfl rfl (by repeat (first | exact Has.hd | apply Has.tl)) Try.underlying23 rfl (by exact infoV) ?_) | (refine sl_store hS rfl 23 _ _ rfl rfl rfl (by repeat (first | exact Rep.hd | apply Rep.tl)) (by exact infoV) (by rfl) (bs_one _) ?_; clear hS; intro wk hS) | (refine sl_val rfl (run_mul rfl rfl rfl t1) ?_) | (refine sl_val rfl (run_mul rfl rfl rfl t2) ?_) | (refine sl_val rfl (run_sub rfl rfl rfl t3) ?_) | (refine sl_val rfl (run_lss rfl rfl rfl t4) ?_) | (refine sl_val rfl (run_geq rfl rfl rfl t5) ?_) | (refine sl_val rfl (run_eql rfl rfl rfl t6) ?_) | (apply sl_val rfl; focus (intro w; go_simp; (try simp (disch := omega) only [IntWalk.i64_in, IntWalk.u64_in, IntWalk.u8_in, IntWalk.u32_in, IntWalk.i32_in]); first | exact rfl | rfl)) | (refine sl_step (fun K hK => .inl ⟨rfl, ?_⟩); unfold Oper.wp; go_simp; (first | with_reducible refine sl_call hS (XD1.out _) ?_ | with_reducible refine sl_call hS (XD2.out _) ?_ | with_reducible refine sl_call hS (XD3.out _) ?_); clear hS; intro wk hS; refine hK _ _ ?_; clear hK K) | (refine sl_skip rfl ?_)); go_simp)
          go_upto_region 14 with (fail)
          try refine wp_region_lit ?_
          iterate 6 ((first | (refine sl_load hS rfl 23 _ rfl rfl (by repeat (first | exact Has.hd | apply Has.tl)) Try.underlying23 rfl (by exact infoV) ?_) | (refine sl_store hS rfl 23 _ _ rfl rfl rfl (by repeat (first | exact Rep.hd | apply Rep.tl)) (by exact infoV) (by rfl) (bs_one _) ?_; clear hS; intro wk hS) | (refine sl_val rfl (run_mul rfl rfl rfl t1) ?_) | (refine sl_val rfl (run_mul rfl rfl rfl t2) ?_) | (refine sl_val rfl (run_sub rfl rfl rfl t3) ?_) | (refine sl_val rfl (run_lss rfl rfl rfl t4) ?_) | (refine sl_val rfl (run_geq rfl rfl rfl t5) ?_) | (refine sl_val rfl (run_eql rfl rfl rfl t6) ?_) | (apply sl_val rfl; focus (intro w; go_simp; (try simp (disch := omega) only [IntWalk.i64_in, IntWalk.u64_in, IntWalk.u8_in, IntWalk.u32_in, IntWalk.i32_in]); first | exact rfl | rfl)) | (refine sl_step (fun K hK => .inl ⟨rfl, ?_⟩); unfold Oper.wp; go_simp; (first | with_reducible refine sl_call hS (XD1.out _) ?_ | with_reducible refine sl_call hS (XD2.out _) ?_ | with_reducible refine sl_call hS (XD3.out _) ?_); clear hS; intro wk hS; refine hK _ _ ?_; clear hK K) | (refine sl_skip rfl ?_)); go_simp)
          go_wp2_with fail
          have X4 := X2.out
          exact ⟨⟨i + 1, by omega, by go_num, hS⟩, by simp [intOf]; omega⟩
        · as_aux_lemma =>
          go_upto_region 7 with (fail)
          try refine wp_region_lit ?_
          iterate 4 ((first | (refine sl_load hS rfl 23 _ rfl rfl (by repeat (first | exact Has.hd | apply Has.tl)) Try.underlying23 rfl (by exact infoV) ?_) | (refine sl_store hS rfl 23 _ _ rfl rfl rfl (by repeat (first | exact Rep.hd | apply Rep.tl)) (by exact infoV) (by rfl) (bs_one _) ?_; clear hS; intro wk hS) | (refine sl_val rfl (run_mul rfl rfl rfl t1) ?_) | (refine sl_val rfl (run_mul rfl rfl rfl t2) ?_) | (refine sl_val rfl (run_sub rfl rfl rfl t3) ?_) | (refine sl_val rfl (run_lss rfl rfl rfl t4) ?_) | (refine sl_val rfl (run_geq rfl rfl rfl t5) ?_) | (refine sl_val rfl (run_eql rfl rfl rfl t6) ?_) | (refine sl_val rfl (run_eql rfl rfl rfl t7) ?_) | (apply sl_val rfl; focus (intro w; go_simp; (try simp (disch := omega) only [IntWalk.i64_in, IntWalk.u64_in, IntWalk.u8_in, IntWalk.u32_in, IntWalk.i32_in]); first | exact rfl | rfl)) | (refine sl_step (fun K hK => .inl ⟨rfl, ?_⟩); unfold Oper.wp; go_simp; (first | with_reducible refine sl_call hS (XD1.out _) ?_ | with_reducible refine sl_call hS (XD2.out _) ?_ | with_reducible refine sl_call hS (XD3.out _) ?_); clear hS; intro wk hS; refine hK _ _ ?_; clear hK K) | (refine sl_skip rfl ?_)); go_simp)
          go_upto_region 8 with (fail)
          try refine wp_region_lit ?_
          iterate 4 ((first | (refine sl_load hS rfl 23 _ rfl rfl (by repeat (first | exact Has.hd | apply Has.tl)) Try.underlying23 rfl (by exact infoV) ?_) | (refine sl_store hS rfl 23 _ _ rfl rfl rfl (by repeat (first | exact Rep.hd | apply Rep.tl)) (by exact infoV) (by rfl) (bs_one _) ?_; clear hS; intro wk hS) | (refine sl_val rfl (run_mul rfl rfl rfl t1) ?_) | (refine sl_val rfl (run_mul rfl rfl rfl t2) ?_) | (refine sl_val rfl (run_sub rfl rfl rfl t3) ?_) | (refine sl_val rfl (run_lss rfl rfl rfl t4) ?_) | (refine sl_val rfl (run_geq rfl rfl rfl t5) ?_) | (refine sl_val rfl (run_eql rfl rfl rfl t6) ?_) | (refine sl_val rfl (run_eql rfl rfl rfl t7) ?_) | (apply sl_val rfl; focus (intro w; go_simp; (try simp (disch := omega) only [IntWalk.i64_in, IntWalk.u64_in, IntWalk.u8_in, IntWalk.u32_in, IntWalk.i32_in]); first | exact rfl | rfl)) | (refine sl_step (fun K hK => .inl ⟨rfl, ?_⟩); unfold Oper.wp; go_simp; (first | with_reducible refine sl_call hS (XD1.out _) ?_ | with_reducible refine sl_call hS (XD2.out _) ?_ | with_reducible refine sl_call hS (XD3.out _) ?_); clear hS; intro wk hS; refine hK _ _ ?_; clear hK K) | (refine sl_skip rfl ?_)); go_simp)
          go_upto_region 9 with (fail)
          try refine wp_region_lit ?_
          iterate 4 ((first | (refine sl_load hS rfl 23 _ rfl rfl (by repeat (first | exact Has.hd | apply Has.tl)) Try.underlying23 rfl (by exact infoV) ?_) | (refine sl_store hS rfl 23 _ _ rfl rfl rfl (by repeat (first | exact Rep.hd | apply Rep.tl)) (by exact infoV) (by rfl) (bs_one _) ?_; clear hS; intro wk hS) | (refine sl_val rfl (run_mul rfl rfl rfl t1) ?_) | (refine sl_val rfl (run_mul rfl rfl rfl t2) ?_) | (refine sl_val rfl (run_sub rfl rfl rfl t3) ?_) | (refine sl_val rfl (run_lss rfl rfl rfl t4) ?_) | (refine sl_val rfl (run_geq rfl rfl rfl t5) ?_) | (refine sl_val rfl (run_eql rfl rfl rfl t6) ?_) | (refine sl_val rfl (run_eql rfl rfl rfl t7) ?_) | (apply sl_val rfl; focus (intro w; go_simp; (try simp (disch := omega) only [IntWalk.i64_in, IntWalk.u64_in, IntWalk.u8_in, IntWalk.u32_in, IntWalk.i32_in]); first | exact rfl | rfl)) | (refine sl_step (fun K hK => .inl ⟨rfl, ?_⟩); unfold Oper.wp; go_simp; (first | with_reducible refine sl_call hS (XD1.out _) ?_ | with_reducible refine sl_call hS (XD2.out _) ?_ | with_reducible refine sl_call hS (XD3.out _) ?_); clear hS; intro wk hS; refine hK _ _ ?_; clear hK K) | (refine sl_skip rfl ?_)); go_simp)
          go_upto_region 10 with (fail)
          try refine wp_region_lit ?_
          iterate 6 ((first | (refine sl_load hS rfl 23 _ rfl rfl (by repeat (first | exact Has.hd | apply Has.tl)) Try.underlying23 rfl (by exact infoV) ?_) | (refine sl_store hS rfl 23 _ _ rfl rfl rfl (by repeat (first | exact Rep.hd | apply Rep.tl)) (by exact infoV) (by rfl) (bs_one _) ?_; clear hS; intro wk hS) | (refine sl_val rfl (run_mul rfl rfl rfl t1) ?_) | (refine sl_val rfl (run_mul rfl rfl rfl t2) ?_) | (refine sl_val rfl (run_sub rfl rfl rfl t3) ?_) | (refine sl_val rfl (run_lss rfl rfl rfl t4) ?_) | (refine sl_val rfl (run_geq rfl rfl rfl t5) ?_) | (refine sl_val rfl (run_eql rfl rfl rfl t6) ?_) | (refine sl_val rfl (run_eql rfl rfl rfl t7) ?_) | (apply sl_val rfl; focus (intro w; go_simp; (try simp (disch := omega) only [IntWalk.i64_in, IntWalk.u64_in, IntWalk.u8_in, IntWalk.u32_in, IntWalk.i32_in]); first | exact rfl | rfl)) | (refine sl_step (fun K hK => .inl ⟨rfl, ?_⟩); unfold Oper.wp; go_simp; (first | with_reducible refine sl_call hS (XD1.out _) ?_ | with_reducible refine sl_call hS (XD2.out _) ?_ | with_reducible refine sl_call hS (XD3.out _) ?_); clear hS; intro wk hS; refine hK _ _ ?_; clear hK K) | (refine sl_skip rfl ?_)); go_simp)
          go_upto_region 13 with (fail)
          try refine wp_region_lit ?_
          iterate 7 ((first | (refine sl_load hS rfl 23 _ rfl rfl (by repeat (first | exact Has.hd | apply Has.tl)) Try.underlying23 rfl (by exact infoV) ?_) | (refine sl_store hS rfl 23 _ _ rfl rfl rfl (by repeat (first | exact Rep.hd | apply Rep.tl)) (by exact infoV) (by rfl) (bs_one _) ?_; clear hS; intro wk hS) | (refine sl_val rfl (run_mul rfl rfl rfl t1) ?_) | (refine sl_val rfl (run_mul rfl rfl rfl t2) ?_) | (refine sl_val rfl (run_sub rfl rfl rfl t3) ?_) | (refine sl_val rfl (run_lss rfl rfl rfl t4) ?_) | (refine sl_val rfl (run_geq rfl rfl rfl t5) ?_) | (refine sl_val rfl (run_eql rfl rfl rfl t6) ?_) | (refine sl_val rfl (run_eql rfl rfl rfl t7) ?_) | (apply sl_val rfl; focus (intro w; go_simp; (try simp (disch := omega) only [IntWalk.i64_in, IntWalk.u64_in, IntWalk.u8_in, IntWalk.u32_in, IntWalk.i32_in]); first | exact rfl | rfl)) | (refine sl_step (fun K hK => .inl ⟨rfl, ?_⟩); unfold Oper.wp; go_simp; (first | with_reducible refine sl_call hS (XD1.out _) ?_ | with_reducible refine sl_call hS (XD2.out _) ?_ | with_reducible refine sl_call hS (XD3.out _) ?_); clear hS; intro wk hS; refine hK _ _ ?_; clear hK K) | (refine sl_skip rfl ?_)); go_simp)
          go_upto_region 14 with (fail)
          try refine wp_region_lit ?_
          iterate 6 ((first | (refine sl_load hS rfl 23 _ rfl rfl (by repeat (first | exact Has.hd | apply Has.tl)) Try.underlying23 rfl (by exact infoV) ?_) | (refine sl_store hS rfl 23 _ _ rfl rfl rfl (by repeat (first | exact Rep.hd | apply Rep.tl)) (by exact infoV) (by rfl) (bs_one _) ?_; clear hS; intro wk hS) | (refine sl_val rfl (run_mul rfl rfl rfl t1) ?_) | (refine sl_val rfl (run_mul rfl rfl rfl t2) ?_) | (refine sl_val rfl (run_sub rfl rfl rfl t3) ?_) | (refine sl_val rfl (run_lss rfl rfl rfl t4) ?_) | (refine sl_val rfl (run_geq rfl rfl rfl t5) ?_) | (refine sl_val rfl (run_eql rfl rfl rfl t6) ?_) | (refine sl_val rfl (run_eql rfl rfl rfl t7) ?_) | (apply sl_val rfl; focus (intro w; go_simp; (try simp (disch := omega) only [IntWalk.i64_in, IntWalk.u64_in, IntWalk.u8_in, IntWalk.u32_in, IntWalk.i32_in]); first | exact rfl | rfl)) | (refine sl_step (fun K hK => .inl ⟨rfl, ?_⟩); unfold Oper.wp; go_simp; (first | with_reducible refine sl_call hS (XD1.out _) ?_ | with_reducible refine sl_call hS (XD2.out _) ?_ | with_reducible refine sl_call hS (XD3.out _) ?_); clear hS; intro wk hS; refine hK _ _ ?_; clear hK K) | (refine sl_skip rfl ?_)); go_simp)
          go_wp2_with fail
          have X4 := X2.out
          exact ⟨⟨i + 1, by omega, by go_num, hS⟩, by simp [intOf]; omega⟩
    · obtain rfl : i = 8 := by omega
      clear hi hlt
      go_upto_region 16 with (fail)
      refine wp_region_lit ?_
      refine sl_new hS rfl #[.int .u64 16384, .int .u64 16384, .int .u64 16384, .int .u64 16384, .int .u64 16384, .int .u64 16384, .int .u64 16384, .int .u64 16384] 33 (fun b => .slice (some ⟨b, 0, none⟩) 8 8) (by intro w; go_simp) ?_
      clear hS
      intro s1 wk hS
      have hx := hS
      have HO := Lib.hid (aw_ofc 16 (fun _ => 16384) 8 #[.int .u64 16384, .int .u64 16384, .int .u64 16384, .int .u64 16384, .int .u64 16384, .int .u64 16384, .int .u64 16384, .int .u64 16384] (show _ = hlf from rfl) hx Has.hd (fun j hj => by match j, hj with | 0, _ => rfl | 1, _ => rfl | 2, _ => rfl | 3, _ => rfl | 4, _ => rfl | 5, _ => rfl | 6, _ => rfl | 7, _ => rfl) (by decide))
      clear hx
      go_upto_region 17 with (first | (refine sl_load hS rfl 23 _ rfl rfl (by repeat (first | exact Has.hd | apply Has.tl)) Try.underlying23 rfl (by exact infoV) ?_) | (refine sl_store hS rfl 23 _ _ rfl rfl rfl (by repeat (first | exact Rep.hd | apply Rep.tl)) (by exact infoV) (by rfl) (bs_one _) ?_; clear hS; intro wk hS) | (refine sl_box hS rfl _ 23 (box_vec rfl rfl) ?_; clear hS; intro bk wk hS) | (refine sl_box hS rfl _ 23 (alloc_vec rfl) ?_; clear hS; intro th wk hS) | (refine onlyN_end ?_) | (refine onlyN_now ?_) | ((go_at_call 18); (with_reducible refine sl_call hS HO.out ?_); clear hS; intro wk hS))
      clear HO
      try refine wp_region_lit ?_
      iterate 5 ((first | (refine sl_load hS rfl 23 _ rfl rfl (by repeat (first | exact Has.hd | apply Has.tl)) Try.underlying23 rfl (by exact infoV) ?_) | (refine sl_store hS rfl 23 _ _ rfl rfl rfl (by repeat (first | exact Rep.hd | apply Rep.tl)) (by exact infoV) (by rfl) (bs_one _) ?_; clear hS; intro wk hS) | ((with_reducible show wpList _ _ _ (⟨_, .alloc 23 , _, _, _, _⟩ :: _) _ _); refine sl_box hS rfl _ 23 (alloc_vec rfl) ?_; clear hS; intro t12 wk hS) | (apply sl_val rfl; focus (intro w; go_simp; (try simp (disch := omega) only [IntWalk.i64_in, IntWalk.u64_in, IntWalk.u8_in, IntWalk.u32_in, IntWalk.i32_in]); first | exact rfl | rfl)) | (refine sl_step (fun K hK => .inl ⟨rfl, ?_⟩); unfold Oper.wp; go_simp; (first | with_reducible refine sl_call hS (XC2.out _) ?_); clear hS; intro wk hS; refine hK _ _ ?_; clear hK K) | (refine sl_skip rfl ?_)); go_simp)
      go_wp2_with (first | (refine sl_load hS rfl 23 _ rfl rfl (by repeat (first | exact Has.hd | apply Has.tl)) Try.underlying23 rfl (by exact infoV) ?_) | (refine sl_store hS rfl 23 _ _ rfl rfl rfl (by repeat (first | exact Rep.hd | apply Rep.tl)) (by exact infoV) (by rfl) (bs_one _) ?_; clear hS; intro wk hS) | (refine sl_box hS rfl _ 23 (box_vec rfl rfl) ?_; clear hS; intro bk wk hS) | (refine sl_box hS rfl _ 23 (alloc_vec rfl) ?_; clear hS; intro bk wk hS) | (refine onlyN_end ?_) | (refine onlyN_now ?_))
      go_loopw [13] (fun u wr => ∃ i : Nat, i ≤ 8 ∧ u = .int .i64 i ∧ St w [⟨t12, bs h, 23⟩, ⟨th, bs hlf, 23⟩, ⟨s1, #[.int .u64 16384, .int .u64 16384, .int .u64 16384, .int .u64 16384, .int .u64 16384, .int .u64 16384, .int .u64 16384, .int .u64 16384], 33⟩, ⟨tv, bs v, 23⟩, ⟨q, bs b, 23⟩, ⟨p, bs a, 23⟩] wr) (fun u _ => 8 - (intOf u).toNat)
      case atStart => exact ⟨0, by omega, rfl, hS⟩
      case round =>
        obtain ⟨i, hi, rfl, hS⟩ := hrel
        by_cases hlt : i < 8
        · have D1 := fun w => signed_any a HA.out 16 i w
          have D3 := fun w => signed_any h HHB.out 16 i w
          have b1 := sg16_bd HA.out i
          rw [HH.out i hlt, hlf_at i hlt, q_half _ b1] at D3
          have T1 : IntKind.i64.wrap ((i : Int) + 1) = (i : Int) + 1 := IntWalk.i64_in _ (by omega)
          have T2 : decide ((i : Int) < 8) = true := by simp; omega
          have X2 := Lib.hid hlt
          clear hi hlt
          generalize sgnI a 16 i = x at *
          have t1 : IntKind.i64.wrap (x + 1) = x + 1 := IntWalk.i64_in _ (by omega)
          have t2 : (x + 1).fdiv (2 ^ (min (1 : Int).toNat IntKind.i64.bits)) = (x + 1) / 2 := by
            rw [show (2 : Int) ^ (min (1 : Int).toNat IntKind.i64.bits) = 2 by decide, Int.fdiv_eq_ediv_of_nonneg _ (by decide)]
          generalize (x + 1) / 2 = z at *
          have t3 : (z != z) = false := by simp
          clear b1
          have XD1 := Lib.hid D1
          clear D1
          have XD3 := Lib.hid D3
          clear D3
          go_upto_region 21 with (fail)
          refine sm_all [] hS (by kernel_rfl) (by kernel_rfl) (fun β => ?_)
          repeat (refine sm_step (fun K hK => ?_); (first | (refine sm_load rfl rfl 23 _ rfl rfl (by repeat (first | exact Has.hd | apply Has.tl)) Try.underlying23 rfl (by exact infoV) ?_) | (refine sm_lay rfl rfl (by intro w; go_simp) ?_) | (refine sm_build rfl rfl 23 _ rfl (bs fun _ => 0) (by kernel_rfl) ?_) | (refine sm_val rfl rfl (run_add rfl rfl rfl t1) ?_) | (refine sm_val rfl rfl (run_shr rfl rfl rfl (by decide) t2) ?_) | (refine sm_val rfl rfl (run_neq' rfl rfl rfl t3) ?_) | (apply sm_yes rfl rfl; focus (intro wx hx; go_simp; first | (apply sm_enter (by kernel_rfl); first | fail | with_reducible exact XD1.out wx | with_reducible exact XD3.out wx) | exact ⟨rfl, Gr.refl _⟩)) | (refine sm_no rfl rfl ?_)); go_simp; refine hK _ ?_; clear hK K)
          refine sm_nil ?_
          clear hS
          intro wk hS
          replace hS : St w [⟨t12, bs h, 23⟩, ⟨th, bs hlf, 23⟩, ⟨s1, #[.int .u64 16384, .int .u64 16384, .int .u64 16384, .int .u64 16384, .int .u64 16384, .int .u64 16384, .int .u64 16384, .int .u64 16384], 33⟩, ⟨tv, bs v, 23⟩, ⟨q, bs b, 23⟩, ⟨p, bs a, 23⟩] wk := hS
          go_wp2_with (first | (refine sl_load hS rfl 23 _ rfl rfl (by repeat (first | exact Has.hd | apply Has.tl)) Try.underlying23 rfl (by exact infoV) ?_) | (refine sl_store hS rfl 23 _ _ rfl rfl rfl (by repeat (first | exact Rep.hd | apply Rep.tl)) (by exact infoV) (by rfl) (bs_one _) ?_; clear hS; intro wk hS) | (refine sl_box hS rfl _ 23 (box_vec rfl rfl) ?_; clear hS; intro bk wk hS) | (refine sl_box hS rfl _ 23 (alloc_vec rfl) ?_; clear hS; intro bk wk hS) | (refine onlyN_end ?_) | (refine onlyN_now ?_))
          have X4 := X2.out
          exact ⟨⟨i + 1, by omega, by go_num, hS⟩, by simp [intOf]; omega⟩
        · obtain rfl : i = 8 := by omega
          clear hi hlt
          have hq1 := fun w => eq_same v w
          go_upto_region 23 with (fail)
          refine sm_all [] hS (by kernel_rfl) (by kernel_rfl) (fun β => ?_)
          repeat (refine sm_step (fun K hK => ?_); (first | (refine sm_load rfl rfl 23 _ rfl rfl (by repeat (first | exact Has.hd | apply Has.tl)) Try.underlying23 rfl (by exact infoV) ?_) | (refine sm_lay rfl rfl (by intro w; go_simp) ?_) | (refine sm_build rfl rfl 23 _ rfl (bs fun _ => 0) (by kernel_rfl) ?_) | (apply sm_yes rfl rfl; focus (intro wx hx; go_simp; first | (apply sm_enter (by kernel_rfl); first | fail | with_reducible exact XC3.out wx) | exact ⟨rfl, Gr.refl _⟩)) | (refine sm_no rfl rfl ?_)); go_simp; refine hK _ ?_; clear hK K)
          refine sm_nil ?_
          clear hS
          intro wk hS
          replace hS : St w [⟨t12, bs h, 23⟩, ⟨th, bs hlf, 23⟩, ⟨s1, #[.int .u64 16384, .int .u64 16384, .int .u64 16384, .int .u64 16384, .int .u64 16384, .int .u64 16384, .int .u64 16384, .int .u64 16384], 33⟩, ⟨tv, bs v, 23⟩, ⟨q, bs b, 23⟩, ⟨p, bs a, 23⟩] wk := hS
          go_wp2
          go_ret
          exact ⟨rfl, hS.gr⟩
end Wd
end Go.Proofs.Ytkccaaieadgdbaa
