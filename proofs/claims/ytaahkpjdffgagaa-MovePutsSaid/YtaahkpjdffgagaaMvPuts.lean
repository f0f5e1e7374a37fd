/-
  MovePuts: for all vectors, lanes and numbers the law returns true. Conditions: bytes, 64 bits.
-/
import Derived.Test.YtaahkpjdffgagaaMvAw
import Derived.Test.YtaahkpjdffgagaaSlP
import Derived.IntWalk
namespace Go.Proofs.Ytaahkpjdffgagaa
open Go.RowKit VecM
namespace Mv
theorem spl_full (v : Nat → Int) (hv : Byt v) (x : Int) (w : Int) (hw : w = 8 ∨ w = 16 ∨ w = 32 ∨ w = 64) (n : Nat) (hn : lanesI w = n) : bs (splV w x) = bs (ofK v w (fun _ => x) n) := by
  unfold splV
  rw [hn, Int.toNat_natCast]
  refine bs_congr (ext (ofK_byt byt0 _ _ _) (ofK_byt hv _ _ _) w hw fun j hj => ?_)
  have hjn : j < n := by have := (there_iff.1 hj).2; rw [hn] at this; omega
  rw [get_ofK _ w _ j hj n, get_ofK _ w _ j hj n, if_pos hjn, if_pos hjn]
set_option maxRecDepth 100000 in
set_option maxHeartbeats 16000000 in
theorem puts_walk (v : Nat → Int) (hv : Byt v) (lane : Int) (x : Int) (hx : 0 ≤ x ∧ x < 18446744073709551616) (w : World) : Calls Try.prog 7 #[.agg (bs v), .int .i64 lane, .int .u64 x] w fun e w' => e = .returned (.bool true) ∧ Gr w w' := by
  have HV := Lib.hid hv
  have HX := Lib.hid hx
  clear hv hx
  have hS := St.start w
  go_enter Try.func7, Try.ntmps7
  go_upto_region 0 with (fail)
  refine wp_region_lit ?_
  refine sl_box hS rfl _ 26 (box_vec rfl rfl) ?_
  clear hS
  intro p wk hS
  go_upto_region 3 with (first | (refine sl_load hS rfl 26 _ rfl rfl (by repeat (first | exact Has.hd | apply Has.tl)) Try.underlying26 rfl (by exact infoV) ?_) | (refine sl_store hS rfl 26 _ _ rfl rfl rfl (by repeat (first | exact Rep.hd | apply Rep.tl)) (by exact infoV) (by rfl) (bs_one _) ?_; clear hS; intro wk hS) | (refine sl_box hS rfl _ 26 (box_vec rfl rfl) ?_; clear hS; intro bk wk hS) | (refine sl_box hS rfl _ 26 (alloc_vec rfl) ?_; clear hS; intro bk wk hS) | (refine onlyN_end ?_) | (refine onlyN_now ?_) | ((go_at_call 9); (with_reducible refine sl_call hS (awake _) ?_); clear hS; intro wk hS))
  try refine wp_region_lit ?_
  iterate 3 ((first | (refine sl_load hS rfl 26 _ rfl rfl (by repeat (first | exact Has.hd | apply Has.tl)) Try.underlying26 rfl (by exact infoV) ?_) | (refine sl_store hS rfl 26 _ _ rfl rfl rfl (by repeat (first | exact Rep.hd | apply Rep.tl)) (by exact infoV) (by rfl) (bs_one _) ?_; clear hS; intro wk hS) | ((with_reducible show wpList _ _ _ (⟨_, .build 41 _, _, _, _, _⟩ :: _) _ _); refine wpList_build_at rfl 41 _ rfl #[.int .i64 64791, .int .i64 64794, .int .i64 64796, .int .i64 64798] (by first | (simp only [List.map_toArray, List.map_cons, List.map_nil]; kernel_rfl) | kernel_rfl) ?_) | ((with_reducible show wpList _ _ _ (⟨_, .alloc 41 , _, _, _, _⟩ :: _) _ _); refine sl_new hS rfl #[.int .i64 0, .int .i64 0, .int .i64 0, .int .i64 0] 41 (fun b => .pointer (some ⟨b, 0, none⟩)) (by intro w; go_simp) ?_; clear hS; intro b7 wk hS) | ((with_reducible show wpList _ _ _ (⟨_, .store 41 _ _, _, _, _, _⟩ :: _) _ _); refine sl_store hS rfl 41 _ _ rfl rfl rfl (by repeat (first | exact Rep.hd | apply Rep.tl)) (by kernel_rfl) (by rfl) (by kernel_rfl) ?_; clear hS; intro wk hS) | (apply sl_val rfl; focus (intro w; go_simp; (try simp (disch := omega) only [IntWalk.i64_in, IntWalk.u64_in, IntWalk.u8_in, IntWalk.u32_in, IntWalk.i32_in]); first | exact rfl | rfl)) | (refine sl_skip rfl ?_)); go_simp)
  go_upto_region 4 with (fail)
  try refine wp_region_lit ?_
  iterate 3 ((first | (refine sl_load hS rfl 26 _ rfl rfl (by repeat (first | exact Has.hd | apply Has.tl)) Try.underlying26 rfl (by exact infoV) ?_) | (refine sl_store hS rfl 26 _ _ rfl rfl rfl (by repeat (first | exact Rep.hd | apply Rep.tl)) (by exact infoV) (by rfl) (bs_one _) ?_; clear hS; intro wk hS) | ((with_reducible show wpList _ _ _ (⟨_, .build 41 _, _, _, _, _⟩ :: _) _ _); refine wpList_build_at rfl 41 _ rfl #[.int .i64 64790, .int .i64 64793, .int .i64 64795, .int .i64 64797] (by first | (simp only [List.map_toArray, List.map_cons, List.map_nil]; kernel_rfl) | kernel_rfl) ?_) | ((with_reducible show wpList _ _ _ (⟨_, .alloc 41 , _, _, _, _⟩ :: _) _ _); refine sl_new hS rfl #[.int .i64 0, .int .i64 0, .int .i64 0, .int .i64 0] 41 (fun b => .pointer (some ⟨b, 0, none⟩)) (by intro w; go_simp) ?_; clear hS; intro b8 wk hS) | ((with_reducible show wpList _ _ _ (⟨_, .store 41 _ _, _, _, _, _⟩ :: _) _ _); refine sl_store hS rfl 41 _ _ rfl rfl rfl (by repeat (first | exact Rep.hd | apply Rep.tl)) (by kernel_rfl) (by rfl) (by kernel_rfl) ?_; clear hS; intro wk hS) | (apply sl_val rfl; focus (intro w; go_simp; (try simp (disch := omega) only [IntWalk.i64_in, IntWalk.u64_in, IntWalk.u8_in, IntWalk.u32_in, IntWalk.i32_in]); first | exact rfl | rfl)) | (refine sl_skip rfl ?_)); go_simp)
  go_wp2_with fail
  go_loopw [9] (fun u wr => ∃ k : Int, (k = 0 ∨ k = 1 ∨ k = 2 ∨ k = 3 ∨ k = 4) ∧ u = .int .i64 k ∧ St w [⟨b8, #[.int .i64 64790, .int .i64 64793, .int .i64 64795, .int .i64 64797], 41⟩, ⟨b7, #[.int .i64 64791, .int .i64 64794, .int .i64 64796, .int .i64 64798], 41⟩, ⟨p, bs v, 26⟩] wr) (fun u _ => (8 - intOf u).toNat)
  case atStart => exact ⟨0, by omega, rfl, hS⟩
  case round =>
    obtain ⟨k, hk, rfl, hS⟩ := hrel
    rcases hk with rfl | rfl | rfl | rfl | rfl
    · as_aux_lemma =>
      obtain ⟨i, hi, hr⟩ : ∃ i : Nat, i < 16 ∧ Int.tmod (IntKind.u64.wrap lane) 16 = (i : Int) := by
        have h0 : 0 ≤ IntKind.u64.wrap lane := by rw [IntKind.wrap_u64]; omega
        rw [Int.tmod_eq_emod_of_nonneg h0]
        exact ⟨(IntKind.u64.wrap lane % 16).toNat, by omega, by omega⟩
      have hi64 : IntKind.i64.wrap (i : Int) = (i : Int) := IntWalk.i64_in _ (by omega)
      have hti : thereB 8 i = true := (there_iff.2 ⟨by omega, by unfold lanesI; simp; omega⟩)
      have C1 := fun w => replace_any 64791 i x (by omega) v w
      rw [show reV 64791 i x v = setI v 8 i x by unfold reV; rw [show reW 64791 = 8 from rfl, if_pos hti], show reW 64791 = 8 from rfl, if_pos hti] at C1
      have hub : Byt (setI v 8 i x) := setI_byt HV.out _ _ _
      have hgi := get_set v 8 i x hti
      have hgo := fun (j : Nat) (h : i ≠ j) => get_set_other v 8 i j x (show (i : Int) ≠ (j : Int) by omega)
      generalize setI v 8 i x = u at *
      have HUB := Lib.hid hub
      have HGI := Lib.hid hgi
      have HGO := Lib.hid hgo
      obtain ⟨lw, hlw⟩ : ∃ z, IntKind.u64.wrap lane = z := ⟨_, rfl⟩
      rw [hlw] at hr
      have HI := Lib.hid hi
      clear hub hgi hgo hti hi
      have XC1 := Lib.hid C1
      clear C1
      have Xhr := Lib.hid hr
      clear hr
      go_upto_region 8 with (fail)
      try refine wp_region_lit ?_
      iterate 4 ((first | (refine sl_load hS rfl 26 _ rfl rfl (by repeat (first | exact Has.hd | apply Has.tl)) Try.underlying26 rfl (by exact infoV) ?_) | (refine sl_store hS rfl 26 _ _ rfl rfl rfl (by repeat (first | exact Rep.hd | apply Rep.tl)) (by exact infoV) (by rfl) (bs_one _) ?_; clear hS; intro wk hS) | (apply sl_val rfl; focus (intro w; go_simp; (try simp (disch := omega) only [IntWalk.i64_in, IntWalk.u64_in, IntWalk.u8_in, IntWalk.u32_in, IntWalk.i32_in]); first | exact rfl | rfl)) | (refine sl_skip rfl ?_)); go_simp)
      go_upto_region 9 with (fail)
      try refine wp_region_lit ?_
      iterate 3 ((first | (refine sl_load hS rfl 26 _ rfl rfl (by repeat (first | exact Has.hd | apply Has.tl)) Try.underlying26 rfl (by exact infoV) ?_) | (refine sl_store hS rfl 26 _ _ rfl rfl rfl (by repeat (first | exact Rep.hd | apply Rep.tl)) (by exact infoV) (by rfl) (bs_one _) ?_; clear hS; intro wk hS) | (apply sl_val rfl; focus (intro w; go_simp; (try simp (disch := omega) only [IntWalk.i64_in, IntWalk.u64_in, IntWalk.u8_in, IntWalk.u32_in, IntWalk.i32_in]); first | exact rfl | rfl)) | (refine sl_skip rfl ?_)); go_simp)
      go_upto_region 10 with (fail)
      try refine wp_region_lit ?_
      iterate 7 ((first | (refine sl_load hS rfl 26 _ rfl rfl (by repeat (first | exact Has.hd | apply Has.tl)) Try.underlying26 rfl (by exact infoV) ?_) | (refine sl_store hS rfl 26 _ _ rfl rfl rfl (by repeat (first | exact Rep.hd | apply Rep.tl)) (by exact infoV) (by rfl) (bs_one _) ?_; clear hS; intro wk hS) | (refine sl_val rfl (run_conv rfl rfl Try.underlying3 Try.underlying42 hlw) ?_) | (refine sl_val rfl (run_rem rfl rfl rfl (by decide) Xhr.out) ?_) | (refine sl_val rfl (run_conv rfl rfl Try.underlying42 Try.underlying3 hi64) ?_) | (apply sl_val rfl; focus (intro w; go_simp; (try simp (disch := omega) only [IntWalk.i64_in, IntWalk.u64_in, IntWalk.u8_in, IntWalk.u32_in, IntWalk.i32_in]); first | exact rfl | rfl)) | (refine sl_skip rfl ?_)); go_simp)
      go_upto_region 11 with (fail)
      refine sm_tail 11 [(10, ⟨(fun b => .pointer (some ⟨b, 0, none⟩)), bs fun _ => 0, 26⟩)] hS (by kernel_rfl) (by kernel_rfl) (fun β => ?_)
      simp only [List.take_succ_cons, List.take_zero, List.drop_succ_cons, List.drop_zero]
      iterate 11 (refine sm_step (fun K hK => ?_); (first | (refine sm_load rfl rfl 26 _ rfl rfl (by repeat (first | exact Has.hd | apply Has.tl)) Try.underlying26 rfl (by exact infoV) ?_) | (refine sm_lay rfl rfl (by intro w; go_simp) ?_) | (refine sm_build rfl rfl 26 _ rfl (bs fun _ => 0) (by first | (simp only [List.map_toArray, List.map_nil]; kernel_rfl) | (simp only [Array.map_empty]; kernel_rfl)) ?_) | (refine sm_cell rfl rfl _ _ rfl rfl (by repeat (first | exact Has.hd | apply Has.tl)) (by rfl) (by intro w hc; go_simp) ?_) | (apply sm_yes rfl rfl; focus (intro wx hx; go_simp; first | (apply sm_enter (by kernel_rfl); first | fail | with_reducible exact XC1.out wx) | exact ⟨rfl, Gr.refl _⟩)) | (refine sm_no rfl rfl ?_)); go_simp; refine hK _ ?_; clear hK K)
      refine sm_nil ?_
      clear hS
      intro wk hS
      replace hS : St w [⟨β 10, bs fun _ => 0, 26⟩, ⟨b8, #[.int .i64 64790, .int .i64 64793, .int .i64 64795, .int .i64 64797], 41⟩, ⟨b7, #[.int .i64 64791, .int .i64 64794, .int .i64 64796, .int .i64 64798], 41⟩, ⟨p, bs v, 26⟩] wk := hS
      generalize β 10 = tu at hS ⊢
      go_upto_region 14 with (first | (refine sl_load hS rfl 26 _ rfl rfl (by repeat (first | exact Has.hd | apply Has.tl)) Try.underlying26 rfl (by exact infoV) ?_) | (refine sl_store hS rfl 26 _ _ rfl rfl rfl (by repeat (first | exact Rep.hd | apply Rep.tl)) (by exact infoV) (by rfl) (bs_one _) ?_; clear hS; intro wk hS) | (refine sl_box hS rfl _ 26 (box_vec rfl rfl) ?_; clear hS; intro bk wk hS) | (refine sl_box hS rfl _ 26 (alloc_vec rfl) ?_; clear hS; intro bk wk hS) | (refine onlyN_end ?_) | (refine onlyN_now ?_))
      try refine wp_region_lit ?_
      iterate 3 ((first | (refine sl_load hS rfl 26 _ rfl rfl (by repeat (first | exact Has.hd | apply Has.tl)) Try.underlying26 rfl (by exact infoV) ?_) | (refine sl_store hS rfl 26 _ _ rfl rfl rfl (by repeat (first | exact Rep.hd | apply Rep.tl)) (by exact infoV) (by rfl) (bs_one _) ?_; clear hS; intro wk hS) | ((with_reducible show wpList _ _ _ (⟨_, .alloc 26 , _, _, _, _⟩ :: _) _ _); refine sl_box hS rfl _ 26 (alloc_vec rfl) ?_; clear hS; intro tf wk hS) | (apply sl_val rfl; focus (intro w; go_simp; (try simp (disch := omega) only [IntWalk.i64_in, IntWalk.u64_in, IntWalk.u8_in, IntWalk.u32_in, IntWalk.i32_in]); first | exact rfl | rfl)) | (refine sl_skip rfl ?_)); go_simp)
      go_wp2_with fail
      go_loopw [16] (fun g wr => ∃ j : Nat, j ≤ 16 ∧ g = .int .i64 j ∧ St w [⟨tf, bs (ofK v 8 (fun _ => x) j), 26⟩, ⟨tu, bs u, 26⟩, ⟨b8, #[.int .i64 64790, .int .i64 64793, .int .i64 64795, .int .i64 64797], 41⟩, ⟨b7, #[.int .i64 64791, .int .i64 64794, .int .i64 64796, .int .i64 64798], 41⟩, ⟨p, bs v, 26⟩] wr) (fun g _ => 16 - (intOf g).toNat)
      case atStart => exact ⟨0, by omega, rfl, hS⟩
      case round =>
        obtain ⟨j, hj, rfl, hS⟩ := hrel
        by_cases hlt : j < 16
        · have htj : thereB 8 j = true := (there_iff.2 ⟨by omega, by unfold lanesI; simp; omega⟩)
          have C2 := fun w => extract_any 64790 j (by omega) u HUB.out w
          have C3 := fun w => extract_any 64790 j (by omega) v HV.out w
          have C4 := fun w => replace_any 64791 j x (by omega) (ofK v 8 (fun _ => x) j) w
          have xo : ∀ b, exV 64790 j b = getI b 8 j := fun b => by unfold exV; rw [show exW 64790 = 8 from rfl, if_pos htj]; rfl
          rw [xo, show exW 64790 = 8 from rfl, if_pos htj] at C2 C3
          rw [show reV 64791 j x (ofK v 8 (fun _ => x) j) = (ofK v 8 (fun _ => x) (j + 1)) by unfold reV; rw [show reW 64791 = 8 from rfl, if_pos htj]; rfl, show reW 64791 = 8 from rfl, if_pos htj] at C4
          have T1 : IntKind.i64.wrap ((j : Int) + 1) = (j : Int) + 1 := IntWalk.i64_in _ (by omega)
          have T2 : decide ((j : Int) < 16) = true := by simp; omega
          have X2 := Lib.hid hlt
          have HIj := HI.out
          generalize hf0 : (ofK v 8 (fun _ => x) j) = f0 at *
          generalize hf1 : (ofK v 8 (fun _ => x) (j + 1)) = f1 at *
          have Xf1 := Lib.hid hf1
          clear hf0 hf1 htj xo hj hlt
          by_cases hij : i = j
          · subst hij
            have hg := HGI.out
            have T3 : ((i : Int) == (i : Int)) = true := by simp
            have hz1 : ∃ z, IntKind.u64.wrap (x * 2 ^ (min (56 : Int).toNat IntKind.u64.bits)) = z ∧ z.fdiv (2 ^ (min (56 : Int).toNat IntKind.u64.bits)) = getI u 8 i := by
              refine ⟨_, rfl, ?_⟩
              have hx := HX.out
              rw [hg, show (2 : Int) ^ (min (56 : Int).toNat IntKind.u64.bits) = 72057594037927936 by decide, Int.fdiv_eq_ediv_of_nonneg _ (by decide), IntKind.wrap_u64, wid8]
              omega
            obtain ⟨z, hz1, hz2⟩ := hz1
            generalize getI u 8 i = g at *
            have hn : (g != g) = false := by simp
            clear hg
            have XC2 := Lib.hid C2
            clear C2
            have XC3 := Lib.hid C3
            clear C3
            have XC4 := Lib.hid C4
            clear C4
            go_upto_region 18 with (fail)
            refine sm_all [] hS (by kernel_rfl) (by kernel_rfl) (fun β => ?_)
            repeat (refine sm_step (fun K hK => ?_); (first | (refine sm_load rfl rfl 26 _ rfl rfl (by repeat (first | exact Has.hd | apply Has.tl)) Try.underlying26 rfl (by exact infoV) ?_) | (refine sm_lay rfl rfl (by intro w; go_simp) ?_) | (refine sm_build rfl rfl 26 _ rfl (bs fun _ => 0) (by first | (simp only [List.map_toArray, List.map_nil]; kernel_rfl) | (simp only [Array.map_empty]; kernel_rfl)) ?_) | (refine sm_cell rfl rfl _ _ rfl rfl (by repeat (first | exact Has.hd | apply Has.tl)) (by rfl) (by intro w hc; go_simp) ?_) | (apply sm_yes rfl rfl; focus (intro wx hx; go_simp; first | (apply sm_enter (by kernel_rfl); first | fail | with_reducible exact XC2.out wx | with_reducible exact XC3.out wx) | exact ⟨rfl, Gr.refl _⟩)) | (refine sm_no rfl rfl ?_)); go_simp; refine hK _ ?_; clear hK K)
            refine sm_nil ?_
            clear hS
            intro wk hS
            replace hS : St w [⟨tf, bs f0, 26⟩, ⟨tu, bs u, 26⟩, ⟨b8, #[.int .i64 64790, .int .i64 64793, .int .i64 64795, .int .i64 64797], 41⟩, ⟨b7, #[.int .i64 64791, .int .i64 64794, .int .i64 64796, .int .i64 64798], 41⟩, ⟨p, bs v, 26⟩] wk := hS
            go_upto_region 19 with (fail)
            refine sm_all [] hS (by kernel_rfl) (by kernel_rfl) (fun β => ?_)
            repeat (refine sm_step (fun K hK => ?_); (first | (refine sm_load rfl rfl 26 _ rfl rfl (by repeat (first | exact Has.hd | apply Has.tl)) Try.underlying26 rfl (by exact infoV) ?_) | (refine sm_lay rfl rfl (by intro w; go_simp) ?_) | (refine sm_build rfl rfl 26 _ rfl (bs fun _ => 0) (by first | (simp only [List.map_toArray, List.map_nil]; kernel_rfl) | (simp only [Array.map_empty]; kernel_rfl)) ?_) | (refine sm_cell rfl rfl _ _ rfl rfl (by repeat (first | exact Has.hd | apply Has.tl)) (by rfl) (by intro w hc; go_simp) ?_) | (apply sm_yes rfl rfl; focus (intro wx hx; go_simp; first | (apply sm_enter (by kernel_rfl); first | fail | with_reducible exact XC2.out wx | with_reducible exact XC3.out wx) | exact ⟨rfl, Gr.refl _⟩)) | (refine sm_no rfl rfl ?_)); go_simp; refine hK _ ?_; clear hK K)
            refine sm_nil ?_
            clear hS
            intro wk hS
            replace hS : St w [⟨tf, bs f0, 26⟩, ⟨tu, bs u, 26⟩, ⟨b8, #[.int .i64 64790, .int .i64 64793, .int .i64 64795, .int .i64 64797], 41⟩, ⟨b7, #[.int .i64 64791, .int .i64 64794, .int .i64 64796, .int .i64 64798], 41⟩, ⟨p, bs v, 26⟩] wk := hS
            go_upto_region 20 with (fail)
            try refine wp_region_lit ?_
            iterate 3 ((first | (refine sl_load hS rfl 26 _ rfl rfl (by repeat (first | exact Has.hd | apply Has.tl)) Try.underlying26 rfl (by exact infoV) ?_) | (refine sl_store hS rfl 26 _ _ rfl rfl rfl (by repeat (first | exact Rep.hd | apply Rep.tl)) (by exact infoV) (by rfl) (bs_one _) ?_; clear hS; intro wk hS) | (refine sl_val rfl (run_eql rfl rfl rfl T3) ?_) | (apply sl_val rfl; focus (intro w; go_simp; (try simp (disch := omega) only [IntWalk.i64_in, IntWalk.u64_in, IntWalk.u8_in, IntWalk.u32_in, IntWalk.i32_in]); first | exact rfl | rfl)) | (refine sl_skip rfl ?_)); go_simp)
            go_upto_region 21 with (fail)
            try refine wp_region_lit ?_
            iterate 10 ((first | (refine sl_load hS rfl 26 _ rfl rfl (by repeat (first | exact Has.hd | apply Has.tl)) Try.underlying26 rfl (by exact infoV) ?_) | (refine sl_store hS rfl 26 _ _ rfl rfl rfl (by repeat (first | exact Rep.hd | apply Rep.tl)) (by exact infoV) (by rfl) (bs_one _) ?_; clear hS; intro wk hS) | (refine sl_val rfl (run_shl rfl rfl rfl (by decide) hz1) ?_) | (refine sl_val rfl (run_shr rfl rfl rfl (by decide) hz2) ?_) | (apply sl_val rfl; focus (intro w; go_simp; (try simp (disch := omega) only [IntWalk.i64_in, IntWalk.u64_in, IntWalk.u8_in, IntWalk.u32_in, IntWalk.i32_in]); first | exact rfl | rfl)) | (refine sl_skip rfl ?_)); go_simp)
            go_upto_region 22 with (fail)
            try refine wp_region_lit ?_
            iterate 11 ((first | (refine sl_load hS rfl 26 _ rfl rfl (by repeat (first | exact Has.hd | apply Has.tl)) Try.underlying26 rfl (by exact infoV) ?_) | (refine sl_store hS rfl 26 _ _ rfl rfl rfl (by repeat (first | exact Rep.hd | apply Rep.tl)) (by exact infoV) (by rfl) (bs_one _) ?_; clear hS; intro wk hS) | (refine sl_val rfl (run_neq' rfl rfl rfl hn) ?_) | (apply sl_val rfl; focus (intro w; go_simp; (try simp (disch := omega) only [IntWalk.i64_in, IntWalk.u64_in, IntWalk.u8_in, IntWalk.u32_in, IntWalk.i32_in]); first | exact rfl | rfl)) | (refine sl_skip rfl ?_)); go_simp)
            go_upto_region 24 with (fail)
            refine sm_tail 10 [] hS (by kernel_rfl) (by kernel_rfl) (fun β => ?_)
            simp only [List.take_succ_cons, List.take_zero, List.drop_succ_cons, List.drop_zero]
            iterate 10 (refine sm_step (fun K hK => ?_); (first | (refine sm_load rfl rfl 26 _ rfl rfl (by repeat (first | exact Has.hd | apply Has.tl)) Try.underlying26 rfl (by exact infoV) ?_) | (refine sm_lay rfl rfl (by intro w; go_simp) ?_) | (refine sm_build rfl rfl 26 _ rfl (bs fun _ => 0) (by first | (simp only [List.map_toArray, List.map_nil]; kernel_rfl) | (simp only [Array.map_empty]; kernel_rfl)) ?_) | (refine sm_cell rfl rfl _ _ rfl rfl (by repeat (first | exact Has.hd | apply Has.tl)) (by rfl) (by intro w hc; go_simp) ?_) | (apply sm_yes rfl rfl; focus (intro wx hx; go_simp; first | (apply sm_enter (by kernel_rfl); first | fail | with_reducible exact XC4.out wx) | exact ⟨rfl, Gr.refl _⟩)) | (refine sm_no rfl rfl ?_)); go_simp; refine hK _ ?_; clear hK K)
            refine sm_nil ?_
            clear hS
            intro wk hS
            replace hS : St w [⟨tf, bs f0, 26⟩, ⟨tu, bs u, 26⟩, ⟨b8, #[.int .i64 64790, .int .i64 64793, .int .i64 64795, .int .i64 64797], 41⟩, ⟨b7, #[.int .i64 64791, .int .i64 64794, .int .i64 64796, .int .i64 64798], 41⟩, ⟨p, bs v, 26⟩] wk := hS
            go_wp2_with (first | (refine sl_load hS rfl 26 _ rfl rfl (by repeat (first | exact Has.hd | apply Has.tl)) Try.underlying26 rfl (by exact infoV) ?_) | (refine sl_store hS rfl 26 _ _ rfl rfl rfl (by repeat (first | exact Rep.hd | apply Rep.tl)) (by exact infoV) (by rfl) (bs_one _) ?_; clear hS; intro wk hS) | (refine sl_box hS rfl _ 26 (box_vec rfl rfl) ?_; clear hS; intro bk wk hS) | (refine sl_box hS rfl _ 26 (alloc_vec rfl) ?_; clear hS; intro bk wk hS) | (refine onlyN_end ?_) | (refine onlyN_now ?_))
            have X4 := X2.out
            exact ⟨⟨i + 1, by omega, by go_num, by rw [Xf1.out]; exact hS⟩, by simp [intOf]; omega⟩
          · have hg := HGO.out j hij
            rw [hg] at C2
            have T3 : ((j : Int) == (i : Int)) = false := beq_eq_false_iff_ne.2 (by omega)
            generalize getI v 8 j = g at *
            have hn : (g != g) = false := by simp
            clear hg hij HIj
            have XC2 := Lib.hid C2
            clear C2
            have XC3 := Lib.hid C3
            clear C3
            have XC4 := Lib.hid C4
            clear C4
            go_upto_region 18 with (fail)
            refine sm_all [] hS (by kernel_rfl) (by kernel_rfl) (fun β => ?_)
            repeat (refine sm_step (fun K hK => ?_); (first | (refine sm_load rfl rfl 26 _ rfl rfl (by repeat (first | exact Has.hd | apply Has.tl)) Try.underlying26 rfl (by exact infoV) ?_) | (refine sm_lay rfl rfl (by intro w; go_simp) ?_) | (refine sm_build rfl rfl 26 _ rfl (bs fun _ => 0) (by first | (simp only [List.map_toArray, List.map_nil]; kernel_rfl) | (simp only [Array.map_empty]; kernel_rfl)) ?_) | (refine sm_cell rfl rfl _ _ rfl rfl (by repeat (first | exact Has.hd | apply Has.tl)) (by rfl) (by intro w hc; go_simp) ?_) | (apply sm_yes rfl rfl; focus (intro wx hx; go_simp; first | (apply sm_enter (by kernel_rfl); first | fail | with_reducible exact XC2.out wx | with_reducible exact XC3.out wx) | exact ⟨rfl, Gr.refl _⟩)) | (refine sm_no rfl rfl ?_)); go_simp; refine hK _ ?_; clear hK K)
            refine sm_nil ?_
            clear hS
            intro wk hS
            replace hS : St w [⟨tf, bs f0, 26⟩, ⟨tu, bs u, 26⟩, ⟨b8, #[.int .i64 64790, .int .i64 64793, .int .i64 64795, .int .i64 64797], 41⟩, ⟨b7, #[.int .i64 64791, .int .i64 64794, .int .i64 64796, .int .i64 64798], 41⟩, ⟨p, bs v, 26⟩] wk := hS
            go_upto_region 19 with (fail)
            refine sm_all [] hS (by kernel_rfl) (by kernel_rfl) (fun β => ?_)
            repeat (refine sm_step (fun K hK => ?_); (first | (refine sm_load rfl rfl 26 _ rfl rfl (by repeat (first | exact Has.hd | apply Has.tl)) Try.underlying26 rfl (by exact infoV) ?_) | (refine sm_lay rfl rfl (by intro w; go_simp) ?_) | (refine sm_build rfl rfl 26 _ rfl (bs fun _ => 0) (by first | (simp only [List.map_toArray, List.map_nil]; kernel_rfl) | (simp only [Array.map_empty]; kernel_rfl)) ?_) | (refine sm_cell rfl rfl _ _ rfl rfl (by repeat (first | exact Has.hd | apply Has.tl)) (by rfl) (by intro w hc; go_simp) ?_) | (apply sm_yes rfl rfl; focus (intro wx hx; go_simp; first | (apply sm_enter (by kernel_rfl); first | fail | with_reducible exact XC2.out wx | with_reducible exact XC3.out wx) | exact ⟨rfl, Gr.refl _⟩)) | (refine sm_no rfl rfl ?_)); go_simp; refine hK _ ?_; clear hK K)
            refine sm_nil ?_
            clear hS
            intro wk hS
            replace hS : St w [⟨tf, bs f0, 26⟩, ⟨tu, bs u, 26⟩, ⟨b8, #[.int .i64 64790, .int .i64 64793, .int .i64 64795, .int .i64 64797], 41⟩, ⟨b7, #[.int .i64 64791, .int .i64 64794, .int .i64 64796, .int .i64 64798], 41⟩, ⟨p, bs v, 26⟩] wk := hS
            go_upto_region 20 with (fail)
            try refine wp_region_lit ?_
            iterate 3 ((first | (refine sl_load hS rfl 26 _ rfl rfl (by repeat (first | exact Has.hd | apply Has.tl)) Try.underlying26 rfl (by exact infoV) ?_) | (refine sl_store hS rfl 26 _ _ rfl rfl rfl (by repeat (first | exact Rep.hd | apply Rep.tl)) (by exact infoV) (by rfl) (bs_one _) ?_; clear hS; intro wk hS) | (refine sl_val rfl (run_eql rfl rfl rfl T3) ?_) | (apply sl_val rfl; focus (intro w; go_simp; (try simp (disch := omega) only [IntWalk.i64_in, IntWalk.u64_in, IntWalk.u8_in, IntWalk.u32_in, IntWalk.i32_in]); first | exact rfl | rfl)) | (refine sl_skip rfl ?_)); go_simp)
            go_upto_region 22 with (fail)
            try refine wp_region_lit ?_
            iterate 11 ((first | (refine sl_load hS rfl 26 _ rfl rfl (by repeat (first | exact Has.hd | apply Has.tl)) Try.underlying26 rfl (by exact infoV) ?_) | (refine sl_store hS rfl 26 _ _ rfl rfl rfl (by repeat (first | exact Rep.hd | apply Rep.tl)) (by exact infoV) (by rfl) (bs_one _) ?_; clear hS; intro wk hS) | (refine sl_val rfl (run_neq' rfl rfl rfl hn) ?_) | (apply sl_val rfl; focus (intro w; go_simp; (try simp (disch := omega) only [IntWalk.i64_in, IntWalk.u64_in, IntWalk.u8_in, IntWalk.u32_in, IntWalk.i32_in]); first | exact rfl | rfl)) | (refine sl_skip rfl ?_)); go_simp)
            go_upto_region 24 with (fail)
            refine sm_tail 10 [] hS (by kernel_rfl) (by kernel_rfl) (fun β => ?_)
            simp only [List.take_succ_cons, List.take_zero, List.drop_succ_cons, List.drop_zero]
            iterate 10 (refine sm_step (fun K hK => ?_); (first | (refine sm_load rfl rfl 26 _ rfl rfl (by repeat (first | exact Has.hd | apply Has.tl)) Try.underlying26 rfl (by exact infoV) ?_) | (refine sm_lay rfl rfl (by intro w; go_simp) ?_) | (refine sm_build rfl rfl 26 _ rfl (bs fun _ => 0) (by first | (simp only [List.map_toArray, List.map_nil]; kernel_rfl) | (simp only [Array.map_empty]; kernel_rfl)) ?_) | (refine sm_cell rfl rfl _ _ rfl rfl (by repeat (first | exact Has.hd | apply Has.tl)) (by rfl) (by intro w hc; go_simp) ?_) | (apply sm_yes rfl rfl; focus (intro wx hx; go_simp; first | (apply sm_enter (by kernel_rfl); first | fail | with_reducible exact XC4.out wx) | exact ⟨rfl, Gr.refl _⟩)) | (refine sm_no rfl rfl ?_)); go_simp; refine hK _ ?_; clear hK K)
            refine sm_nil ?_
            clear hS
            intro wk hS
            replace hS : St w [⟨tf, bs f0, 26⟩, ⟨tu, bs u, 26⟩, ⟨b8, #[.int .i64 64790, .int .i64 64793, .int .i64 64795, .int .i64 64797], 41⟩, ⟨b7, #[.int .i64 64791, .int .i64 64794, .int .i64 64796, .int .i64 64798], 41⟩, ⟨p, bs v, 26⟩] wk := hS
            go_wp2_with (first | (refine sl_load hS rfl 26 _ rfl rfl (by repeat (first | exact Has.hd | apply Has.tl)) Try.underlying26 rfl (by exact infoV) ?_) | (refine sl_store hS rfl 26 _ _ rfl rfl rfl (by repeat (first | exact Rep.hd | apply Rep.tl)) (by exact infoV) (by rfl) (bs_one _) ?_; clear hS; intro wk hS) | (refine sl_box hS rfl _ 26 (box_vec rfl rfl) ?_; clear hS; intro bk wk hS) | (refine sl_box hS rfl _ 26 (alloc_vec rfl) ?_; clear hS; intro bk wk hS) | (refine onlyN_end ?_) | (refine onlyN_now ?_))
            have X4 := X2.out
            exact ⟨⟨j + 1, by omega, by go_num, by rw [Xf1.out]; exact hS⟩, by simp [intOf]; omega⟩
        · obtain rfl : j = 16 := by omega
          have C5 := fun w => splat_any 64783 x (by omega) w
          rw [show spW 64783 = 8 from rfl, if_neg (by decide), spl_full v HV.out x 8 (by omega) 16 (by decide)] at C5
          have hth : thereB 8 16 = false := by decide
          have hth2 : thereB 8 (-1) = false := by decide
          have C6 := fun w => replace_any 64791 16 x (by omega) v w
          rw [show reV 64791 16 x v = fun _ => 0 by unfold reV; rw [show reW 64791 = 8 from rfl, hth]; rfl, show reW 64791 = 8 from rfl, hth] at C6
          have C7 := fun w => extract_any 64790 (-1) (by omega) v HV.out w
          rw [show exV 64790 (-1) v = 0 by unfold exV; rw [show exW 64790 = 8 from rfl, hth2]; rfl, show exW 64790 = 8 from rfl, hth2] at C7
          generalize (ofK v 8 (fun _ => x) 16) = f0 at *
          clear hth hth2 hj hlt
          have XC5 := Lib.hid C5
          clear C5
          have XC6 := Lib.hid C6
          clear C6
          have XC7 := Lib.hid C7
          clear C7
          go_upto_region 27 with (first | (refine sl_load hS rfl 26 _ rfl rfl (by repeat (first | exact Has.hd | apply Has.tl)) Try.underlying26 rfl (by exact infoV) ?_) | (refine sl_store hS rfl 26 _ _ rfl rfl rfl (by repeat (first | exact Rep.hd | apply Rep.tl)) (by exact infoV) (by rfl) (bs_one _) ?_; clear hS; intro wk hS) | (refine sl_box hS rfl _ 26 (box_vec rfl rfl) ?_; clear hS; intro bk wk hS) | (refine sl_box hS rfl _ 26 (alloc_vec rfl) ?_; clear hS; intro bk wk hS) | (refine onlyN_end ?_) | (refine onlyN_now ?_))
          try refine wp_region_lit ?_
          iterate 10 ((first | (refine sl_load hS rfl 26 _ rfl rfl (by repeat (first | exact Has.hd | apply Has.tl)) Try.underlying26 rfl (by exact infoV) ?_) | (refine sl_store hS rfl 26 _ _ rfl rfl rfl (by repeat (first | exact Rep.hd | apply Rep.tl)) (by exact infoV) (by rfl) (bs_one _) ?_; clear hS; intro wk hS) | ((with_reducible show wpList _ _ _ (⟨_, .alloc 26 , _, _, _, _⟩ :: _) _ _); refine sl_box hS rfl _ 26 (alloc_vec rfl) ?_; clear hS; intro ts wk hS) | (apply sl_val rfl; focus (intro w; go_simp; (try simp (disch := omega) only [IntWalk.i64_in, IntWalk.u64_in, IntWalk.u8_in, IntWalk.u32_in, IntWalk.i32_in]); first | exact rfl | rfl)) | (refine sl_step (fun K hK => .inl ⟨rfl, ?_⟩); unfold Oper.wp; go_simp; (first | with_reducible refine sl_call hS (XC5.out _) ?_); clear hS; intro wk hS; refine hK _ _ ?_; clear hK K) | (refine sl_skip rfl ?_)); go_simp)
          go_upto_region 28 with (fail)
          refine sm_tail 11 [(10, ⟨(fun b => .pointer (some ⟨b, 0, none⟩)), bs fun _ => 0, 26⟩)] hS (by kernel_rfl) (by kernel_rfl) (fun β => ?_)
          simp only [List.take_succ_cons, List.take_zero, List.drop_succ_cons, List.drop_zero]
          iterate 11 (refine sm_step (fun K hK => ?_); (first | (refine sm_load rfl rfl 26 _ rfl rfl (by repeat (first | exact Has.hd | apply Has.tl)) Try.underlying26 rfl (by exact infoV) ?_) | (refine sm_lay rfl rfl (by intro w; go_simp) ?_) | (refine sm_build rfl rfl 26 _ rfl (bs fun _ => 0) (by first | (simp only [List.map_toArray, List.map_nil]; kernel_rfl) | (simp only [Array.map_empty]; kernel_rfl)) ?_) | (refine sm_cell rfl rfl _ _ rfl rfl (by repeat (first | exact Has.hd | apply Has.tl)) (by rfl) (by intro w hc; go_simp) ?_) | (apply sm_yes rfl rfl; focus (intro wx hx; go_simp; first | (apply sm_enter (by kernel_rfl); first | fail | with_reducible exact XC6.out wx) | exact ⟨rfl, Gr.refl _⟩)) | (refine sm_no rfl rfl ?_)); go_simp; refine hK _ ?_; clear hK K)
          refine sm_nil ?_
          clear hS
          intro wk hS
          replace hS : St w [⟨β 10, bs fun _ => 0, 26⟩, ⟨ts, bs f0, 26⟩, ⟨tf, bs f0, 26⟩, ⟨tu, bs u, 26⟩, ⟨b8, #[.int .i64 64790, .int .i64 64793, .int .i64 64795, .int .i64 64797], 41⟩, ⟨b7, #[.int .i64 64791, .int .i64 64794, .int .i64 64796, .int .i64 64798], 41⟩, ⟨p, bs v, 26⟩] wk := hS
          generalize β 10 = tr at hS ⊢
          go_upto_region 29 with (first | (refine sl_load hS rfl 26 _ rfl rfl (by repeat (first | exact Has.hd | apply Has.tl)) Try.underlying26 rfl (by exact infoV) ?_) | (refine sl_store hS rfl 26 _ _ rfl rfl rfl (by repeat (first | exact Rep.hd | apply Rep.tl)) (by exact infoV) (by rfl) (bs_one _) ?_; clear hS; intro wk hS) | (refine sl_box hS rfl _ 26 (box_vec rfl rfl) ?_; clear hS; intro bk wk hS) | (refine sl_box hS rfl _ 26 (alloc_vec rfl) ?_; clear hS; intro bk wk hS) | (refine onlyN_end ?_) | (refine onlyN_now ?_))
          refine sm_all [] hS (by kernel_rfl) (by kernel_rfl) (fun β => ?_)
          repeat (refine sm_step (fun K hK => ?_); (first | (refine sm_load rfl rfl 26 _ rfl rfl (by repeat (first | exact Has.hd | apply Has.tl)) Try.underlying26 rfl (by exact infoV) ?_) | (refine sm_lay rfl rfl (by intro w; go_simp) ?_) | (refine sm_build rfl rfl 26 _ rfl (bs fun _ => 0) (by first | (simp only [List.map_toArray, List.map_nil]; kernel_rfl) | (simp only [Array.map_empty]; kernel_rfl)) ?_) | (refine sm_cell rfl rfl _ _ rfl rfl (by repeat (first | exact Has.hd | apply Has.tl)) (by rfl) (by intro w hc; go_simp) ?_) | (apply sm_yes rfl rfl; focus (intro wx hx; go_simp; first | (apply sm_enter (by kernel_rfl); first | fail | with_reducible exact XC7.out wx) | exact ⟨rfl, Gr.refl _⟩)) | (refine sm_no rfl rfl ?_)); go_simp; refine hK _ ?_; clear hK K)
          refine sm_nil ?_
          clear hS
          intro wk hS
          replace hS : St w [⟨tr, bs (fun _ => 0), 26⟩, ⟨ts, bs f0, 26⟩, ⟨tf, bs f0, 26⟩, ⟨tu, bs u, 26⟩, ⟨b8, #[.int .i64 64790, .int .i64 64793, .int .i64 64795, .int .i64 64797], 41⟩, ⟨b7, #[.int .i64 64791, .int .i64 64794, .int .i64 64796, .int .i64 64798], 41⟩, ⟨p, bs v, 26⟩] wk := hS
          go_upto_region 30 with (fail)
          try refine wp_region_lit ?_
          iterate 15 ((first | (refine sl_load hS rfl 26 _ rfl rfl (by repeat (first | exact Has.hd | apply Has.tl)) Try.underlying26 rfl (by exact infoV) ?_) | (refine sl_store hS rfl 26 _ _ rfl rfl rfl (by repeat (first | exact Rep.hd | apply Rep.tl)) (by exact infoV) (by rfl) (bs_one _) ?_; clear hS; intro wk hS) | (refine sl_neq rfl rfl rfl rfl (vecB_refl _) ?_) | (apply sl_val rfl; focus (intro w; go_simp; (try simp (disch := omega) only [IntWalk.i64_in, IntWalk.u64_in, IntWalk.u8_in, IntWalk.u32_in, IntWalk.i32_in]); first | exact rfl | rfl)) | (refine sl_skip rfl ?_)); go_simp)
          replace hS : St w [⟨b8, #[.int .i64 64790, .int .i64 64793, .int .i64 64795, .int .i64 64797], 41⟩, ⟨b7, #[.int .i64 64791, .int .i64 64794, .int .i64 64796, .int .i64 64798], 41⟩, ⟨p, bs v, 26⟩] _ := hS.tail.tail.tail.tail
          go_wp2_with fail
          exact ⟨⟨1, by omega, rfl, hS⟩, by simp [intOf]⟩
    · as_aux_lemma =>
      obtain ⟨i, hi, hr⟩ : ∃ i : Nat, i < 8 ∧ Int.tmod (IntKind.u64.wrap lane) 8 = (i : Int) := by
        have h0 : 0 ≤ IntKind.u64.wrap lane := by rw [IntKind.wrap_u64]; omega
        rw [Int.tmod_eq_emod_of_nonneg h0]
        exact ⟨(IntKind.u64.wrap lane % 8).toNat, by omega, by omega⟩
      have hi64 : IntKind.i64.wrap (i : Int) = (i : Int) := IntWalk.i64_in _ (by omega)
      have hti : thereB 16 i = true := (there_iff.2 ⟨by omega, by unfold lanesI; simp; omega⟩)
      have C1 := fun w => replace_any 64794 i x (by omega) v w
      rw [show reV 64794 i x v = setI v 16 i x by unfold reV; rw [show reW 64794 = 16 from rfl, if_pos hti], show reW 64794 = 16 from rfl, if_pos hti] at C1
      have hub : Byt (setI v 16 i x) := setI_byt HV.out _ _ _
      have hgi := get_set v 16 i x hti
      have hgo := fun (j : Nat) (h : i ≠ j) => get_set_other v 16 i j x (show (i : Int) ≠ (j : Int) by omega)
      generalize setI v 16 i x = u at *
      have HUB := Lib.hid hub
      have HGI := Lib.hid hgi
      have HGO := Lib.hid hgo
      obtain ⟨lw, hlw⟩ : ∃ z, IntKind.u64.wrap lane = z := ⟨_, rfl⟩
      rw [hlw] at hr
      have HI := Lib.hid hi
      clear hub hgi hgo hti hi
      have XC1 := Lib.hid C1
      clear C1
      have Xhr := Lib.hid hr
      clear hr
      go_upto_region 8 with (fail)
      try refine wp_region_lit ?_
      iterate 4 ((first | (refine sl_load hS rfl 26 _ rfl rfl (by repeat (first | exact Has.hd | apply Has.tl)) Try.underlying26 rfl (by exact infoV) ?_) | (refine sl_store hS rfl 26 _ _ rfl rfl rfl (by repeat (first | exact Rep.hd | apply Rep.tl)) (by exact infoV) (by rfl) (bs_one _) ?_; clear hS; intro wk hS) | (apply sl_val rfl; focus (intro w; go_simp; (try simp (disch := omega) only [IntWalk.i64_in, IntWalk.u64_in, IntWalk.u8_in, IntWalk.u32_in, IntWalk.i32_in]); first | exact rfl | rfl)) | (refine sl_skip rfl ?_)); go_simp)
      go_upto_region 9 with (fail)
      try refine wp_region_lit ?_
      iterate 3 ((first | (refine sl_load hS rfl 26 _ rfl rfl (by repeat (first | exact Has.hd | apply Has.tl)) Try.underlying26 rfl (by exact infoV) ?_) | (refine sl_store hS rfl 26 _ _ rfl rfl rfl (by repeat (first | exact Rep.hd | apply Rep.tl)) (by exact infoV) (by rfl) (bs_one _) ?_; clear hS; intro wk hS) | (apply sl_val rfl; focus (intro w; go_simp; (try simp (disch := omega) only [IntWalk.i64_in, IntWalk.u64_in, IntWalk.u8_in, IntWalk.u32_in, IntWalk.i32_in]); first | exact rfl | rfl)) | (refine sl_skip rfl ?_)); go_simp)
      go_upto_region 10 with (fail)
      try refine wp_region_lit ?_
      iterate 7 ((first | (refine sl_load hS rfl 26 _ rfl rfl (by repeat (first | exact Has.hd | apply Has.tl)) Try.underlying26 rfl (by exact infoV) ?_) | (refine sl_store hS rfl 26 _ _ rfl rfl rfl (by repeat (first | exact Rep.hd | apply Rep.tl)) (by exact infoV) (by rfl) (bs_one _) ?_; clear hS; intro wk hS) | (refine sl_val rfl (run_conv rfl rfl Try.underlying3 Try.underlying42 hlw) ?_) | (refine sl_val rfl (run_rem rfl rfl rfl (by decide) Xhr.out) ?_) | (refine sl_val rfl (run_conv rfl rfl Try.underlying42 Try.underlying3 hi64) ?_) | (apply sl_val rfl; focus (intro w; go_simp; (try simp (disch := omega) only [IntWalk.i64_in, IntWalk.u64_in, IntWalk.u8_in, IntWalk.u32_in, IntWalk.i32_in]); first | exact rfl | rfl)) | (refine sl_skip rfl ?_)); go_simp)
      go_upto_region 11 with (fail)
      refine sm_tail 11 [(10, ⟨(fun b => .pointer (some ⟨b, 0, none⟩)), bs fun _ => 0, 26⟩)] hS (by kernel_rfl) (by kernel_rfl) (fun β => ?_)
      simp only [List.take_succ_cons, List.take_zero, List.drop_succ_cons, List.drop_zero]
      iterate 11 (refine sm_step (fun K hK => ?_); (first | (refine sm_load rfl rfl 26 _ rfl rfl (by repeat (first | exact Has.hd | apply Has.tl)) Try.underlying26 rfl (by exact infoV) ?_) | (refine sm_lay rfl rfl (by intro w; go_simp) ?_) | (refine sm_build rfl rfl 26 _ rfl (bs fun _ => 0) (by first | (simp only [List.map_toArray, List.map_nil]; kernel_rfl) | (simp only [Array.map_empty]; kernel_rfl)) ?_) | (refine sm_cell rfl rfl _ _ rfl rfl (by repeat (first | exact Has.hd | apply Has.tl)) (by rfl) (by intro w hc; go_simp) ?_) | (apply sm_yes rfl rfl; focus (intro wx hx; go_simp; first | (apply sm_enter (by kernel_rfl); first | fail | with_reducible exact XC1.out wx) | exact ⟨rfl, Gr.refl _⟩)) | (refine sm_no rfl rfl ?_)); go_simp; refine hK _ ?_; clear hK K)
      refine sm_nil ?_
      clear hS
      intro wk hS
      replace hS : St w [⟨β 10, bs fun _ => 0, 26⟩, ⟨b8, #[.int .i64 64790, .int .i64 64793, .int .i64 64795, .int .i64 64797], 41⟩, ⟨b7, #[.int .i64 64791, .int .i64 64794, .int .i64 64796, .int .i64 64798], 41⟩, ⟨p, bs v, 26⟩] wk := hS
      generalize β 10 = tu at hS ⊢
      go_upto_region 14 with (first | (refine sl_load hS rfl 26 _ rfl rfl (by repeat (first | exact Has.hd | apply Has.tl)) Try.underlying26 rfl (by exact infoV) ?_) | (refine sl_store hS rfl 26 _ _ rfl rfl rfl (by repeat (first | exact Rep.hd | apply Rep.tl)) (by exact infoV) (by rfl) (bs_one _) ?_; clear hS; intro wk hS) | (refine sl_box hS rfl _ 26 (box_vec rfl rfl) ?_; clear hS; intro bk wk hS) | (refine sl_box hS rfl _ 26 (alloc_vec rfl) ?_; clear hS; intro bk wk hS) | (refine onlyN_end ?_) | (refine onlyN_now ?_))
      try refine wp_region_lit ?_
      iterate 3 ((first | (refine sl_load hS rfl 26 _ rfl rfl (by repeat (first | exact Has.hd | apply Has.tl)) Try.underlying26 rfl (by exact infoV) ?_) | (refine sl_store hS rfl 26 _ _ rfl rfl rfl (by repeat (first | exact Rep.hd | apply Rep.tl)) (by exact infoV) (by rfl) (bs_one _) ?_; clear hS; intro wk hS) | ((with_reducible show wpList _ _ _ (⟨_, .alloc 26 , _, _, _, _⟩ :: _) _ _); refine sl_box hS rfl _ 26 (alloc_vec rfl) ?_; clear hS; intro tf wk hS) | (apply sl_val rfl; focus (intro w; go_simp; (try simp (disch := omega) only [IntWalk.i64_in, IntWalk.u64_in, IntWalk.u8_in, IntWalk.u32_in, IntWalk.i32_in]); first | exact rfl | rfl)) | (refine sl_skip rfl ?_)); go_simp)
      go_wp2_with fail
      go_loopw [16] (fun g wr => ∃ j : Nat, j ≤ 8 ∧ g = .int .i64 j ∧ St w [⟨tf, bs (ofK v 16 (fun _ => x) j), 26⟩, ⟨tu, bs u, 26⟩, ⟨b8, #[.int .i64 64790, .int .i64 64793, .int .i64 64795, .int .i64 64797], 41⟩, ⟨b7, #[.int .i64 64791, .int .i64 64794, .int .i64 64796, .int .i64 64798], 41⟩, ⟨p, bs v, 26⟩] wr) (fun g _ => 8 - (intOf g).toNat)
      case atStart => exact ⟨0, by omega, rfl, hS⟩
      case round =>
        obtain ⟨j, hj, rfl, hS⟩ := hrel
        by_cases hlt : j < 8
        · have htj : thereB 16 j = true := (there_iff.2 ⟨by omega, by unfold lanesI; simp; omega⟩)
          have C2 := fun w => extract_any 64793 j (by omega) u HUB.out w
          have C3 := fun w => extract_any 64793 j (by omega) v HV.out w
          have C4 := fun w => replace_any 64794 j x (by omega) (ofK v 16 (fun _ => x) j) w
          have xo : ∀ b, exV 64793 j b = getI b 16 j := fun b => by unfold exV; rw [show exW 64793 = 16 from rfl, if_pos htj]; rfl
          rw [xo, show exW 64793 = 16 from rfl, if_pos htj] at C2 C3
          rw [show reV 64794 j x (ofK v 16 (fun _ => x) j) = (ofK v 16 (fun _ => x) (j + 1)) by unfold reV; rw [show reW 64794 = 16 from rfl, if_pos htj]; rfl, show reW 64794 = 16 from rfl, if_pos htj] at C4
          have T1 : IntKind.i64.wrap ((j : Int) + 1) = (j : Int) + 1 := IntWalk.i64_in _ (by omega)
          have T2 : decide ((j : Int) < 8) = true := by simp; omega
          have X2 := Lib.hid hlt
          have HIj := HI.out
          generalize hf0 : (ofK v 16 (fun _ => x) j) = f0 at *
          generalize hf1 : (ofK v 16 (fun _ => x) (j + 1)) = f1 at *
          have Xf1 := Lib.hid hf1
          clear hf0 hf1 htj xo hj hlt
          by_cases hij : i = j
          · subst hij
            have hg := HGI.out
            have T3 : ((i : Int) == (i : Int)) = true := by simp
            have hz1 : ∃ z, IntKind.u64.wrap (x * 2 ^ (min (48 : Int).toNat IntKind.u64.bits)) = z ∧ z.fdiv (2 ^ (min (48 : Int).toNat IntKind.u64.bits)) = getI u 16 i := by
              refine ⟨_, rfl, ?_⟩
              have hx := HX.out
              rw [hg, show (2 : Int) ^ (min (48 : Int).toNat IntKind.u64.bits) = 281474976710656 by decide, Int.fdiv_eq_ediv_of_nonneg _ (by decide), IntKind.wrap_u64, wid16]
              omega
            obtain ⟨z, hz1, hz2⟩ := hz1
            generalize getI u 16 i = g at *
            have hn : (g != g) = false := by simp
            clear hg
            have XC2 := Lib.hid C2
            clear C2
            have XC3 := Lib.hid C3
            clear C3
            have XC4 := Lib.hid C4
            clear C4
            go_upto_region 18 with (fail)
            refine sm_all [] hS (by kernel_rfl) (by kernel_rfl) (fun β => ?_)
            repeat (refine sm_step (fun K hK => ?_); (first | (refine sm_load rfl rfl 26 _ rfl rfl (by repeat (first | exact Has.hd | apply Has.tl)) Try.underlying26 rfl (by exact infoV) ?_) | (refine sm_lay rfl rfl (by intro w; go_simp) ?_) | (refine sm_build rfl rfl 26 _ rfl (bs fun _ => 0) (by first | (simp only [List.map_toArray, List.map_nil]; kernel_rfl) | (simp only [Array.map_empty]; kernel_rfl)) ?_) | (refine sm_cell rfl rfl _ _ rfl rfl (by repeat (first | exact Has.hd | apply Has.tl)) (by rfl) (by intro w hc; go_simp) ?_) | (apply sm_yes rfl rfl; focus (intro wx hx; go_simp; first | (apply sm_enter (by kernel_rfl); first | fail | with_reducible exact XC2.out wx | with_reducible exact XC3.out wx) | exact ⟨rfl, Gr.refl _⟩)) | (refine sm_no rfl rfl ?_)); go_simp; refine hK _ ?_; clear hK K)
            refine sm_nil ?_
            clear hS
            intro wk hS
            replace hS : St w [⟨tf, bs f0, 26⟩, ⟨tu, bs u, 26⟩, ⟨b8, #[.int .i64 64790, .int .i64 64793, .int .i64 64795, .int .i64 64797], 41⟩, ⟨b7, #[.int .i64 64791, .int .i64 64794, .int .i64 64796, .int .i64 64798], 41⟩, ⟨p, bs v, 26⟩] wk := hS
            go_upto_region 19 with (fail)
            refine sm_all [] hS (by kernel_rfl) (by kernel_rfl) (fun β => ?_)
            repeat (refine sm_step (fun K hK => ?_); (first | (refine sm_load rfl rfl 26 _ rfl rfl (by repeat (first | exact Has.hd | apply Has.tl)) Try.underlying26 rfl (by exact infoV) ?_) | (refine sm_lay rfl rfl (by intro w; go_simp) ?_) | (refine sm_build rfl rfl 26 _ rfl (bs fun _ => 0) (by first | (simp only [List.map_toArray, List.map_nil]; kernel_rfl) | (simp only [Array.map_empty]; kernel_rfl)) ?_) | (refine sm_cell rfl rfl _ _ rfl rfl (by repeat (first | exact Has.hd | apply Has.tl)) (by rfl) (by intro w hc; go_simp) ?_) | (apply sm_yes rfl rfl; focus (intro wx hx; go_simp; first | (apply sm_enter (by kernel_rfl); first | fail | with_reducible exact XC2.out wx | with_reducible exact XC3.out wx) | exact ⟨rfl, Gr.refl _⟩)) | (refine sm_no rfl rfl ?_)); go_simp; refine hK _ ?_; clear hK K)
            refine sm_nil ?_
            clear hS
            intro wk hS
            replace hS : St w [⟨tf, bs f0, 26⟩, ⟨tu, bs u, 26⟩, ⟨b8, #[.int .i64 64790, .int .i64 64793, .int .i64 64795, .int .i64 64797], 41⟩, ⟨b7, #[.int .i64 64791, .int .i64 64794, .int .i64 64796, .int .i64 64798], 41⟩, ⟨p, bs v, 26⟩] wk := hS
            go_upto_region 20 with (fail)
            try refine wp_region_lit ?_
            iterate 3 ((first | (refine sl_load hS rfl 26 _ rfl rfl (by repeat (first | exact Has.hd | apply Has.tl)) Try.underlying26 rfl (by exact infoV) ?_) | (refine sl_store hS rfl 26 _ _ rfl rfl rfl (by repeat (first | exact Rep.hd | apply Rep.tl)) (by exact infoV) (by rfl) (bs_one _) ?_; clear hS; intro wk hS) | (refine sl_val rfl (run_eql rfl rfl rfl T3) ?_) | (apply sl_val rfl; focus (intro w; go_simp; (try simp (disch := omega) only [IntWalk.i64_in, IntWalk.u64_in, IntWalk.u8_in, IntWalk.u32_in, IntWalk.i32_in]); first | exact rfl | rfl)) | (refine sl_skip rfl ?_)); go_simp)
            go_upto_region 21 with (fail)
            try refine wp_region_lit ?_
            iterate 10 ((first | (refine sl_load hS rfl 26 _ rfl rfl (by repeat (first | exact Has.hd | apply Has.tl)) Try.underlying26 rfl (by exact infoV) ?_) | (refine sl_store hS rfl 26 _ _ rfl rfl rfl (by repeat (first | exact Rep.hd | apply Rep.tl)) (by exact infoV) (by rfl) (bs_one _) ?_; clear hS; intro wk hS) | (refine sl_val rfl (run_shl rfl rfl rfl (by decide) hz1) ?_) | (refine sl_val rfl (run_shr rfl rfl rfl (by decide) hz2) ?_) | (apply sl_val rfl; focus (intro w; go_simp; (try simp (disch := omega) only [IntWalk.i64_in, IntWalk.u64_in, IntWalk.u8_in, IntWalk.u32_in, IntWalk.i32_in]); first | exact rfl | rfl)) | (refine sl_skip rfl ?_)); go_simp)
            go_upto_region 22 with (fail)
            try refine wp_region_lit ?_
            iterate 11 ((first | (refine sl_load hS rfl 26 _ rfl rfl (by repeat (first | exact Has.hd | apply Has.tl)) Try.underlying26 rfl (by exact infoV) ?_) | (refine sl_store hS rfl 26 _ _ rfl rfl rfl (by repeat (first | exact Rep.hd | apply Rep.tl)) (by exact infoV) (by rfl) (bs_one _) ?_; clear hS; intro wk hS) | (refine sl_val rfl (run_neq' rfl rfl rfl hn) ?_) | (apply sl_val rfl; focus (intro w; go_simp; (try simp (disch := omega) only [IntWalk.i64_in, IntWalk.u64_in, IntWalk.u8_in, IntWalk.u32_in, IntWalk.i32_in]); first | exact rfl | rfl)) | (refine sl_skip rfl ?_)); go_simp)
            go_upto_region 24 with (fail)
            refine sm_tail 10 [] hS (by kernel_rfl) (by kernel_rfl) (fun β => ?_)
            simp only [List.take_succ_cons, List.take_zero, List.drop_succ_cons, List.drop_zero]
            iterate 10 (refine sm_step (fun K hK => ?_); (first | (refine sm_load rfl rfl 26 _ rfl rfl (by repeat (first | exact Has.hd | apply Has.tl)) Try.underlying26 rfl (by exact infoV) ?_) | (refine sm_lay rfl rfl (by intro w; go_simp) ?_) | (refine sm_build rfl rfl 26 _ rfl (bs fun _ => 0) (by first | (simp only [List.map_toArray, List.map_nil]; kernel_rfl) | (simp only [Array.map_empty]; kernel_rfl)) ?_) | (refine sm_cell rfl rfl _ _ rfl rfl (by repeat (first | exact Has.hd | apply Has.tl)) (by rfl) (by intro w hc; go_simp) ?_) | (apply sm_yes rfl rfl; focus (intro wx hx; go_simp; first | (apply sm_enter (by kernel_rfl); first | fail | with_reducible exact XC4.out wx) | exact ⟨rfl, Gr.refl _⟩)) | (refine sm_no rfl rfl ?_)); go_simp; refine hK _ ?_; clear hK K)
            refine sm_nil ?_
            clear hS
            intro wk hS
            replace hS : St w [⟨tf, bs f0, 26⟩, ⟨tu, bs u, 26⟩, ⟨b8, #[.int .i64 64790, .int .i64 64793, .int .i64 64795, .int .i64 64797], 41⟩, ⟨b7, #[.int .i64 64791, .int .i64 64794, .int .i64 64796, .int .i64 64798], 41⟩, ⟨p, bs v, 26⟩] wk := hS
            go_wp2_with (first | (refine sl_load hS rfl 26 _ rfl rfl (by repeat (first | exact Has.hd | apply Has.tl)) Try.underlying26 rfl (by exact infoV) ?_) | (refine sl_store hS rfl 26 _ _ rfl rfl rfl (by repeat (first | exact Rep.hd | apply Rep.tl)) (by exact infoV) (by rfl) (bs_one _) ?_; clear hS; intro wk hS) | (refine sl_box hS rfl _ 26 (box_vec rfl rfl) ?_; clear hS; intro bk wk hS) | (refine sl_box hS rfl _ 26 (alloc_vec rfl) ?_; clear hS; intro bk wk hS) | (refine onlyN_end ?_) | (refine onlyN_now ?_))
            have X4 := X2.out
            exact ⟨⟨i + 1, by omega, by go_num, by rw [Xf1.out]; exact hS⟩, by simp [intOf]; omega⟩
          · have hg := HGO.out j hij
            rw [hg] at C2
            have T3 : ((j : Int) == (i : Int)) = false := beq_eq_false_iff_ne.2 (by omega)
            generalize getI v 16 j = g at *
            have hn : (g != g) = false := by simp
            clear hg hij HIj
            have XC2 := Lib.hid C2
            clear C2
            have XC3 := Lib.hid C3
            clear C3
            have XC4 := Lib.hid C4
            clear C4
            go_upto_region 18 with (fail)
            refine sm_all [] hS (by kernel_rfl) (by kernel_rfl) (fun β => ?_)
            repeat (refine sm_step (fun K hK => ?_); (first | (refine sm_load rfl rfl 26 _ rfl rfl (by repeat (first | exact Has.hd | apply Has.tl)) Try.underlying26 rfl (by exact infoV) ?_) | (refine sm_lay rfl rfl (by intro w; go_simp) ?_) | (refine sm_build rfl rfl 26 _ rfl (bs fun _ => 0) (by first | (simp only [List.map_toArray, List.map_nil]; kernel_rfl) | (simp only [Array.map_empty]; kernel_rfl)) ?_) | (refine sm_cell rfl rfl _ _ rfl rfl (by repeat (first | exact Has.hd | apply Has.tl)) (by rfl) (by intro w hc; go_simp) ?_) | (apply sm_yes rfl rfl; focus (intro wx hx; go_simp; first | (apply sm_enter (by kernel_rfl); first | fail | with_reducible exact XC2.out wx | with_reducible exact XC3.out wx) | exact ⟨rfl, Gr.refl _⟩)) | (refine sm_no rfl rfl ?_)); go_simp; refine hK _ ?_; clear hK K)
            refine sm_nil ?_
            clear hS
            intro wk hS
            replace hS : St w [⟨tf, bs f0, 26⟩, ⟨tu, bs u, 26⟩, ⟨b8, #[.int .i64 64790, .int .i64 64793, .int .i64 64795, .int .i64 64797], 41⟩, ⟨b7, #[.int .i64 64791, .int .i64 64794, .int .i64 64796, .int .i64 64798], 41⟩, ⟨p, bs v, 26⟩] wk := hS
            go_upto_region 19 with (fail)
            refine sm_all [] hS (by kernel_rfl) (by kernel_rfl) (fun β => ?_)
            repeat (refine sm_step (fun K hK => ?_); (first | (refine sm_load rfl rfl 26 _ rfl rfl (by repeat (first | exact Has.hd | apply Has.tl)) Try.underlying26 rfl (by exact infoV) ?_) | (refine sm_lay rfl rfl (by intro w; go_simp) ?_) | (refine sm_build rfl rfl 26 _ rfl (bs fun _ => 0) (by first | (simp only [List.map_toArray, List.map_nil]; kernel_rfl) | (simp only [Array.map_empty]; kernel_rfl)) ?_) | (refine sm_cell rfl rfl _ _ rfl rfl (by repeat (first | exact Has.hd | apply Has.tl)) (by rfl) (by intro w hc; go_simp) ?_) | (apply sm_yes rfl rfl; focus (intro wx hx; go_simp; first | (apply sm_enter (by kernel_rfl); first | fail | with_reducible exact XC2.out wx | with_reducible exact XC3.out wx) | exact ⟨rfl, Gr.refl _⟩)) | (refine sm_no rfl rfl ?_)); go_simp; refine hK _ ?_; clear hK K)
            refine sm_nil ?_
            clear hS
            intro wk hS
            replace hS : St w [⟨tf, bs f0, 26⟩, ⟨tu, bs u, 26⟩, ⟨b8, #[.int .i64 64790, .int .i64 64793, .int .i64 64795, .int .i64 64797], 41⟩, ⟨b7, #[.int .i64 64791, .int .i64 64794, .int .i64 64796, .int .i64 64798], 41⟩, ⟨p, bs v, 26⟩] wk := hS
            go_upto_region 20 with (fail)
            try refine wp_region_lit ?_
            iterate 3 ((first | (refine sl_load hS rfl 26 _ rfl rfl (by repeat (first | exact Has.hd | apply Has.tl)) Try.underlying26 rfl (by exact infoV) ?_) | (refine sl_store hS rfl 26 _ _ rfl rfl rfl (by repeat (first | exact Rep.hd | apply Rep.tl)) (by exact infoV) (by rfl) (bs_one _) ?_; clear hS; intro wk hS) | (refine sl_val rfl (run_eql rfl rfl rfl T3) ?_) | (apply sl_val rfl; focus (intro w; go_simp; (try simp (disch := omega) only [IntWalk.i64_in, IntWalk.u64_in, IntWalk.u8_in, IntWalk.u32_in, IntWalk.i32_in]); first | exact rfl | rfl)) | (refine sl_skip rfl ?_)); go_simp)
            go_upto_region 22 with (fail)
            try refine wp_region_lit ?_
            iterate 11 ((first | (refine sl_load hS rfl 26 _ rfl rfl (by repeat (first | exact Has.hd | apply Has.tl)) Try.underlying26 rfl (by exact infoV) ?_) | (refine sl_store hS rfl 26 _ _ rfl rfl rfl (by repeat (first | exact Rep.hd | apply Rep.tl)) (by exact infoV) (by rfl) (bs_one _) ?_; clear hS; intro wk hS) | (refine sl_val rfl (run_neq' rfl rfl rfl hn) ?_) | (apply sl_val rfl; focus (intro w; go_simp; (try simp (disch := omega) only [IntWalk.i64_in, IntWalk.u64_in, IntWalk.u8_in, IntWalk.u32_in, IntWalk.i32_in]); first | exact rfl | rfl)) | (refine sl_skip rfl ?_)); go_simp)
            go_upto_region 24 with (fail)
            refine sm_tail 10 [] hS (by kernel_rfl) (by kernel_rfl) (fun β => ?_)
            simp only [List.take_succ_cons, List.take_zero, List.drop_succ_cons, List.drop_zero]
            iterate 10 (refine sm_step (fun K hK => ?_); (first | (refine sm_load rfl rfl 26 _ rfl rfl (by repeat (first | exact Has.hd | apply Has.tl)) Try.underlying26 rfl (by exact infoV) ?_) | (refine sm_lay rfl rfl (by intro w; go_simp) ?_) | (refine sm_build rfl rfl 26 _ rfl (bs fun _ => 0) (by first | (simp only [List.map_toArray, List.map_nil]; kernel_rfl) | (simp only [Array.map_empty]; kernel_rfl)) ?_) | (refine sm_cell rfl rfl _ _ rfl rfl (by repeat (first | exact Has.hd | apply Has.tl)) (by rfl) (by intro w hc; go_simp) ?_) | (apply sm_yes rfl rfl; focus (intro wx hx; go_simp; first | (apply sm_enter (by kernel_rfl); first | fail | with_reducible exact XC4.out wx) | exact ⟨rfl, Gr.refl _⟩)) | (refine sm_no rfl rfl ?_)); go_simp; refine hK _ ?_; clear hK K)
            refine sm_nil ?_
            clear hS
            intro wk hS
            replace hS : St w [⟨tf, bs f0, 26⟩, ⟨tu, bs u, 26⟩, ⟨b8, #[.int .i64 64790, .int .i64 64793, .int .i64 64795, .int .i64 64797], 41⟩, ⟨b7, #[.int .i64 64791, .int .i64 64794, .int .i64 64796, .int .i64 64798], 41⟩, ⟨p, bs v, 26⟩] wk := hS
            go_wp2_with (first | (refine sl_load hS rfl 26 _ rfl rfl (by repeat (first | exact Has.hd | apply Has.tl)) Try.underlying26 rfl (by exact infoV) ?_) | (refine sl_store hS rfl 26 _ _ rfl rfl rfl (by repeat (first | exact Rep.hd | apply Rep.tl)) (by exact infoV) (by rfl) (bs_one _) ?_; clear hS; intro wk hS) | (refine sl_box hS rfl _ 26 (box_vec rfl rfl) ?_; clear hS; intro bk wk hS) | (refine sl_box hS rfl _ 26 (alloc_vec rfl) ?_; clear hS; intro bk wk hS) | (refine onlyN_end ?_) | (refine onlyN_now ?_))
            have X4 := X2.out
            exact ⟨⟨j + 1, by omega, by go_num, by rw [Xf1.out]; exact hS⟩, by simp [intOf]; omega⟩
        · obtain rfl : j = 8 := by omega
          have C5 := fun w => splat_any 64784 x (by omega) w
          rw [show spW 64784 = 16 from rfl, if_neg (by decide), spl_full v HV.out x 16 (by omega) 8 (by decide)] at C5
          have hth : thereB 16 8 = false := by decide
          have hth2 : thereB 16 (-1) = false := by decide
          have C6 := fun w => replace_any 64794 8 x (by omega) v w
          rw [show reV 64794 8 x v = fun _ => 0 by unfold reV; rw [show reW 64794 = 16 from rfl, hth]; rfl, show reW 64794 = 16 from rfl, hth] at C6
          have C7 := fun w => extract_any 64793 (-1) (by omega) v HV.out w
          rw [show exV 64793 (-1) v = 0 by unfold exV; rw [show exW 64793 = 16 from rfl, hth2]; rfl, show exW 64793 = 16 from rfl, hth2] at C7
          generalize (ofK v 16 (fun _ => x) 8) = f0 at *
          clear hth hth2 hj hlt
          have XC5 := Lib.hid C5
          clear C5
          have XC6 := Lib.hid C6
          clear C6
          have XC7 := Lib.hid C7
          clear C7
          go_upto_region 27 with (first | (refine sl_load hS rfl 26 _ rfl rfl (by repeat (first | exact Has.hd | apply Has.tl)) Try.underlying26 rfl (by exact infoV) ?_) | (refine sl_store hS rfl 26 _ _ rfl rfl rfl (by repeat (first | exact Rep.hd | apply Rep.tl)) (by exact infoV) (by rfl) (bs_one _) ?_; clear hS; intro wk hS) | (refine sl_box hS rfl _ 26 (box_vec rfl rfl) ?_; clear hS; intro bk wk hS) | (refine sl_box hS rfl _ 26 (alloc_vec rfl) ?_; clear hS; intro bk wk hS) | (refine onlyN_end ?_) | (refine onlyN_now ?_))
          try refine wp_region_lit ?_
          iterate 10 ((first | (refine sl_load hS rfl 26 _ rfl rfl (by repeat (first | exact Has.hd | apply Has.tl)) Try.underlying26 rfl (by exact infoV) ?_) | (refine sl_store hS rfl 26 _ _ rfl rfl rfl (by repeat (first | exact Rep.hd | apply Rep.tl)) (by exact infoV) (by rfl) (bs_one _) ?_; clear hS; intro wk hS) | ((with_reducible show wpList _ _ _ (⟨_, .alloc 26 , _, _, _, _⟩ :: _) _ _); refine sl_box hS rfl _ 26 (alloc_vec rfl) ?_; clear hS; intro ts wk hS) | (apply sl_val rfl; focus (intro w; go_simp; (try simp (disch := omega) only [IntWalk.i64_in, IntWalk.u64_in, IntWalk.u8_in, IntWalk.u32_in, IntWalk.i32_in]); first | exact rfl | rfl)) | (refine sl_step (fun K hK => .inl ⟨rfl, ?_⟩); unfold Oper.wp; go_simp; (first | with_reducible refine sl_call hS (XC5.out _) ?_); clear hS; intro wk hS; refine hK _ _ ?_; clear hK K) | (refine sl_skip rfl ?_)); go_simp)
          go_upto_region 28 with (fail)
          refine sm_tail 11 [(10, ⟨(fun b => .pointer (some ⟨b, 0, none⟩)), bs fun _ => 0, 26⟩)] hS (by kernel_rfl) (by kernel_rfl) (fun β => ?_)
          simp only [List.take_succ_cons, List.take_zero, List.drop_succ_cons, List.drop_zero]
          iterate 11 (refine sm_step (fun K hK => ?_); (first | (refine sm_load rfl rfl 26 _ rfl rfl (by repeat (first | exact Has.hd | apply Has.tl)) Try.underlying26 rfl (by exact infoV) ?_) | (refine sm_lay rfl rfl (by intro w; go_simp) ?_) | (refine sm_build rfl rfl 26 _ rfl (bs fun _ => 0) (by first | (simp only [List.map_toArray, List.map_nil]; kernel_rfl) | (simp only [Array.map_empty]; kernel_rfl)) ?_) | (refine sm_cell rfl rfl _ _ rfl rfl (by repeat (first | exact Has.hd | apply Has.tl)) (by rfl) (by intro w hc; go_simp) ?_) | (apply sm_yes rfl rfl; focus (intro wx hx; go_simp; first | (apply sm_enter (by kernel_rfl); first | fail | with_reducible exact XC6.out wx) | exact ⟨rfl, Gr.refl _⟩)) | (refine sm_no rfl rfl ?_)); go_simp; refine hK _ ?_; clear hK K)
          refine sm_nil ?_
          clear hS
          intro wk hS
          replace hS : St w [⟨β 10, bs fun _ => 0, 26⟩, ⟨ts, bs f0, 26⟩, ⟨tf, bs f0, 26⟩, ⟨tu, bs u, 26⟩, ⟨b8, #[.int .i64 64790, .int .i64 64793, .int .i64 64795, .int .i64 64797], 41⟩, ⟨b7, #[.int .i64 64791, .int .i64 64794, .int .i64 64796, .int .i64 64798], 41⟩, ⟨p, bs v, 26⟩] wk := hS
          generalize β 10 = tr at hS ⊢
          go_upto_region 29 with (first | (refine sl_load hS rfl 26 _ rfl rfl (by repeat (first | exact Has.hd | apply Has.tl)) Try.underlying26 rfl (by exact infoV) ?_) | (refine sl_store hS rfl 26 _ _ rfl rfl rfl (by repeat (first | exact Rep.hd | apply Rep.tl)) (by exact infoV) (by rfl) (bs_one _) ?_; clear hS; intro wk hS) | (refine sl_box hS rfl _ 26 (box_vec rfl rfl) ?_; clear hS; intro bk wk hS) | (refine sl_box hS rfl _ 26 (alloc_vec rfl) ?_; clear hS; intro bk wk hS) | (refine onlyN_end ?_) | (refine onlyN_now ?_))
          refine sm_all [] hS (by kernel_rfl) (by kernel_rfl) (fun β => ?_)
          repeat (refine sm_step (fun K hK => ?_); (first | (refine sm_load rfl rfl 26 _ rfl rfl (by repeat (first | exact Has.hd | apply Has.tl)) Try.underlying26 rfl (by exact infoV) ?_) | (refine sm_lay rfl rfl (by intro w; go_simp) ?_) | (refine sm_build rfl rfl 26 _ rfl (bs fun _ => 0) (by first | (simp only [List.map_toArray, List.map_nil]; kernel_rfl) | (simp only [Array.map_empty]; kernel_rfl)) ?_) | (refine sm_cell rfl rfl _ _ rfl rfl (by repeat (first | exact Has.hd | apply Has.tl)) (by rfl) (by intro w hc; go_simp) ?_) | (apply sm_yes rfl rfl; focus (intro wx hx; go_simp; first | (apply sm_enter (by kernel_rfl); first | fail | with_reducible exact XC7.out wx) | exact ⟨rfl, Gr.refl _⟩)) | (refine sm_no rfl rfl ?_)); go_simp; refine hK _ ?_; clear hK K)
          refine sm_nil ?_
          clear hS
          intro wk hS
          replace hS : St w [⟨tr, bs (fun _ => 0), 26⟩, ⟨ts, bs f0, 26⟩, ⟨tf, bs f0, 26⟩, ⟨tu, bs u, 26⟩, ⟨b8, #[.int .i64 64790, .int .i64 64793, .int .i64 64795, .int .i64 64797], 41⟩, ⟨b7, #[.int .i64 64791, .int .i64 64794, .int .i64 64796, .int .i64 64798], 41⟩, ⟨p, bs v, 26⟩] wk := hS
          go_upto_region 30 with (fail)
          try refine wp_region_lit ?_
          iterate 15 ((first | (refine sl_load hS rfl 26 _ rfl rfl (by repeat (first | exact Has.hd | apply Has.tl)) Try.underlying26 rfl (by exact infoV) ?_) | (refine sl_store hS rfl 26 _ _ rfl rfl rfl (by repeat (first | exact Rep.hd | apply Rep.tl)) (by exact infoV) (by rfl) (bs_one _) ?_; clear hS; intro wk hS) | (refine sl_neq rfl rfl rfl rfl (vecB_refl _) ?_) | (apply sl_val rfl; focus (intro w; go_simp; (try simp (disch := omega) only [IntWalk.i64_in, IntWalk.u64_in, IntWalk.u8_in, IntWalk.u32_in, IntWalk.i32_in]); first | exact rfl | rfl)) | (refine sl_skip rfl ?_)); go_simp)
          replace hS : St w [⟨b8, #[.int .i64 64790, .int .i64 64793, .int .i64 64795, .int .i64 64797], 41⟩, ⟨b7, #[.int .i64 64791, .int .i64 64794, .int .i64 64796, .int .i64 64798], 41⟩, ⟨p, bs v, 26⟩] _ := hS.tail.tail.tail.tail
          go_wp2_with fail
          exact ⟨⟨2, by omega, rfl, hS⟩, by simp [intOf]⟩
    · as_aux_lemma =>
      obtain ⟨i, hi, hr⟩ : ∃ i : Nat, i < 4 ∧ Int.tmod (IntKind.u64.wrap lane) 4 = (i : Int) := by
        have h0 : 0 ≤ IntKind.u64.wrap lane := by rw [IntKind.wrap_u64]; omega
        rw [Int.tmod_eq_emod_of_nonneg h0]
        exact ⟨(IntKind.u64.wrap lane % 4).toNat, by omega, by omega⟩
      have hi64 : IntKind.i64.wrap (i : Int) = (i : Int) := IntWalk.i64_in _ (by omega)
      have hti : thereB 32 i = true := (there_iff.2 ⟨by omega, by unfold lanesI; simp; omega⟩)
      have C1 := fun w => replace_any 64796 i x (by omega) v w
      rw [show reV 64796 i x v = setI v 32 i x by unfold reV; rw [show reW 64796 = 32 from rfl, if_pos hti], show reW 64796 = 32 from rfl, if_pos hti] at C1
      have hub : Byt (setI v 32 i x) := setI_byt HV.out _ _ _
      have hgi := get_set v 32 i x hti
      have hgo := fun (j : Nat) (h : i ≠ j) => get_set_other v 32 i j x (show (i : Int) ≠ (j : Int) by omega)
      generalize setI v 32 i x = u at *
      have HUB := Lib.hid hub
      have HGI := Lib.hid hgi
      have HGO := Lib.hid hgo
      obtain ⟨lw, hlw⟩ : ∃ z, IntKind.u64.wrap lane = z := ⟨_, rfl⟩
      rw [hlw] at hr
      have HI := Lib.hid hi
      clear hub hgi hgo hti hi
      have XC1 := Lib.hid C1
      clear C1
      have Xhr := Lib.hid hr
      clear hr
      go_upto_region 8 with (fail)
      try refine wp_region_lit ?_
      iterate 4 ((first | (refine sl_load hS rfl 26 _ rfl rfl (by repeat (first | exact Has.hd | apply Has.tl)) Try.underlying26 rfl (by exact infoV) ?_) | (refine sl_store hS rfl 26 _ _ rfl rfl rfl (by repeat (first | exact Rep.hd | apply Rep.tl)) (by exact infoV) (by rfl) (bs_one _) ?_; clear hS; intro wk hS) | (apply sl_val rfl; focus (intro w; go_simp; (try simp (disch := omega) only [IntWalk.i64_in, IntWalk.u64_in, IntWalk.u8_in, IntWalk.u32_in, IntWalk.i32_in]); first | exact rfl | rfl)) | (refine sl_skip rfl ?_)); go_simp)
      go_upto_region 9 with (fail)
      try refine wp_region_lit ?_
      iterate 3 ((first | (refine sl_load hS rfl 26 _ rfl rfl (by repeat (first | exact Has.hd | apply Has.tl)) Try.underlying26 rfl (by exact infoV) ?_) | (refine sl_store hS rfl 26 _ _ rfl rfl rfl (by repeat (first | exact Rep.hd | apply Rep.tl)) (by exact infoV) (by rfl) (bs_one _) ?_; clear hS; intro wk hS) | (apply sl_val rfl; focus (intro w; go_simp; (try simp (disch := omega) only [IntWalk.i64_in, IntWalk.u64_in, IntWalk.u8_in, IntWalk.u32_in, IntWalk.i32_in]); first | exact rfl | rfl)) | (refine sl_skip rfl ?_)); go_simp)
      go_upto_region 10 with (fail)
      try refine wp_region_lit ?_
      iterate 7 ((first | (refine sl_load hS rfl 26 _ rfl rfl (by repeat (first | exact Has.hd | apply Has.tl)) Try.underlying26 rfl (by exact infoV) ?_) | (refine sl_store hS rfl 26 _ _ rfl rfl rfl (by repeat (first | exact Rep.hd | apply Rep.tl)) (by exact infoV) (by rfl) (bs_one _) ?_; clear hS; intro wk hS) | (refine sl_val rfl (run_conv rfl rfl Try.underlying3 Try.underlying42 hlw) ?_) | (refine sl_val rfl (run_rem rfl rfl rfl (by decide) Xhr.out) ?_) | (refine sl_val rfl (run_conv rfl rfl Try.underlying42 Try.underlying3 hi64) ?_) | (apply sl_val rfl; focus (intro w; go_simp; (try simp (disch := omega) only [IntWalk.i64_in, IntWalk.u64_in, IntWalk.u8_in, IntWalk.u32_in, IntWalk.i32_in]); first | exact rfl | rfl)) | (refine sl_skip rfl ?_)); go_simp)
      go_upto_region 11 with (fail)
      refine sm_tail 11 [(10, ⟨(fun b => .pointer (some ⟨b, 0, none⟩)), bs fun _ => 0, 26⟩)] hS (by kernel_rfl) (by kernel_rfl) (fun β => ?_)
      simp only [List.take_succ_cons, List.take_zero, List.drop_succ_cons, List.drop_zero]
      iterate 11 (refine sm_step (fun K hK => ?_); (first | (refine sm_load rfl rfl 26 _ rfl rfl (by repeat (first | exact Has.hd | apply Has.tl)) Try.underlying26 rfl (by exact infoV) ?_) | (refine sm_lay rfl rfl (by intro w; go_simp) ?_) | (refine sm_build rfl rfl 26 _ rfl (bs fun _ => 0) (by first | (simp only [List.map_toArray, List.map_nil]; kernel_rfl) | (simp only [Array.map_empty]; kernel_rfl)) ?_) | (refine sm_cell rfl rfl _ _ rfl rfl (by repeat (first | exact Has.hd | apply Has.tl)) (by rfl) (by intro w hc; go_simp) ?_) | (apply sm_yes rfl rfl; focus (intro wx hx; go_simp; first | (apply sm_enter (by kernel_rfl); first | fail | with_reducible exact XC1.out wx) | exact ⟨rfl, Gr.refl _⟩)) | (refine sm_no rfl rfl ?_)); go_simp; refine hK _ ?_; clear hK K)
      refine sm_nil ?_
      clear hS
      intro wk hS
      replace hS : St w [⟨β 10, bs fun _ => 0, 26⟩, ⟨b8, #[.int .i64 64790, .int .i64 64793, .int .i64 64795, .int .i64 64797], 41⟩, ⟨b7, #[.int .i64 64791, .int .i64 64794, .int .i64 64796, .int .i64 64798], 41⟩, ⟨p, bs v, 26⟩] wk := hS
      generalize β 10 = tu at hS ⊢
      go_upto_region 14 with (first | (refine sl_load hS rfl 26 _ rfl rfl (by repeat (first | exact Has.hd | apply Has.tl)) Try.underlying26 rfl (by exact infoV) ?_) | (refine sl_store hS rfl 26 _ _ rfl rfl rfl (by repeat (first | exact Rep.hd | apply Rep.tl)) (by exact infoV) (by rfl) (bs_one _) ?_; clear hS; intro wk hS) | (refine sl_box hS rfl _ 26 (box_vec rfl rfl) ?_; clear hS; intro bk wk hS) | (refine sl_box hS rfl _ 26 (alloc_vec rfl) ?_; clear hS; intro bk wk hS) | (refine onlyN_end ?_) | (refine onlyN_now ?_))
      try refine wp_region_lit ?_
      iterate 3 ((first | (refine sl_load hS rfl 26 _ rfl rfl (by repeat (first | exact Has.hd | apply Has.tl)) Try.underlying26 rfl (by exact infoV) ?_) | (refine sl_store hS rfl 26 _ _ rfl rfl rfl (by repeat (first | exact Rep.hd | apply Rep.tl)) (by exact infoV) (by rfl) (bs_one _) ?_; clear hS; intro wk hS) | ((with_reducible show wpList _ _ _ (⟨_, .alloc 26 , _, _, _, _⟩ :: _) _ _); refine sl_box hS rfl _ 26 (alloc_vec rfl) ?_; clear hS; intro tf wk hS) | (apply sl_val rfl; focus (intro w; go_simp; (try simp (disch := omega) only [IntWalk.i64_in, IntWalk.u64_in, IntWalk.u8_in, IntWalk.u32_in, IntWalk.i32_in]); first | exact rfl | rfl)) | (refine sl_skip rfl ?_)); go_simp)
      go_wp2_with fail
      go_loopw [16] (fun g wr => ∃ j : Nat, j ≤ 4 ∧ g = .int .i64 j ∧ St w [⟨tf, bs (ofK v 32 (fun _ => x) j), 26⟩, ⟨tu, bs u, 26⟩, ⟨b8, #[.int .i64 64790, .int .i64 64793, .int .i64 64795, .int .i64 64797], 41⟩, ⟨b7, #[.int .i64 64791, .int .i64 64794, .int .i64 64796, .int .i64 64798], 41⟩, ⟨p, bs v, 26⟩] wr) (fun g _ => 4 - (intOf g).toNat)
      case atStart => exact ⟨0, by omega, rfl, hS⟩
      case round =>
        obtain ⟨j, hj, rfl, hS⟩ := hrel
        by_cases hlt : j < 4
        · have htj : thereB 32 j = true := (there_iff.2 ⟨by omega, by unfold lanesI; simp; omega⟩)
          have C2 := fun w => extract_any 64795 j (by omega) u HUB.out w
          have C3 := fun w => extract_any 64795 j (by omega) v HV.out w
          have C4 := fun w => replace_any 64796 j x (by omega) (ofK v 32 (fun _ => x) j) w
          have xo : ∀ b, exV 64795 j b = getI b 32 j := fun b => by unfold exV; rw [show exW 64795 = 32 from rfl, if_pos htj]; rfl
          rw [xo, show exW 64795 = 32 from rfl, if_pos htj] at C2 C3
          rw [show reV 64796 j x (ofK v 32 (fun _ => x) j) = (ofK v 32 (fun _ => x) (j + 1)) by unfold reV; rw [show reW 64796 = 32 from rfl, if_pos htj]; rfl, show reW 64796 = 32 from rfl, if_pos htj] at C4
          have T1 : IntKind.i64.wrap ((j : Int) + 1) = (j : Int) + 1 := IntWalk.i64_in _ (by omega)
          have T2 : decide ((j : Int) < 4) = true := by simp; omega
          have X2 := Lib.hid hlt
          have HIj := HI.out
          generalize hf0 : (ofK v 32 (fun _ => x) j) = f0 at *
          generalize hf1 : (ofK v 32 (fun _ => x) (j + 1)) = f1 at *
          have Xf1 := Lib.hid hf1
          clear hf0 hf1 htj xo hj hlt
          by_cases hij : i = j
          · subst hij
            have hg := HGI.out
            have T3 : ((i : Int) == (i : Int)) = true := by simp
            have hz1 : ∃ z, IntKind.u64.wrap (x * 2 ^ (min (32 : Int).toNat IntKind.u64.bits)) = z ∧ z.fdiv (2 ^ (min (32 : Int).toNat IntKind.u64.bits)) = getI u 32 i := by
              refine ⟨_, rfl, ?_⟩
              have hx := HX.out
              rw [hg, show (2 : Int) ^ (min (32 : Int).toNat IntKind.u64.bits) = 4294967296 by decide, Int.fdiv_eq_ediv_of_nonneg _ (by decide), IntKind.wrap_u64, wid32]
              omega
            obtain ⟨z, hz1, hz2⟩ := hz1
            generalize getI u 32 i = g at *
            have hn : (g != g) = false := by simp
            clear hg
            have XC2 := Lib.hid C2
            clear C2
            have XC3 := Lib.hid C3
            clear C3
            have XC4 := Lib.hid C4
            clear C4
            go_upto_region 18 with (fail)
            refine sm_all [] hS (by kernel_rfl) (by kernel_rfl) (fun β => ?_)
            repeat (refine sm_step (fun K hK => ?_); (first | (refine sm_load rfl rfl 26 _ rfl rfl (by repeat (first | exact Has.hd | apply Has.tl)) Try.underlying26 rfl (by exact infoV) ?_) | (refine sm_lay rfl rfl (by intro w; go_simp) ?_) | (refine sm_build rfl rfl 26 _ rfl (bs fun _ => 0) (by first | (simp only [List.map_toArray, List.map_nil]; kernel_rfl) | (simp only [Array.map_empty]; kernel_rfl)) ?_) | (refine sm_cell rfl rfl _ _ rfl rfl (by repeat (first | exact Has.hd | apply Has.tl)) (by rfl) (by intro w hc; go_simp) ?_) | (apply sm_yes rfl rfl; focus (intro wx hx; go_simp; first | (apply sm_enter (by kernel_rfl); first | fail | with_reducible exact XC2.out wx | with_reducible exact XC3.out wx) | exact ⟨rfl, Gr.refl _⟩)) | (refine sm_no rfl rfl ?_)); go_simp; refine hK _ ?_; clear hK K)
            refine sm_nil ?_
            clear hS
            intro wk hS
            replace hS : St w [⟨tf, bs f0, 26⟩, ⟨tu, bs u, 26⟩, ⟨b8, #[.int .i64 64790, .int .i64 64793, .int .i64 64795, .int .i64 64797], 41⟩, ⟨b7, #[.int .i64 64791, .int .i64 64794, .int .i64 64796, .int .i64 64798], 41⟩, ⟨p, bs v, 26⟩] wk := hS
            go_upto_region 19 with (fail)
            refine sm_all [] hS (by kernel_rfl) (by kernel_rfl) (fun β => ?_)
            repeat (refine sm_step (fun K hK => ?_); (first | (refine sm_load rfl rfl 26 _ rfl rfl (by repeat (first | exact Has.hd | apply Has.tl)) Try.underlying26 rfl (by exact infoV) ?_) | (refine sm_lay rfl rfl (by intro w; go_simp) ?_) | (refine sm_build rfl rfl 26 _ rfl (bs fun _ => 0) (by first | (simp only [List.map_toArray, List.map_nil]; kernel_rfl) | (simp only [Array.map_empty]; kernel_rfl)) ?_) | (refine sm_cell rfl rfl _ _ rfl rfl (by repeat (first | exact Has.hd | apply Has.tl)) (by rfl) (by intro w hc; go_simp) ?_) | (apply sm_yes rfl rfl; focus (intro wx hx; go_simp; first | (apply sm_enter (by kernel_rfl); first | fail | with_reducible exact XC2.out wx | with_reducible exact XC3.out wx) | exact ⟨rfl, Gr.refl _⟩)) | (refine sm_no rfl rfl ?_)); go_simp; refine hK _ ?_; clear hK K)
            refine sm_nil ?_
            clear hS
            intro wk hS
            replace hS : St w [⟨tf, bs f0, 26⟩, ⟨tu, bs u, 26⟩, ⟨b8, #[.int .i64 64790, .int .i64 64793, .int .i64 64795, .int .i64 64797], 41⟩, ⟨b7, #[.int .i64 64791, .int .i64 64794, .int .i64 64796, .int .i64 64798], 41⟩, ⟨p, bs v, 26⟩] wk := hS
            go_upto_region 20 with (fail)
            try refine wp_region_lit ?_
            iterate 3 ((first | (refine sl_load hS rfl 26 _ rfl rfl (by repeat (first | exact Has.hd | apply Has.tl)) Try.underlying26 rfl (by exact infoV) ?_) | (refine sl_store hS rfl 26 _ _ rfl rfl rfl (by repeat (first | exact Rep.hd | apply Rep.tl)) (by exact infoV) (by rfl) (bs_one _) ?_; clear hS; intro wk hS) | (refine sl_val rfl (run_eql rfl rfl rfl T3) ?_) | (apply sl_val rfl; focus (intro w; go_simp; (try simp (disch := omega) only [IntWalk.i64_in, IntWalk.u64_in, IntWalk.u8_in, IntWalk.u32_in, IntWalk.i32_in]); first | exact rfl | rfl)) | (refine sl_skip rfl ?_)); go_simp)
            go_upto_region 21 with (fail)
            try refine wp_region_lit ?_
            iterate 10 ((first | (refine sl_load hS rfl 26 _ rfl rfl (by repeat (first | exact Has.hd | apply Has.tl)) Try.underlying26 rfl (by exact infoV) ?_) | (refine sl_store hS rfl 26 _ _ rfl rfl rfl (by repeat (first | exact Rep.hd | apply Rep.tl)) (by exact infoV) (by rfl) (bs_one _) ?_; clear hS; intro wk hS) | (refine sl_val rfl (run_shl rfl rfl rfl (by decide) hz1) ?_) | (refine sl_val rfl (run_shr rfl rfl rfl (by decide) hz2) ?_) | (apply sl_val rfl; focus (intro w; go_simp; (try simp (disch := omega) only [IntWalk.i64_in, IntWalk.u64_in, IntWalk.u8_in, IntWalk.u32_in, IntWalk.i32_in]); first | exact rfl | rfl)) | (refine sl_skip rfl ?_)); go_simp)
            go_upto_region 22 with (fail)
            try refine wp_region_lit ?_
            iterate 11 ((first | (refine sl_load hS rfl 26 _ rfl rfl (by repeat (first | exact Has.hd | apply Has.tl)) Try.underlying26 rfl (by exact infoV) ?_) | (refine sl_store hS rfl 26 _ _ rfl rfl rfl (by repeat (first | exact Rep.hd | apply Rep.tl)) (by exact infoV) (by rfl) (bs_one _) ?_; clear hS; intro wk hS) | (refine sl_val rfl (run_neq' rfl rfl rfl hn) ?_) | (apply sl_val rfl; focus (intro w; go_simp; (try simp (disch := omega) only [IntWalk.i64_in, IntWalk.u64_in, IntWalk.u8_in, IntWalk.u32_in, IntWalk.i32_in]); first | exact rfl | rfl)) | (refine sl_skip rfl ?_)); go_simp)
            go_upto_region 24 with (fail)
            refine sm_tail 10 [] hS (by kernel_rfl) (by kernel_rfl) (fun β => ?_)
            simp only [List.take_succ_cons, List.take_zero, List.drop_succ_cons, List.drop_zero]
            iterate 10 (refine sm_step (fun K hK => ?_); (first | (refine sm_load rfl rfl 26 _ rfl rfl (by repeat (first | exact Has.hd | apply Has.tl)) Try.underlying26 rfl (by exact infoV) ?_) | (refine sm_lay rfl rfl (by intro w; go_simp) ?_) | (refine sm_build rfl rfl 26 _ rfl (bs fun _ => 0) (by first | (simp only [List.map_toArray, List.map_nil]; kernel_rfl) | (simp only [Array.map_empty]; kernel_rfl)) ?_) | (refine sm_cell rfl rfl _ _ rfl rfl (by repeat (first | exact Has.hd | apply Has.tl)) (by rfl) (by intro w hc; go_simp) ?_) | (apply sm_yes rfl rfl; focus (intro wx hx; go_simp; first | (apply sm_enter (by kernel_rfl); first | fail | with_reducible exact XC4.out wx) | exact ⟨rfl, Gr.refl _⟩)) | (refine sm_no rfl rfl ?_)); go_simp; refine hK _ ?_; clear hK K)
            refine sm_nil ?_
            clear hS
            intro wk hS
            replace hS : St w [⟨tf, bs f0, 26⟩, ⟨tu, bs u, 26⟩, ⟨b8, #[.int .i64 64790, .int .i64 64793, .int .i64 64795, .int .i64 64797], 41⟩, ⟨b7, #[.int .i64 64791, .int .i64 64794, .int .i64 64796, .int .i64 64798], 41⟩, ⟨p, bs v, 26⟩] wk := hS
            go_wp2_with (first | (refine sl_load hS rfl 26 _ rfl rfl (by repeat (first | exact Has.hd | apply Has.tl)) Try.underlying26 rfl (by exact infoV) ?_) | (refine sl_store hS rfl 26 _ _ rfl rfl rfl (by repeat (first | exact Rep.hd | apply Rep.tl)) (by exact infoV) (by rfl) (bs_one _) ?_; clear hS; intro wk hS) | (refine sl_box hS rfl _ 26 (box_vec rfl rfl) ?_; clear hS; intro bk wk hS) | (refine sl_box hS rfl _ 26 (alloc_vec rfl) ?_; clear hS; intro bk wk hS) | (refine onlyN_end ?_) | (refine onlyN_now ?_))
            have X4 := X2.out
            exact ⟨⟨i + 1, by omega, by go_num, by rw [Xf1.out]; exact hS⟩, by simp [intOf]; omega⟩
          · have hg := HGO.out j hij
            rw [hg] at C2
            have T3 : ((j : Int) == (i : Int)) = false := beq_eq_false_iff_ne.2 (by omega)
            generalize getI v 32 j = g at *
            have hn : (g != g) = false := by simp
            clear hg hij HIj
            have XC2 := Lib.hid C2
            clear C2
            have XC3 := Lib.hid C3
            clear C3
            have XC4 := Lib.hid C4
            clear C4
            go_upto_region 18 with (fail)
            refine sm_all [] hS (by kernel_rfl) (by kernel_rfl) (fun β => ?_)
            repeat (refine sm_step (fun K hK => ?_); (first | (refine sm_load rfl rfl 26 _ rfl rfl (by repeat (first | exact Has.hd | apply Has.tl)) Try.underlying26 rfl (by exact infoV) ?_) | (refine sm_lay rfl rfl (by intro w; go_simp) ?_) | (refine sm_build rfl rfl 26 _ rfl (bs fun _ => 0) (by first | (simp only [List.map_toArray, List.map_nil]; kernel_rfl) | (simp only [Array.map_empty]; kernel_rfl)) ?_) | (refine sm_cell rfl rfl _ _ rfl rfl (by repeat (first | exact Has.hd | apply Has.tl)) (by rfl) (by intro w hc; go_simp) ?_) | (apply sm_yes rfl rfl; focus (intro wx hx; go_simp; first | (apply sm_enter (by kernel_rfl); first | fail | with_reducible exact XC2.out wx | with_reducible exact XC3.out wx) | exact ⟨rfl, Gr.refl _⟩)) | (refine sm_no rfl rfl ?_)); go_simp; refine hK _ ?_; clear hK K)
            refine sm_nil ?_
            clear hS
            intro wk hS
            replace hS : St w [⟨tf, bs f0, 26⟩, ⟨tu, bs u, 26⟩, ⟨b8, #[.int .i64 64790, .int .i64 64793, .int .i64 64795, .int .i64 64797], 41⟩, ⟨b7, #[.int .i64 64791, .int .i64 64794, .int .i64 64796, .int .i64 64798], 41⟩, ⟨p, bs v, 26⟩] wk := hS
            go_upto_region 19 with (fail)
            refine sm_all [] hS (by kernel_rfl) (by kernel_rfl) (fun β => ?_)
            repeat (refine sm_step (fun K hK => ?_); (first | (refine sm_load rfl rfl 26 _ rfl rfl (by repeat (first | exact Has.hd | apply Has.tl)) Try.underlying26 rfl (by exact infoV) ?_) | (refine sm_lay rfl rfl (by intro w; go_simp) ?_) | (refine sm_build rfl rfl 26 _ rfl (bs fun _ => 0) (by first | (simp only [List.map_toArray, List.map_nil]; kernel_rfl) | (simp only [Array.map_empty]; kernel_rfl)) ?_) | (refine sm_cell rfl rfl _ _ rfl rfl (by repeat (first | exact Has.hd | apply Has.tl)) (by rfl) (by intro w hc; go_simp) ?_) | (apply sm_yes rfl rfl; focus (intro wx hx; go_simp; first | (apply sm_enter (by kernel_rfl); first | fail | with_reducible exact XC2.out wx | with_reducible exact XC3.out wx) | exact ⟨rfl, Gr.refl _⟩)) | (refine sm_no rfl rfl ?_)); go_simp; refine hK _ ?_; clear hK K)
            refine sm_nil ?_
            clear hS
            intro wk hS
            replace hS : St w [⟨tf, bs f0, 26⟩, ⟨tu, bs u, 26⟩, ⟨b8, #[.int .i64 64790, .int .i64 64793, .int .i64 64795, .int .i64 64797], 41⟩, ⟨b7, #[.int .i64 64791, .int .i64 64794, .int .i64 64796, .int .i64 64798], 41⟩, ⟨p, bs v, 26⟩] wk := hS
            go_upto_region 20 with (fail)
            try refine wp_region_lit ?_
            iterate 3 ((first | (refine sl_load hS rfl 26 _ rfl rfl (by repeat (first | exact Has.hd | apply Has.tl)) Try.underlying26 rfl (by exact infoV) ?_) | (refine sl_store hS rfl 26 _ _ rfl rfl rfl (by repeat (first | exact Rep.hd | apply Rep.tl)) (by exact infoV) (by rfl) (bs_one _) ?_; clear hS; intro wk hS) | (refine sl_val rfl (run_eql rfl rfl rfl T3) ?_) | (apply sl_val rfl; focus (intro w; go_simp; (try simp (disch := omega) only [IntWalk.i64_in, IntWalk.u64_in, IntWalk.u8_in, IntWalk.u32_in, IntWalk.i32_in]); first | exact rfl | rfl)) | (refine sl_skip rfl ?_)); go_simp)
            go_upto_region 22 with (fail)
            try refine wp_region_lit ?_
            iterate 11 ((first | (refine sl_load hS rfl 26 _ rfl rfl (by repeat (first | exact Has.hd | apply Has.tl)) Try.underlying26 rfl (by exact infoV) ?_) | (refine sl_store hS rfl 26 _ _ rfl rfl rfl (by repeat (first | exact Rep.hd | apply Rep.tl)) (by exact infoV) (by rfl) (bs_one _) ?_; clear hS; intro wk hS) | (refine sl_val rfl (run_neq' rfl rfl rfl hn) ?_) | (apply sl_val rfl; focus (intro w; go_simp; (try simp (disch := omega) only [IntWalk.i64_in, IntWalk.u64_in, IntWalk.u8_in, IntWalk.u32_in, IntWalk.i32_in]); first | exact rfl | rfl)) | (refine sl_skip rfl ?_)); go_simp)
            go_upto_region 24 with (fail)
            refine sm_tail 10 [] hS (by kernel_rfl) (by kernel_rfl) (fun β => ?_)
            simp only [List.take_succ_cons, List.take_zero, List.drop_succ_cons, List.drop_zero]
            iterate 10 (refine sm_step (fun K hK => ?_); (first | (refine sm_load rfl rfl 26 _ rfl rfl (by repeat (first | exact Has.hd | apply Has.tl)) Try.underlying26 rfl (by exact infoV) ?_) | (refine sm_lay rfl rfl (by intro w; go_simp) ?_) | (refine sm_build rfl rfl 26 _ rfl (bs fun _ => 0) (by first | (simp only [List.map_toArray, List.map_nil]; kernel_rfl) | (simp only [Array.map_empty]; kernel_rfl)) ?_) | (refine sm_cell rfl rfl _ _ rfl rfl (by repeat (first | exact Has.hd | apply Has.tl)) (by rfl) (by intro w hc; go_simp) ?_) | (apply sm_yes rfl rfl; focus (intro wx hx; go_simp; first | (apply sm_enter (by kernel_rfl); first | fail | with_reducible exact XC4.out wx) | exact ⟨rfl, Gr.refl _⟩)) | (refine sm_no rfl rfl ?_)); go_simp; refine hK _ ?_; clear hK K)
            refine sm_nil ?_
            clear hS
            intro wk hS
            replace hS : St w [⟨tf, bs f0, 26⟩, ⟨tu, bs u, 26⟩, ⟨b8, #[.int .i64 64790, .int .i64 64793, .int .i64 64795, .int .i64 64797], 41⟩, ⟨b7, #[.int .i64 64791, .int .i64 64794, .int .i64 64796, .int .i64 64798], 41⟩, ⟨p, bs v, 26⟩] wk := hS
            go_wp2_with (first | (refine sl_load hS rfl 26 _ rfl rfl (by repeat (first | exact Has.hd | apply Has.tl)) Try.underlying26 rfl (by exact infoV) ?_) | (refine sl_store hS rfl 26 _ _ rfl rfl rfl (by repeat (first | exact Rep.hd | apply Rep.tl)) (by exact infoV) (by rfl) (bs_one _) ?_; clear hS; intro wk hS) | (refine sl_box hS rfl _ 26 (box_vec rfl rfl) ?_; clear hS; intro bk wk hS) | (refine sl_box hS rfl _ 26 (alloc_vec rfl) ?_; clear hS; intro bk wk hS) | (refine onlyN_end ?_) | (refine onlyN_now ?_))
            have X4 := X2.out
            exact ⟨⟨j + 1, by omega, by go_num, by rw [Xf1.out]; exact hS⟩, by simp [intOf]; omega⟩
        · obtain rfl : j = 4 := by omega
          have C5 := fun w => splat_any 64785 x (by omega) w
          rw [show spW 64785 = 32 from rfl, if_neg (by decide), spl_full v HV.out x 32 (by omega) 4 (by decide)] at C5
          have hth : thereB 32 4 = false := by decide
          have hth2 : thereB 32 (-1) = false := by decide
          have C6 := fun w => replace_any 64796 4 x (by omega) v w
          rw [show reV 64796 4 x v = fun _ => 0 by unfold reV; rw [show reW 64796 = 32 from rfl, hth]; rfl, show reW 64796 = 32 from rfl, hth] at C6
          have C7 := fun w => extract_any 64795 (-1) (by omega) v HV.out w
          rw [show exV 64795 (-1) v = 0 by unfold exV; rw [show exW 64795 = 32 from rfl, hth2]; rfl, show exW 64795 = 32 from rfl, hth2] at C7
          generalize (ofK v 32 (fun _ => x) 4) = f0 at *
          clear hth hth2 hj hlt
          have XC5 := Lib.hid C5
          clear C5
          have XC6 := Lib.hid C6
          clear C6
          have XC7 := Lib.hid C7
          clear C7
          go_upto_region 27 with (first | (refine sl_load hS rfl 26 _ rfl rfl (by repeat (first | exact Has.hd | apply Has.tl)) Try.underlying26 rfl (by exact infoV) ?_) | (refine sl_store hS rfl 26 _ _ rfl rfl rfl (by repeat (first | exact Rep.hd | apply Rep.tl)) (by exact infoV) (by rfl) (bs_one _) ?_; clear hS; intro wk hS) | (refine sl_box hS rfl _ 26 (box_vec rfl rfl) ?_; clear hS; intro bk wk hS) | (refine sl_box hS rfl _ 26 (alloc_vec rfl) ?_; clear hS; intro bk wk hS) | (refine onlyN_end ?_) | (refine onlyN_now ?_))
          try refine wp_region_lit ?_
          iterate 10 ((first | (refine sl_load hS rfl 26 _ rfl rfl (by repeat (first | exact Has.hd | apply Has.tl)) Try.underlying26 rfl (by exact infoV) ?_) | (refine sl_store hS rfl 26 _ _ rfl rfl rfl (by repeat (first | exact Rep.hd | apply Rep.tl)) (by exact infoV) (by rfl) (bs_one _) ?_; clear hS; intro wk hS) | ((with_reducible show wpList _ _ _ (⟨_, .alloc 26 , _, _, _, _⟩ :: _) _ _); refine sl_box hS rfl _ 26 (alloc_vec rfl) ?_; clear hS; intro ts wk hS) | (apply sl_val rfl; focus (intro w; go_simp; (try simp (disch := omega) only [IntWalk.i64_in, IntWalk.u64_in, IntWalk.u8_in, IntWalk.u32_in, IntWalk.i32_in]); first | exact rfl | rfl)) | (refine sl_step (fun K hK => .inl ⟨rfl, ?_⟩); unfold Oper.wp; go_simp; (first | with_reducible refine sl_call hS (XC5.out _) ?_); clear hS; intro wk hS; refine hK _ _ ?_; clear hK K) | (refine sl_skip rfl ?_)); go_simp)
          go_upto_region 28 with (fail)
          refine sm_tail 11 [(10, ⟨(fun b => .pointer (some ⟨b, 0, none⟩)), bs fun _ => 0, 26⟩)] hS (by kernel_rfl) (by kernel_rfl) (fun β => ?_)
          simp only [List.take_succ_cons, List.take_zero, List.drop_succ_cons, List.drop_zero]
          iterate 11 (refine sm_step (fun K hK => ?_); (first | (refine sm_load rfl rfl 26 _ rfl rfl (by repeat (first | exact Has.hd | apply Has.tl)) Try.underlying26 rfl (by exact infoV) ?_) | (refine sm_lay rfl rfl (by intro w; go_simp) ?_) | (refine sm_build rfl rfl 26 _ rfl (bs fun _ => 0) (by first | (simp only [List.map_toArray, List.map_nil]; kernel_rfl) | (simp only [Array.map_empty]; kernel_rfl)) ?_) | (refine sm_cell rfl rfl _ _ rfl rfl (by repeat (first | exact Has.hd | apply Has.tl)) (by rfl) (by intro w hc; go_simp) ?_) | (apply sm_yes rfl rfl; focus (intro wx hx; go_simp; first | (apply sm_enter (by kernel_rfl); first | fail | with_reducible exact XC6.out wx) | exact ⟨rfl, Gr.refl _⟩)) | (refine sm_no rfl rfl ?_)); go_simp; refine hK _ ?_; clear hK K)
          refine sm_nil ?_
          clear hS
          intro wk hS
          replace hS : St w [⟨β 10, bs fun _ => 0, 26⟩, ⟨ts, bs f0, 26⟩, ⟨tf, bs f0, 26⟩, ⟨tu, bs u, 26⟩, ⟨b8, #[.int .i64 64790, .int .i64 64793, .int .i64 64795, .int .i64 64797], 41⟩, ⟨b7, #[.int .i64 64791, .int .i64 64794, .int .i64 64796, .int .i64 64798], 41⟩, ⟨p, bs v, 26⟩] wk := hS
          generalize β 10 = tr at hS ⊢
          go_upto_region 29 with (first | (refine sl_load hS rfl 26 _ rfl rfl (by repeat (first | exact Has.hd | apply Has.tl)) Try.underlying26 rfl (by exact infoV) ?_) | (refine sl_store hS rfl 26 _ _ rfl rfl rfl (by repeat (first | exact Rep.hd | apply Rep.tl)) (by exact infoV) (by rfl) (bs_one _) ?_; clear hS; intro wk hS) | (refine sl_box hS rfl _ 26 (box_vec rfl rfl) ?_; clear hS; intro bk wk hS) | (refine sl_box hS rfl _ 26 (alloc_vec rfl) ?_; clear hS; intro bk wk hS) | (refine onlyN_end ?_) | (refine onlyN_now ?_))
          refine sm_all [] hS (by kernel_rfl) (by kernel_rfl) (fun β => ?_)
          repeat (refine sm_step (fun K hK => ?_); (first | (refine sm_load rfl rfl 26 _ rfl rfl (by repeat (first | exact Has.hd | apply Has.tl)) Try.underlying26 rfl (by exact infoV) ?_) | (refine sm_lay rfl rfl (by intro w; go_simp) ?_) | (refine sm_build rfl rfl 26 _ rfl (bs fun _ => 0) (by first | (simp only [List.map_toArray, List.map_nil]; kernel_rfl) | (simp only [Array.map_empty]; kernel_rfl)) ?_) | (refine sm_cell rfl rfl _ _ rfl rfl (by repeat (first | exact Has.hd | apply Has.tl)) (by rfl) (by intro w hc; go_simp) ?_) | (apply sm_yes rfl rfl; focus (intro wx hx; go_simp; first | (apply sm_enter (by kernel_rfl); first | fail | with_reducible exact XC7.out wx) | exact ⟨rfl, Gr.refl _⟩)) | (refine sm_no rfl rfl ?_)); go_simp; refine hK _ ?_; clear hK K)
          refine sm_nil ?_
          clear hS
          intro wk hS
          replace hS : St w [⟨tr, bs (fun _ => 0), 26⟩, ⟨ts, bs f0, 26⟩, ⟨tf, bs f0, 26⟩, ⟨tu, bs u, 26⟩, ⟨b8, #[.int .i64 64790, .int .i64 64793, .int .i64 64795, .int .i64 64797], 41⟩, ⟨b7, #[.int .i64 64791, .int .i64 64794, .int .i64 64796, .int .i64 64798], 41⟩, ⟨p, bs v, 26⟩] wk := hS
          go_upto_region 30 with (fail)
          try refine wp_region_lit ?_
          iterate 15 ((first | (refine sl_load hS rfl 26 _ rfl rfl (by repeat (first | exact Has.hd | apply Has.tl)) Try.underlying26 rfl (by exact infoV) ?_) | (refine sl_store hS rfl 26 _ _ rfl rfl rfl (by repeat (first | exact Rep.hd | apply Rep.tl)) (by exact infoV) (by rfl) (bs_one _) ?_; clear hS; intro wk hS) | (refine sl_neq rfl rfl rfl rfl (vecB_refl _) ?_) | (apply sl_val rfl; focus (intro w; go_simp; (try simp (disch := omega) only [IntWalk.i64_in, IntWalk.u64_in, IntWalk.u8_in, IntWalk.u32_in, IntWalk.i32_in]); first | exact rfl | rfl)) | (refine sl_skip rfl ?_)); go_simp)
          replace hS : St w [⟨b8, #[.int .i64 64790, .int .i64 64793, .int .i64 64795, .int .i64 64797], 41⟩, ⟨b7, #[.int .i64 64791, .int .i64 64794, .int .i64 64796, .int .i64 64798], 41⟩, ⟨p, bs v, 26⟩] _ := hS.tail.tail.tail.tail
          go_wp2_with fail
          exact ⟨⟨3, by omega, rfl, hS⟩, by simp [intOf]⟩
    · as_aux_lemma =>
      obtain ⟨i, hi, hr⟩ : ∃ i : Nat, i < 2 ∧ Int.tmod (IntKind.u64.wrap lane) 2 = (i : Int) := by
        have h0 : 0 ≤ IntKind.u64.wrap lane := by rw [IntKind.wrap_u64]; omega
        rw [Int.tmod_eq_emod_of_nonneg h0]
        exact ⟨(IntKind.u64.wrap lane % 2).toNat, by omega, by omega⟩
      have hi64 : IntKind.i64.wrap (i : Int) = (i : Int) := IntWalk.i64_in _ (by omega)
      have hti : thereB 64 i = true := (there_iff.2 ⟨by omega, by unfold lanesI; simp; omega⟩)
      have C1 := fun w => replace_any 64798 i x (by omega) v w
      rw [show reV 64798 i x v = setI v 64 i x by unfold reV; rw [show reW 64798 = 64 from rfl, if_pos hti], show reW 64798 = 64 from rfl, if_pos hti] at C1
      have hub : Byt (setI v 64 i x) := setI_byt HV.out _ _ _
      have hgi := get_set v 64 i x hti
      have hgo := fun (j : Nat) (h : i ≠ j) => get_set_other v 64 i j x (show (i : Int) ≠ (j : Int) by omega)
      generalize setI v 64 i x = u at *
      have HUB := Lib.hid hub
      have HGI := Lib.hid hgi
      have HGO := Lib.hid hgo
      obtain ⟨lw, hlw⟩ : ∃ z, IntKind.u64.wrap lane = z := ⟨_, rfl⟩
      rw [hlw] at hr
      have HI := Lib.hid hi
      clear hub hgi hgo hti hi
      have XC1 := Lib.hid C1
      clear C1
      have Xhr := Lib.hid hr
      clear hr
      go_upto_region 8 with (fail)
      try refine wp_region_lit ?_
      iterate 4 ((first | (refine sl_load hS rfl 26 _ rfl rfl (by repeat (first | exact Has.hd | apply Has.tl)) Try.underlying26 rfl (by exact infoV) ?_) | (refine sl_store hS rfl 26 _ _ rfl rfl rfl (by repeat (first | exact Rep.hd | apply Rep.tl)) (by exact infoV) (by rfl) (bs_one _) ?_; clear hS; intro wk hS) | (apply sl_val rfl; focus (intro w; go_simp; (try simp (disch := omega) only [IntWalk.i64_in, IntWalk.u64_in, IntWalk.u8_in, IntWalk.u32_in, IntWalk.i32_in]); first | exact rfl | rfl)) | (refine sl_skip rfl ?_)); go_simp)
      go_upto_region 9 with (fail)
      try refine wp_region_lit ?_
      iterate 3 ((first | (refine sl_load hS rfl 26 _ rfl rfl (by repeat (first | exact Has.hd | apply Has.tl)) Try.underlying26 rfl (by exact infoV) ?_) | (refine sl_store hS rfl 26 _ _ rfl rfl rfl (by repeat (first | exact Rep.hd | apply Rep.tl)) (by exact infoV) (by rfl) (bs_one _) ?_; clear hS; intro wk hS) | (apply sl_val rfl; focus (intro w; go_simp; (try simp (disch := omega) only [IntWalk.i64_in, IntWalk.u64_in, IntWalk.u8_in, IntWalk.u32_in, IntWalk.i32_in]); first | exact rfl | rfl)) | (refine sl_skip rfl ?_)); go_simp)
      go_upto_region 10 with (fail)
      try refine wp_region_lit ?_
      iterate 7 ((first | (refine sl_load hS rfl 26 _ rfl rfl (by repeat (first | exact Has.hd | apply Has.tl)) Try.underlying26 rfl (by exact infoV) ?_) | (refine sl_store hS rfl 26 _ _ rfl rfl rfl (by repeat (first | exact Rep.hd | apply Rep.tl)) (by exact infoV) (by rfl) (bs_one _) ?_; clear hS; intro wk hS) | (refine sl_val rfl (run_conv rfl rfl Try.underlying3 Try.underlying42 hlw) ?_) | (refine sl_val rfl (run_rem rfl rfl rfl (by decide) Xhr.out) ?_) | (refine sl_val rfl (run_conv rfl rfl Try.underlying42 Try.underlying3 hi64) ?_) | (apply sl_val rfl; focus (intro w; go_simp; (try simp (disch := omega) only [IntWalk.i64_in, IntWalk.u64_in, IntWalk.u8_in, IntWalk.u32_in, IntWalk.i32_in]); first | exact rfl | rfl)) | (refine sl_skip rfl ?_)); go_simp)
      go_upto_region 11 with (fail)
      refine sm_tail 11 [(10, ⟨(fun b => .pointer (some ⟨b, 0, none⟩)), bs fun _ => 0, 26⟩)] hS (by kernel_rfl) (by kernel_rfl) (fun β => ?_)
      simp only [List.take_succ_cons, List.take_zero, List.drop_succ_cons, List.drop_zero]
      iterate 11 (refine sm_step (fun K hK => ?_); (first | (refine sm_load rfl rfl 26 _ rfl rfl (by repeat (first | exact Has.hd | apply Has.tl)) Try.underlying26 rfl (by exact infoV) ?_) | (refine sm_lay rfl rfl (by intro w; go_simp) ?_) | (refine sm_build rfl rfl 26 _ rfl (bs fun _ => 0) (by first | (simp only [List.map_toArray, List.map_nil]; kernel_rfl) | (simp only [Array.map_empty]; kernel_rfl)) ?_) | (refine sm_cell rfl rfl _ _ rfl rfl (by repeat (first | exact Has.hd | apply Has.tl)) (by rfl) (by intro w hc; go_simp) ?_) | (apply sm_yes rfl rfl; focus (intro wx hx; go_simp; first | (apply sm_enter (by kernel_rfl); first | fail | with_reducible exact XC1.out wx) | exact ⟨rfl, Gr.refl _⟩)) | (refine sm_no rfl rfl ?_)); go_simp; refine hK _ ?_; clear hK K)
      refine sm_nil ?_
      clear hS
      intro wk hS
      replace hS : St w [⟨β 10, bs fun _ => 0, 26⟩, ⟨b8, #[.int .i64 64790, .int .i64 64793, .int .i64 64795, .int .i64 64797], 41⟩, ⟨b7, #[.int .i64 64791, .int .i64 64794, .int .i64 64796, .int .i64 64798], 41⟩, ⟨p, bs v, 26⟩] wk := hS
      generalize β 10 = tu at hS ⊢
      go_upto_region 14 with (first | (refine sl_load hS rfl 26 _ rfl rfl (by repeat (first | exact Has.hd | apply Has.tl)) Try.underlying26 rfl (by exact infoV) ?_) | (refine sl_store hS rfl 26 _ _ rfl rfl rfl (by repeat (first | exact Rep.hd | apply Rep.tl)) (by exact infoV) (by rfl) (bs_one _) ?_; clear hS; intro wk hS) | (refine sl_box hS rfl _ 26 (box_vec rfl rfl) ?_; clear hS; intro bk wk hS) | (refine sl_box hS rfl _ 26 (alloc_vec rfl) ?_; clear hS; intro bk wk hS) | (refine onlyN_end ?_) | (refine onlyN_now ?_))
      try refine wp_region_lit ?_
      iterate 3 ((first | (refine sl_load hS rfl 26 _ rfl rfl (by repeat (first | exact Has.hd | apply Has.tl)) Try.underlying26 rfl (by exact infoV) ?_) | (refine sl_store hS rfl 26 _ _ rfl rfl rfl (by repeat (first | exact Rep.hd | apply Rep.tl)) (by exact infoV) (by rfl) (bs_one _) ?_; clear hS; intro wk hS) | ((with_reducible show wpList _ _ _ (⟨_, .alloc 26 , _, _, _, _⟩ :: _) _ _); refine sl_box hS rfl _ 26 (alloc_vec rfl) ?_; clear hS; intro tf wk hS) | (apply sl_val rfl; focus (intro w; go_simp; (try simp (disch := omega) only [IntWalk.i64_in, IntWalk.u64_in, IntWalk.u8_in, IntWalk.u32_in, IntWalk.i32_in]); first | exact rfl | rfl)) | (refine sl_skip rfl ?_)); go_simp)
      go_wp2_with fail
      go_loopw [16] (fun g wr => ∃ j : Nat, j ≤ 2 ∧ g = .int .i64 j ∧ St w [⟨tf, bs (ofK v 64 (fun _ => x) j), 26⟩, ⟨tu, bs u, 26⟩, ⟨b8, #[.int .i64 64790, .int .i64 64793, .int .i64 64795, .int .i64 64797], 41⟩, ⟨b7, #[.int .i64 64791, .int .i64 64794, .int .i64 64796, .int .i64 64798], 41⟩, ⟨p, bs v, 26⟩] wr) (fun g _ => 2 - (intOf g).toNat)
      case atStart => exact ⟨0, by omega, rfl, hS⟩
      case round =>
        obtain ⟨j, hj, rfl, hS⟩ := hrel
        by_cases hlt : j < 2
        · have htj : thereB 64 j = true := (there_iff.2 ⟨by omega, by unfold lanesI; simp; omega⟩)
          have C2 := fun w => extract_any 64797 j (by omega) u HUB.out w
          have C3 := fun w => extract_any 64797 j (by omega) v HV.out w
          have C4 := fun w => replace_any 64798 j x (by omega) (ofK v 64 (fun _ => x) j) w
          have xo : ∀ b, exV 64797 j b = getI b 64 j := fun b => by unfold exV; rw [show exW 64797 = 64 from rfl, if_pos htj]; rfl
          rw [xo, show exW 64797 = 64 from rfl, if_pos htj] at C2 C3
          rw [show reV 64798 j x (ofK v 64 (fun _ => x) j) = (ofK v 64 (fun _ => x) (j + 1)) by unfold reV; rw [show reW 64798 = 64 from rfl, if_pos htj]; rfl, show reW 64798 = 64 from rfl, if_pos htj] at C4
          have T1 : IntKind.i64.wrap ((j : Int) + 1) = (j : Int) + 1 := IntWalk.i64_in _ (by omega)
          have T2 : decide ((j : Int) < 2) = true := by simp; omega
          have X2 := Lib.hid hlt
          have HIj := HI.out
          generalize hf0 : (ofK v 64 (fun _ => x) j) = f0 at *
          generalize hf1 : (ofK v 64 (fun _ => x) (j + 1)) = f1 at *
          have Xf1 := Lib.hid hf1
          clear hf0 hf1 htj xo hj hlt
          by_cases hij : i = j
          · subst hij
            have hg := HGI.out
            have T3 : ((i : Int) == (i : Int)) = true := by simp
            have hz1 : ∃ z, IntKind.u64.wrap (x * 2 ^ (min (0 : Int).toNat IntKind.u64.bits)) = z ∧ z.fdiv (2 ^ (min (0 : Int).toNat IntKind.u64.bits)) = getI u 64 i := by
              refine ⟨_, rfl, ?_⟩
              have hx := HX.out
              rw [hg, show (2 : Int) ^ (min (0 : Int).toNat IntKind.u64.bits) = 1 by decide, Int.fdiv_eq_ediv_of_nonneg _ (by decide), IntKind.wrap_u64, wid64]
              omega
            obtain ⟨z, hz1, hz2⟩ := hz1
            generalize getI u 64 i = g at *
            have hn : (g != g) = false := by simp
            clear hg
            have XC2 := Lib.hid C2
            clear C2
            have XC3 := Lib.hid C3
            clear C3
            have XC4 := Lib.hid C4
            clear C4
            go_upto_region 18 with (fail)
            refine sm_all [] hS (by kernel_rfl) (by kernel_rfl) (fun β => ?_)
            repeat (refine sm_step (fun K hK => ?_); (first | (refine sm_load rfl rfl 26 _ rfl rfl (by repeat (first | exact Has.hd | apply Has.tl)) Try.underlying26 rfl (by exact infoV) ?_) | (refine sm_lay rfl rfl (by intro w; go_simp) ?_) | (refine sm_build rfl rfl 26 _ rfl (bs fun _ => 0) (by first | (simp only [List.map_toArray, List.map_nil]; kernel_rfl) | (simp only [Array.map_empty]; kernel_rfl)) ?_) | (refine sm_cell rfl rfl _ _ rfl rfl (by repeat (first | exact Has.hd | apply Has.tl)) (by rfl) (by intro w hc; go_simp) ?_) | (apply sm_yes rfl rfl; focus (intro wx hx; go_simp; first | (apply sm_enter (by kernel_rfl); first | fail | with_reducible exact XC2.out wx | with_reducible exact XC3.out wx) | exact ⟨rfl, Gr.refl _⟩)) | (refine sm_no rfl rfl ?_)); go_simp; refine hK _ ?_; clear hK K)
            refine sm_nil ?_
            clear hS
            intro wk hS
            replace hS : St w [⟨tf, bs f0, 26⟩, ⟨tu, bs u, 26⟩, ⟨b8, #[.int .i64 64790, .int .i64 64793, .int .i64 64795, .int .i64 64797], 41⟩, ⟨b7, #[.int .i64 64791, .int .i64 64794, .int .i64 64796, .int .i64 64798], 41⟩, ⟨p, bs v, 26⟩] wk := hS
            go_upto_region 19 with (fail)
            refine sm_all [] hS (by kernel_rfl) (by kernel_rfl) (fun β => ?_)
            repeat (refine sm_step (fun K hK => ?_); (first | (refine sm_load rfl rfl 26 _ rfl rfl (by repeat (first | exact Has.hd | apply Has.tl)) Try.underlying26 rfl (by exact infoV) ?_) | (refine sm_lay rfl rfl (by intro w; go_simp) ?_) | (refine sm_build rfl rfl 26 _ rfl (bs fun _ => 0) (by first | (simp only [List.map_toArray, List.map_nil]; kernel_rfl) | (simp only [Array.map_empty]; kernel_rfl)) ?_) | (refine sm_cell rfl rfl _ _ rfl rfl (by repeat (first | exact Has.hd | apply Has.tl)) (by rfl) (by intro w hc; go_simp) ?_) | (apply sm_yes rfl rfl; focus (intro wx hx; go_simp; first | (apply sm_enter (by kernel_rfl); first | fail | with_reducible exact XC2.out wx | with_reducible exact XC3.out wx) | exact ⟨rfl, Gr.refl _⟩)) | (refine sm_no rfl rfl ?_)); go_simp; refine hK _ ?_; clear hK K)
            refine sm_nil ?_
            clear hS
            intro wk hS
            replace hS : St w [⟨tf, bs f0, 26⟩, ⟨tu, bs u, 26⟩, ⟨b8, #[.int .i64 64790, .int .i64 64793, .int .i64 64795, .int .i64 64797], 41⟩, ⟨b7, #[.int .i64 64791, .int .i64 64794, .int .i64 64796, .int .i64 64798], 41⟩, ⟨p, bs v, 26⟩] wk := hS
            go_upto_region 20 with (fail)
            try refine wp_region_lit ?_
            iterate 3 ((first | (refine sl_load hS rfl 26 _ rfl rfl (by repeat (first | exact Has.hd | apply Has.tl)) Try.underlying26 rfl (by exact infoV) ?_) | (refine sl_store hS rfl 26 _ _ rfl rfl rfl (by repeat (first | exact Rep.hd | apply Rep.tl)) (by exact infoV) (by rfl) (bs_one _) ?_; clear hS; intro wk hS) | (refine sl_val rfl (run_eql rfl rfl rfl T3) ?_) | (apply sl_val rfl; focus (intro w; go_simp; (try simp (disch := omega) only [IntWalk.i64_in, IntWalk.u64_in, IntWalk.u8_in, IntWalk.u32_in, IntWalk.i32_in]); first | exact rfl | rfl)) | (refine sl_skip rfl ?_)); go_simp)
            go_upto_region 21 with (fail)
            try refine wp_region_lit ?_
            iterate 10 ((first | (refine sl_load hS rfl 26 _ rfl rfl (by repeat (first | exact Has.hd | apply Has.tl)) Try.underlying26 rfl (by exact infoV) ?_) | (refine sl_store hS rfl 26 _ _ rfl rfl rfl (by repeat (first | exact Rep.hd | apply Rep.tl)) (by exact infoV) (by rfl) (bs_one _) ?_; clear hS; intro wk hS) | (refine sl_val rfl (run_shl rfl rfl rfl (by decide) hz1) ?_) | (refine sl_val rfl (run_shr rfl rfl rfl (by decide) hz2) ?_) | (apply sl_val rfl; focus (intro w; go_simp; (try simp (disch := omega) only [IntWalk.i64_in, IntWalk.u64_in, IntWalk.u8_in, IntWalk.u32_in, IntWalk.i32_in]); first | exact rfl | rfl)) | (refine sl_skip rfl ?_)); go_simp)
            go_upto_region 22 with (fail)
            try refine wp_region_lit ?_
            iterate 11 ((first | (refine sl_load hS rfl 26 _ rfl rfl (by repeat (first | exact Has.hd | apply Has.tl)) Try.underlying26 rfl (by exact infoV) ?_) | (refine sl_store hS rfl 26 _ _ rfl rfl rfl (by repeat (first | exact Rep.hd | apply Rep.tl)) (by exact infoV) (by rfl) (bs_one _) ?_; clear hS; intro wk hS) | (refine sl_val rfl (run_neq' rfl rfl rfl hn) ?_) | (apply sl_val rfl; focus (intro w; go_simp; (try simp (disch := omega) only [IntWalk.i64_in, IntWalk.u64_in, IntWalk.u8_in, IntWalk.u32_in, IntWalk.i32_in]); first | exact rfl | rfl)) | (refine sl_skip rfl ?_)); go_simp)
            go_upto_region 24 with (fail)
            refine sm_tail 10 [] hS (by kernel_rfl) (by kernel_rfl) (fun β => ?_)
            simp only [List.take_succ_cons, List.take_zero, List.drop_succ_cons, List.drop_zero]
            iterate 10 (refine sm_step (fun K hK => ?_); (first | (refine sm_load rfl rfl 26 _ rfl rfl (by repeat (first | exact Has.hd | apply Has.tl)) Try.underlying26 rfl (by exact infoV) ?_) | (refine sm_lay rfl rfl (by intro w; go_simp) ?_) | (refine sm_build rfl rfl 26 _ rfl (bs fun _ => 0) (by first | (simp only [List.map_toArray, List.map_nil]; kernel_rfl) | (simp only [Array.map_empty]; kernel_rfl)) ?_) | (refine sm_cell rfl rfl _ _ rfl rfl (by repeat (first | exact Has.hd | apply Has.tl)) (by rfl) (by intro w hc; go_simp) ?_) | (apply sm_yes rfl rfl; focus (intro wx hx; go_simp; first | (apply sm_enter (by kernel_rfl); first | fail | with_reducible exact XC4.out wx) | exact ⟨rfl, Gr.refl _⟩)) | (refine sm_no rfl rfl ?_)); go_simp; refine hK _ ?_; clear hK K)
            refine sm_nil ?_
            clear hS
            intro wk hS
            replace hS : St w [⟨tf, bs f0, 26⟩, ⟨tu, bs u, 26⟩, ⟨b8, #[.int .i64 64790, .int .i64 64793, .int .i64 64795, .int .i64 64797], 41⟩, ⟨b7, #[.int .i64 64791, .int .i64 64794, .int .i64 64796, .int .i64 64798], 41⟩, ⟨p, bs v, 26⟩] wk := hS
            go_wp2_with (first | (refine sl_load hS rfl 26 _ rfl rfl (by repeat (first | exact Has.hd | apply Has.tl)) Try.underlying26 rfl (by exact infoV) ?_) | (refine sl_store hS rfl 26 _ _ rfl rfl rfl (by repeat (first | exact Rep.hd | apply Rep.tl)) (by exact infoV) (by rfl) (bs_one _) ?_; clear hS; intro wk hS) | (refine sl_box hS rfl _ 26 (box_vec rfl rfl) ?_; clear hS; intro bk wk hS) | (refine sl_box hS rfl _ 26 (alloc_vec rfl) ?_; clear hS; intro bk wk hS) | (refine onlyN_end ?_) | (refine onlyN_now ?_))
            have X4 := X2.out
            exact ⟨⟨i + 1, by omega, by go_num, by rw [Xf1.out]; exact hS⟩, by simp [intOf]; omega⟩
          · have hg := HGO.out j hij
            rw [hg] at C2
            have T3 : ((j : Int) == (i : Int)) = false := beq_eq_false_iff_ne.2 (by omega)
            generalize getI v 64 j = g at *
            have hn : (g != g) = false := by simp
            clear hg hij HIj
            have XC2 := Lib.hid C2
            clear C2
            have XC3 := Lib.hid C3
            clear C3
            have XC4 := Lib.hid C4
            clear C4
            go_upto_region 18 with (fail)
            refine sm_all [] hS (by kernel_rfl) (by kernel_rfl) (fun β => ?_)
            repeat (refine sm_step (fun K hK => ?_); (first | (refine sm_load rfl rfl 26 _ rfl rfl (by repeat (first | exact Has.hd | apply Has.tl)) Try.underlying26 rfl (by exact infoV) ?_) | (refine sm_lay rfl rfl (by intro w; go_simp) ?_) | (refine sm_build rfl rfl 26 _ rfl (bs fun _ => 0) (by first | (simp only [List.map_toArray, List.map_nil]; kernel_rfl) | (simp only [Array.map_empty]; kernel_rfl)) ?_) | (refine sm_cell rfl rfl _ _ rfl rfl (by repeat (first | exact Has.hd | apply Has.tl)) (by rfl) (by intro w hc; go_simp) ?_) | (apply sm_yes rfl rfl; focus (intro wx hx; go_simp; first | (apply sm_enter (by kernel_rfl); first | fail | with_reducible exact XC2.out wx | with_reducible exact XC3.out wx) | exact ⟨rfl, Gr.refl _⟩)) | (refine sm_no rfl rfl ?_)); go_simp; refine hK _ ?_; clear hK K)
            refine sm_nil ?_
            clear hS
            intro wk hS
            replace hS : St w [⟨tf, bs f0, 26⟩, ⟨tu, bs u, 26⟩, ⟨b8, #[.int .i64 64790, .int .i64 64793, .int .i64 64795, .int .i64 64797], 41⟩, ⟨b7, #[.int .i64 64791, .int .i64 64794, .int .i64 64796, .int .i64 64798], 41⟩, ⟨p, bs v, 26⟩] wk := hS
            go_upto_region 19 with (fail)
            refine sm_all [] hS (by kernel_rfl) (by kernel_rfl) (fun β => ?_)
            repeat (refine sm_step (fun K hK => ?_); (first | (refine sm_load rfl rfl 26 _ rfl rfl (by repeat (first | exact Has.hd | apply Has.tl)) Try.underlying26 rfl (by exact infoV) ?_) | (refine sm_lay rfl rfl (by intro w; go_simp) ?_) | (refine sm_build rfl rfl 26 _ rfl (bs fun _ => 0) (by first | (simp only [List.map_toArray, List.map_nil]; kernel_rfl) | (simp only [Array.map_empty]; kernel_rfl)) ?_) | (refine sm_cell rfl rfl _ _ rfl rfl (by repeat (first | exact Has.hd | apply Has.tl)) (by rfl) (by intro w hc; go_simp) ?_) | (apply sm_yes rfl rfl; focus (intro wx hx; go_simp; first | (apply sm_enter (by kernel_rfl); first | fail | with_reducible exact XC2.out wx | with_reducible exact XC3.out wx) | exact ⟨rfl, Gr.refl _⟩)) | (refine sm_no rfl rfl ?_)); go_simp; refine hK _ ?_; clear hK K)
            refine sm_nil ?_
            clear hS
            intro wk hS
            replace hS : St w [⟨tf, bs f0, 26⟩, ⟨tu, bs u, 26⟩, ⟨b8, #[.int .i64 64790, .int .i64 64793, .int .i64 64795, .int .i64 64797], 41⟩, ⟨b7, #[.int .i64 64791, .int .i64 64794, .int .i64 64796, .int .i64 64798], 41⟩, ⟨p, bs v, 26⟩] wk := hS
            go_upto_region 20 with (fail)
            try refine wp_region_lit ?_
            iterate 3 ((first | (refine sl_load hS rfl 26 _ rfl rfl (by repeat (first | exact Has.hd | apply Has.tl)) Try.underlying26 rfl (by exact infoV) ?_) | (refine sl_store hS rfl 26 _ _ rfl rfl rfl (by repeat (first | exact Rep.hd | apply Rep.tl)) (by exact infoV) (by rfl) (bs_one _) ?_; clear hS; intro wk hS) | (refine sl_val rfl (run_eql rfl rfl rfl T3) ?_) | (apply sl_val rfl; focus (intro w; go_simp; (try simp (disch := omega) only [IntWalk.i64_in, IntWalk.u64_in, IntWalk.u8_in, IntWalk.u32_in, IntWalk.i32_in]); first | exact rfl | rfl)) | (refine sl_skip rfl ?_)); go_simp)
            go_upto_region 22 with (fail)
            try refine wp_region_lit ?_
            iterate 11 ((first | (refine sl_load hS rfl 26 _ rfl rfl (by repeat (first | exact Has.hd | apply Has.tl)) Try.underlying26 rfl (by exact infoV) ?_) | (refine sl_store hS rfl 26 _ _ rfl rfl rfl (by repeat (first | exact Rep.hd | apply Rep.tl)) (by exact infoV) (by rfl) (bs_one _) ?_; clear hS; intro wk hS) | (refine sl_val rfl (run_neq' rfl rfl rfl hn) ?_) | (apply sl_val rfl; focus (intro w; go_simp; (try simp (disch := omega) only [IntWalk.i64_in, IntWalk.u64_in, IntWalk.u8_in, IntWalk.u32_in, IntWalk.i32_in]); first | exact rfl | rfl)) | (refine sl_skip rfl ?_)); go_simp)
            go_upto_region 24 with (fail)
            refine sm_tail 10 [] hS (by kernel_rfl) (by kernel_rfl) (fun β => ?_)
            simp only [List.take_succ_cons, List.take_zero, List.drop_succ_cons, List.drop_zero]
            iterate 10 (refine sm_step (fun K hK => ?_); (first | (refine sm_load rfl rfl 26 _ rfl rfl (by repeat (first | exact Has.hd | apply Has.tl)) Try.underlying26 rfl (by exact infoV) ?_) | (refine sm_lay rfl rfl (by intro w; go_simp) ?_) | (refine sm_build rfl rfl 26 _ rfl (bs fun _ => 0) (by first | (simp only [List.map_toArray, List.map_nil]; kernel_rfl) | (simp only [Array.map_empty]; kernel_rfl)) ?_) | (refine sm_cell rfl rfl _ _ rfl rfl (by repeat (first | exact Has.hd | apply Has.tl)) (by rfl) (by intro w hc; go_simp) ?_) | (apply sm_yes rfl rfl; focus (intro wx hx; go_simp; first | (apply sm_enter (by kernel_rfl); first | fail | with_reducible exact XC4.out wx) | exact ⟨rfl, Gr.refl _⟩)) | (refine sm_no rfl rfl ?_)); go_simp; refine hK _ ?_; clear hK K)
            refine sm_nil ?_
            clear hS
            intro wk hS
            replace hS : St w [⟨tf, bs f0, 26⟩, ⟨tu, bs u, 26⟩, ⟨b8, #[.int .i64 64790, .int .i64 64793, .int .i64 64795, .int .i64 64797], 41⟩, ⟨b7, #[.int .i64 64791, .int .i64 64794, .int .i64 64796, .int .i64 64798], 41⟩, ⟨p, bs v, 26⟩] wk := hS
            go_wp2_with (first | (refine sl_load hS rfl 26 _ rfl rfl (by repeat (first | exact Has.hd | apply Has.tl)) Try.underlying26 rfl (by exact infoV) ?_) | (refine sl_store hS rfl 26 _ _ rfl rfl rfl (by repeat (first | exact Rep.hd | apply Rep.tl)) (by exact infoV) (by rfl) (bs_one _) ?_; clear hS; intro wk hS) | (refine sl_box hS rfl _ 26 (box_vec rfl rfl) ?_; clear hS; intro bk wk hS) | (refine sl_box hS rfl _ 26 (alloc_vec rfl) ?_; clear hS; intro bk wk hS) | (refine onlyN_end ?_) | (refine onlyN_now ?_))
            have X4 := X2.out
            exact ⟨⟨j + 1, by omega, by go_num, by rw [Xf1.out]; exact hS⟩, by simp [intOf]; omega⟩
        · obtain rfl : j = 2 := by omega
          have C5 := fun w => splat_any 64786 x (by omega) w
          rw [show spW 64786 = 64 from rfl, if_neg (by decide), spl_full v HV.out x 64 (by omega) 2 (by decide)] at C5
          have hth : thereB 64 2 = false := by decide
          have hth2 : thereB 64 (-1) = false := by decide
          have C6 := fun w => replace_any 64798 2 x (by omega) v w
          rw [show reV 64798 2 x v = fun _ => 0 by unfold reV; rw [show reW 64798 = 64 from rfl, hth]; rfl, show reW 64798 = 64 from rfl, hth] at C6
          have C7 := fun w => extract_any 64797 (-1) (by omega) v HV.out w
          rw [show exV 64797 (-1) v = 0 by unfold exV; rw [show exW 64797 = 64 from rfl, hth2]; rfl, show exW 64797 = 64 from rfl, hth2] at C7
          generalize (ofK v 64 (fun _ => x) 2) = f0 at *
          clear hth hth2 hj hlt
          have XC5 := Lib.hid C5
          clear C5
          have XC6 := Lib.hid C6
          clear C6
          have XC7 := Lib.hid C7
          clear C7
          go_upto_region 27 with (first | (refine sl_load hS rfl 26 _ rfl rfl (by repeat (first | exact Has.hd | apply Has.tl)) Try.underlying26 rfl (by exact infoV) ?_) | (refine sl_store hS rfl 26 _ _ rfl rfl rfl (by repeat (first | exact Rep.hd | apply Rep.tl)) (by exact infoV) (by rfl) (bs_one _) ?_; clear hS; intro wk hS) | (refine sl_box hS rfl _ 26 (box_vec rfl rfl) ?_; clear hS; intro bk wk hS) | (refine sl_box hS rfl _ 26 (alloc_vec rfl) ?_; clear hS; intro bk wk hS) | (refine onlyN_end ?_) | (refine onlyN_now ?_))
          try refine wp_region_lit ?_
          iterate 10 ((first | (refine sl_load hS rfl 26 _ rfl rfl (by repeat (first | exact Has.hd | apply Has.tl)) Try.underlying26 rfl (by exact infoV) ?_) | (refine sl_store hS rfl 26 _ _ rfl rfl rfl (by repeat (first | exact Rep.hd | apply Rep.tl)) (by exact infoV) (by rfl) (bs_one _) ?_; clear hS; intro wk hS) | ((with_reducible show wpList _ _ _ (⟨_, .alloc 26 , _, _, _, _⟩ :: _) _ _); refine sl_box hS rfl _ 26 (alloc_vec rfl) ?_; clear hS; intro ts wk hS) | (apply sl_val rfl; focus (intro w; go_simp; (try simp (disch := omega) only [IntWalk.i64_in, IntWalk.u64_in, IntWalk.u8_in, IntWalk.u32_in, IntWalk.i32_in]); first | exact rfl | rfl)) | (refine sl_step (fun K hK => .inl ⟨rfl, ?_⟩); unfold Oper.wp; go_simp; (first | with_reducible refine sl_call hS (XC5.out _) ?_); clear hS; intro wk hS; refine hK _ _ ?_; clear hK K) | (refine sl_skip rfl ?_)); go_simp)
          go_upto_region 28 with (fail)
          refine sm_tail 11 [(10, ⟨(fun b => .pointer (some ⟨b, 0, none⟩)), bs fun _ => 0, 26⟩)] hS (by kernel_rfl) (by kernel_rfl) (fun β => ?_)
          simp only [List.take_succ_cons, List.take_zero, List.drop_succ_cons, List.drop_zero]
          iterate 11 (refine sm_step (fun K hK => ?_); (first | (refine sm_load rfl rfl 26 _ rfl rfl (by repeat (first | exact Has.hd | apply Has.tl)) Try.underlying26 rfl (by exact infoV) ?_) | (refine sm_lay rfl rfl (by intro w; go_simp) ?_) | (refine sm_build rfl rfl 26 _ rfl (bs fun _ => 0) (by first | (simp only [List.map_toArray, List.map_nil]; kernel_rfl) | (simp only [Array.map_empty]; kernel_rfl)) ?_) | (refine sm_cell rfl rfl _ _ rfl rfl (by repeat (first | exact Has.hd | apply Has.tl)) (by rfl) (by intro w hc; go_simp) ?_) | (apply sm_yes rfl rfl; focus (intro wx hx; go_simp; first | (apply sm_enter (by kernel_rfl); first | fail | with_reducible exact XC6.out wx) | exact ⟨rfl, Gr.refl _⟩)) | (refine sm_no rfl rfl ?_)); go_simp; refine hK _ ?_; clear hK K)
          refine sm_nil ?_
          clear hS
          intro wk hS
          replace hS : St w [⟨β 10, bs fun _ => 0, 26⟩, ⟨ts, bs f0, 26⟩, ⟨tf, bs f0, 26⟩, ⟨tu, bs u, 26⟩, ⟨b8, #[.int .i64 64790, .int .i64 64793, .int .i64 64795, .int .i64 64797], 41⟩, ⟨b7, #[.int .i64 64791, .int .i64 64794, .int .i64 64796, .int .i64 64798], 41⟩, ⟨p, bs v, 26⟩] wk := hS
          generalize β 10 = tr at hS ⊢
          go_upto_region 29 with (first | (refine sl_load hS rfl 26 _ rfl rfl (by repeat (first | exact Has.hd | apply Has.tl)) Try.underlying26 rfl (by exact infoV) ?_) | (refine sl_store hS rfl 26 _ _ rfl rfl rfl (by repeat (first | exact Rep.hd | apply Rep.tl)) (by exact infoV) (by rfl) (bs_one _) ?_; clear hS; intro wk hS) | (refine sl_box hS rfl _ 26 (box_vec rfl rfl) ?_; clear hS; intro bk wk hS) | (refine sl_box hS rfl _ 26 (alloc_vec rfl) ?_; clear hS; intro bk wk hS) | (refine onlyN_end ?_) | (refine onlyN_now ?_))
          refine sm_all [] hS (by kernel_rfl) (by kernel_rfl) (fun β => ?_)
          repeat (refine sm_step (fun K hK => ?_); (first | (refine sm_load rfl rfl 26 _ rfl rfl (by repeat (first | exact Has.hd | apply Has.tl)) Try.underlying26 rfl (by exact infoV) ?_) | (refine sm_lay rfl rfl (by intro w; go_simp) ?_) | (refine sm_build rfl rfl 26 _ rfl (bs fun _ => 0) (by first | (simp only [List.map_toArray, List.map_nil]; kernel_rfl) | (simp only [Array.map_empty]; kernel_rfl)) ?_) | (refine sm_cell rfl rfl _ _ rfl rfl (by repeat (first | exact Has.hd | apply Has.tl)) (by rfl) (by intro w hc; go_simp) ?_) | (apply sm_yes rfl rfl; focus (intro wx hx; go_simp; first | (apply sm_enter (by kernel_rfl); first | fail | with_reducible exact XC7.out wx) | exact ⟨rfl, Gr.refl _⟩)) | (refine sm_no rfl rfl ?_)); go_simp; refine hK _ ?_; clear hK K)
          refine sm_nil ?_
          clear hS
          intro wk hS
          replace hS : St w [⟨tr, bs (fun _ => 0), 26⟩, ⟨ts, bs f0, 26⟩, ⟨tf, bs f0, 26⟩, ⟨tu, bs u, 26⟩, ⟨b8, #[.int .i64 64790, .int .i64 64793, .int .i64 64795, .int .i64 64797], 41⟩, ⟨b7, #[.int .i64 64791, .int .i64 64794, .int .i64 64796, .int .i64 64798], 41⟩, ⟨p, bs v, 26⟩] wk := hS
          go_upto_region 30 with (fail)
          try refine wp_region_lit ?_
          iterate 15 ((first | (refine sl_load hS rfl 26 _ rfl rfl (by repeat (first | exact Has.hd | apply Has.tl)) Try.underlying26 rfl (by exact infoV) ?_) | (refine sl_store hS rfl 26 _ _ rfl rfl rfl (by repeat (first | exact Rep.hd | apply Rep.tl)) (by exact infoV) (by rfl) (bs_one _) ?_; clear hS; intro wk hS) | (refine sl_neq rfl rfl rfl rfl (vecB_refl _) ?_) | (apply sl_val rfl; focus (intro w; go_simp; (try simp (disch := omega) only [IntWalk.i64_in, IntWalk.u64_in, IntWalk.u8_in, IntWalk.u32_in, IntWalk.i32_in]); first | exact rfl | rfl)) | (refine sl_skip rfl ?_)); go_simp)
          replace hS : St w [⟨b8, #[.int .i64 64790, .int .i64 64793, .int .i64 64795, .int .i64 64797], 41⟩, ⟨b7, #[.int .i64 64791, .int .i64 64794, .int .i64 64796, .int .i64 64798], 41⟩, ⟨p, bs v, 26⟩] _ := hS.tail.tail.tail.tail
          go_wp2_with fail
          exact ⟨⟨4, by omega, rfl, hS⟩, by simp [intOf]⟩
    · go_wp2
      go_ret
      exact ⟨rfl, hS.gr⟩
end Mv
end Go.Proofs.Ytaahkpjdffgagaa
