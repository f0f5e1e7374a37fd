/-
  ArithLocal: for every opcode and both vectors the law returns true. Conditions: bytes; an integer of 64 bits.
-/
import Derived.Test.YtalnkkmbjaollaaArLoM
namespace Go.Proofs.Ytalnkkmbjaollaa
open Go.RowKit VecM
namespace Ar
set_option maxRecDepth 100000 in
set_option maxHeartbeats 32000000 in
theorem local_walk (op : Int) (a x : Nat → Int) (_ho : -9223372036854775808 ≤ op ∧ op ≤ 9223372036854775807) (ha : Byt a) (hx : Byt x) (w : World) : Calls Try.prog 9 #[.int .i64 op, .agg (bs a), .agg (bs x)] w fun e w' => e = .returned (.bool true) ∧ Gr w w' := by
  have HA := Lib.hid ha
  have HX := Lib.hid hx
  clear ha hx
  obtain ⟨m, hm⟩ : ∃ m : Int, (IntKind.u64.wrap op).tmod 128 = m := ⟨_, rfl⟩
  have hm0 : 0 ≤ m ∧ m ≤ 127 := by
    rw [← hm, wrap_u, Int.tmod_eq_emod_of_nonneg (by omega)]
    omega
  have hm1 : IntKind.i64.wrap m = m := IntWalk.i64_in _ ⟨by omega, by omega⟩
  have hm2 : IntKind.i64.wrap (64864 + m) = 64864 + m := IntWalk.i64_in _ ⟨by omega, by omega⟩
  have hm3 : IntKind.u64.wrap op % 128 = m := by rw [← hm, Int.tmod_eq_emod_of_nonneg (by rw [wrap_u]; omega)]
  have hS := St.start w
  go_enter Try.func9, Try.ntmps9
  go_upto_region 0 with (fail)
  refine wp_region_lit ?_
  refine sl_box hS rfl _ 23 (box_vec rfl rfl) ?_
  clear hS
  intro p wk hS
  refine sl_box hS rfl _ 23 (box_vec rfl rfl) ?_
  clear hS
  intro q wk hS
  go_upto_region 4 with (first | (refine sl_load hS rfl 23 _ rfl rfl (by repeat (first | exact Has.hd | apply Has.tl)) Try.underlying23 rfl (by exact infoV) ?_) | (refine sl_store hS rfl 23 _ _ rfl rfl rfl (by repeat (first | exact Rep.hd | apply Rep.tl)) (by exact infoV) (by rfl) (bs_one _) ?_; clear hS; intro wk hS) | (refine sl_box hS rfl _ 23 (box_vec rfl rfl) ?_; clear hS; intro bk wk hS) | (refine sl_box hS rfl _ 23 (alloc_vec rfl) ?_; clear hS; intro bk wk hS) | (refine onlyN_end ?_) | (refine onlyN_now ?_) | ((go_at_call 11); (with_reducible refine sl_call hS (awake _) ?_); clear hS; intro wk hS))
  clear hm hm1 hm2 hm3
  generalize 64864 + m = o at *
  clear hm0
  have CW := fun w => calls_gr (width_any o w)
  by_cases h0 : aW o = 0
  · rw [h0] at CW
    have XCW := Lib.hid CW
    clear CW h0
    go_wp2_with (first | (refine sl_load hS rfl 23 _ rfl rfl (by repeat (first | exact Has.hd | apply Has.tl)) Try.underlying23 rfl (by exact infoV) ?_) | (refine sl_store hS rfl 23 _ _ rfl rfl rfl (by repeat (first | exact Rep.hd | apply Rep.tl)) (by exact infoV) (by rfl) (bs_one _) ?_; clear hS; intro wk hS) | (refine sl_box hS rfl _ 23 (box_vec rfl rfl) ?_; clear hS; intro bk wk hS) | (refine sl_box hS rfl _ 23 (alloc_vec rfl) ?_; clear hS; intro bk wk hS) | (refine onlyN_end ?_) | (refine onlyN_now ?_) | ((go_at_call 21); (with_reducible refine sl_call hS (XCW.out _) ?_); clear hS; intro wk hS))
    go_ret
    exact ⟨rfl, hS.gr⟩
  · have hk := kinds h0
    obtain ⟨hv0, hv⟩ := in_of h0
    have hx0 := HX.out 0
    have CB := fun w => bin_any o a x HA.out HX.out w
    have CU := fun w => un_any o a HA.out w
    have CS := fun w => sh_any o a HA.out (x 0) ⟨by omega, by omega⟩ w
    have HBv := Lib.hid (biV_byt o a x)
    have HUv := Lib.hid (unV_byt o HA.out)
    have HSv := Lib.hid (shV_byt o HA.out (x 0))
    have HLB := Lib.hid (fun (j : Nat) (hj : thereB (aW o) j = true) => local_bi (op := o) HA.out HX.out hj)
    have HLU := Lib.hid (fun (j : Nat) (hj : thereB (aW o) j = true) => local_un (op := o) (x := x) HA.out hj)
    have HLS := Lib.hid (fun (j : Nat) (hj : thereB (aW o) j = true) => local_sh (op := o) (x := x) HA.out hj (x 0))
    have HCB := Lib.hid (fun (b c : Nat → Int) (hb : Byt b) (hc : Byt c) w => bin_any o b c hb hc w)
    have HCU := Lib.hid (fun (b : Nat → Int) (hb : Byt b) w => un_any o b hb w)
    have HCS := Lib.hid (fun (b : Nat → Int) (hb : Byt b) w => sh_any o b hb (x 0) ⟨by omega, by omega⟩ w)
    obtain ⟨L, hL16, hL, hd1, hd2⟩ := lanes_div hv
    have HL := Lib.hid hL
    have hvb : 8 ≤ aW o ∧ aW o ≤ 64 := by omega
    have hvz : (aW o == 0) = false := beq_eq_false_iff_ne.2 h0
    clear hv0 hv h0 hL
    rcases hk with ⟨k1, k2, k3⟩ | ⟨k1, k2, k3⟩ | ⟨k1, k2, k3⟩
    · as_aux_lemma =>
      rw [k1] at CB HCB
      rw [k2] at CU HCU
      rw [k3] at CS HCS
      simp only [if_true, Bool.false_eq_true, if_false] at CB CU CS HCB HCU HCS
      clear k1 k2 k3
      generalize biV o a x = vb at *
      generalize unV o a = vu at *
      generalize shV o a (x 0) = vs at *
      generalize hvv : aW o = v at *
      have Xhvv := Lib.hid hvv
      clear hvv
      have XCW := Lib.hid CW
      clear CW
      have XCB := Lib.hid CB
      clear CB
      have XCU := Lib.hid CU
      clear CU
      have XCS := Lib.hid CS
      clear CS
      go_upto_region 8 with (first | (refine sl_load hS rfl 23 _ rfl rfl (by repeat (first | exact Has.hd | apply Has.tl)) Try.underlying23 rfl (by exact infoV) ?_) | (refine sl_store hS rfl 23 _ _ rfl rfl rfl (by repeat (first | exact Rep.hd | apply Rep.tl)) (by exact infoV) (by rfl) (bs_one _) ?_; clear hS; intro wk hS) | (refine sl_box hS rfl _ 23 (box_vec rfl rfl) ?_; clear hS; intro bk wk hS) | (refine sl_box hS rfl _ 23 (alloc_vec rfl) ?_; clear hS; intro pu wk hS) | (refine onlyN_end ?_) | (refine onlyN_now ?_) | (refine sl_cell hS rfl _ _ rfl rfl (by repeat (first | exact Has.hd | apply Has.tl)) (by rfl) (by intro w hc; go_simp) ?_) | ((go_at_call 21); (with_reducible refine sl_call hS (XCW.out _) ?_); clear hS; intro wk hS) | ((go_at_call 22); (with_reducible refine sl_call hS (XCB.out _) ?_); clear hS; intro wk hS))
      go_upto_region 9 with (first | (refine sl_load hS rfl 23 _ rfl rfl (by repeat (first | exact Has.hd | apply Has.tl)) Try.underlying23 rfl (by exact infoV) ?_) | (refine sl_store hS rfl 23 _ _ rfl rfl rfl (by repeat (first | exact Rep.hd | apply Rep.tl)) (by exact infoV) (by rfl) (bs_one _) ?_; clear hS; intro wk hS) | (refine sl_box hS rfl _ 23 (box_vec rfl rfl) ?_; clear hS; intro bk wk hS) | (refine sl_box hS rfl _ 23 (alloc_vec rfl) ?_; clear hS; intro pp wk hS) | (refine onlyN_end ?_) | (refine onlyN_now ?_) | (refine sl_cell hS rfl _ _ rfl rfl (by repeat (first | exact Has.hd | apply Has.tl)) (by rfl) (by intro w hc; go_simp) ?_) | ((go_at_call 23); (with_reducible refine sl_call hS (XCU.out _) ?_); clear hS; intro wk hS))
      go_upto_region 10 with (first | (refine sl_load hS rfl 23 _ rfl rfl (by repeat (first | exact Has.hd | apply Has.tl)) Try.underlying23 rfl (by exact infoV) ?_) | (refine sl_store hS rfl 23 _ _ rfl rfl rfl (by repeat (first | exact Rep.hd | apply Rep.tl)) (by exact infoV) (by rfl) (bs_one _) ?_; clear hS; intro wk hS) | (refine sl_box hS rfl _ 23 (box_vec rfl rfl) ?_; clear hS; intro bk wk hS) | (refine sl_box hS rfl _ 23 (alloc_vec rfl) ?_; clear hS; intro ps wk hS) | (refine onlyN_end ?_) | (refine onlyN_now ?_) | (refine sl_cell hS rfl _ _ rfl rfl (by repeat (first | exact Has.hd | apply Has.tl)) (by rfl) (by intro w hc; go_simp) ?_) | ((go_at_call 14); (with_reducible refine sl_call hS (XCS.out _) ?_); clear hS; intro wk hS))
      go_wp2_with (first | (refine sl_load hS rfl 23 _ rfl rfl (by repeat (first | exact Has.hd | apply Has.tl)) Try.underlying23 rfl (by exact infoV) ?_) | (refine sl_store hS rfl 23 _ _ rfl rfl rfl (by repeat (first | exact Rep.hd | apply Rep.tl)) (by exact infoV) (by rfl) (bs_one _) ?_; clear hS; intro wk hS) | (refine sl_box hS rfl _ 23 (box_vec rfl rfl) ?_; clear hS; intro bk wk hS) | (refine sl_box hS rfl _ 23 (alloc_vec rfl) ?_; clear hS; intro bk wk hS) | (refine onlyN_end ?_) | (refine onlyN_now ?_))
      go_loopw [14] (fun u wr => ∃ k : Nat, k ≤ L ∧ u = .int .i64 k ∧ St w [⟨ps, bs vs, 23⟩, ⟨pp, bs vu, 23⟩, ⟨pu, bs vb, 23⟩, ⟨q, bs x, 23⟩, ⟨p, bs a, 23⟩] wr) (fun u _ => L - (intOf u).toNat)
      case atStart => exact ⟨0, by omega, rfl, hS⟩
      case round =>
        obtain ⟨k, hk, rfl, hS⟩ := hrel
        by_cases hlt : k < L
        · have hj : thereB v k = true := there_iff.2 ⟨by omega, by rw [HL.out]; omega⟩
          have eB := HLB.out k hj
          have eU := HLU.out k hj
          have eS := HLS.out k hj
          have E1 := fun w => get_any a HA.out v k w
          have E2 := fun w => get_any x HX.out v k w
          have E3 := fun w => set_any x v k (getI a v k) w
          have E4 := fun w => set_any a v k (getI x v k) w
          have HK := setI_byt HX.out v k (getI a v k)
          have HM := setI_byt HA.out v k (getI x v k)
          have E5 := fun w => HCB.out _ _ HK HM w
          have E6 := fun w => HCU.out _ HK w
          have E7 := fun w => HCS.out _ HK w
          have E8 := fun w => get_any vb HBv.out v k w
          have E9 := fun w => get_any (biV o (setI x v k (getI a v k)) (setI a v k (getI x v k))) (biV_byt _ _ _) v k w
          have E10 := fun w => get_any vu HUv.out v k w
          have E11 := fun w => get_any (unV o (setI x v k (getI a v k))) (unV_byt _ HK) v k w
          have E12 := fun w => get_any vs HSv.out v k w
          have E13 := fun w => get_any (shV o (setI x v k (getI a v k)) (x 0)) (shV_byt _ HK _) v k w
          rw [eB] at E9
          rw [eU] at E11
          rw [eS] at E13
          clear eB eU eS HK HM
          generalize biV o (setI x v k (getI a v k)) (setI a v k (getI x v k)) = nb at *
          generalize unV o (setI x v k (getI a v k)) = nu at *
          generalize shV o (setI x v k (getI a v k)) (x 0) = ns at *
          generalize setI x v k (getI a v k) = kk at *
          generalize setI a v k (getI x v k) = mm at *
          generalize getI a v k = ga at *
          generalize getI x v k = gx at *
          generalize getI vb v k = gb at *
          generalize getI vu v k = gu at *
          generalize getI vs v k = gs at *
          have XE1 := Lib.hid E1
          clear E1
          have XE2 := Lib.hid E2
          clear E2
          have XE3 := Lib.hid E3
          clear E3
          have XE4 := Lib.hid E4
          clear E4
          have XE5 := Lib.hid E5
          clear E5
          have XE6 := Lib.hid E6
          clear E6
          have XE7 := Lib.hid E7
          clear E7
          have XE8 := Lib.hid E8
          clear E8
          have XE9 := Lib.hid E9
          clear E9
          have XE10 := Lib.hid E10
          clear E10
          have XE11 := Lib.hid E11
          clear E11
          have XE12 := Lib.hid E12
          clear E12
          have XE13 := Lib.hid E13
          clear E13
          go_upto_region 14 with (first | (refine sl_load hS rfl 23 _ rfl rfl (by repeat (first | exact Has.hd | apply Has.tl)) Try.underlying23 rfl (by exact infoV) ?_) | (refine sl_store hS rfl 23 _ _ rfl rfl rfl (by repeat (first | exact Rep.hd | apply Rep.tl)) (by exact infoV) (by rfl) (bs_one _) ?_; clear hS; intro wk hS) | (refine sl_box hS rfl _ 23 (box_vec rfl rfl) ?_; clear hS; intro bk wk hS) | (refine sl_box hS rfl _ 23 (alloc_vec rfl) ?_; clear hS; intro bk wk hS) | (refine onlyN_end ?_) | (refine onlyN_now ?_))
          refine sd_tail 8 hS (by kernel_rfl) (by kernel_rfl) ?_
          simp only [List.take_succ_cons, List.take_zero, List.drop_succ_cons, List.drop_zero]
          iterate 8 (refine sd_step (fun K hK => ?_); (first | (refine sd_load rfl 23 _ rfl rfl (by repeat (first | exact Has.hd | apply Has.tl)) Try.underlying23 rfl (by exact infoV) ?_) | (apply sd_yes rfl; focus (intro wx hx; go_simp; first | (apply sd_enter; first | fail | with_reducible exact XE1.out wx | with_reducible exact XE3.out wx) | exact ⟨rfl, Gr.refl _⟩)) | (refine sd_no rfl ?_)); go_simp; refine hK _ ?_; clear hK K)
          refine sd_nil ?_
          clear hS
          intro wk hS
          go_upto_region 16 with (first | (refine sl_load hS rfl 23 _ rfl rfl (by repeat (first | exact Has.hd | apply Has.tl)) Try.underlying23 rfl (by exact infoV) ?_) | (refine sl_store hS rfl 23 _ _ rfl rfl rfl (by repeat (first | exact Rep.hd | apply Rep.tl)) (by exact infoV) (by rfl) (bs_one _) ?_; clear hS; intro wk hS) | (refine sl_box hS rfl _ 23 (box_vec rfl rfl) ?_; clear hS; intro bk wk hS) | (refine sl_box hS rfl _ 23 (alloc_vec rfl) ?_; clear hS; intro bk wk hS) | (refine onlyN_end ?_) | (refine onlyN_now ?_))
          refine sd_tail 8 hS (by kernel_rfl) (by kernel_rfl) ?_
          simp only [List.take_succ_cons, List.take_zero, List.drop_succ_cons, List.drop_zero]
          iterate 8 (refine sd_step (fun K hK => ?_); (first | (refine sd_load rfl 23 _ rfl rfl (by repeat (first | exact Has.hd | apply Has.tl)) Try.underlying23 rfl (by exact infoV) ?_) | (apply sd_yes rfl; focus (intro wx hx; go_simp; first | (apply sd_enter; first | fail | with_reducible exact XE2.out wx | with_reducible exact XE4.out wx) | exact ⟨rfl, Gr.refl _⟩)) | (refine sd_no rfl ?_)); go_simp; refine hK _ ?_; clear hK K)
          refine sd_nil ?_
          clear hS
          intro wk hS
          go_upto_region 20 with (first | (refine sl_load hS rfl 23 _ rfl rfl (by repeat (first | exact Has.hd | apply Has.tl)) Try.underlying23 rfl (by exact infoV) ?_) | (refine sl_store hS rfl 23 _ _ rfl rfl rfl (by repeat (first | exact Rep.hd | apply Rep.tl)) (by exact infoV) (by rfl) (bs_one _) ?_; clear hS; intro wk hS) | (refine sl_box hS rfl _ 23 (box_vec rfl rfl) ?_; clear hS; intro bk wk hS) | (refine sl_box hS rfl _ 23 (alloc_vec rfl) ?_; clear hS; intro bk wk hS) | (refine onlyN_end ?_) | (refine onlyN_now ?_) | (refine sl_cell hS rfl _ _ rfl rfl (by repeat (first | exact Has.hd | apply Has.tl)) (by rfl) (by intro w hc; go_simp) ?_) | ((go_at_call 22); (with_reducible refine sl_call hS (XE5.out _) ?_); clear hS; intro wk hS) | ((go_at_call 23); (with_reducible refine sl_call hS (XE6.out _) ?_); clear hS; intro wk hS) | ((go_at_call 14); (with_reducible refine sl_call hS (XE7.out _) ?_); clear hS; intro wk hS))
          refine sd_all hS (by kernel_rfl) (by kernel_rfl) ?_
          iterate 43 (refine sd_step (fun K hK => ?_); (first | (refine sd_load rfl 23 _ rfl rfl (by repeat (first | exact Has.hd | apply Has.tl)) Try.underlying23 rfl (by exact infoV) ?_) | (apply sd_yes rfl; focus (intro wx hx; go_simp; first | (apply sd_enter; first | fail | with_reducible exact XE8.out wx | with_reducible exact XE9.out wx | with_reducible exact XE10.out wx | with_reducible exact XE11.out wx | with_reducible exact XE12.out wx | with_reducible exact XE13.out wx) | exact ⟨rfl, Gr.refl _⟩)) | (refine sd_no rfl ?_)); go_simp; refine hK _ ?_; clear hK K)
          refine sd_nil ?_
          clear hS
          intro wk hS
          go_wp2_with (first | (refine sl_load hS rfl 23 _ rfl rfl (by repeat (first | exact Has.hd | apply Has.tl)) Try.underlying23 rfl (by exact infoV) ?_) | (refine sl_store hS rfl 23 _ _ rfl rfl rfl (by repeat (first | exact Rep.hd | apply Rep.tl)) (by exact infoV) (by rfl) (bs_one _) ?_; clear hS; intro wk hS) | (refine sl_box hS rfl _ 23 (box_vec rfl rfl) ?_; clear hS; intro bk wk hS) | (refine sl_box hS rfl _ 23 (alloc_vec rfl) ?_; clear hS; intro bk wk hS) | (refine onlyN_end ?_) | (refine onlyN_now ?_))
          exact ⟨⟨k + 1, by omega, by go_num, hS.tail.tail.tail.tail.tail⟩, by simp [intOf]; omega⟩
        · obtain rfl : k = L := by omega
          go_wp2_with (first | (refine sl_load hS rfl 23 _ rfl rfl (by repeat (first | exact Has.hd | apply Has.tl)) Try.underlying23 rfl (by exact infoV) ?_) | (refine sl_store hS rfl 23 _ _ rfl rfl rfl (by repeat (first | exact Rep.hd | apply Rep.tl)) (by exact infoV) (by rfl) (bs_one _) ?_; clear hS; intro wk hS) | (refine sl_box hS rfl _ 23 (box_vec rfl rfl) ?_; clear hS; intro bk wk hS) | (refine sl_box hS rfl _ 23 (alloc_vec rfl) ?_; clear hS; intro bk wk hS) | (refine onlyN_end ?_) | (refine onlyN_now ?_))
          go_ret
          exact ⟨rfl, hS.gr⟩
    · as_aux_lemma =>
      rw [k1] at CB HCB
      rw [k2] at CU HCU
      rw [k3] at CS HCS
      simp only [if_true, Bool.false_eq_true, if_false] at CB CU CS HCB HCU HCS
      clear k1 k2 k3
      generalize biV o a x = vb at *
      generalize unV o a = vu at *
      generalize shV o a (x 0) = vs at *
      generalize hvv : aW o = v at *
      have Xhvv := Lib.hid hvv
      clear hvv
      have XCW := Lib.hid CW
      clear CW
      have XCB := Lib.hid CB
      clear CB
      have XCU := Lib.hid CU
      clear CU
      have XCS := Lib.hid CS
      clear CS
      go_upto_region 8 with (first | (refine sl_load hS rfl 23 _ rfl rfl (by repeat (first | exact Has.hd | apply Has.tl)) Try.underlying23 rfl (by exact infoV) ?_) | (refine sl_store hS rfl 23 _ _ rfl rfl rfl (by repeat (first | exact Rep.hd | apply Rep.tl)) (by exact infoV) (by rfl) (bs_one _) ?_; clear hS; intro wk hS) | (refine sl_box hS rfl _ 23 (box_vec rfl rfl) ?_; clear hS; intro bk wk hS) | (refine sl_box hS rfl _ 23 (alloc_vec rfl) ?_; clear hS; intro pu wk hS) | (refine onlyN_end ?_) | (refine onlyN_now ?_) | (refine sl_cell hS rfl _ _ rfl rfl (by repeat (first | exact Has.hd | apply Has.tl)) (by rfl) (by intro w hc; go_simp) ?_) | ((go_at_call 21); (with_reducible refine sl_call hS (XCW.out _) ?_); clear hS; intro wk hS) | ((go_at_call 22); (with_reducible refine sl_call hS (XCB.out _) ?_); clear hS; intro wk hS))
      go_upto_region 9 with (first | (refine sl_load hS rfl 23 _ rfl rfl (by repeat (first | exact Has.hd | apply Has.tl)) Try.underlying23 rfl (by exact infoV) ?_) | (refine sl_store hS rfl 23 _ _ rfl rfl rfl (by repeat (first | exact Rep.hd | apply Rep.tl)) (by exact infoV) (by rfl) (bs_one _) ?_; clear hS; intro wk hS) | (refine sl_box hS rfl _ 23 (box_vec rfl rfl) ?_; clear hS; intro bk wk hS) | (refine sl_box hS rfl _ 23 (alloc_vec rfl) ?_; clear hS; intro pp wk hS) | (refine onlyN_end ?_) | (refine onlyN_now ?_) | (refine sl_cell hS rfl _ _ rfl rfl (by repeat (first | exact Has.hd | apply Has.tl)) (by rfl) (by intro w hc; go_simp) ?_) | ((go_at_call 23); (with_reducible refine sl_call hS (XCU.out _) ?_); clear hS; intro wk hS))
      go_upto_region 10 with (first | (refine sl_load hS rfl 23 _ rfl rfl (by repeat (first | exact Has.hd | apply Has.tl)) Try.underlying23 rfl (by exact infoV) ?_) | (refine sl_store hS rfl 23 _ _ rfl rfl rfl (by repeat (first | exact Rep.hd | apply Rep.tl)) (by exact infoV) (by rfl) (bs_one _) ?_; clear hS; intro wk hS) | (refine sl_box hS rfl _ 23 (box_vec rfl rfl) ?_; clear hS; intro bk wk hS) | (refine sl_box hS rfl _ 23 (alloc_vec rfl) ?_; clear hS; intro ps wk hS) | (refine onlyN_end ?_) | (refine onlyN_now ?_) | (refine sl_cell hS rfl _ _ rfl rfl (by repeat (first | exact Has.hd | apply Has.tl)) (by rfl) (by intro w hc; go_simp) ?_) | ((go_at_call 14); (with_reducible refine sl_call hS (XCS.out _) ?_); clear hS; intro wk hS))
      go_wp2_with (first | (refine sl_load hS rfl 23 _ rfl rfl (by repeat (first | exact Has.hd | apply Has.tl)) Try.underlying23 rfl (by exact infoV) ?_) | (refine sl_store hS rfl 23 _ _ rfl rfl rfl (by repeat (first | exact Rep.hd | apply Rep.tl)) (by exact infoV) (by rfl) (bs_one _) ?_; clear hS; intro wk hS) | (refine sl_box hS rfl _ 23 (box_vec rfl rfl) ?_; clear hS; intro bk wk hS) | (refine sl_box hS rfl _ 23 (alloc_vec rfl) ?_; clear hS; intro bk wk hS) | (refine onlyN_end ?_) | (refine onlyN_now ?_))
      go_loopw [14] (fun u wr => ∃ k : Nat, k ≤ L ∧ u = .int .i64 k ∧ St w [⟨ps, bs vs, 23⟩, ⟨pp, bs vu, 23⟩, ⟨pu, bs vb, 23⟩, ⟨q, bs x, 23⟩, ⟨p, bs a, 23⟩] wr) (fun u _ => L - (intOf u).toNat)
      case atStart => exact ⟨0, by omega, rfl, hS⟩
      case round =>
        obtain ⟨k, hk, rfl, hS⟩ := hrel
        by_cases hlt : k < L
        · have hj : thereB v k = true := there_iff.2 ⟨by omega, by rw [HL.out]; omega⟩
          have eB := HLB.out k hj
          have eU := HLU.out k hj
          have eS := HLS.out k hj
          have E1 := fun w => get_any a HA.out v k w
          have E2 := fun w => get_any x HX.out v k w
          have E3 := fun w => set_any x v k (getI a v k) w
          have E4 := fun w => set_any a v k (getI x v k) w
          have HK := setI_byt HX.out v k (getI a v k)
          have HM := setI_byt HA.out v k (getI x v k)
          have E5 := fun w => HCB.out _ _ HK HM w
          have E6 := fun w => HCU.out _ HK w
          have E7 := fun w => HCS.out _ HK w
          have E8 := fun w => get_any vb HBv.out v k w
          have E9 := fun w => get_any (biV o (setI x v k (getI a v k)) (setI a v k (getI x v k))) (biV_byt _ _ _) v k w
          have E10 := fun w => get_any vu HUv.out v k w
          have E11 := fun w => get_any (unV o (setI x v k (getI a v k))) (unV_byt _ HK) v k w
          have E12 := fun w => get_any vs HSv.out v k w
          have E13 := fun w => get_any (shV o (setI x v k (getI a v k)) (x 0)) (shV_byt _ HK _) v k w
          rw [eB] at E9
          rw [eU] at E11
          rw [eS] at E13
          clear eB eU eS HK HM
          generalize biV o (setI x v k (getI a v k)) (setI a v k (getI x v k)) = nb at *
          generalize unV o (setI x v k (getI a v k)) = nu at *
          generalize shV o (setI x v k (getI a v k)) (x 0) = ns at *
          generalize setI x v k (getI a v k) = kk at *
          generalize setI a v k (getI x v k) = mm at *
          generalize getI a v k = ga at *
          generalize getI x v k = gx at *
          generalize getI vb v k = gb at *
          generalize getI vu v k = gu at *
          generalize getI vs v k = gs at *
          have XE1 := Lib.hid E1
          clear E1
          have XE2 := Lib.hid E2
          clear E2
          have XE3 := Lib.hid E3
          clear E3
          have XE4 := Lib.hid E4
          clear E4
          have XE5 := Lib.hid E5
          clear E5
          have XE6 := Lib.hid E6
          clear E6
          have XE7 := Lib.hid E7
          clear E7
          have XE8 := Lib.hid E8
          clear E8
          have XE9 := Lib.hid E9
          clear E9
          have XE10 := Lib.hid E10
          clear E10
          have XE11 := Lib.hid E11
          clear E11
          have XE12 := Lib.hid E12
          clear E12
          have XE13 := Lib.hid E13
          clear E13
          go_upto_region 14 with (first | (refine sl_load hS rfl 23 _ rfl rfl (by repeat (first | exact Has.hd | apply Has.tl)) Try.underlying23 rfl (by exact infoV) ?_) | (refine sl_store hS rfl 23 _ _ rfl rfl rfl (by repeat (first | exact Rep.hd | apply Rep.tl)) (by exact infoV) (by rfl) (bs_one _) ?_; clear hS; intro wk hS) | (refine sl_box hS rfl _ 23 (box_vec rfl rfl) ?_; clear hS; intro bk wk hS) | (refine sl_box hS rfl _ 23 (alloc_vec rfl) ?_; clear hS; intro bk wk hS) | (refine onlyN_end ?_) | (refine onlyN_now ?_))
          refine sd_tail 8 hS (by kernel_rfl) (by kernel_rfl) ?_
          simp only [List.take_succ_cons, List.take_zero, List.drop_succ_cons, List.drop_zero]
          iterate 8 (refine sd_step (fun K hK => ?_); (first | (refine sd_load rfl 23 _ rfl rfl (by repeat (first | exact Has.hd | apply Has.tl)) Try.underlying23 rfl (by exact infoV) ?_) | (apply sd_yes rfl; focus (intro wx hx; go_simp; first | (apply sd_enter; first | fail | with_reducible exact XE1.out wx | with_reducible exact XE3.out wx) | exact ⟨rfl, Gr.refl _⟩)) | (refine sd_no rfl ?_)); go_simp; refine hK _ ?_; clear hK K)
          refine sd_nil ?_
          clear hS
          intro wk hS
          go_upto_region 16 with (first | (refine sl_load hS rfl 23 _ rfl rfl (by repeat (first | exact Has.hd | apply Has.tl)) Try.underlying23 rfl (by exact infoV) ?_) | (refine sl_store hS rfl 23 _ _ rfl rfl rfl (by repeat (first | exact Rep.hd | apply Rep.tl)) (by exact infoV) (by rfl) (bs_one _) ?_; clear hS; intro wk hS) | (refine sl_box hS rfl _ 23 (box_vec rfl rfl) ?_; clear hS; intro bk wk hS) | (refine sl_box hS rfl _ 23 (alloc_vec rfl) ?_; clear hS; intro bk wk hS) | (refine onlyN_end ?_) | (refine onlyN_now ?_))
          refine sd_tail 8 hS (by kernel_rfl) (by kernel_rfl) ?_
          simp only [List.take_succ_cons, List.take_zero, List.drop_succ_cons, List.drop_zero]
          iterate 8 (refine sd_step (fun K hK => ?_); (first | (refine sd_load rfl 23 _ rfl rfl (by repeat (first | exact Has.hd | apply Has.tl)) Try.underlying23 rfl (by exact infoV) ?_) | (apply sd_yes rfl; focus (intro wx hx; go_simp; first | (apply sd_enter; first | fail | with_reducible exact XE2.out wx | with_reducible exact XE4.out wx) | exact ⟨rfl, Gr.refl _⟩)) | (refine sd_no rfl ?_)); go_simp; refine hK _ ?_; clear hK K)
          refine sd_nil ?_
          clear hS
          intro wk hS
          go_upto_region 20 with (first | (refine sl_load hS rfl 23 _ rfl rfl (by repeat (first | exact Has.hd | apply Has.tl)) Try.underlying23 rfl (by exact infoV) ?_) | (refine sl_store hS rfl 23 _ _ rfl rfl rfl (by repeat (first | exact Rep.hd | apply Rep.tl)) (by exact infoV) (by rfl) (bs_one _) ?_; clear hS; intro wk hS) | (refine sl_box hS rfl _ 23 (box_vec rfl rfl) ?_; clear hS; intro bk wk hS) | (refine sl_box hS rfl _ 23 (alloc_vec rfl) ?_; clear hS; intro bk wk hS) | (refine onlyN_end ?_) | (refine onlyN_now ?_) | (refine sl_cell hS rfl _ _ rfl rfl (by repeat (first | exact Has.hd | apply Has.tl)) (by rfl) (by intro w hc; go_simp) ?_) | ((go_at_call 22); (with_reducible refine sl_call hS (XE5.out _) ?_); clear hS; intro wk hS) | ((go_at_call 23); (with_reducible refine sl_call hS (XE6.out _) ?_); clear hS; intro wk hS) | ((go_at_call 14); (with_reducible refine sl_call hS (XE7.out _) ?_); clear hS; intro wk hS))
          refine sd_all hS (by kernel_rfl) (by kernel_rfl) ?_
          iterate 43 (refine sd_step (fun K hK => ?_); (first | (refine sd_load rfl 23 _ rfl rfl (by repeat (first | exact Has.hd | apply Has.tl)) Try.underlying23 rfl (by exact infoV) ?_) | (apply sd_yes rfl; focus (intro wx hx; go_simp; first | (apply sd_enter; first | fail | with_reducible exact XE8.out wx | with_reducible exact XE9.out wx | with_reducible exact XE10.out wx | with_reducible exact XE11.out wx | with_reducible exact XE12.out wx | with_reducible exact XE13.out wx) | exact ⟨rfl, Gr.refl _⟩)) | (refine sd_no rfl ?_)); go_simp; refine hK _ ?_; clear hK K)
          refine sd_nil ?_
          clear hS
          intro wk hS
          go_wp2_with (first | (refine sl_load hS rfl 23 _ rfl rfl (by repeat (first | exact Has.hd | apply Has.tl)) Try.underlying23 rfl (by exact infoV) ?_) | (refine sl_store hS rfl 23 _ _ rfl rfl rfl (by repeat (first | exact Rep.hd | apply Rep.tl)) (by exact infoV) (by rfl) (bs_one _) ?_; clear hS; intro wk hS) | (refine sl_box hS rfl _ 23 (box_vec rfl rfl) ?_; clear hS; intro bk wk hS) | (refine sl_box hS rfl _ 23 (alloc_vec rfl) ?_; clear hS; intro bk wk hS) | (refine onlyN_end ?_) | (refine onlyN_now ?_))
          exact ⟨⟨k + 1, by omega, by go_num, hS.tail.tail.tail.tail.tail⟩, by simp [intOf]; omega⟩
        · obtain rfl : k = L := by omega
          go_wp2_with (first | (refine sl_load hS rfl 23 _ rfl rfl (by repeat (first | exact Has.hd | apply Has.tl)) Try.underlying23 rfl (by exact infoV) ?_) | (refine sl_store hS rfl 23 _ _ rfl rfl rfl (by repeat (first | exact Rep.hd | apply Rep.tl)) (by exact infoV) (by rfl) (bs_one _) ?_; clear hS; intro wk hS) | (refine sl_box hS rfl _ 23 (box_vec rfl rfl) ?_; clear hS; intro bk wk hS) | (refine sl_box hS rfl _ 23 (alloc_vec rfl) ?_; clear hS; intro bk wk hS) | (refine onlyN_end ?_) | (refine onlyN_now ?_))
          go_ret
          exact ⟨rfl, hS.gr⟩
    · as_aux_lemma =>
      rw [k1] at CB HCB
      rw [k2] at CU HCU
      rw [k3] at CS HCS
      simp only [if_true, Bool.false_eq_true, if_false] at CB CU CS HCB HCU HCS
      clear k1 k2 k3
      generalize biV o a x = vb at *
      generalize unV o a = vu at *
      generalize shV o a (x 0) = vs at *
      generalize hvv : aW o = v at *
      have Xhvv := Lib.hid hvv
      clear hvv
      have XCW := Lib.hid CW
      clear CW
      have XCB := Lib.hid CB
      clear CB
      have XCU := Lib.hid CU
      clear CU
      have XCS := Lib.hid CS
      clear CS
      go_upto_region 8 with (first | (refine sl_load hS rfl 23 _ rfl rfl (by repeat (first | exact Has.hd | apply Has.tl)) Try.underlying23 rfl (by exact infoV) ?_) | (refine sl_store hS rfl 23 _ _ rfl rfl rfl (by repeat (first | exact Rep.hd | apply Rep.tl)) (by exact infoV) (by rfl) (bs_one _) ?_; clear hS; intro wk hS) | (refine sl_box hS rfl _ 23 (box_vec rfl rfl) ?_; clear hS; intro bk wk hS) | (refine sl_box hS rfl _ 23 (alloc_vec rfl) ?_; clear hS; intro pu wk hS) | (refine onlyN_end ?_) | (refine onlyN_now ?_) | (refine sl_cell hS rfl _ _ rfl rfl (by repeat (first | exact Has.hd | apply Has.tl)) (by rfl) (by intro w hc; go_simp) ?_) | ((go_at_call 21); (with_reducible refine sl_call hS (XCW.out _) ?_); clear hS; intro wk hS) | ((go_at_call 22); (with_reducible refine sl_call hS (XCB.out _) ?_); clear hS; intro wk hS))
      go_upto_region 9 with (first | (refine sl_load hS rfl 23 _ rfl rfl (by repeat (first | exact Has.hd | apply Has.tl)) Try.underlying23 rfl (by exact infoV) ?_) | (refine sl_store hS rfl 23 _ _ rfl rfl rfl (by repeat (first | exact Rep.hd | apply Rep.tl)) (by exact infoV) (by rfl) (bs_one _) ?_; clear hS; intro wk hS) | (refine sl_box hS rfl _ 23 (box_vec rfl rfl) ?_; clear hS; intro bk wk hS) | (refine sl_box hS rfl _ 23 (alloc_vec rfl) ?_; clear hS; intro pp wk hS) | (refine onlyN_end ?_) | (refine onlyN_now ?_) | (refine sl_cell hS rfl _ _ rfl rfl (by repeat (first | exact Has.hd | apply Has.tl)) (by rfl) (by intro w hc; go_simp) ?_) | ((go_at_call 23); (with_reducible refine sl_call hS (XCU.out _) ?_); clear hS; intro wk hS))
      go_upto_region 10 with (first | (refine sl_load hS rfl 23 _ rfl rfl (by repeat (first | exact Has.hd | apply Has.tl)) Try.underlying23 rfl (by exact infoV) ?_) | (refine sl_store hS rfl 23 _ _ rfl rfl rfl (by repeat (first | exact Rep.hd | apply Rep.tl)) (by exact infoV) (by rfl) (bs_one _) ?_; clear hS; intro wk hS) | (refine sl_box hS rfl _ 23 (box_vec rfl rfl) ?_; clear hS; intro bk wk hS) | (refine sl_box hS rfl _ 23 (alloc_vec rfl) ?_; clear hS; intro ps wk hS) | (refine onlyN_end ?_) | (refine onlyN_now ?_) | (refine sl_cell hS rfl _ _ rfl rfl (by repeat (first | exact Has.hd | apply Has.tl)) (by rfl) (by intro w hc; go_simp) ?_) | ((go_at_call 14); (with_reducible refine sl_call hS (XCS.out _) ?_); clear hS; intro wk hS))
      go_wp2_with (first | (refine sl_load hS rfl 23 _ rfl rfl (by repeat (first | exact Has.hd | apply Has.tl)) Try.underlying23 rfl (by exact infoV) ?_) | (refine sl_store hS rfl 23 _ _ rfl rfl rfl (by repeat (first | exact Rep.hd | apply Rep.tl)) (by exact infoV) (by rfl) (bs_one _) ?_; clear hS; intro wk hS) | (refine sl_box hS rfl _ 23 (box_vec rfl rfl) ?_; clear hS; intro bk wk hS) | (refine sl_box hS rfl _ 23 (alloc_vec rfl) ?_; clear hS; intro bk wk hS) | (refine onlyN_end ?_) | (refine onlyN_now ?_))
      go_loopw [14] (fun u wr => ∃ k : Nat, k ≤ L ∧ u = .int .i64 k ∧ St w [⟨ps, bs vs, 23⟩, ⟨pp, bs vu, 23⟩, ⟨pu, bs vb, 23⟩, ⟨q, bs x, 23⟩, ⟨p, bs a, 23⟩] wr) (fun u _ => L - (intOf u).toNat)
      case atStart => exact ⟨0, by omega, rfl, hS⟩
      case round =>
        obtain ⟨k, hk, rfl, hS⟩ := hrel
        by_cases hlt : k < L
        · have hj : thereB v k = true := there_iff.2 ⟨by omega, by rw [HL.out]; omega⟩
          have eB := HLB.out k hj
          have eU := HLU.out k hj
          have eS := HLS.out k hj
          have E1 := fun w => get_any a HA.out v k w
          have E2 := fun w => get_any x HX.out v k w
          have E3 := fun w => set_any x v k (getI a v k) w
          have E4 := fun w => set_any a v k (getI x v k) w
          have HK := setI_byt HX.out v k (getI a v k)
          have HM := setI_byt HA.out v k (getI x v k)
          have E5 := fun w => HCB.out _ _ HK HM w
          have E6 := fun w => HCU.out _ HK w
          have E7 := fun w => HCS.out _ HK w
          have E8 := fun w => get_any vb HBv.out v k w
          have E9 := fun w => get_any (biV o (setI x v k (getI a v k)) (setI a v k (getI x v k))) (biV_byt _ _ _) v k w
          have E10 := fun w => get_any vu HUv.out v k w
          have E11 := fun w => get_any (unV o (setI x v k (getI a v k))) (unV_byt _ HK) v k w
          have E12 := fun w => get_any vs HSv.out v k w
          have E13 := fun w => get_any (shV o (setI x v k (getI a v k)) (x 0)) (shV_byt _ HK _) v k w
          rw [eB] at E9
          rw [eU] at E11
          rw [eS] at E13
          clear eB eU eS HK HM
          generalize biV o (setI x v k (getI a v k)) (setI a v k (getI x v k)) = nb at *
          generalize unV o (setI x v k (getI a v k)) = nu at *
          generalize shV o (setI x v k (getI a v k)) (x 0) = ns at *
          generalize setI x v k (getI a v k) = kk at *
          generalize setI a v k (getI x v k) = mm at *
          generalize getI a v k = ga at *
          generalize getI x v k = gx at *
          generalize getI vb v k = gb at *
          generalize getI vu v k = gu at *
          generalize getI vs v k = gs at *
          have XE1 := Lib.hid E1
          clear E1
          have XE2 := Lib.hid E2
          clear E2
          have XE3 := Lib.hid E3
          clear E3
          have XE4 := Lib.hid E4
          clear E4
          have XE5 := Lib.hid E5
          clear E5
          have XE6 := Lib.hid E6
          clear E6
          have XE7 := Lib.hid E7
          clear E7
          have XE8 := Lib.hid E8
          clear E8
          have XE9 := Lib.hid E9
          clear E9
          have XE10 := Lib.hid E10
          clear E10
          have XE11 := Lib.hid E11
          clear E11
          have XE12 := Lib.hid E12
          clear E12
          have XE13 := Lib.hid E13
          clear E13
          go_upto_region 14 with (first | (refine sl_load hS rfl 23 _ rfl rfl (by repeat (first | exact Has.hd | apply Has.tl)) Try.underlying23 rfl (by exact infoV) ?_) | (refine sl_store hS rfl 23 _ _ rfl rfl rfl (by repeat (first | exact Rep.hd | apply Rep.tl)) (by exact infoV) (by rfl) (bs_one _) ?_; clear hS; intro wk hS) | (refine sl_box hS rfl _ 23 (box_vec rfl rfl) ?_; clear hS; intro bk wk hS) | (refine sl_box hS rfl _ 23 (alloc_vec rfl) ?_; clear hS; intro bk wk hS) | (refine onlyN_end ?_) | (refine onlyN_now ?_))
          refine sd_tail 8 hS (by kernel_rfl) (by kernel_rfl) ?_
          simp only [List.take_succ_cons, List.take_zero, List.drop_succ_cons, List.drop_zero]
          iterate 8 (refine sd_step (fun K hK => ?_); (first | (refine sd_load rfl 23 _ rfl rfl (by repeat (first | exact Has.hd | apply Has.tl)) Try.underlying23 rfl (by exact infoV) ?_) | (apply sd_yes rfl; focus (intro wx hx; go_simp; first | (apply sd_enter; first | fail | with_reducible exact XE1.out wx | with_reducible exact XE3.out wx) | exact ⟨rfl, Gr.refl _⟩)) | (refine sd_no rfl ?_)); go_simp; refine hK _ ?_; clear hK K)
          refine sd_nil ?_
          clear hS
          intro wk hS
          go_upto_region 16 with (first | (refine sl_load hS rfl 23 _ rfl rfl (by repeat (first | exact Has.hd | apply Has.tl)) Try.underlying23 rfl (by exact infoV) ?_) | (refine sl_store hS rfl 23 _ _ rfl rfl rfl (by repeat (first | exact Rep.hd | apply Rep.tl)) (by exact infoV) (by rfl) (bs_one _) ?_; clear hS; intro wk hS) | (refine sl_box hS rfl _ 23 (box_vec rfl rfl) ?_; clear hS; intro bk wk hS) | (refine sl_box hS rfl _ 23 (alloc_vec rfl) ?_; clear hS; intro bk wk hS) | (refine onlyN_end ?_) | (refine onlyN_now ?_))
          refine sd_tail 8 hS (by kernel_rfl) (by kernel_rfl) ?_
          simp only [List.take_succ_cons, List.take_zero, List.drop_succ_cons, List.drop_zero]
          iterate 8 (refine sd_step (fun K hK => ?_); (first | (refine sd_load rfl 23 _ rfl rfl (by repeat (first | exact Has.hd | apply Has.tl)) Try.underlying23 rfl (by exact infoV) ?_) | (apply sd_yes rfl; focus (intro wx hx; go_simp; first | (apply sd_enter; first | fail | with_reducible exact XE2.out wx | with_reducible exact XE4.out wx) | exact ⟨rfl, Gr.refl _⟩)) | (refine sd_no rfl ?_)); go_simp; refine hK _ ?_; clear hK K)
          refine sd_nil ?_
          clear hS
          intro wk hS
          go_upto_region 20 with (first | (refine sl_load hS rfl 23 _ rfl rfl (by repeat (first | exact Has.hd | apply Has.tl)) Try.underlying23 rfl (by exact infoV) ?_) | (refine sl_store hS rfl 23 _ _ rfl rfl rfl (by repeat (first | exact Rep.hd | apply Rep.tl)) (by exact infoV) (by rfl) (bs_one _) ?_; clear hS; intro wk hS) | (refine sl_box hS rfl _ 23 (box_vec rfl rfl) ?_; clear hS; intro bk wk hS) | (refine sl_box hS rfl _ 23 (alloc_vec rfl) ?_; clear hS; intro bk wk hS) | (refine onlyN_end ?_) | (refine onlyN_now ?_) | (refine sl_cell hS rfl _ _ rfl rfl (by repeat (first | exact Has.hd | apply Has.tl)) (by rfl) (by intro w hc; go_simp) ?_) | ((go_at_call 22); (with_reducible refine sl_call hS (XE5.out _) ?_); clear hS; intro wk hS) | ((go_at_call 23); (with_reducible refine sl_call hS (XE6.out _) ?_); clear hS; intro wk hS) | ((go_at_call 14); (with_reducible refine sl_call hS (XE7.out _) ?_); clear hS; intro wk hS))
          refine sd_all hS (by kernel_rfl) (by kernel_rfl) ?_
          iterate 43 (refine sd_step (fun K hK => ?_); (first | (refine sd_load rfl 23 _ rfl rfl (by repeat (first | exact Has.hd | apply Has.tl)) Try.underlying23 rfl (by exact infoV) ?_) | (apply sd_yes rfl; focus (intro wx hx; go_simp; first | (apply sd_enter; first | fail | with_reducible exact XE8.out wx | with_reducible exact XE9.out wx | with_reducible exact XE10.out wx | with_reducible exact XE11.out wx | with_reducible exact XE12.out wx | with_reducible exact XE13.out wx) | exact ⟨rfl, Gr.refl _⟩)) | (refine sd_no rfl ?_)); go_simp; refine hK _ ?_; clear hK K)
          refine sd_nil ?_
          clear hS
          intro wk hS
          go_wp2_with (first | (refine sl_load hS rfl 23 _ rfl rfl (by repeat (first | exact Has.hd | apply Has.tl)) Try.underlying23 rfl (by exact infoV) ?_) | (refine sl_store hS rfl 23 _ _ rfl rfl rfl (by repeat (first | exact Rep.hd | apply Rep.tl)) (by exact infoV) (by rfl) (bs_one _) ?_; clear hS; intro wk hS) | (refine sl_box hS rfl _ 23 (box_vec rfl rfl) ?_; clear hS; intro bk wk hS) | (refine sl_box hS rfl _ 23 (alloc_vec rfl) ?_; clear hS; intro bk wk hS) | (refine onlyN_end ?_) | (refine onlyN_now ?_))
          exact ⟨⟨k + 1, by omega, by go_num, hS.tail.tail.tail.tail.tail⟩, by simp [intOf]; omega⟩
        · obtain rfl : k = L := by omega
          go_wp2_with (first | (refine sl_load hS rfl 23 _ rfl rfl (by repeat (first | exact Has.hd | apply Has.tl)) Try.underlying23 rfl (by exact infoV) ?_) | (refine sl_store hS rfl 23 _ _ rfl rfl rfl (by repeat (first | exact Rep.hd | apply Rep.tl)) (by exact infoV) (by rfl) (bs_one _) ?_; clear hS; intro wk hS) | (refine sl_box hS rfl _ 23 (box_vec rfl rfl) ?_; clear hS; intro bk wk hS) | (refine sl_box hS rfl _ 23 (alloc_vec rfl) ?_; clear hS; intro bk wk hS) | (refine onlyN_end ?_) | (refine onlyN_now ?_))
          go_ret
          exact ⟨rfl, hS.gr⟩
end Ar
end Go.Proofs.Ytalnkkmbjaollaa
