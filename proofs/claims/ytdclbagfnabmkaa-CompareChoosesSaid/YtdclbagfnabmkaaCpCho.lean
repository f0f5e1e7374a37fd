/-
  CompareChooses: for all three vectors the law returns true. Condition: bytes.
-/
import Derived.Test.YtdclbagfnabmkaaCpSelM
import Derived.Test.YtdclbagfnabmkaaSlC
import Derived.Test.YtdclbagfnabmkaaSlQ
namespace Go.Proofs.Ytdclbagfnabmkaa
open Go.RowKit VecM
namespace Cp
theorem bits3e {w0 w : World} {M : List Ent} (hS : St w0 M w) {g : Nat} {a b c d : Nat → Int} (hm : Has M g (bs3 a b c) 23) (h : bs (sl a b c) = bs d) :
    Calls Try.prog 15 #[.int .i64 64850, .slice (some ⟨g, 0, none⟩) 3 3] w fun e w' => e = .returned (.tuple #[.agg (bs d), .int .i64 0]) ∧ Gr w w' := by
  rw [← h]; exact bits3 hS hm
theorem new3 {o : Oper} {s : Act} {x y z : Operand} {a b c : Nat → Int} (ho : o.op = .buildSlice 33 3 #[(0, x), (1, y), (2, z)]) (hx : s.eval x = .agg (bs a)) (hy : s.eval y = .agg (bs b)) (hz : s.eval z = .agg (bs c)) (w : World) :
    (execOp s.eval o).run Try.prog w = .ok (.value (.slice (some ⟨w.heap.size, 0, none⟩) 3 3)) (w.alloc (.cells (bs3 a b c) 23)) := by
  generalize s.eval = ev at *
  unfold execOp
  simp only [ho, List.map_toArray, List.map_cons, List.map_nil, hx, hy, hz]
  go_simp
set_option maxRecDepth 100000 in
set_option maxHeartbeats 32000000 in
theorem chooses_walk (a b c : Nat → Int) (ha : Byt a) (hb : Byt b) (_hc : Byt c) (w : World) : Calls Try.prog 8 #[.agg (bs a), .agg (bs b), .agg (bs c)] w fun e w' => e = .returned (.bool true) ∧ Gr w w' := by
  have HA := Lib.hid ha
  have HB := Lib.hid hb
  have F := selF (a := a) (b := b) (c := c) ha
  clear ha hb
  have E1 := fun w => two_any 81 (by omega) (sl a b c) (sl b a c) w
  have E2 := fun w => two_any 81 (by omega) a b w
  have E3 := fun w => two_any 78 (by omega) (sl a b c) c w
  have E4 := fun w => two_any 78 (by omega) a c w
  have E5 := fun w => two_any 79 (by omega) (sl a b c) c w
  have E6 := fun w => two_any 79 (by omega) b c w
  have E7 := fun w => two_any 81 (by omega) (bw (64768 + 81) a b) b w
  have E8 := fun w => two_any 78 (by omega) a b w
  have E9 := fun w => two_any 79 (by omega) a b w
  have E10 := fun w => two_any 80 (by omega) (bw (64768 + 78) a b) (bw (64768 + 79) a b) w
  rw [show (64768 : Int) + 78 = 64846 from rfl] at E3 E4 E8 E10
  rw [show (64768 : Int) + 79 = 64847 from rfl] at E5 E6 E9 E10
  rw [show (64768 : Int) + 80 = 64848 from rfl] at E10
  rw [show (64768 : Int) + 81 = 64849 from rfl] at E1 E2 E7
  rw [F.g1] at E1
  rw [F.g2] at E3
  rw [F.g3] at E5
  rw [F.g4] at E7
  rw [F.g5] at E10
  clear F
  obtain ⟨x, hx⟩ : ∃ x, x = sl a b c := ⟨_, rfl⟩
  obtain ⟨y, hy⟩ : ∃ y, y = sl b a c := ⟨_, rfl⟩
  rw [← hx, ← hy] at E1
  rw [← hx] at E3 E5
  generalize bw 64849 a b = z1 at *
  generalize bw 64846 a c = z2 at *
  generalize bw 64847 b c = z3 at *
  generalize bw 64846 a b = z4 at *
  generalize bw 64847 a b = z5 at *
  have HX := Lib.hid (show bs (sl a b c) = bs x by rw [hx])
  have HY := Lib.hid (show bs (sl b a c) = bs y by rw [hy])
  clear hx hy
  have XE1 := Lib.hid E1
  clear E1
  have XE2 := Lib.hid E2
  clear E2
  have XE3 := Lib.hid E3
  clear E3
  have XE4 := Lib.hid E4
  clear E4
  have XE5 := Lib.hid E5
  clear E5
  have XE6 := Lib.hid E6
  clear E6
  have XE7 := Lib.hid E7
  clear E7
  have XE8 := Lib.hid E8
  clear E8
  have XE9 := Lib.hid E9
  clear E9
  have XE10 := Lib.hid E10
  clear E10
  have hS := St.start w
  go_enter Try.func8, Try.ntmps8
  go_upto_region 0 with (fail)
  refine wp_region_lit ?_
  refine sl_box hS rfl _ 23 (box_vec rfl rfl) ?_
  clear hS
  intro p wk hS
  refine sl_box hS rfl _ 23 (box_vec rfl rfl) ?_
  clear hS
  intro q wk hS
  refine sl_box hS rfl _ 23 (box_vec rfl rfl) ?_
  clear hS
  intro r wk hS
  go_upto_region 3 with (first | (refine sl_load hS rfl 23 _ rfl rfl (by repeat (first | exact Has.hd | apply Has.tl)) Try.underlying23 rfl (by exact infoV) ?_) | (refine sl_store hS rfl 23 _ _ rfl rfl rfl (by repeat (first | exact Rep.hd | apply Rep.tl)) (by exact infoV) (by rfl) (bs_one _) ?_; clear hS; intro wk hS) | (refine sl_box hS rfl _ 23 (box_vec rfl rfl) ?_; clear hS; intro bk wk hS) | (refine sl_box hS rfl _ 23 (alloc_vec rfl) ?_; clear hS; intro bk wk hS) | (refine onlyN_end ?_) | (refine onlyN_now ?_) | ((go_at_call 10); (with_reducible refine sl_call hS (awake _) ?_); clear hS; intro wk hS))
  refine wp_region_lit ?_
  iterate 3 (refine sl_load hS rfl 23 _ rfl rfl (by repeat (first | exact Has.hd | apply Has.tl)) Try.underlying23 rfl (by exact infoV) ?_)
  refine sl_new hS rfl (bs3 a b c) 23 (fun b => .slice (some ⟨b, 0, none⟩) 3 3) (new3 rfl rfl rfl rfl) ?_
  clear hS
  intro n1 wk hS
  have hc := bits3e (a := a) (b := b) (c := c) hS Has.hd HX.out
  have HC := Lib.hid hc
  clear hc
  go_upto_region 4 with (first | (refine sl_load hS rfl 23 _ rfl rfl (by repeat (first | exact Has.hd | apply Has.tl)) Try.underlying23 rfl (by exact infoV) ?_) | (refine sl_store hS rfl 23 _ _ rfl rfl rfl (by repeat (first | exact Rep.hd | apply Rep.tl)) (by exact infoV) (by rfl) (bs_one _) ?_; clear hS; intro wk hS) | (refine sl_box hS rfl _ 23 (box_vec rfl rfl) ?_; clear hS; intro bk wk hS) | (refine sl_box hS rfl _ 23 (alloc_vec rfl) ?_; clear hS; intro px wk hS) | (refine onlyN_end ?_) | (refine onlyN_now ?_) | ((go_at_call 15); (with_reducible refine sl_call hS HC.out ?_); clear hS; intro wk hS))
  clear HC
  refine wp_region_lit ?_
  iterate 3 (refine sl_load hS rfl 23 _ rfl rfl (by repeat (first | exact Has.hd | apply Has.tl)) Try.underlying23 rfl (by exact infoV) ?_)
  refine sl_new hS rfl (bs3 b a c) 23 (fun b => .slice (some ⟨b, 0, none⟩) 3 3) (new3 rfl rfl rfl rfl) ?_
  clear hS
  intro n2 wk hS
  have hc := bits3e (a := b) (b := a) (c := c) hS Has.hd HY.out
  have HC := Lib.hid hc
  clear hc
  go_upto_region 5 with (first | (refine sl_load hS rfl 23 _ rfl rfl (by repeat (first | exact Has.hd | apply Has.tl)) Try.underlying23 rfl (by exact infoV) ?_) | (refine sl_store hS rfl 23 _ _ rfl rfl rfl (by repeat (first | exact Rep.hd | apply Rep.tl)) (by exact infoV) (by rfl) (bs_one _) ?_; clear hS; intro wk hS) | (refine sl_box hS rfl _ 23 (box_vec rfl rfl) ?_; clear hS; intro bk wk hS) | (refine sl_box hS rfl _ 23 (alloc_vec rfl) ?_; clear hS; intro py wk hS) | (refine onlyN_end ?_) | (refine onlyN_now ?_) | ((go_at_call 15); (with_reducible refine sl_call hS HC.out ?_); clear hS; intro wk hS))
  clear HC
  have hq1 := fun w => eq_same z1 w
  have hq2 := fun w => eq_same z2 w
  have hq3 := fun w => eq_same z3 w
  have hq4 := fun w => eq_same a w
  refine sd_all hS (by kernel_rfl) (by kernel_rfl) ?_
  iterate 53 (refine sd_step (fun K hK => ?_); (first | (refine sd_load rfl 23 _ rfl rfl (by repeat (first | exact Has.hd | apply Has.tl)) Try.underlying23 rfl (by exact infoV) ?_) | (apply sd_yes rfl; focus (intro wx hx; go_simp; first | (apply sd_enter; first | fail | with_reducible exact XE1.out wx | with_reducible exact XE2.out wx | with_reducible exact XE3.out wx | with_reducible exact XE4.out wx | with_reducible exact XE5.out wx | with_reducible exact XE6.out wx | with_reducible exact XE7.out wx | with_reducible exact XE8.out wx | with_reducible exact XE9.out wx | with_reducible exact XE10.out wx) | exact ⟨rfl, Gr.refl _⟩)) | (refine sd_no rfl ?_)); go_simp; refine hK _ ?_; clear hK K)
  refine sd_nil ?_
  clear hS hq1 hq2 hq3 hq4 XE1 XE2 XE3 XE4 XE5 XE6 XE7 XE8 XE9 XE10
  intro wk hS
  go_wp2_with (first | (refine sl_load hS rfl 23 _ rfl rfl (by repeat (first | exact Has.hd | apply Has.tl)) Try.underlying23 rfl (by exact infoV) ?_) | (refine sl_store hS rfl 23 _ _ rfl rfl rfl (by repeat (first | exact Rep.hd | apply Rep.tl)) (by exact infoV) (by rfl) (bs_one _) ?_; clear hS; intro wk hS) | (refine sl_box hS rfl _ 23 (box_vec rfl rfl) ?_; clear hS; intro bk wk hS) | (refine sl_box hS rfl _ 23 (alloc_vec rfl) ?_; clear hS; intro bk wk hS) | (refine onlyN_end ?_) | (refine onlyN_now ?_))
  go_loopw [11] (fun u wr => ∃ k : Int, (k = 0 ∨ k = 1 ∨ k = 2 ∨ k = 3) ∧ u = .int .i64 k ∧ St w ([⟨py, bs y, 23⟩, ⟨n2, bs3 b a c, 23⟩, ⟨px, bs x, 23⟩, ⟨n1, bs3 a b c, 23⟩, ⟨r, bs c, 23⟩, ⟨q, bs b, 23⟩, ⟨p, bs a, 23⟩]) wr) (fun u _ => (4 - intOf u).toNat)
  case atStart => exact ⟨0, by omega, rfl, hS⟩
  case round =>
    obtain ⟨k, hk, rfl, hS⟩ := hrel
    rcases hk with rfl | rfl | rfl | rfl
    · as_aux_lemma =>
      go_wp2_with (first | (refine sl_load hS rfl 23 _ rfl rfl (by repeat (first | exact Has.hd | apply Has.tl)) Try.underlying23 rfl (by exact infoV) ?_) | (refine sl_store hS rfl 23 _ _ rfl rfl rfl (by repeat (first | exact Rep.hd | apply Rep.tl)) (by exact infoV) (by rfl) (bs_one _) ?_; clear hS; intro wk hS) | (refine sl_box hS rfl _ 23 (box_vec rfl rfl) ?_; clear hS; intro bk wk hS) | (refine sl_box hS rfl _ 23 (alloc_vec rfl) ?_; clear hS; intro bk wk hS) | (refine onlyN_end ?_) | (refine onlyN_now ?_))
      go_loopw [12] (fun u wr => ∃ d : Int, (d = 0 ∨ d = 1 ∨ d = 2) ∧ u = .int .i64 d ∧ St w ([⟨py, bs y, 23⟩, ⟨n2, bs3 b a c, 23⟩, ⟨px, bs x, 23⟩, ⟨n1, bs3 a b c, 23⟩, ⟨r, bs c, 23⟩, ⟨q, bs b, 23⟩, ⟨p, bs a, 23⟩]) wr) (fun u _ => (4 - intOf u).toNat)
      case atStart => exact ⟨0, by omega, rfl, hS⟩
      case round =>
        obtain ⟨d, hd, rfl, hS⟩ := hrel
        rcases hd with rfl | rfl | rfl
        · have C1 := fun w => cmp_C 64805 8 2 (by omega) (by decide) (by decide) HA.out HB.out w
          have C2 := fun w => bin_B 8 22 64886 (by decide) (by decide) HA.out HB.out w
          have HM := Lib.hid (sel_22 (v := 8) (by omega) HA.out HB.out (by omega))
          generalize C 8 2 a b = m at *
          generalize Ar.B 8 22 a b = z at *
          have XC1 := Lib.hid C1
          clear C1
          have XC2 := Lib.hid C2
          clear C2
          go_upto_region 14 with (first | (refine sl_load hS rfl 23 _ rfl rfl (by repeat (first | exact Has.hd | apply Has.tl)) Try.underlying23 rfl (by exact infoV) ?_) | (refine sl_store hS rfl 23 _ _ rfl rfl rfl (by repeat (first | exact Rep.hd | apply Rep.tl)) (by exact infoV) (by rfl) (bs_one _) ?_; clear hS; intro wk hS) | (refine sl_box hS rfl _ 23 (box_vec rfl rfl) ?_; clear hS; intro bk wk hS) | (refine sl_box hS rfl _ 23 (alloc_vec rfl) ?_; clear hS; intro pm wk hS) | (refine onlyN_end ?_) | (refine onlyN_now ?_) | ((go_at_call 18); (with_reducible refine sl_call hS (XC1.out _) ?_); clear hS; intro wk hS))
          go_upto_region 15 with (first | (refine sl_load hS rfl 23 _ rfl rfl (by repeat (first | exact Has.hd | apply Has.tl)) Try.underlying23 rfl (by exact infoV) ?_) | (refine sl_store hS rfl 23 _ _ rfl rfl rfl (by repeat (first | exact Rep.hd | apply Rep.tl)) (by exact infoV) (by rfl) (bs_one _) ?_; clear hS; intro wk hS) | (refine sl_box hS rfl _ 23 (box_vec rfl rfl) ?_; clear hS; intro bk wk hS) | (refine sl_box hS rfl _ 23 (alloc_vec rfl) ?_; clear hS; intro pl wk hS) | (refine onlyN_end ?_) | (refine onlyN_now ?_) | ((go_at_call 23); (with_reducible refine sl_call hS (XC2.out _) ?_); clear hS; intro wk hS))
          refine wp_region_lit ?_
          iterate 3 (refine sl_load hS rfl 23 _ rfl rfl (by repeat (first | exact Has.hd | apply Has.tl)) Try.underlying23 rfl (by exact infoV) ?_)
          refine sl_new hS rfl (bs3 a b m) 23 (fun b => .slice (some ⟨b, 0, none⟩) 3 3) (new3 rfl rfl rfl rfl) ?_
          clear hS
          intro n3 wk hS
          have hc := bits3e (a := a) (b := b) (c := m) hS Has.hd HM.out
          have HC := Lib.hid hc
          clear hc
          go_wp2_with (first | (refine sl_load hS rfl 23 _ rfl rfl (by repeat (first | exact Has.hd | apply Has.tl)) Try.underlying23 rfl (by exact infoV) ?_) | (refine sl_store hS rfl 23 _ _ rfl rfl rfl (by repeat (first | exact Rep.hd | apply Rep.tl)) (by exact infoV) (by rfl) (bs_one _) ?_; clear hS; intro wk hS) | (refine sl_box hS rfl _ 23 (box_vec rfl rfl) ?_; clear hS; intro bk wk hS) | (refine sl_box hS rfl _ 23 (alloc_vec rfl) ?_; clear hS; intro pv wk hS) | (refine onlyN_end ?_) | (refine onlyN_now ?_) | (refine sl_neq rfl rfl rfl rfl (vecB_refl _) ?_) | ((go_at_call 15); (with_reducible refine sl_call hS HC.out ?_); clear hS; intro wk hS))
          exact ⟨⟨1, by omega, rfl, hS.tail.tail.tail.tail⟩, by simp [intOf]⟩
        · have C1 := fun w => cmp_C 64806 8 3 (by omega) (by decide) (by decide) HA.out HB.out w
          have C2 := fun w => bin_B 8 23 64887 (by decide) (by decide) HA.out HB.out w
          have HM := Lib.hid (sel_23 (v := 8) (by omega) HA.out HB.out (by omega))
          generalize C 8 3 a b = m at *
          generalize Ar.B 8 23 a b = z at *
          have XC1 := Lib.hid C1
          clear C1
          have XC2 := Lib.hid C2
          clear C2
          go_upto_region 14 with (first | (refine sl_load hS rfl 23 _ rfl rfl (by repeat (first | exact Has.hd | apply Has.tl)) Try.underlying23 rfl (by exact infoV) ?_) | (refine sl_store hS rfl 23 _ _ rfl rfl rfl (by repeat (first | exact Rep.hd | apply Rep.tl)) (by exact infoV) (by rfl) (bs_one _) ?_; clear hS; intro wk hS) | (refine sl_box hS rfl _ 23 (box_vec rfl rfl) ?_; clear hS; intro bk wk hS) | (refine sl_box hS rfl _ 23 (alloc_vec rfl) ?_; clear hS; intro pm wk hS) | (refine onlyN_end ?_) | (refine onlyN_now ?_) | ((go_at_call 18); (with_reducible refine sl_call hS (XC1.out _) ?_); clear hS; intro wk hS))
          go_upto_region 15 with (first | (refine sl_load hS rfl 23 _ rfl rfl (by repeat (first | exact Has.hd | apply Has.tl)) Try.underlying23 rfl (by exact infoV) ?_) | (refine sl_store hS rfl 23 _ _ rfl rfl rfl (by repeat (first | exact Rep.hd | apply Rep.tl)) (by exact infoV) (by rfl) (bs_one _) ?_; clear hS; intro wk hS) | (refine sl_box hS rfl _ 23 (box_vec rfl rfl) ?_; clear hS; intro bk wk hS) | (refine sl_box hS rfl _ 23 (alloc_vec rfl) ?_; clear hS; intro pl wk hS) | (refine onlyN_end ?_) | (refine onlyN_now ?_) | ((go_at_call 23); (with_reducible refine sl_call hS (XC2.out _) ?_); clear hS; intro wk hS))
          refine wp_region_lit ?_
          iterate 3 (refine sl_load hS rfl 23 _ rfl rfl (by repeat (first | exact Has.hd | apply Has.tl)) Try.underlying23 rfl (by exact infoV) ?_)
          refine sl_new hS rfl (bs3 a b m) 23 (fun b => .slice (some ⟨b, 0, none⟩) 3 3) (new3 rfl rfl rfl rfl) ?_
          clear hS
          intro n3 wk hS
          have hc := bits3e (a := a) (b := b) (c := m) hS Has.hd HM.out
          have HC := Lib.hid hc
          clear hc
          go_wp2_with (first | (refine sl_load hS rfl 23 _ rfl rfl (by repeat (first | exact Has.hd | apply Has.tl)) Try.underlying23 rfl (by exact infoV) ?_) | (refine sl_store hS rfl 23 _ _ rfl rfl rfl (by repeat (first | exact Rep.hd | apply Rep.tl)) (by exact infoV) (by rfl) (bs_one _) ?_; clear hS; intro wk hS) | (refine sl_box hS rfl _ 23 (box_vec rfl rfl) ?_; clear hS; intro bk wk hS) | (refine sl_box hS rfl _ 23 (alloc_vec rfl) ?_; clear hS; intro pv wk hS) | (refine onlyN_end ?_) | (refine onlyN_now ?_) | (refine sl_neq rfl rfl rfl rfl (vecB_refl _) ?_) | ((go_at_call 15); (with_reducible refine sl_call hS HC.out ?_); clear hS; intro wk hS))
          exact ⟨⟨2, by omega, rfl, hS.tail.tail.tail.tail⟩, by simp [intOf]⟩
        · go_wp2_with (first | (refine sl_load hS rfl 23 _ rfl rfl (by repeat (first | exact Has.hd | apply Has.tl)) Try.underlying23 rfl (by exact infoV) ?_) | (refine sl_store hS rfl 23 _ _ rfl rfl rfl (by repeat (first | exact Rep.hd | apply Rep.tl)) (by exact infoV) (by rfl) (bs_one _) ?_; clear hS; intro wk hS) | (refine sl_box hS rfl _ 23 (box_vec rfl rfl) ?_; clear hS; intro bk wk hS) | (refine sl_box hS rfl _ 23 (alloc_vec rfl) ?_; clear hS; intro bk wk hS) | (refine onlyN_end ?_) | (refine onlyN_now ?_))
          exact ⟨⟨1, by omega, rfl, hS⟩, by simp [intOf]⟩
    · as_aux_lemma =>
      go_wp2_with (first | (refine sl_load hS rfl 23 _ rfl rfl (by repeat (first | exact Has.hd | apply Has.tl)) Try.underlying23 rfl (by exact infoV) ?_) | (refine sl_store hS rfl 23 _ _ rfl rfl rfl (by repeat (first | exact Rep.hd | apply Rep.tl)) (by exact infoV) (by rfl) (bs_one _) ?_; clear hS; intro wk hS) | (refine sl_box hS rfl _ 23 (box_vec rfl rfl) ?_; clear hS; intro bk wk hS) | (refine sl_box hS rfl _ 23 (alloc_vec rfl) ?_; clear hS; intro bk wk hS) | (refine onlyN_end ?_) | (refine onlyN_now ?_))
      go_loopw [12] (fun u wr => ∃ d : Int, (d = 0 ∨ d = 1 ∨ d = 2) ∧ u = .int .i64 d ∧ St w ([⟨py, bs y, 23⟩, ⟨n2, bs3 b a c, 23⟩, ⟨px, bs x, 23⟩, ⟨n1, bs3 a b c, 23⟩, ⟨r, bs c, 23⟩, ⟨q, bs b, 23⟩, ⟨p, bs a, 23⟩]) wr) (fun u _ => (4 - intOf u).toNat)
      case atStart => exact ⟨0, by omega, rfl, hS⟩
      case round =>
        obtain ⟨d, hd, rfl, hS⟩ := hrel
        rcases hd with rfl | rfl | rfl
        · have C1 := fun w => cmp_C 64815 16 2 (by omega) (by decide) (by decide) HA.out HB.out w
          have C2 := fun w => bin_B 16 22 64918 (by decide) (by decide) HA.out HB.out w
          have HM := Lib.hid (sel_22 (v := 16) (by omega) HA.out HB.out (by omega))
          generalize C 16 2 a b = m at *
          generalize Ar.B 16 22 a b = z at *
          have XC1 := Lib.hid C1
          clear C1
          have XC2 := Lib.hid C2
          clear C2
          go_upto_region 14 with (first | (refine sl_load hS rfl 23 _ rfl rfl (by repeat (first | exact Has.hd | apply Has.tl)) Try.underlying23 rfl (by exact infoV) ?_) | (refine sl_store hS rfl 23 _ _ rfl rfl rfl (by repeat (first | exact Rep.hd | apply Rep.tl)) (by exact infoV) (by rfl) (bs_one _) ?_; clear hS; intro wk hS) | (refine sl_box hS rfl _ 23 (box_vec rfl rfl) ?_; clear hS; intro bk wk hS) | (refine sl_box hS rfl _ 23 (alloc_vec rfl) ?_; clear hS; intro pm wk hS) | (refine onlyN_end ?_) | (refine onlyN_now ?_) | ((go_at_call 18); (with_reducible refine sl_call hS (XC1.out _) ?_); clear hS; intro wk hS))
          go_upto_region 15 with (first | (refine sl_load hS rfl 23 _ rfl rfl (by repeat (first | exact Has.hd | apply Has.tl)) Try.underlying23 rfl (by exact infoV) ?_) | (refine sl_store hS rfl 23 _ _ rfl rfl rfl (by repeat (first | exact Rep.hd | apply Rep.tl)) (by exact infoV) (by rfl) (bs_one _) ?_; clear hS; intro wk hS) | (refine sl_box hS rfl _ 23 (box_vec rfl rfl) ?_; clear hS; intro bk wk hS) | (refine sl_box hS rfl _ 23 (alloc_vec rfl) ?_; clear hS; intro pl wk hS) | (refine onlyN_end ?_) | (refine onlyN_now ?_) | ((go_at_call 23); (with_reducible refine sl_call hS (XC2.out _) ?_); clear hS; intro wk hS))
          refine wp_region_lit ?_
          iterate 3 (refine sl_load hS rfl 23 _ rfl rfl (by repeat (first | exact Has.hd | apply Has.tl)) Try.underlying23 rfl (by exact infoV) ?_)
          refine sl_new hS rfl (bs3 a b m) 23 (fun b => .slice (some ⟨b, 0, none⟩) 3 3) (new3 rfl rfl rfl rfl) ?_
          clear hS
          intro n3 wk hS
          have hc := bits3e (a := a) (b := b) (c := m) hS Has.hd HM.out
          have HC := Lib.hid hc
          clear hc
          go_wp2_with (first | (refine sl_load hS rfl 23 _ rfl rfl (by repeat (first | exact Has.hd | apply Has.tl)) Try.underlying23 rfl (by exact infoV) ?_) | (refine sl_store hS rfl 23 _ _ rfl rfl rfl (by repeat (first | exact Rep.hd | apply Rep.tl)) (by exact infoV) (by rfl) (bs_one _) ?_; clear hS; intro wk hS) | (refine sl_box hS rfl _ 23 (box_vec rfl rfl) ?_; clear hS; intro bk wk hS) | (refine sl_box hS rfl _ 23 (alloc_vec rfl) ?_; clear hS; intro pv wk hS) | (refine onlyN_end ?_) | (refine onlyN_now ?_) | (refine sl_neq rfl rfl rfl rfl (vecB_refl _) ?_) | ((go_at_call 15); (with_reducible refine sl_call hS HC.out ?_); clear hS; intro wk hS))
          exact ⟨⟨1, by omega, rfl, hS.tail.tail.tail.tail⟩, by simp [intOf]⟩
        · have C1 := fun w => cmp_C 64816 16 3 (by omega) (by decide) (by decide) HA.out HB.out w
          have C2 := fun w => bin_B 16 23 64919 (by decide) (by decide) HA.out HB.out w
          have HM := Lib.hid (sel_23 (v := 16) (by omega) HA.out HB.out (by omega))
          generalize C 16 3 a b = m at *
          generalize Ar.B 16 23 a b = z at *
          have XC1 := Lib.hid C1
          clear C1
          have XC2 := Lib.hid C2
          clear C2
          go_upto_region 14 with (first | (refine sl_load hS rfl 23 _ rfl rfl (by repeat (first | exact Has.hd | apply Has.tl)) Try.underlying23 rfl (by exact infoV) ?_) | (refine sl_store hS rfl 23 _ _ rfl rfl rfl (by repeat (first | exact Rep.hd | apply Rep.tl)) (by exact infoV) (by rfl) (bs_one _) ?_; clear hS; intro wk hS) | (refine sl_box hS rfl _ 23 (box_vec rfl rfl) ?_; clear hS; intro bk wk hS) | (refine sl_box hS rfl _ 23 (alloc_vec rfl) ?_; clear hS; intro pm wk hS) | (refine onlyN_end ?_) | (refine onlyN_now ?_) | ((go_at_call 18); (with_reducible refine sl_call hS (XC1.out _) ?_); clear hS; intro wk hS))
          go_upto_region 15 with (first | (refine sl_load hS rfl 23 _ rfl rfl (by repeat (first | exact Has.hd | apply Has.tl)) Try.underlying23 rfl (by exact infoV) ?_) | (refine sl_store hS rfl 23 _ _ rfl rfl rfl (by repeat (first | exact Rep.hd | apply Rep.tl)) (by exact infoV) (by rfl) (bs_one _) ?_; clear hS; intro wk hS) | (refine sl_box hS rfl _ 23 (box_vec rfl rfl) ?_; clear hS; intro bk wk hS) | (refine sl_box hS rfl _ 23 (alloc_vec rfl) ?_; clear hS; intro pl wk hS) | (refine onlyN_end ?_) | (refine onlyN_now ?_) | ((go_at_call 23); (with_reducible refine sl_call hS (XC2.out _) ?_); clear hS; intro wk hS))
          refine wp_region_lit ?_
          iterate 3 (refine sl_load hS rfl 23 _ rfl rfl (by repeat (first | exact Has.hd | apply Has.tl)) Try.underlying23 rfl (by exact infoV) ?_)
          refine sl_new hS rfl (bs3 a b m) 23 (fun b => .slice (some ⟨b, 0, none⟩) 3 3) (new3 rfl rfl rfl rfl) ?_
          clear hS
          intro n3 wk hS
          have hc := bits3e (a := a) (b := b) (c := m) hS Has.hd HM.out
          have HC := Lib.hid hc
          clear hc
          go_wp2_with (first | (refine sl_load hS rfl 23 _ rfl rfl (by repeat (first | exact Has.hd | apply Has.tl)) Try.underlying23 rfl (by exact infoV) ?_) | (refine sl_store hS rfl 23 _ _ rfl rfl rfl (by repeat (first | exact Rep.hd | apply Rep.tl)) (by exact infoV) (by rfl) (bs_one _) ?_; clear hS; intro wk hS) | (refine sl_box hS rfl _ 23 (box_vec rfl rfl) ?_; clear hS; intro bk wk hS) | (refine sl_box hS rfl _ 23 (alloc_vec rfl) ?_; clear hS; intro pv wk hS) | (refine onlyN_end ?_) | (refine onlyN_now ?_) | (refine sl_neq rfl rfl rfl rfl (vecB_refl _) ?_) | ((go_at_call 15); (with_reducible refine sl_call hS HC.out ?_); clear hS; intro wk hS))
          exact ⟨⟨2, by omega, rfl, hS.tail.tail.tail.tail⟩, by simp [intOf]⟩
        · go_wp2_with (first | (refine sl_load hS rfl 23 _ rfl rfl (by repeat (first | exact Has.hd | apply Has.tl)) Try.underlying23 rfl (by exact infoV) ?_) | (refine sl_store hS rfl 23 _ _ rfl rfl rfl (by repeat (first | exact Rep.hd | apply Rep.tl)) (by exact infoV) (by rfl) (bs_one _) ?_; clear hS; intro wk hS) | (refine sl_box hS rfl _ 23 (box_vec rfl rfl) ?_; clear hS; intro bk wk hS) | (refine sl_box hS rfl _ 23 (alloc_vec rfl) ?_; clear hS; intro bk wk hS) | (refine onlyN_end ?_) | (refine onlyN_now ?_))
          exact ⟨⟨2, by omega, rfl, hS⟩, by simp [intOf]⟩
    · as_aux_lemma =>
      go_wp2_with (first | (refine sl_load hS rfl 23 _ rfl rfl (by repeat (first | exact Has.hd | apply Has.tl)) Try.underlying23 rfl (by exact infoV) ?_) | (refine sl_store hS rfl 23 _ _ rfl rfl rfl (by repeat (first | exact Rep.hd | apply Rep.tl)) (by exact infoV) (by rfl) (bs_one _) ?_; clear hS; intro wk hS) | (refine sl_box hS rfl _ 23 (box_vec rfl rfl) ?_; clear hS; intro bk wk hS) | (refine sl_box hS rfl _ 23 (alloc_vec rfl) ?_; clear hS; intro bk wk hS) | (refine onlyN_end ?_) | (refine onlyN_now ?_))
      go_loopw [12] (fun u wr => ∃ d : Int, (d = 0 ∨ d = 1 ∨ d = 2) ∧ u = .int .i64 d ∧ St w ([⟨py, bs y, 23⟩, ⟨n2, bs3 b a c, 23⟩, ⟨px, bs x, 23⟩, ⟨n1, bs3 a b c, 23⟩, ⟨r, bs c, 23⟩, ⟨q, bs b, 23⟩, ⟨p, bs a, 23⟩]) wr) (fun u _ => (4 - intOf u).toNat)
      case atStart => exact ⟨0, by omega, rfl, hS⟩
      case round =>
        obtain ⟨d, hd, rfl, hS⟩ := hrel
        rcases hd with rfl | rfl | rfl
        · have C1 := fun w => cmp_C 64825 32 2 (by omega) (by decide) (by decide) HA.out HB.out w
          have C2 := fun w => bin_B 32 22 64950 (by decide) (by decide) HA.out HB.out w
          have HM := Lib.hid (sel_22 (v := 32) (by omega) HA.out HB.out (by omega))
          generalize C 32 2 a b = m at *
          generalize Ar.B 32 22 a b = z at *
          have XC1 := Lib.hid C1
          clear C1
          have XC2 := Lib.hid C2
          clear C2
          go_upto_region 14 with (first | (refine sl_load hS rfl 23 _ rfl rfl (by repeat (first | exact Has.hd | apply Has.tl)) Try.underlying23 rfl (by exact infoV) ?_) | (refine sl_store hS rfl 23 _ _ rfl rfl rfl (by repeat (first | exact Rep.hd | apply Rep.tl)) (by exact infoV) (by rfl) (bs_one _) ?_; clear hS; intro wk hS) | (refine sl_box hS rfl _ 23 (box_vec rfl rfl) ?_; clear hS; intro bk wk hS) | (refine sl_box hS rfl _ 23 (alloc_vec rfl) ?_; clear hS; intro pm wk hS) | (refine onlyN_end ?_) | (refine onlyN_now ?_) | ((go_at_call 18); (with_reducible refine sl_call hS (XC1.out _) ?_); clear hS; intro wk hS))
          go_upto_region 15 with (first | (refine sl_load hS rfl 23 _ rfl rfl (by repeat (first | exact Has.hd | apply Has.tl)) Try.underlying23 rfl (by exact infoV) ?_) | (refine sl_store hS rfl 23 _ _ rfl rfl rfl (by repeat (first | exact Rep.hd | apply Rep.tl)) (by exact infoV) (by rfl) (bs_one _) ?_; clear hS; intro wk hS) | (refine sl_box hS rfl _ 23 (box_vec rfl rfl) ?_; clear hS; intro bk wk hS) | (refine sl_box hS rfl _ 23 (alloc_vec rfl) ?_; clear hS; intro pl wk hS) | (refine onlyN_end ?_) | (refine onlyN_now ?_) | ((go_at_call 23); (with_reducible refine sl_call hS (XC2.out _) ?_); clear hS; intro wk hS))
          refine wp_region_lit ?_
          iterate 3 (refine sl_load hS rfl 23 _ rfl rfl (by repeat (first | exact Has.hd | apply Has.tl)) Try.underlying23 rfl (by exact infoV) ?_)
          refine sl_new hS rfl (bs3 a b m) 23 (fun b => .slice (some ⟨b, 0, none⟩) 3 3) (new3 rfl rfl rfl rfl) ?_
          clear hS
          intro n3 wk hS
          have hc := bits3e (a := a) (b := b) (c := m) hS Has.hd HM.out
          have HC := Lib.hid hc
          clear hc
          go_wp2_with (first | (refine sl_load hS rfl 23 _ rfl rfl (by repeat (first | exact Has.hd | apply Has.tl)) Try.underlying23 rfl (by exact infoV) ?_) | (refine sl_store hS rfl 23 _ _ rfl rfl rfl (by repeat (first | exact Rep.hd | apply Rep.tl)) (by exact infoV) (by rfl) (bs_one _) ?_; clear hS; intro wk hS) | (refine sl_box hS rfl _ 23 (box_vec rfl rfl) ?_; clear hS; intro bk wk hS) | (refine sl_box hS rfl _ 23 (alloc_vec rfl) ?_; clear hS; intro pv wk hS) | (refine onlyN_end ?_) | (refine onlyN_now ?_) | (refine sl_neq rfl rfl rfl rfl (vecB_refl _) ?_) | ((go_at_call 15); (with_reducible refine sl_call hS HC.out ?_); clear hS; intro wk hS))
          exact ⟨⟨1, by omega, rfl, hS.tail.tail.tail.tail⟩, by simp [intOf]⟩
        · have C1 := fun w => cmp_C 64826 32 3 (by omega) (by decide) (by decide) HA.out HB.out w
          have C2 := fun w => bin_B 32 23 64951 (by decide) (by decide) HA.out HB.out w
          have HM := Lib.hid (sel_23 (v := 32) (by omega) HA.out HB.out (by omega))
          generalize C 32 3 a b = m at *
          generalize Ar.B 32 23 a b = z at *
          have XC1 := Lib.hid C1
          clear C1
          have XC2 := Lib.hid C2
          clear C2
          go_upto_region 14 with (first | (refine sl_load hS rfl 23 _ rfl rfl (by repeat (first | exact Has.hd | apply Has.tl)) Try.underlying23 rfl (by exact infoV) ?_) | (refine sl_store hS rfl 23 _ _ rfl rfl rfl (by repeat (first | exact Rep.hd | apply Rep.tl)) (by exact infoV) (by rfl) (bs_one _) ?_; clear hS; intro wk hS) | (refine sl_box hS rfl _ 23 (box_vec rfl rfl) ?_; clear hS; intro bk wk hS) | (refine sl_box hS rfl _ 23 (alloc_vec rfl) ?_; clear hS; intro pm wk hS) | (refine onlyN_end ?_) | (refine onlyN_now ?_) | ((go_at_call 18); (with_reducible refine sl_call hS (XC1.out _) ?_); clear hS; intro wk hS))
          go_upto_region 15 with (first | (refine sl_load hS rfl 23 _ rfl rfl (by repeat (first | exact Has.hd | apply Has.tl)) Try.underlying23 rfl (by exact infoV) ?_) | (refine sl_store hS rfl 23 _ _ rfl rfl rfl (by repeat (first | exact Rep.hd | apply Rep.tl)) (by exact infoV) (by rfl) (bs_one _) ?_; clear hS; intro wk hS) | (refine sl_box hS rfl _ 23 (box_vec rfl rfl) ?_; clear hS; intro bk wk hS) | (refine sl_box hS rfl _ 23 (alloc_vec rfl) ?_; clear hS; intro pl wk hS) | (refine onlyN_end ?_) | (refine onlyN_now ?_) | ((go_at_call 23); (with_reducible refine sl_call hS (XC2.out _) ?_); clear hS; intro wk hS))
          refine wp_region_lit ?_
          iterate 3 (refine sl_load hS rfl 23 _ rfl rfl (by repeat (first | exact Has.hd | apply Has.tl)) Try.underlying23 rfl (by exact infoV) ?_)
          refine sl_new hS rfl (bs3 a b m) 23 (fun b => .slice (some ⟨b, 0, none⟩) 3 3) (new3 rfl rfl rfl rfl) ?_
          clear hS
          intro n3 wk hS
          have hc := bits3e (a := a) (b := b) (c := m) hS Has.hd HM.out
          have HC := Lib.hid hc
          clear hc
          go_wp2_with (first | (refine sl_load hS rfl 23 _ rfl rfl (by repeat (first | exact Has.hd | apply Has.tl)) Try.underlying23 rfl (by exact infoV) ?_) | (refine sl_store hS rfl 23 _ _ rfl rfl rfl (by repeat (first | exact Rep.hd | apply Rep.tl)) (by exact infoV) (by rfl) (bs_one _) ?_; clear hS; intro wk hS) | (refine sl_box hS rfl _ 23 (box_vec rfl rfl) ?_; clear hS; intro bk wk hS) | (refine sl_box hS rfl _ 23 (alloc_vec rfl) ?_; clear hS; intro pv wk hS) | (refine onlyN_end ?_) | (refine onlyN_now ?_) | (refine sl_neq rfl rfl rfl rfl (vecB_refl _) ?_) | ((go_at_call 15); (with_reducible refine sl_call hS HC.out ?_); clear hS; intro wk hS))
          exact ⟨⟨2, by omega, rfl, hS.tail.tail.tail.tail⟩, by simp [intOf]⟩
        · go_wp2_with (first | (refine sl_load hS rfl 23 _ rfl rfl (by repeat (first | exact Has.hd | apply Has.tl)) Try.underlying23 rfl (by exact infoV) ?_) | (refine sl_store hS rfl 23 _ _ rfl rfl rfl (by repeat (first | exact Rep.hd | apply Rep.tl)) (by exact infoV) (by rfl) (bs_one _) ?_; clear hS; intro wk hS) | (refine sl_box hS rfl _ 23 (box_vec rfl rfl) ?_; clear hS; intro bk wk hS) | (refine sl_box hS rfl _ 23 (alloc_vec rfl) ?_; clear hS; intro bk wk hS) | (refine onlyN_end ?_) | (refine onlyN_now ?_))
          exact ⟨⟨3, by omega, rfl, hS⟩, by simp [intOf]⟩
    · go_wp2
      go_ret
      exact ⟨rfl, hS.gr⟩
end Cp
end Go.Proofs.Ytdclbagfnabmkaa
