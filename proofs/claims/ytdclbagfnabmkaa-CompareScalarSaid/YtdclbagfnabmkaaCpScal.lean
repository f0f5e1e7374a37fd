/-
  CompareScalar: for both vectors the law returns true. Condition: bytes.
-/
import Derived.Test.YtdclbagfnabmkaaCpC
import Derived.Test.YtdclbagfnabmkaaSlC
import Derived.Test.YtdclbagfnabmkaaNBin
namespace Go.Proofs.Ytdclbagfnabmkaa
open Go.RowKit VecM
namespace Cp
theorem sS_eq {x : Int} (h : 0 ≤ x ∧ x < 4294967296) : sS x = sg 32 x := by
  unfold sS sg
  rw [show (2 : Int) ^ ((32 : Int).toNat - 1) = 2147483648 from rfl, show (2 : Int) ^ (32 : Int).toNat = 4294967296 from rfl]
  unfold wrap64 wrap32
  split <;> omega
theorem sL_eq {x : Int} (h : 0 ≤ x ∧ x < 18446744073709551616) : sL x = sg 64 x := by
  unfold sL sg
  rw [show (2 : Int) ^ ((64 : Int).toNat - 1) = 9223372036854775808 from rfl, show (2 : Int) ^ (64 : Int).toNat = 18446744073709551616 from rfl]
  unfold wrap64
  split <;> omega
theorem sh_id {x : Int} (h : 0 ≤ x ∧ x < 4294967296) : sh x = x := by unfold sh; omega
theorem stands_eq (k x y s r : Int) : standsB k x s y r = stB k x y s r := rfl
def lB (v k : Int) (a b : Nat → Int) (j : Nat) : Bool := stB k (getI a v j) (getI b v j) (sgnI a v j) (sgnI b v j)
theorem num_c32 (k : Int) (hk : 0 ≤ k ∧ k < 10) {a b : Nat → Int} (ha : Byt a) (hb : Byt b) {j : Nat} (hj : thereB 32 j = true) (w : World) :
    Calls Try.prog 21 #[.int .i64 (70 + k), .int .u64 (getI a 32 j), .int .u64 (getI b 32 j)] w fun e w' => e = .returned (.tuple #[.int .u64 (tI (lB 32 k a b j)), .int .i64 0]) ∧ Gr w w' := by
  have hx : 0 ≤ getI a 32 j ∧ getI a 32 j < 4294967296 := getI_bd ha 32 j
  have hy : 0 ≤ getI b 32 j ∧ getI b 32 j < 4294967296 := getI_bd hb 32 j
  have h := bin_c32 (70 + k) (getI a 32 j) (getI b 32 j) (by omega) (by omega) w
  rw [sh_id hx, sh_id hy, sS_eq hx, sS_eq hy, show 70 + k - 70 = k by omega, stands_eq] at h
  unfold lB sgnI
  rw [if_pos hj, if_pos hj]
  exact h
theorem num_c64 (k op : Int) (hk : 0 ≤ k ∧ k < 10) (ho : op = 81 + k) {a b : Nat → Int} (ha : Byt a) (hb : Byt b) {j : Nat} (hj : thereB 64 j = true) (w : World) :
    Calls Try.prog 21 #[.int .i64 op, .int .u64 (getI a 64 j), .int .u64 (getI b 64 j)] w fun e w' => e = .returned (.tuple #[.int .u64 (tI (lB 64 k a b j)), .int .i64 0]) ∧ Gr w w' := by
  subst ho
  have hx : 0 ≤ getI a 64 j ∧ getI a 64 j < 18446744073709551616 := getI_bd ha 64 j
  have hy : 0 ≤ getI b 64 j ∧ getI b 64 j < 18446744073709551616 := getI_bd hb 64 j
  have h := bin_c64 (81 + k) (getI a 64 j) (getI b 64 j) (by omega) (by omega) w
  rw [sL_eq hx, sL_eq hy, show 81 + k - 81 = k by omega, stands_eq] at h
  unfold lB sgnI
  rw [if_pos hj, if_pos hj]
  exact h
theorem C_l {v : Int} (hv : v = 8 ∨ v = 16 ∨ v = 32 ∨ v = 64) (k : Int) (a b : Nat → Int) {j : Nat} (hj : thereB v j = true) : sgnI (C v k a b) v j = if lB v k a b j = true then -1 else 0 := m_sgn hv _ hj
theorem c32_w (k : Int) (hk : 0 ≤ k ∧ k < 10) : cW (64823 + k) = 32 ∧ cK (64823 + k) = k := by
  obtain rfl | rfl | rfl | rfl | rfl | rfl | rfl | rfl | rfl | rfl : k = 0 ∨ k = 1 ∨ k = 2 ∨ k = 3 ∨ k = 4 ∨ k = 5 ∨ k = 6 ∨ k = 7 ∨ k = 8 ∨ k = 9 := by omega
  all_goals decide
theorem aw6 (i : Int) (h : -9223372036854775808 ≤ i ∧ i ≤ 9223372036854775807) : IntKind.i64.wrap i = i := by rw [IntKind.wrap_i64]; omega
theorem al6 {o : Oper} {a : Act} (h : o.op = .alloc 46) (w : World) : (execOp a.eval o).run Try.prog w = .ok (.value (.pointer (some ⟨w.heap.size, 0, none⟩))) (w.alloc (.cells #[.int .i64 0, .int .i64 0, .int .i64 0, .int .i64 0, .int .i64 0, .int .i64 0] 46)) := by
  unfold execOp
  simp only [h]
  go_simp
set_option maxRecDepth 100000 in
set_option maxHeartbeats 32000000 in
theorem scalar_walk (a b : Nat → Int) (ha : Byt a) (hb : Byt b) (w : World) : Calls Try.prog 7 #[.agg (bs a), .agg (bs b)] w fun e w' => e = .returned (.bool true) ∧ Gr w w' := by
  have HA := Lib.hid ha
  have HB := Lib.hid hb
  clear ha hb
  have hS := St.start w
  go_enter Try.func7, Try.ntmps7
  go_upto_region 0 with (fail)
  refine wp_region_lit ?_
  refine sl_box hS rfl _ 23 (box_vec rfl rfl) ?_
  clear hS
  intro p wk hS
  refine sl_box hS rfl _ 23 (box_vec rfl rfl) ?_
  clear hS
  intro q wk hS
  go_wp2_with (first | (refine sl_load hS rfl 23 _ rfl rfl (by repeat (first | exact Has.hd | apply Has.tl)) Try.underlying23 rfl (by exact infoV) ?_) | (refine sl_store hS rfl 23 _ _ rfl rfl rfl (by repeat (first | exact Rep.hd | apply Rep.tl)) (by exact infoV) (by rfl) (bs_one _) ?_; clear hS; intro wk hS) | (refine sl_box hS rfl _ 23 (box_vec rfl rfl) ?_; clear hS; intro bk wk hS) | (refine sl_box hS rfl _ 23 (alloc_vec rfl) ?_; clear hS; intro bk wk hS) | (refine onlyN_end ?_) | (refine onlyN_now ?_) | ((go_at_call 10); (with_reducible refine sl_call hS (awake _) ?_); clear hS; intro wk hS))
  go_loopw [5] (fun u wr => ∃ n : Nat, n ≤ 10 ∧ u = .int .i64 n ∧ St w [⟨q, bs b, 23⟩, ⟨p, bs a, 23⟩] wr) (fun u _ => 10 - (intOf u).toNat)
  case atStart => exact ⟨0, by omega, rfl, hS⟩
  case round =>
    obtain ⟨n, hn, rfl, hS⟩ := hrel
    by_cases hlt0 : n < 10
    · as_aux_lemma =>
      have C1 := fun w => cmp_C (64823 + n) 32 n (by omega) (c32_w n (by omega)).1 (c32_w n (by omega)).2 HA.out HB.out w
      have HNB := Lib.hid (fun (j : Nat) (hj : thereB 32 j = true) w => num_c32 n (by omega) HA.out HB.out hj w)
      have HSG := Lib.hid (fun (j : Nat) (hj : thereB 32 j = true) => C_l (v := 32) (by omega) n a b hj)
      have HCB := Lib.hid (C_byt 32 n a b)
      generalize C 32 n a b = cc at *
      have hw1 : IntKind.i64.wrap (64823 + (n : Int)) = 64823 + n := aw6 _ (by omega)
      have hw2 : IntKind.i64.wrap (70 + (n : Int)) = 70 + n := aw6 _ (by omega)
      have XC1 := Lib.hid C1
      clear C1
      go_wp2_with (first | (refine sl_load hS rfl 23 _ rfl rfl (by repeat (first | exact Has.hd | apply Has.tl)) Try.underlying23 rfl (by exact infoV) ?_) | (refine sl_store hS rfl 23 _ _ rfl rfl rfl (by repeat (first | exact Rep.hd | apply Rep.tl)) (by exact infoV) (by rfl) (bs_one _) ?_; clear hS; intro wk hS) | (refine sl_box hS rfl _ 23 (box_vec rfl rfl) ?_; clear hS; intro bk wk hS) | (refine sl_box hS rfl _ 23 (alloc_vec rfl) ?_; clear hS; intro pv wk hS) | (refine onlyN_end ?_) | (refine onlyN_now ?_) | ((go_at_call 18); (with_reducible refine sl_call hS (XC1.out _) ?_); clear hS; intro wk hS))
      go_loopw [7] (fun u wr => ∃ k : Nat, k ≤ 4 ∧ u = .int .i64 k ∧ St w (⟨pv, bs cc, 23⟩ :: [⟨q, bs b, 23⟩, ⟨p, bs a, 23⟩]) wr) (fun u _ => 4 - (intOf u).toNat)
      case atStart => exact ⟨0, by omega, rfl, hS⟩
      case round =>
        obtain ⟨k, hk, rfl, hS⟩ := hrel
        by_cases hlt : k < 4
        · have hj : thereB 32 k = true := there_iff.2 ⟨by omega, by show (k : Int) < 4; omega⟩
          have E1 := fun w => get_any a HA.out 32 k w
          have E2 := fun w => get_any b HB.out 32 k w
          have E3 := fun w => HNB.out k hj w
          have E4 := fun w => signed_any cc HCB.out 32 k w
          rw [HSG.out k hj] at E4
          generalize lB 32 (n : Int) a b k = l at *
          generalize getI a 32 k = x at *
          generalize getI b 32 k = y at *
          cases l
          all_goals
            simp only [tI, if_true, Bool.false_eq_true, if_false] at E3 E4
            have XE1 := Lib.hid E1
            clear E1
            have XE2 := Lib.hid E2
            clear E2
            have XE3 := Lib.hid E3
            clear E3
            have XE4 := Lib.hid E4
            clear E4
            go_upto_region 10 with (first | (refine sl_load hS rfl 23 _ rfl rfl (by repeat (first | exact Has.hd | apply Has.tl)) Try.underlying23 rfl (by exact infoV) ?_) | (refine sl_store hS rfl 23 _ _ rfl rfl rfl (by repeat (first | exact Rep.hd | apply Rep.tl)) (by exact infoV) (by rfl) (bs_one _) ?_; clear hS; intro wk hS) | (refine sl_box hS rfl _ 23 (box_vec rfl rfl) ?_; clear hS; intro bk wk hS) | (refine sl_box hS rfl _ 23 (alloc_vec rfl) ?_; clear hS; intro bk wk hS) | (refine onlyN_end ?_) | (refine onlyN_now ?_))
            refine sd_all hS (by kernel_rfl) (by kernel_rfl) ?_
            iterate 14 (refine sd_step (fun K hK => ?_); (first | (refine sd_load rfl 23 _ rfl rfl (by repeat (first | exact Has.hd | apply Has.tl)) Try.underlying23 rfl (by exact infoV) ?_) | (refine sd_cell rfl _ _ rfl rfl (by repeat (first | exact Has.hd | apply Has.tl)) (by rfl) (by intro w hc; go_simp) ?_) | (apply sd_yes rfl; focus (intro wx hx; go_simp; first | (apply sd_enter; first | fail | with_reducible exact XE1.out wx | with_reducible exact XE2.out wx | with_reducible exact XE3.out wx) | exact ⟨rfl, Gr.refl _⟩)) | (refine sd_no rfl ?_)); go_simp; refine hK _ ?_; clear hK K)
            refine sd_nil ?_
            clear hS
            intro wk hS
            go_wp2_with (first | (refine sl_load hS rfl 23 _ rfl rfl (by repeat (first | exact Has.hd | apply Has.tl)) Try.underlying23 rfl (by exact infoV) ?_) | (refine sl_store hS rfl 23 _ _ rfl rfl rfl (by repeat (first | exact Rep.hd | apply Rep.tl)) (by exact infoV) (by rfl) (bs_one _) ?_; clear hS; intro wk hS) | (refine sl_box hS rfl _ 23 (box_vec rfl rfl) ?_; clear hS; intro bk wk hS) | (refine sl_box hS rfl _ 23 (alloc_vec rfl) ?_; clear hS; intro bk wk hS) | (refine onlyN_end ?_) | (refine onlyN_now ?_) | ((go_at_call 20); (with_reducible refine sl_call hS (XE4.out _) ?_); clear hS; intro wk hS))
            exact ⟨⟨k + 1, by omega, by go_num, hS⟩, by simp [intOf]; omega⟩
        · obtain rfl : k = 4 := by omega
          go_wp2_with (first | (refine sl_load hS rfl 23 _ rfl rfl (by repeat (first | exact Has.hd | apply Has.tl)) Try.underlying23 rfl (by exact infoV) ?_) | (refine sl_store hS rfl 23 _ _ rfl rfl rfl (by repeat (first | exact Rep.hd | apply Rep.tl)) (by exact infoV) (by rfl) (bs_one _) ?_; clear hS; intro wk hS) | (refine sl_box hS rfl _ 23 (box_vec rfl rfl) ?_; clear hS; intro bk wk hS) | (refine sl_box hS rfl _ 23 (alloc_vec rfl) ?_; clear hS; intro bk wk hS) | (refine onlyN_end ?_) | (refine onlyN_now ?_))
          exact ⟨⟨n + 1, by omega, by go_num, hS.tail⟩, by simp [intOf]; omega⟩
    · obtain rfl : n = 10 := by omega
      as_aux_lemma =>
      go_upto_region 13 with (first | (refine onlyN_end ?_) | (refine onlyN_now ?_))
      refine wp_region_lit ?_
      refine wpList_build_at rfl 46 _ rfl #[.int .i64 81, .int .i64 82, .int .i64 83, .int .i64 85, .int .i64 87, .int .i64 89] (by first | (simp only [List.map_toArray, List.map_cons, List.map_nil]; kernel_rfl) | kernel_rfl) ?_
      go_upto_region 14 with (first | (refine sl_box hS rfl #[.int .i64 0, .int .i64 0, .int .i64 0, .int .i64 0, .int .i64 0, .int .i64 0] 46 (al6 rfl) ?_; clear hS; intro bo wk hS) | (refine sl_store hS rfl 46 _ _ rfl rfl rfl (by repeat (first | exact Rep.hd | apply Rep.tl)) (by kernel_rfl) (by rfl) (by kernel_rfl) ?_; clear hS; intro wk hS))
      go_wp2_with (first | (refine onlyN_end ?_) | (refine onlyN_now ?_))
      go_loopw [11] (fun u wr => ∃ d : Int, (d = 0 ∨ d = 1 ∨ d = 2 ∨ d = 3 ∨ d = 4 ∨ d = 5 ∨ d = 6) ∧ u = .int .i64 d ∧ St w (⟨bo, #[.int .i64 81, .int .i64 82, .int .i64 83, .int .i64 85, .int .i64 87, .int .i64 89], 46⟩ :: [⟨q, bs b, 23⟩, ⟨p, bs a, 23⟩]) wr) (fun u _ => (8 - intOf u).toNat)
      case atStart => exact ⟨0, by omega, rfl, hS⟩
      case round =>
        obtain ⟨d, hd, rfl, hS⟩ := hrel
        rcases hd with rfl | rfl | rfl | rfl | rfl | rfl | rfl
        · as_aux_lemma =>
          have C1 := fun w => cmp_C 64982 64 0 (by omega) (by decide) (by decide) HA.out HB.out w
          have HNB := Lib.hid (fun (j : Nat) (hj : thereB 64 j = true) w => num_c64 0 81 (by omega) (by omega) HA.out HB.out hj w)
          have HSG := Lib.hid (fun (j : Nat) (hj : thereB 64 j = true) => C_l (v := 64) (by omega) 0 a b hj)
          have HCB := Lib.hid (C_byt 64 0 a b)
          generalize C 64 0 a b = cc at *
          have XC1 := Lib.hid C1
          clear C1
          go_wp2_with (first | (refine sl_load hS rfl 23 _ rfl rfl (by repeat (first | exact Has.hd | apply Has.tl)) Try.underlying23 rfl (by exact infoV) ?_) | (refine sl_store hS rfl 23 _ _ rfl rfl rfl (by repeat (first | exact Rep.hd | apply Rep.tl)) (by exact infoV) (by rfl) (bs_one _) ?_; clear hS; intro wk hS) | (refine sl_box hS rfl _ 23 (box_vec rfl rfl) ?_; clear hS; intro bk wk hS) | (refine sl_box hS rfl _ 23 (alloc_vec rfl) ?_; clear hS; intro pv wk hS) | (refine onlyN_end ?_) | (refine onlyN_now ?_) | ((go_at_call 18); (with_reducible refine sl_call hS (XC1.out _) ?_); clear hS; intro wk hS))
          go_loopw [13] (fun u wr => ∃ k : Nat, k ≤ 2 ∧ u = .int .i64 k ∧ St w (⟨pv, bs cc, 23⟩ :: ⟨bo, #[.int .i64 81, .int .i64 82, .int .i64 83, .int .i64 85, .int .i64 87, .int .i64 89], 46⟩ :: [⟨q, bs b, 23⟩, ⟨p, bs a, 23⟩]) wr) (fun u _ => 2 - (intOf u).toNat)
          case atStart => exact ⟨0, by omega, rfl, hS⟩
          case round =>
            obtain ⟨k, hk, rfl, hS⟩ := hrel
            by_cases hlt : k < 2
            · have hj : thereB 64 k = true := there_iff.2 ⟨by omega, by show (k : Int) < 2; omega⟩
              have E1 := fun w => get_any a HA.out 64 k w
              have E2 := fun w => get_any b HB.out 64 k w
              have E3 := fun w => HNB.out k hj w
              have E4 := fun w => signed_any cc HCB.out 64 k w
              rw [HSG.out k hj] at E4
              generalize lB 64 0 a b k = l at *
              generalize getI a 64 k = x at *
              generalize getI b 64 k = y at *
              cases l
              all_goals
                simp only [tI, if_true, Bool.false_eq_true, if_false] at E3 E4
                have XE1 := Lib.hid E1
                clear E1
                have XE2 := Lib.hid E2
                clear E2
                have XE3 := Lib.hid E3
                clear E3
                have XE4 := Lib.hid E4
                clear E4
                go_upto_region 21 with (first | (refine sl_load hS rfl 23 _ rfl rfl (by repeat (first | exact Has.hd | apply Has.tl)) Try.underlying23 rfl (by exact infoV) ?_) | (refine sl_store hS rfl 23 _ _ rfl rfl rfl (by repeat (first | exact Rep.hd | apply Rep.tl)) (by exact infoV) (by rfl) (bs_one _) ?_; clear hS; intro wk hS) | (refine sl_box hS rfl _ 23 (box_vec rfl rfl) ?_; clear hS; intro bk wk hS) | (refine sl_box hS rfl _ 23 (alloc_vec rfl) ?_; clear hS; intro bk wk hS) | (refine onlyN_end ?_) | (refine onlyN_now ?_))
                refine sd_all hS (by kernel_rfl) (by kernel_rfl) ?_
                iterate 15 (refine sd_step (fun K hK => ?_); (first | (refine sd_load rfl 23 _ rfl rfl (by repeat (first | exact Has.hd | apply Has.tl)) Try.underlying23 rfl (by exact infoV) ?_) | (refine sd_cell rfl _ _ rfl rfl (by repeat (first | exact Has.hd | apply Has.tl)) (by rfl) (by intro w hc; go_simp) ?_) | (apply sd_yes rfl; focus (intro wx hx; go_simp; first | (apply sd_enter; first | fail | with_reducible exact XE1.out wx | with_reducible exact XE2.out wx | with_reducible exact XE3.out wx) | exact ⟨rfl, Gr.refl _⟩)) | (refine sd_no rfl ?_)); go_simp; refine hK _ ?_; clear hK K)
                refine sd_nil ?_
                clear hS
                intro wk hS
                go_wp2_with (first | (refine sl_load hS rfl 23 _ rfl rfl (by repeat (first | exact Has.hd | apply Has.tl)) Try.underlying23 rfl (by exact infoV) ?_) | (refine sl_store hS rfl 23 _ _ rfl rfl rfl (by repeat (first | exact Rep.hd | apply Rep.tl)) (by exact infoV) (by rfl) (bs_one _) ?_; clear hS; intro wk hS) | (refine sl_box hS rfl _ 23 (box_vec rfl rfl) ?_; clear hS; intro bk wk hS) | (refine sl_box hS rfl _ 23 (alloc_vec rfl) ?_; clear hS; intro bk wk hS) | (refine onlyN_end ?_) | (refine onlyN_now ?_) | ((go_at_call 20); (with_reducible refine sl_call hS (XE4.out _) ?_); clear hS; intro wk hS))
                exact ⟨⟨k + 1, by omega, by go_num, hS⟩, by simp [intOf]; omega⟩
            · obtain rfl : k = 2 := by omega
              go_wp2_with (first | (refine sl_load hS rfl 23 _ rfl rfl (by repeat (first | exact Has.hd | apply Has.tl)) Try.underlying23 rfl (by exact infoV) ?_) | (refine sl_store hS rfl 23 _ _ rfl rfl rfl (by repeat (first | exact Rep.hd | apply Rep.tl)) (by exact infoV) (by rfl) (bs_one _) ?_; clear hS; intro wk hS) | (refine sl_box hS rfl _ 23 (box_vec rfl rfl) ?_; clear hS; intro bk wk hS) | (refine sl_box hS rfl _ 23 (alloc_vec rfl) ?_; clear hS; intro bk wk hS) | (refine onlyN_end ?_) | (refine onlyN_now ?_))
              exact ⟨⟨1, by omega, rfl, hS.tail⟩, by simp [intOf]⟩
        · as_aux_lemma =>
          have C1 := fun w => cmp_C 64983 64 1 (by omega) (by decide) (by decide) HA.out HB.out w
          have HNB := Lib.hid (fun (j : Nat) (hj : thereB 64 j = true) w => num_c64 1 82 (by omega) (by omega) HA.out HB.out hj w)
          have HSG := Lib.hid (fun (j : Nat) (hj : thereB 64 j = true) => C_l (v := 64) (by omega) 1 a b hj)
          have HCB := Lib.hid (C_byt 64 1 a b)
          generalize C 64 1 a b = cc at *
          have XC1 := Lib.hid C1
          clear C1
          go_wp2_with (first | (refine sl_load hS rfl 23 _ rfl rfl (by repeat (first | exact Has.hd | apply Has.tl)) Try.underlying23 rfl (by exact infoV) ?_) | (refine sl_store hS rfl 23 _ _ rfl rfl rfl (by repeat (first | exact Rep.hd | apply Rep.tl)) (by exact infoV) (by rfl) (bs_one _) ?_; clear hS; intro wk hS) | (refine sl_box hS rfl _ 23 (box_vec rfl rfl) ?_; clear hS; intro bk wk hS) | (refine sl_box hS rfl _ 23 (alloc_vec rfl) ?_; clear hS; intro pv wk hS) | (refine onlyN_end ?_) | (refine onlyN_now ?_) | ((go_at_call 18); (with_reducible refine sl_call hS (XC1.out _) ?_); clear hS; intro wk hS))
          go_loopw [13] (fun u wr => ∃ k : Nat, k ≤ 2 ∧ u = .int .i64 k ∧ St w (⟨pv, bs cc, 23⟩ :: ⟨bo, #[.int .i64 81, .int .i64 82, .int .i64 83, .int .i64 85, .int .i64 87, .int .i64 89], 46⟩ :: [⟨q, bs b, 23⟩, ⟨p, bs a, 23⟩]) wr) (fun u _ => 2 - (intOf u).toNat)
          case atStart => exact ⟨0, by omega, rfl, hS⟩
          case round =>
            obtain ⟨k, hk, rfl, hS⟩ := hrel
            by_cases hlt : k < 2
            · have hj : thereB 64 k = true := there_iff.2 ⟨by omega, by show (k : Int) < 2; omega⟩
              have E1 := fun w => get_any a HA.out 64 k w
              have E2 := fun w => get_any b HB.out 64 k w
              have E3 := fun w => HNB.out k hj w
              have E4 := fun w => signed_any cc HCB.out 64 k w
              rw [HSG.out k hj] at E4
              generalize lB 64 1 a b k = l at *
              generalize getI a 64 k = x at *
              generalize getI b 64 k = y at *
              cases l
              all_goals
                simp only [tI, if_true, Bool.false_eq_true, if_false] at E3 E4
                have XE1 := Lib.hid E1
                clear E1
                have XE2 := Lib.hid E2
                clear E2
                have XE3 := Lib.hid E3
                clear E3
                have XE4 := Lib.hid E4
                clear E4
                go_upto_region 21 with (first | (refine sl_load hS rfl 23 _ rfl rfl (by repeat (first | exact Has.hd | apply Has.tl)) Try.underlying23 rfl (by exact infoV) ?_) | (refine sl_store hS rfl 23 _ _ rfl rfl rfl (by repeat (first | exact Rep.hd | apply Rep.tl)) (by exact infoV) (by rfl) (bs_one _) ?_; clear hS; intro wk hS) | (refine sl_box hS rfl _ 23 (box_vec rfl rfl) ?_; clear hS; intro bk wk hS) | (refine sl_box hS rfl _ 23 (alloc_vec rfl) ?_; clear hS; intro bk wk hS) | (refine onlyN_end ?_) | (refine onlyN_now ?_))
                refine sd_all hS (by kernel_rfl) (by kernel_rfl) ?_
                iterate 15 (refine sd_step (fun K hK => ?_); (first | (refine sd_load rfl 23 _ rfl rfl (by repeat (first | exact Has.hd | apply Has.tl)) Try.underlying23 rfl (by exact infoV) ?_) | (refine sd_cell rfl _ _ rfl rfl (by repeat (first | exact Has.hd | apply Has.tl)) (by rfl) (by intro w hc; go_simp) ?_) | (apply sd_yes rfl; focus (intro wx hx; go_simp; first | (apply sd_enter; first | fail | with_reducible exact XE1.out wx | with_reducible exact XE2.out wx | with_reducible exact XE3.out wx) | exact ⟨rfl, Gr.refl _⟩)) | (refine sd_no rfl ?_)); go_simp; refine hK _ ?_; clear hK K)
                refine sd_nil ?_
                clear hS
                intro wk hS
                go_wp2_with (first | (refine sl_load hS rfl 23 _ rfl rfl (by repeat (first | exact Has.hd | apply Has.tl)) Try.underlying23 rfl (by exact infoV) ?_) | (refine sl_store hS rfl 23 _ _ rfl rfl rfl (by repeat (first | exact Rep.hd | apply Rep.tl)) (by exact infoV) (by rfl) (bs_one _) ?_; clear hS; intro wk hS) | (refine sl_box hS rfl _ 23 (box_vec rfl rfl) ?_; clear hS; intro bk wk hS) | (refine sl_box hS rfl _ 23 (alloc_vec rfl) ?_; clear hS; intro bk wk hS) | (refine onlyN_end ?_) | (refine onlyN_now ?_) | ((go_at_call 20); (with_reducible refine sl_call hS (XE4.out _) ?_); clear hS; intro wk hS))
                exact ⟨⟨k + 1, by omega, by go_num, hS⟩, by simp [intOf]; omega⟩
            · obtain rfl : k = 2 := by omega
              go_wp2_with (first | (refine sl_load hS rfl 23 _ rfl rfl (by repeat (first | exact Has.hd | apply Has.tl)) Try.underlying23 rfl (by exact infoV) ?_) | (refine sl_store hS rfl 23 _ _ rfl rfl rfl (by repeat (first | exact Rep.hd | apply Rep.tl)) (by exact infoV) (by rfl) (bs_one _) ?_; clear hS; intro wk hS) | (refine sl_box hS rfl _ 23 (box_vec rfl rfl) ?_; clear hS; intro bk wk hS) | (refine sl_box hS rfl _ 23 (alloc_vec rfl) ?_; clear hS; intro bk wk hS) | (refine onlyN_end ?_) | (refine onlyN_now ?_))
              exact ⟨⟨2, by omega, rfl, hS.tail⟩, by simp [intOf]⟩
        · as_aux_lemma =>
          have C1 := fun w => cmp_C 64984 64 2 (by omega) (by decide) (by decide) HA.out HB.out w
          have HNB := Lib.hid (fun (j : Nat) (hj : thereB 64 j = true) w => num_c64 2 83 (by omega) (by omega) HA.out HB.out hj w)
          have HSG := Lib.hid (fun (j : Nat) (hj : thereB 64 j = true) => C_l (v := 64) (by omega) 2 a b hj)
          have HCB := Lib.hid (C_byt 64 2 a b)
          generalize C 64 2 a b = cc at *
          have XC1 := Lib.hid C1
          clear C1
          go_wp2_with (first | (refine sl_load hS rfl 23 _ rfl rfl (by repeat (first | exact Has.hd | apply Has.tl)) Try.underlying23 rfl (by exact infoV) ?_) | (refine sl_store hS rfl 23 _ _ rfl rfl rfl (by repeat (first | exact Rep.hd | apply Rep.tl)) (by exact infoV) (by rfl) (bs_one _) ?_; clear hS; intro wk hS) | (refine sl_box hS rfl _ 23 (box_vec rfl rfl) ?_; clear hS; intro bk wk hS) | (refine sl_box hS rfl _ 23 (alloc_vec rfl) ?_; clear hS; intro pv wk hS) | (refine onlyN_end ?_) | (refine onlyN_now ?_) | ((go_at_call 18); (with_reducible refine sl_call hS (XC1.out _) ?_); clear hS; intro wk hS))
          go_loopw [13] (fun u wr => ∃ k : Nat, k ≤ 2 ∧ u = .int .i64 k ∧ St w (⟨pv, bs cc, 23⟩ :: ⟨bo, #[.int .i64 81, .int .i64 82, .int .i64 83, .int .i64 85, .int .i64 87, .int .i64 89], 46⟩ :: [⟨q, bs b, 23⟩, ⟨p, bs a, 23⟩]) wr) (fun u _ => 2 - (intOf u).toNat)
          case atStart => exact ⟨0, by omega, rfl, hS⟩
          case round =>
            obtain ⟨k, hk, rfl, hS⟩ := hrel
            by_cases hlt : k < 2
            · have hj : thereB 64 k = true := there_iff.2 ⟨by omega, by show (k : Int) < 2; omega⟩
              have E1 := fun w => get_any a HA.out 64 k w
              have E2 := fun w => get_any b HB.out 64 k w
              have E3 := fun w => HNB.out k hj w
              have E4 := fun w => signed_any cc HCB.out 64 k w
              rw [HSG.out k hj] at E4
              generalize lB 64 2 a b k = l at *
              generalize getI a 64 k = x at *
              generalize getI b 64 k = y at *
              cases l
              all_goals
                simp only [tI, if_true, Bool.false_eq_true, if_false] at E3 E4
                have XE1 := Lib.hid E1
                clear E1
                have XE2 := Lib.hid E2
                clear E2
                have XE3 := Lib.hid E3
                clear E3
                have XE4 := Lib.hid E4
                clear E4
                go_upto_region 21 with (first | (refine sl_load hS rfl 23 _ rfl rfl (by repeat (first | exact Has.hd | apply Has.tl)) Try.underlying23 rfl (by exact infoV) ?_) | (refine sl_store hS rfl 23 _ _ rfl rfl rfl (by repeat (first | exact Rep.hd | apply Rep.tl)) (by exact infoV) (by rfl) (bs_one _) ?_; clear hS; intro wk hS) | (refine sl_box hS rfl _ 23 (box_vec rfl rfl) ?_; clear hS; intro bk wk hS) | (refine sl_box hS rfl _ 23 (alloc_vec rfl) ?_; clear hS; intro bk wk hS) | (refine onlyN_end ?_) | (refine onlyN_now ?_))
                refine sd_all hS (by kernel_rfl) (by kernel_rfl) ?_
                iterate 15 (refine sd_step (fun K hK => ?_); (first | (refine sd_load rfl 23 _ rfl rfl (by repeat (first | exact Has.hd | apply Has.tl)) Try.underlying23 rfl (by exact infoV) ?_) | (refine sd_cell rfl _ _ rfl rfl (by repeat (first | exact Has.hd | apply Has.tl)) (by rfl) (by intro w hc; go_simp) ?_) | (apply sd_yes rfl; focus (intro wx hx; go_simp; first | (apply sd_enter; first | fail | with_reducible exact XE1.out wx | with_reducible exact XE2.out wx | with_reducible exact XE3.out wx) | exact ⟨rfl, Gr.refl _⟩)) | (refine sd_no rfl ?_)); go_simp; refine hK _ ?_; clear hK K)
                refine sd_nil ?_
                clear hS
                intro wk hS
                go_wp2_with (first | (refine sl_load hS rfl 23 _ rfl rfl (by repeat (first | exact Has.hd | apply Has.tl)) Try.underlying23 rfl (by exact infoV) ?_) | (refine sl_store hS rfl 23 _ _ rfl rfl rfl (by repeat (first | exact Rep.hd | apply Rep.tl)) (by exact infoV) (by rfl) (bs_one _) ?_; clear hS; intro wk hS) | (refine sl_box hS rfl _ 23 (box_vec rfl rfl) ?_; clear hS; intro bk wk hS) | (refine sl_box hS rfl _ 23 (alloc_vec rfl) ?_; clear hS; intro bk wk hS) | (refine onlyN_end ?_) | (refine onlyN_now ?_) | ((go_at_call 20); (with_reducible refine sl_call hS (XE4.out _) ?_); clear hS; intro wk hS))
                exact ⟨⟨k + 1, by omega, by go_num, hS⟩, by simp [intOf]; omega⟩
            · obtain rfl : k = 2 := by omega
              go_wp2_with (first | (refine sl_load hS rfl 23 _ rfl rfl (by repeat (first | exact Has.hd | apply Has.tl)) Try.underlying23 rfl (by exact infoV) ?_) | (refine sl_store hS rfl 23 _ _ rfl rfl rfl (by repeat (first | exact Rep.hd | apply Rep.tl)) (by exact infoV) (by rfl) (bs_one _) ?_; clear hS; intro wk hS) | (refine sl_box hS rfl _ 23 (box_vec rfl rfl) ?_; clear hS; intro bk wk hS) | (refine sl_box hS rfl _ 23 (alloc_vec rfl) ?_; clear hS; intro bk wk hS) | (refine onlyN_end ?_) | (refine onlyN_now ?_))
              exact ⟨⟨3, by omega, rfl, hS.tail⟩, by simp [intOf]⟩
        · as_aux_lemma =>
          have C1 := fun w => cmp_C 64985 64 4 (by omega) (by decide) (by decide) HA.out HB.out w
          have HNB := Lib.hid (fun (j : Nat) (hj : thereB 64 j = true) w => num_c64 4 85 (by omega) (by omega) HA.out HB.out hj w)
          have HSG := Lib.hid (fun (j : Nat) (hj : thereB 64 j = true) => C_l (v := 64) (by omega) 4 a b hj)
          have HCB := Lib.hid (C_byt 64 4 a b)
          generalize C 64 4 a b = cc at *
          have XC1 := Lib.hid C1
          clear C1
          go_wp2_with (first | (refine sl_load hS rfl 23 _ rfl rfl (by repeat (first | exact Has.hd | apply Has.tl)) Try.underlying23 rfl (by exact infoV) ?_) | (refine sl_store hS rfl 23 _ _ rfl rfl rfl (by repeat (first | exact Rep.hd | apply Rep.tl)) (by exact infoV) (by rfl) (bs_one _) ?_; clear hS; intro wk hS) | (refine sl_box hS rfl _ 23 (box_vec rfl rfl) ?_; clear hS; intro bk wk hS) | (refine sl_box hS rfl _ 23 (alloc_vec rfl) ?_; clear hS; intro pv wk hS) | (refine onlyN_end ?_) | (refine onlyN_now ?_) | ((go_at_call 18); (with_reducible refine sl_call hS (XC1.out _) ?_); clear hS; intro wk hS))
          go_loopw [13] (fun u wr => ∃ k : Nat, k ≤ 2 ∧ u = .int .i64 k ∧ St w (⟨pv, bs cc, 23⟩ :: ⟨bo, #[.int .i64 81, .int .i64 82, .int .i64 83, .int .i64 85, .int .i64 87, .int .i64 89], 46⟩ :: [⟨q, bs b, 23⟩, ⟨p, bs a, 23⟩]) wr) (fun u _ => 2 - (intOf u).toNat)
          case atStart => exact ⟨0, by omega, rfl, hS⟩
          case round =>
            obtain ⟨k, hk, rfl, hS⟩ := hrel
            by_cases hlt : k < 2
            · have hj : thereB 64 k = true := there_iff.2 ⟨by omega, by show (k : Int) < 2; omega⟩
              have E1 := fun w => get_any a HA.out 64 k w
              have E2 := fun w => get_any b HB.out 64 k w
              have E3 := fun w => HNB.out k hj w
              have E4 := fun w => signed_any cc HCB.out 64 k w
              rw [HSG.out k hj] at E4
              generalize lB 64 4 a b k = l at *
              generalize getI a 64 k = x at *
              generalize getI b 64 k = y at *
              cases l
              all_goals
                simp only [tI, if_true, Bool.false_eq_true, if_false] at E3 E4
                have XE1 := Lib.hid E1
                clear E1
                have XE2 := Lib.hid E2
                clear E2
                have XE3 := Lib.hid E3
                clear E3
                have XE4 := Lib.hid E4
                clear E4
                go_upto_region 21 with (first | (refine sl_load hS rfl 23 _ rfl rfl (by repeat (first | exact Has.hd | apply Has.tl)) Try.underlying23 rfl (by exact infoV) ?_) | (refine sl_store hS rfl 23 _ _ rfl rfl rfl (by repeat (first | exact Rep.hd | apply Rep.tl)) (by exact infoV) (by rfl) (bs_one _) ?_; clear hS; intro wk hS) | (refine sl_box hS rfl _ 23 (box_vec rfl rfl) ?_; clear hS; intro bk wk hS) | (refine sl_box hS rfl _ 23 (alloc_vec rfl) ?_; clear hS; intro bk wk hS) | (refine onlyN_end ?_) | (refine onlyN_now ?_))
                refine sd_all hS (by kernel_rfl) (by kernel_rfl) ?_
                iterate 15 (refine sd_step (fun K hK => ?_); (first | (refine sd_load rfl 23 _ rfl rfl (by repeat (first | exact Has.hd | apply Has.tl)) Try.underlying23 rfl (by exact infoV) ?_) | (refine sd_cell rfl _ _ rfl rfl (by repeat (first | exact Has.hd | apply Has.tl)) (by rfl) (by intro w hc; go_simp) ?_) | (apply sd_yes rfl; focus (intro wx hx; go_simp; first | (apply sd_enter; first | fail | with_reducible exact XE1.out wx | with_reducible exact XE2.out wx | with_reducible exact XE3.out wx) | exact ⟨rfl, Gr.refl _⟩)) | (refine sd_no rfl ?_)); go_simp; refine hK _ ?_; clear hK K)
                refine sd_nil ?_
                clear hS
                intro wk hS
                go_wp2_with (first | (refine sl_load hS rfl 23 _ rfl rfl (by repeat (first | exact Has.hd | apply Has.tl)) Try.underlying23 rfl (by exact infoV) ?_) | (refine sl_store hS rfl 23 _ _ rfl rfl rfl (by repeat (first | exact Rep.hd | apply Rep.tl)) (by exact infoV) (by rfl) (bs_one _) ?_; clear hS; intro wk hS) | (refine sl_box hS rfl _ 23 (box_vec rfl rfl) ?_; clear hS; intro bk wk hS) | (refine sl_box hS rfl _ 23 (alloc_vec rfl) ?_; clear hS; intro bk wk hS) | (refine onlyN_end ?_) | (refine onlyN_now ?_) | ((go_at_call 20); (with_reducible refine sl_call hS (XE4.out _) ?_); clear hS; intro wk hS))
                exact ⟨⟨k + 1, by omega, by go_num, hS⟩, by simp [intOf]; omega⟩
            · obtain rfl : k = 2 := by omega
              go_wp2_with (first | (refine sl_load hS rfl 23 _ rfl rfl (by repeat (first | exact Has.hd | apply Has.tl)) Try.underlying23 rfl (by exact infoV) ?_) | (refine sl_store hS rfl 23 _ _ rfl rfl rfl (by repeat (first | exact Rep.hd | apply Rep.tl)) (by exact infoV) (by rfl) (bs_one _) ?_; clear hS; intro wk hS) | (refine sl_box hS rfl _ 23 (box_vec rfl rfl) ?_; clear hS; intro bk wk hS) | (refine sl_box hS rfl _ 23 (alloc_vec rfl) ?_; clear hS; intro bk wk hS) | (refine onlyN_end ?_) | (refine onlyN_now ?_))
              exact ⟨⟨4, by omega, rfl, hS.tail⟩, by simp [intOf]⟩
        · as_aux_lemma =>
          have C1 := fun w => cmp_C 64986 64 6 (by omega) (by decide) (by decide) HA.out HB.out w
          have HNB := Lib.hid (fun (j : Nat) (hj : thereB 64 j = true) w => num_c64 6 87 (by omega) (by omega) HA.out HB.out hj w)
          have HSG := Lib.hid (fun (j : Nat) (hj : thereB 64 j = true) => C_l (v := 64) (by omega) 6 a b hj)
          have HCB := Lib.hid (C_byt 64 6 a b)
          generalize C 64 6 a b = cc at *
          have XC1 := Lib.hid C1
          clear C1
          go_wp2_with (first | (refine sl_load hS rfl 23 _ rfl rfl (by repeat (first | exact Has.hd | apply Has.tl)) Try.underlying23 rfl (by exact infoV) ?_) | (refine sl_store hS rfl 23 _ _ rfl rfl rfl (by repeat (first | exact Rep.hd | apply Rep.tl)) (by exact infoV) (by rfl) (bs_one _) ?_; clear hS; intro wk hS) | (refine sl_box hS rfl _ 23 (box_vec rfl rfl) ?_; clear hS; intro bk wk hS) | (refine sl_box hS rfl _ 23 (alloc_vec rfl) ?_; clear hS; intro pv wk hS) | (refine onlyN_end ?_) | (refine onlyN_now ?_) | ((go_at_call 18); (with_reducible refine sl_call hS (XC1.out _) ?_); clear hS; intro wk hS))
          go_loopw [13] (fun u wr => ∃ k : Nat, k ≤ 2 ∧ u = .int .i64 k ∧ St w (⟨pv, bs cc, 23⟩ :: ⟨bo, #[.int .i64 81, .int .i64 82, .int .i64 83, .int .i64 85, .int .i64 87, .int .i64 89], 46⟩ :: [⟨q, bs b, 23⟩, ⟨p, bs a, 23⟩]) wr) (fun u _ => 2 - (intOf u).toNat)
          case atStart => exact ⟨0, by omega, rfl, hS⟩
          case round =>
            obtain ⟨k, hk, rfl, hS⟩ := hrel
            by_cases hlt : k < 2
            · have hj : thereB 64 k = true := there_iff.2 ⟨by omega, by show (k : Int) < 2; omega⟩
              have E1 := fun w => get_any a HA.out 64 k w
              have E2 := fun w => get_any b HB.out 64 k w
              have E3 := fun w => HNB.out k hj w
              have E4 := fun w => signed_any cc HCB.out 64 k w
              rw [HSG.out k hj] at E4
              generalize lB 64 6 a b k = l at *
              generalize getI a 64 k = x at *
              generalize getI b 64 k = y at *
              cases l
              all_goals
                simp only [tI, if_true, Bool.false_eq_true, if_false] at E3 E4
                have XE1 := Lib.hid E1
                clear E1
                have XE2 := Lib.hid E2
                clear E2
                have XE3 := Lib.hid E3
                clear E3
                have XE4 := Lib.hid E4
                clear E4
                go_upto_region 21 with (first | (refine sl_load hS rfl 23 _ rfl rfl (by repeat (first | exact Has.hd | apply Has.tl)) Try.underlying23 rfl (by exact infoV) ?_) | (refine sl_store hS rfl 23 _ _ rfl rfl rfl (by repeat (first | exact Rep.hd | apply Rep.tl)) (by exact infoV) (by rfl) (bs_one _) ?_; clear hS; intro wk hS) | (refine sl_box hS rfl _ 23 (box_vec rfl rfl) ?_; clear hS; intro bk wk hS) | (refine sl_box hS rfl _ 23 (alloc_vec rfl) ?_; clear hS; intro bk wk hS) | (refine onlyN_end ?_) | (refine onlyN_now ?_))
                refine sd_all hS (by kernel_rfl) (by kernel_rfl) ?_
                iterate 15 (refine sd_step (fun K hK => ?_); (first | (refine sd_load rfl 23 _ rfl rfl (by repeat (first | exact Has.hd | apply Has.tl)) Try.underlying23 rfl (by exact infoV) ?_) | (refine sd_cell rfl _ _ rfl rfl (by repeat (first | exact Has.hd | apply Has.tl)) (by rfl) (by intro w hc; go_simp) ?_) | (apply sd_yes rfl; focus (intro wx hx; go_simp; first | (apply sd_enter; first | fail | with_reducible exact XE1.out wx | with_reducible exact XE2.out wx | with_reducible exact XE3.out wx) | exact ⟨rfl, Gr.refl _⟩)) | (refine sd_no rfl ?_)); go_simp; refine hK _ ?_; clear hK K)
                refine sd_nil ?_
                clear hS
                intro wk hS
                go_wp2_with (first | (refine sl_load hS rfl 23 _ rfl rfl (by repeat (first | exact Has.hd | apply Has.tl)) Try.underlying23 rfl (by exact infoV) ?_) | (refine sl_store hS rfl 23 _ _ rfl rfl rfl (by repeat (first | exact Rep.hd | apply Rep.tl)) (by exact infoV) (by rfl) (bs_one _) ?_; clear hS; intro wk hS) | (refine sl_box hS rfl _ 23 (box_vec rfl rfl) ?_; clear hS; intro bk wk hS) | (refine sl_box hS rfl _ 23 (alloc_vec rfl) ?_; clear hS; intro bk wk hS) | (refine onlyN_end ?_) | (refine onlyN_now ?_) | ((go_at_call 20); (with_reducible refine sl_call hS (XE4.out _) ?_); clear hS; intro wk hS))
                exact ⟨⟨k + 1, by omega, by go_num, hS⟩, by simp [intOf]; omega⟩
            · obtain rfl : k = 2 := by omega
              go_wp2_with (first | (refine sl_load hS rfl 23 _ rfl rfl (by repeat (first | exact Has.hd | apply Has.tl)) Try.underlying23 rfl (by exact infoV) ?_) | (refine sl_store hS rfl 23 _ _ rfl rfl rfl (by repeat (first | exact Rep.hd | apply Rep.tl)) (by exact infoV) (by rfl) (bs_one _) ?_; clear hS; intro wk hS) | (refine sl_box hS rfl _ 23 (box_vec rfl rfl) ?_; clear hS; intro bk wk hS) | (refine sl_box hS rfl _ 23 (alloc_vec rfl) ?_; clear hS; intro bk wk hS) | (refine onlyN_end ?_) | (refine onlyN_now ?_))
              exact ⟨⟨5, by omega, rfl, hS.tail⟩, by simp [intOf]⟩
        · as_aux_lemma =>
          have C1 := fun w => cmp_C 64987 64 8 (by omega) (by decide) (by decide) HA.out HB.out w
          have HNB := Lib.hid (fun (j : Nat) (hj : thereB 64 j = true) w => num_c64 8 89 (by omega) (by omega) HA.out HB.out hj w)
          have HSG := Lib.hid (fun (j : Nat) (hj : thereB 64 j = true) => C_l (v := 64) (by omega) 8 a b hj)
          have HCB := Lib.hid (C_byt 64 8 a b)
          generalize C 64 8 a b = cc at *
          have XC1 := Lib.hid C1
          clear C1
          go_wp2_with (first | (refine sl_load hS rfl 23 _ rfl rfl (by repeat (first | exact Has.hd | apply Has.tl)) Try.underlying23 rfl (by exact infoV) ?_) | (refine sl_store hS rfl 23 _ _ rfl rfl rfl (by repeat (first | exact Rep.hd | apply Rep.tl)) (by exact infoV) (by rfl) (bs_one _) ?_; clear hS; intro wk hS) | (refine sl_box hS rfl _ 23 (box_vec rfl rfl) ?_; clear hS; intro bk wk hS) | (refine sl_box hS rfl _ 23 (alloc_vec rfl) ?_; clear hS; intro pv wk hS) | (refine onlyN_end ?_) | (refine onlyN_now ?_) | ((go_at_call 18); (with_reducible refine sl_call hS (XC1.out _) ?_); clear hS; intro wk hS))
          go_loopw [13] (fun u wr => ∃ k : Nat, k ≤ 2 ∧ u = .int .i64 k ∧ St w (⟨pv, bs cc, 23⟩ :: ⟨bo, #[.int .i64 81, .int .i64 82, .int .i64 83, .int .i64 85, .int .i64 87, .int .i64 89], 46⟩ :: [⟨q, bs b, 23⟩, ⟨p, bs a, 23⟩]) wr) (fun u _ => 2 - (intOf u).toNat)
          case atStart => exact ⟨0, by omega, rfl, hS⟩
          case round =>
            obtain ⟨k, hk, rfl, hS⟩ := hrel
            by_cases hlt : k < 2
            · have hj : thereB 64 k = true := there_iff.2 ⟨by omega, by show (k : Int) < 2; omega⟩
              have E1 := fun w => get_any a HA.out 64 k w
              have E2 := fun w => get_any b HB.out 64 k w
              have E3 := fun w => HNB.out k hj w
              have E4 := fun w => signed_any cc HCB.out 64 k w
              rw [HSG.out k hj] at E4
              generalize lB 64 8 a b k = l at *
              generalize getI a 64 k = x at *
              generalize getI b 64 k = y at *
              cases l
              all_goals
                simp only [tI, if_true, Bool.false_eq_true, if_false] at E3 E4
                have XE1 := Lib.hid E1
                clear E1
                have XE2 := Lib.hid E2
                clear E2
                have XE3 := Lib.hid E3
                clear E3
                have XE4 := Lib.hid E4
                clear E4
                go_upto_region 21 with (first | (refine sl_load hS rfl 23 _ rfl rfl (by repeat (first | exact Has.hd | apply Has.tl)) Try.underlying23 rfl (by exact infoV) ?_) | (refine sl_store hS rfl 23 _ _ rfl rfl rfl (by repeat (first | exact Rep.hd | apply Rep.tl)) (by exact infoV) (by rfl) (bs_one _) ?_; clear hS; intro wk hS) | (refine sl_box hS rfl _ 23 (box_vec rfl rfl) ?_; clear hS; intro bk wk hS) | (refine sl_box hS rfl _ 23 (alloc_vec rfl) ?_; clear hS; intro bk wk hS) | (refine onlyN_end ?_) | (refine onlyN_now ?_))
                refine sd_all hS (by kernel_rfl) (by kernel_rfl) ?_
                iterate 15 (refine sd_step (fun K hK => ?_); (first | (refine sd_load rfl 23 _ rfl rfl (by repeat (first | exact Has.hd | apply Has.tl)) Try.underlying23 rfl (by exact infoV) ?_) | (refine sd_cell rfl _ _ rfl rfl (by repeat (first | exact Has.hd | apply Has.tl)) (by rfl) (by intro w hc; go_simp) ?_) | (apply sd_yes rfl; focus (intro wx hx; go_simp; first | (apply sd_enter; first | fail | with_reducible exact XE1.out wx | with_reducible exact XE2.out wx | with_reducible exact XE3.out wx) | exact ⟨rfl, Gr.refl _⟩)) | (refine sd_no rfl ?_)); go_simp; refine hK _ ?_; clear hK K)
                refine sd_nil ?_
                clear hS
                intro wk hS
                go_wp2_with (first | (refine sl_load hS rfl 23 _ rfl rfl (by repeat (first | exact Has.hd | apply Has.tl)) Try.underlying23 rfl (by exact infoV) ?_) | (refine sl_store hS rfl 23 _ _ rfl rfl rfl (by repeat (first | exact Rep.hd | apply Rep.tl)) (by exact infoV) (by rfl) (bs_one _) ?_; clear hS; intro wk hS) | (refine sl_box hS rfl _ 23 (box_vec rfl rfl) ?_; clear hS; intro bk wk hS) | (refine sl_box hS rfl _ 23 (alloc_vec rfl) ?_; clear hS; intro bk wk hS) | (refine onlyN_end ?_) | (refine onlyN_now ?_) | ((go_at_call 20); (with_reducible refine sl_call hS (XE4.out _) ?_); clear hS; intro wk hS))
                exact ⟨⟨k + 1, by omega, by go_num, hS⟩, by simp [intOf]; omega⟩
            · obtain rfl : k = 2 := by omega
              go_wp2_with (first | (refine sl_load hS rfl 23 _ rfl rfl (by repeat (first | exact Has.hd | apply Has.tl)) Try.underlying23 rfl (by exact infoV) ?_) | (refine sl_store hS rfl 23 _ _ rfl rfl rfl (by repeat (first | exact Rep.hd | apply Rep.tl)) (by exact infoV) (by rfl) (bs_one _) ?_; clear hS; intro wk hS) | (refine sl_box hS rfl _ 23 (box_vec rfl rfl) ?_; clear hS; intro bk wk hS) | (refine sl_box hS rfl _ 23 (alloc_vec rfl) ?_; clear hS; intro bk wk hS) | (refine onlyN_end ?_) | (refine onlyN_now ?_))
              exact ⟨⟨6, by omega, rfl, hS.tail⟩, by simp [intOf]⟩
        · go_wp2
          go_ret
          exact ⟨rfl, hS.gr⟩
end Cp
end Go.Proofs.Ytdclbagfnabmkaa
