/-
  The contracts of the document's answers for vectors (plaitref02): Sign, Signed, Of, All, Split, Join.
-/
import Derived.Test.YthdklnkaeddogabRef
namespace Go.Proofs.Ythdklnkaeddogab
open Go.RowKit VecM
set_option maxHeartbeats 400000 in
theorem rsign_8 (x : Int) (h0 : 0 ≤ x) (h1 : x < 256 ^ wid 8) (w : World) :
    Calls Try.prog 34 #[.int .u64 x, .int .i64 8] w fun e w' => e = .returned (.int .i64 (sg 8 x)) ∧ Gr w w' := by
  rw [wid8] at h1
  have h2 : x ≤ 255 := by omega
  have hm : x % 256 = x := by omega
  by_cases hc : (128 : Int) ≤ x
  · have e : sg 8 x = x - 256 := by unfold sg; rw [show ((2 : Int) ^ (((8 : Int)).toNat - 1)) = 128 by decide, show ((2 : Int) ^ ((8 : Int)).toNat) = 256 by decide, if_pos hc]
    rw [e]
    clear h1 e
    go_enter Try.func34, Try.ntmps34
    go_wp2
    go_ret
    exact ⟨rfl, Gr.refl _⟩
  · have e : sg 8 x = x := by unfold sg; rw [show ((2 : Int) ^ (((8 : Int)).toNat - 1)) = 128 by decide, show ((2 : Int) ^ ((8 : Int)).toNat) = 256 by decide, if_neg hc]
    rw [e]
    have hc' : x < 128 := by omega
    clear h1 e hc
    go_enter Try.func34, Try.ntmps34
    go_wp2
    go_ret
    exact ⟨rfl, Gr.refl _⟩
set_option maxHeartbeats 400000 in
theorem rsign_16 (x : Int) (h0 : 0 ≤ x) (h1 : x < 256 ^ wid 16) (w : World) :
    Calls Try.prog 34 #[.int .u64 x, .int .i64 16] w fun e w' => e = .returned (.int .i64 (sg 16 x)) ∧ Gr w w' := by
  rw [wid16] at h1
  have h2 : x ≤ 65535 := by omega
  have hm : x % 65536 = x := by omega
  by_cases hc : (32768 : Int) ≤ x
  · have e : sg 16 x = x - 65536 := by unfold sg; rw [show ((2 : Int) ^ (((16 : Int)).toNat - 1)) = 32768 by decide, show ((2 : Int) ^ ((16 : Int)).toNat) = 65536 by decide, if_pos hc]
    rw [e]
    clear h1 e
    go_enter Try.func34, Try.ntmps34
    go_wp2
    go_ret
    exact ⟨rfl, Gr.refl _⟩
  · have e : sg 16 x = x := by unfold sg; rw [show ((2 : Int) ^ (((16 : Int)).toNat - 1)) = 32768 by decide, show ((2 : Int) ^ ((16 : Int)).toNat) = 65536 by decide, if_neg hc]
    rw [e]
    have hc' : x < 32768 := by omega
    clear h1 e hc
    go_enter Try.func34, Try.ntmps34
    go_wp2
    go_ret
    exact ⟨rfl, Gr.refl _⟩
set_option maxHeartbeats 400000 in
theorem rsign_32 (x : Int) (h0 : 0 ≤ x) (h1 : x < 256 ^ wid 32) (w : World) :
    Calls Try.prog 34 #[.int .u64 x, .int .i64 32] w fun e w' => e = .returned (.int .i64 (sg 32 x)) ∧ Gr w w' := by
  rw [wid32] at h1
  have h2 : x ≤ 4294967295 := by omega
  have hm : x % 4294967296 = x := by omega
  by_cases hc : (2147483648 : Int) ≤ x
  · have e : sg 32 x = x - 4294967296 := by unfold sg; rw [show ((2 : Int) ^ (((32 : Int)).toNat - 1)) = 2147483648 by decide, show ((2 : Int) ^ ((32 : Int)).toNat) = 4294967296 by decide, if_pos hc]
    rw [e]
    clear h1 e
    go_enter Try.func34, Try.ntmps34
    go_wp2
    go_ret
    exact ⟨rfl, Gr.refl _⟩
  · have e : sg 32 x = x := by unfold sg; rw [show ((2 : Int) ^ (((32 : Int)).toNat - 1)) = 2147483648 by decide, show ((2 : Int) ^ ((32 : Int)).toNat) = 4294967296 by decide, if_neg hc]
    rw [e]
    have hc' : x < 2147483648 := by omega
    clear h1 e hc
    go_enter Try.func34, Try.ntmps34
    go_wp2
    go_ret
    exact ⟨rfl, Gr.refl _⟩
set_option maxHeartbeats 400000 in
theorem rsign_64 (x : Int) (h0 : 0 ≤ x) (h1 : x < 256 ^ wid 64) (w : World) :
    Calls Try.prog 34 #[.int .u64 x, .int .i64 64] w fun e w' => e = .returned (.int .i64 (sg 64 x)) ∧ Gr w w' := by
  rw [wid64] at h1
  have e : sg 64 x = wrap64 x := by
    unfold sg wrap64
    rw [show ((2 : Int) ^ (((64 : Int)).toNat - 1)) = 9223372036854775808 by decide, show ((2 : Int) ^ ((64 : Int)).toNat) = 18446744073709551616 by decide]
    split <;> omega
  rw [e]
  clear e h1
  go_enter Try.func34, Try.ntmps34
  go_wp2
  go_ret
  exact ⟨rfl, Gr.refl _⟩
theorem sg_zero (v : Int) : sg v 0 = 0 := by
  unfold sg
  have h : (0 : Int) < 2 ^ (v.toNat - 1) := Int.pow_pos (by decide)
  rw [if_neg (by omega)]
theorem rsigned_any (b : Nat → Int) (hb : Byt b) (v i : Int) (w : World) :
    Calls Try.prog 16 #[.agg (bs b), .int .i64 v, .int .i64 i] w fun e w' => e = .returned (.int .i64 (sgnI b v i)) ∧ Gr w w' := by
  have esg : sgnI b v i = sg v (getI b v i) := by
    unfold sgnI
    by_cases h : thereB v i = true
    · rw [if_pos h]
    · rw [if_neg h, show getI b v i = 0 by unfold getI; rw [if_neg h], sg_zero]
  have hl := rlanes_any v
  have hbd := getI_bd hb v i
  by_cases h : lanesI v = 0
  · have e : sgnI b v i = 0 := by
      unfold sgnI
      rw [if_neg (fun hh => by have := (there_iff.1 hh); omega)]
    rw [e]
    rw [h] at hl
    have HL := Lib.hid hl
    clear hl hbd esg e h hb
    go_enter Try.func16, Try.ntmps16
    go_wp2_with (go_at_call 12; refine (HL.out _).mono ?_; rintro e w' ⟨rfl, rfl⟩)
    go_ret
    exact ⟨rfl, (Gr.refl _).alloc _ _⟩
  · have C : ∀ w, Calls Try.prog 34 #[.int .u64 (getI b v i), .int .i64 v] w fun e w' => e = .returned (.int .i64 (sgnI b v i)) ∧ Gr w w' := by
      intro w
      rw [esg]
      have hv : v = 8 ∨ v = 16 ∨ v = 32 ∨ v = 64 := by
        unfold lanesI at h
        by_cases h8 : v = 8
        · omega
        by_cases h16 : v = 16
        · omega
        by_cases h32 : v = 32
        · omega
        by_cases h64 : v = 64
        · omega
        rw [if_neg h8, if_neg h16, if_neg h32, if_neg h64] at h
        omega
      rcases hv with rfl | rfl | rfl | rfl
      · exact rsign_8 _ hbd.1 hbd.2 w
      · exact rsign_16 _ hbd.1 hbd.2 w
      · exact rsign_32 _ hbd.1 hbd.2 w
      · exact rsign_64 _ hbd.1 hbd.2 w
    have G := rget_any b hb v i
    have hn : (lanesI v == 0) = false := beq_eq_false_iff_ne.2 h
    generalize lanesI v = L at *
    generalize sgnI b v i = S at *
    generalize getI b v i = g at *
    have HL := Lib.hid hl
    have HC := Lib.hid C
    have HG := Lib.hid G
    clear hl C G esg hbd hb h
    go_enter Try.func16, Try.ntmps16
    go_upto_region 3 with (go_at_call 12; refine (HL.out _).mono ?_; rintro e w' ⟨rfl, rfl⟩)
    refine wp_region_lit ?_
    refine wpList_load_row rfl 25 _ rfl w.heap.size rfl 25 (bs b) (0, 0) _ (heap_alloc_new w _) Try.underlying25 rfl infoV ?_
    go_wp2_with (first | (go_at_call 14; refine (HG.out _).mono ?_; rintro e w1 ⟨rfl, hg⟩) | (go_at_call 34; refine (HC.out _).mono ?_; rintro e w2 ⟨rfl, hg2⟩))
    go_ret
    exact ⟨rfl, gr_trans (gr_trans ((Gr.refl _).alloc _ _) hg) hg2⟩
/-! ### Of, Split, Join, All -/
theorem ofK_stop (b : Nat → Int) (v : Int) (f : Nat → Int) (L : Nat) (hL : lanesI v = (L : Int)) : ∀ k, L ≤ k → ofK b v f k = ofK b v f L
  | 0, h => by rw [show L = 0 by omega]
  | k + 1, h => by
    by_cases hk : L = k + 1
    · rw [hk]
    · rw [ofK, ofK_stop b v f L hL k (by omega)]
      unfold setI
      rw [if_neg (fun hh => by have := (there_iff.1 hh); omega)]
theorem ofK_min (b : Nat → Int) (v : Int) (f : Nat → Int) (len : Nat) : ofK b v f (min 16 len) = ofK b v f (ofN v len) := by
  have hb := lanes_bd v
  obtain ⟨L, hL⟩ : ∃ L : Nat, lanesI v = L := ⟨(lanesI v).toNat, by omega⟩
  unfold ofN
  rw [hL, Int.toNat_natCast]
  by_cases h : L ≤ len
  · rw [Nat.min_eq_left h]; exact ofK_stop b v f L hL _ (by omega)
  · rw [Nat.min_eq_right (show len ≤ 16 by omega), Nat.min_eq_right (show len ≤ L by omega)]
set_option maxHeartbeats 1000000 in
theorem rof_some (v : Int) (b off cap len m : Nat) (h16 : m ≤ 16) (hml : m ≤ len) (hor : m = 16 ∨ m = len) (zs : Nat → Int) (hz : ∀ j, 0 ≤ zs j ∧ zs j < 18446744073709551616) (w : World) (hl : len ≤ 9223372036854775807) (hc : ∀ j, j < len → w.cell? ⟨b, off + j, none⟩ = some (.int .u64 (zs j))) :
    Calls Try.prog 27 #[.int .i64 v, .slice (some ⟨b, off, none⟩) len cap] w fun e w' => e = .returned (.agg (bs (ofK (fun _ => 0) v zs (m)))) ∧ Gr w w' := by
  have HC := Lib.hid hc
  have HZ := Lib.hid hz
  have HO := Lib.hid hor
  clear hc hz hor
  go_enter Try.func27, Try.ntmps27
  go_upto_region 1 with (fail)
  refine wp_region_lit ?_
  refine wpList_build_at rfl 25 _ rfl (bs fun _ => 0) (by kernel_rfl) ?_
  refine wpList_plain rfl fun K hK => ?_
  go_simp; refine hK _ _ ?_; clear hK K
  refine wpList_store_row rfl 25 _ _ rfl (w.heap.size + 1) (bs fun _ => 0) rfl rfl 25 (bs fun _ => 0) (heap_alloc2_new w _ _) infoV rfl (bs_one _) ?_
  rw [setRow2]
  go_wp2
  go_loopw [6] (fun i wr => ∃ k : Nat, k ≤ m ∧ i = .int .i64 k ∧ Gr w wr ∧ wr.heap[w.heap.size + 1]? = some (.cells (bs (ofK (fun _ => 0) v zs k)) 25 (0, 0)) ∧ wr.heap[w.heap.size]? = some (.cells (bs fun _ => 0) 25 (0, 0))) (fun i _ => m - (intOf i).toNat)
  case atStart => exact ⟨0, by omega, rfl, ((Gr.refl _).alloc _ _).alloc _ _, heap_alloc2_new w _ _, heap_alloc2_old w _ _⟩
  case round =>
    obtain ⟨k, hk, rfl, hg, hv, hr⟩ := hrel
    have HG := Lib.hid hg
    have HV := Lib.hid hv
    have HR := Lib.hid hr
    clear hg hv hr
    by_cases hlt : k < m
    · have hkl : k < len := by omega
      have hk16 : (k : Int) < 16 := by omega
      have hmin := Lib.hid hlt
      clear hlt
      go_upto_region 5 with (fail)
      refine wp_region_steady_tail 8 (by kernel_rfl) (by kernel_rfl) ?_
      simp only [List.take_succ_cons, List.take_zero, List.drop_succ_cons, List.drop_zero]
      refine steady_step (fun K hK => ?_)
      refine steady_load_row rfl 25 _ rfl (w.heap.size + 1) rfl 25 (bs (ofK (fun _ => 0) v zs k)) (0, 0) _ HV.out Try.underlying25 rfl infoV ?_
      go_simp; refine hK _ ?_; clear hK K
      iterate 5 (refine steady_step (fun K hK => ?_); apply steady_op rfl; (focus (intro wx hw; go_simp; exact ⟨rfl, hw⟩)); go_simp; refine hK _ ?_; clear hK K)
      have hcell := gr_cell (gr_trans HG.out (Gr.drew (Gr.refl _))) (HC.out k (by omega))
      refine steady_step (fun K hK => ?_)
      apply steady_op rfl
      · intro wx hw; have hcx := gr_cell hw hcell; go_simp; exact ⟨rfl, hw⟩
      go_simp; refine hK _ ?_; clear hK K
      refine steady_step (fun K hK => ?_)
      apply steady_op rfl
      · intro wx hw; go_simp; exact (rset_any _ v k (zs k) (HZ.out k).1 (HZ.out k).2 wx).mono fun e w3 h => ⟨h.1, gr_trans hw h.2⟩
      go_simp; refine hK _ ?_; clear hK K
      refine steady_nil ?_
      intro w1 hg1
      have hs1 := Lib.hid (gr_block hg1 HV.out)
      have hs0 := Lib.hid (gr_block hg1 HR.out)
      refine wpList_store_row rfl 25 _ _ rfl (w.heap.size + 1) (bs (setI (ofK (fun _ => 0) v zs k) v k (zs k))) rfl rfl 25 (bs (ofK (fun _ => 0) v zs k)) hs1.out infoV rfl (bs_one _) ?_
      have hs2 := Lib.hid (setRow_block (c := bs (setI (ofK (fun _ => 0) v zs k) v k (zs k))) hs1.out)
      have hs3 := Lib.hid ((setRow_block_other (w := w1) (c := bs (setI (ofK (fun _ => 0) v zs k) v k (zs k))) (show w.heap.size ≠ w.heap.size + 1 by omega)).trans hs0.out)
      have hgg := Lib.hid (gr_setRow (gr_trans (Gr.drew HG.out) hg1) (g := w.heap.size + 1) (by omega) (bs (setI (ofK (fun _ => 0) v zs k) v k (zs k))))
      clear hs0 hs1 hg1 hcell
      go_wp2
      exact ⟨⟨k + 1, hmin.out, by go_num, hgg.out, hs2.out, hs3.out⟩, by have := hmin.out; simp [intOf]; omega⟩
    · obtain rfl : m = k := by omega
      have hor := HO.out
      by_cases hlen : m < len
      · obtain rfl : m = 16 := by omega
        clear hor hlt
        go_upto_region 6 with (fail)
        refine wp_region_lit ?_
        refine wpList_load_row rfl 25 _ rfl (w.heap.size + 1) rfl 25 (bs (ofK (fun _ => 0) v zs 16)) (0, 0) _ HV.out Try.underlying25 rfl infoV ?_
        refine wpList_store_row rfl 25 _ _ rfl w.heap.size (bs (ofK (fun _ => 0) v zs 16)) rfl rfl 25 (bs fun _ => 0) HR.out infoV rfl (bs_one _) ?_
        have hs2 := Lib.hid (setRow_block (c := bs (ofK (fun _ => 0) v zs 16)) HR.out)
        have hgg := Lib.hid (gr_setRow HG.out (g := w.heap.size) (by omega) (bs (ofK (fun _ => 0) v zs 16)))
        go_wp2
        exact bodyPost_ret (v := .agg (bs (ofK (fun _ => 0) v zs 16))) (results_cell_row Try.results27 _ _ w.heap.size 25 _ (0, 0) _ rfl hs2.out Try.underlying25 rfl infoV) rfl ⟨rfl, hgg.out⟩
      · obtain rfl : len = m := by omega
        clear hor hlt hlen
        go_upto_region 6 with (fail)
        refine wp_region_lit ?_
        refine wpList_load_row rfl 25 _ rfl (w.heap.size + 1) rfl 25 (bs (ofK (fun _ => 0) v zs len)) (0, 0) _ HV.out Try.underlying25 rfl infoV ?_
        refine wpList_store_row rfl 25 _ _ rfl w.heap.size (bs (ofK (fun _ => 0) v zs len)) rfl rfl 25 (bs fun _ => 0) HR.out infoV rfl (bs_one _) ?_
        have hs2 := Lib.hid (setRow_block (c := bs (ofK (fun _ => 0) v zs len)) HR.out)
        have hgg := Lib.hid (gr_setRow HG.out (g := w.heap.size) (by omega) (bs (ofK (fun _ => 0) v zs len)))
        go_wp2
        exact bodyPost_ret (v := .agg (bs (ofK (fun _ => 0) v zs len))) (results_cell_row Try.results27 _ _ w.heap.size 25 _ (0, 0) _ rfl hs2.out Try.underlying25 rfl infoV) rfl ⟨rfl, hgg.out⟩
theorem rof_nil (v : Int) (x : Option Addr) (c : Nat) (w : World) :
    Calls Try.prog 27 #[.int .i64 v, .slice x 0 c] w fun e w' => e = .returned (.agg (bs fun _ => 0)) ∧ Gr w w' := by
  go_enter Try.func27, Try.ntmps27
  go_upto_region 1 with (fail)
  refine wp_region_lit ?_
  refine wpList_build_at rfl 25 _ rfl (bs fun _ => 0) (by kernel_rfl) ?_
  refine wpList_plain rfl fun K hK => ?_
  go_simp; refine hK _ _ ?_; clear hK K
  refine wpList_store_row rfl 25 _ _ rfl (w.heap.size + 1) (bs fun _ => 0) rfl rfl 25 (bs fun _ => 0) (heap_alloc2_new w _ _) infoV rfl (bs_one _) ?_
  rw [setRow2]
  go_wp2
  refine wp_loop_rounds 1 ?_
  rw [rounds_succ]
  go_upto_region 6 with (fail)
  refine wp_region_lit ?_
  refine wpList_load_row rfl 25 _ rfl (w.heap.size + 1) rfl 25 (bs fun _ => 0) (0, 0) _ (heap_alloc2_new w _ _) Try.underlying25 rfl infoV ?_
  refine wpList_store_row rfl 25 _ _ rfl w.heap.size (bs fun _ => 0) rfl rfl 25 (bs fun _ => 0) (heap_alloc2_old w _ _) infoV rfl (bs_one _) ?_
  have hs2 := Lib.hid (setRow_block (c := bs fun _ => 0) (heap_alloc2_old w (.cells (bs fun _ => 0) 25) (.cells (bs fun _ => 0) 25)))
  have hgg := Lib.hid (gr_setRow (((Gr.refl w).alloc (bs fun _ => 0) 25).alloc (bs fun _ => 0) 25) (g := w.heap.size) (by omega) (bs fun _ => 0))
  go_wp2
  exact bodyPost_ret (v := .agg (bs fun _ => 0)) (results_cell_row Try.results27 _ _ w.heap.size 25 _ (0, 0) _ rfl hs2.out Try.underlying25 rfl infoV) rfl ⟨rfl, hgg.out⟩
theorem rof_any (v : Int) (sv : Value) (len : Nat) (zs : Nat → Int) (hz : ∀ j, 0 ≤ zs j ∧ zs j < 18446744073709551616) (w : World) (h : U64s w sv len zs) :
    Calls Try.prog 27 #[.int .i64 v, sv] w fun e w' => e = .returned (.agg (bs (ofK (fun _ => 0) v zs (ofN v len)))) ∧ Gr w w' := by
  rw [← ofK_min]
  rcases h with ⟨rfl, x, c, rfl⟩ | ⟨hl, b, off, cap, rfl, hc⟩
  · rw [Nat.min_zero]; exact rof_nil v x c w
  · exact rof_some v b off cap len (min 16 len) (by omega) (by omega) (by omega) zs hz w hl hc
set_option maxHeartbeats 1000000 in
theorem rsplit_any (b : Nat → Int) (hb : Byt b) (w : World) :
    Calls Try.prog 23 #[.agg (bs b)] w fun e w' => e = .returned (.agg #[.int .u64 (getI b 64 0), .int .u64 (getI b 64 1)]) ∧ Gr w w' := by
  have HB := Lib.hid hb
  clear hb
  go_enter Try.func23, Try.ntmps23
  go_upto_region 1 with (fail)
  refine wp_region_steady_tail 5 (by kernel_rfl) (by kernel_rfl) ?_
  simp only [List.take_succ_cons, List.take_zero, List.drop_succ_cons, List.drop_zero]
  refine steady_step (fun K hK => ?_)
  refine steady_load_row rfl 25 _ rfl w.heap.size rfl 25 (bs b) (0, 0) _ (heap_alloc2_old w _ _) Try.underlying25 rfl infoV ?_
  go_simp; refine hK _ ?_; clear hK K
  refine steady_step (fun K hK => ?_)
  apply steady_op rfl
  · intro wx hw; go_simp; exact (rget_any b HB.out 64 0 wx).mono fun e w3 h => ⟨h.1, gr_trans hw h.2⟩
  go_simp; refine hK _ ?_; clear hK K
  refine steady_step (fun K hK => ?_)
  refine steady_load_row rfl 25 _ rfl w.heap.size rfl 25 (bs b) (0, 0) _ (heap_alloc2_old w _ _) Try.underlying25 rfl infoV ?_
  go_simp; refine hK _ ?_; clear hK K
  refine steady_step (fun K hK => ?_)
  apply steady_op rfl
  · intro wx hw; go_simp; exact (rget_any b HB.out 64 1 wx).mono fun e w3 h => ⟨h.1, gr_trans hw h.2⟩
  go_simp; refine hK _ ?_; clear hK K
  refine steady_step (fun K hK => ?_)
  refine steady_build rfl 37 _ rfl #[.int .u64 (getI b 64 0), .int .u64 (getI b 64 1)] (by kernel_rfl) ?_
  go_simp; refine hK _ ?_; clear hK K
  refine steady_nil ?_
  intro w1 hg
  have hg2 := gr_trans (Gr.drew ((((Gr.refl w).alloc _ _).alloc _ _))) hg
  refine wpList_store_row rfl 37 _ _ rfl (w.heap.size + 1) #[.int .u64 (getI b 64 0), .int .u64 (getI b 64 1)] rfl rfl 37 #[.int .u64 0, .int .u64 0] (gr_block hg (heap_alloc2_new w _ _)) infoH rfl (by kernel_rfl) ?_
  have hs := setRow_block (c := #[.int .u64 (getI b 64 0), .int .u64 (getI b 64 1)]) (gr_block hg (heap_alloc2_new w _ _))
  have HS := Lib.hid hs
  have HG := Lib.hid (gr_setRow hg2 (g := w.heap.size + 1) (by omega) #[.int .u64 (getI b 64 0), .int .u64 (getI b 64 1)])
  clear hs hg2 hg
  go_wp2
  exact bodyPost_ret (v := .agg #[.int .u64 (getI b 64 0), .int .u64 (getI b 64 1)]) (results_cell_row Try.results23 _ _ (w.heap.size + 1) 37 _ (0, 0) _ rfl HS.out Try.underlying37 rfl infoH) rfl ⟨rfl, HG.out⟩
set_option maxHeartbeats 1000000 in
theorem rjoin_any (lo hi : Int) (hlo : 0 ≤ lo ∧ lo < 18446744073709551616) (hhi : 0 ≤ hi ∧ hi < 18446744073709551616) (w : World) :
    Calls Try.prog 25 #[.agg #[.int .u64 lo, .int .u64 hi]] w fun e w' => e = .returned (.agg (bs (ofK (fun _ => 0) 64 (fun j => if j = 0 then lo else hi) 2))) ∧ Gr w w' := by
  have HL := Lib.hid hlo
  have HH := Lib.hid hhi
  have e2 : ofK (fun _ => 0) 64 (fun j => if j = 0 then lo else hi) 2 = setI (setI (fun _ => 0) 64 0 lo) 64 1 hi := rfl
  rw [e2]
  clear hlo hhi e2
  go_enter Try.func25, Try.ntmps25
  go_upto_region 1 with (fail)
  refine wp_region_steady_tail 7 (by kernel_rfl) (by kernel_rfl) ?_
  simp only [List.take_succ_cons, List.take_zero, List.drop_succ_cons, List.drop_zero]
  refine steady_step (fun K hK => ?_)
  refine steady_build rfl 25 _ rfl (bs fun _ => 0) (by kernel_rfl) ?_
  go_simp; refine hK _ ?_; clear hK K
  (refine steady_step (fun K hK => ?_); apply steady_op rfl; (focus (intro wx hw; go_simp; exact ⟨rfl, hw⟩)); go_simp; refine hK _ ?_; clear hK K)
  have hc0 : (((w.alloc (.cells #[.int .u64 lo, .int .u64 hi] 37)).alloc (.cells (bs fun _ => 0) 25)).drew).cell? ⟨w.heap.size, 0, none⟩ = some (.int .u64 lo) := cell_of_row ((w.alloc _).alloc _) _ 0 _ _ _ (heap_alloc2_old w _ _)
  have hc1 : (((w.alloc (.cells #[.int .u64 lo, .int .u64 hi] 37)).alloc (.cells (bs fun _ => 0) 25)).drew).cell? ⟨w.heap.size, 1, none⟩ = some (.int .u64 hi) := cell_of_row ((w.alloc _).alloc _) _ 1 _ _ _ (heap_alloc2_old w _ _)
  have H0 := Lib.hid hc0
  have H1 := Lib.hid hc1
  clear hc0 hc1
  refine steady_step (fun K hK => ?_)
  apply steady_op rfl
  · intro wx hw; have hcx := gr_cell hw H0.out; go_simp; exact ⟨rfl, hw⟩
  go_simp; refine hK _ ?_; clear hK K
  refine steady_step (fun K hK => ?_)
  apply steady_op rfl
  · intro wx hw; go_simp; exact (rset_any (fun _ => 0) 64 0 lo HL.out.1 HL.out.2 wx).mono fun e w3 h => ⟨h.1, gr_trans hw h.2⟩
  go_simp; refine hK _ ?_; clear hK K
  (refine steady_step (fun K hK => ?_); apply steady_op rfl; (focus (intro wx hw; go_simp; exact ⟨rfl, hw⟩)); go_simp; refine hK _ ?_; clear hK K)
  refine steady_step (fun K hK => ?_)
  apply steady_op rfl
  · intro wx hw; have hcx := gr_cell hw H1.out; go_simp; exact ⟨rfl, hw⟩
  go_simp; refine hK _ ?_; clear hK K
  refine steady_step (fun K hK => ?_)
  apply steady_op rfl
  · intro wx hw; go_simp; exact (rset_any (setI (fun _ => 0) 64 0 lo) 64 1 hi HH.out.1 HH.out.2 wx).mono fun e w3 h => ⟨h.1, gr_trans hw h.2⟩
  go_simp; refine hK _ ?_; clear hK K
  refine steady_nil ?_
  intro w1 hg
  have hs := Lib.hid (gr_block hg (heap_alloc2_new w _ _))
  have hgg := Lib.hid (gr_trans (Gr.drew (((Gr.refl w).alloc _ _).alloc _ _)) hg)
  clear hg
  refine wpList_store_row rfl 25 _ _ rfl (w.heap.size + 1) (bs (setI (setI (fun _ => 0) 64 0 lo) 64 1 hi)) rfl rfl 25 (bs fun _ => 0) hs.out infoV rfl (bs_one _) ?_
  have hs2 := Lib.hid (setRow_block (c := bs (setI (setI (fun _ => 0) 64 0 lo) 64 1 hi)) hs.out)
  have hg2 := Lib.hid (gr_setRow hgg.out (g := w.heap.size + 1) (by omega) (bs (setI (setI (fun _ => 0) 64 0 lo) 64 1 hi)))
  go_wp2
  exact bodyPost_ret (v := .agg (bs (setI (setI (fun _ => 0) 64 0 lo) 64 1 hi))) (results_cell_row Try.results25 _ _ (w.heap.size + 1) 25 _ (0, 0) _ rfl hs2.out Try.underlying25 rfl infoV) rfl ⟨rfl, hg2.out⟩
end Go.Proofs.Ythdklnkaeddogab
