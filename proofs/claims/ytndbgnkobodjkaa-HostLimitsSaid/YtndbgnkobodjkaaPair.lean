/-
  The contracts of pair's Split, Of, Join, Signed, All.
-/
import Derived.Test.YtndbgnkobodjkaaVec
import Derived.Test.YtndbgnkobodjkaaSteady
namespace Go.Proofs.Ytndbgnkobodjkaa
open Go.RowKit VecM
theorem lanes_bd (v : Int) : 0 ≤ lanesI v ∧ lanesI v ≤ 16 := by
  unfold lanesI; repeat' split
  all_goals omega
set_option maxHeartbeats 1000000 in
theorem of_lanes (v : Int) (b off cap len L : Nat) (hL : lanesI v = (L : Int)) (hcase : L ≤ len) (zs : Nat → Int) (w : World) (hl : len ≤ 9223372036854775807) (hc : ∀ j, j < len → w.cell? ⟨b, off + j, none⟩ = some (.int .u64 (zs j))) :
    Calls Try.prog 43 #[.int .i64 v, .slice (some ⟨b, off, none⟩) len cap] w fun e w' => e = .returned (.agg (bs (ofK (fun _ => 0) v zs L))) ∧ Gr w w' := by
  have HC := Lib.hid hc
  have hb : L ≤ 16 := by have := lanes_bd v; omega
  have hcon : ∀ w, Calls Try.prog 47 #[.int .i64 v] w fun e w' => e = .returned (.int .i64 (L : Int)) ∧ w = w' := by rw [← hL]; exact lanes_any v
  have HK := Lib.hid hcon
  clear hL hcon hc
  go_enter Try.func43, Try.ntmps43
  go_wp2_with (go_at_call 47; refine (HK.out _).mono ?_; rintro e w' ⟨rfl, rfl⟩)
  go_loopw [12] (fun i wr => ∃ k : Nat, k ≤ L ∧ i = .int .i64 k ∧ Gr w wr ∧ wr.heap[w.heap.size + 1]? = some (.cells (bs (ofK (fun _ => 0) v zs k)) 86 (0, 0)) ∧ wr.heap[w.heap.size]? = some (.cells (bs fun _ => 0) 86 (0, 0))) (fun i _ => L - (intOf i).toNat)
  case atStart => exact ⟨0, by omega, rfl, ((Gr.refl _).alloc _ _).alloc _ _, heap_alloc2_new w _ _, heap_alloc2_old w _ _⟩
  case round =>
    obtain ⟨k, hk, rfl, hg, hv, hr⟩ := hrel
    have HG := Lib.hid hg
    have HV := Lib.hid hv
    have HR := Lib.hid hr
    clear hg hv hr
    by_cases hlt : k < L
    · have hkl : k < len := by omega
      go_upto_region 5 with (fail)
      refine wp_region_steady_tail 8 (by kernel_rfl) (by kernel_rfl) ?_
      simp only [List.take_succ_cons, List.take_zero, List.drop_succ_cons, List.drop_zero]
      refine steady_step (fun K hK => ?_)
      refine steady_load_row rfl 86 _ rfl (w.heap.size + 1) rfl 86 (bs (ofK (fun _ => 0) v zs k)) (0, 0) _ HV.out Try.underlying86 rfl infoV ?_
      go_simp; refine hK _ ?_; clear hK K
      iterate 5 (refine steady_step (fun K hK => ?_); apply steady_op rfl; (focus (intro wx hw; go_simp; exact ⟨rfl, hw⟩)); go_simp; refine hK _ ?_; clear hK K)
      have hcell := gr_cell (gr_trans HG.out (Gr.drew (Gr.refl _))) (HC.out k (by omega))
      refine steady_step (fun K hK => ?_)
      apply steady_op rfl
      · intro wx hw; have hcx := gr_cell hw hcell; go_simp; exact ⟨rfl, hw⟩
      go_simp; refine hK _ ?_; clear hK K
      refine steady_step (fun K hK => ?_)
      apply steady_op rfl
      · intro wx hw; go_simp; exact (set_any _ v k (zs k) wx).mono fun e w3 h => ⟨h.1, gr_trans hw h.2⟩
      go_simp; refine hK _ ?_; clear hK K
      refine steady_nil ?_
      intro w1 hg1
      have hs1 := Lib.hid (gr_block hg1 HV.out)
      have hs0 := Lib.hid (gr_block hg1 HR.out)
      refine wpList_store_row rfl 86 _ _ rfl (w.heap.size + 1) (bs (setI (ofK (fun _ => 0) v zs k) v k (zs k))) rfl rfl 86 (bs (ofK (fun _ => 0) v zs k)) hs1.out infoV rfl (bs_one _) ?_
      have hs2 := Lib.hid (setRow_block (c := bs (setI (ofK (fun _ => 0) v zs k) v k (zs k))) hs1.out)
      have hs3 := Lib.hid ((setRow_block_other (w := w1) (c := bs (setI (ofK (fun _ => 0) v zs k) v k (zs k))) (show w.heap.size ≠ w.heap.size + 1 by omega)).trans hs0.out)
      have hgg := Lib.hid (gr_setRow (gr_trans (Gr.drew HG.out) hg1) (g := w.heap.size + 1) (by omega) (bs (setI (ofK (fun _ => 0) v zs k) v k (zs k))))
      clear hs0 hs1 hg1 hcell
      go_wp2
      exact ⟨⟨k + 1, by omega, by go_num, hgg.out, hs2.out, hs3.out⟩, by simp [intOf]; omega⟩
    · go_upto_region 7 with (fail)
      obtain rfl : L = k := by omega
      refine wp_region_lit ?_
      refine wpList_load_row rfl 86 _ rfl (w.heap.size + 1) rfl 86 (bs (ofK (fun _ => 0) v zs L)) (0, 0) _ HV.out Try.underlying86 rfl infoV ?_
      refine wpList_store_row rfl 86 _ _ rfl w.heap.size (bs (ofK (fun _ => 0) v zs L)) rfl rfl 86 (bs fun _ => 0) HR.out infoV rfl (bs_one _) ?_
      have hs2 := Lib.hid (setRow_block (c := bs (ofK (fun _ => 0) v zs L)) HR.out)
      have hgg := Lib.hid (gr_setRow HG.out (g := w.heap.size) (by omega) (bs (ofK (fun _ => 0) v zs L)))
      go_wp2
      exact bodyPost_ret (v := .agg (bs (ofK (fun _ => 0) v zs L))) (results_cell_row Try.results43 _ _ w.heap.size 86 _ (0, 0) _ rfl hs2.out Try.underlying86 rfl infoV) rfl ⟨rfl, hgg.out⟩
set_option maxHeartbeats 1000000 in
theorem of_len (v : Int) (b off cap len L : Nat) (hL : lanesI v = (L : Int)) (hcase : len < L) (zs : Nat → Int) (w : World) (hl : len ≤ 9223372036854775807) (hc : ∀ j, j < len → w.cell? ⟨b, off + j, none⟩ = some (.int .u64 (zs j))) :
    Calls Try.prog 43 #[.int .i64 v, .slice (some ⟨b, off, none⟩) len cap] w fun e w' => e = .returned (.agg (bs (ofK (fun _ => 0) v zs len))) ∧ Gr w w' := by
  have HC := Lib.hid hc
  have hb : L ≤ 16 := by have := lanes_bd v; omega
  have hcon : ∀ w, Calls Try.prog 47 #[.int .i64 v] w fun e w' => e = .returned (.int .i64 (L : Int)) ∧ w = w' := by rw [← hL]; exact lanes_any v
  have HK := Lib.hid hcon
  clear hL hcon hc
  go_enter Try.func43, Try.ntmps43
  go_wp2_with (go_at_call 47; refine (HK.out _).mono ?_; rintro e w' ⟨rfl, rfl⟩)
  go_loopw [12] (fun i wr => ∃ k : Nat, k ≤ len ∧ i = .int .i64 k ∧ Gr w wr ∧ wr.heap[w.heap.size + 1]? = some (.cells (bs (ofK (fun _ => 0) v zs k)) 86 (0, 0)) ∧ wr.heap[w.heap.size]? = some (.cells (bs fun _ => 0) 86 (0, 0))) (fun i _ => len - (intOf i).toNat)
  case atStart => exact ⟨0, by omega, rfl, ((Gr.refl _).alloc _ _).alloc _ _, heap_alloc2_new w _ _, heap_alloc2_old w _ _⟩
  case round =>
    obtain ⟨k, hk, rfl, hg, hv, hr⟩ := hrel
    have HG := Lib.hid hg
    have HV := Lib.hid hv
    have HR := Lib.hid hr
    clear hg hv hr
    by_cases hlt : k < len
    · have hkl : k < len := by omega
      go_upto_region 5 with (fail)
      refine wp_region_steady_tail 8 (by kernel_rfl) (by kernel_rfl) ?_
      simp only [List.take_succ_cons, List.take_zero, List.drop_succ_cons, List.drop_zero]
      refine steady_step (fun K hK => ?_)
      refine steady_load_row rfl 86 _ rfl (w.heap.size + 1) rfl 86 (bs (ofK (fun _ => 0) v zs k)) (0, 0) _ HV.out Try.underlying86 rfl infoV ?_
      go_simp; refine hK _ ?_; clear hK K
      iterate 5 (refine steady_step (fun K hK => ?_); apply steady_op rfl; (focus (intro wx hw; go_simp; exact ⟨rfl, hw⟩)); go_simp; refine hK _ ?_; clear hK K)
      have hcell := gr_cell (gr_trans HG.out (Gr.drew (Gr.refl _))) (HC.out k (by omega))
      refine steady_step (fun K hK => ?_)
      apply steady_op rfl
      · intro wx hw; have hcx := gr_cell hw hcell; go_simp; exact ⟨rfl, hw⟩
      go_simp; refine hK _ ?_; clear hK K
      refine steady_step (fun K hK => ?_)
      apply steady_op rfl
      · intro wx hw; go_simp; exact (set_any _ v k (zs k) wx).mono fun e w3 h => ⟨h.1, gr_trans hw h.2⟩
      go_simp; refine hK _ ?_; clear hK K
      refine steady_nil ?_
      intro w1 hg1
      have hs1 := Lib.hid (gr_block hg1 HV.out)
      have hs0 := Lib.hid (gr_block hg1 HR.out)
      refine wpList_store_row rfl 86 _ _ rfl (w.heap.size + 1) (bs (setI (ofK (fun _ => 0) v zs k) v k (zs k))) rfl rfl 86 (bs (ofK (fun _ => 0) v zs k)) hs1.out infoV rfl (bs_one _) ?_
      have hs2 := Lib.hid (setRow_block (c := bs (setI (ofK (fun _ => 0) v zs k) v k (zs k))) hs1.out)
      have hs3 := Lib.hid ((setRow_block_other (w := w1) (c := bs (setI (ofK (fun _ => 0) v zs k) v k (zs k))) (show w.heap.size ≠ w.heap.size + 1 by omega)).trans hs0.out)
      have hgg := Lib.hid (gr_setRow (gr_trans (Gr.drew HG.out) hg1) (g := w.heap.size + 1) (by omega) (bs (setI (ofK (fun _ => 0) v zs k) v k (zs k))))
      clear hs0 hs1 hg1 hcell
      go_wp2
      exact ⟨⟨k + 1, by omega, by go_num, hgg.out, hs2.out, hs3.out⟩, by simp [intOf]; omega⟩
    · go_upto_region 7 with (fail)
      obtain rfl : len = k := by omega
      refine wp_region_lit ?_
      refine wpList_load_row rfl 86 _ rfl (w.heap.size + 1) rfl 86 (bs (ofK (fun _ => 0) v zs len)) (0, 0) _ HV.out Try.underlying86 rfl infoV ?_
      refine wpList_store_row rfl 86 _ _ rfl w.heap.size (bs (ofK (fun _ => 0) v zs len)) rfl rfl 86 (bs fun _ => 0) HR.out infoV rfl (bs_one _) ?_
      have hs2 := Lib.hid (setRow_block (c := bs (ofK (fun _ => 0) v zs len)) HR.out)
      have hgg := Lib.hid (gr_setRow HG.out (g := w.heap.size) (by omega) (bs (ofK (fun _ => 0) v zs len)))
      go_wp2
      exact bodyPost_ret (v := .agg (bs (ofK (fun _ => 0) v zs len))) (results_cell_row Try.results43 _ _ w.heap.size 86 _ (0, 0) _ rfl hs2.out Try.underlying86 rfl infoV) rfl ⟨rfl, hgg.out⟩
/-- a slice of uint64 that reads as zs in the world w -/
def U64s (w : World) (sv : Value) (len : Nat) (zs : Nat → Int) : Prop :=
  (len = 0 ∧ ∃ x c, sv = .slice x 0 c) ∨ (len ≤ 9223372036854775807 ∧ ∃ b off cap, sv = .slice (some ⟨b, off, none⟩) len cap ∧ ∀ j, j < len → w.cell? ⟨b, off + j, none⟩ = some (.int .u64 (zs j)))
theorem u64s_gr {w w' : World} {sv : Value} {len : Nat} {zs : Nat → Int} (h : U64s w sv len zs) (hg : Gr w w') : U64s w' sv len zs := by
  rcases h with h | ⟨hl, b, off, cap, rfl, hc⟩
  · exact .inl h
  · exact .inr ⟨hl, b, off, cap, rfl, fun j hj => gr_cell hg (hc j hj)⟩
set_option maxHeartbeats 1000000 in
theorem of_nil (v : Int) (L : Nat) (hL : lanesI v = (L : Int)) (x : Option Addr) (c : Nat) (w : World) :
    Calls Try.prog 43 #[.int .i64 v, .slice x 0 c] w fun e w' => e = .returned (.agg (bs fun _ => 0)) ∧ Gr w w' := by
  have hcon : ∀ w, Calls Try.prog 47 #[.int .i64 v] w fun e w' => e = .returned (.int .i64 (L : Int)) ∧ w = w' := by rw [← hL]; exact lanes_any v
  have HK := Lib.hid hcon
  clear hL hcon
  by_cases hz : 0 < L
  · go_enter Try.func43, Try.ntmps43
    go_wp2_with (go_at_call 47; refine (HK.out _).mono ?_; rintro e w' ⟨rfl, rfl⟩)
    refine wp_loop_rounds 1 ?_
    rw [rounds_succ]
    go_upto_region 7 with (fail)
    refine wp_region_lit ?_
    refine wpList_load_row rfl 86 _ rfl (w.heap.size + 1) rfl 86 (bs fun _ => 0) (0, 0) _ (heap_alloc2_new w _ _) Try.underlying86 rfl infoV ?_
    refine wpList_store_row rfl 86 _ _ rfl w.heap.size (bs fun _ => 0) rfl rfl 86 (bs fun _ => 0) (heap_alloc2_old w _ _) infoV rfl (bs_one _) ?_
    have hs2 := Lib.hid (setRow_block (c := bs fun _ => 0) (heap_alloc2_old w (.cells (bs fun _ => 0) 86) (.cells (bs fun _ => 0) 86)))
    have hgg := Lib.hid (gr_setRow (((Gr.refl w).alloc (bs fun _ => 0) 86).alloc (bs fun _ => 0) 86) (g := w.heap.size) (by omega) (bs fun _ => 0))
    go_wp2
    exact bodyPost_ret (v := .agg (bs fun _ => 0)) (results_cell_row Try.results43 _ _ w.heap.size 86 _ (0, 0) _ rfl hs2.out Try.underlying86 rfl infoV) rfl ⟨rfl, hgg.out⟩
  · obtain rfl : L = 0 := by omega
    go_enter Try.func43, Try.ntmps43
    go_wp2_with (go_at_call 47; refine (HK.out _).mono ?_; rintro e w' ⟨rfl, rfl⟩)
    refine wp_loop_rounds 1 ?_
    rw [rounds_succ]
    go_upto_region 7 with (fail)
    refine wp_region_lit ?_
    refine wpList_load_row rfl 86 _ rfl (w.heap.size + 1) rfl 86 (bs fun _ => 0) (0, 0) _ (heap_alloc2_new w _ _) Try.underlying86 rfl infoV ?_
    refine wpList_store_row rfl 86 _ _ rfl w.heap.size (bs fun _ => 0) rfl rfl 86 (bs fun _ => 0) (heap_alloc2_old w _ _) infoV rfl (bs_one _) ?_
    have hs2 := Lib.hid (setRow_block (c := bs fun _ => 0) (heap_alloc2_old w (.cells (bs fun _ => 0) 86) (.cells (bs fun _ => 0) 86)))
    have hgg := Lib.hid (gr_setRow (((Gr.refl w).alloc (bs fun _ => 0) 86).alloc (bs fun _ => 0) 86) (g := w.heap.size) (by omega) (bs fun _ => 0))
    go_wp2
    exact bodyPost_ret (v := .agg (bs fun _ => 0)) (results_cell_row Try.results43 _ _ w.heap.size 86 _ (0, 0) _ rfl hs2.out Try.underlying86 rfl infoV) rfl ⟨rfl, hgg.out⟩
def ofN (v : Int) (len : Nat) : Nat := min (lanesI v).toNat len
theorem of_any (v : Int) (sv : Value) (len : Nat) (zs : Nat → Int) (w : World) (h : U64s w sv len zs) :
    Calls Try.prog 43 #[.int .i64 v, sv] w fun e w' => e = .returned (.agg (bs (ofK (fun _ => 0) v zs (ofN v len)))) ∧ Gr w w' := by
  have hb := lanes_bd v
  obtain ⟨L, hL⟩ : ∃ L : Nat, lanesI v = L := ⟨(lanesI v).toNat, by omega⟩
  have e : ofN v len = min L len := by unfold ofN; rw [hL, Int.toNat_natCast]
  rw [e]
  rcases h with ⟨rfl, x, c, rfl⟩ | ⟨hl, b, off, cap, rfl, hc⟩
  · rw [Nat.min_zero]; exact of_nil v L hL x c w
  · by_cases hc2 : L ≤ len
    · rw [Nat.min_eq_left hc2]; exact of_lanes v b off cap len L hL hc2 zs w hl hc
    · rw [Nat.min_eq_right (by omega)]; exact of_len v b off cap len L hL (by omega) zs w hl hc
theorem infoH : (Try.prog.info? 93).map (·.size) = some 2 := by kernel_rfl
set_option maxHeartbeats 1000000 in
theorem split_any (b : Nat → Int) (hb : Byt b) (w : World) :
    Calls Try.prog 44 #[.agg (bs b)] w fun e w' => e = .returned (.agg #[.int .u64 (getI b 64 0), .int .u64 (getI b 64 1)]) ∧ Gr w w' := by
  have HB := Lib.hid hb
  clear hb
  go_enter Try.func44, Try.ntmps44
  go_upto_region 1 with (fail)
  refine wp_region_steady_tail 5 (by kernel_rfl) (by kernel_rfl) ?_
  simp only [List.take_succ_cons, List.take_zero, List.drop_succ_cons, List.drop_zero]
  refine steady_step (fun K hK => ?_)
  refine steady_load_row rfl 86 _ rfl w.heap.size rfl 86 (bs b) (0, 0) _ (heap_alloc2_old w _ _) Try.underlying86 rfl infoV ?_
  go_simp; refine hK _ ?_; clear hK K
  refine steady_step (fun K hK => ?_)
  apply steady_op rfl
  · intro wx hw; go_simp; exact (get_any b HB.out 64 0 wx).mono fun e w3 h => ⟨h.1, gr_trans hw h.2⟩
  go_simp; refine hK _ ?_; clear hK K
  refine steady_step (fun K hK => ?_)
  refine steady_load_row rfl 86 _ rfl w.heap.size rfl 86 (bs b) (0, 0) _ (heap_alloc2_old w _ _) Try.underlying86 rfl infoV ?_
  go_simp; refine hK _ ?_; clear hK K
  refine steady_step (fun K hK => ?_)
  apply steady_op rfl
  · intro wx hw; go_simp; exact (get_any b HB.out 64 1 wx).mono fun e w3 h => ⟨h.1, gr_trans hw h.2⟩
  go_simp; refine hK _ ?_; clear hK K
  refine steady_step (fun K hK => ?_)
  refine steady_build rfl 93 _ rfl #[.int .u64 (getI b 64 0), .int .u64 (getI b 64 1)] (by kernel_rfl) ?_
  go_simp; refine hK _ ?_; clear hK K
  refine steady_nil ?_
  intro w1 hg
  have hg2 := gr_trans (Gr.drew ((((Gr.refl w).alloc _ _).alloc _ _))) hg
  refine wpList_store_row rfl 93 _ _ rfl (w.heap.size + 1) #[.int .u64 (getI b 64 0), .int .u64 (getI b 64 1)] rfl rfl 93 #[.int .u64 0, .int .u64 0] (gr_block hg (heap_alloc2_new w _ _)) infoH rfl (by kernel_rfl) ?_
  have hs := setRow_block (c := #[.int .u64 (getI b 64 0), .int .u64 (getI b 64 1)]) (gr_block hg (heap_alloc2_new w _ _))
  have HS := Lib.hid hs
  have HG := Lib.hid (gr_setRow hg2 (g := w.heap.size + 1) (by omega) #[.int .u64 (getI b 64 0), .int .u64 (getI b 64 1)])
  clear hs hg2 hg
  go_wp2
  exact bodyPost_ret (v := .agg #[.int .u64 (getI b 64 0), .int .u64 (getI b 64 1)]) (results_cell_row Try.results44 _ _ (w.heap.size + 1) 93 _ (0, 0) _ rfl HS.out Try.underlying93 rfl infoH) rfl ⟨rfl, HG.out⟩
theorem heap3n (w : World) (a b c : Obj) : (((w.alloc a).alloc b).alloc c).heap[w.heap.size + 2]? = some c := by
  have h := heap_alloc_new ((w.alloc a).alloc b) c
  rwa [show ((w.alloc a).alloc b).heap.size = w.heap.size + 2 by show ((w.heap.push a).push b).size = _; simp] at h
theorem cell3 (w : World) (a b : Obj) (c : Array Value) (t : TypeId) (j : Nat) : (((w.alloc a).alloc b).alloc (.cells c t)).cell? ⟨w.heap.size + 2, j, none⟩ = c[j]? :=
  cell_of_row _ _ j _ _ _ (heap3n w a b _)
theorem heap3 (w : World) (a b c : Obj) : (((w.alloc a).alloc b).alloc c).heap[w.heap.size + 1]? = some b := by
  have hlt : w.heap.size + 1 < ((w.alloc a).alloc b).heap.size := by show _ < ((w.heap.push a).push b).size; simp
  exact (heap_alloc_old _ _ hlt).trans (heap_alloc2_new w a b)
end Go.Proofs.Ytndbgnkobodjkaa
