/-
  Of layer 5: arith.Bin for all opcodes and vectors: lane by lane what lane makes of the two, or refused. No condition.
-/
import Derived.Test.YtalnkkmbjaollaaArLane
namespace Go.Proofs.Ytalnkkmbjaollaa
open Go.RowKit VecM
namespace Ar
theorem results_cell_slot {P : Program} {fn : Func} {p q : Tmp} {ty : TypeId} (h : fn.results = #[.cell p ty, .tmp q]) (tmps : Array Value) (w : World) (g : Nat) (t : TypeId) (cs : Array Value) (fr : Nat × Nat) (d : TypeDesc)
    (hp : tmps.getD p undef = .pointer (some ⟨g, 0, none⟩)) (hg : w.heap[g]? = some (.cells cs t fr))
    (hu : P.underlying ty = some d) (hd : (match d with | .struct _ | .array _ _ => true | _ => false) = true) (hi : (P.info? ty).map (·.size) = some cs.size) (b : Value) (hb : tmps.getD q undef = b) :
    (results fn tmps).run P w = .ok (.tuple #[.agg cs, b]) w := by
  have hp' : tmps[p]?.getD undef = .pointer (some ⟨g, 0, none⟩) := by simpa using hp
  have hb' : tmps[q]?.getD undef = b := by simpa using hb
  simp [results, h, hp', hb', asAddr, run_loadVar_row w g t ty cs fr d hg hu hd hi]
theorem heap3 (w : World) (a b c : Obj) : (((w.alloc a).alloc b).alloc c).heap[w.heap.size]? = some a ∧ (((w.alloc a).alloc b).alloc c).heap[w.heap.size + 1]? = some b ∧ (((w.alloc a).alloc b).alloc c).heap[w.heap.size + 2]? = some c := by
  have g1 := heap_alloc2_old w a b
  have g2 := heap_alloc2_new w a b
  have g : Gr ((w.alloc a).alloc b) (((w.alloc a).alloc b).alloc c) := (Gr.refl _).allocO c
  refine ⟨gr_block g g1, gr_block g g2, ?_⟩
  have h := heap_alloc_new ((w.alloc a).alloc b) c
  simpa using h
theorem heap4 (w : World) (a b c d : Obj) : ((((w.alloc a).alloc b).alloc c).alloc d).heap[w.heap.size]? = some a ∧ ((((w.alloc a).alloc b).alloc c).alloc d).heap[w.heap.size + 1]? = some b ∧ ((((w.alloc a).alloc b).alloc c).alloc d).heap[w.heap.size + 2]? = some c ∧ ((((w.alloc a).alloc b).alloc c).alloc d).heap[w.heap.size + 3]? = some d := by
  obtain ⟨g1, g2, g3⟩ := heap3 w a b c
  have g : Gr (((w.alloc a).alloc b).alloc c) ((((w.alloc a).alloc b).alloc c).alloc d) := (Gr.refl _).allocO d
  refine ⟨gr_block g g1, gr_block g g2, gr_block g g3, ?_⟩
  have h := heap_alloc_new (((w.alloc a).alloc b).alloc c) d
  simpa using h
set_option maxRecDepth 100000 in
set_option maxHeartbeats 4000000 in
theorem bin_core (op v kk : Int) (a b : Nat → Int) (ha : Byt a) (hb : Byt b) (L : Nat) (hL : lanesI v = (L : Int)) (hL16 : L ≤ 16) (hv0 : (v == 0) = false) (h14 : 14 ≤ kk) (f : Nat → Int)
    (hA : ∀ w, Calls Try.prog 32 #[.int .i64 op] w fun e w' => e = .returned (.tuple #[.int .i64 v, .int .i64 kk]) ∧ w = w')
    (hF : ∀ j : Nat, j < L → ∀ w, Calls Try.prog 38 #[.int .i64 kk, .int .i64 v, .int .u64 (getI a v j), .int .u64 (getI b v j), .int .i64 (sgnI a v j), .int .i64 (sgnI b v j)] w fun e w' => e = .returned (.int .u64 (f j)) ∧ w = w') (w : World) :
    Calls Try.prog 22 #[.int .i64 op, .agg (bs a), .agg (bs b)] w fun e w' => e = .returned (.tuple #[.agg (bs (ofK (fun _ => 0) v f L)), .int .i64 0]) ∧ Gr w w' := by
  have hcon : ∀ w, Calls Try.prog 28 #[.int .i64 v] w fun e w' => e = .returned (.int .i64 (L : Int)) ∧ w = w' := by rw [← hL]; exact lanes_any v
  have HK := Lib.hid hcon
  have HA := Lib.hid hA
  have HF := Lib.hid hF
  have BA := Lib.hid ha
  have BB := Lib.hid hb
  clear hL hcon hA hF ha hb
  go_enter Try.func22, Try.ntmps22
  go_wp2_with (first | (go_at_call 32; refine (HA.out _).mono ?_; rintro e w' ⟨rfl, rfl⟩) | (go_at_call 28; refine (HK.out _).mono ?_; rintro e w' ⟨rfl, rfl⟩))
  go_loopw [30] (fun i wr => ∃ k : Nat, k ≤ L ∧ i = .int .i64 k ∧ Gr w wr ∧ w.heap.size + 4 ≤ wr.heap.size ∧ wr.heap[w.heap.size]? = some (.cells (bs a) 23 (0, 0)) ∧ wr.heap[w.heap.size + 1]? = some (.cells (bs b) 23 (0, 0)) ∧ wr.heap[w.heap.size + 2]? = some (.cells (bs fun _ => 0) 23 (0, 0)) ∧ wr.heap[w.heap.size + 3]? = some (.cells (bs (ofK (fun _ => 0) v f k)) 23 (0, 0))) (fun i _ => L - (intOf i).toNat)
  case atStart =>
    obtain ⟨g1, g2, g3, g4⟩ := heap4 w (.cells (bs a) 23) (.cells (bs b) 23) (.cells (bs fun _ => 0) 23) (.cells (bs fun _ => 0) 23)
    exact ⟨0, by omega, rfl, ((((Gr.refl _).alloc _ _).alloc _ _).alloc _ _).alloc _ _, by simp, g1, g2, g3, g4⟩
  case round =>
    obtain ⟨k, hk, rfl, hg, hz, b0, b1, b2, b3⟩ := hrel
    have HG := Lib.hid hg
    have HZ := Lib.hid hz
    have B0 := Lib.hid b0
    have B1 := Lib.hid b1
    have B2 := Lib.hid b2
    have B3 := Lib.hid b3
    clear hg hz b0 b1 b2 b3
    by_cases hlt : k < L
    · have HFk := Lib.hid (HF.out k hlt)
      have C1 := fun w => get_any a BA.out v k w
      have C2 := fun w => get_any b BB.out v k w
      have C3 := fun w => signed_any a BA.out v k w
      have C4 := fun w => signed_any b BB.out v k w
      have H1 := Lib.hid C1
      have H2 := Lib.hid C2
      have H3 := Lib.hid C3
      have H4 := Lib.hid C4
      have HO := Lib.hid (show ofK (fun _ => 0) v f (k + 1) = setI (ofK (fun _ => 0) v f k) v k (f k) from rfl)
      clear C1 C2 C3 C4
      generalize getI a v k = x at *
      generalize getI b v k = y at *
      generalize sgnI a v k = s at *
      generalize sgnI b v k = r at *
      generalize f k = z at *
      generalize ofK (fun _ => 0) v f k = c at *
      go_upto_region 8 with (fail)
      refine wp_region_steady (by kernel_rfl) (by kernel_rfl) ?_
      refine steady_step (fun K hK => ?_)
      refine steady_load_row rfl 23 _ rfl w.heap.size rfl 23 (bs a) (0, 0) _ B0.out Try.underlying23 rfl infoV ?_
      go_simp; refine hK _ ?_; clear hK K
      iterate 2 (refine steady_step (fun K hK => ?_); apply steady_op rfl; (focus (intro wx hw; go_simp; exact ⟨rfl, hw⟩)); go_simp; refine hK _ ?_; clear hK K)
      refine steady_step (fun K hK => ?_)
      apply steady_op rfl
      · intro wx hw; go_simp; exact (H1.out wx).mono fun e w3 h => ⟨h.1, gr_trans hw h.2⟩
      go_simp; refine hK _ ?_; clear hK K
      refine steady_step (fun K hK => ?_)
      refine steady_load_row rfl 23 _ rfl (w.heap.size + 1) rfl 23 (bs b) (0, 0) _ B1.out Try.underlying23 rfl infoV ?_
      go_simp; refine hK _ ?_; clear hK K
      iterate 2 (refine steady_step (fun K hK => ?_); apply steady_op rfl; (focus (intro wx hw; go_simp; exact ⟨rfl, hw⟩)); go_simp; refine hK _ ?_; clear hK K)
      refine steady_step (fun K hK => ?_)
      apply steady_op rfl
      · intro wx hw; go_simp; exact (H2.out wx).mono fun e w3 h => ⟨h.1, gr_trans hw h.2⟩
      go_simp; refine hK _ ?_; clear hK K
      iterate 2 (refine steady_step (fun K hK => ?_); apply steady_op rfl; (focus (intro wx hw; go_simp; exact ⟨rfl, hw⟩)); go_simp; refine hK _ ?_; clear hK K)
      refine steady_nil ?_
      intro w1 hg1
      have G1 := Lib.hid (gr_trans (Gr.drew (Gr.refl _)) hg1)
      clear hg1
      have B0_1 := Lib.hid (gr_block G1.out B0.out)
      have B1_1 := Lib.hid (gr_block G1.out B1.out)
      have B2_1 := Lib.hid (gr_block G1.out B2.out)
      have B3_1 := Lib.hid (gr_block G1.out B3.out)
      have HG_1 := Lib.hid (gr_trans HG.out G1.out)
      have HZ_1 := Lib.hid (Nat.le_trans HZ.out G1.out.size)
      go_upto_region 9 with (fail)
      refine wp_region_steady (by kernel_rfl) (by kernel_rfl) ?_
      refine steady_step (fun K hK => ?_)
      refine steady_load_row rfl 23 _ rfl w.heap.size rfl 23 (bs a) (0, 0) _ B0_1.out Try.underlying23 rfl infoV ?_
      go_simp; refine hK _ ?_; clear hK K
      iterate 2 (refine steady_step (fun K hK => ?_); apply steady_op rfl; (focus (intro wx hw; go_simp; exact ⟨rfl, hw⟩)); go_simp; refine hK _ ?_; clear hK K)
      refine steady_step (fun K hK => ?_)
      apply steady_op rfl
      · intro wx hw; go_simp; exact (H3.out wx).mono fun e w3 h => ⟨h.1, gr_trans hw h.2⟩
      go_simp; refine hK _ ?_; clear hK K
      refine steady_step (fun K hK => ?_)
      refine steady_load_row rfl 23 _ rfl (w.heap.size + 1) rfl 23 (bs b) (0, 0) _ B1_1.out Try.underlying23 rfl infoV ?_
      go_simp; refine hK _ ?_; clear hK K
      iterate 2 (refine steady_step (fun K hK => ?_); apply steady_op rfl; (focus (intro wx hw; go_simp; exact ⟨rfl, hw⟩)); go_simp; refine hK _ ?_; clear hK K)
      refine steady_step (fun K hK => ?_)
      apply steady_op rfl
      · intro wx hw; go_simp; exact (H4.out wx).mono fun e w3 h => ⟨h.1, gr_trans hw h.2⟩
      go_simp; refine hK _ ?_; clear hK K
      iterate 2 (refine steady_step (fun K hK => ?_); apply steady_op rfl; (focus (intro wx hw; go_simp; exact ⟨rfl, hw⟩)); go_simp; refine hK _ ?_; clear hK K)
      refine steady_nil ?_
      intro w2 hg2
      have G2 := Lib.hid (gr_trans (Gr.drew (Gr.refl _)) hg2)
      clear hg2
      have B0_2 := Lib.hid (gr_block G2.out B0_1.out)
      have B1_2 := Lib.hid (gr_block G2.out B1_1.out)
      have B2_2 := Lib.hid (gr_block G2.out B2_1.out)
      have B3_2 := Lib.hid (gr_block G2.out B3_1.out)
      have HG_2 := Lib.hid (gr_trans HG_1.out G2.out)
      have HZ_2 := Lib.hid (Nat.le_trans HZ_1.out G2.out.size)
      go_upto_region 10 with (fail)
      refine wp_region_steady_tail 11 (by kernel_rfl) (by kernel_rfl) ?_
      simp only [List.take_succ_cons, List.take_zero, List.drop_succ_cons, List.drop_zero]
      refine steady_step (fun K hK => ?_)
      refine steady_load_row rfl 23 _ rfl (w.heap.size + 3) rfl 23 (bs c) (0, 0) _ B3_2.out Try.underlying23 rfl infoV ?_
      go_simp; refine hK _ ?_; clear hK K
      iterate 8 (refine steady_step (fun K hK => ?_); apply steady_op rfl; (focus (intro wx hw; go_simp; exact ⟨rfl, hw⟩)); go_simp; refine hK _ ?_; clear hK K)
      refine steady_step (fun K hK => ?_)
      apply steady_op rfl
      · intro wx hw; go_simp; exact (HFk.out wx).mono fun e w3 h => ⟨h.1, by obtain ⟨_, rfl⟩ := h; exact hw⟩
      go_simp; refine hK _ ?_; clear hK K
      refine steady_step (fun K hK => ?_)
      apply steady_op rfl
      · intro wx hw; go_simp; exact (set_any c v k z wx).mono fun e w3 h => ⟨h.1, gr_trans hw h.2⟩
      go_simp; refine hK _ ?_; clear hK K
      refine steady_nil ?_
      intro w3 hg3
      have G3 := Lib.hid (gr_trans (Gr.drew (Gr.refl _)) hg3)
      clear hg3
      have B0_3 := Lib.hid (gr_block G3.out B0_2.out)
      have B1_3 := Lib.hid (gr_block G3.out B1_2.out)
      have B2_3 := Lib.hid (gr_block G3.out B2_2.out)
      have B3_3 := Lib.hid (gr_block G3.out B3_2.out)
      have HG_3 := Lib.hid (gr_trans HG_2.out G3.out)
      have HZ_3 := Lib.hid (Nat.le_trans HZ_2.out G3.out.size)
      refine wpList_store_row rfl 23 _ _ rfl (w.heap.size + 3) (bs (setI c v k z)) rfl rfl 23 (bs c) B3_3.out infoV rfl (bs_one _) ?_
      have hs3 := Lib.hid (setRow_block (c := bs (setI c v k z)) B3_3.out)
      have hs0 := Lib.hid ((setRow_block_other (w := w3) (c := bs (setI c v k z)) (show w.heap.size ≠ w.heap.size + 3 by omega)).trans B0_3.out)
      have hs1 := Lib.hid ((setRow_block_other (w := w3) (c := bs (setI c v k z)) (show w.heap.size + 1 ≠ w.heap.size + 3 by omega)).trans B1_3.out)
      have hs2 := Lib.hid ((setRow_block_other (w := w3) (c := bs (setI c v k z)) (show w.heap.size + 2 ≠ w.heap.size + 3 by omega)).trans B2_3.out)
      have hgg := Lib.hid (gr_setRow HG_3.out (g := w.heap.size + 3) (by omega) (bs (setI c v k z)))
      have hzz := Lib.hid (show w.heap.size + 4 ≤ (w3.setRow (w.heap.size + 3) (bs (setI c v k z))).heap.size by have := HZ_3.out; simpa [World.setRow] using this)
      go_wp2
      exact ⟨⟨k + 1, by omega, by go_num, hgg.out, hzz.out, hs0.out, hs1.out, hs2.out, by rw [HO.out]; exact hs3.out⟩, by simp [intOf]; omega⟩
    · obtain rfl : L = k := by omega
      go_upto_region 12 with (fail)
      refine wp_region_lit ?_
      refine wpList_load_row rfl 23 _ rfl (w.heap.size + 3) rfl 23 (bs (ofK (fun _ => 0) v f L)) (0, 0) _ B3.out Try.underlying23 rfl infoV ?_
      refine wpList_store_row rfl 23 _ _ rfl (w.heap.size + 2) (bs (ofK (fun _ => 0) v f L)) rfl rfl 23 (bs fun _ => 0) B2.out infoV rfl (bs_one _) ?_
      have hs2 := Lib.hid (setRow_block (c := bs (ofK (fun _ => 0) v f L)) B2.out)
      have hgg := Lib.hid (gr_setRow HG.out (g := w.heap.size + 2) (by omega) (bs (ofK (fun _ => 0) v f L)))
      go_wp2
      exact bodyPost_ret (v := .tuple #[.agg (bs (ofK (fun _ => 0) v f L)), .int .i64 0]) (results_cell_slot Try.results22 _ _ (w.heap.size + 2) 23 _ (0, 0) _ rfl hs2.out Try.underlying23 rfl infoV _ rfl) rfl ⟨rfl, hgg.out⟩
set_option maxRecDepth 100000 in
set_option maxHeartbeats 1000000 in
theorem bin_refused (op v kk : Int) (a b : Nat → Int) (h : v = 0 ∨ (v == 0) = false ∧ kk < 14)
    (hA : ∀ w, Calls Try.prog 32 #[.int .i64 op] w fun e w' => e = .returned (.tuple #[.int .i64 v, .int .i64 kk]) ∧ w = w') (w : World) :
    Calls Try.prog 22 #[.int .i64 op, .agg (bs a), .agg (bs b)] w fun e w' => e = .returned (.tuple #[.agg (bs fun _ => 0), .int .i64 1]) ∧ Gr w w' := by
  have HA := Lib.hid hA
  clear hA
  have HH := Lib.hid (heap3 w (.cells (bs a) 23) (.cells (bs b) 23) (.cells (bs fun _ => 0) 23))
  rcases h with rfl | ⟨h1, h2⟩
  all_goals
    go_enter Try.func22, Try.ntmps22
    go_wp2_with (first | (go_at_call 32; refine (HA.out _).mono ?_; rintro e w' ⟨rfl, rfl⟩) | (refine wpList_store_row rfl 23 _ _ rfl (w.heap.size + 2) (bs fun _ => 0) rfl rfl 23 (bs fun _ => 0) HH.out.2.2 infoV rfl (bs_one _) ?_))
    exact bodyPost_ret (v := .tuple #[.agg (bs fun _ => 0), .int .i64 1]) (results_cell_slot Try.results22 _ _ (w.heap.size + 2) 23 _ (0, 0) _ rfl (setRow_block (c := bs fun _ => 0) HH.out.2.2) Try.underlying23 rfl infoV _ rfl) rfl ⟨rfl, gr_setRow ((((Gr.refl _).alloc _ _).alloc _ _).alloc _ _) (by omega) _⟩
end Ar
end Go.Proofs.Ytalnkkmbjaollaa
