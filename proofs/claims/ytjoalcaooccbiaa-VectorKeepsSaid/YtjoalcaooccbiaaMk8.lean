/-
  Texts of this seat, joined: ArBin, TakeP, MvSw, CpCmp, CpTest, CpBits. Each says what it proves.
-/
import Derived.Test.YtjoalcaooccbiaaMk5
import Derived.Test.YtjoalcaooccbiaaMk7
/- ArBin -/
namespace Go.Proofs.Ytjoalcaooccbiaa
open Go.RowKit VecM
namespace Ar
theorem results_cell_slot {P : Program} {fn : Func} {p q : Tmp} {ty : TypeId} (h : fn.results = #[.cell p ty, .tmp q]) (tmps : Array Value) (w : World) (g : Nat) (t : TypeId) (cs : Array Value) (fr : Nat × Nat) (d : TypeDesc)
  (hp : tmps.getD p undef = .pointer (some ⟨g, 0, none⟩)) (hg : w.heap[g]? = some (.cells cs t fr))
  (hu : P.underlying ty = some d) (hd : (match d with | .struct _ | .array _ _ => true | _ => false) = true) (hi : (P.info? ty).map (·.size) = some cs.size) (b : Value) (hb : tmps.getD q undef = b) :
  (results fn tmps).run P w = .ok (.tuple #[.agg cs, b]) w := by
 have hp' : tmps[p]?.getD undef = .pointer (some ⟨g, 0, none⟩) := by simpa using hp
 have hb' : tmps[q]?.getD undef = b := by simpa using hb
 simp [results, h, hp', hb', asAddr, run_loadVar_row w g t ty cs fr d hg hu hd hi]
theorem heap3 (w : World) (a b c : Obj) : (((w.alloc a).alloc b).alloc c).heap[w.heap.size]? = some a ∧ (((w.alloc a).alloc b).alloc c).heap[w.heap.size + 1]? = some b ∧ (((w.alloc a).alloc b).alloc c).heap[w.heap.size + 2]? = some c := by
 have g1 := heap_alloc2_old w a b
 have g2 := heap_alloc2_new w a b
 have g : Gr ((w.alloc a).alloc b) (((w.alloc a).alloc b).alloc c) := (Gr.refl _).allocO c
 refine ⟨gr_block g g1, gr_block g g2, ?_⟩
 have h := heap_alloc_new ((w.alloc a).alloc b) c
 simpa using h
theorem heap4 (w : World) (a b c d : Obj) : ((((w.alloc a).alloc b).alloc c).alloc d).heap[w.heap.size]? = some a ∧ ((((w.alloc a).alloc b).alloc c).alloc d).heap[w.heap.size + 1]? = some b ∧ ((((w.alloc a).alloc b).alloc c).alloc d).heap[w.heap.size + 2]? = some c ∧ ((((w.alloc a).alloc b).alloc c).alloc d).heap[w.heap.size + 3]? = some d := by
 obtain ⟨g1, g2, g3⟩ := heap3 w a b c
 have g : Gr (((w.alloc a).alloc b).alloc c) ((((w.alloc a).alloc b).alloc c).alloc d) := (Gr.refl _).allocO d
 refine ⟨gr_block g g1, gr_block g g2, gr_block g g3, ?_⟩
 have h := heap_alloc_new (((w.alloc a).alloc b).alloc c) d
 simpa using h
set_option maxRecDepth 100000 in
set_option maxHeartbeats 4000000 in
theorem bin_core (op v kk : Int) (a b : Nat → Int) (ha : Byt a) (hb : Byt b) (L : Nat) (hL : lanesI v = (L : Int)) (hL16 : L ≤ 16) (hv0 : (v == 0) = false) (h14 : 14 ≤ kk) (f : Nat → Int)
  (hA : ∀ w, Calls Try.prog 36 #[.int .i64 op] w fun e w' => e = .returned (.tuple #[.int .i64 v, .int .i64 kk]) ∧ w = w')
  (hF : ∀ j : Nat, j < L → ∀ w, Calls Try.prog 46 #[.int .i64 kk, .int .i64 v, .int .u64 (getI a v j), .int .u64 (getI b v j), .int .i64 (sgnI a v j), .int .i64 (sgnI b v j)] w fun e w' => e = .returned (.int .u64 (f j)) ∧ w = w') (w : World) :
  Calls Try.prog 16 #[.int .i64 op, .agg (bs a), .agg (bs b)] w fun e w' => e = .returned (.tuple #[.agg (bs (ofK (fun _ => 0) v f L)), .int .i64 0]) ∧ Gr w w' := by
 have hcon : ∀ w, Calls Try.prog 37 #[.int .i64 v] w fun e w' => e = .returned (.int .i64 (L : Int)) ∧ w = w' := by rw [← hL]; exact lanes_any v
 have HK := Lib.hid hcon
 have HA := Lib.hid hA
 have HF := Lib.hid hF
 have BA := Lib.hid ha
 have BB := Lib.hid hb
 clear hL hcon hA hF ha hb
 go_enter Try.func16, Try.ntmps16
 go_wp2_with (first | (go_at_call 36; refine (HA.out _).mono ?_; rintro e w' ⟨rfl, rfl⟩) | (go_at_call 37; refine (HK.out _).mono ?_; rintro e w' ⟨rfl, rfl⟩))
 go_loopw [30] (fun i wr => ∃ k : Nat, k ≤ L ∧ i = .int .i64 k ∧ Gr w wr ∧ w.heap.size + 4 ≤ wr.heap.size ∧ wr.heap[w.heap.size]? = some (.cells (bs a) 40 (0, 0)) ∧ wr.heap[w.heap.size + 1]? = some (.cells (bs b) 40 (0, 0)) ∧ wr.heap[w.heap.size + 2]? = some (.cells (bs fun _ => 0) 40 (0, 0)) ∧ wr.heap[w.heap.size + 3]? = some (.cells (bs (ofK (fun _ => 0) v f k)) 40 (0, 0))) (fun i _ => L - (intOf i).toNat)
 case atStart =>
  obtain ⟨g1, g2, g3, g4⟩ := heap4 w (.cells (bs a) 40) (.cells (bs b) 40) (.cells (bs fun _ => 0) 40) (.cells (bs fun _ => 0) 40)
  exact ⟨0, by omega, rfl, ((((Gr.refl _).alloc _ _).alloc _ _).alloc _ _).alloc _ _, by simp, g1, g2, g3, g4⟩
 case round =>
  obtain ⟨k, hk, rfl, hg, hz, b0, b1, b2, b3⟩ := hrel
  have HG := Lib.hid hg
  have HZ := Lib.hid hz
  have B0 := Lib.hid b0
  have B1 := Lib.hid b1
  have B2 := Lib.hid b2
  have B3 := Lib.hid b3
  clear hg hz b0 b1 b2 b3
  by_cases hlt : k < L
  ·have HFk := Lib.hid (HF.out k hlt)
   have C1 := fun w => get_any a BA.out v k w
   have C2 := fun w => get_any b BB.out v k w
   have C3 := fun w => signed_any a BA.out v k w
   have C4 := fun w => signed_any b BB.out v k w
   have H1 := Lib.hid C1
   have H2 := Lib.hid C2
   have H3 := Lib.hid C3
   have H4 := Lib.hid C4
   have HO := Lib.hid (show ofK (fun _ => 0) v f (k + 1) = setI (ofK (fun _ => 0) v f k) v k (f k) from rfl)
   clear C1 C2 C3 C4
   generalize getI a v k = x at *
   generalize getI b v k = y at *
   generalize sgnI a v k = s at *
   generalize sgnI b v k = r at *
   generalize f k = z at *
   generalize ofK (fun _ => 0) v f k = c at *
   go_upto_region 8 with (fail)
   refine wp_region_steady (by kernel_rfl) (by kernel_rfl) ?_
   refine steady_step (fun K hK => ?_)
   refine steady_load_row rfl 40 _ rfl w.heap.size rfl 40 (bs a) (0, 0) _ B0.out Try.underlying40 rfl infoV ?_
   go_simp; refine hK _ ?_; clear hK K
   iterate 2 (refine steady_step (fun K hK => ?_); apply steady_op rfl; (focus (intro wx hw; go_simp; exact ⟨rfl, hw⟩)); go_simp; refine hK _ ?_; clear hK K)
   refine steady_step (fun K hK => ?_)
   apply steady_op rfl
   ·intro wx hw; go_simp; exact (H1.out wx).mono fun e w3 h => ⟨h.1, gr_trans hw h.2⟩
   go_simp; refine hK _ ?_; clear hK K
   refine steady_step (fun K hK => ?_)
   refine steady_load_row rfl 40 _ rfl (w.heap.size + 1) rfl 40 (bs b) (0, 0) _ B1.out Try.underlying40 rfl infoV ?_
   go_simp; refine hK _ ?_; clear hK K
   iterate 2 (refine steady_step (fun K hK => ?_); apply steady_op rfl; (focus (intro wx hw; go_simp; exact ⟨rfl, hw⟩)); go_simp; refine hK _ ?_; clear hK K)
   refine steady_step (fun K hK => ?_)
   apply steady_op rfl
   ·intro wx hw; go_simp; exact (H2.out wx).mono fun e w3 h => ⟨h.1, gr_trans hw h.2⟩
   go_simp; refine hK _ ?_; clear hK K
   iterate 2 (refine steady_step (fun K hK => ?_); apply steady_op rfl; (focus (intro wx hw; go_simp; exact ⟨rfl, hw⟩)); go_simp; refine hK _ ?_; clear hK K)
   refine steady_nil ?_
   intro w1 hg1
   have G1 := Lib.hid (gr_trans (Gr.drew (Gr.refl _)) hg1)
   clear hg1
   have B0_1 := Lib.hid (gr_block G1.out B0.out)
   have B1_1 := Lib.hid (gr_block G1.out B1.out)
   have B2_1 := Lib.hid (gr_block G1.out B2.out)
   have B3_1 := Lib.hid (gr_block G1.out B3.out)
   have HG_1 := Lib.hid (gr_trans HG.out G1.out)
   have HZ_1 := Lib.hid (Nat.le_trans HZ.out G1.out.size)
   go_upto_region 9 with (fail)
   refine wp_region_steady (by kernel_rfl) (by kernel_rfl) ?_
   refine steady_step (fun K hK => ?_)
   refine steady_load_row rfl 40 _ rfl w.heap.size rfl 40 (bs a) (0, 0) _ B0_1.out Try.underlying40 rfl infoV ?_
   go_simp; refine hK _ ?_; clear hK K
   iterate 2 (refine steady_step (fun K hK => ?_); apply steady_op rfl; (focus (intro wx hw; go_simp; exact ⟨rfl, hw⟩)); go_simp; refine hK _ ?_; clear hK K)
   refine steady_step (fun K hK => ?_)
   apply steady_op rfl
   ·intro wx hw; go_simp; exact (H3.out wx).mono fun e w3 h => ⟨h.1, gr_trans hw h.2⟩
   go_simp; refine hK _ ?_; clear hK K
   refine steady_step (fun K hK => ?_)
   refine steady_load_row rfl 40 _ rfl (w.heap.size + 1) rfl 40 (bs b) (0, 0) _ B1_1.out Try.underlying40 rfl infoV ?_
   go_simp; refine hK _ ?_; clear hK K
   iterate 2 (refine steady_step (fun K hK => ?_); apply steady_op rfl; (focus (intro wx hw; go_simp; exact ⟨rfl, hw⟩)); go_simp; refine hK _ ?_; clear hK K)
   refine steady_step (fun K hK => ?_)
   apply steady_op rfl
   ·intro wx hw; go_simp; exact (H4.out wx).mono fun e w3 h => ⟨h.1, gr_trans hw h.2⟩
   go_simp; refine hK _ ?_; clear hK K
   iterate 2 (refine steady_step (fun K hK => ?_); apply steady_op rfl; (focus (intro wx hw; go_simp; exact ⟨rfl, hw⟩)); go_simp; refine hK _ ?_; clear hK K)
   refine steady_nil ?_
   intro w2 hg2
   have G2 := Lib.hid (gr_trans (Gr.drew (Gr.refl _)) hg2)
   clear hg2
   have B0_2 := Lib.hid (gr_block G2.out B0_1.out)
   have B1_2 := Lib.hid (gr_block G2.out B1_1.out)
   have B2_2 := Lib.hid (gr_block G2.out B2_1.out)
   have B3_2 := Lib.hid (gr_block G2.out B3_1.out)
   have HG_2 := Lib.hid (gr_trans HG_1.out G2.out)
   have HZ_2 := Lib.hid (Nat.le_trans HZ_1.out G2.out.size)
   go_upto_region 10 with (fail)
   refine wp_region_steady_tail 11 (by kernel_rfl) (by kernel_rfl) ?_
   simp only [List.take_succ_cons, List.take_zero, List.drop_succ_cons, List.drop_zero]
   refine steady_step (fun K hK => ?_)
   refine steady_load_row rfl 40 _ rfl (w.heap.size + 3) rfl 40 (bs c) (0, 0) _ B3_2.out Try.underlying40 rfl infoV ?_
   go_simp; refine hK _ ?_; clear hK K
   iterate 8 (refine steady_step (fun K hK => ?_); apply steady_op rfl; (focus (intro wx hw; go_simp; exact ⟨rfl, hw⟩)); go_simp; refine hK _ ?_; clear hK K)
   refine steady_step (fun K hK => ?_)
   apply steady_op rfl
   ·intro wx hw; go_simp; exact (HFk.out wx).mono fun e w3 h => ⟨h.1, by obtain ⟨_, rfl⟩ := h; exact hw⟩
   go_simp; refine hK _ ?_; clear hK K
   refine steady_step (fun K hK => ?_)
   apply steady_op rfl
   ·intro wx hw; go_simp; exact (set_any c v k z wx).mono fun e w3 h => ⟨h.1, gr_trans hw h.2⟩
   go_simp; refine hK _ ?_; clear hK K
   refine steady_nil ?_
   intro w3 hg3
   have G3 := Lib.hid (gr_trans (Gr.drew (Gr.refl _)) hg3)
   clear hg3
   have B0_3 := Lib.hid (gr_block G3.out B0_2.out)
   have B1_3 := Lib.hid (gr_block G3.out B1_2.out)
   have B2_3 := Lib.hid (gr_block G3.out B2_2.out)
   have B3_3 := Lib.hid (gr_block G3.out B3_2.out)
   have HG_3 := Lib.hid (gr_trans HG_2.out G3.out)
   have HZ_3 := Lib.hid (Nat.le_trans HZ_2.out G3.out.size)
   refine wpList_store_row rfl 40 _ _ rfl (w.heap.size + 3) (bs (setI c v k z)) rfl rfl 40 (bs c) B3_3.out infoV rfl (bs_one _) ?_
   have hs3 := Lib.hid (setRow_block (c := bs (setI c v k z)) B3_3.out)
   have hs0 := Lib.hid ((setRow_block_other (w := w3) (c := bs (setI c v k z)) (show w.heap.size ≠ w.heap.size + 3 by omega)).trans B0_3.out)
   have hs1 := Lib.hid ((setRow_block_other (w := w3) (c := bs (setI c v k z)) (show w.heap.size + 1 ≠ w.heap.size + 3 by omega)).trans B1_3.out)
   have hs2 := Lib.hid ((setRow_block_other (w := w3) (c := bs (setI c v k z)) (show w.heap.size + 2 ≠ w.heap.size + 3 by omega)).trans B2_3.out)
   have hgg := Lib.hid (gr_setRow HG_3.out (g := w.heap.size + 3) (by omega) (bs (setI c v k z)))
   have hzz := Lib.hid (show w.heap.size + 4 ≤ (w3.setRow (w.heap.size + 3) (bs (setI c v k z))).heap.size by have := HZ_3.out; simpa [World.setRow] using this)
   go_wp2
   exact ⟨⟨k + 1, by omega, by go_num, hgg.out, hzz.out, hs0.out, hs1.out, hs2.out, by rw [HO.out]; exact hs3.out⟩, by simp [intOf]; omega⟩
  ·obtain rfl : L = k := by omega
   go_upto_region 12 with (fail)
   refine wp_region_lit ?_
   refine wpList_load_row rfl 40 _ rfl (w.heap.size + 3) rfl 40 (bs (ofK (fun _ => 0) v f L)) (0, 0) _ B3.out Try.underlying40 rfl infoV ?_
   refine wpList_store_row rfl 40 _ _ rfl (w.heap.size + 2) (bs (ofK (fun _ => 0) v f L)) rfl rfl 40 (bs fun _ => 0) B2.out infoV rfl (bs_one _) ?_
   have hs2 := Lib.hid (setRow_block (c := bs (ofK (fun _ => 0) v f L)) B2.out)
   have hgg := Lib.hid (gr_setRow HG.out (g := w.heap.size + 2) (by omega) (bs (ofK (fun _ => 0) v f L)))
   go_wp2
   exact bodyPost_ret (v := .tuple #[.agg (bs (ofK (fun _ => 0) v f L)), .int .i64 0]) (results_cell_slot Try.results16 _ _ (w.heap.size + 2) 40 _ (0, 0) _ rfl hs2.out Try.underlying40 rfl infoV _ rfl) rfl ⟨rfl, hgg.out⟩
set_option maxRecDepth 100000 in
set_option maxHeartbeats 1000000 in
theorem bin_refused (op v kk : Int) (a b : Nat → Int) (h : v = 0 ∨ (v == 0) = false ∧ kk < 14)
  (hA : ∀ w, Calls Try.prog 36 #[.int .i64 op] w fun e w' => e = .returned (.tuple #[.int .i64 v, .int .i64 kk]) ∧ w = w') (w : World) :
  Calls Try.prog 16 #[.int .i64 op, .agg (bs a), .agg (bs b)] w fun e w' => e = .returned (.tuple #[.agg (bs fun _ => 0), .int .i64 1]) ∧ Gr w w' := by
 have HA := Lib.hid hA
 clear hA
 have HH := Lib.hid (heap3 w (.cells (bs a) 40) (.cells (bs b) 40) (.cells (bs fun _ => 0) 40))
 rcases h with rfl | ⟨h1, h2⟩
 all_goals
  go_enter Try.func16, Try.ntmps16
  go_wp2_with (first | (go_at_call 36; refine (HA.out _).mono ?_; rintro e w' ⟨rfl, rfl⟩) | (refine wpList_store_row rfl 40 _ _ rfl (w.heap.size + 2) (bs fun _ => 0) rfl rfl 40 (bs fun _ => 0) HH.out.2.2 infoV rfl (bs_one _) ?_))
  exact bodyPost_ret (v := .tuple #[.agg (bs fun _ => 0), .int .i64 1]) (results_cell_slot Try.results16 _ _ (w.heap.size + 2) 40 _ (0, 0) _ rfl (setRow_block (c := bs fun _ => 0) HH.out.2.2) Try.underlying40 rfl infoV _ rfl) rfl ⟨rfl, gr_setRow ((((Gr.refl _).alloc _ _).alloc _ _).alloc _ _) (by omega) _⟩
end Ar
end Go.Proofs.Ytjoalcaooccbiaa
/- TakeP -/
namespace Go.Proofs.Ytjoalcaooccbiaa
open Go.RowKit VecM
theorem owns_gr {w w' : World} {base : Nat} {e : TypeId} {size : Nat} {v : Value} {n : Nat} {xs : List Value} (h : w.ownsRow base e size v n xs) (hg : Gr w w') : w'.ownsRow base e size v n xs :=
  h.kept (row := none) ⟨hg.os, hg.tape, hg.output, hg.size, fun k hk _ => hg.block k hk⟩ (by cases v.ownBlock <;> simp)
theorem owns_base {w : World} {base base' : Nat} {e : TypeId} {size : Nat} {v : Value} {n : Nat} {xs : List Value} (h : w.ownsRow base e size v n xs) (hb : base' ≤ base) : w.ownsRow base' e size v n xs := by
  refine ⟨h.1, ?_⟩
  rcases h.2 with h | ⟨g, cap, cur, h1, h2, h3⟩
  · exact .inl h
  · exact .inr ⟨g, cap, cur, h1, Nat.le_trans hb h2, h3⟩
theorem bs_list (b : Nat → Int) (j : Nat) (v : Value) (h : (bs b).toList[j]? = some v) : j < 16 ∧ v = .int .u8 (b j) := by
  have hj : j < 16 := by
    have := (List.getElem?_eq_some_iff.1 h).1
    simpa using this
  refine ⟨hj, ?_⟩
  have := bs_get b j hj
  rw [← Array.getElem?_toList, h] at this
  exact Option.some.inj this
theorem u64s_zero {w : World} {a : Value} {zs : Nat → Int} (h : U64s w a 0 zs) : ∃ x c, a = .slice x 0 c := by
  rcases h with ⟨_, x, c, rfl⟩ | ⟨_, b, o, c, rfl, _⟩
  · exact ⟨_, _, rfl⟩
  · exact ⟨_, _, rfl⟩
def needI (t : Int) : Int := if t = 127 ∨ t = 126 then 1 else if t = 123 then 2 else 0
def needS (ts : Nat → Int) : Nat → Int
  | 0 => 0
  | k + 1 => needS ts k + needI (ts k)
def okT (ts : Nat → Int) (len : Nat) : Prop := ∀ j, j < len → needI (ts j) ≠ 0
instance (ts : Nat → Int) (len : Nat) : Decidable (okT ts len) := by unfold okT; infer_instance
theorem needI_bd (t : Int) : 0 ≤ needI t ∧ needI t ≤ 2 := by
  unfold needI
  repeat' split
  all_goals omega
theorem needS_bd (ts : Nat → Int) : ∀ k : Nat, 0 ≤ needS ts k ∧ needS ts k ≤ 2 * k
  | 0 => by simp [needS]
  | k + 1 => by
    have := needS_bd ts k
    have := needI_bd (ts k)
    simp only [needS]; omega
def I64s (w : World) (sv : Value) (len : Nat) (zs : Nat → Int) : Prop :=
  (len = 0 ∧ ∃ x c, sv = .slice x 0 c) ∨ (len ≤ 9223372036854775807 ∧ ∃ b off cap, sv = .slice (some ⟨b, off, none⟩) len cap ∧ ∀ j, j < len → w.cell? ⟨b, off + j, none⟩ = some (.int .i64 (zs j)))
theorem i64s_gr {w w' : World} {sv : Value} {len : Nat} {zs : Nat → Int} (h : I64s w sv len zs) (hg : Gr w w') : I64s w' sv len zs := by
  rcases h with h | ⟨hl, b, off, cap, rfl, hc⟩
  · exact .inl h
  · exact .inr ⟨hl, b, off, cap, rfl, fun j hj => gr_cell hg (hc j hj)⟩
theorem i64s_zero {w : World} {a : Value} {zs : Nat → Int} (h : I64s w a 0 zs) : ∃ x c, a = .slice x 0 c := by
  rcases h with ⟨_, x, c, rfl⟩ | ⟨_, b, o, c, rfl, _⟩
  · exact ⟨_, _, rfl⟩
  · exact ⟨_, _, rfl⟩
def cntI (ts : Nat → Int) (len : Nat) : Int := if okT ts len then needS ts len else 0
def cntB (ts : Nat → Int) (len : Nat) : Bool := decide (okT ts len)
theorem cntI_yes {ts : Nat → Int} {len : Nat} (h : okT ts len) : cntI ts len = needS ts len := by unfold cntI; rw [if_pos h]
theorem cntI_no {ts : Nat → Int} {len : Nat} (h : ¬ okT ts len) : cntI ts len = 0 := by unfold cntI; rw [if_neg h]
theorem cntB_yes {ts : Nat → Int} {len : Nat} (h : okT ts len) : cntB ts len = true := decide_eq_true h
theorem cntB_no {ts : Nat → Int} {len : Nat} (h : ¬ okT ts len) : cntB ts len = false := decide_eq_false h
theorem ret_int_bool {a b : Int} {x y : Bool} (h : a = b) (h' : x = y) : Ending.returned (.tuple #[.int .i64 a, .bool x]) = .returned (.tuple #[.int .i64 b, .bool y]) := by rw [h, h']
set_option maxHeartbeats 1000000 in
theorem count_some (b off cap len : Nat) (ts : Nat → Int) (w : World) (hl : len ≤ 1099511627776) (hc : ∀ j, j < len → w.cell? ⟨b, off + j, none⟩ = some (.int .i64 (ts j))) :
    Calls Try.prog 72 #[.slice (some ⟨b, off, none⟩) len cap] w fun e w' => e = .returned (.tuple #[.int .i64 (cntI ts len), .bool (cntB ts len)]) ∧ w = w' := by
  have HC := Lib.hid hc
  clear hc
  go_enter Try.func72, Try.ntmps72
  go_wp2_with fail
  go_loop [4, 9] (fun n i => ∃ k : Nat, k ≤ len ∧ i = .int .i64 k ∧ n = .int .i64 (needS ts k) ∧ okT ts k) (fun _ i => len - (intOf i).toNat)
  case atStart => exact ⟨0, by omega, rfl, rfl, fun j hj => by omega⟩
  case round =>
    obtain ⟨k, hk, rfl, rfl, hok⟩ := hrel
    have HO := Lib.hid hok
    clear hok
    have hb := needS_bd ts k
    have hb2 : needS ts k ≤ 2199023255552 := by omega
    have hb3 := hb.1
    clear hb
    by_cases hlt : k < len
    · have h1 := HC.out k hlt
      generalize ht : ts k = t at *
      have HT := Lib.hid ht
      have hstep : ∀ d, needI t = d → needS ts k + d = needS ts (k + 1) := fun d hd => by simp only [needS]; rw [HT.out, hd]
      have HS := Lib.hid hstep
      have hokk : needI t ≠ 0 → okT ts (k + 1) := fun hn j hj => by
        by_cases hjk : j = k
        · rw [hjk, HT.out]; exact hn
        · exact HO.out j (by omega)
      have HK := Lib.hid hokk
      clear ht hstep hokk
      by_cases c1 : t = 127
      · subst c1
        go_wp2
        exact ⟨⟨k + 1, by omega, by go_num, by rw [← HS.out 1 rfl], HK.out (by decide)⟩, by simp [intOf]; omega⟩
      · have g1 : (t == 127) = false := beq_eq_false_iff_ne.2 c1
        by_cases c2 : t = 126
        · subst c2
          clear c1 g1
          go_wp2
          exact ⟨⟨k + 1, by omega, by go_num, by rw [← HS.out 1 rfl], HK.out (by decide)⟩, by simp [intOf]; omega⟩
        · have g2 : (t == 126) = false := beq_eq_false_iff_ne.2 c2
          by_cases c3 : t = 123
          · subst c3
            clear c1 g1 c2 g2
            go_wp2
            exact ⟨⟨k + 1, by omega, by go_num, by rw [← HS.out 2 rfl], HK.out (by decide)⟩, by simp [intOf]; omega⟩
          · have g3 : (t == 123) = false := beq_eq_false_iff_ne.2 c3
            have hno : ¬ okT ts len := fun hh => hh k hlt (by rw [HT.out]; unfold needI; rw [if_neg (by omega), if_neg c3])
            have HN := Lib.hid hno
            clear c1 c2 c3 hno
            go_wp2
            go_ret2
            exact ⟨ret_int_bool (cntI_no HN.out).symm (cntB_no HN.out).symm, rfl⟩
    · obtain rfl : len = k := by omega
      go_wp2
      go_ret2
      exact ⟨ret_int_bool (cntI_yes HO.out).symm (cntB_yes HO.out).symm, rfl⟩
theorem count_zero (a : Option Addr) (c : Nat) (w : World) :
    Calls Try.prog 72 #[.slice a 0 c] w fun e w' => e = .returned (.tuple #[.int .i64 0, .bool true]) ∧ w = w' := by
  go_enter Try.func72, Try.ntmps72
  go_wp2_with fail
  refine wp_loop_rounds 1 ?_
  rw [rounds_succ]
  go_wp2
  go_ret2
  exact ⟨rfl, rfl⟩
theorem count_any (sv : Value) (len : Nat) (ts : Nat → Int) (w : World) (hl : len ≤ 1099511627776) (h : I64s w sv len ts) :
    Calls Try.prog 72 #[sv] w fun e w' => e = .returned (.tuple #[.int .i64 (cntI ts len), .bool (cntB ts len)]) ∧ w = w' := by
  by_cases h0 : len = 0
  · subst h0
    obtain ⟨x, c, rfl⟩ := i64s_zero h
    have ok : okT ts 0 := fun j hj => by omega
    rw [cntI_yes ok, cntB_yes ok]
    exact count_zero x c w
  · rcases h with ⟨h, _⟩ | ⟨_, b, o, c, rfl, hc⟩
    · exact absurd h h0
    · exact count_some b o c len ts w hl hc
theorem info25 : (Try.prog.info? 40).map (fun i => (i.zero, i.size, i.bytes)) = some (some (.agg (bs fun _ => 0)), 16, 16) := by kernel_rfl
theorem bld25 : Try.prog.built 40 [] = some (bs fun _ => 0) := by kernel_rfl
def needN (ts : Nat → Int) (k : Nat) : Nat := (needS ts k).toNat
theorem needN_eq (ts : Nat → Int) (k : Nat) : (needN ts k : Int) = needS ts k := by have := (needS_bd ts k).1; unfold needN; omega
theorem needN_succ (ts : Nat → Int) (k : Nat) : (needN ts (k + 1) : Int) = needN ts k + needI (ts k) := by rw [needN_eq, needN_eq]; rfl
theorem needN_le (ts : Nat → Int) {k : Nat} : ∀ {m : Nat}, k ≤ m → needN ts k ≤ needN ts m
  | 0, h => by obtain rfl : k = 0 := by omega
               exact Nat.le_refl _
  | m + 1, h => by
    by_cases e : k = m + 1
    · subst e; exact Nat.le_refl _
    · have h1 := needN_le ts (show k ≤ m by omega)
      have h2 := needN_succ ts m
      have h3 := (needI_bd (ts m)).1
      omega
def takeV (ts zs : Nat → Int) (k : Nat) : Nat → Int :=
  if ts k = 127 then setI (fun _ => 0) 32 0 (zs (needN ts k)) else if ts k = 126 then setI (fun _ => 0) 64 0 (zs (needN ts k)) else setI (setI (fun _ => 0) 64 0 (zs (needN ts k))) 64 1 (zs (needN ts k + 1))
def vcs (f : Nat → Nat → Int) (k : Nat) : List Value := (List.range k).flatMap fun j => (bs (f j)).toList
theorem vcs_succ (f : Nat → Nat → Int) (k : Nat) : vcs f (k + 1) = vcs f k ++ (bs (f k)).toList := by unfold vcs; rw [List.range_succ, List.flatMap_append]; simp
theorem add_cell (w : World) (g j : Nat) (u : Option Value) (h : w.cell? ⟨g, j, none⟩ = u) : w.cell? ((⟨g, 0, none⟩ : Addr).add j) = u := by
  have : (⟨g, 0, none⟩ : Addr).add j = ⟨g, j, none⟩ := by unfold Addr.add; split <;> simp_all
  rw [this]; exact h
theorem news_cell (w0 : World) (c : Nat → Int) (t : TypeId) (j : Nat) (u : Value) (h : (bs c).toList[j]? = some u) : (w0.alloc (.cells (bs c) t)).cell? ((⟨w0.heap.size, 0, none⟩ : Addr).add j) = some u := by
  obtain ⟨hj, rfl⟩ := bs_list _ _ _ h
  exact add_cell _ _ _ _ ((cell_of_row _ _ j _ _ _ (heap_alloc_new _ _)).trans (bs_get _ j hj))
theorem bs_all (c : Nat → Int) (u : Value) (h : u ∈ (bs c).toList) : u.oneCell' = true := Array.all_eq_true'.1 (bs_one c) u (by simpa using h)
theorem put_fin' {w wr wx w3 : World} {e : TypeId} {u : Value} {n z : Nat} {xs : List Value} (hg : Gr w wr) (hx : Gr wr wx) (hown : wr.ownsRow w.heap.size e z u n xs) (hgb : wx.grownBy w3 u.ownBlock) : Gr w w3 :=
  (gr_trans hg hx).grown hgb (fun q hq => (hown.lt q hq).1)
theorem of1 (v : Int) (hv : v = 32 ∨ v = 64) (x : Int) (sv : Value) (w : World) (h : U64s w sv 1 (fun _ => x)) :
    Calls Try.prog 73 #[.int .i64 v, sv] w fun e w' => e = .returned (.agg (bs (setI (fun _ => 0) v 0 x))) ∧ Gr w w' := by
  have := of_any v sv 1 _ w h
  rcases hv with rfl | rfl
  · exact this
  · exact this
theorem of2 (x y : Int) (sv : Value) (w : World) (h : U64s w sv 2 (fun j => if j = 0 then x else y)) :
    Calls Try.prog 73 #[.int .i64 64, sv] w fun e w' => e = .returned (.agg (bs (setI (setI (fun _ => 0) 64 0 x) 64 1 y))) ∧ Gr w w' :=
  of_any 64 sv 2 _ w h
theorem u1 (w : World) (x : Int) (t : TypeId) : U64s (w.alloc (.cells #[.int .u64 x] t)) (.slice (some ⟨w.heap.size, 0, none⟩) 1 1) 1 (fun _ => x) :=
  .inr ⟨by decide, _, 0, 1, rfl, fun j hj => by
    obtain rfl : j = 0 := by omega
    exact (cell_of_row _ _ 0 _ _ _ (heap_alloc_new w _)).trans rfl⟩
theorem take_zero (a a' : Option Addr) (c c' : Nat) (w : World) :
    Calls Try.prog 32 #[.slice a 0 c, .slice a' 0 c'] w fun e w' => e = .returned (.tuple #[.slice none 0 0, .int .i64 0]) ∧ Gr w w' := by
  have HC := Lib.hid (count_zero a c w)
  go_enter Try.func32, Try.ntmps32
  go_wp2_with (go_at_call 72; refine HC.out.mono ?_; rintro e w' ⟨rfl, rfl⟩)
  refine wp_loop_rounds 1 ?_
  rw [rounds_succ]
  go_wp2
  go_ret2
  exact ⟨rfl, Gr.refl _⟩
theorem take_no (tv : Value) (n m : Nat) (n' : Option Addr) (hc : Nat) (ts : Nat → Int) (w : World) (hn : n ≤ 1099511627776) (ht : I64s w tv n ts) (h : ¬ (okT ts n ∧ needN ts n = m)) :
    Calls Try.prog 32 #[tv, .slice n' m hc] w fun e w' => e = .returned (.tuple #[.slice none 0 0, .int .i64 1]) ∧ Gr w w' := by
  have C := count_any tv n ts w hn ht
  by_cases ho : okT ts n
  · rw [cntI_yes ho, cntB_yes ho, ← needN_eq] at C
    have hne : ((needN ts n : Int) != (m : Int)) = true := by rw [bne_iff_ne]; intro e; exact h ⟨ho, by omega⟩
    generalize needN ts n = d at *
    have HC := Lib.hid C
    clear C h ht ho
    go_enter Try.func32, Try.ntmps32
    go_wp2_with (go_at_call 72; refine HC.out.mono ?_; rintro e w' ⟨rfl, rfl⟩)
    go_ret2
    exact ⟨rfl, Gr.refl _⟩
  · rw [cntI_no ho, cntB_no ho] at C
    have HC := Lib.hid C
    clear C h ht ho
    go_enter Try.func32, Try.ntmps32
    go_wp2_with (go_at_call 72; refine HC.out.mono ?_; rintro e w' ⟨rfl, rfl⟩)
    go_ret2
    exact ⟨rfl, Gr.refl _⟩
theorem cell_add {w : World} {g j : Nat} {u : Value} (h : w.cell? ((⟨g, 0, none⟩ : Addr).add j) = some u) : w.cell? ⟨g, j, none⟩ = some u := by
  have : (⟨g, 0, none⟩ : Addr).add j = ⟨g, j, none⟩ := by unfold Addr.add; split <;> simp_all
  rw [← this]; exact h
def ΦT (hb oN m c' : Nat) (u8 : Value) (xN yN : Int) (k : Nat) (v : Value) (wn : World) : Prop :=
  match k with
  | 0 => v = u8
  | 1 => v = (.slice (some ⟨hb, oN, none⟩) m c')
  | 2 => v = (.pointer (some ⟨hb, oN, none⟩))
  | 3 => v = (.int .u64 xN)
  | 4 => v = (.slice (some ⟨hb, oN, none⟩) m c')
  | 5 => v = (.pointer (some ⟨hb, oN + 1, none⟩))
  | 6 => v = (.int .u64 yN)
  | 7 => U64s wn v 2 (fun j => if j = 0 then xN else yN)
  | 8 => v = (.agg (bs (setI (setI (fun _ => 0) 64 0 xN) 64 1 yN)))
  | 9 => ∃ g, v = .slice (some ⟨g, 0, none⟩) 1 1 ∧ ∀ j u, (bs (setI (setI (fun _ => 0) 64 0 xN) 64 1 yN)).toList[j]? = some u → wn.cell? ((⟨g, 0, none⟩ : Addr).add j) = some u
  | _ => True
theorem ΦT_mono (hb oN m c' : Nat) (u8 : Value) (xN yN : Int) : ∀ k v wn wn', Gr wn wn' → ΦT hb oN m c' u8 xN yN k v wn → ΦT hb oN m c' u8 xN yN k v wn' := by
  intro k v wn wn' hg h
  match k with
  | 0 => exact h
  | 1 => exact h
  | 2 => exact h
  | 3 => exact h
  | 4 => exact h
  | 5 => exact h
  | 6 => exact h
  | 7 => exact u64s_gr h hg
  | 8 => exact h
  | 9 => exact h.imp fun g ⟨h1, h2⟩ => ⟨h1, fun j u hu => add_cell _ _ _ _ (gr_cell hg (cell_add (h2 j u hu)))⟩
  | k + 10 => trivial
set_option maxHeartbeats 4000000 in
set_option maxRecDepth 100000 in
theorem take_some (tb to tc hb ho hcap len n : Nat) (ts zs : Nat → Int) (w : World) (hl : len ≤ 1099511627776) (hok : okT ts len) (hn : needN ts len = n) (hcl : n ≤ hcap) (hn0 : 0 < n)
    (ht : ∀ j, j < len → w.cell? ⟨tb, to + j, none⟩ = some (.int .i64 (ts j))) (hc : ∀ j, j < n → w.cell? ⟨hb, ho + j, none⟩ = some (.int .u64 (zs j))) :
    Calls Try.prog 32 #[.slice (some ⟨tb, to, none⟩) len tc, .slice (some ⟨hb, ho, none⟩) n hcap] w fun e w' => ∃ sv, e = .returned (.tuple #[sv, .int .i64 0]) ∧ Gr w w' ∧ w'.ownsRow w.heap.size 40 16 sv len (vcs (takeV ts zs) len) := by
  have HT := Lib.hid ht
  have HC := Lib.hid hc
  have hcnt := count_some tb to tc len ts w hl ht
  rw [cntI_yes hok, cntB_yes hok, ← needN_eq, hn] at hcnt
  have hn2 : n ≤ 2199023255552 := by have := (needS_bd ts len).2; have := needN_eq ts len; omega
  have HN := Lib.hid hcnt
  have hmono := hn
  obtain ⟨i0, hi, hz0, hz1, hz2⟩ := info_parts info25
  have HI := Lib.hid hi
  have HZ0 := Lib.hid hz0
  have HZ1 := Lib.hid hz1
  have HZ2 := Lib.hid hz2
  clear ht hc hcnt hi hz0 hz1 hz2 hn
  go_enter Try.func32, Try.ntmps32
  go_wp2_with (go_at_call 72; refine HN.out.mono ?_; rintro e w' ⟨rfl, rfl⟩)
  go_loopw [1, 8, 26] (fun hv sv i wr => ∃ k m c' off' : Nat, k ≤ len ∧ i = .int .i64 k ∧ hv = .slice (some ⟨hb, off', none⟩) m c' ∧ needN ts k + m = n ∧ m ≤ c' ∧ (0 < m → off' = ho + needN ts k) ∧ Gr w wr ∧ wr.ownsRow w.heap.size 40 16 sv k (vcs (takeV ts zs) k)) (fun _ _ i _ => len - (intOf i).toNat)
  case atStart => exact ⟨0, n, hcap, ho, by omega, rfl, rfl, by simp [needN, needS], hcl, fun _ => by simp [needN, needS], Gr.refl _, World.ownsRow_nil _ _ _ _⟩
  case round =>
    obtain ⟨k, m, c', off', hk, rfl, rfl, hNm, hmc, hoff, hg, hown⟩ := hrel
    have HG := Lib.hid hg
    have HW := Lib.hid hown
    clear hg hown
    by_cases hlt : k < len
    · have h1 := gr_cell HG.out (HT.out k hlt)
      have hkk := hok k hlt
      by_cases c1 : ts k = 127
      · have hd : needI (ts k) = 1 := by rw [c1]; rfl
        have hnx := needN_succ ts k
        rw [hd] at hnx
        have hle := needN_le ts (show k + 1 ≤ len by omega)
        have hm1 : 1 ≤ m := by omega
        obtain rfl : off' = ho + needN ts k := hoff (by omega)
        have HX := Lib.hid (gr_cell HG.out (HC.out (needN ts k) (by omega)))
        have hx1 := HX.out
        have HVk := Lib.hid (show takeV ts zs k = setI (fun _ => 0) 32 0 (zs (needN ts k)) by unfold takeV; simp [c1])
        have HNx := Lib.hid hnx
        have HE := Lib.hid hle
        have HM := Lib.hid hNm
        rw [c1] at h1
        clear hd hnx hle hoff hNm
        generalize hNN : needN ts k = N at *
        have HO1 := Lib.hid (of1 32 (by decide) (zs N))
        go_wp2_with (first | (at_builtin; refine wpList_append_own _ rfl _ _ 70 rfl w.heap.size 40 i0 (.agg (bs fun _ => 0)) 16 16 Try.underlying70 HI.out HZ0.out HZ1.out HZ2.out rfl (by decide) u8 k _ rfl ((owns_gr HW.out (gr_trans ((Gr.refl wr).allocO _) HG1.out)).alloc _) ⟨w1.heap.size, 0, none⟩ 1 1 (bs (setI (fun _ => 0) 32 0 (zs N))).toList rfl rfl (fun j u hju => news_cell _ _ _ j u hju) (bs_all _) ?c3 ?c4 ?c5 ?_) | (go_at_call 73; refine (HO1.out _ _ (u1 wr (zs N) _)).mono ?_; rintro e w1 ⟨rfl, hg1⟩; have HG1 := Lib.hid hg1; clear hg1))
        case c3 => unfold maxLen; omega
        case c4 => omega
        case c5 => have := HG1.out.size; have := HG.out.size; simp at *; omega
        intro v' w3 hown2 hgb _
        have H1 := Lib.hid (put_fin' HG.out (gr_trans (gr_trans ((Gr.refl wr).allocO _) HG1.out) ((Gr.refl _).allocO _)) HW.out hgb)
        have H3 := Lib.hid (show w3.ownsRow w.heap.size 40 16 v' (k + 1) (vcs (takeV ts zs) (k + 1)) by rw [vcs_succ, HVk.out]; exact hown2)
        clear hown2 hgb
        go_wp2
        exact ⟨⟨k + 1, m - 1, c' - 1, if c' = 1 then ho + N else ho + N + 1, by omega, by go_num, by by_cases hq : c' = 1 <;> simp [hq], by have := HNx.out; have := HM.out; omega, by omega, fun hm => by rw [if_neg (by omega)]; have := HNx.out; omega, H1.out, H3.out⟩, by simp [intOf]; omega⟩
      · by_cases c2 : ts k = 126
        · have hd : needI (ts k) = 1 := by rw [c2]; rfl
          have hnx := needN_succ ts k
          rw [hd] at hnx
          have hle := needN_le ts (show k + 1 ≤ len by omega)
          have hm1 : 1 ≤ m := by omega
          obtain rfl : off' = ho + needN ts k := hoff (by omega)
          have HX := Lib.hid (gr_cell HG.out (HC.out (needN ts k) (by omega)))
          have hx1 := HX.out
          have HVk := Lib.hid (show takeV ts zs k = setI (fun _ => 0) 64 0 (zs (needN ts k)) by unfold takeV; simp [c2])
          have HNx := Lib.hid hnx
          have HE := Lib.hid hle
          have HM := Lib.hid hNm
          rw [c2] at h1
          clear hd hnx hle hoff hNm
          generalize hNN : needN ts k = N at *
          have HO1 := Lib.hid (of1 64 (by decide) (zs N))
          go_wp2_with (first | (at_builtin; refine wpList_append_own _ rfl _ _ 70 rfl w.heap.size 40 i0 (.agg (bs fun _ => 0)) 16 16 Try.underlying70 HI.out HZ0.out HZ1.out HZ2.out rfl (by decide) u8 k _ rfl ((owns_gr HW.out (gr_trans ((Gr.refl wr).allocO _) HG1.out)).alloc _) ⟨w1.heap.size, 0, none⟩ 1 1 (bs (setI (fun _ => 0) 64 0 (zs N))).toList rfl rfl (fun j u hju => news_cell _ _ _ j u hju) (bs_all _) ?c3 ?c4 ?c5 ?_) | (go_at_call 73; refine (HO1.out _ _ (u1 wr (zs N) _)).mono ?_; rintro e w1 ⟨rfl, hg1⟩; have HG1 := Lib.hid hg1; clear hg1))
          case c3 => unfold maxLen; omega
          case c4 => omega
          case c5 => have := HG1.out.size; have := HG.out.size; simp at *; omega
          intro v' w3 hown2 hgb _
          have H1 := Lib.hid (put_fin' HG.out (gr_trans (gr_trans ((Gr.refl wr).allocO _) HG1.out) ((Gr.refl _).allocO _)) HW.out hgb)
          have H3 := Lib.hid (show w3.ownsRow w.heap.size 40 16 v' (k + 1) (vcs (takeV ts zs) (k + 1)) by rw [vcs_succ, HVk.out]; exact hown2)
          clear hown2 hgb
          go_wp2
          exact ⟨⟨k + 1, m - 1, c' - 1, if c' = 1 then ho + N else ho + N + 1, by omega, by go_num, by by_cases hq : c' = 1 <;> simp [hq], by have := HNx.out; have := HM.out; omega, by omega, fun hm => by rw [if_neg (by omega)]; have := HNx.out; omega, H1.out, H3.out⟩, by simp [intOf]; omega⟩
        · have c3 : ts k = 123 := by
            unfold needI at hkk
            by_cases h3 : ts k = 123
            · exact h3
            · rw [if_neg (by omega), if_neg h3] at hkk; exact absurd rfl hkk
          clear c1 c2
          have hd : needI (ts k) = 2 := by rw [c3]; rfl
          have hnx := needN_succ ts k
          rw [hd] at hnx
          have hle := needN_le ts (show k + 1 ≤ len by omega)
          have hm1 : 2 ≤ m := by omega
          obtain rfl : off' = ho + needN ts k := hoff (by omega)
          have HX := Lib.hid (gr_cell HG.out (HC.out (needN ts k) (by omega)))
          have HY := Lib.hid (show wr.cell? ⟨hb, ho + needN ts k + 1, none⟩ = some (.int .u64 (zs (needN ts k + 1))) by rw [Nat.add_assoc]; exact gr_cell HG.out (HC.out (needN ts k + 1) (by omega)))
          have hmn1 : 1 < m := by omega
          have hmn0 : 0 < m := by omega
          have hc2 : 2 ≤ c' := by omega
          have hmi : (1 : Int) < (m : Int) := by omega
          have hm0 : (0 : Int) < (m : Int) := by omega
          have HVk := Lib.hid (show takeV ts zs k = setI (setI (fun _ => 0) 64 0 (zs (needN ts k))) 64 1 (zs (needN ts k + 1)) by unfold takeV; simp [c3])
          have HNx := Lib.hid hnx
          have HE := Lib.hid hle
          have HM := Lib.hid hNm
          rw [c3] at h1
          clear hd hnx hle hoff hNm
          generalize hNN : needN ts k = N at *
          generalize hxx : zs N = xN at *
          generalize hyy : zs (N + 1) = yN at *
          clear hxx hyy
          generalize hoo : ho + N = oN at *
          have HOO := Lib.hid hoo
          clear hoo
          go_upto_region 9 with (fail)
          refine wp_region_net_tail 10 (ΦT hb oN m c' u8 xN yN) (by kernel_rfl) (by kernel_rfl) (ΦT_mono hb oN m c' u8 xN yN) ?_ ?_
          · simp only [List.take_succ_cons, List.take_zero]
            refine ⟨?_, ?_, ?_, ?_, ?_, ?_, ?_, ?_, ?_, ?_, trivial⟩
            · refine NetStep.of rfl fun ρ wx hw hρc hρf hin hdep => ?_
              have e8 : ρ (.tmp 8) = u8 := hin 8 (by kernel_rfl)
              go_simp
              exact ⟨rfl, Gr.refl _⟩
            · refine NetStep.of rfl fun ρ wx hw hρc hρf hin hdep => ?_
              have e1 : ρ (.tmp 1) = (.slice (some ⟨hb, oN, none⟩) m c') := hin 1 (by kernel_rfl)
              go_simp
              exact ⟨rfl, Gr.refl _⟩
            · refine NetStep.of rfl fun ρ wx hw hρc hρf hin hdep => ?_
              have e32 : ρ (.tmp 32) = (.slice (some ⟨hb, oN, none⟩) m c') := hdep 1 32 (by kernel_rfl)
              go_simp
              exact ⟨rfl, Gr.refl _⟩
            · refine NetStep.of rfl fun ρ wx hw hρc hρf hin hdep => ?_
              have e33 : ρ (.tmp 33) = (.pointer (some ⟨hb, oN, none⟩)) := hdep 2 33 (by kernel_rfl)
              have hcx := gr_cell (gr_trans (Gr.drew (Gr.refl wr)) hw) HX.out
              go_simp
              exact ⟨rfl, Gr.refl _⟩
            · refine NetStep.of rfl fun ρ wx hw hρc hρf hin hdep => ?_
              have e1 : ρ (.tmp 1) = (.slice (some ⟨hb, oN, none⟩) m c') := hin 1 (by kernel_rfl)
              go_simp
              exact ⟨rfl, Gr.refl _⟩
            · refine NetStep.of rfl fun ρ wx hw hρc hρf hin hdep => ?_
              have e35 : ρ (.tmp 35) = (.slice (some ⟨hb, oN, none⟩) m c') := hdep 4 35 (by kernel_rfl)
              go_simp
              exact ⟨rfl, Gr.refl _⟩
            · refine NetStep.of rfl fun ρ wx hw hρc hρf hin hdep => ?_
              have e36 : ρ (.tmp 36) = (.pointer (some ⟨hb, oN + 1, none⟩)) := hdep 5 36 (by kernel_rfl)
              have hcx := gr_cell (gr_trans (Gr.drew (Gr.refl wr)) hw) HY.out
              go_simp
              exact ⟨rfl, Gr.refl _⟩
            · refine NetStep.of rfl fun ρ wx hw hρc hρf hin hdep => ?_
              have e34 : ρ (.tmp 34) = (.int .u64 xN) := hdep 3 34 (by kernel_rfl)
              have e37 : ρ (.tmp 37) = (.int .u64 yN) := hdep 6 37 (by kernel_rfl)
              go_simp
              refine ⟨.inr ⟨by decide, wx.heap.size, 0, 2, rfl, fun j hj => ?_⟩, (Gr.refl _).alloc _ _⟩
              match j, hj with
              | 0, _ => exact (cell_of_row _ _ 0 _ _ _ (heap_alloc_new wx _)).trans rfl
              | 1, _ => exact (cell_of_row _ _ 1 _ _ _ (heap_alloc_new wx _)).trans rfl
            · refine NetStep.of rfl fun ρ wx hw hρc hρf hin hdep => ?_
              have e38 := Lib.hid (show U64s wx (ρ (.tmp 38)) 2 (fun j => if j = 0 then xN else yN) from hdep 7 38 (by kernel_rfl))
              go_simp
              exact (of2 xN yN _ wx e38.out).mono fun e w4 h => ⟨_, h.1, rfl, h.2⟩
            · refine NetStep.of rfl fun ρ wx hw hρc hρf hin hdep => ?_
              have e39 : ρ (.tmp 39) = (.agg (bs (setI (setI (fun _ => 0) 64 0 xN) 64 1 yN))) := hdep 8 39 (by kernel_rfl)
              go_simp
              exact ⟨⟨wx.heap.size, rfl, fun j u hu => news_cell _ _ _ j u hu⟩, (Gr.refl _).alloc _ _⟩
          · intro V wN hgN hV
            have hs31 : V 31 = u8 := hV 0 _ 31 (by decide) rfl rfl
            obtain ⟨g9, hs40, hcell9⟩ := hV 9 _ 40 (by decide) rfl rfl
            have HN := Lib.hid (gr_trans (Gr.drew (Gr.refl _)) hgN)
            clear hV hgN
            simp only [List.take_succ_cons, List.take_zero, List.drop_succ_cons, List.drop_zero, putAll, Act.put, Option.map_some, Option.getD_some, List.setIfInBounds_toArray, List.set_cons_succ, List.set_cons_zero]
            rw [hs31, hs40]
            clear hs31 hs40
            refine wpList_append_own _ rfl _ _ 70 rfl w.heap.size 40 i0 (.agg (bs fun _ => 0)) 16 16 Try.underlying70 HI.out HZ0.out HZ1.out HZ2.out rfl (by decide) u8 k _ rfl (owns_gr HW.out HN.out) ⟨g9, 0, none⟩ 1 1 (bs (setI (setI (fun _ => 0) 64 0 xN) 64 1 yN)).toList rfl rfl hcell9 (bs_all _) ?c3 ?c4 ?c5 ?_
            case c3 => unfold maxLen; omega
            case c4 => omega
            case c5 => have := HN.out.size; have := HG.out.size; simp at *; omega
            intro v' w3 hown2 hgb _
            have H1 := Lib.hid (put_fin' HG.out HN.out HW.out hgb)
            have H3 := Lib.hid (show w3.ownsRow w.heap.size 40 16 v' (k + 1) (vcs (takeV ts zs) (k + 1)) by rw [vcs_succ, HVk.out]; exact hown2)
            clear hown2 hgb
            go_wp2
            exact ⟨⟨k + 1, m - 2, c' - 2, if c' = 2 then oN + 1 else oN + 1 + 1, by omega, by go_num, by by_cases hq : c' = 2 <;> simp [hq, Nat.sub_sub], by have := HNx.out; have := HM.out; omega, by omega, fun hm => by rw [if_neg (by omega)]; have := HOO.out; have := HNx.out; omega, H1.out, H3.out⟩, by simp [intOf]; omega⟩
    · obtain rfl : len = k := by omega
      go_wp2
      go_ret2
      exact ⟨_, rfl, HG.out, HW.out⟩
def U64c (w : World) (sv : Value) (len : Nat) (zs : Nat → Int) : Prop :=
  (len = 0 ∧ ∃ x c, sv = .slice x 0 c) ∨ (len ≤ 9223372036854775807 ∧ ∃ b off cap, len ≤ cap ∧ sv = .slice (some ⟨b, off, none⟩) len cap ∧ ∀ j, j < len → w.cell? ⟨b, off + j, none⟩ = some (.int .u64 (zs j)))
theorem u64s_of_c {w : World} {sv : Value} {len : Nat} {zs : Nat → Int} (h : U64c w sv len zs) : U64s w sv len zs := by
  rcases h with h | ⟨hl, b, o, c, _, rfl, hc⟩
  · exact .inl h
  · exact .inr ⟨hl, b, o, c, rfl, hc⟩
theorem u64c_gr {w w' : World} {sv : Value} {len : Nat} {zs : Nat → Int} (h : U64c w sv len zs) (hg : Gr w w') : U64c w' sv len zs := by
  rcases h with h | ⟨hl, b, off, cap, hcap, rfl, hc⟩
  · exact .inl h
  · exact .inr ⟨hl, b, off, cap, hcap, rfl, fun j hj => gr_cell hg (hc j hj)⟩
theorem u64c_zero {w : World} {a : Value} {zs : Nat → Int} (h : U64c w a 0 zs) : ∃ x c, a = .slice x 0 c := by
  rcases h with ⟨_, x, c, rfl⟩ | ⟨_, b, o, c, _, rfl, _⟩
  · exact ⟨_, _, rfl⟩
  · exact ⟨_, _, rfl⟩
theorem slice_u64c {w : World} {sv : Value} {n : Nat} {ts : Nat → Int} (h : U64c w sv n ts) : ∃ a c, sv = .slice a n c := by
  rcases h with ⟨rfl, x, c, rfl⟩ | ⟨_, b, o, c, _, rfl, _⟩
  · exact ⟨_, _, rfl⟩
  · exact ⟨_, _, rfl⟩
def takX (ts : Nat → Int) (n m : Nat) : Int := if okT ts n ∧ needN ts n = m then 0 else 1
def takN (ts : Nat → Int) (n m : Nat) : Nat := if okT ts n ∧ needN ts n = m then n else 0
theorem takX_yes {ts : Nat → Int} {n m : Nat} (h : okT ts n ∧ needN ts n = m) : takX ts n m = 0 := if_pos h
theorem takX_no {ts : Nat → Int} {n m : Nat} (h : ¬ (okT ts n ∧ needN ts n = m)) : takX ts n m = 1 := if_neg h
theorem takN_yes {ts : Nat → Int} {n m : Nat} (h : okT ts n ∧ needN ts n = m) : takN ts n m = n := if_pos h
theorem takN_no {ts : Nat → Int} {n m : Nat} (h : ¬ (okT ts n ∧ needN ts n = m)) : takN ts n m = 0 := if_neg h
theorem needN_pos {ts : Nat → Int} {n : Nat} (h : okT ts n) (hn : n ≠ 0) : 0 < needN ts n := by
  have h1 := needN_le ts (show 1 ≤ n by omega)
  have h2 : (needN ts 1 : Int) = needN ts 0 + needI (ts 0) := needN_succ ts 0
  have h3 := h 0 (by omega)
  have h4 := (needI_bd (ts 0)).1
  omega
section
variable {tv hv : Value} {n m : Nat} {ts zs : Nat → Int} {w : World}
theorem take_any (hn : n ≤ 1099511627776) (ht : I64s w tv n ts) (hh : U64c w hv m zs) :
    Calls Try.prog 32 #[tv, hv] w fun e w' => ∃ sv, e = .returned (.tuple #[sv, .int .i64 (takX ts n m)]) ∧ Gr w w' ∧ w'.ownsRow w.heap.size 40 16 sv (takN ts n m) (vcs (takeV ts zs) (takN ts n m)) := by
  by_cases h : okT ts n ∧ needN ts n = m
  · rw [takX_yes h, takN_yes h]
    obtain ⟨ho, hm⟩ := h
    by_cases h0 : n = 0
    · subst h0
      obtain rfl : m = 0 := by rw [← hm]; simp [needN, needS]
      obtain ⟨a, c, rfl⟩ := i64s_zero ht
      obtain ⟨a', c', rfl⟩ := u64c_zero hh
      exact (take_zero a a' c c' w).mono fun e w' h => ⟨_, h.1, h.2, World.ownsRow_nil _ _ _ _⟩
    · have hp := needN_pos ho h0
      rcases ht with ⟨h, _⟩ | ⟨_, tb, to, tc, rfl, ht⟩
      · exact absurd h h0
      · rcases hh with ⟨h, _⟩ | ⟨_, b, off, cap, hcap, rfl, hc⟩
        · omega
        · exact take_some tb to tc b off cap n m ts zs w hn ho hm hcap (by omega) ht hc
  · rw [takX_no h, takN_no h]
    obtain ⟨a', c', e2⟩ := slice_u64c hh
    subst e2
    exact (take_no tv n m a' c' ts w hn ht h).mono fun e w' h => ⟨_, h.1, h.2, World.ownsRow_nil _ _ _ _⟩
end
end Go.Proofs.Ytjoalcaooccbiaa
/- MvSw -/
namespace Go.Proofs.Ytjoalcaooccbiaa
open Go.RowKit VecM
namespace Mv
def swzV (a s : Nat → Int) : Nat → Int := fun m => if s m < 16 then a (s m).toNat else 0
def upto (k : Nat) (f : Nat → Int) : Nat → Int := fun m => if m < k then f m else 0
theorem upto0 (f : Nat → Int) : upto 0 f = fun _ => 0 := by funext m; unfold upto; rw [if_neg (by omega)]
theorem upto_succ (f : Nat → Int) (k : Nat) : upd (upto k f) k (f k) = upto (k + 1) f := by
 funext m; unfold upd upto
 by_cases h : m = k
 ·subst h; rw [if_pos rfl, if_pos (by omega)]
 ·rw [if_neg h]
  by_cases h2 : m < k
  ·rw [if_pos h2, if_pos (by omega)]
  ·rw [if_neg h2, if_neg (by omega)]
theorem upto_skip (f : Nat → Int) (k : Nat) (h : f k = 0) : upto k f = upto (k + 1) f := by
 funext m; unfold upto
 by_cases h1 : m = k
 ·subst h1; rw [if_neg (by omega), if_pos (by omega), h]
 ·by_cases h2 : m < k
  ·rw [if_pos h2, if_pos (by omega)]
  ·rw [if_neg h2, if_neg (by omega)]
theorem upto_all (f : Nat → Int) : bs (upto 16 f) = bs f := bs_congr fun m hm => by unfold upto; rw [if_pos hm]
set_option maxHeartbeats 1000000 in
theorem swizzle_any (a s : Nat → Int) (hs : Byt s) (w : World) : Calls Try.prog 26 #[.agg (bs a), .agg (bs s)] w fun e w' => e = .returned (.agg (bs (swzV a s))) ∧ Gr w w' := by
 rw [← upto_all (swzV a s)]
 have HB := Lib.hid hs
 clear hs
 have hS := St.start w
 go_enter Try.func26, Try.ntmps26
 go_upto_region 0 with (fail)
 refine wp_region_lit ?_
 refine sl_box hS rfl _ 40 (box_vec rfl rfl) ?_
 clear hS
 intro p1 wk hS
 refine sl_box hS rfl _ 40 (box_vec rfl rfl) ?_
 clear hS
 intro p2 wk hS
 refine sl_box hS rfl _ 40 (alloc_vec rfl) ?_
 clear hS
 intro p3 wk hS
 go_wp2_with (first | (refine ldV hS rfl _ rfl rfl ?_) | (refine stV hS rfl _ _ rfl rfl rfl ?_; clear hS; intro wk hS) | (refine sl_box hS rfl _ 40 (box_vec rfl rfl) ?_; clear hS; intro bk wk hS) | (refine sl_box hS rfl _ 40 (alloc_vec rfl) ?_; clear hS; intro p4 wk hS) | (refine onlyN_end ?_) | (refine onlyN_now ?_))
 go_loopw [9] (fun u wr => ∃ k : Nat, k ≤ 16 ∧ u = .int .i64 k ∧ St w [⟨p4, bs (upto k (swzV a s)), 40⟩, ⟨p3, bs (fun _ => 0), 40⟩, ⟨p2, bs s, 40⟩, ⟨p1, bs a, 40⟩] wr) (fun u _ => 16 - (intOf u).toNat)
 case atStart => exact ⟨0, by omega, rfl, by rw [upto0]; exact hS⟩
 case round =>
  obtain ⟨k, hk, rfl, hS⟩ := hrel
  by_cases hlt : k < 16
  ·have hv := Lib.hid (bs_get s k hlt)
   have hw := upto_succ (swzV a s) k
   have hn := Lib.hid (upto_skip (swzV a s) k)
   have hf := Lib.hid (show swzV a s k = if s k < 16 then a (s k).toNat else 0 from rfl)
   have hb := HB.out k
   obtain ⟨x, hx⟩ : ∃ x : Nat, s k = x := ⟨(s k).toNat, by omega⟩
   rw [hx] at hf hv hb
   clear hx
   have hw' := Lib.hid hw
   clear hw
   by_cases hc : x < 16
   ·have hva := Lib.hid (bs_get a x hc)
    have hpt := Lib.hid (bs_upd (upto k (swzV a s)) k (a x) hlt)
    have hf2 := Lib.hid (show swzV a s k = a x by rw [hf.out, if_pos (by omega)]; rfl)
    generalize a x = z at *
    go_wp2_with (first | (refine ldV hS rfl _ rfl rfl ?_) | (refine stV hS rfl _ _ rfl rfl rfl ?_; clear hS; intro wk hS) | (refine sl_box hS rfl _ 40 (box_vec rfl rfl) ?_; clear hS; intro bk wk hS) | (refine sl_box hS rfl _ 40 (alloc_vec rfl) ?_; clear hS; intro bk wk hS) | (refine onlyN_end ?_) | (refine onlyN_now ?_) | (refine sl_idx rfl 40 5 _ _ rfl rfl _ k rfl Try.underlying40 info8 size8 Try.underlying5 hlt hv.out ?_) | (refine sl_addr rfl 40 5 _ _ rfl rfl _ x rfl Try.underlying40 info8 size8 hc ?_) | (refine sl_addr rfl 40 5 _ _ rfl rfl _ k rfl Try.underlying40 info8 size8 hlt ?_) | (refine sl_cell hS rfl _ _ rfl rfl (by repeat (first | exact Has.hd | apply Has.tl)) hva.out (by intro w hc; go_simp) ?_) | (refine sl_put hS rfl 5 _ _ rfl rfl rfl (by repeat (first | exact Rep.hd | apply Rep.tl)) (by exact hlt) hpt.out info8 size8 rfl ?_; clear hS; intro wk hS))
    exact ⟨⟨k + 1, by omega, by go_num, by rw [← hw'.out, hf2.out]; exact hS⟩, by simp [intOf]; omega⟩
   ·have hf2 := Lib.hid (show swzV a s k = 0 by rw [hf.out, if_neg (by omega)])
    go_wp2_with (first | (refine ldV hS rfl _ rfl rfl ?_) | (refine stV hS rfl _ _ rfl rfl rfl ?_; clear hS; intro wk hS) | (refine sl_box hS rfl _ 40 (box_vec rfl rfl) ?_; clear hS; intro bk wk hS) | (refine sl_box hS rfl _ 40 (alloc_vec rfl) ?_; clear hS; intro bk wk hS) | (refine onlyN_end ?_) | (refine onlyN_now ?_) | (refine sl_idx rfl 40 5 _ _ rfl rfl _ k rfl Try.underlying40 info8 size8 Try.underlying5 hlt hv.out ?_))
    exact ⟨⟨k + 1, by omega, by go_num, by rw [← hn.out hf2.out]; exact hS⟩, by simp [intOf]; omega⟩
  ·obtain rfl : k = 16 := by omega
   go_wp2_with (first | (refine ldV hS rfl _ rfl rfl ?_) | (refine stV hS rfl _ _ rfl rfl rfl ?_; clear hS; intro wk hS) | (refine sl_box hS rfl _ 40 (box_vec rfl rfl) ?_; clear hS; intro bk wk hS) | (refine sl_box hS rfl _ 40 (alloc_vec rfl) ?_; clear hS; intro bk wk hS) | (refine onlyN_end ?_) | (refine onlyN_now ?_))
   refine sl_ret hS Try.results26 (by rfl) (by repeat (first | exact Has.hd | apply Has.tl)) Try.underlying40 rfl (by exact infoV) (by rfl) ?_
   exact ⟨rfl, hS.gr⟩
def shV (a b s : Nat → Int) : Nat → Int := fun m => if s m < 16 then a (s m).toNat else b (s m - 16).toNat
set_option maxHeartbeats 2000000 in
theorem shuffle_ok (a b s : Nat → Int) (hs : Byt s) (ho : ∀ m, m < 16 → s m < 32) (w : World) : Calls Try.prog 25 #[.agg (bs s), .agg (bs a), .agg (bs b)] w fun e w' => e = .returned (.tuple #[.agg (bs (shV a b s)), .int .i64 0]) ∧ Gr w w' := by
 rw [← upto_all (shV a b s)]
 have HB := Lib.hid hs
 have HO := Lib.hid ho
 clear hs ho
 have hS := St.start w
 go_enter Try.func25, Try.ntmps25
 go_upto_region 0 with (fail)
 refine wp_region_lit ?_
 refine sl_box hS rfl _ 40 (box_vec rfl rfl) ?_
 clear hS
 intro p1 wk hS
 refine sl_box hS rfl _ 40 (box_vec rfl rfl) ?_
 clear hS
 intro p2 wk hS
 refine sl_box hS rfl _ 40 (box_vec rfl rfl) ?_
 clear hS
 intro p3 wk hS
 refine sl_box hS rfl _ 40 (alloc_vec rfl) ?_
 clear hS
 intro p4 wk hS
 go_wp2_with (first | (refine ldV hS rfl _ rfl rfl ?_) | (refine stV hS rfl _ _ rfl rfl rfl ?_; clear hS; intro wk hS) | (refine sl_box hS rfl _ 40 (box_vec rfl rfl) ?_; clear hS; intro bk wk hS) | (refine sl_box hS rfl _ 40 (alloc_vec rfl) ?_; clear hS; intro p5 wk hS) | (refine onlyN_end ?_) | (refine onlyN_now ?_))
 go_loopw [12] (fun u wr => ∃ k : Nat, k ≤ 16 ∧ u = .int .i64 k ∧  St w [⟨p5, bs (upto k (shV a b s)), 40⟩, ⟨p4, bs (fun _ => 0), 40⟩, ⟨p3, bs b, 40⟩, ⟨p2, bs a, 40⟩, ⟨p1, bs s, 40⟩] wr) (fun u _ => 16 - (intOf u).toNat)
 case atStart => exact ⟨0, by omega, rfl,  by rw [upto0]; exact hS⟩
 case round =>
  obtain ⟨k, hk, rfl,  hS⟩ := hrel
  by_cases hlt : k < 16
  ·have hv := Lib.hid (bs_get s k hlt)
   have hw' := Lib.hid (upto_succ (shV a b s) k)
   have hf := Lib.hid (show shV a b s k = if s k < 16 then a (s k).toNat else b (s k - 16).toNat from rfl)
   have hb := HB.out k
   obtain ⟨x, hx⟩ : ∃ x : Nat, s k = x := ⟨(s k).toNat, by omega⟩
   have hx' := Lib.hid hx
   rw [hx] at hf hv hb
   clear hx
   by_cases hc : x < 16
   ·have hva := Lib.hid (bs_get a x hc)
    have hpt := Lib.hid (bs_upd (upto k (shV a b s)) k (a x) hlt)
    have hf2 := Lib.hid (show shV a b s k = a x by rw [hf.out, if_pos (by omega)]; rfl)
    generalize a x = z at *
    go_wp2_with (first | (refine ldV hS rfl _ rfl rfl ?_) | (refine stV hS rfl _ _ rfl rfl rfl ?_; clear hS; intro wk hS) | (refine sl_box hS rfl _ 40 (box_vec rfl rfl) ?_; clear hS; intro bk wk hS) | (refine sl_box hS rfl _ 40 (alloc_vec rfl) ?_; clear hS; intro bk wk hS) | (refine onlyN_end ?_) | (refine onlyN_now ?_) | (refine sl_idx rfl 40 5 _ _ rfl rfl _ k rfl Try.underlying40 info8 size8 Try.underlying5 hlt hv.out ?_) | (refine sl_addr rfl 40 5 _ _ rfl rfl _ x rfl Try.underlying40 info8 size8 hc ?_) | (refine sl_addr rfl 40 5 _ _ rfl rfl _ k rfl Try.underlying40 info8 size8 hlt ?_) | (refine sl_cell hS rfl _ _ rfl rfl (by repeat (first | exact Has.hd | apply Has.tl)) hva.out (by intro w hc; go_simp) ?_) | (refine sl_put hS rfl 5 _ _ rfl rfl rfl (by repeat (first | exact Rep.hd | apply Rep.tl)) (by exact hlt) hpt.out info8 size8 rfl ?_; clear hS; intro wk hS))
    exact ⟨⟨k + 1, by omega, by go_num,  by rw [← hw'.out, hf2.out]; exact hS⟩, by simp [intOf]; omega⟩
   ·have hd : x < 32 := by have := HO.out k hlt; rw [hx'.out] at this; omega
    have _ := hd
    ·obtain ⟨y, rfl⟩ : ∃ y : Nat, x = y + 16 := ⟨x - 16, by omega⟩
     have hy : y < 16 := by omega
     have hva := Lib.hid (bs_get b y hy)
     have hpt := Lib.hid (bs_upd (upto k (shV a b s)) k (b y) hlt)
     have hf2 := Lib.hid (show shV a b s k = b y by rw [hf.out, if_neg (by omega)]; congr 1; omega)
     have hsb : IntKind.u8.wrap (((y + 16 : Nat) : Int) - 16) = (y : Int) := by rw [IntKind.wrap_u8]; omega
     generalize b y = z at *
     go_wp2_with (first | (refine ldV hS rfl _ rfl rfl ?_) | (refine stV hS rfl _ _ rfl rfl rfl ?_; clear hS; intro wk hS) | (refine sl_box hS rfl _ 40 (box_vec rfl rfl) ?_; clear hS; intro bk wk hS) | (refine sl_box hS rfl _ 40 (alloc_vec rfl) ?_; clear hS; intro bk wk hS) | (refine onlyN_end ?_) | (refine onlyN_now ?_) | (refine sl_idx rfl 40 5 _ _ rfl rfl _ k rfl Try.underlying40 info8 size8 Try.underlying5 hlt hv.out ?_) | (refine sl_addr rfl 40 5 _ _ rfl rfl _ y (congrArg _ (by first | exact hsb | omega)) Try.underlying40 info8 size8 hy ?_) | (refine sl_addr rfl 40 5 _ _ rfl rfl _ k rfl Try.underlying40 info8 size8 hlt ?_) | (refine sl_cell hS rfl _ _ rfl rfl (by repeat (first | exact Has.hd | apply Has.tl)) hva.out (by intro w hc; go_simp) ?_) | (refine sl_put hS rfl 5 _ _ rfl rfl rfl (by repeat (first | exact Rep.hd | apply Rep.tl)) (by exact hlt) hpt.out info8 size8 rfl ?_; clear hS; intro wk hS))
     exact ⟨⟨k + 1, by omega, by go_num,  by rw [← hw'.out, hf2.out]; exact hS⟩, by simp [intOf]; omega⟩
  ·obtain rfl : k = 16 := by omega
   go_wp2_with (first | (refine ldV hS rfl _ rfl rfl ?_) | (refine stV hS rfl _ _ rfl rfl rfl ?_; clear hS; intro wk hS) | (refine sl_box hS rfl _ 40 (box_vec rfl rfl) ?_; clear hS; intro bk wk hS) | (refine sl_box hS rfl _ 40 (alloc_vec rfl) ?_; clear hS; intro bk wk hS) | (refine onlyN_end ?_) | (refine onlyN_now ?_))
   refine sl_ret2 hS Try.results25 (by rfl) (by repeat (first | exact Has.hd | apply Has.tl)) Try.underlying40 rfl (by exact infoV) (by rfl) ?_
   exact ⟨rfl, hS.gr⟩
set_option maxHeartbeats 2000000 in
theorem shuffle_bad (a b s : Nat → Int) (hs : Byt s) (ho : ∃ m, m < 16 ∧ 32 ≤ s m) (w : World) : Calls Try.prog 25 #[.agg (bs s), .agg (bs a), .agg (bs b)] w fun e w' => e = .returned (.tuple #[.agg (bs fun _ => 0), .int .i64 1]) ∧ Gr w w' := by
 have HB := Lib.hid hs
 have HO := Lib.hid ho
 clear hs ho
 have hS := St.start w
 go_enter Try.func25, Try.ntmps25
 go_upto_region 0 with (fail)
 refine wp_region_lit ?_
 refine sl_box hS rfl _ 40 (box_vec rfl rfl) ?_
 clear hS
 intro p1 wk hS
 refine sl_box hS rfl _ 40 (box_vec rfl rfl) ?_
 clear hS
 intro p2 wk hS
 refine sl_box hS rfl _ 40 (box_vec rfl rfl) ?_
 clear hS
 intro p3 wk hS
 refine sl_box hS rfl _ 40 (alloc_vec rfl) ?_
 clear hS
 intro p4 wk hS
 go_wp2_with (first | (refine ldV hS rfl _ rfl rfl ?_) | (refine stV hS rfl _ _ rfl rfl rfl ?_; clear hS; intro wk hS) | (refine sl_box hS rfl _ 40 (box_vec rfl rfl) ?_; clear hS; intro bk wk hS) | (refine sl_box hS rfl _ 40 (alloc_vec rfl) ?_; clear hS; intro p5 wk hS) | (refine onlyN_end ?_) | (refine onlyN_now ?_))
 go_loopw [12] (fun u wr => ∃ k : Nat, k ≤ 16 ∧ u = .int .i64 k ∧ (∀ i, i < k → s i < 32) ∧ St w [⟨p5, bs (upto k (shV a b s)), 40⟩, ⟨p4, bs (fun _ => 0), 40⟩, ⟨p3, bs b, 40⟩, ⟨p2, bs a, 40⟩, ⟨p1, bs s, 40⟩] wr) (fun u _ => 16 - (intOf u).toNat)
 case atStart => exact ⟨0, by omega, rfl, (fun i hi => absurd hi (Nat.not_lt_zero _)), by rw [upto0]; exact hS⟩
 case round =>
  obtain ⟨k, hk, rfl, hJ, hS⟩ := hrel
  by_cases hlt : k < 16
  ·have HJ := Lib.hid hJ
   clear hJ
   have hv := Lib.hid (bs_get s k hlt)
   have hw' := Lib.hid (upto_succ (shV a b s) k)
   have hf := Lib.hid (show shV a b s k = if s k < 16 then a (s k).toNat else b (s k - 16).toNat from rfl)
   have hb := HB.out k
   obtain ⟨x, hx⟩ : ∃ x : Nat, s k = x := ⟨(s k).toNat, by omega⟩
   have hx' := Lib.hid hx
   rw [hx] at hf hv hb
   clear hx
   by_cases hc : x < 16
   ·have hva := Lib.hid (bs_get a x hc)
    have hpt := Lib.hid (bs_upd (upto k (shV a b s)) k (a x) hlt)
    have hf2 := Lib.hid (show shV a b s k = a x by rw [hf.out, if_pos (by omega)]; rfl)
    generalize a x = z at *
    go_wp2_with (first | (refine ldV hS rfl _ rfl rfl ?_) | (refine stV hS rfl _ _ rfl rfl rfl ?_; clear hS; intro wk hS) | (refine sl_box hS rfl _ 40 (box_vec rfl rfl) ?_; clear hS; intro bk wk hS) | (refine sl_box hS rfl _ 40 (alloc_vec rfl) ?_; clear hS; intro bk wk hS) | (refine onlyN_end ?_) | (refine onlyN_now ?_) | (refine sl_idx rfl 40 5 _ _ rfl rfl _ k rfl Try.underlying40 info8 size8 Try.underlying5 hlt hv.out ?_) | (refine sl_addr rfl 40 5 _ _ rfl rfl _ x rfl Try.underlying40 info8 size8 hc ?_) | (refine sl_addr rfl 40 5 _ _ rfl rfl _ k rfl Try.underlying40 info8 size8 hlt ?_) | (refine sl_cell hS rfl _ _ rfl rfl (by repeat (first | exact Has.hd | apply Has.tl)) hva.out (by intro w hc; go_simp) ?_) | (refine sl_put hS rfl 5 _ _ rfl rfl rfl (by repeat (first | exact Rep.hd | apply Rep.tl)) (by exact hlt) hpt.out info8 size8 rfl ?_; clear hS; intro wk hS))
    exact ⟨⟨k + 1, by omega, by go_num, (fun i hi => by by_cases h : i = k; exact h ▸ (by rw [hx'.out]; omega); exact HJ.out i (by omega)), by rw [← hw'.out, hf2.out]; exact hS⟩, by simp [intOf]; omega⟩
   ·by_cases hd : x < 32
    ·obtain ⟨y, rfl⟩ : ∃ y : Nat, x = y + 16 := ⟨x - 16, by omega⟩
     have hy : y < 16 := by omega
     have hva := Lib.hid (bs_get b y hy)
     have hpt := Lib.hid (bs_upd (upto k (shV a b s)) k (b y) hlt)
     have hf2 := Lib.hid (show shV a b s k = b y by rw [hf.out, if_neg (by omega)]; congr 1; omega)
     have hsb : IntKind.u8.wrap (((y + 16 : Nat) : Int) - 16) = (y : Int) := by rw [IntKind.wrap_u8]; omega
     generalize b y = z at *
     go_wp2_with (first | (refine ldV hS rfl _ rfl rfl ?_) | (refine stV hS rfl _ _ rfl rfl rfl ?_; clear hS; intro wk hS) | (refine sl_box hS rfl _ 40 (box_vec rfl rfl) ?_; clear hS; intro bk wk hS) | (refine sl_box hS rfl _ 40 (alloc_vec rfl) ?_; clear hS; intro bk wk hS) | (refine onlyN_end ?_) | (refine onlyN_now ?_) | (refine sl_idx rfl 40 5 _ _ rfl rfl _ k rfl Try.underlying40 info8 size8 Try.underlying5 hlt hv.out ?_) | (refine sl_addr rfl 40 5 _ _ rfl rfl _ y (congrArg _ (by first | exact hsb | omega)) Try.underlying40 info8 size8 hy ?_) | (refine sl_addr rfl 40 5 _ _ rfl rfl _ k rfl Try.underlying40 info8 size8 hlt ?_) | (refine sl_cell hS rfl _ _ rfl rfl (by repeat (first | exact Has.hd | apply Has.tl)) hva.out (by intro w hc; go_simp) ?_) | (refine sl_put hS rfl 5 _ _ rfl rfl rfl (by repeat (first | exact Rep.hd | apply Rep.tl)) (by exact hlt) hpt.out info8 size8 rfl ?_; clear hS; intro wk hS))
     exact ⟨⟨k + 1, by omega, by go_num, (fun i hi => by by_cases h : i = k; exact h ▸ (by rw [hx'.out]; omega); exact HJ.out i (by omega)), by rw [← hw'.out, hf2.out]; exact hS⟩, by simp [intOf]; omega⟩
    ·go_upto_region 5 with (first | (refine ldV hS rfl _ rfl rfl ?_) | (refine stV hS rfl _ _ rfl rfl rfl ?_; clear hS; intro wk hS) | (refine sl_box hS rfl _ 40 (box_vec rfl rfl) ?_; clear hS; intro bk wk hS) | (refine sl_box hS rfl _ 40 (alloc_vec rfl) ?_; clear hS; intro bk wk hS) | (refine onlyN_end ?_) | (refine onlyN_now ?_) | (refine sl_idx rfl 40 5 _ _ rfl rfl _ k rfl Try.underlying40 info8 size8 Try.underlying5 hlt hv.out ?_))
     refine wp_region_lit ?_
     refine wpList_build_at rfl 40 _ rfl (bs fun _ => 0) (by first | (simp only [List.map_toArray, List.map_nil]; kernel_rfl) | (simp only [Array.map_empty]; kernel_rfl)) ?_
     go_wp2_with (first | (refine ldV hS rfl _ rfl rfl ?_) | (refine stV hS rfl _ _ rfl rfl rfl ?_; clear hS; intro wk hS) | (refine sl_box hS rfl _ 40 (box_vec rfl rfl) ?_; clear hS; intro bk wk hS) | (refine sl_box hS rfl _ 40 (alloc_vec rfl) ?_; clear hS; intro bk wk hS) | (refine onlyN_end ?_) | (refine onlyN_now ?_))
     refine sl_ret2 hS Try.results25 (by rfl) (by repeat (first | exact Has.hd | apply Has.tl)) Try.underlying40 rfl (by exact infoV) (by rfl) ?_
     exact ⟨rfl, hS.gr⟩
  ·exfalso
   obtain ⟨m, hm, h32⟩ := HO.out
   have := hJ m (by omega)
   omega
end Mv
end Go.Proofs.Ytjoalcaooccbiaa
/- CpCmp -/
namespace Go.Proofs.Ytjoalcaooccbiaa
open Go.RowKit VecM
namespace Cp
def cW (op : Int) : Int := if 64803 ≤ op ∧ op < 64833 then (if (op - 64803) / 10 = 0 then 8 else if (op - 64803) / 10 = 1 then 16 else 32) else if 64982 ≤ op ∧ op < 64988 then 64 else 0
def k64 (d : Int) : Int := if d = 0 then 0 else if d = 1 then 1 else if d = 2 then 2 else if d = 3 then 4 else if d = 4 then 6 else 8
def cK (op : Int) : Int := if 64803 ≤ op ∧ op < 64833 then (op - 64803) % 10 else if 64982 ≤ op ∧ op < 64988 then k64 (op - 64982) else 0
theorem ret_t {a b c d : Int} (h : a = b) (h' : c = d) : Ending.returned (.tuple #[.int .i64 a, .int .i64 c]) = .returned (.tuple #[.int .i64 b, .int .i64 d]) := by rw [h, h']
theorem rel_any (op : Int) (ho : -9223372036854775808 ≤ op ∧ op ≤ 9223372036854775807) (w : World) : Calls Try.prog 53 #[.int .i64 op] w fun e w' => e = .returned (.tuple #[.int .i64 (cW op), .int .i64 (cK op)]) ∧ Gr w w' := by
 by_cases h1 : 64803 ≤ op ∧ op < 64833
 ·obtain ⟨h2, h3⟩ := h1
  have hW : cW op = if (op - 64803) / 10 = 0 then 8 else if (op - 64803) / 10 = 1 then 16 else 32 := by unfold cW; rw [if_pos ⟨h2, h3⟩]
  have hK : cK op = (op - 64803) % 10 := by unfold cK; rw [if_pos ⟨h2, h3⟩]
  obtain ⟨q, hq⟩ : ∃ q : Int, (op - 64803) / 10 = q := ⟨_, rfl⟩
  have hqq : q = 0 ∨ q = 1 ∨ q = 2 := by omega
  rw [hq] at hW
  rcases hqq with rfl | rfl | rfl
  all_goals
   have HW := Lib.hid hW
   have HK := Lib.hid hK
   clear hW hK
   have hS := St.start w
   go_enter Try.func53, Try.ntmps53
   go_wp2
   go_ret2
   exact ⟨ret_t HW.out.symm HK.out.symm, hS.gr⟩
 ·by_cases h2 : 64982 ≤ op ∧ op < 64988
  ·obtain ⟨h3, h4⟩ := h2
   have hd : op = 64982 ∨ op = 64983 ∨ op = 64984 ∨ op = 64985 ∨ op = 64986 ∨ op = 64987 := by omega
   clear h1 h3 h4 ho
   rcases hd with rfl | rfl | rfl | rfl | rfl | rfl
   all_goals
    have hS := St.start w
    go_enter Try.func53, Try.ntmps53
    go_upto_region 4 with (fail)
    refine wp_region_lit ?_
    refine wpList_build_at rfl 110 _ rfl #[.int .i64 0, .int .i64 1, .int .i64 2, .int .i64 4, .int .i64 6, .int .i64 8] (by first | (simp only [List.map_toArray, List.map_cons, List.map_nil]; kernel_rfl) | kernel_rfl) ?_
    refine sl_new hS rfl #[.int .i64 0, .int .i64 0, .int .i64 0, .int .i64 0, .int .i64 0, .int .i64 0] 110 (fun b => .pointer (some ⟨b, 0, none⟩)) (by intro w; go_simp) ?_
    clear hS
    intro bt wk hS
    refine sl_store hS rfl 110 _ _ rfl rfl rfl (by repeat (first | exact Rep.hd | apply Rep.tl)) (by kernel_rfl) (by rfl) (by kernel_rfl) ?_
    clear hS
    intro wk hS
    go_upto_region 5 with (fail)
    refine sd_all hS (by kernel_rfl) (by kernel_rfl) ?_
    iterate 6 (refine sd_step (fun K hK => ?_); (first | (refine sd_cell rfl _ _ rfl rfl (by repeat (first | exact Has.hd | apply Has.tl)) (by rfl) (by intro w hc; go_simp) ?_) | (apply sd_yes rfl; focus (intro wx hx; go_simp; exact ⟨rfl, Gr.refl _⟩))); go_simp; refine hK _ ?_; clear hK K)
    refine sd_nil ?_
    clear hS
    intro wk hS
    go_wp2
    go_ret2
    exact ⟨rfl, hS.gr⟩
  ·have hW : cW op = 0 := by unfold cW; rw [if_neg h1, if_neg h2]
   have hK : cK op = 0 := by unfold cK; rw [if_neg h1, if_neg h2]
   rw [hW, hK]
   have hc : op < 64803 ∨ (64833 ≤ op ∧ op < 64982) ∨ 64988 ≤ op := by omega
   clear hW hK h1 h2
   rcases hc with h | ⟨h, h'⟩ | h
   all_goals
    have hS := St.start w
    go_enter Try.func53, Try.ntmps53
    go_wp2
    go_ret2
    exact ⟨rfl, hS.gr⟩
def stB (k x y s r : Int) : Bool :=
 if k = 0 then x == y else if k = 1 then x != y else if k = 2 then decide (s < r) else if k = 3 then decide (x < y) else if k = 4 then decide (r < s) else if k = 5 then decide (y < x)
 else if k = 6 then decide (s ≤ r) else if k = 7 then decide (x ≤ y) else if k = 8 then decide (r ≤ s) else decide (y ≤ x)
set_option maxHeartbeats 1000000 in
theorem stands_any (k x y s r : Int) (hk : 0 ≤ k ∧ k ≤ 9) (w : World) : Calls Try.prog 54 #[.int .i64 k, .int .u64 x, .int .u64 y, .int .i64 s, .int .i64 r] w fun e w' => e = .returned (.bool (stB k x y s r)) ∧ w = w' := by
 obtain rfl | rfl | rfl | rfl | rfl | rfl | rfl | rfl | rfl | rfl : k = 0 ∨ k = 1 ∨ k = 2 ∨ k = 3 ∨ k = 4 ∨ k = 5 ∨ k = 6 ∨ k = 7 ∨ k = 8 ∨ k = 9 := by omega
 all_goals
  clear hk
  go_enter Try.func54, Try.ntmps54
  go_wp2
  go_ret
  exact ⟨rfl, rfl⟩
theorem cK_bd (op : Int) : 0 ≤ cK op ∧ cK op ≤ 9 := by
 unfold cK k64
 repeat' split
 all_goals omega
theorem cW_cases (op : Int) : cW op = 0 ∨ cW op = 8 ∨ cW op = 16 ∨ cW op = 32 ∨ cW op = 64 := by
 unfold cW
 repeat' split
 all_goals omega
def msk (v : Int) (p : Nat → Bool) : Nat → (Nat → Int)
 | 0 => fun _ => 0
 | k + 1 => if p k then setI (msk v p k) v k 18446744073709551615 else msk v p k
theorem msk_byt (v : Int) (p : Nat → Bool) : ∀ k, Byt (msk v p k)
 | 0 => fun _ => ⟨Int.le_refl _, by show (0 : Int) ≤ 255; decide⟩
 | k + 1 => by
  unfold msk
  split
  ·exact setI_byt (msk_byt v p k) _ _ _
  ·exact msk_byt v p k
def cpV (op : Int) (a b : Nat → Int) : Nat → Int := msk (cW op) (fun j => stB (cK op) (getI a (cW op) j) (getI b (cW op) j) (sgnI a (cW op) j) (sgnI b (cW op) j)) (lanesI (cW op)).toNat
theorem lanes_nat (v : Int) : lanesI v = ((lanesI v).toNat : Int) ∧ (lanesI v).toNat ≤ 16 := by
 have := lanes_bd v
 omega
theorem lanes0 : lanesI 0 = 0 := by decide
set_option maxRecDepth 100000 in
set_option maxHeartbeats 8000000 in
theorem cmp_any (op : Int) (ho : -9223372036854775808 ≤ op ∧ op ≤ 9223372036854775807) (a b : Nat → Int) (ha : Byt a) (hb : Byt b) (w : World) :
  Calls Try.prog 18 #[.int .i64 op, .agg (bs a), .agg (bs b)] w fun e w' => e = .returned (.tuple #[.agg (bs (cpV op a b)), .int .i64 (if cW op = 0 then 1 else 0)]) ∧ Gr w w' := by
 have HA := Lib.hid ha
 have HB := Lib.hid hb
 have CR := fun w => rel_any op ho w
 have hkb := cK_bd op
 have hwc := cW_cases op
 obtain ⟨hL, h16⟩ := lanes_nat (cW op)
 unfold cpV
 clear ha hb ho
 generalize cK op = kk at *
 generalize cW op = v at *
 by_cases h0 : v = 0
 ·subst h0
  have XCR := Lib.hid CR
  clear CR hL h16 hwc hkb
  rw [lanes0]
  have hS := St.start w
  go_enter Try.func18, Try.ntmps18
  go_upto_region 3 with (first | (refine ldV hS rfl _ rfl rfl ?_) | (refine stV hS rfl _ _ rfl rfl rfl ?_; clear hS; intro wk hS) | (refine sl_box hS rfl _ 40 (box_vec rfl rfl) ?_; clear hS; intro bk wk hS) | (refine sl_box hS rfl _ 40 (alloc_vec rfl) ?_; clear hS; intro bk wk hS) | (refine onlyN_end ?_) | (refine onlyN_now ?_) | ((go_at_call 53); (with_reducible refine sl_call hS (XCR.out _) ?_); clear hS; intro wk hS))
  refine wp_region_lit ?_
  refine wpList_build_at rfl 40 _ rfl (bs fun _ => 0) (by first | (simp only [List.map_toArray, List.map_nil]; kernel_rfl) | (simp only [Array.map_empty]; kernel_rfl)) ?_
  go_wp2_with (first | (refine ldV hS rfl _ rfl rfl ?_) | (refine stV hS rfl _ _ rfl rfl rfl ?_; clear hS; intro wk hS) | (refine sl_box hS rfl _ 40 (box_vec rfl rfl) ?_; clear hS; intro bk wk hS) | (refine sl_box hS rfl _ 40 (alloc_vec rfl) ?_; clear hS; intro bk wk hS) | (refine onlyN_end ?_) | (refine onlyN_now ?_))
  refine sl_ret2 hS Try.results18 (by rfl) (by repeat (first | exact Has.hd | apply Has.tl)) Try.underlying40 rfl (by exact infoV) (by rfl) ?_
  exact ⟨rfl, hS.gr⟩
 ·have hv0 : (v == 0) = false := beq_eq_false_iff_ne.2 h0
  rw [if_neg h0]
  have CL : ∀ w, Calls Try.prog 37 #[.int .i64 v] w fun e w' => e = .returned (.int .i64 ((lanesI v).toNat : Int)) ∧ Gr w w' := fun w => by rw [← hL]; exact calls_gr (lanes_any v w)
  have HLL := Lib.hid hL
  clear h0 hwc hL
  generalize (lanesI v).toNat = L at *
  have HS := Lib.hid (fun (x y s r : Int) w => stands_any kk x y s r hkb w)
  have HKB := Lib.hid hkb
  clear hkb
  have hS := St.start w
  have XCR := Lib.hid CR
  clear CR
  have XCL := Lib.hid CL
  clear CL
  go_enter Try.func18, Try.ntmps18
  go_upto_region 0 with (fail)
  refine wp_region_lit ?_
  refine sl_box hS rfl _ 40 (box_vec rfl rfl) ?_
  clear hS
  intro p wk hS
  refine sl_box hS rfl _ 40 (box_vec rfl rfl) ?_
  clear hS
  intro q wk hS
  refine sl_box hS rfl _ 40 (alloc_vec rfl) ?_
  clear hS
  intro r wk hS
  go_wp2_with (first | (refine ldV hS rfl _ rfl rfl ?_) | (refine stV hS rfl _ _ rfl rfl rfl ?_; clear hS; intro wk hS) | (refine sl_box hS rfl _ 40 (box_vec rfl rfl) ?_; clear hS; intro bk wk hS) | (refine sl_box hS rfl _ 40 (alloc_vec rfl) ?_; clear hS; intro t wk hS) | (refine onlyN_end ?_) | (refine onlyN_now ?_) | ((go_at_call 53); (with_reducible refine sl_call hS (XCR.out _) ?_); clear hS; intro wk hS) | ((go_at_call 37); (with_reducible refine sl_call hS (XCL.out _) ?_); clear hS; intro wk hS))
  go_loopw [26] (fun u wr => ∃ k : Nat, k ≤ L ∧ u = .int .i64 k ∧ St w [⟨t, bs (msk v (fun j => stB kk (getI a v j) (getI b v j) (sgnI a v j) (sgnI b v j)) k), 40⟩, ⟨r, bs (fun _ => 0), 40⟩, ⟨q, bs b, 40⟩, ⟨p, bs a, 40⟩] wr) (fun u _ => L - (intOf u).toNat)
  case atStart => exact ⟨0, by omega, rfl, hS⟩
  case round =>
   obtain ⟨k, hk, rfl, hS⟩ := hrel
   by_cases hlt : k < L
   ·have E1 := fun w => get_any a HA.out v k w
    have E2 := fun w => get_any b HB.out v k w
    have E3 := fun w => signed_any a HA.out v k w
    have E4 := fun w => signed_any b HB.out v k w
    have E5 := fun w => calls_gr (HS.out (getI a v k) (getI b v k) (sgnI a v k) (sgnI b v k) w)
    have HM := Lib.hid (show msk v (fun j => stB kk (getI a v j) (getI b v j) (sgnI a v j) (sgnI b v j)) (k + 1) = if stB kk (getI a v k) (getI b v k) (sgnI a v k) (sgnI b v k) then setI (msk v (fun j => stB kk (getI a v j) (getI b v j) (sgnI a v j) (sgnI b v j)) k) v k 18446744073709551615 else msk v (fun j => stB kk (getI a v j) (getI b v j) (sgnI a v j) (sgnI b v j)) k from rfl)
    have E6 := fun w => set_any (msk v (fun j => stB kk (getI a v j) (getI b v j) (sgnI a v j) (sgnI b v j)) k) v k 18446744073709551615 w
    generalize stB kk (getI a v k) (getI b v k) (sgnI a v k) (sgnI b v k) = yes at *
    generalize getI a v k = x at E1 E5
    generalize getI b v k = y at E2 E5
    generalize sgnI a v k = s at E3 E5
    generalize sgnI b v k = r at E4 E5
    generalize hc0 : msk v (fun j => stB kk (getI a v j) (getI b v j) (sgnI a v j) (sgnI b v j)) k = c0 at *
    have XE1 := Lib.hid E1
    clear E1
    have XE2 := Lib.hid E2
    clear E2
    have XE3 := Lib.hid E3
    clear E3
    have XE4 := Lib.hid E4
    clear E4
    have XE5 := Lib.hid E5
    clear E5
    have XE6 := Lib.hid E6
    clear E6
    have Xhc0 := Lib.hid hc0
    clear hc0
    go_upto_region 8 with (first | (refine ldV hS rfl _ rfl rfl ?_) | (refine stV hS rfl _ _ rfl rfl rfl ?_; clear hS; intro wk hS) | (refine sl_box hS rfl _ 40 (box_vec rfl rfl) ?_; clear hS; intro bk wk hS) | (refine sl_box hS rfl _ 40 (alloc_vec rfl) ?_; clear hS; intro bk wk hS) | (refine onlyN_end ?_) | (refine onlyN_now ?_))
    refine sd_all hS (by kernel_rfl) (by kernel_rfl) ?_
    iterate 10 (refine sd_step (fun K hK => ?_); (first | (refine sd_load rfl 40 _ rfl rfl (by repeat (first | exact Has.hd | apply Has.tl)) Try.underlying40 rfl (by exact infoV) ?_) | (apply sd_yes rfl; focus (intro wx hx; go_simp; first | (apply sd_enter; first | fail | with_reducible exact XE1.out wx | with_reducible exact XE2.out wx) | exact ⟨rfl, Gr.refl _⟩)) | (refine sd_no rfl ?_)); go_simp; refine hK _ ?_; clear hK K)
    refine sd_nil ?_
    clear hS
    intro wk hS
    go_upto_region 9 with (first | (refine ldV hS rfl _ rfl rfl ?_) | (refine stV hS rfl _ _ rfl rfl rfl ?_; clear hS; intro wk hS) | (refine sl_box hS rfl _ 40 (box_vec rfl rfl) ?_; clear hS; intro bk wk hS) | (refine sl_box hS rfl _ 40 (alloc_vec rfl) ?_; clear hS; intro bk wk hS) | (refine onlyN_end ?_) | (refine onlyN_now ?_))
    refine sd_all hS (by kernel_rfl) (by kernel_rfl) ?_
    iterate 10 (refine sd_step (fun K hK => ?_); (first | (refine sd_load rfl 40 _ rfl rfl (by repeat (first | exact Has.hd | apply Has.tl)) Try.underlying40 rfl (by exact infoV) ?_) | (apply sd_yes rfl; focus (intro wx hx; go_simp; first | (apply sd_enter; first | fail | with_reducible exact XE3.out wx | with_reducible exact XE4.out wx) | exact ⟨rfl, Gr.refl _⟩)) | (refine sd_no rfl ?_)); go_simp; refine hK _ ?_; clear hK K)
    refine sd_nil ?_
    clear hS
    intro wk hS
    cases yes
    ·go_wp2_with (first | (refine ldV hS rfl _ rfl rfl ?_) | (refine stV hS rfl _ _ rfl rfl rfl ?_; clear hS; intro wk hS) | (refine sl_box hS rfl _ 40 (box_vec rfl rfl) ?_; clear hS; intro bk wk hS) | (refine sl_box hS rfl _ 40 (alloc_vec rfl) ?_; clear hS; intro bk wk hS) | (refine onlyN_end ?_) | (refine onlyN_now ?_) | ((go_at_call 54); (with_reducible refine sl_call hS (XE5.out _) ?_); clear hS; intro wk hS) | ((go_at_call 40); (with_reducible refine sl_call hS (XE6.out _) ?_); clear hS; intro wk hS))
     exact ⟨⟨k + 1, by omega, by go_num, by rw [HM.out]; exact hS⟩, by simp [intOf]; omega⟩
    ·go_wp2_with (first | (refine ldV hS rfl _ rfl rfl ?_) | (refine stV hS rfl _ _ rfl rfl rfl ?_; clear hS; intro wk hS) | (refine sl_box hS rfl _ 40 (box_vec rfl rfl) ?_; clear hS; intro bk wk hS) | (refine sl_box hS rfl _ 40 (alloc_vec rfl) ?_; clear hS; intro bk wk hS) | (refine onlyN_end ?_) | (refine onlyN_now ?_) | ((go_at_call 54); (with_reducible refine sl_call hS (XE5.out _) ?_); clear hS; intro wk hS) | ((go_at_call 40); (with_reducible refine sl_call hS (XE6.out _) ?_); clear hS; intro wk hS))
     exact ⟨⟨k + 1, by omega, by go_num, by rw [HM.out]; exact hS⟩, by simp [intOf]; omega⟩
   ·obtain rfl : k = L := by omega
    go_wp2_with (first | (refine ldV hS rfl _ rfl rfl ?_) | (refine stV hS rfl _ _ rfl rfl rfl ?_; clear hS; intro wk hS) | (refine sl_box hS rfl _ 40 (box_vec rfl rfl) ?_; clear hS; intro bk wk hS) | (refine sl_box hS rfl _ 40 (alloc_vec rfl) ?_; clear hS; intro bk wk hS) | (refine onlyN_end ?_) | (refine onlyN_now ?_))
    refine sl_ret2 hS Try.results18 (by rfl) (by repeat (first | exact Has.hd | apply Has.tl)) Try.underlying40 rfl (by exact infoV) (by rfl) ?_
    exact ⟨rfl, hS.gr⟩
end Cp
end Go.Proofs.Ytjoalcaooccbiaa
/- CpTest -/
namespace Go.Proofs.Ytjoalcaooccbiaa
open Go.RowKit VecM
namespace Cp
def wW (op : Int) : Int := if op = 64851 ∨ op = 64867 ∨ op = 64868 then 8 else if op = 64899 ∨ op = 64900 then 16 else if op = 64931 ∨ op = 64932 then 32 else if op = 64963 ∨ op = 64964 then 64 else 0
def wK (op : Int) : Int := if op = 64851 then 64851 else if op = 64867 ∨ op = 64899 ∨ op = 64931 ∨ op = 64963 then 64867 else if op = 64868 ∨ op = 64900 ∨ op = 64932 ∨ op = 64964 then 64868 else 0
set_option maxRecDepth 100000 in
theorem whole_51 (w : World) : Calls Try.prog 58 #[.int .i64 64851] w fun e w' => e = .returned (.tuple #[.int .i64 8, .int .i64 64851]) ∧ w = w' := by
 go_enter Try.func58, Try.ntmps58
 go_wp2
 go_ret2
 exact ⟨rfl, rfl⟩
set_option maxRecDepth 100000 in
theorem whole_64867 (w : World) : Calls Try.prog 58 #[.int .i64 64867] w fun e w' => e = .returned (.tuple #[.int .i64 8, .int .i64 64867]) ∧ w = w' := by
 go_enter Try.func58, Try.ntmps58
 go_wp2
 go_loopw [7] (fun u wr => ∃ k : Int, (k = 0) ∧ u = .int .i64 k ∧ w = wr) (fun u _ => (8 - intOf u).toNat)
 case atStart => exact ⟨0, by omega, rfl, rfl⟩
 case round =>
  obtain ⟨k, hk, rfl, rfl⟩ := hrel
  subst hk
  ·go_wp2
   go_ret2
   exact ⟨rfl, rfl⟩
set_option maxRecDepth 100000 in
theorem whole_64868 (w : World) : Calls Try.prog 58 #[.int .i64 64868] w fun e w' => e = .returned (.tuple #[.int .i64 8, .int .i64 64868]) ∧ w = w' := by
 go_enter Try.func58, Try.ntmps58
 go_wp2
 go_loopw [7] (fun u wr => ∃ k : Int, (k = 0) ∧ u = .int .i64 k ∧ w = wr) (fun u _ => (8 - intOf u).toNat)
 case atStart => exact ⟨0, by omega, rfl, rfl⟩
 case round =>
  obtain ⟨k, hk, rfl, rfl⟩ := hrel
  subst hk
  ·go_wp2
   go_ret2
   exact ⟨rfl, rfl⟩
set_option maxRecDepth 100000 in
theorem whole_64899 (w : World) : Calls Try.prog 58 #[.int .i64 64899] w fun e w' => e = .returned (.tuple #[.int .i64 16, .int .i64 64867]) ∧ w = w' := by
 go_enter Try.func58, Try.ntmps58
 go_wp2
 go_loopw [7] (fun u wr => ∃ k : Int, (k = 0 ∨ k = 1) ∧ u = .int .i64 k ∧ w = wr) (fun u _ => (8 - intOf u).toNat)
 case atStart => exact ⟨0, by omega, rfl, rfl⟩
 case round =>
  obtain ⟨k, hk, rfl, rfl⟩ := hrel
  rcases hk with rfl | rfl
  ·go_wp2
   exact ⟨⟨1, by omega, rfl, trivial⟩, by simp [intOf]⟩
  ·go_wp2
   go_ret2
   exact ⟨rfl, rfl⟩
set_option maxRecDepth 100000 in
theorem whole_64900 (w : World) : Calls Try.prog 58 #[.int .i64 64900] w fun e w' => e = .returned (.tuple #[.int .i64 16, .int .i64 64868]) ∧ w = w' := by
 go_enter Try.func58, Try.ntmps58
 go_wp2
 go_loopw [7] (fun u wr => ∃ k : Int, (k = 0 ∨ k = 1) ∧ u = .int .i64 k ∧ w = wr) (fun u _ => (8 - intOf u).toNat)
 case atStart => exact ⟨0, by omega, rfl, rfl⟩
 case round =>
  obtain ⟨k, hk, rfl, rfl⟩ := hrel
  rcases hk with rfl | rfl
  ·go_wp2
   exact ⟨⟨1, by omega, rfl, trivial⟩, by simp [intOf]⟩
  ·go_wp2
   go_ret2
   exact ⟨rfl, rfl⟩
set_option maxRecDepth 100000 in
theorem whole_64931 (w : World) : Calls Try.prog 58 #[.int .i64 64931] w fun e w' => e = .returned (.tuple #[.int .i64 32, .int .i64 64867]) ∧ w = w' := by
 go_enter Try.func58, Try.ntmps58
 go_wp2
 go_loopw [7] (fun u wr => ∃ k : Int, (k = 0 ∨ k = 1 ∨ k = 2) ∧ u = .int .i64 k ∧ w = wr) (fun u _ => (8 - intOf u).toNat)
 case atStart => exact ⟨0, by omega, rfl, rfl⟩
 case round =>
  obtain ⟨k, hk, rfl, rfl⟩ := hrel
  rcases hk with rfl | rfl | rfl
  ·go_wp2
   exact ⟨⟨1, by omega, rfl, trivial⟩, by simp [intOf]⟩
  ·go_wp2
   exact ⟨⟨2, by omega, rfl, trivial⟩, by simp [intOf]⟩
  ·go_wp2
   go_ret2
   exact ⟨rfl, rfl⟩
set_option maxRecDepth 100000 in
theorem whole_64932 (w : World) : Calls Try.prog 58 #[.int .i64 64932] w fun e w' => e = .returned (.tuple #[.int .i64 32, .int .i64 64868]) ∧ w = w' := by
 go_enter Try.func58, Try.ntmps58
 go_wp2
 go_loopw [7] (fun u wr => ∃ k : Int, (k = 0 ∨ k = 1 ∨ k = 2) ∧ u = .int .i64 k ∧ w = wr) (fun u _ => (8 - intOf u).toNat)
 case atStart => exact ⟨0, by omega, rfl, rfl⟩
 case round =>
  obtain ⟨k, hk, rfl, rfl⟩ := hrel
  rcases hk with rfl | rfl | rfl
  ·go_wp2
   exact ⟨⟨1, by omega, rfl, trivial⟩, by simp [intOf]⟩
  ·go_wp2
   exact ⟨⟨2, by omega, rfl, trivial⟩, by simp [intOf]⟩
  ·go_wp2
   go_ret2
   exact ⟨rfl, rfl⟩
set_option maxRecDepth 100000 in
theorem whole_64963 (w : World) : Calls Try.prog 58 #[.int .i64 64963] w fun e w' => e = .returned (.tuple #[.int .i64 64, .int .i64 64867]) ∧ w = w' := by
 go_enter Try.func58, Try.ntmps58
 go_wp2
 go_loopw [7] (fun u wr => ∃ k : Int, (k = 0 ∨ k = 1 ∨ k = 2 ∨ k = 3) ∧ u = .int .i64 k ∧ w = wr) (fun u _ => (8 - intOf u).toNat)
 case atStart => exact ⟨0, by omega, rfl, rfl⟩
 case round =>
  obtain ⟨k, hk, rfl, rfl⟩ := hrel
  rcases hk with rfl | rfl | rfl | rfl
  ·go_wp2
   exact ⟨⟨1, by omega, rfl, trivial⟩, by simp [intOf]⟩
  ·go_wp2
   exact ⟨⟨2, by omega, rfl, trivial⟩, by simp [intOf]⟩
  ·go_wp2
   exact ⟨⟨3, by omega, rfl, trivial⟩, by simp [intOf]⟩
  ·go_wp2
   go_ret2
   exact ⟨rfl, rfl⟩
set_option maxRecDepth 100000 in
theorem whole_64964 (w : World) : Calls Try.prog 58 #[.int .i64 64964] w fun e w' => e = .returned (.tuple #[.int .i64 64, .int .i64 64868]) ∧ w = w' := by
 go_enter Try.func58, Try.ntmps58
 go_wp2
 go_loopw [7] (fun u wr => ∃ k : Int, (k = 0 ∨ k = 1 ∨ k = 2 ∨ k = 3) ∧ u = .int .i64 k ∧ w = wr) (fun u _ => (8 - intOf u).toNat)
 case atStart => exact ⟨0, by omega, rfl, rfl⟩
 case round =>
  obtain ⟨k, hk, rfl, rfl⟩ := hrel
  rcases hk with rfl | rfl | rfl | rfl
  ·go_wp2
   exact ⟨⟨1, by omega, rfl, trivial⟩, by simp [intOf]⟩
  ·go_wp2
   exact ⟨⟨2, by omega, rfl, trivial⟩, by simp [intOf]⟩
  ·go_wp2
   exact ⟨⟨3, by omega, rfl, trivial⟩, by simp [intOf]⟩
  ·go_wp2
   go_ret2
   exact ⟨rfl, rfl⟩
set_option maxRecDepth 100000 in
theorem whole_no (op : Int) (ho : -9223372036854775808 ≤ op ∧ op ≤ 9223372036854775807) (h0 : wK op = 0) (w : World) : Calls Try.prog 58 #[.int .i64 op] w fun e w' => e = .returned (.tuple #[.int .i64 0, .int .i64 0]) ∧ w = w' := by
 have hn : op ≠ 64851 ∧ (∀ k : Int, 0 ≤ k → k < 4 → op ≠ 64867 + 32 * k ∧ op ≠ 64868 + 32 * k) := by
  unfold wK at h0
  by_cases a : op = 64851
  ·rw [if_pos a] at h0; omega
  ·rw [if_neg a] at h0
   by_cases b : op = 64867 ∨ op = 64899 ∨ op = 64931 ∨ op = 64963
   ·rw [if_pos b] at h0; omega
   ·rw [if_neg b] at h0
    by_cases c : op = 64868 ∨ op = 64900 ∨ op = 64932 ∨ op = 64964
    ·rw [if_pos c] at h0; omega
    ·exact ⟨a, fun k h1 h2 => by omega⟩
 have h1 : (op == 64851) = false := beq_eq_false_iff_ne.2 hn.1
 have HN := Lib.hid hn.2
 have HO := Lib.hid ho
 clear hn h0 ho
 go_enter Try.func58, Try.ntmps58
 go_wp2
 go_loopw [7] (fun u wr => ∃ k : Int, (0 ≤ k ∧ k ≤ 4) ∧ u = .int .i64 k ∧ w = wr) (fun u _ => (8 - intOf u).toNat)
 case atStart => exact ⟨0, by omega, rfl, rfl⟩
 case round =>
  obtain ⟨k, ⟨k0, k4⟩, rfl, rfl⟩ := hrel
  by_cases hlt : k < 4
  ·have h2 := HN.out k k0 hlt
   obtain ⟨y, hy⟩ : ∃ y, IntKind.i64.wrap (op - k * 32) = y := ⟨_, rfl⟩
   have h3 : (y == 64867) = false ∧ (y == 64868) = false := by
    have := HO.out
    rw [← hy, IntKind.wrap_i64]
    constructor <;> refine beq_eq_false_iff_ne.2 ?_ <;> omega
   obtain ⟨h4, h5⟩ := h3
   clear h2
   go_wp2
   exact ⟨⟨k + 1, by omega, by go_num, trivial⟩, by simp [intOf]; omega⟩
  ·obtain rfl : k = 4 := by omega
   go_wp2
   go_ret2
   exact ⟨rfl, rfl⟩
set_option maxRecDepth 100000 in
theorem whole_any (op : Int) (ho : -9223372036854775808 ≤ op ∧ op ≤ 9223372036854775807) (w : World) : Calls Try.prog 58 #[.int .i64 op] w fun e w' => e = .returned (.tuple #[.int .i64 (if wK op = 0 then 0 else wW op), .int .i64 (wK op)]) ∧ w = w' := by
 by_cases h0 : wK op = 0
 ·rw [if_pos h0, h0]; exact whole_no op ho h0 w
 ·have hc : op = 64851 ∨ op = 64867 ∨ op = 64868 ∨ op = 64899 ∨ op = 64900 ∨ op = 64931 ∨ op = 64932 ∨ op = 64963 ∨ op = 64964 := by
   apply Classical.byContradiction
   intro h
   apply h0
   unfold wK
   rw [if_neg (by omega), if_neg (by omega), if_neg (by omega)]
  rcases hc with rfl | rfl | rfl | rfl | rfl | rfl | rfl | rfl | rfl
  ·exact whole_51 w
  ·exact whole_64867 w
  ·exact whole_64868 w
  ·exact whole_64899 w
  ·exact whole_64900 w
  ·exact whole_64931 w
  ·exact whole_64932 w
  ·exact whole_64963 w
  ·exact whole_64964 w
def t32 (b : Bool) : Int := if b then 1 else 0
set_option maxRecDepth 100000 in
theorem truth_any (b : Bool) (w : World) : Calls Try.prog 59 #[.bool b] w fun e w' => e = .returned (.int .u32 (t32 b)) ∧ w = w' := by
 cases b
 all_goals
  go_enter Try.func59, Try.ntmps59
  go_wp2
  go_ret
  exact ⟨rfl, rfl⟩
def fullB (b : Nat → Int) (v : Int) (n : Nat) : Bool := (List.range n).all fun j => getI b v j != 0
set_option maxRecDepth 100000 in
theorem full_at {b : Nat → Int} {v : Int} {n k : Nat} (hk : k < n) (h : getI b v k = 0) : fullB b v n = false := by
 unfold fullB
 rw [List.all_eq_false]
 exact ⟨k, List.mem_range.2 hk, by simp [h]⟩
set_option maxRecDepth 100000 in
theorem full_end {b : Nat → Int} {v : Int} {n : Nat} (h : ∀ j : Nat, j < n → getI b v j ≠ 0) : fullB b v n = true := by
 unfold fullB
 rw [List.all_eq_true]
 intro j hj
 have := h j (List.mem_range.1 hj)
 simpa using this
set_option maxHeartbeats 2000000 in
set_option maxRecDepth 100000 in
theorem full_any (b : Nat → Int) (hb : Byt b) (v : Int) (w : World) : Calls Try.prog 60 #[.agg (bs b), .int .i64 v] w fun e w' => e = .returned (.bool (fullB b v (lanesI v).toNat)) ∧ Gr w w' := by
 have HB := Lib.hid hb
 obtain ⟨hL, h16⟩ := lanes_nat v
 have CL : ∀ w, Calls Try.prog 37 #[.int .i64 v] w fun e w' => e = .returned (.int .i64 ((lanesI v).toNat : Int)) ∧ Gr w w' := fun w => by rw [← hL]; exact calls_gr (lanes_any v w)
 clear hb hL
 generalize (lanesI v).toNat = L at *
 have XCL := Lib.hid CL
 clear CL
 have hS := St.start w
 go_enter Try.func60, Try.ntmps60
 go_upto_region 0 with (fail)
 refine wp_region_lit ?_
 refine sl_box hS rfl _ 40 (box_vec rfl rfl) ?_
 clear hS
 intro p wk hS
 go_wp2_with (first | (refine ldV hS rfl _ rfl rfl ?_) | (refine stV hS rfl _ _ rfl rfl rfl ?_; clear hS; intro wk hS) | (refine sl_box hS rfl _ 40 (box_vec rfl rfl) ?_; clear hS; intro bk wk hS) | (refine sl_box hS rfl _ 40 (alloc_vec rfl) ?_; clear hS; intro bk wk hS) | (refine onlyN_end ?_) | (refine onlyN_now ?_) | ((go_at_call 37); (with_reducible refine sl_call hS (XCL.out _) ?_); clear hS; intro wk hS))
 go_loopw [8] (fun u wr => ∃ k : Nat, k ≤ L ∧ u = .int .i64 k ∧ Hid (∀ j : Nat, j < k → getI b v j ≠ 0) ∧ St w [⟨p, bs b, 40⟩] wr) (fun u _ => L - (intOf u).toNat)
 case atStart => exact ⟨0, by omega, rfl, Lib.hid (fun j hj => by omega), hS⟩
 case round =>
  obtain ⟨k, hk, rfl, HJ, hS⟩ := hrel
  by_cases hlt : k < L
  ·have E1 := fun w => get_any b HB.out v k w
   by_cases h0 : getI b v k = 0
   ·have HF := Lib.hid (full_at hlt h0)
    rw [h0] at E1
    have XE1 := Lib.hid E1
    clear E1 h0
    go_wp2_with (first | (refine ldV hS rfl _ rfl rfl ?_) | (refine stV hS rfl _ _ rfl rfl rfl ?_; clear hS; intro wk hS) | (refine sl_box hS rfl _ 40 (box_vec rfl rfl) ?_; clear hS; intro bk wk hS) | (refine sl_box hS rfl _ 40 (alloc_vec rfl) ?_; clear hS; intro bk wk hS) | (refine onlyN_end ?_) | (refine onlyN_now ?_) | ((go_at_call 35); (with_reducible refine sl_call hS (XE1.out _) ?_); clear hS; intro wk hS))
    go_ret
    exact ⟨by rw [HF.out]; rfl, hS.gr⟩
   ·have HG : Hid (∀ j : Nat, j < k + 1 → getI b v j ≠ 0) := Lib.hid (fun j hj => by
     by_cases e : j = k
     ·rw [e]; exact h0
     ·exact HJ.out j (by omega))
    have h1 : (getI b v k == 0) = false := beq_eq_false_iff_ne.2 h0
    clear HJ h0
    generalize getI b v k = x at E1 h1
    have XE1 := Lib.hid E1
    clear E1
    go_wp2_with (first | (refine ldV hS rfl _ rfl rfl ?_) | (refine stV hS rfl _ _ rfl rfl rfl ?_; clear hS; intro wk hS) | (refine sl_box hS rfl _ 40 (box_vec rfl rfl) ?_; clear hS; intro bk wk hS) | (refine sl_box hS rfl _ 40 (alloc_vec rfl) ?_; clear hS; intro bk wk hS) | (refine onlyN_end ?_) | (refine onlyN_now ?_) | ((go_at_call 35); (with_reducible refine sl_call hS (XE1.out _) ?_); clear hS; intro wk hS))
    exact ⟨⟨k + 1, by omega, by go_num, HG, hS⟩, by simp [intOf]; omega⟩
  ·obtain rfl : k = L := by omega
   have HF := Lib.hid (full_end HJ.out)
   go_wp2_with (first | (refine ldV hS rfl _ rfl rfl ?_) | (refine stV hS rfl _ _ rfl rfl rfl ?_; clear hS; intro wk hS) | (refine sl_box hS rfl _ 40 (box_vec rfl rfl) ?_; clear hS; intro bk wk hS) | (refine sl_box hS rfl _ 40 (alloc_vec rfl) ?_; clear hS; intro bk wk hS) | (refine onlyN_end ?_) | (refine onlyN_now ?_))
   go_ret
   exact ⟨by rw [HF.out]; rfl, hS.gr⟩
def sgI (b : Nat → Int) (v : Int) : Nat → Int
 | 0 => 0
 | k + 1 => bits .or .u32 (sgI b v k) (t32 (decide (sgnI b v k < 0)) * 2 ^ k % 4294967296)
set_option maxHeartbeats 2000000 in
set_option maxRecDepth 100000 in
theorem signs_any (b : Nat → Int) (hb : Byt b) (v : Int) (w : World) : Calls Try.prog 61 #[.agg (bs b), .int .i64 v] w fun e w' => e = .returned (.int .u32 (sgI b v (lanesI v).toNat)) ∧ Gr w w' := by
 have HB := Lib.hid hb
 obtain ⟨hL, h16⟩ := lanes_nat v
 have CL : ∀ w, Calls Try.prog 37 #[.int .i64 v] w fun e w' => e = .returned (.int .i64 ((lanesI v).toNat : Int)) ∧ Gr w w' := fun w => by rw [← hL]; exact calls_gr (lanes_any v w)
 clear hb hL
 generalize (lanesI v).toNat = L at *
 have XCL := Lib.hid CL
 clear CL
 have hS := St.start w
 go_enter Try.func61, Try.ntmps61
 go_upto_region 0 with (fail)
 refine wp_region_lit ?_
 refine sl_box hS rfl _ 40 (box_vec rfl rfl) ?_
 clear hS
 intro p wk hS
 go_wp2_with (first | (refine ldV hS rfl _ rfl rfl ?_) | (refine stV hS rfl _ _ rfl rfl rfl ?_; clear hS; intro wk hS) | (refine sl_box hS rfl _ 40 (box_vec rfl rfl) ?_; clear hS; intro bk wk hS) | (refine sl_box hS rfl _ 40 (alloc_vec rfl) ?_; clear hS; intro bk wk hS) | (refine onlyN_end ?_) | (refine onlyN_now ?_) | ((go_at_call 37); (with_reducible refine sl_call hS (XCL.out _) ?_); clear hS; intro wk hS))
 go_loopw [9, 5] (fun u n wr => ∃ k : Nat, k ≤ L ∧ u = .int .i64 k ∧ n = .int .u32 (sgI b v k) ∧ St w [⟨p, bs b, 40⟩] wr) (fun u _ _ => L - (intOf u).toNat)
 case atStart => exact ⟨0, by omega, rfl, rfl, hS⟩
 case round =>
  obtain ⟨k, hk, rfl, rfl, hS⟩ := hrel
  by_cases hlt : k < L
  ·have E1 := fun w => signed_any b HB.out v k w
   have HK := Lib.hid (show sgI b v (k + 1) = bits .or .u32 (sgI b v k) (t32 (decide (sgnI b v k < 0)) * 2 ^ k % 4294967296) from rfl)
   have HN := Lib.hid HK.out
   clear HK
   generalize sgI b v k = n at *
   generalize sgnI b v k = g at *
   have E2 := fun w => truth_any (decide (g < 0)) w
   generalize hbb : decide (g < 0) = bb at *
   generalize t32 bb = t at *
   have XE1 := Lib.hid E1
   have XE2 := Lib.hid E2
   clear E1 E2
   go_wp2_with (first | (refine ldV hS rfl _ rfl rfl ?_) | (refine stV hS rfl _ _ rfl rfl rfl ?_; clear hS; intro wk hS) | (refine sl_box hS rfl _ 40 (box_vec rfl rfl) ?_; clear hS; intro bk wk hS) | (refine sl_box hS rfl _ 40 (alloc_vec rfl) ?_; clear hS; intro bk wk hS) | (refine onlyN_end ?_) | (refine onlyN_now ?_) | ((go_at_call 39); (with_reducible refine sl_call hS (XE1.out _) ?_); clear hS; intro wk hS) | ((go_at_call 59); (with_reducible refine (XE2.out _).mono ?_); rintro _ _ ⟨rfl, rfl⟩))
   exact ⟨⟨k + 1, by omega, by go_num, by rw [HN.out], hS⟩, by simp [intOf]; omega⟩
  ·obtain rfl : k = L := by omega
   go_wp2_with (first | (refine ldV hS rfl _ rfl rfl ?_) | (refine stV hS rfl _ _ rfl rfl rfl ?_; clear hS; intro wk hS) | (refine sl_box hS rfl _ 40 (box_vec rfl rfl) ?_; clear hS; intro bk wk hS) | (refine sl_box hS rfl _ 40 (alloc_vec rfl) ?_; clear hS; intro bk wk hS) | (refine onlyN_end ?_) | (refine onlyN_now ?_))
   go_ret
   exact ⟨rfl, hS.gr⟩
def tsOk (op : Int) : Int := if wK op = 0 then 1 else 0
def tsV (op : Int) (b : Nat → Int) : Int := if wK op = 64851 then t32 (!vecB b (fun _ => 0)) else if wK op = 64867 then t32 (fullB b (wW op) (lanesI (wW op)).toNat) else if wK op = 64868 then sgI b (wW op) (lanesI (wW op)).toNat else 0
set_option maxRecDepth 100000 in
theorem wK_cases (op : Int) : wK op = 0 ∨ wK op = 64851 ∨ wK op = 64867 ∨ wK op = 64868 := by
 unfold wK
 repeat' split
 all_goals omega
set_option maxHeartbeats 2000000 in
set_option maxRecDepth 100000 in
theorem test_any (op : Int) (ho : -9223372036854775808 ≤ op ∧ op ≤ 9223372036854775807) (b : Nat → Int) (hb : Byt b) (w : World) :
  Calls Try.prog 23 #[.int .i64 op, .agg (bs b)] w fun e w' => e = .returned (.tuple #[.int .u32 (tsV op b), .int .i64 (tsOk op)]) ∧ Gr w w' := by
 have CW := fun w => calls_gr (whole_any op ho w)
 have CF := fun w => full_any b hb (wW op) w
 have CS := fun w => signs_any b hb (wW op) w
 have CT := fun x w => calls_gr (truth_any x w)
 have hk := wK_cases op
 unfold tsV tsOk
 generalize wK op = kk at *
 generalize wW op = ww at *
 generalize fullB b ww (lanesI ww).toNat = ff at *
 generalize sgI b ww (lanesI ww).toNat = sg at *
 have hv := fun w => eq_vec b (fun _ => 0) w
 generalize vecB b (fun _ => 0) = vb at *
 have HT := Lib.hid CT
 clear CT ho hb
 rcases hk with rfl | rfl | rfl | rfl
 ·have XCW := Lib.hid CW
  clear CW CF CS hv
  have hS := St.start w
  go_enter Try.func23, Try.ntmps23
  go_wp2_with (first | (refine ldV hS rfl _ rfl rfl ?_) | (refine stV hS rfl _ _ rfl rfl rfl ?_; clear hS; intro wk hS) | (refine sl_box hS rfl _ 40 (box_vec rfl rfl) ?_; clear hS; intro bk wk hS) | (refine sl_box hS rfl _ 40 (alloc_vec rfl) ?_; clear hS; intro bk wk hS) | (refine onlyN_end ?_) | (refine onlyN_now ?_) | ((go_at_call 58); (with_reducible refine sl_call hS (XCW.out _) ?_); clear hS; intro wk hS))
  go_ret2
  exact ⟨rfl, hS.gr⟩
 ·rw [if_neg (by decide)] at CW
  have XCW := Lib.hid CW
  clear CW CF CS
  have hS := St.start w
  go_enter Try.func23, Try.ntmps23
  cases vb
  all_goals
   go_upto_region 4 with (first | (refine ldV hS rfl _ rfl rfl ?_) | (refine stV hS rfl _ _ rfl rfl rfl ?_; clear hS; intro wk hS) | (refine sl_box hS rfl _ 40 (box_vec rfl rfl) ?_; clear hS; intro bk wk hS) | (refine sl_box hS rfl _ 40 (alloc_vec rfl) ?_; clear hS; intro bk wk hS) | (refine onlyN_end ?_) | (refine onlyN_now ?_) | ((go_at_call 58); (with_reducible refine sl_call hS (XCW.out _) ?_); clear hS; intro wk hS))
   refine wp_region_lit ?_
   refine sl_load hS rfl 40 _ rfl rfl (by repeat (first | exact Has.hd | apply Has.tl)) Try.underlying40 rfl (by exact infoV) ?_
   refine wpList_build_at rfl 40 _ rfl (bs fun _ => 0) (by first | (simp only [List.map_toArray, List.map_nil]; kernel_rfl) | (simp only [Array.map_empty]; kernel_rfl)) ?_
   go_wp2_with (first | (refine ldV hS rfl _ rfl rfl ?_) | (refine stV hS rfl _ _ rfl rfl rfl ?_; clear hS; intro wk hS) | (refine sl_box hS rfl _ 40 (box_vec rfl rfl) ?_; clear hS; intro bk wk hS) | (refine sl_box hS rfl _ 40 (alloc_vec rfl) ?_; clear hS; intro bk wk hS) | (refine onlyN_end ?_) | (refine onlyN_now ?_) | ((go_at_call 59); (with_reducible refine sl_call hS (HT.out _ _) ?_); clear hS; intro wk hS))
   go_ret2
   exact ⟨rfl, hS.gr⟩
 ·rw [if_neg (by decide)] at CW
  have XCW := Lib.hid CW
  have XCF := Lib.hid CF
  clear CW CF CS hv
  have hS := St.start w
  go_enter Try.func23, Try.ntmps23
  go_wp2_with (first | (refine ldV hS rfl _ rfl rfl ?_) | (refine stV hS rfl _ _ rfl rfl rfl ?_; clear hS; intro wk hS) | (refine sl_box hS rfl _ 40 (box_vec rfl rfl) ?_; clear hS; intro bk wk hS) | (refine sl_box hS rfl _ 40 (alloc_vec rfl) ?_; clear hS; intro bk wk hS) | (refine onlyN_end ?_) | (refine onlyN_now ?_) | ((go_at_call 58); (with_reducible refine sl_call hS (XCW.out _) ?_); clear hS; intro wk hS) | ((go_at_call 60); (with_reducible refine sl_call hS (XCF.out _) ?_); clear hS; intro wk hS) | ((go_at_call 59); (with_reducible refine sl_call hS (HT.out _ _) ?_); clear hS; intro wk hS))
  go_ret2
  exact ⟨rfl, hS.gr⟩
 ·rw [if_neg (by decide)] at CW
  have XCW := Lib.hid CW
  have XCS := Lib.hid CS
  clear CW CF CS hv
  have hS := St.start w
  go_enter Try.func23, Try.ntmps23
  go_wp2_with (first | (refine ldV hS rfl _ rfl rfl ?_) | (refine stV hS rfl _ _ rfl rfl rfl ?_; clear hS; intro wk hS) | (refine sl_box hS rfl _ 40 (box_vec rfl rfl) ?_; clear hS; intro bk wk hS) | (refine sl_box hS rfl _ 40 (alloc_vec rfl) ?_; clear hS; intro bk wk hS) | (refine onlyN_end ?_) | (refine onlyN_now ?_) | ((go_at_call 58); (with_reducible refine sl_call hS (XCW.out _) ?_); clear hS; intro wk hS) | ((go_at_call 61); (with_reducible refine sl_call hS (XCS.out _) ?_); clear hS; intro wk hS))
  go_ret2
  exact ⟨rfl, hS.gr⟩
end Cp
end Go.Proofs.Ytjoalcaooccbiaa
/- CpBits -/
namespace Go.Proofs.Ytjoalcaooccbiaa
open Go.RowKit VecM
namespace Cp
theorem bs_set (c : Nat → Int) (j : Nat) (h : j < 16) (y : Int) : (bs c).setIfInBounds j (.int .u8 y) = bs (upd c j y) := by
 rw [← bs_setL c j y h]
 simp only [List.setIfInBounds_toArray]
def bK (f b : Nat → Int) (k : Nat) : Nat → Int := fun m => if m < k then f m else b m
theorem bK_0 (f b : Nat → Int) : bK f b 0 = b := by funext m; unfold bK; rw [if_neg (by omega)]
theorem bK_at (f b : Nat → Int) (k : Nat) : bK f b k k = b k := by unfold bK; rw [if_neg (by omega)]
theorem bK_succ (f b : Nat → Int) (k : Nat) : upd (bK f b k) k (f k) = bK f b (k + 1) := by
 funext m; unfold upd bK; by_cases h : m = k
 ·subst h; simp
 ·rw [if_neg h]; by_cases h2 : m < k
  ·rw [if_pos h2, if_pos (by omega)]
  ·rw [if_neg h2, if_neg (by omega)]
def notB (x : Int) : Int := bits .xor .u8 (if IntKind.u8.signed = true then -1 else IntKind.u8.max) x
def VecsAt (w : World) (g o n : Nat) (B : Nat → Nat → Int) : Prop := ∀ k, k < n → ∀ m, m < 16 → w.cell? ⟨g, o + k * 16 + m, none⟩ = some (.int .u8 (B k m))
theorem sbits_any (op : Int) (w : World) : Calls Try.prog 45 #[.int .i64 op] w fun e w' => e = .returned (.int .i64 (if op = 64845 then 1 else if op = 64846 ∨ op = 64847 ∨ op = 64848 ∨ op = 64849 then 2 else if op = 64850 then 3 else 0)) ∧ w = w' := by
 by_cases h : op = 64845 ∨ op = 64846 ∨ op = 64847 ∨ op = 64848 ∨ op = 64849 ∨ op = 64850
 ·rcases h with rfl | rfl | rfl | rfl | rfl | rfl
  all_goals
   go_enter Try.func45, Try.ntmps45
   go_wp2
   go_ret
   exact ⟨rfl, rfl⟩
 ·have e : (if op = 64845 then (1 : Int) else if op = 64846 ∨ op = 64847 ∨ op = 64848 ∨ op = 64849 then 2 else if op = 64850 then 3 else 0) = 0 := by
   rw [if_neg (by omega), if_neg (by omega), if_neg (by omega)]
  rw [e]
  have h1 : (op == 64845) = false := beq_eq_false_iff_ne.2 (by omega)
  have h2 : (op == 64846) = false := beq_eq_false_iff_ne.2 (by omega)
  have h3 : (op == 64847) = false := beq_eq_false_iff_ne.2 (by omega)
  have h4 : (op == 64848) = false := beq_eq_false_iff_ne.2 (by omega)
  have h5 : (op == 64849) = false := beq_eq_false_iff_ne.2 (by omega)
  have h6 : (op == 64850) = false := beq_eq_false_iff_ne.2 (by omega)
  clear h e
  go_enter Try.func45, Try.ntmps45
  go_wp2
  go_ret
  exact ⟨rfl, rfl⟩
set_option maxRecDepth 100000 in
set_option maxHeartbeats 8000000 in
theorem bits_not (g o c : Nat) (B : Nat → Nat → Int) (w : World) (hc : VecsAt w g o 1 B) :
  Calls Try.prog 14 #[.int .i64 64845, .slice (some ⟨g, o, none⟩) 1 c] w fun e w' => e = .returned (.tuple #[.agg (bs fun m => notB (B 0 m)), .int .i64 0]) ∧ Gr w w' := by
 have hv0 : ∀ wk, Gr w wk → ∀ j v, (bs (B 0)).toList[j]? = some v → wk.cell? ⟨g, o + j, none⟩ = some v := fun wk hg j v hj => by
  have hlt : j < 16 := by
   have := (List.getElem?_eq_some_iff.1 hj).1
   simpa using this
  have h1 := gr_cell hg (hc 0 (by omega) j hlt)
  rw [Nat.zero_mul, Nat.add_zero] at h1
  have h2 : (bs (B 0))[j]? = some v := by simpa using hj
  rw [bs_get _ j hlt] at h2
  rw [h1, ← h2]
 have HV0 := Lib.hid hv0
 have HVC := Lib.hid hc
 have CB := fun w => calls_gr (sbits_any 64845 w)
 rw [show (if (64845 : Int) = 64845 then (1 : Int) else if (64845 : Int) = 64846 ∨ (64845 : Int) = 64847 ∨ (64845 : Int) = 64848 ∨ (64845 : Int) = 64849 then 2 else if (64845 : Int) = 64850 then 3 else 0) = 1 from by decide] at CB
 have XCB := Lib.hid CB
 clear hv0 hc CB
 obtain ⟨f, hf⟩ : ∃ f : Nat → Int, f = fun m => notB (B 0 m) := ⟨_, rfl⟩
 rw [← hf]
 have HFD := Lib.hid hf
 clear hf
 have hS := St.start w
 go_enter Try.func14, Try.ntmps14
 go_upto_region 4 with (first | (refine ldV hS rfl _ rfl rfl ?_) | (refine stV hS rfl _ _ rfl rfl rfl ?_; clear hS; intro wk hS) | (refine sl_box hS rfl _ 40 (box_vec rfl rfl) ?_; clear hS; intro bk wk hS) | (refine sl_box hS rfl _ 40 (alloc_vec rfl) ?_; clear hS; intro z wk hS) | (refine onlyN_end ?_) | (refine onlyN_now ?_) | ((go_at_call 45); (with_reducible refine sl_call hS (XCB.out _) ?_); clear hS; intro wk hS))
 go_wp2_with (first | (refine ldV hS rfl _ rfl rfl ?_) | (refine stV hS rfl _ _ rfl rfl rfl ?_; clear hS; intro wk hS) | (refine sl_box hS rfl _ 40 (box_vec rfl rfl) ?_; clear hS; intro bk wk hS) | (refine sl_box hS rfl _ 40 (alloc_vec rfl) ?_; clear hS; intro r wk hS) | (refine onlyN_end ?_) | (refine onlyN_now ?_) | (refine wpList_load_cells rfl 40 _ rfl g o rfl (bs (B 0)) _ (HV0.out _ hS.gr) Try.underlying40 rfl infoV ?_))
 go_loopw [23] (fun u wr => ∃ k : Nat, k ≤ 16 ∧ u = .int .i64 k ∧ St w [⟨r, bs (bK f (B 0) k), 40⟩, ⟨z, bs (fun _ => 0), 40⟩] wr) (fun u _ => 16 - (intOf u).toNat)
 case atStart => exact ⟨0, by omega, rfl, by rw [bK_0]; exact hS⟩
 case round =>
  obtain ⟨k, hk, rfl, hS⟩ := hrel
  by_cases hlt : k < 16
  ·have HB7 := Lib.hid ((bs_get (bK f (B 0) k) k hlt).trans (by rw [bK_at]))
   have HFK := Lib.hid (show f k = notB (B 0 k) by rw [HFD.out])
   have HU := Lib.hid (bK_succ f (B 0) k)
   generalize B 0 k = x0 at *
   have h7 := (hS.cell (show Has _ r _ _ from (by repeat (first | exact Has.hd | apply Has.tl))) k).trans HB7.out
   have h8 := hS.thawed (show Has _ r _ _ from (by repeat (first | exact Has.hd | apply Has.tl))) k
   have HX := Lib.hid (hS.setCell k (.int .u8 (f k)) (b := r) Rep.hd)
   clear hS
   go_wp2_with (first | (refine onlyN_end ?_) | (refine onlyN_now ?_))
   refine ⟨⟨k + 1, by omega, by go_num, ?_⟩, by simp [intOf]; omega⟩
   have hr := HX.out
   rw [bs_set _ _ hlt, HU.out, HFK.out] at hr
   exact hr
  ·obtain rfl : k = 16 := by omega
   have e : bs (bK f (B 0) 16) = bs f := bs_congr fun m hm => by unfold bK; rw [if_pos hm]
   rw [e] at hS
   clear e
   go_wp2_with (first | (refine ldV hS rfl _ rfl rfl ?_) | (refine stV hS rfl _ _ rfl rfl rfl ?_; clear hS; intro wk hS) | (refine sl_box hS rfl _ 40 (box_vec rfl rfl) ?_; clear hS; intro bk wk hS) | (refine sl_box hS rfl _ 40 (alloc_vec rfl) ?_; clear hS; intro bk wk hS) | (refine onlyN_end ?_) | (refine onlyN_now ?_))
   refine sl_ret2 hS Try.results14 (by rfl) (by repeat (first | exact Has.hd | apply Has.tl)) Try.underlying40 rfl (by exact infoV) (by rfl) ?_
   exact ⟨rfl, hS.gr⟩
set_option maxRecDepth 100000 in
set_option maxHeartbeats 8000000 in
theorem bits_and (g o c : Nat) (B : Nat → Nat → Int) (w : World) (hc : VecsAt w g o 2 B) :
  Calls Try.prog 14 #[.int .i64 64846, .slice (some ⟨g, o, none⟩) 2 c] w fun e w' => e = .returned (.tuple #[.agg (bs fun m => bits .and .u8 (B 0 m) (B 1 m)), .int .i64 0]) ∧ Gr w w' := by
 have hv0 : ∀ wk, Gr w wk → ∀ j v, (bs (B 0)).toList[j]? = some v → wk.cell? ⟨g, o + j, none⟩ = some v := fun wk hg j v hj => by
  have hlt : j < 16 := by
   have := (List.getElem?_eq_some_iff.1 hj).1
   simpa using this
  have h1 := gr_cell hg (hc 0 (by omega) j hlt)
  rw [Nat.zero_mul, Nat.add_zero] at h1
  have h2 : (bs (B 0))[j]? = some v := by simpa using hj
  rw [bs_get _ j hlt] at h2
  rw [h1, ← h2]
 have HV0 := Lib.hid hv0
 have HVC := Lib.hid hc
 have CB := fun w => calls_gr (sbits_any 64846 w)
 rw [show (if (64846 : Int) = 64845 then (1 : Int) else if (64846 : Int) = 64846 ∨ (64846 : Int) = 64847 ∨ (64846 : Int) = 64848 ∨ (64846 : Int) = 64849 then 2 else if (64846 : Int) = 64850 then 3 else 0) = 2 from by decide] at CB
 have XCB := Lib.hid CB
 clear hv0 hc CB
 obtain ⟨f, hf⟩ : ∃ f : Nat → Int, f = fun m => bits .and .u8 (B 0 m) (B 1 m) := ⟨_, rfl⟩
 rw [← hf]
 have HFD := Lib.hid hf
 clear hf
 have hS := St.start w
 go_enter Try.func14, Try.ntmps14
 go_upto_region 4 with (first | (refine ldV hS rfl _ rfl rfl ?_) | (refine stV hS rfl _ _ rfl rfl rfl ?_; clear hS; intro wk hS) | (refine sl_box hS rfl _ 40 (box_vec rfl rfl) ?_; clear hS; intro bk wk hS) | (refine sl_box hS rfl _ 40 (alloc_vec rfl) ?_; clear hS; intro z wk hS) | (refine onlyN_end ?_) | (refine onlyN_now ?_) | ((go_at_call 45); (with_reducible refine sl_call hS (XCB.out _) ?_); clear hS; intro wk hS))
 go_wp2_with (first | (refine ldV hS rfl _ rfl rfl ?_) | (refine stV hS rfl _ _ rfl rfl rfl ?_; clear hS; intro wk hS) | (refine sl_box hS rfl _ 40 (box_vec rfl rfl) ?_; clear hS; intro bk wk hS) | (refine sl_box hS rfl _ 40 (alloc_vec rfl) ?_; clear hS; intro r wk hS) | (refine onlyN_end ?_) | (refine onlyN_now ?_) | (refine wpList_load_cells rfl 40 _ rfl g o rfl (bs (B 0)) _ (HV0.out _ hS.gr) Try.underlying40 rfl infoV ?_))
 go_loopw [23] (fun u wr => ∃ k : Nat, k ≤ 16 ∧ u = .int .i64 k ∧ St w [⟨r, bs (bK f (B 0) k), 40⟩, ⟨z, bs (fun _ => 0), 40⟩] wr) (fun u _ => 16 - (intOf u).toNat)
 case atStart => exact ⟨0, by omega, rfl, by rw [bK_0]; exact hS⟩
 case round =>
  obtain ⟨k, hk, rfl, hS⟩ := hrel
  by_cases hlt : k < 16
  ·have HB7 := Lib.hid ((bs_get (bK f (B 0) k) k hlt).trans (by rw [bK_at]))
   have HF1 := Lib.hid (fun (wk : World) (hg : Gr w wk) => show wk.cell? ⟨g, o + 16 + k, none⟩ = some (.int .u8 (B 1 k)) from gr_cell hg (HVC.out 1 (by omega) k hlt))
   have HFK := Lib.hid (show f k = bits .and .u8 (B 0 k) (B 1 k) by rw [HFD.out])
   have HU := Lib.hid (bK_succ f (B 0) k)
   generalize B 0 k = x0 at *
   generalize B 1 k = x1 at *
   go_upto_region 13 with (first | (refine ldV hS rfl _ rfl rfl ?_) | (refine stV hS rfl _ _ rfl rfl rfl ?_; clear hS; intro wk hS) | (refine sl_box hS rfl _ 40 (box_vec rfl rfl) ?_; clear hS; intro bk wk hS) | (refine sl_box hS rfl _ 40 (alloc_vec rfl) ?_; clear hS; intro bk wk hS) | (refine onlyN_end ?_) | (refine onlyN_now ?_))
   refine sd_tail 10 hS (by kernel_rfl) (by kernel_rfl) ?_
   simp only [List.take_succ_cons, List.take_zero, List.drop_succ_cons, List.drop_zero]
   iterate 10 (refine sd_step (fun K hK => ?_); (apply sd_yes rfl; focus (intro wx hx; have h7 := (hx.cell (show Has _ r _ _ from (by repeat (first | exact Has.hd | apply Has.tl))) k).trans HB7.out; have hf1 := HF1.out _ hx.gr; go_simp; exact ⟨rfl, Gr.refl _⟩)); go_simp; refine hK _ ?_; clear hK K)
   refine sd_nil ?_
   clear hS
   intro wk hS
   have h7 := (hS.cell (show Has _ r _ _ from (by repeat (first | exact Has.hd | apply Has.tl))) k).trans HB7.out
   have h8 := hS.thawed (show Has _ r _ _ from (by repeat (first | exact Has.hd | apply Has.tl))) k
   have HX := Lib.hid (hS.setCell k (.int .u8 (f k)) (b := r) Rep.hd)
   clear hS
   go_wp2_with (first | (refine onlyN_end ?_) | (refine onlyN_now ?_))
   refine ⟨⟨k + 1, by omega, by go_num, ?_⟩, by simp [intOf]; omega⟩
   have hr := HX.out
   rw [bs_set _ _ hlt, HU.out, HFK.out] at hr
   exact hr
  ·obtain rfl : k = 16 := by omega
   have e : bs (bK f (B 0) 16) = bs f := bs_congr fun m hm => by unfold bK; rw [if_pos hm]
   rw [e] at hS
   clear e
   go_wp2_with (first | (refine ldV hS rfl _ rfl rfl ?_) | (refine stV hS rfl _ _ rfl rfl rfl ?_; clear hS; intro wk hS) | (refine sl_box hS rfl _ 40 (box_vec rfl rfl) ?_; clear hS; intro bk wk hS) | (refine sl_box hS rfl _ 40 (alloc_vec rfl) ?_; clear hS; intro bk wk hS) | (refine onlyN_end ?_) | (refine onlyN_now ?_))
   refine sl_ret2 hS Try.results14 (by rfl) (by repeat (first | exact Has.hd | apply Has.tl)) Try.underlying40 rfl (by exact infoV) (by rfl) ?_
   exact ⟨rfl, hS.gr⟩
set_option maxRecDepth 100000 in
set_option maxHeartbeats 8000000 in
theorem bits_andnot (g o c : Nat) (B : Nat → Nat → Int) (w : World) (hc : VecsAt w g o 2 B) :
  Calls Try.prog 14 #[.int .i64 64847, .slice (some ⟨g, o, none⟩) 2 c] w fun e w' => e = .returned (.tuple #[.agg (bs fun m => bits .andNot .u8 (B 0 m) (B 1 m)), .int .i64 0]) ∧ Gr w w' := by
 have hv0 : ∀ wk, Gr w wk → ∀ j v, (bs (B 0)).toList[j]? = some v → wk.cell? ⟨g, o + j, none⟩ = some v := fun wk hg j v hj => by
  have hlt : j < 16 := by
   have := (List.getElem?_eq_some_iff.1 hj).1
   simpa using this
  have h1 := gr_cell hg (hc 0 (by omega) j hlt)
  rw [Nat.zero_mul, Nat.add_zero] at h1
  have h2 : (bs (B 0))[j]? = some v := by simpa using hj
  rw [bs_get _ j hlt] at h2
  rw [h1, ← h2]
 have HV0 := Lib.hid hv0
 have HVC := Lib.hid hc
 have CB := fun w => calls_gr (sbits_any 64847 w)
 rw [show (if (64847 : Int) = 64845 then (1 : Int) else if (64847 : Int) = 64846 ∨ (64847 : Int) = 64847 ∨ (64847 : Int) = 64848 ∨ (64847 : Int) = 64849 then 2 else if (64847 : Int) = 64850 then 3 else 0) = 2 from by decide] at CB
 have XCB := Lib.hid CB
 clear hv0 hc CB
 obtain ⟨f, hf⟩ : ∃ f : Nat → Int, f = fun m => bits .andNot .u8 (B 0 m) (B 1 m) := ⟨_, rfl⟩
 rw [← hf]
 have HFD := Lib.hid hf
 clear hf
 have hS := St.start w
 go_enter Try.func14, Try.ntmps14
 go_upto_region 4 with (first | (refine ldV hS rfl _ rfl rfl ?_) | (refine stV hS rfl _ _ rfl rfl rfl ?_; clear hS; intro wk hS) | (refine sl_box hS rfl _ 40 (box_vec rfl rfl) ?_; clear hS; intro bk wk hS) | (refine sl_box hS rfl _ 40 (alloc_vec rfl) ?_; clear hS; intro z wk hS) | (refine onlyN_end ?_) | (refine onlyN_now ?_) | ((go_at_call 45); (with_reducible refine sl_call hS (XCB.out _) ?_); clear hS; intro wk hS))
 go_wp2_with (first | (refine ldV hS rfl _ rfl rfl ?_) | (refine stV hS rfl _ _ rfl rfl rfl ?_; clear hS; intro wk hS) | (refine sl_box hS rfl _ 40 (box_vec rfl rfl) ?_; clear hS; intro bk wk hS) | (refine sl_box hS rfl _ 40 (alloc_vec rfl) ?_; clear hS; intro r wk hS) | (refine onlyN_end ?_) | (refine onlyN_now ?_) | (refine wpList_load_cells rfl 40 _ rfl g o rfl (bs (B 0)) _ (HV0.out _ hS.gr) Try.underlying40 rfl infoV ?_))
 go_loopw [23] (fun u wr => ∃ k : Nat, k ≤ 16 ∧ u = .int .i64 k ∧ St w [⟨r, bs (bK f (B 0) k), 40⟩, ⟨z, bs (fun _ => 0), 40⟩] wr) (fun u _ => 16 - (intOf u).toNat)
 case atStart => exact ⟨0, by omega, rfl, by rw [bK_0]; exact hS⟩
 case round =>
  obtain ⟨k, hk, rfl, hS⟩ := hrel
  by_cases hlt : k < 16
  ·have HB7 := Lib.hid ((bs_get (bK f (B 0) k) k hlt).trans (by rw [bK_at]))
   have HF1 := Lib.hid (fun (wk : World) (hg : Gr w wk) => show wk.cell? ⟨g, o + 16 + k, none⟩ = some (.int .u8 (B 1 k)) from gr_cell hg (HVC.out 1 (by omega) k hlt))
   have HFK := Lib.hid (show f k = bits .andNot .u8 (B 0 k) (B 1 k) by rw [HFD.out])
   have HU := Lib.hid (bK_succ f (B 0) k)
   generalize B 0 k = x0 at *
   generalize B 1 k = x1 at *
   go_upto_region 15 with (first | (refine ldV hS rfl _ rfl rfl ?_) | (refine stV hS rfl _ _ rfl rfl rfl ?_; clear hS; intro wk hS) | (refine sl_box hS rfl _ 40 (box_vec rfl rfl) ?_; clear hS; intro bk wk hS) | (refine sl_box hS rfl _ 40 (alloc_vec rfl) ?_; clear hS; intro bk wk hS) | (refine onlyN_end ?_) | (refine onlyN_now ?_))
   refine sd_tail 10 hS (by kernel_rfl) (by kernel_rfl) ?_
   simp only [List.take_succ_cons, List.take_zero, List.drop_succ_cons, List.drop_zero]
   iterate 10 (refine sd_step (fun K hK => ?_); (apply sd_yes rfl; focus (intro wx hx; have h7 := (hx.cell (show Has _ r _ _ from (by repeat (first | exact Has.hd | apply Has.tl))) k).trans HB7.out; have hf1 := HF1.out _ hx.gr; go_simp; exact ⟨rfl, Gr.refl _⟩)); go_simp; refine hK _ ?_; clear hK K)
   refine sd_nil ?_
   clear hS
   intro wk hS
   have h7 := (hS.cell (show Has _ r _ _ from (by repeat (first | exact Has.hd | apply Has.tl))) k).trans HB7.out
   have h8 := hS.thawed (show Has _ r _ _ from (by repeat (first | exact Has.hd | apply Has.tl))) k
   have HX := Lib.hid (hS.setCell k (.int .u8 (f k)) (b := r) Rep.hd)
   clear hS
   go_wp2_with (first | (refine onlyN_end ?_) | (refine onlyN_now ?_))
   refine ⟨⟨k + 1, by omega, by go_num, ?_⟩, by simp [intOf]; omega⟩
   have hr := HX.out
   rw [bs_set _ _ hlt, HU.out, HFK.out] at hr
   exact hr
  ·obtain rfl : k = 16 := by omega
   have e : bs (bK f (B 0) 16) = bs f := bs_congr fun m hm => by unfold bK; rw [if_pos hm]
   rw [e] at hS
   clear e
   go_wp2_with (first | (refine ldV hS rfl _ rfl rfl ?_) | (refine stV hS rfl _ _ rfl rfl rfl ?_; clear hS; intro wk hS) | (refine sl_box hS rfl _ 40 (box_vec rfl rfl) ?_; clear hS; intro bk wk hS) | (refine sl_box hS rfl _ 40 (alloc_vec rfl) ?_; clear hS; intro bk wk hS) | (refine onlyN_end ?_) | (refine onlyN_now ?_))
   refine sl_ret2 hS Try.results14 (by rfl) (by repeat (first | exact Has.hd | apply Has.tl)) Try.underlying40 rfl (by exact infoV) (by rfl) ?_
   exact ⟨rfl, hS.gr⟩
set_option maxRecDepth 100000 in
set_option maxHeartbeats 8000000 in
theorem bits_or (g o c : Nat) (B : Nat → Nat → Int) (w : World) (hc : VecsAt w g o 2 B) :
  Calls Try.prog 14 #[.int .i64 64848, .slice (some ⟨g, o, none⟩) 2 c] w fun e w' => e = .returned (.tuple #[.agg (bs fun m => bits .or .u8 (B 0 m) (B 1 m)), .int .i64 0]) ∧ Gr w w' := by
 have hv0 : ∀ wk, Gr w wk → ∀ j v, (bs (B 0)).toList[j]? = some v → wk.cell? ⟨g, o + j, none⟩ = some v := fun wk hg j v hj => by
  have hlt : j < 16 := by
   have := (List.getElem?_eq_some_iff.1 hj).1
   simpa using this
  have h1 := gr_cell hg (hc 0 (by omega) j hlt)
  rw [Nat.zero_mul, Nat.add_zero] at h1
  have h2 : (bs (B 0))[j]? = some v := by simpa using hj
  rw [bs_get _ j hlt] at h2
  rw [h1, ← h2]
 have HV0 := Lib.hid hv0
 have HVC := Lib.hid hc
 have CB := fun w => calls_gr (sbits_any 64848 w)
 rw [show (if (64848 : Int) = 64845 then (1 : Int) else if (64848 : Int) = 64846 ∨ (64848 : Int) = 64847 ∨ (64848 : Int) = 64848 ∨ (64848 : Int) = 64849 then 2 else if (64848 : Int) = 64850 then 3 else 0) = 2 from by decide] at CB
 have XCB := Lib.hid CB
 clear hv0 hc CB
 obtain ⟨f, hf⟩ : ∃ f : Nat → Int, f = fun m => bits .or .u8 (B 0 m) (B 1 m) := ⟨_, rfl⟩
 rw [← hf]
 have HFD := Lib.hid hf
 clear hf
 have hS := St.start w
 go_enter Try.func14, Try.ntmps14
 go_upto_region 4 with (first | (refine ldV hS rfl _ rfl rfl ?_) | (refine stV hS rfl _ _ rfl rfl rfl ?_; clear hS; intro wk hS) | (refine sl_box hS rfl _ 40 (box_vec rfl rfl) ?_; clear hS; intro bk wk hS) | (refine sl_box hS rfl _ 40 (alloc_vec rfl) ?_; clear hS; intro z wk hS) | (refine onlyN_end ?_) | (refine onlyN_now ?_) | ((go_at_call 45); (with_reducible refine sl_call hS (XCB.out _) ?_); clear hS; intro wk hS))
 go_wp2_with (first | (refine ldV hS rfl _ rfl rfl ?_) | (refine stV hS rfl _ _ rfl rfl rfl ?_; clear hS; intro wk hS) | (refine sl_box hS rfl _ 40 (box_vec rfl rfl) ?_; clear hS; intro bk wk hS) | (refine sl_box hS rfl _ 40 (alloc_vec rfl) ?_; clear hS; intro r wk hS) | (refine onlyN_end ?_) | (refine onlyN_now ?_) | (refine wpList_load_cells rfl 40 _ rfl g o rfl (bs (B 0)) _ (HV0.out _ hS.gr) Try.underlying40 rfl infoV ?_))
 go_loopw [23] (fun u wr => ∃ k : Nat, k ≤ 16 ∧ u = .int .i64 k ∧ St w [⟨r, bs (bK f (B 0) k), 40⟩, ⟨z, bs (fun _ => 0), 40⟩] wr) (fun u _ => 16 - (intOf u).toNat)
 case atStart => exact ⟨0, by omega, rfl, by rw [bK_0]; exact hS⟩
 case round =>
  obtain ⟨k, hk, rfl, hS⟩ := hrel
  by_cases hlt : k < 16
  ·have HB7 := Lib.hid ((bs_get (bK f (B 0) k) k hlt).trans (by rw [bK_at]))
   have HF1 := Lib.hid (fun (wk : World) (hg : Gr w wk) => show wk.cell? ⟨g, o + 16 + k, none⟩ = some (.int .u8 (B 1 k)) from gr_cell hg (HVC.out 1 (by omega) k hlt))
   have HFK := Lib.hid (show f k = bits .or .u8 (B 0 k) (B 1 k) by rw [HFD.out])
   have HU := Lib.hid (bK_succ f (B 0) k)
   generalize B 0 k = x0 at *
   generalize B 1 k = x1 at *
   go_upto_region 17 with (first | (refine ldV hS rfl _ rfl rfl ?_) | (refine stV hS rfl _ _ rfl rfl rfl ?_; clear hS; intro wk hS) | (refine sl_box hS rfl _ 40 (box_vec rfl rfl) ?_; clear hS; intro bk wk hS) | (refine sl_box hS rfl _ 40 (alloc_vec rfl) ?_; clear hS; intro bk wk hS) | (refine onlyN_end ?_) | (refine onlyN_now ?_))
   refine sd_tail 10 hS (by kernel_rfl) (by kernel_rfl) ?_
   simp only [List.take_succ_cons, List.take_zero, List.drop_succ_cons, List.drop_zero]
   iterate 10 (refine sd_step (fun K hK => ?_); (apply sd_yes rfl; focus (intro wx hx; have h7 := (hx.cell (show Has _ r _ _ from (by repeat (first | exact Has.hd | apply Has.tl))) k).trans HB7.out; have hf1 := HF1.out _ hx.gr; go_simp; exact ⟨rfl, Gr.refl _⟩)); go_simp; refine hK _ ?_; clear hK K)
   refine sd_nil ?_
   clear hS
   intro wk hS
   have h7 := (hS.cell (show Has _ r _ _ from (by repeat (first | exact Has.hd | apply Has.tl))) k).trans HB7.out
   have h8 := hS.thawed (show Has _ r _ _ from (by repeat (first | exact Has.hd | apply Has.tl))) k
   have HX := Lib.hid (hS.setCell k (.int .u8 (f k)) (b := r) Rep.hd)
   clear hS
   go_wp2_with (first | (refine onlyN_end ?_) | (refine onlyN_now ?_))
   refine ⟨⟨k + 1, by omega, by go_num, ?_⟩, by simp [intOf]; omega⟩
   have hr := HX.out
   rw [bs_set _ _ hlt, HU.out, HFK.out] at hr
   exact hr
  ·obtain rfl : k = 16 := by omega
   have e : bs (bK f (B 0) 16) = bs f := bs_congr fun m hm => by unfold bK; rw [if_pos hm]
   rw [e] at hS
   clear e
   go_wp2_with (first | (refine ldV hS rfl _ rfl rfl ?_) | (refine stV hS rfl _ _ rfl rfl rfl ?_; clear hS; intro wk hS) | (refine sl_box hS rfl _ 40 (box_vec rfl rfl) ?_; clear hS; intro bk wk hS) | (refine sl_box hS rfl _ 40 (alloc_vec rfl) ?_; clear hS; intro bk wk hS) | (refine onlyN_end ?_) | (refine onlyN_now ?_))
   refine sl_ret2 hS Try.results14 (by rfl) (by repeat (first | exact Has.hd | apply Has.tl)) Try.underlying40 rfl (by exact infoV) (by rfl) ?_
   exact ⟨rfl, hS.gr⟩
set_option maxRecDepth 100000 in
set_option maxHeartbeats 8000000 in
theorem bits_xor (g o c : Nat) (B : Nat → Nat → Int) (w : World) (hc : VecsAt w g o 2 B) :
  Calls Try.prog 14 #[.int .i64 64849, .slice (some ⟨g, o, none⟩) 2 c] w fun e w' => e = .returned (.tuple #[.agg (bs fun m => bits .xor .u8 (B 0 m) (B 1 m)), .int .i64 0]) ∧ Gr w w' := by
 have hv0 : ∀ wk, Gr w wk → ∀ j v, (bs (B 0)).toList[j]? = some v → wk.cell? ⟨g, o + j, none⟩ = some v := fun wk hg j v hj => by
  have hlt : j < 16 := by
   have := (List.getElem?_eq_some_iff.1 hj).1
   simpa using this
  have h1 := gr_cell hg (hc 0 (by omega) j hlt)
  rw [Nat.zero_mul, Nat.add_zero] at h1
  have h2 : (bs (B 0))[j]? = some v := by simpa using hj
  rw [bs_get _ j hlt] at h2
  rw [h1, ← h2]
 have HV0 := Lib.hid hv0
 have HVC := Lib.hid hc
 have CB := fun w => calls_gr (sbits_any 64849 w)
 rw [show (if (64849 : Int) = 64845 then (1 : Int) else if (64849 : Int) = 64846 ∨ (64849 : Int) = 64847 ∨ (64849 : Int) = 64848 ∨ (64849 : Int) = 64849 then 2 else if (64849 : Int) = 64850 then 3 else 0) = 2 from by decide] at CB
 have XCB := Lib.hid CB
 clear hv0 hc CB
 obtain ⟨f, hf⟩ : ∃ f : Nat → Int, f = fun m => bits .xor .u8 (B 0 m) (B 1 m) := ⟨_, rfl⟩
 rw [← hf]
 have HFD := Lib.hid hf
 clear hf
 have hS := St.start w
 go_enter Try.func14, Try.ntmps14
 go_upto_region 4 with (first | (refine ldV hS rfl _ rfl rfl ?_) | (refine stV hS rfl _ _ rfl rfl rfl ?_; clear hS; intro wk hS) | (refine sl_box hS rfl _ 40 (box_vec rfl rfl) ?_; clear hS; intro bk wk hS) | (refine sl_box hS rfl _ 40 (alloc_vec rfl) ?_; clear hS; intro z wk hS) | (refine onlyN_end ?_) | (refine onlyN_now ?_) | ((go_at_call 45); (with_reducible refine sl_call hS (XCB.out _) ?_); clear hS; intro wk hS))
 go_wp2_with (first | (refine ldV hS rfl _ rfl rfl ?_) | (refine stV hS rfl _ _ rfl rfl rfl ?_; clear hS; intro wk hS) | (refine sl_box hS rfl _ 40 (box_vec rfl rfl) ?_; clear hS; intro bk wk hS) | (refine sl_box hS rfl _ 40 (alloc_vec rfl) ?_; clear hS; intro r wk hS) | (refine onlyN_end ?_) | (refine onlyN_now ?_) | (refine wpList_load_cells rfl 40 _ rfl g o rfl (bs (B 0)) _ (HV0.out _ hS.gr) Try.underlying40 rfl infoV ?_))
 go_loopw [23] (fun u wr => ∃ k : Nat, k ≤ 16 ∧ u = .int .i64 k ∧ St w [⟨r, bs (bK f (B 0) k), 40⟩, ⟨z, bs (fun _ => 0), 40⟩] wr) (fun u _ => 16 - (intOf u).toNat)
 case atStart => exact ⟨0, by omega, rfl, by rw [bK_0]; exact hS⟩
 case round =>
  obtain ⟨k, hk, rfl, hS⟩ := hrel
  by_cases hlt : k < 16
  ·have HB7 := Lib.hid ((bs_get (bK f (B 0) k) k hlt).trans (by rw [bK_at]))
   have HF1 := Lib.hid (fun (wk : World) (hg : Gr w wk) => show wk.cell? ⟨g, o + 16 + k, none⟩ = some (.int .u8 (B 1 k)) from gr_cell hg (HVC.out 1 (by omega) k hlt))
   have HFK := Lib.hid (show f k = bits .xor .u8 (B 0 k) (B 1 k) by rw [HFD.out])
   have HU := Lib.hid (bK_succ f (B 0) k)
   generalize B 0 k = x0 at *
   generalize B 1 k = x1 at *
   go_upto_region 19 with (first | (refine ldV hS rfl _ rfl rfl ?_) | (refine stV hS rfl _ _ rfl rfl rfl ?_; clear hS; intro wk hS) | (refine sl_box hS rfl _ 40 (box_vec rfl rfl) ?_; clear hS; intro bk wk hS) | (refine sl_box hS rfl _ 40 (alloc_vec rfl) ?_; clear hS; intro bk wk hS) | (refine onlyN_end ?_) | (refine onlyN_now ?_))
   refine sd_tail 10 hS (by kernel_rfl) (by kernel_rfl) ?_
   simp only [List.take_succ_cons, List.take_zero, List.drop_succ_cons, List.drop_zero]
   iterate 10 (refine sd_step (fun K hK => ?_); (apply sd_yes rfl; focus (intro wx hx; have h7 := (hx.cell (show Has _ r _ _ from (by repeat (first | exact Has.hd | apply Has.tl))) k).trans HB7.out; have hf1 := HF1.out _ hx.gr; go_simp; exact ⟨rfl, Gr.refl _⟩)); go_simp; refine hK _ ?_; clear hK K)
   refine sd_nil ?_
   clear hS
   intro wk hS
   have h7 := (hS.cell (show Has _ r _ _ from (by repeat (first | exact Has.hd | apply Has.tl))) k).trans HB7.out
   have h8 := hS.thawed (show Has _ r _ _ from (by repeat (first | exact Has.hd | apply Has.tl))) k
   have HX := Lib.hid (hS.setCell k (.int .u8 (f k)) (b := r) Rep.hd)
   clear hS
   go_wp2_with (first | (refine onlyN_end ?_) | (refine onlyN_now ?_))
   refine ⟨⟨k + 1, by omega, by go_num, ?_⟩, by simp [intOf]; omega⟩
   have hr := HX.out
   rw [bs_set _ _ hlt, HU.out, HFK.out] at hr
   exact hr
  ·obtain rfl : k = 16 := by omega
   have e : bs (bK f (B 0) 16) = bs f := bs_congr fun m hm => by unfold bK; rw [if_pos hm]
   rw [e] at hS
   clear e
   go_wp2_with (first | (refine ldV hS rfl _ rfl rfl ?_) | (refine stV hS rfl _ _ rfl rfl rfl ?_; clear hS; intro wk hS) | (refine sl_box hS rfl _ 40 (box_vec rfl rfl) ?_; clear hS; intro bk wk hS) | (refine sl_box hS rfl _ 40 (alloc_vec rfl) ?_; clear hS; intro bk wk hS) | (refine onlyN_end ?_) | (refine onlyN_now ?_))
   refine sl_ret2 hS Try.results14 (by rfl) (by repeat (first | exact Has.hd | apply Has.tl)) Try.underlying40 rfl (by exact infoV) (by rfl) ?_
   exact ⟨rfl, hS.gr⟩
set_option maxRecDepth 100000 in
set_option maxHeartbeats 8000000 in
theorem bits_sel (g o c : Nat) (B : Nat → Nat → Int) (w : World) (hc : VecsAt w g o 3 B) :
  Calls Try.prog 14 #[.int .i64 64850, .slice (some ⟨g, o, none⟩) 3 c] w fun e w' => e = .returned (.tuple #[.agg (bs fun m => bits .or .u8 (bits .and .u8 (B 0 m) (B 2 m)) (bits .andNot .u8 (B 1 m) (B 2 m))), .int .i64 0]) ∧ Gr w w' := by
 have hv0 : ∀ wk, Gr w wk → ∀ j v, (bs (B 0)).toList[j]? = some v → wk.cell? ⟨g, o + j, none⟩ = some v := fun wk hg j v hj => by
  have hlt : j < 16 := by
   have := (List.getElem?_eq_some_iff.1 hj).1
   simpa using this
  have h1 := gr_cell hg (hc 0 (by omega) j hlt)
  rw [Nat.zero_mul, Nat.add_zero] at h1
  have h2 : (bs (B 0))[j]? = some v := by simpa using hj
  rw [bs_get _ j hlt] at h2
  rw [h1, ← h2]
 have HV0 := Lib.hid hv0
 have HVC := Lib.hid hc
 have CB := fun w => calls_gr (sbits_any 64850 w)
 rw [show (if (64850 : Int) = 64845 then (1 : Int) else if (64850 : Int) = 64846 ∨ (64850 : Int) = 64847 ∨ (64850 : Int) = 64848 ∨ (64850 : Int) = 64849 then 2 else if (64850 : Int) = 64850 then 3 else 0) = 3 from by decide] at CB
 have XCB := Lib.hid CB
 clear hv0 hc CB
 obtain ⟨f, hf⟩ : ∃ f : Nat → Int, f = fun m => bits .or .u8 (bits .and .u8 (B 0 m) (B 2 m)) (bits .andNot .u8 (B 1 m) (B 2 m)) := ⟨_, rfl⟩
 rw [← hf]
 have HFD := Lib.hid hf
 clear hf
 have hS := St.start w
 go_enter Try.func14, Try.ntmps14
 go_upto_region 4 with (first | (refine ldV hS rfl _ rfl rfl ?_) | (refine stV hS rfl _ _ rfl rfl rfl ?_; clear hS; intro wk hS) | (refine sl_box hS rfl _ 40 (box_vec rfl rfl) ?_; clear hS; intro bk wk hS) | (refine sl_box hS rfl _ 40 (alloc_vec rfl) ?_; clear hS; intro z wk hS) | (refine onlyN_end ?_) | (refine onlyN_now ?_) | ((go_at_call 45); (with_reducible refine sl_call hS (XCB.out _) ?_); clear hS; intro wk hS))
 go_wp2_with (first | (refine ldV hS rfl _ rfl rfl ?_) | (refine stV hS rfl _ _ rfl rfl rfl ?_; clear hS; intro wk hS) | (refine sl_box hS rfl _ 40 (box_vec rfl rfl) ?_; clear hS; intro bk wk hS) | (refine sl_box hS rfl _ 40 (alloc_vec rfl) ?_; clear hS; intro r wk hS) | (refine onlyN_end ?_) | (refine onlyN_now ?_) | (refine wpList_load_cells rfl 40 _ rfl g o rfl (bs (B 0)) _ (HV0.out _ hS.gr) Try.underlying40 rfl infoV ?_))
 go_loopw [23] (fun u wr => ∃ k : Nat, k ≤ 16 ∧ u = .int .i64 k ∧ St w [⟨r, bs (bK f (B 0) k), 40⟩, ⟨z, bs (fun _ => 0), 40⟩] wr) (fun u _ => 16 - (intOf u).toNat)
 case atStart => exact ⟨0, by omega, rfl, by rw [bK_0]; exact hS⟩
 case round =>
  obtain ⟨k, hk, rfl, hS⟩ := hrel
  by_cases hlt : k < 16
  ·have HB7 := Lib.hid ((bs_get (bK f (B 0) k) k hlt).trans (by rw [bK_at]))
   have HF1 := Lib.hid (fun (wk : World) (hg : Gr w wk) => show wk.cell? ⟨g, o + 16 + k, none⟩ = some (.int .u8 (B 1 k)) from gr_cell hg (HVC.out 1 (by omega) k hlt))
   have HF2 := Lib.hid (fun (wk : World) (hg : Gr w wk) => show wk.cell? ⟨g, o + 32 + k, none⟩ = some (.int .u8 (B 2 k)) from gr_cell hg (HVC.out 2 (by omega) k hlt))
   have HFK := Lib.hid (show f k = bits .or .u8 (bits .and .u8 (B 0 k) (B 2 k)) (bits .andNot .u8 (B 1 k) (B 2 k)) by rw [HFD.out])
   have HU := Lib.hid (bK_succ f (B 0) k)
   generalize B 0 k = x0 at *
   generalize B 1 k = x1 at *
   generalize B 2 k = x2 at *
   go_upto_region 9 with (first | (refine ldV hS rfl _ rfl rfl ?_) | (refine stV hS rfl _ _ rfl rfl rfl ?_; clear hS; intro wk hS) | (refine sl_box hS rfl _ 40 (box_vec rfl rfl) ?_; clear hS; intro bk wk hS) | (refine sl_box hS rfl _ 40 (alloc_vec rfl) ?_; clear hS; intro bk wk hS) | (refine onlyN_end ?_) | (refine onlyN_now ?_))
   refine sd_tail 23 hS (by kernel_rfl) (by kernel_rfl) ?_
   simp only [List.take_succ_cons, List.take_zero, List.drop_succ_cons, List.drop_zero]
   iterate 23 (refine sd_step (fun K hK => ?_); (apply sd_yes rfl; focus (intro wx hx; have h7 := (hx.cell (show Has _ r _ _ from (by repeat (first | exact Has.hd | apply Has.tl))) k).trans HB7.out; have hf1 := HF1.out _ hx.gr; have hf2 := HF2.out _ hx.gr; go_simp; exact ⟨rfl, Gr.refl _⟩)); go_simp; refine hK _ ?_; clear hK K)
   refine sd_nil ?_
   clear hS
   intro wk hS
   have h7 := (hS.cell (show Has _ r _ _ from (by repeat (first | exact Has.hd | apply Has.tl))) k).trans HB7.out
   have h8 := hS.thawed (show Has _ r _ _ from (by repeat (first | exact Has.hd | apply Has.tl))) k
   have HX := Lib.hid (hS.setCell k (.int .u8 (f k)) (b := r) Rep.hd)
   clear hS
   go_wp2_with (first | (refine onlyN_end ?_) | (refine onlyN_now ?_))
   refine ⟨⟨k + 1, by omega, by go_num, ?_⟩, by simp [intOf]; omega⟩
   have hr := HX.out
   rw [bs_set _ _ hlt, HU.out, HFK.out] at hr
   exact hr
  ·obtain rfl : k = 16 := by omega
   have e : bs (bK f (B 0) 16) = bs f := bs_congr fun m hm => by unfold bK; rw [if_pos hm]
   rw [e] at hS
   clear e
   go_wp2_with (first | (refine ldV hS rfl _ rfl rfl ?_) | (refine stV hS rfl _ _ rfl rfl rfl ?_; clear hS; intro wk hS) | (refine sl_box hS rfl _ 40 (box_vec rfl rfl) ?_; clear hS; intro bk wk hS) | (refine sl_box hS rfl _ 40 (alloc_vec rfl) ?_; clear hS; intro bk wk hS) | (refine onlyN_end ?_) | (refine onlyN_now ?_))
   refine sl_ret2 hS Try.results14 (by rfl) (by repeat (first | exact Has.hd | apply Has.tl)) Try.underlying40 rfl (by exact infoV) (by rfl) ?_
   exact ⟨rfl, hS.gr⟩
end Cp
end Go.Proofs.Ytjoalcaooccbiaa
