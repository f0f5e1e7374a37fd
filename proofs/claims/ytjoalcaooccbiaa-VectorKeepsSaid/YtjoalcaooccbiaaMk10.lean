/-
  Texts of this seat, joined: ArUn, ArNo. Each says what it proves.
-/
import Derived.Test.YtjoalcaooccbiaaMk8
import Derived.Lib.BitFns
/- ArUn -/
namespace Go.Proofs.Ytjoalcaooccbiaa
open Go.RowKit VecM
namespace Ar
theorem wpList_load_row_yes {P : Program} {ops : Array Oper} {Q : Exit → Act → World → Prop} {a : Act} {w : World} {rest : List Oper} {o : Oper} (hw : Region.wanted o (yielded ops a.tmps) = true) (ty : TypeId) (x : Operand) (ho : o.op = .load ty x)
  (g : Nat) (hx : a.eval x = .pointer (some ⟨g, 0, none⟩)) (t : TypeId) (cs : Array Value) (fr : Nat × Nat) (de : TypeDesc) (hg : w.heap[g]? = some (.cells cs t fr))
  (hu : P.underlying ty = some de) (hde : (match de with | .struct _ | .array _ _ => true | _ => false) = true) (hi : (P.info? ty).map (·.size) = some cs.size)
  (h : wpList P ops Q rest (a.put o.dst (.agg cs)) w) : wpList P ops Q (o :: rest) a w := by
 unfold wpList
 rw [if_pos hw]
 refine .inl ?_
 unfold Oper.wp execOp
 simp only [ho, hx, Instr.loadAt, Instr.sureAddr, Sem.run_bind, Sem.run_pure, Result.andThen_ok, run_loadVar_row w g t ty cs fr de hg hu hde hi]
 exact h
theorem there_of {v : Int} {L k : Nat} (hL : lanesI v = (L : Int)) (h : k < L) : thereB v k = true := there_iff.2 ⟨by omega, by omega⟩
theorem get_cur (b : Nat → Int) (v : Int) (f : Nat → Int) {L k : Nat} (hL : lanesI v = (L : Int)) (h : k < L) : getI (ofK b v f k) v k = getI b v k := by
 rw [get_ofK b v f k (there_of hL h) k, if_neg (by omega)]
theorem sgn_cur (b : Nat → Int) (v : Int) (f : Nat → Int) {L k : Nat} (hL : lanesI v = (L : Int)) (h : k < L) : sgnI (ofK b v f k) v k = sgnI b v k := by
 unfold sgnI; rw [get_cur b v f hL h]
def unL (kk x s : Int) : Int := if kk = 2 then (Lib.popAux 64 x.toNat : Int) else if kk = 1 then IntKind.u64.wrap (-x) else if s < 0 then IntKind.u64.wrap (-x) else x
def shL (kk m x s : Int) : Int := if kk = 11 then IntKind.u64.wrap (x * 2 ^ m.toNat) else if kk = 12 then IntKind.u64.wrap (s / 2 ^ m.toNat) else x / 2 ^ m.toNat
set_option maxRecDepth 100000 in
set_option maxHeartbeats 4000000 in
theorem un_neg (op v : Int) (b : Nat → Int) (hb : Byt b) (L : Nat) (hL : lanesI v = (L : Int)) (hL16 : L ≤ 16) (hv0 : (v == 0) = false) (f : Nat → Int) (hF : ∀ j : Nat, j < L → f j = IntKind.u64.wrap (-getI b v j))
  (hA : ∀ w, Calls Try.prog 36 #[.int .i64 op] w fun e w' => e = .returned (.tuple #[.int .i64 v, .int .i64 1]) ∧ w = w') (w : World) :
  Calls Try.prog 12 #[.int .i64 op, .agg (bs b)] w fun e w' => e = .returned (.tuple #[.agg (bs (ofK b v f L)), .int .i64 0]) ∧ Gr w w' := by
 have hcon : ∀ w, Calls Try.prog 37 #[.int .i64 v] w fun e w' => e = .returned (.int .i64 (L : Int)) ∧ w = w' := by rw [← hL]; exact lanes_any v
 have HK := Lib.hid hcon
 have HA := Lib.hid hA
 have HF := Lib.hid hF
 have BB := Lib.hid hb
 have HL := Lib.hid hL
 clear hL hcon hA hF hb
 go_enter Try.func12, Try.ntmps12
 go_wp2_with (first | (go_at_call 36; refine (HA.out _).mono ?_; rintro e w' ⟨rfl, rfl⟩) | (go_at_call 37; refine (HK.out _).mono ?_; rintro e w' ⟨rfl, rfl⟩))
 go_loopw [24] (fun i wr => ∃ k : Nat, k ≤ L ∧ i = .int .i64 k ∧ Gr w wr ∧ w.heap.size + 2 ≤ wr.heap.size ∧ wr.heap[w.heap.size]? = some (.cells (bs (ofK b v f k)) 40 (0, 0)) ∧ wr.heap[w.heap.size + 1]? = some (.cells (bs fun _ => 0) 40 (0, 0))) (fun i _ => L - (intOf i).toNat)
 case atStart => exact ⟨0, by omega, rfl, ((Gr.refl _).alloc _ _).alloc _ _, by simp, heap_alloc2_old w _ _, heap_alloc2_new w _ _⟩
 case round =>
  obtain ⟨k, hk, rfl, hg, hz, b0, b1⟩ := hrel
  have HG := Lib.hid hg
  have HZ := Lib.hid hz
  have B0 := Lib.hid b0
  have B1 := Lib.hid b1
  clear hg hz b0 b1
  by_cases hlt : k < L
  ·have HC := Lib.hid (ofK_byt BB.out v f k)
   have e1 := get_cur b v f HL.out hlt
   have e2 := sgn_cur b v f HL.out hlt
   have HFk := HF.out k hlt
   have C1 := fun w => get_any (ofK b v f k) HC.out v k w
   have C3 := fun w => signed_any (ofK b v f k) HC.out v k w
   have hxb := getI_64 BB.out v k
   rw [e1] at C1
   rw [e2] at C3
   have H1 := Lib.hid C1
   have H3 := Lib.hid C3
   have HO := Lib.hid (show ofK b v f (k + 1) = setI (ofK b v f k) v k (f k) from rfl)
   clear C1 C3 e1 e2
   generalize getI b v k = x at *
   generalize sgnI b v k = s at *
   generalize f k = z at *
   generalize ofK b v f k = c at *
   have HZk := Lib.hid HFk
   have H2 := Lib.hid (fun w => set_any c v k (IntKind.u64.wrap (-x)) w)
   clear HFk
   go_upto_region 7 with (fail)
   refine wp_region_lit ?_
   go_wp2_with (first | (refine wpList_load_row rfl 40 _ rfl w.heap.size rfl 40 (bs c) (0, 0) _ B0.out Try.underlying40 rfl infoV ?_) | (go_at_call 35; (with_reducible refine (H1.out _).mono ?_); rintro e w1 ⟨rfl, hg1⟩; focus (have G1 := Lib.hid hg1; clear hg1; have B0_1 := Lib.hid (gr_block G1.out B0.out); have B1_1 := Lib.hid (gr_block G1.out B1.out); have HG_1 := Lib.hid (gr_trans HG.out G1.out); have HZ_1 := Lib.hid (Nat.le_trans HZ.out G1.out.size))) | (refine wpList_load_row rfl 40 _ rfl w.heap.size rfl 40 (bs c) (0, 0) _ B0_1.out Try.underlying40 rfl infoV ?_) | (go_at_call 40; (with_reducible refine (H2.out _).mono ?_); rintro e w2 ⟨rfl, hg2⟩; focus (have G2 := Lib.hid hg2; clear hg2; have B0_2 := Lib.hid (gr_block G2.out B0_1.out); have B1_2 := Lib.hid (gr_block G2.out B1_1.out); have HG_2 := Lib.hid (gr_trans HG_1.out G2.out); have HZ_2 := Lib.hid (Nat.le_trans HZ_1.out G2.out.size))) | (refine wpList_store_row rfl 40 _ _ rfl w.heap.size (bs (setI c v k (IntKind.u64.wrap (-x)))) rfl rfl 40 (bs c) B0_2.out infoV rfl (bs_one _) ?_; focus (have hs0 := Lib.hid (setRow_block (c := bs (setI c v k (IntKind.u64.wrap (-x)))) B0_2.out); have hs1 := Lib.hid ((setRow_block_other (w := w2) (c := bs (setI c v k (IntKind.u64.wrap (-x)))) (show w.heap.size + 1 ≠ w.heap.size by omega)).trans B1_2.out); have hgg := Lib.hid (gr_setRow HG_2.out (g := w.heap.size) (Nat.le_refl _) (bs (setI c v k (IntKind.u64.wrap (-x))))); have hzz := Lib.hid (show w.heap.size + 2 ≤ (w2.setRow w.heap.size (bs (setI c v k (IntKind.u64.wrap (-x))))).heap.size by have := HZ_2.out; simpa [World.setRow] using this))))
   exact ⟨⟨k + 1, by omega, by go_num, hgg.out, hzz.out, by rw [HO.out, HZk.out]; exact hs0.out, hs1.out⟩, by simp [intOf]; omega⟩
  ·obtain rfl : L = k := by omega
   go_upto_region 14 with (fail)
   refine wp_region_lit ?_
   refine wpList_load_row rfl 40 _ rfl w.heap.size rfl 40 (bs (ofK b v f L)) (0, 0) _ B0.out Try.underlying40 rfl infoV ?_
   refine wpList_store_row rfl 40 _ _ rfl (w.heap.size + 1) (bs (ofK b v f L)) rfl rfl 40 (bs fun _ => 0) B1.out infoV rfl (bs_one _) ?_
   have hs2 := Lib.hid (setRow_block (c := bs (ofK b v f L)) B1.out)
   have hgg := Lib.hid (gr_setRow HG.out (g := w.heap.size + 1) (by omega) (bs (ofK b v f L)))
   go_wp2
   exact bodyPost_ret (v := .tuple #[.agg (bs (ofK b v f L)), .int .i64 0]) (results_cell_slot Try.results12 _ _ (w.heap.size + 1) 40 _ (0, 0) _ rfl hs2.out Try.underlying40 rfl infoV _ rfl) rfl ⟨rfl, hgg.out⟩
set_option maxRecDepth 100000 in
set_option maxHeartbeats 4000000 in
theorem un_abs (op v : Int) (b : Nat → Int) (hb : Byt b) (L : Nat) (hL : lanesI v = (L : Int)) (hL16 : L ≤ 16) (hv0 : (v == 0) = false) (f : Nat → Int) (hF : ∀ j : Nat, j < L → f j = if sgnI b v j < 0 then IntKind.u64.wrap (-getI b v j) else getI b v j)
  (hA : ∀ w, Calls Try.prog 36 #[.int .i64 op] w fun e w' => e = .returned (.tuple #[.int .i64 v, .int .i64 0]) ∧ w = w') (w : World) :
  Calls Try.prog 12 #[.int .i64 op, .agg (bs b)] w fun e w' => e = .returned (.tuple #[.agg (bs (ofK b v f L)), .int .i64 0]) ∧ Gr w w' := by
 have hcon : ∀ w, Calls Try.prog 37 #[.int .i64 v] w fun e w' => e = .returned (.int .i64 (L : Int)) ∧ w = w' := by rw [← hL]; exact lanes_any v
 have HK := Lib.hid hcon
 have HA := Lib.hid hA
 have HF := Lib.hid hF
 have BB := Lib.hid hb
 have HL := Lib.hid hL
 clear hL hcon hA hF hb
 go_enter Try.func12, Try.ntmps12
 go_wp2_with (first | (go_at_call 36; refine (HA.out _).mono ?_; rintro e w' ⟨rfl, rfl⟩) | (go_at_call 37; refine (HK.out _).mono ?_; rintro e w' ⟨rfl, rfl⟩))
 go_loopw [24] (fun i wr => ∃ k : Nat, k ≤ L ∧ i = .int .i64 k ∧ Gr w wr ∧ w.heap.size + 2 ≤ wr.heap.size ∧ wr.heap[w.heap.size]? = some (.cells (bs (ofK b v f k)) 40 (0, 0)) ∧ wr.heap[w.heap.size + 1]? = some (.cells (bs fun _ => 0) 40 (0, 0))) (fun i _ => L - (intOf i).toNat)
 case atStart => exact ⟨0, by omega, rfl, ((Gr.refl _).alloc _ _).alloc _ _, by simp, heap_alloc2_old w _ _, heap_alloc2_new w _ _⟩
 case round =>
  obtain ⟨k, hk, rfl, hg, hz, b0, b1⟩ := hrel
  have HG := Lib.hid hg
  have HZ := Lib.hid hz
  have B0 := Lib.hid b0
  have B1 := Lib.hid b1
  clear hg hz b0 b1
  by_cases hlt : k < L
  ·have HC := Lib.hid (ofK_byt BB.out v f k)
   have e1 := get_cur b v f HL.out hlt
   have e2 := sgn_cur b v f HL.out hlt
   have HFk := HF.out k hlt
   have C1 := fun w => get_any (ofK b v f k) HC.out v k w
   have C3 := fun w => signed_any (ofK b v f k) HC.out v k w
   have hxb := getI_64 BB.out v k
   rw [e1] at C1
   rw [e2] at C3
   have H1 := Lib.hid C1
   have H3 := Lib.hid C3
   have HO := Lib.hid (show ofK b v f (k + 1) = setI (ofK b v f k) v k (f k) from rfl)
   clear C1 C3 e1 e2
   generalize getI b v k = x at *
   generalize sgnI b v k = s at *
   generalize f k = z at *
   generalize ofK b v f k = c at *
   by_cases hs : s < 0
   ·rw [if_pos hs] at HFk
    have HZk := Lib.hid HFk
    have H2 := Lib.hid (fun w => set_any c v k (IntKind.u64.wrap (-x)) w)
    clear HFk
    go_upto_region 7 with (fail)
    refine wp_region_lit ?_
    go_wp2_with (first | (refine wpList_load_row rfl 40 _ rfl w.heap.size rfl 40 (bs c) (0, 0) _ B0.out Try.underlying40 rfl infoV ?_) | (go_at_call 35; (with_reducible refine (H1.out _).mono ?_); rintro e w1 ⟨rfl, hg1⟩; focus (have G1 := Lib.hid hg1; clear hg1; have B0_1 := Lib.hid (gr_block G1.out B0.out); have B1_1 := Lib.hid (gr_block G1.out B1.out); have HG_1 := Lib.hid (gr_trans HG.out G1.out); have HZ_1 := Lib.hid (Nat.le_trans HZ.out G1.out.size))) | (refine wpList_load_row_yes (by simp [Region.wanted, yielded]) 40 _ rfl w.heap.size rfl 40 (bs c) (0, 0) _ B0_1.out Try.underlying40 rfl infoV ?_) | (go_at_call 39; (with_reducible refine (H3.out _).mono ?_); rintro e w2 ⟨rfl, hg2⟩; focus (have G2 := Lib.hid hg2; clear hg2; have B0_2 := Lib.hid (gr_block G2.out B0_1.out); have B1_2 := Lib.hid (gr_block G2.out B1_1.out); have HG_2 := Lib.hid (gr_trans HG_1.out G2.out); have HZ_2 := Lib.hid (Nat.le_trans HZ_1.out G2.out.size))) | (refine wpList_load_row rfl 40 _ rfl w.heap.size rfl 40 (bs c) (0, 0) _ B0_2.out Try.underlying40 rfl infoV ?_) | (go_at_call 40; (with_reducible refine (H2.out _).mono ?_); rintro e w3 ⟨rfl, hg3⟩; focus (have G3 := Lib.hid hg3; clear hg3; have B0_3 := Lib.hid (gr_block G3.out B0_2.out); have B1_3 := Lib.hid (gr_block G3.out B1_2.out); have HG_3 := Lib.hid (gr_trans HG_2.out G3.out); have HZ_3 := Lib.hid (Nat.le_trans HZ_2.out G3.out.size))) | (refine wpList_store_row rfl 40 _ _ rfl w.heap.size (bs (setI c v k (IntKind.u64.wrap (-x)))) rfl rfl 40 (bs c) B0_3.out infoV rfl (bs_one _) ?_; focus (have hs0 := Lib.hid (setRow_block (c := bs (setI c v k (IntKind.u64.wrap (-x)))) B0_3.out); have hs1 := Lib.hid ((setRow_block_other (w := w3) (c := bs (setI c v k (IntKind.u64.wrap (-x)))) (show w.heap.size + 1 ≠ w.heap.size by omega)).trans B1_3.out); have hgg := Lib.hid (gr_setRow HG_3.out (g := w.heap.size) (Nat.le_refl _) (bs (setI c v k (IntKind.u64.wrap (-x))))); have hzz := Lib.hid (show w.heap.size + 2 ≤ (w3.setRow w.heap.size (bs (setI c v k (IntKind.u64.wrap (-x))))).heap.size by have := HZ_3.out; simpa [World.setRow] using this))))
    exact ⟨⟨k + 1, by omega, by go_num, hgg.out, hzz.out, by rw [HO.out, HZk.out]; exact hs0.out, hs1.out⟩, by simp [intOf]; omega⟩
   ·rw [if_neg hs] at HFk
    have HZk := Lib.hid HFk
    have H2 := Lib.hid (fun w => set_any c v k x w)
    clear HFk
    go_upto_region 7 with (fail)
    refine wp_region_lit ?_
    go_wp2_with (first | (refine wpList_load_row rfl 40 _ rfl w.heap.size rfl 40 (bs c) (0, 0) _ B0.out Try.underlying40 rfl infoV ?_) | (go_at_call 35; (with_reducible refine (H1.out _).mono ?_); rintro e w1 ⟨rfl, hg1⟩; focus (have G1 := Lib.hid hg1; clear hg1; have B0_1 := Lib.hid (gr_block G1.out B0.out); have B1_1 := Lib.hid (gr_block G1.out B1.out); have HG_1 := Lib.hid (gr_trans HG.out G1.out); have HZ_1 := Lib.hid (Nat.le_trans HZ.out G1.out.size))) | (refine wpList_load_row_yes (by simp [Region.wanted, yielded]) 40 _ rfl w.heap.size rfl 40 (bs c) (0, 0) _ B0_1.out Try.underlying40 rfl infoV ?_) | (go_at_call 39; (with_reducible refine (H3.out _).mono ?_); rintro e w2 ⟨rfl, hg2⟩; focus (have G2 := Lib.hid hg2; clear hg2; have B0_2 := Lib.hid (gr_block G2.out B0_1.out); have B1_2 := Lib.hid (gr_block G2.out B1_1.out); have HG_2 := Lib.hid (gr_trans HG_1.out G2.out); have HZ_2 := Lib.hid (Nat.le_trans HZ_1.out G2.out.size))) | (refine wpList_load_row rfl 40 _ rfl w.heap.size rfl 40 (bs c) (0, 0) _ B0_2.out Try.underlying40 rfl infoV ?_) | (go_at_call 40; (with_reducible refine (H2.out _).mono ?_); rintro e w3 ⟨rfl, hg3⟩; focus (have G3 := Lib.hid hg3; clear hg3; have B0_3 := Lib.hid (gr_block G3.out B0_2.out); have B1_3 := Lib.hid (gr_block G3.out B1_2.out); have HG_3 := Lib.hid (gr_trans HG_2.out G3.out); have HZ_3 := Lib.hid (Nat.le_trans HZ_2.out G3.out.size))) | (refine wpList_store_row rfl 40 _ _ rfl w.heap.size (bs (setI c v k x)) rfl rfl 40 (bs c) B0_3.out infoV rfl (bs_one _) ?_; focus (have hs0 := Lib.hid (setRow_block (c := bs (setI c v k x)) B0_3.out); have hs1 := Lib.hid ((setRow_block_other (w := w3) (c := bs (setI c v k x)) (show w.heap.size + 1 ≠ w.heap.size by omega)).trans B1_3.out); have hgg := Lib.hid (gr_setRow HG_3.out (g := w.heap.size) (Nat.le_refl _) (bs (setI c v k x))); have hzz := Lib.hid (show w.heap.size + 2 ≤ (w3.setRow w.heap.size (bs (setI c v k x))).heap.size by have := HZ_3.out; simpa [World.setRow] using this))))
    exact ⟨⟨k + 1, by omega, by go_num, hgg.out, hzz.out, by rw [HO.out, HZk.out]; exact hs0.out, hs1.out⟩, by simp [intOf]; omega⟩
  ·obtain rfl : L = k := by omega
   go_upto_region 14 with (fail)
   refine wp_region_lit ?_
   refine wpList_load_row rfl 40 _ rfl w.heap.size rfl 40 (bs (ofK b v f L)) (0, 0) _ B0.out Try.underlying40 rfl infoV ?_
   refine wpList_store_row rfl 40 _ _ rfl (w.heap.size + 1) (bs (ofK b v f L)) rfl rfl 40 (bs fun _ => 0) B1.out infoV rfl (bs_one _) ?_
   have hs2 := Lib.hid (setRow_block (c := bs (ofK b v f L)) B1.out)
   have hgg := Lib.hid (gr_setRow HG.out (g := w.heap.size + 1) (by omega) (bs (ofK b v f L)))
   go_wp2
   exact bodyPost_ret (v := .tuple #[.agg (bs (ofK b v f L)), .int .i64 0]) (results_cell_slot Try.results12 _ _ (w.heap.size + 1) 40 _ (0, 0) _ rfl hs2.out Try.underlying40 rfl infoV _ rfl) rfl ⟨rfl, hgg.out⟩
set_option maxRecDepth 100000 in
set_option maxHeartbeats 4000000 in
theorem un_pop (op v : Int) (b : Nat → Int) (hb : Byt b) (L : Nat) (hL : lanesI v = (L : Int)) (hL16 : L ≤ 16) (hv0 : (v == 0) = false) (f : Nat → Int) (hF : ∀ j : Nat, j < L → 0 ≤ f j ∧ f j ≤ 64 ∧ ∀ w, Calls Try.prog 38 #[.int .u64 (getI b v j)] w fun e w' => e = .returned (.int .i64 (f j)) ∧ w = w')
  (hA : ∀ w, Calls Try.prog 36 #[.int .i64 op] w fun e w' => e = .returned (.tuple #[.int .i64 v, .int .i64 2]) ∧ w = w') (w : World) :
  Calls Try.prog 12 #[.int .i64 op, .agg (bs b)] w fun e w' => e = .returned (.tuple #[.agg (bs (ofK b v f L)), .int .i64 0]) ∧ Gr w w' := by
 have hcon : ∀ w, Calls Try.prog 37 #[.int .i64 v] w fun e w' => e = .returned (.int .i64 (L : Int)) ∧ w = w' := by rw [← hL]; exact lanes_any v
 have HK := Lib.hid hcon
 have HA := Lib.hid hA
 have HF := Lib.hid hF
 have BB := Lib.hid hb
 have HL := Lib.hid hL
 clear hL hcon hA hF hb
 go_enter Try.func12, Try.ntmps12
 go_wp2_with (first | (go_at_call 36; refine (HA.out _).mono ?_; rintro e w' ⟨rfl, rfl⟩) | (go_at_call 37; refine (HK.out _).mono ?_; rintro e w' ⟨rfl, rfl⟩))
 go_loopw [24] (fun i wr => ∃ k : Nat, k ≤ L ∧ i = .int .i64 k ∧ Gr w wr ∧ w.heap.size + 2 ≤ wr.heap.size ∧ wr.heap[w.heap.size]? = some (.cells (bs (ofK b v f k)) 40 (0, 0)) ∧ wr.heap[w.heap.size + 1]? = some (.cells (bs fun _ => 0) 40 (0, 0))) (fun i _ => L - (intOf i).toNat)
 case atStart => exact ⟨0, by omega, rfl, ((Gr.refl _).alloc _ _).alloc _ _, by simp, heap_alloc2_old w _ _, heap_alloc2_new w _ _⟩
 case round =>
  obtain ⟨k, hk, rfl, hg, hz, b0, b1⟩ := hrel
  have HG := Lib.hid hg
  have HZ := Lib.hid hz
  have B0 := Lib.hid b0
  have B1 := Lib.hid b1
  clear hg hz b0 b1
  by_cases hlt : k < L
  ·have HC := Lib.hid (ofK_byt BB.out v f k)
   have e1 := get_cur b v f HL.out hlt
   have e2 := sgn_cur b v f HL.out hlt
   have HFk := HF.out k hlt
   have C1 := fun w => get_any (ofK b v f k) HC.out v k w
   have C3 := fun w => signed_any (ofK b v f k) HC.out v k w
   have hxb := getI_64 BB.out v k
   rw [e1] at C1
   rw [e2] at C3
   have H1 := Lib.hid C1
   have H3 := Lib.hid C3
   have HO := Lib.hid (show ofK b v f (k + 1) = setI (ofK b v f k) v k (f k) from rfl)
   clear C1 C3 e1 e2
   generalize getI b v k = x at *
   generalize sgnI b v k = s at *
   generalize f k = z at *
   generalize ofK b v f k = c at *
   obtain ⟨hz0, hz1, C5⟩ := HFk
   have H5 := Lib.hid C5
   have H2 := Lib.hid (fun w => set_any c v k z w)
   clear C5
   go_upto_region 7 with (fail)
   refine wp_region_lit ?_
   go_wp2_with (first | (refine wpList_load_row rfl 40 _ rfl w.heap.size rfl 40 (bs c) (0, 0) _ B0.out Try.underlying40 rfl infoV ?_) | (go_at_call 35; (with_reducible refine (H1.out _).mono ?_); rintro e w1 ⟨rfl, hg1⟩; focus (have G1 := Lib.hid hg1; clear hg1; have B0_1 := Lib.hid (gr_block G1.out B0.out); have B1_1 := Lib.hid (gr_block G1.out B1.out); have HG_1 := Lib.hid (gr_trans HG.out G1.out); have HZ_1 := Lib.hid (Nat.le_trans HZ.out G1.out.size))) | (go_at_call 38; (with_reducible refine (H5.out _).mono ?_); rintro e w4 ⟨rfl, rfl⟩) | (refine wpList_load_row rfl 40 _ rfl w.heap.size rfl 40 (bs c) (0, 0) _ B0_1.out Try.underlying40 rfl infoV ?_) | (go_at_call 40; (with_reducible refine (H2.out _).mono ?_); rintro e w2 ⟨rfl, hg2⟩; focus (have G2 := Lib.hid hg2; clear hg2; have B0_2 := Lib.hid (gr_block G2.out B0_1.out); have B1_2 := Lib.hid (gr_block G2.out B1_1.out); have HG_2 := Lib.hid (gr_trans HG_1.out G2.out); have HZ_2 := Lib.hid (Nat.le_trans HZ_1.out G2.out.size))) | (refine wpList_store_row rfl 40 _ _ rfl w.heap.size (bs (setI c v k z)) rfl rfl 40 (bs c) B0_2.out infoV rfl (bs_one _) ?_; focus (have hs0 := Lib.hid (setRow_block (c := bs (setI c v k z)) B0_2.out); have hs1 := Lib.hid ((setRow_block_other (w := w2) (c := bs (setI c v k z)) (show w.heap.size + 1 ≠ w.heap.size by omega)).trans B1_2.out); have hgg := Lib.hid (gr_setRow HG_2.out (g := w.heap.size) (Nat.le_refl _) (bs (setI c v k z))); have hzz := Lib.hid (show w.heap.size + 2 ≤ (w2.setRow w.heap.size (bs (setI c v k z))).heap.size by have := HZ_2.out; simpa [World.setRow] using this))))
   exact ⟨⟨k + 1, by omega, by go_num, hgg.out, hzz.out, by rw [HO.out]; exact hs0.out, hs1.out⟩, by simp [intOf]; omega⟩
  ·obtain rfl : L = k := by omega
   go_upto_region 14 with (fail)
   refine wp_region_lit ?_
   refine wpList_load_row rfl 40 _ rfl w.heap.size rfl 40 (bs (ofK b v f L)) (0, 0) _ B0.out Try.underlying40 rfl infoV ?_
   refine wpList_store_row rfl 40 _ _ rfl (w.heap.size + 1) (bs (ofK b v f L)) rfl rfl 40 (bs fun _ => 0) B1.out infoV rfl (bs_one _) ?_
   have hs2 := Lib.hid (setRow_block (c := bs (ofK b v f L)) B1.out)
   have hgg := Lib.hid (gr_setRow HG.out (g := w.heap.size + 1) (by omega) (bs (ofK b v f L)))
   go_wp2
   exact bodyPost_ret (v := .tuple #[.agg (bs (ofK b v f L)), .int .i64 0]) (results_cell_slot Try.results12 _ _ (w.heap.size + 1) 40 _ (0, 0) _ rfl hs2.out Try.underlying40 rfl infoV _ rfl) rfl ⟨rfl, hgg.out⟩
set_option maxRecDepth 100000 in
set_option maxHeartbeats 4000000 in
theorem sh_shl (op v : Int) (b : Nat → Int) (hb : Byt b) (L : Nat) (hL : lanesI v = (L : Int)) (hL16 : L ≤ 16) (hv0 : (v == 0) = false) (f : Nat → Int) (n m : Int) (hm : n.tmod v = m) (hm0 : 0 ≤ m ∧ m < 64) (hvv : IntKind.u32.wrap v = v) (_hn0 : 0 ≤ n ∧ n < 4294967296) (hF : ∀ j : Nat, j < L → f j = IntKind.u64.wrap (getI b v j * 2 ^ m.toNat))
  (hA : ∀ w, Calls Try.prog 36 #[.int .i64 op] w fun e w' => e = .returned (.tuple #[.int .i64 v, .int .i64 11]) ∧ w = w') (w : World) :
  Calls Try.prog 19 #[.int .i64 op, .agg (bs b), .int .u32 n] w fun e w' => e = .returned (.tuple #[.agg (bs (ofK b v f L)), .int .i64 0]) ∧ Gr w w' := by
 have hcon : ∀ w, Calls Try.prog 37 #[.int .i64 v] w fun e w' => e = .returned (.int .i64 (L : Int)) ∧ w = w' := by rw [← hL]; exact lanes_any v
 have HK := Lib.hid hcon
 have HA := Lib.hid hA
 have HF := Lib.hid hF
 have BB := Lib.hid hb
 have HL := Lib.hid hL
 clear hL hcon hA hF hb
 have hv1 : ¬ v = 0 := by simpa using hv0
 go_enter Try.func19, Try.ntmps19
 go_wp2_with (first | (go_at_call 36; refine (HA.out _).mono ?_; rintro e w' ⟨rfl, rfl⟩) | (go_at_call 37; refine (HK.out _).mono ?_; rintro e w' ⟨rfl, rfl⟩))
 go_loopw [34] (fun i wr => ∃ k : Nat, k ≤ L ∧ i = .int .i64 k ∧ Gr w wr ∧ w.heap.size + 2 ≤ wr.heap.size ∧ wr.heap[w.heap.size]? = some (.cells (bs (ofK b v f k)) 40 (0, 0)) ∧ wr.heap[w.heap.size + 1]? = some (.cells (bs fun _ => 0) 40 (0, 0))) (fun i _ => L - (intOf i).toNat)
 case atStart => exact ⟨0, by omega, rfl, ((Gr.refl _).alloc _ _).alloc _ _, by simp, heap_alloc2_old w _ _, heap_alloc2_new w _ _⟩
 case round =>
  obtain ⟨k, hk, rfl, hg, hz, b0, b1⟩ := hrel
  have HG := Lib.hid hg
  have HZ := Lib.hid hz
  have B0 := Lib.hid b0
  have B1 := Lib.hid b1
  clear hg hz b0 b1
  by_cases hlt : k < L
  ·have HC := Lib.hid (ofK_byt BB.out v f k)
   have e1 := get_cur b v f HL.out hlt
   have e2 := sgn_cur b v f HL.out hlt
   have HFk := HF.out k hlt
   have C1 := fun w => get_any (ofK b v f k) HC.out v k w
   have C3 := fun w => signed_any (ofK b v f k) HC.out v k w
   have hxb := getI_64 BB.out v k
   rw [e1] at C1
   rw [e2] at C3
   have H1 := Lib.hid C1
   have H3 := Lib.hid C3
   have HO := Lib.hid (show ofK b v f (k + 1) = setI (ofK b v f k) v k (f k) from rfl)
   clear C1 C3 e1 e2
   generalize getI b v k = x at *
   generalize sgnI b v k = s at *
   generalize f k = z at *
   generalize ofK b v f k = c at *
   have HZk := Lib.hid HFk
   have H2 := Lib.hid (fun w => set_any c v k (IntKind.u64.wrap (x * 2 ^ m.toNat)) w)
   clear HFk
   go_upto_region 8 with (fail)
   refine wp_region_lit ?_
   go_wp2_with (first | (refine wpList_load_row rfl 40 _ rfl w.heap.size rfl 40 (bs c) (0, 0) _ B0.out Try.underlying40 rfl infoV ?_) | (go_at_call 35; (with_reducible refine (H1.out _).mono ?_); rintro e w1 ⟨rfl, hg1⟩; focus (have G1 := Lib.hid hg1; clear hg1; have B0_1 := Lib.hid (gr_block G1.out B0.out); have B1_1 := Lib.hid (gr_block G1.out B1.out); have HG_1 := Lib.hid (gr_trans HG.out G1.out); have HZ_1 := Lib.hid (Nat.le_trans HZ.out G1.out.size))) | (refine wpList_load_row rfl 40 _ rfl w.heap.size rfl 40 (bs c) (0, 0) _ B0_1.out Try.underlying40 rfl infoV ?_) | (go_at_call 40; (with_reducible refine (H2.out _).mono ?_); rintro e w2 ⟨rfl, hg2⟩; focus (have G2 := Lib.hid hg2; clear hg2; have B0_2 := Lib.hid (gr_block G2.out B0_1.out); have B1_2 := Lib.hid (gr_block G2.out B1_1.out); have HG_2 := Lib.hid (gr_trans HG_1.out G2.out); have HZ_2 := Lib.hid (Nat.le_trans HZ_1.out G2.out.size))) | (refine wpList_store_row rfl 40 _ _ rfl w.heap.size (bs (setI c v k (IntKind.u64.wrap (x * 2 ^ m.toNat)))) rfl rfl 40 (bs c) B0_2.out infoV rfl (bs_one _) ?_; focus (have hs0 := Lib.hid (setRow_block (c := bs (setI c v k (IntKind.u64.wrap (x * 2 ^ m.toNat)))) B0_2.out); have hs1 := Lib.hid ((setRow_block_other (w := w2) (c := bs (setI c v k (IntKind.u64.wrap (x * 2 ^ m.toNat)))) (show w.heap.size + 1 ≠ w.heap.size by omega)).trans B1_2.out); have hgg := Lib.hid (gr_setRow HG_2.out (g := w.heap.size) (Nat.le_refl _) (bs (setI c v k (IntKind.u64.wrap (x * 2 ^ m.toNat))))); have hzz := Lib.hid (show w.heap.size + 2 ≤ (w2.setRow w.heap.size (bs (setI c v k (IntKind.u64.wrap (x * 2 ^ m.toNat))))).heap.size by have := HZ_2.out; simpa [World.setRow] using this))))
   exact ⟨⟨k + 1, by omega, by go_num, hgg.out, hzz.out, by rw [HO.out, HZk.out]; exact hs0.out, hs1.out⟩, by simp [intOf]; omega⟩
  ·obtain rfl : L = k := by omega
   go_upto_region 17 with (fail)
   refine wp_region_lit ?_
   refine wpList_load_row rfl 40 _ rfl w.heap.size rfl 40 (bs (ofK b v f L)) (0, 0) _ B0.out Try.underlying40 rfl infoV ?_
   refine wpList_store_row rfl 40 _ _ rfl (w.heap.size + 1) (bs (ofK b v f L)) rfl rfl 40 (bs fun _ => 0) B1.out infoV rfl (bs_one _) ?_
   have hs2 := Lib.hid (setRow_block (c := bs (ofK b v f L)) B1.out)
   have hgg := Lib.hid (gr_setRow HG.out (g := w.heap.size + 1) (by omega) (bs (ofK b v f L)))
   go_wp2
   exact bodyPost_ret (v := .tuple #[.agg (bs (ofK b v f L)), .int .i64 0]) (results_cell_slot Try.results19 _ _ (w.heap.size + 1) 40 _ (0, 0) _ rfl hs2.out Try.underlying40 rfl infoV _ rfl) rfl ⟨rfl, hgg.out⟩
set_option maxRecDepth 100000 in
set_option maxHeartbeats 4000000 in
theorem sh_shr_s (op v : Int) (b : Nat → Int) (hb : Byt b) (L : Nat) (hL : lanesI v = (L : Int)) (hL16 : L ≤ 16) (hv0 : (v == 0) = false) (f : Nat → Int) (n m : Int) (hm : n.tmod v = m) (hm0 : 0 ≤ m ∧ m < 64) (hvv : IntKind.u32.wrap v = v) (_hn0 : 0 ≤ n ∧ n < 4294967296) (hF : ∀ j : Nat, j < L → f j = IntKind.u64.wrap (sgnI b v j / 2 ^ m.toNat))
  (hA : ∀ w, Calls Try.prog 36 #[.int .i64 op] w fun e w' => e = .returned (.tuple #[.int .i64 v, .int .i64 12]) ∧ w = w') (w : World) :
  Calls Try.prog 19 #[.int .i64 op, .agg (bs b), .int .u32 n] w fun e w' => e = .returned (.tuple #[.agg (bs (ofK b v f L)), .int .i64 0]) ∧ Gr w w' := by
 have hcon : ∀ w, Calls Try.prog 37 #[.int .i64 v] w fun e w' => e = .returned (.int .i64 (L : Int)) ∧ w = w' := by rw [← hL]; exact lanes_any v
 have HK := Lib.hid hcon
 have HA := Lib.hid hA
 have HF := Lib.hid hF
 have BB := Lib.hid hb
 have HL := Lib.hid hL
 clear hL hcon hA hF hb
 have hv1 : ¬ v = 0 := by simpa using hv0
 go_enter Try.func19, Try.ntmps19
 go_wp2_with (first | (go_at_call 36; refine (HA.out _).mono ?_; rintro e w' ⟨rfl, rfl⟩) | (go_at_call 37; refine (HK.out _).mono ?_; rintro e w' ⟨rfl, rfl⟩))
 go_loopw [34] (fun i wr => ∃ k : Nat, k ≤ L ∧ i = .int .i64 k ∧ Gr w wr ∧ w.heap.size + 2 ≤ wr.heap.size ∧ wr.heap[w.heap.size]? = some (.cells (bs (ofK b v f k)) 40 (0, 0)) ∧ wr.heap[w.heap.size + 1]? = some (.cells (bs fun _ => 0) 40 (0, 0))) (fun i _ => L - (intOf i).toNat)
 case atStart => exact ⟨0, by omega, rfl, ((Gr.refl _).alloc _ _).alloc _ _, by simp, heap_alloc2_old w _ _, heap_alloc2_new w _ _⟩
 case round =>
  obtain ⟨k, hk, rfl, hg, hz, b0, b1⟩ := hrel
  have HG := Lib.hid hg
  have HZ := Lib.hid hz
  have B0 := Lib.hid b0
  have B1 := Lib.hid b1
  clear hg hz b0 b1
  by_cases hlt : k < L
  ·have HC := Lib.hid (ofK_byt BB.out v f k)
   have e1 := get_cur b v f HL.out hlt
   have e2 := sgn_cur b v f HL.out hlt
   have HFk := HF.out k hlt
   have C1 := fun w => get_any (ofK b v f k) HC.out v k w
   have C3 := fun w => signed_any (ofK b v f k) HC.out v k w
   have hxb := getI_64 BB.out v k
   rw [e1] at C1
   rw [e2] at C3
   have H1 := Lib.hid C1
   have H3 := Lib.hid C3
   have HO := Lib.hid (show ofK b v f (k + 1) = setI (ofK b v f k) v k (f k) from rfl)
   clear C1 C3 e1 e2
   generalize getI b v k = x at *
   generalize sgnI b v k = s at *
   generalize f k = z at *
   generalize ofK b v f k = c at *
   have HZk := Lib.hid HFk
   have H2 := Lib.hid (fun w => set_any c v k (IntKind.u64.wrap (s / 2 ^ m.toNat)) w)
   clear HFk
   go_upto_region 8 with (fail)
   refine wp_region_lit ?_
   go_wp2_with (first | (refine wpList_load_row rfl 40 _ rfl w.heap.size rfl 40 (bs c) (0, 0) _ B0.out Try.underlying40 rfl infoV ?_) | (go_at_call 35; (with_reducible refine (H1.out _).mono ?_); rintro e w1 ⟨rfl, hg1⟩; focus (have G1 := Lib.hid hg1; clear hg1; have B0_1 := Lib.hid (gr_block G1.out B0.out); have B1_1 := Lib.hid (gr_block G1.out B1.out); have HG_1 := Lib.hid (gr_trans HG.out G1.out); have HZ_1 := Lib.hid (Nat.le_trans HZ.out G1.out.size))) | (refine wpList_load_row rfl 40 _ rfl w.heap.size rfl 40 (bs c) (0, 0) _ B0_1.out Try.underlying40 rfl infoV ?_) | (go_at_call 39; (with_reducible refine (H3.out _).mono ?_); rintro e w2 ⟨rfl, hg2⟩; focus (have G2 := Lib.hid hg2; clear hg2; have B0_2 := Lib.hid (gr_block G2.out B0_1.out); have B1_2 := Lib.hid (gr_block G2.out B1_1.out); have HG_2 := Lib.hid (gr_trans HG_1.out G2.out); have HZ_2 := Lib.hid (Nat.le_trans HZ_1.out G2.out.size))) | (refine wpList_load_row rfl 40 _ rfl w.heap.size rfl 40 (bs c) (0, 0) _ B0_2.out Try.underlying40 rfl infoV ?_) | (go_at_call 40; (with_reducible refine (H2.out _).mono ?_); rintro e w3 ⟨rfl, hg3⟩; focus (have G3 := Lib.hid hg3; clear hg3; have B0_3 := Lib.hid (gr_block G3.out B0_2.out); have B1_3 := Lib.hid (gr_block G3.out B1_2.out); have HG_3 := Lib.hid (gr_trans HG_2.out G3.out); have HZ_3 := Lib.hid (Nat.le_trans HZ_2.out G3.out.size))) | (refine wpList_store_row rfl 40 _ _ rfl w.heap.size (bs (setI c v k (IntKind.u64.wrap (s / 2 ^ m.toNat)))) rfl rfl 40 (bs c) B0_3.out infoV rfl (bs_one _) ?_; focus (have hs0 := Lib.hid (setRow_block (c := bs (setI c v k (IntKind.u64.wrap (s / 2 ^ m.toNat)))) B0_3.out); have hs1 := Lib.hid ((setRow_block_other (w := w3) (c := bs (setI c v k (IntKind.u64.wrap (s / 2 ^ m.toNat)))) (show w.heap.size + 1 ≠ w.heap.size by omega)).trans B1_3.out); have hgg := Lib.hid (gr_setRow HG_3.out (g := w.heap.size) (Nat.le_refl _) (bs (setI c v k (IntKind.u64.wrap (s / 2 ^ m.toNat))))); have hzz := Lib.hid (show w.heap.size + 2 ≤ (w3.setRow w.heap.size (bs (setI c v k (IntKind.u64.wrap (s / 2 ^ m.toNat))))).heap.size by have := HZ_3.out; simpa [World.setRow] using this))))
   exact ⟨⟨k + 1, by omega, by go_num, hgg.out, hzz.out, by rw [HO.out, HZk.out]; exact hs0.out, hs1.out⟩, by simp [intOf]; omega⟩
  ·obtain rfl : L = k := by omega
   go_upto_region 17 with (fail)
   refine wp_region_lit ?_
   refine wpList_load_row rfl 40 _ rfl w.heap.size rfl 40 (bs (ofK b v f L)) (0, 0) _ B0.out Try.underlying40 rfl infoV ?_
   refine wpList_store_row rfl 40 _ _ rfl (w.heap.size + 1) (bs (ofK b v f L)) rfl rfl 40 (bs fun _ => 0) B1.out infoV rfl (bs_one _) ?_
   have hs2 := Lib.hid (setRow_block (c := bs (ofK b v f L)) B1.out)
   have hgg := Lib.hid (gr_setRow HG.out (g := w.heap.size + 1) (by omega) (bs (ofK b v f L)))
   go_wp2
   exact bodyPost_ret (v := .tuple #[.agg (bs (ofK b v f L)), .int .i64 0]) (results_cell_slot Try.results19 _ _ (w.heap.size + 1) 40 _ (0, 0) _ rfl hs2.out Try.underlying40 rfl infoV _ rfl) rfl ⟨rfl, hgg.out⟩
set_option maxRecDepth 100000 in
set_option maxHeartbeats 4000000 in
theorem sh_shr_u (op v : Int) (b : Nat → Int) (hb : Byt b) (L : Nat) (hL : lanesI v = (L : Int)) (hL16 : L ≤ 16) (hv0 : (v == 0) = false) (f : Nat → Int) (n m : Int) (hm : n.tmod v = m) (hm0 : 0 ≤ m ∧ m < 64) (hvv : IntKind.u32.wrap v = v) (_hn0 : 0 ≤ n ∧ n < 4294967296) (hF : ∀ j : Nat, j < L → f j = getI b v j / 2 ^ m.toNat)
  (hA : ∀ w, Calls Try.prog 36 #[.int .i64 op] w fun e w' => e = .returned (.tuple #[.int .i64 v, .int .i64 13]) ∧ w = w') (w : World) :
  Calls Try.prog 19 #[.int .i64 op, .agg (bs b), .int .u32 n] w fun e w' => e = .returned (.tuple #[.agg (bs (ofK b v f L)), .int .i64 0]) ∧ Gr w w' := by
 have hcon : ∀ w, Calls Try.prog 37 #[.int .i64 v] w fun e w' => e = .returned (.int .i64 (L : Int)) ∧ w = w' := by rw [← hL]; exact lanes_any v
 have HK := Lib.hid hcon
 have HA := Lib.hid hA
 have HF := Lib.hid hF
 have BB := Lib.hid hb
 have HL := Lib.hid hL
 clear hL hcon hA hF hb
 have hv1 : ¬ v = 0 := by simpa using hv0
 go_enter Try.func19, Try.ntmps19
 go_wp2_with (first | (go_at_call 36; refine (HA.out _).mono ?_; rintro e w' ⟨rfl, rfl⟩) | (go_at_call 37; refine (HK.out _).mono ?_; rintro e w' ⟨rfl, rfl⟩))
 go_loopw [34] (fun i wr => ∃ k : Nat, k ≤ L ∧ i = .int .i64 k ∧ Gr w wr ∧ w.heap.size + 2 ≤ wr.heap.size ∧ wr.heap[w.heap.size]? = some (.cells (bs (ofK b v f k)) 40 (0, 0)) ∧ wr.heap[w.heap.size + 1]? = some (.cells (bs fun _ => 0) 40 (0, 0))) (fun i _ => L - (intOf i).toNat)
 case atStart => exact ⟨0, by omega, rfl, ((Gr.refl _).alloc _ _).alloc _ _, by simp, heap_alloc2_old w _ _, heap_alloc2_new w _ _⟩
 case round =>
  obtain ⟨k, hk, rfl, hg, hz, b0, b1⟩ := hrel
  have HG := Lib.hid hg
  have HZ := Lib.hid hz
  have B0 := Lib.hid b0
  have B1 := Lib.hid b1
  clear hg hz b0 b1
  by_cases hlt : k < L
  ·have HC := Lib.hid (ofK_byt BB.out v f k)
   have e1 := get_cur b v f HL.out hlt
   have e2 := sgn_cur b v f HL.out hlt
   have HFk := HF.out k hlt
   have C1 := fun w => get_any (ofK b v f k) HC.out v k w
   have C3 := fun w => signed_any (ofK b v f k) HC.out v k w
   have hxb := getI_64 BB.out v k
   rw [e1] at C1
   rw [e2] at C3
   have H1 := Lib.hid C1
   have H3 := Lib.hid C3
   have HO := Lib.hid (show ofK b v f (k + 1) = setI (ofK b v f k) v k (f k) from rfl)
   clear C1 C3 e1 e2
   generalize getI b v k = x at *
   generalize sgnI b v k = s at *
   generalize f k = z at *
   generalize ofK b v f k = c at *
   have HZk := Lib.hid HFk
   have H2 := Lib.hid (fun w => set_any c v k (x / 2 ^ m.toNat) w)
   clear HFk
   go_upto_region 8 with (fail)
   refine wp_region_lit ?_
   go_wp2_with (first | (refine wpList_load_row rfl 40 _ rfl w.heap.size rfl 40 (bs c) (0, 0) _ B0.out Try.underlying40 rfl infoV ?_) | (go_at_call 35; (with_reducible refine (H1.out _).mono ?_); rintro e w1 ⟨rfl, hg1⟩; focus (have G1 := Lib.hid hg1; clear hg1; have B0_1 := Lib.hid (gr_block G1.out B0.out); have B1_1 := Lib.hid (gr_block G1.out B1.out); have HG_1 := Lib.hid (gr_trans HG.out G1.out); have HZ_1 := Lib.hid (Nat.le_trans HZ.out G1.out.size))) | (refine wpList_load_row rfl 40 _ rfl w.heap.size rfl 40 (bs c) (0, 0) _ B0_1.out Try.underlying40 rfl infoV ?_) | (go_at_call 40; (with_reducible refine (H2.out _).mono ?_); rintro e w2 ⟨rfl, hg2⟩; focus (have G2 := Lib.hid hg2; clear hg2; have B0_2 := Lib.hid (gr_block G2.out B0_1.out); have B1_2 := Lib.hid (gr_block G2.out B1_1.out); have HG_2 := Lib.hid (gr_trans HG_1.out G2.out); have HZ_2 := Lib.hid (Nat.le_trans HZ_1.out G2.out.size))) | (refine wpList_store_row rfl 40 _ _ rfl w.heap.size (bs (setI c v k (x / 2 ^ m.toNat))) rfl rfl 40 (bs c) B0_2.out infoV rfl (bs_one _) ?_; focus (have hs0 := Lib.hid (setRow_block (c := bs (setI c v k (x / 2 ^ m.toNat))) B0_2.out); have hs1 := Lib.hid ((setRow_block_other (w := w2) (c := bs (setI c v k (x / 2 ^ m.toNat))) (show w.heap.size + 1 ≠ w.heap.size by omega)).trans B1_2.out); have hgg := Lib.hid (gr_setRow HG_2.out (g := w.heap.size) (Nat.le_refl _) (bs (setI c v k (x / 2 ^ m.toNat)))); have hzz := Lib.hid (show w.heap.size + 2 ≤ (w2.setRow w.heap.size (bs (setI c v k (x / 2 ^ m.toNat)))).heap.size by have := HZ_2.out; simpa [World.setRow] using this))))
   exact ⟨⟨k + 1, by omega, by go_num, hgg.out, hzz.out, by rw [HO.out, HZk.out]; exact hs0.out, hs1.out⟩, by simp [intOf]; omega⟩
  ·obtain rfl : L = k := by omega
   go_upto_region 17 with (fail)
   refine wp_region_lit ?_
   refine wpList_load_row rfl 40 _ rfl w.heap.size rfl 40 (bs (ofK b v f L)) (0, 0) _ B0.out Try.underlying40 rfl infoV ?_
   refine wpList_store_row rfl 40 _ _ rfl (w.heap.size + 1) (bs (ofK b v f L)) rfl rfl 40 (bs fun _ => 0) B1.out infoV rfl (bs_one _) ?_
   have hs2 := Lib.hid (setRow_block (c := bs (ofK b v f L)) B1.out)
   have hgg := Lib.hid (gr_setRow HG.out (g := w.heap.size + 1) (by omega) (bs (ofK b v f L)))
   go_wp2
   exact bodyPost_ret (v := .tuple #[.agg (bs (ofK b v f L)), .int .i64 0]) (results_cell_slot Try.results19 _ _ (w.heap.size + 1) 40 _ (0, 0) _ rfl hs2.out Try.underlying40 rfl infoV _ rfl) rfl ⟨rfl, hgg.out⟩
end Ar
end Go.Proofs.Ytjoalcaooccbiaa
/- ArNo -/
namespace Go.Proofs.Ytjoalcaooccbiaa
open Go.RowKit
namespace Ar
theorem heap2 (w : World) (a b : Obj) : ((w.alloc a).alloc b).heap[w.heap.size]? = some a ∧ ((w.alloc a).alloc b).heap[w.heap.size + 1]? = some b :=
 ⟨heap_alloc2_old w _ _, heap_alloc2_new w _ _⟩
set_option maxRecDepth 100000 in
set_option maxHeartbeats 1000000 in
theorem un_refused (op v kk : Int) (a : Nat → Int) (h : v = 0 ∨ (v == 0) = false ∧ 2 < kk)
  (hA : ∀ w, Calls Try.prog 36 #[.int .i64 op] w fun e w' => e = .returned (.tuple #[.int .i64 v, .int .i64 kk]) ∧ w = w') (w : World) :
  Calls Try.prog 12 #[.int .i64 op, .agg (bs a)] w fun e w' => e = .returned (.tuple #[.agg (bs fun _ => 0), .int .i64 1]) ∧ Gr w w' := by
 have HA := Lib.hid hA
 clear hA
 have HH := Lib.hid (heap2 w (.cells (bs a) 40) (.cells (bs fun _ => 0) 40))
 rcases h with rfl | ⟨h1, h2⟩
 all_goals
  go_enter Try.func12, Try.ntmps12
  go_wp2_with (first | (go_at_call 36; refine (HA.out _).mono ?_; rintro e w' ⟨rfl, rfl⟩) | (refine wpList_store_row rfl 40 _ _ rfl (w.heap.size + 1) (bs fun _ => 0) rfl rfl 40 (bs fun _ => 0) HH.out.2 infoV rfl (bs_one _) ?_))
  exact bodyPost_ret (v := .tuple #[.agg (bs fun _ => 0), .int .i64 1]) (results_cell_slot Try.results12 _ _ (w.heap.size + 1) 40 _ (0, 0) _ rfl (setRow_block (c := bs fun _ => 0) HH.out.2) Try.underlying40 rfl infoV _ rfl) rfl ⟨rfl, gr_setRow (((Gr.refl _).alloc _ _).alloc _ _) (by omega) _⟩
set_option maxRecDepth 100000 in
set_option maxHeartbeats 1000000 in
theorem sh_refused (op v kk n : Int) (a : Nat → Int) (h : v = 0 ∨ (v == 0) = false ∧ kk < 11 ∨ (v == 0) = false ∧ 11 ≤ kk ∧ 13 < kk)
  (hA : ∀ w, Calls Try.prog 36 #[.int .i64 op] w fun e w' => e = .returned (.tuple #[.int .i64 v, .int .i64 kk]) ∧ w = w') (w : World) :
  Calls Try.prog 19 #[.int .i64 op, .agg (bs a), .int .u32 n] w fun e w' => e = .returned (.tuple #[.agg (bs fun _ => 0), .int .i64 1]) ∧ Gr w w' := by
 have HA := Lib.hid hA
 clear hA
 have HH := Lib.hid (heap2 w (.cells (bs a) 40) (.cells (bs fun _ => 0) 40))
 rcases h with rfl | ⟨h1, h2⟩ | ⟨h1, h2, h3⟩
 all_goals
  go_enter Try.func19, Try.ntmps19
  go_wp2_with (first | (go_at_call 36; refine (HA.out _).mono ?_; rintro e w' ⟨rfl, rfl⟩) | (refine wpList_store_row rfl 40 _ _ rfl (w.heap.size + 1) (bs fun _ => 0) rfl rfl 40 (bs fun _ => 0) HH.out.2 infoV rfl (bs_one _) ?_))
  exact bodyPost_ret (v := .tuple #[.agg (bs fun _ => 0), .int .i64 1]) (results_cell_slot Try.results19 _ _ (w.heap.size + 1) 40 _ (0, 0) _ rfl (setRow_block (c := bs fun _ => 0) HH.out.2) Try.underlying40 rfl infoV _ rfl) rfl ⟨rfl, gr_setRow (((Gr.refl _).alloc _ _).alloc _ _) (by omega) _⟩
end Ar
end Go.Proofs.Ytjoalcaooccbiaa
