/-
  Of layer 21: SplitCanon: for all types and numbers the law returns true.
-/
import Derived.Test.YthpnhanabcipmaaSpCb
namespace Go.Proofs.Ythpnhanabcipmaa
open Go.RowKit VecM Ev
namespace Sp
theorem eqD_iff {z y : Nat → Int} {n m : Nat} : eqD z n y m = true ↔ zl z n = zl y m := by unfold eqD; exact decide_eq_true_iff
theorem sdE_iff {s t : Sd} : sdE s t = true ↔ zl s.z s.n = zl t.z t.n ∧ zl s.z' s.n' = zl t.z' t.n' := by
  unfold sdE
  rw [Bool.and_eq_true, eqD_iff, eqD_iff]
theorem sdE_congr {s t u : Sd} (h : sdE t u = true) : sdE s t = sdE s u := by
  obtain ⟨h1, h2⟩ := sdE_iff.1 h
  rw [Bool.eq_iff_iff, sdE_iff, sdE_iff, h1, h2]
theorem sdE_comm {s t : Sd} : sdE s t = sdE t s := by
  rw [Bool.eq_iff_iff, sdE_iff, sdE_iff]
  exact ⟨fun h => ⟨h.1.symm, h.2.symm⟩, fun h => ⟨h.1.symm, h.2.symm⟩⟩
/-- the first one's first one is itself -/
theorem fst_fst {S : Nat → Sd} {q j : Nat} {r : Int} (h : Fst S q (j : Int)) (h' : Fst S j r) : r = j := by
  obtain ⟨j1, _, e, a, b⟩ := h
  obtain rfl : j1 = j := by omega
  exact fst_one h' ⟨j1, Nat.le_refl _, rfl, sdE_refl _, fun i hi => by rw [sdE_congr a]; exact b i hi⟩
theorem fst_same {S : Nat → Sd} {q p j j' : Nat} (h : Fst S q (j : Int)) (h' : Fst S p (j' : Int)) : decide ((j : Int) = (j' : Int)) = sdE (S q) (S p) := by
  obtain ⟨j1, _, e, a, b⟩ := h
  obtain rfl : j1 = j := by omega
  obtain ⟨j2, _, e2, a2, b2⟩ := h'
  obtain rfl : j2 = j' := by omega
  by_cases hc : (j1 : Int) = (j2 : Int)
  · obtain rfl : j1 = j2 := by omega
    rw [decide_eq_true hc]
    rw [← sdE_congr a2, sdE_comm, a]
  · rw [decide_eq_false hc]
    cases hs : sdE (S q) (S p) with
    | false => rfl
    | true =>
      have h1 : ¬ j1 < j2 := fun h => by have := b2 j1 h; rw [← sdE_congr hs, a] at this; cases this
      have h2 : ¬ j2 < j1 := fun h => by have := b j2 h; rw [sdE_congr hs, a2] at this; cases this
      exact absurd (by omega : (j1 : Int) = (j2 : Int)) hc
section
variable {P : Program} {ops : Array Oper} {w0 : World} {o : Oper} {a : Act}
theorem steady_cells_yes {K : Act → Prop} (hwt : Region.wanted o (yielded ops a.tmps) = true) (ty : TypeId) (x : Operand) (ho : o.op = .load ty x)
    (g off : Nat) (hx : a.eval x = .pointer (some ⟨g, off, none⟩)) (cs : Array Value) (d : TypeDesc) (hc : ∀ j v, cs.toList[j]? = some v → w0.cell? ⟨g, off + j, none⟩ = some v)
    (hu : P.underlying ty = some d) (hd : (match d with | .struct _ | .array _ _ => true | _ => false) = true) (hi : (P.info? ty).map (·.size) = some cs.size)
    (h : K (a.put o.dst (.agg cs))) : ∃ v, YieldsG P ops w0 o v a ∧ K (a.put o.dst v) :=
  steady_yes hwt (v := .agg cs) (fun w hw => by
    unfold execOp
    simp only [ho, hx, Instr.loadAt, Instr.sureAddr, Sem.run_bind, Sem.run_pure, Result.andThen_ok, run_loadVar_cells w g off ty cs d (fun j v hv => gr_cell hw (hc j v hv)) hu hd hi]
    exact ⟨rfl, hw⟩) h
end
theorem beq_no {a b : Int} (h : ¬ a = b) : (a == b) = false := by simpa using h
theorem load_row_yes {P : Program} {ops : Array Oper} {Q : Exit → Act → World → Prop} {a : Act} {w : World} {rest : List Oper} {o : Oper} (hw : Region.wanted o (yielded ops a.tmps) = true) (ty : TypeId) (x : Operand) (ho : o.op = .load ty x)
    (g : Nat) (hx : a.eval x = .pointer (some ⟨g, 0, none⟩)) (t : TypeId) (cs : Array Value) (fr : Nat × Nat) (de : TypeDesc) (hg : w.heap[g]? = some (.cells cs t fr))
    (hu : P.underlying ty = some de) (hde : (match de with | .struct _ | .array _ _ => true | _ => false) = true) (hi : (P.info? ty).map (·.size) = some cs.size)
    (h : wpList P ops Q rest (a.put o.dst (.agg cs)) w) : wpList P ops Q (o :: rest) a w := by
  unfold wpList
  rw [if_pos hw]
  refine .inl ?_
  unfold Oper.wp execOp
  simp only [ho, hx, Instr.loadAt, Instr.sureAddr, Sem.run_bind, Sem.run_pure, Result.andThen_ok, run_loadVar_row w g t ty cs fr de hg hu hde hi]
  exact h
theorem fst_is {S : Nat → Sd} {q j : Nat} (h : Fst S q (j : Int)) : sdE (S j) (S q) = true := by
  obtain ⟨j1, _, e, a, _⟩ := h
  have e2 : j1 = j := by omega
  rw [← e2]
  exact a
theorem sg_cells {w : World} {b off j : Nat} {x y : Value} (h1 : w.cell? ⟨b, off + j * 2, none⟩ = some x) (h2 : w.cell? ⟨b, off + j * 2 + 1, none⟩ = some y) : ∀ k u, (sgV x y).toList[k]? = some u → w.cell? ⟨b, off + j * 2 + k, none⟩ = some u := fun k u hu => by
  match k, hu with
  | 0, hu => simp [sgV] at hu; subst hu; exact h1
  | 1, hu => simp [sgV] at hu; subst hu; exact h2
  | k + 2, hu => simp [sgV] at hu
theorem infoMd : (Try.prog.info? 41).map (·.size) = some 11 := by kernel_rfl
theorem md_one (x : Option Addr) (n c : Nat) : (mdV (.slice x n c)).all (·.oneCell') = true := by kernel_rfl
set_option maxRecDepth 100000 in
set_option maxHeartbeats 8000000 in
theorem canon_law (S : Nat → Sd) (xv : Option Addr) (N cv : Nat) (i k : Int) (w : World) (hS : ∀ j, (S j).Ok w) (hv : Sgs w (.slice xv N cv) N S) :
    Calls Try.prog 7 #[.slice xv N cv, .int .i64 i, .int .i64 k] w fun e w' => e = .returned (.bool true) ∧ Gr w w' := by
  have A1 := Lib.hid (fun w1 (h : Gr w w1) (k : Int) => canon_any S (.slice xv N cv) N k w1 (fun j => (hS j).gr h) (sgs_gr hv h))
  have HV := Lib.hid hv
  have HS := Lib.hid hS
  clear hv hS
  unfold mdV at A1
  go_enter Try.func7, Try.ntmps7
  go_wp2_with fail
  refine (awake_any _).mono ?_
  rintro e w1 ⟨rfl, hg1⟩
  have HG1 := Lib.hid hg1
  clear hg1
  have HR1 := Lib.hid (heap_alloc_new w1 (.cells (mdV (.slice none 0 0)) 41))
  go_upto_region 4 with (refine wpList_store_row rfl 41 _ _ rfl w1.heap.size (mdV _) rfl rfl 41 (mdV (.slice none 0 0)) HR1.out infoMd rfl (md_one _ _ _) ?_)
  have HRm := Lib.hid (setRow_block (c := mdV (.slice xv N cv)) HR1.out)
  have HG2 := Lib.hid (show Gr w ((w1.alloc (.cells (mdV (.slice none 0 0)) 41)).setRow w1.heap.size (mdV (.slice xv N cv))) from gr_setRow (gr_trans HG1.out ((Gr.refl _).alloc _ _)) HG1.out.size _)
  clear HR1 HG1
  unfold mdV at *
  generalize (w1.alloc (.cells #[.slice none 0 0, .slice none 0 0, .slice none 0 0, .slice none 0 0, .slice none 0 0, .slice none 0 0, .slice none 0 0, .int .i64 0, .slice none 0 0, .slice none 0 0, .slice none 0 0] 41)).setRow w1.heap.size #[.slice xv N cv, .slice none 0 0, .slice none 0 0, .slice none 0 0, .slice none 0 0, .slice none 0 0, .slice none 0 0, .int .i64 0, .slice none 0 0, .slice none 0 0, .slice none 0 0] = w2 at *
  generalize w1.heap.size = gm at *
  go_upto_region 5 with (first | (refine wpList_load_row rfl 41 _ rfl gm rfl 41 _ (0, 0) _ HRm.out Try.underlying41 rfl infoMd ?_) | (go_at_call 23; refine (A1.out _ HG2.out i).mono ?_; rintro e w3 ⟨ra, rfl, hra, hg3⟩; have HRa := Lib.hid hra; have HG3 := Lib.hid (gr_trans HG2.out hg3); have HRm3 := Lib.hid (gr_block hg3 HRm.out); clear hg3 hra))
  go_upto_region 6 with (first | (refine wpList_load_row rfl 41 _ rfl gm rfl 41 _ (0, 0) _ HRm3.out Try.underlying41 rfl infoMd ?_) | (go_at_call 23; refine (A1.out _ HG3.out k).mono ?_; rintro e w4 ⟨rb, rfl, hrb, hg4⟩; have HRb := Lib.hid hrb; have HG4 := Lib.hid (gr_trans HG3.out hg4); have HRm4 := Lib.hid (gr_block hg4 HRm3.out); clear hg4 hrb))
  have hn1 : ¬ ((-1 : Int) = 0) := by decide
  have Hi : (i < 0 ∧ ra = -1) ∨ (¬ i < 0 ∧ (N : Int) ≤ i ∧ ra = -1) ∨ ∃ q j : Nat, i = q ∧ q < N ∧ j ≤ q ∧ ra = j ∧ Fst S q (j : Int) := by
    rcases HRa.out with ⟨h, rfl⟩ | ⟨q, rfl, hq, h⟩
    · by_cases hc : i < 0
      · exact .inl ⟨hc, rfl⟩
      · exact .inr (.inl ⟨hc, by omega, rfl⟩)
    · obtain ⟨j, hj, rfl, h2⟩ := id h
      exact .inr (.inr ⟨q, j, rfl, hq, hj, rfl, h⟩)
  have Hk : (k < 0 ∧ rb = -1) ∨ (¬ k < 0 ∧ (N : Int) ≤ k ∧ rb = -1) ∨ ∃ q j : Nat, k = q ∧ q < N ∧ j ≤ q ∧ rb = j ∧ Fst S q (j : Int) := by
    rcases HRb.out with ⟨h, rfl⟩ | ⟨q, rfl, hq, h⟩
    · by_cases hc : k < 0
      · exact .inl ⟨hc, rfl⟩
      · exact .inr (.inl ⟨hc, by omega, rfl⟩)
    · obtain ⟨j, hj, rfl, h2⟩ := id h
      exact .inr (.inr ⟨q, j, rfl, hq, hj, rfl, h⟩)
  clear HRa HRb HRm HRm3 HG2 HG3
  by_cases hout : (i < 0 ∨ (N : Int) ≤ i) ∨ (k < 0 ∨ (N : Int) ≤ k)
  · have hres := hout
    have HO := Lib.hid hout
    clear hout hres A1 HS HV HRm4
    rcases Hi with ⟨p1, rfl⟩ | ⟨p1, p2, rfl⟩ | ⟨qi, ja, rfl, p1, p2, rfl, p3⟩
    · rcases Hk with ⟨r1, rfl⟩ | ⟨r1, r2, rfl⟩ | ⟨qk, jb, rfl, r1, r2, rfl, r3⟩
      · clear HO
        go_wp2
        go_ret
        first
          | exact ⟨rfl, HG4.out⟩
          | exact ⟨by simp_all, HG4.out⟩
      · clear HO
        go_wp2
        go_ret
        first
          | exact ⟨rfl, HG4.out⟩
          | exact ⟨by simp_all, HG4.out⟩
      · clear HO
        have t1 : ¬ (N : Int) ≤ (qk : Int) := by omega
        have t2 : ¬ N ≤ qk := by omega
        have t3 : ((jb : Int) == -1) = false := beq_no (by omega)
        have t4 : decide ((qk : Int) < 0) = false := decide_eq_false (by omega)
        clear r3
        go_wp2
        go_ret
        first
          | exact ⟨rfl, HG4.out⟩
          | exact ⟨by simp_all, HG4.out⟩
    · rcases Hk with ⟨r1, rfl⟩ | ⟨r1, r2, rfl⟩ | ⟨qk, jb, rfl, r1, r2, rfl, r3⟩
      · clear HO
        go_wp2
        go_ret
        first
          | exact ⟨rfl, HG4.out⟩
          | exact ⟨by simp_all, HG4.out⟩
      · clear HO
        go_wp2
        go_ret
        first
          | exact ⟨rfl, HG4.out⟩
          | exact ⟨by simp_all, HG4.out⟩
      · clear HO
        have t1 : ¬ (N : Int) ≤ (qk : Int) := by omega
        have t2 : ¬ N ≤ qk := by omega
        have t3 : ((jb : Int) == -1) = false := beq_no (by omega)
        have t4 : decide ((qk : Int) < 0) = false := decide_eq_false (by omega)
        clear r3
        go_wp2
        go_ret
        first
          | exact ⟨rfl, HG4.out⟩
          | exact ⟨by simp_all, HG4.out⟩
    · rcases Hk with ⟨r1, rfl⟩ | ⟨r1, r2, rfl⟩ | ⟨qk, jb, rfl, r1, r2, rfl, r3⟩
      · clear HO
        have s1 : ¬ (N : Int) ≤ (qi : Int) := by omega
        have s2 : ¬ N ≤ qi := by omega
        have s3 : ((ja : Int) == -1) = false := beq_no (by omega)
        have s4 : decide ((qi : Int) < 0) = false := decide_eq_false (by omega)
        clear p3
        go_wp2
        go_ret
        first
          | exact ⟨rfl, HG4.out⟩
          | exact ⟨by simp_all, HG4.out⟩
      · clear HO
        have s1 : ¬ (N : Int) ≤ (qi : Int) := by omega
        have s2 : ¬ N ≤ qi := by omega
        have s3 : ((ja : Int) == -1) = false := beq_no (by omega)
        have s4 : decide ((qi : Int) < 0) = false := decide_eq_false (by omega)
        clear p3
        go_wp2
        go_ret
        first
          | exact ⟨rfl, HG4.out⟩
          | exact ⟨by simp_all, HG4.out⟩
      · exact absurd HO.out (by omega)
  · have HO := Lib.hid hout
    clear hout
    rcases Hi with ⟨p1, _⟩ | ⟨_, p2, _⟩ | ⟨qi, ja, rfl, p1, p2, rfl, p3⟩
    · exact absurd (HO.out) (by omega)
    · exact absurd (HO.out) (by omega)
    rcases Hk with ⟨r1, _⟩ | ⟨_, r2, _⟩ | ⟨qk, jb, rfl, r1, r2, rfl, r3⟩
    · exact absurd (HO.out) (by omega)
    · exact absurd (HO.out) (by omega)
    rcases HV.out with ⟨h, _⟩ | ⟨hN, b, off, cap, hb, hc⟩
    · exact absurd h (by omega)
    injection hb with hb1 _ hb2
    subst hb1 hb2
    clear HO
    have D1 := Lib.hid (fst_same p3 r3)
    have D2 := Lib.hid (fun r (h : Fst S ja r) => fst_fst p3 h)
    have D3 := Lib.hid (fst_is p3)
    have hja : ja < N := by omega
    have s1 : ¬ (N : Int) ≤ (qi : Int) := by omega
    have s2 : ¬ N ≤ qi := by omega
    have s3 : ((ja : Int) == -1) = false := beq_no (by omega)
    have s4 : decide ((qi : Int) < 0) = false := decide_eq_false (by omega)
    have t1 : ¬ (N : Int) ≤ (qk : Int) := by omega
    have t2 : ¬ N ≤ qk := by omega
    have t3 : ((jb : Int) == -1) = false := beq_no (by omega)
    have t4 : decide ((qk : Int) < 0) = false := decide_eq_false (by omega)
    have u1 : ¬ (qi : Int) < (ja : Int) := by omega
    have u2 : ¬ qi < ja := by omega
    have u3 : ¬ (qk : Int) < (jb : Int) := by omega
    have u4 : ¬ qk < jb := by omega
    clear p3 r3
    go_wp2_with (first | (refine load_row_yes (by kernel_rfl) 41 _ rfl gm rfl 41 _ (0, 0) _ HRm4.out Try.underlying41 rfl infoMd ?_) | (refine wpList_load_row rfl 41 _ rfl gm rfl 41 _ (0, 0) _ HRm4.out Try.underlying41 rfl infoMd ?_))
    refine (A1.out _ HG4.out (ja : Int)).mono ?_
    rintro e w5 ⟨rc, rfl, hrc, hg5⟩
    have hrc2 : rc = (ja : Int) := by
      rcases hrc with ⟨h, _⟩ | ⟨q', e, hq', h⟩
      · exact absurd ⟨by omega, by omega⟩ h
      · obtain rfl : q' = ja := by omega
        exact D2.out _ h
    subst hrc2
    have HG5 := Lib.hid (gr_trans HG4.out hg5)
    clear hrc hg5 A1 D2 HRm4
    have L1 := Lib.hid (sg_cells (j := qi) (gr_cell HG5.out (hc qi p1).1) (gr_cell HG5.out (hc qi p1).2))
    have L2 := Lib.hid (sg_cells (j := qk) (gr_cell HG5.out (hc qk r1).1) (gr_cell HG5.out (hc qk r1).2))
    have L3 := Lib.hid (sg_cells (j := ja) (gr_cell HG5.out (hc ja hja).1) (gr_cell HG5.out (hc ja hja).2))
    clear hc
    have C1 := Lib.hid (fun wx (h : Gr w wx) => same_sig2 (S qi) (S qk) wx ((HS.out qi).gr h) ((HS.out qk).gr h))
    have C2 := Lib.hid (fun wx (h : Gr w wx) => same_sig2 (S ja) (S qi) wx ((HS.out ja).gr h) ((HS.out qi).gr h))
    rw [D3.out] at C2
    have w1' : (qi : Int) < (N : Int) := by omega
    have w2' : (qk : Int) < (N : Int) := by omega
    have w3' : (ja : Int) < (N : Int) := by omega
    have D4 : ((ja : Int) == (jb : Int)) = sdE (S qi) (S qk) := by rw [← D1.out]; rfl
    clear D1 D3 HS HV
    generalize sdE (S qi) (S qk) = r at *
    unfold Sd.i Sd.o at *
    go_upto_region 10 with (fail)
    cases r
    all_goals
      refine wp_region_steady (by kernel_rfl) (by kernel_rfl) ?_
      refine steady_step (fun K hK => ?_); apply steady_op rfl; (focus (intro wx hw; go_simp; exact ⟨rfl, hw⟩)); go_simp; refine hK _ ?_; clear hK K
      refine steady_step (fun K hK => ?_); apply steady_op rfl; (focus (intro wx hw; go_simp; exact ⟨rfl, hw⟩)); go_simp; refine hK _ ?_; clear hK K
      refine steady_step (fun K hK => ?_); apply steady_op rfl; (focus (intro wx hw; go_simp; exact ⟨rfl, hw⟩)); go_simp; refine hK _ ?_; clear hK K
      refine steady_step (fun K hK => ?_); apply steady_op rfl; (focus (intro wx hw; go_simp; exact ⟨rfl, hw⟩)); go_simp; refine hK _ ?_; clear hK K
      refine steady_step (fun K hK => ?_); apply steady_op rfl; (focus (intro wx hw; go_simp; exact ⟨rfl, hw⟩)); go_simp; refine hK _ ?_; clear hK K
      refine steady_step (fun K hK => ?_); apply steady_op rfl; (focus (intro wx hw; go_simp; exact ⟨rfl, hw⟩)); go_simp; refine hK _ ?_; clear hK K
      refine steady_step (fun K hK => ?_)
      refine steady_load_cells rfl 25 _ rfl b (off + qi * 2) rfl (sgV (S qi).i (S qi).o) _ L1.out Try.underlying25 rfl infoSg ?_
      go_simp; refine hK _ ?_; clear hK K
      refine steady_step (fun K hK => ?_); apply steady_op rfl; (focus (intro wx hw; go_simp; exact ⟨rfl, hw⟩)); go_simp; refine hK _ ?_; clear hK K
      refine steady_step (fun K hK => ?_); apply steady_op rfl; (focus (intro wx hw; go_simp; exact ⟨rfl, hw⟩)); go_simp; refine hK _ ?_; clear hK K
      refine steady_step (fun K hK => ?_); apply steady_op rfl; (focus (intro wx hw; go_simp; exact ⟨rfl, hw⟩)); go_simp; refine hK _ ?_; clear hK K
      refine steady_step (fun K hK => ?_)
      refine steady_load_cells rfl 25 _ rfl b (off + qk * 2) rfl (sgV (S qk).i (S qk).o) _ L2.out Try.underlying25 rfl infoSg ?_
      go_simp; refine hK _ ?_; clear hK K
      refine steady_step (fun K hK => ?_)
      apply steady_op rfl
      · intro wx hw; go_simp; exact (C1.out wx (gr_trans HG5.out (gr_trans (Gr.drew (Gr.refl _)) hw))).mono fun e w3 h => ⟨h.1, gr_trans hw h.2⟩
      go_simp; refine hK _ ?_; clear hK K
      refine steady_step (fun K hK => ?_); apply steady_op rfl; (focus (intro wx hw; go_simp; exact ⟨rfl, hw⟩)); go_simp; refine hK _ ?_; clear hK K
      refine steady_step (fun K hK => ?_); apply steady_op rfl; (focus (intro wx hw; go_simp; exact ⟨rfl, hw⟩)); go_simp; refine hK _ ?_; clear hK K
      refine steady_step (fun K hK => ?_); apply steady_yes (by kernel_rfl); (focus (intro wx hw; go_simp; exact ⟨rfl, hw⟩)); go_simp; refine hK _ ?_; clear hK K
      refine steady_step (fun K hK => ?_); apply steady_yes (by kernel_rfl); (focus (intro wx hw; go_simp; exact ⟨rfl, hw⟩)); go_simp; refine hK _ ?_; clear hK K
      refine steady_step (fun K hK => ?_); apply steady_yes (by kernel_rfl); (focus (intro wx hw; go_simp; exact ⟨rfl, hw⟩)); go_simp; refine hK _ ?_; clear hK K
      refine steady_step (fun K hK => ?_)
      refine steady_cells_yes (by kernel_rfl) 25 _ rfl b (off + ja * 2) rfl (sgV (S ja).i (S ja).o) _ L3.out Try.underlying25 rfl infoSg ?_
      go_simp; refine hK _ ?_; clear hK K
      refine steady_step (fun K hK => ?_); apply steady_yes (by kernel_rfl); (focus (intro wx hw; go_simp; exact ⟨rfl, hw⟩)); go_simp; refine hK _ ?_; clear hK K
      refine steady_step (fun K hK => ?_); apply steady_yes (by kernel_rfl); (focus (intro wx hw; go_simp; exact ⟨rfl, hw⟩)); go_simp; refine hK _ ?_; clear hK K
      refine steady_step (fun K hK => ?_); apply steady_yes (by kernel_rfl); (focus (intro wx hw; go_simp; exact ⟨rfl, hw⟩)); go_simp; refine hK _ ?_; clear hK K
      refine steady_step (fun K hK => ?_)
      refine steady_cells_yes (by kernel_rfl) 25 _ rfl b (off + qi * 2) rfl (sgV (S qi).i (S qi).o) _ L1.out Try.underlying25 rfl infoSg ?_
      go_simp; refine hK _ ?_; clear hK K
      refine steady_step (fun K hK => ?_)
      apply steady_yes (by kernel_rfl)
      · intro wx hw; go_simp; exact (C2.out wx (gr_trans HG5.out (gr_trans (Gr.drew (Gr.refl _)) hw))).mono fun e w3 h => ⟨h.1, gr_trans hw h.2⟩
      go_simp; refine hK _ ?_; clear hK K
      refine steady_step (fun K hK => ?_); apply steady_op rfl; (focus (intro wx hw; go_simp; exact ⟨rfl, hw⟩)); go_simp; refine hK _ ?_; clear hK K
      refine steady_step (fun K hK => ?_); apply steady_op rfl; (focus (intro wx hw; go_simp; exact ⟨rfl, hw⟩)); go_simp; refine hK _ ?_; clear hK K
      refine steady_nil ?_
      intro wz hgz
      have HGz := Lib.hid (gr_trans HG5.out (gr_trans (Gr.drew (Gr.refl _)) hgz))
      clear hgz
      go_wp2
      go_ret
      exact ⟨rfl, HGz.out⟩
theorem split_canon {v : Value} {N : Nat} {S : Nat → Sd} {i k : Int} {w : World} (hS : ∀ j, (S j).Ok w) (hv : Sgs w v N S) :
    Calls Try.prog 7 #[v, .int .i64 i, .int .i64 k] w fun e w' => e = .returned (.bool true) ∧ Gr w w' := by
  obtain ⟨x, c, rfl⟩ := slice_sgs hv
  exact canon_law S x N c i k w hS hv
end Sp
end Go.Proofs.Ythpnhanabcipmaa
