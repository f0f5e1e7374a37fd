/-
  Texts of this seat, joined: ExU, ExV, ExV2, ExV3, ExV4, ExV5, ExFo. Each says what it proves.
-/
import Derived.Test.YtebkabidojipoaaMk7
import Derived.Test.YtebkabidojipoaaMk17
/- ExU -/
namespace Go.Proofs.Ytebkabidojipoaa
open Go.RowKit VecM LebM
namespace Ex
theorem read_any {w : World} {sv : Value} {len : Nat} {f : Nat → Int} (a : Int) (hf : By f) (hm : Ins.Mx w) (hb : U8s w sv len f) (hsv : ∀ k, sv.ownBlock = some k → k < w.heap.size) (hl : len ≤ 1099511627776) (hwz : 0 < w.heap.size) :
  Calls Try.prog 10 #[sv, .int .i64 a] w (RDX w (readS f len a)) := by
 by_cases h0 : a < 0
 ·have e0 : readS f len a = ([], 0, 1) := if_pos (.inl h0)
  rw [e0]
  obtain ⟨x, c, rfl⟩ := u8s_slice hb
  have d0 : decide (a < 0) = true := decide_eq_true h0
  clear e0 hb hsv hm
  go_enter Try.func10, Try.ntmps10
  go_wp2
  go_ret3
  exact .inl ⟨by decide, rfl, rfl, rfl, Gr.refl _⟩
 ·by_cases h1 : (len : Int) < a
  ·have e0 : readS f len a = ([], 0, 1) := if_pos (.inr h1)
   rw [e0]
   obtain ⟨x, c, rfl⟩ := u8s_slice hb
   have d0 : decide (a < 0) = false := decide_eq_false h0
   have d1 : decide (a > (len : Int)) = true := decide_eq_true h1
   clear e0 hb hsv hm
   go_enter Try.func10, Try.ntmps10
   go_wp2
   go_ret3
   exact .inl ⟨by decide, rfl, rfl, rfl, Gr.refl _⟩
  ·have e0 : readS f len a = rdS f len (len + 2) ⟨a, 0⟩ [] false [] := if_neg (by omega)
   rw [e0]
   exact read_in hf hm hb hsv (by omega) (by omega) hl hwz
theorem lsR_cells {w : World} {x : Option Addr} {n c : Nat} {l : List Int} (h : LsR w (.slice x n c) l) : n = l.length ∧ (0 < n → ∃ b off, x = some ⟨b, off, none⟩ ∧ ∀ j, j < n → w.cell? ⟨b, off + j, none⟩ = some (.int .i64 (l.getD j 0))) := by
 obtain ⟨x', c', e, h⟩ := h
 obtain ⟨rfl, rfl, rfl⟩ := Value.slice.inj e
 refine ⟨rfl, fun h0 => ?_⟩
 obtain ⟨b, off, rfl, _⟩ := h 0 h0
 refine ⟨b, off, rfl, fun j hj => ?_⟩
 obtain ⟨b', off', e1, h1⟩ := h j hj
 cases e1
 exact h1
set_option maxRecDepth 100000 in
set_option maxHeartbeats 2000000 in
theorem same_instr {op a b lo hi : Int} {l : List Int} {x1 x2 : Option Addr} {n c1 c2 : Nat} {w : World} (hl : n ≤ 4294967296) (h1 : LsR w (.slice x1 n c1) l) (h2 : LsR w (.slice x2 n c2) l) :
  Calls Try.prog 19 #[.agg #[.int .i64 op, .int .i64 a, .int .i64 b, .int .u64 lo, .int .u64 hi, .slice x1 n c1], .agg #[.int .i64 op, .int .i64 a, .int .i64 b, .int .u64 lo, .int .u64 hi, .slice x2 n c2]] w fun e w' => e = .returned (.bool true) ∧ Gr w w' := by
 have H1 := Lib.hid (lsR_cells h1).2
 have H2 := Lib.hid (lsR_cells h2).2
 have HL := Lib.hid hl
 clear h1 h2 hl
 have hr1 := heap_alloc2_old w (.cells #[.int .i64 op, .int .i64 a, .int .i64 b, .int .u64 lo, .int .u64 hi, .slice x1 n c1] 38) (.cells #[.int .i64 op, .int .i64 a, .int .i64 b, .int .u64 lo, .int .u64 hi, .slice x2 n c2] 38)
 have hr2 := heap_alloc2_new w (.cells #[.int .i64 op, .int .i64 a, .int .i64 b, .int .u64 lo, .int .u64 hi, .slice x1 n c1] 38) (.cells #[.int .i64 op, .int .i64 a, .int .i64 b, .int .u64 lo, .int .u64 hi, .slice x2 n c2] 38)
 have HR1 := Lib.hid hr1
 have HR2 := Lib.hid hr2
 have HG0 := Lib.hid (((Gr.refl w).alloc #[.int .i64 op, .int .i64 a, .int .i64 b, .int .u64 lo, .int .u64 hi, .slice x1 n c1] 38).alloc #[.int .i64 op, .int .i64 a, .int .i64 b, .int .u64 lo, .int .u64 hi, .slice x2 n c2] 38)
 clear hr1 hr2
 go_enter Try.func19, Try.ntmps19
 go_wp2_with fail
 generalize (w.alloc (.cells #[.int .i64 op, .int .i64 a, .int .i64 b, .int .u64 lo, .int .u64 hi, .slice x1 n c1] 38)).alloc (.cells #[.int .i64 op, .int .i64 a, .int .i64 b, .int .u64 lo, .int .u64 hi, .slice x2 n c2] 38) = w1 at *
 go_loopw [5] (fun i wr => ∃ k : Nat, k ≤ n ∧ i = .int .i64 k ∧ Gr w1 wr) (fun i _ => n - (intOf i).toNat)
 case atStart => exact ⟨0, by omega, rfl, Gr.refl _⟩
 case round =>
  obtain ⟨k, hk, rfl, hg⟩ := hrel
  have HG := Lib.hid hg
  clear hg
  have p5 := (cells6 (gr_block HG.out HR1.out)).2.2.2.2.2
  have q5 := (cells6 (gr_block HG.out HR2.out)).2.2.2.2.2
  by_cases hlt : k < n
  ·obtain ⟨b1, o1, rfl, hc1⟩ := H1.out (by omega)
   obtain ⟨b2, o2, rfl, hc2⟩ := H2.out (by omega)
   have t1 := gr_cell (gr_trans HG0.out HG.out) (hc1 k hlt)
   have t2 := gr_cell (gr_trans HG0.out HG.out) (hc2 k hlt)
   have hkn : (k : Int) < (n : Int) := by omega
   have TK : IntKind.i64.wrap ((k : Int) + 1) = (k : Int) + 1 := by have := HL.out; rw [IntKind.wrap_i64]; omega
   clear hc1 hc2
   go_wp2_with fail
   go_quiet (fail)
   go_wp2
   exact ⟨⟨k + 1, by omega, by first | rfl | go_num, HG.out.drewN _⟩, by simp [intOf]; omega⟩
  ·obtain rfl : k = n := by omega
   go_wp2
   go_ret
   exact ⟨rfl, gr_trans HG0.out HG.out⟩
theorem cdR_at {w : World} {x : Option Addr} {n c : Nat} {P : List (In × Value)} (h : CdR w (.slice x n c) P) : n = P.length ∧ (0 < n → ∃ b off, x = some ⟨b, off, none⟩ ∧ ∀ k p, P[k]? = some p → LsR w p.2 p.1.l ∧ ∀ j u, (inV p.1 p.2).toList[j]? = some u → w.cell? ⟨b, off + k * 6 + j, none⟩ = some u) := by
 obtain ⟨⟨x', c', e, h⟩, hl⟩ := h
 obtain ⟨rfl, rfl, rfl⟩ := Value.slice.inj e
 refine ⟨rfl, fun h0 => ?_⟩
 obtain ⟨p0, hp0⟩ : ∃ p, P[0]? = some p := ⟨_, List.getElem?_eq_getElem h0⟩
 obtain ⟨b, off, rfl, _⟩ := h (0 * 6 + 0) _ (by rw [cdV_get P 0 p0 hp0 0 (by decide)]; rfl)
 refine ⟨b, off, rfl, fun k p hp => ⟨hl p (List.mem_of_getElem? hp), fun j u hu => ?_⟩⟩
 have hj : j < 6 := by have := (List.getElem?_eq_some_iff.1 hu).1; simpa [inV] using this
 obtain ⟨b', off', e1, h1⟩ := h (k * 6 + j) u (by rw [cdV_get P k p hp j hj]; exact hu)
 cases e1
 rwa [show off + (k * 6 + j) = off + k * 6 + j by omega] at h1
set_option maxRecDepth 100000 in
set_option maxHeartbeats 2000000 in
theorem same_any {w : World} {v1 v2 : Value} {P1 P2 : List (In × Value)} (h1 : CdR w v1 P1) (h2 : CdR w v2 P2) (he : P1.map (·.1) = P2.map (·.1)) (hz : ∀ p ∈ P1, p.1.l.length ≤ 4294967296) (hn : P1.length ≤ 1099511627776) :
  Calls Try.prog 12 #[v1, v2] w fun e w' => e = .returned (.bool true) ∧ Gr w w' := by
 obtain ⟨x1, c1, rfl, _⟩ := h1.1
 obtain ⟨x2, c2, rfl, _⟩ := h2.1
 have hll : P2.length = P1.length := by have := congrArg List.length he; simpa using this.symm
 have H1 := Lib.hid (cdR_at h1).2
 have H2 := Lib.hid (cdR_at h2).2
 have HE := Lib.hid he
 have HZ := Lib.hid hz
 rw [hll] at H2 ⊢
 obtain ⟨n, hN⟩ : ∃ n, P1.length = n := ⟨_, rfl⟩
 rw [hN] at H1 H2 hn ⊢
 have HN := Lib.hid hn
 have HNN := Lib.hid hN
 have HLL := Lib.hid hll
 clear h1 h2 he hz hn hll hN
 go_enter Try.func12, Try.ntmps12
 go_wp2_with fail
 go_loopw [5] (fun i wr => ∃ k : Nat, k ≤ n ∧ i = .int .i64 k ∧ Gr w wr) (fun i _ => n - (intOf i).toNat)
 case atStart => exact ⟨0, by omega, rfl, Gr.refl _⟩
 case round =>
  obtain ⟨k, hk, rfl, hg⟩ := hrel
  have HG := Lib.hid hg
  clear hg
  by_cases hlt : k < n
  ·obtain ⟨b1, o1, rfl, hc1⟩ := H1.out (by omega)
   obtain ⟨b2, o2, rfl, hc2⟩ := H2.out (by omega)
   obtain ⟨p, hp⟩ : ∃ p, P1[k]? = some p := ⟨_, List.getElem?_eq_getElem (by have := HNN.out; omega)⟩
   obtain ⟨q, hq⟩ : ∃ q, P2[k]? = some q := ⟨_, List.getElem?_eq_getElem (by have := HNN.out; have := HLL.out; omega)⟩
   have hpq : q.1 = p.1 := by
    have := congrArg (·[k]?) HE.out
    simp only [List.getElem?_map, hp, hq] at this
    simpa using this.symm
   obtain ⟨l1, d1⟩ := hc1 k p hp
   obtain ⟨l2, d2⟩ := hc2 k q hq
   have hz1 := HZ.out p (List.mem_of_getElem? hp)
   obtain ⟨⟨op, a, b, lo, hi, l⟩, Lp⟩ := p
   obtain ⟨dq, Lq⟩ := q
   dsimp only at hpq
   subst hpq
   obtain ⟨xp, cp, e1, _⟩ := l1
   obtain ⟨xq, cq, e2, _⟩ := l2
   dsimp only at e1 e2 hz1
   subst e1 e2
   obtain ⟨m, hm⟩ : ∃ m, l.length = m := ⟨_, rfl⟩
   have D1 := Lib.hid (fun wx (hgx : Gr w wx) j u (hu : (#[.int .i64 op, .int .i64 a, .int .i64 b, .int .u64 lo, .int .u64 hi, .slice xp m cp] : Array Value).toList[j]? = some u) => gr_cell hgx (d1 j u (by rw [← hm] at hu; exact hu)))
   have D2 := Lib.hid (fun wx (hgx : Gr w wx) j u (hu : (#[.int .i64 op, .int .i64 a, .int .i64 b, .int .u64 lo, .int .u64 hi, .slice xq m cq] : Array Value).toList[j]? = some u) => gr_cell hgx (d2 j u (by rw [← hm] at hu; exact hu)))
   have SI := Lib.hid (fun wx (hgx : Gr w wx) => same_instr (op := op) (a := a) (b := b) (lo := lo) (hi := hi) (n := m) (by rw [← hm]; exact hz1) (by have := lsR_gr (hc1 k _ hp).1 hgx; dsimp only at this; rwa [hm] at this) (by have := lsR_gr (hc2 k _ hq).1 hgx; dsimp only at this; rwa [hm] at this))
   have hkn : (k : Int) < (n : Int) := by omega
   have TK : IntKind.i64.wrap ((k : Int) + 1) = (k : Int) + 1 := by have := HN.out; rw [IntKind.wrap_i64]; omega
   clear hc1 hc2 d1 d2 hz1
   go_wp2_with fail
   refine wp_region_steady (by kernel_rfl) (by kernel_rfl) ?_
   refine steady_step (fun K hK => ?_); apply steady_op rfl; (focus (intro wx hw; go_simp; exact ⟨rfl, hw⟩)); go_simp; refine hK _ ?_; clear hK K
   refine steady_step (fun K hK => ?_); apply steady_op rfl; (focus (intro wx hw; go_simp; exact ⟨rfl, hw⟩)); go_simp; refine hK _ ?_; clear hK K
   refine steady_step (fun K hK => ?_); apply steady_op rfl; (focus (intro wx hw; go_simp; exact ⟨rfl, hw⟩)); go_simp; refine hK _ ?_; clear hK K
   refine steady_step (fun K hK => ?_)
   refine steady_load_cells rfl 38 _ rfl b1 (o1 + k * 6) rfl #[.int .i64 op, .int .i64 a, .int .i64 b, .int .u64 lo, .int .u64 hi, .slice xp m cp] _ (D1.out _ (gr_trans HG.out (Gr.drew (Gr.refl _)))) Try.underlying38 rfl infoIn ?_
   go_simp; refine hK _ ?_; clear hK K
   refine steady_step (fun K hK => ?_); apply steady_op rfl; (focus (intro wx hw; go_simp; exact ⟨rfl, hw⟩)); go_simp; refine hK _ ?_; clear hK K
   refine steady_step (fun K hK => ?_); apply steady_op rfl; (focus (intro wx hw; go_simp; exact ⟨rfl, hw⟩)); go_simp; refine hK _ ?_; clear hK K
   refine steady_step (fun K hK => ?_); apply steady_op rfl; (focus (intro wx hw; go_simp; exact ⟨rfl, hw⟩)); go_simp; refine hK _ ?_; clear hK K
   refine steady_step (fun K hK => ?_)
   refine steady_load_cells rfl 38 _ rfl b2 (o2 + k * 6) rfl #[.int .i64 op, .int .i64 a, .int .i64 b, .int .u64 lo, .int .u64 hi, .slice xq m cq] _ (D2.out _ (gr_trans HG.out (Gr.drew (Gr.refl _)))) Try.underlying38 rfl infoIn ?_
   go_simp; refine hK _ ?_; clear hK K
   refine steady_step (fun K hK => ?_)
   apply steady_op rfl
   ·intro wx hw; go_simp; exact (SI.out wx (gr_trans HG.out (gr_trans (Gr.drew (Gr.refl _)) hw))).mono fun e w3 h => ⟨h.1, gr_trans hw h.2⟩
   go_simp; refine hK _ ?_; clear hK K
   refine steady_step (fun K hK => ?_); apply steady_op rfl; (focus (intro wx hw; go_simp; exact ⟨rfl, hw⟩)); go_simp; refine hK _ ?_; clear hK K
   refine steady_nil ?_
   intro w9 hg9
   have HG9 := Lib.hid (gr_trans HG.out (gr_trans (Gr.drew (Gr.refl _)) hg9))
   clear hg9
   go_wp2
   exact ⟨⟨k + 1, by omega, by first | rfl | go_num, HG9.out⟩, by simp [intOf]; omega⟩
  ·obtain rfl : k = n := by omega
   go_wp2
   go_ret
   exact ⟨rfl, HG.out⟩
theorem aw1 : readS (lst [65, 5, 11]) 3 0 = ([⟨65, 0, 0, 5, 0, []⟩, ⟨11, 0, 0, 0, 0, []⟩], 3, 0) := by kernel_rfl
theorem aw2 : wrS [⟨2, -1, 0, 0, 0, []⟩, ⟨11, 0, 0, 0, 0, []⟩, ⟨11, 0, 0, 0, 0, []⟩] [] false [] = some [2, 127, 11, 11] := by kernel_rfl
theorem aw3 : readS (lst [67, 0, 0, 0, 0, 11]) 6 0 = ([], 0, 11) := by kernel_rfl
theorem aws : strOfNums [2, 127, 11, 11] = { data := #[2, 127, 11, 11] } := by rfl
theorem lst_by (l : List Int) (h : ∀ x ∈ l, 0 ≤ x ∧ x < 256) : By (lst l) := fun j => by
 unfold lst
 rw [List.getD_eq_getElem?_getD]
 by_cases hj : j < l.length
 ·rw [List.getElem?_eq_getElem hj]; exact h _ (List.getElem_mem hj)
 ·rw [List.getElem?_eq_none (by omega)]; exact ⟨by simp, by simp⟩
theorem mx_size {w : World} (h : Ins.Mx w) : 0 < w.heap.size := by
 obtain ⟨m, hm⟩ := h
 exact block_lt_of_cell hm
theorem lsR_nil (w : World) : LsR w (.slice none 0 0) [] := ⟨none, 0, rfl, fun j hj => by simp at hj⟩
theorem cd_head {w : World} {base : Nat} {v : Value} {P : List (In × Value)} {d1 d2 : In} (h : CdO w base v P) (hP : P.map (·.1) = [d1, d2]) : ∃ q c L1 L2, v = .slice (some ⟨q, 0, none⟩) 2 c ∧ q < w.heap.size ∧ w.cell? ⟨q, 0, none⟩ = some (.int .i64 d1.op) ∧ w.cell? ⟨q, 3, none⟩ = some (.int .u64 d1.lo) ∧ P = [(d1, L1), (d2, L2)] := by
 match P, hP with
 | [p1, p2], hP =>
  obtain ⟨e1, L1⟩ := p1
  obtain ⟨e2, L2⟩ := p2
  simp only [List.map_cons, List.map_nil, List.cons.injEq, and_true] at hP
  obtain ⟨rfl, rfl⟩ := hP
  obtain ⟨q, c, rfl, _, _, hq, _⟩ := own_some h.1 (by simp)
  have h0 := h.1.cells rfl 0 (.int .i64 e1.op) rfl
  have h3 := h.1.cells rfl 3 (.int .u64 e1.lo) rfl
  rw [add_at] at h0 h3
  exact ⟨q, c, L1, L2, rfl, hq, h0, h3, rfl⟩
set_option maxRecDepth 100000 in
set_option maxHeartbeats 2000000 in
theorem awake_any (w : World) (hm : Ins.Mx w) : Calls Try.prog 9 #[] w fun e w' => e = .returned (.bool true) ∧ Gr w w' := by
 have HM := Lib.hid (fun wx (hg : Gr w wx) => Ins.mx_gr hm hg)
 have HA1 := Lib.hid (read_any (w := w.alloc (.cells #[.int .u8 65, .int .u8 5, .int .u8 11] 5)) (len := 3) 0 (lst_by [65, 5, 11] (by decide)) (Ins.mx_gr hm ((Gr.refl w).alloc _ _)) (u8s_lit w [65, 5, 11] 5 (by decide) 3) (fun k hk => by simp [Value.ownBlock] at hk; subst hk; simp) (by decide) (by simp))
 rw [aw1] at HA1
 have HA2 := Lib.hid (fun wx (hx : Ins.Mx wx) => write_any (w := wx.alloc (.cells #[.int .i64 2, .int .i64 (-1), .int .i64 0, .int .u64 0, .int .u64 0, .slice none 0 0, .int .i64 11, .int .i64 0, .int .i64 0, .int .u64 0, .int .u64 0, .slice none 0 0, .int .i64 11, .int .i64 0, .int .i64 0, .int .u64 0, .int .u64 0, .slice none 0 0] 38)) (v := .slice (some ⟨wx.heap.size, 0, none⟩) 3 3) (P := [(⟨2, -1, 0, 0, 0, []⟩, .slice none 0 0), (⟨11, 0, 0, 0, 0, []⟩, .slice none 0 0), (⟨11, 0, 0, 0, 0, []⟩, .slice none 0 0)]) (Ins.mx_gr hx ((Gr.refl wx).alloc _ _))
  ⟨⟨some ⟨wx.heap.size, 0, none⟩, 3, rfl, fun j u hu => ⟨_, 0, rfl, by rw [Nat.zero_add, cell_of_row _ _ j _ _ _ (heap_alloc_new wx _)]; exact (Array.getElem?_toList ..).symm.trans hu⟩⟩, fun p hp => by simp at hp; rcases hp with rfl | rfl <;> exact lsR_nil _⟩
  (fun p hp => by simp at hp; rcases hp with rfl | rfl <;> exact ⟨by decide, by decide, by decide, by decide, by decide⟩) (by decide) (by simp))
 have HA3 := Lib.hid (fun wx (hx : Ins.Mx wx) => read_any (w := wx.alloc (.cells #[.int .u8 67, .int .u8 0, .int .u8 0, .int .u8 0, .int .u8 0, .int .u8 11] 5)) (len := 6) 0 (lst_by [67, 0, 0, 0, 0, 11] (by decide)) (Ins.mx_gr hx ((Gr.refl wx).alloc _ _)) (u8s_lit wx [67, 0, 0, 0, 0, 11] 5 (by decide) 6) (fun k hk => by simp [Value.ownBlock] at hk; subst hk; simp) (by decide) (by simp))
 clear hm
 go_enter Try.func9, Try.ntmps9
 go_wp2_with fail
 refine HA1.out.mono ?_
 rintro e w1 (⟨h, _⟩ | ⟨_, cv, P, rfl, hg1, hP, hcd⟩)
 ·exact absurd rfl h
 obtain ⟨q, c, L1, L2, rfl, hq, h0, h3, rfl⟩ := cd_head hcd hP
 have HG1 := Lib.hid (gr_trans ((Gr.refl w).alloc _ _) hg1)
 have HC := Lib.hid (And.intro h0 h3)
 clear hg1 hP hcd h0 h3 hq
 go_wp2_with fail
 refine (HA2.out w1 (HM.out w1 HG1.out)).mono ?_
 intro e w2 h2
 have h2' : ∃ sv, e = .returned (.tuple #[sv, .int .i64 0]) ∧ Gr (w1.alloc (.cells #[.int .i64 2, .int .i64 (-1), .int .i64 0, .int .u64 0, .int .u64 0, .slice none 0 0, .int .i64 11, .int .i64 0, .int .i64 0, .int .u64 0, .int .u64 0, .slice none 0 0, .int .i64 11, .int .i64 0, .int .i64 0, .int .u64 0, .int .u64 0, .slice none 0 0] 38)) w2 ∧ w2.ownsRow (w1.alloc (.cells #[.int .i64 2, .int .i64 (-1), .int .i64 0, .int .u64 0, .int .u64 0, .slice none 0 0, .int .i64 11, .int .i64 0, .int .i64 0, .int .u64 0, .int .u64 0, .slice none 0 0, .int .i64 11, .int .i64 0, .int .i64 0, .int .u64 0, .int .u64 0, .slice none 0 0] 38)).heap.size 5 1 sv 4 (u8s [2, 127, 11, 11]) := by
  have := h2
  unfold WRX at this
  rw [show wrS (List.map (·.1) [((⟨2, -1, 0, 0, 0, []⟩ : In), Value.slice none 0 0), (⟨11, 0, 0, 0, 0, []⟩, .slice none 0 0), (⟨11, 0, 0, 0, 0, []⟩, .slice none 0 0)]) [] false [] = some [2, 127, 11, 11] from aw2] at this
  exact this
 obtain ⟨sv, rfl, hg2, ho2⟩ := h2'
 obtain ⟨xs, cs, rfl⟩ := own_slice ho2
 have HG12 := Lib.hid (gr_trans ((Gr.refl w1).alloc _ _) hg2)
 have HO2 := Lib.hid ho2
 clear h2 hg2 ho2
 go_wp2_with fail
 refine (HA3.out w2 (HM.out w2 (gr_trans HG1.out HG12.out))).mono ?_
 intro e w3 h3
 have h3' : e = .returned (.tuple #[.slice none 0 0, .int .i64 0, .int .i64 11]) ∧ Gr (w2.alloc (.cells #[.int .u8 67, .int .u8 0, .int .u8 0, .int .u8 0, .int .u8 0, .int .u8 11] 5)) w3 := by
  have := h3
  rw [show readS (lst [67, 0, 0, 0, 0, 11]) 6 0 = ([], 0, 11) from aw3] at this
  rcases this with ⟨_, _, _, h4, h5⟩ | ⟨h, _⟩
  ·exact ⟨h4, h5⟩
  ·exact absurd h (by decide)
 obtain ⟨rfl, hg3⟩ := h3'
 have HG23 := Lib.hid (gr_trans ((Gr.refl w2).alloc _ _) hg3)
 have b0 := gr_cell (gr_trans HG12.out HG23.out) HC.out.1
 have b3 := gr_cell (gr_trans HG12.out HG23.out) HC.out.2
 have hstr := str_of_owns (l := [2, 127, 11, 11]) (own_gr HO2.out HG23.out)
 unfold Str at hstr
 have hs := aws
 clear h3 hg3
 go_wp2
 go_ret
 exact ⟨rfl, gr_trans HG1.out (gr_trans HG12.out HG23.out)⟩
end Ex
end Go.Proofs.Ytebkabidojipoaa
/- ExV -/
namespace Go.Proofs.Ytebkabidojipoaa
open Go.RowKit VecM LebM
namespace Ex
def At (g : Nat → Int) (len p : Nat) (L : List Int) : Prop := (∀ j, j < L.length → g (p + j) = L.getD j 0) ∧ p + L.length ≤ len
theorem At.left {g : Nat → Int} {len p : Nat} {A B : List Int} (h : At g len p (A ++ B)) : At g len p A := by
 refine ⟨fun j hj => ?_, by have := h.2; simp only [List.length_append] at this; omega⟩
 rw [h.1 j (by simp only [List.length_append]; omega), List.getD_eq_getElem?_getD, List.getElem?_append_left hj, ← List.getD_eq_getElem?_getD]
theorem At.right {g : Nat → Int} {len p : Nat} {A B : List Int} (h : At g len p (A ++ B)) : At g len (p + A.length) B := by
 refine ⟨fun j hj => ?_, by have := h.2; simp only [List.length_append] at this; omega⟩
 rw [Nat.add_assoc, h.1 (A.length + j) (by simp only [List.length_append]; omega), List.getD_eq_getElem?_getD, List.getElem?_append_right (by omega), Nat.add_sub_cancel_left, ← List.getD_eq_getElem?_getD]
theorem num_at {g : Nat → Int} {len p : Nat} {n : Int} (h : At g len p (formU n)) (hn : 0 ≤ n ∧ n < 4294967296) : numS g len ⟨p, 0⟩ = (n, ⟨((p + (formU n).length : Nat) : Int), 0⟩) := by
 have h1 := read_form (f := g) (len := len) (a := p) (B := 32) (by decide) (by decide) (n := n) ⟨hn.1, by omega⟩ h.1 h.2
 rw [if_pos (show n < 2 ^ 32 from hn.2)] at h1
 have h2 : LebM.read false g len (p : Int) 32 = _ := h1
 unfold numS
 dsimp only
 rw [h2]
 rfl
theorem sgn_at {g : Nat → Int} {len p : Nat} {n : Int} (B : Nat) (hB1 : 1 ≤ B) (hB : B ≤ 64) (h : At g len p (formS n)) (hn : -9223372036854775808 ≤ n ∧ n ≤ 9223372036854775807) (hr : -(2 ^ (B - 1)) ≤ n ∧ n < 2 ^ (B - 1)) : sgnS g len B ⟨p, 0⟩ = (n, ⟨((p + (formS n).length : Nat) : Int), 0⟩) := by
 have h1 : SRes B n 0 0 (p + (formS n).length) (LebM.read true g len (p : Int) B) := by
  unfold LebM.read
  rw [if_neg (by have := h.2; omega), Int.toNat_natCast]
  have h := rds_form g len p B hB 9 10 0 0 n (by have : (64 : Int) * 128 ^ 9 = 590295810358705651712 := rfl; omega) (by have : (64 : Int) * 128 ^ 9 = 590295810358705651712 := rfl; omega) (by rw [Int.pow_zero]; omega) (by rw [Int.pow_zero]; omega) (by decide) (by decide) (by decide) (by omega) (fun j hj => by rw [Nat.zero_add]; exact h.1 j hj) (by rw [Nat.zero_add]; exact h.2)
  simp only [Nat.zero_add] at h
  exact h
 rcases h1 with ⟨_, _, g3, g4, g5⟩ | ⟨g1, _⟩
 ·rw [Int.pow_zero, Int.mul_one, Int.zero_add] at g3
  unfold sgnS
  dsimp only
  rw [g5, g4, g3]
  rfl
 ·simp only [Nat.mul_zero, Nat.sub_zero] at g1
  exact absurd hr g1
theorem oct_at {g : Nat → Int} {len p : Nat} {n : Int} (h : At g len p [n]) : octS g len ⟨p, 0⟩ = (n, ⟨((p + 1 : Nat) : Int), 0⟩) := by
 have h1 := h.1 0 (by simp)
 have h2 := h.2
 simp only [List.length_singleton] at h2
 unfold octS
 dsimp only
 rw [if_neg (by omega), Int.toNat_natCast]
 have h3 : g p = n := by simpa using h1
 rw [h3]
 rfl
theorem octs_at {g : Nat → Int} {len p : Nat} : ∀ (k : Nat) (L : List Int), L.length = k → At g len p L → octsS g len k ⟨p, 0⟩ = (L, ⟨((p + k : Nat) : Int), 0⟩)
 | 0, L, hk, _ => by
  obtain rfl : L = [] := List.eq_nil_of_length_eq_zero hk
  rfl
 | k + 1, L, hk, h => by
  have hne : L ≠ [] := fun e => by subst e; simp at hk
  have e := List.dropLast_concat_getLast hne
  have hd : L.dropLast.length = k := by simp [hk]
  rw [← e] at h
  have h1 := octs_at k L.dropLast hd h.left
  have h2 := oct_at h.right
  unfold octsS
  rw [h1]
  dsimp only
  rw [hd] at h2
  rw [h2]
  dsimp only
  rw [e]
  rfl
theorem tab_at {g : Nat → Int} {len : Nat} : ∀ (l A : List Int) (p : Nat), (∀ z ∈ l, 0 ≤ z ∧ z < 4294967296) → At g len p (tabF l) → tabS g len l.length A ⟨p, 0⟩ = (A ++ l, ⟨((p + (tabF l).length : Nat) : Int), 0⟩)
 | [], A, p, _, _ => by simp [tabS, tabF]
 | z :: r, A, p, hz, h => by
  have e : tabF (z :: r) = formU z ++ tabF r := by unfold tabF; rw [List.flatMap_cons]
  rw [e] at h ⊢
  have h1 := num_at h.left (hz z (by simp))
  have h2 := tab_at r (A ++ [z]) (p + (formU z).length) (fun y hy => hz y (by simp [hy])) h.right
  rw [List.length_cons, tabS]
  dsimp only
  rw [if_pos rfl, h1]
  dsimp only
  rw [h2, List.append_assoc, List.length_append, Nat.add_assoc]
  rfl
end Ex
end Go.Proofs.Ytebkabidojipoaa
/- ExV2 -/
namespace Go.Proofs.Ytebkabidojipoaa
open Go.RowKit VecM LebM
namespace Ex
theorem rows_rng : (Ins.rowT.all fun r => (decide (0 ≤ r.lo) && decide (r.hi ≤ 251)) || (decide (64768 ≤ r.lo) && decide (r.hi ≤ 65023))) = true := by kernel_rfl
theorem fm_rng {op : Int} (h : fm op ≠ 0) : (0 ≤ op ∧ op ≤ 251) ∨ (64768 ≤ op ∧ op ≤ 65023) := by
 unfold fm at h
 cases hf : Ins.rowT.find? (fun r => decide (r.lo ≤ op) && decide (op ≤ r.hi)) with
 | none => rw [hf] at h; exact absurd rfl h
 | some r =>
  have h1 := List.find?_some hf
  have h2 := List.mem_of_find?_eq_some hf
  have h3 := List.all_eq_true.1 rows_rng r h2
  simp only [Bool.and_eq_true, Bool.or_eq_true, decide_eq_true_eq] at h1 h3
  omega
theorem opc_at {g : Nat → Int} {len p : Nat} {op : Int} (h : At g len p (opcL op)) (hf : fm op ≠ 0) : opcS g len ⟨p, 0⟩ = (op, ⟨((p + (opcL op).length : Nat) : Int), 0⟩) := by
 unfold opcL at h ⊢
 rcases fm_rng hf with h1 | h1
 ·have e : op % 256 = op := by omega
  rw [if_pos (by omega), e] at h ⊢
  have h2 := oct_at h
  unfold opcS
  rw [h2]
  dsimp only
  rw [if_neg (by omega), if_neg (by omega)]
  rfl
 ·rw [if_neg (by omega)] at h ⊢
  have h2 := oct_at h.left
  have h3 := num_at h.right (by omega)
  unfold opcS
  rw [h2]
  dsimp only
  rw [if_pos rfl]
  have h3' : numS g len ⟨((p + 1 : Nat) : Int), 0⟩ = _ := h3
  rw [h3']
  dsimp only
  rw [show 64768 + (op - 64768) = op by omega, List.length_append, List.length_singleton, Nat.add_assoc]
theorem formS_first (n : Int) : (formS n).getD 0 0 = if -64 ≤ n ∧ n < 64 then n % 128 else n % 128 + 128 := by
 unfold formS
 by_cases h : -64 ≤ n ∧ n < 64
 ·rw [lebS_end h, if_pos h]; rfl
 ·rw [lebS_go h, if_neg h]; rfl
theorem blk_at {g : Nat → Int} {len p : Nat} {a : Int} (h : At g len p (formS a)) (ha : (0 ≤ a ∧ a ≤ 4294967295) ∨ a = -64 ∨ a = -1 ∨ a = -2 ∨ a = -5) : blkS g len ⟨p, 0⟩ = (a, ⟨((p + (formS a).length : Nat) : Int), 0⟩) := by
 have hp := lebS_pos 9 a
 have h0 := h.1 0 hp
 have h9 := h.2
 have hp' : 0 < (formS a).length := hp
 rw [formS_first, Nat.add_zero] at h0
 unfold blkS
 dsimp only
 rw [if_pos ⟨rfl, by omega⟩, Int.toNat_natCast, h0]
 by_cases hn : a < 0
 ·rw [if_pos (by rcases ha with h | rfl | rfl | rfl | rfl <;> first | omega | decide)]
  exact sgn_at 7 (by decide) (by decide) h (by omega) ⟨by have : (2 : Int) ^ (7 - 1) = 64 := rfl; omega, by have : (2 : Int) ^ (7 - 1) = 64 := rfl; omega⟩
 ·have h1 := sgn_at 33 (by decide) (by decide) h (by omega) ⟨by have : (2 : Int) ^ (33 - 1) = 4294967296 := rfl; omega, by have : (2 : Int) ^ (33 - 1) = 4294967296 := rfl; omega⟩
  have h1' : sgnS g len 33 ⟨p, 0⟩ = _ := h1
  rw [if_neg (by split <;> omega), if_neg (by split <;> omega)]
  unfold typS
  rw [h1']
  dsimp only
  rw [if_neg hn]
theorem hal_get (lo hi : Int) (hlo : 0 ≤ lo ∧ lo < 18446744073709551616) (hhi : 0 ≤ hi ∧ hi < 18446744073709551616) : getI (hvB (vecL lo hi)) 64 0 = lo ∧ getI (hvB (vecL lo hi)) 64 1 = hi := by
 have e : ∀ m, m < 16 → hvB (vecL lo hi) m = vecB lo hi m := fun m hm => by
  unfold hvB vecL
  rw [List.getD_eq_getElem?_getD, List.getElem?_map, List.getElem?_range hm]
  rfl
 have g0 := get_ofK (fun _ => 0) 64 (fun j => if j = 0 then lo else hi) 0 (by decide) 2
 have g1 := get_ofK (fun _ => 0) 64 (fun j => if j = 0 then lo else hi) 1 (by decide) 2
 rw [if_pos (by decide)] at g0 g1
 have w64 : (256 : Int) ^ wid 64 = 18446744073709551616 := rfl
 rw [w64] at g0 g1
 have c : ∀ i : Nat, i < 2 → getI (hvB (vecL lo hi)) 64 i = getI (vecB lo hi) 64 i := fun i hi' => by
  unfold getI
  rw [if_pos (by unfold thereB; (have : i = 0 ∨ i = 1 := by omega); rcases this with rfl | rfl <;> rfl), if_pos (by unfold thereB; (have : i = 0 ∨ i = 1 := by omega); rcases this with rfl | rfl <;> rfl)]
  exact sum_congr fun m h1 h2 => e m (by rw [wid64, Int.toNat_natCast] at h2; omega)
 refine ⟨?_, ?_⟩
 ·have := c 0 (by decide)
  rw [show ((0 : Nat) : Int) = 0 from rfl] at this
  rw [this]
  unfold vecB
  rw [show ((0 : Nat) : Int) = 0 from rfl] at g0
  rw [g0, if_pos rfl]
  omega
 ·have := c 1 (by decide)
  rw [show ((1 : Nat) : Int) = 1 from rfl] at this
  rw [this]
  unfold vecB
  rw [show ((1 : Nat) : Int) = 1 from rfl] at g1
  rw [g1, if_neg (by decide)]
  omega
theorem sg32_bd (x : Int) : -2147483648 ≤ sg32 x ∧ sg32 x < 2147483648 ∧ sg32 x % 4294967296 = x % 4294967296 := by
 unfold sg32; split <;> omega
theorem sg64_bd {x : Int} (h : 0 ≤ x ∧ x < 18446744073709551616) : -9223372036854775808 ≤ sg64 x ∧ sg64 x ≤ 9223372036854775807 ∧ sg64 x % 18446744073709551616 = x := by
 unfold sg64; split <;> omega
theorem idx_iff {n : Int} : idxB n = true ↔ 0 ≤ n ∧ n ≤ 4294967295 := by unfold idxB; simp
theorem len0 {l : List Int} (h : l.length = 0) : l = [] := List.eq_nil_of_length_eq_zero h
set_option maxHeartbeats 1000000 in
theorem fld_at {g : Nat → Int} {len p : Nat} {d : In} {form : Int} (_hf : 1 ≤ form ∧ form ≤ 14) (hfit : fitB d form = true) (hok : InOk d) (hll : d.l.length < 4294967296) (h : At g len p (fldL d form)) :
  fldS g len form d.op ⟨p, 0⟩ = (d, ⟨((p + (fldL d form).length : Nat) : Int), 0⟩) := by
 obtain ⟨op, a, b, lo, hi, l⟩ := d
 obtain ⟨-, -, hlo, hhi, hl⟩ := hok
 dsimp only at hlo hhi hl ⊢
 unfold fldL at h ⊢
 unfold fldS
 unfold fitB at hfit
 dsimp only at h hfit ⊢
 by_cases c2 : form = 2
 ·simp only [if_pos c2, Bool.and_eq_true, Bool.or_eq_true, beq_iff_eq, idx_iff] at h hfit ⊢
  obtain ⟨⟨⟨⟨ha, rfl⟩, rfl⟩, rfl⟩, hl0⟩ := hfit
  obtain rfl := len0 hl0
  rw [blk_at h (by omega)]
 by_cases c3 : form = 3 ∨ form = 5
 ·simp only [if_neg c2, if_pos c3, Bool.and_eq_true, beq_iff_eq, idx_iff] at h hfit ⊢
  obtain ⟨⟨⟨⟨ha, rfl⟩, rfl⟩, rfl⟩, hl0⟩ := hfit
  obtain rfl := len0 hl0
  rw [num_at h (by omega)]
 by_cases c4 : form = 4
 ·simp only [if_neg c2, if_neg c3, if_pos c4, Bool.and_eq_true, beq_iff_eq, idx_iff, List.all_eq_true] at h hfit ⊢
  obtain ⟨⟨⟨⟨ha, hz⟩, rfl⟩, rfl⟩, rfl⟩ := hfit
  have h1 := num_at h.left.left (by dsimp only at hll; omega)
  have h2 := tab_at l [] _ (fun z hz' => by have := hz z hz'; omega) h.left.right
  have h3 := num_at h.right (by omega)
  rw [h1]
  dsimp only
  rw [Int.toNat_natCast, h2]
  dsimp only
  rw [List.nil_append]
  rw [List.length_append, ← Nat.add_assoc] at h3
  rw [h3]
  simp only [List.length_append, Nat.add_assoc]
 by_cases c6 : form = 6 ∨ form = 7
 ·simp only [if_neg c2, if_neg c3, if_neg c4, if_pos c6, Bool.and_eq_true, beq_iff_eq, idx_iff] at h hfit ⊢
  obtain ⟨⟨⟨⟨ha, hb⟩, rfl⟩, rfl⟩, hl0⟩ := hfit
  obtain rfl := len0 hl0
  rw [num_at h.left (by omega)]
  dsimp only
  rw [num_at h.right (by omega), List.length_append, Nat.add_assoc]
 by_cases c8 : form = 8
 ·simp only [if_neg c2, if_neg c3, if_neg c4, if_neg c6, if_pos c8, Bool.and_eq_true, beq_iff_eq, idx_iff, decide_eq_true_eq] at h hfit ⊢
  obtain ⟨⟨⟨⟨ha, hb⟩, hlo2⟩, rfl⟩, hl0⟩ := hfit
  obtain rfl := len0 hl0
  have e : lo % 256 = lo := by omega
  rw [e] at h ⊢
  have h3 := oct_at h.right
  rw [num_at h.left.left (by omega)]
  dsimp only
  rw [num_at h.left.right (by omega)]
  dsimp only
  rw [List.length_append, ← Nat.add_assoc] at h3
  rw [h3]
  simp only [List.length_append, List.length_singleton, Nat.add_assoc]
 by_cases c9 : form = 9
 ·simp only [if_neg c2, if_neg c3, if_neg c4, if_neg c6, if_neg c8, if_pos c9, Bool.and_eq_true, beq_iff_eq, decide_eq_true_eq] at h hfit ⊢
  obtain ⟨⟨⟨⟨hlo2, rfl⟩, rfl⟩, rfl⟩, hl0⟩ := hfit
  obtain rfl := len0 hl0
  have hs := sg32_bd lo
  have h1 : sgnS g len 32 ⟨p, 0⟩ = _ := sgn_at 32 (by decide) (by decide) h (by omega) ⟨by have : (2 : Int) ^ (32 - 1) = 2147483648 := rfl; omega, by have : (2 : Int) ^ (32 - 1) = 2147483648 := rfl; omega⟩
  rw [h1]
  dsimp only
  rw [hs.2.2, show lo % 4294967296 = lo by omega]
 by_cases c10 : form = 10
 ·simp only [if_neg c2, if_neg c3, if_neg c4, if_neg c6, if_neg c8, if_neg c9, if_pos c10, Bool.and_eq_true, beq_iff_eq] at h hfit ⊢
  obtain ⟨⟨⟨rfl, rfl⟩, rfl⟩, hl0⟩ := hfit
  obtain rfl := len0 hl0
  have hs := sg64_bd hlo
  have h1 : sgnS g len 64 ⟨p, 0⟩ = _ := sgn_at 64 (by decide) (by decide) h (by omega) ⟨by have : (2 : Int) ^ (64 - 1) = 9223372036854775808 := rfl; omega, by have : (2 : Int) ^ (64 - 1) = 9223372036854775808 := rfl; omega⟩
  rw [h1]
  dsimp only
  rw [hs.2.2]
 by_cases c11 : form = 11 ∨ form = 12
 ·simp only [if_neg c2, if_neg c3, if_neg c4, if_neg c6, if_neg c8, if_neg c9, if_neg c10, if_pos c11, Bool.and_eq_true, beq_iff_eq] at h hfit ⊢
  obtain ⟨⟨rfl, rfl⟩, hl0⟩ := hfit
  obtain rfl := len0 hl0
  have hv : (vecL lo hi).length = 16 := by unfold vecL; simp
  have h1 := octs_at 16 (vecL lo hi) hv h
  unfold halS
  rw [h1]
  dsimp only
  rw [(hal_get lo hi hlo hhi).1, (hal_get lo hi hlo hhi).2, hv]
 by_cases c13 : form = 13
 ·simp only [if_neg c2, if_neg c3, if_neg c4, if_neg c6, if_neg c8, if_neg c9, if_neg c10, if_neg c11, if_pos c13, Bool.and_eq_true, beq_iff_eq, decide_eq_true_eq] at h hfit ⊢
  obtain ⟨⟨⟨⟨⟨ha0, ha⟩, rfl⟩, rfl⟩, rfl⟩, hl0⟩ := hfit
  obtain rfl := len0 hl0
  have e : a % 256 = a := by omega
  rw [e] at h ⊢
  rw [oct_at h]
  rfl
 by_cases c14 : form = 14
 ·simp only [if_neg c2, if_neg c3, if_neg c4, if_neg c6, if_neg c8, if_neg c9, if_neg c10, if_neg c11, if_neg c13, if_pos c14, Bool.and_eq_true, beq_iff_eq] at h hfit ⊢
  obtain ⟨⟨⟨⟨rfl, rfl⟩, rfl⟩, rfl⟩, hl0⟩ := hfit
  obtain rfl := len0 hl0
  rw [oct_at h]
  rfl
 ·simp only [if_neg c2, if_neg c3, if_neg c4, if_neg c6, if_neg c8, if_neg c9, if_neg c10, if_neg c11, if_neg c13, if_neg c14, Bool.and_eq_true, beq_iff_eq] at h hfit ⊢
  obtain ⟨⟨⟨⟨rfl, rfl⟩, rfl⟩, rfl⟩, hl0⟩ := hfit
  obtain rfl := len0 hl0
  rfl
end Ex
end Go.Proofs.Ytebkabidojipoaa
/- ExV3 -/
namespace Go.Proofs.Ytebkabidojipoaa
open Go.RowKit VecM LebM
namespace Ex
end Ex
end Go.Proofs.Ytebkabidojipoaa
/- ExV4 -/
namespace Go.Proofs.Ytebkabidojipoaa
open Go.RowKit VecM LebM
namespace Ex
def E (s : St) : Prop := s.e = 0 ∨ s.e = 3 ∨ s.e = 10 ∨ s.e = 11
theorem E.fail {s : St} (h : E s) {x : Int} (hx : x = 3 ∨ x = 10 ∨ x = 11) : E (failS s x) := by
 unfold failS; split
 ·exact .inr hx
 ·exact h
section
variable {f : Nat → Int} {len : Nat}
theorem E.num {s : St} (h : E s) : E (numS f len s).2 := by
 unfold numS; split
 ·exact h.fail (by decide)
 ·exact h
end
structure FOk (form : Int) (s : St) (r : In × St) : Prop where
 e : s.e = 0
 fit : fitB r.1 form = true
 ok : (-9223372036854775808 ≤ r.1.a ∧ r.1.a ≤ 9223372036854775807) ∧ (0 ≤ r.1.lo ∧ r.1.lo < 18446744073709551616) ∧ (0 ≤ r.1.hi ∧ r.1.hi < 18446744073709551616) ∧ r.1.l.length < 4294967296
 short : s.a + (fldL r.1 form).length ≤ r.2.a
 sz : s.a + r.1.l.length ≤ r.2.a
end Ex
end Go.Proofs.Ytebkabidojipoaa
/- ExV5 -/
namespace Go.Proofs.Ytebkabidojipoaa
open Go.RowKit VecM LebM
namespace Ex
def insB (d : In) : List Int := opcL d.op ++ fldL d (fm d.op)
def insF (D : List In) : List Int := D.flatMap insB
theorem insF_cons (d : In) (r : List In) : insF (d :: r) = insB d ++ insF r := by unfold insF; rw [List.flatMap_cons]
theorem opcL_pos (op : Int) : 0 < (opcL op).length := by
 unfold opcL; split <;> simp
theorem insB_pos (d : In) : 0 < (insB d).length := by
 have := opcL_pos d.op
 unfold insB; rw [List.length_append]; omega
theorem insF_len : ∀ D : List In, D.length ≤ (insF D).length
 | [] => by simp
 | d :: r => by
  have h1 := insF_len r
  have h2 := insB_pos d
  rw [insF_cons, List.length_append, List.length_cons]; omega
def okB : List In → List Int → Bool → Bool
 | [], _, cl => cl
 | d :: r, N, cl => goodB d N cl && okB r (stepN d.op (fm d.op) N cl).2.1 (stepN d.op (fm d.op) N cl).2.2
theorem wrS_ok : ∀ (D : List In) (N : List Int) (cl : Bool) (out : List Int), wrS D N cl out = if okB D N cl = true then some (out ++ insF D) else none
 | [], N, cl, out => by unfold wrS okB insF; simp
 | d :: r, N, cl, out => by
  unfold wrS okB
  rw [wrS_ok r, insF_cons]
  by_cases h : goodB d N cl = true
  ·rw [if_pos h, h, Bool.true_and]
   unfold insB
   simp only [List.append_assoc]
  ·rw [if_neg h, if_neg (by simp [h])]
theorem good_parts {d : In} {N : List Int} {cl : Bool} (h : goodB d N cl = true) : fm d.op ≠ 0 ∧ fitB d (fm d.op) = true ∧ ¬ (fm d.op = 2 ∧ N.length = 128) ∧ (stepN d.op (fm d.op) N cl).1 = true ∧ cl = false := by
 unfold goodB at h
 simp only [Bool.and_eq_true, bne_iff_ne, Bool.not_eq_true', Bool.and_eq_false_iff, beq_eq_false_iff_ne] at h
 obtain ⟨⟨⟨h1, h2⟩, h3⟩, h4⟩ := h
 refine ⟨h1, h2, fun e => ?_, h4, ?_⟩
 ·rcases h3 with h3 | h3
  ·exact h3 e.1
  ·exact h3 (by rw [e.2]; rfl)
 ·cases cl with
  | false => rfl
  | true => simp [stepN] at h4
def InB (d : In) : Prop := InOk d ∧ d.l.length < 4294967296
theorem ins_at {g : Nat → Int} {len p : Nat} {d : In} {N : List Int} (hg : goodB d N false = true) (hok : InB d) (h : At g len p (insB d)) : insS g len ⟨p, 0⟩ N false = (d, ⟨((p + (insB d).length : Nat) : Int), 0⟩, (stepN d.op (fm d.op) N false).2) := by
 obtain ⟨h1, h2, h3, h4, _⟩ := good_parts hg
 have hop := hok.1.op.2
 obtain ⟨f1, f2, f3⟩ := fm_float hop h1
 unfold insB at h
 have e1 := opc_at h.left h1
 have e2 := fld_at (d := d) ⟨f2, f3⟩ h2 hok.1 hok.2 h.right
 have e3 : opSt d.op ⟨((p + (opcL d.op).length : Nat) : Int), 0⟩ = ⟨((p + (opcL d.op).length : Nat) : Int), 0⟩ := by
  unfold opSt; rw [f1, if_neg (by decide), if_neg h1]
 unfold insS
 rw [e1]
 dsimp only
 rw [if_neg (by decide), e3, e2]
 dsimp only
 rw [if_neg (by decide), if_neg h3, if_pos h4]
 unfold insB
 rw [List.length_append, Nat.add_assoc]
theorem back_at {g : Nat → Int} {len : Nat} : ∀ (D : List In) (N : List Int) (cl : Bool) (acc : List In) (p k : Nat), okB D N cl = true → (∀ d ∈ D, InB d) → At g len p (insF D) → D.length < k → rdS g len k ⟨p, 0⟩ N cl acc = (acc ++ D, ((p + (insF D).length : Nat) : Int), 0)
 | [], N, cl, acc, p, 0, _, _, _, h => by simp at h
 | [], N, cl, acc, p, k + 1, hok, _, _, _ => by
  have hc : cl = true := hok
  unfold rdS
  rw [if_pos hc]
  simp [insF]
 | d :: r, N, cl, acc, p, 0, _, _, _, h => by simp at h
 | d :: r, N, cl, acc, p, k + 1, hok, hb, hat, hk => by
  unfold okB at hok
  rw [Bool.and_eq_true] at hok
  obtain ⟨_, _, _, _, rfl⟩ := good_parts hok.1
  rw [insF_cons] at hat ⊢
  have h1 := ins_at hok.1 (hb d (by simp)) hat.left
  unfold rdS
  rw [if_neg (by decide), h1]
  dsimp only
  rw [if_neg (by decide), back_at r _ _ _ _ k hok.2 (fun x hx => hb x (by simp [hx])) hat.right (by simp only [List.length_cons] at hk; omega)]
  rw [List.append_assoc, List.length_append, Nat.add_assoc]
  rfl
theorem read_back {g : Nat → Int} {len p : Nat} {D : List In} (hok : okB D [] false = true) (hb : ∀ d ∈ D, InB d) (hat : At g len p (insF D)) : readS g len p = (D, ((p + (insF D).length : Nat) : Int), 0) := by
 have h1 := insF_len D
 have h2 := hat.2
 unfold readS
 rw [if_neg (by omega), back_at D [] false [] p (len + 2) hok hb hat (by omega)]
 rfl
end Ex
end Go.Proofs.Ytebkabidojipoaa
/- ExFo -/
namespace Go.Proofs.Ytebkabidojipoaa
open Go.RowKit VecM LebM
namespace Ex
def byL (l : List Int) : Prop := ∀ x ∈ l, 0 ≤ x ∧ x < 256
theorem byL.app {a b : List Int} (h : byL a) (h2 : byL b) : byL (a ++ b) := fun x hx => by
 rcases List.mem_append.1 hx with h' | h'
 ·exact h x h'
 ·exact h2 x h'
theorem byL.one {n : Int} (h : 0 ≤ n ∧ n < 256) : byL [n] := fun x hx => by
 rw [List.mem_singleton.1 hx]; exact h
theorem lebU_by : ∀ (m : Nat) (n : Int), 0 ≤ n → byL (lebU m n)
 | 0, n, h => by unfold lebU; exact byL.one (by omega)
 | m + 1, n, h => by
  unfold lebU
  split
  ·exact byL.one (by omega)
  ·intro x hx
   rcases List.mem_cons.1 hx with rfl | hx
   ·omega
   ·exact lebU_by m (n / 128) (by omega) x hx
theorem formU_by {n : Int} (h : 0 ≤ n) : byL (formU n) := lebU_by 9 n h
theorem formS_by (n : Int) : byL (formS n) := lebS_byte 9 n
theorem tabF_by : ∀ l : List Int, (∀ z ∈ l, 0 ≤ z) → byL (tabF l)
 | [], _ => fun x hx => by simp [tabF] at hx
 | z :: r, h => by
  have e : tabF (z :: r) = formU z ++ tabF r := by unfold tabF; rw [List.flatMap_cons]
  rw [e]
  exact (formU_by (h z (by simp))).app (tabF_by r fun y hy => h y (by simp [hy]))
theorem opcL_by {op : Int} (h : fm op ≠ 0) : byL (opcL op) := by
 unfold opcL
 rcases fm_rng h with h1 | h1
 ·rw [if_pos (by omega)]; exact byL.one (by omega)
 ·rw [if_neg (by omega)]; exact (byL.one (by decide)).app (formU_by (by omega))
theorem vecL_by (lo hi : Int) : byL (vecL lo hi) := fun x hx => by
 unfold vecL at hx
 obtain ⟨i, _, rfl⟩ := List.mem_map.1 hx
 have := ofK_byt (b := fun _ => 0) (fun _ => ⟨by simp, by simp⟩) 64 (fun j => if j = 0 then lo else hi) 2 i
 unfold vecB
 omega
theorem fldL_by {d : In} {form : Int} (h : fitB d form = true) : byL (fldL d form) := by
 unfold fldL
 unfold fitB at h
 by_cases c2 : form = 2
 ·rw [if_pos c2]; exact formS_by _
 rw [if_neg c2] at h ⊢
 by_cases c3 : form = 3 ∨ form = 5
 ·simp only [if_pos c3, Bool.and_eq_true, idx_iff] at h ⊢
  exact formU_by h.1.1.1.1.1
 rw [if_neg c3] at h ⊢
 by_cases c4 : form = 4
 ·simp only [if_pos c4, Bool.and_eq_true, idx_iff, List.all_eq_true] at h ⊢
  exact ((formU_by (by omega)).app (tabF_by _ fun z hz => (h.1.1.1.2 z hz).1)).app (formU_by h.1.1.1.1.1)
 rw [if_neg c4] at h ⊢
 by_cases c6 : form = 6 ∨ form = 7
 ·simp only [if_pos c6, Bool.and_eq_true, idx_iff] at h ⊢
  exact (formU_by h.1.1.1.1.1).app (formU_by h.1.1.1.2.1)
 rw [if_neg c6] at h ⊢
 by_cases c8 : form = 8
 ·simp only [if_pos c8, Bool.and_eq_true, idx_iff] at h ⊢
  exact ((formU_by h.1.1.1.1.1).app (formU_by h.1.1.1.2.1)).app (byL.one (by omega))
 rw [if_neg c8]
 split
 ·exact formS_by _
 split
 ·exact formS_by _
 split
 ·exact vecL_by _ _
 split
 ·exact byL.one (by omega)
 split
 ·exact byL.one (by decide)
 ·exact fun x hx => by cases hx
theorem insF_by : ∀ (D : List In) (N : List Int) (cl : Bool), okB D N cl = true → byL (insF D)
 | [], _, _, _ => fun x hx => by simp [insF] at hx
 | d :: r, N, cl, h => by
  unfold okB at h
  rw [Bool.and_eq_true] at h
  rw [insF_cons]
  obtain ⟨h1, h2, _⟩ := good_parts h.1
  exact ((opcL_by h1).app (fldL_by h2)).app (insF_by r _ _ h.2)
theorem szP_mem : ∀ (D : List In), ∀ d ∈ D, d.l.length ≤ szP D
 | [], d, h => by cases h
 | e :: r, d, h => by
  unfold szP
  rcases List.mem_cons.1 h with rfl | h
  ·omega
  ·have := szP_mem r d h; omega
theorem szP_len : ∀ (D : List In), D.length ≤ szP D
 | [] => by simp [szP]
 | e :: r => by have := szP_len r; unfold szP; rw [List.length_cons]; omega
theorem at_all (L : List Int) : At (lst L) L.length 0 L := ⟨fun j _ => by rw [Nat.zero_add]; rfl, by omega⟩
theorem read_wr {D : List In} (hok : okB D [] false = true) (hb : ∀ d ∈ D, InB d) : readS (lst (insF D)) (insF D).length 0 = (D, ((insF D).length : Int), 0) := by
 have h := read_back hok hb (at_all (insF D))
 rw [Nat.zero_add] at h
 exact h
theorem insF_sz : ∀ D : List In, (insF D).length ≤ 64 * szP D
 | [] => by simp [insF, szP]
 | d :: r => by
  have h1 := insF_sz r
  have h2 := opcL_len d.op
  have h3 := fldL_len d (fm d.op)
  rw [insF_cons, List.length_append]
  unfold insB szP
  rw [List.length_append]
  omega
end Ex
end Go.Proofs.Ytebkabidojipoaa
