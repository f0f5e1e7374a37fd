/-
 Of layer 12: ExprKeeps. Condition: the library's MaxLen reads as some number.
-/
import Derived.Test.YtebkabidojipoaaMk19
import Derived.Test.YtebkabidojipoaaMk20
import Derived.Test.YtebkabidojipoaaMk18
import Derived.Test.YtebkabidojipoaaMk8
namespace Go.Proofs.Ytebkabidojipoaa
open Go.RowKit VecM LebM
namespace Ex
theorem own_q {w : World} {base : Nat} {e : TypeId} {sz : Nat} {v : Value} {n m : Nat} {xs : List Value} (h : n = m) (ho : w.ownsRow base e sz v n xs) : w.ownsRow base e sz v m xs := h ▸ ho
/-- rows of a code, in new memory -/
theorem cd_gr {w w' : World} {base : Nat} {v : Value} {P : List (In × Value)} (h : CdO w base v P) (hg : Gr w w') : CdO w' base v P :=
 cd_sep (ex := fun _ => False) h (Sep.of_gr hg) (fun _ _ => id) (fun _ _ _ _ => id)
theorem cd_blk {w : World} {base : Nat} {v : Value} {P : List (In × Value)} (h : CdO w base v P) : (∀ q, v.ownBlock = some q → base ≤ q ∧ q < w.heap.size) ∧ ∀ p ∈ P, ∀ q, p.2.ownBlock = some q → base ≤ q ∧ q < w.heap.size :=
 ⟨fun q hq => h.1.lt q hq, fun p hp q hq => (h.2 p hp).lt q hq⟩
theorem cd_pre {w : World} {base g c n : Nat} {X : List Value} {P : List (In × Value)} {m : Nat} (hP : P.length = n) (h : w.ownsRow base 38 6 (.slice (some ⟨g, 0, none⟩) m c) m (cdV P ++ X)) (hl : ∀ p ∈ P, w.ownsRow base 3 1 p.2 p.1.l.length (ivs p.1.l)) : CdR w (.slice (some ⟨g, 0, none⟩) n c) P :=
 ⟨⟨_, c, by rw [hP], fun j u hu => ⟨g, 0, rfl, by
  have hj := (List.getElem?_eq_some_iff.1 hu).1
  have := h.cells rfl j u (by rw [List.getElem?_append_left hj]; exact hu)
  rw [add_at] at this
  exact this⟩⟩, fun p hp => lsR_own (hl p hp)⟩
theorem cdV_ones : ∀ (Q : List (In × Value)), (∀ p ∈ Q, p.2.oneCell' = true) → ∀ u ∈ cdV Q, u.oneCell' = true
 | [], _, u, hu => by cases hu
 | p :: r, h, u, hu => by
  rcases List.mem_append.1 (show u ∈ (inV p.1 p.2).toList ++ cdV r from hu) with h1 | h1
  ·exact inV_all p.1 p.2 (h p List.mem_cons_self) u h1
  ·exact cdV_ones r (fun q hq => h q (List.mem_cons_of_mem _ hq)) u h1
theorem cdV_one {w : World} {base : Nat} {v : Value} (Q : List (In × Value)) (h : CdO w base v Q) : ∀ u ∈ cdV Q, u.oneCell' = true :=
 cdV_ones Q fun p hp => by
  obtain ⟨x, c, e⟩ := own_slice (h.2 p hp)
  rw [e]; rfl
set_option maxRecDepth 100000 in
set_option maxHeartbeats 16000000 in
theorem keeps_walk {v : Value} {P : List (In × Value)} {w : World} (hm : Ins.Mx w) (hP : CdR w v P) (hsr : ∀ q ∈ P, Src w q.2 q.1.l.length (ivs q.1.l)) (hR : ∀ q ∈ P, InR q.1) (hz : szP (P.map (·.1)) ≤ 1048576) :
  Calls Try.prog 8 #[v] w fun e w' => e = .returned (.bool true) ∧ Gr w w' := by
 have hwz := mx_size hm
 have hDz := szP_len (P.map (·.1))
 have hDm := szP_mem (P.map (·.1))
 rw [List.length_map] at hDz
 have hib : ∀ d ∈ P.map (·.1), InB d := fun d hd => by
  obtain ⟨p, hp, rfl⟩ := List.mem_map.1 hd
  have h1 := hR p hp
  have h2 := hDm p.1 hd
  exact ⟨⟨h1.1, h1.2.1, h1.2.2.1, h1.2.2.2, by omega⟩, by omega⟩
 have HMX := Lib.hid (fun wx (hg : Gr w wx) => Ins.mx_gr hm hg)
 have HWZ := Lib.hid hwz
 have HM := Lib.hid hm
 have HOK := Lib.hid (show ∀ p ∈ P, InOk p.1 from fun p hp => (hib p.1 (List.mem_map_of_mem hp)).1)
 have HIB := Lib.hid hib
 have HSZ := Lib.hid hz
 have HLM := Lib.hid (show ∀ p ∈ P, p.1.l.length ≤ 1048576 from fun p hp => by have := hDm p.1 (List.mem_map_of_mem hp); omega)
 have HSR := Lib.hid hsr
 have HCR := Lib.hid (fun wx (hg : Gr w wx) => cdR_gr hP hg)
 obtain ⟨x, c, rfl, _⟩ := hP.1
 have H1 := Lib.hid (cdR_at hP).2
 obtain ⟨n, hN⟩ : ∃ n, P.length = n := ⟨_, rfl⟩
 rw [hN] at H1 HCR hDz ⊢
 have HNN := Lib.hid hN
 have HBD := Lib.hid (show n ≤ 1048576 from by omega)
 clear hwz hib hDz hDm hm hsr hR hz hP hN
 obtain ⟨i6, hi, hz0, hz1, hz2⟩ := info_parts infoIns
 have HI6 := Lib.hid hi
 have HZ06 := Lib.hid hz0
 have HZ16 := Lib.hid hz1
 have HZ26 := Lib.hid hz2
 clear hi hz0 hz1 hz2
 obtain ⟨iz, hi, hz0, hz1, hz2⟩ := info_parts infoZ
 have HI0 := Lib.hid hi
 have HZ00 := Lib.hid hz0
 have HZ10 := Lib.hid hz1
 have HZ20 := Lib.hid hz2
 clear hi hz0 hz1 hz2
 go_enter Try.func8, Try.ntmps8
 go_wp2_with fail
 refine (awake_any _ HM.out).mono ?_
 rintro e w1 ⟨rfl, hg1⟩
 have HG1 := Lib.hid hg1
 clear hg1
 go_wp2_with fail
 go_loopw [3, 4] (fun ov kv wr => ∃ (k : Nat) (Q : List (In × Value)) (xo : Option Addr) (m co : Nat), k ≤ n ∧ kv = .int .i64 k ∧ ov = .slice xo m co ∧ m = k ∧ Q.map (·.1) = (P.map (·.1)).take k ∧ CdO wr w.heap.size (.slice xo m co) Q ∧ Gr w wr) (fun _ kv _ => n - (intOf kv).toNat)
 case atStart => exact ⟨0, [], none, 0, 0, by omega, rfl, rfl, rfl, rfl, ⟨World.ownsRow_nil _ _ _ _, fun p hp => by cases hp⟩, HG1.out⟩
 case round =>
  obtain ⟨k, Q, xo, m, co, hk, rfl, rfl, rfl, hQ, hcd, hg⟩ := hrel
  have hQl : Q.length = m := by
   have := congrArg List.length hQ
   simp only [List.length_map, List.length_take] at this
   have := HNN.out
   omega
  have HQ := Lib.hid hQ
  have HQL := Lib.hid hQl
  have HC := Lib.hid hcd
  have HG := Lib.hid hg
  clear hQ hQl hcd hg
  by_cases hlt : m < n
  ·skip
   have hkn : (m : Int) < (n : Int) := by omega
   have TK : IntKind.i64.wrap ((m : Int) + 1) = (m : Int) + 1 := by have := HBD.out; rw [IntKind.wrap_i64]; omega
   have T4 : wrap64 ((m : Int) + 1) = (m : Int) + 1 := by have := HBD.out; unfold wrap64; omega
   have HK := Lib.hid hlt
   obtain ⟨b, off, rfl, hc⟩ := H1.out (by omega)
   obtain ⟨p, hp⟩ : ∃ p, P[m]? = some p := ⟨_, List.getElem?_eq_getElem (by have := HNN.out; omega)⟩
   obtain ⟨g1, d1⟩ := hc m p hp
   have hpm := List.mem_of_getElem? hp
   have hs1 := HSR.out p hpm
   have hl1 := HLM.out p hpm
   have HP := Lib.hid hp
   obtain ⟨⟨op, a, bb, lo, hi, l⟩, Lp⟩ := p
   obtain ⟨xL, cL, e1, _⟩ := id g1
   dsimp only at e1 hs1 hl1
   subst e1
   obtain ⟨z, hz⟩ : ∃ z, l.length = z := ⟨_, rfl⟩
   have HLZ := Lib.hid hz
   have HD := Lib.hid (fun j u (hu : (#[.int .i64 op, .int .i64 a, .int .i64 bb, .int .u64 lo, .int .u64 hi, .slice xL z cL] : Array Value).toList[j]? = some u) => gr_cell HG.out (d1 j u (by rw [← hz] at hu; exact hu)))
   rw [hz] at hs1 hl1
   have HSL := Lib.hid hs1
   have HZB := Lib.hid hl1
   clear hc g1 d1 hp hpm hs1 hl1 hz
   go_upto_region 8 with (first | (refine wpList_load_cells rfl 38 _ rfl b (off + m * 6) rfl #[.int .i64 op, .int .i64 a, .int .i64 bb, .int .u64 lo, .int .u64 hi, .slice xL z cL] _ HD.out Try.underlying38 rfl infoIn ?_) | (refine wpList_store_row rfl 38 _ _ rfl wr.heap.size #[.int .i64 op, .int .i64 a, .int .i64 bb, .int .u64 lo, .int .u64 hi, .slice xL z cL] rfl rfl 38 #[.int .i64 0, .int .i64 0, .int .i64 0, .int .u64 0, .int .u64 0, .slice none 0 0] (heap_alloc_new wr _) infoIn rfl (by kernel_rfl) ?_))
   have hrw := Sep.setRow (ex := fun b => b = wr.heap.size) (wr.alloc (.cells #[.int .i64 0, .int .i64 0, .int .i64 0, .int .u64 0, .int .u64 0, .slice none 0 0] 38)) rfl #[.int .i64 op, .int .i64 a, .int .i64 bb, .int .u64 lo, .int .u64 hi, .slice xL z cL]
   have hgg : Gr wr ((wr.alloc (.cells #[.int .i64 0, .int .i64 0, .int .i64 0, .int .u64 0, .int .u64 0, .slice none 0 0] 38)).setRow wr.heap.size #[.int .i64 op, .int .i64 a, .int .i64 bb, .int .u64 lo, .int .u64 hi, .slice xL z cL]) := Sep.toGr ((Gr.refl wr).alloc #[.int .i64 0, .int .i64 0, .int .i64 0, .int .u64 0, .int .u64 0, .slice none 0 0] 38) hrw (fun q hq => by have e' : q = wr.heap.size := hq; omega)
   have HB2 := Lib.hid (setRow_block (c := #[.int .i64 op, .int .i64 a, .int .i64 bb, .int .u64 lo, .int .u64 hi, .slice xL z cL]) (heap_alloc_new wr (.cells #[.int .i64 0, .int .i64 0, .int .i64 0, .int .u64 0, .int .u64 0, .slice none 0 0] 38)))
   have HC2 := Lib.hid (cd_gr HC.out hgg)
   have HG2 := Lib.hid (gr_trans HG.out hgg)
   have HBK := Lib.hid (cd_blk HC.out)
   have HBI := Lib.hid HG.out.size
   clear hrw hgg
   generalize (wr.alloc (.cells #[.int .i64 0, .int .i64 0, .int .i64 0, .int .u64 0, .int .u64 0, .slice none 0 0] 38)).setRow wr.heap.size #[.int .i64 op, .int .i64 a, .int .i64 bb, .int .u64 lo, .int .u64 hi, .slice xL z cL] = w2 at *
   generalize wr.heap.size = bi at *
   obtain ⟨i0, i1, i2, i3, i4, i5⟩ := cells6 HB2.out
   have hbi2 : bi < w2.heap.size := (Array.getElem?_eq_some_iff.1 HB2.out).1
   go_wp2_with (at_builtin; refine wpList_append_at rfl _ _ 36 rfl w.heap.size 3 iz (.int .i64 0) 1 8 Try.underlying36 HI0.out HZ00.out HZ10.out HZ20.out rfl (by decide) (.slice (some ⟨w2.heap.size, 0, none⟩) 0 0) 0 [] rfl (World.ownsRow_lit (base := w.heap.size) (e := 3) (size := 1) w2 #[] 0 HG2.out.size (by decide) rfl) (.slice xL z cL) z (ivs l) rfl (src_gr HSL.out (gr_trans HG2.out ((Gr.refl w2).alloc #[] 3))) (by rw [ivs_len, HLZ.out, Nat.mul_one]) (fun u hu => by obtain ⟨y, _, rfl⟩ := List.mem_map.1 hu; rfl) (by have := HZB.out; unfold maxLen; omega) (by have := HZB.out; omega) (by have := HG2.out.size; simp; omega) ?_)
   intro v3 w3 hown3 hgb hblk
   have hg23 : Gr w2 w3 := Sep.toGr ((Gr.refl w2).alloc #[] 3) (Sep.grown (ex := fun q => q = w2.heap.size) hgb (fun q hq => (Option.some.inj hq).symm)) (fun q hq => by have e' : q = w2.heap.size := hq; omega)
   have hb3 : ∀ q, v3.ownBlock = some q → bi < q := fun q hq => by
    rcases hblk q hq with h | h
    ·have e' : w2.heap.size = q := Option.some.inj h
     omega
    ·first | omega | (simp at h; omega)
   try rw [Nat.zero_add] at hown3
   try rw [List.nil_append] at hown3
   obtain ⟨x3, c3, rfl⟩ := own_slice hown3
   have hB3 := gr_block hg23 HB2.out
   obtain ⟨j0, j1, j2, j3, j4, j5⟩ := cells6 hB3
   have fz := froz hB3 5
   have hset := Sep.setCell (ex := fun q => q = bi) w3 (p := ⟨bi, 5, none⟩) rfl (.slice x3 z c3)
   have HB4 := Lib.hid (show (w3.setCell ⟨bi, 5, none⟩ (.slice x3 z c3)).heap[bi]? = some (.cells #[.int .i64 op, .int .i64 a, .int .i64 bb, .int .u64 lo, .int .u64 hi, .slice x3 z c3] 38 (0, 0)) from setCell_cell hB3 5 (.slice x3 z c3))
   have HC4 := Lib.hid (cd_sep (cd_gr HC2.out hg23) hset (fun q hq e => by have e' : q = bi := e; have := (HBK.out.1 q hq).2; omega) (fun p hp q hq e => by have e' : q = bi := e; have := (HBK.out.2 p hp q hq).2; omega))
   have HL4 := Lib.hid (hset.owns hown3 (fun q hq e => by have e' : q = bi := e; have := hb3 q hq; omega))
   have HG4 := Lib.hid (Gr.setCell (gr_trans HG2.out hg23) (p := ⟨bi, 5, none⟩) HBI.out (.slice x3 z c3))
   clear hown3 hgb hblk hg23 hb3 hB3 hset i0 i1 i2 i3 i4 i5
   go_upto_region 9 with fail
   generalize w3.setCell ⟨bi, 5, none⟩ (.slice x3 z c3) = w4 at *
   clear j0 j1 j2 j3 j4 j5 fz
   go_upto_region 10 with (first | (show Go.wpList _ _ _ (⟨_, .load _ _, _, _, _, _⟩ :: _) _ _; refine wpList_load_row rfl 38 _ rfl bi rfl 38 #[.int .i64 op, .int .i64 a, .int .i64 bb, .int .u64 lo, .int .u64 hi, .slice x3 z c3] (0, 0) _ HB4.out Try.underlying38 rfl infoIn ?_) | (at_builtin; refine wpList_append_at rfl _ _ 24 rfl w.heap.size 38 i6 (.agg #[.int .i64 0, .int .i64 0, .int .i64 0, .int .u64 0, .int .u64 0, .slice none 0 0]) 6 64 Try.underlying24 HI6.out HZ06.out HZ16.out HZ26.out rfl (by decide) (.slice xo m co) m (cdV Q) rfl (own_q HQL.out (World.ownsRow.alloc HC4.out.1 _)) (.slice (some ⟨w4.heap.size, 0, none⟩) 1 1) 1 (#[.int .i64 op, .int .i64 a, .int .i64 bb, .int .u64 lo, .int .u64 hi, .slice x3 z c3] : Array Value).toList rfl (src_lit w4 #[.int .i64 op, .int .i64 a, .int .i64 bb, .int .u64 lo, .int .u64 hi, .slice x3 z c3] 38 1 1) rfl (inV_all ⟨op, a, bb, lo, hi, l⟩ (.slice x3 z c3) rfl) (by have := HBD.out; have := HK.out; unfold maxLen; omega) (by have := HBD.out; have := HK.out; omega) (by have := HG4.out.size; simp; omega) ?_))
   intro v9 w9 hown9 hgb hblk
   have hs9 : Sep (fun q => (Value.slice xo m co).ownBlock = some q) w4 w9 := Sep.trans (Sep.of_gr ((Gr.refl w4).alloc _ _)) (Sep.grown hgb fun q hq => hq)
   obtain ⟨x9, c9, rfl⟩ := own_slice hown9
   have HC9 := Lib.hid (show CdO w9 w.heap.size (.slice x9 (m + 1) c9) (Q ++ [(⟨op, a, bb, lo, hi, l⟩, .slice x3 z c3)]) from ⟨by
     rw [List.length_append, HQL.out, cdV_app]
     show w9.ownsRow _ _ 6 _ (m + 1) (cdV Q ++ ((inV ⟨op, a, bb, lo, hi, l⟩ (.slice x3 z c3)).toList ++ []))
     rw [List.append_nil]; exact hown9, fun p hp => by
     rcases List.mem_append.1 hp with hp | hp
     ·exact hs9.owns (HC4.out.2 p hp) (fun q hq e => own_apart HC4.out.1 (HC4.out.2 p hp) (by decide) q e hq)
     ·obtain rfl := List.mem_singleton.1 hp
      have hl4 : w4.ownsRow w.heap.size 3 1 (.slice x3 z c3) l.length (ivs l) := by rw [HLZ.out]; exact HL4.out
      exact hs9.owns hl4 (fun q hq e => own_apart HC4.out.1 hl4 (by decide) q e hq)⟩)
   have HG9 := Lib.hid (Sep.toGr HG4.out hs9 (fun q hq => (HC4.out.1.lt q hq).1))
   clear hown9 hgb hblk hs9
   go_wp2
   refine ⟨⟨m + 1, Q ++ [(⟨op, a, bb, lo, hi, l⟩, .slice x3 z c3)], x9, m + 1, c9, by have := HK.out; omega, by first | rfl | (rw [T4]; rfl) | go_num, rfl, rfl, ?_, HC9.out, HG9.out⟩, by have := HK.out; have := T4; simp [intOf]; omega⟩
   rw [List.map_append, HQ.out, List.take_add_one, List.getElem?_map, HP.out]
   rfl
  ·obtain rfl : m = n := by omega
   clear hlt hk
   have hQ := HQ.out
   rw [List.take_of_length_le (by rw [List.length_map]; have := HNN.out; omega)] at hQ
   have HQD := Lib.hid hQ
   clear hQ HQ
   have k0 : decide (m < m) = false := decide_eq_false (Nat.lt_irrefl _)
   have HOW := Lib.hid (show wr.ownsRow w.heap.size 38 6 (.slice xo m co) m (cdV Q) from by have := HC.out.1; rw [HQL.out] at this; exact this)
   go_upto_region 11 with (first | (at_builtin; refine wpList_append_at rfl _ _ 24 rfl w.heap.size 38 i6 (.agg #[.int .i64 0, .int .i64 0, .int .i64 0, .int .u64 0, .int .u64 0, .slice none 0 0]) 6 64 Try.underlying24 HI6.out HZ06.out HZ16.out HZ26.out rfl (by decide) (.slice (some ⟨wr.heap.size, 0, none⟩) 0 0) 0 [] rfl (World.ownsRow_lit (base := w.heap.size) (e := 38) (size := 6) wr #[] 0 HG.out.size (by decide) rfl) (.slice xo m co) m (cdV Q) rfl (src_gr (src_of_owns HOW.out) ((Gr.refl wr).alloc #[] 38)) HOW.out.1 (cdV_one Q HC.out) (by have := HBD.out; unfold maxLen; omega) (by have := HBD.out; omega) (by have := HG.out.size; simp; omega) ?_))
   intro vf wf hownf hgb hblk
   have hsf : Gr wr wf := Sep.toGr ((Gr.refl wr).alloc #[] 38) (Sep.grown (ex := fun q => q = wr.heap.size) hgb (fun q hq => (Option.some.inj hq).symm)) (fun q hq => by have e' : q = wr.heap.size := hq; omega)
   have HG5 := Lib.hid (gr_trans HG.out hsf)
   have HC5 := Lib.hid (cd_gr HC.out hsf)
   have HF5 := Lib.hid hownf
   have HFB := Lib.hid (show ∀ q, vf.ownBlock = some q → wr.heap.size ≤ q from fun q hq => by
    rcases hblk q hq with h | h
    ·have e' : wr.heap.size = q := Option.some.inj h
     omega
    ·first | omega | (simp at h; omega))
   have HBK := Lib.hid (cd_blk HC.out)
   clear hsf hgb hblk
   obtain ⟨xf, cf, rfl⟩ := own_slice hownf
   clear hownf
   go_upto_region 11 with (first | (at_builtin; refine wpList_append_at rfl _ _ 24 rfl w.heap.size 38 i6 (.agg #[.int .i64 0, .int .i64 0, .int .i64 0, .int .u64 0, .int .u64 0, .slice none 0 0]) 6 64 Try.underlying24 HI6.out HZ06.out HZ16.out HZ26.out rfl (by decide) (.slice xf m cf) m (cdV Q) rfl (World.ownsRow.alloc HF5.out _) (.slice (some ⟨wf.heap.size, 0, none⟩) 2 2) 2 (#[.int .i64 77, .int .i64 0, .int .i64 0, .int .u64 0, .int .u64 0, .slice none 0 0, .int .i64 78, .int .i64 0, .int .i64 0, .int .u64 0, .int .u64 0, .slice none 0 0] : Array Value).toList rfl (src_lit wf #[.int .i64 77, .int .i64 0, .int .i64 0, .int .u64 0, .int .u64 0, .slice none 0 0, .int .i64 78, .int .i64 0, .int .i64 0, .int .u64 0, .int .u64 0, .slice none 0 0] 38 2 2) rfl ((List.all_eq_true (p := fun u : Value => u.oneCell')).1 rfl) (by have := HBD.out; unfold maxLen; omega) (by have := HBD.out; omega) (by have := HG5.out.size; simp; omega) ?_))
   intro v6 w6 hown6 hgb hblk
   have hs6 : Sep (fun q => (Value.slice xf m cf).ownBlock = some q) wf w6 := Sep.trans (Sep.of_gr ((Gr.refl wf).alloc _ _)) (Sep.grown hgb fun q hq => hq)
   have HC6 := Lib.hid (cd_sep HC5.out hs6 (fun q hq e => by have := HFB.out q e; have := (HBK.out.1 q hq).2; omega) (fun p hp q hq e => by have := HFB.out q e; have := (HBK.out.2 p hp q hq).2; omega))
   have HG6 := Lib.hid (Sep.toGr HG5.out hs6 (fun q hq => (HF5.out.lt q hq).1))
   obtain ⟨g6, c6, rfl, hc6, _, _, _⟩ := own_some hown6 (by omega)
   have HF6 := Lib.hid hown6
   have HR6 := Lib.hid (cd_pre HQL.out hown6 HC6.out.2)
   clear hown6 hgb hblk hs6
   go_upto_region 11 with fail
   have H77 := Lib.hid (show w6.cell? ⟨g6, m * 6, none⟩ = some (.int .i64 77) from by
    have := HF6.out.cells rfl (m * 6) (.int .i64 77) (by rw [List.getElem?_append_right (by rw [cdV_len, HQL.out]; omega), cdV_len, HQL.out, Nat.sub_self]; rfl)
    rw [add_at, Nat.zero_add] at this
    exact this)
   have HWr := Lib.hid (fun wx (hg : Gr w6 wx) => write_any (v := .slice (some ⟨g6, 0, none⟩) m c6) (HMX.out wx (gr_trans HG6.out hg)) (cdR_gr HR6.out hg) (fun p hp => (HIB.out p.1 (by rw [← HQD.out]; exact List.mem_map_of_mem hp)).1) (by rw [HQD.out]; exact HSZ.out) (Nat.lt_of_lt_of_le HWZ.out (gr_trans HG6.out hg).size))
   rw [HQD.out] at HWr
   have HSA := Lib.hid (fun wx (hg : Gr w6 wx) => same_any (v1 := .slice (some ⟨g6, 0, none⟩) m c6) (cdR_gr HR6.out hg) (HCR.out wx (gr_trans HG6.out hg)) HQD.out (fun p hp => by
    have hm : p.1 ∈ P.map (·.1) := by rw [← HQD.out]; exact List.mem_map_of_mem hp
    obtain ⟨q, hq, e⟩ := List.mem_map.1 hm
    have e' : q.1 = p.1 := e
    have := HLM.out q hq
    rw [e'] at this
    omega) (by rw [HQL.out]; have := HBD.out; omega))
   obtain ⟨R, hR⟩ : ∃ R, wrS (P.map (·.1)) [] false [] = R := ⟨_, rfl⟩
   rw [hR] at HWr
   have HRR := Lib.hid hR
   clear hR
   cases R with
   | none =>
    go_wp2_with fail
    refine (HWr.out _ (Gr.refl _)).mono ?_
    rintro e w7 ⟨rfl, hg7⟩
    have HG7 := Lib.hid hg7
    clear hg7
    go_wp2_with fail
    refine (HWr.out _ HG7.out).mono ?_
    rintro e w8 ⟨rfl, hg8⟩
    have HG8 := Lib.hid (gr_trans HG7.out hg8)
    clear hg8
    have hstr := str_of_owns (l := []) (World.ownsRow_nil w8 0 5 1)
    unfold Str at hstr
    go_wp2_with fail
    refine (HSA.out _ HG8.out).mono ?_
    rintro e w9 ⟨rfl, hg9⟩
    have HG9 := Lib.hid (gr_trans HG8.out hg9)
    have h77 := gr_cell HG9.out H77.out
    clear hg9
    go_wp2
    go_ret
    exact ⟨rfl, gr_trans HG6.out HG9.out⟩
   | some L =>
    go_wp2_with fail
    refine (HWr.out _ (Gr.refl _)).mono ?_
    rintro e w7 ⟨sa, rfl, hg7, hoa⟩
    have HG7 := Lib.hid hg7
    have HA7 := Lib.hid hoa
    obtain ⟨xa, ca, rfl⟩ := own_slice hoa
    have HAB := Lib.hid (fun q h => (hoa.lt q h).2)
    clear hg7 hoa
    go_wp2_with fail
    refine (HWr.out _ HG7.out).mono ?_
    rintro e w8 ⟨sb, rfl, hg8, hob⟩
    have HG8 := Lib.hid (gr_trans HG7.out hg8)
    have HA8 := Lib.hid (own_gr HA7.out hg8)
    have HB8 := Lib.hid hob
    have HZ8 := Lib.hid hg8.size
    have h1 := str_of_owns (own_gr HA7.out hg8)
    have h2 := str_of_owns hob
    obtain ⟨xb, cb, rfl⟩ := own_slice hob
    clear hg8 hob
    unfold Str at h1 h2
    clear HA7
    generalize hS : strOfNums L = S at *
    have HS := Lib.hid hS
    clear hS
    generalize hz : L.length = z at *
    have HZ := Lib.hid hz
    clear hz
    go_wp2_with fail
    refine (HSA.out _ HG8.out).mono ?_
    rintro e w9 ⟨rfl, hg9⟩
    have HG9 := Lib.hid (gr_trans HG8.out hg9)
    have h77 := gr_cell HG9.out H77.out
    have HA9 := Lib.hid (own_gr HA8.out hg9)
    have HB9 := Lib.hid (own_gr HB8.out hg9)
    have HZ9 := Lib.hid hg9.size
    clear hg9
    have hok : okB (P.map (·.1)) [] false = true ∧ insF (P.map (·.1)) = L := by
     have h := HRR.out
     rw [wrS_ok] at h
     split at h
     ·rename_i hk; exact ⟨hk, by simpa using h⟩
     ·cases h
    have HOKB := Lib.hid hok
    have HLB := Lib.hid (show byL L from hok.2 ▸ insF_by _ _ _ hok.1)
    have hb9 := HB9.out
    rw [← HZ.out] at hb9
    have h3 := str_of_owns hb9
    unfold Str at h3
    rw [HS.out, HZ.out] at h3
    have hSz : S.size = z := by rw [← HS.out, strOfNums_size, HZ.out]
    clear hok hb9 h1 h2
    subst hSz
    go_upto_region 18 with fail
    clear h77
    go_upto_region 19 with (refine wpList_br rfl _ _ _ rfl Try.underlying9 Try.underlying22 L (show _ = Value.string (strOfNums L) from congrArg Value.string HS.out.symm) ?_)
    intro cap w10 hbr hg10
    have HBR := Lib.hid hbr
    have HG10 := Lib.hid hg10
    clear hbr hg10
    have HLL := Lib.hid (show L.length ≤ 67108864 from by
     have h1 := insF_sz (P.map (·.1))
     rw [HOKB.out.2] at h1
     have := HSZ.out
     omega)
    go_upto_region 19 with (at_builtin; refine wpList_brApp rfl _ _ 22 rfl Try.underlying22 w9.heap.size cap w9.heap.size 3 L [1, 2, 3] (.slice (some ⟨w10.heap.size, 0, none⟩) 3 3) rfl rfl ⟨gr_block ((Gr.refl w10).alloc _ _) HBR.out.1, HBR.out.2⟩ HLB.out (Nat.le_refl _) (src_lit w10 #[.int .u8 1, .int .u8 2, .int .u8 3] 5 3 3) rfl (by decide) (by have := HLL.out; omega) ?_)
    intro vr w11 hrm hs11
    have HG11 := Lib.hid (Sep.toGr (gr_trans HG10.out ((Gr.refl w10).alloc _ _)) hs11 (fun q hq => by have e' : q = w9.heap.size := hq; omega))
    have HRM := Lib.hid hrm
    obtain ⟨gr, cr, e, hle, hgb9, hgr, hcl, _⟩ := hrm
    have hzr : (L ++ [1, 2, 3]).length = S.size + 3 := by rw [List.length_append, HZ.out]; rfl
    rw [hzr] at e hle hcl
    subst e
    have HGR := Lib.hid hgr
    have HGB := Lib.hid hgb9
    have HUR := Lib.hid (fun wx (hg : Gr w11 wx) => show U8s wx (.slice (some ⟨gr, 0, none⟩) S.size cr) S.size (lst L) from .inr ⟨by have := HLL.out; have := HZ.out; omega, gr, 0, cr, rfl, fun j hj => by
     rw [Nat.zero_add]
     have h := gr_cell hg (hcl j (by omega))
     rw [h, List.getD_eq_getElem?_getD, List.getElem?_append_left (by have := HZ.out; omega), ← List.getD_eq_getElem?_getD]
     rfl⟩)
    have hRd := read_wr HOKB.out.1 HIB.out
    rw [HOKB.out.2, HZ.out] at hRd
    have HRD := Lib.hid hRd
    have HRA := Lib.hid (fun wx (hg : Gr w11 wx) => (read_any (w := wx) (sv := .slice (some ⟨gr, 0, none⟩) S.size cr) (len := S.size) 0 (lst_by L HLB.out) (HMX.out wx (gr_trans HG6.out (gr_trans HG9.out (gr_trans HG11.out hg)))) (HUR.out wx hg) (fun k hk => by have e : gr = k := Option.some.inj hk; have := hg.size; have := HGR.out; omega) (by have := HLL.out; have := HZ.out; omega) (Nat.lt_of_lt_of_le HWZ.out (gr_trans HG6.out (gr_trans HG9.out (gr_trans HG11.out hg))).size)).mono (show ∀ e w', RDX wx (readS (lst L) S.size 0) e w' → ∃ y c2 T, e = .returned (.tuple #[.slice y m c2, .int .i64 (S.size : Nat), .int .i64 0]) ∧ Gr wx w' ∧ T.map (·.1) = P.map (·.1) ∧ CdO w' wx.heap.size (.slice y m c2) T from by
     intro e w' h
     rw [HRD.out] at h
     rcases h with ⟨h, _⟩ | ⟨_, cv, T, rfl, hg1, hT, hcd⟩
     ·exact absurd rfl h
     ·obtain ⟨y, c2, rfl⟩ := own_slice hcd.1
      have hTl : T.length = m := by
       have := congrArg List.length hT
       simp only [List.length_map] at this
       have := HNN.out
       omega
      rw [hTl] at hcd ⊢
      exact ⟨y, c2, T, rfl, hg1, hT, hcd⟩))
    clear hs11 hcl hRd hgr
    go_upto_region 19 with fail
    go_wp2_with fail
    refine (HRA.out _ (Gr.refl _)).mono ?_
    rintro e w12 ⟨xx, cx, T1, rfl, hg12, hT1, hc1⟩
    have HG12 := Lib.hid hg12
    have HT1 := Lib.hid hT1
    have HX12 := Lib.hid hc1
    clear hg12 hT1 hc1
    go_wp2_with fail
    refine (HRA.out _ HG12.out).mono ?_
    rintro e w13 ⟨yy, cy, T2, rfl, hg13, hT2, hc2⟩
    have HG13 := Lib.hid (gr_trans HG12.out hg13)
    have HX13 := Lib.hid (cd_gr HX12.out hg13)
    have HT2 := Lib.hid hT2
    have HY13 := Lib.hid hc2
    have HZ13 := Lib.hid hg13.size
    have HXB := Lib.hid (cd_blk HX12.out)
    clear hg13 hT2 hc2
    have HS3 := Lib.hid (show strOfNums (L ++ [1, 2, 3]) = S ++ { data := #[1, 2, 3] } from by
     rw [← HS.out]
     apply ByteArray.ext
     rw [ByteArray.data_append]
     simp [strOfNums])
    have hrm13 := HRM.out.sep (Sep.of_gr HG13.out) (fun _ _ => id)
    have hb13 := str_of_u8s (hrm13.u8s (by rw [hzr]; have := HLL.out; have := HZ.out; omega)) (.inr (by rw [hzr]; omega))
    unfold Str at hb13
    rw [HS3.out] at hb13
    clear hrm13
    have hSn : ¬ 9223372036854775807 < S.size + 3 := by have := HLL.out; have := HZ.out; omega
    go_upto_region 23 with fail
    obtain ⟨ex, hex⟩ : ∃ ex : Nat → Prop, ∀ q, ex q ↔ ((Value.slice xa S.size ca).ownBlock = some q ∨ (w9.heap.size ≤ q ∧ q < w12.heap.size) ∨ w13.heap.size ≤ q) := ⟨_, fun _ => Iff.rfl⟩
    obtain ⟨e3, he3⟩ : ∃ ex : Nat → Prop, ∀ q, ex q ↔ ((w11.heap.size ≤ q ∧ q < w12.heap.size) ∨ w13.heap.size ≤ q) := ⟨_, fun _ => Iff.rfl⟩
    have HZs := Lib.hid (show w.heap.size ≤ w6.heap.size ∧ w6.heap.size ≤ w7.heap.size ∧ w7.heap.size ≤ w9.heap.size ∧ w9.heap.size ≤ w11.heap.size ∧ w11.heap.size ≤ w12.heap.size ∧ w12.heap.size ≤ w13.heap.size from ⟨HG6.out.size, HG7.out.size, Nat.le_trans HZ8.out HZ9.out, HG11.out.size, HG12.out.size, HZ13.out⟩)
    have HEX := Lib.hid hex
    have HE3 := Lib.hid he3
    have HA13 := Lib.hid (own_gr HA9.out (gr_trans HG11.out HG13.out))
    have HX0 := Lib.hid (xr_of_cd (m := m) (hi := w12.heap.size) HX13.out (by
      have := congrArg List.length HT1.out
      simp only [List.length_map] at this
      have := HNN.out
      omega) (fun p hp => by
      have hq : p.1 ∈ P.map (·.1) := HT1.out ▸ List.mem_map_of_mem hp
      obtain ⟨q, hq, e⟩ := List.mem_map.1 hq
      have e' : q.1 = p.1 := e
      have := HLM.out q hq
      rw [e'] at this
      exact this) (fun q hq => (HXB.out.1 q hq).2) (fun p hp q hq => (HXB.out.2 p hp q hq).2))
    have HR0 := Lib.hid (HRM.out.sep (Sep.of_gr HG13.out) (fun _ _ => id))
    clear hex he3
    clear HWr HSA HRA HUR HOKB HIB HRR
    go_wp2_with fail
    go_loopw [17] (fun i wr => ∃ j : Nat, j ≤ S.size ∧ i = .int .i64 j ∧ Sep (fun q => (Value.slice xa S.size ca).ownBlock = some q) w13 wr ∧ ∃ xs, wr.ownsRow w6.heap.size 5 1 (.slice xa S.size ca) S.size xs ∧ ∀ (p : Nat) u, xs[p]? = some u → ∃ v, u = .int .u8 v) (fun i _ => S.size - (intOf i).toNat)
    case atStart => exact ⟨0, by omega, rfl, Sep.refl _, _, HA13.out, fun p u hu => by
     unfold u8s at hu
     rw [List.getElem?_map] at hu
     obtain ⟨x, _, rfl⟩ := Option.map_eq_some_iff.1 hu
     exact ⟨x, rfl⟩⟩
    case round =>
     obtain ⟨j, hj, rfl, hsep, xs, hown, hxs⟩ := hrel
     have HSp := Lib.hid hsep
     have HOw := Lib.hid hown
     have HXs := Lib.hid hxs
     clear hsep hown hxs
     by_cases hlt : j < S.size
     ·obtain ⟨g, _, he, _, _, _⟩ := own_some HOw.out (by omega)
      obtain rfl := (Value.slice.inj he).1
      clear he
      obtain ⟨v, hv⟩ : ∃ v, wr.cell? ⟨g, j, none⟩ = some (.int .u8 v) := by
       have h1 := HOw.out.cellAt j (by omega)
       have h2 := HOw.out.1
       rw [List.getElem?_eq_getElem (by omega)] at h1
       obtain ⟨v, hv⟩ := HXs.out j _ (List.getElem?_eq_getElem (by omega))
       exact ⟨v, by rw [h1, hv]⟩
      have hfz := HOw.out.frozenAt j
      go_wp2
      exact ⟨⟨j + 1, by omega, by go_num, Sep.trans HSp.out (Sep.mono (Sep.setCell (ex := fun q => q = g) wr (p := ⟨g, j, none⟩) rfl _) (fun q hq => by have e' : q = g := hq; rw [e']; rfl)), _, (HOw.out.stored j _).1, fun p u hu => by
       rw [List.getElem?_set] at hu
       split at hu
       ·split at hu
        ·exact ⟨_, (Option.some.inj hu).symm⟩
        ·cases hu
       ·exact HXs.out p u hu⟩, by simp [intOf]; omega⟩
     ·obtain rfl : j = S.size := by omega
      have HX1 := Lib.hid (xr_sep HX0.out HSp.out (fun q h1 h2 e => by have := HAB.out q e; have := HZs.out; omega))
      have HR1 := Lib.hid (HR0.out.sep HSp.out (fun q hq e => by have e' : gr = q := Option.some.inj hq; have := HAB.out q e; have := HGR.out; have := HZs.out; omega))
      have HP1 := Lib.hid (HSp.out.mono (fun q hq => (HEX.out q).2 (.inl hq)))
      clear hlt hj HOw HXs HSp
      obtain ⟨w14, rfl⟩ : ∃ w14, w14 = wr := ⟨_, rfl⟩
      go_wp2_with fail
      go_loopw [18] (fun i wr => ∃ j : Nat, j ≤ m ∧ i = .int .i64 j ∧ Sep e3 w14 wr ∧ XR wr w11.heap.size w12.heap.size (.slice xx m cx) m) (fun i _ => m - (intOf i).toNat)
      case atStart => exact ⟨0, by omega, rfl, Sep.refl _, HX1.out⟩
      case round =>
       obtain ⟨j, hj, rfl, hsep, hxr⟩ := hrel
       have HS4 := Lib.hid hsep
       have HX4 := Lib.hid hxr
       clear hsep hxr
       by_cases hlt : j < m
       ·obtain ⟨g, _, he, _, _, _⟩ := own_some HX4.out.2.choose_spec.1 (by omega)
        obtain rfl := (Value.slice.inj he).1
        clear he
        obtain ⟨⟨y, n, c, hcl, hn, how, hbl⟩, _, _⟩ := xr_at HX4.out hlt
        have HCL := Lib.hid hcl
        have HN := Lib.hid hn
        have HOW := Lib.hid how
        have HBL := Lib.hid (show ∀ q, (Value.slice y n c).ownBlock = some q → e3 q from fun q hq => (HE3.out q).2 (.inl ⟨(how.choose_spec.lt q hq).1, hbl q hq⟩))
        have hjm : (j : Int) < (m : Int) := by omega
        have HLT := Lib.hid hlt
        clear hcl how hbl hn
        obtain ⟨w15, rfl⟩ : ∃ w15, w15 = wr := ⟨_, rfl⟩
        go_wp2_with fail
        go_loopw [19] (fun i wr => ∃ k : Nat, k ≤ n ∧ i = .int .i64 k ∧ Sep e3 w14 wr ∧ XR wr w11.heap.size w12.heap.size (.slice (some ⟨g, 0, none⟩) m cx) m ∧ OwE wr w11.heap.size 3 1 (.slice y n c) n ∧ wr.cell? ⟨g, j * 6 + 5, none⟩ = some (.slice y n c)) (fun i _ => n - (intOf i).toNat)
        case atStart => exact ⟨0, by omega, rfl, HS4.out, HX4.out, HOW.out, HCL.out⟩
        case round =>
         obtain ⟨k, hk, rfl, hsep, hxr, hol, hcl⟩ := hrel
         have HS5 := Lib.hid hsep
         have HX5 := Lib.hid hxr
         have HO5 := Lib.hid hol
         clear hsep hxr hol
         by_cases hkn : k < n
         ·obtain ⟨gy, _, he, _, _, _⟩ := own_some HO5.out.choose_spec (by omega)
          obtain rfl := (Value.slice.inj he).1
          clear he
          obtain ⟨v, hv⟩ : ∃ v, wr.cell? ⟨gy, k, none⟩ = some v := by
           have h1 := HO5.out.choose_spec.cellAt k (by omega)
           have h2 := HO5.out.choose_spec.1
           rw [List.getElem?_eq_getElem (by omega)] at h1
           exact ⟨_, h1⟩
          have hfz := HO5.out.choose_spec.frozenAt k
          have hki : (k : Int) < (n : Int) := by omega
          have hap := xr_apart HX5.out HO5.out
          have HKN := Lib.hid hkn
          have T4 : wrap64 ((k : Int) + 1) = (k : Int) + 1 := by have := HN.out; unfold wrap64; omega
          go_wp2
          exact ⟨⟨k + 1, HKN.out, by rw [T4]; rfl, Sep.trans HS5.out (Sep.setCell _ (p := ⟨gy, k, none⟩) (HBL.out gy rfl) _), xr_setl HX5.out HO5.out _, owE_set HO5.out _ _ _, by
           rw [World.cell?_setCell_other _ _ _ _ (by intro e; injection e with e; exact hap (congrArg some e))]; exact hcl⟩, by rw [T4]; exact meas_lt HKN.out⟩
         ·obtain rfl : k = n := by omega
          obtain ⟨ys, hys⟩ := HO5.out
          have HYS := Lib.hid hys
          have HCY := Lib.hid hcl
          have hap := xr_apart HX5.out HO5.out
          have HAP := Lib.hid hap
          clear hkn hk hys hap
          go_wp2_with (at_builtin; refine wpList_append_keep rfl _ _ 36 rfl w11.heap.size 3 iz (.int .i64 0) 1 8 Try.underlying36 HI0.out HZ00.out HZ10.out HZ20.out rfl (by decide) (.slice y k c) k ys rfl (HYS.out.alloc _) ⟨wr.heap.size, 0, none⟩ 3 3 [.int .i64 (-2), .int .i64 (-2), .int .i64 (-2)] rfl rfl (fun q u hu => by rw [add_at, Nat.zero_add, cell_of_row _ _ q _ _ _ (heap_alloc_new wr _)]; simpa using hu) (by decide) (by decide) (by have := HN.out; unfold maxLen; omega) (by have := HN.out; omega) (by have := HS5.out.size; have := HZs.out; have := HP1.out.size; simp; omega) ?_)
          intro gn cn wn hon hgb hkp
          have HXn := Lib.hid (xr_keep (xr_sep (ex := fun _ => False) HX5.out (Sep.of_gr ((Gr.refl wr).alloc _ _)) (fun _ _ _ => id)) ⟨ys, HYS.out.alloc _⟩ hgb ⟨ys, hkp⟩)
          have HSn := Lib.hid (Sep.trans HS5.out (Sep.trans (Sep.of_gr ((Gr.refl wr).alloc _ _)) (Sep.grown (ex := e3) hgb HBL.out)))
          have hcn : wn.cell? ⟨g, j * 6 + 5, none⟩ = some (.slice y k c) := (Sep.grown (ex := fun q => (Value.slice y k c).ownBlock = some q) hgb (fun q hq => hq)).cell HAP.out (gr_cell ((Gr.refl wr).alloc _ _) HCY.out)
          clear hon hgb hkp
          obtain ⟨_, ⟨xo', hxo⟩, hfx⟩ := xr_at HXn.out HLT.out
          have T4 : wrap64 ((j : Int) + 1) = (j : Int) + 1 := by have := HLT.out; have := HBD.out; unfold wrap64; omega
          have hkk : ¬ 9223372036854775807 < k + 3 := by have := HN.out; omega
          have T3 : IntKind.i64.wrap ((k : Int) + 3) = (k : Int) + 3 := by have := HN.out; rw [IntKind.wrap_i64]; omega
          go_wp2
          exact ⟨⟨j + 1, HLT.out, by rw [T4]; rfl, Sep.trans HSn.out (Sep.setCell _ (p := ⟨g, j * 6, none⟩) ((HE3.out g).2 (.inl ⟨(HXn.out.2.choose_spec.1.lt g rfl).1, HXn.out.1 g rfl⟩)) _), xr_seto HXn.out _⟩, by rw [T4]; exact meas_lt HLT.out⟩
       ·obtain rfl : m = j := by omega
        have HR2 := Lib.hid (HR1.out.sep HS4.out (fun q hq e => by have e' : gr = q := Option.some.inj hq; have := HGR.out; have := HZs.out; rcases (HE3.out q).1 e with h | h <;> omega))
        have HP2 := Lib.hid (HP1.out.trans (HS4.out.mono (fun q hq => (HEX.out q).2 ((HE3.out q).1 hq |>.elim (fun h => .inr (.inl ⟨by have := HZs.out; omega, h.2⟩)) (fun h => .inr (.inr h))))))
        clear hlt hj HS4
        obtain ⟨w16, rfl⟩ : ∃ w16, w16 = wr := ⟨_, rfl⟩
        go_wp2_with fail
        go_loopw [21] (fun i wr => ∃ j : Nat, j ≤ S.size + 3 ∧ i = .int .i64 j ∧ Sep (fun q => q = gr) w16 wr ∧ ∃ R, R.length = S.size + 3 ∧ RM wr w9.heap.size (.slice (some ⟨gr, 0, none⟩) (S.size + 3) cr) R) (fun i _ => S.size + 3 - (intOf i).toNat)
        case atStart => exact ⟨0, by omega, rfl, Sep.refl _, _, hzr, HR2.out⟩
        case round =>
         obtain ⟨j, hj, rfl, hsep, R, hRl, hRm⟩ := hrel
         have HS7 := Lib.hid hsep
         have HR7 := Lib.hid hRm
         have HRl := Lib.hid hRl
         clear hsep hRm hRl
         by_cases hlt : j < S.size + 3
         ·obtain ⟨⟨v, hv⟩, hfz⟩ := rm_at HR7.out hlt
          have hji : (j : Int) < (S.size : Int) + 3 := by omega
          go_wp2
          exact ⟨⟨j + 1, by omega, by go_num, Sep.trans HS7.out (Sep.setCell (ex := fun q => q = gr) wr (p := ⟨gr, j, none⟩) rfl _), _, by rw [List.length_set]; exact HRl.out, rm_set HR7.out _ _⟩, by simp [intOf]; omega⟩
         ·obtain rfl : j = S.size + 3 := by omega
          have hx6 := xr_sep HX4.out HS7.out (fun q h1 h2 e => by have := HGR.out; omega)
          obtain ⟨xs, hxo⟩ : ∃ xs, wr.ownsRow w11.heap.size 38 6 (.slice xx m cx) m xs := hx6.2.elim fun xs h => ⟨xs, h.1⟩
          have HXO := Lib.hid hxo
          have HXL := Lib.hid hx6.1
          have HP3 := Lib.hid (HP2.out.trans (HS7.out.mono (fun q hq => (HEX.out q).2 (.inr (.inl (by have e' : q = gr := hq; have h1 := HGR.out; have h2 := HZs.out; have h4 := HGB.out; exact ⟨by omega, by omega⟩))))))
          clear hlt hj HS7 HR7 HRl hxo hx6
          obtain ⟨wq, rfl⟩ : ∃ wq, wq = wr := ⟨_, rfl⟩
          go_upto_region 43 with (first | (at_builtin; refine wpList_append_at rfl _ _ 24 rfl w11.heap.size 38 i6 (.agg #[.int .i64 0, .int .i64 0, .int .i64 0, .int .u64 0, .int .u64 0, .slice none 0 0]) 6 64 Try.underlying24 HI6.out HZ06.out HZ16.out HZ26.out rfl (by decide) (.slice xx m cx) m xs rfl (World.ownsRow.alloc HXO.out _) (.slice (some ⟨wq.heap.size, 0, none⟩) 2 2) 2 (#[.int .i64 (-5), .int .i64 0, .int .i64 0, .int .u64 0, .int .u64 0, .slice none 0 0, .int .i64 (-5), .int .i64 0, .int .i64 0, .int .u64 0, .int .u64 0, .slice none 0 0] : Array Value).toList rfl (src_lit wq #[.int .i64 (-5), .int .i64 0, .int .i64 0, .int .u64 0, .int .u64 0, .slice none 0 0, .int .i64 (-5), .int .i64 0, .int .i64 0, .int .u64 0, .int .u64 0, .slice none 0 0] 38 2 2) rfl ((List.all_eq_true (p := fun u : Value => u.oneCell')).1 rfl) (by have := HBD.out; unfold maxLen; omega) (by have := HBD.out; omega) (by have := HP3.out.size; have := HZs.out; simp; omega) ?_))
          intro vm w17 hown hgb hbk
          clear hbk h3 hb13
          obtain ⟨xm, cm, rfl⟩ := own_slice hown
          have hse : Sep ex w13 w17 := HP3.out.trans (Sep.trans (Sep.of_gr ((Gr.refl wq).alloc _ _)) (Sep.grown hgb (fun q hq => (HEX.out q).2 (.inr (.inl ⟨by have := (HXO.out.lt q hq).1; have := HZs.out; omega, HXL.out q hq⟩)))))
          clear hown hgb
          have HG17 := Lib.hid (Sep.toGr (gr_trans HG6.out (gr_trans HG9.out (gr_trans HG11.out HG13.out))) hse (fun q hq => by
           have := HZs.out
           rcases (HEX.out q).1 hq with h | h | h
           ·have := (HA9.out.lt q h).1; omega
           ·omega
           ·omega))
          have hb17 := hse.owns (own_gr HB9.out (gr_trans HG11.out HG13.out)) (fun q hq e => by
           have h1 := HB9.out.lt q hq
           have := HZs.out
           rcases (HEX.out q).1 e with h | h | h
           ·have := HAB.out q h; omega
           ·omega
           ·omega)
          rw [← HZ.out] at hb17
          have hst := str_of_owns hb17
          unfold Str at hst
          rw [HS.out, HZ.out] at hst
          have HY := Lib.hid (cdR_own (cd_sep HY13.out hse (fun q hq e => by
           have h1 := HY13.out.1.lt q hq
           have := HZs.out
           rcases (HEX.out q).1 e with h | h | h
           ·have := HAB.out q h; omega
           ·omega
           ·omega) (fun p hp q hq e => by
           have h1 := (HY13.out.2 p hp).lt q hq
           have := HZs.out
           rcases (HEX.out q).1 e with h | h | h
           ·have := HAB.out q h; omega
           ·omega
           ·omega)))
          have HO := Lib.hid (cdR_own (cd_sep (cd_gr HC6.out (gr_trans HG9.out (gr_trans HG11.out HG13.out))) hse (fun q hq e => by
           have h1 := HC6.out.1.lt q hq
           have := HZs.out
           rcases (HEX.out q).1 e with h | h | h
           ·have := (HA9.out.lt q h).1; omega
           ·omega
           ·omega) (fun p hp q hq e => by
           have h1 := (HC6.out.2 p hp).lt q hq
           have := HZs.out
           rcases (HEX.out q).1 e with h | h | h
           ·have := (HA9.out.lt q h).1; omega
           ·omega
           ·omega)))
          have HLI := Lib.hid (show ∀ T : List (In × Value), T.map (·.1) = P.map (·.1) → (∀ p ∈ T, p.1.l.length ≤ 4294967296) ∧ T.length ≤ 1099511627776 from fun T hT => ⟨fun p hp => by
           have hq : p.1 ∈ P.map (·.1) := hT ▸ List.mem_map_of_mem hp
           obtain ⟨q, hq, e⟩ := List.mem_map.1 hq
           have e' : q.1 = p.1 := e
           have := HLM.out q hq
           rw [e'] at this
           omega, by
           have := congrArg List.length hT
           simp only [List.length_map] at this
           have := HNN.out
           have := HBD.out
           omega⟩)
          have T2 : IntKind.i64.wrap ((m : Int) + 2) = (m : Int) + 2 := by have := HBD.out; rw [IntKind.wrap_i64]; omega
          have T4 : wrap64 ((m : Int) + 2) = (m : Int) + 2 := by have := HBD.out; unfold wrap64; omega
          clear hb17 hse
          go_upto_region 43 with fail
          go_wp2_with fail
          refine (same_any HY.out (HCR.out _ HG17.out) HT2.out (HLI.out _ HT2.out).1 (HLI.out _ HT2.out).2).mono ?_
          rintro e w18 ⟨rfl, hg18⟩
          have HG18 := Lib.hid hg18
          clear hg18
          go_wp2_with fail
          refine (same_any (cdR_gr HO.out HG18.out) (HCR.out _ (gr_trans HG17.out HG18.out)) HQD.out (HLI.out _ HQD.out).1 (HLI.out _ HQD.out).2).mono ?_
          rintro e w19 ⟨rfl, hg19⟩
          have HG19 := Lib.hid hg19
          clear hg19
          go_wp2
          go_ret
          exact ⟨rfl, gr_trans HG17.out (gr_trans HG18.out HG19.out)⟩

end Ex
end Go.Proofs.Ytebkabidojipoaa
