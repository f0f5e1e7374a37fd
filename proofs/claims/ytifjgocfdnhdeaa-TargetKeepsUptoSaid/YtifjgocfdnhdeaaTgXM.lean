/-
 TargetKeeps: of every given program and function the law returns true.
-/
import Derived.Test.YtifjgocfdnhdeaaMk9
import Derived.Test.YtifjgocfdnhdeaaMk11
namespace Go.Proofs.Ytifjgocfdnhdeaa
open Go.RowKit
namespace Tg
open Ins
theorem smP_set {P : Pr} (h : SmP P) {i : Nat} {g' : FuV} (e : g'.f.cs.length ≤ 1048576) : SmP ⟨P.ss, P.fs.set i g'⟩ := by
 refine ⟨h.ss, by dsimp only; rw [List.length_set]; exact h.fs, h.si, fun f hf => ?_⟩
 rcases List.mem_or_eq_of_mem_set hf with hf | rfl
 ·exact h.cs f hf
 ·exact e
/-- heights as a row of one's own, told or not -/
theorem heights_own {w : World} {sv fv : Value} {P : Pr} (h : PrR w sv fv P) (hsm : SmP P) (f : Int) : Calls Try.prog 11 #[.agg #[sv, fv], .int .i64 f] w fun e w' => ∃ hv, e = .returned (.tuple #[hv, .bool (htF P f).isSome]) ∧ w'.ownsRow w.heap.size 3 1 hv ((htF P f).getD []).length (ivs ((htF P f).getD [])) ∧ Gr w w' := by
 refine (heights_any h hsm f).mono ?_
 rintro e w' (⟨hn, rfl, hg⟩ | ⟨hs, hv, hh, rfl, ho, hg⟩)
 ·rw [hn]
  exact ⟨_, rfl, World.ownsRow_nil _ _ _ _, hg⟩
 ·rw [hh]
  exact ⟨hv, rfl, ho, hg⟩
theorem ht_len {P : Pr} (hsm : SmP P) (hb : ∀ f ∈ P.fs, ∀ c ∈ f.f.cs, CeB c) (f : Int) : ((htF P f).getD []).length ≤ 1048576 := by
 cases h : htF P f with
 | none => exact Nat.zero_le _
 | some hs =>
  obtain ⟨g, _, _, hg, _, _, hw, _⟩ := ht_th h hsm hb
  rw [Option.getD_some, hw.len]
  exact hsm.cs g (List.mem_of_getElem? hg)
theorem idx_of (f : Int) {nf : Nat} (h : 0 < nf) (h2 : nf ≤ 1048576) : ∃ i : Nat, i < nf ∧ IntKind.u64.wrap (nf : Int) = (nf : Int) ∧ (IntKind.u64.wrap f).tmod (nf : Int) = (i : Int) ∧ wrap64 (i : Int) = (i : Int) := by
 have h1 : 0 ≤ IntKind.u64.wrap f := by rw [IntKind.wrap_u64]; exact Int.emod_nonneg _ (by decide)
 have h3 := Int.emod_nonneg (IntKind.u64.wrap f) (show (nf : Int) ≠ 0 by omega)
 have h4 := Int.emod_lt_of_pos (IntKind.u64.wrap f) (show (0 : Int) < nf by omega)
 rw [← Int.tmod_eq_emod_of_nonneg h1] at h3 h4
 obtain ⟨i, hi⟩ : ∃ i : Nat, (IntKind.u64.wrap f).tmod (nf : Int) = (i : Int) := ⟨((IntKind.u64.wrap f).tmod (nf : Int)).toNat, by omega⟩
 exact ⟨i, by omega, by rw [IntKind.wrap_u64]; omega, hi, by unfold wrap64; omega⟩
theorem wr1 {k n : Nat} (h : k < n) (h1 : n ≤ 1048576) : wrap64 ((k : Int) + 1) = (k : Int) + 1 := by unfold wrap64; omega
theorem wr3 {n : Nat} (h1 : n ≤ 1048576) : IntKind.i64.wrap ((n : Int) + 3) = (n : Int) + 3 ∧ (((n + 3 : Nat) : Int) == (n : Int) + 3) = true := by
 refine ⟨?_, ?_⟩
 ·rw [IntKind.wrap_i64]; omega
 ·rw [beq_iff_eq]; omega
theorem lt_m1 {k n : Nat} (h : k < n) : k < n * 1 := by omega
theorem n3_max {n : Nat} (h1 : n ≤ 1048576) : n + 3 ≤ maxLen ∧ (n + 3) * 8 ≤ 140737488355328 := by unfold maxLen; omega
set_option maxRecDepth 100000 in
set_option maxHeartbeats 16000000 in
theorem keeps_law {w : World} {sv fv : Value} {P : Pr} (h : PrR w sv fv P) (hsm : SmP P) (hz : ∀ f ∈ P.fs, NilZ f.cv) (f : Int) : Calls Try.prog 6 #[.agg #[sv, fv], .int .i64 f] w fun e w' => e = .returned (.bool true) ∧ Gr w w' := by
 have HP := Lib.hid (pr_hid h)
 have HSM := Lib.hid hsm
 have HZ := Lib.hid hz
 obtain ⟨xs, cs, rfl, -⟩ := id h.ss
 obtain ⟨xf, cf, rfl, -⟩ := id h.fs
 have HH := Lib.hid h
 obtain ⟨ns, hns⟩ : ∃ n, P.ss.length = n := ⟨_, rfl⟩
 obtain ⟨nf, hnf⟩ : ∃ n, P.fs.length = n := ⟨_, rfl⟩
 have HNF := Lib.hid hnf
 rw [hns, hnf] at HP
 rw [hns, hnf]
 clear h hsm hns hz
 obtain ⟨i0, hi, hz0, hz1, hz2⟩ := info_parts infoZ
 have HI := Lib.hid hi
 have HZ0 := Lib.hid hz0
 have HZ1 := Lib.hid hz1
 have HZ2 := Lib.hid hz2
 clear hi hz0 hz1 hz2
 go_enter Try.func6, Try.ntmps6
 go_upto_region 1 with fail
 have HG1 := Lib.hid ((Gr.refl w).alloc #[.slice xs ns cs, .slice xf nf cf] 34)
 have HB1 := Lib.hid (heap_alloc_new w (.cells #[.slice xs ns cs, .slice xf nf cf] 34))
 generalize w.alloc (.cells #[.slice xs ns cs, .slice xf nf cf] 34) = w1 at *
 generalize hgp : w.heap.size = gp at *
 go_wp2_with fail
 refine (awake_any _).mono ?_
 rintro e w2 ⟨rfl, hg2⟩
 have HG2 := Lib.hid (gr_trans HG1.out hg2)
 have HB2 := Lib.hid (gr_block hg2 HB1.out)
 clear hg2
 obtain ⟨p0, p1⟩ := cells2 HB2.out
 by_cases hn0 : nf = 0
 ·have hz0 : ((nf : Int) == 0) = true := by rw [hn0]; rfl
  go_wp2
  go_ret
  exact ⟨rfl, HG2.out⟩
 have hz0 : ((nf : Int) == 0) = false := beq_eq_false_iff_ne.2 (by omega)
 have HNP := Lib.hid (Nat.pos_of_ne_zero hn0)
 have HNL := Lib.hid (show nf ≤ 1048576 from HNF.out ▸ HSM.out.fs)
 obtain ⟨i, hin, hwn, hwi, hw6⟩ := idx_of f HNP.out HNL.out
 have HIN := Lib.hid hin
 have hii : (i : Int) < (nf : Int) := Int.ofNat_lt.2 hin
 obtain ⟨g, hgf⟩ : ∃ g, P.fs[i]? = some g := ⟨_, List.getElem?_eq_getElem (by rw [HNF.out]; exact hin)⟩
 have hgm := List.mem_of_getElem? hgf
 have HWI := Lib.hid (with_any (HP.out _ HG2.out) HSM.out hgf (HZ.out g hgm))
 rw [hnf] at HWI
 clear hn0 hin
 go_upto_region 6 with fail
 rw [hw6]
 clear hwn hwi hw6 hz0
 go_wp2_with fail
 refine HWI.out.mono ?_
 rintro e w3 ⟨fv', cv', rfl, hg3, hof, hoc⟩
 have hfr := (HP.out _ HG2.out).fus g hgm
 have hpr := prR_own (HP.out _ HG2.out) hg3 hgf g.f (by rw [hnf]; exact hof) hoc hfr.len hfr.host hfr.sig hfr.inn hfr.out hfr.loc hfr.ces
 have hsm' : SmP ⟨P.ss, P.fs.set i ⟨g.f, cv', g.mv⟩⟩ := smP_set HSM.out (HSM.out.cs g hgm)
 have hfi : (P.fs.set i ⟨g.f, cv', g.mv⟩)[i]? = some ⟨g.f, cv', g.mv⟩ := by rw [List.getElem?_set, if_pos rfl, if_pos (by rw [HNF.out]; exact HIN.out)]
 obtain ⟨xg, cg, rfl⟩ := own_slice hof
 obtain ⟨b, off, rfl, hcl⟩ := rwR_at (z := 7) (fun _ => rfl) HH.out.fs hgf (by decide)
 obtain ⟨bg, og, rfl, hcg⟩ := rwR_at (z := 7) (n := nf) (fun _ => rfl) (by have := hpr.fs; dsimp only at this; rw [List.length_set, hnf] at this; exact this) hfi (by decide)
 obtain ⟨l, mv, hl, e1, hf2⟩ : ∃ l mv, g.f.cs = l ∧ g.mv = mv ∧ FuR w2 g := ⟨_, _, rfl, rfl, hfr⟩
 obtain ⟨n, hn⟩ : ∃ n, l.length = n := ⟨_, rfl⟩
 obtain ⟨xc, cc, ecv, -⟩ := id hfr.cs
 rw [hl, hn] at ecv
 have HN := Lib.hid hn
 have HNL2 := Lib.hid (show n ≤ 1048576 from by rw [← hn, ← hl]; exact HSM.out.cs g hgm)
 have HCS := Lib.hid (fun wx (hg : Gr w2 wx) => rwR_gr hfr.cs hg)
 rw [ecv, hl, hn] at HCS
 rw [hl, hn] at hoc
 have HCQ := Lib.hid (fun wx (hg : Gr w3 wx) => rwR_gr (own_rwz hoc) hg)
 obtain ⟨xq, cq, rfl⟩ := own_slice hoc
 have HCB := Lib.hid hf2.ces
 have HD5 := Lib.hid (show ∀ wx, Gr w wx → wx.cell? ⟨b, off + i * 7 + 5, none⟩ = some (.slice xc n cc) from fun wx hg => gr_cell hg (hcl 5 _ (by rw [← ecv]; rfl)))
 have HQ5 := Lib.hid (show ∀ wx, Gr w3 wx → wx.cell? ⟨bg, og + i * 7 + 5, none⟩ = some (.slice xq n cq) from fun wx hg => gr_cell hg (hcg 5 _ rfl))
 have HPQ := Lib.hid (pr_hid hpr)
 have hhl := ht_len hsm' (fun f hf c hc => (hpr.fus f hf).ces c hc) (i : Nat)
 have HSMQ := Lib.hid hsm'
 have HG3 := Lib.hid (gr_trans HG2.out hg3)
 have HG23 := Lib.hid hg3
 have HB3 := Lib.hid (gr_block hg3 HB2.out)
 clear hg3 hof hoc hfr hpr hsm' hfi hcl hcg hl e1 hf2 hn ecv hgm p0 p1
 go_upto_region 7 with (refine wpList_store_row rfl 34 _ _ rfl w3.heap.size #[.slice xs ns cs, .slice (some ⟨bg, og, none⟩) nf cg] rfl rfl 34 #[.slice none 0 0, .slice none 0 0] (heap_alloc_new w3 _) infoPr rfl (by kernel_rfl) ?_)
 have hsep := Sep.setRow (ex := fun q => q = w3.heap.size) (w3.alloc (.cells #[.slice none 0 0, .slice none 0 0] 34)) rfl #[.slice xs ns cs, .slice (some ⟨bg, og, none⟩) nf cg]
 have hgr2 := Sep.toGr ((Gr.refl w3).alloc #[.slice none 0 0, .slice none 0 0] 34) hsep (fun q hq => by have e' : q = w3.heap.size := hq; omega)
 have hbk := setRow_block (c := #[.slice xs ns cs, .slice (some ⟨bg, og, none⟩) nf cg]) (heap_alloc_new w3 (.cells #[.slice none 0 0, .slice none 0 0] 34))
 have HG35 := Lib.hid hgr2
 have HBQ := Lib.hid hbk
 clear hsep hgr2 hbk
 generalize (w3.alloc (.cells #[.slice none 0 0, .slice none 0 0] 34)).setRow w3.heap.size #[.slice xs ns cs, .slice (some ⟨bg, og, none⟩) nf cg] = w5 at *
 generalize hgq : w3.heap.size = gq at *
 have HHT := Lib.hid (fun wx (hg : Gr w5 wx) => heights_own (HPQ.out wx (gr_trans HG35.out hg)) HSMQ.out (i : Nat))
 obtain ⟨hs, hhs⟩ : ∃ hs, (htF ⟨P.ss, P.fs.set i ⟨g.f, .slice xq n cq, g.mv⟩⟩ (i : Nat)).getD [] = hs := ⟨_, rfl⟩
 obtain ⟨ok, hok⟩ : ∃ ok, (htF ⟨P.ss, P.fs.set i ⟨g.f, .slice xq n cq, g.mv⟩⟩ (i : Nat)).isSome = ok := ⟨_, rfl⟩
 rw [hhs, hok] at HHT
 rw [hhs] at hhl
 obtain ⟨nh, hnh⟩ : ∃ n, hs.length = n := ⟨_, rfl⟩
 rw [hnh] at HHT hhl
 have HNH := Lib.hid hnh
 have HHL := Lib.hid hhl
 clear hhs hok hnh hhl hnf
 obtain ⟨q0, q1⟩ := cells2 HBQ.out
 go_wp2_with fail
 clear q0 q1
 refine (HHT.out _ (Gr.refl _)).mono ?_
 rintro e w6 ⟨av, rfl, hoa, hg6⟩
 obtain ⟨xa, ca, rfl⟩ := own_slice hoa
 have HG6 := Lib.hid hg6
 have HOA := Lib.hid hoa
 clear hg6 hoa
 obtain ⟨q0, q1⟩ := cells2 (gr_block HG6.out HBQ.out)
 go_wp2_with fail
 clear q0 q1
 refine (HHT.out _ HG6.out).mono ?_
 rintro e w7 ⟨bv, rfl, hob, hg7⟩
 obtain ⟨xb, cb, rfl⟩ := own_slice hob
 have HG7 := Lib.hid (gr_trans HG6.out hg7)
 have HOA7 := Lib.hid (owns_gr HOA.out hg7)
 have HOB := Lib.hid hob
 have HAB := Lib.hid (show ∀ q, (Value.slice xa nh ca).ownBlock = some q → q < w6.heap.size from fun q hq => (HOA.out.lt q hq).2)
 clear hg7 hob HOA
 have bok : (ok != ok) = false := bne_self_eq_false ok
 go_wp2_with fail
 refine (ints_any (l := hs) (by rw [HNH.out]; exact own_rw HOA7.out) (by rw [HNH.out]; exact own_rw HOB.out) (by rw [HNH.out]; have := HHL.out; omega)).mono ?_
 rintro e w8 ⟨rfl, hg8⟩
 have HG8 := Lib.hid (gr_trans HG7.out hg8)
 have HOA8 := Lib.hid (owns_gr HOA7.out hg8)
 have HOB8 := Lib.hid (owns_gr HOB.out hg8)
 clear hg8 bok HOA7 HOB
 go_wp2_with fail
 go_loopw [10] (fun i0 wr => ∃ k : Nat, k ≤ n ∧ i0 = .int .i64 k ∧ Gr w8 wr) (fun i0 _ => n - (intOf i0).toNat)
 case atStart => exact ⟨0, Nat.zero_le _, rfl, Gr.refl _⟩
 case round =>
  obtain ⟨k, hk, rfl, hgr⟩ := hrel
  have HGR := Lib.hid hgr
  have HGP := Lib.hid (gr_trans HG35.out (gr_trans HG8.out hgr))
  clear hgr
  obtain ⟨p0, p1⟩ := cells2 (gr_block HGP.out HB3.out)
  obtain ⟨q0, q1⟩ := cells2 (gr_block (gr_trans HG8.out HGR.out) HBQ.out)
  have d5 := HD5.out _ (gr_trans HG3.out HGP.out)
  have e5 := HQ5.out _ HGP.out
  by_cases hlt : k < n
  ·have HLT := Lib.hid hlt
   obtain ⟨c, hc⟩ : ∃ c, l[k]? = some c := ⟨_, List.getElem?_eq_getElem (by rw [HN.out]; exact hlt)⟩
   obtain ⟨bc, oc, rfl, hcc⟩ := rwR_at (g := ceA) (z := 3) (fun _ => rfl) (HCS.out _ (gr_trans HG23.out HGP.out)) hc (by decide)
   obtain ⟨bq, oq, rfl, hcq⟩ := rwR_at (g := ceA) (z := 3) (fun _ => rfl) (HCQ.out _ HGP.out) hc (by decide)
   obtain ⟨op, a, nn⟩ := c
   have hki : (k : Int) < (n : Int) := Int.ofNat_lt.2 hlt
   have TI : wrap64 ((k : Int) + 1) = (k : Int) + 1 := wr1 hlt HNL2.out
   have H1 := Lib.hid (show ∀ wx, Gr wr wx → ∀ j u, (#[.int .i64 op, .int .i64 a, .int .u64 nn] : Array Value).toList[j]? = some u → wx.cell? ⟨bq, oq + k * 3 + j, none⟩ = some u from fun wx hg j u hu => gr_cell hg (hcq j u (by rw [← hu]; unfold ceA; rw [Array.getElem?_toList])))
   have H2 := Lib.hid (show ∀ wx, Gr wr wx → ∀ j u, (#[.int .i64 op, .int .i64 a, .int .u64 nn] : Array Value).toList[j]? = some u → wx.cell? ⟨bc, oc + k * 3 + j, none⟩ = some u from fun wx hg j u hu => gr_cell hg (hcc j u (by rw [← hu]; unfold ceA; rw [Array.getElem?_toList])))
   clear hc hcc hcq hlt
   go_upto_region 14 with fail
   refine wp_region_steady (by kernel_rfl) (by kernel_rfl) ?_
   refine steady_step (fun K hK => ?_); apply steady_op rfl; (focus (intro wx hw; go_simp; exact ⟨rfl, hw⟩)); go_simp; refine hK _ ?_; clear hK K
   refine steady_step (fun K hK => ?_); apply steady_op rfl; (focus (intro wx hw; have hcx := gr_cell (gr_trans (Gr.drew (Gr.refl _)) hw) q1; go_simp; exact ⟨rfl, hw⟩)); go_simp; refine hK _ ?_; clear hK K
   refine steady_step (fun K hK => ?_); apply steady_op rfl; (focus (intro wx hw; go_simp; exact ⟨rfl, hw⟩)); go_simp; refine hK _ ?_; clear hK K
   refine steady_step (fun K hK => ?_); apply steady_op rfl; (focus (intro wx hw; go_simp; exact ⟨rfl, hw⟩)); go_simp; refine hK _ ?_; clear hK K
   refine steady_step (fun K hK => ?_); apply steady_op rfl; (focus (intro wx hw; go_simp; exact ⟨rfl, hw⟩)); go_simp; refine hK _ ?_; clear hK K
   refine steady_step (fun K hK => ?_); apply steady_op rfl; (focus (intro wx hw; have hcx := gr_cell (gr_trans (Gr.drew (Gr.refl _)) hw) e5; go_simp; exact ⟨rfl, hw⟩)); go_simp; refine hK _ ?_; clear hK K
   refine steady_step (fun K hK => ?_); apply steady_op rfl; (focus (intro wx hw; go_simp; exact ⟨rfl, hw⟩)); go_simp; refine hK _ ?_; clear hK K
   refine steady_step (fun K hK => ?_); apply steady_op rfl; (focus (intro wx hw; go_simp; exact ⟨rfl, hw⟩)); go_simp; refine hK _ ?_; clear hK K
   refine steady_step (fun K hK => ?_)
   refine steady_load_cells rfl 47 _ rfl bq (oq + k * 3) rfl #[.int .i64 op, .int .i64 a, .int .u64 nn] _ (H1.out _ (Gr.drew (Gr.refl _))) Try.underlying47 rfl infoCe ?_
   go_simp; refine hK _ ?_; clear hK K
   refine steady_step (fun K hK => ?_); apply steady_op rfl; (focus (intro wx hw; go_simp; exact ⟨rfl, hw⟩)); go_simp; refine hK _ ?_; clear hK K
   refine steady_step (fun K hK => ?_); apply steady_op rfl; (focus (intro wx hw; have hcx := gr_cell (gr_trans (Gr.drew (Gr.refl _)) hw) p1; go_simp; exact ⟨rfl, hw⟩)); go_simp; refine hK _ ?_; clear hK K
   refine steady_step (fun K hK => ?_); apply steady_op rfl; (focus (intro wx hw; go_simp; exact ⟨rfl, hw⟩)); go_simp; refine hK _ ?_; clear hK K
   refine steady_step (fun K hK => ?_); apply steady_op rfl; (focus (intro wx hw; go_simp; exact ⟨rfl, hw⟩)); go_simp; refine hK _ ?_; clear hK K
   refine steady_step (fun K hK => ?_); apply steady_op rfl; (focus (intro wx hw; go_simp; exact ⟨rfl, hw⟩)); go_simp; refine hK _ ?_; clear hK K
   refine steady_step (fun K hK => ?_); apply steady_op rfl; (focus (intro wx hw; have hcx := gr_cell (gr_trans (Gr.drew (Gr.refl _)) hw) d5; go_simp; exact ⟨rfl, hw⟩)); go_simp; refine hK _ ?_; clear hK K
   refine steady_step (fun K hK => ?_); apply steady_op rfl; (focus (intro wx hw; go_simp; exact ⟨rfl, hw⟩)); go_simp; refine hK _ ?_; clear hK K
   refine steady_step (fun K hK => ?_); apply steady_op rfl; (focus (intro wx hw; go_simp; exact ⟨rfl, hw⟩)); go_simp; refine hK _ ?_; clear hK K
   refine steady_step (fun K hK => ?_)
   refine steady_load_cells rfl 47 _ rfl bc (oc + k * 3) rfl #[.int .i64 op, .int .i64 a, .int .u64 nn] _ (H2.out _ (Gr.drew (Gr.refl _))) Try.underlying47 rfl infoCe ?_
   go_simp; refine hK _ ?_; clear hK K
   refine steady_step (fun K hK => ?_); apply steady_op rfl; (focus (intro wx hw; go_simp; exact ⟨rfl, hw⟩)); go_simp; refine hK _ ?_; clear hK K
   refine steady_nil ?_
   intro w9 hg9
   have HG9 := Lib.hid (gr_trans HGR.out (gr_trans (Gr.drew (Gr.refl _)) hg9))
   clear hg9 p0 p1 q0 q1 d5 e5
   go_wp2
   exact ⟨⟨k + 1, HLT.out, by first | rfl | (rw [TI]; rfl), HG9.out⟩, by first | exact meas_lt HLT.out | (rw [TI]; exact meas_lt HLT.out)⟩
  ·obtain rfl : n = k := Nat.le_antisymm (Nat.le_of_not_lt hlt) hk
   have hki : ¬ ((n : Int) < (n : Int)) := Int.lt_irrefl _
   have HOA9 := Lib.hid (owns_gr HOA8.out HGR.out)
   have HOB9 := Lib.hid (owns_gr HOB8.out HGR.out)
   clear hlt hk
   go_upto_region 16 with fail
   clear p0 p1 q0 q1 d5 e5 hki
   go_wp2_with fail
   have HG9 := Lib.hid (gr_trans HG8.out HGR.out)
   generalize wr = w9 at *
   go_loopw [11] (fun i0 wy => ∃ (k : Nat) (L : List Int), k ≤ nh ∧ i0 = .int .i64 k ∧ L.length = nh ∧ wy.ownsRow w5.heap.size 3 1 (.slice xa nh ca) nh (ivs L) ∧ Sep (fun q => (Value.slice xa nh ca).ownBlock = some q) w9 wy) (fun i0 _ => nh - (intOf i0).toNat)
   case atStart => exact ⟨0, hs, Nat.zero_le _, rfl, HNH.out, HOA9.out, Sep.refl _⟩
   case round =>
    obtain ⟨k, L, hk, rfl, hL, ho, hsp⟩ := hrel
    have HO := Lib.hid ho
    have HSP := Lib.hid hsp
    have HLL := Lib.hid hL
    clear ho hsp hL
    by_cases hlt : k < nh
    ·have HLT := Lib.hid hlt
     obtain ⟨ga, ca', e', _⟩ := own_some HO.out (Nat.lt_of_le_of_lt (Nat.zero_le _) hlt)
     obtain rfl := (Value.slice.inj e').1
     clear e'
     have hki : (k : Int) < (nh : Int) := Int.ofNat_lt.2 hlt
     have TI : wrap64 ((k : Int) + 1) = (k : Int) + 1 := wr1 hlt HHL.out
     obtain ⟨y, hy⟩ : ∃ y, L[k]? = some y := ⟨_, List.getElem?_eq_getElem (by rw [HLL.out]; exact hlt)⟩
     have hcc := HO.out.cellAt k (lt_m1 hlt)
     unfold ivs at hcc
     rw [List.getElem?_map, hy] at hcc
     have hcc' : wr.cell? ⟨ga, k, none⟩ = some (.int .i64 y) := hcc
     have fz := HO.out.frozenAt k
     have hst := (HO.out.stored k (.int .i64 (-9))).1
     rw [ivs_set] at hst
     have HST := Lib.hid hst
     have HS2 := Lib.hid (Sep.trans HSP.out (Sep.setCell (ex := fun q => (Value.slice (some ⟨ga, 0, none⟩) nh ca).ownBlock = some q) wr (p := ⟨ga, k, none⟩) rfl (.int .i64 (-9))))
     clear hcc hst hy hlt
     go_wp2
     exact ⟨⟨k + 1, _, HLT.out, by first | rfl | (rw [TI]; rfl), by rw [List.length_set]; exact HLL.out, HST.out, HS2.out⟩, by first | exact meas_lt HLT.out | (rw [TI]; exact meas_lt HLT.out)⟩
    ·obtain rfl : nh = k := Nat.le_antisymm (Nat.le_of_not_lt hlt) hk
     have hki : ¬ ((nh : Int) < (nh : Int)) := Int.lt_irrefl _
     have HGW := Lib.hid (Sep.toGr HG9.out HSP.out (fun q hq => (HO.out.lt q hq).1))
     have HOBw := Lib.hid (HSP.out.owns HOB9.out (fun q hq e => by have h1 := (HOB9.out.lt q hq).1; have h2 := HAB.out q e; omega))
     clear hlt hk
     go_upto_region 20 with fail
     clear hki
     go_upto_region 21 with (first | (at_builtin; refine wpList_append_at rfl _ _ 25 rfl w5.heap.size 3 i0 (.int .i64 0) 1 8 Try.underlying25 HI.out HZ0.out HZ1.out HZ2.out rfl (by decide) (.slice xa nh ca) nh (ivs L) rfl (World.ownsRow.alloc HO.out _) (.slice (some ⟨wr.heap.size, 0, none⟩) 3 3) 3 [.int .i64 1, .int .i64 2, .int .i64 3] rfl (src_lit wr #[.int .i64 1, .int .i64 2, .int .i64 3] 3 3 3) rfl ((List.all_eq_true (p := fun u : Value => u.oneCell')).1 rfl) (n3_max HHL.out).1 (n3_max HHL.out).2 (by have := HGW.out.size; simp; omega) ?_))
     intro vc w10 hown hgb hbk
     obtain ⟨xd, cd, rfl⟩ := own_slice hown
     have hpre : Sep (fun q => (Value.slice xa nh ca).ownBlock = some q) wr w10 := Sep.trans (Sep.of_gr ((Gr.refl wr).alloc _ _)) (Sep.grown hgb (fun q hq => hq))
     have HG10 := Lib.hid (Sep.toGr HGW.out hpre (fun q hq => (HO.out.lt q hq).1))
     have HOB10 := Lib.hid (hpre.owns HOBw.out (fun q hq e => by have h1 := (HOBw.out.lt q hq).1; have h2 := HAB.out q e; omega))
     clear hpre hown hgb hbk
     go_upto_region 21 with fail
     obtain ⟨q0, q1⟩ := cells2 (gr_block HG10.out HBQ.out)
     go_wp2_with fail
     clear q0 q1
     refine (HHT.out _ HG10.out).mono ?_
     rintro e w11 ⟨dv, rfl, hod, hg11⟩
     obtain ⟨xe, ce, rfl⟩ := own_slice hod
     have HG11 := Lib.hid (gr_trans HG10.out hg11)
     have HOB11 := Lib.hid (owns_gr HOB10.out hg11)
     have HOD := Lib.hid hod
     clear hg11 hod
     obtain ⟨t1, t2⟩ := wr3 HHL.out
     have bok : (ok == ok) = true := beq_self_eq_true ok
     go_wp2_with fail
     refine (ints_any (l := hs) (by rw [HNH.out]; exact own_rw HOB11.out) (by rw [HNH.out]; exact own_rw HOD.out) (by rw [HNH.out]; have := HHL.out; omega)).mono ?_
     rintro e w12 ⟨rfl, hg12⟩
     have HG12 := Lib.hid (gr_trans HG11.out hg12)
     clear hg12 t1 t2 bok
     go_wp2
     go_ret
     exact ⟨rfl, gr_trans HG3.out (gr_trans HG35.out HG12.out)⟩
end Tg
end Go.Proofs.Ytifjgocfdnhdeaa
