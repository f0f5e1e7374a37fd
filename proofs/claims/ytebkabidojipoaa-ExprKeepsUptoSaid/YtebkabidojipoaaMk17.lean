/-
  Texts of this seat, joined: ExR2. Each says what it proves.
-/
import Derived.Test.YtebkabidojipoaaMk9
import Derived.Test.YtebkabidojipoaaMk16
/- ExR2 -/
namespace Go.Proofs.Ytebkabidojipoaa
open Go.RowKit VecM LebM
namespace Ex
def CdR (w : World) (v : Value) (P : List (In × Value)) : Prop :=
 (∃ x c, v = .slice x P.length c ∧ ∀ j u, (cdV P)[j]? = some u → ∃ b off, x = some ⟨b, off, none⟩ ∧ w.cell? ⟨b, off + j, none⟩ = some u) ∧ ∀ p ∈ P, LsR w p.2 p.1.l
theorem cdR_gr {w w' : World} {v : Value} {P : List (In × Value)} (h : CdR w v P) (hg : Gr w w') : CdR w' v P := by
 obtain ⟨⟨x, c, rfl, h1⟩, h2⟩ := h
 exact ⟨⟨x, c, rfl, fun j u hu => by obtain ⟨b, off, e1, e2⟩ := h1 j u hu; exact ⟨b, off, e1, gr_cell hg e2⟩⟩, fun p hp => lsR_gr (h2 p hp) hg⟩
theorem lsR_own {w : World} {base : Nat} {e : TypeId} {v : Value} {l : List Int} (h : w.ownsRow base e 1 v l.length (ivs l)) : LsR w v l := by
 obtain ⟨x, c, rfl⟩ := own_slice h
 refine ⟨x, c, rfl, fun j hj => ?_⟩
 obtain ⟨g, c', e1, _⟩ := own_some h (by omega)
 obtain ⟨rfl, -, rfl⟩ := Value.slice.inj e1
 refine ⟨g, 0, rfl, ?_⟩
 have := h.cells rfl j (.int .i64 (l.getD j 0)) (by unfold ivs; simp [hj])
 rw [add_at] at this
 exact this
theorem cdR_own {w : World} {base : Nat} {v : Value} {P : List (In × Value)} (h : CdO w base v P) : CdR w v P := by
 obtain ⟨x, c, rfl⟩ := own_slice h.1
 refine ⟨⟨x, c, rfl, fun j u hu => ?_⟩, fun p hp => lsR_own (h.2 p hp)⟩
 have hj := (List.getElem?_eq_some_iff.1 hu).1
 rw [cdV_len] at hj
 obtain ⟨g, c', e1, _⟩ := own_some h.1 (by omega)
 obtain ⟨rfl, -, rfl⟩ := Value.slice.inj e1
 refine ⟨g, 0, rfl, ?_⟩
 have := h.1.cells rfl j u hu
 rw [add_at] at this
 exact this
theorem cdV_get : ∀ (P : List (In × Value)) (k : Nat) (p : In × Value), P[k]? = some p → ∀ i, i < 6 → (cdV P)[k * 6 + i]? = (inV p.1 p.2).toList[i]?
 | [], _, _, h => by simp at h
 | q :: r, 0, p, h => fun i hi => by
  obtain rfl : q = p := by simpa using h
  rw [cdV, List.getElem?_append_left (by simp [inV]; omega)]
  simp
 | q :: r, k + 1, p, h => fun i hi => by
  have h1 := cdV_get r k p (by simpa using h) i hi
  rw [cdV, List.getElem?_append_right (by simp [inV]; omega), ← h1]
  congr 1
  simp [inV]; omega
theorem wpList_load_row_yes {P : Program} {ops : Array Oper} {Q : Exit → Act → World → Prop} {a : Act} {w : World} {rest : List Oper} {o : Oper} (hw : Region.wanted o (yielded ops a.tmps) = true) (ty : TypeId) (x : Operand) (ho : o.op = .load ty x)
  (g : Nat) (hx : a.eval x = .pointer (some ⟨g, 0, none⟩)) (t : TypeId) (cs : Array Value) (fr : Nat × Nat) (de : TypeDesc) (hg : w.heap[g]? = some (.cells cs t fr))
  (hu : P.underlying ty = some de) (hde : (match de with | .struct _ | .array _ _ => true | _ => false) = true) (hi : (P.info? ty).map (·.size) = some cs.size)
  (h : wpList P ops Q rest (a.put o.dst (.agg cs)) w) : wpList P ops Q (o :: rest) a w := by
 unfold wpList
 rw [if_pos hw]
 refine .inl ?_
 unfold Oper.wp execOp
 simp only [ho, hx, Instr.loadAt, Instr.sureAddr, Sem.run_bind, Sem.run_pure, Result.andThen_ok, run_loadVar_row w g t ty cs fr de hg hu hde hi]
 exact h
def goodB (d : In) (N : List Int) (cl : Bool) : Bool := (fm d.op != 0) && fitB d (fm d.op) && !((fm d.op == 2) && ((N.length : Int) == 128)) && (stepN d.op (fm d.op) N cl).1
def wrS : List In → List Int → Bool → List Int → Option (List Int)
 | [], _, cl, out => if cl = true then some out else none
 | d :: r, N, cl, out => if goodB d N cl = true then wrS r (stepN d.op (fm d.op) N cl).2.1 (stepN d.op (fm d.op) N cl).2.2 (out ++ opcL d.op ++ fldL d (fm d.op)) else none
def szP : List In → Nat
 | [] => 0
 | d :: r => d.l.length + 1 + szP r
theorem opcL_len (op : Int) : (opcL op).length ≤ 11 := by
 unfold opcL; split
 ·simp
 ·have := formU_len (op - 64768); simp only [List.length_append, List.length_cons, List.length_nil]; omega
theorem fldL_len (d : In) (form : Int) : (fldL d form).length ≤ 50 + 10 * d.l.length := by
 have h1 := formU_len d.a
 have h2 := formU_len d.b
 have h3 := formU_len (d.l.length : Int)
 have h4 := tabF_len d.l
 have h5 := formS_len d.a
 have h6 := formS_len (sg32 d.lo)
 have h7 := formS_len (sg64 d.lo)
 unfold fldL
 repeat' split
 all_goals (try simp only [List.length_append, List.length_cons, List.length_nil, vecL, List.length_map, List.length_range])
 all_goals omega
def WRX (w : World) (r : Option (List Int)) (e : Ending) (w' : World) : Prop :=
 match r with
 | none => e = .returned (.tuple #[.slice none 0 0, .int .i64 1]) ∧ Gr w w'
 | some L => ∃ sv, e = .returned (.tuple #[sv, .int .i64 0]) ∧ Gr w w' ∧ w'.ownsRow w.heap.size 5 1 sv L.length (u8s L)
theorem step_N (op form : Int) {N : List Int} {cl : Bool} (h : N.length ≤ 100000) (hf : ¬ (form = 2 ∧ N.length = 128)) (h2 : N.length ≤ 128) : (stepN op form N cl).2.1.length ≤ 128 := by
 unfold stepN
 split
 ·exact h2
 split
 ·rename_i h5
  have : N.length ≠ 128 := fun e => hf ⟨h5, e⟩
  simp only [List.length_append, List.length_cons, List.length_nil]; omega
 split
 ·split
  ·simp only [List.length_append, List.length_dropLast, List.length_cons, List.length_nil]; omega
  ·exact h2
 split
 ·split
  ·exact h2
  ·simp only [List.length_dropLast]; omega
 ·exact h2
set_option maxRecDepth 100000 in
set_option maxHeartbeats 4000000 in
theorem write_any {w : World} {v : Value} {P : List (In × Value)} (hm : Ins.Mx w) (h : CdR w v P) (hok : ∀ p ∈ P, InOk p.1) (hsz : szP (P.map (·.1)) ≤ 1048576) (hwz : 0 < w.heap.size) :
  Calls Try.prog 13 #[v] w (WRX w (wrS (P.map (·.1)) [] false [])) := by
 obtain ⟨⟨xc, cc, rfl, hcell⟩, hls⟩ := h
 obtain ⟨n, hn⟩ : ∃ n, P.length = n := ⟨_, rfl⟩
 rw [hn]
 have HN := Lib.hid hn
 have HC := Lib.hid hcell
 have HL := Lib.hid hls
 have HOK := Lib.hid hok
 have HSZ := Lib.hid hsz
 have HM := Lib.hid hm
 have HWZ := Lib.hid hwz
 obtain ⟨R, hR⟩ : ∃ R, wrS (P.map (·.1)) [] false [] = R := ⟨_, rfl⟩
 rw [hR]
 have HR := Lib.hid hR
 have HNs := Lib.hid (show n ≤ 1048576 from by
  have : ∀ Q : List In, Q.length ≤ szP Q := fun Q => by
   induction Q with
   | nil => simp
   | cons d r ih => simp only [szP, List.length_cons]; omega
  have h1 := this (P.map (·.1))
  rw [List.length_map] at h1
  omega)
 clear hcell hls hok hsz hm hn hR hwz
 obtain ⟨i0, hi, hz0, hz1, hz2⟩ := info_parts info8
 have HI := Lib.hid hi
 have HZ0 := Lib.hid hz0
 have HZ1 := Lib.hid hz1
 have HZ2 := Lib.hid hz2
 clear hi hz0 hz1 hz2
 go_enter Try.func13, Try.ntmps13
 go_wp2_with fail
 have HB0 := Lib.hid (heap_alloc_new w (.cells #[.slice none 0 0, .bool false] 43))
 have HA0 := Lib.hid ((Gr.refl w).alloc #[.slice none 0 0, .bool false] 43)
 go_loopw [5, 12] (fun sv i wr => ∃ (k : Nat) (N : List Int) (cl : Bool) (ov : Value) (L : List Int), k ≤ n ∧ i = .int .i64 k ∧ wrS ((P.drop k).map (·.1)) N cl L = R ∧ L.length + 64 * szP ((P.drop k).map (·.1)) ≤ 64 * 1048576 ∧ N.length ≤ 128 ∧ W.NB wr w.heap.size ov cl ∧ NS wr w.heap.size ov N ∧ wr.ownsRow (w.heap.size + 1) 5 1 sv L.length (u8s L) ∧ Gr w wr) (fun _ i _ => n - (intOf i).toNat)
 case atStart => exact ⟨0, [], false, .slice none 0 0, [], by omega, rfl, HR.out, by have := HSZ.out; simp only [List.drop_zero, List.length_nil]; omega, by simp, HB0.out, World.ownsRow_nil _ _ _ _, World.ownsRow_nil _ _ _ _, HA0.out⟩
 case round =>
  obtain ⟨k, N, cl, ov, L, hk, rfl, hwr, hlen, hN, hnb, hns, hown, hgr⟩ := hrel
  have HWR := Lib.hid hwr
  have HLEN := Lib.hid hlen
  have HNB := Lib.hid hnb
  have HNS := Lib.hid hns
  have HO := Lib.hid hown
  have HG := Lib.hid hgr
  have HNL := Lib.hid hN
  obtain ⟨xo, co, rfl⟩ := own_slice hown
  by_cases hlt : k < n
  ·obtain ⟨p, hp⟩ : ∃ p, P[k]? = some p := ⟨_, List.getElem?_eq_getElem (by have := HN.out; omega)⟩
   have hdr : P.drop k = p :: P.drop (k + 1) := by
    rw [List.drop_eq_getElem_cons (by have := HN.out; omega)]
    congr 1
    rw [List.getElem?_eq_getElem (by have := HN.out; omega)] at hp
    simpa using hp
   obtain ⟨b, off, hx, hc0⟩ := HC.out (k * 6 + 0) _ (by rw [cdV_get P k p hp 0 (by decide)]; rfl)
   subst hx
   have hcs : ∀ j u, (inV p.1 p.2).toList[j]? = some u → wr.cell? ⟨b, off + k * 6 + j, none⟩ = some u := fun j u hu => by
    have hj : j < 6 := by have := (List.getElem?_eq_some_iff.1 hu).1; simpa [inV] using this
    obtain ⟨b', off', e1, e2⟩ := HC.out (k * 6 + j) u (by rw [cdV_get P k p hp j hj]; exact hu)
    cases e1
    have := gr_cell hgr e2
    rwa [show off + (k * 6 + j) = off + k * 6 + j by omega] at this
   have hpm := List.mem_of_getElem? hp
   have hlr := lsR_gr (HL.out p hpm) hgr
   have hio := HOK.out p hpm
   obtain ⟨⟨op, a, b2, lo, hi, l⟩, Lv⟩ := p
   obtain ⟨xl, cl_, hLv, hlr2⟩ := hlr
   dsimp only at hLv hlr2 hio
   subst hLv
   have HCS := Lib.hid hcs
   have HLR := Lib.hid (show LsR wr (.slice xl l.length cl_) l from ⟨xl, cl_, rfl, hlr2⟩)
   have HIO := Lib.hid hio
   have HWR2 := Lib.hid (show (if goodB ⟨op, a, b2, lo, hi, l⟩ N cl = true then wrS ((P.drop (k + 1)).map (·.1)) (stepN op (fm op) N cl).2.1 (stepN op (fm op) N cl).2.2 (L ++ opcL op ++ fldL ⟨op, a, b2, lo, hi, l⟩ (fm op)) else none) = R from by rw [← hwr, hdr]; rfl)
   have HLEN2 := Lib.hid (show L.length + 64 * (l.length + 1 + szP ((P.drop (k + 1)).map (·.1))) ≤ 64 * 1048576 from by rw [hdr] at hlen; exact hlen)
   have HOF := Lib.hid (fun wx (hx : Ins.Mx wx) => of_fm op (by have := hio.op; dsimp only at this; omega) wx hx)
   obtain ⟨ln, hln⟩ : ∃ ln, l.length = ln := ⟨_, rfl⟩
   rw [hln] at hlr2
   have HLR := Lib.hid (show LsR wr (.slice xl ln cl_) l from ⟨xl, cl_, by rw [hln], fun j hj => hlr2 j (by rw [hln] at hj; exact hj)⟩)
   have HCS := Lib.hid (show ∀ j u, (#[.int .i64 op, .int .i64 a, .int .i64 b2, .int .u64 lo, .int .u64 hi, .slice xl ln cl_] : Array Value).toList[j]? = some u → wr.cell? ⟨b, off + k * 6 + j, none⟩ = some u from by rw [← hln]; exact hcs)
   have HLN := Lib.hid hln
   have hgood : goodB ⟨op, a, b2, lo, hi, l⟩ N cl = ((fm op != 0) && fitB ⟨op, a, b2, lo, hi, l⟩ (fm op) && !((fm op == 2) && ((N.length : Int) == 128)) && (stepN op (fm op) N cl).1) := rfl
   have HGD := Lib.hid hgood
   have hkn : (k : Int) < (n : Int) := by omega
   clear hwr hlen hnb hns hown hgr hN hdr hc0 hcs hpm hlr2 hio hln hgood
   go_upto_region 6 with (first | (refine wpList_load_cells rfl 38 _ rfl b (off + k * 6) rfl #[.int .i64 op, .int .i64 a, .int .i64 b2, .int .u64 lo, .int .u64 hi, .slice xl ln cl_] _ HCS.out Try.underlying38 rfl infoIn ?_) | (refine wpList_store_row rfl 38 _ _ rfl wr.heap.size #[.int .i64 op, .int .i64 a, .int .i64 b2, .int .u64 lo, .int .u64 hi, .slice xl ln cl_] rfl rfl 38 #[.int .i64 0, .int .i64 0, .int .i64 0, .int .u64 0, .int .u64 0, .slice none 0 0] (heap_alloc_new wr _) infoIn rfl (by kernel_rfl) ?_))
   have hi2 := setRow_block (c := #[.int .i64 op, .int .i64 a, .int .i64 b2, .int .u64 lo, .int .u64 hi, .slice xl ln cl_]) (heap_alloc_new wr (.cells #[.int .i64 0, .int .i64 0, .int .i64 0, .int .u64 0, .int .u64 0, .slice none 0 0] 38))
   have HG2 := Lib.hid (gr_setRow ((Gr.refl wr).alloc #[.int .i64 0, .int .i64 0, .int .i64 0, .int .u64 0, .int .u64 0, .slice none 0 0] 38) (g := wr.heap.size) (Nat.le_refl _) #[.int .i64 op, .int .i64 a, .int .i64 b2, .int .u64 lo, .int .u64 hi, .slice xl ln cl_])
   have HI2 := Lib.hid hi2
   have c0 := (cells6 hi2).1
   clear hi2
   generalize (wr.alloc (.cells #[.int .i64 0, .int .i64 0, .int .i64 0, .int .u64 0, .int .u64 0, .slice none 0 0] 38)).setRow wr.heap.size #[.int .i64 op, .int .i64 a, .int .i64 b2, .int .u64 lo, .int .u64 hi, .slice xl ln cl_] = w2 at *
   go_wp2_with fail
   refine (HOF.out w2 (Ins.mx_gr HM.out (gr_trans HG.out HG2.out))).mono ?_
   rintro e w3 ⟨lm, pl, xi, ni, ci, xq, nq, cq, rfl, hg3⟩
   have HG3 := Lib.hid (gr_trans HG2.out hg3)
   have HI3 := Lib.hid (gr_block hg3 HI2.out)
   clear hg3 c0
   go_upto_region 7 with (refine wpList_store_row rfl 50 _ _ rfl w3.heap.size #[.int .i64 (fm op), .int .i64 lm, .bool pl, .slice xi ni ci, .slice xq nq cq] rfl rfl 50 #[.int .i64 0, .int .i64 0, .bool false, .slice none 0 0, .slice none 0 0] (heap_alloc_new w3 _) infoIf rfl (by kernel_rfl) ?_)
   have hf4 := setRow_block (c := #[.int .i64 (fm op), .int .i64 lm, .bool pl, .slice xi ni ci, .slice xq nq cq]) (heap_alloc_new w3 (.cells #[.int .i64 0, .int .i64 0, .bool false, .slice none 0 0, .slice none 0 0] 50))
   have hg4 : Gr w3 ((w3.alloc (.cells #[.int .i64 0, .int .i64 0, .bool false, .slice none 0 0, .slice none 0 0] 50)).setRow w3.heap.size #[.int .i64 (fm op), .int .i64 lm, .bool pl, .slice xi ni ci, .slice xq nq cq]) := gr_setRow ((Gr.refl w3).alloc _ _) (g := w3.heap.size) (Nat.le_refl _) _
   have hi4 := gr_block hg4 HI3.out
   have HG4 := Lib.hid (gr_trans HG3.out hg4)
   have HI4 := Lib.hid hi4
   have HF4 := Lib.hid hf4
   have c4 := (cells6 hi4).1
   have f4 := (cells5 hf4).1
   have HB4 := Lib.hid (show wr.heap.size ≤ w3.heap.size from HG3.out.size)
   have HB3 := Lib.hid (show wr.heap.size < w3.heap.size from (Array.getElem?_eq_some_iff.1 HI3.out).1)
   clear hf4 hg4 hi4
   generalize (w3.alloc (.cells #[.int .i64 0, .int .i64 0, .bool false, .slice none 0 0, .slice none 0 0] 50)).setRow w3.heap.size #[.int .i64 (fm op), .int .i64 lm, .bool pl, .slice xi ni ci, .slice xq nq cq] = w4 at *
   generalize w3.heap.size = b3 at *
   by_cases hf0 : fm op = 0
   ·have HE := Lib.hid (show R = none from by rw [← HWR2.out, HGD.out, hf0]; rfl)
    have n0 : (fm op != 0) = false := by rw [hf0]; rfl
    have HF0 := Lib.hid hf0
    clear hf0
    go_wp2
    go_ret2
    rw [HE.out]
    exact ⟨rfl, gr_trans HG.out HG4.out⟩
   ·have n0 : (fm op != 0) = true := by simpa using hf0
    obtain ⟨bf, hbf⟩ : ∃ bf, fitB ⟨op, a, b2, lo, hi, l⟩ (fm op) = bf := ⟨_, rfl⟩
    have HFI := Lib.hid (show ∀ wx, Gr wr wx → Calls Try.prog 21 #[.agg #[.int .i64 op, .int .i64 a, .int .i64 b2, .int .u64 lo, .int .u64 hi, .slice xl ln cl_], .int .i64 (fm op)] wx fun e w' => e = .returned (.bool bf) ∧ Gr wx w' from fun wx hgx => hbf ▸ fits_any op a b2 lo hi l xl ln cl_ HLN.out wx (by have := HIO.out.l; dsimp only at this; have := HLN.out; omega) (lsR_gr HLR.out hgx) (fm op))
    have HBF := Lib.hid hbf
    have HF0 := Lib.hid hf0
    clear hbf hf0
    go_wp2_with (refine wpList_load_row_yes (by kernel_rfl) 38 _ rfl wr.heap.size rfl 38 #[.int .i64 op, .int .i64 a, .int .i64 b2, .int .u64 lo, .int .u64 hi, .slice xl ln cl_] (0, 0) _ HI4.out Try.underlying38 rfl infoIn ?_)
    refine (HFI.out w4 HG4.out).mono ?_
    rintro e w5 ⟨rfl, hg5⟩
    have HG5 := Lib.hid (gr_trans HG4.out hg5)
    have HI5 := Lib.hid (gr_block hg5 HI4.out)
    have HF5 := Lib.hid (gr_block hg5 HF4.out)
    clear hg5 c4 f4
    have c5 := (cells6 HI5.out).1
    have f5 := (cells5 HF5.out).1
    have HNB5 := Lib.hid (W.nb_sep (ex := fun _ => False) HNB.out (Sep.of_gr HG5.out) id)
    have HNS5 := Lib.hid (ns_sep (ex := fun _ => False) HNS.out (Sep.of_gr HG5.out) (fun _ _ => id))
    have HO5 := Lib.hid (own_gr HO.out HG5.out)
    cases bf with
    | false =>
     have HE := Lib.hid (show R = none from by rw [← HWR2.out, HGD.out, HBF.out]; simp)
     go_wp2
     go_ret2
     rw [HE.out]
     exact ⟨rfl, gr_trans HG.out HG5.out⟩
    | true =>
     by_cases hfu : fm op = 2 ∧ N.length = 128
     ·have HE := Lib.hid (show R = none from by rw [← HWR2.out, HGD.out, hfu.1, hfu.2]; simp)
      have hff := f5
      rw [hfu.1] at hff
      have HFU := Lib.hid (show Calls Try.prog 22 #[.pointer (some ⟨w.heap.size, 0, none⟩)] w5 fun e w' => e = .returned (.bool true) ∧ w5 = w' from by have := W.full_any HNB5.out HNS5.out; rwa [hfu.2] at this)
      clear hfu f5
      go_wp2_with fail
      refine HFU.out.mono ?_
      rintro e wx ⟨rfl, rfl⟩
      go_wp2
      go_ret2
      rw [HE.out]
      exact ⟨rfl, gr_trans HG.out HG5.out⟩
     ·have HFU := Lib.hid hfu
      obtain ⟨bs, N2, cl2, hst⟩ : ∃ bs N2 cl2, stepN op (fm op) N cl = (bs, N2, cl2) := ⟨_, _, _, rfl⟩
      have HST := Lib.hid hst
      have HSC := Lib.hid (hst ▸ W.step_any HNB5.out HNS5.out op (fm op) (by have := HNL.out; omega) : Calls Try.prog 23 #[.pointer (some ⟨w.heap.size, 0, none⟩), .int .i64 op, .int .i64 (fm op)] w5 (W.STP w5 w.heap.size ov (bs, N2, cl2)))
      have HN2 := Lib.hid (show N2.length ≤ 128 from by have := step_N op (fm op) (cl := cl) (show N.length ≤ 100000 by have := HNL.out; omega) hfu HNL.out; rw [hst] at this; exact this)
      by_cases hf2 : fm op = 2
      ·have HFN := Lib.hid (show Calls Try.prog 22 #[.pointer (some ⟨w.heap.size, 0, none⟩)] w5 fun e w' => e = .returned (.bool false) ∧ w5 = w' from by
        have hne : ((N.length : Int) == 128) = false := by have := fun e => hfu ⟨hf2, e⟩; simp; omega
        exact hne ▸ W.full_any HNB5.out HNS5.out)
       have hff := f5
       rw [hf2] at hff HSC
       have HF2 := Lib.hid hf2
       clear hf2 hfu hst f5
       go_wp2_with fail
       refine HFN.out.mono ?_
       rintro e wx ⟨rfl, rfl⟩
       go_wp2_with fail
       refine HSC.out.mono ?_
       rintro e w6 ⟨ov', rfl, h1, h2, h3, h4⟩
       have hex : ∀ q, wr.heap.size ≤ q → ¬ Two w.heap.size ov q := fun q hq e => by
        have e' : q = w.heap.size ∨ ov.ownBlock = some q := e
        rcases e' with e' | e'
        ·have := W.nb_lt HNB.out; omega
        ·have := HNS.out.lt q e'; omega
       have HNB6 := Lib.hid h1
       have HNS6 := Lib.hid h2
       have HG6 := Lib.hid (show Gr w w6 from Sep.toGr (gr_trans HG.out HG5.out) h4 (fun q hq => by
        have e' : q = w.heap.size ∨ ov.ownBlock = some q := hq
        rcases e' with e' | e'
        ·omega
        ·have := HNS.out.lt q e'; omega))
       have HI6 := Lib.hid (h4.at_ (hex _ (Nat.le_refl _)) HI5.out)
       have HF6 := Lib.hid (h4.at_ (hex _ HB4.out) HF5.out)
       have HO6 := Lib.hid (h4.owns HO5.out (fun q hq e => by
        have e' : q = w.heap.size ∨ ov.ownBlock = some q := e
        rcases e' with e' | e'
        ·have := HO5.out.lt q hq; omega
        ·exact own_apart HO5.out HNS5.out (by decide) q hq e'))
       clear h1 h2 h3 h4 hex c5 hff
       have c6 := (cells6 HI6.out).1
       have f6 := (cells5 HF6.out).1
       cases bs with
       | false =>
        have HE := Lib.hid (show R = none from by rw [← HWR2.out, HGD.out, HST.out]; simp)
        go_wp2
        go_ret2
        rw [HE.out]
        exact ⟨rfl, HG6.out⟩
       | true =>
        have HE := Lib.hid (show wrS ((P.drop (k + 1)).map (·.1)) N2 cl2 (L ++ opcL op ++ fldL ⟨op, a, b2, lo, hi, l⟩ (fm op)) = R from by
         have hgt : goodB ⟨op, a, b2, lo, hi, l⟩ N cl = true := by
          rw [HGD.out, HBF.out, HST.out]
          have h1 : (fm op != 0) = true := by simpa using HF0.out
          have h2 : ((fm op == 2) && ((N.length : Int) == 128)) = false := by
           have := HFU.out
           cases h9 : ((fm op == 2) && ((N.length : Int) == 128)) with
           | false => rfl
           | true =>
            simp only [Bool.and_eq_true, beq_iff_eq] at h9
            exact absurd ⟨h9.1, by omega⟩ this
          rw [h1, h2]; rfl
         rw [← HWR2.out, hgt, HST.out]; rfl)
        have HOP := Lib.hid (fun wx => opcode_w op (by have := HIO.out.op; dsimp only at this; omega) wx)
        have HFW := Lib.hid (fun wx (hgx : Gr w wx) => fldw_any op a b2 lo hi l xl ln cl_ wx HIO.out HLN.out (by
         have := lsR_gr (HL.out ⟨⟨op, a, b2, lo, hi, l⟩, .slice xl l.length cl_⟩ (List.mem_of_getElem? hp)) hgx
         rw [HLN.out] at this
         exact this) (fm op) HBF.out)
        have HLB := Lib.hid (show (opcL op).length ≤ 11 ∧ (fldL ⟨op, a, b2, lo, hi, l⟩ (fm op)).length ≤ 50 + 10 * ln from ⟨opcL_len op, by have := fldL_len ⟨op, a, b2, lo, hi, l⟩ (fm op); rw [← HLN.out]; exact this⟩)
        generalize hq1 : opcL op = O1 at *
        generalize hq2 : fldL ⟨op, a, b2, lo, hi, l⟩ (fm op) = O2 at *
        obtain ⟨m1, hm1⟩ : ∃ m1, O1.length = m1 := ⟨_, rfl⟩
        obtain ⟨m2, hm2⟩ : ∃ m2, O2.length = m2 := ⟨_, rfl⟩
        have HMM := Lib.hid (And.intro trivial (And.intro hm1 hm2))
        have HSZ2 := Lib.hid (show L.length + 64 * (ln + 1 + szP ((P.drop (k + 1)).map (·.1))) ≤ 64 * 1048576 ∧ m1 ≤ 11 ∧ m2 ≤ 50 + 10 * ln from ⟨by rw [← HLN.out]; exact HLEN2.out, hm1 ▸ HLB.out.1, hm2 ▸ HLB.out.2⟩)
        clear hm1 hm2 hq1 hq2 HLB
        go_wp2_with fail
        refine (HOP.out w6).mono ?_
        rintro e w7 ⟨sv7, rfl, hg7, ho7⟩
        rw [HMM.out.2.1] at ho7
        obtain ⟨x7, c7, rfl⟩ := own_slice ho7
        have HO7 := Lib.hid ho7
        have HG7 := Lib.hid hg7
        have HL7 := Lib.hid (own_gr HO6.out hg7)
        have hlo : ∀ q, (Value.slice xo L.length co).ownBlock = some q → w.heap.size + 1 ≤ q ∧ q < wr.heap.size := fun q hq => by
         exact HO.out.lt q hq
        have HLO := Lib.hid hlo
        clear hg7 ho7 hlo c6 f6
        go_wp2_with (at_builtin; refine wpList_append_at rfl _ _ 22 rfl (w.heap.size + 1) 5 i0 (.int .u8 0) 1 1 Try.underlying22 HI.out HZ0.out HZ1.out HZ2.out rfl (by decide) (.slice xo L.length co) L.length (u8s L) rfl HL7.out (.slice x7 m1 c7) m1 (u8s O1) rfl (src_own HO7.out) (by rw [_root_.Go.Proofs.Ytebkabidojipoaa.u8s_len, Nat.mul_one]; exact HMM.out.2.1) (u8s_one _) ?c3 ?c4 ?c5 ?_)
        case c3 => have := HSZ2.out; unfold maxLen; omega
        case c4 => have := HSZ2.out; omega
        case c5 => have := W.nb_lt HNB6.out; have := HG7.out.size; omega
        intro v8 w8 hown8 hgb8 hblk8
        have hs8 : Sep (fun q => (Value.slice xo L.length co).ownBlock = some q) w7 w8 := Sep.grown hgb8 fun q hq => hq
        have HS8 := Lib.hid hs8
        have HNB8 := Lib.hid (W.nb_sep (W.nb_sep (ex := fun _ => False) HNB6.out (Sep.of_gr HG7.out) id) hs8 (fun e => by have := HLO.out _ e; omega))
        have HNS7 := ns_sep (ex := fun _ => False) HNS6.out (Sep.of_gr HG7.out) (fun _ _ => id)
        have HNS8 := Lib.hid (ns_sep HNS7 hs8 (fun q hq e => own_apart HL7.out HNS7 (by decide) q e hq))
        have HI8 := Lib.hid (hs8.at_ (fun e => by have := HLO.out _ e; omega) (gr_block HG7.out HI6.out))
        have HF8 := Lib.hid (hs8.at_ (fun e => by have := HLO.out _ e; have := HB4.out; omega) (gr_block HG7.out HF6.out))
        have HG8 := Lib.hid (show Gr w w8 from Sep.toGr (gr_trans HG6.out HG7.out) hs8 (fun q hq => by have := HLO.out q hq; omega))
        have h8 : w8.ownsRow (w.heap.size + 1) 5 1 v8 (L.length + m1) (u8s (L ++ O1)) := by rw [u8s_app]; exact hown8
        obtain ⟨x8, c8, rfl⟩ := own_slice h8
        have HO8 := Lib.hid h8
        have f8 := (cells5 HF8.out).1
        clear hs8 HNS7 h8 hown8 hgb8 hblk8
        go_wp2_with (refine wpList_load_row rfl 38 _ rfl wr.heap.size rfl 38 #[.int .i64 op, .int .i64 a, .int .i64 b2, .int .u64 lo, .int .u64 hi, .slice xl ln cl_] (0, 0) _ HI8.out Try.underlying38 rfl infoIn ?_)
        refine (HFW.out w8 HG8.out).mono ?_
        rintro e w9 ⟨x9, c9, rfl, hg9, hs9⟩
        have HG9 := Lib.hid hg9
        have HS9 := Lib.hid hs9
        have HL9 := Lib.hid (own_gr HO8.out hg9)
        have HSL9 := Lib.hid (show O2.length = m2 from HMM.out.2.2)
        clear hg9 hs9 f8
        go_wp2_with (at_builtin; refine wpList_append_at rfl _ _ 22 rfl (w.heap.size + 1) 5 i0 (.int .u8 0) 1 1 Try.underlying22 HI.out HZ0.out HZ1.out HZ2.out rfl (by decide) (.slice x8 (L.length + m1) c8) (L.length + m1) (u8s (L ++ O1)) rfl HL9.out (.slice x9 O2.length c9) O2.length (u8s O2) rfl HS9.out (by rw [_root_.Go.Proofs.Ytebkabidojipoaa.u8s_len, Nat.mul_one]) (u8s_one _) ?c3 ?c4 ?c5 ?_)
        case c3 => have := HSZ2.out; have := HSL9.out; unfold maxLen; omega
        case c4 => have := HSZ2.out; have := HSL9.out; omega
        case c5 => have := W.nb_lt HNB8.out; have := HG9.out.size; omega
        intro vA wA hownA hgbA hblkA
        have hsA : Sep (fun q => (Value.slice x8 (L.length + m1) c8).ownBlock = some q) w9 wA := Sep.grown hgbA fun q hq => hq
        have hl8 : ∀ q, (Value.slice x8 (L.length + m1) c8).ownBlock = some q → w.heap.size + 1 ≤ q := fun q hq => (HL9.out.lt q hq).1
        have hnb9 := W.nb_sep (ex := fun _ => False) HNB8.out (Sep.of_gr HG9.out) id
        have hns9 := ns_sep (ex := fun _ => False) HNS8.out (Sep.of_gr HG9.out) (fun _ _ => id)
        have HNBA := Lib.hid (W.nb_sep hnb9 hsA (fun e => by have := hl8 _ e; omega))
        have HNSA := Lib.hid (ns_sep hns9 hsA (fun q hq e => own_apart HL9.out hns9 (by decide) q e hq))
        have HGA := Lib.hid (show Gr w wA from Sep.toGr (gr_trans HG8.out HG9.out) hsA (fun q hq => by have := hl8 q hq; omega))
        have HOA := Lib.hid (show wA.ownsRow (w.heap.size + 1) 5 1 vA (L ++ O1 ++ O2).length (u8s (L ++ O1 ++ O2)) from by
         rw [u8s_app, List.length_append, List.length_append, HMM.out.2.1]; exact hownA)
        have HLA := Lib.hid (show (L ++ O1 ++ O2).length + 64 * szP ((P.drop (k + 1)).map (·.1)) ≤ 64 * 1048576 from by
         rw [List.length_append, List.length_append, HMM.out.2.1, HMM.out.2.2]; have := HSZ2.out; omega)
        have TK : IntKind.i64.wrap ((k : Int) + 1) = (k : Int) + 1 := by have := HNs.out; rw [IntKind.wrap_i64]; omega
        clear hsA hl8 hnb9 hns9 hownA hgbA hblkA
        go_wp2
        exact ⟨⟨k + 1, N2, cl2, ov', L ++ O1 ++ O2, by omega, by first | rfl | go_num, HE.out, HLA.out, HN2.out, HNBA.out, HNSA.out, HOA.out, HGA.out⟩, by simp [intOf]; omega⟩
      ·have n2 : (fm op == 2) = false := by simpa using hf2
       clear hf2 hfu hst
       go_wp2_with fail
       refine HSC.out.mono ?_
       rintro e w6 ⟨ov', rfl, h1, h2, h3, h4⟩
       have hex : ∀ q, wr.heap.size ≤ q → ¬ Two w.heap.size ov q := fun q hq e => by
        have e' : q = w.heap.size ∨ ov.ownBlock = some q := e
        rcases e' with e' | e'
        ·have := W.nb_lt HNB.out; omega
        ·have := HNS.out.lt q e'; omega
       have HNB6 := Lib.hid h1
       have HNS6 := Lib.hid h2
       have HG6 := Lib.hid (show Gr w w6 from Sep.toGr (gr_trans HG.out HG5.out) h4 (fun q hq => by
        have e' : q = w.heap.size ∨ ov.ownBlock = some q := hq
        rcases e' with e' | e'
        ·omega
        ·have := HNS.out.lt q e'; omega))
       have HI6 := Lib.hid (h4.at_ (hex _ (Nat.le_refl _)) HI5.out)
       have HF6 := Lib.hid (h4.at_ (hex _ HB4.out) HF5.out)
       have HO6 := Lib.hid (h4.owns HO5.out (fun q hq e => by
        have e' : q = w.heap.size ∨ ov.ownBlock = some q := e
        rcases e' with e' | e'
        ·have := HO5.out.lt q hq; omega
        ·exact own_apart HO5.out HNS5.out (by decide) q hq e'))
       clear h1 h2 h3 h4 hex c5 f5
       have c6 := (cells6 HI6.out).1
       have f6 := (cells5 HF6.out).1
       cases bs with
       | false =>
        have HE := Lib.hid (show R = none from by rw [← HWR2.out, HGD.out, HST.out]; simp)
        go_wp2
        go_ret2
        rw [HE.out]
        exact ⟨rfl, HG6.out⟩
       | true =>
        have HE := Lib.hid (show wrS ((P.drop (k + 1)).map (·.1)) N2 cl2 (L ++ opcL op ++ fldL ⟨op, a, b2, lo, hi, l⟩ (fm op)) = R from by
         have hgt : goodB ⟨op, a, b2, lo, hi, l⟩ N cl = true := by
          rw [HGD.out, HBF.out, HST.out]
          have h1 : (fm op != 0) = true := by simpa using HF0.out
          have h2 : ((fm op == 2) && ((N.length : Int) == 128)) = false := by
           have := HFU.out
           cases h9 : ((fm op == 2) && ((N.length : Int) == 128)) with
           | false => rfl
           | true =>
            simp only [Bool.and_eq_true, beq_iff_eq] at h9
            exact absurd ⟨h9.1, by omega⟩ this
          rw [h1, h2]; rfl
         rw [← HWR2.out, hgt, HST.out]; rfl)
        have HOP := Lib.hid (fun wx => opcode_w op (by have := HIO.out.op; dsimp only at this; omega) wx)
        have HFW := Lib.hid (fun wx (hgx : Gr w wx) => fldw_any op a b2 lo hi l xl ln cl_ wx HIO.out HLN.out (by
         have := lsR_gr (HL.out ⟨⟨op, a, b2, lo, hi, l⟩, .slice xl l.length cl_⟩ (List.mem_of_getElem? hp)) hgx
         rw [HLN.out] at this
         exact this) (fm op) HBF.out)
        have HLB := Lib.hid (show (opcL op).length ≤ 11 ∧ (fldL ⟨op, a, b2, lo, hi, l⟩ (fm op)).length ≤ 50 + 10 * ln from ⟨opcL_len op, by have := fldL_len ⟨op, a, b2, lo, hi, l⟩ (fm op); rw [← HLN.out]; exact this⟩)
        generalize hq1 : opcL op = O1 at *
        generalize hq2 : fldL ⟨op, a, b2, lo, hi, l⟩ (fm op) = O2 at *
        obtain ⟨m1, hm1⟩ : ∃ m1, O1.length = m1 := ⟨_, rfl⟩
        obtain ⟨m2, hm2⟩ : ∃ m2, O2.length = m2 := ⟨_, rfl⟩
        have HMM := Lib.hid (And.intro trivial (And.intro hm1 hm2))
        have HSZ2 := Lib.hid (show L.length + 64 * (ln + 1 + szP ((P.drop (k + 1)).map (·.1))) ≤ 64 * 1048576 ∧ m1 ≤ 11 ∧ m2 ≤ 50 + 10 * ln from ⟨by rw [← HLN.out]; exact HLEN2.out, hm1 ▸ HLB.out.1, hm2 ▸ HLB.out.2⟩)
        clear hm1 hm2 hq1 hq2 HLB
        go_wp2_with fail
        refine (HOP.out w6).mono ?_
        rintro e w7 ⟨sv7, rfl, hg7, ho7⟩
        rw [HMM.out.2.1] at ho7
        obtain ⟨x7, c7, rfl⟩ := own_slice ho7
        have HO7 := Lib.hid ho7
        have HG7 := Lib.hid hg7
        have HL7 := Lib.hid (own_gr HO6.out hg7)
        have hlo : ∀ q, (Value.slice xo L.length co).ownBlock = some q → w.heap.size + 1 ≤ q ∧ q < wr.heap.size := fun q hq => by
         exact HO.out.lt q hq
        have HLO := Lib.hid hlo
        clear hg7 ho7 hlo c6 f6
        go_wp2_with (at_builtin; refine wpList_append_at rfl _ _ 22 rfl (w.heap.size + 1) 5 i0 (.int .u8 0) 1 1 Try.underlying22 HI.out HZ0.out HZ1.out HZ2.out rfl (by decide) (.slice xo L.length co) L.length (u8s L) rfl HL7.out (.slice x7 m1 c7) m1 (u8s O1) rfl (src_own HO7.out) (by rw [_root_.Go.Proofs.Ytebkabidojipoaa.u8s_len, Nat.mul_one]; exact HMM.out.2.1) (u8s_one _) ?c3 ?c4 ?c5 ?_)
        case c3 => have := HSZ2.out; unfold maxLen; omega
        case c4 => have := HSZ2.out; omega
        case c5 => have := W.nb_lt HNB6.out; have := HG7.out.size; omega
        intro v8 w8 hown8 hgb8 hblk8
        have hs8 : Sep (fun q => (Value.slice xo L.length co).ownBlock = some q) w7 w8 := Sep.grown hgb8 fun q hq => hq
        have HS8 := Lib.hid hs8
        have HNB8 := Lib.hid (W.nb_sep (W.nb_sep (ex := fun _ => False) HNB6.out (Sep.of_gr HG7.out) id) hs8 (fun e => by have := HLO.out _ e; omega))
        have HNS7 := ns_sep (ex := fun _ => False) HNS6.out (Sep.of_gr HG7.out) (fun _ _ => id)
        have HNS8 := Lib.hid (ns_sep HNS7 hs8 (fun q hq e => own_apart HL7.out HNS7 (by decide) q e hq))
        have HI8 := Lib.hid (hs8.at_ (fun e => by have := HLO.out _ e; omega) (gr_block HG7.out HI6.out))
        have HF8 := Lib.hid (hs8.at_ (fun e => by have := HLO.out _ e; have := HB4.out; omega) (gr_block HG7.out HF6.out))
        have HG8 := Lib.hid (show Gr w w8 from Sep.toGr (gr_trans HG6.out HG7.out) hs8 (fun q hq => by have := HLO.out q hq; omega))
        have h8 : w8.ownsRow (w.heap.size + 1) 5 1 v8 (L.length + m1) (u8s (L ++ O1)) := by rw [u8s_app]; exact hown8
        obtain ⟨x8, c8, rfl⟩ := own_slice h8
        have HO8 := Lib.hid h8
        have f8 := (cells5 HF8.out).1
        clear hs8 HNS7 h8 hown8 hgb8 hblk8
        go_wp2_with (refine wpList_load_row rfl 38 _ rfl wr.heap.size rfl 38 #[.int .i64 op, .int .i64 a, .int .i64 b2, .int .u64 lo, .int .u64 hi, .slice xl ln cl_] (0, 0) _ HI8.out Try.underlying38 rfl infoIn ?_)
        refine (HFW.out w8 HG8.out).mono ?_
        rintro e w9 ⟨x9, c9, rfl, hg9, hs9⟩
        have HG9 := Lib.hid hg9
        have HS9 := Lib.hid hs9
        have HL9 := Lib.hid (own_gr HO8.out hg9)
        have HSL9 := Lib.hid (show O2.length = m2 from HMM.out.2.2)
        clear hg9 hs9 f8
        go_wp2_with (at_builtin; refine wpList_append_at rfl _ _ 22 rfl (w.heap.size + 1) 5 i0 (.int .u8 0) 1 1 Try.underlying22 HI.out HZ0.out HZ1.out HZ2.out rfl (by decide) (.slice x8 (L.length + m1) c8) (L.length + m1) (u8s (L ++ O1)) rfl HL9.out (.slice x9 O2.length c9) O2.length (u8s O2) rfl HS9.out (by rw [_root_.Go.Proofs.Ytebkabidojipoaa.u8s_len, Nat.mul_one]) (u8s_one _) ?c3 ?c4 ?c5 ?_)
        case c3 => have := HSZ2.out; have := HSL9.out; unfold maxLen; omega
        case c4 => have := HSZ2.out; have := HSL9.out; omega
        case c5 => have := W.nb_lt HNB8.out; have := HG9.out.size; omega
        intro vA wA hownA hgbA hblkA
        have hsA : Sep (fun q => (Value.slice x8 (L.length + m1) c8).ownBlock = some q) w9 wA := Sep.grown hgbA fun q hq => hq
        have hl8 : ∀ q, (Value.slice x8 (L.length + m1) c8).ownBlock = some q → w.heap.size + 1 ≤ q := fun q hq => (HL9.out.lt q hq).1
        have hnb9 := W.nb_sep (ex := fun _ => False) HNB8.out (Sep.of_gr HG9.out) id
        have hns9 := ns_sep (ex := fun _ => False) HNS8.out (Sep.of_gr HG9.out) (fun _ _ => id)
        have HNBA := Lib.hid (W.nb_sep hnb9 hsA (fun e => by have := hl8 _ e; omega))
        have HNSA := Lib.hid (ns_sep hns9 hsA (fun q hq e => own_apart HL9.out hns9 (by decide) q e hq))
        have HGA := Lib.hid (show Gr w wA from Sep.toGr (gr_trans HG8.out HG9.out) hsA (fun q hq => by have := hl8 q hq; omega))
        have HOA := Lib.hid (show wA.ownsRow (w.heap.size + 1) 5 1 vA (L ++ O1 ++ O2).length (u8s (L ++ O1 ++ O2)) from by
         rw [u8s_app, List.length_append, List.length_append, HMM.out.2.1]; exact hownA)
        have HLA := Lib.hid (show (L ++ O1 ++ O2).length + 64 * szP ((P.drop (k + 1)).map (·.1)) ≤ 64 * 1048576 from by
         rw [List.length_append, List.length_append, HMM.out.2.1, HMM.out.2.2]; have := HSZ2.out; omega)
        have TK : IntKind.i64.wrap ((k : Int) + 1) = (k : Int) + 1 := by have := HNs.out; rw [IntKind.wrap_i64]; omega
        clear hsA hl8 hnb9 hns9 hownA hgbA hblkA
        go_wp2
        exact ⟨⟨k + 1, N2, cl2, ov', L ++ O1 ++ O2, by omega, by first | rfl | go_num, HE.out, HLA.out, HN2.out, HNBA.out, HNSA.out, HOA.out, HGA.out⟩, by simp [intOf]; omega⟩
  ·obtain rfl : k = n := by omega
   have hd0 : P.drop k = [] := List.drop_eq_nil_of_le (by have := HN.out; omega)
   obtain ⟨n0, n1⟩ := W.cells2n hnb
   cases cl with
   | true =>
    have HE := Lib.hid (show R = some L from by rw [← hwr, hd0]; rfl)
    clear hwr hlen hnb hns hown hgr hd0 hlt hN
    go_wp2
    go_ret2
    rw [HE.out]
    exact ⟨_, rfl, HG.out, own_base HO.out (Nat.le_succ _)⟩
   | false =>
    have HE := Lib.hid (show R = none from by rw [← hwr, hd0]; rfl)
    clear hwr hlen hnb hns hown hgr hd0 hlt hN
    go_wp2
    go_ret2
    rw [HE.out]
    exact ⟨rfl, HG.out⟩
end Ex
end Go.Proofs.Ytebkabidojipoaa
