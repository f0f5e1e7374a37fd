/-
  Joined: SpCa, SpCb, SpCc, SpBa, SpBb, SpBc, SpBd.
-/
import Derived.Test.YthpnhanabcipmaaSpSo
import Derived.Test.YthpnhanabcipmaaSteady
namespace Go.Proofs.Ythpnhanabcipmaa
open Go.RowKit VecM
namespace Sp
/-- are these types the same? -/
def sdE (s t : Sd) : Bool := eqD s.z s.n t.z t.n && eqD s.z' s.n' t.z' t.n'
set_option maxHeartbeats 1000000 in
theorem same_sig2 (s t : Sd) (w : World) (hs : s.Ok w) (ht : t.Ok w) : Calls Try.prog 18 #[.agg (sgV s.i s.o), .agg (sgV t.i t.o)] w fun e w' => e = .returned (.bool (sdE s t)) ∧ Gr w w' := by
  have H1 := Lib.hid (fun w1 (h : Gr w w1) => same_any2 _ _ s.n t.n s.z t.z w1 (by have := hs.li; omega) (i64s_gr hs.i h) (i64s_gr ht.i h))
  have H2 := Lib.hid (fun w1 (h : Gr w w1) => same_any2 _ _ s.n' t.n' s.z' t.z' w1 (by have := hs.lo; omega) (i64s_gr hs.o h) (i64s_gr ht.o h))
  clear hs ht
  have HD := Lib.hid (show sdE s t = (eqD s.z s.n t.z t.n && eqD s.z' s.n' t.z' t.n') from rfl)
  generalize sdE s t = r at *
  generalize eqD s.z s.n t.z t.n = r1 at *
  generalize eqD s.z' s.n' t.z' t.n' = r2 at *
  unfold sgV
  unfold Sd.i Sd.o at *
  go_enter Try.func18, Try.ntmps18
  go_wp2_with fail
  refine (H1.out _ (((Gr.refl w).alloc _ _).alloc _ _)).mono ?_
  rintro e w1 ⟨rfl, hg1⟩
  obtain ⟨_, a1⟩ := cells2 (gr_block hg1 (heap_alloc2_old w _ _))
  obtain ⟨_, b1⟩ := cells2 (gr_block hg1 (heap_alloc2_new w _ _))
  have HG1 := Lib.hid (gr_trans (((Gr.refl w).alloc _ _).alloc _ _) hg1)
  clear hg1
  cases r1 with
  | false =>
    go_wp2
    go_ret
    exact ⟨by rw [HD.out]; rfl, HG1.out⟩
  | true =>
    go_wp2_with fail
    refine (H2.out _ HG1.out).mono ?_
    rintro e w2 ⟨rfl, hg2⟩
    have HG2 := Lib.hid (gr_trans HG1.out hg2)
    clear hg2 a1 b1
    go_wp2
    go_ret
    exact ⟨by rw [HD.out]; rfl, HG2.out⟩
set_option maxHeartbeats 2000000 in
theorem look_any (s t : Sd) (gm gk b off cap N k : Nat) (w : World) (hs : s.Ok w) (ht : t.Ok w) (hk : k < N) (hm : w.cell? ⟨gm, 0, none⟩ = some (.slice (some ⟨b, off, none⟩) N cap)) (hkk : w.cell? ⟨gk, 0, none⟩ = some (.int .i64 k))
    (h1 : w.cell? ⟨b, off + k * 2, none⟩ = some t.i) (h2 : w.cell? ⟨b, off + k * 2 + 1, none⟩ = some t.o) :
    Calls Try.prog 32 #[.agg (sgV s.i s.o), .pointer (some ⟨gm, 0, none⟩), .pointer (some ⟨gk, 0, none⟩)] w fun e w' => e = .returned (.bool (sdE s t)) ∧ Gr w w' := by
  have H1 := Lib.hid (fun w1 (h : Gr w w1) => equal_any _ _ s.n t.n s.z t.z w1 (by have := hs.li; omega) (i64s_gr hs.i h) (i64s_gr ht.i h))
  have H2 := Lib.hid (fun w1 (h : Gr w w1) => equal_any _ _ s.n' t.n' s.z' t.z' w1 (by have := hs.lo; omega) (i64s_gr hs.o h) (i64s_gr ht.o h))
  clear hs ht
  have HD := Lib.hid (show sdE s t = (eqD s.z s.n t.z t.n && eqD s.z' s.n' t.z' t.n') from rfl)
  generalize sdE s t = r at *
  generalize eqD s.z s.n t.z t.n = r1 at *
  generalize eqD s.z' s.n' t.z' t.n' = r2 at *
  unfold sgV
  unfold Sd.i Sd.o at *
  have HG0 := Lib.hid (show Gr w (w.alloc (.cells #[.slice s.x s.n s.c, .slice s.x' s.n' s.c'] 25)) from (Gr.refl w).alloc _ _)
  obtain ⟨f0, f1⟩ := cells2 (heap_alloc_new w (.cells #[.slice s.x s.n s.c, .slice s.x' s.n' s.c'] 25))
  have fm := gr_cell HG0.out hm
  have fk := gr_cell HG0.out hkk
  have g1 := gr_cell HG0.out h1
  have g2 := gr_cell HG0.out h2
  clear hm hkk h1 h2
  have T1 : (k : Int) < (N : Int) := by omega
  cases r1 with
  | false =>
    go_enter Try.func32, Try.ntmps32
    go_upto_region 1 with (fail)
    refine wp_region_steady (by kernel_rfl) (by kernel_rfl) ?_
    refine steady_step (fun K hK => ?_); apply steady_op rfl; (focus (intro wx hw; go_simp; exact ⟨rfl, hw⟩)); go_simp; refine hK _ ?_; clear hK K
    refine steady_step (fun K hK => ?_); apply steady_op rfl; (focus (intro wx hw; have hcx := gr_cell (gr_trans (Gr.drew (Gr.refl _)) hw) f0; go_simp; exact ⟨rfl, hw⟩)); go_simp; refine hK _ ?_; clear hK K
    refine steady_step (fun K hK => ?_); apply steady_op rfl; (focus (intro wx hw; go_simp; exact ⟨rfl, hw⟩)); go_simp; refine hK _ ?_; clear hK K
    refine steady_step (fun K hK => ?_); apply steady_op rfl; (focus (intro wx hw; have hcx := gr_cell (gr_trans (Gr.drew (Gr.refl _)) hw) fm; go_simp; exact ⟨rfl, hw⟩)); go_simp; refine hK _ ?_; clear hK K
    refine steady_step (fun K hK => ?_); apply steady_op rfl; (focus (intro wx hw; have hcx := gr_cell (gr_trans (Gr.drew (Gr.refl _)) hw) fk; go_simp; exact ⟨rfl, hw⟩)); go_simp; refine hK _ ?_; clear hK K
    refine steady_step (fun K hK => ?_); apply steady_op rfl; (focus (intro wx hw; go_simp; exact ⟨rfl, hw⟩)); go_simp; refine hK _ ?_; clear hK K
    refine steady_step (fun K hK => ?_); apply steady_op rfl; (focus (intro wx hw; go_simp; exact ⟨rfl, hw⟩)); go_simp; refine hK _ ?_; clear hK K
    refine steady_step (fun K hK => ?_); apply steady_op rfl; (focus (intro wx hw; have hcx := gr_cell (gr_trans (Gr.drew (Gr.refl _)) hw) g1; go_simp; exact ⟨rfl, hw⟩)); go_simp; refine hK _ ?_; clear hK K
    refine steady_step (fun K hK => ?_)
    apply steady_op rfl
    · intro wx hw; go_simp; exact (H1.out wx (gr_trans HG0.out (gr_trans (Gr.drew (Gr.refl _)) hw))).mono fun e w3 h => ⟨h.1, gr_trans hw h.2⟩
    go_simp; refine hK _ ?_; clear hK K
    refine steady_step (fun K hK => ?_); apply steady_op rfl; (focus (intro wx hw; go_simp; exact ⟨rfl, hw⟩)); go_simp; refine hK _ ?_; clear hK K
    refine steady_step (fun K hK => ?_); refine steady_no (by kernel_rfl) ?_; go_simp; refine hK _ ?_; clear hK K
    refine steady_step (fun K hK => ?_); refine steady_no (by kernel_rfl) ?_; go_simp; refine hK _ ?_; clear hK K
    refine steady_step (fun K hK => ?_); refine steady_no (by kernel_rfl) ?_; go_simp; refine hK _ ?_; clear hK K
    refine steady_step (fun K hK => ?_); refine steady_no (by kernel_rfl) ?_; go_simp; refine hK _ ?_; clear hK K
    refine steady_step (fun K hK => ?_); refine steady_no (by kernel_rfl) ?_; go_simp; refine hK _ ?_; clear hK K
    refine steady_step (fun K hK => ?_); refine steady_no (by kernel_rfl) ?_; go_simp; refine hK _ ?_; clear hK K
    refine steady_step (fun K hK => ?_); refine steady_no (by kernel_rfl) ?_; go_simp; refine hK _ ?_; clear hK K
    refine steady_step (fun K hK => ?_); refine steady_no (by kernel_rfl) ?_; go_simp; refine hK _ ?_; clear hK K
    refine steady_step (fun K hK => ?_); refine steady_no (by kernel_rfl) ?_; go_simp; refine hK _ ?_; clear hK K
    refine steady_step (fun K hK => ?_); apply steady_op rfl; (focus (intro wx hw; go_simp; exact ⟨rfl, hw⟩)); go_simp; refine hK _ ?_; clear hK K
    refine steady_step (fun K hK => ?_); apply steady_op rfl; (focus (intro wx hw; go_simp; exact ⟨rfl, hw⟩)); go_simp; refine hK _ ?_; clear hK K
    refine steady_nil ?_
    intro wz hgz
    have HGz := Lib.hid (gr_trans HG0.out (gr_trans (Gr.drew (Gr.refl _)) hgz))
    clear hgz
    go_wp2
    go_ret
    exact ⟨by rw [HD.out]; rfl, HGz.out⟩
  | true =>
    go_enter Try.func32, Try.ntmps32
    go_upto_region 1 with (fail)
    refine wp_region_steady (by kernel_rfl) (by kernel_rfl) ?_
    refine steady_step (fun K hK => ?_); apply steady_op rfl; (focus (intro wx hw; go_simp; exact ⟨rfl, hw⟩)); go_simp; refine hK _ ?_; clear hK K
    refine steady_step (fun K hK => ?_); apply steady_op rfl; (focus (intro wx hw; have hcx := gr_cell (gr_trans (Gr.drew (Gr.refl _)) hw) f0; go_simp; exact ⟨rfl, hw⟩)); go_simp; refine hK _ ?_; clear hK K
    refine steady_step (fun K hK => ?_); apply steady_op rfl; (focus (intro wx hw; go_simp; exact ⟨rfl, hw⟩)); go_simp; refine hK _ ?_; clear hK K
    refine steady_step (fun K hK => ?_); apply steady_op rfl; (focus (intro wx hw; have hcx := gr_cell (gr_trans (Gr.drew (Gr.refl _)) hw) fm; go_simp; exact ⟨rfl, hw⟩)); go_simp; refine hK _ ?_; clear hK K
    refine steady_step (fun K hK => ?_); apply steady_op rfl; (focus (intro wx hw; have hcx := gr_cell (gr_trans (Gr.drew (Gr.refl _)) hw) fk; go_simp; exact ⟨rfl, hw⟩)); go_simp; refine hK _ ?_; clear hK K
    refine steady_step (fun K hK => ?_); apply steady_op rfl; (focus (intro wx hw; go_simp; exact ⟨rfl, hw⟩)); go_simp; refine hK _ ?_; clear hK K
    refine steady_step (fun K hK => ?_); apply steady_op rfl; (focus (intro wx hw; go_simp; exact ⟨rfl, hw⟩)); go_simp; refine hK _ ?_; clear hK K
    refine steady_step (fun K hK => ?_); apply steady_op rfl; (focus (intro wx hw; have hcx := gr_cell (gr_trans (Gr.drew (Gr.refl _)) hw) g1; go_simp; exact ⟨rfl, hw⟩)); go_simp; refine hK _ ?_; clear hK K
    refine steady_step (fun K hK => ?_)
    apply steady_op rfl
    · intro wx hw; go_simp; exact (H1.out wx (gr_trans HG0.out (gr_trans (Gr.drew (Gr.refl _)) hw))).mono fun e w3 h => ⟨h.1, gr_trans hw h.2⟩
    go_simp; refine hK _ ?_; clear hK K
    refine steady_step (fun K hK => ?_); apply steady_op rfl; (focus (intro wx hw; go_simp; exact ⟨rfl, hw⟩)); go_simp; refine hK _ ?_; clear hK K
    refine steady_step (fun K hK => ?_); apply steady_yes (by kernel_rfl); (focus (intro wx hw; go_simp; exact ⟨rfl, hw⟩)); go_simp; refine hK _ ?_; clear hK K
    refine steady_step (fun K hK => ?_); apply steady_yes (by kernel_rfl); (focus (intro wx hw; have hcx := gr_cell (gr_trans (Gr.drew (Gr.refl _)) hw) f1; go_simp; exact ⟨rfl, hw⟩)); go_simp; refine hK _ ?_; clear hK K
    refine steady_step (fun K hK => ?_); apply steady_yes (by kernel_rfl); (focus (intro wx hw; go_simp; exact ⟨rfl, hw⟩)); go_simp; refine hK _ ?_; clear hK K
    refine steady_step (fun K hK => ?_); apply steady_yes (by kernel_rfl); (focus (intro wx hw; have hcx := gr_cell (gr_trans (Gr.drew (Gr.refl _)) hw) fm; go_simp; exact ⟨rfl, hw⟩)); go_simp; refine hK _ ?_; clear hK K
    refine steady_step (fun K hK => ?_); apply steady_yes (by kernel_rfl); (focus (intro wx hw; have hcx := gr_cell (gr_trans (Gr.drew (Gr.refl _)) hw) fk; go_simp; exact ⟨rfl, hw⟩)); go_simp; refine hK _ ?_; clear hK K
    refine steady_step (fun K hK => ?_); apply steady_yes (by kernel_rfl); (focus (intro wx hw; go_simp; exact ⟨rfl, hw⟩)); go_simp; refine hK _ ?_; clear hK K
    refine steady_step (fun K hK => ?_); apply steady_yes (by kernel_rfl); (focus (intro wx hw; go_simp; exact ⟨rfl, hw⟩)); go_simp; refine hK _ ?_; clear hK K
    refine steady_step (fun K hK => ?_); apply steady_yes (by kernel_rfl); (focus (intro wx hw; have hcx := gr_cell (gr_trans (Gr.drew (Gr.refl _)) hw) g2; go_simp; exact ⟨rfl, hw⟩)); go_simp; refine hK _ ?_; clear hK K
    refine steady_step (fun K hK => ?_)
    apply steady_yes (by kernel_rfl)
    · intro wx hw; go_simp; exact (H2.out wx (gr_trans HG0.out (gr_trans (Gr.drew (Gr.refl _)) hw))).mono fun e w3 h => ⟨h.1, gr_trans hw h.2⟩
    go_simp; refine hK _ ?_; clear hK K
    refine steady_step (fun K hK => ?_); apply steady_op rfl; (focus (intro wx hw; go_simp; exact ⟨rfl, hw⟩)); go_simp; refine hK _ ?_; clear hK K
    refine steady_step (fun K hK => ?_); apply steady_op rfl; (focus (intro wx hw; go_simp; exact ⟨rfl, hw⟩)); go_simp; refine hK _ ?_; clear hK K
    refine steady_nil ?_
    intro wz hgz
    have HGz := Lib.hid (gr_trans HG0.out (gr_trans (Gr.drew (Gr.refl _)) hgz))
    clear hgz
    go_wp2
    go_ret
    exact ⟨by rw [HD.out]; rfl, HGz.out⟩
end Sp
end Go.Proofs.Ythpnhanabcipmaa
namespace Go.Proofs.Ythpnhanabcipmaa
open Go.RowKit VecM
namespace Sp
/-- r is the number of the first type that is the type q -/
def Fst (S : Nat → Sd) (q : Nat) (r : Int) : Prop := ∃ j : Nat, j ≤ q ∧ r = j ∧ sdE (S j) (S q) = true ∧ ∀ i, i < j → sdE (S i) (S q) = false
theorem eqD_refl (z : Nat → Int) (n : Nat) : eqD z n z n = true := decide_eq_true rfl
theorem sdE_refl (s : Sd) : sdE s s = true := by unfold sdE; rw [eqD_refl, eqD_refl]; rfl
theorem fst_one {S : Nat → Sd} {q : Nat} {r r' : Int} (h : Fst S q r) (h' : Fst S q r') : r = r' := by
  obtain ⟨j, _, rfl, a, b⟩ := h
  obtain ⟨j', _, rfl, a', b'⟩ := h'
  have h1 : ¬ j < j' := fun h => by rw [b' j h] at a; cases a
  have h2 : ¬ j' < j := fun h => by rw [b j' h] at a'; cases a'
  omega
set_option maxHeartbeats 2000000 in
theorem index_any (S : Nat → Sd) (gm gk b off cap N q : Nat) (w : World) (hN : N ≤ 9223372036854775807) (hS : ∀ j, (S j).Ok w) (hq : q < N) (hm : w.cell? ⟨gm, 0, none⟩ = some (.slice (some ⟨b, off, none⟩) N cap)) (hkk : w.cell? ⟨gk, 0, none⟩ = some (.int .i64 q))
    (hc : ∀ j, j < N → w.cell? ⟨b, off + j * 2, none⟩ = some (S j).i ∧ w.cell? ⟨b, off + j * 2 + 1, none⟩ = some (S j).o) :
    Calls Try.prog 31 #[.slice (some ⟨b, off, none⟩) N cap, .func (.func 32) #[] #[.pointer (some ⟨gm, 0, none⟩), .pointer (some ⟨gk, 0, none⟩)]] w fun e w' => ∃ r, e = .returned (.int .i64 r) ∧ Fst S q r ∧ Gr w w' := by
  have HK := Lib.hid (fun w1 (h : Gr w w1) k (hk : k < N) => look_any (S k) (S q) gm gk b off cap N q w1 ((hS k).gr h) ((hS q).gr h) hq (gr_cell h hm) (gr_cell h hkk) (gr_cell h (hc q hq).1) (gr_cell h (hc q hq).2))
  have HC := Lib.hid hc
  clear hm hkk hc hS
  go_enter Try.func31, Try.ntmps31
  go_wp2_with fail
  go_loopw [8] (fun i wr => ∃ k : Nat, k ≤ N ∧ i = .int .i64 k ∧ (∀ j, j < k → sdE (S j) (S q) = false) ∧ Gr w wr) (fun i _ => N - (intOf i).toNat)
  case atStart => exact ⟨0, by omega, rfl, fun j hj => absurd hj (by omega), Gr.refl _⟩
  case round =>
    obtain ⟨k, hk, rfl, he, hg⟩ := hrel
    have HE := Lib.hid he
    have HG := Lib.hid hg
    clear hg he
    by_cases hlt : k < N
    · have HLd := Lib.hid (show ∀ j u, (sgV (S k).i (S k).o).toList[j]? = some u → wr.cell? ⟨b, off + k * 2 + j, none⟩ = some u from fun j u hu => by
        match j, hu with
        | 0, hu => simp [sgV] at hu; subst hu; exact gr_cell HG.out (HC.out k hlt).1
        | 1, hu => simp [sgV] at hu; subst hu; exact gr_cell HG.out (HC.out k hlt).2
        | j + 2, hu => simp [sgV] at hu)
      have HF := Lib.hid (HK.out wr HG.out k hlt)
      cases hr : sdE (S k) (S q) with
      | false =>
        have HE2 := Lib.hid (show ∀ j, j < k + 1 → sdE (S j) (S q) = false from fun j hj => by
          by_cases hjk : j < k
          · exact HE.out j hjk
          · obtain rfl : j = k := by omega
            exact hr)
        have HF2 := Lib.hid (hr ▸ HF.out)
        clear hr HF
        go_wp2_with (first | (refine wpList_load_cells rfl 25 _ rfl b (off + k * 2) rfl (sgV (S k).i (S k).o) _ HLd.out Try.underlying25 rfl infoSg ?_) | (go_at_call 32; refine HF2.out.mono ?_; rintro e w1 ⟨rfl, hg1⟩; have HG1 := Lib.hid hg1; clear hg1))
        exact ⟨⟨k + 1, by omega, by go_num, HE2.out, gr_trans HG.out HG1.out⟩, by simp [intOf]; omega⟩
      | true =>
        have HF2 := Lib.hid (hr ▸ HF.out)
        have hle : k ≤ q := by
          by_cases h : k ≤ q
          · exact h
          · have := HE.out q (by omega)
            rw [sdE_refl] at this
            cases this
        have HR := Lib.hid (show Fst S q (k : Int) from ⟨k, hle, rfl, hr, HE.out⟩)
        clear hr HF hle
        go_wp2_with (first | (refine wpList_load_cells rfl 25 _ rfl b (off + k * 2) rfl (sgV (S k).i (S k).o) _ HLd.out Try.underlying25 rfl infoSg ?_) | (go_at_call 32; refine HF2.out.mono ?_; rintro e w1 ⟨rfl, hg1⟩; have HG1 := Lib.hid hg1; clear hg1))
        go_ret
        exact ⟨_, rfl, HR.out, gr_trans HG.out HG1.out⟩
    · have := HE.out q (by omega)
      rw [sdE_refl] at this
      cases this
/-- a module with these types alone -/
def mdV (v : Value) : Array Value := #[v, .slice none 0 0, .slice none 0 0, .slice none 0 0, .slice none 0 0, .slice none 0 0, .slice none 0 0, .int .i64 0, .slice none 0 0, .slice none 0 0, .slice none 0 0]
theorem cell_md {w : World} {g : Nat} {v : Value} {t : TypeId} {z : Nat × Nat} (h : w.heap[g]? = some (.cells (mdV v) t z)) : w.cell? ⟨g, 0, none⟩ = some v := (cell_of_row _ _ 0 _ _ _ h).trans rfl
theorem cell_one {w : World} {g : Nat} {v : Value} {t : TypeId} {z : Nat × Nat} (h : w.heap[g]? = some (.cells #[v] t z)) : w.cell? ⟨g, 0, none⟩ = some v := (cell_of_row _ _ 0 _ _ _ h).trans rfl
/-- what Canon answers -/
def CanP (S : Nat → Sd) (N : Nat) (k r : Int) : Prop := (¬ (0 ≤ k ∧ k < N) ∧ r = -1) ∨ ∃ q : Nat, k = q ∧ q < N ∧ Fst S q r
set_option maxHeartbeats 2000000 in
theorem canon_any (S : Nat → Sd) (v : Value) (N : Nat) (k : Int) (w : World) (hS : ∀ j, (S j).Ok w) (hv : Sgs w v N S) :
    Calls Try.prog 23 #[.agg (mdV v), .int .i64 k] w fun e w' => ∃ r, e = .returned (.int .i64 r) ∧ CanP S N k r ∧ Gr w w' := by
  obtain ⟨xv, cv, rfl⟩ := slice_sgs hv
  have HG0 := Lib.hid (show Gr w ((w.alloc (.cells (mdV (.slice xv N cv)) 41)).alloc (.cells #[.int .i64 k] 3)) from ((Gr.refl w).alloc _ _).alloc _ _)
  have f0 := cell_md (heap_alloc2_old w (.cells (mdV (.slice xv N cv)) 41) (.cells #[.int .i64 k] 3))
  have f1 := cell_one (heap_alloc2_new w (.cells (mdV (.slice xv N cv)) 41) (.cells #[.int .i64 k] 3))
  by_cases h0 : k < 0
  · have hP := Lib.hid (show CanP S N k (-1) from .inl ⟨by omega, rfl⟩)
    clear hv hS
    unfold mdV at *
    go_enter Try.func23, Try.ntmps23
    go_wp2
    go_ret
    exact ⟨_, rfl, hP.out, HG0.out⟩
  · obtain ⟨q, rfl⟩ := Int.eq_ofNat_of_zero_le (show 0 ≤ k by omega)
    by_cases h1 : q < N
    · rcases hv with ⟨h, _⟩ | ⟨hN, b, off, cap, hb, hc⟩
      · exact absurd h (by omega)
      injection hb with hb1 _ hb2
      subst hb1 hb2
      have HX := Lib.hid (index_any S w.heap.size (w.heap.size + 1) b off cv N q _ hN (fun j => (hS j).gr HG0.out) h1 f0 f1 (fun j hj => ⟨gr_cell HG0.out (hc j hj).1, gr_cell HG0.out (hc j hj).2⟩))
      have s1 : ¬ (N : Int) ≤ (q : Int) := by omega
      have s2 : ¬ N ≤ q := by omega
      clear hc hS
      unfold mdV at *
      go_enter Try.func23, Try.ntmps23
      go_wp2_with fail
      refine HX.out.mono ?_
      rintro e w1 ⟨r, rfl, hr, hg1⟩
      have HP := Lib.hid (show CanP S N (q : Int) r from .inr ⟨q, rfl, h1, hr⟩)
      have HG1 := Lib.hid (gr_trans HG0.out hg1)
      clear hr hg1
      go_wp2
      go_ret
      exact ⟨_, rfl, HP.out, HG1.out⟩
    · have hP := Lib.hid (show CanP S N (q : Int) (-1) from .inl ⟨by omega, rfl⟩)
      have s1 : (N : Int) ≤ (q : Int) := by omega
      have s2 : N ≤ q := by omega
      clear hv hS
      unfold mdV at *
      go_enter Try.func23, Try.ntmps23
      go_wp2
      go_ret
      exact ⟨_, rfl, hP.out, HG0.out⟩
end Sp
end Go.Proofs.Ythpnhanabcipmaa
namespace Go.Proofs.Ythpnhanabcipmaa
open Go.RowKit VecM Ev
namespace Sp
theorem eqD_iff {z y : Nat → Int} {n m : Nat} : eqD z n y m = true ↔ zl z n = zl y m := by unfold eqD; exact decide_eq_true_iff
theorem sdE_iff {s t : Sd} : sdE s t = true ↔ zl s.z s.n = zl t.z t.n ∧ zl s.z' s.n' = zl t.z' t.n' := by
  unfold sdE
  rw [Bool.and_eq_true, eqD_iff, eqD_iff]
theorem sdE_congr {s t u : Sd} (h : sdE t u = true) : sdE s t = sdE s u := by
  obtain ⟨h1, h2⟩ := sdE_iff.1 h
  rw [Bool.eq_iff_iff, sdE_iff, sdE_iff, h1, h2]
theorem sdE_comm {s t : Sd} : sdE s t = sdE t s := by
  rw [Bool.eq_iff_iff, sdE_iff, sdE_iff]
  exact ⟨fun h => ⟨h.1.symm, h.2.symm⟩, fun h => ⟨h.1.symm, h.2.symm⟩⟩
/-- the first one's first one is itself -/
theorem fst_fst {S : Nat → Sd} {q j : Nat} {r : Int} (h : Fst S q (j : Int)) (h' : Fst S j r) : r = j := by
  obtain ⟨j1, _, e, a, b⟩ := h
  obtain rfl : j1 = j := by omega
  exact fst_one h' ⟨j1, Nat.le_refl _, rfl, sdE_refl _, fun i hi => by rw [sdE_congr a]; exact b i hi⟩
theorem fst_same {S : Nat → Sd} {q p j j' : Nat} (h : Fst S q (j : Int)) (h' : Fst S p (j' : Int)) : decide ((j : Int) = (j' : Int)) = sdE (S q) (S p) := by
  obtain ⟨j1, _, e, a, b⟩ := h
  obtain rfl : j1 = j := by omega
  obtain ⟨j2, _, e2, a2, b2⟩ := h'
  obtain rfl : j2 = j' := by omega
  by_cases hc : (j1 : Int) = (j2 : Int)
  · obtain rfl : j1 = j2 := by omega
    rw [decide_eq_true hc]
    rw [← sdE_congr a2, sdE_comm, a]
  · rw [decide_eq_false hc]
    cases hs : sdE (S q) (S p) with
    | false => rfl
    | true =>
      have h1 : ¬ j1 < j2 := fun h => by have := b2 j1 h; rw [← sdE_congr hs, a] at this; cases this
      have h2 : ¬ j2 < j1 := fun h => by have := b j2 h; rw [sdE_congr hs, a2] at this; cases this
      exact absurd (by omega : (j1 : Int) = (j2 : Int)) hc
section
variable {P : Program} {ops : Array Oper} {w0 : World} {o : Oper} {a : Act}
theorem steady_cells_yes {K : Act → Prop} (hwt : Region.wanted o (yielded ops a.tmps) = true) (ty : TypeId) (x : Operand) (ho : o.op = .load ty x)
    (g off : Nat) (hx : a.eval x = .pointer (some ⟨g, off, none⟩)) (cs : Array Value) (d : TypeDesc) (hc : ∀ j v, cs.toList[j]? = some v → w0.cell? ⟨g, off + j, none⟩ = some v)
    (hu : P.underlying ty = some d) (hd : (match d with | .struct _ | .array _ _ => true | _ => false) = true) (hi : (P.info? ty).map (·.size) = some cs.size)
    (h : K (a.put o.dst (.agg cs))) : ∃ v, YieldsG P ops w0 o v a ∧ K (a.put o.dst v) :=
  steady_yes hwt (v := .agg cs) (fun w hw => by
    unfold execOp
    simp only [ho, hx, Instr.loadAt, Instr.sureAddr, Sem.run_bind, Sem.run_pure, Result.andThen_ok, run_loadVar_cells w g off ty cs d (fun j v hv => gr_cell hw (hc j v hv)) hu hd hi]
    exact ⟨rfl, hw⟩) h
end
theorem beq_no {a b : Int} (h : ¬ a = b) : (a == b) = false := by simpa using h
theorem load_row_yes {P : Program} {ops : Array Oper} {Q : Exit → Act → World → Prop} {a : Act} {w : World} {rest : List Oper} {o : Oper} (hw : Region.wanted o (yielded ops a.tmps) = true) (ty : TypeId) (x : Operand) (ho : o.op = .load ty x)
    (g : Nat) (hx : a.eval x = .pointer (some ⟨g, 0, none⟩)) (t : TypeId) (cs : Array Value) (fr : Nat × Nat) (de : TypeDesc) (hg : w.heap[g]? = some (.cells cs t fr))
    (hu : P.underlying ty = some de) (hde : (match de with | .struct _ | .array _ _ => true | _ => false) = true) (hi : (P.info? ty).map (·.size) = some cs.size)
    (h : wpList P ops Q rest (a.put o.dst (.agg cs)) w) : wpList P ops Q (o :: rest) a w := by
  unfold wpList
  rw [if_pos hw]
  refine .inl ?_
  unfold Oper.wp execOp
  simp only [ho, hx, Instr.loadAt, Instr.sureAddr, Sem.run_bind, Sem.run_pure, Result.andThen_ok, run_loadVar_row w g t ty cs fr de hg hu hde hi]
  exact h
theorem fst_is {S : Nat → Sd} {q j : Nat} (h : Fst S q (j : Int)) : sdE (S j) (S q) = true := by
  obtain ⟨j1, _, e, a, _⟩ := h
  have e2 : j1 = j := by omega
  rw [← e2]
  exact a
theorem sg_cells {w : World} {b off j : Nat} {x y : Value} (h1 : w.cell? ⟨b, off + j * 2, none⟩ = some x) (h2 : w.cell? ⟨b, off + j * 2 + 1, none⟩ = some y) : ∀ k u, (sgV x y).toList[k]? = some u → w.cell? ⟨b, off + j * 2 + k, none⟩ = some u := fun k u hu => by
  match k, hu with
  | 0, hu => simp [sgV] at hu; subst hu; exact h1
  | 1, hu => simp [sgV] at hu; subst hu; exact h2
  | k + 2, hu => simp [sgV] at hu
theorem infoMd : (Try.prog.info? 41).map (·.size) = some 11 := by kernel_rfl
theorem md_one (x : Option Addr) (n c : Nat) : (mdV (.slice x n c)).all (·.oneCell') = true := by kernel_rfl
set_option maxRecDepth 100000 in
set_option maxHeartbeats 8000000 in
theorem canon_law (S : Nat → Sd) (xv : Option Addr) (N cv : Nat) (i k : Int) (w : World) (hS : ∀ j, (S j).Ok w) (hv : Sgs w (.slice xv N cv) N S) :
    Calls Try.prog 7 #[.slice xv N cv, .int .i64 i, .int .i64 k] w fun e w' => e = .returned (.bool true) ∧ Gr w w' := by
  have A1 := Lib.hid (fun w1 (h : Gr w w1) (k : Int) => canon_any S (.slice xv N cv) N k w1 (fun j => (hS j).gr h) (sgs_gr hv h))
  have HV := Lib.hid hv
  have HS := Lib.hid hS
  clear hv hS
  unfold mdV at A1
  go_enter Try.func7, Try.ntmps7
  go_wp2_with fail
  refine (awake_any _).mono ?_
  rintro e w1 ⟨rfl, hg1⟩
  have HG1 := Lib.hid hg1
  clear hg1
  have HR1 := Lib.hid (heap_alloc_new w1 (.cells (mdV (.slice none 0 0)) 41))
  go_upto_region 4 with (refine wpList_store_row rfl 41 _ _ rfl w1.heap.size (mdV _) rfl rfl 41 (mdV (.slice none 0 0)) HR1.out infoMd rfl (md_one _ _ _) ?_)
  have HRm := Lib.hid (setRow_block (c := mdV (.slice xv N cv)) HR1.out)
  have HG2 := Lib.hid (show Gr w ((w1.alloc (.cells (mdV (.slice none 0 0)) 41)).setRow w1.heap.size (mdV (.slice xv N cv))) from gr_setRow (gr_trans HG1.out ((Gr.refl _).alloc _ _)) HG1.out.size _)
  clear HR1 HG1
  unfold mdV at *
  generalize (w1.alloc (.cells #[.slice none 0 0, .slice none 0 0, .slice none 0 0, .slice none 0 0, .slice none 0 0, .slice none 0 0, .slice none 0 0, .int .i64 0, .slice none 0 0, .slice none 0 0, .slice none 0 0] 41)).setRow w1.heap.size #[.slice xv N cv, .slice none 0 0, .slice none 0 0, .slice none 0 0, .slice none 0 0, .slice none 0 0, .slice none 0 0, .int .i64 0, .slice none 0 0, .slice none 0 0, .slice none 0 0] = w2 at *
  generalize w1.heap.size = gm at *
  go_upto_region 5 with (first | (refine wpList_load_row rfl 41 _ rfl gm rfl 41 _ (0, 0) _ HRm.out Try.underlying41 rfl infoMd ?_) | (go_at_call 23; refine (A1.out _ HG2.out i).mono ?_; rintro e w3 ⟨ra, rfl, hra, hg3⟩; have HRa := Lib.hid hra; have HG3 := Lib.hid (gr_trans HG2.out hg3); have HRm3 := Lib.hid (gr_block hg3 HRm.out); clear hg3 hra))
  go_upto_region 6 with (first | (refine wpList_load_row rfl 41 _ rfl gm rfl 41 _ (0, 0) _ HRm3.out Try.underlying41 rfl infoMd ?_) | (go_at_call 23; refine (A1.out _ HG3.out k).mono ?_; rintro e w4 ⟨rb, rfl, hrb, hg4⟩; have HRb := Lib.hid hrb; have HG4 := Lib.hid (gr_trans HG3.out hg4); have HRm4 := Lib.hid (gr_block hg4 HRm3.out); clear hg4 hrb))
  have hn1 : ¬ ((-1 : Int) = 0) := by decide
  have Hi : (i < 0 ∧ ra = -1) ∨ (¬ i < 0 ∧ (N : Int) ≤ i ∧ ra = -1) ∨ ∃ q j : Nat, i = q ∧ q < N ∧ j ≤ q ∧ ra = j ∧ Fst S q (j : Int) := by
    rcases HRa.out with ⟨h, rfl⟩ | ⟨q, rfl, hq, h⟩
    · by_cases hc : i < 0
      · exact .inl ⟨hc, rfl⟩
      · exact .inr (.inl ⟨hc, by omega, rfl⟩)
    · obtain ⟨j, hj, rfl, h2⟩ := id h
      exact .inr (.inr ⟨q, j, rfl, hq, hj, rfl, h⟩)
  have Hk : (k < 0 ∧ rb = -1) ∨ (¬ k < 0 ∧ (N : Int) ≤ k ∧ rb = -1) ∨ ∃ q j : Nat, k = q ∧ q < N ∧ j ≤ q ∧ rb = j ∧ Fst S q (j : Int) := by
    rcases HRb.out with ⟨h, rfl⟩ | ⟨q, rfl, hq, h⟩
    · by_cases hc : k < 0
      · exact .inl ⟨hc, rfl⟩
      · exact .inr (.inl ⟨hc, by omega, rfl⟩)
    · obtain ⟨j, hj, rfl, h2⟩ := id h
      exact .inr (.inr ⟨q, j, rfl, hq, hj, rfl, h⟩)
  clear HRa HRb HRm HRm3 HG2 HG3
  by_cases hout : (i < 0 ∨ (N : Int) ≤ i) ∨ (k < 0 ∨ (N : Int) ≤ k)
  · have hres := hout
    have HO := Lib.hid hout
    clear hout hres A1 HS HV HRm4
    rcases Hi with ⟨p1, rfl⟩ | ⟨p1, p2, rfl⟩ | ⟨qi, ja, rfl, p1, p2, rfl, p3⟩
    · rcases Hk with ⟨r1, rfl⟩ | ⟨r1, r2, rfl⟩ | ⟨qk, jb, rfl, r1, r2, rfl, r3⟩
      · clear HO
        go_wp2
        go_ret
        first
          | exact ⟨rfl, HG4.out⟩
          | exact ⟨by simp_all, HG4.out⟩
      · clear HO
        go_wp2
        go_ret
        first
          | exact ⟨rfl, HG4.out⟩
          | exact ⟨by simp_all, HG4.out⟩
      · clear HO
        have t1 : ¬ (N : Int) ≤ (qk : Int) := by omega
        have t2 : ¬ N ≤ qk := by omega
        have t3 : ((jb : Int) == -1) = false := beq_no (by omega)
        have t4 : decide ((qk : Int) < 0) = false := decide_eq_false (by omega)
        clear r3
        go_wp2
        go_ret
        first
          | exact ⟨rfl, HG4.out⟩
          | exact ⟨by simp_all, HG4.out⟩
    · rcases Hk with ⟨r1, rfl⟩ | ⟨r1, r2, rfl⟩ | ⟨qk, jb, rfl, r1, r2, rfl, r3⟩
      · clear HO
        go_wp2
        go_ret
        first
          | exact ⟨rfl, HG4.out⟩
          | exact ⟨by simp_all, HG4.out⟩
      · clear HO
        go_wp2
        go_ret
        first
          | exact ⟨rfl, HG4.out⟩
          | exact ⟨by simp_all, HG4.out⟩
      · clear HO
        have t1 : ¬ (N : Int) ≤ (qk : Int) := by omega
        have t2 : ¬ N ≤ qk := by omega
        have t3 : ((jb : Int) == -1) = false := beq_no (by omega)
        have t4 : decide ((qk : Int) < 0) = false := decide_eq_false (by omega)
        clear r3
        go_wp2
        go_ret
        first
          | exact ⟨rfl, HG4.out⟩
          | exact ⟨by simp_all, HG4.out⟩
    · rcases Hk with ⟨r1, rfl⟩ | ⟨r1, r2, rfl⟩ | ⟨qk, jb, rfl, r1, r2, rfl, r3⟩
      · clear HO
        have s1 : ¬ (N : Int) ≤ (qi : Int) := by omega
        have s2 : ¬ N ≤ qi := by omega
        have s3 : ((ja : Int) == -1) = false := beq_no (by omega)
        have s4 : decide ((qi : Int) < 0) = false := decide_eq_false (by omega)
        clear p3
        go_wp2
        go_ret
        first
          | exact ⟨rfl, HG4.out⟩
          | exact ⟨by simp_all, HG4.out⟩
      · clear HO
        have s1 : ¬ (N : Int) ≤ (qi : Int) := by omega
        have s2 : ¬ N ≤ qi := by omega
        have s3 : ((ja : Int) == -1) = false := beq_no (by omega)
        have s4 : decide ((qi : Int) < 0) = false := decide_eq_false (by omega)
        clear p3
        go_wp2
        go_ret
        first
          | exact ⟨rfl, HG4.out⟩
          | exact ⟨by simp_all, HG4.out⟩
      · exact absurd HO.out (by omega)
  · have HO := Lib.hid hout
    clear hout
    rcases Hi with ⟨p1, _⟩ | ⟨_, p2, _⟩ | ⟨qi, ja, rfl, p1, p2, rfl, p3⟩
    · exact absurd (HO.out) (by omega)
    · exact absurd (HO.out) (by omega)
    rcases Hk with ⟨r1, _⟩ | ⟨_, r2, _⟩ | ⟨qk, jb, rfl, r1, r2, rfl, r3⟩
    · exact absurd (HO.out) (by omega)
    · exact absurd (HO.out) (by omega)
    rcases HV.out with ⟨h, _⟩ | ⟨hN, b, off, cap, hb, hc⟩
    · exact absurd h (by omega)
    injection hb with hb1 _ hb2
    subst hb1 hb2
    clear HO
    have D1 := Lib.hid (fst_same p3 r3)
    have D2 := Lib.hid (fun r (h : Fst S ja r) => fst_fst p3 h)
    have D3 := Lib.hid (fst_is p3)
    have hja : ja < N := by omega
    have s1 : ¬ (N : Int) ≤ (qi : Int) := by omega
    have s2 : ¬ N ≤ qi := by omega
    have s3 : ((ja : Int) == -1) = false := beq_no (by omega)
    have s4 : decide ((qi : Int) < 0) = false := decide_eq_false (by omega)
    have t1 : ¬ (N : Int) ≤ (qk : Int) := by omega
    have t2 : ¬ N ≤ qk := by omega
    have t3 : ((jb : Int) == -1) = false := beq_no (by omega)
    have t4 : decide ((qk : Int) < 0) = false := decide_eq_false (by omega)
    have u1 : ¬ (qi : Int) < (ja : Int) := by omega
    have u2 : ¬ qi < ja := by omega
    have u3 : ¬ (qk : Int) < (jb : Int) := by omega
    have u4 : ¬ qk < jb := by omega
    clear p3 r3
    go_wp2_with (first | (refine load_row_yes (by kernel_rfl) 41 _ rfl gm rfl 41 _ (0, 0) _ HRm4.out Try.underlying41 rfl infoMd ?_) | (refine wpList_load_row rfl 41 _ rfl gm rfl 41 _ (0, 0) _ HRm4.out Try.underlying41 rfl infoMd ?_))
    refine (A1.out _ HG4.out (ja : Int)).mono ?_
    rintro e w5 ⟨rc, rfl, hrc, hg5⟩
    have hrc2 : rc = (ja : Int) := by
      rcases hrc with ⟨h, _⟩ | ⟨q', e, hq', h⟩
      · exact absurd ⟨by omega, by omega⟩ h
      · obtain rfl : q' = ja := by omega
        exact D2.out _ h
    subst hrc2
    have HG5 := Lib.hid (gr_trans HG4.out hg5)
    clear hrc hg5 A1 D2 HRm4
    have L1 := Lib.hid (sg_cells (j := qi) (gr_cell HG5.out (hc qi p1).1) (gr_cell HG5.out (hc qi p1).2))
    have L2 := Lib.hid (sg_cells (j := qk) (gr_cell HG5.out (hc qk r1).1) (gr_cell HG5.out (hc qk r1).2))
    have L3 := Lib.hid (sg_cells (j := ja) (gr_cell HG5.out (hc ja hja).1) (gr_cell HG5.out (hc ja hja).2))
    clear hc
    have C1 := Lib.hid (fun wx (h : Gr w wx) => same_sig2 (S qi) (S qk) wx ((HS.out qi).gr h) ((HS.out qk).gr h))
    have C2 := Lib.hid (fun wx (h : Gr w wx) => same_sig2 (S ja) (S qi) wx ((HS.out ja).gr h) ((HS.out qi).gr h))
    rw [D3.out] at C2
    have w1' : (qi : Int) < (N : Int) := by omega
    have w2' : (qk : Int) < (N : Int) := by omega
    have w3' : (ja : Int) < (N : Int) := by omega
    have D4 : ((ja : Int) == (jb : Int)) = sdE (S qi) (S qk) := by rw [← D1.out]; rfl
    clear D1 D3 HS HV
    generalize sdE (S qi) (S qk) = r at *
    unfold Sd.i Sd.o at *
    go_upto_region 10 with (fail)
    cases r
    all_goals
      refine wp_region_steady (by kernel_rfl) (by kernel_rfl) ?_
      refine steady_step (fun K hK => ?_); apply steady_op rfl; (focus (intro wx hw; go_simp; exact ⟨rfl, hw⟩)); go_simp; refine hK _ ?_; clear hK K
      refine steady_step (fun K hK => ?_); apply steady_op rfl; (focus (intro wx hw; go_simp; exact ⟨rfl, hw⟩)); go_simp; refine hK _ ?_; clear hK K
      refine steady_step (fun K hK => ?_); apply steady_op rfl; (focus (intro wx hw; go_simp; exact ⟨rfl, hw⟩)); go_simp; refine hK _ ?_; clear hK K
      refine steady_step (fun K hK => ?_); apply steady_op rfl; (focus (intro wx hw; go_simp; exact ⟨rfl, hw⟩)); go_simp; refine hK _ ?_; clear hK K
      refine steady_step (fun K hK => ?_); apply steady_op rfl; (focus (intro wx hw; go_simp; exact ⟨rfl, hw⟩)); go_simp; refine hK _ ?_; clear hK K
      refine steady_step (fun K hK => ?_); apply steady_op rfl; (focus (intro wx hw; go_simp; exact ⟨rfl, hw⟩)); go_simp; refine hK _ ?_; clear hK K
      refine steady_step (fun K hK => ?_)
      refine steady_load_cells rfl 25 _ rfl b (off + qi * 2) rfl (sgV (S qi).i (S qi).o) _ L1.out Try.underlying25 rfl infoSg ?_
      go_simp; refine hK _ ?_; clear hK K
      refine steady_step (fun K hK => ?_); apply steady_op rfl; (focus (intro wx hw; go_simp; exact ⟨rfl, hw⟩)); go_simp; refine hK _ ?_; clear hK K
      refine steady_step (fun K hK => ?_); apply steady_op rfl; (focus (intro wx hw; go_simp; exact ⟨rfl, hw⟩)); go_simp; refine hK _ ?_; clear hK K
      refine steady_step (fun K hK => ?_); apply steady_op rfl; (focus (intro wx hw; go_simp; exact ⟨rfl, hw⟩)); go_simp; refine hK _ ?_; clear hK K
      refine steady_step (fun K hK => ?_)
      refine steady_load_cells rfl 25 _ rfl b (off + qk * 2) rfl (sgV (S qk).i (S qk).o) _ L2.out Try.underlying25 rfl infoSg ?_
      go_simp; refine hK _ ?_; clear hK K
      refine steady_step (fun K hK => ?_)
      apply steady_op rfl
      · intro wx hw; go_simp; exact (C1.out wx (gr_trans HG5.out (gr_trans (Gr.drew (Gr.refl _)) hw))).mono fun e w3 h => ⟨h.1, gr_trans hw h.2⟩
      go_simp; refine hK _ ?_; clear hK K
      refine steady_step (fun K hK => ?_); apply steady_op rfl; (focus (intro wx hw; go_simp; exact ⟨rfl, hw⟩)); go_simp; refine hK _ ?_; clear hK K
      refine steady_step (fun K hK => ?_); apply steady_op rfl; (focus (intro wx hw; go_simp; exact ⟨rfl, hw⟩)); go_simp; refine hK _ ?_; clear hK K
      refine steady_step (fun K hK => ?_); apply steady_yes (by kernel_rfl); (focus (intro wx hw; go_simp; exact ⟨rfl, hw⟩)); go_simp; refine hK _ ?_; clear hK K
      refine steady_step (fun K hK => ?_); apply steady_yes (by kernel_rfl); (focus (intro wx hw; go_simp; exact ⟨rfl, hw⟩)); go_simp; refine hK _ ?_; clear hK K
      refine steady_step (fun K hK => ?_); apply steady_yes (by kernel_rfl); (focus (intro wx hw; go_simp; exact ⟨rfl, hw⟩)); go_simp; refine hK _ ?_; clear hK K
      refine steady_step (fun K hK => ?_)
      refine steady_cells_yes (by kernel_rfl) 25 _ rfl b (off + ja * 2) rfl (sgV (S ja).i (S ja).o) _ L3.out Try.underlying25 rfl infoSg ?_
      go_simp; refine hK _ ?_; clear hK K
      refine steady_step (fun K hK => ?_); apply steady_yes (by kernel_rfl); (focus (intro wx hw; go_simp; exact ⟨rfl, hw⟩)); go_simp; refine hK _ ?_; clear hK K
      refine steady_step (fun K hK => ?_); apply steady_yes (by kernel_rfl); (focus (intro wx hw; go_simp; exact ⟨rfl, hw⟩)); go_simp; refine hK _ ?_; clear hK K
      refine steady_step (fun K hK => ?_); apply steady_yes (by kernel_rfl); (focus (intro wx hw; go_simp; exact ⟨rfl, hw⟩)); go_simp; refine hK _ ?_; clear hK K
      refine steady_step (fun K hK => ?_)
      refine steady_cells_yes (by kernel_rfl) 25 _ rfl b (off + qi * 2) rfl (sgV (S qi).i (S qi).o) _ L1.out Try.underlying25 rfl infoSg ?_
      go_simp; refine hK _ ?_; clear hK K
      refine steady_step (fun K hK => ?_)
      apply steady_yes (by kernel_rfl)
      · intro wx hw; go_simp; exact (C2.out wx (gr_trans HG5.out (gr_trans (Gr.drew (Gr.refl _)) hw))).mono fun e w3 h => ⟨h.1, gr_trans hw h.2⟩
      go_simp; refine hK _ ?_; clear hK K
      refine steady_step (fun K hK => ?_); apply steady_op rfl; (focus (intro wx hw; go_simp; exact ⟨rfl, hw⟩)); go_simp; refine hK _ ?_; clear hK K
      refine steady_step (fun K hK => ?_); apply steady_op rfl; (focus (intro wx hw; go_simp; exact ⟨rfl, hw⟩)); go_simp; refine hK _ ?_; clear hK K
      refine steady_nil ?_
      intro wz hgz
      have HGz := Lib.hid (gr_trans HG5.out (gr_trans (Gr.drew (Gr.refl _)) hgz))
      clear hgz
      go_wp2
      go_ret
      exact ⟨rfl, HGz.out⟩
theorem split_canon {v : Value} {N : Nat} {S : Nat → Sd} {i k : Int} {w : World} (hS : ∀ j, (S j).Ok w) (hv : Sgs w v N S) :
    Calls Try.prog 7 #[v, .int .i64 i, .int .i64 k] w fun e w' => e = .returned (.bool true) ∧ Gr w w' := by
  obtain ⟨x, c, rfl⟩ := slice_sgs hv
  exact canon_law S x N c i k w hS hv
end Sp
end Go.Proofs.Ythpnhanabcipmaa
namespace Go.Proofs.Ythpnhanabcipmaa
open Go.RowKit VecM
namespace Sp
theorem can_one {S : Nat → Sd} {N : Nat} {k r r' : Int} (h : CanP S N k r) (h' : CanP S N k r') : r = r' := by
  rcases h with ⟨a, rfl⟩ | ⟨q, e, hq, h⟩
  · rcases h' with ⟨_, rfl⟩ | ⟨q', e', hq', _⟩
    · rfl
    · exact absurd ⟨by omega, by omega⟩ a
  · rcases h' with ⟨a', _⟩ | ⟨q', e', hq', h'⟩
    · exact absurd ⟨by omega, by omega⟩ a'
    · obtain rfl : q = q' := by omega
      exact fst_one h h'
noncomputable def canI (S : Nat → Sd) (N : Nat) (k : Int) : Int := Classical.epsilon (CanP S N k)
theorem can_eq {S : Nat → Sd} {N : Nat} {k r : Int} (h : CanP S N k r) : r = canI S N k := can_one h (Classical.epsilon_spec ⟨r, h⟩)
theorem canon_fn (S : Nat → Sd) (v : Value) (N : Nat) (k : Int) (w : World) (hS : ∀ j, (S j).Ok w) (hv : Sgs w v N S) :
    Calls Try.prog 23 #[.agg (mdV v), .int .i64 k] w fun e w' => e = .returned (.int .i64 (canI S N k)) ∧ Gr w w' :=
  (canon_any S v N k w hS hv).mono fun e w' ⟨r, h1, h2, h3⟩ => ⟨by rw [h1, can_eq h2], h3⟩
set_option maxRecDepth 100000 in
set_option maxHeartbeats 4000000 in
theorem rcanon_any (S : Nat → Sd) (v : Value) (N : Nat) (k : Int) (w : World) (hS : ∀ j, (S j).Ok w) (hv : Sgs w v N S) :
    Calls Try.prog 27 #[.agg (mdV v), .int .i64 k] w fun e w' => ∃ r, e = .returned (.int .i64 r) ∧ CanP S N k r ∧ Gr w w' := by
  obtain ⟨xv, cv, rfl⟩ := slice_sgs hv
  have HG0 := Lib.hid (show Gr w (w.alloc (.cells (mdV (.slice xv N cv)) 41)) from (Gr.refl w).alloc _ _)
  have f0 := cell_md (heap_alloc_new w (.cells (mdV (.slice xv N cv)) 41))
  by_cases h0 : k < 0
  · have hP := Lib.hid (show CanP S N k (-1) from .inl ⟨by omega, rfl⟩)
    clear hv hS
    unfold mdV at *
    go_enter Try.func27, Try.ntmps27
    go_wp2
    go_ret
    exact ⟨_, rfl, hP.out, HG0.out⟩
  obtain ⟨q, rfl⟩ := Int.eq_ofNat_of_zero_le (show 0 ≤ k by omega)
  by_cases h1 : N ≤ q
  · have hP := Lib.hid (show CanP S N (q : Int) (-1) from .inl ⟨by omega, rfl⟩)
    have s1 : (N : Int) ≤ (q : Int) := by omega
    clear hv hS
    unfold mdV at *
    go_enter Try.func27, Try.ntmps27
    go_wp2
    go_ret
    exact ⟨_, rfl, hP.out, HG0.out⟩
  rcases hv with ⟨h, _⟩ | ⟨hN, b, off, cap, hb, hc⟩
  · exact absurd h (by omega)
  injection hb with hb1 _ hb2
  subst hb1 hb2
  have hq : q < N := by omega
  have s1 : ¬ (N : Int) ≤ (q : Int) := by omega
  have s3 : (q : Int) < (N : Int) := by omega
  have HC := Lib.hid hc
  have HS := Lib.hid hS
  have F0 := Lib.hid f0
  clear hc hS
  unfold mdV at *
  go_enter Try.func27, Try.ntmps27
  go_wp2_with fail
  generalize w.heap.size = gm at *
  generalize w.alloc (.cells #[.slice (some ⟨b, off, none⟩) N cv, .slice none 0 0, .slice none 0 0, .slice none 0 0, .slice none 0 0, .slice none 0 0, .slice none 0 0, .int .i64 0, .slice none 0 0, .slice none 0 0, .slice none 0 0] 41) = w0 at *
  clear f0
  go_loopw [5] (fun i wr => ∃ j : Nat, j ≤ q ∧ i = .int .i64 j ∧ (∀ p, p < j → sdE (S p) (S q) = false) ∧ Gr w0 wr) (fun i _ => q - (intOf i).toNat)
  case atStart => exact ⟨0, by omega, rfl, fun p hp => absurd hp (by omega), Gr.refl _⟩
  case round =>
    obtain ⟨j, hj, rfl, he, hg⟩ := hrel
    have HE := Lib.hid he
    have HG := Lib.hid hg
    clear hg he
    by_cases hlt : j < q
    · have fm := gr_cell HG.out F0.out
      have HGW := Lib.hid (gr_trans HG0.out HG.out)
      have L1 := Lib.hid (sg_cells (j := j) (gr_cell HGW.out (HC.out j (by omega)).1) (gr_cell HGW.out (HC.out j (by omega)).2))
      have L2 := Lib.hid (sg_cells (j := q) (gr_cell HGW.out (HC.out q hq).1) (gr_cell HGW.out (HC.out q hq).2))
      have C1 := Lib.hid (fun wx (h : Gr w wx) => same_sig2 (S j) (S q) wx ((HS.out j).gr h) ((HS.out q).gr h))
      have t1 : (j : Int) < (N : Int) := by omega
      have HE2 := Lib.hid (fun (hr : sdE (S j) (S q) = false) => show ∀ p, p < j + 1 → sdE (S p) (S q) = false from fun p hp => by
        by_cases h : p < j
        · exact HE.out p h
        · obtain rfl : p = j := by omega
          exact hr)
      have HR := Lib.hid (fun (hr : sdE (S j) (S q) = true) => show CanP S N (q : Int) (j : Int) from .inr ⟨q, rfl, hq, j, hj, rfl, hr, HE.out⟩)
      generalize sdE (S j) (S q) = r at *
      unfold Sd.i Sd.o at *
      go_upto_region 6 with (fail)
      cases r with
      | false =>
        refine wp_region_steady (by kernel_rfl) (by kernel_rfl) ?_
        refine steady_step (fun K hK => ?_); apply steady_op rfl; (focus (intro wx hw; go_simp; exact ⟨rfl, hw⟩)); go_simp; refine hK _ ?_; clear hK K
        refine steady_step (fun K hK => ?_); apply steady_op rfl; (focus (intro wx hw; have hcx := gr_cell (gr_trans (Gr.drew (Gr.refl _)) hw) fm; go_simp; exact ⟨rfl, hw⟩)); go_simp; refine hK _ ?_; clear hK K
        refine steady_step (fun K hK => ?_); apply steady_op rfl; (focus (intro wx hw; go_simp; exact ⟨rfl, hw⟩)); go_simp; refine hK _ ?_; clear hK K
        refine steady_step (fun K hK => ?_); apply steady_op rfl; (focus (intro wx hw; go_simp; exact ⟨rfl, hw⟩)); go_simp; refine hK _ ?_; clear hK K
        refine steady_step (fun K hK => ?_)
        refine steady_load_cells rfl 25 _ rfl b (off + j * 2) rfl (sgV (S j).i (S j).o) _ L1.out Try.underlying25 rfl infoSg ?_
        go_simp; refine hK _ ?_; clear hK K
        refine steady_step (fun K hK => ?_); apply steady_op rfl; (focus (intro wx hw; go_simp; exact ⟨rfl, hw⟩)); go_simp; refine hK _ ?_; clear hK K
        refine steady_step (fun K hK => ?_); apply steady_op rfl; (focus (intro wx hw; have hcx := gr_cell (gr_trans (Gr.drew (Gr.refl _)) hw) fm; go_simp; exact ⟨rfl, hw⟩)); go_simp; refine hK _ ?_; clear hK K
        refine steady_step (fun K hK => ?_); apply steady_op rfl; (focus (intro wx hw; go_simp; exact ⟨rfl, hw⟩)); go_simp; refine hK _ ?_; clear hK K
        refine steady_step (fun K hK => ?_); apply steady_op rfl; (focus (intro wx hw; go_simp; exact ⟨rfl, hw⟩)); go_simp; refine hK _ ?_; clear hK K
        refine steady_step (fun K hK => ?_)
        refine steady_load_cells rfl 25 _ rfl b (off + q * 2) rfl (sgV (S q).i (S q).o) _ L2.out Try.underlying25 rfl infoSg ?_
        go_simp; refine hK _ ?_; clear hK K
        refine steady_step (fun K hK => ?_)
        apply steady_op rfl
        · intro wx hw; go_simp; exact (C1.out wx (gr_trans HGW.out (gr_trans (Gr.drew (Gr.refl _)) hw))).mono fun e w3 h => ⟨h.1, gr_trans hw h.2⟩
        go_simp; refine hK _ ?_; clear hK K
        refine steady_nil ?_
        intro wz hgz
        have HGz := Lib.hid (gr_trans HG.out (gr_trans (Gr.drew (Gr.refl _)) hgz))
        clear hgz
        go_wp2
        exact ⟨⟨j + 1, by omega, by go_num, HE2.out rfl, HGz.out⟩, by simp [intOf]; omega⟩
      | true =>
        refine wp_region_steady (by kernel_rfl) (by kernel_rfl) ?_
        refine steady_step (fun K hK => ?_); apply steady_op rfl; (focus (intro wx hw; go_simp; exact ⟨rfl, hw⟩)); go_simp; refine hK _ ?_; clear hK K
        refine steady_step (fun K hK => ?_); apply steady_op rfl; (focus (intro wx hw; have hcx := gr_cell (gr_trans (Gr.drew (Gr.refl _)) hw) fm; go_simp; exact ⟨rfl, hw⟩)); go_simp; refine hK _ ?_; clear hK K
        refine steady_step (fun K hK => ?_); apply steady_op rfl; (focus (intro wx hw; go_simp; exact ⟨rfl, hw⟩)); go_simp; refine hK _ ?_; clear hK K
        refine steady_step (fun K hK => ?_); apply steady_op rfl; (focus (intro wx hw; go_simp; exact ⟨rfl, hw⟩)); go_simp; refine hK _ ?_; clear hK K
        refine steady_step (fun K hK => ?_)
        refine steady_load_cells rfl 25 _ rfl b (off + j * 2) rfl (sgV (S j).i (S j).o) _ L1.out Try.underlying25 rfl infoSg ?_
        go_simp; refine hK _ ?_; clear hK K
        refine steady_step (fun K hK => ?_); apply steady_op rfl; (focus (intro wx hw; go_simp; exact ⟨rfl, hw⟩)); go_simp; refine hK _ ?_; clear hK K
        refine steady_step (fun K hK => ?_); apply steady_op rfl; (focus (intro wx hw; have hcx := gr_cell (gr_trans (Gr.drew (Gr.refl _)) hw) fm; go_simp; exact ⟨rfl, hw⟩)); go_simp; refine hK _ ?_; clear hK K
        refine steady_step (fun K hK => ?_); apply steady_op rfl; (focus (intro wx hw; go_simp; exact ⟨rfl, hw⟩)); go_simp; refine hK _ ?_; clear hK K
        refine steady_step (fun K hK => ?_); apply steady_op rfl; (focus (intro wx hw; go_simp; exact ⟨rfl, hw⟩)); go_simp; refine hK _ ?_; clear hK K
        refine steady_step (fun K hK => ?_)
        refine steady_load_cells rfl 25 _ rfl b (off + q * 2) rfl (sgV (S q).i (S q).o) _ L2.out Try.underlying25 rfl infoSg ?_
        go_simp; refine hK _ ?_; clear hK K
        refine steady_step (fun K hK => ?_)
        apply steady_op rfl
        · intro wx hw; go_simp; exact (C1.out wx (gr_trans HGW.out (gr_trans (Gr.drew (Gr.refl _)) hw))).mono fun e w3 h => ⟨h.1, gr_trans hw h.2⟩
        go_simp; refine hK _ ?_; clear hK K
        refine steady_nil ?_
        intro wz hgz
        have HGz := Lib.hid (gr_trans HG0.out (gr_trans HG.out (gr_trans (Gr.drew (Gr.refl _)) hgz)))
        clear hgz
        go_wp2
        go_ret
        exact ⟨_, rfl, (by first | exact HR.out rfl | exact HR.out trivial), HGz.out⟩
    · obtain rfl : j = q := by omega
      have HR := Lib.hid (show CanP S N (j : Int) (j : Int) from .inr ⟨j, rfl, hq, j, Nat.le_refl _, rfl, sdE_refl _, HE.out⟩)
      go_wp2
      go_ret
      exact ⟨_, rfl, HR.out, gr_trans HG0.out HG.out⟩
theorem rcanon_fn (S : Nat → Sd) (v : Value) (N : Nat) (k : Int) (w : World) (hS : ∀ j, (S j).Ok w) (hv : Sgs w v N S) :
    Calls Try.prog 27 #[.agg (mdV v), .int .i64 k] w fun e w' => e = .returned (.int .i64 (canI S N k)) ∧ Gr w w' :=
  (rcanon_any S v N k w hS hv).mono fun e w' ⟨r, h1, h2, h3⟩ => ⟨by rw [h1, can_eq h2], h3⟩
end Sp
end Go.Proofs.Ythpnhanabcipmaa
namespace Go.Proofs.Ythpnhanabcipmaa
open Go.RowKit VecM
namespace Sp
/-- what Block answers -/
def blI (S : Nat → Sd) (N : Nat) (k : Int) : Int := if 0 ≤ k ∧ k < N then (imL (S k.toNat).z (S k.toNat).n).length else 0
def blO (S : Nat → Sd) (N : Nat) (k : Int) : Int := if 0 ≤ k ∧ k < N then (imL (S k.toNat).z' (S k.toNat).n').length else if k = -1 ∨ k = -2 then 1 else if k = -5 then 2 else 0
def blR (S : Nat → Sd) (N : Nat) (k : Int) : Value := .tuple #[.int .i64 (blI S N k), .int .i64 (blO S N k)]
theorem blR_in {S : Nat → Sd} {N q : Nat} (h : q < N) : blR S N q = .tuple #[.int .i64 (imL (S q).z (S q).n).length, .int .i64 (imL (S q).z' (S q).n').length] := by
  have h' : (0 : Int) ≤ (q : Int) ∧ (q : Int) < N := by omega
  unfold blR blI blO
  rw [if_pos h', if_pos h']
  rfl
theorem blR_one {S : Nat → Sd} {N : Nat} {k : Int} (h : k = -1 ∨ k = -2) : blR S N k = .tuple #[.int .i64 0, .int .i64 1] := by
  have h' : ¬ ((0 : Int) ≤ k ∧ k < N) := by omega
  unfold blR blI blO
  rw [if_neg h', if_neg h', if_pos h]
theorem blR_five {S : Nat → Sd} {N : Nat} : blR S N (-5) = .tuple #[.int .i64 0, .int .i64 2] := by
  have h' : ¬ ((0 : Int) ≤ -5 ∧ (-5 : Int) < N) := by omega
  unfold blR blI blO
  rw [if_neg h', if_neg h', if_neg (by decide), if_pos rfl]
theorem blR_none {S : Nat → Sd} {N : Nat} {k : Int} (h : ¬ (0 ≤ k ∧ k < N)) (h1 : ¬ (k = -1 ∨ k = -2)) (h5 : ¬ k = -5) : blR S N k = .tuple #[.int .i64 0, .int .i64 0] := by
  unfold blR blI blO
  rw [if_neg h, if_neg h, if_neg h1, if_neg h5]
set_option maxRecDepth 100000 in
set_option maxHeartbeats 4000000 in
theorem block_any (S : Nat → Sd) (v : Value) (N : Nat) (k : Int) (w : World) (hS : ∀ j, (S j).Ok w) (hv : Sgs w v N S) :
    Calls Try.prog 24 #[.agg (mdV v), .int .i64 k] w fun e w' => e = .returned (blR S N k) ∧ Gr w w' := by
  obtain ⟨xv, cv, rfl⟩ := slice_sgs hv
  have HG0 := Lib.hid (show Gr w (w.alloc (.cells (mdV (.slice xv N cv)) 41)) from (Gr.refl w).alloc _ _)
  have f0 := cell_md (heap_alloc_new w (.cells (mdV (.slice xv N cv)) 41))
  by_cases h0 : k < 0
  · have n0 : ¬ (0 : Int) ≤ k := by omega
    have hR := Lib.hid (fun (h1 : ¬ (k = -1 ∨ k = -2)) (h5 : ¬ k = -5) => blR_none (S := S) (N := N) (k := k) (by omega) h1 h5)
    have hR1 := Lib.hid (fun (h1 : k = -1 ∨ k = -2) => blR_one (S := S) (N := N) (k := k) h1)
    have hR5 := Lib.hid (blR_five (S := S) (N := N))
    clear hv hS
    unfold mdV at *
    by_cases k1 : k = -1
    · subst k1
      rw [hR1.out (.inl rfl)]
      clear hR1
      go_enter Try.func24, Try.ntmps24
      go_wp2
      go_ret2
      exact ⟨rfl, HG0.out⟩
    by_cases k2 : k = -2
    · subst k2
      rw [hR1.out (.inr rfl)]
      clear hR1
      go_enter Try.func24, Try.ntmps24
      go_wp2
      go_ret2
      exact ⟨rfl, HG0.out⟩
    by_cases k5 : k = -5
    · subst k5
      rw [hR5.out]
      clear hR5 hR1
      go_enter Try.func24, Try.ntmps24
      go_wp2
      go_ret2
      exact ⟨rfl, HG0.out⟩
    rw [hR.out (by omega) k5]
    have s1 := beq_no k1
    have s2 := beq_no k2
    have s5 := beq_no k5
    clear hR hR1 hR5
    go_enter Try.func24, Try.ntmps24
    go_wp2
    go_ret2
    exact ⟨rfl, HG0.out⟩
  obtain ⟨q, rfl⟩ := Int.eq_ofNat_of_zero_le (show 0 ≤ k by omega)
  by_cases h1 : N ≤ q
  · rw [blR_none (S := S) (N := N) (k := (q : Int)) (by omega) (by omega) (by omega)]
    have s0 : (0 : Int) ≤ (q : Int) := by omega
    have s1 : ¬ (q : Int) < (N : Int) := by omega
    have s2 : ¬ q < N := by omega
    have t1 : ((q : Int) == -1) = false := beq_no (by omega)
    have t2 : ((q : Int) == -2) = false := beq_no (by omega)
    have t5 : ((q : Int) == -5) = false := beq_no (by omega)
    clear hv hS
    unfold mdV at *
    go_enter Try.func24, Try.ntmps24
    go_wp2
    go_ret2
    exact ⟨rfl, HG0.out⟩
  rcases hv with ⟨h, _⟩ | ⟨hN, b, off, cap, hb, hc⟩
  · exact absurd h (by omega)
  injection hb with hb1 _ hb2
  subst hb1 hb2
  have hq : q < N := by omega
  rw [blR_in hq]
  have C1 := Lib.hid (fun wx (h : Gr w wx) => width_any (w := wx) (by have := (hS q).li; omega) (i64s_gr (hS q).i h))
  have C2 := Lib.hid (fun wx (h : Gr w wx) => width_any (w := wx) (by have := (hS q).lo; omega) (i64s_gr (hS q).o h))
  have c1 := gr_cell HG0.out (hc q hq).1
  have c2 := gr_cell HG0.out (hc q hq).2
  have s0 : (0 : Int) ≤ (q : Int) := by omega
  have s1 : (q : Int) < (N : Int) := by omega
  clear hS hc
  generalize (imL (S q).z (S q).n).length = r1 at *
  generalize (imL (S q).z' (S q).n').length = r2 at *
  unfold Sd.i Sd.o at *
  have fm := f0
  unfold mdV at *
  go_enter Try.func24, Try.ntmps24
  go_upto_region 2 with (fail)
  generalize w.heap.size = gm at *
  generalize w.alloc (.cells #[.slice (some ⟨b, off, none⟩) N cv, .slice none 0 0, .slice none 0 0, .slice none 0 0, .slice none 0 0, .slice none 0 0, .slice none 0 0, .int .i64 0, .slice none 0 0, .slice none 0 0, .slice none 0 0] 41) = w0 at *
  refine wp_region_steady (by kernel_rfl) (by kernel_rfl) ?_
  refine steady_step (fun K hK => ?_); apply steady_op rfl; (focus (intro wx hw; go_simp; exact ⟨rfl, hw⟩)); go_simp; refine hK _ ?_; clear hK K
  refine steady_step (fun K hK => ?_); apply steady_op rfl; (focus (intro wx hw; have hcx := gr_cell (gr_trans (Gr.drew (Gr.refl _)) hw) fm; go_simp; exact ⟨rfl, hw⟩)); go_simp; refine hK _ ?_; clear hK K
  refine steady_step (fun K hK => ?_); apply steady_op rfl; (focus (intro wx hw; go_simp; exact ⟨rfl, hw⟩)); go_simp; refine hK _ ?_; clear hK K
  refine steady_step (fun K hK => ?_); apply steady_op rfl; (focus (intro wx hw; go_simp; exact ⟨rfl, hw⟩)); go_simp; refine hK _ ?_; clear hK K
  refine steady_step (fun K hK => ?_); apply steady_op rfl; (focus (intro wx hw; go_simp; exact ⟨rfl, hw⟩)); go_simp; refine hK _ ?_; clear hK K
  refine steady_step (fun K hK => ?_); apply steady_op rfl; (focus (intro wx hw; have hcx := gr_cell (gr_trans (Gr.drew (Gr.refl _)) hw) c1; go_simp; exact ⟨rfl, hw⟩)); go_simp; refine hK _ ?_; clear hK K
  refine steady_step (fun K hK => ?_)
  apply steady_op rfl
  · intro wx hw; go_simp; exact (C1.out wx (gr_trans HG0.out (gr_trans (Gr.drew (Gr.refl _)) hw))).mono fun e w3 h => ⟨h.1, gr_trans hw h.2⟩
  go_simp; refine hK _ ?_; clear hK K
  refine steady_step (fun K hK => ?_); apply steady_op rfl; (focus (intro wx hw; go_simp; exact ⟨rfl, hw⟩)); go_simp; refine hK _ ?_; clear hK K
  refine steady_step (fun K hK => ?_); apply steady_op rfl; (focus (intro wx hw; have hcx := gr_cell (gr_trans (Gr.drew (Gr.refl _)) hw) fm; go_simp; exact ⟨rfl, hw⟩)); go_simp; refine hK _ ?_; clear hK K
  refine steady_step (fun K hK => ?_); apply steady_op rfl; (focus (intro wx hw; go_simp; exact ⟨rfl, hw⟩)); go_simp; refine hK _ ?_; clear hK K
  refine steady_step (fun K hK => ?_); apply steady_op rfl; (focus (intro wx hw; go_simp; exact ⟨rfl, hw⟩)); go_simp; refine hK _ ?_; clear hK K
  refine steady_step (fun K hK => ?_); apply steady_op rfl; (focus (intro wx hw; go_simp; exact ⟨rfl, hw⟩)); go_simp; refine hK _ ?_; clear hK K
  refine steady_step (fun K hK => ?_); apply steady_op rfl; (focus (intro wx hw; have hcx := gr_cell (gr_trans (Gr.drew (Gr.refl _)) hw) c2; go_simp; exact ⟨rfl, hw⟩)); go_simp; refine hK _ ?_; clear hK K
  refine steady_step (fun K hK => ?_)
  apply steady_op rfl
  · intro wx hw; go_simp; exact (C2.out wx (gr_trans HG0.out (gr_trans (Gr.drew (Gr.refl _)) hw))).mono fun e w3 h => ⟨h.1, gr_trans hw h.2⟩
  go_simp; refine hK _ ?_; clear hK K
  refine steady_step (fun K hK => ?_); apply steady_op rfl; (focus (intro wx hw; go_simp; exact ⟨rfl, hw⟩)); go_simp; refine hK _ ?_; clear hK K
  refine steady_step (fun K hK => ?_); apply steady_op rfl; (focus (intro wx hw; go_simp; exact ⟨rfl, hw⟩)); go_simp; refine hK _ ?_; clear hK K
  refine steady_nil ?_
  intro wz hgz
  have HGz := Lib.hid (gr_trans HG0.out (gr_trans (Gr.drew (Gr.refl _)) hgz))
  clear hgz
  go_wp2
  go_ret2
  exact ⟨rfl, HGz.out⟩
end Sp
end Go.Proofs.Ythpnhanabcipmaa
namespace Go.Proofs.Ythpnhanabcipmaa
open Go.RowKit VecM
namespace Sp
def ΦB (gm b off N cv q : Nat) (v1 v2 : Value) (r1 r2 : Nat) (k : Nat) (v : Value) (_wn : World) : Prop :=
  match k with
  | 0 => v = .pointer (some ⟨gm, 0, none⟩)
  | 1 => v = .slice (some ⟨b, off, none⟩) N cv
  | 2 => v = .int .i64 (q : Int)
  | 3 => v = .pointer (some ⟨b, off + q * 2, none⟩)
  | 4 => v = .pointer (some ⟨b, off + q * 2, none⟩)
  | 5 => v = v1
  | 6 => ∃ x c, v = .slice x r1 c
  | 7 => v = .int .i64 (r1 : Nat)
  | 8 => v = .pointer (some ⟨gm, 0, none⟩)
  | 9 => v = .slice (some ⟨b, off, none⟩) N cv
  | 10 => v = .int .i64 (q : Int)
  | 11 => v = .pointer (some ⟨b, off + q * 2, none⟩)
  | 12 => v = .pointer (some ⟨b, off + q * 2 + 1, none⟩)
  | 13 => v = v2
  | 14 => ∃ x c, v = .slice x r2 c
  | 15 => v = .int .i64 (r2 : Nat)
  | 16 => v = .int .i64 (r1 : Nat)
  | 17 => v = .int .i64 (r2 : Nat)
  | _ => True
theorem ΦB_mono (gm b off N cv q : Nat) (v1 v2 : Value) (r1 r2 : Nat) : ∀ k v wn wn', Gr wn wn' → ΦB gm b off N cv q v1 v2 r1 r2 k v wn → ΦB gm b off N cv q v1 v2 r1 r2 k v wn' := fun _ _ _ _ _ h => h
set_option maxRecDepth 100000 in
set_option maxHeartbeats 4000000 in
theorem rblock_any (S : Nat → Sd) (v : Value) (N : Nat) (k : Int) (w : World) (hS : ∀ j, (S j).Ok w) (hv : Sgs w v N S) :
    Calls Try.prog 26 #[.agg (mdV v), .int .i64 k] w fun e w' => e = .returned (blR S N k) ∧ Gr w w' := by
  obtain ⟨xv, cv, rfl⟩ := slice_sgs hv
  have HG0 := Lib.hid (show Gr w (w.alloc (.cells (mdV (.slice xv N cv)) 41)) from (Gr.refl w).alloc _ _)
  have f0 := cell_md (heap_alloc_new w (.cells (mdV (.slice xv N cv)) 41))
  by_cases h0 : k < 0
  · have n0 : ¬ (0 : Int) ≤ k := by omega
    have hR := Lib.hid (fun (h1 : ¬ (k = -1 ∨ k = -2)) (h5 : ¬ k = -5) => blR_none (S := S) (N := N) (k := k) (by omega) h1 h5)
    have hR1 := Lib.hid (fun (h1 : k = -1 ∨ k = -2) => blR_one (S := S) (N := N) (k := k) h1)
    have hR5 := Lib.hid (blR_five (S := S) (N := N))
    clear hv hS
    unfold mdV at *
    by_cases k1 : k = -1
    · subst k1
      rw [hR1.out (.inl rfl)]
      clear hR1
      go_enter Try.func26, Try.ntmps26
      go_wp2
      go_ret2
      exact ⟨rfl, HG0.out⟩
    by_cases k2 : k = -2
    · subst k2
      rw [hR1.out (.inr rfl)]
      clear hR1
      go_enter Try.func26, Try.ntmps26
      go_wp2
      go_ret2
      exact ⟨rfl, HG0.out⟩
    by_cases k5 : k = -5
    · subst k5
      rw [hR5.out]
      clear hR5 hR1
      go_enter Try.func26, Try.ntmps26
      go_wp2
      go_ret2
      exact ⟨rfl, HG0.out⟩
    rw [hR.out (by omega) k5]
    have s1 := beq_no k1
    have s2 := beq_no k2
    have s5 := beq_no k5
    clear hR hR1 hR5
    go_enter Try.func26, Try.ntmps26
    go_wp2
    go_ret2
    exact ⟨rfl, HG0.out⟩
  obtain ⟨q, rfl⟩ := Int.eq_ofNat_of_zero_le (show 0 ≤ k by omega)
  have t0 : ¬ (q : Int) < 0 := by omega
  have t1 : ((q : Int) == -1) = false := beq_no (by omega)
  have t2 : ((q : Int) == -2) = false := beq_no (by omega)
  have t5 : ((q : Int) == -5) = false := beq_no (by omega)
  by_cases h1 : N ≤ q
  · rw [blR_none (S := S) (N := N) (k := (q : Int)) (by omega) (by omega) (by omega)]
    have s1 : (N : Int) ≤ (q : Int) := by omega
    clear hv hS
    unfold mdV at *
    go_enter Try.func26, Try.ntmps26
    go_wp2
    go_ret2
    exact ⟨rfl, HG0.out⟩
  rcases hv with ⟨h, _⟩ | ⟨hN, b, off, cap, hb, hc⟩
  · exact absurd h (by omega)
  injection hb with hb1 _ hb2
  subst hb1 hb2
  have hq : q < N := by omega
  rw [blR_in hq]
  have C1 := Lib.hid (fun wx (h : Gr w wx) => rtypes_any (w := wx) (by have := (hS q).li; omega) (i64s_gr (hS q).i h))
  have C2 := Lib.hid (fun wx (h : Gr w wx) => rtypes_any (w := wx) (by have := (hS q).lo; omega) (i64s_gr (hS q).o h))
  have c1 := gr_cell HG0.out (hc q hq).1
  have c2 := gr_cell HG0.out (hc q hq).2
  have s1 : ¬ (N : Int) ≤ (q : Int) := by omega
  have s3 : (q : Int) < (N : Int) := by omega
  clear hS hc
  unfold TYS at *
  generalize imL (S q).z (S q).n = l1 at *
  generalize imL (S q).z' (S q).n' = l2 at *
  generalize hr1 : l1.length = r1 at *
  generalize hr2 : l2.length = r2 at *
  clear hr1 hr2
  generalize hv1 : (S q).i = v1 at *
  generalize hv2 : (S q).o = v2 at *
  clear hv1 hv2
  have fm := f0
  unfold mdV at *
  go_enter Try.func26, Try.ntmps26
  go_upto_region 7 with (fail)
  generalize w.heap.size = gm at *
  generalize w.alloc (.cells #[.slice (some ⟨b, off, none⟩) N cv, .slice none 0 0, .slice none 0 0, .slice none 0 0, .slice none 0 0, .slice none 0 0, .slice none 0 0, .int .i64 0, .slice none 0 0, .slice none 0 0, .slice none 0 0] 41) = w0 at *
  refine wp_region_net (ΦB gm b off N cv q v1 v2 r1 r2) (by kernel_rfl) (by kernel_rfl) (ΦB_mono _ _ _ _ _ _ _ _ _ _) ?_ ?_
  · refine ⟨?_, ?_, ?_, ?_, ?_, ?_, ?_, ?_, ?_, ?_, ?_, ?_, ?_, ?_, ?_, ?_, ?_, ?_, trivial⟩
    · refine NetStep.of rfl fun ρ wx hw hρc hρf hin hdep => ?_
      have e2 : ρ (.tmp 2) = (.pointer (some ⟨gm, 0, none⟩)) := hin 2 (by kernel_rfl)
      go_simp
      exact ⟨rfl, Gr.refl _⟩
    · refine NetStep.of rfl fun ρ wx hw hρc hρf hin hdep => ?_
      have e : ρ (.tmp 23) = (.pointer (some ⟨gm, 0, none⟩)) := hdep 0 23 (by kernel_rfl)
      have hcx := gr_cell (gr_trans (Gr.drew (Gr.refl _)) hw) fm
      go_simp
      exact ⟨rfl, Gr.refl _⟩
    · refine NetStep.of rfl fun ρ wx hw hρc hρf hin hdep => ?_
      have e1 : ρ (.tmp 1) = (.int .i64 (q : Int)) := hin 1 (by kernel_rfl)
      go_simp
      exact ⟨rfl, Gr.refl _⟩
    · refine NetStep.of rfl fun ρ wx hw hρc hρf hin hdep => ?_
      have e : ρ (.tmp 24) = (.slice (some ⟨b, off, none⟩) N cv) := hdep 1 24 (by kernel_rfl)
      have e' : ρ (.tmp 25) = (.int .i64 (q : Int)) := hdep 2 25 (by kernel_rfl)
      go_simp
      exact ⟨rfl, Gr.refl _⟩
    · refine NetStep.of rfl fun ρ wx hw hρc hρf hin hdep => ?_
      have e : ρ (.tmp 26) = (.pointer (some ⟨b, off + q * 2, none⟩)) := hdep 3 26 (by kernel_rfl)
      go_simp
      exact ⟨rfl, Gr.refl _⟩
    · refine NetStep.of rfl fun ρ wx hw hρc hρf hin hdep => ?_
      have e : ρ (.tmp 27) = (.pointer (some ⟨b, off + q * 2, none⟩)) := hdep 4 27 (by kernel_rfl)
      have hcx := gr_cell (gr_trans (Gr.drew (Gr.refl _)) hw) c1
      go_simp
      exact ⟨rfl, Gr.refl _⟩
    · refine NetStep.of rfl fun ρ wx hw hρc hρf hin hdep => ?_
      have e : ρ (.tmp 28) = v1 := hdep 5 28 (by kernel_rfl)
      have HGX := Lib.hid (gr_trans HG0.out (gr_trans (Gr.drew (Gr.refl _)) hw))
      go_simp
      exact (C1.out wx HGX.out).mono fun e w4 ⟨sv, h1, h2, h3⟩ => ⟨sv, h1, own_slice h3, h2⟩
    · refine NetStep.of rfl fun ρ wx hw hρc hρf hin hdep => ?_
      obtain ⟨x, c, e⟩ : ∃ x c, ρ (.tmp 29) = .slice x r1 c := hdep 6 29 (by kernel_rfl)
      go_simp
      exact ⟨rfl, Gr.refl _⟩
    · refine NetStep.of rfl fun ρ wx hw hρc hρf hin hdep => ?_
      have e2 : ρ (.tmp 2) = (.pointer (some ⟨gm, 0, none⟩)) := hin 2 (by kernel_rfl)
      go_simp
      exact ⟨rfl, Gr.refl _⟩
    · refine NetStep.of rfl fun ρ wx hw hρc hρf hin hdep => ?_
      have e : ρ (.tmp 31) = (.pointer (some ⟨gm, 0, none⟩)) := hdep 8 31 (by kernel_rfl)
      have hcx := gr_cell (gr_trans (Gr.drew (Gr.refl _)) hw) fm
      go_simp
      exact ⟨rfl, Gr.refl _⟩
    · refine NetStep.of rfl fun ρ wx hw hρc hρf hin hdep => ?_
      have e1 : ρ (.tmp 1) = (.int .i64 (q : Int)) := hin 1 (by kernel_rfl)
      go_simp
      exact ⟨rfl, Gr.refl _⟩
    · refine NetStep.of rfl fun ρ wx hw hρc hρf hin hdep => ?_
      have e : ρ (.tmp 32) = (.slice (some ⟨b, off, none⟩) N cv) := hdep 9 32 (by kernel_rfl)
      have e' : ρ (.tmp 33) = (.int .i64 (q : Int)) := hdep 10 33 (by kernel_rfl)
      go_simp
      exact ⟨rfl, Gr.refl _⟩
    · refine NetStep.of rfl fun ρ wx hw hρc hρf hin hdep => ?_
      have e : ρ (.tmp 34) = (.pointer (some ⟨b, off + q * 2, none⟩)) := hdep 11 34 (by kernel_rfl)
      go_simp
      exact ⟨rfl, Gr.refl _⟩
    · refine NetStep.of rfl fun ρ wx hw hρc hρf hin hdep => ?_
      have e : ρ (.tmp 35) = (.pointer (some ⟨b, off + q * 2 + 1, none⟩)) := hdep 12 35 (by kernel_rfl)
      have hcx := gr_cell (gr_trans (Gr.drew (Gr.refl _)) hw) c2
      go_simp
      exact ⟨rfl, Gr.refl _⟩
    · refine NetStep.of rfl fun ρ wx hw hρc hρf hin hdep => ?_
      have e : ρ (.tmp 36) = v2 := hdep 13 36 (by kernel_rfl)
      have HGX := Lib.hid (gr_trans HG0.out (gr_trans (Gr.drew (Gr.refl _)) hw))
      go_simp
      exact (C2.out wx HGX.out).mono fun e w4 ⟨sv, h1, h2, h3⟩ => ⟨sv, h1, own_slice h3, h2⟩
    · refine NetStep.of rfl fun ρ wx hw hρc hρf hin hdep => ?_
      obtain ⟨x, c, e⟩ : ∃ x c, ρ (.tmp 37) = .slice x r2 c := hdep 14 37 (by kernel_rfl)
      go_simp
      exact ⟨rfl, Gr.refl _⟩
    · refine NetStep.of rfl fun ρ wx hw hρc hρf hin hdep => ?_
      have e : ρ (.tmp 30) = .int .i64 (r1 : Nat) := hdep 7 30 (by kernel_rfl)
      go_simp
      exact ⟨rfl, Gr.refl _⟩
    · refine NetStep.of rfl fun ρ wx hw hρc hρf hin hdep => ?_
      have e : ρ (.tmp 38) = .int .i64 (r2 : Nat) := hdep 15 38 (by kernel_rfl)
      go_simp
      exact ⟨rfl, Gr.refl _⟩
  · intro V wN hgN hV
    have a7 : V 4 = .int .i64 (r1 : Nat) := hV 16 _ 4 rfl rfl
    have a15 : V 5 = .int .i64 (r2 : Nat) := hV 17 _ 5 rfl rfl
    have HN := Lib.hid (gr_trans HG0.out (gr_trans (Gr.drew (Gr.refl _)) hgN))
    clear hV hgN
    simp only [putAll, Act.put, Option.map_some, Option.getD_some, List.setIfInBounds_toArray, List.set_cons_succ, List.set_cons_zero]
    rw [a7, a15]
    go_wp2
    go_ret2
    exact ⟨rfl, HN.out⟩
end Sp
end Go.Proofs.Ythpnhanabcipmaa
namespace Go.Proofs.Ythpnhanabcipmaa
open Go.RowKit VecM Ev
namespace Sp
theorem md_cells {w : World} {g : Nat} {cs : Array Value} {t : TypeId} {z : Nat × Nat} (h : w.heap[g]? = some (.cells cs t z)) : ∀ j u, cs.toList[j]? = some u → w.cell? ⟨g, 0 + j, none⟩ = some u := fun j u hu => by
  rw [Nat.zero_add]
  exact (cell_of_row _ _ j _ _ _ h).trans (by rw [← Array.getElem?_toList]; exact hu)
set_option maxRecDepth 100000 in
set_option maxHeartbeats 4000000 in
theorem one_any (S : Nat → Sd) (xv : Option Addr) (N cv : Nat) (k : Int) (w : World) (hS : ∀ j, (S j).Ok w) (hv : Sgs w (.slice xv N cv) N S) :
    Calls Try.prog 19 #[.agg (mdV (.slice xv N cv)), .int .i64 k] w fun e w' => e = .returned (.bool true) ∧ Gr w w' := by
  have A1 := Lib.hid (fun w1 (h : Gr w w1) => block_any S (.slice xv N cv) N k w1 (fun j => (hS j).gr h) (sgs_gr hv h))
  have A2 := Lib.hid (fun w1 (h : Gr w w1) => rblock_any S (.slice xv N cv) N k w1 (fun j => (hS j).gr h) (sgs_gr hv h))
  have A3 := Lib.hid (fun w1 (h : Gr w w1) => canon_fn S (.slice xv N cv) N k w1 (fun j => (hS j).gr h) (sgs_gr hv h))
  have A4 := Lib.hid (fun w1 (h : Gr w w1) => rcanon_fn S (.slice xv N cv) N k w1 (fun j => (hS j).gr h) (sgs_gr hv h))
  have HG0 := Lib.hid (show Gr w (w.alloc (.cells (mdV (.slice xv N cv)) 41)) from (Gr.refl w).alloc _ _)
  have HR0 := Lib.hid (heap_alloc_new w (.cells (mdV (.slice xv N cv)) 41))
  clear hv hS
  unfold blR at *
  generalize blI S N k = r1 at *
  generalize blO S N k = r2 at *
  generalize canI S N k = r3 at *
  unfold mdV at *
  go_enter Try.func19, Try.ntmps19
  go_upto_region 1 with (fail)
  generalize w.heap.size = gm at *
  generalize w.alloc (.cells #[.slice xv N cv, .slice none 0 0, .slice none 0 0, .slice none 0 0, .slice none 0 0, .slice none 0 0, .slice none 0 0, .int .i64 0, .slice none 0 0, .slice none 0 0, .slice none 0 0] 41) = w0 at *
  go_upto_region 2 with (first | (refine wpList_load_row rfl 41 _ rfl gm rfl 41 _ (0, 0) _ HR0.out Try.underlying41 rfl infoMd ?_) | (go_at_call 24; refine (A1.out _ HG0.out).mono ?_; rintro e w1 ⟨rfl, hg1⟩; have HG1 := Lib.hid (gr_trans HG0.out hg1); have HR1 := Lib.hid (gr_block hg1 HR0.out); clear hg1))
  go_upto_region 3 with (first | (refine wpList_load_row rfl 41 _ rfl gm rfl 41 _ (0, 0) _ HR1.out Try.underlying41 rfl infoMd ?_) | (go_at_call 26; refine (A2.out _ HG1.out).mono ?_; rintro e w2 ⟨rfl, hg2⟩; have HG2 := Lib.hid (gr_trans HG1.out hg2); have HR2 := Lib.hid (gr_block hg2 HR1.out); clear hg2))
  have LM := Lib.hid (md_cells HR2.out)
  clear HR0 HR1 HG0 HG1 A1 A2
  refine wp_region_steady (by kernel_rfl) (by kernel_rfl) ?_
  refine steady_step (fun K hK => ?_); apply steady_op rfl; (focus (intro wx hw; go_simp; exact ⟨rfl, hw⟩)); go_simp; refine hK _ ?_; clear hK K
  refine steady_step (fun K hK => ?_); apply steady_op rfl; (focus (intro wx hw; go_simp; exact ⟨rfl, hw⟩)); go_simp; refine hK _ ?_; clear hK K
  refine steady_step (fun K hK => ?_); apply steady_op rfl; (focus (intro wx hw; go_simp; exact ⟨rfl, hw⟩)); go_simp; refine hK _ ?_; clear hK K
  refine steady_step (fun K hK => ?_); apply steady_op rfl; (focus (intro wx hw; go_simp; exact ⟨rfl, hw⟩)); go_simp; refine hK _ ?_; clear hK K
  refine steady_step (fun K hK => ?_); apply steady_yes (by kernel_rfl); (focus (intro wx hw; go_simp; exact ⟨rfl, hw⟩)); go_simp; refine hK _ ?_; clear hK K
  refine steady_step (fun K hK => ?_); apply steady_yes (by kernel_rfl); (focus (intro wx hw; go_simp; exact ⟨rfl, hw⟩)); go_simp; refine hK _ ?_; clear hK K
  refine steady_step (fun K hK => ?_); apply steady_yes (by kernel_rfl); (focus (intro wx hw; go_simp; exact ⟨rfl, hw⟩)); go_simp; refine hK _ ?_; clear hK K
  refine steady_step (fun K hK => ?_); apply steady_op rfl; (focus (intro wx hw; go_simp; exact ⟨rfl, hw⟩)); go_simp; refine hK _ ?_; clear hK K
  refine steady_step (fun K hK => ?_); apply steady_op rfl; (focus (intro wx hw; go_simp; exact ⟨rfl, hw⟩)); go_simp; refine hK _ ?_; clear hK K
  refine steady_step (fun K hK => ?_)
  refine steady_cells_yes (by kernel_rfl) 41 _ rfl gm 0 rfl #[.slice xv N cv, .slice none 0 0, .slice none 0 0, .slice none 0 0, .slice none 0 0, .slice none 0 0, .slice none 0 0, .int .i64 0, .slice none 0 0, .slice none 0 0, .slice none 0 0] _ LM.out Try.underlying41 rfl infoMd ?_
  go_simp; refine hK _ ?_; clear hK K
  refine steady_step (fun K hK => ?_); apply steady_yes (by kernel_rfl); (focus (intro wx hw; go_simp; exact ⟨rfl, hw⟩)); go_simp; refine hK _ ?_; clear hK K
  refine steady_step (fun K hK => ?_)
  apply steady_yes (by kernel_rfl)
  · intro wx hw; go_simp; exact (A3.out wx (gr_trans HG2.out (gr_trans (Gr.drew (Gr.refl _)) hw))).mono fun e w3 h => ⟨h.1, gr_trans hw h.2⟩
  go_simp; refine hK _ ?_; clear hK K
  refine steady_step (fun K hK => ?_)
  refine steady_cells_yes (by kernel_rfl) 41 _ rfl gm 0 rfl #[.slice xv N cv, .slice none 0 0, .slice none 0 0, .slice none 0 0, .slice none 0 0, .slice none 0 0, .slice none 0 0, .int .i64 0, .slice none 0 0, .slice none 0 0, .slice none 0 0] _ LM.out Try.underlying41 rfl infoMd ?_
  go_simp; refine hK _ ?_; clear hK K
  refine steady_step (fun K hK => ?_); apply steady_yes (by kernel_rfl); (focus (intro wx hw; go_simp; exact ⟨rfl, hw⟩)); go_simp; refine hK _ ?_; clear hK K
  refine steady_step (fun K hK => ?_)
  apply steady_yes (by kernel_rfl)
  · intro wx hw; go_simp; exact (A4.out wx (gr_trans HG2.out (gr_trans (Gr.drew (Gr.refl _)) hw))).mono fun e w3 h => ⟨h.1, gr_trans hw h.2⟩
  go_simp; refine hK _ ?_; clear hK K
  refine steady_step (fun K hK => ?_); apply steady_yes (by kernel_rfl); (focus (intro wx hw; go_simp; exact ⟨rfl, hw⟩)); go_simp; refine hK _ ?_; clear hK K
  refine steady_step (fun K hK => ?_); apply steady_op rfl; (focus (intro wx hw; go_simp; exact ⟨rfl, hw⟩)); go_simp; refine hK _ ?_; clear hK K
  refine steady_step (fun K hK => ?_); apply steady_op rfl; (focus (intro wx hw; go_simp; exact ⟨rfl, hw⟩)); go_simp; refine hK _ ?_; clear hK K
  refine steady_nil ?_
  intro wz hgz
  have HGz := Lib.hid (gr_trans HG2.out (gr_trans (Gr.drew (Gr.refl _)) hgz))
  clear hgz
  go_wp2
  go_ret
  exact ⟨rfl, HGz.out⟩
set_option maxRecDepth 100000 in
set_option maxHeartbeats 8000000 in
theorem blocks_law (S : Nat → Sd) (xv : Option Addr) (N cv : Nat) (k : Int) (w : World) (hS : ∀ j, (S j).Ok w) (hv : Sgs w (.slice xv N cv) N S) :
    Calls Try.prog 4 #[.slice xv N cv, .int .i64 k] w fun e w' => e = .returned (.bool true) ∧ Gr w w' := by
  have A1 := Lib.hid (fun w1 (h : Gr w w1) (k : Int) => one_any S xv N cv k w1 (fun j => (hS j).gr h) (sgs_gr hv h))
  clear hv hS
  unfold mdV at A1
  go_enter Try.func4, Try.ntmps4
  go_wp2_with fail
  refine (awake_any _).mono ?_
  rintro e w1 ⟨rfl, hg1⟩
  have HG1 := Lib.hid hg1
  clear hg1
  have HR1 := Lib.hid (heap_alloc_new w1 (.cells (mdV (.slice none 0 0)) 41))
  go_upto_region 4 with (refine wpList_store_row rfl 41 _ _ rfl w1.heap.size (mdV _) rfl rfl 41 (mdV (.slice none 0 0)) HR1.out infoMd rfl (md_one _ _ _) ?_)
  have HRm := Lib.hid (setRow_block (c := mdV (.slice xv N cv)) HR1.out)
  have HG2 := Lib.hid (show Gr w ((w1.alloc (.cells (mdV (.slice none 0 0)) 41)).setRow w1.heap.size (mdV (.slice xv N cv))) from gr_setRow (gr_trans HG1.out ((Gr.refl _).alloc _ _)) HG1.out.size _)
  clear HR1 HG1
  unfold mdV at *
  generalize (w1.alloc (.cells #[.slice none 0 0, .slice none 0 0, .slice none 0 0, .slice none 0 0, .slice none 0 0, .slice none 0 0, .slice none 0 0, .int .i64 0, .slice none 0 0, .slice none 0 0, .slice none 0 0] 41)).setRow w1.heap.size #[.slice xv N cv, .slice none 0 0, .slice none 0 0, .slice none 0 0, .slice none 0 0, .slice none 0 0, .slice none 0 0, .int .i64 0, .slice none 0 0, .slice none 0 0, .slice none 0 0] = w2 at *
  generalize w1.heap.size = gm at *
  go_wp2_with fail
  go_loopw [6] (fun i wr => ∃ z : Int, -7 ≤ z ∧ z ≤ 302 ∧ i = .int .i64 z ∧ Gr w2 wr) (fun i _ => (400 - intOf i).toNat)
  case atStart => exact ⟨-7, by omega, by omega, rfl, Gr.refl _⟩
  case round =>
    obtain ⟨z, hz, hz', rfl, hg⟩ := hrel
    have HG := Lib.hid hg
    have HGW := Lib.hid (gr_trans HG2.out hg)
    have HRr := Lib.hid (gr_block hg HRm.out)
    clear hg
    by_cases hlt : z < min (N : Int) 300 + 2
    · go_wp2_with (first | (refine wpList_load_row rfl 41 _ rfl gm rfl 41 _ (0, 0) _ HRr.out Try.underlying41 rfl infoMd ?_) | (go_at_call 19; refine (A1.out _ HGW.out z).mono ?_; rintro e w3 ⟨rfl, hg3⟩; have HG3 := Lib.hid (gr_trans HG.out hg3); clear hg3))
      all_goals exact ⟨⟨z + 1, by omega, by omega, by go_num, HG3.out⟩, by simp [intOf]; omega⟩
    · go_wp2_with (first | (refine wpList_load_row rfl 41 _ rfl gm rfl 41 _ (0, 0) _ HRr.out Try.underlying41 rfl infoMd ?_) | (go_at_call 19; refine (A1.out _ HGW.out k).mono ?_; rintro e w3 ⟨rfl, hg3⟩; have HG3 := Lib.hid (gr_trans HGW.out hg3); clear hg3))
      all_goals
        go_ret
        exact ⟨rfl, HG3.out⟩
theorem split_blocks {v : Value} {N : Nat} {S : Nat → Sd} {k : Int} {w : World} (hS : ∀ j, (S j).Ok w) (hv : Sgs w v N S) :
    Calls Try.prog 4 #[v, .int .i64 k] w fun e w' => e = .returned (.bool true) ∧ Gr w w' := by
  obtain ⟨x, c, rfl⟩ := slice_sgs hv
  exact blocks_law S x N c k w hS hv
end Sp
end Go.Proofs.Ythpnhanabcipmaa
