/-
  Of layer 21: types of functions compared: SameSig; the function that Canon looks with.
-/
import Derived.Test.YthpnhanabcipmaaSpSo
import Derived.Test.YthpnhanabcipmaaSteady
namespace Go.Proofs.Ythpnhanabcipmaa
open Go.RowKit VecM
namespace Sp
/-- are these types the same? -/
def sdE (s t : Sd) : Bool := eqD s.z s.n t.z t.n && eqD s.z' s.n' t.z' t.n'
set_option maxHeartbeats 1000000 in
theorem same_sig2 (s t : Sd) (w : World) (hs : s.Ok w) (ht : t.Ok w) : Calls Try.prog 18 #[.agg (sgV s.i s.o), .agg (sgV t.i t.o)] w fun e w' => e = .returned (.bool (sdE s t)) ∧ Gr w w' := by
  have H1 := Lib.hid (fun w1 (h : Gr w w1) => same_any2 _ _ s.n t.n s.z t.z w1 (by have := hs.li; omega) (i64s_gr hs.i h) (i64s_gr ht.i h))
  have H2 := Lib.hid (fun w1 (h : Gr w w1) => same_any2 _ _ s.n' t.n' s.z' t.z' w1 (by have := hs.lo; omega) (i64s_gr hs.o h) (i64s_gr ht.o h))
  clear hs ht
  have HD := Lib.hid (show sdE s t = (eqD s.z s.n t.z t.n && eqD s.z' s.n' t.z' t.n') from rfl)
  generalize sdE s t = r at *
  generalize eqD s.z s.n t.z t.n = r1 at *
  generalize eqD s.z' s.n' t.z' t.n' = r2 at *
  unfold sgV
  unfold Sd.i Sd.o at *
  go_enter Try.func18, Try.ntmps18
  go_wp2_with fail
  refine (H1.out _ (((Gr.refl w).alloc _ _).alloc _ _)).mono ?_
  rintro e w1 ⟨rfl, hg1⟩
  obtain ⟨_, a1⟩ := cells2 (gr_block hg1 (heap_alloc2_old w _ _))
  obtain ⟨_, b1⟩ := cells2 (gr_block hg1 (heap_alloc2_new w _ _))
  have HG1 := Lib.hid (gr_trans (((Gr.refl w).alloc _ _).alloc _ _) hg1)
  clear hg1
  cases r1 with
  | false =>
    go_wp2
    go_ret
    exact ⟨by rw [HD.out]; rfl, HG1.out⟩
  | true =>
    go_wp2_with fail
    refine (H2.out _ HG1.out).mono ?_
    rintro e w2 ⟨rfl, hg2⟩
    have HG2 := Lib.hid (gr_trans HG1.out hg2)
    clear hg2 a1 b1
    go_wp2
    go_ret
    exact ⟨by rw [HD.out]; rfl, HG2.out⟩
set_option maxHeartbeats 2000000 in
theorem look_any (s t : Sd) (gm gk b off cap N k : Nat) (w : World) (hs : s.Ok w) (ht : t.Ok w) (hk : k < N) (hm : w.cell? ⟨gm, 0, none⟩ = some (.slice (some ⟨b, off, none⟩) N cap)) (hkk : w.cell? ⟨gk, 0, none⟩ = some (.int .i64 k))
    (h1 : w.cell? ⟨b, off + k * 2, none⟩ = some t.i) (h2 : w.cell? ⟨b, off + k * 2 + 1, none⟩ = some t.o) :
    Calls Try.prog 32 #[.agg (sgV s.i s.o), .pointer (some ⟨gm, 0, none⟩), .pointer (some ⟨gk, 0, none⟩)] w fun e w' => e = .returned (.bool (sdE s t)) ∧ Gr w w' := by
  have H1 := Lib.hid (fun w1 (h : Gr w w1) => equal_any _ _ s.n t.n s.z t.z w1 (by have := hs.li; omega) (i64s_gr hs.i h) (i64s_gr ht.i h))
  have H2 := Lib.hid (fun w1 (h : Gr w w1) => equal_any _ _ s.n' t.n' s.z' t.z' w1 (by have := hs.lo; omega) (i64s_gr hs.o h) (i64s_gr ht.o h))
  clear hs ht
  have HD := Lib.hid (show sdE s t = (eqD s.z s.n t.z t.n && eqD s.z' s.n' t.z' t.n') from rfl)
  generalize sdE s t = r at *
  generalize eqD s.z s.n t.z t.n = r1 at *
  generalize eqD s.z' s.n' t.z' t.n' = r2 at *
  unfold sgV
  unfold Sd.i Sd.o at *
  have HG0 := Lib.hid (show Gr w (w.alloc (.cells #[.slice s.x s.n s.c, .slice s.x' s.n' s.c'] 25)) from (Gr.refl w).alloc _ _)
  obtain ⟨f0, f1⟩ := cells2 (heap_alloc_new w (.cells #[.slice s.x s.n s.c, .slice s.x' s.n' s.c'] 25))
  have fm := gr_cell HG0.out hm
  have fk := gr_cell HG0.out hkk
  have g1 := gr_cell HG0.out h1
  have g2 := gr_cell HG0.out h2
  clear hm hkk h1 h2
  have T1 : (k : Int) < (N : Int) := by omega
  cases r1 with
  | false =>
    go_enter Try.func32, Try.ntmps32
    go_upto_region 1 with (fail)
    refine wp_region_steady (by kernel_rfl) (by kernel_rfl) ?_
    refine steady_step (fun K hK => ?_); apply steady_op rfl; (focus (intro wx hw; go_simp; exact ⟨rfl, hw⟩)); go_simp; refine hK _ ?_; clear hK K
    refine steady_step (fun K hK => ?_); apply steady_op rfl; (focus (intro wx hw; have hcx := gr_cell (gr_trans (Gr.drew (Gr.refl _)) hw) f0; go_simp; exact ⟨rfl, hw⟩)); go_simp; refine hK _ ?_; clear hK K
    refine steady_step (fun K hK => ?_); apply steady_op rfl; (focus (intro wx hw; go_simp; exact ⟨rfl, hw⟩)); go_simp; refine hK _ ?_; clear hK K
    refine steady_step (fun K hK => ?_); apply steady_op rfl; (focus (intro wx hw; have hcx := gr_cell (gr_trans (Gr.drew (Gr.refl _)) hw) fm; go_simp; exact ⟨rfl, hw⟩)); go_simp; refine hK _ ?_; clear hK K
    refine steady_step (fun K hK => ?_); apply steady_op rfl; (focus (intro wx hw; have hcx := gr_cell (gr_trans (Gr.drew (Gr.refl _)) hw) fk; go_simp; exact ⟨rfl, hw⟩)); go_simp; refine hK _ ?_; clear hK K
    refine steady_step (fun K hK => ?_); apply steady_op rfl; (focus (intro wx hw; go_simp; exact ⟨rfl, hw⟩)); go_simp; refine hK _ ?_; clear hK K
    refine steady_step (fun K hK => ?_); apply steady_op rfl; (focus (intro wx hw; go_simp; exact ⟨rfl, hw⟩)); go_simp; refine hK _ ?_; clear hK K
    refine steady_step (fun K hK => ?_); apply steady_op rfl; (focus (intro wx hw; have hcx := gr_cell (gr_trans (Gr.drew (Gr.refl _)) hw) g1; go_simp; exact ⟨rfl, hw⟩)); go_simp; refine hK _ ?_; clear hK K
    refine steady_step (fun K hK => ?_)
    apply steady_op rfl
    · intro wx hw; go_simp; exact (H1.out wx (gr_trans HG0.out (gr_trans (Gr.drew (Gr.refl _)) hw))).mono fun e w3 h => ⟨h.1, gr_trans hw h.2⟩
    go_simp; refine hK _ ?_; clear hK K
    refine steady_step (fun K hK => ?_); apply steady_op rfl; (focus (intro wx hw; go_simp; exact ⟨rfl, hw⟩)); go_simp; refine hK _ ?_; clear hK K
    refine steady_step (fun K hK => ?_); refine steady_no (by kernel_rfl) ?_; go_simp; refine hK _ ?_; clear hK K
    refine steady_step (fun K hK => ?_); refine steady_no (by kernel_rfl) ?_; go_simp; refine hK _ ?_; clear hK K
    refine steady_step (fun K hK => ?_); refine steady_no (by kernel_rfl) ?_; go_simp; refine hK _ ?_; clear hK K
    refine steady_step (fun K hK => ?_); refine steady_no (by kernel_rfl) ?_; go_simp; refine hK _ ?_; clear hK K
    refine steady_step (fun K hK => ?_); refine steady_no (by kernel_rfl) ?_; go_simp; refine hK _ ?_; clear hK K
    refine steady_step (fun K hK => ?_); refine steady_no (by kernel_rfl) ?_; go_simp; refine hK _ ?_; clear hK K
    refine steady_step (fun K hK => ?_); refine steady_no (by kernel_rfl) ?_; go_simp; refine hK _ ?_; clear hK K
    refine steady_step (fun K hK => ?_); refine steady_no (by kernel_rfl) ?_; go_simp; refine hK _ ?_; clear hK K
    refine steady_step (fun K hK => ?_); refine steady_no (by kernel_rfl) ?_; go_simp; refine hK _ ?_; clear hK K
    refine steady_step (fun K hK => ?_); apply steady_op rfl; (focus (intro wx hw; go_simp; exact ⟨rfl, hw⟩)); go_simp; refine hK _ ?_; clear hK K
    refine steady_step (fun K hK => ?_); apply steady_op rfl; (focus (intro wx hw; go_simp; exact ⟨rfl, hw⟩)); go_simp; refine hK _ ?_; clear hK K
    refine steady_nil ?_
    intro wz hgz
    have HGz := Lib.hid (gr_trans HG0.out (gr_trans (Gr.drew (Gr.refl _)) hgz))
    clear hgz
    go_wp2
    go_ret
    exact ⟨by rw [HD.out]; rfl, HGz.out⟩
  | true =>
    go_enter Try.func32, Try.ntmps32
    go_upto_region 1 with (fail)
    refine wp_region_steady (by kernel_rfl) (by kernel_rfl) ?_
    refine steady_step (fun K hK => ?_); apply steady_op rfl; (focus (intro wx hw; go_simp; exact ⟨rfl, hw⟩)); go_simp; refine hK _ ?_; clear hK K
    refine steady_step (fun K hK => ?_); apply steady_op rfl; (focus (intro wx hw; have hcx := gr_cell (gr_trans (Gr.drew (Gr.refl _)) hw) f0; go_simp; exact ⟨rfl, hw⟩)); go_simp; refine hK _ ?_; clear hK K
    refine steady_step (fun K hK => ?_); apply steady_op rfl; (focus (intro wx hw; go_simp; exact ⟨rfl, hw⟩)); go_simp; refine hK _ ?_; clear hK K
    refine steady_step (fun K hK => ?_); apply steady_op rfl; (focus (intro wx hw; have hcx := gr_cell (gr_trans (Gr.drew (Gr.refl _)) hw) fm; go_simp; exact ⟨rfl, hw⟩)); go_simp; refine hK _ ?_; clear hK K
    refine steady_step (fun K hK => ?_); apply steady_op rfl; (focus (intro wx hw; have hcx := gr_cell (gr_trans (Gr.drew (Gr.refl _)) hw) fk; go_simp; exact ⟨rfl, hw⟩)); go_simp; refine hK _ ?_; clear hK K
    refine steady_step (fun K hK => ?_); apply steady_op rfl; (focus (intro wx hw; go_simp; exact ⟨rfl, hw⟩)); go_simp; refine hK _ ?_; clear hK K
    refine steady_step (fun K hK => ?_); apply steady_op rfl; (focus (intro wx hw; go_simp; exact ⟨rfl, hw⟩)); go_simp; refine hK _ ?_; clear hK K
    refine steady_step (fun K hK => ?_); apply steady_op rfl; (focus (intro wx hw; have hcx := gr_cell (gr_trans (Gr.drew (Gr.refl _)) hw) g1; go_simp; exact ⟨rfl, hw⟩)); go_simp; refine hK _ ?_; clear hK K
    refine steady_step (fun K hK => ?_)
    apply steady_op rfl
    · intro wx hw; go_simp; exact (H1.out wx (gr_trans HG0.out (gr_trans (Gr.drew (Gr.refl _)) hw))).mono fun e w3 h => ⟨h.1, gr_trans hw h.2⟩
    go_simp; refine hK _ ?_; clear hK K
    refine steady_step (fun K hK => ?_); apply steady_op rfl; (focus (intro wx hw; go_simp; exact ⟨rfl, hw⟩)); go_simp; refine hK _ ?_; clear hK K
    refine steady_step (fun K hK => ?_); apply steady_yes (by kernel_rfl); (focus (intro wx hw; go_simp; exact ⟨rfl, hw⟩)); go_simp; refine hK _ ?_; clear hK K
    refine steady_step (fun K hK => ?_); apply steady_yes (by kernel_rfl); (focus (intro wx hw; have hcx := gr_cell (gr_trans (Gr.drew (Gr.refl _)) hw) f1; go_simp; exact ⟨rfl, hw⟩)); go_simp; refine hK _ ?_; clear hK K
    refine steady_step (fun K hK => ?_); apply steady_yes (by kernel_rfl); (focus (intro wx hw; go_simp; exact ⟨rfl, hw⟩)); go_simp; refine hK _ ?_; clear hK K
    refine steady_step (fun K hK => ?_); apply steady_yes (by kernel_rfl); (focus (intro wx hw; have hcx := gr_cell (gr_trans (Gr.drew (Gr.refl _)) hw) fm; go_simp; exact ⟨rfl, hw⟩)); go_simp; refine hK _ ?_; clear hK K
    refine steady_step (fun K hK => ?_); apply steady_yes (by kernel_rfl); (focus (intro wx hw; have hcx := gr_cell (gr_trans (Gr.drew (Gr.refl _)) hw) fk; go_simp; exact ⟨rfl, hw⟩)); go_simp; refine hK _ ?_; clear hK K
    refine steady_step (fun K hK => ?_); apply steady_yes (by kernel_rfl); (focus (intro wx hw; go_simp; exact ⟨rfl, hw⟩)); go_simp; refine hK _ ?_; clear hK K
    refine steady_step (fun K hK => ?_); apply steady_yes (by kernel_rfl); (focus (intro wx hw; go_simp; exact ⟨rfl, hw⟩)); go_simp; refine hK _ ?_; clear hK K
    refine steady_step (fun K hK => ?_); apply steady_yes (by kernel_rfl); (focus (intro wx hw; have hcx := gr_cell (gr_trans (Gr.drew (Gr.refl _)) hw) g2; go_simp; exact ⟨rfl, hw⟩)); go_simp; refine hK _ ?_; clear hK K
    refine steady_step (fun K hK => ?_)
    apply steady_yes (by kernel_rfl)
    · intro wx hw; go_simp; exact (H2.out wx (gr_trans HG0.out (gr_trans (Gr.drew (Gr.refl _)) hw))).mono fun e w3 h => ⟨h.1, gr_trans hw h.2⟩
    go_simp; refine hK _ ?_; clear hK K
    refine steady_step (fun K hK => ?_); apply steady_op rfl; (focus (intro wx hw; go_simp; exact ⟨rfl, hw⟩)); go_simp; refine hK _ ?_; clear hK K
    refine steady_step (fun K hK => ?_); apply steady_op rfl; (focus (intro wx hw; go_simp; exact ⟨rfl, hw⟩)); go_simp; refine hK _ ?_; clear hK K
    refine steady_nil ?_
    intro wz hgz
    have HGz := Lib.hid (gr_trans HG0.out (gr_trans (Gr.drew (Gr.refl _)) hgz))
    clear hgz
    go_wp2
    go_ret
    exact ⟨by rw [HD.out]; rfl, HGz.out⟩
end Sp
end Go.Proofs.Ythpnhanabcipmaa
