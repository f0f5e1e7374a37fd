/-
  Stage 2's awake: the answers that the document fixes by number.
-/
import Derived.Test.YthdklnkaeddogabPut
import Derived.Test.YthdklnkaeddogabNet
namespace Go.Proofs.Ythdklnkaeddogab
open Go.RowKit VecM
namespace Aw
def f1 : Nat → Int := fun j => if j = 0 then 1 else 2
def b1 : Nat → Int := ofK (fun _ => 0) 32 f1 (ofN 32 2)
def f2 : Nat → Int := fun _ => 1099511627783
def b2 : Nat → Int := ofK (fun _ => 0) 64 f2 (ofN 64 1)
def ts : Nat → Int := fun j => if j = 0 then 123 else 127
def vs : Nat → Nat → Int := fun j => if j = 0 then b1 else b2
def fx : Nat → Int := fun j => if j = 0 then 8589934593 else if j = 1 then 0 else 7
theorem b1_byt : Byt b1 := ofK_byt (fun _ => ⟨by decide, by decide⟩) _ _ _
theorem b2_byt : Byt b2 := ofK_byt (fun _ => ⟨by decide, by decide⟩) _ _ _
theorem vs_byt : ∀ j, Byt (vs j) := fun j => by
  unfold vs; split
  · exact b1_byt
  · exact b2_byt
theorem ts_ok : okT ts 2 := by
  intro j hj
  match j, hj with
  | 0, _ => decide
  | 1, _ => decide
theorem putL_eq : putL ts vs 2 = [8589934593, 0, 7] := by decide +kernel
theorem u64s3 : uvs [8589934593, 0, 7] = u64s fx 3 := rfl
def Φ (k : Nat) (v : Value) (w : World) : Prop :=
  match k with
  | 0 => I64s w v 2 ts
  | 1 => v = .agg (bs b1)
  | 2 => U64s w v 1 f2
  | 3 => v = .agg (bs b2)
  | 4 => Vecs w v 2 vs
  | 5 => ∃ sv, v = .tuple #[sv, .int .i64 0] ∧ U64s w sv 3 fx
  | 6 => ∃ sv, v = .tuple #[sv, .int .i64 0] ∧ U64s w sv 3 fx
  | 7 => U64s w v 3 fx
  | 8 => v = .int .i64 0
  | 9 => U64s w v 3 fx
  | 10 => v = .int .i64 0
  | _ => True
theorem Φ_mono : ∀ k v w w', Gr w w' → Φ k v w → Φ k v w' := by
  intro k v w w' hg h
  match k with
  | 0 => exact i64s_gr h hg
  | 1 => exact h
  | 2 => exact u64s_gr h hg
  | 3 => exact h
  | 4 => exact vecs_gr h hg
  | 5 => obtain ⟨sv, h1, h2⟩ := h; exact ⟨sv, h1, u64s_gr h2 hg⟩
  | 6 => obtain ⟨sv, h1, h2⟩ := h; exact ⟨sv, h1, u64s_gr h2 hg⟩
  | 7 => exact u64s_gr h hg
  | 8 => exact h
  | 9 => exact u64s_gr h hg
  | 10 => exact h
  | k + 11 => trivial
theorem awake_put (tv vv : Value) (w : World) (ht : I64s w tv 2 ts) (hv : Vecs w vv 2 vs) :
    Calls Try.prog 28 #[tv, vv] w fun e w' => ∃ u, e = .returned u ∧ Φ 5 u w' ∧ Gr w w' := by
  rcases ht with ⟨h, _⟩ | ⟨_, tb, to, tc, rfl, ht⟩
  · cases h
  rcases hv with ⟨h, _⟩ | ⟨_, b, off, cap, rfl, hv⟩
  · cases h
  refine (put_some tb to tc b off cap 2 ts vs vs_byt w (by decide) ts_ok ht hv).mono fun e w' ⟨sv, he, hg, ho⟩ => ⟨_, he, ⟨sv, rfl, ?_⟩, hg⟩
  rw [putL_eq, u64s3] at ho
  exact u64s_of_owns ho
theorem awake_of1 (sv : Value) (w : World) (h : U64s w sv 2 f1) : Calls Try.prog 26 #[.int .i64 32, sv] w fun e w' => e = .returned (.agg (bs b1)) ∧ Gr w w' := of_any 32 sv 2 f1 w h
theorem awake_of2 (sv : Value) (w : World) (h : U64s w sv 1 f2) : Calls Try.prog 26 #[.int .i64 64, sv] w fun e w' => e = .returned (.agg (bs b2)) ∧ Gr w w' := of_any 64 sv 1 f2 w h
theorem get_b1 : getI b1 64 0 = 8589934593 ∧ getI b1 64 1 = 0 := by decide +kernel
def f3 : Nat → Int := fun _ => 255
def b3 : Nat → Int := ofK (fun _ => 0) 8 f3 (ofN 8 1)
theorem b3_byt : Byt b3 := ofK_byt (fun _ => ⟨by decide, by decide⟩) _ _ _
theorem sgn_b3 : sgnI b3 8 0 = -1 := by decide +kernel
theorem awake_of3 (sv : Value) (w : World) (h : U64s w sv 1 f3) : Calls Try.prog 26 #[.int .i64 8, sv] w fun e w' => e = .returned (.agg (bs b3)) ∧ Gr w w' := of_any 8 sv 1 f3 w h
set_option maxHeartbeats 2000000 in
theorem awake (w : World) : Calls Try.prog 10 #[] w fun e w' => e = .returned (.bool true) ∧ Gr w w' := by
  go_enter Try.func10, Try.ntmps10
  go_upto_region 1 with (fail)
  refine wp_region_lit ?_
  go_wp2_with fail
  refine (awake_of1 _ _ (.inr ⟨by decide, w.heap.size, 0, 2, rfl, fun j hj => ?_⟩)).mono ?_
  · match j, hj with
    | 0, _ => exact (cell_of_row _ _ 0 _ _ _ (heap_alloc_new w _)).trans rfl
    | 1, _ => exact (cell_of_row _ _ 1 _ _ _ (heap_alloc_new w _)).trans rfl
  rintro e w1 ⟨rfl, hg⟩
  simp only []
  rename_i hK
  refine hK _ _ ?_
  clear hK
  have HG := Lib.hid (gr_trans ((Gr.refl w).alloc _ _) hg)
  clear hg
  refine wpList_plain rfl fun K hK => ?_
  go_simp; refine hK _ _ ?_; clear hK K
  refine wpList_store_row rfl 25 _ _ rfl w1.heap.size (bs b1) rfl rfl 25 (bs fun _ => 0) (heap_alloc_new w1 _) infoV rfl (bs_one _) ?_
  rw [World.setRow_alloc_new]
  go_upto_region 2 with (fail)
  refine wp_region_net Φ (by kernel_rfl) (by kernel_rfl) Φ_mono ?_ ?_
  · refine ⟨?_, ?_, ?_, ?_, ?_, ?_, ?_, ?_, ?_, ?_, ?_, trivial⟩
    · refine NetStep.of rfl fun ρ wx hw hρc hρf hin hdep => ?_
      go_simp
      refine ⟨.inr ⟨by decide, wx.heap.size, 0, 2, rfl, fun j hj => ?_⟩, (Gr.refl _).alloc _ _⟩
      match j, hj with
      | 0, _ => exact (cell_of_row _ _ 0 _ _ _ (heap_alloc_new wx _)).trans rfl
      | 1, _ => exact (cell_of_row _ _ 1 _ _ _ (heap_alloc_new wx _)).trans rfl
    · exact NetStep.load_row rfl 25 1 rfl (by kernel_rfl) w1.heap.size rfl 25 (bs b1) (0, 0) _ (heap_alloc_new w1 _) Try.underlying25 rfl infoV (fun _ _ => rfl)
    · refine NetStep.of rfl fun ρ wx hw hρc hρf hin hdep => ?_
      go_simp
      refine ⟨.inr ⟨by decide, wx.heap.size, 0, 1, rfl, fun j hj => ?_⟩, (Gr.refl _).alloc _ _⟩
      match j, hj with
      | 0, _ => exact (cell_of_row _ _ 0 _ _ _ (heap_alloc_new wx _)).trans rfl
    · refine NetStep.of rfl fun ρ wx hw hρc hρf hin hdep => ?_
      have h2 := Lib.hid (show U64s wx (ρ (.tmp 9)) 1 f2 from hdep 2 9 (by kernel_rfl))
      go_simp
      exact (awake_of2 _ wx h2.out).mono fun e w3 h => ⟨_, h.1, rfl, h.2⟩
    · refine NetStep.of rfl fun ρ wx hw hρc hρf hin hdep => ?_
      have h1 : ρ (.tmp 8) = .agg (bs b1) := hdep 1 8 (by kernel_rfl)
      have h3 : ρ (.tmp 10) = .agg (bs b2) := hdep 3 10 (by kernel_rfl)
      go_simp
      refine ⟨.inr ⟨by decide, wx.heap.size, 0, 2, rfl, fun j hj m hm => ?_⟩, (Gr.refl _).alloc _ _⟩
      match j, hj with
      | 0, _ =>
        match m, hm with
        | 0, _ => exact (cell_of_row _ _ 0 _ _ _ (heap_alloc_new wx _)).trans rfl
        | 1, _ => exact (cell_of_row _ _ 1 _ _ _ (heap_alloc_new wx _)).trans rfl
        | 2, _ => exact (cell_of_row _ _ 2 _ _ _ (heap_alloc_new wx _)).trans rfl
        | 3, _ => exact (cell_of_row _ _ 3 _ _ _ (heap_alloc_new wx _)).trans rfl
        | 4, _ => exact (cell_of_row _ _ 4 _ _ _ (heap_alloc_new wx _)).trans rfl
        | 5, _ => exact (cell_of_row _ _ 5 _ _ _ (heap_alloc_new wx _)).trans rfl
        | 6, _ => exact (cell_of_row _ _ 6 _ _ _ (heap_alloc_new wx _)).trans rfl
        | 7, _ => exact (cell_of_row _ _ 7 _ _ _ (heap_alloc_new wx _)).trans rfl
        | 8, _ => exact (cell_of_row _ _ 8 _ _ _ (heap_alloc_new wx _)).trans rfl
        | 9, _ => exact (cell_of_row _ _ 9 _ _ _ (heap_alloc_new wx _)).trans rfl
        | 10, _ => exact (cell_of_row _ _ 10 _ _ _ (heap_alloc_new wx _)).trans rfl
        | 11, _ => exact (cell_of_row _ _ 11 _ _ _ (heap_alloc_new wx _)).trans rfl
        | 12, _ => exact (cell_of_row _ _ 12 _ _ _ (heap_alloc_new wx _)).trans rfl
        | 13, _ => exact (cell_of_row _ _ 13 _ _ _ (heap_alloc_new wx _)).trans rfl
        | 14, _ => exact (cell_of_row _ _ 14 _ _ _ (heap_alloc_new wx _)).trans rfl
        | 15, _ => exact (cell_of_row _ _ 15 _ _ _ (heap_alloc_new wx _)).trans rfl
        | k + 16, h => omega
      | 1, _ =>
        match m, hm with
        | 0, _ => exact (cell_of_row _ _ 16 _ _ _ (heap_alloc_new wx _)).trans rfl
        | 1, _ => exact (cell_of_row _ _ 17 _ _ _ (heap_alloc_new wx _)).trans rfl
        | 2, _ => exact (cell_of_row _ _ 18 _ _ _ (heap_alloc_new wx _)).trans rfl
        | 3, _ => exact (cell_of_row _ _ 19 _ _ _ (heap_alloc_new wx _)).trans rfl
        | 4, _ => exact (cell_of_row _ _ 20 _ _ _ (heap_alloc_new wx _)).trans rfl
        | 5, _ => exact (cell_of_row _ _ 21 _ _ _ (heap_alloc_new wx _)).trans rfl
        | 6, _ => exact (cell_of_row _ _ 22 _ _ _ (heap_alloc_new wx _)).trans rfl
        | 7, _ => exact (cell_of_row _ _ 23 _ _ _ (heap_alloc_new wx _)).trans rfl
        | 8, _ => exact (cell_of_row _ _ 24 _ _ _ (heap_alloc_new wx _)).trans rfl
        | 9, _ => exact (cell_of_row _ _ 25 _ _ _ (heap_alloc_new wx _)).trans rfl
        | 10, _ => exact (cell_of_row _ _ 26 _ _ _ (heap_alloc_new wx _)).trans rfl
        | 11, _ => exact (cell_of_row _ _ 27 _ _ _ (heap_alloc_new wx _)).trans rfl
        | 12, _ => exact (cell_of_row _ _ 28 _ _ _ (heap_alloc_new wx _)).trans rfl
        | 13, _ => exact (cell_of_row _ _ 29 _ _ _ (heap_alloc_new wx _)).trans rfl
        | 14, _ => exact (cell_of_row _ _ 30 _ _ _ (heap_alloc_new wx _)).trans rfl
        | 15, _ => exact (cell_of_row _ _ 31 _ _ _ (heap_alloc_new wx _)).trans rfl
        | k + 16, h => omega
    · refine NetStep.of rfl fun ρ wx hw hρc hρf hin hdep => ?_
      have h0 := Lib.hid (show I64s wx (ρ (.tmp 7)) 2 ts from hdep 0 7 (by kernel_rfl))
      have h4 := Lib.hid (show Vecs wx (ρ (.tmp 11)) 2 vs from hdep 4 11 (by kernel_rfl))
      go_simp
      exact awake_put _ _ wx h0.out h4.out
    · refine NetStep.of rfl fun ρ wx hw hρc hρf hin hdep => ?_
      have h5 := Lib.hid (show Φ 5 (ρ (.tmp 12)) wx from hdep 5 12 (by kernel_rfl))
      go_simp
      exact ⟨h5.out, Gr.refl _⟩
    · refine NetStep.of rfl fun ρ wx hw hρc hρf hin hdep => ?_
      obtain ⟨sv, h6, hs⟩ : Φ 6 (ρ (.tmp 6)) wx := hdep 6 6 (by kernel_rfl)
      have HS := Lib.hid hs
      clear hs
      go_simp
      exact ⟨HS.out, Gr.refl _⟩
    · refine NetStep.of rfl fun ρ wx hw hρc hρf hin hdep => ?_
      obtain ⟨sv, h6, hs⟩ : Φ 6 (ρ (.tmp 6)) wx := hdep 6 6 (by kernel_rfl)
      clear hs
      go_simp
      exact ⟨rfl, Gr.refl _⟩
    · refine NetStep.of rfl fun ρ wx hw hρc hρf hin hdep => ?_
      have h7 := Lib.hid (show U64s wx (ρ (.tmp 13)) 3 fx from hdep 7 13 (by kernel_rfl))
      go_simp
      exact ⟨h7.out, Gr.refl _⟩
    · refine NetStep.of rfl fun ρ wx hw hρc hρf hin hdep => ?_
      have h8 : ρ (.tmp 14) = .int .i64 0 := hdep 8 14 (by kernel_rfl)
      go_simp
      exact ⟨rfl, Gr.refl _⟩
  · intro V w2 hg2 hV
    have h9 := Lib.hid (show U64s w2 (V 2) 3 fx from hV 9 _ 2 rfl rfl)
    have h10 : V 3 = .int .i64 0 := hV 10 _ 3 rfl rfl
    clear hV
    obtain ⟨b, off, cap, hv2, hcs⟩ : ∃ b off cap, V 2 = .slice (some ⟨b, off, none⟩) 3 cap ∧ ∀ j, j < 3 → w2.cell? ⟨b, off + j, none⟩ = some (.int .u64 (fx j)) := by
      rcases h9.out with ⟨h, _⟩ | ⟨_, b, off, cap, h, hc⟩
      · cases h
      · exact ⟨b, off, cap, h, hc⟩
    clear h9
    simp only [Exit.then, putAll, Act.put, Option.map_some, Option.getD_some, List.setIfInBounds_toArray, List.set_cons_succ, List.set_cons_zero]
    rename_i hK
    rw [h10, hv2]
    refine hK _ _ ?_
    clear hK h10 hv2
    have hblk := gr_block hg2 (heap_alloc_new w1 (.cells (bs b1) 25))
    have HB := Lib.hid hblk
    have hc0 : w2.cell? ⟨b, off, none⟩ = some (.int .u64 8589934593) := hcs 0 (by decide)
    have hc2 : w2.cell? ⟨b, off + 2, none⟩ = some (.int .u64 7) := hcs 2 (by decide)
    have HC0 := Lib.hid hc0
    have HC2 := Lib.hid hc2
    have HG2 := Lib.hid (gr_trans (gr_trans HG.out ((Gr.refl _).allocO _)) (gr_trans (Gr.drew (Gr.refl _)) hg2))
    clear hblk hc0 hc2 hcs hg2
    have CS := split_any b1 b1_byt
    rw [get_b1.1, get_b1.2] at CS
    have HS := Lib.hid CS
    clear CS
    have CG := signed_any b3 b3_byt 8 0
    rw [sgn_b3] at CG
    have HSg := Lib.hid CG
    clear CG
    have CL : ∀ w, Calls Try.prog 11 #[.int .i64 16] w fun e w' => e = .returned (.int .i64 8) ∧ w = w' := lanes_any 16
    have HL := Lib.hid CL
    clear CL
    go_wp2_with (first | (refine wpList_load_row rfl 25 _ rfl w1.heap.size rfl 25 (bs b1) (0, 0) _ HB.out Try.underlying25 rfl infoV ?_) | (go_at_call 22; refine (HS.out _).mono ?_; rintro e w3 ⟨rfl, hg3⟩; have hc0 := gr_cell hg3 HC0.out; have hc2 := gr_cell hg3 HC2.out; have HG3 := Lib.hid hg3; clear hg3) | (go_at_call 11; refine (HL.out _).mono ?_; rintro e w' ⟨rfl, rfl⟩))
    refine (awake_of3 _ _ (.inr ⟨by decide, w3.heap.size, 0, 1, rfl, fun j hj => ?_⟩)).mono ?_
    · match j, hj with
      | 0, _ => exact (cell_of_row _ _ 0 _ _ _ (heap_alloc_new w3 _)).trans rfl
    rintro e w4 ⟨rfl, hg4⟩
    have HG4 := Lib.hid hg4
    clear hg4
    go_wp2_with (go_at_call 15; refine (HSg.out _).mono ?_; rintro e w5 ⟨rfl, hg5⟩; have HG5 := Lib.hid hg5; clear hg5)
    go_ret
    exact ⟨rfl, gr_trans HG2.out (gr_trans HG3.out (gr_trans ((Gr.refl _).alloc _ _) (gr_trans HG4.out HG5.out)))⟩
end Aw
end Go.Proofs.Ythdklnkaeddogab
