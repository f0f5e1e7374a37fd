/-
  Of layer 21: a function's type's image, by split and by the reference.
-/
import Derived.Test.YthpnhanabcipmaaSpRo
import Derived.Test.YthpnhanabcipmaaNetTail
import Derived.Test.YthpnhanabcipmaaSep
namespace Go.Proofs.Ythpnhanabcipmaa
open Go.RowKit VecM
namespace Sp
theorem infoSg : (Try.prog.info? 25).map (·.size) = some 2 := by kernel_rfl
theorem own_setRow {w : World} {base : Nat} {e : TypeId} {size : Nat} {v : Value} {n : Nat} {xs : List Value} (h : w.ownsRow base e size v n xs) {g : Nat} (hg : g < base) (c : Array Value) : (w.setRow g c).ownsRow base e size v n xs :=
  Sep.owns (ex := fun k => k = g) (w := w) ⟨rfl, rfl, rfl, by simp [World.setRow], fun i _ hn => setRow_block_other hn⟩ h (fun k hk e => by have := (h.lt k hk).1; omega)
theorem cells2 {w : World} {g : Nat} {a b : Value} {t : TypeId} {z : Nat × Nat} (h : w.heap[g]? = some (.cells #[a, b] t z)) : w.cell? ⟨g, 0, none⟩ = some a ∧ w.cell? ⟨g, 1, none⟩ = some b :=
  ⟨(cell_of_row _ _ 0 _ _ _ h).trans rfl, (cell_of_row _ _ 1 _ _ _ h).trans rfl⟩
def sgV (a b : Value) : Array Value := #[a, b]
theorem sg_one (x y : Option Addr) (n m c d : Nat) : (sgV (.slice x n c) (.slice y m d)).all (·.oneCell') = true := by kernel_rfl
/-- a type's image, in new memory -/
def SGS (l1 l2 : List Int) (w : World) (e : Ending) (w' : World) : Prop :=
  ∃ vi vo, e = .returned (.agg (sgV vi vo)) ∧ Gr w w' ∧ w'.ownsRow w.heap.size 3 1 vi l1.length (ivs l1) ∧ w'.ownsRow w.heap.size 3 1 vo l2.length (ivs l2)
def ΦS (b base : Nat) (s1 s2 : Value) (l1 l2 : List Int) (k : Nat) (v : Value) (wn : World) : Prop :=
  match k with
  | 0 => v = .pointer (some ⟨b, 0, none⟩)
  | 1 => v = s1
  | 2 => wn.ownsRow base 3 1 v l1.length (ivs l1)
  | 3 => v = .pointer (some ⟨b, 1, none⟩)
  | 4 => v = s2
  | 5 => wn.ownsRow base 3 1 v l2.length (ivs l2)
  | 6 => ∃ vi vo, v = .agg (sgV vi vo) ∧ wn.ownsRow base 3 1 vi l1.length (ivs l1) ∧ wn.ownsRow base 3 1 vo l2.length (ivs l2)
  | _ => True
theorem ΦS_mono (b base : Nat) (s1 s2 : Value) (l1 l2 : List Int) : ∀ k v wn wn', Gr wn wn' → ΦS b base s1 s2 l1 l2 k v wn → ΦS b base s1 s2 l1 l2 k v wn' := by
  intro k v wn wn' hg h
  match k with
  | 0 => exact h
  | 1 => exact h
  | 2 => exact owns_gr h hg
  | 3 => exact h
  | 4 => exact h
  | 5 => exact owns_gr h hg
  | 6 => obtain ⟨vi, vo, h1, h2, h3⟩ := h; exact ⟨vi, vo, h1, owns_gr h2 hg, owns_gr h3 hg⟩
  | k + 7 => trivial
set_option maxHeartbeats 2000000 in
theorem sig_any {x1 x2 : Option Addr} {n1 n2 c1 c2 : Nat} {z1 z2 : Nat → Int} {w : World} (hn1 : n1 ≤ 1099511627776) (hn2 : n2 ≤ 1099511627776) (h1 : I64s w (.slice x1 n1 c1) n1 z1) (h2 : I64s w (.slice x2 n2 c2) n2 z2) :
    Calls Try.prog 10 #[.agg (sgV (.slice x1 n1 c1) (.slice x2 n2 c2))] w (SGS (imL z1 n1) (imL z2 n2) w) := by
  have HT1 := Lib.hid (show ∀ wx, Gr w wx → Calls Try.prog _ _ wx (TYS (imL z1 n1) wx) from fun wx hg => types_any (w := wx) hn1 (i64s_gr h1 hg))
  have HT2 := Lib.hid (show ∀ wx, Gr w wx → Calls Try.prog _ _ wx (TYS (imL z2 n2) wx) from fun wx hg => types_any (w := wx) hn2 (i64s_gr h2 hg))
  clear h1 h2
  unfold sgV
  generalize imL z1 n1 = l1 at *
  generalize imL z2 n2 = l2 at *
  go_enter Try.func10, Try.ntmps10
  go_wp2_with fail
  have HB0 := Lib.hid (show ((w.alloc (.cells #[.slice x1 n1 c1, .slice x2 n2 c2] 25)).alloc (.cells #[.slice none 0 0, .slice none 0 0] 25)).heap[w.heap.size]? = _ from heap_alloc2_old w _ _)
  have HB1 := Lib.hid (show ((w.alloc (.cells #[.slice x1 n1 c1, .slice x2 n2 c2] 25)).alloc (.cells #[.slice none 0 0, .slice none 0 0] 25)).heap[w.heap.size + 1]? = _ from heap_alloc2_new w _ _)
  have HG := Lib.hid (show Gr w ((w.alloc (.cells #[.slice x1 n1 c1, .slice x2 n2 c2] 25)).alloc (.cells #[.slice none 0 0, .slice none 0 0] 25)) from ((Gr.refl w).alloc _ _).alloc _ _)
  have HZ := Lib.hid (show ((w.alloc (.cells #[.slice x1 n1 c1, .slice x2 n2 c2] 25)).alloc (.cells #[.slice none 0 0, .slice none 0 0] 25)).heap.size = w.heap.size + 2 by simp)
  generalize (w.alloc (.cells #[.slice x1 n1 c1, .slice x2 n2 c2] 25)).alloc (.cells #[.slice none 0 0, .slice none 0 0] 25) = w3 at *
  have HD0 := Lib.hid (cells2 HB0.out).1
  have HD1 := Lib.hid (cells2 HB0.out).2
  refine wp_region_net_tail 7 (ΦS w.heap.size (w.heap.size + 2) (.slice x1 n1 c1) (.slice x2 n2 c2) l1 l2) (by kernel_rfl) (by kernel_rfl) (ΦS_mono _ _ _ _ _ _) ?_ ?_
  · simp only [List.take_succ_cons, List.take_zero]
    refine ⟨?_, ?_, ?_, ?_, ?_, ?_, ?_, trivial⟩
    · refine NetStep.of rfl fun ρ wx hw hρc hρf hin hdep => ?_
      have e1 : ρ (.tmp 1) = (.pointer (some ⟨w.heap.size, 0, none⟩)) := hin 1 (by kernel_rfl)
      go_simp
      exact ⟨rfl, Gr.refl _⟩
    · refine NetStep.of rfl fun ρ wx hw hρc hρf hin hdep => ?_
      have e3 : ρ (.tmp 3) = (.pointer (some ⟨w.heap.size, 0, none⟩)) := hdep 0 3 (by kernel_rfl)
      have hcx := gr_cell (gr_trans (Gr.drew (Gr.refl w3)) hw) HD0.out
      go_simp
      exact ⟨rfl, Gr.refl _⟩
    · refine NetStep.of rfl fun ρ wx hw hρc hρf hin hdep => ?_
      have e4 : ρ (.tmp 4) = (.slice x1 n1 c1) := hdep 1 4 (by kernel_rfl)
      have HGX := Lib.hid (gr_trans (Gr.drew (Gr.refl w3)) hw)
      go_simp
      exact (HT1.out wx (gr_trans HG.out HGX.out)).mono fun e w4 ⟨sv, h1, h2, h3⟩ => ⟨sv, h1, owns_base h3 (by have := HGX.out.size; have := HZ.out; omega), h2⟩
    · refine NetStep.of rfl fun ρ wx hw hρc hρf hin hdep => ?_
      have e1 : ρ (.tmp 1) = (.pointer (some ⟨w.heap.size, 0, none⟩)) := hin 1 (by kernel_rfl)
      go_simp
      exact ⟨rfl, Gr.refl _⟩
    · refine NetStep.of rfl fun ρ wx hw hρc hρf hin hdep => ?_
      have e6 : ρ (.tmp 6) = (.pointer (some ⟨w.heap.size, 1, none⟩)) := hdep 3 6 (by kernel_rfl)
      have hcx := gr_cell (gr_trans (Gr.drew (Gr.refl w3)) hw) HD1.out
      go_simp
      exact ⟨rfl, Gr.refl _⟩
    · refine NetStep.of rfl fun ρ wx hw hρc hρf hin hdep => ?_
      have e7 : ρ (.tmp 7) = (.slice x2 n2 c2) := hdep 4 7 (by kernel_rfl)
      have HGX := Lib.hid (gr_trans (Gr.drew (Gr.refl w3)) hw)
      go_simp
      exact (HT2.out wx (gr_trans HG.out HGX.out)).mono fun e w4 ⟨sv, h1, h2, h3⟩ => ⟨sv, h1, owns_base h3 (by have := HGX.out.size; have := HZ.out; omega), h2⟩
    · refine NetStep.of rfl fun ρ wx hw hρc hρf hin hdep => ?_
      have e5 := Lib.hid (show wx.ownsRow (w.heap.size + 2) 3 1 (ρ (.tmp 5)) l1.length (ivs l1) from hdep 2 5 (by kernel_rfl))
      have e8 := Lib.hid (show wx.ownsRow (w.heap.size + 2) 3 1 (ρ (.tmp 8)) l2.length (ivs l2) from hdep 5 8 (by kernel_rfl))
      obtain ⟨x5, c5, h5⟩ := own_slice e5.out
      obtain ⟨x8, c8, h8⟩ := own_slice e8.out
      have f5 := e5.out
      have f8 := e8.out
      rw [h5] at f5
      rw [h8] at f8
      have F5 := Lib.hid f5
      have F8 := Lib.hid f8
      clear f5 f8 e5 e8
      go_simp
      exact ⟨⟨_, _, rfl, F5.out, F8.out⟩, Gr.refl _⟩
  · intro V wN hgN hV
    obtain ⟨vi, vo, hs9, hO1, hO2⟩ := hV 6 _ 9 (by decide) rfl rfl
    have HO1 := Lib.hid hO1
    have HO2 := Lib.hid hO2
    obtain ⟨xi, ci, rfl⟩ := own_slice hO1
    obtain ⟨xo, co, rfl⟩ := own_slice hO2
    have HN := Lib.hid (gr_trans (Gr.drew (Gr.refl w3)) hgN)
    have HI5 := Lib.hid (gr_block HN.out HB1.out)
    clear hV hgN hO1 hO2
    simp only [List.take_succ_cons, List.take_zero, List.drop_succ_cons, List.drop_zero, putAll, Act.put, Option.map_some, Option.getD_some, List.setIfInBounds_toArray, List.set_cons_succ, List.set_cons_zero]
    rw [hs9]
    clear hs9
    refine wpList_store_row rfl 25 _ _ rfl (w.heap.size + 1) (sgV _ _) rfl rfl 25 (sgV (.slice none 0 0) (.slice none 0 0)) HI5.out infoSg rfl (sg_one _ _ _ _ _ _) ?_
    have HS := Lib.hid (setRow_block (c := sgV (.slice xi l1.length ci) (.slice xo l2.length co)) HI5.out)
    go_wp2
    exact bodyPost_ret (v := .agg (sgV (.slice xi l1.length ci) (.slice xo l2.length co))) (results_cell_row Try.results10 _ _ (w.heap.size + 1) 25 _ (0, 0) _ rfl HS.out Try.underlying25 rfl infoSg) rfl
      ⟨_, _, rfl, gr_setRow (gr_trans HG.out HN.out) (by omega) _, owns_base (own_setRow HO1.out (by omega) _) (by omega), owns_base (own_setRow HO2.out (by omega) _) (by omega)⟩
set_option maxHeartbeats 2000000 in
theorem rsig_any {x1 x2 : Option Addr} {n1 n2 c1 c2 : Nat} {z1 z2 : Nat → Int} {w : World} (hn1 : n1 ≤ 1099511627776) (hn2 : n2 ≤ 1099511627776) (h1 : I64s w (.slice x1 n1 c1) n1 z1) (h2 : I64s w (.slice x2 n2 c2) n2 z2) :
    Calls Try.prog 11 #[.agg (sgV (.slice x1 n1 c1) (.slice x2 n2 c2))] w (SGS (imL z1 n1) (imL z2 n2) w) := by
  have HT1 := Lib.hid (show ∀ wx, Gr w wx → Calls Try.prog _ _ wx (TYS (imL z1 n1) wx) from fun wx hg => rtypes_any (w := wx) hn1 (i64s_gr h1 hg))
  have HT2 := Lib.hid (show ∀ wx, Gr w wx → Calls Try.prog _ _ wx (TYS (imL z2 n2) wx) from fun wx hg => rtypes_any (w := wx) hn2 (i64s_gr h2 hg))
  clear h1 h2
  unfold sgV
  generalize imL z1 n1 = l1 at *
  generalize imL z2 n2 = l2 at *
  go_enter Try.func11, Try.ntmps11
  go_wp2_with fail
  have HB0 := Lib.hid (show ((w.alloc (.cells #[.slice x1 n1 c1, .slice x2 n2 c2] 25)).alloc (.cells #[.slice none 0 0, .slice none 0 0] 25)).heap[w.heap.size]? = _ from heap_alloc2_old w _ _)
  have HB1 := Lib.hid (show ((w.alloc (.cells #[.slice x1 n1 c1, .slice x2 n2 c2] 25)).alloc (.cells #[.slice none 0 0, .slice none 0 0] 25)).heap[w.heap.size + 1]? = _ from heap_alloc2_new w _ _)
  have HG := Lib.hid (show Gr w ((w.alloc (.cells #[.slice x1 n1 c1, .slice x2 n2 c2] 25)).alloc (.cells #[.slice none 0 0, .slice none 0 0] 25)) from ((Gr.refl w).alloc _ _).alloc _ _)
  have HZ := Lib.hid (show ((w.alloc (.cells #[.slice x1 n1 c1, .slice x2 n2 c2] 25)).alloc (.cells #[.slice none 0 0, .slice none 0 0] 25)).heap.size = w.heap.size + 2 by simp)
  generalize (w.alloc (.cells #[.slice x1 n1 c1, .slice x2 n2 c2] 25)).alloc (.cells #[.slice none 0 0, .slice none 0 0] 25) = w3 at *
  have HD0 := Lib.hid (cells2 HB0.out).1
  have HD1 := Lib.hid (cells2 HB0.out).2
  refine wp_region_net_tail 7 (ΦS w.heap.size (w.heap.size + 2) (.slice x1 n1 c1) (.slice x2 n2 c2) l1 l2) (by kernel_rfl) (by kernel_rfl) (ΦS_mono _ _ _ _ _ _) ?_ ?_
  · simp only [List.take_succ_cons, List.take_zero]
    refine ⟨?_, ?_, ?_, ?_, ?_, ?_, ?_, trivial⟩
    · refine NetStep.of rfl fun ρ wx hw hρc hρf hin hdep => ?_
      have e1 : ρ (.tmp 1) = (.pointer (some ⟨w.heap.size, 0, none⟩)) := hin 1 (by kernel_rfl)
      go_simp
      exact ⟨rfl, Gr.refl _⟩
    · refine NetStep.of rfl fun ρ wx hw hρc hρf hin hdep => ?_
      have e3 : ρ (.tmp 3) = (.pointer (some ⟨w.heap.size, 0, none⟩)) := hdep 0 3 (by kernel_rfl)
      have hcx := gr_cell (gr_trans (Gr.drew (Gr.refl w3)) hw) HD0.out
      go_simp
      exact ⟨rfl, Gr.refl _⟩
    · refine NetStep.of rfl fun ρ wx hw hρc hρf hin hdep => ?_
      have e4 : ρ (.tmp 4) = (.slice x1 n1 c1) := hdep 1 4 (by kernel_rfl)
      have HGX := Lib.hid (gr_trans (Gr.drew (Gr.refl w3)) hw)
      go_simp
      exact (HT1.out wx (gr_trans HG.out HGX.out)).mono fun e w4 ⟨sv, h1, h2, h3⟩ => ⟨sv, h1, owns_base h3 (by have := HGX.out.size; have := HZ.out; omega), h2⟩
    · refine NetStep.of rfl fun ρ wx hw hρc hρf hin hdep => ?_
      have e1 : ρ (.tmp 1) = (.pointer (some ⟨w.heap.size, 0, none⟩)) := hin 1 (by kernel_rfl)
      go_simp
      exact ⟨rfl, Gr.refl _⟩
    · refine NetStep.of rfl fun ρ wx hw hρc hρf hin hdep => ?_
      have e6 : ρ (.tmp 6) = (.pointer (some ⟨w.heap.size, 1, none⟩)) := hdep 3 6 (by kernel_rfl)
      have hcx := gr_cell (gr_trans (Gr.drew (Gr.refl w3)) hw) HD1.out
      go_simp
      exact ⟨rfl, Gr.refl _⟩
    · refine NetStep.of rfl fun ρ wx hw hρc hρf hin hdep => ?_
      have e7 : ρ (.tmp 7) = (.slice x2 n2 c2) := hdep 4 7 (by kernel_rfl)
      have HGX := Lib.hid (gr_trans (Gr.drew (Gr.refl w3)) hw)
      go_simp
      exact (HT2.out wx (gr_trans HG.out HGX.out)).mono fun e w4 ⟨sv, h1, h2, h3⟩ => ⟨sv, h1, owns_base h3 (by have := HGX.out.size; have := HZ.out; omega), h2⟩
    · refine NetStep.of rfl fun ρ wx hw hρc hρf hin hdep => ?_
      have e5 := Lib.hid (show wx.ownsRow (w.heap.size + 2) 3 1 (ρ (.tmp 5)) l1.length (ivs l1) from hdep 2 5 (by kernel_rfl))
      have e8 := Lib.hid (show wx.ownsRow (w.heap.size + 2) 3 1 (ρ (.tmp 8)) l2.length (ivs l2) from hdep 5 8 (by kernel_rfl))
      obtain ⟨x5, c5, h5⟩ := own_slice e5.out
      obtain ⟨x8, c8, h8⟩ := own_slice e8.out
      have f5 := e5.out
      have f8 := e8.out
      rw [h5] at f5
      rw [h8] at f8
      have F5 := Lib.hid f5
      have F8 := Lib.hid f8
      clear f5 f8 e5 e8
      go_simp
      exact ⟨⟨_, _, rfl, F5.out, F8.out⟩, Gr.refl _⟩
  · intro V wN hgN hV
    obtain ⟨vi, vo, hs9, hO1, hO2⟩ := hV 6 _ 9 (by decide) rfl rfl
    have HO1 := Lib.hid hO1
    have HO2 := Lib.hid hO2
    obtain ⟨xi, ci, rfl⟩ := own_slice hO1
    obtain ⟨xo, co, rfl⟩ := own_slice hO2
    have HN := Lib.hid (gr_trans (Gr.drew (Gr.refl w3)) hgN)
    have HI5 := Lib.hid (gr_block HN.out HB1.out)
    clear hV hgN hO1 hO2
    simp only [List.take_succ_cons, List.take_zero, List.drop_succ_cons, List.drop_zero, putAll, Act.put, Option.map_some, Option.getD_some, List.setIfInBounds_toArray, List.set_cons_succ, List.set_cons_zero]
    rw [hs9]
    clear hs9
    refine wpList_store_row rfl 25 _ _ rfl (w.heap.size + 1) (sgV _ _) rfl rfl 25 (sgV (.slice none 0 0) (.slice none 0 0)) HI5.out infoSg rfl (sg_one _ _ _ _ _ _) ?_
    have HS := Lib.hid (setRow_block (c := sgV (.slice xi l1.length ci) (.slice xo l2.length co)) HI5.out)
    go_wp2
    exact bodyPost_ret (v := .agg (sgV (.slice xi l1.length ci) (.slice xo l2.length co))) (results_cell_row Try.results11 _ _ (w.heap.size + 1) 25 _ (0, 0) _ rfl HS.out Try.underlying25 rfl infoSg) rfl
      ⟨_, _, rfl, gr_setRow (gr_trans HG.out HN.out) (by omega) _, owns_base (own_setRow HO1.out (by omega) _) (by omega), owns_base (own_setRow HO2.out (by omega) _) (by omega)⟩
end Sp
end Go.Proofs.Ythpnhanabcipmaa
