/-
  Of layer 21: a function's type's image: its two rows lie apart.
-/
import Derived.Test.YthpnhanabcipmaaSpSg
namespace Go.Proofs.Ythpnhanabcipmaa
open Go.RowKit VecM
namespace Sp
/-- a type's image, in new memory, the two rows apart -/
def SGD (l1 l2 : List Int) (w : World) (e : Ending) (w' : World) : Prop :=
  ∃ vi vo, e = .returned (.agg (sgV vi vo)) ∧ Gr w w' ∧ w'.ownsRow w.heap.size 3 1 vi l1.length (ivs l1) ∧ w'.ownsRow w.heap.size 3 1 vo l2.length (ivs l2) ∧ ∀ q, vi.ownBlock = some q → vo.ownBlock ≠ some q
set_option maxHeartbeats 2000000 in
theorem sigd_any {x1 x2 : Option Addr} {n1 n2 c1 c2 : Nat} {z1 z2 : Nat → Int} {w : World} (hn1 : n1 ≤ 1099511627776) (hn2 : n2 ≤ 1099511627776) (h1 : I64s w (.slice x1 n1 c1) n1 z1) (h2 : I64s w (.slice x2 n2 c2) n2 z2) :
    Calls Try.prog 10 #[.agg (sgV (.slice x1 n1 c1) (.slice x2 n2 c2))] w (SGD (imL z1 n1) (imL z2 n2) w) := by
  have HT1 := Lib.hid (show ∀ wx, Gr w wx → Calls Try.prog _ _ wx (TYS (imL z1 n1) wx) from fun wx hg => types_any (w := wx) hn1 (i64s_gr h1 hg))
  have HT2 := Lib.hid (show ∀ wx, Gr w wx → Calls Try.prog _ _ wx (TYS (imL z2 n2) wx) from fun wx hg => types_any (w := wx) hn2 (i64s_gr h2 hg))
  clear h1 h2
  unfold sgV
  generalize imL z1 n1 = l1 at *
  generalize imL z2 n2 = l2 at *
  go_enter Try.func10, Try.ntmps10
  go_wp2_with fail
  have HB0 := Lib.hid (show ((w.alloc (.cells #[.slice x1 n1 c1, .slice x2 n2 c2] 25)).alloc (.cells #[.slice none 0 0, .slice none 0 0] 25)).heap[w.heap.size]? = _ from heap_alloc2_old w _ _)
  have HB1 := Lib.hid (show ((w.alloc (.cells #[.slice x1 n1 c1, .slice x2 n2 c2] 25)).alloc (.cells #[.slice none 0 0, .slice none 0 0] 25)).heap[w.heap.size + 1]? = _ from heap_alloc2_new w _ _)
  have HG := Lib.hid (show Gr w ((w.alloc (.cells #[.slice x1 n1 c1, .slice x2 n2 c2] 25)).alloc (.cells #[.slice none 0 0, .slice none 0 0] 25)) from ((Gr.refl w).alloc _ _).alloc _ _)
  have HZ := Lib.hid (show ((w.alloc (.cells #[.slice x1 n1 c1, .slice x2 n2 c2] 25)).alloc (.cells #[.slice none 0 0, .slice none 0 0] 25)).heap.size = w.heap.size + 2 by simp)
  generalize (w.alloc (.cells #[.slice x1 n1 c1, .slice x2 n2 c2] 25)).alloc (.cells #[.slice none 0 0, .slice none 0 0] 25) = w3 at *
  have HD0 := Lib.hid (cells2 HB0.out).1
  have HD1 := Lib.hid (cells2 HB0.out).2
  refine wp_region_net_tail 5 (ΦS w.heap.size (w.heap.size + 2) (.slice x1 n1 c1) (.slice x2 n2 c2) l1 l2) (by kernel_rfl) (by kernel_rfl) (ΦS_mono _ _ _ _ _ _) ?_ ?_
  · simp only [List.take_succ_cons, List.take_zero]
    refine ⟨?_, ?_, ?_, ?_, ?_, trivial⟩
    · refine NetStep.of rfl fun ρ wx hw hρc hρf hin hdep => ?_
      have e1 : ρ (.tmp 1) = (.pointer (some ⟨w.heap.size, 0, none⟩)) := hin 1 (by kernel_rfl)
      go_simp
      exact ⟨rfl, Gr.refl _⟩
    · refine NetStep.of rfl fun ρ wx hw hρc hρf hin hdep => ?_
      have e3 : ρ (.tmp 3) = (.pointer (some ⟨w.heap.size, 0, none⟩)) := hdep 0 3 (by kernel_rfl)
      have hcx := gr_cell (gr_trans (Gr.drew (Gr.refl w3)) hw) HD0.out
      go_simp
      exact ⟨rfl, Gr.refl _⟩
    · refine NetStep.of rfl fun ρ wx hw hρc hρf hin hdep => ?_
      have e4 : ρ (.tmp 4) = (.slice x1 n1 c1) := hdep 1 4 (by kernel_rfl)
      have HGX := Lib.hid (gr_trans (Gr.drew (Gr.refl w3)) hw)
      go_simp
      exact (HT1.out wx (gr_trans HG.out HGX.out)).mono fun e w4 ⟨sv, h1, h2, h3⟩ => ⟨sv, h1, owns_base h3 (by have := HGX.out.size; have := HZ.out; omega), h2⟩
    · refine NetStep.of rfl fun ρ wx hw hρc hρf hin hdep => ?_
      have e1 : ρ (.tmp 1) = (.pointer (some ⟨w.heap.size, 0, none⟩)) := hin 1 (by kernel_rfl)
      go_simp
      exact ⟨rfl, Gr.refl _⟩
    · refine NetStep.of rfl fun ρ wx hw hρc hρf hin hdep => ?_
      have e6 : ρ (.tmp 6) = (.pointer (some ⟨w.heap.size, 1, none⟩)) := hdep 3 6 (by kernel_rfl)
      have hcx := gr_cell (gr_trans (Gr.drew (Gr.refl w3)) hw) HD1.out
      go_simp
      exact ⟨rfl, Gr.refl _⟩
  · intro V wN hgN hV
    have hO1 : wN.ownsRow (w.heap.size + 2) 3 1 (V 5) l1.length (ivs l1) := hV 2 _ 5 (by decide) rfl rfl
    have e7 : V 7 = .slice x2 n2 c2 := hV 4 _ 7 (by decide) rfl rfl
    obtain ⟨xi, ci, hs5⟩ := own_slice hO1
    rw [hs5] at hO1
    have HO1 := Lib.hid hO1
    have HN := Lib.hid (gr_trans (Gr.drew (Gr.refl w3)) hgN)
    have HI5 := Lib.hid (gr_block HN.out HB1.out)
    clear hV hgN hO1
    simp only [List.take_succ_cons, List.take_zero, List.drop_succ_cons, List.drop_zero, putAll, Act.put, Option.map_some, Option.getD_some, List.setIfInBounds_toArray, List.set_cons_succ, List.set_cons_zero]
    rw [hs5, e7]
    clear hs5 e7
    go_wp2_with fail
    refine (HT2.out wN (gr_trans HG.out HN.out)).mono ?_
    rintro e w5 ⟨vo, rfl, hg5, ho5⟩
    obtain ⟨xo, co, rfl⟩ := own_slice ho5
    have HD := Lib.hid (show ∀ q, (Value.slice xi l1.length ci).ownBlock = some q → (Value.slice xo l2.length co).ownBlock ≠ some q from fun q h1 h2 => by have := (HO1.out.lt q h1).2; have := (ho5.lt q h2).1; omega)
    have HO5 := Lib.hid (owns_gr HO1.out hg5)
    have HO6 := Lib.hid (owns_base (base' := w.heap.size + 2) ho5 (by have := HN.out.size; have := HZ.out; omega))
    have HI6 := Lib.hid (gr_block hg5 HI5.out)
    have HG6 := Lib.hid (gr_trans (gr_trans HG.out HN.out) hg5)
    clear hg5 ho5 HO1 HI5 HN
    go_wp2_with (refine wpList_store_row rfl 25 _ _ rfl (w.heap.size + 1) (sgV _ _) rfl rfl 25 (sgV (.slice none 0 0) (.slice none 0 0)) HI6.out infoSg rfl (sg_one _ _ _ _ _ _) ?_)
    have HS := Lib.hid (setRow_block (c := sgV (.slice xi l1.length ci) (.slice xo l2.length co)) HI6.out)
    exact bodyPost_ret (v := .agg (sgV (.slice xi l1.length ci) (.slice xo l2.length co))) (results_cell_row Try.results10 _ _ (w.heap.size + 1) 25 _ (0, 0) _ rfl HS.out Try.underlying25 rfl infoSg) rfl
      ⟨_, _, rfl, gr_setRow HG6.out (by omega) _, owns_base (own_setRow HO5.out (by omega) _) (by omega), owns_base (own_setRow HO6.out (by omega) _) (by omega), HD.out⟩
end Sp
end Go.Proofs.Ythpnhanabcipmaa
