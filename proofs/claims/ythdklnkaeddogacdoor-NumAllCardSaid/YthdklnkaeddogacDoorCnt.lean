/-
  What the rows' own premise gives: both tables of math/bits lie in memory; with it NumCounts' walk, as its card takes it.
-/
import Derived.Test.YthdklnkaeddogacDoorCounts
namespace Go.Proofs.YthdklnkaeddogacDoor
open Go.RowKit NumM Un Un2
namespace Co
theorem laid_eq : (Rows.numCountsRow.laid : List (String × DataW Unit)) = Rows.numCutsRow.laid := rfl
theorem tab64_list : (Rows.laid_math_bits_deBruijn64tab : DataW Unit) = Lib.tabData .u8 (Lib.deBruijn64tab.map fun n : Nat => (n : Int)) := rfl
theorem of_laid64 {W : World} (h : laidMetH Tryd.prog Rows.numCutsRow.laid W) : Tab64 W := by
  rw [MakeChecks.laidMetH_plain _ _ _ (by kernel_rfl)] at h
  obtain ⟨ps, ⟨g', t', cs, fuel, p, q, hg', ht', hvar, hd, ⟨g2, t2, cs2, fuel2, p2, q2, hg2, ht2, hvar2, hd2, _, _⟩, _⟩, _⟩ := h
  obtain rfl : 1 = g2 := Option.some.inj ((show Tryd.prog.globalNamed "math/bits.deBruijn64tab" = some 1 by kernel_rfl).symm.trans hg2)
  obtain rfl : 59 = t2 := Option.some.inj ((show (Tryd.prog.globals[1]?).map (·.type) = some 59 by kernel_rfl).symm.trans ht2)
  rw [tab64_list] at hd2
  have hcs := Lib.cells_of_tab (n := 64) Tryd.underlying59 Tryd.underlying5 (by kernel_rfl) (by kernel_rfl) hd2
  have hT : Lib.TabIs Tryd.prog W "math/bits.deBruijn64tab" .u8 (Lib.deBruijn64tab.map fun n : Nat => (n : Int)) := by
    unfold Lib.TabIs
    rw [hvar2, ← hcs]
  intro j hj
  rw [Lib.TabIs.cell hT (show Tryd.prog.globalNamed "math/bits.deBruijn64tab" = some 1 by kernel_rfl) j (by rw [List.length_map]; exact hj)]
  congr 2
  simp only [List.getD_eq_getElem?_getD, List.getElem?_map]
  rw [List.getElem?_eq_getElem (show j < Lib.deBruijn64tab.length from hj)]
  rfl
theorem of_laid {W : World} (h : laidMetH Tryd.prog Rows.numCountsRow.laid W) : Tabs W := ⟨Cu.of_laid h, of_laid64 h⟩
theorem counts_any (x : Int) (hx : U64 x) (w : World) (hT : Tabs w) : Calls Tryd.prog 7 #[.int .u64 x] w fun e w' => e = .returned (.bool true) ∧ Grown w w' := by
  obtain ⟨h0, h1⟩ := hx
  obtain ⟨n, rfl⟩ := Int.eq_ofNat_of_zero_le h0
  exact counts_walk n (by omega) w hT
end Co
end Go.Proofs.YthdklnkaeddogacDoor
