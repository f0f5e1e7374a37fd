/-
  A given list of uint64, with its room, and as what can be appended.
-/
import Derived.Test.YthdklnkaeddogabKeepsM
import Derived.Test.YthdklnkaeddogabOpenV
namespace Go.Proofs.Ythdklnkaeddogab
open Go.RowKit VecM Go.ChangeShapes Go.WideShapes
theorem open_u64k {H : Type} {enc : TypeId × Value → H} {W : World} {r : Reach} {base : Nat} {v : Value} {d : DataW H} {p : List MemPlace}
    (hok : Value.okWide Try.prog W r base 34 v) (h : DataW.Trod enc Try.prog W 0 (fun _ => true) true 34 v d p) : ∃ (len : Nat) (zs : Nat → Int), (∀ j, 0 ≤ zs j ∧ zs j < 18446744073709551616) ∧ U64c W v len zs ∧ Src W v len (u64s zs len) := by
  obtain ⟨a0, len, cap, rfl⟩ := okWide_slice Try.underlying34 hok
  obtain ⟨fuel, hf⟩ := h
  rcases open_ints Try.underlying34 Try.underlying26 (by kernel_rfl) hf with ⟨hcs, _⟩ | ⟨a, len', cap', zs, hcs, _, hl, hm, hz, _, hcell, hwz⟩
  · simp [Value.cells] at hcs
    obtain ⟨rfl, rfl, rfl⟩ := hcs
    exact ⟨0, fun _ => 0, fun _ => ⟨by simp, by simp⟩, .inl ⟨rfl, _, _, rfl⟩, .inl ⟨rfl, rfl, rfl⟩⟩
  · simp [Value.cells] at hcs
    obtain ⟨rfl, rfl, rfl⟩ := hcs
    simp only [if_true] at hz
    have hb : ∀ j, 0 ≤ (zs.getD j 0) ∧ (zs.getD j 0) < 18446744073709551616 := fun j => by
      by_cases hj : j < zs.length
      · have := bounds_u64 (hwz (zs.getD j 0) (by rw [List.getD_eq_getElem?_getD, List.getElem?_eq_getElem hj]; exact List.getElem_mem hj))
        omega
      · rw [List.getD_eq_getElem?_getD, List.getElem?_eq_none (by omega)]; constructor <;> decide
    refine ⟨len, fun j => zs.getD j 0, hb, ?_, .inr ⟨a, cap, rfl, fun j u hu => ?_⟩⟩
    case refine_2 =>
      have hj : j < len := by
        have := (List.getElem?_eq_some_iff.1 hu).1
        rw [u64s_len] at this; omega
      rw [u64s_get _ _ _ hj] at hu
      rw [hcell j (by omega), ← hu]
    by_cases h0 : len = 0
    · subst h0; exact .inl ⟨rfl, _, _, rfl⟩
    · obtain ⟨b, off, spot⟩ := a
      have hspot : spot = none := by simpa [Addr.add] using World.cell?_spot (hcell 0 (by omega))
      subst hspot
      refine .inr ⟨by unfold maxLen at hm; omega, b, off, cap, hl, rfl, fun j hj => ?_⟩
      have := hcell j (by omega)
      by_cases hj0 : j = 0
      · subst hj0; simpa [Addr.add] using this
      · simpa [Addr.add, hj0] using this
end Go.Proofs.Ythdklnkaeddogab
