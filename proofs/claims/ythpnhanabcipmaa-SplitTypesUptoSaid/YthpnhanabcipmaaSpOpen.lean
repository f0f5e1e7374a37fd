/-
  Of layer 21: what a given slice of ints is: its numbers, and room for them. No condition.
-/
import Derived.Test.YthpnhanabcipmaaOpenV
import Derived.Test.YthpnhanabcipmaaSpRo
namespace Go.Proofs.Ythpnhanabcipmaa
open Go.RowKit VecM Go.ChangeShapes Go.WideShapes
namespace Sp
theorem slice_i64c {w : World} {sv : Value} {n : Nat} {ts : Nat → Int} (h : I64c w sv n ts) : ∃ a c, sv = .slice a n c := by
  rcases h with ⟨rfl, x, c, rfl⟩ | ⟨_, b, o, c, _, rfl, _⟩
  · exact ⟨_, _, rfl⟩
  · exact ⟨_, _, rfl⟩
theorem open_i64c {H : Type} {enc : TypeId × Value → H} {W : World} {r : Reach} {base : Nat} {v : Value} {d : DataW H} {p : List MemPlace}
    (hok : Value.okWide Try.prog W r base 22 v) (h : DataW.Trod enc Try.prog W 0 (fun _ => true) true 22 v d p) : ∃ (len : Nat) (zs : Nat → Int), (∀ j, -9223372036854775808 ≤ zs j ∧ zs j ≤ 9223372036854775807) ∧ I64c W v len zs := by
  obtain ⟨a0, len, cap, rfl⟩ := okWide_slice Try.underlying22 hok
  obtain ⟨fuel, hf⟩ := h
  rcases open_ints Try.underlying22 Try.underlying3 (by kernel_rfl) hf with ⟨hcs, _⟩ | ⟨a, len', cap', zs, hcs, _, hl, hm, hz, _, hcell, hwz⟩
  · simp [Value.cells] at hcs
    obtain ⟨rfl, rfl, rfl⟩ := hcs
    exact ⟨0, fun _ => 0, fun _ => ⟨by simp, by simp⟩, .inl ⟨rfl, _, _, rfl⟩⟩
  · simp [Value.cells] at hcs
    obtain ⟨rfl, rfl, rfl⟩ := hcs
    simp only [if_true] at hz
    have hb : ∀ j, -9223372036854775808 ≤ (zs.getD j 0) ∧ (zs.getD j 0) ≤ 9223372036854775807 := fun j => by
      by_cases hj : j < zs.length
      · have := bounds_i64 (hwz (zs.getD j 0) (by rw [List.getD_eq_getElem?_getD, List.getElem?_eq_getElem hj]; exact List.getElem_mem hj))
        omega
      · rw [List.getD_eq_getElem?_getD, List.getElem?_eq_none (by omega)]; constructor <;> decide
    refine ⟨len, fun j => zs.getD j 0, hb, ?_⟩
    by_cases h0 : len = 0
    · subst h0; exact .inl ⟨rfl, _, _, rfl⟩
    · obtain ⟨b, off, spot⟩ := a
      have hspot : spot = none := by simpa [Addr.add] using World.cell?_spot (hcell 0 (by omega))
      subst hspot
      refine .inr ⟨by unfold maxLen at hm; omega, b, off, cap, hl, rfl, fun j hj => ?_⟩
      have := hcell j (by omega)
      by_cases hj0 : j = 0
      · subst hj0; simpa [Addr.add] using this
      · simpa [Addr.add, hj0] using this
end Sp
end Go.Proofs.Ythpnhanabcipmaa
