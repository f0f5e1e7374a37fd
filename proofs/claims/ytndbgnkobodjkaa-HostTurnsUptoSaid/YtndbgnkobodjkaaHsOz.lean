/-
  For the cards of layer 16: given lists of numbers, nil or with an address. No condition.
-/
import Derived.Test.YtndbgnkobodjkaaHsO
import Derived.Test.YtndbgnkobodjkaaHsP
namespace Go.Proofs.Ytndbgnkobodjkaa
open Go.RowKit VecM Go.ChangeShapes Go.WideShapes
namespace Hs
theorem open_uz {H : Type} {enc : TypeId × Value → H} {W : World} {r : Reach} {base : Nat} {v : Value} {d : DataW H} {p : List MemPlace}
    (hok : Value.okWide Try.prog W r base 22 v) (h : DataW.Trod enc Try.prog W 0 (fun _ => true) true 22 v d p) : ∃ l : List Int, U64B l ∧ Uz W v l := by
  obtain ⟨l, h1, h2⟩ := open_us hok h
  refine ⟨l, h1, h2, fun n c hv => ?_⟩
  subst hv
  obtain ⟨fuel, hf⟩ := h
  rcases open_ints Try.underlying22 Try.underlying53 (by kernel_rfl) hf with ⟨hcs, _⟩ | ⟨a, len', cap', zs, hcs, _⟩
  · simp [Value.cells] at hcs
    exact hcs
  · simp [Value.cells] at hcs
end Hs
end Go.Proofs.Ytndbgnkobodjkaa
