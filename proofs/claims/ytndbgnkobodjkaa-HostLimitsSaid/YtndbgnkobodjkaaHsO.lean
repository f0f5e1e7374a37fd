/-
  For the cards of layer 16: given strings, lists of numbers. No condition.
-/
import Derived.Test.YtndbgnkobodjkaaOpenV
import Derived.Test.YtndbgnkobodjkaaHsM
import Derived.ProofKit
import Derived.OpenShut
import Derived.Carry
import Derived.ChangeArms
namespace Go.Proofs.Ytndbgnkobodjkaa
open Go.RowKit VecM Go.ChangeShapes Go.WideShapes
namespace Hs
def U64B (l : List Int) : Prop := ∀ j, 0 ≤ l.getD j 0 ∧ l.getD j 0 < 18446744073709551616
theorem open_us {H : Type} {enc : TypeId × Value → H} {W : World} {r : Reach} {base : Nat} {v : Value} {d : DataW H} {p : List MemPlace}
    (hok : Value.okWide Try.prog W r base 22 v) (h : DataW.Trod enc Try.prog W 0 (fun _ => true) true 22 v d p) : ∃ l : List Int, U64B l ∧ Us W v l := by
  obtain ⟨n, zs, hz, hc⟩ := open_u64c hok h
  have e : ∀ j, j < n → ((List.range n).map zs).getD j 0 = zs j := fun j hj => by simp [List.getD_eq_getElem?_getD, hj]
  refine ⟨(List.range n).map zs, fun j => ?_, ?_⟩
  · by_cases hj : j < n
    · rw [e j hj]; exact hz j
    · rw [List.getD_eq_getElem?_getD, List.getElem?_eq_none (by simp; omega)]; constructor <;> decide
  · have hl : ((List.range n).map zs).length = n := by simp
    unfold Us
    rw [hl]
    rcases hc with h | ⟨hm, b, off, cap, hcap, rfl, hcell⟩
    · exact .inl h
    · exact .inr ⟨hm, b, off, cap, hcap, rfl, fun j hj => by show W.cell? _ = some (.int .u64 (((List.range n).map zs).getD j 0)); rw [e j hj]; exact hcell j hj⟩
end Hs
end Go.Proofs.Ytndbgnkobodjkaa
