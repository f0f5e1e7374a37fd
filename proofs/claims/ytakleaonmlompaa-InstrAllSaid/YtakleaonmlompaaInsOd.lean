/-
  Of layer 4: instr.Of's two lists lie in blocks of their own, apart from one another (its words). Condition: the library's MaxLen reads as some number.
-/
import Derived.Test.YtakleaonmlompaaInsLaw
namespace Go.Proofs.Ytakleaonmlompaa
open Go.RowKit
namespace Ins
theorem frozen0 {w : World} {g : Nat} {c : Array Value} {t : TypeId} (h : w.heap[g]? = some (.cells c t (0, 0))) (o : Nat) : w.frozen? ⟨g, o, none⟩ = false := by simp [World.frozen?, h]
theorem five_sep (w : World) (g : Nat) (a b c d e : Value) : Sep (fun k => k = g) w (((((w.setCell ⟨g, 0, none⟩ a).setCell ⟨g, 1, none⟩ b).setCell ⟨g, 2, none⟩ c).setCell ⟨g, 3, none⟩ d).setCell ⟨g, 4, none⟩ e) :=
  ((((Sep.setCell (ex := fun k => k = g) _ (p := ⟨g, 0, none⟩) rfl _).trans (Sep.setCell (ex := fun k => k = g) _ (p := ⟨g, 1, none⟩) rfl _)).trans (Sep.setCell (ex := fun k => k = g) _ (p := ⟨g, 2, none⟩) rfl _)).trans (Sep.setCell (ex := fun k => k = g) _ (p := ⟨g, 3, none⟩) rfl _)).trans (Sep.setCell (ex := fun k => k = g) _ (p := ⟨g, 4, none⟩) rfl _)
theorem five_blk {w : World} {g : Nat} {x0 x1 x2 x3 x4 : Value} {t : TypeId} {z : Nat × Nat} (h : w.heap[g]? = some (.cells #[x0, x1, x2, x3, x4] t z)) (a b c d e : Value) : (((((w.setCell ⟨g, 0, none⟩ a).setCell ⟨g, 1, none⟩ b).setCell ⟨g, 2, none⟩ c).setCell ⟨g, 3, none⟩ d).setCell ⟨g, 4, none⟩ e).heap[g]? = some (.cells #[a, b, c, d, e] t z) := by
  simp [World.setCell, Array.getElem?_modify, h]
/-- what Of answers of a known opcode, its lists apart -/
def OFD (f l : Int) (p : Bool) (A B : ByteArray) (w : World) (e : Ending) (w' : World) : Prop :=
  ∃ vi vo, e = .returned (.tuple #[.agg (inf f l p vi vo), .bool true]) ∧ Gr w w' ∧ w'.ownsRow w.heap.size 3 1 vi A.size (codes A A.size) ∧ w'.ownsRow w.heap.size 3 1 vo B.size (codes B B.size) ∧ ∀ q, vi.ownBlock = some q → vo.ownBlock ≠ some q
end Ins
end Go.Proofs.Ytakleaonmlompaa
