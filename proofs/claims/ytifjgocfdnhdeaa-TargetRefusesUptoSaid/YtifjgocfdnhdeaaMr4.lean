/-
  Texts of this seat, joined: Append. Each says what it proves.
-/
import Derived.Test.YtifjgocfdnhdeaaMr3
import Derived.Laws.AppendOwnNone
/- Append -/
namespace Go.Proofs.Ytifjgocfdnhdeaa
open Go.RowKit
def Src (w : World) (v : Value) (m : Nat) (news : List Value) : Prop :=
 (v = .slice none 0 0 ∧ m = 0 ∧ news = []) ∨ ∃ ad c, v = .slice (some ad) m c ∧ ∀ j u, news[j]? = some u → w.cell? (ad.add j) = some u
end Go.Proofs.Ytifjgocfdnhdeaa
