/-
  What the cards of layer 4 share: the program's types are laid out.
-/
import Derived.Test.YtakleaonmlompaaInsLaw
import Derived.ProofKit
import Derived.OpenShut
import Derived.Carry
import Derived.ChangeVars
namespace Go.Proofs.Ytakleaonmlompaa
open Go.RowKit Go.ChangeShapes Go.WideShapes
theorem laidOut : laidOutB Try.prog = true := by kernel_rfl
end Go.Proofs.Ytakleaonmlompaa
