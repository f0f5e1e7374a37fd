/-
  For the cards of layer 10. Of no function.
-/
import Derived.Test.YtfkioggmomnibaaKit
import Derived.ProofKit
import Derived.OpenShut
import Derived.Carry
import Derived.ChangeArms
namespace Go.Proofs.Ytfkioggmomnibaa
open Go.RowKit VecM Go.ChangeShapes Go.WideShapes
theorem laidOut : laidOutB Try.prog = true := by kernel_rfl
end Go.Proofs.Ytfkioggmomnibaa
