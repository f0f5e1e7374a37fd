/-
  Texts of this seat, joined: InsOpen. Each says what it proves.
-/
import Derived.Test.YtifjgocfdnhdeaaMr8
import Derived.ProofKit
import Derived.OpenShut
import Derived.Carry
import Derived.ChangeVars
/- InsOpen -/
namespace Go.Proofs.Ytifjgocfdnhdeaa
open Go.RowKit Go.ChangeShapes Go.WideShapes
theorem laidOut : laidOutB Try.prog = true := by kernel_rfl
end Go.Proofs.Ytifjgocfdnhdeaa
