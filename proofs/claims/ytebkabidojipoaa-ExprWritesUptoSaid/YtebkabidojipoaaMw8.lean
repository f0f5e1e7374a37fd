/-
  Texts of this seat, joined: AppKeep. Each says what it proves.
-/
import Derived.Test.YtebkabidojipoaaMw6
import Derived.Deep.AppendLies
namespace Go.Proofs.Ytebkabidojipoaa
open Go.RowKit
section
variable {P : Program} {w : World}
end
end Go.Proofs.Ytebkabidojipoaa
