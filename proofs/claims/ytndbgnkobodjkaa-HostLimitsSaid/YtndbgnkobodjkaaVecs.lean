/-
  vecs: two lists of the same vectors.
-/
import Derived.Test.YtndbgnkobodjkaaPutAny
namespace Go.Proofs.Ytndbgnkobodjkaa
open Go.RowKit VecM
end Go.Proofs.Ytndbgnkobodjkaa
