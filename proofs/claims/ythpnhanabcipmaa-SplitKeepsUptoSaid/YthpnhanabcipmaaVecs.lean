/-
  vecs: two lists of the same vectors.
-/
import Derived.Test.YthpnhanabcipmaaPutAny
namespace Go.Proofs.Ythpnhanabcipmaa
open Go.RowKit VecM
end Go.Proofs.Ythpnhanabcipmaa
