/-
  The reference's Put: the same halves as Put's.
-/
import Derived.Test.YthpnhanabcipmaaWidth
namespace Go.Proofs.Ythpnhanabcipmaa
open Go.RowKit VecM
end Go.Proofs.Ythpnhanabcipmaa
