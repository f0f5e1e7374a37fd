/-
  Texts of this seat, joined: Shelf. Each says what it proves.
-/
import Derived.Shelf.Strings.Search1
import Derived.Shelf.Strings.Search2
import Derived.Shelf.Strings.Cut
import Derived.Shelf.LaysM
import Derived.Shelf.Strings.Shaped
import Derived.Test.YtifjgocfdnhdeaaProg
/- Shelf -/
namespace Go.Proofs
open Go.Shelf
end Go.Proofs
