/-
  Texts of this seat, joined: VecM. Each says what it proves.
-/
import Derived.WalkKit
/- VecM -/
namespace Go.Proofs.Ytifjgocfdnhdeaa
namespace VecM
end VecM
end Go.Proofs.Ytifjgocfdnhdeaa
