/-
  The reference's Width: how many halves the types need; -1, if one of them is none.
-/
import Derived.Test.YthpnhanabcipmaaAwake
namespace Go.Proofs.Ythpnhanabcipmaa
open Go.RowKit VecM
/-- what Width gives -/
def widI (ts : Nat → Int) (len : Nat) : Int := if okT ts len then needS ts len else -1
theorem widI_yes {ts : Nat → Int} {len : Nat} (h : okT ts len) : widI ts len = needS ts len := by unfold widI; rw [if_pos h]
theorem widI_no {ts : Nat → Int} {len : Nat} (h : ¬ okT ts len) : widI ts len = -1 := by unfold widI; rw [if_neg h]
end Go.Proofs.Ythpnhanabcipmaa
