/-
  LEB128, plain: forms, and what reading gives. Of no program.
-/
import Derived.Test.YthdklnkaeddogaaKit
namespace Go.Proofs.Ythdklnkaeddogaa
open Go.RowKit
namespace LebM
/-- all numbers of a list of bytes -/
def By (f : Nat → Int) : Prop := ∀ j, 0 ≤ f j ∧ f j < 256
def fitU (c left : Int) : Bool := decide (7 ≤ left) || decide (c < 2 ^ left.toNat)
def fitS (c left : Int) : Bool := decide (7 < left) || decide (c < 2 ^ (left - 1).toNat) || decide (c / 2 ^ (left - 1).toNat = 127 / 2 ^ (left - 1).toNat)
def fitB (s : Bool) (c left : Int) : Bool := if s then fitS c left else fitU c left
def lowI (c : Int) : Int := c % 128
/-- read's answer behind k bytes of which the numbers' sum is x, with m rounds to come: sum, bits, place, error -/
def rd (s : Bool) (f : Nat → Int) (len : Nat) (bits : Int) (at0 : Nat) : Nat → Nat → Int → Int × Int × Int × Int
  | 0, _, _ => (0, 0, 0, 6)
  | m + 1, k, x =>
    if at0 + k = len then (0, 0, 0, 5) else
    let c := f (at0 + k)
    let left := bits - 7 * k
    if fitB s (lowI c) left = false ∨ (left ≤ 7 ∧ 128 ≤ c) then (0, 0, 0, 6) else
    let y := x + lowI c * 128 ^ k % 18446744073709551616
    if c < 128 then (y, 7 * k + 7, at0 + k + 1, 0) else rd s f len bits at0 m (k + 1) y
def read (s : Bool) (f : Nat → Int) (len : Nat) (at0 bits : Int) : Int × Int × Int × Int :=
  if bits < 1 ∨ 64 < bits ∨ at0 < 0 ∨ (len : Int) < at0 then (0, 0, 0, 1) else rd s f len bits at0.toNat 10 0 0
end LebM
end Go.Proofs.Ythdklnkaeddogaa
