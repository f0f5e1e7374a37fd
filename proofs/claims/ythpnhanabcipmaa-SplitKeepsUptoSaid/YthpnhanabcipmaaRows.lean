/-
  No cell of these rows narrows 'for every input' (looked for: loops, veiled, ifaces, maps, wideKeys, modest, calm, conditions, laid).
  DERIVED. THE GIVEN ROWS OF THIS SEAT. 6 by the template 'for every input the law returns true; each argument reads behind the call as it read before'; 0 by the template 'total and deterministic' (their statements: YthpnhanabcipmaaTotals.lean).
  GIVEN WITH THE SEED: the statements are not yours to turn. If you find one false, say at which input.
  Laid BY PROGRAM, IN A SANDBOX (cutbox-rows.mjs): the forced cells as the released guide's own fill.sh prints them over the translation b4371d0c67b01b4b… (all of the seat's roots in one cut). By AI agents, Wed Nov 11 2026. No macro, syntax, notation, axiom, sorry.
-/
import Derived.Test.YthpnhanabcipmaaChecked
import GoSem.Claim
import GoSem.ClaimJoined
import GoSem.ClaimMapViews
import Derived.JoinedTies
import Derived.KernelRfl
namespace Go.Proofs.Ythpnhanabcipmaa
/- THE CELL 'sum', in the pinned program and in every row, IS THE sha256 OF THE DUMP (.gsa) THAT YthpnhanabcipmaaProg.lean LOADS. Nothing in Lean hashes anything: it is a label: what it is worth is what the hold of that sum in a sandbox is worth. -/
noncomputable def Try.pinned : Pinned := { name := "ythpnhanabcipmaa", sum := "b4371d0c67b01b4bebbe3da93eed41ae2e816dc7e715201a24984336420659d3", checked := Try.checked }
namespace Rows
def none {H : Type} : Left H := { results := [], args := [] }

/-- 'plaitlaw21.SplitTypes': WHATEVER THE INPUT: true; the input reads as it did. -/
def splitTypesSpec : ChangeSpec := { name := "splitTypes", fn := fun _ => fun
  | [d1, d2] => { results := [.lit (.bool true)], args := [d1, d2] }
  | _ => none }
def splitTypesRow : OpenClaim := { program := "ythpnhanabcipmaa", sum := "b4371d0c67b01b4bebbe3da93eed41ae2e816dc7e715201a24984336420659d3", func := "plait/plaitlaw21.SplitTypes", spec := "splitTypes", unfollowed := true, recurses := true, apart := false }
def SplitTypesSaid : Prop := splitTypesRow.holds Try.pinned (OpenSpec.ofChange splitTypesSpec)

/-- ITS FALSE NEIGHBOUR: 'it returns false'. Refute it at one input. -/
def splitTypesWrong : ChangeSpec := { name := "splitTypes", fn := fun _ => fun
  | [d1, d2] => { results := [.lit (.bool false)], args := [d1, d2] }
  | _ => none }
def SplitTypesWrongFalsely : Prop := splitTypesRow.holds Try.pinned (OpenSpec.ofChange splitTypesWrong)

/-- 'plaitlaw21.SplitBlocks': WHATEVER THE INPUT: true; the input reads as it did. -/
def splitBlocksSpec : ChangeSpec := { name := "splitBlocks", fn := fun _ => fun
  | [d1, d2] => { results := [.lit (.bool true)], args := [d1, d2] }
  | _ => none }
def splitBlocksRow : OpenClaim := { program := "ythpnhanabcipmaa", sum := "b4371d0c67b01b4bebbe3da93eed41ae2e816dc7e715201a24984336420659d3", func := "plait/plaitlaw21.SplitBlocks", spec := "splitBlocks", unfollowed := true, recurses := true, apart := false }
def SplitBlocksSaid : Prop := splitBlocksRow.holds Try.pinned (OpenSpec.ofChange splitBlocksSpec)

/-- ITS FALSE NEIGHBOUR: 'it returns false'. Refute it at one input. -/
def splitBlocksWrong : ChangeSpec := { name := "splitBlocks", fn := fun _ => fun
  | [d1, d2] => { results := [.lit (.bool false)], args := [d1, d2] }
  | _ => none }
def SplitBlocksWrongFalsely : Prop := splitBlocksRow.holds Try.pinned (OpenSpec.ofChange splitBlocksWrong)

/-- 'plaitlaw21.SplitBack': WHATEVER THE INPUT: true; the input reads as it did. -/
def splitBackSpec : ChangeSpec := { name := "splitBack", fn := fun _ => fun
  | [d1, d2] => { results := [.lit (.bool true)], args := [d1, d2] }
  | _ => none }
def splitBackRow : OpenClaim := { program := "ythpnhanabcipmaa", sum := "b4371d0c67b01b4bebbe3da93eed41ae2e816dc7e715201a24984336420659d3", func := "plait/plaitlaw21.SplitBack", spec := "splitBack", unfollowed := true, recurses := true, apart := false }
def SplitBackSaid : Prop := splitBackRow.holds Try.pinned (OpenSpec.ofChange splitBackSpec)

/-- ITS FALSE NEIGHBOUR: 'it returns false'. Refute it at one input. -/
def splitBackWrong : ChangeSpec := { name := "splitBack", fn := fun _ => fun
  | [d1, d2] => { results := [.lit (.bool false)], args := [d1, d2] }
  | _ => none }
def SplitBackWrongFalsely : Prop := splitBackRow.holds Try.pinned (OpenSpec.ofChange splitBackWrong)

/-- 'plaitlaw21.SplitJoins': WHATEVER THE INPUT: true; the input reads as it did. -/
def splitJoinsSpec : ChangeSpec := { name := "splitJoins", fn := fun _ => fun
  | [d1, d2] => { results := [.lit (.bool true)], args := [d1, d2] }
  | _ => none }
def splitJoinsRow : OpenClaim := { program := "ythpnhanabcipmaa", sum := "b4371d0c67b01b4bebbe3da93eed41ae2e816dc7e715201a24984336420659d3", func := "plait/plaitlaw21.SplitJoins", spec := "splitJoins", unfollowed := true, recurses := true, apart := false }
def SplitJoinsSaid : Prop := splitJoinsRow.holds Try.pinned (OpenSpec.ofChange splitJoinsSpec)

/-- ITS FALSE NEIGHBOUR: 'it returns false'. Refute it at one input. -/
def splitJoinsWrong : ChangeSpec := { name := "splitJoins", fn := fun _ => fun
  | [d1, d2] => { results := [.lit (.bool false)], args := [d1, d2] }
  | _ => none }
def SplitJoinsWrongFalsely : Prop := splitJoinsRow.holds Try.pinned (OpenSpec.ofChange splitJoinsWrong)

/-- 'plaitlaw21.SplitCanon': WHATEVER THE INPUT: true; the input reads as it did. -/
def splitCanonSpec : ChangeSpec := { name := "splitCanon", fn := fun _ => fun
  | [d1, d2, d3] => { results := [.lit (.bool true)], args := [d1, d2, d3] }
  | _ => none }
def splitCanonRow : OpenClaim := { program := "ythpnhanabcipmaa", sum := "b4371d0c67b01b4bebbe3da93eed41ae2e816dc7e715201a24984336420659d3", func := "plait/plaitlaw21.SplitCanon", spec := "splitCanon", unfollowed := true, recurses := true, apart := false }
def SplitCanonSaid : Prop := splitCanonRow.holds Try.pinned (OpenSpec.ofChange splitCanonSpec)

/-- ITS FALSE NEIGHBOUR: 'it returns false'. Refute it at one input. -/
def splitCanonWrong : ChangeSpec := { name := "splitCanon", fn := fun _ => fun
  | [d1, d2, d3] => { results := [.lit (.bool false)], args := [d1, d2, d3] }
  | _ => none }
def SplitCanonWrongFalsely : Prop := splitCanonRow.holds Try.pinned (OpenSpec.ofChange splitCanonWrong)

/-- 'plaitlaw21.SplitKeeps': WHATEVER THE INPUT: true; the input reads as it did. -/
def splitKeepsSpec : ChangeSpec := { name := "splitKeeps", fn := fun _ => fun
  | [d] => { results := [.lit (.bool true)], args := [d] }
  | _ => none }
def splitKeepsRow : OpenClaim := { program := "ythpnhanabcipmaa", sum := "b4371d0c67b01b4bebbe3da93eed41ae2e816dc7e715201a24984336420659d3", func := "plait/plaitlaw21.SplitKeeps", spec := "splitKeeps", unfollowed := true, recurses := true, apart := false }
def SplitKeepsSaid : Prop := splitKeepsRow.holds Try.pinned (OpenSpec.ofChange splitKeepsSpec)

/-- ITS FALSE NEIGHBOUR: 'it returns false'. Refute it at one input. -/
def splitKeepsWrong : ChangeSpec := { name := "splitKeeps", fn := fun _ => fun
  | [d] => { results := [.lit (.bool false)], args := [d] }
  | _ => none }
def SplitKeepsWrongFalsely : Prop := splitKeepsRow.holds Try.pinned (OpenSpec.ofChange splitKeepsWrong)

/- THE SECOND FORM. 'bulk': how many values and letters a reading holds, each counted each time it is reached (what is shared counts as often as it is met; a slice's spare places count too). A statement '..UptoSaid' is the law's where the arguments, and the package variables that the reading takes, are together of bulk at most 1048576: NARROWER than '..Said'. Prove '..Said' where nothing that the law and all that it calls make is longer than what came in: it says more and counts as full. Else prove '..UptoSaid'. A law counts once. -/
mutual
def uptoBulk {H : Type} : DataW H → Nat
  | .lit (.string bytes) => bytes.length + 1
  | .lit _ => 1
  | .nil => 1
  | .ptr d => uptoBulk d + 1
  | .slice elems spare => uptoBulkAll elems + uptoBulkAll spare + 1
  | .agg parts => uptoBulkAll parts + 1
  | .iface _ d => uptoBulk d + 1
  | .map entries => uptoBulkEntries entries + 1
  | .held _ => 1
def uptoBulkAll {H : Type} : List (DataW H) → Nat
  | [] => 0
  | d :: r => uptoBulk d + uptoBulkAll r
def uptoBulkEntries {H : Type} : List (Lit × DataW H) → Nat
  | [] => 0
  | x :: r => uptoBulkEntry x + uptoBulkEntries r
def uptoBulkEntry {H : Type} : Lit × DataW H → Nat
  | (.string bytes, d) => bytes.length + uptoBulk d + 1
  | (_, d) => uptoBulk d + 1
 end
def uptoSmall : (H : Type) → List (DataW H) → Bool := fun _ ds => decide (uptoBulkAll ds ≤ 1048576)
def OpenSpec.upto (s : _root_.Go.ChangeSpec) : _root_.Go.OpenSpec := { _root_.Go.OpenSpec.ofChange s with cond := some uptoSmall }

/-- 'plaitlaw21.SplitTypes', WHERE WHAT IT READS IS OF BULK AT MOST 1048576: true; the input reads as it did. -/
def splitTypesUptoRow : OpenClaim := { program := "ythpnhanabcipmaa", sum := "b4371d0c67b01b4bebbe3da93eed41ae2e816dc7e715201a24984336420659d3", func := "plait/plaitlaw21.SplitTypes", spec := "splitTypes", unfollowed := true, recurses := true, apart := false, narrowed := true }
def SplitTypesUptoSaid : Prop := splitTypesUptoRow.holds Try.pinned (OpenSpec.upto splitTypesSpec)

/-- 'plaitlaw21.SplitBlocks', WHERE WHAT IT READS IS OF BULK AT MOST 1048576: true; the input reads as it did. -/
def splitBlocksUptoRow : OpenClaim := { program := "ythpnhanabcipmaa", sum := "b4371d0c67b01b4bebbe3da93eed41ae2e816dc7e715201a24984336420659d3", func := "plait/plaitlaw21.SplitBlocks", spec := "splitBlocks", unfollowed := true, recurses := true, apart := false, narrowed := true }
def SplitBlocksUptoSaid : Prop := splitBlocksUptoRow.holds Try.pinned (OpenSpec.upto splitBlocksSpec)

/-- 'plaitlaw21.SplitBack', WHERE WHAT IT READS IS OF BULK AT MOST 1048576: true; the input reads as it did. -/
def splitBackUptoRow : OpenClaim := { program := "ythpnhanabcipmaa", sum := "b4371d0c67b01b4bebbe3da93eed41ae2e816dc7e715201a24984336420659d3", func := "plait/plaitlaw21.SplitBack", spec := "splitBack", unfollowed := true, recurses := true, apart := false, narrowed := true }
def SplitBackUptoSaid : Prop := splitBackUptoRow.holds Try.pinned (OpenSpec.upto splitBackSpec)

/-- 'plaitlaw21.SplitJoins', WHERE WHAT IT READS IS OF BULK AT MOST 1048576: true; the input reads as it did. -/
def splitJoinsUptoRow : OpenClaim := { program := "ythpnhanabcipmaa", sum := "b4371d0c67b01b4bebbe3da93eed41ae2e816dc7e715201a24984336420659d3", func := "plait/plaitlaw21.SplitJoins", spec := "splitJoins", unfollowed := true, recurses := true, apart := false, narrowed := true }
def SplitJoinsUptoSaid : Prop := splitJoinsUptoRow.holds Try.pinned (OpenSpec.upto splitJoinsSpec)

/-- 'plaitlaw21.SplitCanon', WHERE WHAT IT READS IS OF BULK AT MOST 1048576: true; the input reads as it did. -/
def splitCanonUptoRow : OpenClaim := { program := "ythpnhanabcipmaa", sum := "b4371d0c67b01b4bebbe3da93eed41ae2e816dc7e715201a24984336420659d3", func := "plait/plaitlaw21.SplitCanon", spec := "splitCanon", unfollowed := true, recurses := true, apart := false, narrowed := true }
def SplitCanonUptoSaid : Prop := splitCanonUptoRow.holds Try.pinned (OpenSpec.upto splitCanonSpec)

/-- 'plaitlaw21.SplitKeeps', WHERE WHAT IT READS IS OF BULK AT MOST 1048576: true; the input reads as it did. -/
def splitKeepsUptoRow : OpenClaim := { program := "ythpnhanabcipmaa", sum := "b4371d0c67b01b4bebbe3da93eed41ae2e816dc7e715201a24984336420659d3", func := "plait/plaitlaw21.SplitKeeps", spec := "splitKeeps", unfollowed := true, recurses := true, apart := false, narrowed := true }
def SplitKeepsUptoSaid : Prop := splitKeepsUptoRow.holds Try.pinned (OpenSpec.upto splitKeepsSpec)

end Rows
end Go.Proofs.Ythpnhanabcipmaa
