/-
  No cell of these rows narrows 'for every input' (looked for: loops, veiled, ifaces, maps, wideKeys, modest, calm, conditions, laid).
  DERIVED. THE GIVEN ROWS OF THIS SEAT. 6 by the template 'for every input the law returns true; each argument reads behind the call as it read before'; 0 by the template 'total and deterministic' (their statements: YtaahkpjdffgagaaTotals.lean).
  GIVEN WITH THE SEED: the statements are not yours to turn. If you find one false, say at which input.
  Laid BY PROGRAM, IN A SANDBOX (cutbox-rows.mjs): the forced cells as the released guide's own fill.sh prints them over the translation 7390044a54aea417… (all of the seat's roots in one cut). By AI agents, Wed Nov 11 2026. No macro, syntax, notation, axiom, sorry.
-/
import Derived.Test.YtaahkpjdffgagaaChecked
import GoSem.Claim
import GoSem.ClaimJoined
import GoSem.ClaimMapViews
import Derived.JoinedTies
import Derived.KernelRfl
namespace Go.Proofs.Ytaahkpjdffgagaa
/- THE CELL 'sum', in the pinned program and in every row, IS THE sha256 OF THE DUMP (.gsa) THAT YtaahkpjdffgagaaProg.lean LOADS. Nothing in Lean hashes anything: it is a label: what it is worth is what the hold of that sum in a sandbox is worth. -/
noncomputable def Try.pinned : Pinned := { name := "ytaahkpjdffgagaa", sum := "7390044a54aea417adee950d97ead475223475549198c434b43dfe083d2a3a0b", checked := Try.checked }
namespace Rows
def none {H : Type} : Left H := { results := [], args := [] }

/-- 'plaitlaw07.MoveLanes': WHATEVER THE INPUT: true; the input reads as it did. -/
def moveLanesSpec : ChangeSpec := { name := "moveLanes", fn := fun _ => fun
  | [d1, d2] => { results := [.lit (.bool true)], args := [d1, d2] }
  | _ => none }
def moveLanesRow : OpenClaim := { program := "ytaahkpjdffgagaa", sum := "7390044a54aea417adee950d97ead475223475549198c434b43dfe083d2a3a0b", func := "plait/plaitlaw07.MoveLanes", spec := "moveLanes", apart := false }
def MoveLanesSaid : Prop := moveLanesRow.holds Try.pinned (OpenSpec.ofChange moveLanesSpec)

/-- ITS FALSE NEIGHBOUR: 'it returns false'. Refute it at one input. -/
def moveLanesWrong : ChangeSpec := { name := "moveLanes", fn := fun _ => fun
  | [d1, d2] => { results := [.lit (.bool false)], args := [d1, d2] }
  | _ => none }
def MoveLanesWrongFalsely : Prop := moveLanesRow.holds Try.pinned (OpenSpec.ofChange moveLanesWrong)

/-- 'plaitlaw07.MoveBytes': WHATEVER THE INPUT: true; the input reads as it did. -/
def moveBytesSpec : ChangeSpec := { name := "moveBytes", fn := fun _ => fun
  | [d1, d2, d3] => { results := [.lit (.bool true)], args := [d1, d2, d3] }
  | _ => none }
def moveBytesRow : OpenClaim := { program := "ytaahkpjdffgagaa", sum := "7390044a54aea417adee950d97ead475223475549198c434b43dfe083d2a3a0b", func := "plait/plaitlaw07.MoveBytes", spec := "moveBytes", apart := false }
def MoveBytesSaid : Prop := moveBytesRow.holds Try.pinned (OpenSpec.ofChange moveBytesSpec)

/-- ITS FALSE NEIGHBOUR: 'it returns false'. Refute it at one input. -/
def moveBytesWrong : ChangeSpec := { name := "moveBytes", fn := fun _ => fun
  | [d1, d2, d3] => { results := [.lit (.bool false)], args := [d1, d2, d3] }
  | _ => none }
def MoveBytesWrongFalsely : Prop := moveBytesRow.holds Try.pinned (OpenSpec.ofChange moveBytesWrong)

/-- 'plaitlaw07.MoveShuffles': WHATEVER THE INPUT: true; the input reads as it did. -/
def moveShufflesSpec : ChangeSpec := { name := "moveShuffles", fn := fun _ => fun
  | [d1, d2, d3] => { results := [.lit (.bool true)], args := [d1, d2, d3] }
  | _ => none }
def moveShufflesRow : OpenClaim := { program := "ytaahkpjdffgagaa", sum := "7390044a54aea417adee950d97ead475223475549198c434b43dfe083d2a3a0b", func := "plait/plaitlaw07.MoveShuffles", spec := "moveShuffles", apart := false }
def MoveShufflesSaid : Prop := moveShufflesRow.holds Try.pinned (OpenSpec.ofChange moveShufflesSpec)

/-- ITS FALSE NEIGHBOUR: 'it returns false'. Refute it at one input. -/
def moveShufflesWrong : ChangeSpec := { name := "moveShuffles", fn := fun _ => fun
  | [d1, d2, d3] => { results := [.lit (.bool false)], args := [d1, d2, d3] }
  | _ => none }
def MoveShufflesWrongFalsely : Prop := moveShufflesRow.holds Try.pinned (OpenSpec.ofChange moveShufflesWrong)

/-- 'plaitlaw07.MoveSwizzles': WHATEVER THE INPUT: true; the input reads as it did. -/
def moveSwizzlesSpec : ChangeSpec := { name := "moveSwizzles", fn := fun _ => fun
  | [d1, d2] => { results := [.lit (.bool true)], args := [d1, d2] }
  | _ => none }
def moveSwizzlesRow : OpenClaim := { program := "ytaahkpjdffgagaa", sum := "7390044a54aea417adee950d97ead475223475549198c434b43dfe083d2a3a0b", func := "plait/plaitlaw07.MoveSwizzles", spec := "moveSwizzles", apart := false }
def MoveSwizzlesSaid : Prop := moveSwizzlesRow.holds Try.pinned (OpenSpec.ofChange moveSwizzlesSpec)

/-- ITS FALSE NEIGHBOUR: 'it returns false'. Refute it at one input. -/
def moveSwizzlesWrong : ChangeSpec := { name := "moveSwizzles", fn := fun _ => fun
  | [d1, d2] => { results := [.lit (.bool false)], args := [d1, d2] }
  | _ => none }
def MoveSwizzlesWrongFalsely : Prop := moveSwizzlesRow.holds Try.pinned (OpenSpec.ofChange moveSwizzlesWrong)

/-- 'plaitlaw07.MovePuts': WHATEVER THE INPUT: true; the input reads as it did. -/
def movePutsSpec : ChangeSpec := { name := "movePuts", fn := fun _ => fun
  | [d1, d2, d3] => { results := [.lit (.bool true)], args := [d1, d2, d3] }
  | _ => none }
def movePutsRow : OpenClaim := { program := "ytaahkpjdffgagaa", sum := "7390044a54aea417adee950d97ead475223475549198c434b43dfe083d2a3a0b", func := "plait/plaitlaw07.MovePuts", spec := "movePuts", apart := false }
def MovePutsSaid : Prop := movePutsRow.holds Try.pinned (OpenSpec.ofChange movePutsSpec)

/-- ITS FALSE NEIGHBOUR: 'it returns false'. Refute it at one input. -/
def movePutsWrong : ChangeSpec := { name := "movePuts", fn := fun _ => fun
  | [d1, d2, d3] => { results := [.lit (.bool false)], args := [d1, d2, d3] }
  | _ => none }
def MovePutsWrongFalsely : Prop := movePutsRow.holds Try.pinned (OpenSpec.ofChange movePutsWrong)

/-- 'plaitlaw07.MoveSigns': WHATEVER THE INPUT: true; the input reads as it did. -/
def moveSignsSpec : ChangeSpec := { name := "moveSigns", fn := fun _ => fun
  | [d] => { results := [.lit (.bool true)], args := [d] }
  | _ => none }
def moveSignsRow : OpenClaim := { program := "ytaahkpjdffgagaa", sum := "7390044a54aea417adee950d97ead475223475549198c434b43dfe083d2a3a0b", func := "plait/plaitlaw07.MoveSigns", spec := "moveSigns", apart := false }
def MoveSignsSaid : Prop := moveSignsRow.holds Try.pinned (OpenSpec.ofChange moveSignsSpec)

/-- ITS FALSE NEIGHBOUR: 'it returns false'. Refute it at one input. -/
def moveSignsWrong : ChangeSpec := { name := "moveSigns", fn := fun _ => fun
  | [d] => { results := [.lit (.bool false)], args := [d] }
  | _ => none }
def MoveSignsWrongFalsely : Prop := moveSignsRow.holds Try.pinned (OpenSpec.ofChange moveSignsWrong)

/- THE SECOND FORM. 'bulk': how many values and letters a reading holds, each counted each time it is reached (what is shared counts as often as it is met; a slice's spare places count too). A statement '..UptoSaid' is the law's where the arguments, and the package variables that the reading takes, are together of bulk at most 1048576: NARROWER than '..Said'. Prove '..Said' where nothing that the law and all that it calls make is longer than what came in: it says more and counts as full. Else prove '..UptoSaid'. A law counts once. -/
mutual
def uptoBulk {H : Type} : DataW H → Nat
  | .lit (.string bytes) => bytes.length + 1
  | .lit _ => 1
  | .nil => 1
  | .ptr d => uptoBulk d + 1
  | .slice elems spare => uptoBulkAll elems + uptoBulkAll spare + 1
  | .agg parts => uptoBulkAll parts + 1
  | .iface _ d => uptoBulk d + 1
  | .map entries => uptoBulkEntries entries + 1
  | .held _ => 1
def uptoBulkAll {H : Type} : List (DataW H) → Nat
  | [] => 0
  | d :: r => uptoBulk d + uptoBulkAll r
def uptoBulkEntries {H : Type} : List (Lit × DataW H) → Nat
  | [] => 0
  | x :: r => uptoBulkEntry x + uptoBulkEntries r
def uptoBulkEntry {H : Type} : Lit × DataW H → Nat
  | (.string bytes, d) => bytes.length + uptoBulk d + 1
  | (_, d) => uptoBulk d + 1
 end
def uptoSmall : (H : Type) → List (DataW H) → Bool := fun _ ds => decide (uptoBulkAll ds ≤ 1048576)
def OpenSpec.upto (s : _root_.Go.ChangeSpec) : _root_.Go.OpenSpec := { _root_.Go.OpenSpec.ofChange s with cond := some uptoSmall }

/-- 'plaitlaw07.MoveLanes', WHERE WHAT IT READS IS OF BULK AT MOST 1048576: true; the input reads as it did. -/
def moveLanesUptoRow : OpenClaim := { program := "ytaahkpjdffgagaa", sum := "7390044a54aea417adee950d97ead475223475549198c434b43dfe083d2a3a0b", func := "plait/plaitlaw07.MoveLanes", spec := "moveLanes", apart := false, narrowed := true }
def MoveLanesUptoSaid : Prop := moveLanesUptoRow.holds Try.pinned (OpenSpec.upto moveLanesSpec)

/-- 'plaitlaw07.MoveBytes', WHERE WHAT IT READS IS OF BULK AT MOST 1048576: true; the input reads as it did. -/
def moveBytesUptoRow : OpenClaim := { program := "ytaahkpjdffgagaa", sum := "7390044a54aea417adee950d97ead475223475549198c434b43dfe083d2a3a0b", func := "plait/plaitlaw07.MoveBytes", spec := "moveBytes", apart := false, narrowed := true }
def MoveBytesUptoSaid : Prop := moveBytesUptoRow.holds Try.pinned (OpenSpec.upto moveBytesSpec)

/-- 'plaitlaw07.MoveShuffles', WHERE WHAT IT READS IS OF BULK AT MOST 1048576: true; the input reads as it did. -/
def moveShufflesUptoRow : OpenClaim := { program := "ytaahkpjdffgagaa", sum := "7390044a54aea417adee950d97ead475223475549198c434b43dfe083d2a3a0b", func := "plait/plaitlaw07.MoveShuffles", spec := "moveShuffles", apart := false, narrowed := true }
def MoveShufflesUptoSaid : Prop := moveShufflesUptoRow.holds Try.pinned (OpenSpec.upto moveShufflesSpec)

/-- 'plaitlaw07.MoveSwizzles', WHERE WHAT IT READS IS OF BULK AT MOST 1048576: true; the input reads as it did. -/
def moveSwizzlesUptoRow : OpenClaim := { program := "ytaahkpjdffgagaa", sum := "7390044a54aea417adee950d97ead475223475549198c434b43dfe083d2a3a0b", func := "plait/plaitlaw07.MoveSwizzles", spec := "moveSwizzles", apart := false, narrowed := true }
def MoveSwizzlesUptoSaid : Prop := moveSwizzlesUptoRow.holds Try.pinned (OpenSpec.upto moveSwizzlesSpec)

/-- 'plaitlaw07.MovePuts', WHERE WHAT IT READS IS OF BULK AT MOST 1048576: true; the input reads as it did. -/
def movePutsUptoRow : OpenClaim := { program := "ytaahkpjdffgagaa", sum := "7390044a54aea417adee950d97ead475223475549198c434b43dfe083d2a3a0b", func := "plait/plaitlaw07.MovePuts", spec := "movePuts", apart := false, narrowed := true }
def MovePutsUptoSaid : Prop := movePutsUptoRow.holds Try.pinned (OpenSpec.upto movePutsSpec)

/-- 'plaitlaw07.MoveSigns', WHERE WHAT IT READS IS OF BULK AT MOST 1048576: true; the input reads as it did. -/
def moveSignsUptoRow : OpenClaim := { program := "ytaahkpjdffgagaa", sum := "7390044a54aea417adee950d97ead475223475549198c434b43dfe083d2a3a0b", func := "plait/plaitlaw07.MoveSigns", spec := "moveSigns", apart := false, narrowed := true }
def MoveSignsUptoSaid : Prop := moveSignsUptoRow.holds Try.pinned (OpenSpec.upto moveSignsSpec)

end Rows
end Go.Proofs.Ytaahkpjdffgagaa
