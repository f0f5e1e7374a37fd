/-
  No cell of these rows narrows 'for every input' (looked for: loops, veiled, ifaces, maps, wideKeys, modest, calm, conditions, laid).
  DERIVED. THE GIVEN ROWS OF THIS SEAT. 8 by the template 'for every input the law returns true; each argument reads behind the call as it read before'; 0 by the template 'total and deterministic' (their statements: YtalnkkmbjaollaaTotals.lean).
  GIVEN WITH THE SEED: the statements are not yours to turn. If you find one false, say at which input.
  Laid BY PROGRAM, IN A SANDBOX (cutbox-rows.mjs): the forced cells as the released guide's own fill.sh prints them over the translation e38ed3a8858824b7… (all of the seat's roots in one cut). By AI agents, Wed Nov 11 2026. No macro, syntax, notation, axiom, sorry.
-/
import Derived.Test.YtalnkkmbjaollaaChecked
import GoSem.Claim
import GoSem.ClaimJoined
import GoSem.ClaimMapViews
import Derived.JoinedTies
import Derived.KernelRfl
namespace Go.Proofs.Ytalnkkmbjaollaa
/- THE CELL 'sum', in the pinned program and in every row, IS THE sha256 OF THE DUMP (.gsa) THAT YtalnkkmbjaollaaProg.lean LOADS. Nothing in Lean hashes anything: it is a label: what it is worth is what the hold of that sum in a sandbox is worth. -/
noncomputable def Try.pinned : Pinned := { name := "ytalnkkmbjaollaa", sum := "e38ed3a8858824b7e987a18e64c5127efa30955b21b9e16365a370169acc6490", checked := Try.checked }
namespace Rows
def none {H : Type} : Left H := { results := [], args := [] }

/-- 'plaitlaw05.ArithUn': WHATEVER THE INPUT: true; the input reads as it did. -/
def arithUnSpec : ChangeSpec := { name := "arithUn", fn := fun _ => fun
  | [d1, d2] => { results := [.lit (.bool true)], args := [d1, d2] }
  | _ => none }
def arithUnRow : OpenClaim := { program := "ytalnkkmbjaollaa", sum := "e38ed3a8858824b7e987a18e64c5127efa30955b21b9e16365a370169acc6490", func := "plait/plaitlaw05.ArithUn", spec := "arithUn", apart := false }
def ArithUnSaid : Prop := arithUnRow.holds Try.pinned (OpenSpec.ofChange arithUnSpec)

/-- ITS FALSE NEIGHBOUR: 'it returns false'. Refute it at one input. -/
def arithUnWrong : ChangeSpec := { name := "arithUn", fn := fun _ => fun
  | [d1, d2] => { results := [.lit (.bool false)], args := [d1, d2] }
  | _ => none }
def ArithUnWrongFalsely : Prop := arithUnRow.holds Try.pinned (OpenSpec.ofChange arithUnWrong)

/-- 'plaitlaw05.ArithBin': WHATEVER THE INPUT: true; the input reads as it did. -/
def arithBinSpec : ChangeSpec := { name := "arithBin", fn := fun _ => fun
  | [d1, d2, d3] => { results := [.lit (.bool true)], args := [d1, d2, d3] }
  | _ => none }
def arithBinRow : OpenClaim := { program := "ytalnkkmbjaollaa", sum := "e38ed3a8858824b7e987a18e64c5127efa30955b21b9e16365a370169acc6490", func := "plait/plaitlaw05.ArithBin", spec := "arithBin", apart := false }
def ArithBinSaid : Prop := arithBinRow.holds Try.pinned (OpenSpec.ofChange arithBinSpec)

/-- ITS FALSE NEIGHBOUR: 'it returns false'. Refute it at one input. -/
def arithBinWrong : ChangeSpec := { name := "arithBin", fn := fun _ => fun
  | [d1, d2, d3] => { results := [.lit (.bool false)], args := [d1, d2, d3] }
  | _ => none }
def ArithBinWrongFalsely : Prop := arithBinRow.holds Try.pinned (OpenSpec.ofChange arithBinWrong)

/-- 'plaitlaw05.ArithShift': WHATEVER THE INPUT: true; the input reads as it did. -/
def arithShiftSpec : ChangeSpec := { name := "arithShift", fn := fun _ => fun
  | [d1, d2, d3] => { results := [.lit (.bool true)], args := [d1, d2, d3] }
  | _ => none }
def arithShiftRow : OpenClaim := { program := "ytalnkkmbjaollaa", sum := "e38ed3a8858824b7e987a18e64c5127efa30955b21b9e16365a370169acc6490", func := "plait/plaitlaw05.ArithShift", spec := "arithShift", apart := false }
def ArithShiftSaid : Prop := arithShiftRow.holds Try.pinned (OpenSpec.ofChange arithShiftSpec)

/-- ITS FALSE NEIGHBOUR: 'it returns false'. Refute it at one input. -/
def arithShiftWrong : ChangeSpec := { name := "arithShift", fn := fun _ => fun
  | [d1, d2, d3] => { results := [.lit (.bool false)], args := [d1, d2, d3] }
  | _ => none }
def ArithShiftWrongFalsely : Prop := arithShiftRow.holds Try.pinned (OpenSpec.ofChange arithShiftWrong)

/-- 'plaitlaw05.ArithSat': WHATEVER THE INPUT: true; the input reads as it did. -/
def arithSatSpec : ChangeSpec := { name := "arithSat", fn := fun _ => fun
  | [d1, d2] => { results := [.lit (.bool true)], args := [d1, d2] }
  | _ => none }
def arithSatRow : OpenClaim := { program := "ytalnkkmbjaollaa", sum := "e38ed3a8858824b7e987a18e64c5127efa30955b21b9e16365a370169acc6490", func := "plait/plaitlaw05.ArithSat", spec := "arithSat", apart := false }
def ArithSatSaid : Prop := arithSatRow.holds Try.pinned (OpenSpec.ofChange arithSatSpec)

/-- ITS FALSE NEIGHBOUR: 'it returns false'. Refute it at one input. -/
def arithSatWrong : ChangeSpec := { name := "arithSat", fn := fun _ => fun
  | [d1, d2] => { results := [.lit (.bool false)], args := [d1, d2] }
  | _ => none }
def ArithSatWrongFalsely : Prop := arithSatRow.holds Try.pinned (OpenSpec.ofChange arithSatWrong)

/-- 'plaitlaw05.ArithRing': WHATEVER THE INPUT: true; the input reads as it did. -/
def arithRingSpec : ChangeSpec := { name := "arithRing", fn := fun _ => fun
  | [d1, d2, d3] => { results := [.lit (.bool true)], args := [d1, d2, d3] }
  | _ => none }
def arithRingRow : OpenClaim := { program := "ytalnkkmbjaollaa", sum := "e38ed3a8858824b7e987a18e64c5127efa30955b21b9e16365a370169acc6490", func := "plait/plaitlaw05.ArithRing", spec := "arithRing", apart := false }
def ArithRingSaid : Prop := arithRingRow.holds Try.pinned (OpenSpec.ofChange arithRingSpec)

/-- ITS FALSE NEIGHBOUR: 'it returns false'. Refute it at one input. -/
def arithRingWrong : ChangeSpec := { name := "arithRing", fn := fun _ => fun
  | [d1, d2, d3] => { results := [.lit (.bool false)], args := [d1, d2, d3] }
  | _ => none }
def ArithRingWrongFalsely : Prop := arithRingRow.holds Try.pinned (OpenSpec.ofChange arithRingWrong)

/-- 'plaitlaw05.ArithLeast': WHATEVER THE INPUT: true; the input reads as it did. -/
def arithLeastSpec : ChangeSpec := { name := "arithLeast", fn := fun _ => fun
  | [d1, d2] => { results := [.lit (.bool true)], args := [d1, d2] }
  | _ => none }
def arithLeastRow : OpenClaim := { program := "ytalnkkmbjaollaa", sum := "e38ed3a8858824b7e987a18e64c5127efa30955b21b9e16365a370169acc6490", func := "plait/plaitlaw05.ArithLeast", spec := "arithLeast", apart := false }
def ArithLeastSaid : Prop := arithLeastRow.holds Try.pinned (OpenSpec.ofChange arithLeastSpec)

/-- ITS FALSE NEIGHBOUR: 'it returns false'. Refute it at one input. -/
def arithLeastWrong : ChangeSpec := { name := "arithLeast", fn := fun _ => fun
  | [d1, d2] => { results := [.lit (.bool false)], args := [d1, d2] }
  | _ => none }
def ArithLeastWrongFalsely : Prop := arithLeastRow.holds Try.pinned (OpenSpec.ofChange arithLeastWrong)

/-- 'plaitlaw05.ArithLocal': WHATEVER THE INPUT: true; the input reads as it did. -/
def arithLocalSpec : ChangeSpec := { name := "arithLocal", fn := fun _ => fun
  | [d1, d2, d3] => { results := [.lit (.bool true)], args := [d1, d2, d3] }
  | _ => none }
def arithLocalRow : OpenClaim := { program := "ytalnkkmbjaollaa", sum := "e38ed3a8858824b7e987a18e64c5127efa30955b21b9e16365a370169acc6490", func := "plait/plaitlaw05.ArithLocal", spec := "arithLocal", apart := false }
def ArithLocalSaid : Prop := arithLocalRow.holds Try.pinned (OpenSpec.ofChange arithLocalSpec)

/-- ITS FALSE NEIGHBOUR: 'it returns false'. Refute it at one input. -/
def arithLocalWrong : ChangeSpec := { name := "arithLocal", fn := fun _ => fun
  | [d1, d2, d3] => { results := [.lit (.bool false)], args := [d1, d2, d3] }
  | _ => none }
def ArithLocalWrongFalsely : Prop := arithLocalRow.holds Try.pinned (OpenSpec.ofChange arithLocalWrong)

/-- 'plaitlaw05.ArithScalar': WHATEVER THE INPUT: true; the input reads as it did. -/
def arithScalarSpec : ChangeSpec := { name := "arithScalar", fn := fun _ => fun
  | [d1, d2, d3] => { results := [.lit (.bool true)], args := [d1, d2, d3] }
  | _ => none }
def arithScalarRow : OpenClaim := { program := "ytalnkkmbjaollaa", sum := "e38ed3a8858824b7e987a18e64c5127efa30955b21b9e16365a370169acc6490", func := "plait/plaitlaw05.ArithScalar", spec := "arithScalar", apart := false }
def ArithScalarSaid : Prop := arithScalarRow.holds Try.pinned (OpenSpec.ofChange arithScalarSpec)

/-- ITS FALSE NEIGHBOUR: 'it returns false'. Refute it at one input. -/
def arithScalarWrong : ChangeSpec := { name := "arithScalar", fn := fun _ => fun
  | [d1, d2, d3] => { results := [.lit (.bool false)], args := [d1, d2, d3] }
  | _ => none }
def ArithScalarWrongFalsely : Prop := arithScalarRow.holds Try.pinned (OpenSpec.ofChange arithScalarWrong)

/- THE SECOND FORM. 'bulk': how many values and letters a reading holds, each counted each time it is reached (what is shared counts as often as it is met; a slice's spare places count too). A statement '..UptoSaid' is the law's where the arguments, and the package variables that the reading takes, are together of bulk at most 1048576: NARROWER than '..Said'. Prove '..Said' where nothing that the law and all that it calls make is longer than what came in: it says more and counts as full. Else prove '..UptoSaid'. A law counts once. -/
mutual
def uptoBulk {H : Type} : DataW H → Nat
  | .lit (.string bytes) => bytes.length + 1
  | .lit _ => 1
  | .nil => 1
  | .ptr d => uptoBulk d + 1
  | .slice elems spare => uptoBulkAll elems + uptoBulkAll spare + 1
  | .agg parts => uptoBulkAll parts + 1
  | .iface _ d => uptoBulk d + 1
  | .map entries => uptoBulkEntries entries + 1
  | .held _ => 1
def uptoBulkAll {H : Type} : List (DataW H) → Nat
  | [] => 0
  | d :: r => uptoBulk d + uptoBulkAll r
def uptoBulkEntries {H : Type} : List (Lit × DataW H) → Nat
  | [] => 0
  | x :: r => uptoBulkEntry x + uptoBulkEntries r
def uptoBulkEntry {H : Type} : Lit × DataW H → Nat
  | (.string bytes, d) => bytes.length + uptoBulk d + 1
  | (_, d) => uptoBulk d + 1
 end
def uptoSmall : (H : Type) → List (DataW H) → Bool := fun _ ds => decide (uptoBulkAll ds ≤ 1048576)
def OpenSpec.upto (s : _root_.Go.ChangeSpec) : _root_.Go.OpenSpec := { _root_.Go.OpenSpec.ofChange s with cond := some uptoSmall }

/-- 'plaitlaw05.ArithUn', WHERE WHAT IT READS IS OF BULK AT MOST 1048576: true; the input reads as it did. -/
def arithUnUptoRow : OpenClaim := { program := "ytalnkkmbjaollaa", sum := "e38ed3a8858824b7e987a18e64c5127efa30955b21b9e16365a370169acc6490", func := "plait/plaitlaw05.ArithUn", spec := "arithUn", apart := false, narrowed := true }
def ArithUnUptoSaid : Prop := arithUnUptoRow.holds Try.pinned (OpenSpec.upto arithUnSpec)

/-- 'plaitlaw05.ArithBin', WHERE WHAT IT READS IS OF BULK AT MOST 1048576: true; the input reads as it did. -/
def arithBinUptoRow : OpenClaim := { program := "ytalnkkmbjaollaa", sum := "e38ed3a8858824b7e987a18e64c5127efa30955b21b9e16365a370169acc6490", func := "plait/plaitlaw05.ArithBin", spec := "arithBin", apart := false, narrowed := true }
def ArithBinUptoSaid : Prop := arithBinUptoRow.holds Try.pinned (OpenSpec.upto arithBinSpec)

/-- 'plaitlaw05.ArithShift', WHERE WHAT IT READS IS OF BULK AT MOST 1048576: true; the input reads as it did. -/
def arithShiftUptoRow : OpenClaim := { program := "ytalnkkmbjaollaa", sum := "e38ed3a8858824b7e987a18e64c5127efa30955b21b9e16365a370169acc6490", func := "plait/plaitlaw05.ArithShift", spec := "arithShift", apart := false, narrowed := true }
def ArithShiftUptoSaid : Prop := arithShiftUptoRow.holds Try.pinned (OpenSpec.upto arithShiftSpec)

/-- 'plaitlaw05.ArithSat', WHERE WHAT IT READS IS OF BULK AT MOST 1048576: true; the input reads as it did. -/
def arithSatUptoRow : OpenClaim := { program := "ytalnkkmbjaollaa", sum := "e38ed3a8858824b7e987a18e64c5127efa30955b21b9e16365a370169acc6490", func := "plait/plaitlaw05.ArithSat", spec := "arithSat", apart := false, narrowed := true }
def ArithSatUptoSaid : Prop := arithSatUptoRow.holds Try.pinned (OpenSpec.upto arithSatSpec)

/-- 'plaitlaw05.ArithRing', WHERE WHAT IT READS IS OF BULK AT MOST 1048576: true; the input reads as it did. -/
def arithRingUptoRow : OpenClaim := { program := "ytalnkkmbjaollaa", sum := "e38ed3a8858824b7e987a18e64c5127efa30955b21b9e16365a370169acc6490", func := "plait/plaitlaw05.ArithRing", spec := "arithRing", apart := false, narrowed := true }
def ArithRingUptoSaid : Prop := arithRingUptoRow.holds Try.pinned (OpenSpec.upto arithRingSpec)

/-- 'plaitlaw05.ArithLeast', WHERE WHAT IT READS IS OF BULK AT MOST 1048576: true; the input reads as it did. -/
def arithLeastUptoRow : OpenClaim := { program := "ytalnkkmbjaollaa", sum := "e38ed3a8858824b7e987a18e64c5127efa30955b21b9e16365a370169acc6490", func := "plait/plaitlaw05.ArithLeast", spec := "arithLeast", apart := false, narrowed := true }
def ArithLeastUptoSaid : Prop := arithLeastUptoRow.holds Try.pinned (OpenSpec.upto arithLeastSpec)

/-- 'plaitlaw05.ArithLocal', WHERE WHAT IT READS IS OF BULK AT MOST 1048576: true; the input reads as it did. -/
def arithLocalUptoRow : OpenClaim := { program := "ytalnkkmbjaollaa", sum := "e38ed3a8858824b7e987a18e64c5127efa30955b21b9e16365a370169acc6490", func := "plait/plaitlaw05.ArithLocal", spec := "arithLocal", apart := false, narrowed := true }
def ArithLocalUptoSaid : Prop := arithLocalUptoRow.holds Try.pinned (OpenSpec.upto arithLocalSpec)

/-- 'plaitlaw05.ArithScalar', WHERE WHAT IT READS IS OF BULK AT MOST 1048576: true; the input reads as it did. -/
def arithScalarUptoRow : OpenClaim := { program := "ytalnkkmbjaollaa", sum := "e38ed3a8858824b7e987a18e64c5127efa30955b21b9e16365a370169acc6490", func := "plait/plaitlaw05.ArithScalar", spec := "arithScalar", apart := false, narrowed := true }
def ArithScalarUptoSaid : Prop := arithScalarUptoRow.holds Try.pinned (OpenSpec.upto arithScalarSpec)

end Rows
end Go.Proofs.Ytalnkkmbjaollaa
