/-
  No cell of these rows narrows 'for every input' (looked for: loops, veiled, ifaces, maps, wideKeys, modest, calm, conditions, laid).
  DERIVED. THE GIVEN ROWS OF THIS SEAT. 4 by the template 'for every input the law returns true; each argument reads behind the call as it read before'; 0 by the template 'total and deterministic' (their statements: YtjoalcaooccbiaaTotals.lean).
  GIVEN WITH THE SEED: the statements are not yours to turn. If you find one false, say at which input.
  Laid BY PROGRAM, IN A SANDBOX (cutbox-rows.mjs): the forced cells as the released guide's own fill.sh prints them over the translation da0fabee0d9d66c3… (all of the seat's roots in one cut). By AI agents, Wed Nov 11 2026. No macro, syntax, notation, axiom, sorry.
-/
import Derived.Test.YtjoalcaooccbiaaChecked
import GoSem.Claim
import GoSem.ClaimJoined
import GoSem.ClaimMapViews
import Derived.JoinedTies
import Derived.KernelRfl
namespace Go.Proofs.Ytjoalcaooccbiaa
/- THE CELL 'sum', in the pinned program and in every row, IS THE sha256 OF THE DUMP (.gsa) THAT YtjoalcaooccbiaaProg.lean LOADS. Nothing in Lean hashes anything: it is a label: what it is worth is what the hold of that sum in a sandbox is worth. -/
noncomputable def Try.pinned : Pinned := { name := "ytjoalcaooccbiaa", sum := "da0fabee0d9d66c35cacd06d5b4cb19e013c2d21d17f277634e13f9af4f8a9e2", checked := Try.checked }
namespace Rows
def none {H : Type} : Left H := { results := [], args := [] }

/-- 'plaitlaw09.VectorShapes': WHATEVER THE INPUT: true; the input reads as it did. -/
def vectorShapesSpec : ChangeSpec := { name := "vectorShapes", fn := fun _ => fun
  | [d1, d2] => { results := [.lit (.bool true)], args := [d1, d2] }
  | _ => none }
def vectorShapesRow : OpenClaim := { program := "ytjoalcaooccbiaa", sum := "da0fabee0d9d66c35cacd06d5b4cb19e013c2d21d17f277634e13f9af4f8a9e2", func := "plait/plaitlaw09.VectorShapes", spec := "vectorShapes", inPlace := ["internal/bytealg.IndexByteString", "internal/bytealg.IndexString"], named := ["internal/bytealg.MaxLen"], apart := false }
def VectorShapesSaid : Prop := vectorShapesRow.holds Try.pinned (OpenSpec.ofChange vectorShapesSpec)

/-- ITS FALSE NEIGHBOUR: 'it returns false'. Refute it at one input. -/
def vectorShapesWrong : ChangeSpec := { name := "vectorShapes", fn := fun _ => fun
  | [d1, d2] => { results := [.lit (.bool false)], args := [d1, d2] }
  | _ => none }
def VectorShapesWrongFalsely : Prop := vectorShapesRow.holds Try.pinned (OpenSpec.ofChange vectorShapesWrong)

/-- 'plaitlaw09.VectorParts': WHATEVER THE INPUT: true; the input reads as it did. -/
def vectorPartsSpec : ChangeSpec := { name := "vectorParts", fn := fun _ => fun
  | [d1, d2, d3] => { results := [.lit (.bool true)], args := [d1, d2, d3] }
  | _ => none }
def vectorPartsRow : OpenClaim := { program := "ytjoalcaooccbiaa", sum := "da0fabee0d9d66c35cacd06d5b4cb19e013c2d21d17f277634e13f9af4f8a9e2", func := "plait/plaitlaw09.VectorParts", spec := "vectorParts", inPlace := ["internal/bytealg.IndexByteString", "internal/bytealg.IndexString"], named := ["internal/bytealg.MaxLen"], apart := false }
def VectorPartsSaid : Prop := vectorPartsRow.holds Try.pinned (OpenSpec.ofChange vectorPartsSpec)

/-- ITS FALSE NEIGHBOUR: 'it returns false'. Refute it at one input. -/
def vectorPartsWrong : ChangeSpec := { name := "vectorParts", fn := fun _ => fun
  | [d1, d2, d3] => { results := [.lit (.bool false)], args := [d1, d2, d3] }
  | _ => none }
def VectorPartsWrongFalsely : Prop := vectorPartsRow.holds Try.pinned (OpenSpec.ofChange vectorPartsWrong)

/-- 'plaitlaw09.VectorCuts': WHATEVER THE INPUT: true; the input reads as it did. -/
def vectorCutsSpec : ChangeSpec := { name := "vectorCuts", fn := fun _ => fun
  | [d1, d2, d3] => { results := [.lit (.bool true)], args := [d1, d2, d3] }
  | _ => none }
def vectorCutsRow : OpenClaim := { program := "ytjoalcaooccbiaa", sum := "da0fabee0d9d66c35cacd06d5b4cb19e013c2d21d17f277634e13f9af4f8a9e2", func := "plait/plaitlaw09.VectorCuts", spec := "vectorCuts", inPlace := ["internal/bytealg.IndexByteString", "internal/bytealg.IndexString"], named := ["internal/bytealg.MaxLen"], apart := false }
def VectorCutsSaid : Prop := vectorCutsRow.holds Try.pinned (OpenSpec.ofChange vectorCutsSpec)

/-- ITS FALSE NEIGHBOUR: 'it returns false'. Refute it at one input. -/
def vectorCutsWrong : ChangeSpec := { name := "vectorCuts", fn := fun _ => fun
  | [d1, d2, d3] => { results := [.lit (.bool false)], args := [d1, d2, d3] }
  | _ => none }
def VectorCutsWrongFalsely : Prop := vectorCutsRow.holds Try.pinned (OpenSpec.ofChange vectorCutsWrong)

/-- 'plaitlaw09.VectorKeeps': WHATEVER THE INPUT: true; the input reads as it did. -/
def vectorKeepsSpec : ChangeSpec := { name := "vectorKeeps", fn := fun _ => fun
  | [d1, d2] => { results := [.lit (.bool true)], args := [d1, d2] }
  | _ => none }
def vectorKeepsRow : OpenClaim := { program := "ytjoalcaooccbiaa", sum := "da0fabee0d9d66c35cacd06d5b4cb19e013c2d21d17f277634e13f9af4f8a9e2", func := "plait/plaitlaw09.VectorKeeps", spec := "vectorKeeps", inPlace := ["internal/bytealg.IndexByteString", "internal/bytealg.IndexString"], named := ["internal/bytealg.MaxLen"], apart := false }
def VectorKeepsSaid : Prop := vectorKeepsRow.holds Try.pinned (OpenSpec.ofChange vectorKeepsSpec)

/-- ITS FALSE NEIGHBOUR: 'it returns false'. Refute it at one input. -/
def vectorKeepsWrong : ChangeSpec := { name := "vectorKeeps", fn := fun _ => fun
  | [d1, d2] => { results := [.lit (.bool false)], args := [d1, d2] }
  | _ => none }
def VectorKeepsWrongFalsely : Prop := vectorKeepsRow.holds Try.pinned (OpenSpec.ofChange vectorKeepsWrong)

/- THE SECOND FORM. 'bulk': how many values and letters a reading holds, each counted each time it is reached (what is shared counts as often as it is met; a slice's spare places count too). A statement '..UptoSaid' is the law's where the arguments, and the package variables that the reading takes, are together of bulk at most 1048576: NARROWER than '..Said'. Prove '..Said' where nothing that the law and all that it calls make is longer than what came in: it says more and counts as full. Else prove '..UptoSaid'. A law counts once. -/
mutual
def uptoBulk {H : Type} : DataW H → Nat
  | .lit (.string bytes) => bytes.length + 1
  | .lit _ => 1
  | .nil => 1
  | .ptr d => uptoBulk d + 1
  | .slice elems spare => uptoBulkAll elems + uptoBulkAll spare + 1
  | .agg parts => uptoBulkAll parts + 1
  | .iface _ d => uptoBulk d + 1
  | .map entries => uptoBulkEntries entries + 1
  | .held _ => 1
def uptoBulkAll {H : Type} : List (DataW H) → Nat
  | [] => 0
  | d :: r => uptoBulk d + uptoBulkAll r
def uptoBulkEntries {H : Type} : List (Lit × DataW H) → Nat
  | [] => 0
  | x :: r => uptoBulkEntry x + uptoBulkEntries r
def uptoBulkEntry {H : Type} : Lit × DataW H → Nat
  | (.string bytes, d) => bytes.length + uptoBulk d + 1
  | (_, d) => uptoBulk d + 1
 end
def uptoSmall : (H : Type) → List (DataW H) → Bool := fun _ ds => decide (uptoBulkAll ds ≤ 1048576)
def OpenSpec.upto (s : _root_.Go.ChangeSpec) : _root_.Go.OpenSpec := { _root_.Go.OpenSpec.ofChange s with cond := some uptoSmall }

/-- 'plaitlaw09.VectorShapes', WHERE WHAT IT READS IS OF BULK AT MOST 1048576: true; the input reads as it did. -/
def vectorShapesUptoRow : OpenClaim := { program := "ytjoalcaooccbiaa", sum := "da0fabee0d9d66c35cacd06d5b4cb19e013c2d21d17f277634e13f9af4f8a9e2", func := "plait/plaitlaw09.VectorShapes", spec := "vectorShapes", inPlace := ["internal/bytealg.IndexByteString", "internal/bytealg.IndexString"], named := ["internal/bytealg.MaxLen"], apart := false, narrowed := true }
def VectorShapesUptoSaid : Prop := vectorShapesUptoRow.holds Try.pinned (OpenSpec.upto vectorShapesSpec)

/-- 'plaitlaw09.VectorParts', WHERE WHAT IT READS IS OF BULK AT MOST 1048576: true; the input reads as it did. -/
def vectorPartsUptoRow : OpenClaim := { program := "ytjoalcaooccbiaa", sum := "da0fabee0d9d66c35cacd06d5b4cb19e013c2d21d17f277634e13f9af4f8a9e2", func := "plait/plaitlaw09.VectorParts", spec := "vectorParts", inPlace := ["internal/bytealg.IndexByteString", "internal/bytealg.IndexString"], named := ["internal/bytealg.MaxLen"], apart := false, narrowed := true }
def VectorPartsUptoSaid : Prop := vectorPartsUptoRow.holds Try.pinned (OpenSpec.upto vectorPartsSpec)

/-- 'plaitlaw09.VectorCuts', WHERE WHAT IT READS IS OF BULK AT MOST 1048576: true; the input reads as it did. -/
def vectorCutsUptoRow : OpenClaim := { program := "ytjoalcaooccbiaa", sum := "da0fabee0d9d66c35cacd06d5b4cb19e013c2d21d17f277634e13f9af4f8a9e2", func := "plait/plaitlaw09.VectorCuts", spec := "vectorCuts", inPlace := ["internal/bytealg.IndexByteString", "internal/bytealg.IndexString"], named := ["internal/bytealg.MaxLen"], apart := false, narrowed := true }
def VectorCutsUptoSaid : Prop := vectorCutsUptoRow.holds Try.pinned (OpenSpec.upto vectorCutsSpec)

/-- 'plaitlaw09.VectorKeeps', WHERE WHAT IT READS IS OF BULK AT MOST 1048576: true; the input reads as it did. -/
def vectorKeepsUptoRow : OpenClaim := { program := "ytjoalcaooccbiaa", sum := "da0fabee0d9d66c35cacd06d5b4cb19e013c2d21d17f277634e13f9af4f8a9e2", func := "plait/plaitlaw09.VectorKeeps", spec := "vectorKeeps", inPlace := ["internal/bytealg.IndexByteString", "internal/bytealg.IndexString"], named := ["internal/bytealg.MaxLen"], apart := false, narrowed := true }
def VectorKeepsUptoSaid : Prop := vectorKeepsUptoRow.holds Try.pinned (OpenSpec.upto vectorKeepsSpec)

end Rows
end Go.Proofs.Ytjoalcaooccbiaa
