/-
  No cell of these rows narrows 'for every input' (looked for: loops, veiled, ifaces, maps, wideKeys, modest, calm, conditions, laid).
  DERIVED. THE GIVEN ROWS OF THIS SEAT. 4 by the template 'for every input the law returns true; each argument reads behind the call as it read before'; 0 by the template 'total and deterministic' (their statements: YtifjgocfdnhdeaaTotals.lean).
  GIVEN WITH THE SEED: the statements are not yours to turn. If you find one false, say at which input.
  Laid BY PROGRAM, IN A SANDBOX (cutbox-rows.mjs): the forced cells as the released guide's own fill.sh prints them over the translation 368815aa0e2687b8… (all of the seat's roots in one cut). By AI agents, Wed Nov 11 2026. No macro, syntax, notation, axiom, sorry.
-/
import Derived.Test.YtifjgocfdnhdeaaChecked
import GoSem.Claim
import GoSem.ClaimJoined
import GoSem.ClaimMapViews
import Derived.JoinedTies
import Derived.KernelRfl
namespace Go.Proofs.Ytifjgocfdnhdeaa
/- THE CELL 'sum', in the pinned program and in every row, IS THE sha256 OF THE DUMP (.gsa) THAT YtifjgocfdnhdeaaProg.lean LOADS. Nothing in Lean hashes anything: it is a label: what it is worth is what the hold of that sum in a sandbox is worth. -/
noncomputable def Try.pinned : Pinned := { name := "ytifjgocfdnhdeaa", sum := "368815aa0e2687b81b55ca52bddba85495dadb428ab9023013691501e6c7a9e2", checked := Try.checked }
namespace Rows
def none {H : Type} : Left H := { results := [], args := [] }

/-- 'plaitlaw19.TargetScalar': WHATEVER THE INPUT: true; the input reads as it did. -/
def targetScalarSpec : ChangeSpec := { name := "targetScalar", fn := fun _ => fun
  | [d] => { results := [.lit (.bool true)], args := [d] }
  | _ => none }
def targetScalarRow : OpenClaim := { program := "ytifjgocfdnhdeaa", sum := "368815aa0e2687b81b55ca52bddba85495dadb428ab9023013691501e6c7a9e2", func := "plait/plaitlaw19.TargetScalar", spec := "targetScalar", inPlace := ["internal/bytealg.IndexByteString", "internal/bytealg.IndexString"], named := ["internal/bytealg.MaxLen"], apart := false }
def TargetScalarSaid : Prop := targetScalarRow.holds Try.pinned (OpenSpec.ofChange targetScalarSpec)

/-- ITS FALSE NEIGHBOUR: 'it returns false'. Refute it at one input. -/
def targetScalarWrong : ChangeSpec := { name := "targetScalar", fn := fun _ => fun
  | [d] => { results := [.lit (.bool false)], args := [d] }
  | _ => none }
def TargetScalarWrongFalsely : Prop := targetScalarRow.holds Try.pinned (OpenSpec.ofChange targetScalarWrong)

/-- 'plaitlaw19.TargetHeights': WHATEVER THE INPUT: true; the input reads as it did. -/
def targetHeightsSpec : ChangeSpec := { name := "targetHeights", fn := fun _ => fun
  | [d1, d2] => { results := [.lit (.bool true)], args := [d1, d2] }
  | _ => none }
def targetHeightsRow : OpenClaim := { program := "ytifjgocfdnhdeaa", sum := "368815aa0e2687b81b55ca52bddba85495dadb428ab9023013691501e6c7a9e2", func := "plait/plaitlaw19.TargetHeights", spec := "targetHeights", apart := false }
def TargetHeightsSaid : Prop := targetHeightsRow.holds Try.pinned (OpenSpec.ofChange targetHeightsSpec)

/-- ITS FALSE NEIGHBOUR: 'it returns false'. Refute it at one input. -/
def targetHeightsWrong : ChangeSpec := { name := "targetHeights", fn := fun _ => fun
  | [d1, d2] => { results := [.lit (.bool false)], args := [d1, d2] }
  | _ => none }
def TargetHeightsWrongFalsely : Prop := targetHeightsRow.holds Try.pinned (OpenSpec.ofChange targetHeightsWrong)

/-- 'plaitlaw19.TargetRefuses': WHATEVER THE INPUT: true; the input reads as it did. -/
def targetRefusesSpec : ChangeSpec := { name := "targetRefuses", fn := fun _ => fun
  | [d1, d2, d3] => { results := [.lit (.bool true)], args := [d1, d2, d3] }
  | _ => none }
def targetRefusesRow : OpenClaim := { program := "ytifjgocfdnhdeaa", sum := "368815aa0e2687b81b55ca52bddba85495dadb428ab9023013691501e6c7a9e2", func := "plait/plaitlaw19.TargetRefuses", spec := "targetRefuses", apart := false }
def TargetRefusesSaid : Prop := targetRefusesRow.holds Try.pinned (OpenSpec.ofChange targetRefusesSpec)

/-- ITS FALSE NEIGHBOUR: 'it returns false'. Refute it at one input. -/
def targetRefusesWrong : ChangeSpec := { name := "targetRefuses", fn := fun _ => fun
  | [d1, d2, d3] => { results := [.lit (.bool false)], args := [d1, d2, d3] }
  | _ => none }
def TargetRefusesWrongFalsely : Prop := targetRefusesRow.holds Try.pinned (OpenSpec.ofChange targetRefusesWrong)

/-- 'plaitlaw19.TargetKeeps': WHATEVER THE INPUT: true; the input reads as it did. -/
def targetKeepsSpec : ChangeSpec := { name := "targetKeeps", fn := fun _ => fun
  | [d1, d2] => { results := [.lit (.bool true)], args := [d1, d2] }
  | _ => none }
def targetKeepsRow : OpenClaim := { program := "ytifjgocfdnhdeaa", sum := "368815aa0e2687b81b55ca52bddba85495dadb428ab9023013691501e6c7a9e2", func := "plait/plaitlaw19.TargetKeeps", spec := "targetKeeps", apart := false }
def TargetKeepsSaid : Prop := targetKeepsRow.holds Try.pinned (OpenSpec.ofChange targetKeepsSpec)

/-- ITS FALSE NEIGHBOUR: 'it returns false'. Refute it at one input. -/
def targetKeepsWrong : ChangeSpec := { name := "targetKeeps", fn := fun _ => fun
  | [d1, d2] => { results := [.lit (.bool false)], args := [d1, d2] }
  | _ => none }
def TargetKeepsWrongFalsely : Prop := targetKeepsRow.holds Try.pinned (OpenSpec.ofChange targetKeepsWrong)

/- THE SECOND FORM. 'bulk': how many values and letters a reading holds, each counted each time it is reached (what is shared counts as often as it is met; a slice's spare places count too). A statement '..UptoSaid' is the law's where the arguments, and the package variables that the reading takes, are together of bulk at most 1048576: NARROWER than '..Said'. Prove '..Said' where nothing that the law and all that it calls make is longer than what came in: it says more and counts as full. Else prove '..UptoSaid'. A law counts once. -/
mutual
def uptoBulk {H : Type} : DataW H → Nat
  | .lit (.string bytes) => bytes.length + 1
  | .lit _ => 1
  | .nil => 1
  | .ptr d => uptoBulk d + 1
  | .slice elems spare => uptoBulkAll elems + uptoBulkAll spare + 1
  | .agg parts => uptoBulkAll parts + 1
  | .iface _ d => uptoBulk d + 1
  | .map entries => uptoBulkEntries entries + 1
  | .held _ => 1
def uptoBulkAll {H : Type} : List (DataW H) → Nat
  | [] => 0
  | d :: r => uptoBulk d + uptoBulkAll r
def uptoBulkEntries {H : Type} : List (Lit × DataW H) → Nat
  | [] => 0
  | x :: r => uptoBulkEntry x + uptoBulkEntries r
def uptoBulkEntry {H : Type} : Lit × DataW H → Nat
  | (.string bytes, d) => bytes.length + uptoBulk d + 1
  | (_, d) => uptoBulk d + 1
 end
def uptoSmall : (H : Type) → List (DataW H) → Bool := fun _ ds => decide (uptoBulkAll ds ≤ 1048576)
def OpenSpec.upto (s : _root_.Go.ChangeSpec) : _root_.Go.OpenSpec := { _root_.Go.OpenSpec.ofChange s with cond := some uptoSmall }

/-- 'plaitlaw19.TargetScalar', WHERE WHAT IT READS IS OF BULK AT MOST 1048576: true; the input reads as it did. -/
def targetScalarUptoRow : OpenClaim := { program := "ytifjgocfdnhdeaa", sum := "368815aa0e2687b81b55ca52bddba85495dadb428ab9023013691501e6c7a9e2", func := "plait/plaitlaw19.TargetScalar", spec := "targetScalar", inPlace := ["internal/bytealg.IndexByteString", "internal/bytealg.IndexString"], named := ["internal/bytealg.MaxLen"], apart := false, narrowed := true }
def TargetScalarUptoSaid : Prop := targetScalarUptoRow.holds Try.pinned (OpenSpec.upto targetScalarSpec)

/-- 'plaitlaw19.TargetHeights', WHERE WHAT IT READS IS OF BULK AT MOST 1048576: true; the input reads as it did. -/
def targetHeightsUptoRow : OpenClaim := { program := "ytifjgocfdnhdeaa", sum := "368815aa0e2687b81b55ca52bddba85495dadb428ab9023013691501e6c7a9e2", func := "plait/plaitlaw19.TargetHeights", spec := "targetHeights", apart := false, narrowed := true }
def TargetHeightsUptoSaid : Prop := targetHeightsUptoRow.holds Try.pinned (OpenSpec.upto targetHeightsSpec)

/-- 'plaitlaw19.TargetRefuses', WHERE WHAT IT READS IS OF BULK AT MOST 1048576: true; the input reads as it did. -/
def targetRefusesUptoRow : OpenClaim := { program := "ytifjgocfdnhdeaa", sum := "368815aa0e2687b81b55ca52bddba85495dadb428ab9023013691501e6c7a9e2", func := "plait/plaitlaw19.TargetRefuses", spec := "targetRefuses", apart := false, narrowed := true }
def TargetRefusesUptoSaid : Prop := targetRefusesUptoRow.holds Try.pinned (OpenSpec.upto targetRefusesSpec)

/-- 'plaitlaw19.TargetKeeps', WHERE WHAT IT READS IS OF BULK AT MOST 1048576: true; the input reads as it did. -/
def targetKeepsUptoRow : OpenClaim := { program := "ytifjgocfdnhdeaa", sum := "368815aa0e2687b81b55ca52bddba85495dadb428ab9023013691501e6c7a9e2", func := "plait/plaitlaw19.TargetKeeps", spec := "targetKeeps", apart := false, narrowed := true }
def TargetKeepsUptoSaid : Prop := targetKeepsUptoRow.holds Try.pinned (OpenSpec.upto targetKeepsSpec)

end Rows
end Go.Proofs.Ytifjgocfdnhdeaa
