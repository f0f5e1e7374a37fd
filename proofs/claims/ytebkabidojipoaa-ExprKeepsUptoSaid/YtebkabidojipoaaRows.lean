/-
  No cell of these rows narrows 'for every input' (looked for: loops, veiled, ifaces, maps, wideKeys, modest, calm, conditions, laid).
  DERIVED. THE GIVEN ROWS OF THIS SEAT. 6 by the template 'for every input the law returns true; each argument reads behind the call as it read before'; 0 by the template 'total and deterministic' (their statements: YtebkabidojipoaaTotals.lean).
  GIVEN WITH THE SEED: the statements are not yours to turn. If you find one false, say at which input.
  Laid BY PROGRAM, IN A SANDBOX (cutbox-rows.mjs): the forced cells as the released guide's own fill.sh prints them over the translation 9f36633923037e4b… (all of the seat's roots in one cut). By AI agents, Wed Nov 11 2026. No macro, syntax, notation, axiom, sorry.
-/
import Derived.Test.YtebkabidojipoaaChecked
import GoSem.Claim
import GoSem.ClaimJoined
import GoSem.ClaimMapViews
import Derived.JoinedTies
import Derived.KernelRfl
namespace Go.Proofs.Ytebkabidojipoaa
/- THE CELL 'sum', in the pinned program and in every row, IS THE sha256 OF THE DUMP (.gsa) THAT YtebkabidojipoaaProg.lean LOADS. Nothing in Lean hashes anything: it is a label: what it is worth is what the hold of that sum in a sandbox is worth. -/
noncomputable def Try.pinned : Pinned := { name := "ytebkabidojipoaa", sum := "9f36633923037e4b90931ebd4c3a72a9fbb6e8bd8111e9d5bd1f61c017cd7516", checked := Try.checked }
namespace Rows
def none {H : Type} : Left H := { results := [], args := [] }

/-- 'plaitlaw12.ExprReads': WHATEVER THE INPUT: true; the input reads as it did. -/
def exprReadsSpec : ChangeSpec := { name := "exprReads", fn := fun _ => fun
  | [d1, d2] => { results := [.lit (.bool true)], args := [d1, d2] }
  | _ => none }
def exprReadsRow : OpenClaim := { program := "ytebkabidojipoaa", sum := "9f36633923037e4b90931ebd4c3a72a9fbb6e8bd8111e9d5bd1f61c017cd7516", func := "plait/plaitlaw12.ExprReads", spec := "exprReads", inPlace := ["internal/bytealg.IndexByteString", "internal/bytealg.IndexString"], unfollowed := true, recurses := true, named := ["internal/bytealg.MaxLen"], apart := false }
def ExprReadsSaid : Prop := exprReadsRow.holds Try.pinned (OpenSpec.ofChange exprReadsSpec)

/-- ITS FALSE NEIGHBOUR: 'it returns false'. Refute it at one input. -/
def exprReadsWrong : ChangeSpec := { name := "exprReads", fn := fun _ => fun
  | [d1, d2] => { results := [.lit (.bool false)], args := [d1, d2] }
  | _ => none }
def ExprReadsWrongFalsely : Prop := exprReadsRow.holds Try.pinned (OpenSpec.ofChange exprReadsWrong)

/-- 'plaitlaw12.ExprWrites': WHATEVER THE INPUT: true; the input reads as it did. -/
def exprWritesSpec : ChangeSpec := { name := "exprWrites", fn := fun _ => fun
  | [d] => { results := [.lit (.bool true)], args := [d] }
  | _ => none }
def exprWritesRow : OpenClaim := { program := "ytebkabidojipoaa", sum := "9f36633923037e4b90931ebd4c3a72a9fbb6e8bd8111e9d5bd1f61c017cd7516", func := "plait/plaitlaw12.ExprWrites", spec := "exprWrites", inPlace := ["internal/bytealg.IndexByteString", "internal/bytealg.IndexString"], unfollowed := true, recurses := true, named := ["internal/bytealg.MaxLen"], apart := false }
def ExprWritesSaid : Prop := exprWritesRow.holds Try.pinned (OpenSpec.ofChange exprWritesSpec)

/-- ITS FALSE NEIGHBOUR: 'it returns false'. Refute it at one input. -/
def exprWritesWrong : ChangeSpec := { name := "exprWrites", fn := fun _ => fun
  | [d] => { results := [.lit (.bool false)], args := [d] }
  | _ => none }
def ExprWritesWrongFalsely : Prop := exprWritesRow.holds Try.pinned (OpenSpec.ofChange exprWritesWrong)

/-- 'plaitlaw12.ExprBack': WHATEVER THE INPUT: true; the input reads as it did. -/
def exprBackSpec : ChangeSpec := { name := "exprBack", fn := fun _ => fun
  | [d1, d2, d3] => { results := [.lit (.bool true)], args := [d1, d2, d3] }
  | _ => none }
def exprBackRow : OpenClaim := { program := "ytebkabidojipoaa", sum := "9f36633923037e4b90931ebd4c3a72a9fbb6e8bd8111e9d5bd1f61c017cd7516", func := "plait/plaitlaw12.ExprBack", spec := "exprBack", inPlace := ["internal/bytealg.IndexByteString", "internal/bytealg.IndexString"], unfollowed := true, recurses := true, named := ["internal/bytealg.MaxLen"], apart := false }
def ExprBackSaid : Prop := exprBackRow.holds Try.pinned (OpenSpec.ofChange exprBackSpec)

/-- ITS FALSE NEIGHBOUR: 'it returns false'. Refute it at one input. -/
def exprBackWrong : ChangeSpec := { name := "exprBack", fn := fun _ => fun
  | [d1, d2, d3] => { results := [.lit (.bool false)], args := [d1, d2, d3] }
  | _ => none }
def ExprBackWrongFalsely : Prop := exprBackRow.holds Try.pinned (OpenSpec.ofChange exprBackWrong)

/-- 'plaitlaw12.ExprForth': WHATEVER THE INPUT: true; the input reads as it did. -/
def exprForthSpec : ChangeSpec := { name := "exprForth", fn := fun _ => fun
  | [d] => { results := [.lit (.bool true)], args := [d] }
  | _ => none }
def exprForthRow : OpenClaim := { program := "ytebkabidojipoaa", sum := "9f36633923037e4b90931ebd4c3a72a9fbb6e8bd8111e9d5bd1f61c017cd7516", func := "plait/plaitlaw12.ExprForth", spec := "exprForth", inPlace := ["internal/bytealg.IndexByteString", "internal/bytealg.IndexString"], unfollowed := true, recurses := true, named := ["internal/bytealg.MaxLen"], apart := false }
def ExprForthSaid : Prop := exprForthRow.holds Try.pinned (OpenSpec.ofChange exprForthSpec)

/-- ITS FALSE NEIGHBOUR: 'it returns false'. Refute it at one input. -/
def exprForthWrong : ChangeSpec := { name := "exprForth", fn := fun _ => fun
  | [d] => { results := [.lit (.bool false)], args := [d] }
  | _ => none }
def ExprForthWrongFalsely : Prop := exprForthRow.holds Try.pinned (OpenSpec.ofChange exprForthWrong)

/-- 'plaitlaw12.ExprNest': WHATEVER THE INPUT: true; the input reads as it did. -/
def exprNestSpec : ChangeSpec := { name := "exprNest", fn := fun _ => fun
  | [d1, d2] => { results := [.lit (.bool true)], args := [d1, d2] }
  | _ => none }
def exprNestRow : OpenClaim := { program := "ytebkabidojipoaa", sum := "9f36633923037e4b90931ebd4c3a72a9fbb6e8bd8111e9d5bd1f61c017cd7516", func := "plait/plaitlaw12.ExprNest", spec := "exprNest", inPlace := ["internal/bytealg.IndexByteString", "internal/bytealg.IndexString"], unfollowed := true, recurses := true, named := ["internal/bytealg.MaxLen"], apart := false }
def ExprNestSaid : Prop := exprNestRow.holds Try.pinned (OpenSpec.ofChange exprNestSpec)

/-- ITS FALSE NEIGHBOUR: 'it returns false'. Refute it at one input. -/
def exprNestWrong : ChangeSpec := { name := "exprNest", fn := fun _ => fun
  | [d1, d2] => { results := [.lit (.bool false)], args := [d1, d2] }
  | _ => none }
def ExprNestWrongFalsely : Prop := exprNestRow.holds Try.pinned (OpenSpec.ofChange exprNestWrong)

/-- 'plaitlaw12.ExprKeeps': WHATEVER THE INPUT: true; the input reads as it did. -/
def exprKeepsSpec : ChangeSpec := { name := "exprKeeps", fn := fun _ => fun
  | [d] => { results := [.lit (.bool true)], args := [d] }
  | _ => none }
def exprKeepsRow : OpenClaim := { program := "ytebkabidojipoaa", sum := "9f36633923037e4b90931ebd4c3a72a9fbb6e8bd8111e9d5bd1f61c017cd7516", func := "plait/plaitlaw12.ExprKeeps", spec := "exprKeeps", inPlace := ["internal/bytealg.IndexByteString", "internal/bytealg.IndexString"], unfollowed := true, recurses := true, named := ["internal/bytealg.MaxLen"], apart := false }
def ExprKeepsSaid : Prop := exprKeepsRow.holds Try.pinned (OpenSpec.ofChange exprKeepsSpec)

/-- ITS FALSE NEIGHBOUR: 'it returns false'. Refute it at one input. -/
def exprKeepsWrong : ChangeSpec := { name := "exprKeeps", fn := fun _ => fun
  | [d] => { results := [.lit (.bool false)], args := [d] }
  | _ => none }
def ExprKeepsWrongFalsely : Prop := exprKeepsRow.holds Try.pinned (OpenSpec.ofChange exprKeepsWrong)

/- THE SECOND FORM. 'bulk': how many values and letters a reading holds, each counted each time it is reached (what is shared counts as often as it is met; a slice's spare places count too). A statement '..UptoSaid' is the law's where the arguments, and the package variables that the reading takes, are together of bulk at most 1048576: NARROWER than '..Said'. Prove '..Said' where nothing that the law and all that it calls make is longer than what came in: it says more and counts as full. Else prove '..UptoSaid'. A law counts once. -/
mutual
def uptoBulk {H : Type} : DataW H → Nat
  | .lit (.string bytes) => bytes.length + 1
  | .lit _ => 1
  | .nil => 1
  | .ptr d => uptoBulk d + 1
  | .slice elems spare => uptoBulkAll elems + uptoBulkAll spare + 1
  | .agg parts => uptoBulkAll parts + 1
  | .iface _ d => uptoBulk d + 1
  | .map entries => uptoBulkEntries entries + 1
  | .held _ => 1
def uptoBulkAll {H : Type} : List (DataW H) → Nat
  | [] => 0
  | d :: r => uptoBulk d + uptoBulkAll r
def uptoBulkEntries {H : Type} : List (Lit × DataW H) → Nat
  | [] => 0
  | x :: r => uptoBulkEntry x + uptoBulkEntries r
def uptoBulkEntry {H : Type} : Lit × DataW H → Nat
  | (.string bytes, d) => bytes.length + uptoBulk d + 1
  | (_, d) => uptoBulk d + 1
 end
def uptoSmall : (H : Type) → List (DataW H) → Bool := fun _ ds => decide (uptoBulkAll ds ≤ 1048576)
def OpenSpec.upto (s : _root_.Go.ChangeSpec) : _root_.Go.OpenSpec := { _root_.Go.OpenSpec.ofChange s with cond := some uptoSmall }

/-- 'plaitlaw12.ExprReads', WHERE WHAT IT READS IS OF BULK AT MOST 1048576: true; the input reads as it did. -/
def exprReadsUptoRow : OpenClaim := { program := "ytebkabidojipoaa", sum := "9f36633923037e4b90931ebd4c3a72a9fbb6e8bd8111e9d5bd1f61c017cd7516", func := "plait/plaitlaw12.ExprReads", spec := "exprReads", inPlace := ["internal/bytealg.IndexByteString", "internal/bytealg.IndexString"], unfollowed := true, recurses := true, named := ["internal/bytealg.MaxLen"], apart := false, narrowed := true }
def ExprReadsUptoSaid : Prop := exprReadsUptoRow.holds Try.pinned (OpenSpec.upto exprReadsSpec)

/-- 'plaitlaw12.ExprWrites', WHERE WHAT IT READS IS OF BULK AT MOST 1048576: true; the input reads as it did. -/
def exprWritesUptoRow : OpenClaim := { program := "ytebkabidojipoaa", sum := "9f36633923037e4b90931ebd4c3a72a9fbb6e8bd8111e9d5bd1f61c017cd7516", func := "plait/plaitlaw12.ExprWrites", spec := "exprWrites", inPlace := ["internal/bytealg.IndexByteString", "internal/bytealg.IndexString"], unfollowed := true, recurses := true, named := ["internal/bytealg.MaxLen"], apart := false, narrowed := true }
def ExprWritesUptoSaid : Prop := exprWritesUptoRow.holds Try.pinned (OpenSpec.upto exprWritesSpec)

/-- 'plaitlaw12.ExprBack', WHERE WHAT IT READS IS OF BULK AT MOST 1048576: true; the input reads as it did. -/
def exprBackUptoRow : OpenClaim := { program := "ytebkabidojipoaa", sum := "9f36633923037e4b90931ebd4c3a72a9fbb6e8bd8111e9d5bd1f61c017cd7516", func := "plait/plaitlaw12.ExprBack", spec := "exprBack", inPlace := ["internal/bytealg.IndexByteString", "internal/bytealg.IndexString"], unfollowed := true, recurses := true, named := ["internal/bytealg.MaxLen"], apart := false, narrowed := true }
def ExprBackUptoSaid : Prop := exprBackUptoRow.holds Try.pinned (OpenSpec.upto exprBackSpec)

/-- 'plaitlaw12.ExprForth', WHERE WHAT IT READS IS OF BULK AT MOST 1048576: true; the input reads as it did. -/
def exprForthUptoRow : OpenClaim := { program := "ytebkabidojipoaa", sum := "9f36633923037e4b90931ebd4c3a72a9fbb6e8bd8111e9d5bd1f61c017cd7516", func := "plait/plaitlaw12.ExprForth", spec := "exprForth", inPlace := ["internal/bytealg.IndexByteString", "internal/bytealg.IndexString"], unfollowed := true, recurses := true, named := ["internal/bytealg.MaxLen"], apart := false, narrowed := true }
def ExprForthUptoSaid : Prop := exprForthUptoRow.holds Try.pinned (OpenSpec.upto exprForthSpec)

/-- 'plaitlaw12.ExprNest', WHERE WHAT IT READS IS OF BULK AT MOST 1048576: true; the input reads as it did. -/
def exprNestUptoRow : OpenClaim := { program := "ytebkabidojipoaa", sum := "9f36633923037e4b90931ebd4c3a72a9fbb6e8bd8111e9d5bd1f61c017cd7516", func := "plait/plaitlaw12.ExprNest", spec := "exprNest", inPlace := ["internal/bytealg.IndexByteString", "internal/bytealg.IndexString"], unfollowed := true, recurses := true, named := ["internal/bytealg.MaxLen"], apart := false, narrowed := true }
def ExprNestUptoSaid : Prop := exprNestUptoRow.holds Try.pinned (OpenSpec.upto exprNestSpec)

/-- 'plaitlaw12.ExprKeeps', WHERE WHAT IT READS IS OF BULK AT MOST 1048576: true; the input reads as it did. -/
def exprKeepsUptoRow : OpenClaim := { program := "ytebkabidojipoaa", sum := "9f36633923037e4b90931ebd4c3a72a9fbb6e8bd8111e9d5bd1f61c017cd7516", func := "plait/plaitlaw12.ExprKeeps", spec := "exprKeeps", inPlace := ["internal/bytealg.IndexByteString", "internal/bytealg.IndexString"], unfollowed := true, recurses := true, named := ["internal/bytealg.MaxLen"], apart := false, narrowed := true }
def ExprKeepsUptoSaid : Prop := exprKeepsUptoRow.holds Try.pinned (OpenSpec.upto exprKeepsSpec)

end Rows
end Go.Proofs.Ytebkabidojipoaa
