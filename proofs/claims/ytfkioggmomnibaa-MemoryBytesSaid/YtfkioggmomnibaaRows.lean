/-
  No cell of these rows narrows 'for every input' (looked for: loops, veiled, ifaces, maps, wideKeys, modest, calm, conditions, laid).
  DERIVED. THE GIVEN ROWS OF THIS SEAT. 5 by the template 'for every input the law returns true; each argument reads behind the call as it read before'; 0 by the template 'total and deterministic' (their statements: YtfkioggmomnibaaTotals.lean).
  GIVEN WITH THE SEED: the statements are not yours to turn. If you find one false, say at which input.
  Laid BY PROGRAM, IN A SANDBOX (cutbox-rows.mjs): the forced cells as the released guide's own fill.sh prints them over the translation 9f0481437c005fba… (all of the seat's roots in one cut). By AI agents, Wed Nov 11 2026. No macro, syntax, notation, axiom, sorry.
-/
import Derived.Test.YtfkioggmomnibaaChecked
import GoSem.Claim
import GoSem.ClaimJoined
import GoSem.ClaimMapViews
import Derived.JoinedTies
import Derived.KernelRfl
namespace Go.Proofs.Ytfkioggmomnibaa
/- THE CELL 'sum', in the pinned program and in every row, IS THE sha256 OF THE DUMP (.gsa) THAT YtfkioggmomnibaaProg.lean LOADS. Nothing in Lean hashes anything: it is a label: what it is worth is what the hold of that sum in a sandbox is worth. -/
noncomputable def Try.pinned : Pinned := { name := "ytfkioggmomnibaa", sum := "9f0481437c005fba246cc7539cad75f252af7db0aff409e9ce8d67cffd8db199", checked := Try.checked }
namespace Rows
def none {H : Type} : Left H := { results := [], args := [] }

/-- 'plaitlaw10.MemoryScripts': WHATEVER THE INPUT: true; the input reads as it did. -/
def memoryScriptsSpec : ChangeSpec := { name := "memoryScripts", fn := fun _ => fun
  | [d] => { results := [.lit (.bool true)], args := [d] }
  | _ => none }
def memoryScriptsRow : OpenClaim := { program := "ytfkioggmomnibaa", sum := "9f0481437c005fba246cc7539cad75f252af7db0aff409e9ce8d67cffd8db199", func := "plait/plaitlaw10.MemoryScripts", spec := "memoryScripts", apart := false }
def MemoryScriptsSaid : Prop := memoryScriptsRow.holds Try.pinned (OpenSpec.ofChange memoryScriptsSpec)

/-- ITS FALSE NEIGHBOUR: 'it returns false'. Refute it at one input. -/
def memoryScriptsWrong : ChangeSpec := { name := "memoryScripts", fn := fun _ => fun
  | [d] => { results := [.lit (.bool false)], args := [d] }
  | _ => none }
def MemoryScriptsWrongFalsely : Prop := memoryScriptsRow.holds Try.pinned (OpenSpec.ofChange memoryScriptsWrong)

/-- 'plaitlaw10.MemoryNews': WHATEVER THE INPUT: true; the input reads as it did. -/
def memoryNewsSpec : ChangeSpec := { name := "memoryNews", fn := fun _ => fun
  | [d1, d2] => { results := [.lit (.bool true)], args := [d1, d2] }
  | _ => none }
def memoryNewsRow : OpenClaim := { program := "ytfkioggmomnibaa", sum := "9f0481437c005fba246cc7539cad75f252af7db0aff409e9ce8d67cffd8db199", func := "plait/plaitlaw10.MemoryNews", spec := "memoryNews", apart := false }
def MemoryNewsSaid : Prop := memoryNewsRow.holds Try.pinned (OpenSpec.ofChange memoryNewsSpec)

/-- ITS FALSE NEIGHBOUR: 'it returns false'. Refute it at one input. -/
def memoryNewsWrong : ChangeSpec := { name := "memoryNews", fn := fun _ => fun
  | [d1, d2] => { results := [.lit (.bool false)], args := [d1, d2] }
  | _ => none }
def MemoryNewsWrongFalsely : Prop := memoryNewsRow.holds Try.pinned (OpenSpec.ofChange memoryNewsWrong)

/-- 'plaitlaw10.MemoryWhole': WHATEVER THE INPUT: true; the input reads as it did. -/
def memoryWholeSpec : ChangeSpec := { name := "memoryWhole", fn := fun _ => fun
  | [d1, d2, d3] => { results := [.lit (.bool true)], args := [d1, d2, d3] }
  | _ => none }
def memoryWholeRow : OpenClaim := { program := "ytfkioggmomnibaa", sum := "9f0481437c005fba246cc7539cad75f252af7db0aff409e9ce8d67cffd8db199", func := "plait/plaitlaw10.MemoryWhole", spec := "memoryWhole", apart := false }
def MemoryWholeSaid : Prop := memoryWholeRow.holds Try.pinned (OpenSpec.ofChange memoryWholeSpec)

/-- ITS FALSE NEIGHBOUR: 'it returns false'. Refute it at one input. -/
def memoryWholeWrong : ChangeSpec := { name := "memoryWhole", fn := fun _ => fun
  | [d1, d2, d3] => { results := [.lit (.bool false)], args := [d1, d2, d3] }
  | _ => none }
def MemoryWholeWrongFalsely : Prop := memoryWholeRow.holds Try.pinned (OpenSpec.ofChange memoryWholeWrong)

/-- 'plaitlaw10.MemoryGrows': WHATEVER THE INPUT: true; the input reads as it did. -/
def memoryGrowsSpec : ChangeSpec := { name := "memoryGrows", fn := fun _ => fun
  | [d1, d2, d3] => { results := [.lit (.bool true)], args := [d1, d2, d3] }
  | _ => none }
def memoryGrowsRow : OpenClaim := { program := "ytfkioggmomnibaa", sum := "9f0481437c005fba246cc7539cad75f252af7db0aff409e9ce8d67cffd8db199", func := "plait/plaitlaw10.MemoryGrows", spec := "memoryGrows", apart := false }
def MemoryGrowsSaid : Prop := memoryGrowsRow.holds Try.pinned (OpenSpec.ofChange memoryGrowsSpec)

/-- ITS FALSE NEIGHBOUR: 'it returns false'. Refute it at one input. -/
def memoryGrowsWrong : ChangeSpec := { name := "memoryGrows", fn := fun _ => fun
  | [d1, d2, d3] => { results := [.lit (.bool false)], args := [d1, d2, d3] }
  | _ => none }
def MemoryGrowsWrongFalsely : Prop := memoryGrowsRow.holds Try.pinned (OpenSpec.ofChange memoryGrowsWrong)

/-- 'plaitlaw10.MemoryBytes': WHATEVER THE INPUT: true; the input reads as it did. -/
def memoryBytesSpec : ChangeSpec := { name := "memoryBytes", fn := fun _ => fun
  | [d1, d2] => { results := [.lit (.bool true)], args := [d1, d2] }
  | _ => none }
def memoryBytesRow : OpenClaim := { program := "ytfkioggmomnibaa", sum := "9f0481437c005fba246cc7539cad75f252af7db0aff409e9ce8d67cffd8db199", func := "plait/plaitlaw10.MemoryBytes", spec := "memoryBytes", apart := false }
def MemoryBytesSaid : Prop := memoryBytesRow.holds Try.pinned (OpenSpec.ofChange memoryBytesSpec)

/-- ITS FALSE NEIGHBOUR: 'it returns false'. Refute it at one input. -/
def memoryBytesWrong : ChangeSpec := { name := "memoryBytes", fn := fun _ => fun
  | [d1, d2] => { results := [.lit (.bool false)], args := [d1, d2] }
  | _ => none }
def MemoryBytesWrongFalsely : Prop := memoryBytesRow.holds Try.pinned (OpenSpec.ofChange memoryBytesWrong)

/- THE SECOND FORM. 'bulk': how many values and letters a reading holds, each counted each time it is reached (what is shared counts as often as it is met; a slice's spare places count too). A statement '..UptoSaid' is the law's where the arguments, and the package variables that the reading takes, are together of bulk at most 1048576: NARROWER than '..Said'. Prove '..Said' where nothing that the law and all that it calls make is longer than what came in: it says more and counts as full. Else prove '..UptoSaid'. A law counts once. -/
mutual
def uptoBulk {H : Type} : DataW H → Nat
  | .lit (.string bytes) => bytes.length + 1
  | .lit _ => 1
  | .nil => 1
  | .ptr d => uptoBulk d + 1
  | .slice elems spare => uptoBulkAll elems + uptoBulkAll spare + 1
  | .agg parts => uptoBulkAll parts + 1
  | .iface _ d => uptoBulk d + 1
  | .map entries => uptoBulkEntries entries + 1
  | .held _ => 1
def uptoBulkAll {H : Type} : List (DataW H) → Nat
  | [] => 0
  | d :: r => uptoBulk d + uptoBulkAll r
def uptoBulkEntries {H : Type} : List (Lit × DataW H) → Nat
  | [] => 0
  | x :: r => uptoBulkEntry x + uptoBulkEntries r
def uptoBulkEntry {H : Type} : Lit × DataW H → Nat
  | (.string bytes, d) => bytes.length + uptoBulk d + 1
  | (_, d) => uptoBulk d + 1
 end
def uptoSmall : (H : Type) → List (DataW H) → Bool := fun _ ds => decide (uptoBulkAll ds ≤ 1048576)
def OpenSpec.upto (s : _root_.Go.ChangeSpec) : _root_.Go.OpenSpec := { _root_.Go.OpenSpec.ofChange s with cond := some uptoSmall }

/-- 'plaitlaw10.MemoryScripts', WHERE WHAT IT READS IS OF BULK AT MOST 1048576: true; the input reads as it did. -/
def memoryScriptsUptoRow : OpenClaim := { program := "ytfkioggmomnibaa", sum := "9f0481437c005fba246cc7539cad75f252af7db0aff409e9ce8d67cffd8db199", func := "plait/plaitlaw10.MemoryScripts", spec := "memoryScripts", apart := false, narrowed := true }
def MemoryScriptsUptoSaid : Prop := memoryScriptsUptoRow.holds Try.pinned (OpenSpec.upto memoryScriptsSpec)

/-- 'plaitlaw10.MemoryNews', WHERE WHAT IT READS IS OF BULK AT MOST 1048576: true; the input reads as it did. -/
def memoryNewsUptoRow : OpenClaim := { program := "ytfkioggmomnibaa", sum := "9f0481437c005fba246cc7539cad75f252af7db0aff409e9ce8d67cffd8db199", func := "plait/plaitlaw10.MemoryNews", spec := "memoryNews", apart := false, narrowed := true }
def MemoryNewsUptoSaid : Prop := memoryNewsUptoRow.holds Try.pinned (OpenSpec.upto memoryNewsSpec)

/-- 'plaitlaw10.MemoryWhole', WHERE WHAT IT READS IS OF BULK AT MOST 1048576: true; the input reads as it did. -/
def memoryWholeUptoRow : OpenClaim := { program := "ytfkioggmomnibaa", sum := "9f0481437c005fba246cc7539cad75f252af7db0aff409e9ce8d67cffd8db199", func := "plait/plaitlaw10.MemoryWhole", spec := "memoryWhole", apart := false, narrowed := true }
def MemoryWholeUptoSaid : Prop := memoryWholeUptoRow.holds Try.pinned (OpenSpec.upto memoryWholeSpec)

/-- 'plaitlaw10.MemoryGrows', WHERE WHAT IT READS IS OF BULK AT MOST 1048576: true; the input reads as it did. -/
def memoryGrowsUptoRow : OpenClaim := { program := "ytfkioggmomnibaa", sum := "9f0481437c005fba246cc7539cad75f252af7db0aff409e9ce8d67cffd8db199", func := "plait/plaitlaw10.MemoryGrows", spec := "memoryGrows", apart := false, narrowed := true }
def MemoryGrowsUptoSaid : Prop := memoryGrowsUptoRow.holds Try.pinned (OpenSpec.upto memoryGrowsSpec)

/-- 'plaitlaw10.MemoryBytes', WHERE WHAT IT READS IS OF BULK AT MOST 1048576: true; the input reads as it did. -/
def memoryBytesUptoRow : OpenClaim := { program := "ytfkioggmomnibaa", sum := "9f0481437c005fba246cc7539cad75f252af7db0aff409e9ce8d67cffd8db199", func := "plait/plaitlaw10.MemoryBytes", spec := "memoryBytes", apart := false, narrowed := true }
def MemoryBytesUptoSaid : Prop := memoryBytesUptoRow.holds Try.pinned (OpenSpec.upto memoryBytesSpec)

end Rows
end Go.Proofs.Ytfkioggmomnibaa
