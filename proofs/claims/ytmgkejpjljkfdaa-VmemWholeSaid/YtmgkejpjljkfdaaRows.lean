/-
  No cell of these rows narrows 'for every input' (looked for: loops, veiled, ifaces, maps, wideKeys, modest, calm, conditions, laid).
  DERIVED. THE GIVEN ROWS OF THIS SEAT. 4 by the template 'for every input the law returns true; each argument reads behind the call as it read before'; 0 by the template 'total and deterministic' (their statements: YtmgkejpjljkfdaaTotals.lean).
  GIVEN WITH THE SEED: the statements are not yours to turn. If you find one false, say at which input.
  Laid BY PROGRAM, IN A SANDBOX (cutbox-rows.mjs): the forced cells as the released guide's own fill.sh prints them over the translation e7daa2888dc2b0c0… (all of the seat's roots in one cut). By AI agents, Wed Nov 11 2026. No macro, syntax, notation, axiom, sorry.
-/
import Derived.Test.YtmgkejpjljkfdaaChecked
import GoSem.Claim
import GoSem.ClaimJoined
import GoSem.ClaimMapViews
import Derived.JoinedTies
import Derived.KernelRfl
namespace Go.Proofs.Ytmgkejpjljkfdaa
/- THE CELL 'sum', in the pinned program and in every row, IS THE sha256 OF THE DUMP (.gsa) THAT YtmgkejpjljkfdaaProg.lean LOADS. Nothing in Lean hashes anything: it is a label: what it is worth is what the hold of that sum in a sandbox is worth. -/
noncomputable def Try.pinned : Pinned := { name := "ytmgkejpjljkfdaa", sum := "e7daa2888dc2b0c01e3f19428900cb49f809324829c19a6e4824533921d88b0d", checked := Try.checked }
namespace Rows
def none {H : Type} : Left H := { results := [], args := [] }

/-- 'plaitlaw11.VmemAll': WHATEVER THE INPUT: true; the input reads as it did. -/
def vmemAllSpec : ChangeSpec := { name := "vmemAll", fn := fun _ => fun
  | [d1, d2, d3] => { results := [.lit (.bool true)], args := [d1, d2, d3] }
  | _ => none }
def vmemAllRow : OpenClaim := { program := "ytmgkejpjljkfdaa", sum := "e7daa2888dc2b0c01e3f19428900cb49f809324829c19a6e4824533921d88b0d", func := "plait/plaitlaw11.VmemAll", spec := "vmemAll", apart := false }
def VmemAllSaid : Prop := vmemAllRow.holds Try.pinned (OpenSpec.ofChange vmemAllSpec)

/-- ITS FALSE NEIGHBOUR: 'it returns false'. Refute it at one input. -/
def vmemAllWrong : ChangeSpec := { name := "vmemAll", fn := fun _ => fun
  | [d1, d2, d3] => { results := [.lit (.bool false)], args := [d1, d2, d3] }
  | _ => none }
def VmemAllWrongFalsely : Prop := vmemAllRow.holds Try.pinned (OpenSpec.ofChange vmemAllWrong)

/-- 'plaitlaw11.VmemWhole': WHATEVER THE INPUT: true; the input reads as it did. -/
def vmemWholeSpec : ChangeSpec := { name := "vmemWhole", fn := fun _ => fun
  | [d1, d2, d3] => { results := [.lit (.bool true)], args := [d1, d2, d3] }
  | _ => none }
def vmemWholeRow : OpenClaim := { program := "ytmgkejpjljkfdaa", sum := "e7daa2888dc2b0c01e3f19428900cb49f809324829c19a6e4824533921d88b0d", func := "plait/plaitlaw11.VmemWhole", spec := "vmemWhole", apart := false }
def VmemWholeSaid : Prop := vmemWholeRow.holds Try.pinned (OpenSpec.ofChange vmemWholeSpec)

/-- ITS FALSE NEIGHBOUR: 'it returns false'. Refute it at one input. -/
def vmemWholeWrong : ChangeSpec := { name := "vmemWhole", fn := fun _ => fun
  | [d1, d2, d3] => { results := [.lit (.bool false)], args := [d1, d2, d3] }
  | _ => none }
def VmemWholeWrongFalsely : Prop := vmemWholeRow.holds Try.pinned (OpenSpec.ofChange vmemWholeWrong)

/-- 'plaitlaw11.VmemParts': WHATEVER THE INPUT: true; the input reads as it did. -/
def vmemPartsSpec : ChangeSpec := { name := "vmemParts", fn := fun _ => fun
  | [d1, d2, d3] => { results := [.lit (.bool true)], args := [d1, d2, d3] }
  | _ => none }
def vmemPartsRow : OpenClaim := { program := "ytmgkejpjljkfdaa", sum := "e7daa2888dc2b0c01e3f19428900cb49f809324829c19a6e4824533921d88b0d", func := "plait/plaitlaw11.VmemParts", spec := "vmemParts", apart := false }
def VmemPartsSaid : Prop := vmemPartsRow.holds Try.pinned (OpenSpec.ofChange vmemPartsSpec)

/-- ITS FALSE NEIGHBOUR: 'it returns false'. Refute it at one input. -/
def vmemPartsWrong : ChangeSpec := { name := "vmemParts", fn := fun _ => fun
  | [d1, d2, d3] => { results := [.lit (.bool false)], args := [d1, d2, d3] }
  | _ => none }
def VmemPartsWrongFalsely : Prop := vmemPartsRow.holds Try.pinned (OpenSpec.ofChange vmemPartsWrong)

/-- 'plaitlaw11.VmemBack': WHATEVER THE INPUT: true; the input reads as it did. -/
def vmemBackSpec : ChangeSpec := { name := "vmemBack", fn := fun _ => fun
  | [d1, d2, d3] => { results := [.lit (.bool true)], args := [d1, d2, d3] }
  | _ => none }
def vmemBackRow : OpenClaim := { program := "ytmgkejpjljkfdaa", sum := "e7daa2888dc2b0c01e3f19428900cb49f809324829c19a6e4824533921d88b0d", func := "plait/plaitlaw11.VmemBack", spec := "vmemBack", apart := false }
def VmemBackSaid : Prop := vmemBackRow.holds Try.pinned (OpenSpec.ofChange vmemBackSpec)

/-- ITS FALSE NEIGHBOUR: 'it returns false'. Refute it at one input. -/
def vmemBackWrong : ChangeSpec := { name := "vmemBack", fn := fun _ => fun
  | [d1, d2, d3] => { results := [.lit (.bool false)], args := [d1, d2, d3] }
  | _ => none }
def VmemBackWrongFalsely : Prop := vmemBackRow.holds Try.pinned (OpenSpec.ofChange vmemBackWrong)

/- THE SECOND FORM. 'bulk': how many values and letters a reading holds, each counted each time it is reached (what is shared counts as often as it is met; a slice's spare places count too). A statement '..UptoSaid' is the law's where the arguments, and the package variables that the reading takes, are together of bulk at most 1048576: NARROWER than '..Said'. Prove '..Said' where nothing that the law and all that it calls make is longer than what came in: it says more and counts as full. Else prove '..UptoSaid'. A law counts once. -/
mutual
def uptoBulk {H : Type} : DataW H → Nat
  | .lit (.string bytes) => bytes.length + 1
  | .lit _ => 1
  | .nil => 1
  | .ptr d => uptoBulk d + 1
  | .slice elems spare => uptoBulkAll elems + uptoBulkAll spare + 1
  | .agg parts => uptoBulkAll parts + 1
  | .iface _ d => uptoBulk d + 1
  | .map entries => uptoBulkEntries entries + 1
  | .held _ => 1
def uptoBulkAll {H : Type} : List (DataW H) → Nat
  | [] => 0
  | d :: r => uptoBulk d + uptoBulkAll r
def uptoBulkEntries {H : Type} : List (Lit × DataW H) → Nat
  | [] => 0
  | x :: r => uptoBulkEntry x + uptoBulkEntries r
def uptoBulkEntry {H : Type} : Lit × DataW H → Nat
  | (.string bytes, d) => bytes.length + uptoBulk d + 1
  | (_, d) => uptoBulk d + 1
 end
def uptoSmall : (H : Type) → List (DataW H) → Bool := fun _ ds => decide (uptoBulkAll ds ≤ 1048576)
def OpenSpec.upto (s : _root_.Go.ChangeSpec) : _root_.Go.OpenSpec := { _root_.Go.OpenSpec.ofChange s with cond := some uptoSmall }

/-- 'plaitlaw11.VmemAll', WHERE WHAT IT READS IS OF BULK AT MOST 1048576: true; the input reads as it did. -/
def vmemAllUptoRow : OpenClaim := { program := "ytmgkejpjljkfdaa", sum := "e7daa2888dc2b0c01e3f19428900cb49f809324829c19a6e4824533921d88b0d", func := "plait/plaitlaw11.VmemAll", spec := "vmemAll", apart := false, narrowed := true }
def VmemAllUptoSaid : Prop := vmemAllUptoRow.holds Try.pinned (OpenSpec.upto vmemAllSpec)

/-- 'plaitlaw11.VmemWhole', WHERE WHAT IT READS IS OF BULK AT MOST 1048576: true; the input reads as it did. -/
def vmemWholeUptoRow : OpenClaim := { program := "ytmgkejpjljkfdaa", sum := "e7daa2888dc2b0c01e3f19428900cb49f809324829c19a6e4824533921d88b0d", func := "plait/plaitlaw11.VmemWhole", spec := "vmemWhole", apart := false, narrowed := true }
def VmemWholeUptoSaid : Prop := vmemWholeUptoRow.holds Try.pinned (OpenSpec.upto vmemWholeSpec)

/-- 'plaitlaw11.VmemParts', WHERE WHAT IT READS IS OF BULK AT MOST 1048576: true; the input reads as it did. -/
def vmemPartsUptoRow : OpenClaim := { program := "ytmgkejpjljkfdaa", sum := "e7daa2888dc2b0c01e3f19428900cb49f809324829c19a6e4824533921d88b0d", func := "plait/plaitlaw11.VmemParts", spec := "vmemParts", apart := false, narrowed := true }
def VmemPartsUptoSaid : Prop := vmemPartsUptoRow.holds Try.pinned (OpenSpec.upto vmemPartsSpec)

/-- 'plaitlaw11.VmemBack', WHERE WHAT IT READS IS OF BULK AT MOST 1048576: true; the input reads as it did. -/
def vmemBackUptoRow : OpenClaim := { program := "ytmgkejpjljkfdaa", sum := "e7daa2888dc2b0c01e3f19428900cb49f809324829c19a6e4824533921d88b0d", func := "plait/plaitlaw11.VmemBack", spec := "vmemBack", apart := false, narrowed := true }
def VmemBackUptoSaid : Prop := vmemBackUptoRow.holds Try.pinned (OpenSpec.upto vmemBackSpec)

end Rows
end Go.Proofs.Ytmgkejpjljkfdaa
