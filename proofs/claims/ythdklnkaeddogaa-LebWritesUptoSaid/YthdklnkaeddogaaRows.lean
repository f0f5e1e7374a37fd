/-
  No cell of these rows narrows 'for every input' (looked for: loops, veiled, ifaces, maps, wideKeys, modest, calm, conditions, laid).
  DERIVED. THE GIVEN ROWS OF THIS SEAT. 7 by the template 'for every input the law returns true; each argument reads behind the call as it read before'; 0 by the template 'total and deterministic' (their statements: YthdklnkaeddogaaTotals.lean).
  GIVEN WITH THE SEED: the statements are not yours to turn. If you find one false, say at which input.
  Laid BY PROGRAM, IN A SANDBOX (cutbox-rows.mjs): the forced cells as the released guide's own fill.sh prints them over the translation e290c6f57a767378… (all of the seat's roots in one cut). By AI agents, Wed Nov 11 2026. No macro, syntax, notation, axiom, sorry.
-/
import Derived.Test.YthdklnkaeddogaaChecked
import GoSem.Claim
import GoSem.ClaimJoined
import GoSem.ClaimMapViews
import Derived.JoinedTies
import Derived.KernelRfl
namespace Go.Proofs.Ythdklnkaeddogaa
/- THE CELL 'sum', in the pinned program and in every row, IS THE sha256 OF THE DUMP (.gsa) THAT YthdklnkaeddogaaProg.lean LOADS. Nothing in Lean hashes anything: it is a label: what it is worth is what the hold of that sum in a sandbox is worth. -/
noncomputable def Try.pinned : Pinned := { name := "ythdklnkaeddogaa", sum := "e290c6f57a7673785237bfff1326008ac5fef94f010073c23287867fcf2a2dbf", checked := Try.checked }
namespace Rows
def none {H : Type} : Left H := { results := [], args := [] }

/-- 'plaitlaw01.LebReads': WHATEVER THE INPUT: true; the input reads as it did. -/
def lebReadsSpec : ChangeSpec := { name := "lebReads", fn := fun _ => fun
  | [d1, d2, d3] => { results := [.lit (.bool true)], args := [d1, d2, d3] }
  | _ => none }
def lebReadsRow : OpenClaim := { program := "ythdklnkaeddogaa", sum := "e290c6f57a7673785237bfff1326008ac5fef94f010073c23287867fcf2a2dbf", func := "plait/plaitlaw01.LebReads", spec := "lebReads", unfollowed := true, recurses := true, apart := false }
def LebReadsSaid : Prop := lebReadsRow.holds Try.pinned (OpenSpec.ofChange lebReadsSpec)

/-- ITS FALSE NEIGHBOUR: 'it returns false'. Refute it at one input. -/
def lebReadsWrong : ChangeSpec := { name := "lebReads", fn := fun _ => fun
  | [d1, d2, d3] => { results := [.lit (.bool false)], args := [d1, d2, d3] }
  | _ => none }
def LebReadsWrongFalsely : Prop := lebReadsRow.holds Try.pinned (OpenSpec.ofChange lebReadsWrong)

/-- 'plaitlaw01.LebWrites': WHATEVER THE INPUT: true; the input reads as it did. -/
def lebWritesSpec : ChangeSpec := { name := "lebWrites", fn := fun _ => fun
  | [d1, d2] => { results := [.lit (.bool true)], args := [d1, d2] }
  | _ => none }
def lebWritesRow : OpenClaim := { program := "ythdklnkaeddogaa", sum := "e290c6f57a7673785237bfff1326008ac5fef94f010073c23287867fcf2a2dbf", func := "plait/plaitlaw01.LebWrites", spec := "lebWrites", unfollowed := true, recurses := true, apart := false }
def LebWritesSaid : Prop := lebWritesRow.holds Try.pinned (OpenSpec.ofChange lebWritesSpec)

/-- ITS FALSE NEIGHBOUR: 'it returns false'. Refute it at one input. -/
def lebWritesWrong : ChangeSpec := { name := "lebWrites", fn := fun _ => fun
  | [d1, d2] => { results := [.lit (.bool false)], args := [d1, d2] }
  | _ => none }
def LebWritesWrongFalsely : Prop := lebWritesRow.holds Try.pinned (OpenSpec.ofChange lebWritesWrong)

/-- 'plaitlaw01.LebBack': WHATEVER THE INPUT: true; the input reads as it did. -/
def lebBackSpec : ChangeSpec := { name := "lebBack", fn := fun _ => fun
  | [d1, d2, d3] => { results := [.lit (.bool true)], args := [d1, d2, d3] }
  | _ => none }
def lebBackRow : OpenClaim := { program := "ythdklnkaeddogaa", sum := "e290c6f57a7673785237bfff1326008ac5fef94f010073c23287867fcf2a2dbf", func := "plait/plaitlaw01.LebBack", spec := "lebBack", unfollowed := true, recurses := true, apart := false }
def LebBackSaid : Prop := lebBackRow.holds Try.pinned (OpenSpec.ofChange lebBackSpec)

/-- ITS FALSE NEIGHBOUR: 'it returns false'. Refute it at one input. -/
def lebBackWrong : ChangeSpec := { name := "lebBack", fn := fun _ => fun
  | [d1, d2, d3] => { results := [.lit (.bool false)], args := [d1, d2, d3] }
  | _ => none }
def LebBackWrongFalsely : Prop := lebBackRow.holds Try.pinned (OpenSpec.ofChange lebBackWrong)

/-- 'plaitlaw01.LebSigned': WHATEVER THE INPUT: true; the input reads as it did. -/
def lebSignedSpec : ChangeSpec := { name := "lebSigned", fn := fun _ => fun
  | [d1, d2, d3] => { results := [.lit (.bool true)], args := [d1, d2, d3] }
  | _ => none }
def lebSignedRow : OpenClaim := { program := "ythdklnkaeddogaa", sum := "e290c6f57a7673785237bfff1326008ac5fef94f010073c23287867fcf2a2dbf", func := "plait/plaitlaw01.LebSigned", spec := "lebSigned", unfollowed := true, recurses := true, apart := false }
def LebSignedSaid : Prop := lebSignedRow.holds Try.pinned (OpenSpec.ofChange lebSignedSpec)

/-- ITS FALSE NEIGHBOUR: 'it returns false'. Refute it at one input. -/
def lebSignedWrong : ChangeSpec := { name := "lebSigned", fn := fun _ => fun
  | [d1, d2, d3] => { results := [.lit (.bool false)], args := [d1, d2, d3] }
  | _ => none }
def LebSignedWrongFalsely : Prop := lebSignedRow.holds Try.pinned (OpenSpec.ofChange lebSignedWrong)

/-- 'plaitlaw01.LebCuts': WHATEVER THE INPUT: true; the input reads as it did. -/
def lebCutsSpec : ChangeSpec := { name := "lebCuts", fn := fun _ => fun
  | [d1, d2] => { results := [.lit (.bool true)], args := [d1, d2] }
  | _ => none }
def lebCutsRow : OpenClaim := { program := "ythdklnkaeddogaa", sum := "e290c6f57a7673785237bfff1326008ac5fef94f010073c23287867fcf2a2dbf", func := "plait/plaitlaw01.LebCuts", spec := "lebCuts", unfollowed := true, recurses := true, apart := false }
def LebCutsSaid : Prop := lebCutsRow.holds Try.pinned (OpenSpec.ofChange lebCutsSpec)

/-- ITS FALSE NEIGHBOUR: 'it returns false'. Refute it at one input. -/
def lebCutsWrong : ChangeSpec := { name := "lebCuts", fn := fun _ => fun
  | [d1, d2] => { results := [.lit (.bool false)], args := [d1, d2] }
  | _ => none }
def LebCutsWrongFalsely : Prop := lebCutsRow.holds Try.pinned (OpenSpec.ofChange lebCutsWrong)

/-- 'plaitlaw01.LebPadded': WHATEVER THE INPUT: true; the input reads as it did. -/
def lebPaddedSpec : ChangeSpec := { name := "lebPadded", fn := fun _ => fun
  | [d1, d2] => { results := [.lit (.bool true)], args := [d1, d2] }
  | _ => none }
def lebPaddedRow : OpenClaim := { program := "ythdklnkaeddogaa", sum := "e290c6f57a7673785237bfff1326008ac5fef94f010073c23287867fcf2a2dbf", func := "plait/plaitlaw01.LebPadded", spec := "lebPadded", unfollowed := true, recurses := true, apart := false }
def LebPaddedSaid : Prop := lebPaddedRow.holds Try.pinned (OpenSpec.ofChange lebPaddedSpec)

/-- ITS FALSE NEIGHBOUR: 'it returns false'. Refute it at one input. -/
def lebPaddedWrong : ChangeSpec := { name := "lebPadded", fn := fun _ => fun
  | [d1, d2] => { results := [.lit (.bool false)], args := [d1, d2] }
  | _ => none }
def LebPaddedWrongFalsely : Prop := lebPaddedRow.holds Try.pinned (OpenSpec.ofChange lebPaddedWrong)

/-- 'plaitlaw01.LebKeeps': WHATEVER THE INPUT: true; the input reads as it did. -/
def lebKeepsSpec : ChangeSpec := { name := "lebKeeps", fn := fun _ => fun
  | [d1, d2] => { results := [.lit (.bool true)], args := [d1, d2] }
  | _ => none }
def lebKeepsRow : OpenClaim := { program := "ythdklnkaeddogaa", sum := "e290c6f57a7673785237bfff1326008ac5fef94f010073c23287867fcf2a2dbf", func := "plait/plaitlaw01.LebKeeps", spec := "lebKeeps", unfollowed := true, recurses := true, apart := false }
def LebKeepsSaid : Prop := lebKeepsRow.holds Try.pinned (OpenSpec.ofChange lebKeepsSpec)

/-- ITS FALSE NEIGHBOUR: 'it returns false'. Refute it at one input. -/
def lebKeepsWrong : ChangeSpec := { name := "lebKeeps", fn := fun _ => fun
  | [d1, d2] => { results := [.lit (.bool false)], args := [d1, d2] }
  | _ => none }
def LebKeepsWrongFalsely : Prop := lebKeepsRow.holds Try.pinned (OpenSpec.ofChange lebKeepsWrong)

/- THE SECOND FORM. 'bulk': how many values and letters a reading holds, each counted each time it is reached (what is shared counts as often as it is met; a slice's spare places count too). A statement '..UptoSaid' is the law's where the arguments, and the package variables that the reading takes, are together of bulk at most 1048576: NARROWER than '..Said'. Prove '..Said' where nothing that the law and all that it calls make is longer than what came in: it says more and counts as full. Else prove '..UptoSaid'. A law counts once. -/
mutual
def uptoBulk {H : Type} : DataW H → Nat
  | .lit (.string bytes) => bytes.length + 1
  | .lit _ => 1
  | .nil => 1
  | .ptr d => uptoBulk d + 1
  | .slice elems spare => uptoBulkAll elems + uptoBulkAll spare + 1
  | .agg parts => uptoBulkAll parts + 1
  | .iface _ d => uptoBulk d + 1
  | .map entries => uptoBulkEntries entries + 1
  | .held _ => 1
def uptoBulkAll {H : Type} : List (DataW H) → Nat
  | [] => 0
  | d :: r => uptoBulk d + uptoBulkAll r
def uptoBulkEntries {H : Type} : List (Lit × DataW H) → Nat
  | [] => 0
  | x :: r => uptoBulkEntry x + uptoBulkEntries r
def uptoBulkEntry {H : Type} : Lit × DataW H → Nat
  | (.string bytes, d) => bytes.length + uptoBulk d + 1
  | (_, d) => uptoBulk d + 1
 end
def uptoSmall : (H : Type) → List (DataW H) → Bool := fun _ ds => decide (uptoBulkAll ds ≤ 1048576)
def OpenSpec.upto (s : _root_.Go.ChangeSpec) : _root_.Go.OpenSpec := { _root_.Go.OpenSpec.ofChange s with cond := some uptoSmall }

/-- 'plaitlaw01.LebReads', WHERE WHAT IT READS IS OF BULK AT MOST 1048576: true; the input reads as it did. -/
def lebReadsUptoRow : OpenClaim := { program := "ythdklnkaeddogaa", sum := "e290c6f57a7673785237bfff1326008ac5fef94f010073c23287867fcf2a2dbf", func := "plait/plaitlaw01.LebReads", spec := "lebReads", unfollowed := true, recurses := true, apart := false, narrowed := true }
def LebReadsUptoSaid : Prop := lebReadsUptoRow.holds Try.pinned (OpenSpec.upto lebReadsSpec)

/-- 'plaitlaw01.LebWrites', WHERE WHAT IT READS IS OF BULK AT MOST 1048576: true; the input reads as it did. -/
def lebWritesUptoRow : OpenClaim := { program := "ythdklnkaeddogaa", sum := "e290c6f57a7673785237bfff1326008ac5fef94f010073c23287867fcf2a2dbf", func := "plait/plaitlaw01.LebWrites", spec := "lebWrites", unfollowed := true, recurses := true, apart := false, narrowed := true }
def LebWritesUptoSaid : Prop := lebWritesUptoRow.holds Try.pinned (OpenSpec.upto lebWritesSpec)

/-- 'plaitlaw01.LebBack', WHERE WHAT IT READS IS OF BULK AT MOST 1048576: true; the input reads as it did. -/
def lebBackUptoRow : OpenClaim := { program := "ythdklnkaeddogaa", sum := "e290c6f57a7673785237bfff1326008ac5fef94f010073c23287867fcf2a2dbf", func := "plait/plaitlaw01.LebBack", spec := "lebBack", unfollowed := true, recurses := true, apart := false, narrowed := true }
def LebBackUptoSaid : Prop := lebBackUptoRow.holds Try.pinned (OpenSpec.upto lebBackSpec)

/-- 'plaitlaw01.LebSigned', WHERE WHAT IT READS IS OF BULK AT MOST 1048576: true; the input reads as it did. -/
def lebSignedUptoRow : OpenClaim := { program := "ythdklnkaeddogaa", sum := "e290c6f57a7673785237bfff1326008ac5fef94f010073c23287867fcf2a2dbf", func := "plait/plaitlaw01.LebSigned", spec := "lebSigned", unfollowed := true, recurses := true, apart := false, narrowed := true }
def LebSignedUptoSaid : Prop := lebSignedUptoRow.holds Try.pinned (OpenSpec.upto lebSignedSpec)

/-- 'plaitlaw01.LebCuts', WHERE WHAT IT READS IS OF BULK AT MOST 1048576: true; the input reads as it did. -/
def lebCutsUptoRow : OpenClaim := { program := "ythdklnkaeddogaa", sum := "e290c6f57a7673785237bfff1326008ac5fef94f010073c23287867fcf2a2dbf", func := "plait/plaitlaw01.LebCuts", spec := "lebCuts", unfollowed := true, recurses := true, apart := false, narrowed := true }
def LebCutsUptoSaid : Prop := lebCutsUptoRow.holds Try.pinned (OpenSpec.upto lebCutsSpec)

/-- 'plaitlaw01.LebPadded', WHERE WHAT IT READS IS OF BULK AT MOST 1048576: true; the input reads as it did. -/
def lebPaddedUptoRow : OpenClaim := { program := "ythdklnkaeddogaa", sum := "e290c6f57a7673785237bfff1326008ac5fef94f010073c23287867fcf2a2dbf", func := "plait/plaitlaw01.LebPadded", spec := "lebPadded", unfollowed := true, recurses := true, apart := false, narrowed := true }
def LebPaddedUptoSaid : Prop := lebPaddedUptoRow.holds Try.pinned (OpenSpec.upto lebPaddedSpec)

/-- 'plaitlaw01.LebKeeps', WHERE WHAT IT READS IS OF BULK AT MOST 1048576: true; the input reads as it did. -/
def lebKeepsUptoRow : OpenClaim := { program := "ythdklnkaeddogaa", sum := "e290c6f57a7673785237bfff1326008ac5fef94f010073c23287867fcf2a2dbf", func := "plait/plaitlaw01.LebKeeps", spec := "lebKeeps", unfollowed := true, recurses := true, apart := false, narrowed := true }
def LebKeepsUptoSaid : Prop := lebKeepsUptoRow.holds Try.pinned (OpenSpec.upto lebKeepsSpec)

end Rows
end Go.Proofs.Ythdklnkaeddogaa
