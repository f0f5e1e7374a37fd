/-
  No cell of these rows narrows 'for every input' (looked for: loops, veiled, ifaces, maps, wideKeys, modest, calm, conditions, laid).
  DERIVED. THE GIVEN ROWS OF THIS SEAT. 7 by the template 'for every input the law returns true; each argument reads behind the call as it read before'; 0 by the template 'total and deterministic' (their statements: YtdclbagfnabmkaaTotals.lean).
  GIVEN WITH THE SEED: the statements are not yours to turn. If you find one false, say at which input.
  Laid BY PROGRAM, IN A SANDBOX (cutbox-rows.mjs): the forced cells as the released guide's own fill.sh prints them over the translation b38e7cce6e9798e1… (all of the seat's roots in one cut). By AI agents, Wed Nov 11 2026. No macro, syntax, notation, axiom, sorry.
-/
import Derived.Test.YtdclbagfnabmkaaChecked
import GoSem.Claim
import GoSem.ClaimJoined
import GoSem.ClaimMapViews
import Derived.JoinedTies
import Derived.KernelRfl
namespace Go.Proofs.Ytdclbagfnabmkaa
/- THE CELL 'sum', in the pinned program and in every row, IS THE sha256 OF THE DUMP (.gsa) THAT YtdclbagfnabmkaaProg.lean LOADS. Nothing in Lean hashes anything: it is a label: what it is worth is what the hold of that sum in a sandbox is worth. -/
noncomputable def Try.pinned : Pinned := { name := "ytdclbagfnabmkaa", sum := "b38e7cce6e9798e19e9ae54d8354330c2fa62db5121b091a26e54ef7f5ee121e", checked := Try.checked }
namespace Rows
def none {H : Type} : Left H := { results := [], args := [] }

/-- 'plaitlaw06.CompareAll': WHATEVER THE INPUT: true; the input reads as it did. -/
def compareAllSpec : ChangeSpec := { name := "compareAll", fn := fun _ => fun
  | [d1, d2, d3] => { results := [.lit (.bool true)], args := [d1, d2, d3] }
  | _ => none }
def compareAllRow : OpenClaim := { program := "ytdclbagfnabmkaa", sum := "b38e7cce6e9798e19e9ae54d8354330c2fa62db5121b091a26e54ef7f5ee121e", func := "plait/plaitlaw06.CompareAll", spec := "compareAll", apart := false }
def CompareAllSaid : Prop := compareAllRow.holds Try.pinned (OpenSpec.ofChange compareAllSpec)

/-- ITS FALSE NEIGHBOUR: 'it returns false'. Refute it at one input. -/
def compareAllWrong : ChangeSpec := { name := "compareAll", fn := fun _ => fun
  | [d1, d2, d3] => { results := [.lit (.bool false)], args := [d1, d2, d3] }
  | _ => none }
def CompareAllWrongFalsely : Prop := compareAllRow.holds Try.pinned (OpenSpec.ofChange compareAllWrong)

/-- 'plaitlaw06.CompareTests': WHATEVER THE INPUT: true; the input reads as it did. -/
def compareTestsSpec : ChangeSpec := { name := "compareTests", fn := fun _ => fun
  | [d1, d2] => { results := [.lit (.bool true)], args := [d1, d2] }
  | _ => none }
def compareTestsRow : OpenClaim := { program := "ytdclbagfnabmkaa", sum := "b38e7cce6e9798e19e9ae54d8354330c2fa62db5121b091a26e54ef7f5ee121e", func := "plait/plaitlaw06.CompareTests", spec := "compareTests", apart := false }
def CompareTestsSaid : Prop := compareTestsRow.holds Try.pinned (OpenSpec.ofChange compareTestsSpec)

/-- ITS FALSE NEIGHBOUR: 'it returns false'. Refute it at one input. -/
def compareTestsWrong : ChangeSpec := { name := "compareTests", fn := fun _ => fun
  | [d1, d2] => { results := [.lit (.bool false)], args := [d1, d2] }
  | _ => none }
def CompareTestsWrongFalsely : Prop := compareTestsRow.holds Try.pinned (OpenSpec.ofChange compareTestsWrong)

/-- 'plaitlaw06.CompareBits': WHATEVER THE INPUT: true; the input reads as it did. -/
def compareBitsSpec : ChangeSpec := { name := "compareBits", fn := fun _ => fun
  | [d1, d2] => { results := [.lit (.bool true)], args := [d1, d2] }
  | _ => none }
def compareBitsRow : OpenClaim := { program := "ytdclbagfnabmkaa", sum := "b38e7cce6e9798e19e9ae54d8354330c2fa62db5121b091a26e54ef7f5ee121e", func := "plait/plaitlaw06.CompareBits", spec := "compareBits", apart := false }
def CompareBitsSaid : Prop := compareBitsRow.holds Try.pinned (OpenSpec.ofChange compareBitsSpec)

/-- ITS FALSE NEIGHBOUR: 'it returns false'. Refute it at one input. -/
def compareBitsWrong : ChangeSpec := { name := "compareBits", fn := fun _ => fun
  | [d1, d2] => { results := [.lit (.bool false)], args := [d1, d2] }
  | _ => none }
def CompareBitsWrongFalsely : Prop := compareBitsRow.holds Try.pinned (OpenSpec.ofChange compareBitsWrong)

/-- 'plaitlaw06.CompareOrders': WHATEVER THE INPUT: true; the input reads as it did. -/
def compareOrdersSpec : ChangeSpec := { name := "compareOrders", fn := fun _ => fun
  | [d1, d2] => { results := [.lit (.bool true)], args := [d1, d2] }
  | _ => none }
def compareOrdersRow : OpenClaim := { program := "ytdclbagfnabmkaa", sum := "b38e7cce6e9798e19e9ae54d8354330c2fa62db5121b091a26e54ef7f5ee121e", func := "plait/plaitlaw06.CompareOrders", spec := "compareOrders", apart := false }
def CompareOrdersSaid : Prop := compareOrdersRow.holds Try.pinned (OpenSpec.ofChange compareOrdersSpec)

/-- ITS FALSE NEIGHBOUR: 'it returns false'. Refute it at one input. -/
def compareOrdersWrong : ChangeSpec := { name := "compareOrders", fn := fun _ => fun
  | [d1, d2] => { results := [.lit (.bool false)], args := [d1, d2] }
  | _ => none }
def CompareOrdersWrongFalsely : Prop := compareOrdersRow.holds Try.pinned (OpenSpec.ofChange compareOrdersWrong)

/-- 'plaitlaw06.CompareScalar': WHATEVER THE INPUT: true; the input reads as it did. -/
def compareScalarSpec : ChangeSpec := { name := "compareScalar", fn := fun _ => fun
  | [d1, d2] => { results := [.lit (.bool true)], args := [d1, d2] }
  | _ => none }
def compareScalarRow : OpenClaim := { program := "ytdclbagfnabmkaa", sum := "b38e7cce6e9798e19e9ae54d8354330c2fa62db5121b091a26e54ef7f5ee121e", func := "plait/plaitlaw06.CompareScalar", spec := "compareScalar", apart := false }
def CompareScalarSaid : Prop := compareScalarRow.holds Try.pinned (OpenSpec.ofChange compareScalarSpec)

/-- ITS FALSE NEIGHBOUR: 'it returns false'. Refute it at one input. -/
def compareScalarWrong : ChangeSpec := { name := "compareScalar", fn := fun _ => fun
  | [d1, d2] => { results := [.lit (.bool false)], args := [d1, d2] }
  | _ => none }
def CompareScalarWrongFalsely : Prop := compareScalarRow.holds Try.pinned (OpenSpec.ofChange compareScalarWrong)

/-- 'plaitlaw06.CompareChooses': WHATEVER THE INPUT: true; the input reads as it did. -/
def compareChoosesSpec : ChangeSpec := { name := "compareChooses", fn := fun _ => fun
  | [d1, d2, d3] => { results := [.lit (.bool true)], args := [d1, d2, d3] }
  | _ => none }
def compareChoosesRow : OpenClaim := { program := "ytdclbagfnabmkaa", sum := "b38e7cce6e9798e19e9ae54d8354330c2fa62db5121b091a26e54ef7f5ee121e", func := "plait/plaitlaw06.CompareChooses", spec := "compareChooses", apart := false }
def CompareChoosesSaid : Prop := compareChoosesRow.holds Try.pinned (OpenSpec.ofChange compareChoosesSpec)

/-- ITS FALSE NEIGHBOUR: 'it returns false'. Refute it at one input. -/
def compareChoosesWrong : ChangeSpec := { name := "compareChooses", fn := fun _ => fun
  | [d1, d2, d3] => { results := [.lit (.bool false)], args := [d1, d2, d3] }
  | _ => none }
def CompareChoosesWrongFalsely : Prop := compareChoosesRow.holds Try.pinned (OpenSpec.ofChange compareChoosesWrong)

/-- 'plaitlaw06.CompareMasks': WHATEVER THE INPUT: true; the input reads as it did. -/
def compareMasksSpec : ChangeSpec := { name := "compareMasks", fn := fun _ => fun
  | [d] => { results := [.lit (.bool true)], args := [d] }
  | _ => none }
def compareMasksRow : OpenClaim := { program := "ytdclbagfnabmkaa", sum := "b38e7cce6e9798e19e9ae54d8354330c2fa62db5121b091a26e54ef7f5ee121e", func := "plait/plaitlaw06.CompareMasks", spec := "compareMasks", apart := false }
def CompareMasksSaid : Prop := compareMasksRow.holds Try.pinned (OpenSpec.ofChange compareMasksSpec)

/-- ITS FALSE NEIGHBOUR: 'it returns false'. Refute it at one input. -/
def compareMasksWrong : ChangeSpec := { name := "compareMasks", fn := fun _ => fun
  | [d] => { results := [.lit (.bool false)], args := [d] }
  | _ => none }
def CompareMasksWrongFalsely : Prop := compareMasksRow.holds Try.pinned (OpenSpec.ofChange compareMasksWrong)

/- THE SECOND FORM. 'bulk': how many values and letters a reading holds, each counted each time it is reached (what is shared counts as often as it is met; a slice's spare places count too). A statement '..UptoSaid' is the law's where the arguments, and the package variables that the reading takes, are together of bulk at most 1048576: NARROWER than '..Said'. Prove '..Said' where nothing that the law and all that it calls make is longer than what came in: it says more and counts as full. Else prove '..UptoSaid'. A law counts once. -/
mutual
def uptoBulk {H : Type} : DataW H → Nat
  | .lit (.string bytes) => bytes.length + 1
  | .lit _ => 1
  | .nil => 1
  | .ptr d => uptoBulk d + 1
  | .slice elems spare => uptoBulkAll elems + uptoBulkAll spare + 1
  | .agg parts => uptoBulkAll parts + 1
  | .iface _ d => uptoBulk d + 1
  | .map entries => uptoBulkEntries entries + 1
  | .held _ => 1
def uptoBulkAll {H : Type} : List (DataW H) → Nat
  | [] => 0
  | d :: r => uptoBulk d + uptoBulkAll r
def uptoBulkEntries {H : Type} : List (Lit × DataW H) → Nat
  | [] => 0
  | x :: r => uptoBulkEntry x + uptoBulkEntries r
def uptoBulkEntry {H : Type} : Lit × DataW H → Nat
  | (.string bytes, d) => bytes.length + uptoBulk d + 1
  | (_, d) => uptoBulk d + 1
 end
def uptoSmall : (H : Type) → List (DataW H) → Bool := fun _ ds => decide (uptoBulkAll ds ≤ 1048576)
def OpenSpec.upto (s : _root_.Go.ChangeSpec) : _root_.Go.OpenSpec := { _root_.Go.OpenSpec.ofChange s with cond := some uptoSmall }

/-- 'plaitlaw06.CompareAll', WHERE WHAT IT READS IS OF BULK AT MOST 1048576: true; the input reads as it did. -/
def compareAllUptoRow : OpenClaim := { program := "ytdclbagfnabmkaa", sum := "b38e7cce6e9798e19e9ae54d8354330c2fa62db5121b091a26e54ef7f5ee121e", func := "plait/plaitlaw06.CompareAll", spec := "compareAll", apart := false, narrowed := true }
def CompareAllUptoSaid : Prop := compareAllUptoRow.holds Try.pinned (OpenSpec.upto compareAllSpec)

/-- 'plaitlaw06.CompareTests', WHERE WHAT IT READS IS OF BULK AT MOST 1048576: true; the input reads as it did. -/
def compareTestsUptoRow : OpenClaim := { program := "ytdclbagfnabmkaa", sum := "b38e7cce6e9798e19e9ae54d8354330c2fa62db5121b091a26e54ef7f5ee121e", func := "plait/plaitlaw06.CompareTests", spec := "compareTests", apart := false, narrowed := true }
def CompareTestsUptoSaid : Prop := compareTestsUptoRow.holds Try.pinned (OpenSpec.upto compareTestsSpec)

/-- 'plaitlaw06.CompareBits', WHERE WHAT IT READS IS OF BULK AT MOST 1048576: true; the input reads as it did. -/
def compareBitsUptoRow : OpenClaim := { program := "ytdclbagfnabmkaa", sum := "b38e7cce6e9798e19e9ae54d8354330c2fa62db5121b091a26e54ef7f5ee121e", func := "plait/plaitlaw06.CompareBits", spec := "compareBits", apart := false, narrowed := true }
def CompareBitsUptoSaid : Prop := compareBitsUptoRow.holds Try.pinned (OpenSpec.upto compareBitsSpec)

/-- 'plaitlaw06.CompareOrders', WHERE WHAT IT READS IS OF BULK AT MOST 1048576: true; the input reads as it did. -/
def compareOrdersUptoRow : OpenClaim := { program := "ytdclbagfnabmkaa", sum := "b38e7cce6e9798e19e9ae54d8354330c2fa62db5121b091a26e54ef7f5ee121e", func := "plait/plaitlaw06.CompareOrders", spec := "compareOrders", apart := false, narrowed := true }
def CompareOrdersUptoSaid : Prop := compareOrdersUptoRow.holds Try.pinned (OpenSpec.upto compareOrdersSpec)

/-- 'plaitlaw06.CompareScalar', WHERE WHAT IT READS IS OF BULK AT MOST 1048576: true; the input reads as it did. -/
def compareScalarUptoRow : OpenClaim := { program := "ytdclbagfnabmkaa", sum := "b38e7cce6e9798e19e9ae54d8354330c2fa62db5121b091a26e54ef7f5ee121e", func := "plait/plaitlaw06.CompareScalar", spec := "compareScalar", apart := false, narrowed := true }
def CompareScalarUptoSaid : Prop := compareScalarUptoRow.holds Try.pinned (OpenSpec.upto compareScalarSpec)

/-- 'plaitlaw06.CompareChooses', WHERE WHAT IT READS IS OF BULK AT MOST 1048576: true; the input reads as it did. -/
def compareChoosesUptoRow : OpenClaim := { program := "ytdclbagfnabmkaa", sum := "b38e7cce6e9798e19e9ae54d8354330c2fa62db5121b091a26e54ef7f5ee121e", func := "plait/plaitlaw06.CompareChooses", spec := "compareChooses", apart := false, narrowed := true }
def CompareChoosesUptoSaid : Prop := compareChoosesUptoRow.holds Try.pinned (OpenSpec.upto compareChoosesSpec)

/-- 'plaitlaw06.CompareMasks', WHERE WHAT IT READS IS OF BULK AT MOST 1048576: true; the input reads as it did. -/
def compareMasksUptoRow : OpenClaim := { program := "ytdclbagfnabmkaa", sum := "b38e7cce6e9798e19e9ae54d8354330c2fa62db5121b091a26e54ef7f5ee121e", func := "plait/plaitlaw06.CompareMasks", spec := "compareMasks", apart := false, narrowed := true }
def CompareMasksUptoSaid : Prop := compareMasksUptoRow.holds Try.pinned (OpenSpec.upto compareMasksSpec)

end Rows
end Go.Proofs.Ytdclbagfnabmkaa
