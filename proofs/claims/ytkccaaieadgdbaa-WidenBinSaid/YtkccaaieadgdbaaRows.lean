/-
  No cell of these rows narrows 'for every input' (looked for: loops, veiled, ifaces, maps, wideKeys, modest, calm, conditions, laid).
  DERIVED. THE GIVEN ROWS OF THIS SEAT. 6 by the template 'for every input the law returns true; each argument reads behind the call as it read before'; 0 by the template 'total and deterministic' (their statements: YtkccaaieadgdbaaTotals.lean).
  GIVEN WITH THE SEED: the statements are not yours to turn. If you find one false, say at which input.
  Laid BY PROGRAM, IN A SANDBOX (cutbox-rows.mjs): the forced cells as the released guide's own fill.sh prints them over the translation 465f967a97674e7d… (all of the seat's roots in one cut). By AI agents, Wed Nov 11 2026. No macro, syntax, notation, axiom, sorry.
-/
import Derived.Test.YtkccaaieadgdbaaChecked
import GoSem.Claim
import GoSem.ClaimJoined
import GoSem.ClaimMapViews
import Derived.JoinedTies
import Derived.KernelRfl
namespace Go.Proofs.Ytkccaaieadgdbaa
/- THE CELL 'sum', in the pinned program and in every row, IS THE sha256 OF THE DUMP (.gsa) THAT YtkccaaieadgdbaaProg.lean LOADS. Nothing in Lean hashes anything: it is a label: what it is worth is what the hold of that sum in a sandbox is worth. -/
noncomputable def Try.pinned : Pinned := { name := "ytkccaaieadgdbaa", sum := "465f967a97674e7d81b243d53fdc1a6912ee72a913ce8b583ee520c788a35302", checked := Try.checked }
namespace Rows
def none {H : Type} : Left H := { results := [], args := [] }

/-- 'plaitlaw08.WidenUn': WHATEVER THE INPUT: true; the input reads as it did. -/
def widenUnSpec : ChangeSpec := { name := "widenUn", fn := fun _ => fun
  | [d1, d2] => { results := [.lit (.bool true)], args := [d1, d2] }
  | _ => none }
def widenUnRow : OpenClaim := { program := "ytkccaaieadgdbaa", sum := "465f967a97674e7d81b243d53fdc1a6912ee72a913ce8b583ee520c788a35302", func := "plait/plaitlaw08.WidenUn", spec := "widenUn", apart := false }
def WidenUnSaid : Prop := widenUnRow.holds Try.pinned (OpenSpec.ofChange widenUnSpec)

/-- ITS FALSE NEIGHBOUR: 'it returns false'. Refute it at one input. -/
def widenUnWrong : ChangeSpec := { name := "widenUn", fn := fun _ => fun
  | [d1, d2] => { results := [.lit (.bool false)], args := [d1, d2] }
  | _ => none }
def WidenUnWrongFalsely : Prop := widenUnRow.holds Try.pinned (OpenSpec.ofChange widenUnWrong)

/-- 'plaitlaw08.WidenBin': WHATEVER THE INPUT: true; the input reads as it did. -/
def widenBinSpec : ChangeSpec := { name := "widenBin", fn := fun _ => fun
  | [d1, d2, d3] => { results := [.lit (.bool true)], args := [d1, d2, d3] }
  | _ => none }
def widenBinRow : OpenClaim := { program := "ytkccaaieadgdbaa", sum := "465f967a97674e7d81b243d53fdc1a6912ee72a913ce8b583ee520c788a35302", func := "plait/plaitlaw08.WidenBin", spec := "widenBin", apart := false }
def WidenBinSaid : Prop := widenBinRow.holds Try.pinned (OpenSpec.ofChange widenBinSpec)

/-- ITS FALSE NEIGHBOUR: 'it returns false'. Refute it at one input. -/
def widenBinWrong : ChangeSpec := { name := "widenBin", fn := fun _ => fun
  | [d1, d2, d3] => { results := [.lit (.bool false)], args := [d1, d2, d3] }
  | _ => none }
def WidenBinWrongFalsely : Prop := widenBinRow.holds Try.pinned (OpenSpec.ofChange widenBinWrong)

/-- 'plaitlaw08.WidenExact': WHATEVER THE INPUT: true; the input reads as it did. -/
def widenExactSpec : ChangeSpec := { name := "widenExact", fn := fun _ => fun
  | [d1, d2] => { results := [.lit (.bool true)], args := [d1, d2] }
  | _ => none }
def widenExactRow : OpenClaim := { program := "ytkccaaieadgdbaa", sum := "465f967a97674e7d81b243d53fdc1a6912ee72a913ce8b583ee520c788a35302", func := "plait/plaitlaw08.WidenExact", spec := "widenExact", apart := false }
def WidenExactSaid : Prop := widenExactRow.holds Try.pinned (OpenSpec.ofChange widenExactSpec)

/-- ITS FALSE NEIGHBOUR: 'it returns false'. Refute it at one input. -/
def widenExactWrong : ChangeSpec := { name := "widenExact", fn := fun _ => fun
  | [d1, d2] => { results := [.lit (.bool false)], args := [d1, d2] }
  | _ => none }
def WidenExactWrongFalsely : Prop := widenExactRow.holds Try.pinned (OpenSpec.ofChange widenExactWrong)

/-- 'plaitlaw08.WidenNarrows': WHATEVER THE INPUT: true; the input reads as it did. -/
def widenNarrowsSpec : ChangeSpec := { name := "widenNarrows", fn := fun _ => fun
  | [d1, d2] => { results := [.lit (.bool true)], args := [d1, d2] }
  | _ => none }
def widenNarrowsRow : OpenClaim := { program := "ytkccaaieadgdbaa", sum := "465f967a97674e7d81b243d53fdc1a6912ee72a913ce8b583ee520c788a35302", func := "plait/plaitlaw08.WidenNarrows", spec := "widenNarrows", apart := false }
def WidenNarrowsSaid : Prop := widenNarrowsRow.holds Try.pinned (OpenSpec.ofChange widenNarrowsSpec)

/-- ITS FALSE NEIGHBOUR: 'it returns false'. Refute it at one input. -/
def widenNarrowsWrong : ChangeSpec := { name := "widenNarrows", fn := fun _ => fun
  | [d1, d2] => { results := [.lit (.bool false)], args := [d1, d2] }
  | _ => none }
def WidenNarrowsWrongFalsely : Prop := widenNarrowsRow.holds Try.pinned (OpenSpec.ofChange widenNarrowsWrong)

/-- 'plaitlaw08.WidenSums': WHATEVER THE INPUT: true; the input reads as it did. -/
def widenSumsSpec : ChangeSpec := { name := "widenSums", fn := fun _ => fun
  | [d1, d2] => { results := [.lit (.bool true)], args := [d1, d2] }
  | _ => none }
def widenSumsRow : OpenClaim := { program := "ytkccaaieadgdbaa", sum := "465f967a97674e7d81b243d53fdc1a6912ee72a913ce8b583ee520c788a35302", func := "plait/plaitlaw08.WidenSums", spec := "widenSums", apart := false }
def WidenSumsSaid : Prop := widenSumsRow.holds Try.pinned (OpenSpec.ofChange widenSumsSpec)

/-- ITS FALSE NEIGHBOUR: 'it returns false'. Refute it at one input. -/
def widenSumsWrong : ChangeSpec := { name := "widenSums", fn := fun _ => fun
  | [d1, d2] => { results := [.lit (.bool false)], args := [d1, d2] }
  | _ => none }
def WidenSumsWrongFalsely : Prop := widenSumsRow.holds Try.pinned (OpenSpec.ofChange widenSumsWrong)

/-- 'plaitlaw08.WidenQ15': WHATEVER THE INPUT: true; the input reads as it did. -/
def widenQ15Spec : ChangeSpec := { name := "widenQ15", fn := fun _ => fun
  | [d1, d2] => { results := [.lit (.bool true)], args := [d1, d2] }
  | _ => none }
def widenQ15Row : OpenClaim := { program := "ytkccaaieadgdbaa", sum := "465f967a97674e7d81b243d53fdc1a6912ee72a913ce8b583ee520c788a35302", func := "plait/plaitlaw08.WidenQ15", spec := "widenQ15", apart := false }
def WidenQ15Said : Prop := widenQ15Row.holds Try.pinned (OpenSpec.ofChange widenQ15Spec)

/-- ITS FALSE NEIGHBOUR: 'it returns false'. Refute it at one input. -/
def widenQ15Wrong : ChangeSpec := { name := "widenQ15", fn := fun _ => fun
  | [d1, d2] => { results := [.lit (.bool false)], args := [d1, d2] }
  | _ => none }
def WidenQ15WrongFalsely : Prop := widenQ15Row.holds Try.pinned (OpenSpec.ofChange widenQ15Wrong)

/- THE SECOND FORM. 'bulk': how many values and letters a reading holds, each counted each time it is reached (what is shared counts as often as it is met; a slice's spare places count too). A statement '..UptoSaid' is the law's where the arguments, and the package variables that the reading takes, are together of bulk at most 1048576: NARROWER than '..Said'. Prove '..Said' where nothing that the law and all that it calls make is longer than what came in: it says more and counts as full. Else prove '..UptoSaid'. A law counts once. -/
mutual
def uptoBulk {H : Type} : DataW H → Nat
  | .lit (.string bytes) => bytes.length + 1
  | .lit _ => 1
  | .nil => 1
  | .ptr d => uptoBulk d + 1
  | .slice elems spare => uptoBulkAll elems + uptoBulkAll spare + 1
  | .agg parts => uptoBulkAll parts + 1
  | .iface _ d => uptoBulk d + 1
  | .map entries => uptoBulkEntries entries + 1
  | .held _ => 1
def uptoBulkAll {H : Type} : List (DataW H) → Nat
  | [] => 0
  | d :: r => uptoBulk d + uptoBulkAll r
def uptoBulkEntries {H : Type} : List (Lit × DataW H) → Nat
  | [] => 0
  | x :: r => uptoBulkEntry x + uptoBulkEntries r
def uptoBulkEntry {H : Type} : Lit × DataW H → Nat
  | (.string bytes, d) => bytes.length + uptoBulk d + 1
  | (_, d) => uptoBulk d + 1
 end
def uptoSmall : (H : Type) → List (DataW H) → Bool := fun _ ds => decide (uptoBulkAll ds ≤ 1048576)
def OpenSpec.upto (s : _root_.Go.ChangeSpec) : _root_.Go.OpenSpec := { _root_.Go.OpenSpec.ofChange s with cond := some uptoSmall }

/-- 'plaitlaw08.WidenUn', WHERE WHAT IT READS IS OF BULK AT MOST 1048576: true; the input reads as it did. -/
def widenUnUptoRow : OpenClaim := { program := "ytkccaaieadgdbaa", sum := "465f967a97674e7d81b243d53fdc1a6912ee72a913ce8b583ee520c788a35302", func := "plait/plaitlaw08.WidenUn", spec := "widenUn", apart := false, narrowed := true }
def WidenUnUptoSaid : Prop := widenUnUptoRow.holds Try.pinned (OpenSpec.upto widenUnSpec)

/-- 'plaitlaw08.WidenBin', WHERE WHAT IT READS IS OF BULK AT MOST 1048576: true; the input reads as it did. -/
def widenBinUptoRow : OpenClaim := { program := "ytkccaaieadgdbaa", sum := "465f967a97674e7d81b243d53fdc1a6912ee72a913ce8b583ee520c788a35302", func := "plait/plaitlaw08.WidenBin", spec := "widenBin", apart := false, narrowed := true }
def WidenBinUptoSaid : Prop := widenBinUptoRow.holds Try.pinned (OpenSpec.upto widenBinSpec)

/-- 'plaitlaw08.WidenExact', WHERE WHAT IT READS IS OF BULK AT MOST 1048576: true; the input reads as it did. -/
def widenExactUptoRow : OpenClaim := { program := "ytkccaaieadgdbaa", sum := "465f967a97674e7d81b243d53fdc1a6912ee72a913ce8b583ee520c788a35302", func := "plait/plaitlaw08.WidenExact", spec := "widenExact", apart := false, narrowed := true }
def WidenExactUptoSaid : Prop := widenExactUptoRow.holds Try.pinned (OpenSpec.upto widenExactSpec)

/-- 'plaitlaw08.WidenNarrows', WHERE WHAT IT READS IS OF BULK AT MOST 1048576: true; the input reads as it did. -/
def widenNarrowsUptoRow : OpenClaim := { program := "ytkccaaieadgdbaa", sum := "465f967a97674e7d81b243d53fdc1a6912ee72a913ce8b583ee520c788a35302", func := "plait/plaitlaw08.WidenNarrows", spec := "widenNarrows", apart := false, narrowed := true }
def WidenNarrowsUptoSaid : Prop := widenNarrowsUptoRow.holds Try.pinned (OpenSpec.upto widenNarrowsSpec)

/-- 'plaitlaw08.WidenSums', WHERE WHAT IT READS IS OF BULK AT MOST 1048576: true; the input reads as it did. -/
def widenSumsUptoRow : OpenClaim := { program := "ytkccaaieadgdbaa", sum := "465f967a97674e7d81b243d53fdc1a6912ee72a913ce8b583ee520c788a35302", func := "plait/plaitlaw08.WidenSums", spec := "widenSums", apart := false, narrowed := true }
def WidenSumsUptoSaid : Prop := widenSumsUptoRow.holds Try.pinned (OpenSpec.upto widenSumsSpec)

/-- 'plaitlaw08.WidenQ15', WHERE WHAT IT READS IS OF BULK AT MOST 1048576: true; the input reads as it did. -/
def widenQ15UptoRow : OpenClaim := { program := "ytkccaaieadgdbaa", sum := "465f967a97674e7d81b243d53fdc1a6912ee72a913ce8b583ee520c788a35302", func := "plait/plaitlaw08.WidenQ15", spec := "widenQ15", apart := false, narrowed := true }
def WidenQ15UptoSaid : Prop := widenQ15UptoRow.holds Try.pinned (OpenSpec.upto widenQ15Spec)

end Rows
end Go.Proofs.Ytkccaaieadgdbaa
