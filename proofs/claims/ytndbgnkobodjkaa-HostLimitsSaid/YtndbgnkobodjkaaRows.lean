/-
  No cell of these rows narrows 'for every input' (looked for: loops, veiled, ifaces, maps, wideKeys, modest, calm, conditions, laid).
  DERIVED. THE GIVEN ROWS OF THIS SEAT. 5 by the template 'for every input the law returns true; each argument reads behind the call as it read before'; 0 by the template 'total and deterministic' (their statements: YtndbgnkobodjkaaTotals.lean).
  GIVEN WITH THE SEED: the statements are not yours to turn. If you find one false, say at which input.
  Laid BY PROGRAM, IN A SANDBOX (cutbox-rows.mjs): the forced cells as the released guide's own fill.sh prints them over the translation 3f982aa63ac82bb7… (all of the seat's roots in one cut). By AI agents, Wed Nov 11 2026. No macro, syntax, notation, axiom, sorry.
-/
import Derived.Test.YtndbgnkobodjkaaChecked
import GoSem.Claim
import GoSem.ClaimJoined
import GoSem.ClaimMapViews
import Derived.JoinedTies
import Derived.KernelRfl
namespace Go.Proofs.Ytndbgnkobodjkaa
/- THE CELL 'sum', in the pinned program and in every row, IS THE sha256 OF THE DUMP (.gsa) THAT YtndbgnkobodjkaaProg.lean LOADS. Nothing in Lean hashes anything: it is a label: what it is worth is what the hold of that sum in a sandbox is worth. -/
noncomputable def Try.pinned : Pinned := { name := "ytndbgnkobodjkaa", sum := "3f982aa63ac82bb7639f6b9b81ed1727e357f81628ef488bec9e44b724ac9dda", checked := Try.checked }
namespace Rows
def none {H : Type} : Left H := { results := [], args := [] }

/-- 'plaitlaw16.HostScripts': WHATEVER THE INPUT: true; the input reads as it did. -/
def hostScriptsSpec : ChangeSpec := { name := "hostScripts", fn := fun _ => fun
  | [d1, d2] => { results := [.lit (.bool true)], args := [d1, d2] }
  | _ => none }
def hostScriptsRow : OpenClaim := { program := "ytndbgnkobodjkaa", sum := "3f982aa63ac82bb7639f6b9b81ed1727e357f81628ef488bec9e44b724ac9dda", func := "plait/plaitlaw16.HostScripts", spec := "hostScripts", apart := false }
def HostScriptsSaid : Prop := hostScriptsRow.holds Try.pinned (OpenSpec.ofChange hostScriptsSpec)

/-- ITS FALSE NEIGHBOUR: 'it returns false'. Refute it at one input. -/
def hostScriptsWrong : ChangeSpec := { name := "hostScripts", fn := fun _ => fun
  | [d1, d2] => { results := [.lit (.bool false)], args := [d1, d2] }
  | _ => none }
def HostScriptsWrongFalsely : Prop := hostScriptsRow.holds Try.pinned (OpenSpec.ofChange hostScriptsWrong)

/-- 'plaitlaw16.HostTurns': WHATEVER THE INPUT: true; the input reads as it did. -/
def hostTurnsSpec : ChangeSpec := { name := "hostTurns", fn := fun _ => fun
  | [d1, d2, d3] => { results := [.lit (.bool true)], args := [d1, d2, d3] }
  | _ => none }
def hostTurnsRow : OpenClaim := { program := "ytndbgnkobodjkaa", sum := "3f982aa63ac82bb7639f6b9b81ed1727e357f81628ef488bec9e44b724ac9dda", func := "plait/plaitlaw16.HostTurns", spec := "hostTurns", apart := false }
def HostTurnsSaid : Prop := hostTurnsRow.holds Try.pinned (OpenSpec.ofChange hostTurnsSpec)

/-- ITS FALSE NEIGHBOUR: 'it returns false'. Refute it at one input. -/
def hostTurnsWrong : ChangeSpec := { name := "hostTurns", fn := fun _ => fun
  | [d1, d2, d3] => { results := [.lit (.bool false)], args := [d1, d2, d3] }
  | _ => none }
def HostTurnsWrongFalsely : Prop := hostTurnsRow.holds Try.pinned (OpenSpec.ofChange hostTurnsWrong)

/-- 'plaitlaw16.HostExits': WHATEVER THE INPUT: true; the input reads as it did. -/
def hostExitsSpec : ChangeSpec := { name := "hostExits", fn := fun _ => fun
  | [d1, d2, d3] => { results := [.lit (.bool true)], args := [d1, d2, d3] }
  | _ => none }
def hostExitsRow : OpenClaim := { program := "ytndbgnkobodjkaa", sum := "3f982aa63ac82bb7639f6b9b81ed1727e357f81628ef488bec9e44b724ac9dda", func := "plait/plaitlaw16.HostExits", spec := "hostExits", apart := false }
def HostExitsSaid : Prop := hostExitsRow.holds Try.pinned (OpenSpec.ofChange hostExitsSpec)

/-- ITS FALSE NEIGHBOUR: 'it returns false'. Refute it at one input. -/
def hostExitsWrong : ChangeSpec := { name := "hostExits", fn := fun _ => fun
  | [d1, d2, d3] => { results := [.lit (.bool false)], args := [d1, d2, d3] }
  | _ => none }
def HostExitsWrongFalsely : Prop := hostExitsRow.holds Try.pinned (OpenSpec.ofChange hostExitsWrong)

/-- 'plaitlaw16.HostLimits': WHATEVER THE INPUT: true; the input reads as it did. -/
def hostLimitsSpec : ChangeSpec := { name := "hostLimits", fn := fun _ => fun
  | [d1, d2] => { results := [.lit (.bool true)], args := [d1, d2] }
  | _ => none }
def hostLimitsRow : OpenClaim := { program := "ytndbgnkobodjkaa", sum := "3f982aa63ac82bb7639f6b9b81ed1727e357f81628ef488bec9e44b724ac9dda", func := "plait/plaitlaw16.HostLimits", spec := "hostLimits", apart := false }
def HostLimitsSaid : Prop := hostLimitsRow.holds Try.pinned (OpenSpec.ofChange hostLimitsSpec)

/-- ITS FALSE NEIGHBOUR: 'it returns false'. Refute it at one input. -/
def hostLimitsWrong : ChangeSpec := { name := "hostLimits", fn := fun _ => fun
  | [d1, d2] => { results := [.lit (.bool false)], args := [d1, d2] }
  | _ => none }
def HostLimitsWrongFalsely : Prop := hostLimitsRow.holds Try.pinned (OpenSpec.ofChange hostLimitsWrong)

/-- 'plaitlaw16.HostKeeps': WHATEVER THE INPUT: true; the input reads as it did. -/
def hostKeepsSpec : ChangeSpec := { name := "hostKeeps", fn := fun _ => fun
  | [d1, d2] => { results := [.lit (.bool true)], args := [d1, d2] }
  | _ => none }
def hostKeepsRow : OpenClaim := { program := "ytndbgnkobodjkaa", sum := "3f982aa63ac82bb7639f6b9b81ed1727e357f81628ef488bec9e44b724ac9dda", func := "plait/plaitlaw16.HostKeeps", spec := "hostKeeps", apart := false }
def HostKeepsSaid : Prop := hostKeepsRow.holds Try.pinned (OpenSpec.ofChange hostKeepsSpec)

/-- ITS FALSE NEIGHBOUR: 'it returns false'. Refute it at one input. -/
def hostKeepsWrong : ChangeSpec := { name := "hostKeeps", fn := fun _ => fun
  | [d1, d2] => { results := [.lit (.bool false)], args := [d1, d2] }
  | _ => none }
def HostKeepsWrongFalsely : Prop := hostKeepsRow.holds Try.pinned (OpenSpec.ofChange hostKeepsWrong)

/- THE SECOND FORM. 'bulk': how many values and letters a reading holds, each counted each time it is reached (what is shared counts as often as it is met; a slice's spare places count too). A statement '..UptoSaid' is the law's where the arguments, and the package variables that the reading takes, are together of bulk at most 1048576: NARROWER than '..Said'. Prove '..Said' where nothing that the law and all that it calls make is longer than what came in: it says more and counts as full. Else prove '..UptoSaid'. A law counts once. -/
mutual
def uptoBulk {H : Type} : DataW H → Nat
  | .lit (.string bytes) => bytes.length + 1
  | .lit _ => 1
  | .nil => 1
  | .ptr d => uptoBulk d + 1
  | .slice elems spare => uptoBulkAll elems + uptoBulkAll spare + 1
  | .agg parts => uptoBulkAll parts + 1
  | .iface _ d => uptoBulk d + 1
  | .map entries => uptoBulkEntries entries + 1
  | .held _ => 1
def uptoBulkAll {H : Type} : List (DataW H) → Nat
  | [] => 0
  | d :: r => uptoBulk d + uptoBulkAll r
def uptoBulkEntries {H : Type} : List (Lit × DataW H) → Nat
  | [] => 0
  | x :: r => uptoBulkEntry x + uptoBulkEntries r
def uptoBulkEntry {H : Type} : Lit × DataW H → Nat
  | (.string bytes, d) => bytes.length + uptoBulk d + 1
  | (_, d) => uptoBulk d + 1
 end
def uptoSmall : (H : Type) → List (DataW H) → Bool := fun _ ds => decide (uptoBulkAll ds ≤ 1048576)
def OpenSpec.upto (s : _root_.Go.ChangeSpec) : _root_.Go.OpenSpec := { _root_.Go.OpenSpec.ofChange s with cond := some uptoSmall }

/-- 'plaitlaw16.HostScripts', WHERE WHAT IT READS IS OF BULK AT MOST 1048576: true; the input reads as it did. -/
def hostScriptsUptoRow : OpenClaim := { program := "ytndbgnkobodjkaa", sum := "3f982aa63ac82bb7639f6b9b81ed1727e357f81628ef488bec9e44b724ac9dda", func := "plait/plaitlaw16.HostScripts", spec := "hostScripts", apart := false, narrowed := true }
def HostScriptsUptoSaid : Prop := hostScriptsUptoRow.holds Try.pinned (OpenSpec.upto hostScriptsSpec)

/-- 'plaitlaw16.HostTurns', WHERE WHAT IT READS IS OF BULK AT MOST 1048576: true; the input reads as it did. -/
def hostTurnsUptoRow : OpenClaim := { program := "ytndbgnkobodjkaa", sum := "3f982aa63ac82bb7639f6b9b81ed1727e357f81628ef488bec9e44b724ac9dda", func := "plait/plaitlaw16.HostTurns", spec := "hostTurns", apart := false, narrowed := true }
def HostTurnsUptoSaid : Prop := hostTurnsUptoRow.holds Try.pinned (OpenSpec.upto hostTurnsSpec)

/-- 'plaitlaw16.HostExits', WHERE WHAT IT READS IS OF BULK AT MOST 1048576: true; the input reads as it did. -/
def hostExitsUptoRow : OpenClaim := { program := "ytndbgnkobodjkaa", sum := "3f982aa63ac82bb7639f6b9b81ed1727e357f81628ef488bec9e44b724ac9dda", func := "plait/plaitlaw16.HostExits", spec := "hostExits", apart := false, narrowed := true }
def HostExitsUptoSaid : Prop := hostExitsUptoRow.holds Try.pinned (OpenSpec.upto hostExitsSpec)

/-- 'plaitlaw16.HostLimits', WHERE WHAT IT READS IS OF BULK AT MOST 1048576: true; the input reads as it did. -/
def hostLimitsUptoRow : OpenClaim := { program := "ytndbgnkobodjkaa", sum := "3f982aa63ac82bb7639f6b9b81ed1727e357f81628ef488bec9e44b724ac9dda", func := "plait/plaitlaw16.HostLimits", spec := "hostLimits", apart := false, narrowed := true }
def HostLimitsUptoSaid : Prop := hostLimitsUptoRow.holds Try.pinned (OpenSpec.upto hostLimitsSpec)

/-- 'plaitlaw16.HostKeeps', WHERE WHAT IT READS IS OF BULK AT MOST 1048576: true; the input reads as it did. -/
def hostKeepsUptoRow : OpenClaim := { program := "ytndbgnkobodjkaa", sum := "3f982aa63ac82bb7639f6b9b81ed1727e357f81628ef488bec9e44b724ac9dda", func := "plait/plaitlaw16.HostKeeps", spec := "hostKeeps", apart := false, narrowed := true }
def HostKeepsUptoSaid : Prop := hostKeepsUptoRow.holds Try.pinned (OpenSpec.upto hostKeepsSpec)

end Rows
end Go.Proofs.Ytndbgnkobodjkaa
