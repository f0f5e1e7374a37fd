/-
  An array written out, among the steady operations. Of no program.
-/
import Derived.Test.YtdclbagfnabmkaaSlC
namespace Go.Proofs.Ytdclbagfnabmkaa
open Go.RowKit
section
variable {P : Program} {ops : Array Oper} {w0 : World} {M : List Ent} {a : Act} {o : Oper}
theorem sd_build {K : Act → Prop} (hw : Region.wanted o (yielded ops a.tmps) = true) (t : TypeId) (parts : Array (Nat × Operand)) (ho : o.op = .build t parts) (cells : Array Value)
    (hc : P.built t (parts.map fun (i, x) => (i, a.eval x)).toList = some cells)
    (h : K (a.put o.dst (.agg cells))) : ∃ v, YldM P ops w0 M o v a ∧ K (a.put o.dst v) := by
  refine sd_yes hw (v := .agg cells) (fun w _ => ?_) h
  unfold execOp
  simp only [ho, Sem.run_bind, run_build w t _ cells hc, Result.andThen_ok]
  exact ⟨rfl, Gr.refl _⟩
end
end Go.Proofs.Ytdclbagfnabmkaa
