/-
  Two vectors compared in plain code. Of no function.
-/
import Derived.Test.YthpnhanabcipmaaSlV
namespace Go.Proofs.Ythpnhanabcipmaa
open Go.RowKit VecM
theorem run_neq {o : Oper} {a : Act} {x y : Operand} {t : TypeId} {b c : Nat → Int} (ho : o.op = .binOp .neq 54 x y t) (hx : a.eval x = .agg (bs b)) (hy : a.eval y = .agg (bs c)) (w : World) :
    (execOp a.eval o).run Try.prog w = .ok (.value (.bool (!vecB b c))) w := by
  have hq := eq_vec b c w
  unfold execOp
  simp only [ho, hx, hy]
  go_simp
theorem sl_neq {ops : Array Oper} {Q : Exit → Act → World → Prop} {w : World} {a : Act} {o : Oper} {rest : List Oper} (hw : Region.wanted o (yielded ops a.tmps) = true) {x y : Operand} {t : TypeId} {b c : Nat → Int} (ho : o.op = .binOp .neq 54 x y t)
    (hx : a.eval x = .agg (bs b)) (hy : a.eval y = .agg (bs c)) {q : Bool} (hq : vecB b c = q) (h : wpList Try.prog ops Q rest (a.put o.dst (.bool (!q))) w) : wpList Try.prog ops Q (o :: rest) a w := by
  unfold wpList
  rw [if_pos hw]
  refine .inl ?_
  unfold Oper.wp
  rw [run_neq ho hx hy w, hq]
  exact h
end Go.Proofs.Ythpnhanabcipmaa
