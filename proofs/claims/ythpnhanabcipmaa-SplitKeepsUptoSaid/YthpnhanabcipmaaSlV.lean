/-
  Rows of sixteen bytes among the own rows: laid as zeros, laid as an argument. Of no function.
-/
import Derived.Test.YthpnhanabcipmaaSd
import Derived.Test.YthpnhanabcipmaaVec
namespace Go.Proofs.Ythpnhanabcipmaa
open Go.RowKit VecM
theorem alloc_vec {o : Oper} {a : Act} (h : o.op = .alloc 54) (w : World) : (execOp a.eval o).run Try.prog w = .ok (.value (.pointer (some ⟨w.heap.size, 0, none⟩))) (w.alloc (.cells (bs fun _ => 0) 54)) := by
  unfold execOp
  simp only [h]
  go_simp
theorem box_vec {o : Oper} {a : Act} {x : Operand} {b : Nat → Int} (h : o.op = .box 54 x) (hx : a.eval x = .agg (bs b)) (w : World) : (execOp a.eval o).run Try.prog w = .ok (.value (.pointer (some ⟨w.heap.size, 0, none⟩))) (w.alloc (.cells (bs b) 54)) := by
  unfold execOp
  simp only [h, hx]
  go_simp
theorem lays_vec {ops : Array Oper} {p : Nat} {o : Oper} (ho : ops[p]? = some o) (hg : o.guard = none) (h : o.op = .alloc 54) : LaysAt Try.prog ops p (bs fun _ => 0) 54 := by
  intro o' ho'
  obtain rfl : o = o' := Option.some.inj (ho.symm.trans ho')
  exact ⟨hg, fun a w => alloc_vec h w⟩
end Go.Proofs.Ythpnhanabcipmaa
