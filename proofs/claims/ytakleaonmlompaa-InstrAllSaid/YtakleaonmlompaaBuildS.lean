/-
  A great slice of strings built of given parts, in one law: the cells by one closed computation. Of no program.
-/
import Derived.Test.YtakleaonmlompaaKit
namespace Go.Proofs.Ytakleaonmlompaa
open Go.RowKit
section
variable {P : Program} {ops : Array Oper} {Q : Exit → Act → World → Prop} {a : Act} {w : World} {rest : List Oper} {o : Oper}
theorem run_buildSlice_lit (t e : TypeId) (len : Nat) (parts : Array (Nat × Value)) (i : TypeInfo) (cells : Array Value) (ht : P.underlying t = some (.slice e)) (hi : P.info? e = some i) (hz : i.zero = some (.string ⟨#[]⟩)) (hs : i.size = 1)
    (hl : len ≤ 1000) (h0 : 0 < len) (zs : Array Value) (hzs : (Array.map (fun x => (#[Value.string { data := #[] }])[x % 1]!) (Array.range len)) = zs) (hf : Instr.fill (fun j => some (j, 1)) zs parts.toList = some cells) :
    (Instr.buildSlice t len parts).run P w = .ok (.slice (some ⟨w.heap.size, 0, none⟩) len len) (w.alloc (.cells cells e)) := by
  have h1 : ¬ (16777216 < len) := by omega
  have h2 : ¬ len = 0 := by omega
  simp [Instr.buildSlice, run_underlying ht, sizeOf, typeInfo, hi, hs, zeroValue, hz, h1, h2, newRow, newObj, Value.cells]
  simp at hzs
  rw [hzs, hf]
  rfl
theorem wpList_buildS (hgd : o.guard = none) (t e : TypeId) (len : Nat) (parts : Array (Nat × Operand)) (ho : o.op = .buildSlice t len parts) (i : TypeInfo) (cells : Array Value) (ht : P.underlying t = some (.slice e)) (hi : P.info? e = some i) (hz : i.zero = some (.string ⟨#[]⟩)) (hs : i.size = 1)
    (hl : len ≤ 1000) (h0 : 0 < len) (zs : Array Value) (hzs : (Array.map (fun x => (#[Value.string { data := #[] }])[x % 1]!) (Array.range len)) = zs) (hf : Instr.fill (fun j => some (j, 1)) zs (parts.map fun (i, x) => (i, a.eval x)).toList = some cells)
    (h : wpList P ops Q rest (a.put o.dst (.slice (some ⟨w.heap.size, 0, none⟩) len len)) (w.alloc (.cells cells e))) : wpList P ops Q (o :: rest) a w := by
  refine wpList_plain hgd fun _ hK => ?_
  unfold Oper.wp execOp
  simp only [ho, Sem.run_bind, run_buildSlice_lit (w := w) t e len _ i cells ht hi hz hs hl h0 zs hzs hf, Result.andThen_ok]
  exact hK _ _ h
end
end Go.Proofs.Ytakleaonmlompaa
