/-
  Own rows read by one cell, and laid as slices. Of no function.
-/
import Derived.Test.YtmgkejpjljkfdaaSd
import Derived.Test.YtmgkejpjljkfdaaSlV
namespace Go.Proofs.Ytmgkejpjljkfdaa
open Go.RowKit VecM
section
variable {P : Program} {ops : Array Oper} {Q : Exit → Act → World → Prop} {w0 w : World} {M M' : List Ent} {a : Act} {o : Oper} {rest : List Oper}
theorem sl_cell (hS : St w0 M w) (hw : Region.wanted o (yielded ops a.tmps) = true) (ty : TypeId) (x : Operand) (_ho : o.op = .load ty x) {b off : Nat} (_hx : a.eval x = .pointer (some ⟨b, off, none⟩)) {c : Array Value} {t : TypeId} (hm : Has M b c t)
    {v : Value} (hv : c[off]? = some v) (hrun : ∀ w : World, w.cell? ⟨b, off, none⟩ = some v → (execOp a.eval o).run P w = .ok (.value v) w)
    (h : wpList P ops Q rest (a.put o.dst v) w) : wpList P ops Q (o :: rest) a w := by
  unfold wpList
  rw [if_pos hw]
  refine .inl ?_
  unfold Oper.wp
  rw [hrun w ((hS.cell hm off).trans hv)]
  exact h
theorem sl_new (hS : St w0 M w) (hgd : o.guard = none) (c : Array Value) (t : TypeId) (mk : Nat → Value) (hrun : ∀ w : World, (execOp a.eval o).run P w = .ok (.value (mk w.heap.size)) (w.alloc (.cells c t)))
    (h : ∀ b w', St w0 (⟨b, c, t⟩ :: M) w' → wpList P ops Q rest (a.put o.dst (mk b)) w') : wpList P ops Q (o :: rest) a w :=
  wpList_plain hgd fun K hK => by
    unfold Oper.wp
    rw [hrun w]
    exact hK _ _ (h _ _ (hS.alloc c t))
theorem sd_cell {K : Act → Prop} (hw : Region.wanted o (yielded ops a.tmps) = true) (ty : TypeId) (x : Operand) (_ho : o.op = .load ty x) {b off : Nat} (_hx : a.eval x = .pointer (some ⟨b, off, none⟩)) {c : Array Value} {t : TypeId} (hm : Has M b c t)
    {v : Value} (hv : c[off]? = some v) (hrun : ∀ w : World, w.cell? ⟨b, off, none⟩ = some v → (execOp a.eval o).run P w = .ok (.value v) w)
    (h : K (a.put o.dst v)) : ∃ v, YldM P ops w0 M o v a ∧ K (a.put o.dst v) :=
  sd_yes hw (v := v) (fun w hS => by
    rw [hrun w ((hS.cell hm off).trans hv)]
    exact ⟨rfl, Gr.refl _⟩) h
end
end Go.Proofs.Ytmgkejpjljkfdaa
