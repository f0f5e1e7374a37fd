/-
  Small lemmas on worlds and on whole arrays in a region's still head; of no function.
-/
import Derived.Test.YtndbgnkobodjkaaVecM
import Derived.Test.YtndbgnkobodjkaaRows
import Derived.WalkKit
import Derived.WalkSpells
import Derived.WalkLawsBesides
import Derived.Lib.Hide
import Derived.Deep.Cut
import Derived.Deep.WholeRow
import Derived.Deep.RegionWith
import Derived.Deep.RegionHeld3
import Derived.StillTailTactics
import Derived.BigQuiet
import Derived.Laws.Bits64b
import Derived.Laws.AppendOwn
import Derived.Below
import Derived.Carry
namespace Go.Proofs.Ytndbgnkobodjkaa
open Go.RowKit VecM
/-- w' is w with new blocks behind it, and writes to these alone -/
def Gr (w w' : World) : Prop := Below w.heap.size w w'
theorem Gr.refl (w : World) : Gr w w := Below.refl _ _
theorem gr_trans {a b c : World} (h : Gr a b) (h' : Gr b c) : Gr a c := Below.trans h (Below.mono h' h.size)
theorem Gr.drew {a w : World} (h : Gr a w) : Gr a w.drew := Below.drew h
theorem Gr.drewN {a w : World} (h : Gr a w) (n : Nat) : Gr a (w.drewN n) := ⟨h.os, h.tape, h.output, h.size, h.block⟩
theorem Gr.allocO {a w : World} (h : Gr a w) (o : Obj) : Gr a (w.alloc o) := Below.alloc h h.size o
theorem Gr.alloc {a w : World} (h : Gr a w) (c : Array Value) (t : TypeId) : Gr a (w.alloc (.cells c t)) := h.allocO _
theorem Gr.setCell {a w : World} (h : Gr a w) {p : Addr} (hp : a.heap.size ≤ p.block) (u : Value) : Gr a (w.setCell p u) := Below.setCell h hp u
theorem Gr.grown {a w w' : World} {row : Option Nat} (h : Gr a w) (hg : w.grownBy w' row) (hr : ∀ k, row = some k → a.heap.size ≤ k) : Gr a w' := Below.grown h hg h.size hr
theorem gr_block {w w' : World} (h : Gr w w') {i : Nat} {o : Obj} (hi : w.heap[i]? = some o) : w'.heap[i]? = some o := by
  have hlt : i < w.heap.size := by
    apply Nat.lt_of_not_le; intro hle
    rw [Array.getElem?_eq_none hle] at hi; cases hi
  rw [h.block i hlt]; exact hi
theorem gr_cell {w w' : World} (h : Gr w w') {b o : Nat} {v : Value} (hc : w.cell? ⟨b, o, none⟩ = some v) : w'.cell? ⟨b, o, none⟩ = some v := by
  rw [Below.cell h (block_lt_of_cell hc)]; exact hc
theorem gr_setRow {W w' : World} (h : Gr W w') {g : Nat} (hg : W.heap.size ≤ g) (c : Array Value) : Gr W (w'.setRow g c) :=
  Below.trans h ⟨rfl, rfl, rfl, by simp [World.setRow], fun i hi => by
    simp only [World.setRow, Array.getElem?_modify]
    rw [if_neg (by omega)]⟩
theorem setRow_block {w : World} {g : Nat} {old c : Array Value} {t : TypeId} {z : Nat × Nat} (h : w.heap[g]? = some (.cells old t z)) : (w.setRow g c).heap[g]? = some (.cells c t z) := by
  simp only [World.setRow, Array.getElem?_modify, if_true, h]; rfl
theorem setRow_block_other {w : World} {g i : Nat} {c : Array Value} (h : i ≠ g) : (w.setRow g c).heap[i]? = w.heap[i]? := by
  simp only [World.setRow, Array.getElem?_modify]
  rw [if_neg (fun e => h e.symm)]
section
variable {P : Program} {ops : Array Oper} {w : World} {Q : Act → Prop} {a : Act} {o : Oper} {rest : List Oper}
theorem still_plain (hgd : o.guard = none) (h : o.still P a w (wpStill P ops w Q rest)) : wpStill P ops w Q (o :: rest) a := by
  unfold wpStill
  rw [if_pos (by simp [Region.wanted, hgd])]
  exact h
theorem still_load_row (hgd : o.guard = none) (ty : TypeId) (x : Operand) (ho : o.op = .load ty x)
    (g : Nat) (hx : a.eval x = .pointer (some ⟨g, 0, none⟩)) (t : TypeId) (cs : Array Value) (fr : Nat × Nat) (d : TypeDesc) (hg : w.heap[g]? = some (.cells cs t fr))
    (hu : P.underlying ty = some d) (hd : (match d with | .struct _ | .array _ _ => true | _ => false) = true) (hi : (P.info? ty).map (·.size) = some cs.size)
    (h : wpStill P ops w Q rest (a.put o.dst (.agg cs))) : wpStill P ops w Q (o :: rest) a := by
  refine still_plain hgd ?_
  unfold Oper.still execOp
  simp only [ho, hx, Instr.loadAt, Instr.sureAddr, Sem.run_bind, Sem.run_pure, Result.andThen_ok, run_loadVar_row w g t ty cs fr d hg hu hd hi]
  exact ⟨rfl, h⟩
end
theorem ret_eq {a b : Value} (h : a = b) : Ending.returned a = .returned b := by rw [h]
end Go.Proofs.Ytndbgnkobodjkaa
