/-
  What stays behind stores into some blocks of the call's own: the worlds agree but for those blocks. Of no program.
-/
import Derived.Test.YtndbgnkobodjkaaKit
import Derived.Laws.OwnMore
import Derived.Laws.IdiomCopy
import Derived.Deep.MidRow
namespace Go.Proofs.Ytndbgnkobodjkaa
open Go.RowKit
/-- w' is w but for new blocks and the blocks in ex -/
structure Sep (ex : Nat → Prop) (w w' : World) : Prop where
  os : w'.os = w.os
  tape : w'.tape = w.tape
  output : w'.output = w.output
  size : w.heap.size ≤ w'.heap.size
  block : ∀ k, k < w.heap.size → ¬ ex k → w'.heap[k]? = w.heap[k]?
namespace Sep
variable {ex : Nat → Prop} {a w w' : World}
theorem refl (w : World) : Sep ex w w := ⟨rfl, rfl, rfl, Nat.le_refl _, fun _ _ _ => rfl⟩
theorem trans {b c : World} (h : Sep ex a b) (k : Sep ex b c) : Sep ex a c :=
  ⟨k.os.trans h.os, k.tape.trans h.tape, k.output.trans h.output, Nat.le_trans h.size k.size, fun i hi hx => (k.block i (Nat.lt_of_lt_of_le hi h.size) hx).trans (h.block i hi hx)⟩
theorem mono {ex' : Nat → Prop} (h : Sep ex w w') (hx : ∀ k, ex k → ex' k) : Sep ex' w w' := ⟨h.os, h.tape, h.output, h.size, fun k hk hn => h.block k hk fun e => hn (hx k e)⟩
theorem of_gr (h : Gr w w') : Sep ex w w' := ⟨h.os, h.tape, h.output, h.size, fun k hk _ => h.block k hk⟩
theorem setCell (w : World) {p : Addr} (hp : ex p.block) (u : Value) : Sep ex w (w.setCell p u) :=
  ⟨rfl, rfl, rfl, by simp [World.setCell], fun k _ hx => Below.heap_setCell _ _ _ _ (fun e => hx (e ▸ hp))⟩
theorem setCells {b : Nat} (hb : ex b) : ∀ (vs : List Value) (o : Nat) (w : World), Sep ex w (w.setCells b o vs)
  | [], _, w => refl w
  | v :: r, o, w => trans (setCell w (p := ⟨b, o, none⟩) hb v) (setCells hb r (o + 1) _)
theorem grown {row : Option Nat} (hg : w.grownBy w' row) (hr : ∀ k, row = some k → ex k) : Sep ex w w' :=
  ⟨hg.os, hg.tape, hg.output, hg.size, fun k hk hx => hg.block k hk fun e => hx (hr k e.symm)⟩
theorem toGr (h : Gr a w) (s : Sep ex w w') (hex : ∀ k, ex k → a.heap.size ≤ k) : Gr a w' :=
  ⟨s.os.trans h.os, s.tape.trans h.tape, s.output.trans h.output, Nat.le_trans h.size s.size, fun k hk =>
    (s.block k (Nat.lt_of_lt_of_le hk h.size) fun hx => by have := hex k hx; omega).trans (h.block k hk)⟩
theorem at_ {i : Nat} {o : Obj} (s : Sep ex w w') (hx : ¬ ex i) (hi : w.heap[i]? = some o) : w'.heap[i]? = some o := by
  have hlt := (Array.getElem?_eq_some_iff.1 hi).1
  rw [s.block i hlt hx]; exact hi
theorem cell {b o : Nat} {v : Value} (s : Sep ex w w') (hx : ¬ ex b) (hc : w.cell? ⟨b, o, none⟩ = some v) : w'.cell? ⟨b, o, none⟩ = some v := by
  have hlt := block_lt_of_cell hc
  rw [World.cell?_of_block (a := ⟨b, o, none⟩) (s.block b hlt hx)]; exact hc
theorem owns {base : Nat} {e : TypeId} {size : Nat} {v : Value} {n : Nat} {xs : List Value} (s : Sep ex w w') (h : w.ownsRow base e size v n xs) (hx : ∀ k, v.ownBlock = some k → ¬ ex k) : w'.ownsRow base e size v n xs := by
  refine ⟨h.1, ?_⟩
  rcases h.2 with hn | ⟨g, cap, cur, rfl, hb, hgg, rest⟩
  · exact .inl hn
  · exact .inr ⟨g, cap, cur, rfl, hb, s.at_ (hx g rfl) hgg, rest⟩
end Sep
/-- a row of the call's own: its elements may be written -/
theorem owns_there {w : World} {base : Nat} {e : TypeId} {size : Nat} {g n cap : Nat} {xs : List Value} (h : w.ownsRow base e size (.slice (some ⟨g, 0, none⟩) n cap) n xs) : w.there g 0 (n * size) := fun j hj => by
  rw [Nat.zero_add]
  refine ⟨?_, h.frozenAt j⟩
  rw [h.cellAt j hj]
  have := h.1
  rw [List.getElem?_eq_getElem (by omega)]; rfl
theorem there_part {w : World} {g o n o' m : Nat} (h : w.there g o n) (h1 : o ≤ o') (h2 : o' + m ≤ o + n) : w.there g o' m := fun j hj => by
  have := h (o' - o + j) (by omega)
  rw [show o + (o' - o + j) = o' + j by omega] at this
  exact this
theorem there_sep {ex : Nat → Prop} {w w' : World} {g o n : Nat} (h : w.there g o n) (hx : ¬ ex g) (s : Sep ex w w') : w'.there g o n := fun j hj => by
  obtain ⟨h1, h2⟩ := h j hj
  obtain ⟨v, hv⟩ := Option.isSome_iff_exists.1 h1
  have hlt := block_lt_of_cell hv
  have hb := s.block g hlt hx
  exact ⟨by rw [World.cell?_of_block (a := ⟨g, o + j, none⟩) hb]; exact h1, by rw [World.frozen?_of_block (a := ⟨g, o + j, none⟩) hb]; exact h2⟩
end Go.Proofs.Ytndbgnkobodjkaa
