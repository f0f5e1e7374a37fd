/-
  Texts of this seat, joined: Sep, Fac. Each says what it proves.
-/
import Derived.Test.YtifjgocfdnhdeaaMt3
import Derived.Laws.OwnMore
import Derived.Laws.IdiomCopy
import Derived.Deep.MidRow
/- Sep -/
namespace Go.Proofs.Ytifjgocfdnhdeaa
open Go.RowKit
structure Sep (ex : Nat → Prop) (w w' : World) : Prop where
 os : w'.os = w.os
 tape : w'.tape = w.tape
 output : w'.output = w.output
 size : w.heap.size ≤ w'.heap.size
 block : ∀ k, k < w.heap.size → ¬ ex k → w'.heap[k]? = w.heap[k]?
namespace Sep
variable {ex : Nat → Prop} {a w w' : World}
theorem refl (w : World) : Sep ex w w := ⟨rfl, rfl, rfl, Nat.le_refl _, fun _ _ _ => rfl⟩
theorem trans {b c : World} (h : Sep ex a b) (k : Sep ex b c) : Sep ex a c :=
 ⟨k.os.trans h.os, k.tape.trans h.tape, k.output.trans h.output, Nat.le_trans h.size k.size, fun i hi hx => (k.block i (Nat.lt_of_lt_of_le hi h.size) hx).trans (h.block i hi hx)⟩
theorem mono {ex' : Nat → Prop} (h : Sep ex w w') (hx : ∀ k, ex k → ex' k) : Sep ex' w w' := ⟨h.os, h.tape, h.output, h.size, fun k hk hn => h.block k hk fun e => hn (hx k e)⟩
theorem of_gr (h : Gr w w') : Sep ex w w' := ⟨h.os, h.tape, h.output, h.size, fun k hk _ => h.block k hk⟩
theorem setCell (w : World) {p : Addr} (hp : ex p.block) (u : Value) : Sep ex w (w.setCell p u) :=
 ⟨rfl, rfl, rfl, by simp [World.setCell], fun k _ hx => Below.heap_setCell _ _ _ _ (fun e => hx (e ▸ hp))⟩
theorem grown {row : Option Nat} (hg : w.grownBy w' row) (hr : ∀ k, row = some k → ex k) : Sep ex w w' :=
 ⟨hg.os, hg.tape, hg.output, hg.size, fun k hk hx => hg.block k hk fun e => hx (hr k e.symm)⟩
theorem toGr (h : Gr a w) (s : Sep ex w w') (hex : ∀ k, ex k → a.heap.size ≤ k) : Gr a w' :=
 ⟨s.os.trans h.os, s.tape.trans h.tape, s.output.trans h.output, Nat.le_trans h.size s.size, fun k hk =>
  (s.block k (Nat.lt_of_lt_of_le hk h.size) fun hx => by have := hex k hx; omega).trans (h.block k hk)⟩
theorem at_ {i : Nat} {o : Obj} (s : Sep ex w w') (hx : ¬ ex i) (hi : w.heap[i]? = some o) : w'.heap[i]? = some o := by
 have hlt := (Array.getElem?_eq_some_iff.1 hi).1
 rw [s.block i hlt hx]; exact hi
theorem cell {b o : Nat} {v : Value} (s : Sep ex w w') (hx : ¬ ex b) (hc : w.cell? ⟨b, o, none⟩ = some v) : w'.cell? ⟨b, o, none⟩ = some v := by
 have hlt := block_lt_of_cell hc
 rw [World.cell?_of_block (a := ⟨b, o, none⟩) (s.block b hlt hx)]; exact hc
theorem owns {base : Nat} {e : TypeId} {size : Nat} {v : Value} {n : Nat} {xs : List Value} (s : Sep ex w w') (h : w.ownsRow base e size v n xs) (hx : ∀ k, v.ownBlock = some k → ¬ ex k) : w'.ownsRow base e size v n xs := by
 refine ⟨h.1, ?_⟩
 rcases h.2 with hn | ⟨g, cap, cur, rfl, hb, hgg, rest⟩
 ·exact .inl hn
 ·exact .inr ⟨g, cap, cur, rfl, hb, s.at_ (hx g rfl) hgg, rest⟩
end Sep
end Go.Proofs.Ytifjgocfdnhdeaa
/- Fac -/
namespace Go.Proofs.Ytifjgocfdnhdeaa
open Go.RowKit
section
variable {P : Program} {ops : Array Oper} {md : Region.Mode} {w0 : World}
def aftB (A : List Nat) (i j : Nat) : Bool := Nat.testBit (A.getD i 0) j
def okAt (A : List Nat) (k : Nat) (br : List Nat) : Bool := br.all fun b => b == k || aftB A b k
def ClosedL (md : Region.Mode) (ops : Array Oper) (listed : Array Bool) : Prop := ∀ (j : Nat) (oj : Oper), ops[j]? = some oj → listed.getD j false = true → ∀ e ∈ oj.after, Region.binds md e = true → listed.getD e.on false = true
abbrev Fct := (World → Prop) × List Nat
def facUpon (P : Program) (Φ : Value → World → Prop) (ex : Nat → Prop) (w : World) : Result Next → Prop
 | .ok (.value u) w' => Φ u w' ∧ Sep ex w w'
 | .ok .skip w' => Φ undef w' ∧ Sep ex w w'
 | .ok (.enter f args) w' => Calls P f args w' (fun e w'' => ∃ u, e = .returned u ∧ Φ u w'' ∧ Sep ex w w'')
 | _ => False
def dstU (o : Oper) (u : Value) : Value := match o.dst with | some _ => u | none => undef
def dstV (o : Oper) (V : Tmp → Value) : Value := match o.dst with | some d => V d | none => undef
def FacStep (P : Program) (md : Region.Mode) (ops : Array Oper) (A : List Nat) (w0 : World) (a0 : Act) (Fs : List Fct) (brk : Nat → List Nat) (X : Nat → Nat → Prop) (Φ : Nat → Value → World → Prop) (k : Nat) (o : Oper) : Prop :=
 ∀ (a : Act) (w : World), Sep (fun j => ∃ k, X k j) w0 w → (∀ d, (∀ (j : Nat) (oj : Oper), ops[j]? = some oj → oj.dst = some d → okAt A k [j] = true) → a.tmps[d]? = a0.tmps[d]?) →
  (∀ f ∈ Fs, okAt A k f.2 = true → f.1 w) →
  (∀ e ∈ o.after, Region.binds md e = true → ∀ (oj : Oper), ops[e.on]? = some oj → okAt A k (brk e.on) = true → Φ e.on (dstV oj fun d => a.eval (.tmp d)) w) →
  (Region.wanted o (yielded ops a.tmps) = true → facUpon P (fun u => Φ k (dstU o u)) (X k) w ((execOp a.eval o).run P w)) ∧ (Region.wanted o (yielded ops a.tmps) = false → Φ k undef w)
structure FacInv (md : Region.Mode) (ops : Array Oper) (A : List Nat) (w0 : World) (a0 : Act) (Fs : List Fct) (brk : Nat → List Nat) (X : Nat → Nat → Prop) (Φ : Nat → Value → World → Prop) (listed : Array Bool) (a : Act) (w : World) : Prop where
 sep : Sep (fun j => ∃ k, X k j) w0 w
 defers : a.defers = a0.defers
 size : a.tmps.size = a0.tmps.size
 keep : ∀ d, (∀ (k : Nat) (o : Oper), ops[k]? = some o → listed.getD k false = true → o.dst ≠ some d) → a.tmps[d]? = a0.tmps[d]?
 closed : ClosedL md ops listed
 ok : ∀ (k : Nat) (o : Oper), ops[k]? = some o → listed.getD k false = true → (∀ b ∈ brk k, listed.getD b false = false) → Φ k (dstV o fun d => a.eval (.tmp d)) w
 fac : ∀ f ∈ Fs, (∀ b ∈ f.2, listed.getD b false = false) → f.1 w
def slotB (ops : Array Oper) (A : List Nat) (k : Nat) (d : Tmp) : Bool := (List.range ops.size).all fun j => decide ((ops[j]?).bind (·.dst) ≠ some d) || okAt A k [j]
def depAt (_ops : Array Oper) (o : Oper) (j : Nat) : Bool := o.after.any fun e => Region.binds .any e && e.on == j
section
variable {A : List Nat} {a0 : Act} {Fs : List Fct} {brk : Nat → List Nat} {X : Nat → Nat → Prop} {Φ : Nat → Value → World → Prop} {k : Nat} {o : Oper}
structure FacUse (ops : Array Oper) (A : List Nat) (w0 : World) (a0 : Act) (Fs : List Fct) (brk : Nat → List Nat) (X : Nat → Nat → Prop) (Φ : Nat → Value → World → Prop) (k : Nat) (o : Oper) (ρ : Operand → Value) (w : World) : Prop where
 sep : Sep (fun j => ∃ k, X k j) w0 w
 con : ∀ v, ρ (.const v) = v
 fn : ∀ f, ρ (.func f) = .func (.func f) #[] #[]
 slot : ∀ d, slotB ops A k d = true → ρ (.tmp d) = a0.eval (.tmp d)
 dep : ∀ j d, (depOn ops o j d && okAt A k (brk j)) = true → Φ j (ρ (.tmp d)) w
 depU : ∀ j, (depAt ops o j && decide ((ops[j]?).map (·.dst) = some none) && okAt A k (brk j)) = true → Φ j undef w
 fac : ∀ (i : Nat) (F : World → Prop) (br : List Nat), Fs[i]? = some (F, br) → okAt A k br = true → F w
theorem facUse_of {a : Act} {w : World} (hw : Sep (fun j => ∃ k, X k j) w0 w) (hin : ∀ d, (∀ (j : Nat) (oj : Oper), ops[j]? = some oj → oj.dst = some d → okAt A k [j] = true) → a.tmps[d]? = a0.tmps[d]?)
  (hf : ∀ f ∈ Fs, okAt A k f.2 = true → f.1 w) (hdep : ∀ e ∈ o.after, Region.binds .any e = true → ∀ (oj : Oper), ops[e.on]? = some oj → okAt A k (brk e.on) = true → Φ e.on (dstV oj fun d => a.eval (.tmp d)) w) :
  FacUse ops A w0 a0 Fs brk X Φ k o a.eval w := by
 refine ⟨hw, fun _ => rfl, fun _ => rfl, fun d hd => ?_, fun j d hj => ?_, fun j hj => ?_, fun i F br hi hb => hf _ (List.mem_of_getElem? hi) hb⟩
 ·have h1 := hin d fun j oj hj he => by
   have hlt := (Array.getElem?_eq_some_iff.1 hj).1
   have := List.all_eq_true.1 hd j (List.mem_range.2 hlt)
   rw [hj] at this
   simpa [he] using this
  simp [Act.eval, h1]
 ·unfold depOn at hj
  simp only [Bool.and_eq_true, decide_eq_true_eq] at hj
  obtain ⟨e, he, hb⟩ := Array.any_eq_true'.1 hj.1.1
  simp only [Bool.and_eq_true, beq_iff_eq] at hb
  obtain ⟨hb1, rfl⟩ := hb
  cases hoj : ops[e.on]? with
  | none => rw [hoj] at hj; simp at hj
  | some oj =>
   rw [hoj] at hj
   have h1 := hdep e he hb1 oj hoj hj.2
   unfold dstV at h1
   rw [show oj.dst = some d by simpa using hj.1.2] at h1
   exact h1
 ·unfold depAt at hj
  simp only [Bool.and_eq_true, decide_eq_true_eq] at hj
  obtain ⟨e, he, hb⟩ := Array.any_eq_true'.1 hj.1.1
  simp only [Bool.and_eq_true, beq_iff_eq] at hb
  obtain ⟨hb1, rfl⟩ := hb
  cases hoj : ops[e.on]? with
  | none => rw [hoj] at hj; simp at hj
  | some oj =>
   rw [hoj] at hj
   have h1 := hdep e he hb1 oj hoj hj.2
   unfold dstV at h1
   rw [show oj.dst = none by simpa using hj.1.2] at h1
   exact h1
theorem FacStep.of (hgd : o.guard = none) (h : ∀ (ρ : Operand → Value) (w : World), FacUse ops A w0 a0 Fs brk X Φ k o ρ w → facUpon P (fun u => Φ k (dstU o u)) (X k) w ((execOp ρ o).run P w)) : FacStep P .any ops A w0 a0 Fs brk X Φ k o := by
 intro a w hw hin hf hdep
 exact ⟨fun _ => h a.eval w (facUse_of hw hin hf hdep), fun hn => by simp [Region.wanted, hgd] at hn⟩
theorem FacStep.skip {g : Nat} {b : Bool} (hgd : o.guard = some (g, b)) (dg : Tmp) (hdg : (depOn ops o g dg && okAt A k (brk g)) = true) (hΦ : ∀ v w, Φ g v w → v = .bool (!b)) (h : ∀ w, Φ k undef w) : FacStep P .any ops A w0 a0 Fs brk X Φ k o := by
 intro a w hw hin hf hdep
 have hu := facUse_of hw hin hf hdep
 refine ⟨fun hn => ?_, fun _ => h w⟩
 exfalso
 have hv := hΦ _ w (hu.dep g dg hdg)
 have hy := yielded_of_eval (ops := ops) (g := g) (d := dg) (by
  unfold depOn at hdg
  simp only [Bool.and_eq_true, decide_eq_true_eq] at hdg
  exact hdg.1.2) hv
 simp [Region.wanted, hgd, hy] at hn
end
end
end Go.Proofs.Ytifjgocfdnhdeaa
