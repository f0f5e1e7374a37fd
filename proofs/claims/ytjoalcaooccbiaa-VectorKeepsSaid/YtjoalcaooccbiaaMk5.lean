/-
  Texts of this seat, joined: Kit, Steady, Net, NetTail, Late, Sl, Sd, Sm, InsShV, InsTy. Each says what it proves.
-/
import Derived.Test.YtjoalcaooccbiaaMk1
import Derived.Test.YtjoalcaooccbiaaRows
import Derived.WalkKit
import Derived.WalkSpells
import Derived.WalkLawsBesides
import Derived.Lib.Hide
import Derived.Deep.Cut
import Derived.Deep.WholeRow
import Derived.Deep.RegionWith
import Derived.Deep.RegionHeld3
import Derived.StillTailTactics
import Derived.BigQuiet
import Derived.Laws.Bits64b
import Derived.Laws.AppendOwn
import Derived.Below
import Derived.Carry
/- Kit -/
namespace Go.Proofs.Ytjoalcaooccbiaa
open Go.RowKit VecM
def Gr (w w' : World) : Prop := Below w.heap.size w w'
theorem Gr.refl (w : World) : Gr w w := Below.refl _ _
theorem gr_trans {a b c : World} (h : Gr a b) (h' : Gr b c) : Gr a c := Below.trans h (Below.mono h' h.size)
theorem Gr.drew {a w : World} (h : Gr a w) : Gr a w.drew := Below.drew h
theorem Gr.drewN {a w : World} (h : Gr a w) (n : Nat) : Gr a (w.drewN n) := ⟨h.os, h.tape, h.output, h.size, h.block⟩
theorem Gr.allocO {a w : World} (h : Gr a w) (o : Obj) : Gr a (w.alloc o) := Below.alloc h h.size o
theorem Gr.alloc {a w : World} (h : Gr a w) (c : Array Value) (t : TypeId) : Gr a (w.alloc (.cells c t)) := h.allocO _
theorem Gr.setCell {a w : World} (h : Gr a w) {p : Addr} (hp : a.heap.size ≤ p.block) (u : Value) : Gr a (w.setCell p u) := Below.setCell h hp u
theorem Gr.grown {a w w' : World} {row : Option Nat} (h : Gr a w) (hg : w.grownBy w' row) (hr : ∀ k, row = some k → a.heap.size ≤ k) : Gr a w' := Below.grown h hg h.size hr
theorem gr_block {w w' : World} (h : Gr w w') {i : Nat} {o : Obj} (hi : w.heap[i]? = some o) : w'.heap[i]? = some o := by
 have hlt : i < w.heap.size := by
  apply Nat.lt_of_not_le; intro hle
  rw [Array.getElem?_eq_none hle] at hi; cases hi
 rw [h.block i hlt]; exact hi
theorem gr_cell {w w' : World} (h : Gr w w') {b o : Nat} {v : Value} (hc : w.cell? ⟨b, o, none⟩ = some v) : w'.cell? ⟨b, o, none⟩ = some v := by
 rw [Below.cell h (block_lt_of_cell hc)]; exact hc
theorem gr_setRow {W w' : World} (h : Gr W w') {g : Nat} (hg : W.heap.size ≤ g) (c : Array Value) : Gr W (w'.setRow g c) :=
 Below.trans h ⟨rfl, rfl, rfl, by simp [World.setRow], fun i hi => by
  simp only [World.setRow, Array.getElem?_modify]
  rw [if_neg (by omega)]⟩
theorem setRow_block {w : World} {g : Nat} {old c : Array Value} {t : TypeId} {z : Nat × Nat} (h : w.heap[g]? = some (.cells old t z)) : (w.setRow g c).heap[g]? = some (.cells c t z) := by
 simp only [World.setRow, Array.getElem?_modify, if_true, h]; rfl
theorem setRow_block_other {w : World} {g i : Nat} {c : Array Value} (h : i ≠ g) : (w.setRow g c).heap[i]? = w.heap[i]? := by
 simp only [World.setRow, Array.getElem?_modify]
 rw [if_neg (fun e => h e.symm)]
section
variable {P : Program} {ops : Array Oper} {w : World} {Q : Act → Prop} {a : Act} {o : Oper} {rest : List Oper}
theorem still_plain (hgd : o.guard = none) (h : o.still P a w (wpStill P ops w Q rest)) : wpStill P ops w Q (o :: rest) a := by
 unfold wpStill
 rw [if_pos (by simp [Region.wanted, hgd])]
 exact h
theorem still_load_row (hgd : o.guard = none) (ty : TypeId) (x : Operand) (ho : o.op = .load ty x)
  (g : Nat) (hx : a.eval x = .pointer (some ⟨g, 0, none⟩)) (t : TypeId) (cs : Array Value) (fr : Nat × Nat) (d : TypeDesc) (hg : w.heap[g]? = some (.cells cs t fr))
  (hu : P.underlying ty = some d) (hd : (match d with | .struct _ | .array _ _ => true | _ => false) = true) (hi : (P.info? ty).map (·.size) = some cs.size)
  (h : wpStill P ops w Q rest (a.put o.dst (.agg cs))) : wpStill P ops w Q (o :: rest) a := by
 refine still_plain hgd ?_
 unfold Oper.still execOp
 simp only [ho, hx, Instr.loadAt, Instr.sureAddr, Sem.run_bind, Sem.run_pure, Result.andThen_ok, run_loadVar_row w g t ty cs fr d hg hu hd hi]
 exact ⟨rfl, h⟩
end
theorem ret_eq {a b : Value} (h : a = b) : Ending.returned a = .returned b := by rw [h]
end Go.Proofs.Ytjoalcaooccbiaa
/- Steady -/
namespace Go.Proofs.Ytjoalcaooccbiaa
open Go.RowKit
section
variable {P : Program} {ops : Array Oper} {md : Region.Mode} {w0 : World}
def yieldsUpon (P : Program) (w0 : World) (v : Value) : Result Next → Prop
 | .ok (.value u) w' => v = u ∧ Gr w0 w'
 | .ok .skip w' => v = undef ∧ Gr w0 w'
 | .ok (.enter f args) w' => Calls P f args w' (fun e w'' => e = .returned v ∧ Gr w0 w'')
 | _ => False
theorem yieldsUpon_value (v u : Value) (w : World) : yieldsUpon P w0 v (.ok (.value u) w) = (v = u ∧ Gr w0 w) := rfl
theorem yieldsUpon_skip (v : Value) (w : World) : yieldsUpon P w0 v (.ok .skip w) = (v = undef ∧ Gr w0 w) := rfl
theorem yieldsUpon_enter (v : Value) (w : World) (f : FuncId) (args : Array Value) : yieldsUpon P w0 v (.ok (.enter f args) w) = Calls P f args w (fun e w'' => e = .returned v ∧ Gr w0 w'') := rfl
def Steady (P : Program) (w0 : World) (o : Oper) (a : Act) (v : Value) : Prop := ∀ w, Gr w0 w → yieldsUpon P w0 v ((execOp a.eval o).run P w)
def YieldsG (P : Program) (ops : Array Oper) (w0 : World) (o : Oper) (v : Value) (a : Act) : Prop :=
 (Region.wanted o (yielded ops a.tmps) = true ∧ Steady P w0 o a v) ∨ (Region.wanted o (yielded ops a.tmps) = false ∧ v = undef)
theorem YieldsG.of_same {o : Oper} {v : Value} {a a' : Act} (hy : YieldsG P ops w0 o v a) (he : execOp a'.eval o = execOp a.eval o)
  (hw : Region.wanted o (yielded ops a'.tmps) = Region.wanted o (yielded ops a.tmps)) : YieldsG P ops w0 o v a' := by
 unfold YieldsG Steady at *
 rw [he, hw]
 exact hy
def stG (P : Program) (ops : Array Oper) (w0 : World) (i : Nat) (K : Act → Prop) (a : Act) : Prop :=
 match ops[i]? with
 | none => K a
 | some o => ∃ v, YieldsG P ops w0 o v a ∧ K (a.put o.dst v)
theorem stG_mono {i : Nat} {a : Act} {K K' : Act → Prop} (h : ∀ a, K a → K' a) (hh : stG P ops w0 i K a) : stG P ops w0 i K' a := by
 unfold stG at *
 split
 ·exact h _ (by simpa [*] using hh)
 ·rename_i o ho
  simp only [ho] at hh
  obtain ⟨v, hy, hk⟩ := hh
  exact ⟨v, hy, h _ hk⟩
theorem wpOp_of_stG {i : Nat} {a : Act} {K : Act → Prop} {K' : Act → World → Prop} {Q' : Exit → Act → World → Prop} (h : ∀ a w, Gr w0 w → K a → K' a w) (hh : stG P ops w0 i K a) {w : World} (hw : Gr w0 w) :
  wpOp P ops Q' i K' a w := by
 unfold stG at hh
 unfold wpOp
 split
 ·rename_i ho; simp only [ho] at hh; exact h _ _ hw hh
 ·rename_i o ho
  simp only [ho] at hh
  obtain ⟨v, hy, hk⟩ := hh
  rcases hy with ⟨hwt, hs⟩ | ⟨hwt, rfl⟩
  ·rw [if_pos hwt]
   left
   have hr := hs w hw
   unfold Oper.wp
   generalize (execOp a.eval o).run P w = r at *
   cases r with
   | ok n w' =>
    cases n <;> simp only [yieldsUpon] at hr <;> simp only [Oper.upon]
    case value u => obtain ⟨rfl, hg⟩ := hr; exact h _ _ hg hk
    case skip => obtain ⟨rfl, hg⟩ := hr; exact h _ _ hg hk
    case enter f args => exact hr.mono fun e w'' ⟨he, hg⟩ => by subst he; exact h _ _ hg hk
   | halt x w' => simp only [yieldsUpon] at hr
  ·rw [if_neg (by rw [hwt]; decide)]
   exact h _ _ hw hk
theorem stG_put {j : Nat} {oi oj : Oper} {v : Value} (hj : ops[j]? = some oj) (hap : oi.apart ops oj = true)
  (hsi : ∀ cs b, oi.op ≠ .select cs b) (hsj : ∀ cs b, oj.op ≠ .select cs b) {K : Act → Prop} {a : Act}
  (hy : YieldsG P ops w0 oi v a) (h : stG P ops w0 j K (a.put oi.dst v)) :
  stG P ops w0 j (fun a' => YieldsG P ops w0 oi v a' ∧ K (a'.put oi.dst v)) a := by
 obtain ⟨h1, h2, h3⟩ := Oper.apart_spec hap
 unfold stG at *
 simp only [hj] at *
 obtain ⟨u, hyu, hk⟩ := h
 refine ⟨u, ?_, hy.of_same (execOp_put oi hsi a oj.dst u h3) (wanted_put oi a oj.dst u h3), by rw [← Act.put_comm a v u h2]; exact hk⟩
 exact hyu.of_same (execOp_put oj hsj a oi.dst v h1).symm (wanted_put oj a oi.dst v h1).symm
def wpAnyG (P : Program) (md : Region.Mode) (ops : Array Oper) (w0 : World) (n : Nat) (L : Array Bool → Act → Prop) : Nat → Array Bool → Act → Prop
 | 0, listed, a => L listed a
 | f + 1, listed, a =>
  Region.ready md ops listed ≠ [] ∧ ∀ i ∈ Region.ready md ops listed, i < n ∧ stG P ops w0 i (wpAnyG P md ops w0 n L f (listed.setIfInBounds i true)) a
theorem wpAny_of_headG {n g : Nat} {L : Array Bool → Act → Prop} {Q' : Exit → Act → World → Prop} (hL : ∀ listed a w, Gr w0 w → L listed a → wpAny P md ops Q' g listed a w) :
  ∀ (f : Nat) (listed : Array Bool) (a : Act) (w : World), Gr w0 w → wpAnyG P md ops w0 n L f listed a → wpAny P md ops Q' (f + g) listed a w
 | 0, listed, a, w, hw, h => by rw [Nat.zero_add]; exact hL _ _ _ hw h
 | f + 1, listed, a, w, hw, h => by
  rw [show f + 1 + g = (f + g) + 1 by omega]
  exact ⟨fun h0 => absurd h0 h.1, fun i hi => wpOp_of_stG (fun a' w' hw' h' => wpAny_of_headG hL f _ a' w' hw' h') (h.2 i hi).2 hw⟩
theorem wpAnyG_first {n i : Nat} {oi : Oper} {v : Value} {L : Array Bool → Act → Prop} (hi : ops[i]? = some oi) (hsel : ∀ (j : Nat) (o : Oper) cs b, ops[j]? = some o → o.op ≠ .select cs b)
  (hin : i < n) (htw : ∀ listed i, HeadInv md ops n listed → i < n → listed.getD i true = false → ∀ t, n ≤ t → t ∉ Region.ready md ops listed)
  (hdone : ∀ listed a, L listed a → ∀ j ∈ Region.ready md ops listed, n ≤ j) :
  ∀ (f : Nat) (listed : Array Bool) (a : Act), HeadInv md ops n listed →
   (∀ j oj, ops[j]? = some oj → j ≠ i → listed.getD j true = false → (∀ e ∈ oj.after, Region.binds md e = true → e.on ≠ i) → oi.apart ops oj = true) →
   i ∈ Region.ready md ops listed → YieldsG P ops w0 oi v a →
   wpAnyG P md ops w0 n L f (listed.setIfInBounds i true) (a.put oi.dst v) → wpAnyG P md ops w0 n L (f + 1) listed a := by
 intro f
 induction f with
 | zero =>
  intro listed a inv _ hr hy H
  have hun := (mem_ready.1 hr).1
  refine ⟨fun h => (by rw [h] at hr; cases hr), fun j hj => ?_⟩
  have hjn : j < n := by
   rcases Nat.lt_or_ge j n with h | h
   ·exact h
   ·exact absurd hj (htw _ i inv hin hun j h)
  refine ⟨hjn, ?_⟩
  by_cases hji : j = i
  ·subst hji
   unfold stG; rw [hi]; exact ⟨v, hy, H⟩
  ·have := hdone _ _ H j (ready_mono hj hji)
   omega
 | succ f ih =>
  intro listed a inv hfree hr hy H
  have hun := (mem_ready.1 hr).1
  refine ⟨fun h => (by rw [h] at hr; cases hr), fun j hj => ?_⟩
  have hjn : j < n := by
   rcases Nat.lt_or_ge j n with h | h
   ·exact h
   ·exact absurd hj (htw _ i inv hin hun j h)
  refine ⟨hjn, ?_⟩
  by_cases hji : j = i
  ·subst hji
   unfold stG; rw [hi]; exact ⟨v, hy, H⟩
  ·have h1 := (H.2 j (ready_mono hj hji)).2
   obtain ⟨hjun, oj, hoj, hall⟩ := mem_ready.1 hj
   have hnot : ∀ e ∈ oj.after, Region.binds md e = true → e.on ≠ i := fun e he hb heq => by
    have h1 := hall e he hb
    rw [heq, getD_both hun] at h1
    cases h1
   have h2 := stG_put hoj (hfree j oj hoj hji hjun hnot) (fun cs b => hsel i oi cs b hi) (fun cs b => hsel j oj cs b hoj) hy h1
   have hfree' : ∀ k ok, ops[k]? = some ok → k ≠ i → (listed.setIfInBounds j true).getD k true = false →
     (∀ e ∈ ok.after, Region.binds md e = true → e.on ≠ i) → oi.apart ops ok = true := fun k ok hk hki hun hno => by
    refine hfree k ok hk hki ?_ hno
    by_cases hjk : j = k
    ·subst hjk; exact hjun
    ·rw [getD_set_ne true hjk] at hun; exact hun
   refine stG_mono (fun a' h3 => ih (listed.setIfInBounds j true) a' (inv.set hj hjn) hfree' (ready_mono hr (Ne.symm hji)) h3.1 ?_) h2
   rw [Array.setIfInBounds_comm _ _ hji]
   exact h3.2
def wpSteady (P : Program) (ops : Array Oper) (w0 : World) (Q : Act → Prop) : List Oper → Act → Prop
 | [], a => Q a
 | o :: rest, a => ∃ v, YieldsG P ops w0 o v a ∧ wpSteady P ops w0 Q rest (a.put o.dst v)
theorem wpAnyG_lex {n g : Nat} {Lq : Act → Prop} (hsel : Region.noSelect ops = true) (htw : ∀ listed i, HeadInv md ops n listed → i < n → listed.getD i true = false → ∀ t, n ≤ t → t ∉ Region.ready md ops listed) :
  ∀ (l : List Oper) (k : Nat) (listed : Array Bool) (a : Act), (∀ j, j < l.length → l[j]? = ops[k + j]?) → k + l.length = n → HeadInv md ops n listed →
  Region.lexHead md ops g l.length k listed = true → wpSteady P ops w0 Lq l a →
  wpAnyG P md ops w0 n (fun listed' a' => Region.seqB md ops g n listed' = true ∧ Lq a') l.length listed a
 | [], k, listed, a, _, hk, _, hB, h => by
  have : k = n := by simpa using hk
  subst this
  exact ⟨by simpa [Region.lexHead] using hB, h⟩
 | o :: l, k, listed, a, hl, hk, inv, hB, h => by
  have h0 : ops[k]? = some o := by simpa using (hl 0 (by simp)).symm
  simp only [List.length_cons, Region.lexHead, Bool.and_eq_true] at hB
  obtain ⟨⟨hr, hf⟩, hB'⟩ := hB
  have hkn : k < n := by simp only [List.length_cons] at hk; omega
  have hr' : k ∈ Region.ready md ops listed := by simpa using hr
  obtain ⟨v, hy, hK⟩ := h
  exact wpAnyG_first h0 (Region.noSelect_spec hsel) hkn htw (fun listed' a' hL => seqB_ready hL.1) l.length listed a inv (Region.free_spec h0 hf) hr' hy
   (wpAnyG_lex hsel htw l (k + 1) _ _ (fun j hj => by have := hl (j + 1) (by simp; omega); simpa [Nat.add_assoc, Nat.add_comm 1 j] using this) (by simp only [List.length_cons] at hk; omega) (inv.set hr' hkn) hB' hK)
theorem wp_region_steady_tail {id : Nat} {Q : Exit → Act → World → Prop} {a : Act} {w : World} {l : List Oper} (n : Nat) (hm : P.follows .mixedOrders = true) (hB : Region.lexTailB .any l.toArray n = true)
  (h : wpSteady P l.toArray w.drew (fun a' => ∀ w', Gr w.drew w' → wpList P l.toArray Q (l.drop n) a' w') (l.take n) a) : (Code.region id l.toArray true).wp P Q a w := by
 simp only [Region.lexTailB, Bool.and_eq_true, decide_eq_true_eq] at hB
 obtain ⟨⟨⟨⟨hsel, hn⟩, hs⟩, hc⟩, hlex⟩ := hB
 have hn' : n < l.length := by simpa using hn
 have htl : (l.take n).length = n := by simp; omega
 have hdl : (l.drop n).length = l.toArray.size - n := by simp
 have inv0 : HeadInv .any l.toArray n (Array.replicate l.toArray.size false) :=
  ⟨by simp, fun j oj _ hl => (by rw [getD_replicate_false] at hl; cases hl), fun t _ ht => getD_in (by simpa using ht) (getD_replicate_false _ _)⟩
 have H := wpAnyG_lex (md := .any) (g := l.toArray.size - n) hsel (fun listed i inv hi hun t ht => tail_waits hs hc hn inv _ i rfl hi hun t ht) (l.take n) 0 _ a (fun j hj => by
  have hj' : j < n := by rw [htl] at hj; exact hj
  simp [hj']) (by simpa using htl) inv0 (by rw [htl]; exact hlex) h
 refine wp_region_any hm ?_
 have := wpAny_of_headG (Q' := Q) (g := l.toArray.size - n) (fun listed a' w' hw hL => by
  have := wpAny_of_seq (md := .any) (Q' := Q) (l.drop n) n listed a' w' (fun j => by simp [List.getElem?_drop]) (by rw [hdl]; exact hL.1) (hL.2 w' hw)
  rwa [hdl] at this) _ _ _ w.drew (Gr.refl _) H
 rw [htl, show n + (l.toArray.size - n) = l.toArray.size by omega] at this
 exact this
def lexAllB (md : Region.Mode) (ops : Array Oper) : Bool := Region.noSelect ops && Region.lexHead md ops 0 ops.size 0 (Array.replicate ops.size false)
theorem wp_region_steady {id : Nat} {Q : Exit → Act → World → Prop} {a : Act} {w : World} {l : List Oper} (hm : P.follows .mixedOrders = true) (hB : lexAllB .any l.toArray = true)
  (h : wpSteady P l.toArray w.drew (fun a' => ∀ w', Gr w.drew w' → Q .normal a' w') l a) : (Code.region id l.toArray true).wp P Q a w := by
 simp only [lexAllB, Bool.and_eq_true] at hB
 have inv0 : HeadInv .any l.toArray l.toArray.size (Array.replicate l.toArray.size false) :=
  ⟨by simp, fun j oj _ hl => (by rw [getD_replicate_false] at hl; cases hl), fun t _ ht => getD_in (by simpa using ht) (getD_replicate_false _ _)⟩
 have H := wpAnyG_lex (md := .any) (g := 0) (n := l.toArray.size) hB.1 (fun listed i inv hi hun t ht hr => by
  obtain ⟨_, ot, hot, _⟩ := mem_ready.1 hr
  have := (Array.getElem?_eq_some_iff.1 hot).1
  omega) l 0 _ a (fun j _ => by simp) (by simp) inv0 (by simpa using hB.2) h
 refine wp_region_any hm ?_
 have := wpAny_of_headG (Q' := Q) (g := 0) (fun listed a' w' hw hL => ⟨by simpa [Region.seqB] using hL.1, hL.2 w' hw⟩) _ _ _ w.drew (Gr.refl _) H
 simpa using this
variable {Q : Act → Prop} {a : Act} {o : Oper} {rest : List Oper}
theorem steady_nil (h : Q a) : wpSteady P ops w0 Q [] a := h
theorem steady_step (h : ∀ K : Act → Prop, (∀ a, wpSteady P ops w0 Q rest a → K a) → ∃ v, YieldsG P ops w0 o v a ∧ K (a.put o.dst v)) : wpSteady P ops w0 Q (o :: rest) a :=
 h _ (fun _ h => h)
theorem steady_op {K : Act → Prop} (hgd : o.guard = none) {v : Value} (hs : Steady P w0 o a v) (h : K (a.put o.dst v)) : ∃ v, YieldsG P ops w0 o v a ∧ K (a.put o.dst v) :=
 ⟨v, .inl ⟨by simp [Region.wanted, hgd], hs⟩, h⟩
theorem steady_yes {K : Act → Prop} (hw : Region.wanted o (yielded ops a.tmps) = true) {v : Value} (hs : Steady P w0 o a v) (h : K (a.put o.dst v)) : ∃ v, YieldsG P ops w0 o v a ∧ K (a.put o.dst v) :=
 ⟨v, .inl ⟨hw, hs⟩, h⟩
theorem steady_no {K : Act → Prop} (hw : Region.wanted o (yielded ops a.tmps) = false) (h : K (a.put o.dst undef)) : ∃ v, YieldsG P ops w0 o v a ∧ K (a.put o.dst v) :=
 ⟨undef, .inr ⟨hw, rfl⟩, h⟩
theorem steady_load_row_at (ty : TypeId) (x : Operand) (ho : o.op = .load ty x)
  (g : Nat) (hx : a.eval x = .pointer (some ⟨g, 0, none⟩)) (t : TypeId) (cs : Array Value) (fr : Nat × Nat) (d : TypeDesc) (hg : w0.heap[g]? = some (.cells cs t fr))
  (hu : P.underlying ty = some d) (hd : (match d with | .struct _ | .array _ _ => true | _ => false) = true) (hi : (P.info? ty).map (·.size) = some cs.size) : Steady P w0 o a (.agg cs) := by
 intro w hw
 have hlt : g < w0.heap.size := by
  apply Nat.lt_of_not_le; intro hle
  rw [Array.getElem?_eq_none hle] at hg; cases hg
 have hg' : w.heap[g]? = some (.cells cs t fr) := by rw [hw.block g hlt]; exact hg
 unfold execOp
 simp only [ho, hx, Instr.loadAt, Instr.sureAddr, Sem.run_bind, Sem.run_pure, Result.andThen_ok, run_loadVar_row w g t ty cs fr d hg' hu hd hi]
 exact ⟨rfl, hw⟩
theorem steady_load_row {K : Act → Prop} (hgd : o.guard = none) (ty : TypeId) (x : Operand) (ho : o.op = .load ty x)
  (g : Nat) (hx : a.eval x = .pointer (some ⟨g, 0, none⟩)) (t : TypeId) (cs : Array Value) (fr : Nat × Nat) (d : TypeDesc) (hg : w0.heap[g]? = some (.cells cs t fr))
  (hu : P.underlying ty = some d) (hd : (match d with | .struct _ | .array _ _ => true | _ => false) = true) (hi : (P.info? ty).map (·.size) = some cs.size)
  (h : K (a.put o.dst (.agg cs))) : ∃ v, YieldsG P ops w0 o v a ∧ K (a.put o.dst v) :=
 steady_op hgd (steady_load_row_at ty x ho g hx t cs fr d hg hu hd hi) h
theorem steady_build {K : Act → Prop} (hgd : o.guard = none) (t : TypeId) (parts : Array (Nat × Operand)) (ho : o.op = .build t parts) (cells : Array Value)
  (hc : P.built t (parts.map fun (i, x) => (i, a.eval x)).toList = some cells)
  (h : K (a.put o.dst (.agg cells))) : ∃ v, YieldsG P ops w0 o v a ∧ K (a.put o.dst v) := by
 refine steady_op hgd (v := .agg cells) (fun w hw => ?_) h
 unfold execOp
 simp only [ho, Sem.run_bind, run_build w t _ cells hc, Result.andThen_ok]
 exact ⟨rfl, hw⟩
theorem wpList_build_at {Q : Exit → Act → World → Prop} {w : World} (hgd : o.guard = none) (t : TypeId) (parts : Array (Nat × Operand)) (ho : o.op = .build t parts) (cells : Array Value)
  (hc : P.built t (parts.map fun (i, x) => (i, a.eval x)).toList = some cells)
  (h : wpList P ops Q rest (a.put o.dst (.agg cells)) w) : wpList P ops Q (o :: rest) a w :=
 wpList_plain hgd fun K hK => wp_build t parts ho (by rw [hc]; rfl) (by rw [hc]; exact hK _ _ h)
theorem run_loadVar_cells (w : World) (g off : Nat) (ty : TypeId) (cs : Array Value) (d : TypeDesc) (hc : ∀ j v, cs.toList[j]? = some v → w.cell? ⟨g, off + j, none⟩ = some v)
  (hu : P.underlying ty = some d) (hd : (match d with | .struct _ | .array _ _ => true | _ => false) = true) (hi : (P.info? ty).map (·.size) = some cs.size) :
  (loadVar ty ⟨g, off, none⟩).run P w = .ok (.agg cs) w := by
 have hl : (loadCells ⟨g, off, none⟩ cs.toList.length).run P w = .ok cs.toList.toArray w :=
  run_loadCells_list (P := P) w ⟨g, off, none⟩ cs.toList (fun j v hv => by
   have hadd : (⟨g, off, none⟩ : Addr).add j = ⟨g, off + j, none⟩ := by unfold Addr.add; split <;> simp_all
   rw [hadd]; exact hc j v hv)
 cases hq : P.info? ty with
 | none => simp [hq] at hi
 | some i =>
  have hs : i.size = cs.size := by simpa [hq] using hi
  have hagg : (isAgg ty).run P w = .ok true w := by
   unfold isAgg
   rw [Sem.run_bind, run_underlying hu w]
   cases d <;> simp_all
  simp only [Array.length_toList, Array.toArray_toList] at hl
  simp [loadVar, Sem.run_bind, hagg, sizeOf, typeInfo, hq, hs, hl]
theorem wpList_load_cells {Q : Exit → Act → World → Prop} {w : World} (hgd : o.guard = none) (ty : TypeId) (x : Operand) (ho : o.op = .load ty x)
  (g off : Nat) (hx : a.eval x = .pointer (some ⟨g, off, none⟩)) (cs : Array Value) (d : TypeDesc) (hc : ∀ j v, cs.toList[j]? = some v → w.cell? ⟨g, off + j, none⟩ = some v)
  (hu : P.underlying ty = some d) (hd : (match d with | .struct _ | .array _ _ => true | _ => false) = true) (hi : (P.info? ty).map (·.size) = some cs.size)
  (h : wpList P ops Q rest (a.put o.dst (.agg cs)) w) : wpList P ops Q (o :: rest) a w :=
 wpList_plain hgd fun K hK => by
  unfold Oper.wp execOp
  simp only [ho, hx, Instr.loadAt, Instr.sureAddr, Sem.run_bind, Sem.run_pure, Result.andThen_ok, run_loadVar_cells w g off ty cs d hc hu hd hi]
  exact hK _ _ h
theorem steady_load_cells {K : Act → Prop} (hgd : o.guard = none) (ty : TypeId) (x : Operand) (ho : o.op = .load ty x)
  (g off : Nat) (hx : a.eval x = .pointer (some ⟨g, off, none⟩)) (cs : Array Value) (d : TypeDesc) (hc : ∀ j v, cs.toList[j]? = some v → w0.cell? ⟨g, off + j, none⟩ = some v)
  (hu : P.underlying ty = some d) (hd : (match d with | .struct _ | .array _ _ => true | _ => false) = true) (hi : (P.info? ty).map (·.size) = some cs.size)
  (h : K (a.put o.dst (.agg cs))) : ∃ v, YieldsG P ops w0 o v a ∧ K (a.put o.dst v) :=
 steady_op hgd (v := .agg cs) (fun w hw => by
  unfold execOp
  simp only [ho, hx, Instr.loadAt, Instr.sureAddr, Sem.run_bind, Sem.run_pure, Result.andThen_ok, run_loadVar_cells w g off ty cs d (fun j v hv => gr_cell hw (hc j v hv)) hu hd hi]
  exact ⟨rfl, hw⟩) h
end
end Go.Proofs.Ytjoalcaooccbiaa
/- Net -/
namespace Go.Proofs.Ytjoalcaooccbiaa
open Go.RowKit
section
variable {P : Program} {ops : Array Oper} {md : Region.Mode} {w0 : World}
def netUpon (P : Program) (Φ : Value → World → Prop) (w : World) : Result Next → Prop
 | .ok (.value u) w' => Φ u w' ∧ Gr w w'
 | .ok .skip w' => Φ undef w' ∧ Gr w w'
 | .ok (.enter f args) w' => Calls P f args w' (fun e w'' => ∃ u, e = .returned u ∧ Φ u w'' ∧ Gr w w'')
 | _ => False
def NetStep (P : Program) (md : Region.Mode) (ops : Array Oper) (w0 : World) (a0 : Act) (Φ : Nat → Value → World → Prop) (k : Nat) (o : Oper) : Prop :=
 ∀ (a : Act) (w : World), Gr w0 w → (∀ d, (∀ (j : Nat) (oj : Oper), ops[j]? = some oj → oj.dst ≠ some d) → a.tmps[d]? = a0.tmps[d]?) →
  (∀ e ∈ o.after, Region.binds md e = true → ∀ (oj : Oper) (d : Tmp), ops[e.on]? = some oj → oj.dst = some d → Φ e.on (a.eval (.tmp d)) w) →
  (Region.wanted o (yielded ops a.tmps) = true → netUpon P (Φ k) w ((execOp a.eval o).run P w)) ∧ (Region.wanted o (yielded ops a.tmps) = false → Φ k undef w)
structure NetInv (ops : Array Oper) (w0 : World) (a0 : Act) (Φ : Nat → Value → World → Prop) (listed : Array Bool) (a : Act) (w : World) : Prop where
 gr : Gr w0 w
 defers : a.defers = a0.defers
 size : a.tmps.size = a0.tmps.size
 keep : ∀ d, (∀ (k : Nat) (o : Oper), ops[k]? = some o → listed.getD k false = true → o.dst ≠ some d) → a.tmps[d]? = a0.tmps[d]?
 ok : ∀ (k : Nat) (o : Oper) (d : Tmp), ops[k]? = some o → listed.getD k false = true → o.dst = some d → Φ k (a.eval (.tmp d)) w
def netB (md : Region.Mode) (ops : Array Oper) (n : Nat) : Bool :=
 (List.range ops.size).all fun i => (match (ops[i]?).bind (·.dst) with
  | some d => decide (d < n) && (List.range ops.size).all fun j => decide (i = j) || decide ((ops[j]?).bind (·.dst) ≠ some d)
  | none => true) && ((ops[i]?).map fun o => o.after.all fun e => !Region.binds md e || decide (e.on < i)).getD true
theorem netB_spec {n : Nat} (h : netB md ops n = true) : (∀ (i : Nat) (o : Oper) (d : Tmp), ops[i]? = some o → o.dst = some d → d < n ∧ ∀ (j : Nat) (oj : Oper), ops[j]? = some oj → oj.dst = some d → j = i) ∧ ∀ (i : Nat) (o : Oper), ops[i]? = some o → ∀ e ∈ o.after, Region.binds md e = true → e.on < i := by
 have h1 : ∀ i, i < ops.size → _ := fun i hi => List.all_eq_true.1 h i (List.mem_range.2 hi)
 refine ⟨fun i o d hi hd => ?_, fun i o hi e he hb => ?_⟩
 ·have hlt := (Array.getElem?_eq_some_iff.1 hi).1
  have h2 := h1 i hlt
  simp only [hi, Option.bind_some, hd, Bool.and_eq_true, decide_eq_true_eq, List.all_eq_true, Bool.or_eq_true] at h2
  refine ⟨h2.1.1, fun j oj hj hdj => ?_⟩
  have h3 := h2.1.2 j (List.mem_range.2 (Array.getElem?_eq_some_iff.1 hj).1)
  rcases h3 with h3 | h3
  ·exact h3.symm
  ·exact absurd (by rw [hj]; exact hdj) h3
 ·have hlt := (Array.getElem?_eq_some_iff.1 hi).1
  have h2 := h1 i hlt
  simp only [hi, Option.map_some, Option.getD_some, Bool.and_eq_true] at h2
  have h3 := Array.all_eq_true'.1 h2.2 e he
  simpa [hb] using h3
theorem eval_put_same {a : Act} {d : Tmp} {v : Value} (h : d < a.tmps.size) : (a.put (some d) v).eval (.tmp d) = v := by
 simp [Act.put, Act.eval, h]
theorem eval_put_ne {a : Act} {d d' : Tmp} {v : Value} (h : d ≠ d') : (a.put (some d) v).eval (.tmp d') = a.eval (.tmp d') := by
 simp [Act.put, Act.eval, Array.getElem?_setIfInBounds_ne h]
theorem cnt_lt {p p' : Nat → Bool} {i : Nat} (hp : p i = true) (hp' : p' i = false) (hle : ∀ k, p' k = true → p k = true) : ∀ l : List Nat, i ∈ l → l.countP p' + 1 ≤ l.countP p
 | [], h => by cases h
 | x :: l, h => by
  have mono : ∀ l : List Nat, l.countP p' ≤ l.countP p := fun l => List.countP_mono_left (fun k _ hk => hle k hk)
  by_cases hx : x = i
  ·subst hx
   rw [List.countP_cons_of_pos hp, List.countP_cons_of_neg (by rw [hp']; decide)]
   have := mono l
   omega
  ·have hl : i ∈ l := by
    rcases List.mem_cons.1 h with h | h
    ·exact absurd h.symm hx
    ·exact h
   have ih := cnt_lt hp hp' hle l hl
   rw [List.countP_cons, List.countP_cons]
   have : (if p' x = true then 1 else 0) ≤ (if p x = true then 1 else 0) := by
    by_cases hq : p' x = true
    ·rw [if_pos hq, if_pos (hle x hq)]; exact Nat.le_refl _
    ·rw [if_neg hq]; exact Nat.zero_le _
   omega
def unl (ops : Array Oper) (listed : Array Bool) : Nat := (List.range ops.size).countP fun k => !listed.getD k true
theorem net_all {a0 : Act} {Φ : Nat → Value → World → Prop} {Q : Exit → Act → World → Prop} (hB : netB md ops a0.tmps.size = true) (hmono : ∀ k v w w', Gr w w' → Φ k v w → Φ k v w')
  (hstep : ∀ (k : Nat) (o : Oper), ops[k]? = some o → NetStep P md ops w0 a0 Φ k o)
  (hQ : ∀ (a : Act) (w : World), Gr w0 w → a.defers = a0.defers → a.tmps.size = a0.tmps.size → (∀ d, (∀ (k : Nat) (o : Oper), ops[k]? = some o → o.dst ≠ some d) → a.tmps[d]? = a0.tmps[d]?) → (∀ (k : Nat) (o : Oper) (d : Tmp), ops[k]? = some o → o.dst = some d → Φ k (a.eval (.tmp d)) w) → Q .normal a w) :
  ∀ (f : Nat) (listed : Array Bool) (a : Act) (w : World), listed.size = ops.size → unl ops listed ≤ f → NetInv ops w0 a0 Φ listed a w → wpAny P md ops Q f listed a w := by
 obtain ⟨hd, hafter⟩ := netB_spec hB
 have full : ∀ (listed : Array Bool) (a : Act) (w : World), listed.size = ops.size → (∀ k, k < ops.size → listed.getD k true = true) → NetInv ops w0 a0 Φ listed a w → Q .normal a w := fun listed a w hs hall inv => by
  have hl : ∀ k o, ops[k]? = some o → listed.getD k false = true := fun k o hk => by
   have hlt := (Array.getElem?_eq_some_iff.1 hk).1
   have := hall k hlt
   have hlt' : k < listed.size := by omega
   simpa [hlt'] using this
  exact hQ a w inv.gr inv.defers inv.size (fun d hdd => inv.keep d fun k o hk _ => hdd k o hk) (fun k o d hk hkd => inv.ok k o d hk (hl k o hk) hkd)
 have noready : ∀ (listed : Array Bool), listed.size = ops.size → Region.ready md ops listed = [] → ∀ k, k < ops.size → listed.getD k true = true := by
  intro listed hs hr k
  induction k using Nat.strongRecOn with
  | _ k ih =>
   intro hk
   cases hu : listed.getD k true with
   | true => rfl
   | false =>
    exfalso
    have : k ∈ Region.ready md ops listed := mem_ready.2 ⟨hu, ops[k], Array.getElem?_eq_getElem hk, fun e he hb => by
     have hlt := hafter k _ (Array.getElem?_eq_getElem hk) e he hb
     have h1 := ih e.on hlt (by omega)
     have hlt' : e.on < listed.size := by omega
     simpa [hlt'] using h1⟩
    rw [hr] at this; cases this
 intro f
 induction f with
 | zero =>
  intro listed a w hs hu inv
  have hall : ∀ k, k < ops.size → listed.getD k true = true := fun k hk => by
   have h0 : (List.range ops.size).countP (fun k => !listed.getD k true) = 0 := by unfold unl at hu; omega
   have := List.countP_eq_zero.1 h0 k (List.mem_range.2 hk)
   simpa using this
  refine ⟨?_, full listed a w hs hall inv⟩
  cases hr : Region.ready md ops listed with
  | nil => rfl
  | cons x xs =>
   exfalso
   have hx : x ∈ Region.ready md ops listed := by rw [hr]; exact List.mem_cons_self ..
   obtain ⟨h1, o, ho, _⟩ := mem_ready.1 hx
   rw [hall x (Array.getElem?_eq_some_iff.1 ho).1] at h1; cases h1
 | succ f ih =>
  intro listed a w hs hu inv
  refine ⟨fun hr => full listed a w hs (noready listed hs hr) inv, fun i hi => ?_⟩
  obtain ⟨hun, o, ho, hall⟩ := mem_ready.1 hi
  have hio := (Array.getElem?_eq_some_iff.1 ho).1
  have hst := hstep i o ho a w inv.gr (fun d hdd => inv.keep d fun k ok hk _ => hdd k ok hk) (fun e he hb oj d hj hjd => inv.ok e.on oj d hj (hall e he hb) hjd)
  have hunl : unl ops (listed.setIfInBounds i true) ≤ f := by
   have := cnt_lt (p := fun k => !listed.getD k true) (p' := fun k => !(listed.setIfInBounds i true).getD k true) (i := i) (by simp only [hun]; rfl) (by
    have : i < listed.size := by omega
    simp [this]) (fun k hk => by
     by_cases hki : i = k
     ·subst hki; rw [hun]; rfl
     ·rw [getD_set_ne true hki] at hk; exact hk) (List.range ops.size) (List.mem_range.2 hio)
   unfold unl at hu ⊢; omega
  have next : ∀ (v : Value) (w' : World), Gr w w' → Φ i v w' → NetInv ops w0 a0 Φ (listed.setIfInBounds i true) (a.put o.dst v) w' := fun v w' hg hv => by
   refine ⟨gr_trans inv.gr hg, ?_, ?_, fun d hdd => ?_, fun k ok d hk hl hkd => ?_⟩
   ·rw [← inv.defers]; unfold Act.put; split <;> rfl
   ·rw [← inv.size]; unfold Act.put; split
    ·exact Array.size_setIfInBounds
    ·rfl
   ·have h1 := inv.keep d fun k ok hk hlk => hdd k ok hk (getD_set_true hlk)
    rw [← h1]
    cases hod : o.dst with
    | none => rfl
    | some d' =>
     have hli : i < listed.size := by omega
     have hne : d' ≠ d := fun e => hdd i o ho (by simp [hli]) (by rw [hod, e])
     simp [Act.put, Array.getElem?_setIfInBounds_ne hne]
   ·by_cases hki : k = i
    ·subst hki
     have : ok = o := Option.some.inj (hk.symm.trans ho)
     subst this
     rw [hkd, eval_put_same (by rw [inv.size]; exact (hd k ok d ho hkd).1)]
     exact hv
    ·rw [getD_set_ne false (Ne.symm hki)] at hl
     have h1 := hmono k _ w w' hg (inv.ok k ok d hk hl hkd)
     cases hod : o.dst with
     | none => exact h1
     | some d' =>
      have hne : d' ≠ d := fun e => hki ((hd i o d ho (by rw [hod, e])).2 k ok hk hkd)
      rw [eval_put_ne hne]; exact h1
  have hs' : (listed.setIfInBounds i true).size = ops.size := by rw [Array.size_setIfInBounds]; exact hs
  unfold wpOp
  simp only [ho]
  by_cases hw : Region.wanted o (yielded ops a.tmps) = true
  ·rw [if_pos hw]
   left
   have hr := hst.1 hw
   unfold Oper.wp
   generalize (execOp a.eval o).run P w = r at *
   cases r with
   | ok nx w' =>
    cases nx <;> simp only [netUpon] at hr <;> simp only [Oper.upon]
    case value u => exact ih _ _ _ hs' hunl (next u w' hr.2 hr.1)
    case skip => exact ih _ _ _ hs' hunl (next undef w' hr.2 hr.1)
    case enter g args => exact hr.mono fun e w'' ⟨u, he, hv, hg⟩ => by subst he; exact ih _ _ _ hs' hunl (next u w'' hg hv)
   | halt x w' => simp only [netUpon] at hr
  ·rw [if_neg hw]
   exact ih _ _ _ hs' hunl (next undef w (Gr.refl _) (hst.2 (by simpa using hw)))
def netSteps (P : Program) (ops : Array Oper) (w0 : World) (a0 : Act) (Φ : Nat → Value → World → Prop) : List Oper → Nat → Prop
 | [], _ => True
 | o :: l, k => NetStep P .any ops w0 a0 Φ k o ∧ netSteps P ops w0 a0 Φ l (k + 1)
theorem netSteps_spec {a0 : Act} {Φ : Nat → Value → World → Prop} : ∀ (l : List Oper) (k : Nat), netSteps P ops w0 a0 Φ l k → ∀ j o, l[j]? = some o → NetStep P .any ops w0 a0 Φ (k + j) o
 | [], _, _, j, o, h => by simp at h
 | x :: l, k, hs, 0, o, h => by
  obtain rfl : x = o := by simpa using h
  exact hs.1
 | x :: l, k, hs, j + 1, o, h => by
  have := netSteps_spec l (k + 1) hs.2 j o (by simpa using h)
  rwa [show k + 1 + j = k + (j + 1) by omega] at this
def putAll (a : Act) (V : Nat → Value) : List Oper → Act
 | [] => a
 | o :: l => putAll (a.put o.dst ((o.dst.map V).getD undef)) V l
theorem putAll_size (V : Nat → Value) : ∀ (l : List Oper) (a : Act), (putAll a V l).tmps.size = a.tmps.size
 | [], _ => rfl
 | o :: l, a => by
  rw [putAll, putAll_size V l]; unfold Act.put; split
  ·exact Array.size_setIfInBounds
  ·rfl
theorem putAll_defers (V : Nat → Value) : ∀ (l : List Oper) (a : Act), (putAll a V l).defers = a.defers
 | [], _ => rfl
 | o :: l, a => by rw [putAll, putAll_defers V l]; unfold Act.put; split <;> rfl
theorem putAll_get (V : Nat → Value) (d : Nat) : ∀ (l : List Oper) (a : Act), d < a.tmps.size → (putAll a V l).tmps[d]? = if l.any (fun o => o.dst == some d) then some (V d) else a.tmps[d]?
 | [], _, _ => rfl
 | o :: l, a, hd => by
  have hs : (a.put o.dst ((o.dst.map V).getD undef)).tmps.size = a.tmps.size := by unfold Act.put; split <;> simp
  rw [putAll, putAll_get V d l _ (by rw [hs]; exact hd)]
  by_cases hl : l.any (fun o => o.dst == some d) = true
  ·rw [if_pos hl, if_pos (by rw [List.any_cons, hl]; simp)]
  ·rw [if_neg hl]
   by_cases ho : o.dst = some d
   ·rw [if_pos (by simp [ho]), ho]
    simp [Act.put, hd]
   ·have hl' : l.any (fun o => o.dst == some d) = false := by simpa using hl
    rw [if_neg (by simp only [List.any_cons, hl', Bool.or_false, beq_iff_eq]; exact ho)]
    cases hod : o.dst with
    | none => rfl
    | some d' =>
     have hne : d' ≠ d := fun e => ho (by rw [hod, e])
     simp [Act.put, Array.getElem?_setIfInBounds_ne hne]
theorem wp_region_net {id : Nat} {Q : Exit → Act → World → Prop} {a : Act} {w : World} {l : List Oper} (Φ : Nat → Value → World → Prop) (hm : P.follows .mixedOrders = true) (hB : netB .any l.toArray a.tmps.size = true)
  (hmono : ∀ k v w w', Gr w w' → Φ k v w → Φ k v w') (hsteps : netSteps P l.toArray w.drew a Φ l 0)
  (hQ : ∀ (V : Nat → Value) (w' : World), Gr w.drew w' → (∀ (k : Nat) (o : Oper) (d : Tmp), l[k]? = some o → o.dst = some d → Φ k (V d) w') → Q .normal (putAll a V l) w') : (Code.region id l.toArray true).wp P Q a w := by
 refine wp_region_any hm ?_
 refine net_all (w0 := w.drew) (a0 := a) (Φ := Φ) hB hmono (fun k o hk => by
  have := netSteps_spec l 0 hsteps k o (by simpa using hk)
  rwa [Nat.zero_add] at this) (fun a' w' hg hdf hsz hkeep hok => ?_) _ _ _ _ (by simp) (by
   unfold unl
   exact Nat.le_trans List.countP_le_length (by simp)) ⟨Gr.refl _, rfl, rfl, fun _ _ => rfl, fun k o d _ hl _ => by rw [getD_replicate_false] at hl; cases hl⟩
 have e : a' = putAll a (fun d => a'.eval (.tmp d)) l := by
  have h1 : a'.tmps = (putAll a (fun d => a'.eval (.tmp d)) l).tmps := by
   apply Array.ext_getElem?
   intro d
   by_cases hd : d < a.tmps.size
   ·rw [putAll_get _ d l a hd]
    by_cases hany : l.any (fun o => o.dst == some d) = true
    ·rw [if_pos hany]
     have hd' : d < a'.tmps.size := by omega
     simp [Act.eval, hd']
    ·rw [if_neg hany]
     refine hkeep d fun k o hk he => hany ?_
     have hk' : l[k]? = some o := by simpa using hk
     exact List.any_eq_true.2 ⟨o, List.mem_of_getElem? hk', by simp [he]⟩
   ·rw [Array.getElem?_eq_none (by omega), Array.getElem?_eq_none (by rw [putAll_size]; omega)]
  have h2 : a'.defers = (putAll a (fun d => a'.eval (.tmp d)) l).defers := by rw [putAll_defers]; exact hdf
  cases a'; cases hp : putAll a _ l
  rw [hp] at h1 h2
  simp only at h1 h2
  rw [h1, h2]
 rw [e]
 exact hQ _ w' hg fun k o d hk hd => hok k o d (by simpa using hk) hd
def notDst (ops : Array Oper) (d : Tmp) : Bool := (List.range ops.size).all fun j => decide ((ops[j]?).bind (·.dst) ≠ some d)
def depOn (ops : Array Oper) (o : Oper) (j : Nat) (d : Tmp) : Bool := (o.after.any fun e => Region.binds .any e && e.on == j) && decide ((ops[j]?).bind (·.dst) = some d)
theorem NetStep.of {a0 : Act} {Φ : Nat → Value → World → Prop} {k : Nat} {o : Oper} (hgd : o.guard = none)
  (h : ∀ (ρ : Operand → Value) (w : World), Gr w0 w → (∀ v, ρ (.const v) = v) → (∀ f, ρ (.func f) = .func (.func f) #[] #[]) → (∀ d, notDst ops d = true → ρ (.tmp d) = a0.eval (.tmp d)) →
   (∀ j d, depOn ops o j d = true → Φ j (ρ (.tmp d)) w) → netUpon P (Φ k) w ((execOp ρ o).run P w)) : NetStep P .any ops w0 a0 Φ k o := by
 intro a w hw hin hdep
 refine ⟨fun _ => h a.eval w hw (fun _ => rfl) (fun _ => rfl) (fun d hd => ?_) (fun j d hj => ?_), fun hn => ?_⟩
 ·have h1 := hin d fun j oj hj he => by
   have hlt := (Array.getElem?_eq_some_iff.1 hj).1
   have := List.all_eq_true.1 hd j (List.mem_range.2 hlt)
   rw [hj] at this
   simp [he] at this
  simp [Act.eval, h1]
 ·unfold depOn at hj
  simp only [Bool.and_eq_true, decide_eq_true_eq] at hj
  obtain ⟨e, he, hb⟩ := Array.any_eq_true'.1 hj.1
  simp only [Bool.and_eq_true, beq_iff_eq] at hb
  obtain ⟨hb1, rfl⟩ := hb
  cases hoj : ops[e.on]? with
  | none => rw [hoj] at hj; simp at hj
  | some oj =>
   rw [hoj] at hj
   exact hdep e he hb1 oj d hoj (by simpa using hj.2)
 ·simp [Region.wanted, hgd] at hn
theorem NetStep.load_row {a0 : Act} {Φ : Nat → Value → World → Prop} {k : Nat} {o : Oper} (hgd : o.guard = none) (ty : TypeId) (d : Tmp) (ho : o.op = .load ty (.tmp d)) (hd : notDst ops d = true)
  (g : Nat) (hx : a0.eval (.tmp d) = .pointer (some ⟨g, 0, none⟩)) (t : TypeId) (cs : Array Value) (fr : Nat × Nat) (de : TypeDesc) (hg : w0.heap[g]? = some (.cells cs t fr))
  (hu : P.underlying ty = some de) (hde : (match de with | .struct _ | .array _ _ => true | _ => false) = true) (hi : (P.info? ty).map (·.size) = some cs.size)
  (hΦ : ∀ w, Gr w0 w → Φ k (.agg cs) w) : NetStep P .any ops w0 a0 Φ k o := by
 refine NetStep.of hgd fun ρ w hw _ _ hin _ => ?_
 have h1 := hin d hd
 rw [hx] at h1
 unfold execOp
 simp only [ho, h1, Instr.loadAt, Instr.sureAddr, Sem.run_bind, Sem.run_pure, Result.andThen_ok, run_loadVar_row w g t ty cs fr de (gr_block hw hg) hu hde hi]
 exact ⟨hΦ w hw, Gr.refl _⟩
theorem yielded_of_eval {a : Act} {g : Nat} {d : Tmp} {b : Bool} (hd : (ops[g]?).bind (·.dst) = some d) (h : a.eval (.tmp d) = .bool b) : yielded ops a.tmps g = some b := by
 unfold yielded
 rw [hd]
 have : a.tmps[d]? = some (.bool b) := by
  have h : a.tmps.getD d undef = .bool b := h
  cases hq : a.tmps[d]? with
  | none =>
   rw [Array.getD_eq_getD_getElem?, hq] at h
   simp [undef] at h
  | some v =>
   rw [Array.getD_eq_getD_getElem?, hq] at h
   simp at h
   rw [h]
 simp [this]
theorem NetStep.guarded {a0 : Act} {Φ : Nat → Value → World → Prop} {k : Nat} {o : Oper} {g : Nat} {b : Bool} (hgd : o.guard = some (g, b)) (dg : Tmp) (hdg : depOn ops o g dg = true) (hΦ : ∀ v w, Φ g v w → v = .bool b)
  (h : ∀ (ρ : Operand → Value) (w : World), Gr w0 w → (∀ v, ρ (.const v) = v) → (∀ f, ρ (.func f) = .func (.func f) #[] #[]) → (∀ d, notDst ops d = true → ρ (.tmp d) = a0.eval (.tmp d)) →
   (∀ j d, depOn ops o j d = true → Φ j (ρ (.tmp d)) w) → netUpon P (Φ k) w ((execOp ρ o).run P w)) : NetStep P .any ops w0 a0 Φ k o := by
 intro a w hw hin hdep
 have hdep' : ∀ j d, depOn ops o j d = true → Φ j (a.eval (.tmp d)) w := fun j d hj => by
  unfold depOn at hj
  simp only [Bool.and_eq_true, decide_eq_true_eq] at hj
  obtain ⟨e, he, hb⟩ := Array.any_eq_true'.1 hj.1
  simp only [Bool.and_eq_true, beq_iff_eq] at hb
  obtain ⟨hb1, rfl⟩ := hb
  cases hoj : ops[e.on]? with
  | none => rw [hoj] at hj; simp at hj
  | some oj =>
   rw [hoj] at hj
   exact hdep e he hb1 oj d hoj (by simpa using hj.2)
 refine ⟨fun _ => h a.eval w hw (fun _ => rfl) (fun _ => rfl) (fun d hd => ?_) hdep', fun hn => ?_⟩
 ·have h1 := hin d fun j oj hj he => by
   have hlt := (Array.getElem?_eq_some_iff.1 hj).1
   have := List.all_eq_true.1 hd j (List.mem_range.2 hlt)
   rw [hj] at this
   simp [he] at this
  simp [Act.eval, h1]
 ·exfalso
  have hv := hΦ _ w (hdep' g dg hdg)
  have hy := yielded_of_eval (ops := ops) (g := g) (d := dg) (by
   unfold depOn at hdg
   simp only [Bool.and_eq_true, decide_eq_true_eq] at hdg
   exact hdg.2) hv
  simp [Region.wanted, hgd, hy] at hn
theorem net_load_row {Φk : Value → World → Prop} {ρ : Operand → Value} {w : World} {o : Oper} (ty : TypeId) (x : Operand) (ho : o.op = .load ty x)
  (g : Nat) (hx : ρ x = .pointer (some ⟨g, 0, none⟩)) (t : TypeId) (cs : Array Value) (fr : Nat × Nat) (de : TypeDesc) (hg : w0.heap[g]? = some (.cells cs t fr)) (hw : Gr w0 w)
  (hu : P.underlying ty = some de) (hde : (match de with | .struct _ | .array _ _ => true | _ => false) = true) (hi : (P.info? ty).map (·.size) = some cs.size)
  (hΦ : Φk (.agg cs) w) : netUpon P Φk w ((execOp ρ o).run P w) := by
 unfold execOp
 simp only [ho, hx, Instr.loadAt, Instr.sureAddr, Sem.run_bind, Sem.run_pure, Result.andThen_ok, run_loadVar_row w g t ty cs fr de (gr_block hw hg) hu hde hi]
 exact ⟨hΦ, Gr.refl _⟩
theorem net_build {Φk : Value → World → Prop} {ρ : Operand → Value} {w : World} {o : Oper} (t : TypeId) (parts : Array (Nat × Operand)) (ho : o.op = .build t parts) (cells : Array Value)
  (hc : P.built t (parts.map fun (i, x) => (i, ρ x)).toList = some cells) (hΦ : Φk (.agg cells) w) : netUpon P Φk w ((execOp ρ o).run P w) := by
 unfold execOp
 simp only [ho, Sem.run_bind, run_build w t _ cells hc, Result.andThen_ok]
 exact ⟨hΦ, Gr.refl _⟩
end
end Go.Proofs.Ytjoalcaooccbiaa
/- NetTail -/
namespace Go.Proofs.Ytjoalcaooccbiaa
open Go.RowKit
section
variable {P : Program} {ops : Array Oper} {md : Region.Mode} {w0 : World}
def headDone (m n : Nat) : Array Bool := Array.ofFn (n := m) fun i => decide (i.val < n)
def netTailB (md : Region.Mode) (ops : Array Oper) (n s : Nat) : Bool :=
 netB md ops s && decide (n < ops.size) && Region.sinkB md ops n && Region.chainB md ops n && Region.seqB md ops (ops.size - n) n (headDone ops.size n) && (List.range n).all fun k => match (ops[k]?).bind (·.guard) with | some (g, _) => decide (g < n) | none => true
def unlh (n : Nat) (listed : Array Bool) : Nat := (List.range n).countP fun k => !listed.getD k true
theorem least_of {p : Nat → Prop} [DecidablePred p] : ∀ n, (∃ k, k < n ∧ p k) → ∃ k, k < n ∧ p k ∧ ∀ j, j < k → ¬ p j := by
 intro n ⟨k, hk, hp⟩
 induction k using Nat.strongRecOn with
 | _ k ih =>
  by_cases h : ∃ j, j < k ∧ p j
  ·obtain ⟨j, hj, hpj⟩ := h
   exact ih j hj (by omega) hpj
  ·exact ⟨k, hk, hp, fun j hj hpj => h ⟨j, hj, hpj⟩⟩
theorem wanted_head {opsh : Array Oper} {n : Nat} {o : Oper} (hh : ∀ j, j < n → opsh[j]? = ops[j]?) (hg : ∀ g b, o.guard = some (g, b) → g < n) (t : Array Value) : Region.wanted o (yielded opsh t) = Region.wanted o (yielded ops t) := by
 unfold Region.wanted
 cases ho : o.guard with
 | none => rfl
 | some gb =>
  obtain ⟨g, b⟩ := gb
  have : yielded opsh t g = yielded ops t g := by unfold yielded; rw [hh g (hg g b ho)]
  simp only [this]
theorem net_tail {opsh : Array Oper} {n : Nat} (hh : ∀ j, j < n → opsh[j]? = ops[j]?) (hh' : ∀ j oj, opsh[j]? = some oj → j < n) {a0 : Act} {Φ : Nat → Value → World → Prop} {Q : Exit → Act → World → Prop} (hB : netTailB md ops n a0.tmps.size = true) (hmono : ∀ k v w w', Gr w w' → Φ k v w → Φ k v w')
  (hstep : ∀ (k : Nat) (o : Oper), k < n → ops[k]? = some o → NetStep P md opsh w0 a0 Φ k o)
  (hQ : ∀ (a : Act) (w : World), Gr w0 w → a.defers = a0.defers → a.tmps.size = a0.tmps.size → (∀ d, (∀ (k : Nat) (o : Oper), k < n → ops[k]? = some o → o.dst ≠ some d) → a.tmps[d]? = a0.tmps[d]?) → (∀ (k : Nat) (o : Oper) (d : Tmp), k < n → ops[k]? = some o → o.dst = some d → Φ k (a.eval (.tmp d)) w) → wpList P ops Q (ops.toList.drop n) a w) :
  ∀ (f : Nat) (listed : Array Bool) (a : Act) (w : World), HeadInv md ops n listed → unlh n listed = f → NetInv ops w0 a0 Φ listed a w → wpAny P md ops Q (f + (ops.size - n)) listed a w := by
 simp only [netTailB, Bool.and_eq_true, decide_eq_true_eq] at hB
 obtain ⟨⟨⟨⟨⟨hNB, hn⟩, hs⟩, hc⟩, hseq⟩, hgd⟩ := hB
 have hguard : ∀ k o, k < n → ops[k]? = some o → ∀ g b, o.guard = some (g, b) → g < n := fun k o hk ho g b hg => by
  have := List.all_eq_true.1 hgd k (List.mem_range.2 hk)
  rw [ho] at this
  simpa [hg] using this
 obtain ⟨hd, hafter⟩ := netB_spec hNB
 have lst : ∀ (listed : Array Bool), HeadInv md ops n listed → ∀ k, listed.getD k false = true → k < n := fun listed hi k hk => by
  rcases Nat.lt_or_ge k n with h | h
  ·exact h
  ·exfalso
   have hks : k < ops.size := by
    rw [← hi.size]
    rcases Nat.lt_or_ge k listed.size with h' | h'
    ·exact h'
    ·simp [Array.getElem?_eq_none h'] at hk
   have := getD_both (hi.tail k h hks)
   rw [this] at hk; cases hk
 intro f
 induction f with
 | zero =>
  intro listed a w hi hu inv
  have hall : ∀ k, k < n → listed.getD k true = true := fun k hk => by
   have h0 : (List.range n).countP (fun k => !listed.getD k true) = 0 := hu
   have := List.countP_eq_zero.1 h0 k (List.mem_range.2 hk)
   simpa using this
  have hall' : ∀ k, k < n → listed.getD k false = true := fun k hk => by
   have h1 := hall k hk
   have hlt : k < listed.size := by rw [hi.size]; omega
   simpa [hlt] using h1
  have he : listed = headDone ops.size n := by
   apply Array.ext
   ·simp [headDone, hi.size]
   ·intro k h1 h2
    by_cases hk : k < n
    ·have := hall k hk
     simp only [Array.getD_eq_getD_getElem?, Array.getElem?_eq_getElem h1, Option.getD_some] at this
     rw [this]; simp [headDone, hk]
    ·have := hi.tail k (by omega) (by rw [← hi.size]; exact h1)
     simp only [Array.getD_eq_getD_getElem?, Array.getElem?_eq_getElem h1, Option.getD_some] at this
     rw [this]; simp [headDone, hk]
  have hlen : (ops.toList.drop n).length = ops.size - n := by simp
  have := wpAny_of_seq (md := md) (Q' := Q) (P := P) (ops.toList.drop n) n listed a w (fun j => by simp [List.getElem?_drop]) (by rw [hlen, he]; exact hseq)
   (hQ a w inv.gr inv.defers inv.size (fun d hdd => inv.keep d fun k o hk hl => hdd k o (lst listed hi k hl) hk) (fun k o d hkn hk hkd => inv.ok k o d hk (hall' k hkn) hkd))
  rw [hlen] at this
  rw [Nat.zero_add]
  exact this
 | succ f ih =>
  intro listed a w hi hu inv
  have hpos : ∃ k, k < n ∧ listed.getD k true = false := by
   apply Classical.byContradiction
   intro hno
   have h0 : (List.range n).countP (fun k => !listed.getD k true) = 0 := List.countP_eq_zero.2 fun k hk => by
    have hk := List.mem_range.1 hk
    cases hg : listed.getD k true with
    | true => decide
    | false => exact absurd ⟨k, hk, hg⟩ hno
   unfold unlh at hu; omega
  rw [show f + 1 + (ops.size - n) = (f + (ops.size - n)) + 1 by omega]
  refine ⟨fun hr => ?_, fun i hir => ?_⟩
  ·exfalso
   obtain ⟨k, hk, hku, hmin⟩ := least_of n hpos
   have : k ∈ Region.ready md ops listed := mem_ready.2 ⟨hku, ops[k]'(by omega), Array.getElem?_eq_getElem (by omega), fun e he hb => by
    have hlt := hafter k _ (Array.getElem?_eq_getElem (by omega)) e he hb
    have h1 := hmin e.on hlt
    have hlt' : e.on < listed.size := by rw [hi.size]; omega
    simp only [Array.getD_eq_getD_getElem?, Array.getElem?_eq_getElem hlt', Option.getD_some] at h1 ⊢
    simpa using h1⟩
   rw [hr] at this; cases this
  ·obtain ⟨k0, hk0, hku0⟩ := hpos
   have hin : i < n := by
    rcases Nat.lt_or_ge i n with h | h
    ·exact h
    ·exact absurd hir (tail_waits hs hc hn hi _ k0 rfl hk0 hku0 i h)
   obtain ⟨hun, o, ho, hall⟩ := mem_ready.1 hir
   have hio := (Array.getElem?_eq_some_iff.1 ho).1
   have hst := hstep i o hin ho a w inv.gr (fun d hdd => inv.keep d fun k ok hk hl => hdd k ok (by rw [hh k (lst listed hi k hl)]; exact hk)) (fun e he hb oj d hj hjd => inv.ok e.on oj d (by rw [← hh e.on (hh' _ _ hj)]; exact hj) (hall e he hb) hjd)
   rw [wanted_head hh (hguard i o hin ho)] at hst
   have hunl : unlh n (listed.setIfInBounds i true) = f := by
    have hp : ∀ l : List Nat, l.Nodup → i ∈ l → l.countP (fun k => !(listed.setIfInBounds i true).getD k true) + 1 = l.countP fun k => !listed.getD k true := by
     intro l
     induction l with
     | nil => intro _ h; cases h
     | cons x l ihl =>
      intro hnd hm
      obtain ⟨hx, hnd⟩ := List.nodup_cons.1 hnd
      have hset : (listed.setIfInBounds i true).getD i true = true := by
       have : i < listed.size := by rw [hi.size]; exact hio
       simp [this]
      by_cases hxi : x = i
      ·subst hxi
       have hsame : ∀ l' : List Nat, x ∉ l' → l'.countP (fun k => !(listed.setIfInBounds x true).getD k true) = l'.countP fun k => !listed.getD k true := by
        intro l' hx'
        refine List.countP_congr fun k hk => ?_
        have hkx : x ≠ k := fun e => hx' (e ▸ hk)
        rw [getD_set_ne true hkx]
       rw [List.countP_cons_of_neg (by rw [hset]; decide), List.countP_cons_of_pos (by rw [hun]; rfl), hsame l hx]
      ·have hml : i ∈ l := by
        rcases List.mem_cons.1 hm with h | h
        ·exact absurd h.symm hxi
        ·exact h
       have := ihl hnd hml
       rw [List.countP_cons, List.countP_cons, getD_set_ne true (Ne.symm hxi)]
       omega
    have := hp (List.range n) List.nodup_range (List.mem_range.2 hin)
    unfold unlh at hu ⊢; omega
   have next : ∀ (v : Value) (w' : World), Gr w w' → Φ i v w' → NetInv ops w0 a0 Φ (listed.setIfInBounds i true) (a.put o.dst v) w' := fun v w' hg hv => by
    refine ⟨gr_trans inv.gr hg, ?_, ?_, fun d hdd => ?_, fun k ok d hk hl hkd => ?_⟩
    ·rw [← inv.defers]; unfold Act.put; split <;> rfl
    ·rw [← inv.size]; unfold Act.put; split
     ·exact Array.size_setIfInBounds
     ·rfl
    ·have h1 := inv.keep d fun k ok hk hlk => hdd k ok hk (getD_set_true hlk)
     rw [← h1]
     cases hod : o.dst with
     | none => rfl
     | some d' =>
      have hli : i < listed.size := by rw [hi.size]; exact hio
      have hne : d' ≠ d := fun e => hdd i o ho (by simp [hli]) (by rw [hod, e])
      simp [Act.put, Array.getElem?_setIfInBounds_ne hne]
    ·by_cases hki : k = i
     ·subst hki
      have : ok = o := Option.some.inj (hk.symm.trans ho)
      subst this
      rw [hkd, eval_put_same (by rw [inv.size]; exact (hd k ok d ho hkd).1)]
      exact hv
     ·rw [getD_set_ne false (Ne.symm hki)] at hl
      have h1 := hmono k _ w w' hg (inv.ok k ok d hk hl hkd)
      cases hod : o.dst with
      | none => exact h1
      | some d' =>
       have hne : d' ≠ d := fun e => hki ((hd i o d ho (by rw [hod, e])).2 k ok hk hkd)
       rw [eval_put_ne hne]; exact h1
   have hi' := hi.set hir hin
   unfold wpOp
   simp only [ho]
   by_cases hw : Region.wanted o (yielded ops a.tmps) = true
   ·rw [if_pos hw]
    left
    have hr := hst.1 hw
    unfold Oper.wp
    generalize (execOp a.eval o).run P w = r at *
    cases r with
    | ok nx w' =>
     cases nx <;> simp only [netUpon] at hr <;> simp only [Oper.upon]
     case value u => exact ih _ _ _ hi' hunl (next u w' hr.2 hr.1)
     case skip => exact ih _ _ _ hi' hunl (next undef w' hr.2 hr.1)
     case enter g args => exact hr.mono fun e w'' ⟨u, he, hv, hg⟩ => by subst he; exact ih _ _ _ hi' hunl (next u w'' hg hv)
    | halt x w' => simp only [netUpon] at hr
   ·rw [if_neg hw]
    exact ih _ _ _ hi' hunl (next undef w (Gr.refl _) (hst.2 (by simpa using hw)))
theorem wp_region_net_tail {id : Nat} {Q : Exit → Act → World → Prop} {a : Act} {w : World} {l : List Oper} (n : Nat) (Φ : Nat → Value → World → Prop) (hm : P.follows .mixedOrders = true) (hB : netTailB .any l.toArray n a.tmps.size = true)
  (hmono : ∀ k v w w', Gr w w' → Φ k v w → Φ k v w') (hsteps : netSteps P (l.take n).toArray w.drew a Φ (l.take n) 0)
  (hQ : ∀ (V : Nat → Value) (w' : World), Gr w.drew w' → (∀ (k : Nat) (o : Oper) (d : Tmp), k < n → l[k]? = some o → o.dst = some d → Φ k (V d) w') → wpList P l.toArray Q (l.drop n) (putAll a V (l.take n)) w') : (Code.region id l.toArray true).wp P Q a w := by
 refine wp_region_any hm ?_
 have hn : n < l.length := by
  have h := hB
  simp only [netTailB, Bool.and_eq_true, decide_eq_true_eq] at h
  simpa using h.1.1.1.1.2
 have hu : unlh n (Array.replicate l.toArray.size false) = n := by
  unfold unlh
  have : (List.range n).countP (fun k => !(Array.replicate l.toArray.size false).getD k true) = (List.range n).length := List.countP_eq_length.2 fun k hk => by
   have hk := List.mem_range.1 hk
   have hkl : k < l.length := by omega
   simp [hkl]
  rw [this]; simp
 have H := net_tail (opsh := (l.take n).toArray) (fun j hj => by simp [List.getElem?_take_of_lt hj]) (fun j oj hj => by have := (Array.getElem?_eq_some_iff.1 hj).1; simp at this; omega) (w0 := w.drew) (a0 := a) (Φ := Φ) (Q := Q) (P := P) (n := n) hB hmono (fun k o hkn hk => by
  have := netSteps_spec (l.take n) 0 hsteps k o (by rw [List.getElem?_take_of_lt hkn]; simpa using hk)
  rwa [Nat.zero_add] at this) (fun a' w' hg hdf hsz hkeep hok => ?_) n (Array.replicate l.toArray.size false) a w.drew
  ⟨by simp, fun j oj _ hl => (by rw [getD_replicate_false] at hl; cases hl), fun t _ ht => getD_in (by simpa using ht) (getD_replicate_false _ _)⟩ hu
  ⟨Gr.refl _, rfl, rfl, fun _ _ => rfl, fun k o d _ hl _ => by rw [getD_replicate_false] at hl; cases hl⟩
 ·rw [show n + (l.toArray.size - n) = l.toArray.size by simp; omega] at H
  exact H
 have e : a' = putAll a (fun d => a'.eval (.tmp d)) (l.take n) := by
  have h1 : a'.tmps = (putAll a (fun d => a'.eval (.tmp d)) (l.take n)).tmps := by
   apply Array.ext_getElem?
   intro d
   by_cases hd : d < a.tmps.size
   ·rw [putAll_get _ d (l.take n) a hd]
    by_cases hany : (l.take n).any (fun o => o.dst == some d) = true
    ·rw [if_pos hany]
     have hd' : d < a'.tmps.size := by omega
     simp [Act.eval, hd']
    ·rw [if_neg hany]
     refine hkeep d fun k o hkn hk he => hany ?_
     have hk' : (l.take n)[k]? = some o := by rw [List.getElem?_take_of_lt hkn]; simpa using hk
     exact List.any_eq_true.2 ⟨o, List.mem_of_getElem? hk', by simp [he]⟩
   ·rw [Array.getElem?_eq_none (by omega), Array.getElem?_eq_none (by rw [putAll_size]; omega)]
  have h2 : a'.defers = (putAll a (fun d => a'.eval (.tmp d)) (l.take n)).defers := by rw [putAll_defers]; exact hdf
  revert h1 h2
  generalize putAll a (fun d => a'.eval (.tmp d)) (l.take n) = b
  intro h1 h2
  cases a'; cases b
  simp at h1 h2
  simp [h1, h2]
 have hfin := hQ (fun d => a'.eval (.tmp d)) w' hg (fun k o d hkn hk hkd => hok k o d hkn (by simpa using hk) hkd)
 rw [← e] at hfin
 simpa using hfin
end
end Go.Proofs.Ytjoalcaooccbiaa
/- Late -/
namespace Go.Proofs.Ytjoalcaooccbiaa
open Go.RowKit
section
variable {P : Program} {ops : Array Oper}
def Oper.plainB (o : Oper) : Bool := o.guard.isNone && match o.op with | .move _ | .assign _ | .extract _ _ => true | _ => false
theorem plain_upon {o : Oper} (h : Oper.plainB o = true) (a : Act) {K : Act → World → Prop} {Q : Exit → Act → World → Prop} {w : World} (hw : o.wp P a w K Q ∨ (o.asks P a w ∧ LetsOut Q)) (hQ : ∀ a w, ¬ Q .outgrown a w) :
  ∃ v, (∀ w, (execOp a.eval o).run P w = .ok (.value v) w) ∧ K (a.put o.dst v) w := by
 rcases hw with hw | ⟨_, a', w', hq⟩
 ·unfold Oper.plainB at h
  simp only [Bool.and_eq_true] at h
  obtain ⟨_, h⟩ := h
  unfold Oper.wp at hw
  unfold execOp at hw ⊢
  split at h
  ·rename_i x ho
   simp only [ho, Sem.run_pure, Oper.upon] at hw ⊢
   exact ⟨_, fun _ => rfl, hw⟩
  ·rename_i x ho
   simp only [ho, Sem.run_pure, Oper.upon] at hw ⊢
   exact ⟨_, fun _ => rfl, hw⟩
  ·rename_i x i ho
   simp only [ho] at hw ⊢
   generalize a.eval x = t at *
   cases t <;> simp only [Instr.extract] at hw ⊢ <;> first | exact hw.elim | skip
   case tuple vs =>
    cases hv : vs[i]? with
    | none => rw [hv] at hw; exact hw.elim
    | some u => rw [hv] at hw; exact ⟨u, fun _ => rfl, hw⟩
  ·cases h
 ·exact absurd hq (hQ _ _)
def lateB (ops : Array Oper) : Bool :=
 Region.noSelect ops && (List.range ops.size).all fun i => match ops[i]? with
  | none => true
  | some oi => oi.after.all fun e => Region.binds .any e || !Region.binds .text e || (decide (e.on < i) && match ops[e.on]? with
    | none => false
    | some oj => Oper.plainB oj && oj.after.all (fun e' => !Region.binds .text e' || (Region.binds .any e' && oi.after.any fun e'' => Region.binds .any e'' && e''.on == e'.on)) &&
      (List.range ops.size).all fun k => k == e.on || oj.after.any (fun e' => Region.binds .any e' && e'.on == k) || (match ops[k]? with
       | some ok => ok.after.any (fun e'' => Region.binds .any e'' && e''.on == e.on) || oj.apart ops ok
       | none => true))
theorem any_text {e : Edge} (h : Region.binds .any e = true) : Region.binds .text e = true := by
 unfold Region.binds at *
 split <;> simp_all
theorem ready_any {listed : Array Bool} {i : Nat} (h : i ∈ Region.ready .text ops listed) : i ∈ Region.ready .any ops listed := by
 rw [mem_ready] at *
 obtain ⟨h0, o, ho, hall⟩ := h
 exact ⟨h0, o, ho, fun e he hb => hall e he (any_text hb)⟩
def onlyN (Q : Exit → Act → World → Prop) : Exit → Act → World → Prop := fun e a w => match e with | .normal => Q .normal a w | _ => False
theorem late_any {Q : Exit → Act → World → Prop} (hB : lateB ops = true) : ∀ (f : Nat) (listed : Array Bool) (a : Act) (w : World),
  wpAny P .text ops (onlyN Q) f listed a w → wpAny P .any ops (onlyN Q) f listed a w := by
 simp only [lateB, Bool.and_eq_true] at hB
 obtain ⟨hsel, hB⟩ := hB
 have key : ∀ (i : Nat) (listed : Array Bool), i ∈ Region.ready .any ops listed → i ∈ Region.ready .text ops listed ∨ ∃ j oj, ops[j]? = some oj ∧ Oper.plainB oj = true ∧ j ∈ Region.ready .text ops listed ∧
   ∀ k ok, ops[k]? = some ok → k ≠ j → listed.getD k true = false → (∀ e ∈ ok.after, Region.binds .any e = true → e.on ≠ j) → oj.apart ops ok = true := by
  intro i listed hi
  obtain ⟨h0, oi, hoi, hall⟩ := mem_ready.1 hi
  by_cases ht : i ∈ Region.ready .text ops listed
  ·exact .inl ht
  ·right
   have hex : ∃ e ∈ oi.after, Region.binds .text e = true ∧ listed.getD e.on false = false := by
    apply Classical.byContradiction
    intro hno
    refine ht (mem_ready.2 ⟨h0, oi, hoi, fun e he hb => ?_⟩)
    cases hl : listed.getD e.on false with
    | true => rfl
    | false => exact absurd ⟨e, he, hb, hl⟩ hno
   obtain ⟨e, he, hb, hl⟩ := hex
   have hna : Region.binds .any e = false := by
    cases hh : Region.binds .any e with
    | false => rfl
    | true => rw [hall e he hh] at hl; cases hl
   have h1 := List.all_eq_true.1 hB i (List.mem_range.2 (Array.getElem?_eq_some_iff.1 hoi).1)
   simp only [hoi] at h1
   have h2 := Array.all_eq_true'.1 h1 e he
   rw [hna, hb] at h2
   simp only [Bool.false_or, Bool.not_true, Bool.and_eq_true, decide_eq_true_eq] at h2
   obtain ⟨_, h2⟩ := h2
   cases hoj : ops[e.on]? with
   | none => rw [hoj] at h2; cases h2
   | some oj =>
    rw [hoj] at h2
    simp only [Bool.and_eq_true] at h2
    obtain ⟨⟨hp, hd⟩, hf⟩ := h2
    have hun : listed.getD e.on true = false := by
     have hlt := (Array.getElem?_eq_some_iff.1 hoj).1
     cases hq : listed[e.on]? with
     | none =>
      have hi' : listed.size ≤ e.on := by
       rcases Nat.lt_or_ge e.on listed.size with h | h
       ·rw [Array.getElem?_eq_getElem h] at hq; cases hq
       ·exact h
      -- i is listed there as well
      exfalso
      have : listed.getD i true = true := by
       have hi2 : ¬ i < listed.size ∨ i < listed.size := by omega
       rcases hi2 with h | h
       ·simp [Array.getElem?_eq_none (by omega : listed.size ≤ i)]
       ·have h3 := Array.all_eq_true'.1 h1 e he
        rw [hna, hb] at h3
        simp only [Bool.false_or, Bool.not_true, Bool.and_eq_true, decide_eq_true_eq] at h3
        omega
      rw [this] at h0; cases h0
     | some b =>
      simp only [Array.getD_eq_getD_getElem?, hq, Option.getD_some] at hl ⊢
      exact hl
    refine ⟨e.on, oj, hoj, hp, mem_ready.2 ⟨hun, oj, hoj, fun e' he' hb' => ?_⟩, fun k ok hk hkj hku hno => ?_⟩
    ·have h3 := Array.all_eq_true'.1 hd e' he'
     rw [hb'] at h3
     simp only [Bool.not_true, Bool.false_or, Bool.and_eq_true] at h3
     obtain ⟨e'', he'', h4⟩ := Array.any_eq_true'.1 h3.2
     simp only [Bool.and_eq_true, beq_iff_eq] at h4
     rw [← h4.2]
     exact hall e'' he'' h4.1
    ·have h3 := List.all_eq_true.1 hf k (List.mem_range.2 (Array.getElem?_eq_some_iff.1 hk).1)
     simp only [hk, Bool.or_eq_true, beq_iff_eq] at h3
     rcases h3 with (h3 | h3) | h3 | h3
     ·exact absurd h3 hkj
     ·exfalso
      obtain ⟨e', he', h4⟩ := Array.any_eq_true'.1 h3
      simp only [Bool.and_eq_true, beq_iff_eq] at h4
      have h5 := Array.all_eq_true'.1 hd e' he'
      rw [any_text h4.1] at h5
      simp only [Bool.not_true, Bool.false_or, Bool.and_eq_true] at h5
      obtain ⟨e'', he'', h6⟩ := Array.any_eq_true'.1 h5.2
      simp only [Bool.and_eq_true, beq_iff_eq] at h6
      have h7 := hall e'' he'' h6.1
      rw [h6.2, h4.2] at h7
      rw [getD_both hku] at h7
      cases h7
     ·obtain ⟨e'', he'', h4⟩ := Array.any_eq_true'.1 h3
      simp only [Bool.and_eq_true, beq_iff_eq] at h4
      exact absurd h4.2 (hno e'' he'' h4.1)
     ·exact h3
 intro f
 induction f with
 | zero =>
  intro listed a w ⟨hr, hq⟩
  refine ⟨?_, hq⟩
  cases hra : Region.ready .any ops listed with
  | nil => rfl
  | cons i l =>
   exfalso
   rcases key i listed (by rw [hra]; exact List.mem_cons_self ..) with h | ⟨j, oj, _, _, h, _⟩
   ·rw [hr] at h; cases h
   ·rw [hr] at h; cases h
 | succ f ih =>
  intro listed a w ⟨hr, hall⟩
  by_cases hlate : ∃ i, i ∈ Region.ready .any ops listed ∧ i ∉ Region.ready .text ops listed
  ·obtain ⟨i, hi, hni⟩ := hlate
   rcases key i listed hi with h | ⟨j, oj, hoj, hp, hjr, hfree⟩
   ·exact absurd h hni
   ·have h1 := hall j hjr
    have hwt : Region.wanted oj (yielded ops a.tmps) = true := by
     unfold Oper.plainB at hp
     simp only [Bool.and_eq_true, Option.isNone_iff_eq_none] at hp
     simp [Region.wanted, hp.1]
    unfold wpOp at h1
    simp only [hoj, hwt, if_true] at h1
    obtain ⟨v, hv, hk⟩ := plain_upon hp a h1 (fun _ _ h => h)
    exact wpAny_first hoj (Region.noSelect_spec hsel) (fun _ _ _ h => h.elim) f listed a w hfree (ready_any hjr) (.inl ⟨hwt, hv⟩) (ih _ _ _ hk)
  ·have hsame : ∀ i, i ∈ Region.ready .any ops listed → i ∈ Region.ready .text ops listed := fun i hi => by
    apply Classical.byContradiction
    intro h; exact hlate ⟨i, hi, h⟩
   refine ⟨fun h0 => hr ?_, fun i hi => wpOp_mono (fun a' w' h => ih _ _ _ h) (hall i (hsame i hi))⟩
   cases hrt : Region.ready .text ops listed with
   | nil => rfl
   | cons i l =>
    have : i ∈ Region.ready .any ops listed := ready_any (by rw [hrt]; exact List.mem_cons_self ..)
    rw [h0] at this; cases this
theorem onlyN_le {Q : Exit → Act → World → Prop} {e : Exit} {a : Act} {w : World} (h : onlyN Q e a w) : Q e a w := by
 cases e <;> first | exact h | exact h.elim
end
end Go.Proofs.Ytjoalcaooccbiaa
/- Sl -/
namespace Go.Proofs.Ytjoalcaooccbiaa
open Go.RowKit
structure Ent where
 b : Nat
 c : Array Value
 t : TypeId
def St (w0 : World) (M : List Ent) (w : World) : Prop := Gr w0 w ∧ (M.map Ent.b).Nodup ∧ ∀ e ∈ M, w0.heap.size ≤ e.b ∧ w.heap[e.b]? = some (.cells e.c e.t (0, 0))
theorem St.start (w : World) : St w [] w := ⟨Gr.refl _, List.nodup_nil, fun _ h => by cases h⟩
theorem St.gr {w0 w : World} {M : List Ent} (h : St w0 M w) : Gr w0 w := h.1
theorem St.grow {w0 w w' : World} {M : List Ent} (h : St w0 M w) (hg : Gr w w') : St w0 M w' :=
 ⟨gr_trans h.1 hg, h.2.1, fun e he => ⟨(h.2.2 e he).1, gr_block hg (h.2.2 e he).2⟩⟩
theorem St.drew {w0 w : World} {M : List Ent} (h : St w0 M w) : St w0 M w.drew := h.grow (Gr.drew (Gr.refl _))
theorem St.tail {w0 w : World} {e : Ent} {M : List Ent} (h : St w0 (e :: M) w) : St w0 M w :=
 ⟨h.1, (List.nodup_cons.1 h.2.1).2, fun x hx => h.2.2 x (List.mem_cons_of_mem _ hx)⟩
theorem St.sub {w0 w : World} {M M' : List Ent} (h : St w0 M w) (hs : M'.Sublist M) : St w0 M' w :=
 ⟨h.1, h.2.1.sublist (hs.map _), fun x hx => h.2.2 x (hs.subset hx)⟩
theorem St.fresh {w0 w : World} {M : List Ent} (h : St w0 M w) {e : Ent} (he : e ∈ M) : e.b < w.heap.size := (Array.getElem?_eq_some_iff.1 (h.2.2 e he).2).1
theorem St.alloc {w0 w : World} {M : List Ent} (h : St w0 M w) (c : Array Value) (t : TypeId) : St w0 (⟨w.heap.size, c, t⟩ :: M) (w.alloc (.cells c t)) := by
 have hg : Gr w (w.alloc (.cells c t)) := (Gr.refl w).alloc c t
 have h' := h.grow hg
 refine ⟨h'.1, List.nodup_cons.2 ⟨fun hm => ?_, h.2.1⟩, fun e he => ?_⟩
 ·obtain ⟨e, he, hb⟩ := List.mem_map.1 hm
  have := h.fresh he
  simp only at hb
  omega
 ·rcases List.mem_cons.1 he with rfl | he
  ·exact ⟨h.1.size, heap_alloc_new w _⟩
  ·exact h'.2.2 e he
inductive Has : List Ent → Nat → Array Value → TypeId → Prop where
 | hd {b : Nat} {c : Array Value} {t : TypeId} {M : List Ent} : Has (⟨b, c, t⟩ :: M) b c t
 | tl {e : Ent} {M : List Ent} {b : Nat} {c : Array Value} {t : TypeId} : Has M b c t → Has (e :: M) b c t
inductive Rep : List Ent → Nat → Array Value → TypeId → Array Value → List Ent → Prop where
 | hd {b : Nat} {c c' : Array Value} {t : TypeId} {M : List Ent} : Rep (⟨b, c, t⟩ :: M) b c t c' (⟨b, c', t⟩ :: M)
 | tl {e : Ent} {M M' : List Ent} {b : Nat} {c c' : Array Value} {t : TypeId} : Rep M b c t c' M' → Rep (e :: M) b c t c' (e :: M')
theorem Has.mem {M : List Ent} {b : Nat} {c : Array Value} {t : TypeId} (h : Has M b c t) : ⟨b, c, t⟩ ∈ M := by
 induction h with
 | hd => exact List.mem_cons_self ..
 | tl _ ih => exact List.mem_cons_of_mem _ ih
theorem Rep.has {M M' : List Ent} {b : Nat} {c c' : Array Value} {t : TypeId} (h : Rep M b c t c' M') : Has M b c t := by
 induction h with
 | hd => exact .hd
 | tl _ ih => exact .tl ih
theorem Rep.blocks {M M' : List Ent} {b : Nat} {c c' : Array Value} {t : TypeId} (h : Rep M b c t c' M') : M'.map Ent.b = M.map Ent.b := by
 induction h with
 | hd => rfl
 | tl _ ih => simp only [List.map_cons, ih]
theorem Rep.mem {M M' : List Ent} {b : Nat} {c c' : Array Value} {t : TypeId} (h : Rep M b c t c' M') (hn : (M.map Ent.b).Nodup) : ∀ e ∈ M', e = ⟨b, c', t⟩ ∨ (e ∈ M ∧ e.b ≠ b) := by
 induction h with
 | hd =>
  intro e he
  rcases List.mem_cons.1 he with rfl | he
  ·exact .inl rfl
  ·refine .inr ⟨List.mem_cons_of_mem _ he, fun hb => ?_⟩
   exact (List.nodup_cons.1 hn).1 (List.mem_map.2 ⟨e, he, hb⟩)
 | tl h ih =>
  intro e he
  rcases List.mem_cons.1 he with rfl | he
  ·refine .inr ⟨List.mem_cons_self .., fun hb => ?_⟩
   exact (List.nodup_cons.1 hn).1 (List.mem_map.2 ⟨_, h.has.mem, hb.symm⟩)
  ·rcases ih (List.nodup_cons.1 hn).2 e he with h | ⟨h, hb⟩
   ·exact .inl h
   ·exact .inr ⟨List.mem_cons_of_mem _ h, hb⟩
theorem St.row {w0 w : World} {M : List Ent} {b : Nat} {c : Array Value} {t : TypeId} (h : St w0 M w) (hm : Has M b c t) : w.heap[b]? = some (.cells c t (0, 0)) := (h.2.2 _ hm.mem).2
theorem St.base {w0 w : World} {M : List Ent} {b : Nat} {c : Array Value} {t : TypeId} (h : St w0 M w) (hm : Has M b c t) : w0.heap.size ≤ b := (h.2.2 _ hm.mem).1
theorem St.setRow {w0 w : World} {M M' : List Ent} {b : Nat} {c c' : Array Value} {t : TypeId} (h : St w0 M w) (hr : Rep M b c t c' M') : St w0 M' (w.setRow b c') := by
 refine ⟨gr_setRow h.1 (h.base hr.has) c', by rw [hr.blocks]; exact h.2.1, fun e he => ?_⟩
 rcases hr.mem h.2.1 e he with rfl | ⟨hm, hne⟩
 ·exact ⟨h.base hr.has, setRow_block (h.row hr.has)⟩
 ·exact ⟨(h.2.2 e hm).1, (setRow_block_other hne).trans (h.2.2 e hm).2⟩
theorem setCell_block {w : World} {b : Nat} {c : Array Value} {t : TypeId} {z : Nat × Nat} (h : w.heap[b]? = some (.cells c t z)) (j : Nat) (v : Value) : (w.setCell ⟨b, j, none⟩ v).heap[b]? = some (.cells (c.setIfInBounds j v) t z) := by
 simp [World.setCell, Array.getElem?_modify, h]
theorem setCell_block_other {w : World} {b i j : Nat} {v : Value} (h : i ≠ b) : (w.setCell ⟨b, j, none⟩ v).heap[i]? = w.heap[i]? := by
 simp only [World.setCell, Array.getElem?_modify]
 rw [if_neg (fun e => h e.symm)]
theorem St.setCell {w0 w : World} {M M' : List Ent} {b : Nat} {c : Array Value} {t : TypeId} (h : St w0 M w) (j : Nat) (v : Value) (hr : Rep M b c t (c.setIfInBounds j v) M') : St w0 M' (w.setCell ⟨b, j, none⟩ v) := by
 refine ⟨h.1.setCell (h.base hr.has) v, by rw [hr.blocks]; exact h.2.1, fun e he => ?_⟩
 rcases hr.mem h.2.1 e he with rfl | ⟨hm, hne⟩
 ·exact ⟨h.base hr.has, setCell_block (h.row hr.has) j v⟩
 ·exact ⟨(h.2.2 e hm).1, (setCell_block_other hne).trans (h.2.2 e hm).2⟩
theorem St.cell {w0 w : World} {M : List Ent} {b : Nat} {c : Array Value} {t : TypeId} (h : St w0 M w) (hm : Has M b c t) (j : Nat) : w.cell? ⟨b, j, none⟩ = c[j]? := by
 simp [World.cell?, h.row hm]
theorem St.thawed {w0 w : World} {M : List Ent} {b : Nat} {c : Array Value} {t : TypeId} (h : St w0 M w) (hm : Has M b c t) (j : Nat) : w.frozen? ⟨b, j, none⟩ = false := by
 simp [World.frozen?, h.row hm]
section
variable {P : Program} {ops : Array Oper} {Q : Exit → Act → World → Prop} {w0 w : World} {M M' : List Ent} {a : Act} {o : Oper} {rest : List Oper}
theorem sl_load (hS : St w0 M w) (hw : Region.wanted o (yielded ops a.tmps) = true) (ty : TypeId) (x : Operand) (ho : o.op = .load ty x) {b : Nat} (hx : a.eval x = .pointer (some ⟨b, 0, none⟩)) {c : Array Value} {t : TypeId} (hm : Has M b c t)
  {d : TypeDesc} (hu : P.underlying ty = some d) (hd : (match d with | .struct _ | .array _ _ => true | _ => false) = true) (hi : (P.info? ty).map (·.size) = some c.size)
  (h : wpList P ops Q rest (a.put o.dst (.agg c)) w) : wpList P ops Q (o :: rest) a w := by
 unfold wpList
 rw [if_pos hw]
 refine .inl ?_
 unfold Oper.wp execOp
 simp only [ho, hx, Instr.loadAt, Instr.sureAddr, Sem.run_bind, Sem.run_pure, Result.andThen_ok, run_loadVar_row w b t ty c (0, 0) d (hS.row hm) hu hd hi]
 exact h
theorem sl_store (hS : St w0 M w) (hgd : o.guard = none) (ty : TypeId) (x y : Operand) (ho : o.op = .store ty x y) {b : Nat} (hx : a.eval x = .pointer (some ⟨b, 0, none⟩)) {c' : Array Value} (hy : a.eval y = .agg c') {c : Array Value} {t : TypeId} (hr : Rep M b c t c' M')
  (hi : (P.info? ty).map (·.size) = some c'.size) (hz : c'.size = c.size) (h1 : c'.all (·.oneCell') = true)
  (h : ∀ w', St w0 M' w' → wpList P ops Q rest (a.put o.dst undef) w') : wpList P ops Q (o :: rest) a w :=
 wpList_store_row hgd ty x y ho b c' hx hy t c (hS.row hr.has) hi hz.symm h1 (h _ (hS.setRow hr))
theorem sl_box (hS : St w0 M w) (hgd : o.guard = none) (c : Array Value) (t : TypeId) (hrun : ∀ w : World, (execOp a.eval o).run P w = .ok (.value (.pointer (some ⟨w.heap.size, 0, none⟩))) (w.alloc (.cells c t)))
  (h : ∀ b w', St w0 (⟨b, c, t⟩ :: M) w' → wpList P ops Q rest (a.put o.dst (.pointer (some ⟨b, 0, none⟩))) w') : wpList P ops Q (o :: rest) a w :=
 wpList_plain hgd fun K hK => by
  unfold Oper.wp
  rw [hrun w]
  exact hK _ _ (h _ _ (hS.alloc c t))
theorem calls_gr {f : FuncId} {args : Array Value} {v : Value} (h : Calls P f args w fun e w' => e = .returned v ∧ w = w') : Calls P f args w fun e w' => e = .returned v ∧ Gr w w' :=
 h.mono fun _ _ ⟨h1, h2⟩ => ⟨h1, h2 ▸ Gr.refl _⟩
theorem sl_call (hS : St w0 M w) {f : FuncId} {args : Array Value} {v : Value} {R : Ending → World → Prop} (hc : Calls P f args w fun e w' => e = .returned v ∧ Gr w w') (h : ∀ w', St w0 M w' → R (.returned v) w') : Calls P f args w R :=
 hc.mono fun e w' ⟨he, hg⟩ => by subst he; exact h w' (hS.grow hg)
theorem sl_ret {fn : Func} {R : Ending → World → Prop} {p : Tmp} {ty : TypeId} {b : Nat} {c : Array Value} {t : TypeId} {d : TypeDesc} (hS : St w0 M w) (hr : fn.results = #[.cell p ty]) (hx : a.tmps.getD p undef = .pointer (some ⟨b, 0, none⟩)) (hm : Has M b c t)
  (hu : P.underlying ty = some d) (hd : (match d with | .struct _ | .array _ _ => true | _ => false) = true) (hi : (P.info? ty).map (·.size) = some c.size) (hdf : a.defers = []) (hR : R (.returned (.agg c)) w) : bodyPost P fn R .ret a w :=
 bodyPost_ret (results_cell_row hr a.tmps w b t c (0, 0) d hx (hS.row hm) hu hd hi) hdf hR
theorem results_cell_tmp {fn : Func} {p q : Tmp} {ty : TypeId} (h : fn.results = #[.cell p ty, .tmp q]) (tmps : Array Value) (w : World) (g : Nat) (t : TypeId) (cs : Array Value) (fr : Nat × Nat) (d : TypeDesc)
  (hp : tmps.getD p undef = .pointer (some ⟨g, 0, none⟩)) (hg : w.heap[g]? = some (.cells cs t fr))
  (hu : P.underlying ty = some d) (hd : (match d with | .struct _ | .array _ _ => true | _ => false) = true) (hi : (P.info? ty).map (·.size) = some cs.size) :
  (results fn tmps).run P w = .ok (.tuple #[.agg cs, tmps.getD q undef]) w := by
 have hp' : tmps[p]?.getD undef = .pointer (some ⟨g, 0, none⟩) := by simpa using hp
 simp [results, h, hp', asAddr, run_loadVar_row w g t ty cs fr d hg hu hd hi]
theorem sl_ret2 {fn : Func} {R : Ending → World → Prop} {p q : Tmp} {ty : TypeId} {b : Nat} {c : Array Value} {t : TypeId} {d : TypeDesc} (hS : St w0 M w) (hr : fn.results = #[.cell p ty, .tmp q]) (hx : a.tmps.getD p undef = .pointer (some ⟨b, 0, none⟩)) (hm : Has M b c t)
  (hu : P.underlying ty = some d) (hd : (match d with | .struct _ | .array _ _ => true | _ => false) = true) (hi : (P.info? ty).map (·.size) = some c.size) (hdf : a.defers = []) (hR : R (.returned (.tuple #[.agg c, a.tmps.getD q undef])) w) : bodyPost P fn R .ret a w :=
 bodyPost_ret (results_cell_tmp hr a.tmps w b t c (0, 0) d hx (hS.row hm) hu hd hi) hdf hR
end
end Go.Proofs.Ytjoalcaooccbiaa
/- Sd -/
namespace Go.Proofs.Ytjoalcaooccbiaa
open Go.RowKit
section
variable {P : Program} {ops : Array Oper} {md : Region.Mode} {w0 : World} {M : List Ent}
def upR (P : Program) (v : Value) (w : World) : Result Next → Prop
 | .ok (.value u) w' => v = u ∧ Gr w w'
 | .ok .skip w' => v = undef ∧ Gr w w'
 | .ok (.enter f args) w' => Calls P f args w' (fun e w'' => e = .returned v ∧ Gr w w'')
 | _ => False
theorem upR_value (v u : Value) (w w' : World) : upR P v w (.ok (.value u) w') = (v = u ∧ Gr w w') := rfl
theorem upR_skip (v : Value) (w w' : World) : upR P v w (.ok .skip w') = (v = undef ∧ Gr w w') := rfl
theorem upR_enter (v : Value) (w w' : World) (f : FuncId) (args : Array Value) : upR P v w (.ok (.enter f args) w') = Calls P f args w' (fun e w'' => e = .returned v ∧ Gr w w'') := rfl
def StdM (P : Program) (w0 : World) (M : List Ent) (o : Oper) (a : Act) (v : Value) : Prop := ∀ w, St w0 M w → upR P v w ((execOp a.eval o).run P w)
def YldM (P : Program) (ops : Array Oper) (w0 : World) (M : List Ent) (o : Oper) (v : Value) (a : Act) : Prop :=
 (Region.wanted o (yielded ops a.tmps) = true ∧ StdM P w0 M o a v) ∨ (Region.wanted o (yielded ops a.tmps) = false ∧ v = undef)
theorem YldM.of_same {o : Oper} {v : Value} {a a' : Act} (hy : YldM P ops w0 M o v a) (he : execOp a'.eval o = execOp a.eval o)
  (hw : Region.wanted o (yielded ops a'.tmps) = Region.wanted o (yielded ops a.tmps)) : YldM P ops w0 M o v a' := by
 unfold YldM StdM at *
 rw [he, hw]
 exact hy
def Cls (w0 : World) (M : List Ent) (c : Array Value) (t : TypeId) : Option Nat → World → Prop
 | none, w => St w0 M w
 | some b, w => St w0 (⟨b, c, t⟩ :: M) w
theorem Cls.st {c : Array Value} {t : TypeId} {ob : Option Nat} {w : World} (h : Cls w0 M c t ob w) : St w0 M w := by
 cases ob with
 | none => exact h
 | some b => exact St.tail h
theorem Cls.grow {c : Array Value} {t : TypeId} {ob : Option Nat} {w w' : World} (h : Cls w0 M c t ob w) (hg : Gr w w') : Cls w0 M c t ob w' := by
 cases ob with
 | none => exact St.grow h hg
 | some b => exact St.grow (M := ⟨b, c, t⟩ :: M) h hg
def ptr (b : Nat) : Value := .pointer (some ⟨b, 0, none⟩)
def LaysAt (P : Program) (ops : Array Oper) (p : Nat) (c : Array Value) (t : TypeId) : Prop :=
 ∀ o, ops[p]? = some o → o.guard = none ∧ ∀ (a : Act) (w : World), (execOp a.eval o).run P w = .ok (.value (ptr w.heap.size)) (w.alloc (.cells c t))
def stA (P : Program) (ops : Array Oper) (w0 : World) (M : List Ent) (p : Nat) (i : Nat) (K : Option Nat → Act → Prop) (ob : Option Nat) (a : Act) : Prop :=
 match ops[i]? with
 | none => K ob a
 | some o => if i = p then ob = none ∧ ∀ b, K (some b) (a.put o.dst (ptr b)) else ∃ v, YldM P ops w0 M o v a ∧ K ob (a.put o.dst v)
theorem stA_mono {p i : Nat} {ob : Option Nat} {a : Act} {K K' : Option Nat → Act → Prop} (h : ∀ ob a, K ob a → K' ob a) (hh : stA P ops w0 M p i K ob a) : stA P ops w0 M p i K' ob a := by
 unfold stA at *
 split
 ·exact h _ _ (by simpa [*] using hh)
 ·rename_i o ho
  simp only [ho] at hh
  split
  ·rename_i hp
   rw [if_pos hp] at hh
   exact ⟨hh.1, fun b => h _ _ (hh.2 b)⟩
  ·rename_i hp
   rw [if_neg hp] at hh
   obtain ⟨v, hy, hk⟩ := hh
   exact ⟨v, hy, h _ _ hk⟩
theorem wpOp_of_stA {p : Nat} {c : Array Value} {t : TypeId} (hl : LaysAt P ops p c t) {i : Nat} {ob : Option Nat} {a : Act} {K : Option Nat → Act → Prop} {K' : Act → World → Prop} {Q' : Exit → Act → World → Prop}
  (h : ∀ ob a w, Cls w0 M c t ob w → K ob a → K' a w) (hh : stA P ops w0 M p i K ob a) {w : World} (hw : Cls w0 M c t ob w) : wpOp P ops Q' i K' a w := by
 unfold stA at hh
 unfold wpOp
 split
 ·rename_i ho; simp only [ho] at hh; exact h _ _ _ hw hh
 ·rename_i o ho
  simp only [ho] at hh
  by_cases hp : i = p
  ·rw [if_pos hp] at hh
   obtain ⟨rfl, hh⟩ := hh
   subst hp
   obtain ⟨hg, hrun⟩ := hl o ho
   rw [if_pos (by simp [Region.wanted, hg])]
   left
   unfold Oper.wp
   rw [hrun a w]
   exact h (some w.heap.size) _ _ (St.alloc hw c t) (hh _)
  ·rw [if_neg hp] at hh
   obtain ⟨v, hy, hk⟩ := hh
   rcases hy with ⟨hwt, hs⟩ | ⟨hwt, rfl⟩
   ·rw [if_pos hwt]
    left
    have hr := hs w hw.st
    unfold Oper.wp
    generalize (execOp a.eval o).run P w = r at *
    cases r with
    | ok n w' =>
     cases n <;> simp only [upR] at hr <;> simp only [Oper.upon]
     case value u => obtain ⟨rfl, hg⟩ := hr; exact h _ _ _ (hw.grow hg) hk
     case skip => obtain ⟨rfl, hg⟩ := hr; exact h _ _ _ (hw.grow hg) hk
     case enter f args => exact hr.mono fun e w'' ⟨he, hg⟩ => by subst he; exact h _ _ _ (hw.grow hg) hk
    | halt x w' => simp only [upR] at hr
   ·rw [if_neg (by rw [hwt]; decide)]
    exact h _ _ _ hw hk
theorem stA_put {p j : Nat} {oi oj : Oper} {v : Value} {ob : Option Nat} (hj : ops[j]? = some oj) (hap : oi.apart ops oj = true)
  (hsi : ∀ cs b, oi.op ≠ .select cs b) (hsj : ∀ cs b, oj.op ≠ .select cs b) {K : Option Nat → Act → Prop} {a : Act}
  (hy : YldM P ops w0 M oi v a) (h : stA P ops w0 M p j K ob (a.put oi.dst v)) :
  stA P ops w0 M p j (fun ob' a' => YldM P ops w0 M oi v a' ∧ K ob' (a'.put oi.dst v)) ob a := by
 obtain ⟨h1, h2, h3⟩ := Oper.apart_spec hap
 unfold stA at *
 simp only [hj] at *
 by_cases hp : j = p
 ·rw [if_pos hp] at h ⊢
  refine ⟨h.1, fun b => ⟨hy.of_same (execOp_put oi hsi a oj.dst (ptr b) h3) (wanted_put oi a oj.dst (ptr b) h3), ?_⟩⟩
  rw [← Act.put_comm a v (ptr b) h2]
  exact h.2 b
 ·rw [if_neg hp] at h ⊢
  obtain ⟨u, hyu, hk⟩ := h
  refine ⟨u, ?_, hy.of_same (execOp_put oi hsi a oj.dst u h3) (wanted_put oi a oj.dst u h3), by rw [← Act.put_comm a v u h2]; exact hk⟩
  exact hyu.of_same (execOp_put oj hsj a oi.dst v h1).symm (wanted_put oj a oi.dst v h1).symm
def wpAnyA (P : Program) (md : Region.Mode) (ops : Array Oper) (w0 : World) (M : List Ent) (p n : Nat) (L : Array Bool → Option Nat → Act → Prop) : Nat → Array Bool → Option Nat → Act → Prop
 | 0, listed, ob, a => L listed ob a
 | f + 1, listed, ob, a =>
  Region.ready md ops listed ≠ [] ∧ ∀ i ∈ Region.ready md ops listed, i < n ∧ stA P ops w0 M p i (wpAnyA P md ops w0 M p n L f (listed.setIfInBounds i true)) ob a
theorem wpAny_of_headA {p n g : Nat} {c : Array Value} {t : TypeId} (hl : LaysAt P ops p c t) {L : Array Bool → Option Nat → Act → Prop} {Q' : Exit → Act → World → Prop}
  (hL : ∀ listed ob a w, Cls w0 M c t ob w → L listed ob a → wpAny P md ops Q' g listed a w) :
  ∀ (f : Nat) (listed : Array Bool) (ob : Option Nat) (a : Act) (w : World), Cls w0 M c t ob w → wpAnyA P md ops w0 M p n L f listed ob a → wpAny P md ops Q' (f + g) listed a w
 | 0, listed, ob, a, w, hw, h => by rw [Nat.zero_add]; exact hL _ _ _ _ hw h
 | f + 1, listed, ob, a, w, hw, h => by
  rw [show f + 1 + g = (f + g) + 1 by omega]
  exact ⟨fun h0 => absurd h0 h.1, fun i hi => wpOp_of_stA hl (fun ob' a' w' hw' h' => wpAny_of_headA hl hL f _ ob' a' w' hw' h') (h.2 i hi).2 hw⟩
theorem wpAnyA_first {p n i : Nat} {oi : Oper} {v : Value} {L : Array Bool → Option Nat → Act → Prop} (hi : ops[i]? = some oi) (hip : i ≠ p) (hsel : ∀ (j : Nat) (o : Oper) cs b, ops[j]? = some o → o.op ≠ .select cs b)
  (hin : i < n) (htw : ∀ listed i, HeadInv md ops n listed → i < n → listed.getD i true = false → ∀ t, n ≤ t → t ∉ Region.ready md ops listed)
  (hdone : ∀ listed ob a, L listed ob a → ∀ j ∈ Region.ready md ops listed, n ≤ j) :
  ∀ (f : Nat) (listed : Array Bool) (ob : Option Nat) (a : Act), HeadInv md ops n listed →
   (∀ j oj, ops[j]? = some oj → j ≠ i → listed.getD j true = false → (∀ e ∈ oj.after, Region.binds md e = true → e.on ≠ i) → oi.apart ops oj = true) →
   i ∈ Region.ready md ops listed → YldM P ops w0 M oi v a →
   wpAnyA P md ops w0 M p n L f (listed.setIfInBounds i true) ob (a.put oi.dst v) → wpAnyA P md ops w0 M p n L (f + 1) listed ob a := by
 intro f
 induction f with
 | zero =>
  intro listed ob a inv _ hr hy H
  have hun := (mem_ready.1 hr).1
  refine ⟨fun h => (by rw [h] at hr; cases hr), fun j hj => ?_⟩
  have hjn : j < n := by
   rcases Nat.lt_or_ge j n with h | h
   ·exact h
   ·exact absurd hj (htw _ i inv hin hun j h)
  refine ⟨hjn, ?_⟩
  by_cases hji : j = i
  ·subst hji
   unfold stA; rw [hi]; simp only []; rw [if_neg hip]; exact ⟨v, hy, H⟩
  ·have := hdone _ _ _ H j (ready_mono hj hji)
   omega
 | succ f ih =>
  intro listed ob a inv hfree hr hy H
  have hun := (mem_ready.1 hr).1
  refine ⟨fun h => (by rw [h] at hr; cases hr), fun j hj => ?_⟩
  have hjn : j < n := by
   rcases Nat.lt_or_ge j n with h | h
   ·exact h
   ·exact absurd hj (htw _ i inv hin hun j h)
  refine ⟨hjn, ?_⟩
  by_cases hji : j = i
  ·subst hji
   unfold stA; rw [hi]; simp only []; rw [if_neg hip]; exact ⟨v, hy, H⟩
  ·have h1 := (H.2 j (ready_mono hj hji)).2
   obtain ⟨hjun, oj, hoj, hall⟩ := mem_ready.1 hj
   have hnot : ∀ e ∈ oj.after, Region.binds md e = true → e.on ≠ i := fun e he hb heq => by
    have h1 := hall e he hb
    rw [heq, getD_both hun] at h1
    cases h1
   have h2 := stA_put hoj (hfree j oj hoj hji hjun hnot) (fun cs b => hsel i oi cs b hi) (fun cs b => hsel j oj cs b hoj) hy h1
   have hfree' : ∀ k ok, ops[k]? = some ok → k ≠ i → (listed.setIfInBounds j true).getD k true = false →
     (∀ e ∈ ok.after, Region.binds md e = true → e.on ≠ i) → oi.apart ops ok = true := fun k ok hk hki hun hno => by
    refine hfree k ok hk hki ?_ hno
    by_cases hjk : j = k
    ·subst hjk; exact hjun
    ·rw [getD_set_ne true hjk] at hun; exact hun
   refine stA_mono (fun ob' a' h3 => ih (listed.setIfInBounds j true) ob' a' (inv.set hj hjn) hfree' (ready_mono hr (Ne.symm hji)) h3.1 ?_) h2
   rw [Array.setIfInBounds_comm _ _ hji]
   exact h3.2
def wpStdM (P : Program) (ops : Array Oper) (w0 : World) (M : List Ent) (Q : Act → Prop) : List Oper → Act → Prop
 | [], a => Q a
 | o :: rest, a => ∃ v, YldM P ops w0 M o v a ∧ wpStdM P ops w0 M Q rest (a.put o.dst v)
theorem wpAnyA_lex {p n m : Nat} {Lq : Array Bool → Option Nat → Act → Prop} {Kq : Act → Prop} (hsel : Region.noSelect ops = true) (hpm : m ≤ p) (hmn : m ≤ n) (htw : ∀ listed i, HeadInv md ops n listed → i < n → listed.getD i true = false → ∀ t, n ≤ t → t ∉ Region.ready md ops listed)
  (hdone : ∀ listed ob a, Lq listed ob a → ∀ j ∈ Region.ready md ops listed, n ≤ j) (g : Nat)
  (h : Nat) (hend : ∀ listed a, HeadInv md ops n listed → Kq a → Region.seqB md ops h m listed = true → wpAnyA P md ops w0 M p n Lq g listed none a) :
  ∀ (l : List Oper) (k : Nat) (listed : Array Bool) (a : Act), (∀ j, j < l.length → l[j]? = ops[k + j]?) → k + l.length = m → HeadInv md ops n listed →
  Region.lexHead md ops h l.length k listed = true → wpStdM P ops w0 M Kq l a →
  wpAnyA P md ops w0 M p n Lq (l.length + g) listed none a
 | [], k, listed, a, _, hk, inv, hB, hq => by
  have : k = m := by simpa using hk
  subst this
  simp only [List.length_nil, Nat.zero_add]
  exact hend listed a inv hq hB
 | o :: l, k, listed, a, hl, hk, inv, hB, hq => by
  have h0 : ops[k]? = some o := by simpa using (hl 0 (by simp)).symm
  simp only [List.length_cons, Region.lexHead, Bool.and_eq_true] at hB
  obtain ⟨⟨hr, hf⟩, hB'⟩ := hB
  have hkm : k < m := by simp only [List.length_cons] at hk; omega
  have hr' : k ∈ Region.ready md ops listed := by simpa using hr
  obtain ⟨v, hy, hK⟩ := hq
  rw [List.length_cons, show l.length + 1 + g = (l.length + g) + 1 by omega]
  exact wpAnyA_first h0 (by omega) (Region.noSelect_spec hsel) (by omega) htw hdone (l.length + g) listed none a inv (Region.free_spec h0 hf) hr' hy
   (wpAnyA_lex hsel hpm hmn htw hdone g h hend l (k + 1) _ _ (fun j hj => by have := hl (j + 1) (by simp; omega); simpa [Nat.add_assoc, Nat.add_comm 1 j] using this) (by simp only [List.length_cons] at hk; omega) (inv.set hr' (by omega)) hB' hK)
def fstStore : List Oper → Nat
 | [] => 0
 | o :: l => match o.op with
  | .store _ _ _ => 0
  | _ => fstStore l + 1
theorem sd_all {id : Nat} {Q : Exit → Act → World → Prop} {a : Act} {w : World} {l : List Oper} (hS : St w0 M w) (hm : P.follows .mixedOrders = true) (hB : lexAllB .any l.toArray = true)
  (h : wpStdM P l.toArray w0 M (fun a' => ∀ w', St w0 M w' → Q .normal a' w') l a) : (Code.region id l.toArray true).wp P Q a w := by
 simp only [lexAllB, Bool.and_eq_true] at hB
 have inv0 : HeadInv .any l.toArray l.toArray.size (Array.replicate l.toArray.size false) :=
  ⟨by simp, fun j oj _ hl => (by rw [getD_replicate_false] at hl; cases hl), fun t _ ht => getD_in (by simpa using ht) (getD_replicate_false _ _)⟩
 have H := wpAnyA_lex (md := .any) (p := l.toArray.size) (n := l.toArray.size) (m := l.toArray.size) (Lq := fun listed' ob' a' => ob' = none ∧ Region.ready .any l.toArray listed' = [] ∧ ∀ w', St w0 M w' → Q .normal a' w') hB.1 (Nat.le_refl _) (Nat.le_refl _)
  (fun listed i inv hi hun t ht hr => by
   obtain ⟨_, ot, hot, _⟩ := mem_ready.1 hr
   have := (Array.getElem?_eq_some_iff.1 hot).1
   omega) (fun listed ob a ⟨_, h, _⟩ j hj => by rw [h] at hj; cases hj) 0 0 (fun listed a inv hq hB => ⟨rfl, (by
    apply List.eq_nil_iff_forall_not_mem.2
    intro j hj
    have hjs : j < l.toArray.size := by
     obtain ⟨_, ot, hot, _⟩ := mem_ready.1 hj
     exact (Array.getElem?_eq_some_iff.1 hot).1
    have := seqB_ready hB j hj
    omega), hq⟩) l 0 _ a (fun j _ => by simp) (by simp) inv0 (by simpa using hB.2) h
 refine wp_region_any hm ?_
 have := wpAny_of_headA (P := P) (md := .any) (ops := l.toArray) (w0 := w0) (M := M) (p := l.toArray.size) (n := l.toArray.size) (c := #[]) (t := 0) (Q' := Q) (g := 0) (fun o ho => by simp at ho) (fun listed ob a' w' hw hL => by
  obtain ⟨rfl, h1, h2⟩ := hL
  exact ⟨h1, h2 _ hw⟩) _ _ none _ w.drew hS.drew H
 simpa using this
theorem wpAny_le {Q Q' : Exit → Act → World → Prop} (hq : ∀ e a w, Q e a w → Q' e a w) : ∀ (f : Nat) (listed : Array Bool) (a : Act) (w : World), wpAny P md ops Q f listed a w → wpAny P md ops Q' f listed a w
 | 0, listed, a, w, h => ⟨h.1, hq _ _ _ h.2⟩
 | f + 1, listed, a, w, h => by
  refine ⟨fun h0 => hq _ _ _ (h.1 h0), fun i hi => ?_⟩
  have h1 := h.2 i hi
  have ih := fun a w => wpAny_le hq f (listed.setIfInBounds i true) a w
  unfold wpOp at *
  split
  ·rename_i ho; simp only [ho] at h1; exact ih _ _ h1
  ·rename_i o ho
   simp only [ho] at h1
   split
   ·rename_i hw
    rw [if_pos hw] at h1
    rcases h1 with h1 | ⟨h1, a', w', h2⟩
    ·left
     unfold Oper.wp at *
     generalize (execOp a.eval o).run P w = r at *
     cases r with
     | ok n w' =>
      cases n <;> simp only [Oper.upon] at h1 ⊢
      case value u => exact ih _ _ h1
      case skip => exact ih _ _ h1
      case defer d => exact ih _ _ h1
      case enter f' args =>
       refine Calls.mono h1 fun e w'' he => ?_
       cases e with
       | returned u => exact ih _ _ he
       | panicked c => exact hq _ _ _ he
       | outgrown => obtain ⟨a', w', h2⟩ := he; exact ⟨a', w', hq _ _ _ h2⟩
      case row row args => exact Rows.mono h1 fun u w'' he => ih _ _ he
     | halt x w' =>
      cases x <;> simp only [Oper.upon] at h1 ⊢
      case panic u => exact hq _ _ _ h1
    ·exact .inr ⟨h1, a', w', hq _ _ _ h2⟩
   ·rename_i hw
    rw [if_neg hw] at h1
    exact ih _ _ h1
theorem onlyN_end {Q : Exit → Act → World → Prop} {a : Act} {w : World} (h : Q .normal a w) : wpList P ops (onlyN Q) [] a w := h
theorem onlyN_now {Q : Exit → Act → World → Prop} {a : Act} {w : World} (h : Q .normal a w) : onlyN Q .normal a w := h
def sdTailB (ops : Array Oper) (m n : Nat) : Bool :=
 lateB ops && Region.noSelect ops && decide (n < ops.size) && Region.sinkB .text ops n && Region.chainB .text ops n && Region.lexHead .text ops (ops.size - m) m 0 (Array.replicate ops.size false)
theorem text_inv0 (ops : Array Oper) (n : Nat) : HeadInv .text ops n (Array.replicate ops.size false) :=
 ⟨by simp, fun j oj _ hl => (by rw [getD_replicate_false] at hl; cases hl), fun t _ ht => getD_in (by simpa using ht) (getD_replicate_false _ _)⟩
theorem sd_tail {id : Nat} {Q : Exit → Act → World → Prop} {a : Act} {w : World} {l : List Oper} (n : Nat) (hS : St w0 M w) (hm : P.follows .mixedOrders = true) (hB : sdTailB l.toArray n n = true)
  (h : wpStdM P l.toArray w0 M (fun a' => ∀ w', St w0 M w' → wpList P l.toArray (onlyN Q) (l.drop n) a' w') (l.take n) a) : (Code.region id l.toArray true).wp P Q a w := by
 simp only [sdTailB, Bool.and_eq_true, decide_eq_true_eq] at hB
 obtain ⟨⟨⟨⟨⟨hlate, hsel⟩, hn⟩, hs⟩, hc⟩, hlex⟩ := hB
 have hn' : n < l.length := by simpa using hn
 have htl : (l.take n).length = n := by simp; omega
 have hdl : (l.drop n).length = l.toArray.size - n := by simp
 have H := wpAnyA_lex (md := .text) (p := l.toArray.size) (n := n) (m := n) (P := P) (w0 := w0) (M := M) (Lq := fun listed' ob' a' => ob' = none ∧ Region.seqB .text l.toArray (l.toArray.size - n) n listed' = true ∧ ∀ w', St w0 M w' → wpList P l.toArray (onlyN Q) (l.drop n) a' w') hsel (Nat.le_of_lt hn) (Nat.le_refl _)
  (fun listed i inv hi hun t ht => tail_waits hs hc hn inv _ i rfl hi hun t ht) (fun listed ob a ⟨_, h, _⟩ j hj => seqB_ready h j hj) 0 (l.toArray.size - n) (fun listed a inv hq hB => ⟨rfl, hB, hq⟩) (l.take n) 0 _ a (fun j hj => by
    have hj' : j < n := by rw [htl] at hj; exact hj
    simp [hj']) (by simpa using htl) (text_inv0 _ _) (by rw [htl]; exact hlex) h
 refine wp_region_any hm ?_
 have h2 := wpAny_of_headA (P := P) (md := .text) (ops := l.toArray) (w0 := w0) (M := M) (p := l.toArray.size) (n := n) (c := #[]) (t := 0) (Q' := onlyN Q) (g := l.toArray.size - n) (fun o ho => by simp at ho) (fun listed ob a' w' hw hL => by
  obtain ⟨rfl, h1, h2⟩ := hL
  have := wpAny_of_seq (md := .text) (Q' := onlyN Q) (l.drop n) n listed a' w' (fun j => by simp [List.getElem?_drop]) (by rw [hdl]; exact h1) (h2 _ hw)
  rwa [hdl] at this) _ _ none _ w.drew hS.drew H
 rw [htl, Nat.add_zero, show n + (l.toArray.size - n) = l.toArray.size by omega] at h2
 exact wpAny_le (fun _ _ _ h => onlyN_le h) _ _ _ _ (late_any hlate _ _ _ _ h2)
theorem sd_alloc {id : Nat} {Q : Exit → Act → World → Prop} {a : Act} {w : World} {l : List Oper} (p : Nat) (c : Array Value) (t : TypeId) (d : Tmp) (hS : St w0 M w) (hm : P.follows .mixedOrders = true) (hB : sdTailB l.toArray p (p + 1) = true)
  (hl : LaysAt P l.toArray p c t) (hd : (l[p]?).bind (·.dst) = some d)
  (h : wpStdM P l.toArray w0 M (fun a' => ∀ b w', St w0 (⟨b, c, t⟩ :: M) w' → wpList P l.toArray (onlyN Q) (l.drop (p + 1)) (a'.put (some d) (.pointer (some ⟨b, 0, none⟩))) w') (l.take p) a) : (Code.region id l.toArray true).wp P Q a w := by
 simp only [sdTailB, Bool.and_eq_true, decide_eq_true_eq] at hB
 obtain ⟨⟨⟨⟨⟨hlate, hsel⟩, hn⟩, hs⟩, hc⟩, hlex⟩ := hB
 have hn' : p + 1 < l.length := by simpa using hn
 have htl : (l.take p).length = p := by simp; omega
 have hdl : (l.drop (p + 1)).length = l.toArray.size - (p + 1) := by simp
 have hg : l.toArray.size - p = (l.toArray.size - (p + 1)) + 1 := by omega
 obtain ⟨o, ho⟩ : ∃ o, l[p]? = some o := ⟨l[p], List.getElem?_eq_getElem (by omega)⟩
 have ho' : l.toArray[p]? = some o := by simpa using ho
 have hod : o.dst = some d := by rw [ho] at hd; simpa using hd
 have H := wpAnyA_lex (md := .text) (p := p) (n := p + 1) (m := p) (P := P) (w0 := w0) (M := M) (Lq := fun listed' ob' a' => Region.seqB .text l.toArray (l.toArray.size - (p + 1)) (p + 1) listed' = true ∧ ∃ b, ob' = some b ∧ ∀ w', St w0 (⟨b, c, t⟩ :: M) w' → wpList P l.toArray (onlyN Q) (l.drop (p + 1)) a' w') hsel (Nat.le_refl _) (Nat.le_succ _)
  (fun listed i inv hi hun t ht => tail_waits hs hc hn inv _ i rfl hi hun t ht) (fun listed ob a ⟨h, _⟩ j hj => seqB_ready h j hj) 1 (l.toArray.size - p) (fun listed a inv hq hB => by
   rw [hg] at hB
   simp only [Region.seqB, Bool.and_eq_true, decide_eq_true_eq] at hB
   refine ⟨by rw [hB.1]; simp, fun i hi => ?_⟩
   rw [hB.1] at hi
   obtain rfl : i = p := by simpa using hi
   refine ⟨Nat.lt_succ_self _, ?_⟩
   unfold stA
   simp only [ho', if_true]
   exact ⟨trivial, fun b => ⟨hB.2, b, rfl, by rw [hod]; exact hq b⟩⟩) (l.take p) 0 _ a (fun j hj => by
    have hj' : j < p := by rw [htl] at hj; exact hj
    simp [hj']) (by simpa using htl) (text_inv0 _ _) (by rw [htl]; exact hlex) h
 refine wp_region_any hm ?_
 have h2 := wpAny_of_headA (P := P) (md := .text) (ops := l.toArray) (w0 := w0) (M := M) (p := p) (n := p + 1) (c := c) (t := t) (Q' := onlyN Q) (g := l.toArray.size - (p + 1)) hl (fun listed ob a' w' hw hL => by
  obtain ⟨h1, b, rfl, h2⟩ := hL
  have := wpAny_of_seq (md := .text) (Q' := onlyN Q) (l.drop (p + 1)) (p + 1) listed a' w' (fun j => by simp [List.getElem?_drop]) (by rw [hdl]; exact h1) (h2 _ hw)
  rwa [hdl] at this) _ _ none _ w.drew hS.drew H
 rw [htl, show p + 1 + (l.toArray.size - (p + 1)) = l.toArray.size by omega] at h2
 exact wpAny_le (fun _ _ _ h => onlyN_le h) _ _ _ _ (late_any hlate _ _ _ _ h2)
variable {Q : Act → Prop} {a : Act} {o : Oper} {rest : List Oper}
theorem sd_nil (h : Q a) : wpStdM P ops w0 M Q [] a := h
theorem sd_step (h : ∀ K : Act → Prop, (∀ a, wpStdM P ops w0 M Q rest a → K a) → ∃ v, YldM P ops w0 M o v a ∧ K (a.put o.dst v)) : wpStdM P ops w0 M Q (o :: rest) a :=
 h _ (fun _ h => h)
theorem sd_op {K : Act → Prop} (hgd : o.guard = none) {v : Value} (hs : StdM P w0 M o a v) (h : K (a.put o.dst v)) : ∃ v, YldM P ops w0 M o v a ∧ K (a.put o.dst v) :=
 ⟨v, .inl ⟨by simp [Region.wanted, hgd], hs⟩, h⟩
theorem sd_yes {K : Act → Prop} (hw : Region.wanted o (yielded ops a.tmps) = true) {v : Value} (hs : StdM P w0 M o a v) (h : K (a.put o.dst v)) : ∃ v, YldM P ops w0 M o v a ∧ K (a.put o.dst v) :=
 ⟨v, .inl ⟨hw, hs⟩, h⟩
theorem sd_no {K : Act → Prop} (hw : Region.wanted o (yielded ops a.tmps) = false) (h : K (a.put o.dst undef)) : ∃ v, YldM P ops w0 M o v a ∧ K (a.put o.dst v) :=
 ⟨undef, .inr ⟨hw, rfl⟩, h⟩
theorem sd_enter {f : FuncId} {args : Array Value} {v : Value} {w : World} (h : Calls P f args w (fun e w'' => e = .returned v ∧ Gr w w'')) : upR P v w (.ok (.enter f args) w) := h
theorem sd_load {K : Act → Prop} (hw : Region.wanted o (yielded ops a.tmps) = true) (ty : TypeId) (x : Operand) (ho : o.op = .load ty x) {b : Nat} (hx : a.eval x = .pointer (some ⟨b, 0, none⟩)) {c : Array Value} {t : TypeId} (hm : Has M b c t)
  {d : TypeDesc} (hu : P.underlying ty = some d) (hd : (match d with | .struct _ | .array _ _ => true | _ => false) = true) (hi : (P.info? ty).map (·.size) = some c.size)
  (h : K (a.put o.dst (.agg c))) : ∃ v, YldM P ops w0 M o v a ∧ K (a.put o.dst v) :=
 sd_yes hw (v := .agg c) (fun w hS => by
  unfold execOp
  simp only [ho, hx, Instr.loadAt, Instr.sureAddr, Sem.run_bind, Sem.run_pure, Result.andThen_ok, run_loadVar_row w b t ty c (0, 0) d (hS.row hm) hu hd hi]
  exact ⟨rfl, Gr.refl _⟩) h
end
end Go.Proofs.Ytjoalcaooccbiaa
/- Sm -/
namespace Go.Proofs.Ytjoalcaooccbiaa
open Go.RowKit
section
variable {P : Program}
theorem calls_det {f : FuncId} {args : Array Value} {w : World} {u v : Value} (hi : P.inits.idxOf? f = none)
  (h1 : Calls P f args w fun e w' => e = .returned u ∧ Gr w w') (h2 : Calls P f args w fun e w' => e = .returned v ∧ Gr w w') : u = v := by
 have d1 := Calls.done (R := fun x _ => x = u) (h1.mono fun e w' ⟨he, _⟩ => by subst he; rfl) hi
 have d2 := Calls.done (R := fun x _ => x = v) (h2.mono fun e w' ⟨he, _⟩ => by subst he; rfl) hi
 obtain ⟨n1, v1, w1, r1, rfl⟩ := d1
 obtain ⟨n2, v2, w2, r2, rfl⟩ := d2
 have key : ∀ (a b : Nat) (x y : Value) (s t : World), a ≤ b → runN P a (lone (Frame.enter P f args .normal) [] w) = .ended (.done x) s → runN P b (lone (Frame.enter P f args .normal) [] w) = .ended (.done y) t → x = y := by
  intro a b x y s t hab ha hb
  obtain ⟨c, rfl⟩ := Nat.exists_eq_add_of_le hab
  rw [runN_add, ha] at hb
  simp at hb
  exact hb.1
 rcases Nat.le_total n1 n2 with h | h
 ·exact key n1 n2 _ _ _ _ h r1 r2
 ·exact (key n2 n1 _ _ _ _ h r2 r1).symm
structure LayT where
 at_ : Nat → Value
 c : Array Value
 t : TypeId
variable {ops : Array Oper} {md : Region.Mode} {w0 : World} {M : List Ent} {lay : Nat → Option LayT}
def upI (P : Program) (v : Value) (w : World) : Result Next → Prop
 | .ok (.value u) w' => v = u ∧ Gr w w'
 | .ok .skip w' => v = undef ∧ Gr w w'
 | .ok (.enter f args) w' => P.inits.idxOf? f = none ∧ Calls P f args w' (fun e w'' => e = .returned v ∧ Gr w' w'') ∧ Gr w w'
 | _ => False
theorem upI_value (v u : Value) (w w' : World) : upI P v w (.ok (.value u) w') = (v = u ∧ Gr w w') := rfl
theorem upI_skip (v : Value) (w w' : World) : upI P v w (.ok .skip w') = (v = undef ∧ Gr w w') := rfl
def StdI (P : Program) (w0 : World) (M : List Ent) (o : Oper) (a : Act) (v : Value) : Prop := ∀ w, St w0 M w → upI P v w ((execOp a.eval o).run P w)
def YldI (P : Program) (ops : Array Oper) (w0 : World) (M : List Ent) (o : Oper) (v : Value) (a : Act) : Prop :=
 (Region.wanted o (yielded ops a.tmps) = true ∧ StdI P w0 M o a v) ∨ (Region.wanted o (yielded ops a.tmps) = false ∧ v = undef)
def ancB (md : Region.Mode) (ops : Array Oper) : Nat → Nat → Nat → Bool
 | 0, _, _ => false
 | f + 1, i, j => match ops[i]? with
  | some o => o.after.any fun e => Region.binds md e && (e.on == j || ancB md ops f e.on j)
  | none => false
theorem anc_listed {n : Nat} {listed : Array Bool} (inv : HeadInv md ops n listed) : ∀ (f i j : Nat), ancB md ops f i j = true → listed.getD i false = true → listed.getD j false = true
 | 0, _, _, h, _ => by cases h
 | f + 1, i, j, h, hl => by
  unfold ancB at h
  cases hi : ops[i]? with
  | none => rw [hi] at h; cases h
  | some o =>
   rw [hi] at h
   obtain ⟨e, he, hb⟩ := Array.any_eq_true'.1 h
   simp only [Bool.and_eq_true, Bool.or_eq_true, beq_iff_eq] at hb
   have h1 := inv.closed i o hi hl e he hb.1
   rcases hb.2 with h2 | h2
   ·rw [← h2]; exact h1
   ·exact anc_listed inv f _ _ h2 h1
theorem anc_ready {n : Nat} {listed : Array Bool} (inv : HeadInv md ops n listed) {f i j : Nat} (h : ancB md ops f i j = true) (hr : i ∈ Region.ready md ops listed) : listed.getD j false = true := by
 obtain ⟨_, oi, hoi, hall⟩ := mem_ready.1 hr
 cases f with
 | zero => cases h
 | succ f =>
  unfold ancB at h
  rw [hoi] at h
  obtain ⟨e, he, hb⟩ := Array.any_eq_true'.1 h
  simp only [Bool.and_eq_true, Bool.or_eq_true, beq_iff_eq] at hb
  have h1 := hall e he hb.1
  rcases hb.2 with h2 | h2
  ·rw [← h2]; exact h1
  ·exact anc_listed inv f _ _ h2 h1
def rowsOf (lay : Nat → Option LayT) (β : Nat → Nat) (js : List Nat) : List Ent := js.filterMap fun j => (lay j).map fun y => ⟨β j, y.c, y.t⟩
def YB (P : Program) (md : Region.Mode) (ops : Array Oper) (w0 : World) (M : List Ent) (lay : Nat → Option LayT) (β : Nat → Nat) (i : Nat) (o : Oper) (v : Value) (a : Act) : Prop :=
 match lay i with
 | some y => Region.wanted o (yielded ops a.tmps) = true ∧ (∀ w : World, (execOp a.eval o).run P w = .ok (.value (y.at_ w.heap.size)) (w.alloc (.cells y.c y.t))) ∧ v = y.at_ (β i)
 | none => ∃ needs : List Nat, needs.Nodup ∧ (∀ j ∈ needs, ancB md ops ops.size i j = true) ∧ YldI P ops w0 (rowsOf lay β needs ++ M) o v a
theorem YB.of_same {β : Nat → Nat} {i : Nat} {o : Oper} {v : Value} {a a' : Act} (hy : YB P md ops w0 M lay β i o v a) (he : execOp a'.eval o = execOp a.eval o)
  (hw : Region.wanted o (yielded ops a'.tmps) = Region.wanted o (yielded ops a.tmps)) : YB P md ops w0 M lay β i o v a' := by
 unfold YB YldI StdI at *
 rw [he, hw]
 exact hy
def stB (P : Program) (md : Region.Mode) (ops : Array Oper) (w0 : World) (M : List Ent) (lay : Nat → Option LayT) (β : Nat → Nat) (i : Nat) (K : Act → Prop) (a : Act) : Prop :=
 match ops[i]? with
 | none => K a
 | some o => ∃ v, YB P md ops w0 M lay β i o v a ∧ K (a.put o.dst v)
theorem stB_mono {β : Nat → Nat} {i : Nat} {a : Act} {K K' : Act → Prop} (h : ∀ a, K a → K' a) (hh : stB P md ops w0 M lay β i K a) : stB P md ops w0 M lay β i K' a := by
 unfold stB at *
 split
 ·exact h _ (by simpa [*] using hh)
 ·rename_i o ho
  simp only [ho] at hh
  obtain ⟨v, hy, hk⟩ := hh
  exact ⟨v, hy, h _ hk⟩
theorem stB_put {β : Nat → Nat} {i j : Nat} {oi oj : Oper} {v : Value} (hj : ops[j]? = some oj) (hap : oi.apart ops oj = true)
  (hsi : ∀ cs b, oi.op ≠ .select cs b) (hsj : ∀ cs b, oj.op ≠ .select cs b) {K : Act → Prop} {a : Act}
  (hy : YB P md ops w0 M lay β i oi v a) (h : stB P md ops w0 M lay β j K (a.put oi.dst v)) :
  stB P md ops w0 M lay β j (fun a' => YB P md ops w0 M lay β i oi v a' ∧ K (a'.put oi.dst v)) a := by
 obtain ⟨h1, h2, h3⟩ := Oper.apart_spec hap
 unfold stB at *
 simp only [hj] at *
 obtain ⟨u, hyu, hk⟩ := h
 refine ⟨u, ?_, hy.of_same (execOp_put oi hsi a oj.dst u h3) (wanted_put oi a oj.dst u h3), by rw [← Act.put_comm a v u h2]; exact hk⟩
 exact hyu.of_same (execOp_put oj hsj a oi.dst v h1).symm (wanted_put oj a oi.dst v h1).symm
def wpB (P : Program) (md : Region.Mode) (ops : Array Oper) (w0 : World) (M : List Ent) (lay : Nat → Option LayT) (n : Nat) (β : Nat → Nat) (L : Array Bool → Act → Prop) : Nat → Array Bool → Act → Prop
 | 0, listed, a => L listed a
 | f + 1, listed, a => Region.ready md ops listed ≠ [] ∧ ∀ i ∈ Region.ready md ops listed, i < n ∧ stB P md ops w0 M lay β i (wpB P md ops w0 M lay n β L f (listed.setIfInBounds i true)) a
theorem wpB_first {β : Nat → Nat} {n i : Nat} {oi : Oper} {v : Value} {L : Array Bool → Act → Prop} (hi : ops[i]? = some oi) (hsel : ∀ (j : Nat) (o : Oper) cs b, ops[j]? = some o → o.op ≠ .select cs b)
  (hin : i < n) (htw : ∀ listed i, HeadInv md ops n listed → i < n → listed.getD i true = false → ∀ t, n ≤ t → t ∉ Region.ready md ops listed)
  (hdone : ∀ listed a, L listed a → ∀ j ∈ Region.ready md ops listed, n ≤ j) :
  ∀ (f : Nat) (listed : Array Bool) (a : Act), HeadInv md ops n listed →
   (∀ j oj, ops[j]? = some oj → j ≠ i → listed.getD j true = false → (∀ e ∈ oj.after, Region.binds md e = true → e.on ≠ i) → oi.apart ops oj = true) →
   i ∈ Region.ready md ops listed → YB P md ops w0 M lay β i oi v a →
   wpB P md ops w0 M lay n β L f (listed.setIfInBounds i true) (a.put oi.dst v) → wpB P md ops w0 M lay n β L (f + 1) listed a := by
 intro f
 induction f with
 | zero =>
  intro listed a inv _ hr hy H
  have hun := (mem_ready.1 hr).1
  refine ⟨fun h => (by rw [h] at hr; cases hr), fun j hj => ?_⟩
  have hjn : j < n := by
   rcases Nat.lt_or_ge j n with h | h
   ·exact h
   ·exact absurd hj (htw _ i inv hin hun j h)
  refine ⟨hjn, ?_⟩
  by_cases hji : j = i
  ·subst hji
   unfold stB; rw [hi]; exact ⟨v, hy, H⟩
  ·have := hdone _ _ H j (ready_mono hj hji)
   omega
 | succ f ih =>
  intro listed a inv hfree hr hy H
  have hun := (mem_ready.1 hr).1
  refine ⟨fun h => (by rw [h] at hr; cases hr), fun j hj => ?_⟩
  have hjn : j < n := by
   rcases Nat.lt_or_ge j n with h | h
   ·exact h
   ·exact absurd hj (htw _ i inv hin hun j h)
  refine ⟨hjn, ?_⟩
  by_cases hji : j = i
  ·subst hji
   unfold stB; rw [hi]; exact ⟨v, hy, H⟩
  ·have h1 := (H.2 j (ready_mono hj hji)).2
   obtain ⟨hjun, oj, hoj, hall⟩ := mem_ready.1 hj
   have hnot : ∀ e ∈ oj.after, Region.binds md e = true → e.on ≠ i := fun e he hb heq => by
    have h1 := hall e he hb
    rw [heq, getD_both hun] at h1
    cases h1
   have h2 := stB_put hoj (hfree j oj hoj hji hjun hnot) (fun cs b => hsel i oi cs b hi) (fun cs b => hsel j oj cs b hoj) hy h1
   have hfree' : ∀ k ok, ops[k]? = some ok → k ≠ i → (listed.setIfInBounds j true).getD k true = false →
     (∀ e ∈ ok.after, Region.binds md e = true → e.on ≠ i) → oi.apart ops ok = true := fun k ok hk hki hun hno => by
    refine hfree k ok hk hki ?_ hno
    by_cases hjk : j = k
    ·subst hjk; exact hjun
    ·rw [getD_set_ne true hjk] at hun; exact hun
   refine stB_mono (fun a' h3 => ih (listed.setIfInBounds j true) a' (inv.set hj hjn) hfree' (ready_mono hr (Ne.symm hji)) h3.1 ?_) h2
   rw [Array.setIfInBounds_comm _ _ hji]
   exact h3.2
def wpTxt (P : Program) (md : Region.Mode) (ops : Array Oper) (w0 : World) (M : List Ent) (lay : Nat → Option LayT) (β : Nat → Nat) (Q : Act → Prop) : Nat → List Oper → Act → Prop
 | _, [], a => Q a
 | i, o :: rest, a => ∃ v, YB P md ops w0 M lay β i o v a ∧ wpTxt P md ops w0 M lay β Q (i + 1) rest (a.put o.dst v)
theorem wpB_lex {β : Nat → Nat} {n : Nat} {Lq : Array Bool → Act → Prop} {Kq : Act → Prop} (hsel : Region.noSelect ops = true) (htw : ∀ listed i, HeadInv md ops n listed → i < n → listed.getD i true = false → ∀ t, n ≤ t → t ∉ Region.ready md ops listed)
  (hdone : ∀ listed a, Lq listed a → ∀ j ∈ Region.ready md ops listed, n ≤ j) (hn : n ≤ ops.size)
  (h : Nat) (hend : ∀ listed a, HeadInv md ops n listed → Kq a → (∀ j, j < n → listed.getD j false = true) → Region.seqB md ops h n listed = true → Lq listed a) :
  ∀ (l : List Oper) (k : Nat) (listed : Array Bool) (a : Act), (∀ j, j < l.length → l[j]? = ops[k + j]?) → k + l.length = n → HeadInv md ops n listed → (∀ j, j < k → listed.getD j false = true) →
  Region.lexHead md ops h l.length k listed = true → wpTxt P md ops w0 M lay β Kq k l a →
  wpB P md ops w0 M lay n β Lq l.length listed a
 | [], k, listed, a, _, hk, inv, hdn, hB, hq => by
  have : k = n := by simpa using hk
  subst this
  exact hend listed a inv hq hdn hB
 | o :: l, k, listed, a, hl, hk, inv, hdn, hB, hq => by
  have h0 : ops[k]? = some o := by simpa using (hl 0 (by simp)).symm
  simp only [List.length_cons, Region.lexHead, Bool.and_eq_true] at hB
  obtain ⟨⟨hr, hf⟩, hB'⟩ := hB
  have hkm : k < n := by simp only [List.length_cons] at hk; omega
  have hr' : k ∈ Region.ready md ops listed := by simpa using hr
  obtain ⟨v, hy, hK⟩ := hq
  exact wpB_first h0 (Region.noSelect_spec hsel) (by omega) htw hdone l.length listed a inv (Region.free_spec h0 hf) hr' hy
   (wpB_lex hsel htw hdone hn h hend l (k + 1) _ _ (fun j hj => by have := hl (j + 1) (by simp; omega); simpa [Nat.add_assoc, Nat.add_comm 1 j] using this) (by simp only [List.length_cons] at hk; omega) (inv.set hr' (by omega)) (fun j hj => by
    by_cases hjk : j = k
    ·subst hjk
     have : j < listed.size := by rw [inv.size]; omega
     simp [this]
    ·exact getD_set_true (hdn j (by omega))) hB' hK)
structure ClsM (w0 : World) (M : List Ent) (lay : Nat → Option LayT) (listed : Array Bool) (obs : Nat → Option Nat) (w : World) : Prop where
 st : St w0 M w
 has : ∀ j b, obs j = some b → ∃ y, lay j = some y ∧ w0.heap.size ≤ b ∧ w.heap[b]? = some (.cells y.c y.t (0, 0)) ∧ ∀ e ∈ M, e.b ≠ b
 inj : ∀ j j' b, obs j = some b → obs j' = some b → j = j'
 done : ∀ j, listed.getD j false = true → (lay j).isSome = true → (obs j).isSome = true
 only : ∀ j b, obs j = some b → listed.getD j false = true
def Con (obs : Nat → Option Nat) (β : Nat → Nat) : Prop := ∀ j b, obs j = some b → β j = b
theorem ClsM.rows {listed : Array Bool} {obs : Nat → Option Nat} {w : World} (h : ClsM w0 M lay listed obs w) {β : Nat → Nat} (hc : Con obs β) (js : List Nat) (hn : js.Nodup) (hl : ∀ j ∈ js, listed.getD j false = true) : St w0 (rowsOf lay β js ++ M) w := by
 have hrow : ∀ j ∈ js, ∀ y, lay j = some y → obs j = some (β j) := fun j hj y hy => by
  have h1 := h.done j (hl j hj) (by rw [hy]; rfl)
  cases ho : obs j with
  | none => rw [ho] at h1; cases h1
  | some b => rw [hc j b ho]
 have hmem : ∀ e ∈ rowsOf lay β js, ∃ j ∈ js, ∃ y, lay j = some y ∧ e = ⟨β j, y.c, y.t⟩ := fun e he => by
  obtain ⟨j, hj, h1⟩ := List.mem_filterMap.1 he
  cases hy : lay j with
  | none => rw [hy] at h1; cases h1
  | some y => rw [hy] at h1; exact ⟨j, hj, y, hy, by simpa using h1.symm⟩
 refine ⟨h.st.1, ?_, fun e he => ?_⟩
 ·rw [List.map_append, List.nodup_append]
  refine ⟨?_, h.st.2.1, fun b hb b' hb' hbb => ?_⟩
  ·clear hmem hl
   induction js with
   | nil => exact List.nodup_nil
   | cons j js ih =>
    obtain ⟨hnj, hns⟩ := List.nodup_cons.1 hn
    have ih' := ih hns (fun k hk => hrow k (List.mem_cons_of_mem _ hk))
    unfold rowsOf at *
    cases hy : lay j with
    | none => simp only [List.filterMap_cons, hy, Option.map_none]; exact ih'
    | some y =>
     simp only [List.filterMap_cons, hy, Option.map_some, List.map_cons]
     refine List.nodup_cons.2 ⟨fun hm => ?_, ih'⟩
     obtain ⟨e, he, hb⟩ := List.mem_map.1 hm
     obtain ⟨k, hk, h1⟩ := List.mem_filterMap.1 he
     cases hyk : lay k with
     | none => rw [hyk] at h1; cases h1
     | some z =>
      rw [hyk] at h1
      have h2 : e = ⟨β k, z.c, z.t⟩ := by simpa using h1.symm
      rw [h2] at hb
      have e1 := hrow j (List.mem_cons_self ..) y hy
      have e2 := hrow k (List.mem_cons_of_mem _ hk) z hyk
      simp only at hb
      rw [hb] at e2
      exact hnj (h.inj _ _ _ e1 e2 ▸ hk)
  ·obtain ⟨e, he, rfl⟩ := List.mem_map.1 hb
   obtain ⟨e', he', rfl⟩ := List.mem_map.1 hb'
   obtain ⟨j, hj, y, hy, rfl⟩ := hmem e he
   obtain ⟨y', _, _, _, h4⟩ := h.has j _ (hrow j hj y hy)
   exact h4 e' he' hbb.symm
 ·rcases List.mem_append.1 he with he | he
  ·obtain ⟨j, hj, y, hy, rfl⟩ := hmem e he
   obtain ⟨y', hy', h2, h3, _⟩ := h.has j _ (hrow j hj y hy)
   rw [hy] at hy'
   cases hy'
   exact ⟨h2, h3⟩
  ·exact h.st.2.2 e he
theorem ClsM.grow {listed : Array Bool} {obs : Nat → Option Nat} {w w' : World} (h : ClsM w0 M lay listed obs w) (hg : Gr w w') : ClsM w0 M lay listed obs w' :=
 ⟨h.st.grow hg, fun j b hb => by
  obtain ⟨y, h1, h2, h3, h4⟩ := h.has j b hb
  exact ⟨y, h1, h2, gr_block hg h3, h4⟩, h.inj, h.done, h.only⟩
theorem ClsM.list {listed : Array Bool} {obs : Nat → Option Nat} {w : World} (h : ClsM w0 M lay listed obs w) {i : Nat} (hi : lay i = none) : ClsM w0 M lay (listed.setIfInBounds i true) obs w :=
 ⟨h.st, h.has, h.inj, fun j hl hy => by
  by_cases hij : i = j
  ·subst hij; rw [hi] at hy; cases hy
  ·rw [getD_set_ne false hij] at hl; exact h.done j hl hy, fun j b hb => getD_set_true (h.only j b hb)⟩
theorem any_of_B {n g : Nat} {L : (Nat → Nat) → Array Bool → Act → Prop} {Q' : Exit → Act → World → Prop} (hns : n ≤ ops.size)
  (hL : ∀ listed obs a w, ClsM w0 M lay listed obs w → (∀ β, Con obs β → L β listed a) → wpAny P md ops Q' g listed a w) :
  ∀ (f : Nat) (listed : Array Bool) (obs : Nat → Option Nat) (a : Act) (w : World), HeadInv md ops n listed → ClsM w0 M lay listed obs w → (∀ β, Con obs β → wpB P md ops w0 M lay n β (L β) f listed a) → wpAny P md ops Q' (f + g) listed a w
 | 0, listed, obs, a, w, _, hw, h => by rw [Nat.zero_add]; exact hL _ _ _ _ hw h
 | f + 1, listed, obs, a, w, inv, hw, h => by
  rw [show f + 1 + g = (f + g) + 1 by omega]
  have hβ : Con obs (fun j => (obs j).getD 0) := fun j b hb => by simp [hb]
  refine ⟨fun h0 => absurd h0 (h _ hβ).1, fun i hi => ?_⟩
  have hin := ((h _ hβ).2 i hi).1
  have hst : ∀ β, Con obs β → stB P md ops w0 M lay β i (wpB P md ops w0 M lay n β (L β) f (listed.setIfInBounds i true)) a := fun β hc => ((h β hc).2 i hi).2
  obtain ⟨hiun, o, ho, hall⟩ := mem_ready.1 hi
  have hilt : i < listed.size := by rw [inv.size]; omega
  have inv' := inv.set hi hin
  unfold wpOp
  simp only [ho]
  unfold stB at hst
  simp only [ho] at hst
  cases hy : lay i with
  | some y =>
   have hst' : ∀ β, Con obs β → Region.wanted o (yielded ops a.tmps) = true ∧ (∀ w : World, (execOp a.eval o).run P w = .ok (.value (y.at_ w.heap.size)) (w.alloc (.cells y.c y.t))) ∧ wpB P md ops w0 M lay n β (L β) f (listed.setIfInBounds i true) (a.put o.dst (y.at_ (β i))) := fun β hc => by
    obtain ⟨v, hyb, hk⟩ := hst β hc
    unfold YB at hyb
    rw [hy] at hyb
    obtain ⟨h1, h2, rfl⟩ := hyb
    exact ⟨h1, h2, hk⟩
   obtain ⟨hg, hrun, _⟩ := hst' _ hβ
   rw [if_pos hg]
   left
   unfold Oper.wp
   rw [hrun w]
   have hob : obs i = none := by
    cases ho : obs i with
    | none => rfl
    | some b => have := hw.only i b ho; rw [getD_both hiun] at this; cases this
   have hfresh : ∀ j b, obs j = some b → b < w.heap.size := fun j b hb => by
    obtain ⟨y', _, _, h3, _⟩ := hw.has j b hb
    exact (Array.getElem?_eq_some_iff.1 h3).1
   have hgr : Gr w (w.alloc (.cells y.c y.t)) := (Gr.refl w).alloc _ _
   refine any_of_B hns hL f (listed.setIfInBounds i true) (fun j => if j = i then some w.heap.size else obs j) _ _ inv' ⟨hw.st.grow hgr, fun j b hb => ?_, fun j j' b hb hb' => ?_, fun j hl hj => ?_, fun j b hb => ?_⟩ (fun β hc => ?_)
   ·by_cases hji : j = i
    ·rw [if_pos hji] at hb
     cases hb
     subst hji
     exact ⟨y, hy, hw.st.1.size, heap_alloc_new w _, fun e he => Nat.ne_of_lt (hw.st.fresh he)⟩
    ·rw [if_neg hji] at hb
     obtain ⟨y', h1, h2, h3, h4⟩ := hw.has j b hb
     exact ⟨y', h1, h2, gr_block hgr h3, h4⟩
   ·by_cases hji : j = i <;> by_cases hji' : j' = i
    ·rw [hji, hji']
    ·rw [if_pos hji] at hb; rw [if_neg hji'] at hb'
     cases hb
     have := hfresh _ _ hb'; omega
    ·rw [if_neg hji] at hb; rw [if_pos hji'] at hb'
     cases hb'
     have := hfresh _ _ hb; omega
    ·rw [if_neg hji] at hb; rw [if_neg hji'] at hb'
     exact hw.inj _ _ _ hb hb'
   ·by_cases hji : j = i
    ·simp [hji]
    ·rw [if_neg hji]
     rw [getD_set_ne false (Ne.symm hji)] at hl
     exact hw.done j hl hj
   ·by_cases hji : j = i
    ·subst hji; simp [hilt]
    ·rw [if_neg hji] at hb; exact getD_set_true (hw.only j b hb)
   ·have hc' : Con obs β := fun j b hb => hc j b (by
     have hji : j ≠ i := fun e => by rw [e, hob] at hb; cases hb
     simp only []; rw [if_neg hji]; exact hb)
    have := (hst' β hc').2.2
    rw [hc i w.heap.size (by simp)] at this
    exact this
  | none =>
   have hst' : ∀ β, Con obs β → ∃ v, ((Region.wanted o (yielded ops a.tmps) = true ∧ upI P v w ((execOp a.eval o).run P w)) ∨ (Region.wanted o (yielded ops a.tmps) = false ∧ v = undef)) ∧ wpB P md ops w0 M lay n β (L β) f (listed.setIfInBounds i true) (a.put o.dst v) := fun β hc => by
    obtain ⟨v, hyb, hk⟩ := hst β hc
    unfold YB at hyb
    rw [hy] at hyb
    obtain ⟨needs, hnd, hanc, hyi⟩ := hyb
    refine ⟨v, ?_, hk⟩
    rcases hyi with ⟨h1, h2⟩ | h1
    ·exact .inl ⟨h1, h2 w (hw.rows hc needs hnd fun j hj => anc_ready inv (hanc j hj) hi)⟩
    ·exact .inr h1
   have hw' := hw.list (i := i) hy
   obtain ⟨v, hv, _⟩ := hst' _ hβ
   rcases hv with ⟨hwt, hup⟩ | ⟨hwt, rfl⟩
   ·rw [if_pos hwt]
    left
    unfold Oper.wp
    have hall' : ∀ β, Con obs β → ∃ v, upI P v w ((execOp a.eval o).run P w) ∧ wpB P md ops w0 M lay n β (L β) f (listed.setIfInBounds i true) (a.put o.dst v) := fun β hc => by
     obtain ⟨v, hv, hk⟩ := hst' β hc
     rcases hv with ⟨_, h2⟩ | ⟨h1, _⟩
     ·exact ⟨v, h2, hk⟩
     ·rw [hwt] at h1; cases h1
    generalize (execOp a.eval o).run P w = r at *
    cases r with
    | ok nx w' =>
     cases nx <;> simp only [upI] at hup hall' <;> simp only [Oper.upon]
     case value u =>
      exact any_of_B hns hL f _ obs _ _ inv' (hw'.grow hup.2) fun β hc => by
       obtain ⟨v', ⟨rfl, _⟩, hk⟩ := hall' β hc
       exact hk
     case skip =>
      exact any_of_B hns hL f _ obs _ _ inv' (hw'.grow hup.2) fun β hc => by
       obtain ⟨v', ⟨rfl, _⟩, hk⟩ := hall' β hc
       exact hk
     case enter fn args =>
      refine hup.2.1.mono fun e w'' ⟨he, hg⟩ => ?_
      subst he
      exact any_of_B hns hL f _ obs _ _ inv' ((hw'.grow hup.2.2).grow hg) fun β hc => by
       obtain ⟨v', ⟨h1, h2, _⟩, hk⟩ := hall' β hc
       rw [calls_det h1 hup.2.1 h2]
       exact hk
    | halt x w' => simp only [upI] at hup
   ·rw [if_neg (by rw [hwt]; decide)]
    exact any_of_B hns hL f _ obs _ _ inv' hw' fun β hc => by
     obtain ⟨v', hv', hk⟩ := hst' β hc
     rcases hv' with ⟨h1, _⟩ | ⟨_, rfl⟩
     ·rw [hwt] at h1; cases h1
     ·exact hk
def layL (ls : List (Nat × LayT)) (i : Nat) : Option LayT := ls.lookup i
def smB (ops : Array Oper) (n : Nat) (js : List Nat) : Bool :=
 lateB ops && Region.noSelect ops && decide (n < ops.size) && Region.sinkB .text ops n && Region.chainB .text ops n && Region.lexHead .text ops (ops.size - n) n 0 (Array.replicate ops.size false) && decide js.Nodup && js.all (fun j => decide (j < n))
def smAllB (ops : Array Oper) (js : List Nat) : Bool :=
 lateB ops && Region.noSelect ops && Region.lexHead .text ops 0 ops.size 0 (Array.replicate ops.size false) && decide js.Nodup && js.all (fun j => decide (j < ops.size))
theorem cls0 {w : World} (hS : St w0 M w) (k : Nat) : ClsM w0 M lay (Array.replicate k false) (fun _ => none) w :=
 ⟨hS, fun _ _ h => (by cases h), fun _ _ _ h => (by cases h), fun j h _ => (by rw [getD_replicate_false] at h; cases h), fun _ _ h => (by cases h)⟩
theorem sm_tail {id : Nat} {Q : Exit → Act → World → Prop} {a : Act} {w : World} {l : List Oper} (n : Nat) (ls : List (Nat × LayT)) (hS : St w0 M w) (hm : P.follows .mixedOrders = true) (hB : smB l.toArray n (ls.map (·.1)) = true)
  (h : ∀ β : Nat → Nat, wpTxt P .text l.toArray w0 M (layL ls) β (fun a' => ∀ w', St w0 (rowsOf (layL ls) β (ls.map (·.1)) ++ M) w' → wpList P l.toArray (onlyN Q) (l.drop n) a' w') 0 (l.take n) a) : (Code.region id l.toArray true).wp P Q a w := by
 simp only [smB, Bool.and_eq_true, decide_eq_true_eq] at hB
 obtain ⟨⟨⟨⟨⟨⟨⟨hlate, hsel⟩, hn⟩, hs⟩, hc⟩, hlex⟩, hnd⟩, hjn⟩ := hB
 have hn' : n < l.length := by simpa using hn
 have htl : (l.take n).length = n := by simp; omega
 have hdl : (l.drop n).length = l.toArray.size - n := by simp
 have htw := fun (listed : Array Bool) (i : Nat) (inv : HeadInv .text l.toArray n listed) (hi : i < n) (hun : listed.getD i true = false) (t : Nat) (ht : n ≤ t) => tail_waits hs hc hn inv _ i rfl hi hun t ht
 have H := fun β => wpB_lex (md := .text) (n := n) (P := P) (w0 := w0) (M := M) (lay := layL ls) (β := β)
  (Lq := fun listed' a' => Region.seqB .text l.toArray (l.toArray.size - n) n listed' = true ∧ (∀ j, j < n → listed'.getD j false = true) ∧ ∀ w', St w0 (rowsOf (layL ls) β (ls.map (·.1)) ++ M) w' → wpList P l.toArray (onlyN Q) (l.drop n) a' w') hsel htw
  (fun listed a ⟨h, _⟩ j hj => seqB_ready h j hj) (Nat.le_of_lt hn) (l.toArray.size - n) (fun listed a inv hq hdn hB => ⟨hB, hdn, hq⟩) (l.take n) 0 _ a (fun j hj => by
    have hj' : j < n := by rw [htl] at hj; exact hj
    simp [hj']) (by simpa using htl) (text_inv0 _ _) (fun j hj => by omega) (by rw [htl]; exact hlex) (h β)
 refine wp_region_any hm ?_
 have h2 := any_of_B (P := P) (md := .text) (ops := l.toArray) (w0 := w0) (M := M) (lay := layL ls) (n := n) (g := l.toArray.size - n) (Q' := onlyN Q)
  (L := fun β listed' a' => Region.seqB .text l.toArray (l.toArray.size - n) n listed' = true ∧ (∀ j, j < n → listed'.getD j false = true) ∧ ∀ w', St w0 (rowsOf (layL ls) β (ls.map (·.1)) ++ M) w' → wpList P l.toArray (onlyN Q) (l.drop n) a' w') (Nat.le_of_lt hn)
  (fun listed obs a' w' hw hL => by
   have hβ : Con obs (fun j => (obs j).getD 0) := fun j b hb => by simp [hb]
   obtain ⟨h1, h3, h4⟩ := hL _ hβ
   have := wpAny_of_seq (md := .text) (Q' := onlyN Q) (l.drop n) n listed a' w' (fun j => by simp [List.getElem?_drop]) (by rw [hdl]; exact h1) (h4 _ (hw.rows hβ _ hnd fun j hj => h3 j (by simpa using List.all_eq_true.1 hjn j hj)))
   rwa [hdl] at this) (l.take n).length _ (fun _ => none) a w.drew (text_inv0 _ _) (cls0 hS.drew _) (fun β _ => H β)
 rw [htl, show n + (l.toArray.size - n) = l.toArray.size by omega] at h2
 exact wpAny_le (fun _ _ _ h => onlyN_le h) _ _ _ _ (late_any hlate _ _ _ _ h2)
theorem sm_all {id : Nat} {Q : Exit → Act → World → Prop} {a : Act} {w : World} {l : List Oper} (ls : List (Nat × LayT)) (hS : St w0 M w) (hm : P.follows .mixedOrders = true) (hB : smAllB l.toArray (ls.map (·.1)) = true)
  (h : ∀ β : Nat → Nat, wpTxt P .text l.toArray w0 M (layL ls) β (fun a' => ∀ w', St w0 (rowsOf (layL ls) β (ls.map (·.1)) ++ M) w' → Q .normal a' w') 0 l a) : (Code.region id l.toArray true).wp P Q a w := by
 simp only [smAllB, Bool.and_eq_true, decide_eq_true_eq] at hB
 obtain ⟨⟨⟨⟨hlate, hsel⟩, hlex⟩, hnd⟩, hjn⟩ := hB
 have htw := fun (listed : Array Bool) (i : Nat) (_ : HeadInv .text l.toArray l.toArray.size listed) (_ : i < l.toArray.size) (_ : listed.getD i true = false) (t : Nat) (ht : l.toArray.size ≤ t) => show t ∉ Region.ready .text l.toArray listed from fun hr => by
  obtain ⟨_, ot, hot, _⟩ := mem_ready.1 hr
  have := (Array.getElem?_eq_some_iff.1 hot).1
  omega
 have H := fun β => wpB_lex (md := .text) (n := l.toArray.size) (P := P) (w0 := w0) (M := M) (lay := layL ls) (β := β)
  (Lq := fun listed' a' => Region.ready .text l.toArray listed' = [] ∧ (∀ j, j < l.toArray.size → listed'.getD j false = true) ∧ ∀ w', St w0 (rowsOf (layL ls) β (ls.map (·.1)) ++ M) w' → Q .normal a' w') hsel htw
  (fun listed a ⟨h, _⟩ j hj => by rw [h] at hj; cases hj) (Nat.le_refl _) 0 (fun listed a inv hq hdn hB => ⟨(by simpa [Region.seqB] using hB), hdn, hq⟩) l 0 _ a (fun j hj => by simp) (by simp) (text_inv0 _ _) (fun j hj => by omega) (by simpa using hlex) (h β)
 refine wp_region_any hm ?_
 have h2 := any_of_B (P := P) (md := .text) (ops := l.toArray) (w0 := w0) (M := M) (lay := layL ls) (n := l.toArray.size) (g := 0) (Q' := onlyN Q)
  (L := fun β listed' a' => Region.ready .text l.toArray listed' = [] ∧ (∀ j, j < l.toArray.size → listed'.getD j false = true) ∧ ∀ w', St w0 (rowsOf (layL ls) β (ls.map (·.1)) ++ M) w' → Q .normal a' w') (Nat.le_refl _)
  (fun listed obs a' w' hw hL => by
   have hβ : Con obs (fun j => (obs j).getD 0) := fun j b hb => by simp [hb]
   obtain ⟨h1, h3, h4⟩ := hL _ hβ
   exact ⟨h1, h4 _ (hw.rows hβ _ hnd fun j hj => h3 j (by simpa using List.all_eq_true.1 hjn j hj))⟩) l.length _ (fun _ => none) a w.drew (text_inv0 _ _) (cls0 hS.drew _) (fun β _ => H β)
 rw [Nat.add_zero] at h2
 exact wpAny_le (fun _ _ _ h => onlyN_le h) _ _ _ _ (late_any hlate _ _ _ _ (by simpa using h2))
def smAnyB (ops : Array Oper) (js : List Nat) : Bool :=
 Region.noSelect ops && Region.lexHead .any ops 0 ops.size 0 (Array.replicate ops.size false) && decide js.Nodup && js.all (fun j => decide (j < ops.size))
theorem any_inv0 (ops : Array Oper) (n : Nat) : HeadInv .any ops n (Array.replicate ops.size false) :=
 ⟨by simp, fun j oj _ hl => (by rw [getD_replicate_false] at hl; cases hl), fun t _ ht => getD_in (by simpa using ht) (getD_replicate_false _ _)⟩
theorem sm_allA {id : Nat} {Q : Exit → Act → World → Prop} {a : Act} {w : World} {l : List Oper} (ls : List (Nat × LayT)) (hS : St w0 M w) (hm : P.follows .mixedOrders = true) (hB : smAnyB l.toArray (ls.map (·.1)) = true)
  (h : ∀ β : Nat → Nat, wpTxt P .any l.toArray w0 M (layL ls) β (fun a' => ∀ w', St w0 (rowsOf (layL ls) β (ls.map (·.1)) ++ M) w' → Q .normal a' w') 0 l a) : (Code.region id l.toArray true).wp P Q a w := by
 simp only [smAnyB, Bool.and_eq_true, decide_eq_true_eq] at hB
 obtain ⟨⟨⟨hsel, hlex⟩, hnd⟩, hjn⟩ := hB
 have htw := fun (listed : Array Bool) (i : Nat) (_ : HeadInv .any l.toArray l.toArray.size listed) (_ : i < l.toArray.size) (_ : listed.getD i true = false) (t : Nat) (ht : l.toArray.size ≤ t) => show t ∉ Region.ready .any l.toArray listed from fun hr => by
  obtain ⟨_, ot, hot, _⟩ := mem_ready.1 hr
  have := (Array.getElem?_eq_some_iff.1 hot).1
  omega
 have H := fun β => wpB_lex (md := .any) (n := l.toArray.size) (P := P) (w0 := w0) (M := M) (lay := layL ls) (β := β)
  (Lq := fun listed' a' => Region.ready .any l.toArray listed' = [] ∧ (∀ j, j < l.toArray.size → listed'.getD j false = true) ∧ ∀ w', St w0 (rowsOf (layL ls) β (ls.map (·.1)) ++ M) w' → Q .normal a' w') hsel htw
  (fun listed a ⟨h, _⟩ j hj => by rw [h] at hj; cases hj) (Nat.le_refl _) 0 (fun listed a inv hq hdn hB => ⟨(by simpa [Region.seqB] using hB), hdn, hq⟩) l 0 _ a (fun j hj => by simp) (by simp) (any_inv0 _ _) (fun j hj => by omega) (by simpa using hlex) (h β)
 refine wp_region_any hm ?_
 have h2 := any_of_B (P := P) (md := .any) (ops := l.toArray) (w0 := w0) (M := M) (lay := layL ls) (n := l.toArray.size) (g := 0) (Q' := Q)
  (L := fun β listed' a' => Region.ready .any l.toArray listed' = [] ∧ (∀ j, j < l.toArray.size → listed'.getD j false = true) ∧ ∀ w', St w0 (rowsOf (layL ls) β (ls.map (·.1)) ++ M) w' → Q .normal a' w') (Nat.le_refl _)
  (fun listed obs a' w' hw hL => by
   have hβ : Con obs (fun j => (obs j).getD 0) := fun j b hb => by simp [hb]
   obtain ⟨h1, h3, h4⟩ := hL _ hβ
   exact ⟨h1, h4 _ (hw.rows hβ _ hnd fun j hj => h3 j (by simpa using List.all_eq_true.1 hjn j hj))⟩) l.length _ (fun _ => none) a w.drew (any_inv0 _ _) (cls0 hS.drew _) (fun β _ => H β)
 rw [Nat.add_zero] at h2
 simpa using h2
variable {β : Nat → Nat} {Q : Act → Prop} {a : Act} {o : Oper} {rest : List Oper} {i : Nat}
theorem sm_nil (h : Q a) : wpTxt P md ops w0 M lay β Q i [] a := h
theorem sm_step (h : ∀ K : Act → Prop, (∀ a, wpTxt P md ops w0 M lay β Q (i + 1) rest a → K a) → ∃ v, YB P md ops w0 M lay β i o v a ∧ K (a.put o.dst v)) : wpTxt P md ops w0 M lay β Q i (o :: rest) a :=
 h _ (fun _ h => h)
theorem sm_lay {K : Act → Prop} {y : LayT} (hy : lay i = some y) (hgd : Region.wanted o (yielded ops a.tmps) = true) (hrun : ∀ w : World, (execOp a.eval o).run P w = .ok (.value (y.at_ w.heap.size)) (w.alloc (.cells y.c y.t))) (h : K (a.put o.dst (y.at_ (β i)))) : ∃ v, YB P md ops w0 M lay β i o v a ∧ K (a.put o.dst v) :=
 ⟨_, by unfold YB; rw [hy]; exact ⟨hgd, hrun, rfl⟩, h⟩
theorem sm_yes {K : Act → Prop} (hy : lay i = none) (hw : Region.wanted o (yielded ops a.tmps) = true) {v : Value} (hs : StdI P w0 M o a v) (h : K (a.put o.dst v)) : ∃ v, YB P md ops w0 M lay β i o v a ∧ K (a.put o.dst v) :=
 ⟨v, by unfold YB; rw [hy]; exact ⟨[], List.nodup_nil, fun _ h => (by cases h), .inl ⟨hw, hs⟩⟩, h⟩
theorem sm_need {K : Act → Prop} (hy : lay i = none) (needs : List Nat) (hnd : (decide needs.Nodup && needs.all fun j => ancB md ops ops.size i j) = true) (hw : Region.wanted o (yielded ops a.tmps) = true) {v : Value} (hs : StdI P w0 (rowsOf lay β needs ++ M) o a v) (h : K (a.put o.dst v)) : ∃ v, YB P md ops w0 M lay β i o v a ∧ K (a.put o.dst v) := by
 simp only [Bool.and_eq_true, decide_eq_true_eq] at hnd
 exact ⟨v, by unfold YB; rw [hy]; exact ⟨needs, hnd.1, fun j hj => List.all_eq_true.1 hnd.2 j hj, .inl ⟨hw, hs⟩⟩, h⟩
theorem sm_no {K : Act → Prop} (hy : lay i = none) (hw : Region.wanted o (yielded ops a.tmps) = false) (h : K (a.put o.dst undef)) : ∃ v, YB P md ops w0 M lay β i o v a ∧ K (a.put o.dst v) :=
 ⟨undef, by unfold YB; rw [hy]; exact ⟨[], List.nodup_nil, fun _ h => (by cases h), .inr ⟨hw, rfl⟩⟩, h⟩
theorem sm_enter {f : FuncId} {args : Array Value} {v : Value} {w : World} (hi : P.inits.idxOf? f = none) (h : Calls P f args w (fun e w'' => e = .returned v ∧ Gr w w'')) : upI P v w (.ok (.enter f args) w) := ⟨hi, h, Gr.refl _⟩
theorem sm_load {K : Act → Prop} (hy : lay i = none) (hw : Region.wanted o (yielded ops a.tmps) = true) (ty : TypeId) (x : Operand) (ho : o.op = .load ty x) {b : Nat} (hx : a.eval x = .pointer (some ⟨b, 0, none⟩)) {c : Array Value} {t : TypeId} (hm : Has M b c t)
  {d : TypeDesc} (hu : P.underlying ty = some d) (hd : (match d with | .struct _ | .array _ _ => true | _ => false) = true) (hi : (P.info? ty).map (·.size) = some c.size)
  (h : K (a.put o.dst (.agg c))) : ∃ v, YB P md ops w0 M lay β i o v a ∧ K (a.put o.dst v) :=
 sm_yes hy hw (v := .agg c) (fun w hS => by
  unfold execOp
  simp only [ho, hx, Instr.loadAt, Instr.sureAddr, Sem.run_bind, Sem.run_pure, Result.andThen_ok, run_loadVar_row w b t ty c (0, 0) d (hS.row hm) hu hd hi]
  exact ⟨rfl, Gr.refl _⟩) h
theorem sm_cell {K : Act → Prop} (hy : lay i = none) (hw : Region.wanted o (yielded ops a.tmps) = true) (ty : TypeId) (x : Operand) (_ho : o.op = .load ty x) {b off : Nat} (_hx : a.eval x = .pointer (some ⟨b, off, none⟩)) {c : Array Value} {t : TypeId} (hm : Has M b c t)
  {v : Value} (hv : c[off]? = some v) (hrun : ∀ w : World, w.cell? ⟨b, off, none⟩ = some v → (execOp a.eval o).run P w = .ok (.value v) w)
  (h : K (a.put o.dst v)) : ∃ v, YB P md ops w0 M lay β i o v a ∧ K (a.put o.dst v) :=
 sm_yes hy hw (v := v) (fun w hS => by
  rw [hrun w ((hS.cell hm off).trans hv)]
  exact ⟨rfl, Gr.refl _⟩) h
theorem sm_val {K : Act → Prop} (hy : lay i = none) (hw : Region.wanted o (yielded ops a.tmps) = true) {v : Value} (hrun : ∀ w : World, (execOp a.eval o).run P w = .ok (.value v) w) (h : K (a.put o.dst v)) : ∃ v, YB P md ops w0 M lay β i o v a ∧ K (a.put o.dst v) :=
 sm_yes hy hw (v := v) (fun w _ => by rw [hrun w]; exact ⟨rfl, Gr.refl _⟩) h
theorem sm_build {K : Act → Prop} (hy : lay i = none) (hw : Region.wanted o (yielded ops a.tmps) = true) (t : TypeId) (parts : Array (Nat × Operand)) (ho : o.op = .build t parts) (cells : Array Value)
  (hc : P.built t (parts.map fun (i, x) => (i, a.eval x)).toList = some cells)
  (h : K (a.put o.dst (.agg cells))) : ∃ v, YB P md ops w0 M lay β i o v a ∧ K (a.put o.dst v) := by
 refine sm_yes hy hw (v := .agg cells) (fun w _ => ?_) h
 unfold execOp
 simp only [ho, Sem.run_bind, run_build w t _ cells hc, Result.andThen_ok]
 exact ⟨rfl, Gr.refl _⟩
end
end Go.Proofs.Ytjoalcaooccbiaa
/- InsShV -/
namespace Go.Proofs.Ytjoalcaooccbiaa
open Go.RowKit
namespace Ins
def shp (f l : Int) (s : ByteArray) : Array Value := #[.int .i64 f, .int .i64 l, .string s]
def RES (f l : Int) (s : ByteArray) (w : World) (e : Ending) (w' : World) : Prop := e = .returned (.agg (shp f l s)) ∧ Gr w w'
theorem infoS : (Try.prog.info? 65).map (·.size) = some 3 := by kernel_rfl
theorem shp_one (f l : Int) (s : ByteArray) : (shp f l s).all (·.oneCell') = true := by kernel_rfl
def zs : ByteArray := { data := #[] }
theorem within_yes (n a b : Int) (h0 : a ≤ n) (h1 : n ≤ b) (w : World) : Calls Try.prog 62 #[.int .i64 n, .int .i64 a, .int .i64 b] w fun e w' => e = .returned (.bool true) ∧ w = w' := by
 go_enter Try.func62, Try.ntmps62
 go_wp2
 go_ret
 exact ⟨rfl, rfl⟩
theorem within_no (n a b : Int) (h : n < a ∨ b < n) (w : World) : Calls Try.prog 62 #[.int .i64 n, .int .i64 a, .int .i64 b] w fun e w' => e = .returned (.bool false) ∧ w = w' := by
 by_cases h0 : a ≤ n
 ·have h1 : decide (n ≤ b) = false := decide_eq_false (by omega)
  clear h
  go_enter Try.func62, Try.ntmps62
  go_wp2
  go_ret
  exact ⟨rfl, rfl⟩
 ·clear h
  go_enter Try.func62, Try.ntmps62
  go_wp2
  go_ret
  exact ⟨rfl, rfl⟩
theorem plain_any (s : ByteArray) (w : World) : Calls Try.prog 86 #[.string s] w (RES 1 0 s w) := by
 go_enter Try.func86, Try.ntmps86
 go_wp2
 exact bodyPost_ret (v := .agg (shp 1 0 s)) (by simp [results, Try.results86, go_sem, shp]) rfl ⟨rfl, (Gr.refl _).alloc _ _⟩
theorem memory_any (l : Int) (s : ByteArray) (w : World) : Calls Try.prog 85 #[.int .i64 l, .string s] w (RES 7 l s w) := by
 go_enter Try.func85, Try.ntmps85
 go_wp2
 exact bodyPost_ret (v := .agg (shp 7 l s)) (by simp [results, Try.results85, go_sem, shp]) rfl ⟨rfl, (Gr.refl _).alloc _ _⟩
theorem lane_any (l : Int) (s : ByteArray) (w : World) : Calls Try.prog 87 #[.int .i64 l, .string s] w (RES 13 l s w) := by
 go_enter Try.func87, Try.ntmps87
 go_wp2
 exact bodyPost_ret (v := .agg (shp 13 l s)) (by simp [results, Try.results87, go_sem, shp]) rfl ⟨rfl, (Gr.refl _).alloc _ _⟩
theorem va_0 (w : World) : Calls Try.prog 63 #[.int .i64 0] w (RES 7 4 ⟨#[105, 58, 118]⟩ w) := by
 go_enter Try.func63, Try.ntmps63
 go_wp2_with (go_at_call 62; first | ((with_reducible refine (within_yes _ _ _ (by omega) (by omega) _).mono ?_); rintro e w' ⟨rfl, rfl⟩) | ((with_reducible refine (within_no _ _ _ (by omega) _).mono ?_); rintro e w' ⟨rfl, rfl⟩))
 refine (memory_any _ _ _).mono ?_
 rintro e w1 ⟨rfl, hg⟩
 have hb := gr_block hg (heap_alloc_new w (.cells (shp 0 0 zs) 65))
 have HB := Lib.hid hb
 have HG := Lib.hid (gr_trans ((Gr.refl w).alloc _ _) hg)
 clear hb hg
 go_wp2_with (refine wpList_store_row rfl 65 _ _ rfl w.heap.size (shp _ _ _) rfl rfl 65 (shp 0 0 zs) HB.out infoS rfl (shp_one _ _ _) ?_)
 exact bodyPost_ret (v := .agg (shp _ _ _)) (results_cell_row Try.results63 _ _ w.heap.size 65 _ (0, 0) _ rfl (setRow_block HB.out) Try.underlying65 rfl infoS) rfl ⟨rfl, gr_setRow HG.out (by omega) _⟩
theorem va_1 (n : Int) (h0 : 1 ≤ n) (h1 : n ≤ 6) (w : World) : Calls Try.prog 63 #[.int .i64 n] w (RES 7 3 ⟨#[105, 58, 118]⟩ w) := by
 go_enter Try.func63, Try.ntmps63
 go_wp2_with (go_at_call 62; first | ((with_reducible refine (within_yes _ _ _ (by omega) (by omega) _).mono ?_); rintro e w' ⟨rfl, rfl⟩) | ((with_reducible refine (within_no _ _ _ (by omega) _).mono ?_); rintro e w' ⟨rfl, rfl⟩))
 refine (memory_any _ _ _).mono ?_
 rintro e w1 ⟨rfl, hg⟩
 have hb := gr_block hg (heap_alloc_new w (.cells (shp 0 0 zs) 65))
 have HB := Lib.hid hb
 have HG := Lib.hid (gr_trans ((Gr.refl w).alloc _ _) hg)
 clear hb hg
 go_wp2_with (refine wpList_store_row rfl 65 _ _ rfl w.heap.size (shp _ _ _) rfl rfl 65 (shp 0 0 zs) HB.out infoS rfl (shp_one _ _ _) ?_)
 exact bodyPost_ret (v := .agg (shp _ _ _)) (results_cell_row Try.results63 _ _ w.heap.size 65 _ (0, 0) _ rfl (setRow_block HB.out) Try.underlying65 rfl infoS) rfl ⟨rfl, gr_setRow HG.out (by omega) _⟩
theorem va_2 (w : World) : Calls Try.prog 63 #[.int .i64 7] w (RES 7 0 ⟨#[105, 58, 118]⟩ w) := by
 go_enter Try.func63, Try.ntmps63
 go_wp2_with (go_at_call 62; first | ((with_reducible refine (within_yes _ _ _ (by omega) (by omega) _).mono ?_); rintro e w' ⟨rfl, rfl⟩) | ((with_reducible refine (within_no _ _ _ (by omega) _).mono ?_); rintro e w' ⟨rfl, rfl⟩))
 refine (memory_any _ _ _).mono ?_
 rintro e w1 ⟨rfl, hg⟩
 have hb := gr_block hg (heap_alloc_new w (.cells (shp 0 0 zs) 65))
 have HB := Lib.hid hb
 have HG := Lib.hid (gr_trans ((Gr.refl w).alloc _ _) hg)
 clear hb hg
 go_wp2_with (refine wpList_store_row rfl 65 _ _ rfl w.heap.size (shp _ _ _) rfl rfl 65 (shp 0 0 zs) HB.out infoS rfl (shp_one _ _ _) ?_)
 exact bodyPost_ret (v := .agg (shp _ _ _)) (results_cell_row Try.results63 _ _ w.heap.size 65 _ (0, 0) _ rfl (setRow_block HB.out) Try.underlying65 rfl infoS) rfl ⟨rfl, gr_setRow HG.out (by omega) _⟩
theorem va_3 (w : World) : Calls Try.prog 63 #[.int .i64 8] w (RES 7 1 ⟨#[105, 58, 118]⟩ w) := by
 go_enter Try.func63, Try.ntmps63
 go_wp2_with (go_at_call 62; first | ((with_reducible refine (within_yes _ _ _ (by omega) (by omega) _).mono ?_); rintro e w' ⟨rfl, rfl⟩) | ((with_reducible refine (within_no _ _ _ (by omega) _).mono ?_); rintro e w' ⟨rfl, rfl⟩))
 refine (memory_any _ _ _).mono ?_
 rintro e w1 ⟨rfl, hg⟩
 have hb := gr_block hg (heap_alloc_new w (.cells (shp 0 0 zs) 65))
 have HB := Lib.hid hb
 have HG := Lib.hid (gr_trans ((Gr.refl w).alloc _ _) hg)
 clear hb hg
 go_wp2_with (refine wpList_store_row rfl 65 _ _ rfl w.heap.size (shp _ _ _) rfl rfl 65 (shp 0 0 zs) HB.out infoS rfl (shp_one _ _ _) ?_)
 exact bodyPost_ret (v := .agg (shp _ _ _)) (results_cell_row Try.results63 _ _ w.heap.size 65 _ (0, 0) _ rfl (setRow_block HB.out) Try.underlying65 rfl infoS) rfl ⟨rfl, gr_setRow HG.out (by omega) _⟩
theorem va_4 (w : World) : Calls Try.prog 63 #[.int .i64 9] w (RES 7 2 ⟨#[105, 58, 118]⟩ w) := by
 go_enter Try.func63, Try.ntmps63
 go_wp2_with (go_at_call 62; first | ((with_reducible refine (within_yes _ _ _ (by omega) (by omega) _).mono ?_); rintro e w' ⟨rfl, rfl⟩) | ((with_reducible refine (within_no _ _ _ (by omega) _).mono ?_); rintro e w' ⟨rfl, rfl⟩))
 refine (memory_any _ _ _).mono ?_
 rintro e w1 ⟨rfl, hg⟩
 have hb := gr_block hg (heap_alloc_new w (.cells (shp 0 0 zs) 65))
 have HB := Lib.hid hb
 have HG := Lib.hid (gr_trans ((Gr.refl w).alloc _ _) hg)
 clear hb hg
 go_wp2_with (refine wpList_store_row rfl 65 _ _ rfl w.heap.size (shp _ _ _) rfl rfl 65 (shp 0 0 zs) HB.out infoS rfl (shp_one _ _ _) ?_)
 exact bodyPost_ret (v := .agg (shp _ _ _)) (results_cell_row Try.results63 _ _ w.heap.size 65 _ (0, 0) _ rfl (setRow_block HB.out) Try.underlying65 rfl infoS) rfl ⟨rfl, gr_setRow HG.out (by omega) _⟩
theorem va_5 (w : World) : Calls Try.prog 63 #[.int .i64 10] w (RES 7 3 ⟨#[105, 58, 118]⟩ w) := by
 go_enter Try.func63, Try.ntmps63
 go_wp2_with (go_at_call 62; first | ((with_reducible refine (within_yes _ _ _ (by omega) (by omega) _).mono ?_); rintro e w' ⟨rfl, rfl⟩) | ((with_reducible refine (within_no _ _ _ (by omega) _).mono ?_); rintro e w' ⟨rfl, rfl⟩))
 refine (memory_any _ _ _).mono ?_
 rintro e w1 ⟨rfl, hg⟩
 have hb := gr_block hg (heap_alloc_new w (.cells (shp 0 0 zs) 65))
 have HB := Lib.hid hb
 have HG := Lib.hid (gr_trans ((Gr.refl w).alloc _ _) hg)
 clear hb hg
 go_wp2_with (refine wpList_store_row rfl 65 _ _ rfl w.heap.size (shp _ _ _) rfl rfl 65 (shp 0 0 zs) HB.out infoS rfl (shp_one _ _ _) ?_)
 exact bodyPost_ret (v := .agg (shp _ _ _)) (results_cell_row Try.results63 _ _ w.heap.size 65 _ (0, 0) _ rfl (setRow_block HB.out) Try.underlying65 rfl infoS) rfl ⟨rfl, gr_setRow HG.out (by omega) _⟩
theorem va_6 (w : World) : Calls Try.prog 63 #[.int .i64 11] w (RES 7 4 ⟨#[105, 118, 58]⟩ w) := by
 go_enter Try.func63, Try.ntmps63
 go_wp2_with (go_at_call 62; first | ((with_reducible refine (within_yes _ _ _ (by omega) (by omega) _).mono ?_); rintro e w' ⟨rfl, rfl⟩) | ((with_reducible refine (within_no _ _ _ (by omega) _).mono ?_); rintro e w' ⟨rfl, rfl⟩))
 refine (memory_any _ _ _).mono ?_
 rintro e w1 ⟨rfl, hg⟩
 have hb := gr_block hg (heap_alloc_new w (.cells (shp 0 0 zs) 65))
 have HB := Lib.hid hb
 have HG := Lib.hid (gr_trans ((Gr.refl w).alloc _ _) hg)
 clear hb hg
 go_wp2_with (refine wpList_store_row rfl 65 _ _ rfl w.heap.size (shp _ _ _) rfl rfl 65 (shp 0 0 zs) HB.out infoS rfl (shp_one _ _ _) ?_)
 exact bodyPost_ret (v := .agg (shp _ _ _)) (results_cell_row Try.results63 _ _ w.heap.size 65 _ (0, 0) _ rfl (setRow_block HB.out) Try.underlying65 rfl infoS) rfl ⟨rfl, gr_setRow HG.out (by omega) _⟩
theorem va_7 (w : World) : Calls Try.prog 63 #[.int .i64 84] w (RES 8 0 ⟨#[105, 118, 58, 118]⟩ w) := by
 go_enter Try.func63, Try.ntmps63
 go_wp2_with (go_at_call 62; first | ((with_reducible refine (within_yes _ _ _ (by omega) (by omega) _).mono ?_); rintro e w' ⟨rfl, rfl⟩) | ((with_reducible refine (within_no _ _ _ (by omega) _).mono ?_); rintro e w' ⟨rfl, rfl⟩))
 exact bodyPost_ret (v := .agg (shp _ _ _)) (by simp [results, Try.results63, go_sem, shp] <;> rfl) rfl ⟨rfl, (Gr.refl _).alloc _ _⟩
theorem va_8 (w : World) : Calls Try.prog 63 #[.int .i64 85] w (RES 8 1 ⟨#[105, 118, 58, 118]⟩ w) := by
 go_enter Try.func63, Try.ntmps63
 go_wp2_with (go_at_call 62; first | ((with_reducible refine (within_yes _ _ _ (by omega) (by omega) _).mono ?_); rintro e w' ⟨rfl, rfl⟩) | ((with_reducible refine (within_no _ _ _ (by omega) _).mono ?_); rintro e w' ⟨rfl, rfl⟩))
 exact bodyPost_ret (v := .agg (shp _ _ _)) (by simp [results, Try.results63, go_sem, shp] <;> rfl) rfl ⟨rfl, (Gr.refl _).alloc _ _⟩
theorem va_9 (w : World) : Calls Try.prog 63 #[.int .i64 86] w (RES 8 2 ⟨#[105, 118, 58, 118]⟩ w) := by
 go_enter Try.func63, Try.ntmps63
 go_wp2_with (go_at_call 62; first | ((with_reducible refine (within_yes _ _ _ (by omega) (by omega) _).mono ?_); rintro e w' ⟨rfl, rfl⟩) | ((with_reducible refine (within_no _ _ _ (by omega) _).mono ?_); rintro e w' ⟨rfl, rfl⟩))
 exact bodyPost_ret (v := .agg (shp _ _ _)) (by simp [results, Try.results63, go_sem, shp] <;> rfl) rfl ⟨rfl, (Gr.refl _).alloc _ _⟩
theorem va_10 (w : World) : Calls Try.prog 63 #[.int .i64 87] w (RES 8 3 ⟨#[105, 118, 58, 118]⟩ w) := by
 go_enter Try.func63, Try.ntmps63
 go_wp2_with (go_at_call 62; first | ((with_reducible refine (within_yes _ _ _ (by omega) (by omega) _).mono ?_); rintro e w' ⟨rfl, rfl⟩) | ((with_reducible refine (within_no _ _ _ (by omega) _).mono ?_); rintro e w' ⟨rfl, rfl⟩))
 exact bodyPost_ret (v := .agg (shp _ _ _)) (by simp [results, Try.results63, go_sem, shp] <;> rfl) rfl ⟨rfl, (Gr.refl _).alloc _ _⟩
theorem va_11 (w : World) : Calls Try.prog 63 #[.int .i64 88] w (RES 8 0 ⟨#[105, 118, 58]⟩ w) := by
 go_enter Try.func63, Try.ntmps63
 go_wp2_with (go_at_call 62; first | ((with_reducible refine (within_yes _ _ _ (by omega) (by omega) _).mono ?_); rintro e w' ⟨rfl, rfl⟩) | ((with_reducible refine (within_no _ _ _ (by omega) _).mono ?_); rintro e w' ⟨rfl, rfl⟩))
 exact bodyPost_ret (v := .agg (shp _ _ _)) (by simp [results, Try.results63, go_sem, shp] <;> rfl) rfl ⟨rfl, (Gr.refl _).alloc _ _⟩
theorem va_12 (w : World) : Calls Try.prog 63 #[.int .i64 89] w (RES 8 1 ⟨#[105, 118, 58]⟩ w) := by
 go_enter Try.func63, Try.ntmps63
 go_wp2_with (go_at_call 62; first | ((with_reducible refine (within_yes _ _ _ (by omega) (by omega) _).mono ?_); rintro e w' ⟨rfl, rfl⟩) | ((with_reducible refine (within_no _ _ _ (by omega) _).mono ?_); rintro e w' ⟨rfl, rfl⟩))
 exact bodyPost_ret (v := .agg (shp _ _ _)) (by simp [results, Try.results63, go_sem, shp] <;> rfl) rfl ⟨rfl, (Gr.refl _).alloc _ _⟩
theorem va_13 (w : World) : Calls Try.prog 63 #[.int .i64 90] w (RES 8 2 ⟨#[105, 118, 58]⟩ w) := by
 go_enter Try.func63, Try.ntmps63
 go_wp2_with (go_at_call 62; first | ((with_reducible refine (within_yes _ _ _ (by omega) (by omega) _).mono ?_); rintro e w' ⟨rfl, rfl⟩) | ((with_reducible refine (within_no _ _ _ (by omega) _).mono ?_); rintro e w' ⟨rfl, rfl⟩))
 exact bodyPost_ret (v := .agg (shp _ _ _)) (by simp [results, Try.results63, go_sem, shp] <;> rfl) rfl ⟨rfl, (Gr.refl _).alloc _ _⟩
theorem va_14 (w : World) : Calls Try.prog 63 #[.int .i64 91] w (RES 8 3 ⟨#[105, 118, 58]⟩ w) := by
 go_enter Try.func63, Try.ntmps63
 go_wp2_with (go_at_call 62; first | ((with_reducible refine (within_yes _ _ _ (by omega) (by omega) _).mono ?_); rintro e w' ⟨rfl, rfl⟩) | ((with_reducible refine (within_no _ _ _ (by omega) _).mono ?_); rintro e w' ⟨rfl, rfl⟩))
 exact bodyPost_ret (v := .agg (shp _ _ _)) (by simp [results, Try.results63, go_sem, shp] <;> rfl) rfl ⟨rfl, (Gr.refl _).alloc _ _⟩
theorem va_15 (w : World) : Calls Try.prog 63 #[.int .i64 92] w (RES 7 2 ⟨#[105, 58, 118]⟩ w) := by
 go_enter Try.func63, Try.ntmps63
 go_wp2_with (go_at_call 62; first | ((with_reducible refine (within_yes _ _ _ (by omega) (by omega) _).mono ?_); rintro e w' ⟨rfl, rfl⟩) | ((with_reducible refine (within_no _ _ _ (by omega) _).mono ?_); rintro e w' ⟨rfl, rfl⟩))
 refine (memory_any _ _ _).mono ?_
 rintro e w1 ⟨rfl, hg⟩
 have hb := gr_block hg (heap_alloc_new w (.cells (shp 0 0 zs) 65))
 have HB := Lib.hid hb
 have HG := Lib.hid (gr_trans ((Gr.refl w).alloc _ _) hg)
 clear hb hg
 go_wp2_with (refine wpList_store_row rfl 65 _ _ rfl w.heap.size (shp _ _ _) rfl rfl 65 (shp 0 0 zs) HB.out infoS rfl (shp_one _ _ _) ?_)
 exact bodyPost_ret (v := .agg (shp _ _ _)) (results_cell_row Try.results63 _ _ w.heap.size 65 _ (0, 0) _ rfl (setRow_block HB.out) Try.underlying65 rfl infoS) rfl ⟨rfl, gr_setRow HG.out (by omega) _⟩
theorem va_16 (w : World) : Calls Try.prog 63 #[.int .i64 93] w (RES 7 3 ⟨#[105, 58, 118]⟩ w) := by
 go_enter Try.func63, Try.ntmps63
 go_wp2_with (go_at_call 62; first | ((with_reducible refine (within_yes _ _ _ (by omega) (by omega) _).mono ?_); rintro e w' ⟨rfl, rfl⟩) | ((with_reducible refine (within_no _ _ _ (by omega) _).mono ?_); rintro e w' ⟨rfl, rfl⟩))
 refine (memory_any _ _ _).mono ?_
 rintro e w1 ⟨rfl, hg⟩
 have hb := gr_block hg (heap_alloc_new w (.cells (shp 0 0 zs) 65))
 have HB := Lib.hid hb
 have HG := Lib.hid (gr_trans ((Gr.refl w).alloc _ _) hg)
 clear hb hg
 go_wp2_with (refine wpList_store_row rfl 65 _ _ rfl w.heap.size (shp _ _ _) rfl rfl 65 (shp 0 0 zs) HB.out infoS rfl (shp_one _ _ _) ?_)
 exact bodyPost_ret (v := .agg (shp _ _ _)) (results_cell_row Try.results63 _ _ w.heap.size 65 _ (0, 0) _ rfl (setRow_block HB.out) Try.underlying65 rfl infoS) rfl ⟨rfl, gr_setRow HG.out (by omega) _⟩
theorem vm_0 (w : World) : Calls Try.prog 64 #[.int .i64 12] w (RES 11 0 ⟨#[58, 118]⟩ w) := by
 go_enter Try.func64, Try.ntmps64
 go_wp2_with (go_at_call 62; first | ((with_reducible refine (within_yes _ _ _ (by omega) (by omega) _).mono ?_); rintro e w' ⟨rfl, rfl⟩) | ((with_reducible refine (within_no _ _ _ (by omega) _).mono ?_); rintro e w' ⟨rfl, rfl⟩))
 exact bodyPost_ret (v := .agg (shp _ _ _)) (by simp [results, Try.results64, go_sem, shp] <;> rfl) rfl ⟨rfl, (Gr.refl _).alloc _ _⟩
theorem vm_1 (w : World) : Calls Try.prog 64 #[.int .i64 13] w (RES 12 0 ⟨#[118, 118, 58, 118]⟩ w) := by
 go_enter Try.func64, Try.ntmps64
 go_wp2_with (go_at_call 62; first | ((with_reducible refine (within_yes _ _ _ (by omega) (by omega) _).mono ?_); rintro e w' ⟨rfl, rfl⟩) | ((with_reducible refine (within_no _ _ _ (by omega) _).mono ?_); rintro e w' ⟨rfl, rfl⟩))
 exact bodyPost_ret (v := .agg (shp _ _ _)) (by simp [results, Try.results64, go_sem, shp] <;> rfl) rfl ⟨rfl, (Gr.refl _).alloc _ _⟩
theorem vm_2 (w : World) : Calls Try.prog 64 #[.int .i64 14] w (RES 1 0 ⟨#[118, 118, 58, 118]⟩ w) := by
 go_enter Try.func64, Try.ntmps64
 go_wp2_with (go_at_call 62; first | ((with_reducible refine (within_yes _ _ _ (by omega) (by omega) _).mono ?_); rintro e w' ⟨rfl, rfl⟩) | ((with_reducible refine (within_no _ _ _ (by omega) _).mono ?_); rintro e w' ⟨rfl, rfl⟩))
 refine (plain_any _ _).mono ?_
 rintro e w1 ⟨rfl, hg⟩
 have hb := gr_block hg (heap_alloc_new w (.cells (shp 0 0 zs) 65))
 have HB := Lib.hid hb
 have HG := Lib.hid (gr_trans ((Gr.refl w).alloc _ _) hg)
 clear hb hg
 go_wp2_with (refine wpList_store_row rfl 65 _ _ rfl w.heap.size (shp _ _ _) rfl rfl 65 (shp 0 0 zs) HB.out infoS rfl (shp_one _ _ _) ?_)
 exact bodyPost_ret (v := .agg (shp _ _ _)) (results_cell_row Try.results64 _ _ w.heap.size 65 _ (0, 0) _ rfl (setRow_block HB.out) Try.underlying65 rfl infoS) rfl ⟨rfl, gr_setRow HG.out (by omega) _⟩
theorem vm_3 (w : World) : Calls Try.prog 64 #[.int .i64 15] w (RES 1 0 ⟨#[105, 58, 118]⟩ w) := by
 go_enter Try.func64, Try.ntmps64
 go_wp2_with (go_at_call 62; first | ((with_reducible refine (within_yes _ _ _ (by omega) (by omega) _).mono ?_); rintro e w' ⟨rfl, rfl⟩) | ((with_reducible refine (within_no _ _ _ (by omega) _).mono ?_); rintro e w' ⟨rfl, rfl⟩))
 refine (plain_any _ _).mono ?_
 rintro e w1 ⟨rfl, hg⟩
 have hb := gr_block hg (heap_alloc_new w (.cells (shp 0 0 zs) 65))
 have HB := Lib.hid hb
 have HG := Lib.hid (gr_trans ((Gr.refl w).alloc _ _) hg)
 clear hb hg
 go_wp2_with (refine wpList_store_row rfl 65 _ _ rfl w.heap.size (shp _ _ _) rfl rfl 65 (shp 0 0 zs) HB.out infoS rfl (shp_one _ _ _) ?_)
 exact bodyPost_ret (v := .agg (shp _ _ _)) (results_cell_row Try.results64 _ _ w.heap.size 65 _ (0, 0) _ rfl (setRow_block HB.out) Try.underlying65 rfl infoS) rfl ⟨rfl, gr_setRow HG.out (by omega) _⟩
theorem vm_4 (w : World) : Calls Try.prog 64 #[.int .i64 16] w (RES 1 0 ⟨#[105, 58, 118]⟩ w) := by
 go_enter Try.func64, Try.ntmps64
 go_wp2_with (go_at_call 62; first | ((with_reducible refine (within_yes _ _ _ (by omega) (by omega) _).mono ?_); rintro e w' ⟨rfl, rfl⟩) | ((with_reducible refine (within_no _ _ _ (by omega) _).mono ?_); rintro e w' ⟨rfl, rfl⟩))
 refine (plain_any _ _).mono ?_
 rintro e w1 ⟨rfl, hg⟩
 have hb := gr_block hg (heap_alloc_new w (.cells (shp 0 0 zs) 65))
 have HB := Lib.hid hb
 have HG := Lib.hid (gr_trans ((Gr.refl w).alloc _ _) hg)
 clear hb hg
 go_wp2_with (refine wpList_store_row rfl 65 _ _ rfl w.heap.size (shp _ _ _) rfl rfl 65 (shp 0 0 zs) HB.out infoS rfl (shp_one _ _ _) ?_)
 exact bodyPost_ret (v := .agg (shp _ _ _)) (results_cell_row Try.results64 _ _ w.heap.size 65 _ (0, 0) _ rfl (setRow_block HB.out) Try.underlying65 rfl infoS) rfl ⟨rfl, gr_setRow HG.out (by omega) _⟩
theorem vm_5 (w : World) : Calls Try.prog 64 #[.int .i64 17] w (RES 1 0 ⟨#[105, 58, 118]⟩ w) := by
 go_enter Try.func64, Try.ntmps64
 go_wp2_with (go_at_call 62; first | ((with_reducible refine (within_yes _ _ _ (by omega) (by omega) _).mono ?_); rintro e w' ⟨rfl, rfl⟩) | ((with_reducible refine (within_no _ _ _ (by omega) _).mono ?_); rintro e w' ⟨rfl, rfl⟩))
 refine (plain_any _ _).mono ?_
 rintro e w1 ⟨rfl, hg⟩
 have hb := gr_block hg (heap_alloc_new w (.cells (shp 0 0 zs) 65))
 have HB := Lib.hid hb
 have HG := Lib.hid (gr_trans ((Gr.refl w).alloc _ _) hg)
 clear hb hg
 go_wp2_with (refine wpList_store_row rfl 65 _ _ rfl w.heap.size (shp _ _ _) rfl rfl 65 (shp 0 0 zs) HB.out infoS rfl (shp_one _ _ _) ?_)
 exact bodyPost_ret (v := .agg (shp _ _ _)) (results_cell_row Try.results64 _ _ w.heap.size 65 _ (0, 0) _ rfl (setRow_block HB.out) Try.underlying65 rfl infoS) rfl ⟨rfl, gr_setRow HG.out (by omega) _⟩
theorem vm_6 (w : World) : Calls Try.prog 64 #[.int .i64 18] w (RES 1 0 ⟨#[108, 58, 118]⟩ w) := by
 go_enter Try.func64, Try.ntmps64
 go_wp2_with (go_at_call 62; first | ((with_reducible refine (within_yes _ _ _ (by omega) (by omega) _).mono ?_); rintro e w' ⟨rfl, rfl⟩) | ((with_reducible refine (within_no _ _ _ (by omega) _).mono ?_); rintro e w' ⟨rfl, rfl⟩))
 refine (plain_any _ _).mono ?_
 rintro e w1 ⟨rfl, hg⟩
 have hb := gr_block hg (heap_alloc_new w (.cells (shp 0 0 zs) 65))
 have HB := Lib.hid hb
 have HG := Lib.hid (gr_trans ((Gr.refl w).alloc _ _) hg)
 clear hb hg
 go_wp2_with (refine wpList_store_row rfl 65 _ _ rfl w.heap.size (shp _ _ _) rfl rfl 65 (shp 0 0 zs) HB.out infoS rfl (shp_one _ _ _) ?_)
 exact bodyPost_ret (v := .agg (shp _ _ _)) (results_cell_row Try.results64 _ _ w.heap.size 65 _ (0, 0) _ rfl (setRow_block HB.out) Try.underlying65 rfl infoS) rfl ⟨rfl, gr_setRow HG.out (by omega) _⟩
theorem vm_7 (n : Int) (h0 : 19 ≤ n) (h1 : n ≤ 20) (w : World) : Calls Try.prog 64 #[.int .i64 n] w (RES 0 0 ⟨#[]⟩ w) := by
 go_enter Try.func64, Try.ntmps64
 go_wp2_with (go_at_call 62; first | ((with_reducible refine (within_yes _ _ _ (by omega) (by omega) _).mono ?_); rintro e w' ⟨rfl, rfl⟩) | ((with_reducible refine (within_no _ _ _ (by omega) _).mono ?_); rintro e w' ⟨rfl, rfl⟩))
 exact bodyPost_ret (v := .agg (shp _ _ _)) (by simp [results, Try.results64, go_sem, shp] <;> rfl) rfl ⟨rfl, (Gr.refl _).alloc _ _⟩
theorem vm_8 (w : World) : Calls Try.prog 64 #[.int .i64 21] w (RES 13 16 ⟨#[118, 58, 105]⟩ w) := by
 go_enter Try.func64, Try.ntmps64
 go_wp2_with (go_at_call 62; first | ((with_reducible refine (within_yes _ _ _ (by omega) (by omega) _).mono ?_); rintro e w' ⟨rfl, rfl⟩) | ((with_reducible refine (within_no _ _ _ (by omega) _).mono ?_); rintro e w' ⟨rfl, rfl⟩))
 refine (lane_any _ _ _).mono ?_
 rintro e w1 ⟨rfl, hg⟩
 have hb := gr_block hg (heap_alloc_new w (.cells (shp 0 0 zs) 65))
 have HB := Lib.hid hb
 have HG := Lib.hid (gr_trans ((Gr.refl w).alloc _ _) hg)
 clear hb hg
 go_wp2_with (refine wpList_store_row rfl 65 _ _ rfl w.heap.size (shp _ _ _) rfl rfl 65 (shp 0 0 zs) HB.out infoS rfl (shp_one _ _ _) ?_)
 exact bodyPost_ret (v := .agg (shp _ _ _)) (results_cell_row Try.results64 _ _ w.heap.size 65 _ (0, 0) _ rfl (setRow_block HB.out) Try.underlying65 rfl infoS) rfl ⟨rfl, gr_setRow HG.out (by omega) _⟩
theorem vm_9 (w : World) : Calls Try.prog 64 #[.int .i64 22] w (RES 13 16 ⟨#[118, 58, 105]⟩ w) := by
 go_enter Try.func64, Try.ntmps64
 go_wp2_with (go_at_call 62; first | ((with_reducible refine (within_yes _ _ _ (by omega) (by omega) _).mono ?_); rintro e w' ⟨rfl, rfl⟩) | ((with_reducible refine (within_no _ _ _ (by omega) _).mono ?_); rintro e w' ⟨rfl, rfl⟩))
 refine (lane_any _ _ _).mono ?_
 rintro e w1 ⟨rfl, hg⟩
 have hb := gr_block hg (heap_alloc_new w (.cells (shp 0 0 zs) 65))
 have HB := Lib.hid hb
 have HG := Lib.hid (gr_trans ((Gr.refl w).alloc _ _) hg)
 clear hb hg
 go_wp2_with (refine wpList_store_row rfl 65 _ _ rfl w.heap.size (shp _ _ _) rfl rfl 65 (shp 0 0 zs) HB.out infoS rfl (shp_one _ _ _) ?_)
 exact bodyPost_ret (v := .agg (shp _ _ _)) (results_cell_row Try.results64 _ _ w.heap.size 65 _ (0, 0) _ rfl (setRow_block HB.out) Try.underlying65 rfl infoS) rfl ⟨rfl, gr_setRow HG.out (by omega) _⟩
theorem vm_10 (w : World) : Calls Try.prog 64 #[.int .i64 23] w (RES 13 16 ⟨#[118, 105, 58, 118]⟩ w) := by
 go_enter Try.func64, Try.ntmps64
 go_wp2_with (go_at_call 62; first | ((with_reducible refine (within_yes _ _ _ (by omega) (by omega) _).mono ?_); rintro e w' ⟨rfl, rfl⟩) | ((with_reducible refine (within_no _ _ _ (by omega) _).mono ?_); rintro e w' ⟨rfl, rfl⟩))
 refine (lane_any _ _ _).mono ?_
 rintro e w1 ⟨rfl, hg⟩
 have hb := gr_block hg (heap_alloc_new w (.cells (shp 0 0 zs) 65))
 have HB := Lib.hid hb
 have HG := Lib.hid (gr_trans ((Gr.refl w).alloc _ _) hg)
 clear hb hg
 go_wp2_with (refine wpList_store_row rfl 65 _ _ rfl w.heap.size (shp _ _ _) rfl rfl 65 (shp 0 0 zs) HB.out infoS rfl (shp_one _ _ _) ?_)
 exact bodyPost_ret (v := .agg (shp _ _ _)) (results_cell_row Try.results64 _ _ w.heap.size 65 _ (0, 0) _ rfl (setRow_block HB.out) Try.underlying65 rfl infoS) rfl ⟨rfl, gr_setRow HG.out (by omega) _⟩
theorem vm_11 (w : World) : Calls Try.prog 64 #[.int .i64 24] w (RES 13 8 ⟨#[118, 58, 105]⟩ w) := by
 go_enter Try.func64, Try.ntmps64
 go_wp2_with (go_at_call 62; first | ((with_reducible refine (within_yes _ _ _ (by omega) (by omega) _).mono ?_); rintro e w' ⟨rfl, rfl⟩) | ((with_reducible refine (within_no _ _ _ (by omega) _).mono ?_); rintro e w' ⟨rfl, rfl⟩))
 refine (lane_any _ _ _).mono ?_
 rintro e w1 ⟨rfl, hg⟩
 have hb := gr_block hg (heap_alloc_new w (.cells (shp 0 0 zs) 65))
 have HB := Lib.hid hb
 have HG := Lib.hid (gr_trans ((Gr.refl w).alloc _ _) hg)
 clear hb hg
 go_wp2_with (refine wpList_store_row rfl 65 _ _ rfl w.heap.size (shp _ _ _) rfl rfl 65 (shp 0 0 zs) HB.out infoS rfl (shp_one _ _ _) ?_)
 exact bodyPost_ret (v := .agg (shp _ _ _)) (results_cell_row Try.results64 _ _ w.heap.size 65 _ (0, 0) _ rfl (setRow_block HB.out) Try.underlying65 rfl infoS) rfl ⟨rfl, gr_setRow HG.out (by omega) _⟩
theorem vm_12 (w : World) : Calls Try.prog 64 #[.int .i64 25] w (RES 13 8 ⟨#[118, 58, 105]⟩ w) := by
 go_enter Try.func64, Try.ntmps64
 go_wp2_with (go_at_call 62; first | ((with_reducible refine (within_yes _ _ _ (by omega) (by omega) _).mono ?_); rintro e w' ⟨rfl, rfl⟩) | ((with_reducible refine (within_no _ _ _ (by omega) _).mono ?_); rintro e w' ⟨rfl, rfl⟩))
 refine (lane_any _ _ _).mono ?_
 rintro e w1 ⟨rfl, hg⟩
 have hb := gr_block hg (heap_alloc_new w (.cells (shp 0 0 zs) 65))
 have HB := Lib.hid hb
 have HG := Lib.hid (gr_trans ((Gr.refl w).alloc _ _) hg)
 clear hb hg
 go_wp2_with (refine wpList_store_row rfl 65 _ _ rfl w.heap.size (shp _ _ _) rfl rfl 65 (shp 0 0 zs) HB.out infoS rfl (shp_one _ _ _) ?_)
 exact bodyPost_ret (v := .agg (shp _ _ _)) (results_cell_row Try.results64 _ _ w.heap.size 65 _ (0, 0) _ rfl (setRow_block HB.out) Try.underlying65 rfl infoS) rfl ⟨rfl, gr_setRow HG.out (by omega) _⟩
theorem vm_13 (w : World) : Calls Try.prog 64 #[.int .i64 26] w (RES 13 8 ⟨#[118, 105, 58, 118]⟩ w) := by
 go_enter Try.func64, Try.ntmps64
 go_wp2_with (go_at_call 62; first | ((with_reducible refine (within_yes _ _ _ (by omega) (by omega) _).mono ?_); rintro e w' ⟨rfl, rfl⟩) | ((with_reducible refine (within_no _ _ _ (by omega) _).mono ?_); rintro e w' ⟨rfl, rfl⟩))
 refine (lane_any _ _ _).mono ?_
 rintro e w1 ⟨rfl, hg⟩
 have hb := gr_block hg (heap_alloc_new w (.cells (shp 0 0 zs) 65))
 have HB := Lib.hid hb
 have HG := Lib.hid (gr_trans ((Gr.refl w).alloc _ _) hg)
 clear hb hg
 go_wp2_with (refine wpList_store_row rfl 65 _ _ rfl w.heap.size (shp _ _ _) rfl rfl 65 (shp 0 0 zs) HB.out infoS rfl (shp_one _ _ _) ?_)
 exact bodyPost_ret (v := .agg (shp _ _ _)) (results_cell_row Try.results64 _ _ w.heap.size 65 _ (0, 0) _ rfl (setRow_block HB.out) Try.underlying65 rfl infoS) rfl ⟨rfl, gr_setRow HG.out (by omega) _⟩
theorem vm_14 (w : World) : Calls Try.prog 64 #[.int .i64 27] w (RES 13 4 ⟨#[118, 58, 105]⟩ w) := by
 go_enter Try.func64, Try.ntmps64
 go_wp2_with (go_at_call 62; first | ((with_reducible refine (within_yes _ _ _ (by omega) (by omega) _).mono ?_); rintro e w' ⟨rfl, rfl⟩) | ((with_reducible refine (within_no _ _ _ (by omega) _).mono ?_); rintro e w' ⟨rfl, rfl⟩))
 refine (lane_any _ _ _).mono ?_
 rintro e w1 ⟨rfl, hg⟩
 have hb := gr_block hg (heap_alloc_new w (.cells (shp 0 0 zs) 65))
 have HB := Lib.hid hb
 have HG := Lib.hid (gr_trans ((Gr.refl w).alloc _ _) hg)
 clear hb hg
 go_wp2_with (refine wpList_store_row rfl 65 _ _ rfl w.heap.size (shp _ _ _) rfl rfl 65 (shp 0 0 zs) HB.out infoS rfl (shp_one _ _ _) ?_)
 exact bodyPost_ret (v := .agg (shp _ _ _)) (results_cell_row Try.results64 _ _ w.heap.size 65 _ (0, 0) _ rfl (setRow_block HB.out) Try.underlying65 rfl infoS) rfl ⟨rfl, gr_setRow HG.out (by omega) _⟩
theorem vm_15 (w : World) : Calls Try.prog 64 #[.int .i64 28] w (RES 13 4 ⟨#[118, 105, 58, 118]⟩ w) := by
 go_enter Try.func64, Try.ntmps64
 go_wp2_with (go_at_call 62; first | ((with_reducible refine (within_yes _ _ _ (by omega) (by omega) _).mono ?_); rintro e w' ⟨rfl, rfl⟩) | ((with_reducible refine (within_no _ _ _ (by omega) _).mono ?_); rintro e w' ⟨rfl, rfl⟩))
 refine (lane_any _ _ _).mono ?_
 rintro e w1 ⟨rfl, hg⟩
 have hb := gr_block hg (heap_alloc_new w (.cells (shp 0 0 zs) 65))
 have HB := Lib.hid hb
 have HG := Lib.hid (gr_trans ((Gr.refl w).alloc _ _) hg)
 clear hb hg
 go_wp2_with (refine wpList_store_row rfl 65 _ _ rfl w.heap.size (shp _ _ _) rfl rfl 65 (shp 0 0 zs) HB.out infoS rfl (shp_one _ _ _) ?_)
 exact bodyPost_ret (v := .agg (shp _ _ _)) (results_cell_row Try.results64 _ _ w.heap.size 65 _ (0, 0) _ rfl (setRow_block HB.out) Try.underlying65 rfl infoS) rfl ⟨rfl, gr_setRow HG.out (by omega) _⟩
theorem vm_16 (w : World) : Calls Try.prog 64 #[.int .i64 29] w (RES 13 2 ⟨#[118, 58, 108]⟩ w) := by
 go_enter Try.func64, Try.ntmps64
 go_wp2_with (go_at_call 62; first | ((with_reducible refine (within_yes _ _ _ (by omega) (by omega) _).mono ?_); rintro e w' ⟨rfl, rfl⟩) | ((with_reducible refine (within_no _ _ _ (by omega) _).mono ?_); rintro e w' ⟨rfl, rfl⟩))
 refine (lane_any _ _ _).mono ?_
 rintro e w1 ⟨rfl, hg⟩
 have hb := gr_block hg (heap_alloc_new w (.cells (shp 0 0 zs) 65))
 have HB := Lib.hid hb
 have HG := Lib.hid (gr_trans ((Gr.refl w).alloc _ _) hg)
 clear hb hg
 go_wp2_with (refine wpList_store_row rfl 65 _ _ rfl w.heap.size (shp _ _ _) rfl rfl 65 (shp 0 0 zs) HB.out infoS rfl (shp_one _ _ _) ?_)
 exact bodyPost_ret (v := .agg (shp _ _ _)) (results_cell_row Try.results64 _ _ w.heap.size 65 _ (0, 0) _ rfl (setRow_block HB.out) Try.underlying65 rfl infoS) rfl ⟨rfl, gr_setRow HG.out (by omega) _⟩
theorem vm_17 (w : World) : Calls Try.prog 64 #[.int .i64 30] w (RES 13 2 ⟨#[118, 108, 58, 118]⟩ w) := by
 go_enter Try.func64, Try.ntmps64
 go_wp2_with (go_at_call 62; first | ((with_reducible refine (within_yes _ _ _ (by omega) (by omega) _).mono ?_); rintro e w' ⟨rfl, rfl⟩) | ((with_reducible refine (within_no _ _ _ (by omega) _).mono ?_); rintro e w' ⟨rfl, rfl⟩))
 refine (lane_any _ _ _).mono ?_
 rintro e w1 ⟨rfl, hg⟩
 have hb := gr_block hg (heap_alloc_new w (.cells (shp 0 0 zs) 65))
 have HB := Lib.hid hb
 have HG := Lib.hid (gr_trans ((Gr.refl w).alloc _ _) hg)
 clear hb hg
 go_wp2_with (refine wpList_store_row rfl 65 _ _ rfl w.heap.size (shp _ _ _) rfl rfl 65 (shp 0 0 zs) HB.out infoS rfl (shp_one _ _ _) ?_)
 exact bodyPost_ret (v := .agg (shp _ _ _)) (results_cell_row Try.results64 _ _ w.heap.size 65 _ (0, 0) _ rfl (setRow_block HB.out) Try.underlying65 rfl infoS) rfl ⟨rfl, gr_setRow HG.out (by omega) _⟩
theorem vm_18 (n : Int) (h0 : 31 ≤ n) (h1 : n ≤ 34) (w : World) : Calls Try.prog 64 #[.int .i64 n] w (RES 0 0 ⟨#[]⟩ w) := by
 go_enter Try.func64, Try.ntmps64
 go_wp2_with (go_at_call 62; first | ((with_reducible refine (within_yes _ _ _ (by omega) (by omega) _).mono ?_); rintro e w' ⟨rfl, rfl⟩) | ((with_reducible refine (within_no _ _ _ (by omega) _).mono ?_); rintro e w' ⟨rfl, rfl⟩))
 exact bodyPost_ret (v := .agg (shp _ _ _)) (by simp [results, Try.results64, go_sem, shp] <;> rfl) rfl ⟨rfl, (Gr.refl _).alloc _ _⟩
theorem vb_0 (n : Int) (h0 : 35 ≤ n) (h1 : n ≤ 64) (w : World) : Calls Try.prog 65 #[.int .i64 n] w (RES 1 0 ⟨#[118, 118, 58, 118]⟩ w) := by
 go_enter Try.func65, Try.ntmps65
 go_wp2_with (go_at_call 62; first | ((with_reducible refine (within_yes _ _ _ (by omega) (by omega) _).mono ?_); rintro e w' ⟨rfl, rfl⟩) | ((with_reducible refine (within_no _ _ _ (by omega) _).mono ?_); rintro e w' ⟨rfl, rfl⟩))
 refine (plain_any _ _).mono ?_
 rintro e w1 ⟨rfl, hg⟩
 have hb := gr_block hg (heap_alloc_new w (.cells (shp 0 0 zs) 65))
 have HB := Lib.hid hb
 have HG := Lib.hid (gr_trans ((Gr.refl w).alloc _ _) hg)
 clear hb hg
 go_wp2_with (refine wpList_store_row rfl 65 _ _ rfl w.heap.size (shp _ _ _) rfl rfl 65 (shp 0 0 zs) HB.out infoS rfl (shp_one _ _ _) ?_)
 exact bodyPost_ret (v := .agg (shp _ _ _)) (results_cell_row Try.results65 _ _ w.heap.size 65 _ (0, 0) _ rfl (setRow_block HB.out) Try.underlying65 rfl infoS) rfl ⟨rfl, gr_setRow HG.out (by omega) _⟩
theorem vb_1 (n : Int) (h0 : 65 ≤ n) (h1 : n ≤ 76) (w : World) : Calls Try.prog 65 #[.int .i64 n] w (RES 0 0 ⟨#[]⟩ w) := by
 go_enter Try.func65, Try.ntmps65
 go_wp2_with (go_at_call 62; first | ((with_reducible refine (within_yes _ _ _ (by omega) (by omega) _).mono ?_); rintro e w' ⟨rfl, rfl⟩) | ((with_reducible refine (within_no _ _ _ (by omega) _).mono ?_); rintro e w' ⟨rfl, rfl⟩))
 exact bodyPost_ret (v := .agg (shp _ _ _)) (by simp [results, Try.results65, go_sem, shp] <;> rfl) rfl ⟨rfl, (Gr.refl _).alloc _ _⟩
theorem vb_2 (w : World) : Calls Try.prog 65 #[.int .i64 77] w (RES 1 0 ⟨#[118, 58, 118]⟩ w) := by
 go_enter Try.func65, Try.ntmps65
 go_wp2_with (go_at_call 62; first | ((with_reducible refine (within_yes _ _ _ (by omega) (by omega) _).mono ?_); rintro e w' ⟨rfl, rfl⟩) | ((with_reducible refine (within_no _ _ _ (by omega) _).mono ?_); rintro e w' ⟨rfl, rfl⟩))
 refine (plain_any _ _).mono ?_
 rintro e w1 ⟨rfl, hg⟩
 have hb := gr_block hg (heap_alloc_new w (.cells (shp 0 0 zs) 65))
 have HB := Lib.hid hb
 have HG := Lib.hid (gr_trans ((Gr.refl w).alloc _ _) hg)
 clear hb hg
 go_wp2_with (refine wpList_store_row rfl 65 _ _ rfl w.heap.size (shp _ _ _) rfl rfl 65 (shp 0 0 zs) HB.out infoS rfl (shp_one _ _ _) ?_)
 exact bodyPost_ret (v := .agg (shp _ _ _)) (results_cell_row Try.results65 _ _ w.heap.size 65 _ (0, 0) _ rfl (setRow_block HB.out) Try.underlying65 rfl infoS) rfl ⟨rfl, gr_setRow HG.out (by omega) _⟩
theorem vb_3 (n : Int) (h0 : 78 ≤ n) (h1 : n ≤ 81) (w : World) : Calls Try.prog 65 #[.int .i64 n] w (RES 1 0 ⟨#[118, 118, 58, 118]⟩ w) := by
 go_enter Try.func65, Try.ntmps65
 go_wp2_with (go_at_call 62; first | ((with_reducible refine (within_yes _ _ _ (by omega) (by omega) _).mono ?_); rintro e w' ⟨rfl, rfl⟩) | ((with_reducible refine (within_no _ _ _ (by omega) _).mono ?_); rintro e w' ⟨rfl, rfl⟩))
 refine (plain_any _ _).mono ?_
 rintro e w1 ⟨rfl, hg⟩
 have hb := gr_block hg (heap_alloc_new w (.cells (shp 0 0 zs) 65))
 have HB := Lib.hid hb
 have HG := Lib.hid (gr_trans ((Gr.refl w).alloc _ _) hg)
 clear hb hg
 go_wp2_with (refine wpList_store_row rfl 65 _ _ rfl w.heap.size (shp _ _ _) rfl rfl 65 (shp 0 0 zs) HB.out infoS rfl (shp_one _ _ _) ?_)
 exact bodyPost_ret (v := .agg (shp _ _ _)) (results_cell_row Try.results65 _ _ w.heap.size 65 _ (0, 0) _ rfl (setRow_block HB.out) Try.underlying65 rfl infoS) rfl ⟨rfl, gr_setRow HG.out (by omega) _⟩
theorem vb_4 (w : World) : Calls Try.prog 65 #[.int .i64 82] w (RES 1 0 ⟨#[118, 118, 118, 58, 118]⟩ w) := by
 go_enter Try.func65, Try.ntmps65
 go_wp2_with (go_at_call 62; first | ((with_reducible refine (within_yes _ _ _ (by omega) (by omega) _).mono ?_); rintro e w' ⟨rfl, rfl⟩) | ((with_reducible refine (within_no _ _ _ (by omega) _).mono ?_); rintro e w' ⟨rfl, rfl⟩))
 refine (plain_any _ _).mono ?_
 rintro e w1 ⟨rfl, hg⟩
 have hb := gr_block hg (heap_alloc_new w (.cells (shp 0 0 zs) 65))
 have HB := Lib.hid hb
 have HG := Lib.hid (gr_trans ((Gr.refl w).alloc _ _) hg)
 clear hb hg
 go_wp2_with (refine wpList_store_row rfl 65 _ _ rfl w.heap.size (shp _ _ _) rfl rfl 65 (shp 0 0 zs) HB.out infoS rfl (shp_one _ _ _) ?_)
 exact bodyPost_ret (v := .agg (shp _ _ _)) (results_cell_row Try.results65 _ _ w.heap.size 65 _ (0, 0) _ rfl (setRow_block HB.out) Try.underlying65 rfl infoS) rfl ⟨rfl, gr_setRow HG.out (by omega) _⟩
theorem vb_5 (w : World) : Calls Try.prog 65 #[.int .i64 83] w (RES 1 0 ⟨#[118, 58, 105]⟩ w) := by
 go_enter Try.func65, Try.ntmps65
 go_wp2_with (go_at_call 62; first | ((with_reducible refine (within_yes _ _ _ (by omega) (by omega) _).mono ?_); rintro e w' ⟨rfl, rfl⟩) | ((with_reducible refine (within_no _ _ _ (by omega) _).mono ?_); rintro e w' ⟨rfl, rfl⟩))
 refine (plain_any _ _).mono ?_
 rintro e w1 ⟨rfl, hg⟩
 have hb := gr_block hg (heap_alloc_new w (.cells (shp 0 0 zs) 65))
 have HB := Lib.hid hb
 have HG := Lib.hid (gr_trans ((Gr.refl w).alloc _ _) hg)
 clear hb hg
 go_wp2_with (refine wpList_store_row rfl 65 _ _ rfl w.heap.size (shp _ _ _) rfl rfl 65 (shp 0 0 zs) HB.out infoS rfl (shp_one _ _ _) ?_)
 exact bodyPost_ret (v := .agg (shp _ _ _)) (results_cell_row Try.results65 _ _ w.heap.size 65 _ (0, 0) _ rfl (setRow_block HB.out) Try.underlying65 rfl infoS) rfl ⟨rfl, gr_setRow HG.out (by omega) _⟩
theorem vn_0 (n : Int) (h0 : 94 ≤ n) (h1 : n ≤ 95) (w : World) : Calls Try.prog 66 #[.int .i64 n] w (RES 0 0 ⟨#[]⟩ w) := by
 go_enter Try.func66, Try.ntmps66
 go_wp2_with (go_at_call 62; first | ((with_reducible refine (within_yes _ _ _ (by omega) (by omega) _).mono ?_); rintro e w' ⟨rfl, rfl⟩) | ((with_reducible refine (within_no _ _ _ (by omega) _).mono ?_); rintro e w' ⟨rfl, rfl⟩))
 exact bodyPost_ret (v := .agg (shp _ _ _)) (by simp [results, Try.results66, go_sem, shp] <;> rfl) rfl ⟨rfl, (Gr.refl _).alloc _ _⟩
theorem vn_1 (n : Int) (h0 : 96 ≤ n) (h1 : n ≤ 98) (w : World) : Calls Try.prog 66 #[.int .i64 n] w (RES 1 0 ⟨#[118, 58, 118]⟩ w) := by
 go_enter Try.func66, Try.ntmps66
 go_wp2_with (go_at_call 62; first | ((with_reducible refine (within_yes _ _ _ (by omega) (by omega) _).mono ?_); rintro e w' ⟨rfl, rfl⟩) | ((with_reducible refine (within_no _ _ _ (by omega) _).mono ?_); rintro e w' ⟨rfl, rfl⟩))
 refine (plain_any _ _).mono ?_
 rintro e w1 ⟨rfl, hg⟩
 have hb := gr_block hg (heap_alloc_new w (.cells (shp 0 0 zs) 65))
 have HB := Lib.hid hb
 have HG := Lib.hid (gr_trans ((Gr.refl w).alloc _ _) hg)
 clear hb hg
 go_wp2_with (refine wpList_store_row rfl 65 _ _ rfl w.heap.size (shp _ _ _) rfl rfl 65 (shp 0 0 zs) HB.out infoS rfl (shp_one _ _ _) ?_)
 exact bodyPost_ret (v := .agg (shp _ _ _)) (results_cell_row Try.results66 _ _ w.heap.size 65 _ (0, 0) _ rfl (setRow_block HB.out) Try.underlying65 rfl infoS) rfl ⟨rfl, gr_setRow HG.out (by omega) _⟩
theorem vn_2 (n : Int) (h0 : 99 ≤ n) (h1 : n ≤ 100) (w : World) : Calls Try.prog 66 #[.int .i64 n] w (RES 1 0 ⟨#[118, 58, 105]⟩ w) := by
 go_enter Try.func66, Try.ntmps66
 go_wp2_with (go_at_call 62; first | ((with_reducible refine (within_yes _ _ _ (by omega) (by omega) _).mono ?_); rintro e w' ⟨rfl, rfl⟩) | ((with_reducible refine (within_no _ _ _ (by omega) _).mono ?_); rintro e w' ⟨rfl, rfl⟩))
 refine (plain_any _ _).mono ?_
 rintro e w1 ⟨rfl, hg⟩
 have hb := gr_block hg (heap_alloc_new w (.cells (shp 0 0 zs) 65))
 have HB := Lib.hid hb
 have HG := Lib.hid (gr_trans ((Gr.refl w).alloc _ _) hg)
 clear hb hg
 go_wp2_with (refine wpList_store_row rfl 65 _ _ rfl w.heap.size (shp _ _ _) rfl rfl 65 (shp 0 0 zs) HB.out infoS rfl (shp_one _ _ _) ?_)
 exact bodyPost_ret (v := .agg (shp _ _ _)) (results_cell_row Try.results66 _ _ w.heap.size 65 _ (0, 0) _ rfl (setRow_block HB.out) Try.underlying65 rfl infoS) rfl ⟨rfl, gr_setRow HG.out (by omega) _⟩
theorem vn_3 (n : Int) (h0 : 101 ≤ n) (h1 : n ≤ 102) (w : World) : Calls Try.prog 66 #[.int .i64 n] w (RES 1 0 ⟨#[118, 118, 58, 118]⟩ w) := by
 go_enter Try.func66, Try.ntmps66
 go_wp2_with (go_at_call 62; first | ((with_reducible refine (within_yes _ _ _ (by omega) (by omega) _).mono ?_); rintro e w' ⟨rfl, rfl⟩) | ((with_reducible refine (within_no _ _ _ (by omega) _).mono ?_); rintro e w' ⟨rfl, rfl⟩))
 refine (plain_any _ _).mono ?_
 rintro e w1 ⟨rfl, hg⟩
 have hb := gr_block hg (heap_alloc_new w (.cells (shp 0 0 zs) 65))
 have HB := Lib.hid hb
 have HG := Lib.hid (gr_trans ((Gr.refl w).alloc _ _) hg)
 clear hb hg
 go_wp2_with (refine wpList_store_row rfl 65 _ _ rfl w.heap.size (shp _ _ _) rfl rfl 65 (shp 0 0 zs) HB.out infoS rfl (shp_one _ _ _) ?_)
 exact bodyPost_ret (v := .agg (shp _ _ _)) (results_cell_row Try.results66 _ _ w.heap.size 65 _ (0, 0) _ rfl (setRow_block HB.out) Try.underlying65 rfl infoS) rfl ⟨rfl, gr_setRow HG.out (by omega) _⟩
theorem vn_4 (n : Int) (h0 : 103 ≤ n) (h1 : n ≤ 106) (w : World) : Calls Try.prog 66 #[.int .i64 n] w (RES 0 0 ⟨#[]⟩ w) := by
 go_enter Try.func66, Try.ntmps66
 go_wp2_with (go_at_call 62; first | ((with_reducible refine (within_yes _ _ _ (by omega) (by omega) _).mono ?_); rintro e w' ⟨rfl, rfl⟩) | ((with_reducible refine (within_no _ _ _ (by omega) _).mono ?_); rintro e w' ⟨rfl, rfl⟩))
 exact bodyPost_ret (v := .agg (shp _ _ _)) (by simp [results, Try.results66, go_sem, shp] <;> rfl) rfl ⟨rfl, (Gr.refl _).alloc _ _⟩
theorem vn_5 (n : Int) (h0 : 107 ≤ n) (h1 : n ≤ 109) (w : World) : Calls Try.prog 66 #[.int .i64 n] w (RES 1 0 ⟨#[118, 105, 58, 118]⟩ w) := by
 go_enter Try.func66, Try.ntmps66
 go_wp2_with (go_at_call 62; first | ((with_reducible refine (within_yes _ _ _ (by omega) (by omega) _).mono ?_); rintro e w' ⟨rfl, rfl⟩) | ((with_reducible refine (within_no _ _ _ (by omega) _).mono ?_); rintro e w' ⟨rfl, rfl⟩))
 refine (plain_any _ _).mono ?_
 rintro e w1 ⟨rfl, hg⟩
 have hb := gr_block hg (heap_alloc_new w (.cells (shp 0 0 zs) 65))
 have HB := Lib.hid hb
 have HG := Lib.hid (gr_trans ((Gr.refl w).alloc _ _) hg)
 clear hb hg
 go_wp2_with (refine wpList_store_row rfl 65 _ _ rfl w.heap.size (shp _ _ _) rfl rfl 65 (shp 0 0 zs) HB.out infoS rfl (shp_one _ _ _) ?_)
 exact bodyPost_ret (v := .agg (shp _ _ _)) (results_cell_row Try.results66 _ _ w.heap.size 65 _ (0, 0) _ rfl (setRow_block HB.out) Try.underlying65 rfl infoS) rfl ⟨rfl, gr_setRow HG.out (by omega) _⟩
theorem vn_6 (n : Int) (h0 : 110 ≤ n) (h1 : n ≤ 115) (w : World) : Calls Try.prog 66 #[.int .i64 n] w (RES 1 0 ⟨#[118, 118, 58, 118]⟩ w) := by
 go_enter Try.func66, Try.ntmps66
 go_wp2_with (go_at_call 62; first | ((with_reducible refine (within_yes _ _ _ (by omega) (by omega) _).mono ?_); rintro e w' ⟨rfl, rfl⟩) | ((with_reducible refine (within_no _ _ _ (by omega) _).mono ?_); rintro e w' ⟨rfl, rfl⟩))
 refine (plain_any _ _).mono ?_
 rintro e w1 ⟨rfl, hg⟩
 have hb := gr_block hg (heap_alloc_new w (.cells (shp 0 0 zs) 65))
 have HB := Lib.hid hb
 have HG := Lib.hid (gr_trans ((Gr.refl w).alloc _ _) hg)
 clear hb hg
 go_wp2_with (refine wpList_store_row rfl 65 _ _ rfl w.heap.size (shp _ _ _) rfl rfl 65 (shp 0 0 zs) HB.out infoS rfl (shp_one _ _ _) ?_)
 exact bodyPost_ret (v := .agg (shp _ _ _)) (results_cell_row Try.results66 _ _ w.heap.size 65 _ (0, 0) _ rfl (setRow_block HB.out) Try.underlying65 rfl infoS) rfl ⟨rfl, gr_setRow HG.out (by omega) _⟩
theorem vn_7 (n : Int) (h0 : 116 ≤ n) (h1 : n ≤ 117) (w : World) : Calls Try.prog 66 #[.int .i64 n] w (RES 0 0 ⟨#[]⟩ w) := by
 go_enter Try.func66, Try.ntmps66
 go_wp2_with (go_at_call 62; first | ((with_reducible refine (within_yes _ _ _ (by omega) (by omega) _).mono ?_); rintro e w' ⟨rfl, rfl⟩) | ((with_reducible refine (within_no _ _ _ (by omega) _).mono ?_); rintro e w' ⟨rfl, rfl⟩))
 exact bodyPost_ret (v := .agg (shp _ _ _)) (by simp [results, Try.results66, go_sem, shp] <;> rfl) rfl ⟨rfl, (Gr.refl _).alloc _ _⟩
theorem vn_8 (n : Int) (h0 : 118 ≤ n) (h1 : n ≤ 121) (w : World) : Calls Try.prog 66 #[.int .i64 n] w (RES 1 0 ⟨#[118, 118, 58, 118]⟩ w) := by
 go_enter Try.func66, Try.ntmps66
 go_wp2_with (go_at_call 62; first | ((with_reducible refine (within_yes _ _ _ (by omega) (by omega) _).mono ?_); rintro e w' ⟨rfl, rfl⟩) | ((with_reducible refine (within_no _ _ _ (by omega) _).mono ?_); rintro e w' ⟨rfl, rfl⟩))
 refine (plain_any _ _).mono ?_
 rintro e w1 ⟨rfl, hg⟩
 have hb := gr_block hg (heap_alloc_new w (.cells (shp 0 0 zs) 65))
 have HB := Lib.hid hb
 have HG := Lib.hid (gr_trans ((Gr.refl w).alloc _ _) hg)
 clear hb hg
 go_wp2_with (refine wpList_store_row rfl 65 _ _ rfl w.heap.size (shp _ _ _) rfl rfl 65 (shp 0 0 zs) HB.out infoS rfl (shp_one _ _ _) ?_)
 exact bodyPost_ret (v := .agg (shp _ _ _)) (results_cell_row Try.results66 _ _ w.heap.size 65 _ (0, 0) _ rfl (setRow_block HB.out) Try.underlying65 rfl infoS) rfl ⟨rfl, gr_setRow HG.out (by omega) _⟩
theorem vn_9 (w : World) : Calls Try.prog 66 #[.int .i64 122] w (RES 0 0 ⟨#[]⟩ w) := by
 go_enter Try.func66, Try.ntmps66
 go_wp2_with (go_at_call 62; first | ((with_reducible refine (within_yes _ _ _ (by omega) (by omega) _).mono ?_); rintro e w' ⟨rfl, rfl⟩) | ((with_reducible refine (within_no _ _ _ (by omega) _).mono ?_); rintro e w' ⟨rfl, rfl⟩))
 exact bodyPost_ret (v := .agg (shp _ _ _)) (by simp [results, Try.results66, go_sem, shp] <;> rfl) rfl ⟨rfl, (Gr.refl _).alloc _ _⟩
theorem vn_10 (w : World) : Calls Try.prog 66 #[.int .i64 123] w (RES 1 0 ⟨#[118, 118, 58, 118]⟩ w) := by
 go_enter Try.func66, Try.ntmps66
 go_wp2_with (go_at_call 62; first | ((with_reducible refine (within_yes _ _ _ (by omega) (by omega) _).mono ?_); rintro e w' ⟨rfl, rfl⟩) | ((with_reducible refine (within_no _ _ _ (by omega) _).mono ?_); rintro e w' ⟨rfl, rfl⟩))
 refine (plain_any _ _).mono ?_
 rintro e w1 ⟨rfl, hg⟩
 have hb := gr_block hg (heap_alloc_new w (.cells (shp 0 0 zs) 65))
 have HB := Lib.hid hb
 have HG := Lib.hid (gr_trans ((Gr.refl w).alloc _ _) hg)
 clear hb hg
 go_wp2_with (refine wpList_store_row rfl 65 _ _ rfl w.heap.size (shp _ _ _) rfl rfl 65 (shp 0 0 zs) HB.out infoS rfl (shp_one _ _ _) ?_)
 exact bodyPost_ret (v := .agg (shp _ _ _)) (results_cell_row Try.results66 _ _ w.heap.size 65 _ (0, 0) _ rfl (setRow_block HB.out) Try.underlying65 rfl infoS) rfl ⟨rfl, gr_setRow HG.out (by omega) _⟩
theorem vn_11 (n : Int) (h0 : 124 ≤ n) (h1 : n ≤ 129) (w : World) : Calls Try.prog 66 #[.int .i64 n] w (RES 1 0 ⟨#[118, 58, 118]⟩ w) := by
 go_enter Try.func66, Try.ntmps66
 go_wp2_with (go_at_call 62; first | ((with_reducible refine (within_yes _ _ _ (by omega) (by omega) _).mono ?_); rintro e w' ⟨rfl, rfl⟩) | ((with_reducible refine (within_no _ _ _ (by omega) _).mono ?_); rintro e w' ⟨rfl, rfl⟩))
 refine (plain_any _ _).mono ?_
 rintro e w1 ⟨rfl, hg⟩
 have hb := gr_block hg (heap_alloc_new w (.cells (shp 0 0 zs) 65))
 have HB := Lib.hid hb
 have HG := Lib.hid (gr_trans ((Gr.refl w).alloc _ _) hg)
 clear hb hg
 go_wp2_with (refine wpList_store_row rfl 65 _ _ rfl w.heap.size (shp _ _ _) rfl rfl 65 (shp 0 0 zs) HB.out infoS rfl (shp_one _ _ _) ?_)
 exact bodyPost_ret (v := .agg (shp _ _ _)) (results_cell_row Try.results66 _ _ w.heap.size 65 _ (0, 0) _ rfl (setRow_block HB.out) Try.underlying65 rfl infoS) rfl ⟨rfl, gr_setRow HG.out (by omega) _⟩
theorem vn_12 (w : World) : Calls Try.prog 66 #[.int .i64 130] w (RES 1 0 ⟨#[118, 118, 58, 118]⟩ w) := by
 go_enter Try.func66, Try.ntmps66
 go_wp2_with (go_at_call 62; first | ((with_reducible refine (within_yes _ _ _ (by omega) (by omega) _).mono ?_); rintro e w' ⟨rfl, rfl⟩) | ((with_reducible refine (within_no _ _ _ (by omega) _).mono ?_); rintro e w' ⟨rfl, rfl⟩))
 refine (plain_any _ _).mono ?_
 rintro e w1 ⟨rfl, hg⟩
 have hb := gr_block hg (heap_alloc_new w (.cells (shp 0 0 zs) 65))
 have HB := Lib.hid hb
 have HG := Lib.hid (gr_trans ((Gr.refl w).alloc _ _) hg)
 clear hb hg
 go_wp2_with (refine wpList_store_row rfl 65 _ _ rfl w.heap.size (shp _ _ _) rfl rfl 65 (shp 0 0 zs) HB.out infoS rfl (shp_one _ _ _) ?_)
 exact bodyPost_ret (v := .agg (shp _ _ _)) (results_cell_row Try.results66 _ _ w.heap.size 65 _ (0, 0) _ rfl (setRow_block HB.out) Try.underlying65 rfl infoS) rfl ⟨rfl, gr_setRow HG.out (by omega) _⟩
theorem vn_13 (n : Int) (h0 : 131 ≤ n) (h1 : n ≤ 132) (w : World) : Calls Try.prog 66 #[.int .i64 n] w (RES 1 0 ⟨#[118, 58, 105]⟩ w) := by
 go_enter Try.func66, Try.ntmps66
 go_wp2_with (go_at_call 62; first | ((with_reducible refine (within_yes _ _ _ (by omega) (by omega) _).mono ?_); rintro e w' ⟨rfl, rfl⟩) | ((with_reducible refine (within_no _ _ _ (by omega) _).mono ?_); rintro e w' ⟨rfl, rfl⟩))
 refine (plain_any _ _).mono ?_
 rintro e w1 ⟨rfl, hg⟩
 have hb := gr_block hg (heap_alloc_new w (.cells (shp 0 0 zs) 65))
 have HB := Lib.hid hb
 have HG := Lib.hid (gr_trans ((Gr.refl w).alloc _ _) hg)
 clear hb hg
 go_wp2_with (refine wpList_store_row rfl 65 _ _ rfl w.heap.size (shp _ _ _) rfl rfl 65 (shp 0 0 zs) HB.out infoS rfl (shp_one _ _ _) ?_)
 exact bodyPost_ret (v := .agg (shp _ _ _)) (results_cell_row Try.results66 _ _ w.heap.size 65 _ (0, 0) _ rfl (setRow_block HB.out) Try.underlying65 rfl infoS) rfl ⟨rfl, gr_setRow HG.out (by omega) _⟩
theorem vn_14 (n : Int) (h0 : 133 ≤ n) (h1 : n ≤ 134) (w : World) : Calls Try.prog 66 #[.int .i64 n] w (RES 1 0 ⟨#[118, 118, 58, 118]⟩ w) := by
 go_enter Try.func66, Try.ntmps66
 go_wp2_with (go_at_call 62; first | ((with_reducible refine (within_yes _ _ _ (by omega) (by omega) _).mono ?_); rintro e w' ⟨rfl, rfl⟩) | ((with_reducible refine (within_no _ _ _ (by omega) _).mono ?_); rintro e w' ⟨rfl, rfl⟩))
 refine (plain_any _ _).mono ?_
 rintro e w1 ⟨rfl, hg⟩
 have hb := gr_block hg (heap_alloc_new w (.cells (shp 0 0 zs) 65))
 have HB := Lib.hid hb
 have HG := Lib.hid (gr_trans ((Gr.refl w).alloc _ _) hg)
 clear hb hg
 go_wp2_with (refine wpList_store_row rfl 65 _ _ rfl w.heap.size (shp _ _ _) rfl rfl 65 (shp 0 0 zs) HB.out infoS rfl (shp_one _ _ _) ?_)
 exact bodyPost_ret (v := .agg (shp _ _ _)) (results_cell_row Try.results66 _ _ w.heap.size 65 _ (0, 0) _ rfl (setRow_block HB.out) Try.underlying65 rfl infoS) rfl ⟨rfl, gr_setRow HG.out (by omega) _⟩
theorem vn_15 (n : Int) (h0 : 135 ≤ n) (h1 : n ≤ 138) (w : World) : Calls Try.prog 66 #[.int .i64 n] w (RES 1 0 ⟨#[118, 58, 118]⟩ w) := by
 go_enter Try.func66, Try.ntmps66
 go_wp2_with (go_at_call 62; first | ((with_reducible refine (within_yes _ _ _ (by omega) (by omega) _).mono ?_); rintro e w' ⟨rfl, rfl⟩) | ((with_reducible refine (within_no _ _ _ (by omega) _).mono ?_); rintro e w' ⟨rfl, rfl⟩))
 refine (plain_any _ _).mono ?_
 rintro e w1 ⟨rfl, hg⟩
 have hb := gr_block hg (heap_alloc_new w (.cells (shp 0 0 zs) 65))
 have HB := Lib.hid hb
 have HG := Lib.hid (gr_trans ((Gr.refl w).alloc _ _) hg)
 clear hb hg
 go_wp2_with (refine wpList_store_row rfl 65 _ _ rfl w.heap.size (shp _ _ _) rfl rfl 65 (shp 0 0 zs) HB.out infoS rfl (shp_one _ _ _) ?_)
 exact bodyPost_ret (v := .agg (shp _ _ _)) (results_cell_row Try.results66 _ _ w.heap.size 65 _ (0, 0) _ rfl (setRow_block HB.out) Try.underlying65 rfl infoS) rfl ⟨rfl, gr_setRow HG.out (by omega) _⟩
theorem vn_16 (n : Int) (h0 : 139 ≤ n) (h1 : n ≤ 141) (w : World) : Calls Try.prog 66 #[.int .i64 n] w (RES 1 0 ⟨#[118, 105, 58, 118]⟩ w) := by
 go_enter Try.func66, Try.ntmps66
 go_wp2_with (go_at_call 62; first | ((with_reducible refine (within_yes _ _ _ (by omega) (by omega) _).mono ?_); rintro e w' ⟨rfl, rfl⟩) | ((with_reducible refine (within_no _ _ _ (by omega) _).mono ?_); rintro e w' ⟨rfl, rfl⟩))
 refine (plain_any _ _).mono ?_
 rintro e w1 ⟨rfl, hg⟩
 have hb := gr_block hg (heap_alloc_new w (.cells (shp 0 0 zs) 65))
 have HB := Lib.hid hb
 have HG := Lib.hid (gr_trans ((Gr.refl w).alloc _ _) hg)
 clear hb hg
 go_wp2_with (refine wpList_store_row rfl 65 _ _ rfl w.heap.size (shp _ _ _) rfl rfl 65 (shp 0 0 zs) HB.out infoS rfl (shp_one _ _ _) ?_)
 exact bodyPost_ret (v := .agg (shp _ _ _)) (results_cell_row Try.results66 _ _ w.heap.size 65 _ (0, 0) _ rfl (setRow_block HB.out) Try.underlying65 rfl infoS) rfl ⟨rfl, gr_setRow HG.out (by omega) _⟩
theorem vn_17 (n : Int) (h0 : 142 ≤ n) (h1 : n ≤ 147) (w : World) : Calls Try.prog 66 #[.int .i64 n] w (RES 1 0 ⟨#[118, 118, 58, 118]⟩ w) := by
 go_enter Try.func66, Try.ntmps66
 go_wp2_with (go_at_call 62; first | ((with_reducible refine (within_yes _ _ _ (by omega) (by omega) _).mono ?_); rintro e w' ⟨rfl, rfl⟩) | ((with_reducible refine (within_no _ _ _ (by omega) _).mono ?_); rintro e w' ⟨rfl, rfl⟩))
 refine (plain_any _ _).mono ?_
 rintro e w1 ⟨rfl, hg⟩
 have hb := gr_block hg (heap_alloc_new w (.cells (shp 0 0 zs) 65))
 have HB := Lib.hid hb
 have HG := Lib.hid (gr_trans ((Gr.refl w).alloc _ _) hg)
 clear hb hg
 go_wp2_with (refine wpList_store_row rfl 65 _ _ rfl w.heap.size (shp _ _ _) rfl rfl 65 (shp 0 0 zs) HB.out infoS rfl (shp_one _ _ _) ?_)
 exact bodyPost_ret (v := .agg (shp _ _ _)) (results_cell_row Try.results66 _ _ w.heap.size 65 _ (0, 0) _ rfl (setRow_block HB.out) Try.underlying65 rfl infoS) rfl ⟨rfl, gr_setRow HG.out (by omega) _⟩
theorem vn_18 (w : World) : Calls Try.prog 66 #[.int .i64 148] w (RES 0 0 ⟨#[]⟩ w) := by
 go_enter Try.func66, Try.ntmps66
 go_wp2_with (go_at_call 62; first | ((with_reducible refine (within_yes _ _ _ (by omega) (by omega) _).mono ?_); rintro e w' ⟨rfl, rfl⟩) | ((with_reducible refine (within_no _ _ _ (by omega) _).mono ?_); rintro e w' ⟨rfl, rfl⟩))
 exact bodyPost_ret (v := .agg (shp _ _ _)) (by simp [results, Try.results66, go_sem, shp] <;> rfl) rfl ⟨rfl, (Gr.refl _).alloc _ _⟩
theorem vn_19 (n : Int) (h0 : 149 ≤ n) (h1 : n ≤ 153) (w : World) : Calls Try.prog 66 #[.int .i64 n] w (RES 1 0 ⟨#[118, 118, 58, 118]⟩ w) := by
 go_enter Try.func66, Try.ntmps66
 go_wp2_with (go_at_call 62; first | ((with_reducible refine (within_yes _ _ _ (by omega) (by omega) _).mono ?_); rintro e w' ⟨rfl, rfl⟩) | ((with_reducible refine (within_no _ _ _ (by omega) _).mono ?_); rintro e w' ⟨rfl, rfl⟩))
 refine (plain_any _ _).mono ?_
 rintro e w1 ⟨rfl, hg⟩
 have hb := gr_block hg (heap_alloc_new w (.cells (shp 0 0 zs) 65))
 have HB := Lib.hid hb
 have HG := Lib.hid (gr_trans ((Gr.refl w).alloc _ _) hg)
 clear hb hg
 go_wp2_with (refine wpList_store_row rfl 65 _ _ rfl w.heap.size (shp _ _ _) rfl rfl 65 (shp 0 0 zs) HB.out infoS rfl (shp_one _ _ _) ?_)
 exact bodyPost_ret (v := .agg (shp _ _ _)) (results_cell_row Try.results66 _ _ w.heap.size 65 _ (0, 0) _ rfl (setRow_block HB.out) Try.underlying65 rfl infoS) rfl ⟨rfl, gr_setRow HG.out (by omega) _⟩
theorem vn_20 (w : World) : Calls Try.prog 66 #[.int .i64 154] w (RES 0 0 ⟨#[]⟩ w) := by
 go_enter Try.func66, Try.ntmps66
 go_wp2_with (go_at_call 62; first | ((with_reducible refine (within_yes _ _ _ (by omega) (by omega) _).mono ?_); rintro e w' ⟨rfl, rfl⟩) | ((with_reducible refine (within_no _ _ _ (by omega) _).mono ?_); rintro e w' ⟨rfl, rfl⟩))
 exact bodyPost_ret (v := .agg (shp _ _ _)) (by simp [results, Try.results66, go_sem, shp] <;> rfl) rfl ⟨rfl, (Gr.refl _).alloc _ _⟩
theorem vn_21 (n : Int) (h0 : 155 ≤ n) (h1 : n ≤ 159) (w : World) : Calls Try.prog 66 #[.int .i64 n] w (RES 1 0 ⟨#[118, 118, 58, 118]⟩ w) := by
 go_enter Try.func66, Try.ntmps66
 go_wp2_with (go_at_call 62; first | ((with_reducible refine (within_yes _ _ _ (by omega) (by omega) _).mono ?_); rintro e w' ⟨rfl, rfl⟩) | ((with_reducible refine (within_no _ _ _ (by omega) _).mono ?_); rintro e w' ⟨rfl, rfl⟩))
 refine (plain_any _ _).mono ?_
 rintro e w1 ⟨rfl, hg⟩
 have hb := gr_block hg (heap_alloc_new w (.cells (shp 0 0 zs) 65))
 have HB := Lib.hid hb
 have HG := Lib.hid (gr_trans ((Gr.refl w).alloc _ _) hg)
 clear hb hg
 go_wp2_with (refine wpList_store_row rfl 65 _ _ rfl w.heap.size (shp _ _ _) rfl rfl 65 (shp 0 0 zs) HB.out infoS rfl (shp_one _ _ _) ?_)
 exact bodyPost_ret (v := .agg (shp _ _ _)) (results_cell_row Try.results66 _ _ w.heap.size 65 _ (0, 0) _ rfl (setRow_block HB.out) Try.underlying65 rfl infoS) rfl ⟨rfl, gr_setRow HG.out (by omega) _⟩
theorem vw_0 (n : Int) (h0 : 160 ≤ n) (h1 : n ≤ 161) (w : World) : Calls Try.prog 67 #[.int .i64 n] w (RES 1 0 ⟨#[118, 58, 118]⟩ w) := by
 go_enter Try.func67, Try.ntmps67
 go_wp2_with (go_at_call 62; first | ((with_reducible refine (within_yes _ _ _ (by omega) (by omega) _).mono ?_); rintro e w' ⟨rfl, rfl⟩) | ((with_reducible refine (within_no _ _ _ (by omega) _).mono ?_); rintro e w' ⟨rfl, rfl⟩))
 refine (plain_any _ _).mono ?_
 rintro e w1 ⟨rfl, hg⟩
 have hb := gr_block hg (heap_alloc_new w (.cells (shp 0 0 zs) 65))
 have HB := Lib.hid hb
 have HG := Lib.hid (gr_trans ((Gr.refl w).alloc _ _) hg)
 clear hb hg
 go_wp2_with (refine wpList_store_row rfl 65 _ _ rfl w.heap.size (shp _ _ _) rfl rfl 65 (shp 0 0 zs) HB.out infoS rfl (shp_one _ _ _) ?_)
 exact bodyPost_ret (v := .agg (shp _ _ _)) (results_cell_row Try.results67 _ _ w.heap.size 65 _ (0, 0) _ rfl (setRow_block HB.out) Try.underlying65 rfl infoS) rfl ⟨rfl, gr_setRow HG.out (by omega) _⟩
theorem vw_1 (w : World) : Calls Try.prog 67 #[.int .i64 162] w (RES 0 0 ⟨#[]⟩ w) := by
 go_enter Try.func67, Try.ntmps67
 go_wp2_with (go_at_call 62; first | ((with_reducible refine (within_yes _ _ _ (by omega) (by omega) _).mono ?_); rintro e w' ⟨rfl, rfl⟩) | ((with_reducible refine (within_no _ _ _ (by omega) _).mono ?_); rintro e w' ⟨rfl, rfl⟩))
 exact bodyPost_ret (v := .agg (shp _ _ _)) (by simp [results, Try.results67, go_sem, shp] <;> rfl) rfl ⟨rfl, (Gr.refl _).alloc _ _⟩
theorem vw_2 (n : Int) (h0 : 163 ≤ n) (h1 : n ≤ 164) (w : World) : Calls Try.prog 67 #[.int .i64 n] w (RES 1 0 ⟨#[118, 58, 105]⟩ w) := by
 go_enter Try.func67, Try.ntmps67
 go_wp2_with (go_at_call 62; first | ((with_reducible refine (within_yes _ _ _ (by omega) (by omega) _).mono ?_); rintro e w' ⟨rfl, rfl⟩) | ((with_reducible refine (within_no _ _ _ (by omega) _).mono ?_); rintro e w' ⟨rfl, rfl⟩))
 refine (plain_any _ _).mono ?_
 rintro e w1 ⟨rfl, hg⟩
 have hb := gr_block hg (heap_alloc_new w (.cells (shp 0 0 zs) 65))
 have HB := Lib.hid hb
 have HG := Lib.hid (gr_trans ((Gr.refl w).alloc _ _) hg)
 clear hb hg
 go_wp2_with (refine wpList_store_row rfl 65 _ _ rfl w.heap.size (shp _ _ _) rfl rfl 65 (shp 0 0 zs) HB.out infoS rfl (shp_one _ _ _) ?_)
 exact bodyPost_ret (v := .agg (shp _ _ _)) (results_cell_row Try.results67 _ _ w.heap.size 65 _ (0, 0) _ rfl (setRow_block HB.out) Try.underlying65 rfl infoS) rfl ⟨rfl, gr_setRow HG.out (by omega) _⟩
theorem vw_3 (n : Int) (h0 : 165 ≤ n) (h1 : n ≤ 166) (w : World) : Calls Try.prog 67 #[.int .i64 n] w (RES 0 0 ⟨#[]⟩ w) := by
 go_enter Try.func67, Try.ntmps67
 go_wp2_with (go_at_call 62; first | ((with_reducible refine (within_yes _ _ _ (by omega) (by omega) _).mono ?_); rintro e w' ⟨rfl, rfl⟩) | ((with_reducible refine (within_no _ _ _ (by omega) _).mono ?_); rintro e w' ⟨rfl, rfl⟩))
 exact bodyPost_ret (v := .agg (shp _ _ _)) (by simp [results, Try.results67, go_sem, shp] <;> rfl) rfl ⟨rfl, (Gr.refl _).alloc _ _⟩
theorem vw_4 (n : Int) (h0 : 167 ≤ n) (h1 : n ≤ 170) (w : World) : Calls Try.prog 67 #[.int .i64 n] w (RES 1 0 ⟨#[118, 58, 118]⟩ w) := by
 go_enter Try.func67, Try.ntmps67
 go_wp2_with (go_at_call 62; first | ((with_reducible refine (within_yes _ _ _ (by omega) (by omega) _).mono ?_); rintro e w' ⟨rfl, rfl⟩) | ((with_reducible refine (within_no _ _ _ (by omega) _).mono ?_); rintro e w' ⟨rfl, rfl⟩))
 refine (plain_any _ _).mono ?_
 rintro e w1 ⟨rfl, hg⟩
 have hb := gr_block hg (heap_alloc_new w (.cells (shp 0 0 zs) 65))
 have HB := Lib.hid hb
 have HG := Lib.hid (gr_trans ((Gr.refl w).alloc _ _) hg)
 clear hb hg
 go_wp2_with (refine wpList_store_row rfl 65 _ _ rfl w.heap.size (shp _ _ _) rfl rfl 65 (shp 0 0 zs) HB.out infoS rfl (shp_one _ _ _) ?_)
 exact bodyPost_ret (v := .agg (shp _ _ _)) (results_cell_row Try.results67 _ _ w.heap.size 65 _ (0, 0) _ rfl (setRow_block HB.out) Try.underlying65 rfl infoS) rfl ⟨rfl, gr_setRow HG.out (by omega) _⟩
theorem vw_5 (n : Int) (h0 : 171 ≤ n) (h1 : n ≤ 173) (w : World) : Calls Try.prog 67 #[.int .i64 n] w (RES 1 0 ⟨#[118, 105, 58, 118]⟩ w) := by
 go_enter Try.func67, Try.ntmps67
 go_wp2_with (go_at_call 62; first | ((with_reducible refine (within_yes _ _ _ (by omega) (by omega) _).mono ?_); rintro e w' ⟨rfl, rfl⟩) | ((with_reducible refine (within_no _ _ _ (by omega) _).mono ?_); rintro e w' ⟨rfl, rfl⟩))
 refine (plain_any _ _).mono ?_
 rintro e w1 ⟨rfl, hg⟩
 have hb := gr_block hg (heap_alloc_new w (.cells (shp 0 0 zs) 65))
 have HB := Lib.hid hb
 have HG := Lib.hid (gr_trans ((Gr.refl w).alloc _ _) hg)
 clear hb hg
 go_wp2_with (refine wpList_store_row rfl 65 _ _ rfl w.heap.size (shp _ _ _) rfl rfl 65 (shp 0 0 zs) HB.out infoS rfl (shp_one _ _ _) ?_)
 exact bodyPost_ret (v := .agg (shp _ _ _)) (results_cell_row Try.results67 _ _ w.heap.size 65 _ (0, 0) _ rfl (setRow_block HB.out) Try.underlying65 rfl infoS) rfl ⟨rfl, gr_setRow HG.out (by omega) _⟩
theorem vw_6 (w : World) : Calls Try.prog 67 #[.int .i64 174] w (RES 1 0 ⟨#[118, 118, 58, 118]⟩ w) := by
 go_enter Try.func67, Try.ntmps67
 go_wp2_with (go_at_call 62; first | ((with_reducible refine (within_yes _ _ _ (by omega) (by omega) _).mono ?_); rintro e w' ⟨rfl, rfl⟩) | ((with_reducible refine (within_no _ _ _ (by omega) _).mono ?_); rintro e w' ⟨rfl, rfl⟩))
 refine (plain_any _ _).mono ?_
 rintro e w1 ⟨rfl, hg⟩
 have hb := gr_block hg (heap_alloc_new w (.cells (shp 0 0 zs) 65))
 have HB := Lib.hid hb
 have HG := Lib.hid (gr_trans ((Gr.refl w).alloc _ _) hg)
 clear hb hg
 go_wp2_with (refine wpList_store_row rfl 65 _ _ rfl w.heap.size (shp _ _ _) rfl rfl 65 (shp 0 0 zs) HB.out infoS rfl (shp_one _ _ _) ?_)
 exact bodyPost_ret (v := .agg (shp _ _ _)) (results_cell_row Try.results67 _ _ w.heap.size 65 _ (0, 0) _ rfl (setRow_block HB.out) Try.underlying65 rfl infoS) rfl ⟨rfl, gr_setRow HG.out (by omega) _⟩
theorem vw_7 (n : Int) (h0 : 175 ≤ n) (h1 : n ≤ 176) (w : World) : Calls Try.prog 67 #[.int .i64 n] w (RES 0 0 ⟨#[]⟩ w) := by
 go_enter Try.func67, Try.ntmps67
 go_wp2_with (go_at_call 62; first | ((with_reducible refine (within_yes _ _ _ (by omega) (by omega) _).mono ?_); rintro e w' ⟨rfl, rfl⟩) | ((with_reducible refine (within_no _ _ _ (by omega) _).mono ?_); rintro e w' ⟨rfl, rfl⟩))
 exact bodyPost_ret (v := .agg (shp _ _ _)) (by simp [results, Try.results67, go_sem, shp] <;> rfl) rfl ⟨rfl, (Gr.refl _).alloc _ _⟩
theorem vw_8 (w : World) : Calls Try.prog 67 #[.int .i64 177] w (RES 1 0 ⟨#[118, 118, 58, 118]⟩ w) := by
 go_enter Try.func67, Try.ntmps67
 go_wp2_with (go_at_call 62; first | ((with_reducible refine (within_yes _ _ _ (by omega) (by omega) _).mono ?_); rintro e w' ⟨rfl, rfl⟩) | ((with_reducible refine (within_no _ _ _ (by omega) _).mono ?_); rintro e w' ⟨rfl, rfl⟩))
 refine (plain_any _ _).mono ?_
 rintro e w1 ⟨rfl, hg⟩
 have hb := gr_block hg (heap_alloc_new w (.cells (shp 0 0 zs) 65))
 have HB := Lib.hid hb
 have HG := Lib.hid (gr_trans ((Gr.refl w).alloc _ _) hg)
 clear hb hg
 go_wp2_with (refine wpList_store_row rfl 65 _ _ rfl w.heap.size (shp _ _ _) rfl rfl 65 (shp 0 0 zs) HB.out infoS rfl (shp_one _ _ _) ?_)
 exact bodyPost_ret (v := .agg (shp _ _ _)) (results_cell_row Try.results67 _ _ w.heap.size 65 _ (0, 0) _ rfl (setRow_block HB.out) Try.underlying65 rfl infoS) rfl ⟨rfl, gr_setRow HG.out (by omega) _⟩
theorem vw_9 (n : Int) (h0 : 178 ≤ n) (h1 : n ≤ 180) (w : World) : Calls Try.prog 67 #[.int .i64 n] w (RES 0 0 ⟨#[]⟩ w) := by
 go_enter Try.func67, Try.ntmps67
 go_wp2_with (go_at_call 62; first | ((with_reducible refine (within_yes _ _ _ (by omega) (by omega) _).mono ?_); rintro e w' ⟨rfl, rfl⟩) | ((with_reducible refine (within_no _ _ _ (by omega) _).mono ?_); rintro e w' ⟨rfl, rfl⟩))
 exact bodyPost_ret (v := .agg (shp _ _ _)) (by simp [results, Try.results67, go_sem, shp] <;> rfl) rfl ⟨rfl, (Gr.refl _).alloc _ _⟩
theorem vw_10 (n : Int) (h0 : 181 ≤ n) (h1 : n ≤ 186) (w : World) : Calls Try.prog 67 #[.int .i64 n] w (RES 1 0 ⟨#[118, 118, 58, 118]⟩ w) := by
 go_enter Try.func67, Try.ntmps67
 go_wp2_with (go_at_call 62; first | ((with_reducible refine (within_yes _ _ _ (by omega) (by omega) _).mono ?_); rintro e w' ⟨rfl, rfl⟩) | ((with_reducible refine (within_no _ _ _ (by omega) _).mono ?_); rintro e w' ⟨rfl, rfl⟩))
 refine (plain_any _ _).mono ?_
 rintro e w1 ⟨rfl, hg⟩
 have hb := gr_block hg (heap_alloc_new w (.cells (shp 0 0 zs) 65))
 have HB := Lib.hid hb
 have HG := Lib.hid (gr_trans ((Gr.refl w).alloc _ _) hg)
 clear hb hg
 go_wp2_with (refine wpList_store_row rfl 65 _ _ rfl w.heap.size (shp _ _ _) rfl rfl 65 (shp 0 0 zs) HB.out infoS rfl (shp_one _ _ _) ?_)
 exact bodyPost_ret (v := .agg (shp _ _ _)) (results_cell_row Try.results67 _ _ w.heap.size 65 _ (0, 0) _ rfl (setRow_block HB.out) Try.underlying65 rfl infoS) rfl ⟨rfl, gr_setRow HG.out (by omega) _⟩
theorem vw_11 (w : World) : Calls Try.prog 67 #[.int .i64 187] w (RES 0 0 ⟨#[]⟩ w) := by
 go_enter Try.func67, Try.ntmps67
 go_wp2_with (go_at_call 62; first | ((with_reducible refine (within_yes _ _ _ (by omega) (by omega) _).mono ?_); rintro e w' ⟨rfl, rfl⟩) | ((with_reducible refine (within_no _ _ _ (by omega) _).mono ?_); rintro e w' ⟨rfl, rfl⟩))
 exact bodyPost_ret (v := .agg (shp _ _ _)) (by simp [results, Try.results67, go_sem, shp] <;> rfl) rfl ⟨rfl, (Gr.refl _).alloc _ _⟩
theorem vw_12 (n : Int) (h0 : 188 ≤ n) (h1 : n ≤ 191) (w : World) : Calls Try.prog 67 #[.int .i64 n] w (RES 1 0 ⟨#[118, 118, 58, 118]⟩ w) := by
 go_enter Try.func67, Try.ntmps67
 go_wp2_with (go_at_call 62; first | ((with_reducible refine (within_yes _ _ _ (by omega) (by omega) _).mono ?_); rintro e w' ⟨rfl, rfl⟩) | ((with_reducible refine (within_no _ _ _ (by omega) _).mono ?_); rintro e w' ⟨rfl, rfl⟩))
 refine (plain_any _ _).mono ?_
 rintro e w1 ⟨rfl, hg⟩
 have hb := gr_block hg (heap_alloc_new w (.cells (shp 0 0 zs) 65))
 have HB := Lib.hid hb
 have HG := Lib.hid (gr_trans ((Gr.refl w).alloc _ _) hg)
 clear hb hg
 go_wp2_with (refine wpList_store_row rfl 65 _ _ rfl w.heap.size (shp _ _ _) rfl rfl 65 (shp 0 0 zs) HB.out infoS rfl (shp_one _ _ _) ?_)
 exact bodyPost_ret (v := .agg (shp _ _ _)) (results_cell_row Try.results67 _ _ w.heap.size 65 _ (0, 0) _ rfl (setRow_block HB.out) Try.underlying65 rfl infoS) rfl ⟨rfl, gr_setRow HG.out (by omega) _⟩
theorem vw_13 (n : Int) (h0 : 192 ≤ n) (h1 : n ≤ 193) (w : World) : Calls Try.prog 67 #[.int .i64 n] w (RES 1 0 ⟨#[118, 58, 118]⟩ w) := by
 go_enter Try.func67, Try.ntmps67
 go_wp2_with (go_at_call 62; first | ((with_reducible refine (within_yes _ _ _ (by omega) (by omega) _).mono ?_); rintro e w' ⟨rfl, rfl⟩) | ((with_reducible refine (within_no _ _ _ (by omega) _).mono ?_); rintro e w' ⟨rfl, rfl⟩))
 refine (plain_any _ _).mono ?_
 rintro e w1 ⟨rfl, hg⟩
 have hb := gr_block hg (heap_alloc_new w (.cells (shp 0 0 zs) 65))
 have HB := Lib.hid hb
 have HG := Lib.hid (gr_trans ((Gr.refl w).alloc _ _) hg)
 clear hb hg
 go_wp2_with (refine wpList_store_row rfl 65 _ _ rfl w.heap.size (shp _ _ _) rfl rfl 65 (shp 0 0 zs) HB.out infoS rfl (shp_one _ _ _) ?_)
 exact bodyPost_ret (v := .agg (shp _ _ _)) (results_cell_row Try.results67 _ _ w.heap.size 65 _ (0, 0) _ rfl (setRow_block HB.out) Try.underlying65 rfl infoS) rfl ⟨rfl, gr_setRow HG.out (by omega) _⟩
theorem vw_14 (w : World) : Calls Try.prog 67 #[.int .i64 194] w (RES 0 0 ⟨#[]⟩ w) := by
 go_enter Try.func67, Try.ntmps67
 go_wp2_with (go_at_call 62; first | ((with_reducible refine (within_yes _ _ _ (by omega) (by omega) _).mono ?_); rintro e w' ⟨rfl, rfl⟩) | ((with_reducible refine (within_no _ _ _ (by omega) _).mono ?_); rintro e w' ⟨rfl, rfl⟩))
 exact bodyPost_ret (v := .agg (shp _ _ _)) (by simp [results, Try.results67, go_sem, shp] <;> rfl) rfl ⟨rfl, (Gr.refl _).alloc _ _⟩
theorem vw_15 (n : Int) (h0 : 195 ≤ n) (h1 : n ≤ 196) (w : World) : Calls Try.prog 67 #[.int .i64 n] w (RES 1 0 ⟨#[118, 58, 105]⟩ w) := by
 go_enter Try.func67, Try.ntmps67
 go_wp2_with (go_at_call 62; first | ((with_reducible refine (within_yes _ _ _ (by omega) (by omega) _).mono ?_); rintro e w' ⟨rfl, rfl⟩) | ((with_reducible refine (within_no _ _ _ (by omega) _).mono ?_); rintro e w' ⟨rfl, rfl⟩))
 refine (plain_any _ _).mono ?_
 rintro e w1 ⟨rfl, hg⟩
 have hb := gr_block hg (heap_alloc_new w (.cells (shp 0 0 zs) 65))
 have HB := Lib.hid hb
 have HG := Lib.hid (gr_trans ((Gr.refl w).alloc _ _) hg)
 clear hb hg
 go_wp2_with (refine wpList_store_row rfl 65 _ _ rfl w.heap.size (shp _ _ _) rfl rfl 65 (shp 0 0 zs) HB.out infoS rfl (shp_one _ _ _) ?_)
 exact bodyPost_ret (v := .agg (shp _ _ _)) (results_cell_row Try.results67 _ _ w.heap.size 65 _ (0, 0) _ rfl (setRow_block HB.out) Try.underlying65 rfl infoS) rfl ⟨rfl, gr_setRow HG.out (by omega) _⟩
theorem vw_16 (n : Int) (h0 : 197 ≤ n) (h1 : n ≤ 198) (w : World) : Calls Try.prog 67 #[.int .i64 n] w (RES 0 0 ⟨#[]⟩ w) := by
 go_enter Try.func67, Try.ntmps67
 go_wp2_with (go_at_call 62; first | ((with_reducible refine (within_yes _ _ _ (by omega) (by omega) _).mono ?_); rintro e w' ⟨rfl, rfl⟩) | ((with_reducible refine (within_no _ _ _ (by omega) _).mono ?_); rintro e w' ⟨rfl, rfl⟩))
 exact bodyPost_ret (v := .agg (shp _ _ _)) (by simp [results, Try.results67, go_sem, shp] <;> rfl) rfl ⟨rfl, (Gr.refl _).alloc _ _⟩
theorem vw_17 (n : Int) (h0 : 199 ≤ n) (h1 : n ≤ 202) (w : World) : Calls Try.prog 67 #[.int .i64 n] w (RES 1 0 ⟨#[118, 58, 118]⟩ w) := by
 go_enter Try.func67, Try.ntmps67
 go_wp2_with (go_at_call 62; first | ((with_reducible refine (within_yes _ _ _ (by omega) (by omega) _).mono ?_); rintro e w' ⟨rfl, rfl⟩) | ((with_reducible refine (within_no _ _ _ (by omega) _).mono ?_); rintro e w' ⟨rfl, rfl⟩))
 refine (plain_any _ _).mono ?_
 rintro e w1 ⟨rfl, hg⟩
 have hb := gr_block hg (heap_alloc_new w (.cells (shp 0 0 zs) 65))
 have HB := Lib.hid hb
 have HG := Lib.hid (gr_trans ((Gr.refl w).alloc _ _) hg)
 clear hb hg
 go_wp2_with (refine wpList_store_row rfl 65 _ _ rfl w.heap.size (shp _ _ _) rfl rfl 65 (shp 0 0 zs) HB.out infoS rfl (shp_one _ _ _) ?_)
 exact bodyPost_ret (v := .agg (shp _ _ _)) (results_cell_row Try.results67 _ _ w.heap.size 65 _ (0, 0) _ rfl (setRow_block HB.out) Try.underlying65 rfl infoS) rfl ⟨rfl, gr_setRow HG.out (by omega) _⟩
theorem vw_18 (n : Int) (h0 : 203 ≤ n) (h1 : n ≤ 205) (w : World) : Calls Try.prog 67 #[.int .i64 n] w (RES 1 0 ⟨#[118, 105, 58, 118]⟩ w) := by
 go_enter Try.func67, Try.ntmps67
 go_wp2_with (go_at_call 62; first | ((with_reducible refine (within_yes _ _ _ (by omega) (by omega) _).mono ?_); rintro e w' ⟨rfl, rfl⟩) | ((with_reducible refine (within_no _ _ _ (by omega) _).mono ?_); rintro e w' ⟨rfl, rfl⟩))
 refine (plain_any _ _).mono ?_
 rintro e w1 ⟨rfl, hg⟩
 have hb := gr_block hg (heap_alloc_new w (.cells (shp 0 0 zs) 65))
 have HB := Lib.hid hb
 have HG := Lib.hid (gr_trans ((Gr.refl w).alloc _ _) hg)
 clear hb hg
 go_wp2_with (refine wpList_store_row rfl 65 _ _ rfl w.heap.size (shp _ _ _) rfl rfl 65 (shp 0 0 zs) HB.out infoS rfl (shp_one _ _ _) ?_)
 exact bodyPost_ret (v := .agg (shp _ _ _)) (results_cell_row Try.results67 _ _ w.heap.size 65 _ (0, 0) _ rfl (setRow_block HB.out) Try.underlying65 rfl infoS) rfl ⟨rfl, gr_setRow HG.out (by omega) _⟩
theorem vw_19 (w : World) : Calls Try.prog 67 #[.int .i64 206] w (RES 1 0 ⟨#[118, 118, 58, 118]⟩ w) := by
 go_enter Try.func67, Try.ntmps67
 go_wp2_with (go_at_call 62; first | ((with_reducible refine (within_yes _ _ _ (by omega) (by omega) _).mono ?_); rintro e w' ⟨rfl, rfl⟩) | ((with_reducible refine (within_no _ _ _ (by omega) _).mono ?_); rintro e w' ⟨rfl, rfl⟩))
 refine (plain_any _ _).mono ?_
 rintro e w1 ⟨rfl, hg⟩
 have hb := gr_block hg (heap_alloc_new w (.cells (shp 0 0 zs) 65))
 have HB := Lib.hid hb
 have HG := Lib.hid (gr_trans ((Gr.refl w).alloc _ _) hg)
 clear hb hg
 go_wp2_with (refine wpList_store_row rfl 65 _ _ rfl w.heap.size (shp _ _ _) rfl rfl 65 (shp 0 0 zs) HB.out infoS rfl (shp_one _ _ _) ?_)
 exact bodyPost_ret (v := .agg (shp _ _ _)) (results_cell_row Try.results67 _ _ w.heap.size 65 _ (0, 0) _ rfl (setRow_block HB.out) Try.underlying65 rfl infoS) rfl ⟨rfl, gr_setRow HG.out (by omega) _⟩
theorem vw_20 (n : Int) (h0 : 207 ≤ n) (h1 : n ≤ 208) (w : World) : Calls Try.prog 67 #[.int .i64 n] w (RES 0 0 ⟨#[]⟩ w) := by
 go_enter Try.func67, Try.ntmps67
 go_wp2_with (go_at_call 62; first | ((with_reducible refine (within_yes _ _ _ (by omega) (by omega) _).mono ?_); rintro e w' ⟨rfl, rfl⟩) | ((with_reducible refine (within_no _ _ _ (by omega) _).mono ?_); rintro e w' ⟨rfl, rfl⟩))
 exact bodyPost_ret (v := .agg (shp _ _ _)) (by simp [results, Try.results67, go_sem, shp] <;> rfl) rfl ⟨rfl, (Gr.refl _).alloc _ _⟩
theorem vw_21 (w : World) : Calls Try.prog 67 #[.int .i64 209] w (RES 1 0 ⟨#[118, 118, 58, 118]⟩ w) := by
 go_enter Try.func67, Try.ntmps67
 go_wp2_with (go_at_call 62; first | ((with_reducible refine (within_yes _ _ _ (by omega) (by omega) _).mono ?_); rintro e w' ⟨rfl, rfl⟩) | ((with_reducible refine (within_no _ _ _ (by omega) _).mono ?_); rintro e w' ⟨rfl, rfl⟩))
 refine (plain_any _ _).mono ?_
 rintro e w1 ⟨rfl, hg⟩
 have hb := gr_block hg (heap_alloc_new w (.cells (shp 0 0 zs) 65))
 have HB := Lib.hid hb
 have HG := Lib.hid (gr_trans ((Gr.refl w).alloc _ _) hg)
 clear hb hg
 go_wp2_with (refine wpList_store_row rfl 65 _ _ rfl w.heap.size (shp _ _ _) rfl rfl 65 (shp 0 0 zs) HB.out infoS rfl (shp_one _ _ _) ?_)
 exact bodyPost_ret (v := .agg (shp _ _ _)) (results_cell_row Try.results67 _ _ w.heap.size 65 _ (0, 0) _ rfl (setRow_block HB.out) Try.underlying65 rfl infoS) rfl ⟨rfl, gr_setRow HG.out (by omega) _⟩
theorem vw_22 (n : Int) (h0 : 210 ≤ n) (h1 : n ≤ 212) (w : World) : Calls Try.prog 67 #[.int .i64 n] w (RES 0 0 ⟨#[]⟩ w) := by
 go_enter Try.func67, Try.ntmps67
 go_wp2_with (go_at_call 62; first | ((with_reducible refine (within_yes _ _ _ (by omega) (by omega) _).mono ?_); rintro e w' ⟨rfl, rfl⟩) | ((with_reducible refine (within_no _ _ _ (by omega) _).mono ?_); rintro e w' ⟨rfl, rfl⟩))
 exact bodyPost_ret (v := .agg (shp _ _ _)) (by simp [results, Try.results67, go_sem, shp] <;> rfl) rfl ⟨rfl, (Gr.refl _).alloc _ _⟩
theorem vw_23 (n : Int) (h0 : 213 ≤ n) (h1 : n ≤ 223) (w : World) : Calls Try.prog 67 #[.int .i64 n] w (RES 1 0 ⟨#[118, 118, 58, 118]⟩ w) := by
 go_enter Try.func67, Try.ntmps67
 go_wp2_with (go_at_call 62; first | ((with_reducible refine (within_yes _ _ _ (by omega) (by omega) _).mono ?_); rintro e w' ⟨rfl, rfl⟩) | ((with_reducible refine (within_no _ _ _ (by omega) _).mono ?_); rintro e w' ⟨rfl, rfl⟩))
 refine (plain_any _ _).mono ?_
 rintro e w1 ⟨rfl, hg⟩
 have hb := gr_block hg (heap_alloc_new w (.cells (shp 0 0 zs) 65))
 have HB := Lib.hid hb
 have HG := Lib.hid (gr_trans ((Gr.refl w).alloc _ _) hg)
 clear hb hg
 go_wp2_with (refine wpList_store_row rfl 65 _ _ rfl w.heap.size (shp _ _ _) rfl rfl 65 (shp 0 0 zs) HB.out infoS rfl (shp_one _ _ _) ?_)
 exact bodyPost_ret (v := .agg (shp _ _ _)) (results_cell_row Try.results67 _ _ w.heap.size 65 _ (0, 0) _ rfl (setRow_block HB.out) Try.underlying65 rfl infoS) rfl ⟨rfl, gr_setRow HG.out (by omega) _⟩
theorem vw_24 (n : Int) (h0 : 224 ≤ n) (w : World) : Calls Try.prog 67 #[.int .i64 n] w (RES 0 0 ⟨#[]⟩ w) := by
 go_enter Try.func67, Try.ntmps67
 go_wp2_with (go_at_call 62; first | ((with_reducible refine (within_yes _ _ _ (by omega) (by omega) _).mono ?_); rintro e w' ⟨rfl, rfl⟩) | ((with_reducible refine (within_no _ _ _ (by omega) _).mono ?_); rintro e w' ⟨rfl, rfl⟩))
 exact bodyPost_ret (v := .agg (shp _ _ _)) (by simp [results, Try.results67, go_sem, shp] <;> rfl) rfl ⟨rfl, (Gr.refl _).alloc _ _⟩
theorem top_va0 (n f l : Int) (s : ByteArray) (_h0 : 0 ≤ n) (_h1 : n ≤ 11) (h : ∀ w, Calls Try.prog 63 #[.int .i64 n] w (RES f l s w)) (w : World) : Calls Try.prog 27 #[.int .i64 n] w (RES f l s w) := by
 have H := Lib.hid h
 clear h
 go_enter Try.func27, Try.ntmps27
 go_wp2_with (go_at_call 62; first | ((with_reducible refine (within_yes _ _ _ (by omega) (by omega) _).mono ?_); rintro e w' ⟨rfl, rfl⟩) | ((with_reducible refine (within_no _ _ _ (by omega) _).mono ?_); rintro e w' ⟨rfl, rfl⟩))
 refine (H.out _).mono ?_
 rintro e w1 ⟨rfl, hg⟩
 have hb := gr_block hg (heap_alloc_new w (.cells (shp 0 0 zs) 65))
 have HB := Lib.hid hb
 have HG := Lib.hid (gr_trans ((Gr.refl w).alloc _ _) hg)
 clear hb hg
 go_wp2_with (refine wpList_store_row rfl 65 _ _ rfl w.heap.size (shp _ _ _) rfl rfl 65 (shp 0 0 zs) HB.out infoS rfl (shp_one _ _ _) ?_)
 exact bodyPost_ret (v := .agg (shp _ _ _)) (results_cell_row Try.results27 _ _ w.heap.size 65 _ (0, 0) _ rfl (setRow_block HB.out) Try.underlying65 rfl infoS) rfl ⟨rfl, gr_setRow HG.out (by omega) _⟩
theorem top_va1 (n f l : Int) (s : ByteArray) (_h0 : 84 ≤ n) (_h1 : n ≤ 93) (h : ∀ w, Calls Try.prog 63 #[.int .i64 n] w (RES f l s w)) (w : World) : Calls Try.prog 27 #[.int .i64 n] w (RES f l s w) := by
 have H := Lib.hid h
 clear h
 go_enter Try.func27, Try.ntmps27
 go_wp2_with (go_at_call 62; first | ((with_reducible refine (within_yes _ _ _ (by omega) (by omega) _).mono ?_); rintro e w' ⟨rfl, rfl⟩) | ((with_reducible refine (within_no _ _ _ (by omega) _).mono ?_); rintro e w' ⟨rfl, rfl⟩))
 refine (H.out _).mono ?_
 rintro e w1 ⟨rfl, hg⟩
 have hb := gr_block hg (heap_alloc_new w (.cells (shp 0 0 zs) 65))
 have HB := Lib.hid hb
 have HG := Lib.hid (gr_trans ((Gr.refl w).alloc _ _) hg)
 clear hb hg
 go_wp2_with (refine wpList_store_row rfl 65 _ _ rfl w.heap.size (shp _ _ _) rfl rfl 65 (shp 0 0 zs) HB.out infoS rfl (shp_one _ _ _) ?_)
 exact bodyPost_ret (v := .agg (shp _ _ _)) (results_cell_row Try.results27 _ _ w.heap.size 65 _ (0, 0) _ rfl (setRow_block HB.out) Try.underlying65 rfl infoS) rfl ⟨rfl, gr_setRow HG.out (by omega) _⟩
theorem top_vm0 (n f l : Int) (s : ByteArray) (_h0 : 12 ≤ n) (_h1 : n ≤ 34) (h : ∀ w, Calls Try.prog 64 #[.int .i64 n] w (RES f l s w)) (w : World) : Calls Try.prog 27 #[.int .i64 n] w (RES f l s w) := by
 have H := Lib.hid h
 clear h
 go_enter Try.func27, Try.ntmps27
 go_wp2_with (go_at_call 62; first | ((with_reducible refine (within_yes _ _ _ (by omega) (by omega) _).mono ?_); rintro e w' ⟨rfl, rfl⟩) | ((with_reducible refine (within_no _ _ _ (by omega) _).mono ?_); rintro e w' ⟨rfl, rfl⟩))
 refine (H.out _).mono ?_
 rintro e w1 ⟨rfl, hg⟩
 have hb := gr_block hg (heap_alloc_new w (.cells (shp 0 0 zs) 65))
 have HB := Lib.hid hb
 have HG := Lib.hid (gr_trans ((Gr.refl w).alloc _ _) hg)
 clear hb hg
 go_wp2_with (refine wpList_store_row rfl 65 _ _ rfl w.heap.size (shp _ _ _) rfl rfl 65 (shp 0 0 zs) HB.out infoS rfl (shp_one _ _ _) ?_)
 exact bodyPost_ret (v := .agg (shp _ _ _)) (results_cell_row Try.results27 _ _ w.heap.size 65 _ (0, 0) _ rfl (setRow_block HB.out) Try.underlying65 rfl infoS) rfl ⟨rfl, gr_setRow HG.out (by omega) _⟩
theorem top_vb0 (n f l : Int) (s : ByteArray) (_h0 : 35 ≤ n) (_h1 : n ≤ 83) (h : ∀ w, Calls Try.prog 65 #[.int .i64 n] w (RES f l s w)) (w : World) : Calls Try.prog 27 #[.int .i64 n] w (RES f l s w) := by
 have H := Lib.hid h
 clear h
 go_enter Try.func27, Try.ntmps27
 go_wp2_with (go_at_call 62; first | ((with_reducible refine (within_yes _ _ _ (by omega) (by omega) _).mono ?_); rintro e w' ⟨rfl, rfl⟩) | ((with_reducible refine (within_no _ _ _ (by omega) _).mono ?_); rintro e w' ⟨rfl, rfl⟩))
 refine (H.out _).mono ?_
 rintro e w1 ⟨rfl, hg⟩
 have hb := gr_block hg (heap_alloc_new w (.cells (shp 0 0 zs) 65))
 have HB := Lib.hid hb
 have HG := Lib.hid (gr_trans ((Gr.refl w).alloc _ _) hg)
 clear hb hg
 go_wp2_with (refine wpList_store_row rfl 65 _ _ rfl w.heap.size (shp _ _ _) rfl rfl 65 (shp 0 0 zs) HB.out infoS rfl (shp_one _ _ _) ?_)
 exact bodyPost_ret (v := .agg (shp _ _ _)) (results_cell_row Try.results27 _ _ w.heap.size 65 _ (0, 0) _ rfl (setRow_block HB.out) Try.underlying65 rfl infoS) rfl ⟨rfl, gr_setRow HG.out (by omega) _⟩
theorem top_vn0 (n f l : Int) (s : ByteArray) (_h0 : 94 ≤ n) (_h1 : n ≤ 159) (h : ∀ w, Calls Try.prog 66 #[.int .i64 n] w (RES f l s w)) (w : World) : Calls Try.prog 27 #[.int .i64 n] w (RES f l s w) := by
 have H := Lib.hid h
 clear h
 go_enter Try.func27, Try.ntmps27
 go_wp2_with (go_at_call 62; first | ((with_reducible refine (within_yes _ _ _ (by omega) (by omega) _).mono ?_); rintro e w' ⟨rfl, rfl⟩) | ((with_reducible refine (within_no _ _ _ (by omega) _).mono ?_); rintro e w' ⟨rfl, rfl⟩))
 refine (H.out _).mono ?_
 rintro e w1 ⟨rfl, hg⟩
 have hb := gr_block hg (heap_alloc_new w (.cells (shp 0 0 zs) 65))
 have HB := Lib.hid hb
 have HG := Lib.hid (gr_trans ((Gr.refl w).alloc _ _) hg)
 clear hb hg
 go_wp2_with (refine wpList_store_row rfl 65 _ _ rfl w.heap.size (shp _ _ _) rfl rfl 65 (shp 0 0 zs) HB.out infoS rfl (shp_one _ _ _) ?_)
 exact bodyPost_ret (v := .agg (shp _ _ _)) (results_cell_row Try.results27 _ _ w.heap.size 65 _ (0, 0) _ rfl (setRow_block HB.out) Try.underlying65 rfl infoS) rfl ⟨rfl, gr_setRow HG.out (by omega) _⟩
theorem top_vw0 (n f l : Int) (s : ByteArray) (_h0 : 160 ≤ n) (h : ∀ w, Calls Try.prog 67 #[.int .i64 n] w (RES f l s w)) (w : World) : Calls Try.prog 27 #[.int .i64 n] w (RES f l s w) := by
 have H := Lib.hid h
 clear h
 go_enter Try.func27, Try.ntmps27
 go_wp2_with (go_at_call 62; first | ((with_reducible refine (within_yes _ _ _ (by omega) (by omega) _).mono ?_); rintro e w' ⟨rfl, rfl⟩) | ((with_reducible refine (within_no _ _ _ (by omega) _).mono ?_); rintro e w' ⟨rfl, rfl⟩))
 refine (H.out _).mono ?_
 rintro e w1 ⟨rfl, hg⟩
 have hb := gr_block hg (heap_alloc_new w (.cells (shp 0 0 zs) 65))
 have HB := Lib.hid hb
 have HG := Lib.hid (gr_trans ((Gr.refl w).alloc _ _) hg)
 clear hb hg
 go_wp2_with (refine wpList_store_row rfl 65 _ _ rfl w.heap.size (shp _ _ _) rfl rfl 65 (shp 0 0 zs) HB.out infoS rfl (shp_one _ _ _) ?_)
 exact bodyPost_ret (v := .agg (shp _ _ _)) (results_cell_row Try.results27 _ _ w.heap.size 65 _ (0, 0) _ rfl (setRow_block HB.out) Try.underlying65 rfl infoS) rfl ⟨rfl, gr_setRow HG.out (by omega) _⟩
end Ins
end Go.Proofs.Ytjoalcaooccbiaa
/- InsTy -/
namespace Go.Proofs.Ytjoalcaooccbiaa
open Go.RowKit
namespace Ins
theorem infoI : (Try.prog.info? 3).map (fun i => (i.zero, i.size, i.bytes)) = some (some (.int .i64 0), 1, 8) := by kernel_rfl
theorem owns_gr {w w' : World} {base : Nat} {e : TypeId} {size : Nat} {v : Value} {n : Nat} {xs : List Value} (h : w.ownsRow base e size v n xs) (hg : Gr w w') : w'.ownsRow base e size v n xs :=
 h.kept (row := none) ⟨hg.os, hg.tape, hg.output, hg.size, fun k hk _ => hg.block k hk⟩ (by cases v.ownBlock <;> simp)
def code (c : UInt8) : Int := if c.toNat = 105 then 127 else if c.toNat = 108 then 126 else 123
def codes (s : ByteArray) (k : Nat) : List Value := (s.data.toList.take k).map fun c => Value.int .i64 (code c)
theorem codes_snoc (s : ByteArray) (k : Nat) (h : k < s.size) : codes s (k + 1) = codes s k ++ [.int .i64 (code s[k])] := by
 unfold codes
 rw [List.take_succ_eq_append_getElem (by simpa using h), List.map_append]; rfl
set_option maxHeartbeats 2000000 in
theorem types_any (s : ByteArray) (w : World) (hs : s.size ≤ 4294967296) :
  Calls Try.prog 30 #[.string s] w fun e w' => ∃ sv, e = .returned sv ∧ Gr w w' ∧ w'.ownsRow w.heap.size 3 1 sv s.size (codes s s.size) := by
 obtain ⟨i0, hi, hz0, hz1, hz2⟩ := info_parts infoI
 have HI := Lib.hid hi
 have HZ0 := Lib.hid hz0
 have HZ1 := Lib.hid hz1
 have HZ2 := Lib.hid hz2
 clear hi hz0 hz1 hz2
 go_enter Try.func30, Try.ntmps30
 go_wp2_with fail
 go_loopw [7, 3] (fun i sv wr => ∃ k : Nat, k ≤ s.size ∧ i = .int .i64 k ∧ Gr w wr ∧ wr.ownsRow w.heap.size 3 1 sv k (codes s k)) (fun i _ _ => s.size - (intOf i).toNat)
 case atStart => exact ⟨0, by omega, rfl, Gr.refl _, World.ownsRow_nil _ _ _ _⟩
 case round =>
  obtain ⟨k, hk, rfl, hg, hown⟩ := hrel
  have HG := Lib.hid hg
  have HO := Lib.hid hown
  clear hg hown
  by_cases hlt : k < s.size
  ·have hsn := codes_snoc s k hlt
   have HS := Lib.hid hsn
   clear hsn
   have hc : (s[k].toNat : Int) = 105 ∧ code s[k] = 127 ∨ ((s[k].toNat : Int) == 105) = false ∧ (s[k].toNat : Int) = 108 ∧ code s[k] = 126 ∨ ((s[k].toNat : Int) == 105) = false ∧ ((s[k].toNat : Int) == 108) = false ∧ code s[k] = 123 := by
    unfold code
    by_cases h1 : s[k].toNat = 105
    ·left; rw [if_pos h1]; exact ⟨by omega, rfl⟩
    ·right
     have b1 : ((s[k].toNat : Int) == 105) = false := beq_eq_false_iff_ne.2 (by omega)
     rw [if_neg h1]
     by_cases h2 : s[k].toNat = 108
     ·left; rw [if_pos h2]; exact ⟨b1, by omega, rfl⟩
     ·right; rw [if_neg h2]; exact ⟨b1, beq_eq_false_iff_ne.2 (by omega), rfl⟩
   generalize code s[k] = cd at *
   rcases hc with ⟨h1, rfl⟩ | ⟨h1, h2, rfl⟩ | ⟨h1, h2, rfl⟩
   ·go_wp2_with (at_builtin; refine wpList_append_own _ rfl _ _ 26 rfl w.heap.size 3 i0 (.int .i64 0) 1 8 Try.underlying26 HI.out HZ0.out HZ1.out HZ2.out rfl (by decide) u3 k _ rfl (HO.out.alloc _) ⟨wr.heap.size, 0, none⟩ 1 1 [.int .i64 127] rfl rfl ?c1 ?c2 ?c3 ?c4 ?c5 ?_)
    case c1 =>
     intro j u hju
     match j, hju with
     | 0, hju => simp at hju; subst hju; exact (cell_of_row _ _ 0 _ _ _ (heap_alloc_new wr _)).trans rfl
    case c2 => intro u hu; simp at hu; subst hu; rfl
    case c3 => unfold maxLen; omega
    case c4 => omega
    case c5 => have := HG.out.size; simp; omega
    intro v' w2 hown2 hgb _
    have hrow : ∀ q, u3.ownBlock = some q → w.heap.size ≤ q := fun q hq => (HO.out.lt q hq).1
    have hgr : Gr w w2 := (HG.out.allocO _).grown hgb (fun q hq => by have := hrow q hq; omega)
    have hown3 : w2.ownsRow w.heap.size 3 1 v' (k + 1) (codes s (k + 1)) := by rw [HS.out]; exact hown2
    have H1 := Lib.hid hgr
    have H3 := Lib.hid hown3
    clear hown2 hgb hrow hgr hown3
    go_wp2
    exact ⟨⟨k + 1, by omega, by go_num, H1.out, H3.out⟩, by simp [intOf]; omega⟩
   ·go_wp2_with (at_builtin; refine wpList_append_own _ rfl _ _ 26 rfl w.heap.size 3 i0 (.int .i64 0) 1 8 Try.underlying26 HI.out HZ0.out HZ1.out HZ2.out rfl (by decide) u3 k _ rfl (HO.out.alloc _) ⟨wr.heap.size, 0, none⟩ 1 1 [.int .i64 126] rfl rfl ?c1 ?c2 ?c3 ?c4 ?c5 ?_)
    case c1 =>
     intro j u hju
     match j, hju with
     | 0, hju => simp at hju; subst hju; exact (cell_of_row _ _ 0 _ _ _ (heap_alloc_new wr _)).trans rfl
    case c2 => intro u hu; simp at hu; subst hu; rfl
    case c3 => unfold maxLen; omega
    case c4 => omega
    case c5 => have := HG.out.size; simp; omega
    intro v' w2 hown2 hgb _
    have hrow : ∀ q, u3.ownBlock = some q → w.heap.size ≤ q := fun q hq => (HO.out.lt q hq).1
    have hgr : Gr w w2 := (HG.out.allocO _).grown hgb (fun q hq => by have := hrow q hq; omega)
    have hown3 : w2.ownsRow w.heap.size 3 1 v' (k + 1) (codes s (k + 1)) := by rw [HS.out]; exact hown2
    have H1 := Lib.hid hgr
    have H3 := Lib.hid hown3
    clear hown2 hgb hrow hgr hown3
    go_wp2
    exact ⟨⟨k + 1, by omega, by go_num, H1.out, H3.out⟩, by simp [intOf]; omega⟩
   ·go_wp2_with (at_builtin; refine wpList_append_own _ rfl _ _ 26 rfl w.heap.size 3 i0 (.int .i64 0) 1 8 Try.underlying26 HI.out HZ0.out HZ1.out HZ2.out rfl (by decide) u3 k _ rfl (HO.out.alloc _) ⟨wr.heap.size, 0, none⟩ 1 1 [.int .i64 123] rfl rfl ?c1 ?c2 ?c3 ?c4 ?c5 ?_)
    case c1 =>
     intro j u hju
     match j, hju with
     | 0, hju => simp at hju; subst hju; exact (cell_of_row _ _ 0 _ _ _ (heap_alloc_new wr _)).trans rfl
    case c2 => intro u hu; simp at hu; subst hu; rfl
    case c3 => unfold maxLen; omega
    case c4 => omega
    case c5 => have := HG.out.size; simp; omega
    intro v' w2 hown2 hgb _
    have hrow : ∀ q, u3.ownBlock = some q → w.heap.size ≤ q := fun q hq => (HO.out.lt q hq).1
    have hgr : Gr w w2 := (HG.out.allocO _).grown hgb (fun q hq => by have := hrow q hq; omega)
    have hown3 : w2.ownsRow w.heap.size 3 1 v' (k + 1) (codes s (k + 1)) := by rw [HS.out]; exact hown2
    have H1 := Lib.hid hgr
    have H3 := Lib.hid hown3
    clear hown2 hgb hrow hgr hown3
    go_wp2
    exact ⟨⟨k + 1, by omega, by go_num, H1.out, H3.out⟩, by simp [intOf]; omega⟩
  ·obtain rfl : k = s.size := by omega
   go_wp2
   go_ret
   exact ⟨_, rfl, HG.out, HO.out⟩
end Ins
end Go.Proofs.Ytjoalcaooccbiaa
