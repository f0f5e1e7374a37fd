/-
  Texts of this seat, joined: Kit, InsSh, InsTy, Steady, Net, NetTail. Each says what it proves.
-/
import Derived.Test.YtifjgocfdnhdeaaMr1
import Derived.Test.YtifjgocfdnhdeaaRows
import Derived.WalkKit
import Derived.WalkSpells
import Derived.WalkLawsBesides
import Derived.Lib.Hide
import Derived.Deep.Cut
import Derived.Deep.WholeRow
import Derived.Deep.RegionWith
import Derived.Deep.RegionHeld3
import Derived.StillTailTactics
import Derived.BigQuiet
import Derived.Laws.Bits64b
import Derived.Laws.AppendOwn
import Derived.Below
import Derived.Carry
/- Kit -/
namespace Go.Proofs.Ytifjgocfdnhdeaa
open Go.RowKit VecM
def Gr (w w' : World) : Prop := Below w.heap.size w w'
theorem Gr.refl (w : World) : Gr w w := Below.refl _ _
theorem gr_trans {a b c : World} (h : Gr a b) (h' : Gr b c) : Gr a c := Below.trans h (Below.mono h' h.size)
theorem Gr.drew {a w : World} (h : Gr a w) : Gr a w.drew := Below.drew h
theorem Gr.drewN {a w : World} (h : Gr a w) (n : Nat) : Gr a (w.drewN n) := ⟨h.os, h.tape, h.output, h.size, h.block⟩
theorem Gr.allocO {a w : World} (h : Gr a w) (o : Obj) : Gr a (w.alloc o) := Below.alloc h h.size o
theorem Gr.alloc {a w : World} (h : Gr a w) (c : Array Value) (t : TypeId) : Gr a (w.alloc (.cells c t)) := h.allocO _
theorem Gr.setCell {a w : World} (h : Gr a w) {p : Addr} (hp : a.heap.size ≤ p.block) (u : Value) : Gr a (w.setCell p u) := Below.setCell h hp u
theorem Gr.grown {a w w' : World} {row : Option Nat} (h : Gr a w) (hg : w.grownBy w' row) (hr : ∀ k, row = some k → a.heap.size ≤ k) : Gr a w' := Below.grown h hg h.size hr
theorem gr_block {w w' : World} (h : Gr w w') {i : Nat} {o : Obj} (hi : w.heap[i]? = some o) : w'.heap[i]? = some o := by
 have hlt : i < w.heap.size := by
  apply Nat.lt_of_not_le; intro hle
  rw [Array.getElem?_eq_none hle] at hi; cases hi
 rw [h.block i hlt]; exact hi
theorem gr_cell {w w' : World} (h : Gr w w') {b o : Nat} {v : Value} (hc : w.cell? ⟨b, o, none⟩ = some v) : w'.cell? ⟨b, o, none⟩ = some v := by
 rw [Below.cell h (block_lt_of_cell hc)]; exact hc
theorem setRow_block {w : World} {g : Nat} {old c : Array Value} {t : TypeId} {z : Nat × Nat} (h : w.heap[g]? = some (.cells old t z)) : (w.setRow g c).heap[g]? = some (.cells c t z) := by
 simp only [World.setRow, Array.getElem?_modify, if_true, h]; rfl
section
variable {P : Program} {ops : Array Oper} {w : World} {Q : Act → Prop} {a : Act} {o : Oper} {rest : List Oper}
end
end Go.Proofs.Ytifjgocfdnhdeaa
/- InsSh -/
namespace Go.Proofs.Ytifjgocfdnhdeaa
open Go.RowKit
namespace Ins
theorem within_no (n a b : Int) (h : n < a ∨ b < n) (w : World) : Calls Try.prog 29 #[.int .i64 n, .int .i64 a, .int .i64 b] w fun e w' => e = .returned (.bool false) ∧ w = w' := by
 by_cases h0 : a ≤ n
 ·have h1 : decide (n ≤ b) = false := decide_eq_false (by omega)
  clear h
  go_enter Try.func29, Try.ntmps29
  go_wp2
  go_ret
  exact ⟨rfl, rfl⟩
 ·clear h
  go_enter Try.func29, Try.ntmps29
  go_wp2
  go_ret
  exact ⟨rfl, rfl⟩
theorem wN {n a b : Int} {w : World} {Q : Ending → World → Prop} (h : Q (.returned (.bool false)) w) (h0 : n < a ∨ b < n := by omega) : Calls Try.prog 29 #[.int .i64 n, .int .i64 a, .int .i64 b] w Q :=
 (within_no n a b h0 w).mono fun e w' ⟨h2, h3⟩ => by subst h2 h3; exact h
end Ins
end Go.Proofs.Ytifjgocfdnhdeaa
/- InsTy -/
namespace Go.Proofs.Ytifjgocfdnhdeaa
open Go.RowKit
namespace Ins
theorem owns_gr {w w' : World} {base : Nat} {e : TypeId} {size : Nat} {v : Value} {n : Nat} {xs : List Value} (h : w.ownsRow base e size v n xs) (hg : Gr w w') : w'.ownsRow base e size v n xs :=
 h.kept (row := none) ⟨hg.os, hg.tape, hg.output, hg.size, fun k hk _ => hg.block k hk⟩ (by cases v.ownBlock <;> simp)
def code (c : UInt8) : Int := if c.toNat = 105 then 127 else if c.toNat = 108 then 126 else 123
end Ins
end Go.Proofs.Ytifjgocfdnhdeaa
/- Steady -/
namespace Go.Proofs.Ytifjgocfdnhdeaa
open Go.RowKit
section
variable {P : Program} {ops : Array Oper} {md : Region.Mode} {w0 : World}
def yieldsUpon (P : Program) (w0 : World) (v : Value) : Result Next → Prop
 | .ok (.value u) w' => v = u ∧ Gr w0 w'
 | .ok .skip w' => v = undef ∧ Gr w0 w'
 | .ok (.enter f args) w' => Calls P f args w' (fun e w'' => e = .returned v ∧ Gr w0 w'')
 | _ => False
def Steady (P : Program) (w0 : World) (o : Oper) (a : Act) (v : Value) : Prop := ∀ w, Gr w0 w → yieldsUpon P w0 v ((execOp a.eval o).run P w)
def YieldsG (P : Program) (ops : Array Oper) (w0 : World) (o : Oper) (v : Value) (a : Act) : Prop :=
 (Region.wanted o (yielded ops a.tmps) = true ∧ Steady P w0 o a v) ∨ (Region.wanted o (yielded ops a.tmps) = false ∧ v = undef)
theorem YieldsG.of_same {o : Oper} {v : Value} {a a' : Act} (hy : YieldsG P ops w0 o v a) (he : execOp a'.eval o = execOp a.eval o)
  (hw : Region.wanted o (yielded ops a'.tmps) = Region.wanted o (yielded ops a.tmps)) : YieldsG P ops w0 o v a' := by
 unfold YieldsG Steady at *
 rw [he, hw]
 exact hy
def stG (P : Program) (ops : Array Oper) (w0 : World) (i : Nat) (K : Act → Prop) (a : Act) : Prop :=
 match ops[i]? with
 | none => K a
 | some o => ∃ v, YieldsG P ops w0 o v a ∧ K (a.put o.dst v)
theorem stG_mono {i : Nat} {a : Act} {K K' : Act → Prop} (h : ∀ a, K a → K' a) (hh : stG P ops w0 i K a) : stG P ops w0 i K' a := by
 unfold stG at *
 split
 ·exact h _ (by simpa [*] using hh)
 ·rename_i o ho
  simp only [ho] at hh
  obtain ⟨v, hy, hk⟩ := hh
  exact ⟨v, hy, h _ hk⟩
theorem wpOp_of_stG {i : Nat} {a : Act} {K : Act → Prop} {K' : Act → World → Prop} {Q' : Exit → Act → World → Prop} (h : ∀ a w, Gr w0 w → K a → K' a w) (hh : stG P ops w0 i K a) {w : World} (hw : Gr w0 w) :
  wpOp P ops Q' i K' a w := by
 unfold stG at hh
 unfold wpOp
 split
 ·rename_i ho; simp only [ho] at hh; exact h _ _ hw hh
 ·rename_i o ho
  simp only [ho] at hh
  obtain ⟨v, hy, hk⟩ := hh
  rcases hy with ⟨hwt, hs⟩ | ⟨hwt, rfl⟩
  ·rw [if_pos hwt]
   left
   have hr := hs w hw
   unfold Oper.wp
   generalize (execOp a.eval o).run P w = r at *
   cases r with
   | ok n w' =>
    cases n <;> simp only [yieldsUpon] at hr <;> simp only [Oper.upon]
    case value u => obtain ⟨rfl, hg⟩ := hr; exact h _ _ hg hk
    case skip => obtain ⟨rfl, hg⟩ := hr; exact h _ _ hg hk
    case enter f args => exact hr.mono fun e w'' ⟨he, hg⟩ => by subst he; exact h _ _ hg hk
   | halt x w' => simp only [yieldsUpon] at hr
  ·rw [if_neg (by rw [hwt]; decide)]
   exact h _ _ hw hk
theorem stG_put {j : Nat} {oi oj : Oper} {v : Value} (hj : ops[j]? = some oj) (hap : oi.apart ops oj = true)
  (hsi : ∀ cs b, oi.op ≠ .select cs b) (hsj : ∀ cs b, oj.op ≠ .select cs b) {K : Act → Prop} {a : Act}
  (hy : YieldsG P ops w0 oi v a) (h : stG P ops w0 j K (a.put oi.dst v)) :
  stG P ops w0 j (fun a' => YieldsG P ops w0 oi v a' ∧ K (a'.put oi.dst v)) a := by
 obtain ⟨h1, h2, h3⟩ := Oper.apart_spec hap
 unfold stG at *
 simp only [hj] at *
 obtain ⟨u, hyu, hk⟩ := h
 refine ⟨u, ?_, hy.of_same (execOp_put oi hsi a oj.dst u h3) (wanted_put oi a oj.dst u h3), by rw [← Act.put_comm a v u h2]; exact hk⟩
 exact hyu.of_same (execOp_put oj hsj a oi.dst v h1).symm (wanted_put oj a oi.dst v h1).symm
def wpAnyG (P : Program) (md : Region.Mode) (ops : Array Oper) (w0 : World) (n : Nat) (L : Array Bool → Act → Prop) : Nat → Array Bool → Act → Prop
 | 0, listed, a => L listed a
 | f + 1, listed, a =>
  Region.ready md ops listed ≠ [] ∧ ∀ i ∈ Region.ready md ops listed, i < n ∧ stG P ops w0 i (wpAnyG P md ops w0 n L f (listed.setIfInBounds i true)) a
theorem wpAny_of_headG {n g : Nat} {L : Array Bool → Act → Prop} {Q' : Exit → Act → World → Prop} (hL : ∀ listed a w, Gr w0 w → L listed a → wpAny P md ops Q' g listed a w) :
  ∀ (f : Nat) (listed : Array Bool) (a : Act) (w : World), Gr w0 w → wpAnyG P md ops w0 n L f listed a → wpAny P md ops Q' (f + g) listed a w
 | 0, listed, a, w, hw, h => by rw [Nat.zero_add]; exact hL _ _ _ hw h
 | f + 1, listed, a, w, hw, h => by
  rw [show f + 1 + g = (f + g) + 1 by omega]
  exact ⟨fun h0 => absurd h0 h.1, fun i hi => wpOp_of_stG (fun a' w' hw' h' => wpAny_of_headG hL f _ a' w' hw' h') (h.2 i hi).2 hw⟩
theorem wpAnyG_first {n i : Nat} {oi : Oper} {v : Value} {L : Array Bool → Act → Prop} (hi : ops[i]? = some oi) (hsel : ∀ (j : Nat) (o : Oper) cs b, ops[j]? = some o → o.op ≠ .select cs b)
  (hin : i < n) (htw : ∀ listed i, HeadInv md ops n listed → i < n → listed.getD i true = false → ∀ t, n ≤ t → t ∉ Region.ready md ops listed)
  (hdone : ∀ listed a, L listed a → ∀ j ∈ Region.ready md ops listed, n ≤ j) :
  ∀ (f : Nat) (listed : Array Bool) (a : Act), HeadInv md ops n listed →
   (∀ j oj, ops[j]? = some oj → j ≠ i → listed.getD j true = false → (∀ e ∈ oj.after, Region.binds md e = true → e.on ≠ i) → oi.apart ops oj = true) →
   i ∈ Region.ready md ops listed → YieldsG P ops w0 oi v a →
   wpAnyG P md ops w0 n L f (listed.setIfInBounds i true) (a.put oi.dst v) → wpAnyG P md ops w0 n L (f + 1) listed a := by
 intro f
 induction f with
 | zero =>
  intro listed a inv _ hr hy H
  have hun := (mem_ready.1 hr).1
  refine ⟨fun h => (by rw [h] at hr; cases hr), fun j hj => ?_⟩
  have hjn : j < n := by
   rcases Nat.lt_or_ge j n with h | h
   ·exact h
   ·exact absurd hj (htw _ i inv hin hun j h)
  refine ⟨hjn, ?_⟩
  by_cases hji : j = i
  ·subst hji
   unfold stG; rw [hi]; exact ⟨v, hy, H⟩
  ·have := hdone _ _ H j (ready_mono hj hji)
   omega
 | succ f ih =>
  intro listed a inv hfree hr hy H
  have hun := (mem_ready.1 hr).1
  refine ⟨fun h => (by rw [h] at hr; cases hr), fun j hj => ?_⟩
  have hjn : j < n := by
   rcases Nat.lt_or_ge j n with h | h
   ·exact h
   ·exact absurd hj (htw _ i inv hin hun j h)
  refine ⟨hjn, ?_⟩
  by_cases hji : j = i
  ·subst hji
   unfold stG; rw [hi]; exact ⟨v, hy, H⟩
  ·have h1 := (H.2 j (ready_mono hj hji)).2
   obtain ⟨hjun, oj, hoj, hall⟩ := mem_ready.1 hj
   have hnot : ∀ e ∈ oj.after, Region.binds md e = true → e.on ≠ i := fun e he hb heq => by
    have h1 := hall e he hb
    rw [heq, getD_both hun] at h1
    cases h1
   have h2 := stG_put hoj (hfree j oj hoj hji hjun hnot) (fun cs b => hsel i oi cs b hi) (fun cs b => hsel j oj cs b hoj) hy h1
   have hfree' : ∀ k ok, ops[k]? = some ok → k ≠ i → (listed.setIfInBounds j true).getD k true = false →
     (∀ e ∈ ok.after, Region.binds md e = true → e.on ≠ i) → oi.apart ops ok = true := fun k ok hk hki hun hno => by
    refine hfree k ok hk hki ?_ hno
    by_cases hjk : j = k
    ·subst hjk; exact hjun
    ·rw [getD_set_ne true hjk] at hun; exact hun
   refine stG_mono (fun a' h3 => ih (listed.setIfInBounds j true) a' (inv.set hj hjn) hfree' (ready_mono hr (Ne.symm hji)) h3.1 ?_) h2
   rw [Array.setIfInBounds_comm _ _ hji]
   exact h3.2
def wpSteady (P : Program) (ops : Array Oper) (w0 : World) (Q : Act → Prop) : List Oper → Act → Prop
 | [], a => Q a
 | o :: rest, a => ∃ v, YieldsG P ops w0 o v a ∧ wpSteady P ops w0 Q rest (a.put o.dst v)
theorem wpAnyG_lex {n g : Nat} {Lq : Act → Prop} (hsel : Region.noSelect ops = true) (htw : ∀ listed i, HeadInv md ops n listed → i < n → listed.getD i true = false → ∀ t, n ≤ t → t ∉ Region.ready md ops listed) :
  ∀ (l : List Oper) (k : Nat) (listed : Array Bool) (a : Act), (∀ j, j < l.length → l[j]? = ops[k + j]?) → k + l.length = n → HeadInv md ops n listed →
  Region.lexHead md ops g l.length k listed = true → wpSteady P ops w0 Lq l a →
  wpAnyG P md ops w0 n (fun listed' a' => Region.seqB md ops g n listed' = true ∧ Lq a') l.length listed a
 | [], k, listed, a, _, hk, _, hB, h => by
  have : k = n := by simpa using hk
  subst this
  exact ⟨by simpa [Region.lexHead] using hB, h⟩
 | o :: l, k, listed, a, hl, hk, inv, hB, h => by
  have h0 : ops[k]? = some o := by simpa using (hl 0 (by simp)).symm
  simp only [List.length_cons, Region.lexHead, Bool.and_eq_true] at hB
  obtain ⟨⟨hr, hf⟩, hB'⟩ := hB
  have hkn : k < n := by simp only [List.length_cons] at hk; omega
  have hr' : k ∈ Region.ready md ops listed := by simpa using hr
  obtain ⟨v, hy, hK⟩ := h
  exact wpAnyG_first h0 (Region.noSelect_spec hsel) hkn htw (fun listed' a' hL => seqB_ready hL.1) l.length listed a inv (Region.free_spec h0 hf) hr' hy
   (wpAnyG_lex hsel htw l (k + 1) _ _ (fun j hj => by have := hl (j + 1) (by simp; omega); simpa [Nat.add_assoc, Nat.add_comm 1 j] using this) (by simp only [List.length_cons] at hk; omega) (inv.set hr' hkn) hB' hK)
theorem wp_region_steady_tail {id : Nat} {Q : Exit → Act → World → Prop} {a : Act} {w : World} {l : List Oper} (n : Nat) (hm : P.follows .mixedOrders = true) (hB : Region.lexTailB .any l.toArray n = true)
  (h : wpSteady P l.toArray w.drew (fun a' => ∀ w', Gr w.drew w' → wpList P l.toArray Q (l.drop n) a' w') (l.take n) a) : (Code.region id l.toArray true).wp P Q a w := by
 simp only [Region.lexTailB, Bool.and_eq_true, decide_eq_true_eq] at hB
 obtain ⟨⟨⟨⟨hsel, hn⟩, hs⟩, hc⟩, hlex⟩ := hB
 have hn' : n < l.length := by simpa using hn
 have htl : (l.take n).length = n := by simp; omega
 have hdl : (l.drop n).length = l.toArray.size - n := by simp
 have inv0 : HeadInv .any l.toArray n (Array.replicate l.toArray.size false) :=
  ⟨by simp, fun j oj _ hl => (by rw [getD_replicate_false] at hl; cases hl), fun t _ ht => getD_in (by simpa using ht) (getD_replicate_false _ _)⟩
 have H := wpAnyG_lex (md := .any) (g := l.toArray.size - n) hsel (fun listed i inv hi hun t ht => tail_waits hs hc hn inv _ i rfl hi hun t ht) (l.take n) 0 _ a (fun j hj => by
  have hj' : j < n := by rw [htl] at hj; exact hj
  simp [hj']) (by simpa using htl) inv0 (by rw [htl]; exact hlex) h
 refine wp_region_any hm ?_
 have := wpAny_of_headG (Q' := Q) (g := l.toArray.size - n) (fun listed a' w' hw hL => by
  have := wpAny_of_seq (md := .any) (Q' := Q) (l.drop n) n listed a' w' (fun j => by simp [List.getElem?_drop]) (by rw [hdl]; exact hL.1) (hL.2 w' hw)
  rwa [hdl] at this) _ _ _ w.drew (Gr.refl _) H
 rw [htl, show n + (l.toArray.size - n) = l.toArray.size by omega] at this
 exact this
def lexAllB (md : Region.Mode) (ops : Array Oper) : Bool := Region.noSelect ops && Region.lexHead md ops 0 ops.size 0 (Array.replicate ops.size false)
theorem wp_region_steady {id : Nat} {Q : Exit → Act → World → Prop} {a : Act} {w : World} {l : List Oper} (hm : P.follows .mixedOrders = true) (hB : lexAllB .any l.toArray = true)
  (h : wpSteady P l.toArray w.drew (fun a' => ∀ w', Gr w.drew w' → Q .normal a' w') l a) : (Code.region id l.toArray true).wp P Q a w := by
 simp only [lexAllB, Bool.and_eq_true] at hB
 have inv0 : HeadInv .any l.toArray l.toArray.size (Array.replicate l.toArray.size false) :=
  ⟨by simp, fun j oj _ hl => (by rw [getD_replicate_false] at hl; cases hl), fun t _ ht => getD_in (by simpa using ht) (getD_replicate_false _ _)⟩
 have H := wpAnyG_lex (md := .any) (g := 0) (n := l.toArray.size) hB.1 (fun listed i inv hi hun t ht hr => by
  obtain ⟨_, ot, hot, _⟩ := mem_ready.1 hr
  have := (Array.getElem?_eq_some_iff.1 hot).1
  omega) l 0 _ a (fun j _ => by simp) (by simp) inv0 (by simpa using hB.2) h
 refine wp_region_any hm ?_
 have := wpAny_of_headG (Q' := Q) (g := 0) (fun listed a' w' hw hL => ⟨by simpa [Region.seqB] using hL.1, hL.2 w' hw⟩) _ _ _ w.drew (Gr.refl _) H
 simpa using this
variable {Q : Act → Prop} {a : Act} {o : Oper} {rest : List Oper}
theorem steady_nil (h : Q a) : wpSteady P ops w0 Q [] a := h
theorem steady_step (h : ∀ K : Act → Prop, (∀ a, wpSteady P ops w0 Q rest a → K a) → ∃ v, YieldsG P ops w0 o v a ∧ K (a.put o.dst v)) : wpSteady P ops w0 Q (o :: rest) a :=
 h _ (fun _ h => h)
theorem steady_op {K : Act → Prop} (hgd : o.guard = none) {v : Value} (hs : Steady P w0 o a v) (h : K (a.put o.dst v)) : ∃ v, YieldsG P ops w0 o v a ∧ K (a.put o.dst v) :=
 ⟨v, .inl ⟨by simp [Region.wanted, hgd], hs⟩, h⟩
theorem wpList_build_at {Q : Exit → Act → World → Prop} {w : World} (hgd : o.guard = none) (t : TypeId) (parts : Array (Nat × Operand)) (ho : o.op = .build t parts) (cells : Array Value)
  (hc : P.built t (parts.map fun (i, x) => (i, a.eval x)).toList = some cells)
  (h : wpList P ops Q rest (a.put o.dst (.agg cells)) w) : wpList P ops Q (o :: rest) a w :=
 wpList_plain hgd fun K hK => wp_build t parts ho (by rw [hc]; rfl) (by rw [hc]; exact hK _ _ h)
theorem run_loadVar_cells (w : World) (g off : Nat) (ty : TypeId) (cs : Array Value) (d : TypeDesc) (hc : ∀ j v, cs.toList[j]? = some v → w.cell? ⟨g, off + j, none⟩ = some v)
  (hu : P.underlying ty = some d) (hd : (match d with | .struct _ | .array _ _ => true | _ => false) = true) (hi : (P.info? ty).map (·.size) = some cs.size) :
  (loadVar ty ⟨g, off, none⟩).run P w = .ok (.agg cs) w := by
 have hl : (loadCells ⟨g, off, none⟩ cs.toList.length).run P w = .ok cs.toList.toArray w :=
  run_loadCells_list (P := P) w ⟨g, off, none⟩ cs.toList (fun j v hv => by
   have hadd : (⟨g, off, none⟩ : Addr).add j = ⟨g, off + j, none⟩ := by unfold Addr.add; split <;> simp_all
   rw [hadd]; exact hc j v hv)
 cases hq : P.info? ty with
 | none => simp [hq] at hi
 | some i =>
  have hs : i.size = cs.size := by simpa [hq] using hi
  have hagg : (isAgg ty).run P w = .ok true w := by
   unfold isAgg
   rw [Sem.run_bind, run_underlying hu w]
   cases d <;> simp_all
  simp only [Array.length_toList, Array.toArray_toList] at hl
  simp [loadVar, Sem.run_bind, hagg, sizeOf, typeInfo, hq, hs, hl]
theorem wpList_load_cells {Q : Exit → Act → World → Prop} {w : World} (hgd : o.guard = none) (ty : TypeId) (x : Operand) (ho : o.op = .load ty x)
  (g off : Nat) (hx : a.eval x = .pointer (some ⟨g, off, none⟩)) (cs : Array Value) (d : TypeDesc) (hc : ∀ j v, cs.toList[j]? = some v → w.cell? ⟨g, off + j, none⟩ = some v)
  (hu : P.underlying ty = some d) (hd : (match d with | .struct _ | .array _ _ => true | _ => false) = true) (hi : (P.info? ty).map (·.size) = some cs.size)
  (h : wpList P ops Q rest (a.put o.dst (.agg cs)) w) : wpList P ops Q (o :: rest) a w :=
 wpList_plain hgd fun K hK => by
  unfold Oper.wp execOp
  simp only [ho, hx, Instr.loadAt, Instr.sureAddr, Sem.run_bind, Sem.run_pure, Result.andThen_ok, run_loadVar_cells w g off ty cs d hc hu hd hi]
  exact hK _ _ h
theorem steady_load_cells {K : Act → Prop} (hgd : o.guard = none) (ty : TypeId) (x : Operand) (ho : o.op = .load ty x)
  (g off : Nat) (hx : a.eval x = .pointer (some ⟨g, off, none⟩)) (cs : Array Value) (d : TypeDesc) (hc : ∀ j v, cs.toList[j]? = some v → w0.cell? ⟨g, off + j, none⟩ = some v)
  (hu : P.underlying ty = some d) (hd : (match d with | .struct _ | .array _ _ => true | _ => false) = true) (hi : (P.info? ty).map (·.size) = some cs.size)
  (h : K (a.put o.dst (.agg cs))) : ∃ v, YieldsG P ops w0 o v a ∧ K (a.put o.dst v) :=
 steady_op hgd (v := .agg cs) (fun w hw => by
  unfold execOp
  simp only [ho, hx, Instr.loadAt, Instr.sureAddr, Sem.run_bind, Sem.run_pure, Result.andThen_ok, run_loadVar_cells w g off ty cs d (fun j v hv => gr_cell hw (hc j v hv)) hu hd hi]
  exact ⟨rfl, hw⟩) h
end
end Go.Proofs.Ytifjgocfdnhdeaa
/- Net -/
namespace Go.Proofs.Ytifjgocfdnhdeaa
open Go.RowKit
section
variable {P : Program} {ops : Array Oper} {md : Region.Mode} {w0 : World}
def netUpon (P : Program) (Φ : Value → World → Prop) (w : World) : Result Next → Prop
 | .ok (.value u) w' => Φ u w' ∧ Gr w w'
 | .ok .skip w' => Φ undef w' ∧ Gr w w'
 | .ok (.enter f args) w' => Calls P f args w' (fun e w'' => ∃ u, e = .returned u ∧ Φ u w'' ∧ Gr w w'')
 | _ => False
def NetStep (P : Program) (md : Region.Mode) (ops : Array Oper) (w0 : World) (a0 : Act) (Φ : Nat → Value → World → Prop) (k : Nat) (o : Oper) : Prop :=
 ∀ (a : Act) (w : World), Gr w0 w → (∀ d, (∀ (j : Nat) (oj : Oper), ops[j]? = some oj → oj.dst ≠ some d) → a.tmps[d]? = a0.tmps[d]?) →
  (∀ e ∈ o.after, Region.binds md e = true → ∀ (oj : Oper) (d : Tmp), ops[e.on]? = some oj → oj.dst = some d → Φ e.on (a.eval (.tmp d)) w) →
  (Region.wanted o (yielded ops a.tmps) = true → netUpon P (Φ k) w ((execOp a.eval o).run P w)) ∧ (Region.wanted o (yielded ops a.tmps) = false → Φ k undef w)
structure NetInv (ops : Array Oper) (w0 : World) (a0 : Act) (Φ : Nat → Value → World → Prop) (listed : Array Bool) (a : Act) (w : World) : Prop where
 gr : Gr w0 w
 defers : a.defers = a0.defers
 size : a.tmps.size = a0.tmps.size
 keep : ∀ d, (∀ (k : Nat) (o : Oper), ops[k]? = some o → listed.getD k false = true → o.dst ≠ some d) → a.tmps[d]? = a0.tmps[d]?
 ok : ∀ (k : Nat) (o : Oper) (d : Tmp), ops[k]? = some o → listed.getD k false = true → o.dst = some d → Φ k (a.eval (.tmp d)) w
def netB (md : Region.Mode) (ops : Array Oper) (n : Nat) : Bool :=
 (List.range ops.size).all fun i => (match (ops[i]?).bind (·.dst) with
  | some d => decide (d < n) && (List.range ops.size).all fun j => decide (i = j) || decide ((ops[j]?).bind (·.dst) ≠ some d)
  | none => true) && ((ops[i]?).map fun o => o.after.all fun e => !Region.binds md e || decide (e.on < i)).getD true
theorem netB_spec {n : Nat} (h : netB md ops n = true) : (∀ (i : Nat) (o : Oper) (d : Tmp), ops[i]? = some o → o.dst = some d → d < n ∧ ∀ (j : Nat) (oj : Oper), ops[j]? = some oj → oj.dst = some d → j = i) ∧ ∀ (i : Nat) (o : Oper), ops[i]? = some o → ∀ e ∈ o.after, Region.binds md e = true → e.on < i := by
 have h1 : ∀ i, i < ops.size → _ := fun i hi => List.all_eq_true.1 h i (List.mem_range.2 hi)
 refine ⟨fun i o d hi hd => ?_, fun i o hi e he hb => ?_⟩
 ·have hlt := (Array.getElem?_eq_some_iff.1 hi).1
  have h2 := h1 i hlt
  simp only [hi, Option.bind_some, hd, Bool.and_eq_true, decide_eq_true_eq, List.all_eq_true, Bool.or_eq_true] at h2
  refine ⟨h2.1.1, fun j oj hj hdj => ?_⟩
  have h3 := h2.1.2 j (List.mem_range.2 (Array.getElem?_eq_some_iff.1 hj).1)
  rcases h3 with h3 | h3
  ·exact h3.symm
  ·exact absurd (by rw [hj]; exact hdj) h3
 ·have hlt := (Array.getElem?_eq_some_iff.1 hi).1
  have h2 := h1 i hlt
  simp only [hi, Option.map_some, Option.getD_some, Bool.and_eq_true] at h2
  have h3 := Array.all_eq_true'.1 h2.2 e he
  simpa [hb] using h3
theorem eval_put_same {a : Act} {d : Tmp} {v : Value} (h : d < a.tmps.size) : (a.put (some d) v).eval (.tmp d) = v := by
 simp [Act.put, Act.eval, h]
theorem eval_put_ne {a : Act} {d d' : Tmp} {v : Value} (h : d ≠ d') : (a.put (some d) v).eval (.tmp d') = a.eval (.tmp d') := by
 simp [Act.put, Act.eval, Array.getElem?_setIfInBounds_ne h]
theorem cnt_lt {p p' : Nat → Bool} {i : Nat} (hp : p i = true) (hp' : p' i = false) (hle : ∀ k, p' k = true → p k = true) : ∀ l : List Nat, i ∈ l → l.countP p' + 1 ≤ l.countP p
 | [], h => by cases h
 | x :: l, h => by
  have mono : ∀ l : List Nat, l.countP p' ≤ l.countP p := fun l => List.countP_mono_left (fun k _ hk => hle k hk)
  by_cases hx : x = i
  ·subst hx
   rw [List.countP_cons_of_pos hp, List.countP_cons_of_neg (by rw [hp']; decide)]
   have := mono l
   omega
  ·have hl : i ∈ l := by
    rcases List.mem_cons.1 h with h | h
    ·exact absurd h.symm hx
    ·exact h
   have ih := cnt_lt hp hp' hle l hl
   rw [List.countP_cons, List.countP_cons]
   have : (if p' x = true then 1 else 0) ≤ (if p x = true then 1 else 0) := by
    by_cases hq : p' x = true
    ·rw [if_pos hq, if_pos (hle x hq)]; exact Nat.le_refl _
    ·rw [if_neg hq]; exact Nat.zero_le _
   omega
def unl (ops : Array Oper) (listed : Array Bool) : Nat := (List.range ops.size).countP fun k => !listed.getD k true
def netSteps (P : Program) (ops : Array Oper) (w0 : World) (a0 : Act) (Φ : Nat → Value → World → Prop) : List Oper → Nat → Prop
 | [], _ => True
 | o :: l, k => NetStep P .any ops w0 a0 Φ k o ∧ netSteps P ops w0 a0 Φ l (k + 1)
theorem netSteps_spec {a0 : Act} {Φ : Nat → Value → World → Prop} : ∀ (l : List Oper) (k : Nat), netSteps P ops w0 a0 Φ l k → ∀ j o, l[j]? = some o → NetStep P .any ops w0 a0 Φ (k + j) o
 | [], _, _, j, o, h => by simp at h
 | x :: l, k, hs, 0, o, h => by
  obtain rfl : x = o := by simpa using h
  exact hs.1
 | x :: l, k, hs, j + 1, o, h => by
  have := netSteps_spec l (k + 1) hs.2 j o (by simpa using h)
  rwa [show k + 1 + j = k + (j + 1) by omega] at this
def putAll (a : Act) (V : Nat → Value) : List Oper → Act
 | [] => a
 | o :: l => putAll (a.put o.dst ((o.dst.map V).getD undef)) V l
theorem putAll_size (V : Nat → Value) : ∀ (l : List Oper) (a : Act), (putAll a V l).tmps.size = a.tmps.size
 | [], _ => rfl
 | o :: l, a => by
  rw [putAll, putAll_size V l]; unfold Act.put; split
  ·exact Array.size_setIfInBounds
  ·rfl
theorem putAll_defers (V : Nat → Value) : ∀ (l : List Oper) (a : Act), (putAll a V l).defers = a.defers
 | [], _ => rfl
 | o :: l, a => by rw [putAll, putAll_defers V l]; unfold Act.put; split <;> rfl
theorem putAll_get (V : Nat → Value) (d : Nat) : ∀ (l : List Oper) (a : Act), d < a.tmps.size → (putAll a V l).tmps[d]? = if l.any (fun o => o.dst == some d) then some (V d) else a.tmps[d]?
 | [], _, _ => rfl
 | o :: l, a, hd => by
  have hs : (a.put o.dst ((o.dst.map V).getD undef)).tmps.size = a.tmps.size := by unfold Act.put; split <;> simp
  rw [putAll, putAll_get V d l _ (by rw [hs]; exact hd)]
  by_cases hl : l.any (fun o => o.dst == some d) = true
  ·rw [if_pos hl, if_pos (by rw [List.any_cons, hl]; simp)]
  ·rw [if_neg hl]
   by_cases ho : o.dst = some d
   ·rw [if_pos (by simp [ho]), ho]
    simp [Act.put, hd]
   ·have hl' : l.any (fun o => o.dst == some d) = false := by simpa using hl
    rw [if_neg (by simp only [List.any_cons, hl', Bool.or_false, beq_iff_eq]; exact ho)]
    cases hod : o.dst with
    | none => rfl
    | some d' =>
     have hne : d' ≠ d := fun e => ho (by rw [hod, e])
     simp [Act.put, Array.getElem?_setIfInBounds_ne hne]
def notDst (ops : Array Oper) (d : Tmp) : Bool := (List.range ops.size).all fun j => decide ((ops[j]?).bind (·.dst) ≠ some d)
def depOn (ops : Array Oper) (o : Oper) (j : Nat) (d : Tmp) : Bool := (o.after.any fun e => Region.binds .any e && e.on == j) && decide ((ops[j]?).bind (·.dst) = some d)
theorem NetStep.of {a0 : Act} {Φ : Nat → Value → World → Prop} {k : Nat} {o : Oper} (hgd : o.guard = none)
  (h : ∀ (ρ : Operand → Value) (w : World), Gr w0 w → (∀ v, ρ (.const v) = v) → (∀ f, ρ (.func f) = .func (.func f) #[] #[]) → (∀ d, notDst ops d = true → ρ (.tmp d) = a0.eval (.tmp d)) →
   (∀ j d, depOn ops o j d = true → Φ j (ρ (.tmp d)) w) → netUpon P (Φ k) w ((execOp ρ o).run P w)) : NetStep P .any ops w0 a0 Φ k o := by
 intro a w hw hin hdep
 refine ⟨fun _ => h a.eval w hw (fun _ => rfl) (fun _ => rfl) (fun d hd => ?_) (fun j d hj => ?_), fun hn => ?_⟩
 ·have h1 := hin d fun j oj hj he => by
   have hlt := (Array.getElem?_eq_some_iff.1 hj).1
   have := List.all_eq_true.1 hd j (List.mem_range.2 hlt)
   rw [hj] at this
   simp [he] at this
  simp [Act.eval, h1]
 ·unfold depOn at hj
  simp only [Bool.and_eq_true, decide_eq_true_eq] at hj
  obtain ⟨e, he, hb⟩ := Array.any_eq_true'.1 hj.1
  simp only [Bool.and_eq_true, beq_iff_eq] at hb
  obtain ⟨hb1, rfl⟩ := hb
  cases hoj : ops[e.on]? with
  | none => rw [hoj] at hj; simp at hj
  | some oj =>
   rw [hoj] at hj
   exact hdep e he hb1 oj d hoj (by simpa using hj.2)
 ·simp [Region.wanted, hgd] at hn
theorem yielded_of_eval {a : Act} {g : Nat} {d : Tmp} {b : Bool} (hd : (ops[g]?).bind (·.dst) = some d) (h : a.eval (.tmp d) = .bool b) : yielded ops a.tmps g = some b := by
 unfold yielded
 rw [hd]
 have : a.tmps[d]? = some (.bool b) := by
  have h : a.tmps.getD d undef = .bool b := h
  cases hq : a.tmps[d]? with
  | none =>
   rw [Array.getD_eq_getD_getElem?, hq] at h
   simp [undef] at h
  | some v =>
   rw [Array.getD_eq_getD_getElem?, hq] at h
   simp at h
   rw [h]
 simp [this]
theorem net_build {Φk : Value → World → Prop} {ρ : Operand → Value} {w : World} {o : Oper} (t : TypeId) (parts : Array (Nat × Operand)) (ho : o.op = .build t parts) (cells : Array Value)
  (hc : P.built t (parts.map fun (i, x) => (i, ρ x)).toList = some cells) (hΦ : Φk (.agg cells) w) : netUpon P Φk w ((execOp ρ o).run P w) := by
 unfold execOp
 simp only [ho, Sem.run_bind, run_build w t _ cells hc, Result.andThen_ok]
 exact ⟨hΦ, Gr.refl _⟩
end
end Go.Proofs.Ytifjgocfdnhdeaa
/- NetTail -/
namespace Go.Proofs.Ytifjgocfdnhdeaa
open Go.RowKit
section
variable {P : Program} {ops : Array Oper} {md : Region.Mode} {w0 : World}
def headDone (m n : Nat) : Array Bool := Array.ofFn (n := m) fun i => decide (i.val < n)
def netTailB (md : Region.Mode) (ops : Array Oper) (n s : Nat) : Bool :=
 netB md ops s && decide (n < ops.size) && Region.sinkB md ops n && Region.chainB md ops n && Region.seqB md ops (ops.size - n) n (headDone ops.size n) && (List.range n).all fun k => match (ops[k]?).bind (·.guard) with | some (g, _) => decide (g < n) | none => true
def unlh (n : Nat) (listed : Array Bool) : Nat := (List.range n).countP fun k => !listed.getD k true
theorem least_of {p : Nat → Prop} [DecidablePred p] : ∀ n, (∃ k, k < n ∧ p k) → ∃ k, k < n ∧ p k ∧ ∀ j, j < k → ¬ p j := by
 intro n ⟨k, hk, hp⟩
 induction k using Nat.strongRecOn with
 | _ k ih =>
  by_cases h : ∃ j, j < k ∧ p j
  ·obtain ⟨j, hj, hpj⟩ := h
   exact ih j hj (by omega) hpj
  ·exact ⟨k, hk, hp, fun j hj hpj => h ⟨j, hj, hpj⟩⟩
theorem wanted_head {opsh : Array Oper} {n : Nat} {o : Oper} (hh : ∀ j, j < n → opsh[j]? = ops[j]?) (hg : ∀ g b, o.guard = some (g, b) → g < n) (t : Array Value) : Region.wanted o (yielded opsh t) = Region.wanted o (yielded ops t) := by
 unfold Region.wanted
 cases ho : o.guard with
 | none => rfl
 | some gb =>
  obtain ⟨g, b⟩ := gb
  have : yielded opsh t g = yielded ops t g := by unfold yielded; rw [hh g (hg g b ho)]
  simp only [this]
theorem net_tail {opsh : Array Oper} {n : Nat} (hh : ∀ j, j < n → opsh[j]? = ops[j]?) (hh' : ∀ j oj, opsh[j]? = some oj → j < n) {a0 : Act} {Φ : Nat → Value → World → Prop} {Q : Exit → Act → World → Prop} (hB : netTailB md ops n a0.tmps.size = true) (hmono : ∀ k v w w', Gr w w' → Φ k v w → Φ k v w')
  (hstep : ∀ (k : Nat) (o : Oper), k < n → ops[k]? = some o → NetStep P md opsh w0 a0 Φ k o)
  (hQ : ∀ (a : Act) (w : World), Gr w0 w → a.defers = a0.defers → a.tmps.size = a0.tmps.size → (∀ d, (∀ (k : Nat) (o : Oper), k < n → ops[k]? = some o → o.dst ≠ some d) → a.tmps[d]? = a0.tmps[d]?) → (∀ (k : Nat) (o : Oper) (d : Tmp), k < n → ops[k]? = some o → o.dst = some d → Φ k (a.eval (.tmp d)) w) → wpList P ops Q (ops.toList.drop n) a w) :
  ∀ (f : Nat) (listed : Array Bool) (a : Act) (w : World), HeadInv md ops n listed → unlh n listed = f → NetInv ops w0 a0 Φ listed a w → wpAny P md ops Q (f + (ops.size - n)) listed a w := by
 simp only [netTailB, Bool.and_eq_true, decide_eq_true_eq] at hB
 obtain ⟨⟨⟨⟨⟨hNB, hn⟩, hs⟩, hc⟩, hseq⟩, hgd⟩ := hB
 have hguard : ∀ k o, k < n → ops[k]? = some o → ∀ g b, o.guard = some (g, b) → g < n := fun k o hk ho g b hg => by
  have := List.all_eq_true.1 hgd k (List.mem_range.2 hk)
  rw [ho] at this
  simpa [hg] using this
 obtain ⟨hd, hafter⟩ := netB_spec hNB
 have lst : ∀ (listed : Array Bool), HeadInv md ops n listed → ∀ k, listed.getD k false = true → k < n := fun listed hi k hk => by
  rcases Nat.lt_or_ge k n with h | h
  ·exact h
  ·exfalso
   have hks : k < ops.size := by
    rw [← hi.size]
    rcases Nat.lt_or_ge k listed.size with h' | h'
    ·exact h'
    ·simp [Array.getElem?_eq_none h'] at hk
   have := getD_both (hi.tail k h hks)
   rw [this] at hk; cases hk
 intro f
 induction f with
 | zero =>
  intro listed a w hi hu inv
  have hall : ∀ k, k < n → listed.getD k true = true := fun k hk => by
   have h0 : (List.range n).countP (fun k => !listed.getD k true) = 0 := hu
   have := List.countP_eq_zero.1 h0 k (List.mem_range.2 hk)
   simpa using this
  have hall' : ∀ k, k < n → listed.getD k false = true := fun k hk => by
   have h1 := hall k hk
   have hlt : k < listed.size := by rw [hi.size]; omega
   simpa [hlt] using h1
  have he : listed = headDone ops.size n := by
   apply Array.ext
   ·simp [headDone, hi.size]
   ·intro k h1 h2
    by_cases hk : k < n
    ·have := hall k hk
     simp only [Array.getD_eq_getD_getElem?, Array.getElem?_eq_getElem h1, Option.getD_some] at this
     rw [this]; simp [headDone, hk]
    ·have := hi.tail k (by omega) (by rw [← hi.size]; exact h1)
     simp only [Array.getD_eq_getD_getElem?, Array.getElem?_eq_getElem h1, Option.getD_some] at this
     rw [this]; simp [headDone, hk]
  have hlen : (ops.toList.drop n).length = ops.size - n := by simp
  have := wpAny_of_seq (md := md) (Q' := Q) (P := P) (ops.toList.drop n) n listed a w (fun j => by simp [List.getElem?_drop]) (by rw [hlen, he]; exact hseq)
   (hQ a w inv.gr inv.defers inv.size (fun d hdd => inv.keep d fun k o hk hl => hdd k o (lst listed hi k hl) hk) (fun k o d hkn hk hkd => inv.ok k o d hk (hall' k hkn) hkd))
  rw [hlen] at this
  rw [Nat.zero_add]
  exact this
 | succ f ih =>
  intro listed a w hi hu inv
  have hpos : ∃ k, k < n ∧ listed.getD k true = false := by
   apply Classical.byContradiction
   intro hno
   have h0 : (List.range n).countP (fun k => !listed.getD k true) = 0 := List.countP_eq_zero.2 fun k hk => by
    have hk := List.mem_range.1 hk
    cases hg : listed.getD k true with
    | true => decide
    | false => exact absurd ⟨k, hk, hg⟩ hno
   unfold unlh at hu; omega
  rw [show f + 1 + (ops.size - n) = (f + (ops.size - n)) + 1 by omega]
  refine ⟨fun hr => ?_, fun i hir => ?_⟩
  ·exfalso
   obtain ⟨k, hk, hku, hmin⟩ := least_of n hpos
   have : k ∈ Region.ready md ops listed := mem_ready.2 ⟨hku, ops[k]'(by omega), Array.getElem?_eq_getElem (by omega), fun e he hb => by
    have hlt := hafter k _ (Array.getElem?_eq_getElem (by omega)) e he hb
    have h1 := hmin e.on hlt
    have hlt' : e.on < listed.size := by rw [hi.size]; omega
    simp only [Array.getD_eq_getD_getElem?, Array.getElem?_eq_getElem hlt', Option.getD_some] at h1 ⊢
    simpa using h1⟩
   rw [hr] at this; cases this
  ·obtain ⟨k0, hk0, hku0⟩ := hpos
   have hin : i < n := by
    rcases Nat.lt_or_ge i n with h | h
    ·exact h
    ·exact absurd hir (tail_waits hs hc hn hi _ k0 rfl hk0 hku0 i h)
   obtain ⟨hun, o, ho, hall⟩ := mem_ready.1 hir
   have hio := (Array.getElem?_eq_some_iff.1 ho).1
   have hst := hstep i o hin ho a w inv.gr (fun d hdd => inv.keep d fun k ok hk hl => hdd k ok (by rw [hh k (lst listed hi k hl)]; exact hk)) (fun e he hb oj d hj hjd => inv.ok e.on oj d (by rw [← hh e.on (hh' _ _ hj)]; exact hj) (hall e he hb) hjd)
   rw [wanted_head hh (hguard i o hin ho)] at hst
   have hunl : unlh n (listed.setIfInBounds i true) = f := by
    have hp : ∀ l : List Nat, l.Nodup → i ∈ l → l.countP (fun k => !(listed.setIfInBounds i true).getD k true) + 1 = l.countP fun k => !listed.getD k true := by
     intro l
     induction l with
     | nil => intro _ h; cases h
     | cons x l ihl =>
      intro hnd hm
      obtain ⟨hx, hnd⟩ := List.nodup_cons.1 hnd
      have hset : (listed.setIfInBounds i true).getD i true = true := by
       have : i < listed.size := by rw [hi.size]; exact hio
       simp [this]
      by_cases hxi : x = i
      ·subst hxi
       have hsame : ∀ l' : List Nat, x ∉ l' → l'.countP (fun k => !(listed.setIfInBounds x true).getD k true) = l'.countP fun k => !listed.getD k true := by
        intro l' hx'
        refine List.countP_congr fun k hk => ?_
        have hkx : x ≠ k := fun e => hx' (e ▸ hk)
        rw [getD_set_ne true hkx]
       rw [List.countP_cons_of_neg (by rw [hset]; decide), List.countP_cons_of_pos (by rw [hun]; rfl), hsame l hx]
      ·have hml : i ∈ l := by
        rcases List.mem_cons.1 hm with h | h
        ·exact absurd h.symm hxi
        ·exact h
       have := ihl hnd hml
       rw [List.countP_cons, List.countP_cons, getD_set_ne true (Ne.symm hxi)]
       omega
    have := hp (List.range n) List.nodup_range (List.mem_range.2 hin)
    unfold unlh at hu ⊢; omega
   have next : ∀ (v : Value) (w' : World), Gr w w' → Φ i v w' → NetInv ops w0 a0 Φ (listed.setIfInBounds i true) (a.put o.dst v) w' := fun v w' hg hv => by
    refine ⟨gr_trans inv.gr hg, ?_, ?_, fun d hdd => ?_, fun k ok d hk hl hkd => ?_⟩
    ·rw [← inv.defers]; unfold Act.put; split <;> rfl
    ·rw [← inv.size]; unfold Act.put; split
     ·exact Array.size_setIfInBounds
     ·rfl
    ·have h1 := inv.keep d fun k ok hk hlk => hdd k ok hk (getD_set_true hlk)
     rw [← h1]
     cases hod : o.dst with
     | none => rfl
     | some d' =>
      have hli : i < listed.size := by rw [hi.size]; exact hio
      have hne : d' ≠ d := fun e => hdd i o ho (by simp [hli]) (by rw [hod, e])
      simp [Act.put, Array.getElem?_setIfInBounds_ne hne]
    ·by_cases hki : k = i
     ·subst hki
      have : ok = o := Option.some.inj (hk.symm.trans ho)
      subst this
      rw [hkd, eval_put_same (by rw [inv.size]; exact (hd k ok d ho hkd).1)]
      exact hv
     ·rw [getD_set_ne false (Ne.symm hki)] at hl
      have h1 := hmono k _ w w' hg (inv.ok k ok d hk hl hkd)
      cases hod : o.dst with
      | none => exact h1
      | some d' =>
       have hne : d' ≠ d := fun e => hki ((hd i o d ho (by rw [hod, e])).2 k ok hk hkd)
       rw [eval_put_ne hne]; exact h1
   have hi' := hi.set hir hin
   unfold wpOp
   simp only [ho]
   by_cases hw : Region.wanted o (yielded ops a.tmps) = true
   ·rw [if_pos hw]
    left
    have hr := hst.1 hw
    unfold Oper.wp
    generalize (execOp a.eval o).run P w = r at *
    cases r with
    | ok nx w' =>
     cases nx <;> simp only [netUpon] at hr <;> simp only [Oper.upon]
     case value u => exact ih _ _ _ hi' hunl (next u w' hr.2 hr.1)
     case skip => exact ih _ _ _ hi' hunl (next undef w' hr.2 hr.1)
     case enter g args => exact hr.mono fun e w'' ⟨u, he, hv, hg⟩ => by subst he; exact ih _ _ _ hi' hunl (next u w'' hg hv)
    | halt x w' => simp only [netUpon] at hr
   ·rw [if_neg hw]
    exact ih _ _ _ hi' hunl (next undef w (Gr.refl _) (hst.2 (by simpa using hw)))
theorem wp_region_net_tail {id : Nat} {Q : Exit → Act → World → Prop} {a : Act} {w : World} {l : List Oper} (n : Nat) (Φ : Nat → Value → World → Prop) (hm : P.follows .mixedOrders = true) (hB : netTailB .any l.toArray n a.tmps.size = true)
  (hmono : ∀ k v w w', Gr w w' → Φ k v w → Φ k v w') (hsteps : netSteps P (l.take n).toArray w.drew a Φ (l.take n) 0)
  (hQ : ∀ (V : Nat → Value) (w' : World), Gr w.drew w' → (∀ (k : Nat) (o : Oper) (d : Tmp), k < n → l[k]? = some o → o.dst = some d → Φ k (V d) w') → wpList P l.toArray Q (l.drop n) (putAll a V (l.take n)) w') : (Code.region id l.toArray true).wp P Q a w := by
 refine wp_region_any hm ?_
 have hn : n < l.length := by
  have h := hB
  simp only [netTailB, Bool.and_eq_true, decide_eq_true_eq] at h
  simpa using h.1.1.1.1.2
 have hu : unlh n (Array.replicate l.toArray.size false) = n := by
  unfold unlh
  have : (List.range n).countP (fun k => !(Array.replicate l.toArray.size false).getD k true) = (List.range n).length := List.countP_eq_length.2 fun k hk => by
   have hk := List.mem_range.1 hk
   have hkl : k < l.length := by omega
   simp [hkl]
  rw [this]; simp
 have H := net_tail (opsh := (l.take n).toArray) (fun j hj => by simp [List.getElem?_take_of_lt hj]) (fun j oj hj => by have := (Array.getElem?_eq_some_iff.1 hj).1; simp at this; omega) (w0 := w.drew) (a0 := a) (Φ := Φ) (Q := Q) (P := P) (n := n) hB hmono (fun k o hkn hk => by
  have := netSteps_spec (l.take n) 0 hsteps k o (by rw [List.getElem?_take_of_lt hkn]; simpa using hk)
  rwa [Nat.zero_add] at this) (fun a' w' hg hdf hsz hkeep hok => ?_) n (Array.replicate l.toArray.size false) a w.drew
  ⟨by simp, fun j oj _ hl => (by rw [getD_replicate_false] at hl; cases hl), fun t _ ht => getD_in (by simpa using ht) (getD_replicate_false _ _)⟩ hu
  ⟨Gr.refl _, rfl, rfl, fun _ _ => rfl, fun k o d _ hl _ => by rw [getD_replicate_false] at hl; cases hl⟩
 ·rw [show n + (l.toArray.size - n) = l.toArray.size by simp; omega] at H
  exact H
 have e : a' = putAll a (fun d => a'.eval (.tmp d)) (l.take n) := by
  have h1 : a'.tmps = (putAll a (fun d => a'.eval (.tmp d)) (l.take n)).tmps := by
   apply Array.ext_getElem?
   intro d
   by_cases hd : d < a.tmps.size
   ·rw [putAll_get _ d (l.take n) a hd]
    by_cases hany : (l.take n).any (fun o => o.dst == some d) = true
    ·rw [if_pos hany]
     have hd' : d < a'.tmps.size := by omega
     simp [Act.eval, hd']
    ·rw [if_neg hany]
     refine hkeep d fun k o hkn hk he => hany ?_
     have hk' : (l.take n)[k]? = some o := by rw [List.getElem?_take_of_lt hkn]; simpa using hk
     exact List.any_eq_true.2 ⟨o, List.mem_of_getElem? hk', by simp [he]⟩
   ·rw [Array.getElem?_eq_none (by omega), Array.getElem?_eq_none (by rw [putAll_size]; omega)]
  have h2 : a'.defers = (putAll a (fun d => a'.eval (.tmp d)) (l.take n)).defers := by rw [putAll_defers]; exact hdf
  revert h1 h2
  generalize putAll a (fun d => a'.eval (.tmp d)) (l.take n) = b
  intro h1 h2
  cases a'; cases b
  simp at h1 h2
  simp [h1, h2]
 have hfin := hQ (fun d => a'.eval (.tmp d)) w' hg (fun k o d hkn hk hkd => hok k o d hkn (by simpa using hk) hkd)
 rw [← e] at hfin
 simpa using hfin
end
end Go.Proofs.Ytifjgocfdnhdeaa
