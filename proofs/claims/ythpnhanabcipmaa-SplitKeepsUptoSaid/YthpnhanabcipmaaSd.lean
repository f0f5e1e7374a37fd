/-
  Regions that draw their order, over a list of own rows: operations that yield the same value whatever has been laid meanwhile are taken in the text's order; then, if there is one, the operation that lays a row; then a chain. Of no program.
-/
import Derived.Test.YthpnhanabcipmaaSl
namespace Go.Proofs.Ythpnhanabcipmaa
open Go.RowKit
section
variable {P : Program} {ops : Array Oper} {md : Region.Mode} {w0 : World} {M : List Ent}
/-- what an operation comes to: the value v, in a world that has only grown -/
def upR (P : Program) (v : Value) (w : World) : Result Next → Prop
  | .ok (.value u) w' => v = u ∧ Gr w w'
  | .ok .skip w' => v = undef ∧ Gr w w'
  | .ok (.enter f args) w' => Calls P f args w' (fun e w'' => e = .returned v ∧ Gr w w'')
  | _ => False
theorem upR_value (v u : Value) (w w' : World) : upR P v w (.ok (.value u) w') = (v = u ∧ Gr w w') := rfl
theorem upR_skip (v : Value) (w w' : World) : upR P v w (.ok .skip w') = (v = undef ∧ Gr w w') := rfl
theorem upR_enter (v : Value) (w w' : World) (f : FuncId) (args : Array Value) : upR P v w (.ok (.enter f args) w') = Calls P f args w' (fun e w'' => e = .returned v ∧ Gr w w'') := rfl
/-- an operation that yields v in every world that has these rows -/
def StdM (P : Program) (w0 : World) (M : List Ent) (o : Oper) (a : Act) (v : Value) : Prop := ∀ w, St w0 M w → upR P v w ((execOp a.eval o).run P w)
def YldM (P : Program) (ops : Array Oper) (w0 : World) (M : List Ent) (o : Oper) (v : Value) (a : Act) : Prop :=
  (Region.wanted o (yielded ops a.tmps) = true ∧ StdM P w0 M o a v) ∨ (Region.wanted o (yielded ops a.tmps) = false ∧ v = undef)
theorem YldM.of_same {o : Oper} {v : Value} {a a' : Act} (hy : YldM P ops w0 M o v a) (he : execOp a'.eval o = execOp a.eval o)
    (hw : Region.wanted o (yielded ops a'.tmps) = Region.wanted o (yielded ops a.tmps)) : YldM P ops w0 M o v a' := by
  unfold YldM StdM at *
  rw [he, hw]
  exact hy
/-- the class of worlds, ahead of the laying operation and behind it -/
def Cls (w0 : World) (M : List Ent) (c : Array Value) (t : TypeId) : Option Nat → World → Prop
  | none, w => St w0 M w
  | some b, w => St w0 (⟨b, c, t⟩ :: M) w
theorem Cls.st {c : Array Value} {t : TypeId} {ob : Option Nat} {w : World} (h : Cls w0 M c t ob w) : St w0 M w := by
  cases ob with
  | none => exact h
  | some b => exact St.tail h
theorem Cls.grow {c : Array Value} {t : TypeId} {ob : Option Nat} {w w' : World} (h : Cls w0 M c t ob w) (hg : Gr w w') : Cls w0 M c t ob w' := by
  cases ob with
  | none => exact St.grow h hg
  | some b => exact St.grow (M := ⟨b, c, t⟩ :: M) h hg
def ptr (b : Nat) : Value := .pointer (some ⟨b, 0, none⟩)
/-- operation p lays the row c -/
def LaysAt (P : Program) (ops : Array Oper) (p : Nat) (c : Array Value) (t : TypeId) : Prop :=
  ∀ o, ops[p]? = some o → o.guard = none ∧ ∀ (a : Act) (w : World), (execOp a.eval o).run P w = .ok (.value (ptr w.heap.size)) (w.alloc (.cells c t))
def stA (P : Program) (ops : Array Oper) (w0 : World) (M : List Ent) (p : Nat) (i : Nat) (K : Option Nat → Act → Prop) (ob : Option Nat) (a : Act) : Prop :=
  match ops[i]? with
  | none => K ob a
  | some o => if i = p then ob = none ∧ ∀ b, K (some b) (a.put o.dst (ptr b)) else ∃ v, YldM P ops w0 M o v a ∧ K ob (a.put o.dst v)
theorem stA_mono {p i : Nat} {ob : Option Nat} {a : Act} {K K' : Option Nat → Act → Prop} (h : ∀ ob a, K ob a → K' ob a) (hh : stA P ops w0 M p i K ob a) : stA P ops w0 M p i K' ob a := by
  unfold stA at *
  split
  · exact h _ _ (by simpa [*] using hh)
  · rename_i o ho
    simp only [ho] at hh
    split
    · rename_i hp
      rw [if_pos hp] at hh
      exact ⟨hh.1, fun b => h _ _ (hh.2 b)⟩
    · rename_i hp
      rw [if_neg hp] at hh
      obtain ⟨v, hy, hk⟩ := hh
      exact ⟨v, hy, h _ _ hk⟩
theorem wpOp_of_stA {p : Nat} {c : Array Value} {t : TypeId} (hl : LaysAt P ops p c t) {i : Nat} {ob : Option Nat} {a : Act} {K : Option Nat → Act → Prop} {K' : Act → World → Prop} {Q' : Exit → Act → World → Prop}
    (h : ∀ ob a w, Cls w0 M c t ob w → K ob a → K' a w) (hh : stA P ops w0 M p i K ob a) {w : World} (hw : Cls w0 M c t ob w) : wpOp P ops Q' i K' a w := by
  unfold stA at hh
  unfold wpOp
  split
  · rename_i ho; simp only [ho] at hh; exact h _ _ _ hw hh
  · rename_i o ho
    simp only [ho] at hh
    by_cases hp : i = p
    · rw [if_pos hp] at hh
      obtain ⟨rfl, hh⟩ := hh
      subst hp
      obtain ⟨hg, hrun⟩ := hl o ho
      rw [if_pos (by simp [Region.wanted, hg])]
      left
      unfold Oper.wp
      rw [hrun a w]
      exact h (some w.heap.size) _ _ (St.alloc hw c t) (hh _)
    · rw [if_neg hp] at hh
      obtain ⟨v, hy, hk⟩ := hh
      rcases hy with ⟨hwt, hs⟩ | ⟨hwt, rfl⟩
      · rw [if_pos hwt]
        left
        have hr := hs w hw.st
        unfold Oper.wp
        generalize (execOp a.eval o).run P w = r at *
        cases r with
        | ok n w' =>
          cases n <;> simp only [upR] at hr <;> simp only [Oper.upon]
          case value u => obtain ⟨rfl, hg⟩ := hr; exact h _ _ _ (hw.grow hg) hk
          case skip => obtain ⟨rfl, hg⟩ := hr; exact h _ _ _ (hw.grow hg) hk
          case enter f args => exact hr.mono fun e w'' ⟨he, hg⟩ => by subst he; exact h _ _ _ (hw.grow hg) hk
        | halt x w' => simp only [upR] at hr
      · rw [if_neg (by rw [hwt]; decide)]
        exact h _ _ _ hw hk
theorem stA_put {p j : Nat} {oi oj : Oper} {v : Value} {ob : Option Nat} (hj : ops[j]? = some oj) (hap : oi.apart ops oj = true)
    (hsi : ∀ cs b, oi.op ≠ .select cs b) (hsj : ∀ cs b, oj.op ≠ .select cs b) {K : Option Nat → Act → Prop} {a : Act}
    (hy : YldM P ops w0 M oi v a) (h : stA P ops w0 M p j K ob (a.put oi.dst v)) :
    stA P ops w0 M p j (fun ob' a' => YldM P ops w0 M oi v a' ∧ K ob' (a'.put oi.dst v)) ob a := by
  obtain ⟨h1, h2, h3⟩ := Oper.apart_spec hap
  unfold stA at *
  simp only [hj] at *
  by_cases hp : j = p
  · rw [if_pos hp] at h ⊢
    refine ⟨h.1, fun b => ⟨hy.of_same (execOp_put oi hsi a oj.dst (ptr b) h3) (wanted_put oi a oj.dst (ptr b) h3), ?_⟩⟩
    rw [← Act.put_comm a v (ptr b) h2]
    exact h.2 b
  · rw [if_neg hp] at h ⊢
    obtain ⟨u, hyu, hk⟩ := h
    refine ⟨u, ?_, hy.of_same (execOp_put oi hsi a oj.dst u h3) (wanted_put oi a oj.dst u h3), by rw [← Act.put_comm a v u h2]; exact hk⟩
    exact hyu.of_same (execOp_put oj hsj a oi.dst v h1).symm (wanted_put oj a oi.dst v h1).symm
def wpAnyA (P : Program) (md : Region.Mode) (ops : Array Oper) (w0 : World) (M : List Ent) (p n : Nat) (L : Array Bool → Option Nat → Act → Prop) : Nat → Array Bool → Option Nat → Act → Prop
  | 0, listed, ob, a => L listed ob a
  | f + 1, listed, ob, a =>
    Region.ready md ops listed ≠ [] ∧ ∀ i ∈ Region.ready md ops listed, i < n ∧ stA P ops w0 M p i (wpAnyA P md ops w0 M p n L f (listed.setIfInBounds i true)) ob a
theorem wpAny_of_headA {p n g : Nat} {c : Array Value} {t : TypeId} (hl : LaysAt P ops p c t) {L : Array Bool → Option Nat → Act → Prop} {Q' : Exit → Act → World → Prop}
    (hL : ∀ listed ob a w, Cls w0 M c t ob w → L listed ob a → wpAny P md ops Q' g listed a w) :
    ∀ (f : Nat) (listed : Array Bool) (ob : Option Nat) (a : Act) (w : World), Cls w0 M c t ob w → wpAnyA P md ops w0 M p n L f listed ob a → wpAny P md ops Q' (f + g) listed a w
  | 0, listed, ob, a, w, hw, h => by rw [Nat.zero_add]; exact hL _ _ _ _ hw h
  | f + 1, listed, ob, a, w, hw, h => by
    rw [show f + 1 + g = (f + g) + 1 by omega]
    exact ⟨fun h0 => absurd h0 h.1, fun i hi => wpOp_of_stA hl (fun ob' a' w' hw' h' => wpAny_of_headA hl hL f _ ob' a' w' hw' h') (h.2 i hi).2 hw⟩
theorem wpAnyA_first {p n i : Nat} {oi : Oper} {v : Value} {L : Array Bool → Option Nat → Act → Prop} (hi : ops[i]? = some oi) (hip : i ≠ p) (hsel : ∀ (j : Nat) (o : Oper) cs b, ops[j]? = some o → o.op ≠ .select cs b)
    (hin : i < n) (htw : ∀ listed i, HeadInv md ops n listed → i < n → listed.getD i true = false → ∀ t, n ≤ t → t ∉ Region.ready md ops listed)
    (hdone : ∀ listed ob a, L listed ob a → ∀ j ∈ Region.ready md ops listed, n ≤ j) :
    ∀ (f : Nat) (listed : Array Bool) (ob : Option Nat) (a : Act), HeadInv md ops n listed →
      (∀ j oj, ops[j]? = some oj → j ≠ i → listed.getD j true = false → (∀ e ∈ oj.after, Region.binds md e = true → e.on ≠ i) → oi.apart ops oj = true) →
      i ∈ Region.ready md ops listed → YldM P ops w0 M oi v a →
      wpAnyA P md ops w0 M p n L f (listed.setIfInBounds i true) ob (a.put oi.dst v) → wpAnyA P md ops w0 M p n L (f + 1) listed ob a := by
  intro f
  induction f with
  | zero =>
    intro listed ob a inv _ hr hy H
    have hun := (mem_ready.1 hr).1
    refine ⟨fun h => (by rw [h] at hr; cases hr), fun j hj => ?_⟩
    have hjn : j < n := by
      rcases Nat.lt_or_ge j n with h | h
      · exact h
      · exact absurd hj (htw _ i inv hin hun j h)
    refine ⟨hjn, ?_⟩
    by_cases hji : j = i
    · subst hji
      unfold stA; rw [hi]; simp only []; rw [if_neg hip]; exact ⟨v, hy, H⟩
    · have := hdone _ _ _ H j (ready_mono hj hji)
      omega
  | succ f ih =>
    intro listed ob a inv hfree hr hy H
    have hun := (mem_ready.1 hr).1
    refine ⟨fun h => (by rw [h] at hr; cases hr), fun j hj => ?_⟩
    have hjn : j < n := by
      rcases Nat.lt_or_ge j n with h | h
      · exact h
      · exact absurd hj (htw _ i inv hin hun j h)
    refine ⟨hjn, ?_⟩
    by_cases hji : j = i
    · subst hji
      unfold stA; rw [hi]; simp only []; rw [if_neg hip]; exact ⟨v, hy, H⟩
    · have h1 := (H.2 j (ready_mono hj hji)).2
      obtain ⟨hjun, oj, hoj, hall⟩ := mem_ready.1 hj
      have hnot : ∀ e ∈ oj.after, Region.binds md e = true → e.on ≠ i := fun e he hb heq => by
        have h1 := hall e he hb
        rw [heq, getD_both hun] at h1
        cases h1
      have h2 := stA_put hoj (hfree j oj hoj hji hjun hnot) (fun cs b => hsel i oi cs b hi) (fun cs b => hsel j oj cs b hoj) hy h1
      have hfree' : ∀ k ok, ops[k]? = some ok → k ≠ i → (listed.setIfInBounds j true).getD k true = false →
          (∀ e ∈ ok.after, Region.binds md e = true → e.on ≠ i) → oi.apart ops ok = true := fun k ok hk hki hun hno => by
        refine hfree k ok hk hki ?_ hno
        by_cases hjk : j = k
        · subst hjk; exact hjun
        · rw [getD_set_ne true hjk] at hun; exact hun
      refine stA_mono (fun ob' a' h3 => ih (listed.setIfInBounds j true) ob' a' (inv.set hj hjn) hfree' (ready_mono hr (Ne.symm hji)) h3.1 ?_) h2
      rw [Array.setIfInBounds_comm _ _ hji]
      exact h3.2
/-- the operations one by one, in the text's order -/
def wpStdM (P : Program) (ops : Array Oper) (w0 : World) (M : List Ent) (Q : Act → Prop) : List Oper → Act → Prop
  | [], a => Q a
  | o :: rest, a => ∃ v, YldM P ops w0 M o v a ∧ wpStdM P ops w0 M Q rest (a.put o.dst v)
theorem wpAnyA_lex {p n m : Nat} {Lq : Array Bool → Option Nat → Act → Prop} {Kq : Act → Prop} (hsel : Region.noSelect ops = true) (hpm : m ≤ p) (hmn : m ≤ n) (htw : ∀ listed i, HeadInv md ops n listed → i < n → listed.getD i true = false → ∀ t, n ≤ t → t ∉ Region.ready md ops listed)
    (hdone : ∀ listed ob a, Lq listed ob a → ∀ j ∈ Region.ready md ops listed, n ≤ j) (g : Nat)
    (h : Nat) (hend : ∀ listed a, HeadInv md ops n listed → Kq a → Region.seqB md ops h m listed = true → wpAnyA P md ops w0 M p n Lq g listed none a) :
    ∀ (l : List Oper) (k : Nat) (listed : Array Bool) (a : Act), (∀ j, j < l.length → l[j]? = ops[k + j]?) → k + l.length = m → HeadInv md ops n listed →
    Region.lexHead md ops h l.length k listed = true → wpStdM P ops w0 M Kq l a →
    wpAnyA P md ops w0 M p n Lq (l.length + g) listed none a
  | [], k, listed, a, _, hk, inv, hB, hq => by
    have : k = m := by simpa using hk
    subst this
    simp only [List.length_nil, Nat.zero_add]
    exact hend listed a inv hq hB
  | o :: l, k, listed, a, hl, hk, inv, hB, hq => by
    have h0 : ops[k]? = some o := by simpa using (hl 0 (by simp)).symm
    simp only [List.length_cons, Region.lexHead, Bool.and_eq_true] at hB
    obtain ⟨⟨hr, hf⟩, hB'⟩ := hB
    have hkm : k < m := by simp only [List.length_cons] at hk; omega
    have hr' : k ∈ Region.ready md ops listed := by simpa using hr
    obtain ⟨v, hy, hK⟩ := hq
    rw [List.length_cons, show l.length + 1 + g = (l.length + g) + 1 by omega]
    exact wpAnyA_first h0 (by omega) (Region.noSelect_spec hsel) (by omega) htw hdone (l.length + g) listed none a inv (Region.free_spec h0 hf) hr' hy
      (wpAnyA_lex hsel hpm hmn htw hdone g h hend l (k + 1) _ _ (fun j hj => by have := hl (j + 1) (by simp; omega); simpa [Nat.add_assoc, Nat.add_comm 1 j] using this) (by simp only [List.length_cons] at hk; omega) (inv.set hr' (by omega)) hB' hK)
/-- how many operations stand ahead of the first store -/
def fstStore : List Oper → Nat
  | [] => 0
  | o :: l => match o.op with
    | .store _ _ _ => 0
    | _ => fstStore l + 1
/-- **A region all of whose operations are steady.** -/
theorem sd_all {id : Nat} {Q : Exit → Act → World → Prop} {a : Act} {w : World} {l : List Oper} (hS : St w0 M w) (hm : P.follows .mixedOrders = true) (hB : lexAllB .any l.toArray = true)
    (h : wpStdM P l.toArray w0 M (fun a' => ∀ w', St w0 M w' → Q .normal a' w') l a) : (Code.region id l.toArray true).wp P Q a w := by
  simp only [lexAllB, Bool.and_eq_true] at hB
  have inv0 : HeadInv .any l.toArray l.toArray.size (Array.replicate l.toArray.size false) :=
    ⟨by simp, fun j oj _ hl => (by rw [getD_replicate_false] at hl; cases hl), fun t _ ht => getD_in (by simpa using ht) (getD_replicate_false _ _)⟩
  have H := wpAnyA_lex (md := .any) (p := l.toArray.size) (n := l.toArray.size) (m := l.toArray.size) (Lq := fun listed' ob' a' => ob' = none ∧ Region.ready .any l.toArray listed' = [] ∧ ∀ w', St w0 M w' → Q .normal a' w') hB.1 (Nat.le_refl _) (Nat.le_refl _)
    (fun listed i inv hi hun t ht hr => by
      obtain ⟨_, ot, hot, _⟩ := mem_ready.1 hr
      have := (Array.getElem?_eq_some_iff.1 hot).1
      omega) (fun listed ob a ⟨_, h, _⟩ j hj => by rw [h] at hj; cases hj) 0 0 (fun listed a inv hq hB => ⟨rfl, (by
        apply List.eq_nil_iff_forall_not_mem.2
        intro j hj
        have hjs : j < l.toArray.size := by
          obtain ⟨_, ot, hot, _⟩ := mem_ready.1 hj
          exact (Array.getElem?_eq_some_iff.1 hot).1
        have := seqB_ready hB j hj
        omega), hq⟩) l 0 _ a (fun j _ => by simp) (by simp) inv0 (by simpa using hB.2) h
  refine wp_region_any hm ?_
  have := wpAny_of_headA (P := P) (md := .any) (ops := l.toArray) (w0 := w0) (M := M) (p := l.toArray.size) (n := l.toArray.size) (c := #[]) (t := 0) (Q' := Q) (g := 0) (fun o ho => by simp at ho) (fun listed ob a' w' hw hL => by
    obtain ⟨rfl, h1, h2⟩ := hL
    exact ⟨h1, h2 _ hw⟩) _ _ none _ w.drew hS.drew H
  simpa using this
theorem wpAny_le {Q Q' : Exit → Act → World → Prop} (hq : ∀ e a w, Q e a w → Q' e a w) : ∀ (f : Nat) (listed : Array Bool) (a : Act) (w : World), wpAny P md ops Q f listed a w → wpAny P md ops Q' f listed a w
  | 0, listed, a, w, h => ⟨h.1, hq _ _ _ h.2⟩
  | f + 1, listed, a, w, h => by
    refine ⟨fun h0 => hq _ _ _ (h.1 h0), fun i hi => ?_⟩
    have h1 := h.2 i hi
    have ih := fun a w => wpAny_le hq f (listed.setIfInBounds i true) a w
    unfold wpOp at *
    split
    · rename_i ho; simp only [ho] at h1; exact ih _ _ h1
    · rename_i o ho
      simp only [ho] at h1
      split
      · rename_i hw
        rw [if_pos hw] at h1
        rcases h1 with h1 | ⟨h1, a', w', h2⟩
        · left
          unfold Oper.wp at *
          generalize (execOp a.eval o).run P w = r at *
          cases r with
          | ok n w' =>
            cases n <;> simp only [Oper.upon] at h1 ⊢
            case value u => exact ih _ _ h1
            case skip => exact ih _ _ h1
            case defer d => exact ih _ _ h1
            case enter f' args =>
              refine Calls.mono h1 fun e w'' he => ?_
              cases e with
              | returned u => exact ih _ _ he
              | panicked c => exact hq _ _ _ he
              | outgrown => obtain ⟨a', w', h2⟩ := he; exact ⟨a', w', hq _ _ _ h2⟩
            case row row args => exact Rows.mono h1 fun u w'' he => ih _ _ he
          | halt x w' =>
            cases x <;> simp only [Oper.upon] at h1 ⊢
            case panic u => exact hq _ _ _ h1
        · exact .inr ⟨h1, a', w', hq _ _ _ h2⟩
      · rename_i hw
        rw [if_neg hw] at h1
        exact ih _ _ h1
theorem onlyN_end {Q : Exit → Act → World → Prop} {a : Act} {w : World} (h : Q .normal a w) : wpList P ops (onlyN Q) [] a w := h
theorem onlyN_now {Q : Exit → Act → World → Prop} {a : Act} {w : World} (h : Q .normal a w) : onlyN Q .normal a w := h
/-- the conditions on a region whose head is steady but for one laying operation at its end (m = n - 1) or for none (m = n), with a chain behind it -/
def sdTailB (ops : Array Oper) (m n : Nat) : Bool :=
  lateB ops && Region.noSelect ops && decide (n < ops.size) && Region.sinkB .text ops n && Region.chainB .text ops n && Region.lexHead .text ops (ops.size - m) m 0 (Array.replicate ops.size false)
theorem text_inv0 (ops : Array Oper) (n : Nat) : HeadInv .text ops n (Array.replicate ops.size false) :=
  ⟨by simp, fun j oj _ hl => (by rw [getD_replicate_false] at hl; cases hl), fun t _ ht => getD_in (by simpa using ht) (getD_replicate_false _ _)⟩
/-- **A region: a steady head, behind it a chain.** -/
theorem sd_tail {id : Nat} {Q : Exit → Act → World → Prop} {a : Act} {w : World} {l : List Oper} (n : Nat) (hS : St w0 M w) (hm : P.follows .mixedOrders = true) (hB : sdTailB l.toArray n n = true)
    (h : wpStdM P l.toArray w0 M (fun a' => ∀ w', St w0 M w' → wpList P l.toArray (onlyN Q) (l.drop n) a' w') (l.take n) a) : (Code.region id l.toArray true).wp P Q a w := by
  simp only [sdTailB, Bool.and_eq_true, decide_eq_true_eq] at hB
  obtain ⟨⟨⟨⟨⟨hlate, hsel⟩, hn⟩, hs⟩, hc⟩, hlex⟩ := hB
  have hn' : n < l.length := by simpa using hn
  have htl : (l.take n).length = n := by simp; omega
  have hdl : (l.drop n).length = l.toArray.size - n := by simp
  have H := wpAnyA_lex (md := .text) (p := l.toArray.size) (n := n) (m := n) (P := P) (w0 := w0) (M := M) (Lq := fun listed' ob' a' => ob' = none ∧ Region.seqB .text l.toArray (l.toArray.size - n) n listed' = true ∧ ∀ w', St w0 M w' → wpList P l.toArray (onlyN Q) (l.drop n) a' w') hsel (Nat.le_of_lt hn) (Nat.le_refl _)
    (fun listed i inv hi hun t ht => tail_waits hs hc hn inv _ i rfl hi hun t ht) (fun listed ob a ⟨_, h, _⟩ j hj => seqB_ready h j hj) 0 (l.toArray.size - n) (fun listed a inv hq hB => ⟨rfl, hB, hq⟩) (l.take n) 0 _ a (fun j hj => by
        have hj' : j < n := by rw [htl] at hj; exact hj
        simp [hj']) (by simpa using htl) (text_inv0 _ _) (by rw [htl]; exact hlex) h
  refine wp_region_any hm ?_
  have h2 := wpAny_of_headA (P := P) (md := .text) (ops := l.toArray) (w0 := w0) (M := M) (p := l.toArray.size) (n := n) (c := #[]) (t := 0) (Q' := onlyN Q) (g := l.toArray.size - n) (fun o ho => by simp at ho) (fun listed ob a' w' hw hL => by
    obtain ⟨rfl, h1, h2⟩ := hL
    have := wpAny_of_seq (md := .text) (Q' := onlyN Q) (l.drop n) n listed a' w' (fun j => by simp [List.getElem?_drop]) (by rw [hdl]; exact h1) (h2 _ hw)
    rwa [hdl] at this) _ _ none _ w.drew hS.drew H
  rw [htl, Nat.add_zero, show n + (l.toArray.size - n) = l.toArray.size by omega] at h2
  exact wpAny_le (fun _ _ _ h => onlyN_le h) _ _ _ _ (late_any hlate _ _ _ _ h2)
/-- **A region: a steady head, then an operation that lays a row, behind it a chain.** -/
theorem sd_alloc {id : Nat} {Q : Exit → Act → World → Prop} {a : Act} {w : World} {l : List Oper} (p : Nat) (c : Array Value) (t : TypeId) (d : Tmp) (hS : St w0 M w) (hm : P.follows .mixedOrders = true) (hB : sdTailB l.toArray p (p + 1) = true)
    (hl : LaysAt P l.toArray p c t) (hd : (l[p]?).bind (·.dst) = some d)
    (h : wpStdM P l.toArray w0 M (fun a' => ∀ b w', St w0 (⟨b, c, t⟩ :: M) w' → wpList P l.toArray (onlyN Q) (l.drop (p + 1)) (a'.put (some d) (.pointer (some ⟨b, 0, none⟩))) w') (l.take p) a) : (Code.region id l.toArray true).wp P Q a w := by
  simp only [sdTailB, Bool.and_eq_true, decide_eq_true_eq] at hB
  obtain ⟨⟨⟨⟨⟨hlate, hsel⟩, hn⟩, hs⟩, hc⟩, hlex⟩ := hB
  have hn' : p + 1 < l.length := by simpa using hn
  have htl : (l.take p).length = p := by simp; omega
  have hdl : (l.drop (p + 1)).length = l.toArray.size - (p + 1) := by simp
  have hg : l.toArray.size - p = (l.toArray.size - (p + 1)) + 1 := by omega
  obtain ⟨o, ho⟩ : ∃ o, l[p]? = some o := ⟨l[p], List.getElem?_eq_getElem (by omega)⟩
  have ho' : l.toArray[p]? = some o := by simpa using ho
  have hod : o.dst = some d := by rw [ho] at hd; simpa using hd
  have H := wpAnyA_lex (md := .text) (p := p) (n := p + 1) (m := p) (P := P) (w0 := w0) (M := M) (Lq := fun listed' ob' a' => Region.seqB .text l.toArray (l.toArray.size - (p + 1)) (p + 1) listed' = true ∧ ∃ b, ob' = some b ∧ ∀ w', St w0 (⟨b, c, t⟩ :: M) w' → wpList P l.toArray (onlyN Q) (l.drop (p + 1)) a' w') hsel (Nat.le_refl _) (Nat.le_succ _)
    (fun listed i inv hi hun t ht => tail_waits hs hc hn inv _ i rfl hi hun t ht) (fun listed ob a ⟨h, _⟩ j hj => seqB_ready h j hj) 1 (l.toArray.size - p) (fun listed a inv hq hB => by
      rw [hg] at hB
      simp only [Region.seqB, Bool.and_eq_true, decide_eq_true_eq] at hB
      refine ⟨by rw [hB.1]; simp, fun i hi => ?_⟩
      rw [hB.1] at hi
      obtain rfl : i = p := by simpa using hi
      refine ⟨Nat.lt_succ_self _, ?_⟩
      unfold stA
      simp only [ho', if_true]
      exact ⟨trivial, fun b => ⟨hB.2, b, rfl, by rw [hod]; exact hq b⟩⟩) (l.take p) 0 _ a (fun j hj => by
        have hj' : j < p := by rw [htl] at hj; exact hj
        simp [hj']) (by simpa using htl) (text_inv0 _ _) (by rw [htl]; exact hlex) h
  refine wp_region_any hm ?_
  have h2 := wpAny_of_headA (P := P) (md := .text) (ops := l.toArray) (w0 := w0) (M := M) (p := p) (n := p + 1) (c := c) (t := t) (Q' := onlyN Q) (g := l.toArray.size - (p + 1)) hl (fun listed ob a' w' hw hL => by
    obtain ⟨h1, b, rfl, h2⟩ := hL
    have := wpAny_of_seq (md := .text) (Q' := onlyN Q) (l.drop (p + 1)) (p + 1) listed a' w' (fun j => by simp [List.getElem?_drop]) (by rw [hdl]; exact h1) (h2 _ hw)
    rwa [hdl] at this) _ _ none _ w.drew hS.drew H
  rw [htl, show p + 1 + (l.toArray.size - (p + 1)) = l.toArray.size by omega] at h2
  exact wpAny_le (fun _ _ _ h => onlyN_le h) _ _ _ _ (late_any hlate _ _ _ _ h2)
/-! ### the steps -/
variable {Q : Act → Prop} {a : Act} {o : Oper} {rest : List Oper}
theorem sd_nil (h : Q a) : wpStdM P ops w0 M Q [] a := h
theorem sd_step (h : ∀ K : Act → Prop, (∀ a, wpStdM P ops w0 M Q rest a → K a) → ∃ v, YldM P ops w0 M o v a ∧ K (a.put o.dst v)) : wpStdM P ops w0 M Q (o :: rest) a :=
  h _ (fun _ h => h)
theorem sd_op {K : Act → Prop} (hgd : o.guard = none) {v : Value} (hs : StdM P w0 M o a v) (h : K (a.put o.dst v)) : ∃ v, YldM P ops w0 M o v a ∧ K (a.put o.dst v) :=
  ⟨v, .inl ⟨by simp [Region.wanted, hgd], hs⟩, h⟩
theorem sd_yes {K : Act → Prop} (hw : Region.wanted o (yielded ops a.tmps) = true) {v : Value} (hs : StdM P w0 M o a v) (h : K (a.put o.dst v)) : ∃ v, YldM P ops w0 M o v a ∧ K (a.put o.dst v) :=
  ⟨v, .inl ⟨hw, hs⟩, h⟩
theorem sd_no {K : Act → Prop} (hw : Region.wanted o (yielded ops a.tmps) = false) (h : K (a.put o.dst undef)) : ∃ v, YldM P ops w0 M o v a ∧ K (a.put o.dst v) :=
  ⟨undef, .inr ⟨hw, rfl⟩, h⟩
theorem sd_enter {f : FuncId} {args : Array Value} {v : Value} {w : World} (h : Calls P f args w (fun e w'' => e = .returned v ∧ Gr w w'')) : upR P v w (.ok (.enter f args) w) := h
theorem sd_load {K : Act → Prop} (hw : Region.wanted o (yielded ops a.tmps) = true) (ty : TypeId) (x : Operand) (ho : o.op = .load ty x) {b : Nat} (hx : a.eval x = .pointer (some ⟨b, 0, none⟩)) {c : Array Value} {t : TypeId} (hm : Has M b c t)
    {d : TypeDesc} (hu : P.underlying ty = some d) (hd : (match d with | .struct _ | .array _ _ => true | _ => false) = true) (hi : (P.info? ty).map (·.size) = some c.size)
    (h : K (a.put o.dst (.agg c))) : ∃ v, YldM P ops w0 M o v a ∧ K (a.put o.dst v) :=
  sd_yes hw (v := .agg c) (fun w hS => by
    unfold execOp
    simp only [ho, hx, Instr.loadAt, Instr.sureAddr, Sem.run_bind, Sem.run_pure, Result.andThen_ok, run_loadVar_row w b t ty c (0, 0) d (hS.row hm) hu hd hi]
    exact ⟨rfl, Gr.refl _⟩) h
end
end Go.Proofs.Ythpnhanabcipmaa
