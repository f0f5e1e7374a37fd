/-
  Texts of this seat, joined: Sep, Fac. Each says what it proves.
-/
import Derived.Test.YtifjgocfdnhdeaaMr3
import Derived.Laws.OwnMore
import Derived.Laws.IdiomCopy
import Derived.Deep.MidRow
/- Sep -/
namespace Go.Proofs.Ytifjgocfdnhdeaa
open Go.RowKit
structure Sep (ex : Nat → Prop) (w w' : World) : Prop where
 os : w'.os = w.os
 tape : w'.tape = w.tape
 output : w'.output = w.output
 size : w.heap.size ≤ w'.heap.size
 block : ∀ k, k < w.heap.size → ¬ ex k → w'.heap[k]? = w.heap[k]?
namespace Sep
variable {ex : Nat → Prop} {a w w' : World}
theorem refl (w : World) : Sep ex w w := ⟨rfl, rfl, rfl, Nat.le_refl _, fun _ _ _ => rfl⟩
theorem trans {b c : World} (h : Sep ex a b) (k : Sep ex b c) : Sep ex a c :=
 ⟨k.os.trans h.os, k.tape.trans h.tape, k.output.trans h.output, Nat.le_trans h.size k.size, fun i hi hx => (k.block i (Nat.lt_of_lt_of_le hi h.size) hx).trans (h.block i hi hx)⟩
theorem mono {ex' : Nat → Prop} (h : Sep ex w w') (hx : ∀ k, ex k → ex' k) : Sep ex' w w' := ⟨h.os, h.tape, h.output, h.size, fun k hk hn => h.block k hk fun e => hn (hx k e)⟩
theorem of_gr (h : Gr w w') : Sep ex w w' := ⟨h.os, h.tape, h.output, h.size, fun k hk _ => h.block k hk⟩
theorem setCell (w : World) {p : Addr} (hp : ex p.block) (u : Value) : Sep ex w (w.setCell p u) :=
 ⟨rfl, rfl, rfl, by simp [World.setCell], fun k _ hx => Below.heap_setCell _ _ _ _ (fun e => hx (e ▸ hp))⟩
theorem setCells {b : Nat} (hb : ex b) : ∀ (vs : List Value) (o : Nat) (w : World), Sep ex w (w.setCells b o vs)
 | [], _, w => refl w
 | v :: r, o, w => trans (setCell w (p := ⟨b, o, none⟩) hb v) (setCells hb r (o + 1) _)
theorem grown {row : Option Nat} (hg : w.grownBy w' row) (hr : ∀ k, row = some k → ex k) : Sep ex w w' :=
 ⟨hg.os, hg.tape, hg.output, hg.size, fun k hk hx => hg.block k hk fun e => hx (hr k e.symm)⟩
theorem toGr (h : Gr a w) (s : Sep ex w w') (hex : ∀ k, ex k → a.heap.size ≤ k) : Gr a w' :=
 ⟨s.os.trans h.os, s.tape.trans h.tape, s.output.trans h.output, Nat.le_trans h.size s.size, fun k hk =>
  (s.block k (Nat.lt_of_lt_of_le hk h.size) fun hx => by have := hex k hx; omega).trans (h.block k hk)⟩
theorem at_ {i : Nat} {o : Obj} (s : Sep ex w w') (hx : ¬ ex i) (hi : w.heap[i]? = some o) : w'.heap[i]? = some o := by
 have hlt := (Array.getElem?_eq_some_iff.1 hi).1
 rw [s.block i hlt hx]; exact hi
theorem cell {b o : Nat} {v : Value} (s : Sep ex w w') (hx : ¬ ex b) (hc : w.cell? ⟨b, o, none⟩ = some v) : w'.cell? ⟨b, o, none⟩ = some v := by
 have hlt := block_lt_of_cell hc
 rw [World.cell?_of_block (a := ⟨b, o, none⟩) (s.block b hlt hx)]; exact hc
theorem owns {base : Nat} {e : TypeId} {size : Nat} {v : Value} {n : Nat} {xs : List Value} (s : Sep ex w w') (h : w.ownsRow base e size v n xs) (hx : ∀ k, v.ownBlock = some k → ¬ ex k) : w'.ownsRow base e size v n xs := by
 refine ⟨h.1, ?_⟩
 rcases h.2 with hn | ⟨g, cap, cur, rfl, hb, hgg, rest⟩
 ·exact .inl hn
 ·exact .inr ⟨g, cap, cur, rfl, hb, s.at_ (hx g rfl) hgg, rest⟩
end Sep
theorem owns_there {w : World} {base : Nat} {e : TypeId} {size : Nat} {g n cap : Nat} {xs : List Value} (h : w.ownsRow base e size (.slice (some ⟨g, 0, none⟩) n cap) n xs) : w.there g 0 (n * size) := fun j hj => by
 rw [Nat.zero_add]
 refine ⟨?_, h.frozenAt j⟩
 rw [h.cellAt j hj]
 have := h.1
 rw [List.getElem?_eq_getElem (by omega)]; rfl
theorem there_part {w : World} {g o n o' m : Nat} (h : w.there g o n) (h1 : o ≤ o') (h2 : o' + m ≤ o + n) : w.there g o' m := fun j hj => by
 have := h (o' - o + j) (by omega)
 rw [show o + (o' - o + j) = o' + j by omega] at this
 exact this
end Go.Proofs.Ytifjgocfdnhdeaa
/- Fac -/
namespace Go.Proofs.Ytifjgocfdnhdeaa
open Go.RowKit
section
variable {P : Program} {ops : Array Oper} {md : Region.Mode} {w0 : World}
def ancU (md : Region.Mode) (A : List Nat) (o : Oper) : Nat := o.after.toList.foldl (fun m e => match Region.binds md e with | true => m ||| (1 <<< e.on ||| A.getD e.on 0) | false => m) 0
def ancOk (md : Region.Mode) (A : List Nat) : List Oper → Nat → Bool
 | [], i => Nat.ble A.length i
 | o :: l, i => Nat.beq (A.getD i 0 ||| ancU md A o) (ancU md A o) && ancOk md A l (i + 1)
def aftB (A : List Nat) (i j : Nat) : Bool := Nat.testBit (A.getD i 0) j
def okAt (A : List Nat) (k : Nat) (br : List Nat) : Bool := br.all fun b => b == k || aftB A b k
def ClosedL (md : Region.Mode) (ops : Array Oper) (listed : Array Bool) : Prop := ∀ (j : Nat) (oj : Oper), ops[j]? = some oj → listed.getD j false = true → ∀ e ∈ oj.after, Region.binds md e = true → listed.getD e.on false = true
theorem ancU_bit {A : List Nat} {j : Nat} : ∀ (l : List Edge) (m : Nat), Nat.testBit (l.foldl (fun m e => match Region.binds md e with | true => m ||| (1 <<< e.on ||| A.getD e.on 0) | false => m) m) j = true →
  Nat.testBit m j = true ∨ ∃ e ∈ l, Region.binds md e = true ∧ (e.on = j ∨ Nat.testBit (A.getD e.on 0) j = true)
 | [], m, h => .inl h
 | e :: l, m, h => by
  rw [List.foldl_cons] at h
  rcases ancU_bit l _ h with h1 | ⟨e', he', h2⟩
  ·cases hb : Region.binds md e with
   | false => rw [hb] at h1; exact .inl h1
   | true =>
    rw [hb] at h1
    simp only [Nat.testBit_or, Bool.or_eq_true] at h1
    rcases h1 with h1 | h1 | h1
    ·exact .inl h1
    ·refine .inr ⟨e, List.mem_cons_self .., hb, .inl ?_⟩
     simpa [Nat.shiftLeft_eq, Nat.testBit_two_pow] using h1
    ·exact .inr ⟨e, List.mem_cons_self .., hb, .inr h1⟩
  ·exact .inr ⟨e', List.mem_cons_of_mem _ he', h2⟩
theorem ancOk_spec {A : List Nat} : ∀ (l : List Oper) (i : Nat), ancOk md A l i = true → (∀ k o, l[k]? = some o → A.getD (i + k) 0 ||| ancU md A o = ancU md A o) ∧ A.length ≤ i + l.length
 | [], i, h => ⟨fun k o hk => by simp at hk, by simpa [ancOk] using Nat.le_of_ble_eq_true h⟩
 | o :: l, i, h => by
  unfold ancOk at h
  simp only [Bool.and_eq_true] at h
  obtain ⟨h1, h2⟩ := ancOk_spec l (i + 1) h.2
  refine ⟨fun k o' hk => ?_, by simp only [List.length_cons]; omega⟩
  match k, hk with
  | 0, hk =>
   obtain rfl : o = o' := by simpa using hk
   exact Nat.eq_of_beq_eq_true h.1
  | k + 1, hk =>
   have := h1 k o' (by simpa using hk)
   rwa [show i + 1 + k = i + (k + 1) by omega] at this
theorem aft_listed {A : List Nat} {listed : Array Bool} (hA : ancOk md A ops.toList 0 = true) (haf : ∀ (i : Nat) (o : Oper), ops[i]? = some o → ∀ e ∈ o.after, Region.binds md e = true → e.on < i) (hc : ClosedL md ops listed) :
  ∀ (i j : Nat), aftB A i j = true → listed.getD i false = true → listed.getD j false = true := by
 intro i
 induction i using Nat.strongRecOn with
 | _ i ih =>
  intro j h hl
  unfold aftB at h
  obtain ⟨h1, h2⟩ := ancOk_spec ops.toList 0 hA
  cases ho : ops[i]? with
  | none =>
   rw [List.getD_eq_getElem?_getD, List.getElem?_eq_none (by have := Array.getElem?_eq_none_iff.1 ho; simp at h2; omega)] at h
   simp at h
  | some o =>
   have h3 := h1 i o (by simpa using ho)
   rw [Nat.zero_add] at h3
   have h4 : Nat.testBit (ancU md A o) j = true := by rw [← h3, Nat.testBit_or, h]; rfl
   rcases ancU_bit _ _ h4 with h5 | ⟨e, he, hb, h5⟩
   ·simp at h5
   ·have he' : e ∈ o.after := by simpa using he
    have h6 := hc i o ho hl e he' hb
    rcases h5 with rfl | h5
    ·exact h6
    ·exact ih e.on (haf i o ho e he' hb) j h5 h6
theorem ok_unlisted {A : List Nat} {listed : Array Bool} (hA : ancOk md A ops.toList 0 = true) (haf : ∀ (i : Nat) (o : Oper), ops[i]? = some o → ∀ e ∈ o.after, Region.binds md e = true → e.on < i) (hc : ClosedL md ops listed) {k : Nat} {br : List Nat} (hk : listed.getD k false = false) (h : okAt A k br = true) : ∀ b ∈ br, listed.getD b false = false := fun b hb => by
 have := List.all_eq_true.1 h b hb
 simp only [Bool.or_eq_true, beq_iff_eq] at this
 rcases this with rfl | h1
 ·exact hk
 ·cases hl : listed.getD b false with
  | false => rfl
  | true => rw [aft_listed hA haf hc _ _ h1 hl] at hk; cases hk
abbrev Fct := (World → Prop) × List Nat
def facUpon (P : Program) (Φ : Value → World → Prop) (ex : Nat → Prop) (w : World) : Result Next → Prop
 | .ok (.value u) w' => Φ u w' ∧ Sep ex w w'
 | .ok .skip w' => Φ undef w' ∧ Sep ex w w'
 | .ok (.enter f args) w' => Calls P f args w' (fun e w'' => ∃ u, e = .returned u ∧ Φ u w'' ∧ Sep ex w w'')
 | _ => False
def dstU (o : Oper) (u : Value) : Value := match o.dst with | some _ => u | none => undef
def dstV (o : Oper) (V : Tmp → Value) : Value := match o.dst with | some d => V d | none => undef
def FacStep (P : Program) (md : Region.Mode) (ops : Array Oper) (A : List Nat) (w0 : World) (a0 : Act) (Fs : List Fct) (brk : Nat → List Nat) (X : Nat → Nat → Prop) (Φ : Nat → Value → World → Prop) (k : Nat) (o : Oper) : Prop :=
 ∀ (a : Act) (w : World), Sep (fun j => ∃ k, X k j) w0 w → (∀ d, (∀ (j : Nat) (oj : Oper), ops[j]? = some oj → oj.dst = some d → okAt A k [j] = true) → a.tmps[d]? = a0.tmps[d]?) →
  (∀ f ∈ Fs, okAt A k f.2 = true → f.1 w) →
  (∀ e ∈ o.after, Region.binds md e = true → ∀ (oj : Oper), ops[e.on]? = some oj → okAt A k (brk e.on) = true → Φ e.on (dstV oj fun d => a.eval (.tmp d)) w) →
  (Region.wanted o (yielded ops a.tmps) = true → facUpon P (fun u => Φ k (dstU o u)) (X k) w ((execOp a.eval o).run P w)) ∧ (Region.wanted o (yielded ops a.tmps) = false → Φ k undef w)
structure FacInv (md : Region.Mode) (ops : Array Oper) (A : List Nat) (w0 : World) (a0 : Act) (Fs : List Fct) (brk : Nat → List Nat) (X : Nat → Nat → Prop) (Φ : Nat → Value → World → Prop) (listed : Array Bool) (a : Act) (w : World) : Prop where
 sep : Sep (fun j => ∃ k, X k j) w0 w
 defers : a.defers = a0.defers
 size : a.tmps.size = a0.tmps.size
 keep : ∀ d, (∀ (k : Nat) (o : Oper), ops[k]? = some o → listed.getD k false = true → o.dst ≠ some d) → a.tmps[d]? = a0.tmps[d]?
 closed : ClosedL md ops listed
 ok : ∀ (k : Nat) (o : Oper), ops[k]? = some o → listed.getD k false = true → (∀ b ∈ brk k, listed.getD b false = false) → Φ k (dstV o fun d => a.eval (.tmp d)) w
 fac : ∀ f ∈ Fs, (∀ b ∈ f.2, listed.getD b false = false) → f.1 w
theorem fac_all {A : List Nat} {a0 : Act} {Fs : List Fct} {brk : Nat → List Nat} {X : Nat → Nat → Prop} {Φ : Nat → Value → World → Prop} {Q : Exit → Act → World → Prop} (hB : netB md ops a0.tmps.size = true) (hA : ancOk md A ops.toList 0 = true)
  (hF : ∀ f ∈ Fs, ∀ k, k ∉ f.2 → ∀ w w', Sep (X k) w w' → f.1 w → f.1 w') (hΦ : ∀ j k, k ≠ j → k ∉ brk j → aftB A j k = false → ∀ v w w', Sep (X k) w w' → Φ j v w → Φ j v w')
  (hstep : ∀ (k : Nat) (o : Oper), ops[k]? = some o → FacStep P md ops A w0 a0 Fs brk X Φ k o)
  (hQ : ∀ (a : Act) (w : World), Sep (fun j => ∃ k, X k j) w0 w → a.defers = a0.defers → a.tmps.size = a0.tmps.size → (∀ d, (∀ (k : Nat) (o : Oper), ops[k]? = some o → o.dst ≠ some d) → a.tmps[d]? = a0.tmps[d]?) →
   (∀ (k : Nat) (o : Oper), ops[k]? = some o → brk k = [] → Φ k (dstV o fun d => a.eval (.tmp d)) w) → (∀ f ∈ Fs, f.2 = [] → f.1 w) → Q .normal a w) :
  ∀ (f : Nat) (listed : Array Bool) (a : Act) (w : World), listed.size = ops.size → unl ops listed ≤ f → FacInv md ops A w0 a0 Fs brk X Φ listed a w → wpAny P md ops Q f listed a w := by
 obtain ⟨hd, hafter⟩ := netB_spec hB
 have full : ∀ (listed : Array Bool) (a : Act) (w : World), listed.size = ops.size → (∀ k, k < ops.size → listed.getD k true = true) → FacInv md ops A w0 a0 Fs brk X Φ listed a w → Q .normal a w := fun listed a w hs hall inv => by
  have hl : ∀ k o, ops[k]? = some o → listed.getD k false = true := fun k o hk => by
   have hlt := (Array.getElem?_eq_some_iff.1 hk).1
   have := hall k hlt
   have hlt' : k < listed.size := by omega
   simpa [hlt'] using this
  exact hQ a w inv.sep inv.defers inv.size (fun d hdd => inv.keep d fun k o hk _ => hdd k o hk) (fun k o hk hb => inv.ok k o hk (hl k o hk) (by rw [hb]; intro b hb; cases hb)) (fun f hf hb => inv.fac f hf (by rw [hb]; intro b hb; cases hb))
 have noready : ∀ (listed : Array Bool), listed.size = ops.size → Region.ready md ops listed = [] → ∀ k, k < ops.size → listed.getD k true = true := by
  intro listed hs hr k
  induction k using Nat.strongRecOn with
  | _ k ih =>
   intro hk
   cases hu : listed.getD k true with
   | true => rfl
   | false =>
    exfalso
    have : k ∈ Region.ready md ops listed := mem_ready.2 ⟨hu, ops[k], Array.getElem?_eq_getElem hk, fun e he hb => by
     have hlt := hafter k _ (Array.getElem?_eq_getElem hk) e he hb
     have h1 := ih e.on hlt (by omega)
     have hlt' : e.on < listed.size := by omega
     simpa [hlt'] using h1⟩
    rw [hr] at this; cases this
 intro f
 induction f with
 | zero =>
  intro listed a w hs hu inv
  have hall : ∀ k, k < ops.size → listed.getD k true = true := fun k hk => by
   have h0 : (List.range ops.size).countP (fun k => !listed.getD k true) = 0 := by unfold unl at hu; omega
   have := List.countP_eq_zero.1 h0 k (List.mem_range.2 hk)
   simpa using this
  refine ⟨?_, full listed a w hs hall inv⟩
  cases hr : Region.ready md ops listed with
  | nil => rfl
  | cons x xs =>
   exfalso
   have hx : x ∈ Region.ready md ops listed := by rw [hr]; exact List.mem_cons_self ..
   obtain ⟨h1, o, ho, _⟩ := mem_ready.1 hx
   rw [hall x (Array.getElem?_eq_some_iff.1 ho).1] at h1; cases h1
 | succ f ih =>
  intro listed a w hs hu inv
  refine ⟨fun hr => full listed a w hs (noready listed hs hr) inv, fun i hi => ?_⟩
  obtain ⟨hun, o, ho, hall⟩ := mem_ready.1 hi
  have hio := (Array.getElem?_eq_some_iff.1 ho).1
  have hli : i < listed.size := by omega
  have hunf : listed.getD i false = false := getD_both hun
  have hst := hstep i o ho a w inv.sep (fun d hdd => inv.keep d fun k ok hk hlk hkd => by
   have h1 := ok_unlisted hA hafter inv.closed hunf (hdd k ok hk hkd) k (List.mem_singleton.2 rfl)
   rw [h1] at hlk; cases hlk) (fun f hf hb => inv.fac f hf (ok_unlisted hA hafter inv.closed hunf hb)) (fun e he hb oj hj hbk => inv.ok e.on oj hj (hall e he hb) (ok_unlisted hA hafter inv.closed hunf hbk))
  have hunl : unl ops (listed.setIfInBounds i true) ≤ f := by
   have := cnt_lt (p := fun k => !listed.getD k true) (p' := fun k => !(listed.setIfInBounds i true).getD k true) (i := i) (by simp only [hun]; rfl) (by
    simp [hli]) (fun k hk => by
     by_cases hki : i = k
     ·subst hki; rw [hun]; rfl
     ·rw [getD_set_ne true hki] at hk; exact hk) (List.range ops.size) (List.mem_range.2 hio)
   unfold unl at hu ⊢; omega
  have hnew : (listed.setIfInBounds i true).getD i false = true := by simp [hli]
  have next : ∀ (v : Value) (w' : World), Sep (X i) w w' → Φ i (dstU o v) w' → FacInv md ops A w0 a0 Fs brk X Φ (listed.setIfInBounds i true) (a.put o.dst v) w' := fun v w' hg hv => by
   refine ⟨Sep.trans inv.sep (hg.mono fun k hk => ⟨i, hk⟩), ?_, ?_, fun d hdd => ?_, fun j oj hj hl e he hb => ?_, fun k ok hk hl hbk => ?_, fun f hf hbk => ?_⟩
   ·rw [← inv.defers]; unfold Act.put; split <;> rfl
   ·rw [← inv.size]; unfold Act.put; split
    ·exact Array.size_setIfInBounds
    ·rfl
   ·have h1 := inv.keep d fun k ok hk hlk => hdd k ok hk (getD_set_true hlk)
    rw [← h1]
    cases hod : o.dst with
    | none => rfl
    | some d' =>
     have hne : d' ≠ d := fun e => hdd i o ho hnew (by rw [hod, e])
     simp [Act.put, Array.getElem?_setIfInBounds_ne hne]
   ·by_cases hij : i = j
    ·subst hij
     have : oj = o := Option.some.inj (hj.symm.trans ho)
     subst this
     exact getD_set_true (hall e he hb)
    ·rw [getD_set_ne false hij] at hl
     exact getD_set_true (inv.closed j oj hj hl e he hb)
   ·by_cases hki : k = i
    ·subst hki
     have : ok = o := Option.some.inj (hk.symm.trans ho)
     subst this
     unfold dstU at hv
     unfold dstV
     cases hkd : ok.dst with
     | none =>
      rw [hkd] at hv
      exact hv
     | some d =>
      rw [hkd] at hv
      simp only at hv ⊢
      rw [eval_put_same (by rw [inv.size]; exact (hd k ok d ho hkd).1)]
      exact hv
    ·rw [getD_set_ne false (Ne.symm hki)] at hl
     have hib : i ∉ brk k := fun hib => by rw [hbk i hib] at hnew; cases hnew
     have haf : aftB A k i = false := by
      cases hq : aftB A k i with
      | false => rfl
      | true => rw [aft_listed hA hafter inv.closed _ _ hq hl] at hunf; cases hunf
     have h1 := hΦ k i (Ne.symm hki) hib haf _ w w' hg (inv.ok k ok hk hl fun b hb => by
      have := hbk b hb
      cases hlb : listed.getD b false with
      | false => rfl
      | true => rw [getD_set_true hlb] at this; cases this)
     unfold dstV at *
     cases hkd : ok.dst with
     | none => rw [hkd] at h1; exact h1
     | some d =>
      rw [hkd] at h1
      simp only at h1 ⊢
      cases hod : o.dst with
      | none => exact h1
      | some d' =>
       have hne : d' ≠ d := fun e => hki ((hd i o d ho (by rw [hod, e])).2 k ok hk hkd)
       rw [eval_put_ne hne]; exact h1
   ·have hib : i ∉ f.2 := fun hib => by rw [hbk i hib] at hnew; cases hnew
    exact hF f hf i hib w w' hg (inv.fac f hf fun b hb => by
     have := hbk b hb
     cases hlb : listed.getD b false with
     | false => rfl
     | true => rw [getD_set_true hlb] at this; cases this)
  have hs' : (listed.setIfInBounds i true).size = ops.size := by rw [Array.size_setIfInBounds]; exact hs
  unfold wpOp
  simp only [ho]
  by_cases hw : Region.wanted o (yielded ops a.tmps) = true
  ·rw [if_pos hw]
   left
   have hr := hst.1 hw
   unfold Oper.wp
   generalize (execOp a.eval o).run P w = r at *
   cases r with
   | ok nx w' =>
    cases nx <;> simp only [facUpon] at hr <;> simp only [Oper.upon]
    case value u => exact ih _ _ _ hs' hunl (next u w' hr.2 hr.1)
    case skip => exact ih _ _ _ hs' hunl (next undef w' hr.2 hr.1)
    case enter g args => exact hr.mono fun e w'' ⟨u, he, hv, hg⟩ => by subst he; exact ih _ _ _ hs' hunl (next u w'' hg hv)
   | halt x w' => simp only [facUpon] at hr
  ·rw [if_neg hw]
   exact ih _ _ _ hs' hunl (next undef w (Sep.refl _) (by
    have h1 := hst.2 (by simpa using hw)
    unfold dstU; split <;> exact h1))
def facSteps (P : Program) (ops : Array Oper) (A : List Nat) (w0 : World) (a0 : Act) (Fs : List Fct) (brk : Nat → List Nat) (X : Nat → Nat → Prop) (Φ : Nat → Value → World → Prop) : List Oper → Nat → Prop
 | [], _ => True
 | o :: l, k => FacStep P .any ops A w0 a0 Fs brk X Φ k o ∧ facSteps P ops A w0 a0 Fs brk X Φ l (k + 1)
theorem facSteps_spec {A : List Nat} {a0 : Act} {Fs : List Fct} {brk : Nat → List Nat} {X : Nat → Nat → Prop} {Φ : Nat → Value → World → Prop} : ∀ (l : List Oper) (k : Nat), facSteps P ops A w0 a0 Fs brk X Φ l k → ∀ j o, l[j]? = some o → FacStep P .any ops A w0 a0 Fs brk X Φ (k + j) o
 | [], _, _, j, o, h => by simp at h
 | x :: l, k, hs, 0, o, h => by
  obtain rfl : x = o := by simpa using h
  exact hs.1
 | x :: l, k, hs, j + 1, o, h => by
  have := facSteps_spec l (k + 1) hs.2 j o (by simpa using h)
  rwa [show k + 1 + j = k + (j + 1) by omega] at this
theorem wp_region_fac {id : Nat} {Q : Exit → Act → World → Prop} {a : Act} {w : World} {l : List Oper} (A : List Nat) (Fs : List Fct) (brk : Nat → List Nat) (X : Nat → Nat → Prop) (Φ : Nat → Value → World → Prop) (hm : P.follows .mixedOrders = true) (hB : netB .any l.toArray a.tmps.size = true) (hA : ancOk .any A l 0 = true)
  (h0 : ∀ f ∈ Fs, f.1 w.drew) (hF : ∀ f ∈ Fs, ∀ k, k ∉ f.2 → ∀ w w', Sep (X k) w w' → f.1 w → f.1 w') (hΦ : ∀ j k, k ≠ j → k ∉ brk j → aftB A j k = false → ∀ v w w', Sep (X k) w w' → Φ j v w → Φ j v w') (hsteps : facSteps P l.toArray A w.drew a Fs brk X Φ l 0)
  (hQ : ∀ (V : Nat → Value) (w' : World), Sep (fun j => ∃ k, X k j) w.drew w' → (∀ (k : Nat) (o : Oper), l[k]? = some o → brk k = [] → Φ k (dstV o V) w') → (∀ f ∈ Fs, f.2 = [] → f.1 w') → Q .normal (putAll a V l) w') : (Code.region id l.toArray true).wp P Q a w := by
 refine wp_region_any hm ?_
 refine fac_all (w0 := w.drew) (a0 := a) (Φ := Φ) (Fs := Fs) (brk := brk) (X := X) (A := A) hB (by simpa using hA) hF hΦ (fun k o hk => by
  have := facSteps_spec l 0 hsteps k o (by simpa using hk)
  rwa [Nat.zero_add] at this) (fun a' w' hg hdf hsz hkeep hok hfac => ?_) _ _ _ _ (by simp) (by
   unfold unl
   exact Nat.le_trans List.countP_le_length (by simp)) ⟨Sep.refl _, rfl, rfl, fun _ _ => rfl, fun j oj _ hl => (by rw [getD_replicate_false] at hl; cases hl), fun k o _ hl => (by rw [getD_replicate_false] at hl; cases hl), fun f hf _ => h0 f hf⟩
 have e : a' = putAll a (fun d => a'.eval (.tmp d)) l := by
  have h1 : a'.tmps = (putAll a (fun d => a'.eval (.tmp d)) l).tmps := by
   apply Array.ext_getElem?
   intro d
   by_cases hd : d < a.tmps.size
   ·rw [putAll_get _ d l a hd]
    by_cases hany : l.any (fun o => o.dst == some d) = true
    ·rw [if_pos hany]
     have hd' : d < a'.tmps.size := by omega
     simp [Act.eval, hd']
    ·rw [if_neg hany]
     refine hkeep d fun k o hk he => hany ?_
     have hk' : l[k]? = some o := by simpa using hk
     exact List.any_eq_true.2 ⟨o, List.mem_of_getElem? hk', by simp [he]⟩
   ·rw [Array.getElem?_eq_none (by omega), Array.getElem?_eq_none (by rw [putAll_size]; omega)]
  have h2 : a'.defers = (putAll a (fun d => a'.eval (.tmp d)) l).defers := by rw [putAll_defers]; exact hdf
  cases a'; cases hp : putAll a _ l
  rw [hp] at h1 h2
  simp only at h1 h2
  rw [h1, h2]
 rw [e]
 exact hQ _ w' hg (fun k o hk hb => hok k o (by simpa using hk) hb) hfac
theorem not_aft {A : List Nat} {j k m : Nat} (h : aftB A j k = false) (h' : aftB A j m = true) : k ≠ m := fun e => by rw [e, h'] at h; cases h
theorem gr_of_sep {w w' : World} (h : Sep (fun _ => False) w w') : Gr w w' := ⟨h.os, h.tape, h.output, h.size, fun k hk => h.block k hk fun hf => hf⟩
def facsAll (p : Fct → Prop) : List Fct → Prop
 | [] => True
 | f :: l => p f ∧ facsAll p l
theorem facsAll_mem {p : Fct → Prop} : ∀ {l : List Fct}, facsAll p l → ∀ f ∈ l, p f
 | [], _, f, hf => by cases hf
 | g :: l, h, f, hf => by
  rcases List.mem_cons.1 hf with rfl | hf
  ·exact h.1
  ·exact facsAll_mem h.2 f hf
theorem wp_region_facs {id : Nat} {Q : Exit → Act → World → Prop} {a : Act} {w : World} {l : List Oper} (A : List Nat) (Fs : List Fct) (brk : Nat → List Nat) (X : Nat → Nat → Prop) (Φ : Nat → Value → World → Prop) (hm : P.follows .mixedOrders = true) (hB : netB .any l.toArray a.tmps.size = true) (hA : ancOk .any A l 0 = true)
  (h0 : facsAll (fun f => f.1 w.drew) Fs) (hF : facsAll (fun f => ∀ k, k ∉ f.2 → ∀ w w', Sep (X k) w w' → f.1 w → f.1 w') Fs) (hΦ : ∀ j k, k ≠ j → k ∉ brk j → aftB A j k = false → ∀ v w w', Sep (X k) w w' → Φ j v w → Φ j v w') (hsteps : facSteps P l.toArray A w.drew a Fs brk X Φ l 0)
  (hQ : ∀ (V : Nat → Value) (w' : World), Sep (fun j => ∃ k, X k j) w.drew w' → (∀ (k : Nat) (o : Oper), l[k]? = some o → brk k = [] → Φ k (dstV o V) w') → (∀ (i : Nat) (F : World → Prop), Fs[i]? = some (F, []) → F w') → Q .normal (putAll a V l) w') : (Code.region id l.toArray true).wp P Q a w :=
 wp_region_fac A Fs brk X Φ hm hB hA (facsAll_mem h0) (facsAll_mem hF) hΦ hsteps fun V w' h1 h2 h3 => hQ V w' h1 h2 fun _i _F hi => h3 _ (List.mem_of_getElem? hi) rfl
def slotB (ops : Array Oper) (A : List Nat) (k : Nat) (d : Tmp) : Bool := (List.range ops.size).all fun j => decide ((ops[j]?).bind (·.dst) ≠ some d) || okAt A k [j]
def depAt (_ops : Array Oper) (o : Oper) (j : Nat) : Bool := o.after.any fun e => Region.binds .any e && e.on == j
section
variable {A : List Nat} {a0 : Act} {Fs : List Fct} {brk : Nat → List Nat} {X : Nat → Nat → Prop} {Φ : Nat → Value → World → Prop} {k : Nat} {o : Oper}
structure FacUse (ops : Array Oper) (A : List Nat) (w0 : World) (a0 : Act) (Fs : List Fct) (brk : Nat → List Nat) (X : Nat → Nat → Prop) (Φ : Nat → Value → World → Prop) (k : Nat) (o : Oper) (ρ : Operand → Value) (w : World) : Prop where
 sep : Sep (fun j => ∃ k, X k j) w0 w
 con : ∀ v, ρ (.const v) = v
 fn : ∀ f, ρ (.func f) = .func (.func f) #[] #[]
 slot : ∀ d, slotB ops A k d = true → ρ (.tmp d) = a0.eval (.tmp d)
 dep : ∀ j d, (depOn ops o j d && okAt A k (brk j)) = true → Φ j (ρ (.tmp d)) w
 depU : ∀ j, (depAt ops o j && decide ((ops[j]?).map (·.dst) = some none) && okAt A k (brk j)) = true → Φ j undef w
 fac : ∀ (i : Nat) (F : World → Prop) (br : List Nat), Fs[i]? = some (F, br) → okAt A k br = true → F w
theorem facUse_of {a : Act} {w : World} (hw : Sep (fun j => ∃ k, X k j) w0 w) (hin : ∀ d, (∀ (j : Nat) (oj : Oper), ops[j]? = some oj → oj.dst = some d → okAt A k [j] = true) → a.tmps[d]? = a0.tmps[d]?)
  (hf : ∀ f ∈ Fs, okAt A k f.2 = true → f.1 w) (hdep : ∀ e ∈ o.after, Region.binds .any e = true → ∀ (oj : Oper), ops[e.on]? = some oj → okAt A k (brk e.on) = true → Φ e.on (dstV oj fun d => a.eval (.tmp d)) w) :
  FacUse ops A w0 a0 Fs brk X Φ k o a.eval w := by
 refine ⟨hw, fun _ => rfl, fun _ => rfl, fun d hd => ?_, fun j d hj => ?_, fun j hj => ?_, fun i F br hi hb => hf _ (List.mem_of_getElem? hi) hb⟩
 ·have h1 := hin d fun j oj hj he => by
   have hlt := (Array.getElem?_eq_some_iff.1 hj).1
   have := List.all_eq_true.1 hd j (List.mem_range.2 hlt)
   rw [hj] at this
   simpa [he] using this
  simp [Act.eval, h1]
 ·unfold depOn at hj
  simp only [Bool.and_eq_true, decide_eq_true_eq] at hj
  obtain ⟨e, he, hb⟩ := Array.any_eq_true'.1 hj.1.1
  simp only [Bool.and_eq_true, beq_iff_eq] at hb
  obtain ⟨hb1, rfl⟩ := hb
  cases hoj : ops[e.on]? with
  | none => rw [hoj] at hj; simp at hj
  | some oj =>
   rw [hoj] at hj
   have h1 := hdep e he hb1 oj hoj hj.2
   unfold dstV at h1
   rw [show oj.dst = some d by simpa using hj.1.2] at h1
   exact h1
 ·unfold depAt at hj
  simp only [Bool.and_eq_true, decide_eq_true_eq] at hj
  obtain ⟨e, he, hb⟩ := Array.any_eq_true'.1 hj.1.1
  simp only [Bool.and_eq_true, beq_iff_eq] at hb
  obtain ⟨hb1, rfl⟩ := hb
  cases hoj : ops[e.on]? with
  | none => rw [hoj] at hj; simp at hj
  | some oj =>
   rw [hoj] at hj
   have h1 := hdep e he hb1 oj hoj hj.2
   unfold dstV at h1
   rw [show oj.dst = none by simpa using hj.1.2] at h1
   exact h1
theorem FacStep.of (hgd : o.guard = none) (h : ∀ (ρ : Operand → Value) (w : World), FacUse ops A w0 a0 Fs brk X Φ k o ρ w → facUpon P (fun u => Φ k (dstU o u)) (X k) w ((execOp ρ o).run P w)) : FacStep P .any ops A w0 a0 Fs brk X Φ k o := by
 intro a w hw hin hf hdep
 exact ⟨fun _ => h a.eval w (facUse_of hw hin hf hdep), fun hn => by simp [Region.wanted, hgd] at hn⟩
theorem FacStep.skip {g : Nat} {b : Bool} (hgd : o.guard = some (g, b)) (dg : Tmp) (hdg : (depOn ops o g dg && okAt A k (brk g)) = true) (hΦ : ∀ v w, Φ g v w → v = .bool (!b)) (h : ∀ w, Φ k undef w) : FacStep P .any ops A w0 a0 Fs brk X Φ k o := by
 intro a w hw hin hf hdep
 have hu := facUse_of hw hin hf hdep
 refine ⟨fun hn => ?_, fun _ => h w⟩
 exfalso
 have hv := hΦ _ w (hu.dep g dg hdg)
 have hy := yielded_of_eval (ops := ops) (g := g) (d := dg) (by
  unfold depOn at hdg
  simp only [Bool.and_eq_true, decide_eq_true_eq] at hdg
  exact hdg.1.2) hv
 simp [Region.wanted, hgd, hy] at hn
end
end
end Go.Proofs.Ytifjgocfdnhdeaa
