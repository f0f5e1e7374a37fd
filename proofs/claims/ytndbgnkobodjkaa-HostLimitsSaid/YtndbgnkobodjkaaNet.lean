/-
  Regions that draw their order, some of whose operations lay memory and hand on where it lies: to each operation a word on its value that no growth of the world takes back; whatever the order, behind the region all words hold. Of no program.
-/
import Derived.Test.YtndbgnkobodjkaaSteady
namespace Go.Proofs.Ytndbgnkobodjkaa
open Go.RowKit
section
variable {P : Program} {ops : Array Oper} {md : Region.Mode} {w0 : World}
/-- what an operation comes to: a value of which Φ holds, in a world that has only grown -/
def netUpon (P : Program) (Φ : Value → World → Prop) (w : World) : Result Next → Prop
  | .ok (.value u) w' => Φ u w' ∧ Gr w w'
  | .ok .skip w' => Φ undef w' ∧ Gr w w'
  | .ok (.enter f args) w' => Calls P f args w' (fun e w'' => ∃ u, e = .returned u ∧ Φ u w'' ∧ Gr w w'')
  | _ => False
/-- operation k, in whichever order: what it waits for has its words -/
def NetStep (P : Program) (md : Region.Mode) (ops : Array Oper) (w0 : World) (a0 : Act) (Φ : Nat → Value → World → Prop) (k : Nat) (o : Oper) : Prop :=
  ∀ (a : Act) (w : World), Gr w0 w → (∀ d, (∀ (j : Nat) (oj : Oper), ops[j]? = some oj → oj.dst ≠ some d) → a.tmps[d]? = a0.tmps[d]?) →
    (∀ e ∈ o.after, Region.binds md e = true → ∀ (oj : Oper) (d : Tmp), ops[e.on]? = some oj → oj.dst = some d → Φ e.on (a.eval (.tmp d)) w) →
    (Region.wanted o (yielded ops a.tmps) = true → netUpon P (Φ k) w ((execOp a.eval o).run P w)) ∧ (Region.wanted o (yielded ops a.tmps) = false → Φ k undef w)
structure NetInv (ops : Array Oper) (w0 : World) (a0 : Act) (Φ : Nat → Value → World → Prop) (listed : Array Bool) (a : Act) (w : World) : Prop where
  gr : Gr w0 w
  defers : a.defers = a0.defers
  size : a.tmps.size = a0.tmps.size
  keep : ∀ d, (∀ (k : Nat) (o : Oper), ops[k]? = some o → listed.getD k false = true → o.dst ≠ some d) → a.tmps[d]? = a0.tmps[d]?
  ok : ∀ (k : Nat) (o : Oper) (d : Tmp), ops[k]? = some o → listed.getD k false = true → o.dst = some d → Φ k (a.eval (.tmp d)) w
/-- no two operations write one slot, and all slots are there -/
def netB (md : Region.Mode) (ops : Array Oper) (n : Nat) : Bool :=
  (List.range ops.size).all fun i => (match (ops[i]?).bind (·.dst) with
    | some d => decide (d < n) && (List.range ops.size).all fun j => decide (i = j) || decide ((ops[j]?).bind (·.dst) ≠ some d)
    | none => true) && ((ops[i]?).map fun o => o.after.all fun e => !Region.binds md e || decide (e.on < i)).getD true
theorem netB_spec {n : Nat} (h : netB md ops n = true) : (∀ (i : Nat) (o : Oper) (d : Tmp), ops[i]? = some o → o.dst = some d → d < n ∧ ∀ (j : Nat) (oj : Oper), ops[j]? = some oj → oj.dst = some d → j = i) ∧ ∀ (i : Nat) (o : Oper), ops[i]? = some o → ∀ e ∈ o.after, Region.binds md e = true → e.on < i := by
  have h1 : ∀ i, i < ops.size → _ := fun i hi => List.all_eq_true.1 h i (List.mem_range.2 hi)
  refine ⟨fun i o d hi hd => ?_, fun i o hi e he hb => ?_⟩
  · have hlt := (Array.getElem?_eq_some_iff.1 hi).1
    have h2 := h1 i hlt
    simp only [hi, Option.bind_some, hd, Bool.and_eq_true, decide_eq_true_eq, List.all_eq_true, Bool.or_eq_true] at h2
    refine ⟨h2.1.1, fun j oj hj hdj => ?_⟩
    have h3 := h2.1.2 j (List.mem_range.2 (Array.getElem?_eq_some_iff.1 hj).1)
    rcases h3 with h3 | h3
    · exact h3.symm
    · exact absurd (by rw [hj]; exact hdj) h3
  · have hlt := (Array.getElem?_eq_some_iff.1 hi).1
    have h2 := h1 i hlt
    simp only [hi, Option.map_some, Option.getD_some, Bool.and_eq_true] at h2
    have h3 := Array.all_eq_true'.1 h2.2 e he
    simpa [hb] using h3
theorem eval_put_same {a : Act} {d : Tmp} {v : Value} (h : d < a.tmps.size) : (a.put (some d) v).eval (.tmp d) = v := by
  simp [Act.put, Act.eval, h]
theorem eval_put_ne {a : Act} {d d' : Tmp} {v : Value} (h : d ≠ d') : (a.put (some d) v).eval (.tmp d') = a.eval (.tmp d') := by
  simp [Act.put, Act.eval, Array.getElem?_setIfInBounds_ne h]
theorem cnt_lt {p p' : Nat → Bool} {i : Nat} (hp : p i = true) (hp' : p' i = false) (hle : ∀ k, p' k = true → p k = true) : ∀ l : List Nat, i ∈ l → l.countP p' + 1 ≤ l.countP p
  | [], h => by cases h
  | x :: l, h => by
    have mono : ∀ l : List Nat, l.countP p' ≤ l.countP p := fun l => List.countP_mono_left (fun k _ hk => hle k hk)
    by_cases hx : x = i
    · subst hx
      rw [List.countP_cons_of_pos hp, List.countP_cons_of_neg (by rw [hp']; decide)]
      have := mono l
      omega
    · have hl : i ∈ l := by
        rcases List.mem_cons.1 h with h | h
        · exact absurd h.symm hx
        · exact h
      have ih := cnt_lt hp hp' hle l hl
      rw [List.countP_cons, List.countP_cons]
      have : (if p' x = true then 1 else 0) ≤ (if p x = true then 1 else 0) := by
        by_cases hq : p' x = true
        · rw [if_pos hq, if_pos (hle x hq)]; exact Nat.le_refl _
        · rw [if_neg hq]; exact Nat.zero_le _
      omega
def unl (ops : Array Oper) (listed : Array Bool) : Nat := (List.range ops.size).countP fun k => !listed.getD k true
theorem net_all {a0 : Act} {Φ : Nat → Value → World → Prop} {Q : Exit → Act → World → Prop} (hB : netB md ops a0.tmps.size = true) (hmono : ∀ k v w w', Gr w w' → Φ k v w → Φ k v w')
    (hstep : ∀ (k : Nat) (o : Oper), ops[k]? = some o → NetStep P md ops w0 a0 Φ k o)
    (hQ : ∀ (a : Act) (w : World), Gr w0 w → a.defers = a0.defers → a.tmps.size = a0.tmps.size → (∀ d, (∀ (k : Nat) (o : Oper), ops[k]? = some o → o.dst ≠ some d) → a.tmps[d]? = a0.tmps[d]?) → (∀ (k : Nat) (o : Oper) (d : Tmp), ops[k]? = some o → o.dst = some d → Φ k (a.eval (.tmp d)) w) → Q .normal a w) :
    ∀ (f : Nat) (listed : Array Bool) (a : Act) (w : World), listed.size = ops.size → unl ops listed ≤ f → NetInv ops w0 a0 Φ listed a w → wpAny P md ops Q f listed a w := by
  obtain ⟨hd, hafter⟩ := netB_spec hB
  have full : ∀ (listed : Array Bool) (a : Act) (w : World), listed.size = ops.size → (∀ k, k < ops.size → listed.getD k true = true) → NetInv ops w0 a0 Φ listed a w → Q .normal a w := fun listed a w hs hall inv => by
    have hl : ∀ k o, ops[k]? = some o → listed.getD k false = true := fun k o hk => by
      have hlt := (Array.getElem?_eq_some_iff.1 hk).1
      have := hall k hlt
      have hlt' : k < listed.size := by omega
      simpa [hlt'] using this
    exact hQ a w inv.gr inv.defers inv.size (fun d hdd => inv.keep d fun k o hk _ => hdd k o hk) (fun k o d hk hkd => inv.ok k o d hk (hl k o hk) hkd)
  have noready : ∀ (listed : Array Bool), listed.size = ops.size → Region.ready md ops listed = [] → ∀ k, k < ops.size → listed.getD k true = true := by
    intro listed hs hr k
    induction k using Nat.strongRecOn with
    | _ k ih =>
      intro hk
      cases hu : listed.getD k true with
      | true => rfl
      | false =>
        exfalso
        have : k ∈ Region.ready md ops listed := mem_ready.2 ⟨hu, ops[k], Array.getElem?_eq_getElem hk, fun e he hb => by
          have hlt := hafter k _ (Array.getElem?_eq_getElem hk) e he hb
          have h1 := ih e.on hlt (by omega)
          have hlt' : e.on < listed.size := by omega
          simpa [hlt'] using h1⟩
        rw [hr] at this; cases this
  intro f
  induction f with
  | zero =>
    intro listed a w hs hu inv
    have hall : ∀ k, k < ops.size → listed.getD k true = true := fun k hk => by
      have h0 : (List.range ops.size).countP (fun k => !listed.getD k true) = 0 := by unfold unl at hu; omega
      have := List.countP_eq_zero.1 h0 k (List.mem_range.2 hk)
      simpa using this
    refine ⟨?_, full listed a w hs hall inv⟩
    cases hr : Region.ready md ops listed with
    | nil => rfl
    | cons x xs =>
      exfalso
      have hx : x ∈ Region.ready md ops listed := by rw [hr]; exact List.mem_cons_self ..
      obtain ⟨h1, o, ho, _⟩ := mem_ready.1 hx
      rw [hall x (Array.getElem?_eq_some_iff.1 ho).1] at h1; cases h1
  | succ f ih =>
    intro listed a w hs hu inv
    refine ⟨fun hr => full listed a w hs (noready listed hs hr) inv, fun i hi => ?_⟩
    obtain ⟨hun, o, ho, hall⟩ := mem_ready.1 hi
    have hio := (Array.getElem?_eq_some_iff.1 ho).1
    have hst := hstep i o ho a w inv.gr (fun d hdd => inv.keep d fun k ok hk _ => hdd k ok hk) (fun e he hb oj d hj hjd => inv.ok e.on oj d hj (hall e he hb) hjd)
    have hunl : unl ops (listed.setIfInBounds i true) ≤ f := by
      have := cnt_lt (p := fun k => !listed.getD k true) (p' := fun k => !(listed.setIfInBounds i true).getD k true) (i := i) (by simp only [hun]; rfl) (by
        have : i < listed.size := by omega
        simp [this]) (fun k hk => by
          by_cases hki : i = k
          · subst hki; rw [hun]; rfl
          · rw [getD_set_ne true hki] at hk; exact hk) (List.range ops.size) (List.mem_range.2 hio)
      unfold unl at hu ⊢; omega
    have next : ∀ (v : Value) (w' : World), Gr w w' → Φ i v w' → NetInv ops w0 a0 Φ (listed.setIfInBounds i true) (a.put o.dst v) w' := fun v w' hg hv => by
      refine ⟨gr_trans inv.gr hg, ?_, ?_, fun d hdd => ?_, fun k ok d hk hl hkd => ?_⟩
      · rw [← inv.defers]; unfold Act.put; split <;> rfl
      · rw [← inv.size]; unfold Act.put; split
        · exact Array.size_setIfInBounds
        · rfl
      · have h1 := inv.keep d fun k ok hk hlk => hdd k ok hk (getD_set_true hlk)
        rw [← h1]
        cases hod : o.dst with
        | none => rfl
        | some d' =>
          have hli : i < listed.size := by omega
          have hne : d' ≠ d := fun e => hdd i o ho (by simp [hli]) (by rw [hod, e])
          simp [Act.put, Array.getElem?_setIfInBounds_ne hne]
      · by_cases hki : k = i
        · subst hki
          have : ok = o := Option.some.inj (hk.symm.trans ho)
          subst this
          rw [hkd, eval_put_same (by rw [inv.size]; exact (hd k ok d ho hkd).1)]
          exact hv
        · rw [getD_set_ne false (Ne.symm hki)] at hl
          have h1 := hmono k _ w w' hg (inv.ok k ok d hk hl hkd)
          cases hod : o.dst with
          | none => exact h1
          | some d' =>
            have hne : d' ≠ d := fun e => hki ((hd i o d ho (by rw [hod, e])).2 k ok hk hkd)
            rw [eval_put_ne hne]; exact h1
    have hs' : (listed.setIfInBounds i true).size = ops.size := by rw [Array.size_setIfInBounds]; exact hs
    unfold wpOp
    simp only [ho]
    by_cases hw : Region.wanted o (yielded ops a.tmps) = true
    · rw [if_pos hw]
      left
      have hr := hst.1 hw
      unfold Oper.wp
      generalize (execOp a.eval o).run P w = r at *
      cases r with
      | ok nx w' =>
        cases nx <;> simp only [netUpon] at hr <;> simp only [Oper.upon]
        case value u => exact ih _ _ _ hs' hunl (next u w' hr.2 hr.1)
        case skip => exact ih _ _ _ hs' hunl (next undef w' hr.2 hr.1)
        case enter g args => exact hr.mono fun e w'' ⟨u, he, hv, hg⟩ => by subst he; exact ih _ _ _ hs' hunl (next u w'' hg hv)
      | halt x w' => simp only [netUpon] at hr
    · rw [if_neg hw]
      exact ih _ _ _ hs' hunl (next undef w (Gr.refl _) (hst.2 (by simpa using hw)))
/-- the operations' words, one by one -/
def netSteps (P : Program) (ops : Array Oper) (w0 : World) (a0 : Act) (Φ : Nat → Value → World → Prop) : List Oper → Nat → Prop
  | [], _ => True
  | o :: l, k => NetStep P .any ops w0 a0 Φ k o ∧ netSteps P ops w0 a0 Φ l (k + 1)
theorem netSteps_spec {a0 : Act} {Φ : Nat → Value → World → Prop} : ∀ (l : List Oper) (k : Nat), netSteps P ops w0 a0 Φ l k → ∀ j o, l[j]? = some o → NetStep P .any ops w0 a0 Φ (k + j) o
  | [], _, _, j, o, h => by simp at h
  | x :: l, k, hs, 0, o, h => by
    obtain rfl : x = o := by simpa using h
    exact hs.1
  | x :: l, k, hs, j + 1, o, h => by
    have := netSteps_spec l (k + 1) hs.2 j o (by simpa using h)
    rwa [show k + 1 + j = k + (j + 1) by omega] at this
/-- the slots behind the region -/
def putAll (a : Act) (V : Nat → Value) : List Oper → Act
  | [] => a
  | o :: l => putAll (a.put o.dst ((o.dst.map V).getD undef)) V l
theorem putAll_size (V : Nat → Value) : ∀ (l : List Oper) (a : Act), (putAll a V l).tmps.size = a.tmps.size
  | [], _ => rfl
  | o :: l, a => by
    rw [putAll, putAll_size V l]; unfold Act.put; split
    · exact Array.size_setIfInBounds
    · rfl
theorem putAll_defers (V : Nat → Value) : ∀ (l : List Oper) (a : Act), (putAll a V l).defers = a.defers
  | [], _ => rfl
  | o :: l, a => by rw [putAll, putAll_defers V l]; unfold Act.put; split <;> rfl
theorem putAll_get (V : Nat → Value) (d : Nat) : ∀ (l : List Oper) (a : Act), d < a.tmps.size → (putAll a V l).tmps[d]? = if l.any (fun o => o.dst == some d) then some (V d) else a.tmps[d]?
  | [], _, _ => rfl
  | o :: l, a, hd => by
    have hs : (a.put o.dst ((o.dst.map V).getD undef)).tmps.size = a.tmps.size := by unfold Act.put; split <;> simp
    rw [putAll, putAll_get V d l _ (by rw [hs]; exact hd)]
    by_cases hl : l.any (fun o => o.dst == some d) = true
    · rw [if_pos hl, if_pos (by rw [List.any_cons, hl]; simp)]
    · rw [if_neg hl]
      by_cases ho : o.dst = some d
      · rw [if_pos (by simp [ho]), ho]
        simp [Act.put, hd]
      · have hl' : l.any (fun o => o.dst == some d) = false := by simpa using hl
        rw [if_neg (by simp only [List.any_cons, hl', Bool.or_false, beq_iff_eq]; exact ho)]
        cases hod : o.dst with
        | none => rfl
        | some d' =>
          have hne : d' ≠ d := fun e => ho (by rw [hod, e])
          simp [Act.put, Array.getElem?_setIfInBounds_ne hne]
/-- **A region that draws: whatever the order, all words hold behind it.** -/
theorem wp_region_net {id : Nat} {Q : Exit → Act → World → Prop} {a : Act} {w : World} {l : List Oper} (Φ : Nat → Value → World → Prop) (hm : P.follows .mixedOrders = true) (hB : netB .any l.toArray a.tmps.size = true)
    (hmono : ∀ k v w w', Gr w w' → Φ k v w → Φ k v w') (hsteps : netSteps P l.toArray w.drew a Φ l 0)
    (hQ : ∀ (V : Nat → Value) (w' : World), Gr w.drew w' → (∀ (k : Nat) (o : Oper) (d : Tmp), l[k]? = some o → o.dst = some d → Φ k (V d) w') → Q .normal (putAll a V l) w') : (Code.region id l.toArray true).wp P Q a w := by
  refine wp_region_any hm ?_
  refine net_all (w0 := w.drew) (a0 := a) (Φ := Φ) hB hmono (fun k o hk => by
    have := netSteps_spec l 0 hsteps k o (by simpa using hk)
    rwa [Nat.zero_add] at this) (fun a' w' hg hdf hsz hkeep hok => ?_) _ _ _ _ (by simp) (by
      unfold unl
      exact Nat.le_trans List.countP_le_length (by simp)) ⟨Gr.refl _, rfl, rfl, fun _ _ => rfl, fun k o d _ hl _ => by rw [getD_replicate_false] at hl; cases hl⟩
  have e : a' = putAll a (fun d => a'.eval (.tmp d)) l := by
    have h1 : a'.tmps = (putAll a (fun d => a'.eval (.tmp d)) l).tmps := by
      apply Array.ext_getElem?
      intro d
      by_cases hd : d < a.tmps.size
      · rw [putAll_get _ d l a hd]
        by_cases hany : l.any (fun o => o.dst == some d) = true
        · rw [if_pos hany]
          have hd' : d < a'.tmps.size := by omega
          simp [Act.eval, hd']
        · rw [if_neg hany]
          refine hkeep d fun k o hk he => hany ?_
          have hk' : l[k]? = some o := by simpa using hk
          exact List.any_eq_true.2 ⟨o, List.mem_of_getElem? hk', by simp [he]⟩
      · rw [Array.getElem?_eq_none (by omega), Array.getElem?_eq_none (by rw [putAll_size]; omega)]
    have h2 : a'.defers = (putAll a (fun d => a'.eval (.tmp d)) l).defers := by rw [putAll_defers]; exact hdf
    cases a'; cases hp : putAll a _ l
    rw [hp] at h1 h2
    simp only at h1 h2
    rw [h1, h2]
  rw [e]
  exact hQ _ w' hg fun k o d hk hd => hok k o d (by simpa using hk) hd
/-! ### one step at a time -/
def notDst (ops : Array Oper) (d : Tmp) : Bool := (List.range ops.size).all fun j => decide ((ops[j]?).bind (·.dst) ≠ some d)
def depOn (ops : Array Oper) (o : Oper) (j : Nat) (d : Tmp) : Bool := (o.after.any fun e => Region.binds .any e && e.on == j) && decide ((ops[j]?).bind (·.dst) = some d)
theorem NetStep.of {a0 : Act} {Φ : Nat → Value → World → Prop} {k : Nat} {o : Oper} (hgd : o.guard = none)
    (h : ∀ (ρ : Operand → Value) (w : World), Gr w0 w → (∀ v, ρ (.const v) = v) → (∀ f, ρ (.func f) = .func (.func f) #[] #[]) → (∀ d, notDst ops d = true → ρ (.tmp d) = a0.eval (.tmp d)) →
      (∀ j d, depOn ops o j d = true → Φ j (ρ (.tmp d)) w) → netUpon P (Φ k) w ((execOp ρ o).run P w)) : NetStep P .any ops w0 a0 Φ k o := by
  intro a w hw hin hdep
  refine ⟨fun _ => h a.eval w hw (fun _ => rfl) (fun _ => rfl) (fun d hd => ?_) (fun j d hj => ?_), fun hn => ?_⟩
  · have h1 := hin d fun j oj hj he => by
      have hlt := (Array.getElem?_eq_some_iff.1 hj).1
      have := List.all_eq_true.1 hd j (List.mem_range.2 hlt)
      rw [hj] at this
      simp [he] at this
    simp [Act.eval, h1]
  · unfold depOn at hj
    simp only [Bool.and_eq_true, decide_eq_true_eq] at hj
    obtain ⟨e, he, hb⟩ := Array.any_eq_true'.1 hj.1
    simp only [Bool.and_eq_true, beq_iff_eq] at hb
    obtain ⟨hb1, rfl⟩ := hb
    cases hoj : ops[e.on]? with
    | none => rw [hoj] at hj; simp at hj
    | some oj =>
      rw [hoj] at hj
      exact hdep e he hb1 oj d hoj (by simpa using hj.2)
  · simp [Region.wanted, hgd] at hn
theorem NetStep.load_row {a0 : Act} {Φ : Nat → Value → World → Prop} {k : Nat} {o : Oper} (hgd : o.guard = none) (ty : TypeId) (d : Tmp) (ho : o.op = .load ty (.tmp d)) (hd : notDst ops d = true)
    (g : Nat) (hx : a0.eval (.tmp d) = .pointer (some ⟨g, 0, none⟩)) (t : TypeId) (cs : Array Value) (fr : Nat × Nat) (de : TypeDesc) (hg : w0.heap[g]? = some (.cells cs t fr))
    (hu : P.underlying ty = some de) (hde : (match de with | .struct _ | .array _ _ => true | _ => false) = true) (hi : (P.info? ty).map (·.size) = some cs.size)
    (hΦ : ∀ w, Gr w0 w → Φ k (.agg cs) w) : NetStep P .any ops w0 a0 Φ k o := by
  refine NetStep.of hgd fun ρ w hw _ _ hin _ => ?_
  have h1 := hin d hd
  rw [hx] at h1
  unfold execOp
  simp only [ho, h1, Instr.loadAt, Instr.sureAddr, Sem.run_bind, Sem.run_pure, Result.andThen_ok, run_loadVar_row w g t ty cs fr de (gr_block hw hg) hu hde hi]
  exact ⟨hΦ w hw, Gr.refl _⟩
theorem yielded_of_eval {a : Act} {g : Nat} {d : Tmp} {b : Bool} (hd : (ops[g]?).bind (·.dst) = some d) (h : a.eval (.tmp d) = .bool b) : yielded ops a.tmps g = some b := by
  unfold yielded
  rw [hd]
  have : a.tmps[d]? = some (.bool b) := by
    have h : a.tmps.getD d undef = .bool b := h
    cases hq : a.tmps[d]? with
    | none =>
      rw [Array.getD_eq_getD_getElem?, hq] at h
      simp [undef] at h
    | some v =>
      rw [Array.getD_eq_getD_getElem?, hq] at h
      simp at h
      rw [h]
  simp [this]
/-- a guarded operation whose guard said what it waits for -/
theorem NetStep.guarded {a0 : Act} {Φ : Nat → Value → World → Prop} {k : Nat} {o : Oper} {g : Nat} {b : Bool} (hgd : o.guard = some (g, b)) (dg : Tmp) (hdg : depOn ops o g dg = true) (hΦ : ∀ v w, Φ g v w → v = .bool b)
    (h : ∀ (ρ : Operand → Value) (w : World), Gr w0 w → (∀ v, ρ (.const v) = v) → (∀ f, ρ (.func f) = .func (.func f) #[] #[]) → (∀ d, notDst ops d = true → ρ (.tmp d) = a0.eval (.tmp d)) →
      (∀ j d, depOn ops o j d = true → Φ j (ρ (.tmp d)) w) → netUpon P (Φ k) w ((execOp ρ o).run P w)) : NetStep P .any ops w0 a0 Φ k o := by
  intro a w hw hin hdep
  have hdep' : ∀ j d, depOn ops o j d = true → Φ j (a.eval (.tmp d)) w := fun j d hj => by
    unfold depOn at hj
    simp only [Bool.and_eq_true, decide_eq_true_eq] at hj
    obtain ⟨e, he, hb⟩ := Array.any_eq_true'.1 hj.1
    simp only [Bool.and_eq_true, beq_iff_eq] at hb
    obtain ⟨hb1, rfl⟩ := hb
    cases hoj : ops[e.on]? with
    | none => rw [hoj] at hj; simp at hj
    | some oj =>
      rw [hoj] at hj
      exact hdep e he hb1 oj d hoj (by simpa using hj.2)
  refine ⟨fun _ => h a.eval w hw (fun _ => rfl) (fun _ => rfl) (fun d hd => ?_) hdep', fun hn => ?_⟩
  · have h1 := hin d fun j oj hj he => by
      have hlt := (Array.getElem?_eq_some_iff.1 hj).1
      have := List.all_eq_true.1 hd j (List.mem_range.2 hlt)
      rw [hj] at this
      simp [he] at this
    simp [Act.eval, h1]
  · exfalso
    have hv := hΦ _ w (hdep' g dg hdg)
    have hy := yielded_of_eval (ops := ops) (g := g) (d := dg) (by
      unfold depOn at hdg
      simp only [Bool.and_eq_true, decide_eq_true_eq] at hdg
      exact hdg.2) hv
    simp [Region.wanted, hgd, hy] at hn
theorem net_load_row {Φk : Value → World → Prop} {ρ : Operand → Value} {w : World} {o : Oper} (ty : TypeId) (x : Operand) (ho : o.op = .load ty x)
    (g : Nat) (hx : ρ x = .pointer (some ⟨g, 0, none⟩)) (t : TypeId) (cs : Array Value) (fr : Nat × Nat) (de : TypeDesc) (hg : w0.heap[g]? = some (.cells cs t fr)) (hw : Gr w0 w)
    (hu : P.underlying ty = some de) (hde : (match de with | .struct _ | .array _ _ => true | _ => false) = true) (hi : (P.info? ty).map (·.size) = some cs.size)
    (hΦ : Φk (.agg cs) w) : netUpon P Φk w ((execOp ρ o).run P w) := by
  unfold execOp
  simp only [ho, hx, Instr.loadAt, Instr.sureAddr, Sem.run_bind, Sem.run_pure, Result.andThen_ok, run_loadVar_row w g t ty cs fr de (gr_block hw hg) hu hde hi]
  exact ⟨hΦ, Gr.refl _⟩
theorem net_build {Φk : Value → World → Prop} {ρ : Operand → Value} {w : World} {o : Oper} (t : TypeId) (parts : Array (Nat × Operand)) (ho : o.op = .build t parts) (cells : Array Value)
    (hc : P.built t (parts.map fun (i, x) => (i, ρ x)).toList = some cells) (hΦ : Φk (.agg cells) w) : netUpon P Φk w ((execOp ρ o).run P w) := by
  unfold execOp
  simp only [ho, Sem.run_bind, run_build w t _ cells hc, Result.andThen_ok]
  exact ⟨hΦ, Gr.refl _⟩
end
end Go.Proofs.Ytndbgnkobodjkaa
