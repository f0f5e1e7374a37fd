/-
  Regions that draw their order, over a list of own rows, several of whose operations lay a row: whatever the order, the region is as in the text's order, the laid rows' blocks being any (β j: the block that operation j lays). An operation may read the rows of those that it waits for. Of no program.
-/
import Derived.Test.YthpnhanabcipmaaSd
namespace Go.Proofs.Ythpnhanabcipmaa
open Go.RowKit
section
variable {P : Program}
theorem calls_det {f : FuncId} {args : Array Value} {w : World} {u v : Value} (hi : P.inits.idxOf? f = none)
    (h1 : Calls P f args w fun e w' => e = .returned u ∧ Gr w w') (h2 : Calls P f args w fun e w' => e = .returned v ∧ Gr w w') : u = v := by
  have d1 := Calls.done (R := fun x _ => x = u) (h1.mono fun e w' ⟨he, _⟩ => by subst he; rfl) hi
  have d2 := Calls.done (R := fun x _ => x = v) (h2.mono fun e w' ⟨he, _⟩ => by subst he; rfl) hi
  obtain ⟨n1, v1, w1, r1, rfl⟩ := d1
  obtain ⟨n2, v2, w2, r2, rfl⟩ := d2
  have key : ∀ (a b : Nat) (x y : Value) (s t : World), a ≤ b → runN P a (lone (Frame.enter P f args .normal) [] w) = .ended (.done x) s → runN P b (lone (Frame.enter P f args .normal) [] w) = .ended (.done y) t → x = y := by
    intro a b x y s t hab ha hb
    obtain ⟨c, rfl⟩ := Nat.exists_eq_add_of_le hab
    rw [runN_add, ha] at hb
    simp at hb
    exact hb.1
  rcases Nat.le_total n1 n2 with h | h
  · exact key n1 n2 _ _ _ _ h r1 r2
  · exact (key n2 n1 _ _ _ _ h r2 r1).symm
/-- a row that an operation lays -/
structure LayT where
  at_ : Nat → Value
  c : Array Value
  t : TypeId
variable {ops : Array Oper} {md : Region.Mode} {w0 : World} {M : List Ent} {lay : Nat → Option LayT}
def upI (P : Program) (v : Value) (w : World) : Result Next → Prop
  | .ok (.value u) w' => v = u ∧ Gr w w'
  | .ok .skip w' => v = undef ∧ Gr w w'
  | .ok (.enter f args) w' => P.inits.idxOf? f = none ∧ Calls P f args w' (fun e w'' => e = .returned v ∧ Gr w' w'') ∧ Gr w w'
  | _ => False
theorem upI_value (v u : Value) (w w' : World) : upI P v w (.ok (.value u) w') = (v = u ∧ Gr w w') := rfl
theorem upI_skip (v : Value) (w w' : World) : upI P v w (.ok .skip w') = (v = undef ∧ Gr w w') := rfl
def StdI (P : Program) (w0 : World) (M : List Ent) (o : Oper) (a : Act) (v : Value) : Prop := ∀ w, St w0 M w → upI P v w ((execOp a.eval o).run P w)
def YldI (P : Program) (ops : Array Oper) (w0 : World) (M : List Ent) (o : Oper) (v : Value) (a : Act) : Prop :=
  (Region.wanted o (yielded ops a.tmps) = true ∧ StdI P w0 M o a v) ∨ (Region.wanted o (yielded ops a.tmps) = false ∧ v = undef)
/-- i waits for j, in so many steps at most -/
def ancB (md : Region.Mode) (ops : Array Oper) : Nat → Nat → Nat → Bool
  | 0, _, _ => false
  | f + 1, i, j => match ops[i]? with
    | some o => o.after.any fun e => Region.binds md e && (e.on == j || ancB md ops f e.on j)
    | none => false
theorem anc_listed {n : Nat} {listed : Array Bool} (inv : HeadInv md ops n listed) : ∀ (f i j : Nat), ancB md ops f i j = true → listed.getD i false = true → listed.getD j false = true
  | 0, _, _, h, _ => by cases h
  | f + 1, i, j, h, hl => by
    unfold ancB at h
    cases hi : ops[i]? with
    | none => rw [hi] at h; cases h
    | some o =>
      rw [hi] at h
      obtain ⟨e, he, hb⟩ := Array.any_eq_true'.1 h
      simp only [Bool.and_eq_true, Bool.or_eq_true, beq_iff_eq] at hb
      have h1 := inv.closed i o hi hl e he hb.1
      rcases hb.2 with h2 | h2
      · rw [← h2]; exact h1
      · exact anc_listed inv f _ _ h2 h1
theorem anc_ready {n : Nat} {listed : Array Bool} (inv : HeadInv md ops n listed) {f i j : Nat} (h : ancB md ops f i j = true) (hr : i ∈ Region.ready md ops listed) : listed.getD j false = true := by
  obtain ⟨_, oi, hoi, hall⟩ := mem_ready.1 hr
  cases f with
  | zero => cases h
  | succ f =>
    unfold ancB at h
    rw [hoi] at h
    obtain ⟨e, he, hb⟩ := Array.any_eq_true'.1 h
    simp only [Bool.and_eq_true, Bool.or_eq_true, beq_iff_eq] at hb
    have h1 := hall e he hb.1
    rcases hb.2 with h2 | h2
    · rw [← h2]; exact h1
    · exact anc_listed inv f _ _ h2 h1
def rowsOf (lay : Nat → Option LayT) (β : Nat → Nat) (js : List Nat) : List Ent := js.filterMap fun j => (lay j).map fun y => ⟨β j, y.c, y.t⟩
/-- operation i, in the state a, with the blocks β: it lays its row, or it yields v, by the own rows and those that it waits for -/
def YB (P : Program) (md : Region.Mode) (ops : Array Oper) (w0 : World) (M : List Ent) (lay : Nat → Option LayT) (β : Nat → Nat) (i : Nat) (o : Oper) (v : Value) (a : Act) : Prop :=
  match lay i with
  | some y => Region.wanted o (yielded ops a.tmps) = true ∧ (∀ w : World, (execOp a.eval o).run P w = .ok (.value (y.at_ w.heap.size)) (w.alloc (.cells y.c y.t))) ∧ v = y.at_ (β i)
  | none => ∃ needs : List Nat, needs.Nodup ∧ (∀ j ∈ needs, ancB md ops ops.size i j = true) ∧ YldI P ops w0 (rowsOf lay β needs ++ M) o v a
theorem YB.of_same {β : Nat → Nat} {i : Nat} {o : Oper} {v : Value} {a a' : Act} (hy : YB P md ops w0 M lay β i o v a) (he : execOp a'.eval o = execOp a.eval o)
    (hw : Region.wanted o (yielded ops a'.tmps) = Region.wanted o (yielded ops a.tmps)) : YB P md ops w0 M lay β i o v a' := by
  unfold YB YldI StdI at *
  rw [he, hw]
  exact hy
def stB (P : Program) (md : Region.Mode) (ops : Array Oper) (w0 : World) (M : List Ent) (lay : Nat → Option LayT) (β : Nat → Nat) (i : Nat) (K : Act → Prop) (a : Act) : Prop :=
  match ops[i]? with
  | none => K a
  | some o => ∃ v, YB P md ops w0 M lay β i o v a ∧ K (a.put o.dst v)
theorem stB_mono {β : Nat → Nat} {i : Nat} {a : Act} {K K' : Act → Prop} (h : ∀ a, K a → K' a) (hh : stB P md ops w0 M lay β i K a) : stB P md ops w0 M lay β i K' a := by
  unfold stB at *
  split
  · exact h _ (by simpa [*] using hh)
  · rename_i o ho
    simp only [ho] at hh
    obtain ⟨v, hy, hk⟩ := hh
    exact ⟨v, hy, h _ hk⟩
theorem stB_put {β : Nat → Nat} {i j : Nat} {oi oj : Oper} {v : Value} (hj : ops[j]? = some oj) (hap : oi.apart ops oj = true)
    (hsi : ∀ cs b, oi.op ≠ .select cs b) (hsj : ∀ cs b, oj.op ≠ .select cs b) {K : Act → Prop} {a : Act}
    (hy : YB P md ops w0 M lay β i oi v a) (h : stB P md ops w0 M lay β j K (a.put oi.dst v)) :
    stB P md ops w0 M lay β j (fun a' => YB P md ops w0 M lay β i oi v a' ∧ K (a'.put oi.dst v)) a := by
  obtain ⟨h1, h2, h3⟩ := Oper.apart_spec hap
  unfold stB at *
  simp only [hj] at *
  obtain ⟨u, hyu, hk⟩ := h
  refine ⟨u, ?_, hy.of_same (execOp_put oi hsi a oj.dst u h3) (wanted_put oi a oj.dst u h3), by rw [← Act.put_comm a v u h2]; exact hk⟩
  exact hyu.of_same (execOp_put oj hsj a oi.dst v h1).symm (wanted_put oj a oi.dst v h1).symm
def wpB (P : Program) (md : Region.Mode) (ops : Array Oper) (w0 : World) (M : List Ent) (lay : Nat → Option LayT) (n : Nat) (β : Nat → Nat) (L : Array Bool → Act → Prop) : Nat → Array Bool → Act → Prop
  | 0, listed, a => L listed a
  | f + 1, listed, a => Region.ready md ops listed ≠ [] ∧ ∀ i ∈ Region.ready md ops listed, i < n ∧ stB P md ops w0 M lay β i (wpB P md ops w0 M lay n β L f (listed.setIfInBounds i true)) a
theorem wpB_first {β : Nat → Nat} {n i : Nat} {oi : Oper} {v : Value} {L : Array Bool → Act → Prop} (hi : ops[i]? = some oi) (hsel : ∀ (j : Nat) (o : Oper) cs b, ops[j]? = some o → o.op ≠ .select cs b)
    (hin : i < n) (htw : ∀ listed i, HeadInv md ops n listed → i < n → listed.getD i true = false → ∀ t, n ≤ t → t ∉ Region.ready md ops listed)
    (hdone : ∀ listed a, L listed a → ∀ j ∈ Region.ready md ops listed, n ≤ j) :
    ∀ (f : Nat) (listed : Array Bool) (a : Act), HeadInv md ops n listed →
      (∀ j oj, ops[j]? = some oj → j ≠ i → listed.getD j true = false → (∀ e ∈ oj.after, Region.binds md e = true → e.on ≠ i) → oi.apart ops oj = true) →
      i ∈ Region.ready md ops listed → YB P md ops w0 M lay β i oi v a →
      wpB P md ops w0 M lay n β L f (listed.setIfInBounds i true) (a.put oi.dst v) → wpB P md ops w0 M lay n β L (f + 1) listed a := by
  intro f
  induction f with
  | zero =>
    intro listed a inv _ hr hy H
    have hun := (mem_ready.1 hr).1
    refine ⟨fun h => (by rw [h] at hr; cases hr), fun j hj => ?_⟩
    have hjn : j < n := by
      rcases Nat.lt_or_ge j n with h | h
      · exact h
      · exact absurd hj (htw _ i inv hin hun j h)
    refine ⟨hjn, ?_⟩
    by_cases hji : j = i
    · subst hji
      unfold stB; rw [hi]; exact ⟨v, hy, H⟩
    · have := hdone _ _ H j (ready_mono hj hji)
      omega
  | succ f ih =>
    intro listed a inv hfree hr hy H
    have hun := (mem_ready.1 hr).1
    refine ⟨fun h => (by rw [h] at hr; cases hr), fun j hj => ?_⟩
    have hjn : j < n := by
      rcases Nat.lt_or_ge j n with h | h
      · exact h
      · exact absurd hj (htw _ i inv hin hun j h)
    refine ⟨hjn, ?_⟩
    by_cases hji : j = i
    · subst hji
      unfold stB; rw [hi]; exact ⟨v, hy, H⟩
    · have h1 := (H.2 j (ready_mono hj hji)).2
      obtain ⟨hjun, oj, hoj, hall⟩ := mem_ready.1 hj
      have hnot : ∀ e ∈ oj.after, Region.binds md e = true → e.on ≠ i := fun e he hb heq => by
        have h1 := hall e he hb
        rw [heq, getD_both hun] at h1
        cases h1
      have h2 := stB_put hoj (hfree j oj hoj hji hjun hnot) (fun cs b => hsel i oi cs b hi) (fun cs b => hsel j oj cs b hoj) hy h1
      have hfree' : ∀ k ok, ops[k]? = some ok → k ≠ i → (listed.setIfInBounds j true).getD k true = false →
          (∀ e ∈ ok.after, Region.binds md e = true → e.on ≠ i) → oi.apart ops ok = true := fun k ok hk hki hun hno => by
        refine hfree k ok hk hki ?_ hno
        by_cases hjk : j = k
        · subst hjk; exact hjun
        · rw [getD_set_ne true hjk] at hun; exact hun
      refine stB_mono (fun a' h3 => ih (listed.setIfInBounds j true) a' (inv.set hj hjn) hfree' (ready_mono hr (Ne.symm hji)) h3.1 ?_) h2
      rw [Array.setIfInBounds_comm _ _ hji]
      exact h3.2
/-- the operations one by one, in the text's order -/
def wpTxt (P : Program) (md : Region.Mode) (ops : Array Oper) (w0 : World) (M : List Ent) (lay : Nat → Option LayT) (β : Nat → Nat) (Q : Act → Prop) : Nat → List Oper → Act → Prop
  | _, [], a => Q a
  | i, o :: rest, a => ∃ v, YB P md ops w0 M lay β i o v a ∧ wpTxt P md ops w0 M lay β Q (i + 1) rest (a.put o.dst v)
theorem wpB_lex {β : Nat → Nat} {n : Nat} {Lq : Array Bool → Act → Prop} {Kq : Act → Prop} (hsel : Region.noSelect ops = true) (htw : ∀ listed i, HeadInv md ops n listed → i < n → listed.getD i true = false → ∀ t, n ≤ t → t ∉ Region.ready md ops listed)
    (hdone : ∀ listed a, Lq listed a → ∀ j ∈ Region.ready md ops listed, n ≤ j) (hn : n ≤ ops.size)
    (h : Nat) (hend : ∀ listed a, HeadInv md ops n listed → Kq a → (∀ j, j < n → listed.getD j false = true) → Region.seqB md ops h n listed = true → Lq listed a) :
    ∀ (l : List Oper) (k : Nat) (listed : Array Bool) (a : Act), (∀ j, j < l.length → l[j]? = ops[k + j]?) → k + l.length = n → HeadInv md ops n listed → (∀ j, j < k → listed.getD j false = true) →
    Region.lexHead md ops h l.length k listed = true → wpTxt P md ops w0 M lay β Kq k l a →
    wpB P md ops w0 M lay n β Lq l.length listed a
  | [], k, listed, a, _, hk, inv, hdn, hB, hq => by
    have : k = n := by simpa using hk
    subst this
    exact hend listed a inv hq hdn hB
  | o :: l, k, listed, a, hl, hk, inv, hdn, hB, hq => by
    have h0 : ops[k]? = some o := by simpa using (hl 0 (by simp)).symm
    simp only [List.length_cons, Region.lexHead, Bool.and_eq_true] at hB
    obtain ⟨⟨hr, hf⟩, hB'⟩ := hB
    have hkm : k < n := by simp only [List.length_cons] at hk; omega
    have hr' : k ∈ Region.ready md ops listed := by simpa using hr
    obtain ⟨v, hy, hK⟩ := hq
    exact wpB_first h0 (Region.noSelect_spec hsel) (by omega) htw hdone l.length listed a inv (Region.free_spec h0 hf) hr' hy
      (wpB_lex hsel htw hdone hn h hend l (k + 1) _ _ (fun j hj => by have := hl (j + 1) (by simp; omega); simpa [Nat.add_assoc, Nat.add_comm 1 j] using this) (by simp only [List.length_cons] at hk; omega) (inv.set hr' (by omega)) (fun j hj => by
        by_cases hjk : j = k
        · subst hjk
          have : j < listed.size := by rw [inv.size]; omega
          simp [this]
        · exact getD_set_true (hdn j (by omega))) hB' hK)
/-- the world behind the listed operations: what has been laid lies there -/
structure ClsM (w0 : World) (M : List Ent) (lay : Nat → Option LayT) (listed : Array Bool) (obs : Nat → Option Nat) (w : World) : Prop where
  st : St w0 M w
  has : ∀ j b, obs j = some b → ∃ y, lay j = some y ∧ w0.heap.size ≤ b ∧ w.heap[b]? = some (.cells y.c y.t (0, 0)) ∧ ∀ e ∈ M, e.b ≠ b
  inj : ∀ j j' b, obs j = some b → obs j' = some b → j = j'
  done : ∀ j, listed.getD j false = true → (lay j).isSome = true → (obs j).isSome = true
  only : ∀ j b, obs j = some b → listed.getD j false = true
def Con (obs : Nat → Option Nat) (β : Nat → Nat) : Prop := ∀ j b, obs j = some b → β j = b
theorem ClsM.rows {listed : Array Bool} {obs : Nat → Option Nat} {w : World} (h : ClsM w0 M lay listed obs w) {β : Nat → Nat} (hc : Con obs β) (js : List Nat) (hn : js.Nodup) (hl : ∀ j ∈ js, listed.getD j false = true) : St w0 (rowsOf lay β js ++ M) w := by
  have hrow : ∀ j ∈ js, ∀ y, lay j = some y → obs j = some (β j) := fun j hj y hy => by
    have h1 := h.done j (hl j hj) (by rw [hy]; rfl)
    cases ho : obs j with
    | none => rw [ho] at h1; cases h1
    | some b => rw [hc j b ho]
  have hmem : ∀ e ∈ rowsOf lay β js, ∃ j ∈ js, ∃ y, lay j = some y ∧ e = ⟨β j, y.c, y.t⟩ := fun e he => by
    obtain ⟨j, hj, h1⟩ := List.mem_filterMap.1 he
    cases hy : lay j with
    | none => rw [hy] at h1; cases h1
    | some y => rw [hy] at h1; exact ⟨j, hj, y, hy, by simpa using h1.symm⟩
  refine ⟨h.st.1, ?_, fun e he => ?_⟩
  · rw [List.map_append, List.nodup_append]
    refine ⟨?_, h.st.2.1, fun b hb b' hb' hbb => ?_⟩
    · clear hmem hl
      induction js with
      | nil => exact List.nodup_nil
      | cons j js ih =>
        obtain ⟨hnj, hns⟩ := List.nodup_cons.1 hn
        have ih' := ih hns (fun k hk => hrow k (List.mem_cons_of_mem _ hk))
        unfold rowsOf at *
        cases hy : lay j with
        | none => simp only [List.filterMap_cons, hy, Option.map_none]; exact ih'
        | some y =>
          simp only [List.filterMap_cons, hy, Option.map_some, List.map_cons]
          refine List.nodup_cons.2 ⟨fun hm => ?_, ih'⟩
          obtain ⟨e, he, hb⟩ := List.mem_map.1 hm
          obtain ⟨k, hk, h1⟩ := List.mem_filterMap.1 he
          cases hyk : lay k with
          | none => rw [hyk] at h1; cases h1
          | some z =>
            rw [hyk] at h1
            have h2 : e = ⟨β k, z.c, z.t⟩ := by simpa using h1.symm
            rw [h2] at hb
            have e1 := hrow j (List.mem_cons_self ..) y hy
            have e2 := hrow k (List.mem_cons_of_mem _ hk) z hyk
            simp only at hb
            rw [hb] at e2
            exact hnj (h.inj _ _ _ e1 e2 ▸ hk)
    · obtain ⟨e, he, rfl⟩ := List.mem_map.1 hb
      obtain ⟨e', he', rfl⟩ := List.mem_map.1 hb'
      obtain ⟨j, hj, y, hy, rfl⟩ := hmem e he
      obtain ⟨y', _, _, _, h4⟩ := h.has j _ (hrow j hj y hy)
      exact h4 e' he' hbb.symm
  · rcases List.mem_append.1 he with he | he
    · obtain ⟨j, hj, y, hy, rfl⟩ := hmem e he
      obtain ⟨y', hy', h2, h3, _⟩ := h.has j _ (hrow j hj y hy)
      rw [hy] at hy'
      cases hy'
      exact ⟨h2, h3⟩
    · exact h.st.2.2 e he
theorem ClsM.grow {listed : Array Bool} {obs : Nat → Option Nat} {w w' : World} (h : ClsM w0 M lay listed obs w) (hg : Gr w w') : ClsM w0 M lay listed obs w' :=
  ⟨h.st.grow hg, fun j b hb => by
    obtain ⟨y, h1, h2, h3, h4⟩ := h.has j b hb
    exact ⟨y, h1, h2, gr_block hg h3, h4⟩, h.inj, h.done, h.only⟩
theorem ClsM.list {listed : Array Bool} {obs : Nat → Option Nat} {w : World} (h : ClsM w0 M lay listed obs w) {i : Nat} (hi : lay i = none) : ClsM w0 M lay (listed.setIfInBounds i true) obs w :=
  ⟨h.st, h.has, h.inj, fun j hl hy => by
    by_cases hij : i = j
    · subst hij; rw [hi] at hy; cases hy
    · rw [getD_set_ne false hij] at hl; exact h.done j hl hy, fun j b hb => getD_set_true (h.only j b hb)⟩
theorem any_of_B {n g : Nat} {L : (Nat → Nat) → Array Bool → Act → Prop} {Q' : Exit → Act → World → Prop} (hns : n ≤ ops.size)
    (hL : ∀ listed obs a w, ClsM w0 M lay listed obs w → (∀ β, Con obs β → L β listed a) → wpAny P md ops Q' g listed a w) :
    ∀ (f : Nat) (listed : Array Bool) (obs : Nat → Option Nat) (a : Act) (w : World), HeadInv md ops n listed → ClsM w0 M lay listed obs w → (∀ β, Con obs β → wpB P md ops w0 M lay n β (L β) f listed a) → wpAny P md ops Q' (f + g) listed a w
  | 0, listed, obs, a, w, _, hw, h => by rw [Nat.zero_add]; exact hL _ _ _ _ hw h
  | f + 1, listed, obs, a, w, inv, hw, h => by
    rw [show f + 1 + g = (f + g) + 1 by omega]
    have hβ : Con obs (fun j => (obs j).getD 0) := fun j b hb => by simp [hb]
    refine ⟨fun h0 => absurd h0 (h _ hβ).1, fun i hi => ?_⟩
    have hin := ((h _ hβ).2 i hi).1
    have hst : ∀ β, Con obs β → stB P md ops w0 M lay β i (wpB P md ops w0 M lay n β (L β) f (listed.setIfInBounds i true)) a := fun β hc => ((h β hc).2 i hi).2
    obtain ⟨hiun, o, ho, hall⟩ := mem_ready.1 hi
    have hilt : i < listed.size := by rw [inv.size]; omega
    have inv' := inv.set hi hin
    unfold wpOp
    simp only [ho]
    unfold stB at hst
    simp only [ho] at hst
    cases hy : lay i with
    | some y =>
      have hst' : ∀ β, Con obs β → Region.wanted o (yielded ops a.tmps) = true ∧ (∀ w : World, (execOp a.eval o).run P w = .ok (.value (y.at_ w.heap.size)) (w.alloc (.cells y.c y.t))) ∧ wpB P md ops w0 M lay n β (L β) f (listed.setIfInBounds i true) (a.put o.dst (y.at_ (β i))) := fun β hc => by
        obtain ⟨v, hyb, hk⟩ := hst β hc
        unfold YB at hyb
        rw [hy] at hyb
        obtain ⟨h1, h2, rfl⟩ := hyb
        exact ⟨h1, h2, hk⟩
      obtain ⟨hg, hrun, _⟩ := hst' _ hβ
      rw [if_pos hg]
      left
      unfold Oper.wp
      rw [hrun w]
      have hob : obs i = none := by
        cases ho : obs i with
        | none => rfl
        | some b => have := hw.only i b ho; rw [getD_both hiun] at this; cases this
      have hfresh : ∀ j b, obs j = some b → b < w.heap.size := fun j b hb => by
        obtain ⟨y', _, _, h3, _⟩ := hw.has j b hb
        exact (Array.getElem?_eq_some_iff.1 h3).1
      have hgr : Gr w (w.alloc (.cells y.c y.t)) := (Gr.refl w).alloc _ _
      refine any_of_B hns hL f (listed.setIfInBounds i true) (fun j => if j = i then some w.heap.size else obs j) _ _ inv' ⟨hw.st.grow hgr, fun j b hb => ?_, fun j j' b hb hb' => ?_, fun j hl hj => ?_, fun j b hb => ?_⟩ (fun β hc => ?_)
      · by_cases hji : j = i
        · rw [if_pos hji] at hb
          cases hb
          subst hji
          exact ⟨y, hy, hw.st.1.size, heap_alloc_new w _, fun e he => Nat.ne_of_lt (hw.st.fresh he)⟩
        · rw [if_neg hji] at hb
          obtain ⟨y', h1, h2, h3, h4⟩ := hw.has j b hb
          exact ⟨y', h1, h2, gr_block hgr h3, h4⟩
      · by_cases hji : j = i <;> by_cases hji' : j' = i
        · rw [hji, hji']
        · rw [if_pos hji] at hb; rw [if_neg hji'] at hb'
          cases hb
          have := hfresh _ _ hb'; omega
        · rw [if_neg hji] at hb; rw [if_pos hji'] at hb'
          cases hb'
          have := hfresh _ _ hb; omega
        · rw [if_neg hji] at hb; rw [if_neg hji'] at hb'
          exact hw.inj _ _ _ hb hb'
      · by_cases hji : j = i
        · simp [hji]
        · rw [if_neg hji]
          rw [getD_set_ne false (Ne.symm hji)] at hl
          exact hw.done j hl hj
      · by_cases hji : j = i
        · subst hji; simp [hilt]
        · rw [if_neg hji] at hb; exact getD_set_true (hw.only j b hb)
      · have hc' : Con obs β := fun j b hb => hc j b (by
          have hji : j ≠ i := fun e => by rw [e, hob] at hb; cases hb
          simp only []; rw [if_neg hji]; exact hb)
        have := (hst' β hc').2.2
        rw [hc i w.heap.size (by simp)] at this
        exact this
    | none =>
      have hst' : ∀ β, Con obs β → ∃ v, ((Region.wanted o (yielded ops a.tmps) = true ∧ upI P v w ((execOp a.eval o).run P w)) ∨ (Region.wanted o (yielded ops a.tmps) = false ∧ v = undef)) ∧ wpB P md ops w0 M lay n β (L β) f (listed.setIfInBounds i true) (a.put o.dst v) := fun β hc => by
        obtain ⟨v, hyb, hk⟩ := hst β hc
        unfold YB at hyb
        rw [hy] at hyb
        obtain ⟨needs, hnd, hanc, hyi⟩ := hyb
        refine ⟨v, ?_, hk⟩
        rcases hyi with ⟨h1, h2⟩ | h1
        · exact .inl ⟨h1, h2 w (hw.rows hc needs hnd fun j hj => anc_ready inv (hanc j hj) hi)⟩
        · exact .inr h1
      have hw' := hw.list (i := i) hy
      obtain ⟨v, hv, _⟩ := hst' _ hβ
      rcases hv with ⟨hwt, hup⟩ | ⟨hwt, rfl⟩
      · rw [if_pos hwt]
        left
        unfold Oper.wp
        have hall' : ∀ β, Con obs β → ∃ v, upI P v w ((execOp a.eval o).run P w) ∧ wpB P md ops w0 M lay n β (L β) f (listed.setIfInBounds i true) (a.put o.dst v) := fun β hc => by
          obtain ⟨v, hv, hk⟩ := hst' β hc
          rcases hv with ⟨_, h2⟩ | ⟨h1, _⟩
          · exact ⟨v, h2, hk⟩
          · rw [hwt] at h1; cases h1
        generalize (execOp a.eval o).run P w = r at *
        cases r with
        | ok nx w' =>
          cases nx <;> simp only [upI] at hup hall' <;> simp only [Oper.upon]
          case value u =>
            exact any_of_B hns hL f _ obs _ _ inv' (hw'.grow hup.2) fun β hc => by
              obtain ⟨v', ⟨rfl, _⟩, hk⟩ := hall' β hc
              exact hk
          case skip =>
            exact any_of_B hns hL f _ obs _ _ inv' (hw'.grow hup.2) fun β hc => by
              obtain ⟨v', ⟨rfl, _⟩, hk⟩ := hall' β hc
              exact hk
          case enter fn args =>
            refine hup.2.1.mono fun e w'' ⟨he, hg⟩ => ?_
            subst he
            exact any_of_B hns hL f _ obs _ _ inv' ((hw'.grow hup.2.2).grow hg) fun β hc => by
              obtain ⟨v', ⟨h1, h2, _⟩, hk⟩ := hall' β hc
              rw [calls_det h1 hup.2.1 h2]
              exact hk
        | halt x w' => simp only [upI] at hup
      · rw [if_neg (by rw [hwt]; decide)]
        exact any_of_B hns hL f _ obs _ _ inv' hw' fun β hc => by
          obtain ⟨v', hv', hk⟩ := hst' β hc
          rcases hv' with ⟨h1, _⟩ | ⟨_, rfl⟩
          · rw [hwt] at h1; cases h1
          · exact hk
/-- the layings as a list -/
def layL (ls : List (Nat × LayT)) (i : Nat) : Option LayT := ls.lookup i
def smB (ops : Array Oper) (n : Nat) (js : List Nat) : Bool :=
  lateB ops && Region.noSelect ops && decide (n < ops.size) && Region.sinkB .text ops n && Region.chainB .text ops n && Region.lexHead .text ops (ops.size - n) n 0 (Array.replicate ops.size false) && decide js.Nodup && js.all (fun j => decide (j < n))
def smAllB (ops : Array Oper) (js : List Nat) : Bool :=
  lateB ops && Region.noSelect ops && Region.lexHead .text ops 0 ops.size 0 (Array.replicate ops.size false) && decide js.Nodup && js.all (fun j => decide (j < ops.size))
theorem cls0 {w : World} (hS : St w0 M w) (k : Nat) : ClsM w0 M lay (Array.replicate k false) (fun _ => none) w :=
  ⟨hS, fun _ _ h => (by cases h), fun _ _ _ h => (by cases h), fun j h _ => (by rw [getD_replicate_false] at h; cases h), fun _ _ h => (by cases h)⟩
/-- **A region: n operations in any order, some of which lay rows; behind them a chain.** -/
theorem sm_tail {id : Nat} {Q : Exit → Act → World → Prop} {a : Act} {w : World} {l : List Oper} (n : Nat) (ls : List (Nat × LayT)) (hS : St w0 M w) (hm : P.follows .mixedOrders = true) (hB : smB l.toArray n (ls.map (·.1)) = true)
    (h : ∀ β : Nat → Nat, wpTxt P .text l.toArray w0 M (layL ls) β (fun a' => ∀ w', St w0 (rowsOf (layL ls) β (ls.map (·.1)) ++ M) w' → wpList P l.toArray (onlyN Q) (l.drop n) a' w') 0 (l.take n) a) : (Code.region id l.toArray true).wp P Q a w := by
  simp only [smB, Bool.and_eq_true, decide_eq_true_eq] at hB
  obtain ⟨⟨⟨⟨⟨⟨⟨hlate, hsel⟩, hn⟩, hs⟩, hc⟩, hlex⟩, hnd⟩, hjn⟩ := hB
  have hn' : n < l.length := by simpa using hn
  have htl : (l.take n).length = n := by simp; omega
  have hdl : (l.drop n).length = l.toArray.size - n := by simp
  have htw := fun (listed : Array Bool) (i : Nat) (inv : HeadInv .text l.toArray n listed) (hi : i < n) (hun : listed.getD i true = false) (t : Nat) (ht : n ≤ t) => tail_waits hs hc hn inv _ i rfl hi hun t ht
  have H := fun β => wpB_lex (md := .text) (n := n) (P := P) (w0 := w0) (M := M) (lay := layL ls) (β := β)
    (Lq := fun listed' a' => Region.seqB .text l.toArray (l.toArray.size - n) n listed' = true ∧ (∀ j, j < n → listed'.getD j false = true) ∧ ∀ w', St w0 (rowsOf (layL ls) β (ls.map (·.1)) ++ M) w' → wpList P l.toArray (onlyN Q) (l.drop n) a' w') hsel htw
    (fun listed a ⟨h, _⟩ j hj => seqB_ready h j hj) (Nat.le_of_lt hn) (l.toArray.size - n) (fun listed a inv hq hdn hB => ⟨hB, hdn, hq⟩) (l.take n) 0 _ a (fun j hj => by
        have hj' : j < n := by rw [htl] at hj; exact hj
        simp [hj']) (by simpa using htl) (text_inv0 _ _) (fun j hj => by omega) (by rw [htl]; exact hlex) (h β)
  refine wp_region_any hm ?_
  have h2 := any_of_B (P := P) (md := .text) (ops := l.toArray) (w0 := w0) (M := M) (lay := layL ls) (n := n) (g := l.toArray.size - n) (Q' := onlyN Q)
    (L := fun β listed' a' => Region.seqB .text l.toArray (l.toArray.size - n) n listed' = true ∧ (∀ j, j < n → listed'.getD j false = true) ∧ ∀ w', St w0 (rowsOf (layL ls) β (ls.map (·.1)) ++ M) w' → wpList P l.toArray (onlyN Q) (l.drop n) a' w') (Nat.le_of_lt hn)
    (fun listed obs a' w' hw hL => by
      have hβ : Con obs (fun j => (obs j).getD 0) := fun j b hb => by simp [hb]
      obtain ⟨h1, h3, h4⟩ := hL _ hβ
      have := wpAny_of_seq (md := .text) (Q' := onlyN Q) (l.drop n) n listed a' w' (fun j => by simp [List.getElem?_drop]) (by rw [hdl]; exact h1) (h4 _ (hw.rows hβ _ hnd fun j hj => h3 j (by simpa using List.all_eq_true.1 hjn j hj)))
      rwa [hdl] at this) (l.take n).length _ (fun _ => none) a w.drew (text_inv0 _ _) (cls0 hS.drew _) (fun β _ => H β)
  rw [htl, show n + (l.toArray.size - n) = l.toArray.size by omega] at h2
  exact wpAny_le (fun _ _ _ h => onlyN_le h) _ _ _ _ (late_any hlate _ _ _ _ h2)
/-- **A region: all of its operations in any order, some of which lay rows.** -/
theorem sm_all {id : Nat} {Q : Exit → Act → World → Prop} {a : Act} {w : World} {l : List Oper} (ls : List (Nat × LayT)) (hS : St w0 M w) (hm : P.follows .mixedOrders = true) (hB : smAllB l.toArray (ls.map (·.1)) = true)
    (h : ∀ β : Nat → Nat, wpTxt P .text l.toArray w0 M (layL ls) β (fun a' => ∀ w', St w0 (rowsOf (layL ls) β (ls.map (·.1)) ++ M) w' → Q .normal a' w') 0 l a) : (Code.region id l.toArray true).wp P Q a w := by
  simp only [smAllB, Bool.and_eq_true, decide_eq_true_eq] at hB
  obtain ⟨⟨⟨⟨hlate, hsel⟩, hlex⟩, hnd⟩, hjn⟩ := hB
  have htw := fun (listed : Array Bool) (i : Nat) (_ : HeadInv .text l.toArray l.toArray.size listed) (_ : i < l.toArray.size) (_ : listed.getD i true = false) (t : Nat) (ht : l.toArray.size ≤ t) => show t ∉ Region.ready .text l.toArray listed from fun hr => by
    obtain ⟨_, ot, hot, _⟩ := mem_ready.1 hr
    have := (Array.getElem?_eq_some_iff.1 hot).1
    omega
  have H := fun β => wpB_lex (md := .text) (n := l.toArray.size) (P := P) (w0 := w0) (M := M) (lay := layL ls) (β := β)
    (Lq := fun listed' a' => Region.ready .text l.toArray listed' = [] ∧ (∀ j, j < l.toArray.size → listed'.getD j false = true) ∧ ∀ w', St w0 (rowsOf (layL ls) β (ls.map (·.1)) ++ M) w' → Q .normal a' w') hsel htw
    (fun listed a ⟨h, _⟩ j hj => by rw [h] at hj; cases hj) (Nat.le_refl _) 0 (fun listed a inv hq hdn hB => ⟨(by simpa [Region.seqB] using hB), hdn, hq⟩) l 0 _ a (fun j hj => by simp) (by simp) (text_inv0 _ _) (fun j hj => by omega) (by simpa using hlex) (h β)
  refine wp_region_any hm ?_
  have h2 := any_of_B (P := P) (md := .text) (ops := l.toArray) (w0 := w0) (M := M) (lay := layL ls) (n := l.toArray.size) (g := 0) (Q' := onlyN Q)
    (L := fun β listed' a' => Region.ready .text l.toArray listed' = [] ∧ (∀ j, j < l.toArray.size → listed'.getD j false = true) ∧ ∀ w', St w0 (rowsOf (layL ls) β (ls.map (·.1)) ++ M) w' → Q .normal a' w') (Nat.le_refl _)
    (fun listed obs a' w' hw hL => by
      have hβ : Con obs (fun j => (obs j).getD 0) := fun j b hb => by simp [hb]
      obtain ⟨h1, h3, h4⟩ := hL _ hβ
      exact ⟨h1, h4 _ (hw.rows hβ _ hnd fun j hj => h3 j (by simpa using List.all_eq_true.1 hjn j hj))⟩) l.length _ (fun _ => none) a w.drew (text_inv0 _ _) (cls0 hS.drew _) (fun β _ => H β)
  rw [Nat.add_zero] at h2
  exact wpAny_le (fun _ _ _ h => onlyN_le h) _ _ _ _ (late_any hlate _ _ _ _ (by simpa using h2))
def smAnyB (ops : Array Oper) (js : List Nat) : Bool :=
  Region.noSelect ops && Region.lexHead .any ops 0 ops.size 0 (Array.replicate ops.size false) && decide js.Nodup && js.all (fun j => decide (j < ops.size))
theorem any_inv0 (ops : Array Oper) (n : Nat) : HeadInv .any ops n (Array.replicate ops.size false) :=
  ⟨by simp, fun j oj _ hl => (by rw [getD_replicate_false] at hl; cases hl), fun t _ ht => getD_in (by simpa using ht) (getD_replicate_false _ _)⟩
/-- **A region: all of its operations in any order, some of which lay rows.** -/
theorem sm_allA {id : Nat} {Q : Exit → Act → World → Prop} {a : Act} {w : World} {l : List Oper} (ls : List (Nat × LayT)) (hS : St w0 M w) (hm : P.follows .mixedOrders = true) (hB : smAnyB l.toArray (ls.map (·.1)) = true)
    (h : ∀ β : Nat → Nat, wpTxt P .any l.toArray w0 M (layL ls) β (fun a' => ∀ w', St w0 (rowsOf (layL ls) β (ls.map (·.1)) ++ M) w' → Q .normal a' w') 0 l a) : (Code.region id l.toArray true).wp P Q a w := by
  simp only [smAnyB, Bool.and_eq_true, decide_eq_true_eq] at hB
  obtain ⟨⟨⟨hsel, hlex⟩, hnd⟩, hjn⟩ := hB
  have htw := fun (listed : Array Bool) (i : Nat) (_ : HeadInv .any l.toArray l.toArray.size listed) (_ : i < l.toArray.size) (_ : listed.getD i true = false) (t : Nat) (ht : l.toArray.size ≤ t) => show t ∉ Region.ready .any l.toArray listed from fun hr => by
    obtain ⟨_, ot, hot, _⟩ := mem_ready.1 hr
    have := (Array.getElem?_eq_some_iff.1 hot).1
    omega
  have H := fun β => wpB_lex (md := .any) (n := l.toArray.size) (P := P) (w0 := w0) (M := M) (lay := layL ls) (β := β)
    (Lq := fun listed' a' => Region.ready .any l.toArray listed' = [] ∧ (∀ j, j < l.toArray.size → listed'.getD j false = true) ∧ ∀ w', St w0 (rowsOf (layL ls) β (ls.map (·.1)) ++ M) w' → Q .normal a' w') hsel htw
    (fun listed a ⟨h, _⟩ j hj => by rw [h] at hj; cases hj) (Nat.le_refl _) 0 (fun listed a inv hq hdn hB => ⟨(by simpa [Region.seqB] using hB), hdn, hq⟩) l 0 _ a (fun j hj => by simp) (by simp) (any_inv0 _ _) (fun j hj => by omega) (by simpa using hlex) (h β)
  refine wp_region_any hm ?_
  have h2 := any_of_B (P := P) (md := .any) (ops := l.toArray) (w0 := w0) (M := M) (lay := layL ls) (n := l.toArray.size) (g := 0) (Q' := Q)
    (L := fun β listed' a' => Region.ready .any l.toArray listed' = [] ∧ (∀ j, j < l.toArray.size → listed'.getD j false = true) ∧ ∀ w', St w0 (rowsOf (layL ls) β (ls.map (·.1)) ++ M) w' → Q .normal a' w') (Nat.le_refl _)
    (fun listed obs a' w' hw hL => by
      have hβ : Con obs (fun j => (obs j).getD 0) := fun j b hb => by simp [hb]
      obtain ⟨h1, h3, h4⟩ := hL _ hβ
      exact ⟨h1, h4 _ (hw.rows hβ _ hnd fun j hj => h3 j (by simpa using List.all_eq_true.1 hjn j hj))⟩) l.length _ (fun _ => none) a w.drew (any_inv0 _ _) (cls0 hS.drew _) (fun β _ => H β)
  rw [Nat.add_zero] at h2
  simpa using h2
/-! ### the steps -/
variable {β : Nat → Nat} {Q : Act → Prop} {a : Act} {o : Oper} {rest : List Oper} {i : Nat}
theorem sm_nil (h : Q a) : wpTxt P md ops w0 M lay β Q i [] a := h
theorem sm_step (h : ∀ K : Act → Prop, (∀ a, wpTxt P md ops w0 M lay β Q (i + 1) rest a → K a) → ∃ v, YB P md ops w0 M lay β i o v a ∧ K (a.put o.dst v)) : wpTxt P md ops w0 M lay β Q i (o :: rest) a :=
  h _ (fun _ h => h)
theorem sm_lay {K : Act → Prop} {y : LayT} (hy : lay i = some y) (hgd : Region.wanted o (yielded ops a.tmps) = true) (hrun : ∀ w : World, (execOp a.eval o).run P w = .ok (.value (y.at_ w.heap.size)) (w.alloc (.cells y.c y.t))) (h : K (a.put o.dst (y.at_ (β i)))) : ∃ v, YB P md ops w0 M lay β i o v a ∧ K (a.put o.dst v) :=
  ⟨_, by unfold YB; rw [hy]; exact ⟨hgd, hrun, rfl⟩, h⟩
theorem sm_yes {K : Act → Prop} (hy : lay i = none) (hw : Region.wanted o (yielded ops a.tmps) = true) {v : Value} (hs : StdI P w0 M o a v) (h : K (a.put o.dst v)) : ∃ v, YB P md ops w0 M lay β i o v a ∧ K (a.put o.dst v) :=
  ⟨v, by unfold YB; rw [hy]; exact ⟨[], List.nodup_nil, fun _ h => (by cases h), .inl ⟨hw, hs⟩⟩, h⟩
theorem sm_need {K : Act → Prop} (hy : lay i = none) (needs : List Nat) (hnd : (decide needs.Nodup && needs.all fun j => ancB md ops ops.size i j) = true) (hw : Region.wanted o (yielded ops a.tmps) = true) {v : Value} (hs : StdI P w0 (rowsOf lay β needs ++ M) o a v) (h : K (a.put o.dst v)) : ∃ v, YB P md ops w0 M lay β i o v a ∧ K (a.put o.dst v) := by
  simp only [Bool.and_eq_true, decide_eq_true_eq] at hnd
  exact ⟨v, by unfold YB; rw [hy]; exact ⟨needs, hnd.1, fun j hj => List.all_eq_true.1 hnd.2 j hj, .inl ⟨hw, hs⟩⟩, h⟩
theorem sm_no {K : Act → Prop} (hy : lay i = none) (hw : Region.wanted o (yielded ops a.tmps) = false) (h : K (a.put o.dst undef)) : ∃ v, YB P md ops w0 M lay β i o v a ∧ K (a.put o.dst v) :=
  ⟨undef, by unfold YB; rw [hy]; exact ⟨[], List.nodup_nil, fun _ h => (by cases h), .inr ⟨hw, rfl⟩⟩, h⟩
theorem sm_enter {f : FuncId} {args : Array Value} {v : Value} {w : World} (hi : P.inits.idxOf? f = none) (h : Calls P f args w (fun e w'' => e = .returned v ∧ Gr w w'')) : upI P v w (.ok (.enter f args) w) := ⟨hi, h, Gr.refl _⟩
theorem sm_load {K : Act → Prop} (hy : lay i = none) (hw : Region.wanted o (yielded ops a.tmps) = true) (ty : TypeId) (x : Operand) (ho : o.op = .load ty x) {b : Nat} (hx : a.eval x = .pointer (some ⟨b, 0, none⟩)) {c : Array Value} {t : TypeId} (hm : Has M b c t)
    {d : TypeDesc} (hu : P.underlying ty = some d) (hd : (match d with | .struct _ | .array _ _ => true | _ => false) = true) (hi : (P.info? ty).map (·.size) = some c.size)
    (h : K (a.put o.dst (.agg c))) : ∃ v, YB P md ops w0 M lay β i o v a ∧ K (a.put o.dst v) :=
  sm_yes hy hw (v := .agg c) (fun w hS => by
    unfold execOp
    simp only [ho, hx, Instr.loadAt, Instr.sureAddr, Sem.run_bind, Sem.run_pure, Result.andThen_ok, run_loadVar_row w b t ty c (0, 0) d (hS.row hm) hu hd hi]
    exact ⟨rfl, Gr.refl _⟩) h
theorem sm_cell {K : Act → Prop} (hy : lay i = none) (hw : Region.wanted o (yielded ops a.tmps) = true) (ty : TypeId) (x : Operand) (_ho : o.op = .load ty x) {b off : Nat} (_hx : a.eval x = .pointer (some ⟨b, off, none⟩)) {c : Array Value} {t : TypeId} (hm : Has M b c t)
    {v : Value} (hv : c[off]? = some v) (hrun : ∀ w : World, w.cell? ⟨b, off, none⟩ = some v → (execOp a.eval o).run P w = .ok (.value v) w)
    (h : K (a.put o.dst v)) : ∃ v, YB P md ops w0 M lay β i o v a ∧ K (a.put o.dst v) :=
  sm_yes hy hw (v := v) (fun w hS => by
    rw [hrun w ((hS.cell hm off).trans hv)]
    exact ⟨rfl, Gr.refl _⟩) h
theorem sm_val {K : Act → Prop} (hy : lay i = none) (hw : Region.wanted o (yielded ops a.tmps) = true) {v : Value} (hrun : ∀ w : World, (execOp a.eval o).run P w = .ok (.value v) w) (h : K (a.put o.dst v)) : ∃ v, YB P md ops w0 M lay β i o v a ∧ K (a.put o.dst v) :=
  sm_yes hy hw (v := v) (fun w _ => by rw [hrun w]; exact ⟨rfl, Gr.refl _⟩) h
theorem sm_build {K : Act → Prop} (hy : lay i = none) (hw : Region.wanted o (yielded ops a.tmps) = true) (t : TypeId) (parts : Array (Nat × Operand)) (ho : o.op = .build t parts) (cells : Array Value)
    (hc : P.built t (parts.map fun (i, x) => (i, a.eval x)).toList = some cells)
    (h : K (a.put o.dst (.agg cells))) : ∃ v, YB P md ops w0 M lay β i o v a ∧ K (a.put o.dst v) := by
  refine sm_yes hy hw (v := .agg cells) (fun w _ => ?_) h
  unfold execOp
  simp only [ho, Sem.run_bind, run_build w t _ cells hc, Result.andThen_ok]
  exact ⟨rfl, Gr.refl _⟩
end
end Go.Proofs.Ythpnhanabcipmaa
