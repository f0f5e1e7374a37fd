/-
  Checked runs: regions that draw their order. Of no function.
-/
import Derived.Test.YthpnhanabcipmaaEvP
import Derived.Test.YthpnhanabcipmaaSn
namespace Go.Proofs.Ythpnhanabcipmaa
open Go.RowKit VecM
namespace Ev
theorem newV_ok {P : Program} {α : Type} (x : Sem α) {c : Array Value} {t : TypeId} {k : Nat → Sem α} (h : newV P x = some (c, t, k)) (w : World) : x.run P w = (k w.heap.size).run P (w.alloc (.cells c t)) := by
  induction x with
  | new o q ih =>
    have e : newV P (.new o q) = (match (generalizing := false) o with | .cells c t (0, 0) => some (c, t, q) | _ => none) := rfl
    rw [e] at h
    split at h
    · cases h; rfl
    · cases h
  | program q ih => exact ih P h
  | mark m q ih => exact ih h
  | _ => cases h
def gR : Res → Prop
  | .bad _ => False
  | .val _ acc => ∀ x ∈ acc, x.l = x.r
  | .lay _ _ _ acc => ∀ x ∈ acc, x.l = x.r
  | .cal _ _ _ acc => ∀ x ∈ acc, x.l = x.r
noncomputable abbrev kD : KK Bool := fun g s => .ok (.sub (.bool g) s.h :: s.acc)
theorem askD (all : List Oper) (T : Tm) (o : Oper) (n : Nat) (h : List It) (M : List Rw) :
    (∃ e, ∀ A, askG .check all T o ⟨n, h, M, A⟩ kD = .error e) ∨
    (∃ g l X, (∀ A, askG .check all T o ⟨n, h, M, A⟩ kD = .ok (.sub (.bool g) l :: (X ++ A))) ∧ ((∀ x ∈ X, x.l = x.r) → Region.wanted o (yielded all.toArray T.toArray) = g)) := by
  cases hgd : o.guard with
  | none => exact .inr ⟨true, h, [], fun A => by unfold askG; simp only [hgd]; rfl, fun _ => by simp [Region.wanted, hgd]⟩
  | some p =>
    obtain ⟨j, want⟩ := p
    cases hy : yieldT all T j with
    | none =>
      refine .inr ⟨false, h, [], fun A => by unfold askG; simp only [hgd, hy]; rfl, fun _ => ?_⟩
      unfold Region.wanted
      simp only [hgd, yield_T, hy]
      rfl
    | some b =>
      have e : ∀ A, askG .check all T o ⟨n, h, M, A⟩ kD = pickCon .check b ⟨n, h, M, A⟩ fun b s => kD (b == want) s := fun A => by unfold askG; simp only [hgd, hy]
      by_cases hh : ∃ c b' h', h = .con c b' :: h'
      · obtain ⟨c, b', h', rfl⟩ := hh
        refine .inr ⟨b' == want, h', [.con b b'], fun A => by rw [e]; rfl, fun hX => ?_⟩
        have := hX (.con b b') (List.mem_singleton.2 rfl)
        simp only [It.l, It.r, Lv.v.injEq, Value.bool.injEq] at this
        unfold Region.wanted
        simp only [hgd, yield_T, hy]
        rw [← this]
        cases b <;> cases want <;> rfl
      · refine .inl ⟨6, fun A => ?_⟩
        rw [e]
        unfold pickCon
        simp only
        split
        · exact absurd ⟨_, _, _, rfl⟩ hh
        · rfl
theorem all_inits {P : Program} {f : FuncId} (h : P.inits.toList.all (fun g => !(Nat.beq g f)) = true) : P.inits.idxOf? f = none := by
  rw [Array.idxOf?_eq_none_iff]
  intro hm
  have := List.all_eq_true.1 h f (Array.mem_toList_iff.2 hm)
  simp at this
/-- one operation's value, whatever the world -/
theorem valE_ok {E : Env} (hP : E.P = Try.prog) (hs : SumOk E) {run : (Nat → Fr) → CallE} (hkp : ∀ β, RunKp (run β)) (hr : RunOk run) {o : Oper} {T : Tm} {v0 : Value} {γ : Nat → Fr} {n : Nat} {l : List It} {M : List Rw} {A : (Nat → Fr) → List It}
    (hg : ∀ β, Ag n β γ → gR (valE E .check (run β) o T v0 ⟨n, l, M, A β⟩)) :
    ∃ v, (∀ β, Ag n β γ → ∃ acc, valE E .check (run β) o T v0 ⟨n, l, M, A β⟩ = .val v acc) ∧ ∀ w0 w, SG w0 M w → upI Try.prog v w ((execOp (evalT T) o).run Try.prog w) := by
  cases hf : fastV E.P (evalT T) o.op with
  | some v =>
    refine ⟨v, fun β _ => ⟨A β, by unfold valE; simp only [hf]⟩, fun w0 w _ => ?_⟩
    rw [fastV_ok (hP ▸ hf)]
    exact ⟨rfl, Gr.refl _⟩
  | none =>
    by_cases hl : ∃ t x, o.op = .load t x
    · obtain ⟨t, x, ho⟩ := hl
      have e : ∀ β, valE E .check (run β) o T v0 ⟨n, l, M, A β⟩ = (match loadE E.P .check (evalT T x) t ⟨n, l, M, A β⟩ fun v s => .ok (.sub v [] :: s.acc) with
        | .ok (.sub v _ :: acc) => .val v acc
        | .error e => .bad e
        | _ => .bad 62 : Res) := fun β => by
          have hf' := hf
          rw [ho] at hf'
          unfold valE
          simp only [ho, hf']
          rfl
      have hk : KeepK (fun (v : Value) (s : Sg) => (.ok (.sub v [] :: s.acc) : Out)) := fun v s l hl hg x hx => by cases hl; exact hg x (List.mem_cons_of_mem _ hx)
      have hg1 : ∀ β, Ag n β γ → good (loadE E.P .check (evalT T x) t ⟨n, l, M, A β⟩ fun v s => .ok (.sub v [] :: s.acc)) := fun β hβ => by
        have := hg β hβ
        rw [e] at this
        split at this
        · rename_i v l' acc hq
          rw [hq, good_ok]
          intro y hy
          rcases List.mem_cons.1 hy with rfl | hy
          · rfl
          · exact this y hy
        · exact this.elim
        · exact this.elim
      obtain ⟨a, v, h2, hx, hrun, hE⟩ := loadE_st hk (hg1 γ .refl)
      refine ⟨v, fun β _ => ?_, fun w0 w hS => ?_⟩
      · obtain ⟨B, hB, h3⟩ := hE (A β)
        exact ⟨B, by rw [e, h3]⟩
      · have hr2 : (execOp (evalT T) o).run Try.prog w = .ok (.value v) w := by
          unfold execOp
          have := hrun w0 w hS
          rw [hP] at this
          simp [ho, Instr.loadAt, Instr.sureAddr, hx, this]
        rw [hr2]
        exact ⟨rfl, Gr.refl _⟩
    · by_cases hpk : ∃ c a b, o.op = .pick c a b
      · obtain ⟨c, a, b, ho⟩ := hpk
        have e : ∀ β, valE E .check (run β) o T v0 ⟨n, l, M, A β⟩ = (match pickV .check (evalT T c) (evalT T a) (evalT T b) ⟨n, l, M, A β⟩ fun v s => .ok (.sub v [] :: s.acc) with
          | .ok (.sub v _ :: acc) => .val v acc
          | .error e => .bad e
          | _ => .bad 75 : Res) := fun β => by
            have hf' := hf
            rw [ho] at hf'
            unfold valE
            simp only [ho, hf']
            rfl
        have hk : KeepK (fun (v : Value) (s : Sg) => (.ok (.sub v [] :: s.acc) : Out)) := fun v s l hl hg x hx => by cases hl; exact hg x (List.mem_cons_of_mem _ hx)
        have hg1 : good (pickV .check (evalT T c) (evalT T a) (evalT T b) ⟨n, l, M, A γ⟩ fun v s => .ok (.sub v [] :: s.acc)) := by
          have := hg γ .refl
          rw [e] at this
          split at this
          · rename_i v l' acc hq
            rw [hq, good_ok]
            intro y hy
            rcases List.mem_cons.1 hy with rfl | hy
            · rfl
            · exact this y hy
          · exact this.elim
          · exact this.elim
        obtain ⟨q, h2, hx, hE⟩ := pickV_st hk hg1
        refine ⟨if q then evalT T a else evalT T b, fun β _ => ?_, fun w0 w hS => ?_⟩
        · obtain ⟨B, hB, h3⟩ := hE (A β)
          exact ⟨B, by rw [e, h3]⟩
        · rw [run_pick ho hx]
          exact ⟨rfl, Gr.refl _⟩
      have e : ∀ β, valE E .check (run β) o T v0 ⟨n, l, M, A β⟩ = (match evV E.P .check (execOp (evalT T) o) ⟨n, l, M, A β⟩ fun x s => .ok (.nx x s.h :: s.acc) with
        | .ok (.nx x l :: acc) => match x with
          | .value v => .val v acc
          | .enter f args => match E.P.inits.toList.all (fun g => !(Nat.beq g f)) with
            | false => .bad 64
            | true => match callE E .check (run β) f args.toList ⟨n, l, M.map thaw, acc⟩ fun v s => .ok (.eqv v v0 :: s.acc) with
              | .ok acc => .val v0 acc
              | .error e => .bad e
          | _ => .bad 66
        | .error e => .bad e
        | _ => .bad 67 : Res) := fun β => by
          unfold valE
          simp only [hf]
          split
          · rename_i ho; exact absurd ⟨_, _, ho⟩ hl
          · rename_i ho; exact absurd ⟨_, _, _, ho⟩ hpk
          · rfl
      have hk : KeepK (fun (x : Next) (s : Sg) => (.ok (.nx x s.h :: s.acc) : Out)) := fun v s l hl hg x hx => by cases hl; exact hg x (List.mem_cons_of_mem _ hx)
      have hkc : KeepK (fun (v : Value) (s : Sg) => (.ok (.eqv v v0 :: s.acc) : Out)) := fun v s l hl hg x hx => by cases hl; exact hg x (List.mem_cons_of_mem _ hx)
      have hg1 : good (evV E.P .check (execOp (evalT T) o) ⟨n, l, M, A γ⟩ fun x s => .ok (.nx x s.h :: s.acc)) := by
        have := hg γ .refl
        rw [e] at this
        split at this
        · rename_i x l' acc hq
          rw [hq, good_ok]
          have hacc : ∀ y ∈ acc, y.l = y.r := by
            split at this
            · exact this
            · split at this
              · exact this.elim
              · split at this
                · rename_i acc' hq'
                  exact callE_kp (hkp γ) _ _ ⟨n, l', M.map thaw, acc⟩ _ hkc acc' hq' this
                · exact this.elim
            · exact this.elim
          intro y hy
          rcases List.mem_cons.1 hy with rfl | hy
          · rfl
          · exact hacc y hy
        · exact this.elim
        · exact this.elim
      obtain ⟨x, h2, hrun, hE⟩ := evV_st _ _ _ hk hg1
      have e2 : ∀ β, ∃ B, A β ⊆ B ∧ valE E .check (run β) o T v0 ⟨n, l, M, A β⟩ = (match (generalizing := false) x with
          | .value v => .val v B
          | .enter f args => match E.P.inits.toList.all (fun g => !(Nat.beq g f)) with
            | false => .bad 64
            | true => match callE E .check (run β) f args.toList ⟨n, h2, M.map thaw, B⟩ fun v s => .ok (.eqv v v0 :: s.acc) with
              | .ok acc => .val v0 acc
              | .error e => .bad e
          | _ => .bad 66 : Res) := fun β => by
        obtain ⟨B, hB, h3⟩ := hE (A β)
        exact ⟨B, hB, by rw [e, h3]⟩
      cases x with
      | value v =>
        refine ⟨v, fun β _ => ?_, fun w0 w hS => ?_⟩
        · obtain ⟨B, hB, h3⟩ := e2 β
          exact ⟨B, h3⟩
        · have := hrun w0 w hS
          rw [hP] at this
          rw [this]
          exact ⟨rfl, Gr.refl _⟩
      | enter f args =>
        cases hi : E.P.inits.toList.all (fun g => !(Nat.beq g f)) with
        | false =>
          obtain ⟨B, hB, h3⟩ := e2 γ
          simp only [hi] at h3
          have := hg γ .refl
          rw [h3] at this
          exact this.elim
        | true =>
          simp only [hi] at e2
          have hg2 : ∀ β, Ag n β γ → good (callE E .check (run β) f args.toList ⟨n, h2, M.map thaw, Classical.choose (e2 β)⟩ fun v s => .ok (.eqv v v0 :: s.acc)) ∧
              ∃ acc, valE E .check (run β) o T v0 ⟨n, l, M, A β⟩ = .val v0 acc := fun β hβ => by
            obtain ⟨hB, h3⟩ := Classical.choose_spec (e2 β)
            have := hg β hβ
            rw [h3] at this
            split at this
            · rename_i acc' hq'
              refine ⟨by rw [hq', good_ok]; exact this, acc', ?_⟩
              rw [h3]
              simp only [hq']
            · exact this.elim
          refine ⟨v0, fun β hβ => (hg2 β hβ).2, fun w0 w hS => ?_⟩
          have := hrun w0 w hS
          rw [hP] at this
          rw [this]
          have hc := callE_ok hs hr w w f args.toList γ n h2 (M.map thaw) (fun β => Classical.choose (e2 β)) (fun _ v s => .ok (.eqv v v0 :: s.acc)) (fun _ => hkc) hS.thaw (fun β hβ => (hg2 β hβ).1)
          have hc : Calls Try.prog f args w fun e w' => ∃ v, e = .returned v ∧ On w n γ (fun _ v s => .ok (.eqv v v0 :: s.acc)) v w' := by simpa using hc
          refine ⟨all_inits (hP ▸ hi), hc.mono fun e w' ⟨v, he, γ', n', h', M', A', hS', hle, hag, hgd⟩ => ?_, Gr.refl _⟩
          have h4 := good_ok.1 (hgd γ' .refl) _ (List.mem_cons_self ..)
          simp only [It.l, It.r, Lv.v.injEq] at h4
          exact ⟨h4 ▸ he, hS'.gr⟩
      | _ =>
        obtain ⟨B, hB, h3⟩ := e2 γ
        have := hg γ .refl
        rw [h3] at this
        exact this.elim
/-! ### the whole region -/
def planH (P : Program) (o : Oper) (i : Nat) (h : List It) : List (Nat × Sn.LayT) :=
  match h with
  | .lay v0 _ :: _ => match laysK P o.op with
    | some (t, mk) => [(i, ⟨fun z => mk z.b, fun _ => (cellsV v0).toArray, t⟩)]
    | none => []
  | .cal v c t _ :: _ => [(i, ⟨v, fun z => (c z).toArray, t⟩)]
  | _ => []
def planL (P : Program) : List Oper → Nat → List It → List (Nat × Sn.LayT)
  | [], _, _ => []
  | o :: l, i, h => planH P o i h ++ planL P l (i + 1) h.tail
theorem planH_eq {P : Program} {o : Oper} {i : Nat} {h : List It} {x : Nat × Sn.LayT} (hx : x ∈ planH P o i h) : x.1 = i := by
  unfold planH at hx
  split at hx
  · split at hx
    · rw [List.mem_singleton.1 hx]
    · cases hx
  · rw [List.mem_singleton.1 hx]
  · cases hx
theorem planH_le (P : Program) (o : Oper) (i : Nat) (h : List It) : (planH P o i h).length ≤ 1 := by
  unfold planH
  split
  · split <;> simp
  · simp
  · simp
theorem planL_ge {P : Program} : ∀ (l : List Oper) (i : Nat) (h : List It), ∀ x ∈ planL P l i h, i ≤ x.1 ∧ x.1 < i + l.length := by
  intro l
  induction l with
  | nil => intro i h x hx; cases hx
  | cons o l ih =>
    intro i h x hx
    simp only [planL, List.mem_append] at hx
    simp only [List.length_cons]
    rcases hx with hx | hx
    · have := planH_eq hx
      omega
    · have := ih (i + 1) _ x hx
      omega
theorem planL_nodup {P : Program} : ∀ (l : List Oper) (i : Nat) (h : List It), ((planL P l i h).map (·.1)).Nodup := by
  intro l
  induction l with
  | nil => intro i h; exact List.nodup_nil
  | cons o l ih =>
    intro i h
    simp only [planL, List.map_append]
    refine List.nodup_append.2 ⟨?_, ih _ _, fun a ha b hb => ?_⟩
    · have := planH_le P o i h
      match hq : planH P o i h, this with
      | [], _ => exact List.nodup_nil
      | [x], _ => simp
    · obtain ⟨x, hx, rfl⟩ := List.mem_map.1 ha
      obtain ⟨y, hy, rfl⟩ := List.mem_map.1 hb
      have h1 := planH_eq hx
      have h2 := planL_ge l (i + 1) _ y hy
      omega
theorem lookup_mem {ls : List (Nat × Sn.LayT)} (hn : (ls.map (·.1)).Nodup) {x : Nat × Sn.LayT} (hx : x ∈ ls) : Sn.layL ls x.1 = some x.2 := by
  induction ls with
  | nil => cases hx
  | cons y ls ih =>
    unfold Sn.layL at *
    simp only [List.map_cons, List.nodup_cons] at hn
    rcases List.mem_cons.1 hx with rfl | hx'
    · simp [List.lookup]
    · have hne : x.1 ≠ y.1 := fun h => hn.1 (h ▸ List.mem_map.2 ⟨x, hx', rfl⟩)
      have : (x.1 == y.1) = false := by simpa using hne
      obtain ⟨a, b⟩ := y
      simp only [List.lookup, this]
      exact ih hn.2 hx'
theorem lookup_not {ls : List (Nat × Sn.LayT)} {i : Nat} (h : ∀ x ∈ ls, x.1 ≠ i) : Sn.layL ls i = none := by
  induction ls with
  | nil => rfl
  | cons y ls ih =>
    unfold Sn.layL at *
    have hne : i ≠ y.1 := fun e => h y (List.mem_cons_self ..) e.symm
    have : (i == y.1) = false := by simpa using hne
    obtain ⟨a, b⟩ := y
    simp only [List.lookup, this]
    exact ih fun x hx => h x (List.mem_cons_of_mem _ hx)
def rowL (βr : Nat → Fr) (x : Nat × Sn.LayT) : Nat × Rw := (x.1, ⟨(βr x.1).b, (x.2.c (βr x.1)).toList, x.2.t, true⟩)
theorem rows_of {ls : List (Nat × Sn.LayT)} (hn : (ls.map (·.1)).Nodup) (βr : Nat → Fr) : ∀ (pre : List (Nat × Sn.LayT)), (∀ x ∈ pre, x ∈ ls) → Sn.rowsOf (Sn.layL ls) βr (pre.map (·.1)) = ents ((pre.map (rowL βr)).map (·.2)) := by
  intro pre
  induction pre with
  | nil => intro _; rfl
  | cons x pre ih =>
    intro h
    have h1 := ih fun y hy => h y (List.mem_cons_of_mem _ hy)
    have h2 := lookup_mem hn (h x (List.mem_cons_self ..))
    unfold Sn.rowsOf ents at *
    simp only [List.map_cons, List.filterMap_cons, h2, Option.map_some, rowL, List.filter_cons, if_true]
    rw [h1]
theorem ents_append (M M' : List Rw) : ents (M ++ M') = ents M ++ ents M' := by unfold ents; simp
def KpR (A : List It) (r : Res) : Prop := gR r → ∀ x ∈ A, x.l = x.r
theorem valE_kp {E : Env} {run : CallE} (hr : RunKp run) (o : Oper) (T : Tm) (v0 : Value) (s : Sg) : KpR s.acc (valE E .check run o T v0 s) := by
  have hk1 : KeepK (fun (v : Value) (s : Sg) => (.ok (.sub v [] :: s.acc) : Out)) := fun v s l hl hg x hx => by cases hl; exact hg x (List.mem_cons_of_mem _ hx)
  have hk2 : KeepK (fun (x : Next) (s : Sg) => (.ok (.nx x s.h :: s.acc) : Out)) := fun v s l hl hg x hx => by cases hl; exact hg x (List.mem_cons_of_mem _ hx)
  have hk3 : KeepK (fun (v : Value) (s : Sg) => (.ok (.eqv v v0 :: s.acc) : Out)) := fun v s l hl hg x hx => by cases hl; exact hg x (List.mem_cons_of_mem _ hx)
  unfold valE
  split
  · exact fun h => h
  · split
    · split
      · rename_i v l acc hq
        refine fun h => loadE_kp hk1 _ hq fun x hx => ?_
        rcases List.mem_cons.1 hx with rfl | hx
        · rfl
        · exact h x hx
      · exact fun h => h.elim
      · exact fun h => h.elim
    · split
      · rename_i v l acc hq
        refine fun h => pickV_kp hk1 _ hq fun x hx => ?_
        rcases List.mem_cons.1 hx with rfl | hx
        · rfl
        · exact h x hx
      · exact fun h => h.elim
      · exact fun h => h.elim
    · split
      · rename_i x l acc hq
        have key : (∀ x ∈ acc, x.l = x.r) → ∀ x ∈ s.acc, x.l = x.r := fun h => evV_kp _ _ _ hk2 _ hq fun x hx => by
          rcases List.mem_cons.1 hx with rfl | hx
          · rfl
          · exact h x hx
        split
        · exact fun h => key h
        · split
          · exact fun h => h.elim
          · simp only
            split
            · rename_i acc' hq'
              exact fun h => key (callE_kp hr _ _ ⟨s.n, l, s.M.map thaw, acc⟩ _ hk3 acc' hq' h)
            · exact fun h => h.elim
        · exact fun h => h.elim
      · exact fun h => h.elim
      · exact fun h => h.elim
theorem calF_kp {E : Env} {H : CHole} {β : Nat → Fr} {n : Nat} {f : FuncId} {acc : List It} : KpR acc (calF E .check H β n f acc) := by
  unfold calF
  split
  · split
    · exact fun h x hx => h x (List.mem_cons_of_mem _ hx)
    · exact fun h => h.elim
  · split
    · exact fun h => h
    · exact fun h => h.elim
theorem cI_sub (H : CHole) (M : List Rw) (A : List It) : A ⊆ cI .check H M A := fun _ hx => List.mem_cons_of_mem _ hx
theorem okK : ∀ s : Sg, Kp s.acc (.ok s.acc : Out) := fun s l hl hg => by cases hl; exact hg
theorem nxK : KeepK (fun (x : Next) (s : Sg) => (.ok (.nx x s.h :: s.acc) : Out)) := fun v s l hl hg x hx => by cases hl; exact hg x (List.mem_cons_of_mem _ hx)
theorem calE_kp {E : Env} {β : Nat → Fr} (o : Oper) (T : Tm) (s : Sg) {r : Res} (h : calE E .check β o T s = some r) : KpR s.acc r := by
  unfold calE at h
  split at h
  · split at h
    · rename_i f args l acc hq
      split at h
      · rename_i H hH
        have key : (∀ x ∈ acc, x.l = x.r) → ∀ x ∈ s.acc, x.l = x.r := fun h => evV_kp _ _ _ nxK _ hq fun x hx => by
          rcases List.mem_cons.1 hx with rfl | hx
          · rfl
          · exact h x hx
        split at h
        · cases h; exact fun h => h.elim
        · rename_i acc2 hq2
          cases h
          exact fun hg => key fun x hx => pickPs_kp okK _ _ _ hq2 (calF_kp hg) x (cI_sub _ _ _ hx)
      · cases h
    · cases h
  · cases h
/-- such a call, whatever stands behind -/
theorem calE_st {E : Env} {β : Nat → Fr} {o : Oper} {T : Tm} {n : Nat} {l : List It} {M : List Rw} {A : List It} {r : Res} (h : calE E .check β o T ⟨n, l, M, A⟩ = some r) (hg : gR r) :
    ∃ f args H, (∀ w0 w, SG w0 M w → (execOp (evalT T) o).run E.P w = .ok (.enter f args) w) ∧ E.csum f args.toList (M.map thaw) = some H ∧ M.map thaw = H.rows ∧ (∀ b ∈ H.pre, b = true) ∧
      ∀ (β' : Nat → Fr) (A' : List It), ∃ B, A' ⊆ B ∧ calE E .check β' o T ⟨n, l, M, A'⟩ = some (calF E .check H β' n f B) := by
  unfold calE at h
  split at h
  · rename_i ci hop
    split at h
    · rename_i f args l2 acc hq
      split at h
      · rename_i H hH
        split at h
        · cases h; exact hg.elim
        · rename_i acc2 hq2
          cases h
          have g2 : ∀ x ∈ acc2, x.l = x.r := calF_kp hg
          have hgp : good (pickPs .check H.pre ⟨n, l2, M, cI .check H (M.map thaw) acc⟩ fun s => .ok s.acc) := by rw [hq2, good_ok]; exact g2
          have gc : ∀ x ∈ cI .check H (M.map thaw) acc, x.l = x.r := pickPs_kp okK _ _ _ hq2 g2
          have hrows : M.map thaw = H.rows := by
            have := gc _ (List.mem_cons_self ..)
            simp only [It.l, It.r, Lv.v.injEq] at this
            exact encM_inj this
          obtain ⟨hpre, h2, hE2⟩ := pickPs_inv okK H.pre _ hgp
          have hgv : good (evV E.P .check (execOp (evalT T) o) ⟨n, l, M, A⟩ fun x s => .ok (.nx x s.h :: s.acc)) := by
            rw [hq, good_ok]
            intro x hx
            rcases List.mem_cons.1 hx with rfl | hx
            · rfl
            · exact gc x (cI_sub _ _ _ hx)
          obtain ⟨a, h3, hrun, hE⟩ := evV_st _ _ _ nxK hgv
          obtain ⟨B0, _, hB0⟩ := hE A
          have h4 := hB0 (fun x s => .ok (.nx x s.h :: s.acc))
          rw [hq] at h4
          simp only [Except.ok.injEq, List.cons.injEq, It.nx.injEq] at h4
          obtain ⟨⟨rfl, rfl⟩, rfl⟩ := h4
          refine ⟨f, args, H, hrun, hH, hrows, hpre, fun β' A' => ?_⟩
          obtain ⟨B, hB, h5⟩ := hE A'
          have h6 := h5 (fun x s => .ok (.nx x s.h :: s.acc))
          obtain ⟨B2, hB2, h7⟩ := hE2 (cI .check H (M.map thaw) B)
          refine ⟨B2, fun x hx => hB2 (cI_sub _ _ _ (hB hx)), ?_⟩
          unfold calE
          simp only [hop, h6, hH, h7 (fun s => .ok s.acc)]
      · cases h
    · cases h
  · cases h
theorem ophE_kp {E : Env} {o : Oper} {T : Tm} {s : Sg} {r : Res} (h : ophE E .check o T s = some r) : KpR s.acc r := by
  unfold ophE at h
  split at h
  · cases h
  · split at h
    · cases h; exact fun h => h.elim
    · split at h
      · cases h; exact fun h => h.elim
      · split at h
        · cases h; exact fun h => h.elim
        · rename_i acc hq
          cases h
          exact fun hg x hx => pickPs_kp okK _ _ _ hq hg x (opI_sub _ _ _ _ hx)
theorem ophE_st {E : Env} {o : Oper} {T : Tm} {n : Nat} {l : List It} {M : List Rw} {A : List It} {r : Res} (h : ophE E .check o T ⟨n, l, M, A⟩ = some r) (hg : gR r) :
    ∃ H v, E.oph o T (M.map thaw) = some H ∧ H.v = some v ∧ T.n = H.n ∧ (∀ p ∈ H.need, tget T p.1 = p.2) ∧ M.map thaw = H.rows ∧ (∀ b ∈ H.pre, b = true) ∧ ∀ A', ∃ B, ophE E .check o T ⟨n, l, M, A'⟩ = some (.val v B) := by
  unfold ophE at h
  split at h
  · cases h
  · rename_i H hH
    split at h
    · cases h; exact hg.elim
    · rename_i v hv
      split at h
      · cases h; exact hg.elim
      · rename_i hb
        split at h
        · cases h; exact hg.elim
        · rename_i acc hq
          cases h
          have hgp : good (pickPs .check H.pre ⟨n, l, M, opI .check H T (M.map thaw) A⟩ fun s => .ok s.acc) := by rw [hq, good_ok]; exact hg
          have hall : ∀ y ∈ opI .check H T (M.map thaw) A, y.l = y.r := pickPs_kp okK _ _ _ hq hg
          have hneed : ∀ p ∈ H.need, tget T p.1 = p.2 := fun p hp => by
            have := hall _ (needE_mem T _ _ p hp)
            simpa [It.l, It.r] using this
          have hrows : M.map thaw = H.rows := by
            have := hall _ (needE_sub _ _ _ (List.mem_cons_self ..))
            simp only [It.l, It.r, Lv.v.injEq] at this
            exact encM_inj this
          obtain ⟨hpre, h2, hE⟩ := pickPs_inv okK H.pre _ hgp
          refine ⟨H, v, hH, hv, Nat.eq_of_beq_eq_true hb, hneed, hrows, hpre, fun A' => ?_⟩
          obtain ⟨B, _, h3⟩ := hE (opI .check H T (M.map thaw) A')
          refine ⟨B, ?_⟩
          have h4 := h3 (fun s => .ok s.acc)
          unfold ophE
          simp only [hH, hv, hb]
          rw [h4]
theorem opE_kp {E : Env} {β : Nat → Fr} {run : CallE} (hr : RunKp run) (o : Oper) (T : Tm) (v0 : Value) (s : Sg) : KpR s.acc (opE E .check β run o T v0 s) := by
  unfold opE
  split
  · unfold layE
    split
    · split
      · exact fun h => h
      · exact fun h => h.elim
    · exact fun h => h.elim
  · split
    · rename_i r hr2
      exact ophE_kp hr2
    · split
      · rename_i r hr2
        exact calE_kp o T s hr2
      · exact valE_kp hr o T v0 s
theorem opD_eq {E : Env} {β : Nat → Fr} {run : CallE} {all : List Oper} {o : Oper} {T : Tm} {v0 : Value} {s : Sg} {g : Bool} {l acc : List It} (h : askG .check all T o s kD = .ok (.sub (.bool g) l :: acc)) :
    opD E .check β run all o T v0 s = (match (generalizing := false) g with | false => .val undef acc | true => opE E .check β run o T v0 ⟨s.n, l, s.M, acc⟩) := by
  unfold opD
  have h' : (askG .check all T o s fun g s => .ok (.sub (.bool g) s.h :: s.acc)) = .ok (.sub (.bool g) l :: acc) := h
  rw [h']
  rfl
theorem opD_kp {E : Env} {β : Nat → Fr} {run : CallE} (hr : RunKp run) (all : List Oper) (o : Oper) (T : Tm) (v0 : Value) (s : Sg) : KpR s.acc (opD E .check β run all o T v0 s) := by
  rcases askD all T o s.n s.h s.M with ⟨e, he⟩ | ⟨g, l, X, he, _⟩
  · have h' : (askG .check all T o s fun g s => .ok (.sub (.bool g) s.h :: s.acc)) = .error e := he s.acc
    unfold opD
    rw [h']
    exact fun h => h.elim
  · rw [opD_eq (he s.acc)]
    have key : (∀ x ∈ X ++ s.acc, x.l = x.r) → ∀ x ∈ s.acc, x.l = x.r := fun h x hx => h x (List.mem_append_right _ hx)
    cases g with
    | false => exact fun h => key h
    | true => exact fun h => key (opE_kp hr o T v0 ⟨s.n, l, s.M, X ++ s.acc⟩ h)
theorem evD_cons (E : Env) (rm : Region.Mode) (β : Nat → Fr) (run : CallE) (all : List Oper) (o : Oper) (l : List Oper) (i : Nat) (T : Tm) (s : Sg) (L : List (Nat × Rw)) (K : KK Tm) :
    evD E rm .check β run all (o :: l) i T s L K = (match s.h with
        | .sub v0 lh :: h => match opD E .check β run all o T v0 ⟨s.n, lh, rowsD rm all i L s.M, s.acc⟩ with
          | .val v acc => evD E rm .check β run all l (i + 1) (putL T o.dst v) ⟨s.n, h, s.M, acc⟩ L K
          | .lay _ _ _ _ => .error 68
          | .cal _ _ _ _ => .error 112
          | .bad n => .error n
        | .cal v c t lh :: h => match opD E .check β run all o T undef ⟨s.n, lh, rowsD rm all i L s.M, s.acc⟩ with
          | .cal v' c' t' acc => evD E rm .check β run all l (i + 1) (putL T o.dst (v (β s.n))) ⟨s.n + 1, h, s.M, .eqv (v' (β s.n)) (v (β s.n)) :: .eqv (encM [⟨(β s.n).b, c' (β s.n), t', true⟩]) (encM [⟨(β s.n).b, c (β s.n), t, true⟩]) :: acc⟩ (L ++ [(i, ⟨(β s.n).b, c (β s.n), t, true⟩)]) K
          | .bad n => .error n
          | _ => .error 113
        | .lay v0 lh :: h => match opD E .check β run all o T v0 ⟨s.n, lh, rowsD rm all i L s.M, s.acc⟩ with
          | .cal _ _ _ _ => .error 114
          | .val _ _ => .error 69
          | .lay v r mk acc => evD E rm .check β run all l (i + 1) (putL T o.dst (mk (β s.n).b)) ⟨s.n + 1, h, s.M, .eqv v (mk (β s.n).b) :: .eqv (.agg ⟨r.c⟩) (.agg ⟨cellsV v0⟩) :: acc⟩ (L ++ [(i, ⟨(β s.n).b, cellsV v0, r.t, true⟩)]) K
          | .bad n => .error n
        | _ => .error 46 : Out) := by
  have e : evD E rm .check β run all (o :: l) i T s L K = (match s.h with
        | .sub v0 lh :: h => match opD E .check β run all o T v0 ⟨s.n, lh, rowsD rm all i L s.M, s.acc⟩ with
          | .val v acc => putT T o.dst v fun T => evD E rm .check β run all l (i + 1) T ⟨s.n, h, s.M, acc⟩ L K
          | .lay _ _ _ _ => .error 68
          | .cal _ _ _ _ => .error 112
          | .bad n => .error n
        | .cal v c t lh :: h => match opD E .check β run all o T undef ⟨s.n, lh, rowsD rm all i L s.M, s.acc⟩ with
          | .cal v' c' t' acc => putT T o.dst (v (β s.n)) fun T => evD E rm .check β run all l (i + 1) T ⟨s.n + 1, h, s.M, .eqv (v' (β s.n)) (v (β s.n)) :: .eqv (encM [⟨(β s.n).b, c' (β s.n), t', true⟩]) (encM [⟨(β s.n).b, c (β s.n), t, true⟩]) :: acc⟩ (L ++ [(i, ⟨(β s.n).b, c (β s.n), t, true⟩)]) K
          | .bad n => .error n
          | _ => .error 113
        | .lay v0 lh :: h => match opD E .check β run all o T v0 ⟨s.n, lh, rowsD rm all i L s.M, s.acc⟩ with
          | .cal _ _ _ _ => .error 114
          | .val _ _ => .error 69
          | .lay v r mk acc => putT T o.dst (mk (β s.n).b) fun T => evD E rm .check β run all l (i + 1) T ⟨s.n + 1, h, s.M, .eqv v (mk (β s.n).b) :: .eqv (.agg ⟨r.c⟩) (.agg ⟨cellsV v0⟩) :: acc⟩ (L ++ [(i, ⟨(β s.n).b, cellsV v0, r.t, true⟩)]) K
          | .bad n => .error n
        | _ => .error 46 : Out) := rfl
  rw [e]
  simp only [putT_eq]
theorem evD_kp {E : Env} {rm : Region.Mode} {β : Nat → Fr} {run : CallE} (hr : RunKp run) {all : List Oper} {K : KK Tm} (hk : KeepK K) :
    ∀ (l : List Oper) (i : Nat) (T : Tm) (s : Sg) (L : List (Nat × Rw)), Kp s.acc (evD E rm .check β run all l i T s L K) := by
  intro l
  induction l with
  | nil => exact fun i T s L => hk T ⟨s.n, s.h, L.map (·.2) ++ s.M, s.acc⟩
  | cons o l ih =>
    intro i T s L
    rw [evD_cons]
    split
    · rename_i v0 lh h hh
      have hop := opD_kp (E := E) (β := β) hr all o T v0 ⟨s.n, lh, rowsD rm all i L s.M, s.acc⟩
      split
      · rename_i v acc hq
        rw [hq] at hop
        exact fun l' hl hg => hop (ih (i + 1) _ ⟨s.n, h, s.M, acc⟩ L l' hl hg)
      · exact .err
      · exact .err
      · exact .err
    · rename_i v c t lh h hh
      have hop := opD_kp (E := E) (β := β) hr all o T undef ⟨s.n, lh, rowsD rm all i L s.M, s.acc⟩
      split
      · rename_i v' c' t' acc hq
        rw [hq] at hop
        exact fun l' hl hg => hop fun x hx => ih (i + 1) _ ⟨s.n + 1, h, s.M, .eqv (v' (β s.n)) (v (β s.n)) :: .eqv (encM [⟨(β s.n).b, c' (β s.n), t', true⟩]) (encM [⟨(β s.n).b, c (β s.n), t, true⟩]) :: acc⟩ _ l' hl hg x (List.mem_cons_of_mem _ (List.mem_cons_of_mem _ hx))
      · exact .err
      · exact .err
    · rename_i v0 lh h hh
      have hop := opD_kp (E := E) (β := β) hr all o T v0 ⟨s.n, lh, rowsD rm all i L s.M, s.acc⟩
      split
      · exact .err
      · exact .err
      · rename_i v r mk acc hq
        rw [hq] at hop
        exact fun l' hl hg => hop fun x hx => ih (i + 1) _ ⟨s.n + 1, h, s.M, .eqv v (mk (β s.n).b) :: .eqv (.agg ⟨r.c⟩) (.agg ⟨cellsV v0⟩) :: acc⟩ _ l' hl hg x (List.mem_cons_of_mem _ (List.mem_cons_of_mem _ hx))
      · exact .err
    · exact .err
/-- one operation, in the region: it lays its row, or it yields the same in every world -/
theorem opD_ok {E : Env} (hP : E.P = Try.prog) (hs : SumOk E) (hop : OphOk E) {run : (Nat → Fr) → CallE} (hkp : ∀ β, RunKp (run β)) (hr : RunOk run) {all : List Oper} {o : Oper} {T : Tm} {v0 : Value} {γ : Nat → Fr} {n : Nat} {lh : List It} {M : List Rw} {A : (Nat → Fr) → List It}
    (hg : ∀ β, Ag n β γ → gR (opD E .check β (run β) all o T v0 ⟨n, lh, M, A β⟩)) :
    (∃ v, (∀ β, Ag n β γ → ∃ acc, opD E .check β (run β) all o T v0 ⟨n, lh, M, A β⟩ = .val v acc) ∧
      ((Region.wanted o (yielded all.toArray T.toArray) = false ∧ v = undef) ∨ (Region.wanted o (yielded all.toArray T.toArray) = true ∧ ∀ w0 w, SG w0 M w → upI Try.prog v w ((execOp (evalT T) o).run Try.prog w)))) ∨
    (∃ (t : TypeId) (mk : Nat → Value) (c : Array Value) (k : Nat → Sem Next), laysK E.P o.op = some (t, mk) ∧ Region.wanted o (yielded all.toArray T.toArray) = true ∧ (∀ w, (execOp (evalT T) o).run Try.prog w = (k w.heap.size).run Try.prog (w.alloc (.cells c t))) ∧
      ∀ β, Ag n β γ → ∃ v acc, k (β n).b = .pure (.value v) ∧ opD E .check β (run β) all o T v0 ⟨n, lh, M, A β⟩ = .lay v ⟨(β n).b, c.toList, t, true⟩ mk acc) ∨
    (∃ (f : FuncId) (args : Array Value) (H : CHole), Region.wanted o (yielded all.toArray T.toArray) = true ∧ (∀ w0 w, SG w0 M w → (execOp (evalT T) o).run Try.prog w = .ok (.enter f args) w) ∧
      (∀ w0 w, SG w0 M w → Calls Try.prog f args w fun e w' => ∃ z : Fr, e = .returned (H.v [z]) ∧ SG w (H.lay [z] ++ M.map thaw) w') ∧
      ∀ β, Ag n β γ → ∃ t acc, opD E .check β (run β) all o T v0 ⟨n, lh, M, A β⟩ = .cal (fun fr => H.v [fr]) (fun fr => hdC (H.lay [fr])) t acc ∧ ((∀ x ∈ acc, x.l = x.r) → H.lay [β n] = [⟨(β n).b, hdC (H.lay [β n]), t, true⟩])) := by
  rcases askD all T o n lh M with ⟨e, he⟩ | ⟨g, l, X, he, hX⟩
  · have h0 := hg γ .refl
    have h' : (askG .check all T o ⟨n, lh, M, A γ⟩ fun g s => .ok (.sub (.bool g) s.h :: s.acc)) = .error e := he (A γ)
    unfold opD at h0
    rw [h'] at h0
    exact h0.elim
  · have heq := fun β => opD_eq (E := E) (β := β) (run := run β) (v0 := v0) (he (A β))
    have hw : Region.wanted o (yielded all.toArray T.toArray) = g := by
      have h0 := hg γ .refl
      rw [heq] at h0
      refine hX fun x hx => ?_
      cases g with
      | false => exact h0 x (List.mem_append_left _ hx)
      | true => exact opE_kp (hkp γ) o T v0 ⟨n, l, M, X ++ A γ⟩ h0 x (List.mem_append_left _ hx)
    cases g with
    | false => exact .inl ⟨undef, fun β _ => ⟨_, heq β⟩, .inl ⟨hw, rfl⟩⟩
    | true =>
      simp only at heq
      have hg1 : ∀ β, Ag n β γ → gR (opE E .check β (run β) o T v0 ⟨n, l, M, X ++ A β⟩) := fun β hβ => heq β ▸ hg β hβ
      cases hl : laysK E.P o.op with
      | none =>
       have e0 : ∀ β, opE E .check β (run β) o T v0 ⟨n, l, M, X ++ A β⟩ = (match ophE E .check o T ⟨n, l, M, X ++ A β⟩ with | some r => r | none => match calE E .check β o T ⟨n, l, M, X ++ A β⟩ with | some r => r | none => valE E .check (run β) o T v0 ⟨n, l, M, X ++ A β⟩) := fun β => by unfold opE; simp only [hl]; cases ophE E .check o T ⟨n, l, M, X ++ A β⟩ <;> cases calE E .check β o T ⟨n, l, M, X ++ A β⟩ <;> rfl
       cases hO : E.oph o T (M.map thaw) with
       | some H =>
        have hsome : ∀ β, ∃ r, ophE E .check o T ⟨n, l, M, X ++ A β⟩ = some r := fun β => by
          unfold ophE
          simp only [hO]
          split
          · exact ⟨_, rfl⟩
          · split
            · exact ⟨_, rfl⟩
            · split <;> exact ⟨_, rfl⟩
        obtain ⟨r, hr0⟩ := hsome γ
        have h1 := hg1 γ .refl
        rw [e0, hr0] at h1
        obtain ⟨H, v, hH, hv, hn, hneed, hrows, hpre, hE⟩ := ophE_st hr0 h1
        refine .inl ⟨v, fun β _ => ?_, .inr ⟨hw, fun w0 w hS => ?_⟩⟩
        · obtain ⟨B, hB⟩ := hE (X ++ A β)
          exact ⟨B, by rw [heq, e0, hB]⟩
        · obtain ⟨w', hrun, hS'⟩ := hop.2.1 o T (M.map thaw) H hH hn hneed hrows hpre w w hS.thaw
          rw [hv] at hrun
          rw [hrun]
          exact ⟨rfl, hS'.1.gr⟩
       | none =>
        have hno : ∀ β, ophE E .check o T ⟨n, l, M, X ++ A β⟩ = none := fun β => by unfold ophE; simp only [hO]
        have e1 : ∀ β, opE E .check β (run β) o T v0 ⟨n, l, M, X ++ A β⟩ = (match calE E .check β o T ⟨n, l, M, X ++ A β⟩ with | some r => r | none => valE E .check (run β) o T v0 ⟨n, l, M, X ++ A β⟩) := fun β => by rw [e0, hno]
        cases hc : calE E .check γ o T ⟨n, l, M, X ++ A γ⟩ with
        | none =>
          have hnone : ∀ β, Ag n β γ → calE E .check β o T ⟨n, l, M, X ++ A β⟩ = none := fun β hβ => by
            cases hc2 : calE E .check β o T ⟨n, l, M, X ++ A β⟩ with
            | none => rfl
            | some r =>
              have h1 := hg1 β hβ
              rw [e1, hc2] at h1
              obtain ⟨f, args, H, _, _, _, _, hE⟩ := calE_st hc2 h1
              obtain ⟨B, _, hB⟩ := hE γ (X ++ A γ)
              rw [hc] at hB
              cases hB
          have e2 : ∀ β, Ag n β γ → opE E .check β (run β) o T v0 ⟨n, l, M, X ++ A β⟩ = valE E .check (run β) o T v0 ⟨n, l, M, X ++ A β⟩ := fun β hβ => by rw [e1, hnone β hβ]
          obtain ⟨v, h1, h2⟩ := valE_ok hP hs hkp hr (A := fun β => X ++ A β) (fun β hβ => e2 β hβ ▸ hg1 β hβ)
          refine .inl ⟨v, fun β hβ => ?_, .inr ⟨hw, h2⟩⟩
          obtain ⟨acc, h3⟩ := h1 β hβ
          exact ⟨acc, by rw [heq, e2 β hβ, h3]⟩
        | some r =>
          have h1 := hg1 γ .refl
          rw [e1, hc] at h1
          obtain ⟨f, args, H, hrun, hH, hrows, hpre, hE⟩ := calE_st hc h1
          have e2 : ∀ β, ∃ B, opD E .check β (run β) all o T v0 ⟨n, lh, M, A β⟩ = calF E .check H β n f B := fun β => by
            obtain ⟨B, _, hB⟩ := hE β (X ++ A β)
            exact ⟨B, by rw [heq, e1, hB]⟩
          have hcon : ∀ w0 w, SG w0 M w → Calls Try.prog f args w fun e w' => ∃ fr : List Fr, fr.length = H.n ∧ e = .returned (H.v fr) ∧ SG w (H.lay fr ++ M.map thaw) w' := fun w0 w hS => by
            simpa using hop.1 f args.toList (M.map thaw) H hH hrows hpre w w hS.thaw
          rw [hP] at hrun
          by_cases h1 : H.n = 1
          · have hb : Nat.beq H.n 1 = true := by rw [h1]; rfl
            refine .inr (.inr ⟨f, args, H, hw, hrun, fun w0 w hS => (hcon w0 w hS).mono fun e w' ⟨fr, hl, he, hS'⟩ => ?_, fun β hβ => ?_⟩)
            · match fr, hl.trans h1 with
              | [z], _ => exact ⟨z, he, hS'⟩
            · obtain ⟨B, hB⟩ := e2 β
              have h2 := hg β hβ
              rw [hB] at h2
              unfold calF at hB h2
              simp only [hb] at hB h2
              split at h2
              · rename_i r' hr'
                simp only [hr'] at hB
                refine ⟨_, _, hB, fun hx => ?_⟩
                have h3 := hx _ (List.mem_cons_self ..)
                simp only [It.l, It.r, Lv.v.injEq] at h3
                rw [hr']
                exact encM_inj h3
              · exact h2.elim
          · have hb : Nat.beq H.n 1 = false := by
              cases hq : Nat.beq H.n 1 with
              | false => rfl
              | true => exact absurd (Nat.eq_of_beq_eq_true hq) h1
            have h0 := hg γ .refl
            obtain ⟨B, hB⟩ := e2 γ
            rw [hB] at h0
            unfold calF at h0
            simp only [hb] at h0
            split at h0
            · rename_i hz hlay hi
              have hz' := Nat.eq_of_beq_eq_true hz
              refine .inl ⟨H.v [], fun β _ => ?_, .inr ⟨hw, fun w0 w hS => ?_⟩⟩
              · obtain ⟨B, hB⟩ := e2 β
                refine ⟨B, ?_⟩
                rw [hB]
                unfold calF
                simp only [hb, hz, hlay, hi]
              · rw [hrun w0 w hS]
                refine ⟨all_inits (hP ▸ hi), (hcon w0 w hS).mono fun e w' ⟨fr, hl, he, hS'⟩ => ?_, Gr.refl _⟩
                rw [hz'] at hl
                rw [List.length_eq_zero_iff.1 hl] at he
                exact ⟨he, hS'.1.gr⟩
            · exact h0.elim
      | some p =>
        obtain ⟨t, mk⟩ := p
        have e2 : ∀ β, opE E .check β (run β) o T v0 ⟨n, l, M, X ++ A β⟩ = layE E β o T t mk ⟨n, l, M, X ++ A β⟩ := fun β => by unfold opE; simp only [hl]
        cases hn : newV E.P (execOp (evalT T) o) with
        | none =>
          have h0 := hg1 γ .refl
          rw [e2] at h0
          unfold layE at h0
          simp only [hn] at h0
          exact h0.elim
        | some q =>
          obtain ⟨c, t', k⟩ := q
          have h0 := hg1 γ .refl
          rw [e2] at h0
          unfold layE at h0
          simp only [hn] at h0
          split at h0
          · rename_i v ht hkv
            obtain rfl := Nat.eq_of_beq_eq_true ht
            refine .inr (.inl ⟨t, mk, c, k, rfl, hw, fun w => by rw [hP] at hn; exact newV_ok _ hn w, fun β hβ => ?_⟩)
            have h1 := hg1 β hβ
            rw [e2] at h1
            unfold layE at h1
            simp only [hn] at h1
            split at h1
            · rename_i v' _ hkv'
              refine ⟨v', X ++ A β, hkv', ?_⟩
              rw [heq, e2]
              unfold layE
              simp only [hn, ht, hkv']
            · exact h1.elim
          · exact h0.elim
theorem evD_ok {E : Env} (hP : E.P = Try.prog) (hs : SumOk E) (hop : OphOk E) {run : (Nat → Fr) → CallE} (hkp : ∀ β, RunKp (run β)) (hr : RunOk run) {w0 : World} {all : List Oper} {rm : Region.Mode} {ls : List (Nat × Sn.LayT)} (hnd : (ls.map (·.1)).Nodup) {M : List Rw}
    (hF : ∀ r ∈ M, r.own = false → ∃ fr, w0.heap[r.b]? = some (.cells r.c.toArray r.t fr)) (βr : Nat → Fr) {Qf : Act → Prop} {K : (Nat → Fr) → KK Tm} (hk : ∀ β, KeepK (K β)) :
    ∀ (l : List Oper) (i : Nat) (γ : Nat → Fr) (n : Nat) (h : List It) (A : (Nat → Fr) → List It) (T : Tm) (pre : List (Nat × Sn.LayT)), ls = pre ++ planL E.P l i h → (∀ x ∈ pre, x.1 < i) →
      (∀ β, Ag n β γ → good (evD E rm .check β (run β) all l i T ⟨n, h, M, A β⟩ (pre.map (rowL βr)) (K β))) →
      (∀ (T' : Tm) (γ' : Nat → Fr) (n' : Nat) (h' : List It) (A' : (Nat → Fr) → List It), n ≤ n' → Ag n γ' γ → (∀ β, Ag n' β γ' → good (K β T' ⟨n', h', (ls.map (rowL βr)).map (·.2) ++ M, A' β⟩)) → Qf ⟨T'.toArray, []⟩) →
      Sn.wpTxt Try.prog rm all.toArray w0 (ents M) (Sn.layL ls) βr Qf i l ⟨T.toArray, []⟩ := by
  intro l
  induction l with
  | nil =>
    intro i γ n h A T pre hls hpre hg hQ
    obtain rfl : ls = pre := by rw [hls]; simp [planL]
    exact hQ T γ n h A (Nat.le_refl _) .refl hg
  | cons o l ih =>
    intro i γ n h A T pre hls hpre hg hQ
    have hin : ∀ x ∈ pre, x ∈ ls := fun x hx => by rw [hls]; exact List.mem_append_left _ hx
    refine Sn.sn_step (fun Kf hKf => ?_)
    obtain ⟨needs, hneeds, hanc, hSG⟩ : ∃ needs : List Nat, needs.Nodup ∧ (∀ j ∈ needs, ancB rm all.toArray all.toArray.size i j = true) ∧ ∀ w, St w0 (Sn.rowsOf (Sn.layL ls) βr needs ++ ents M) w → SG w0 (rowsD rm all i (pre.map (rowL βr)) M) w := by
      refine ⟨((pre.filter fun x => ancB rm all.toArray all.toArray.size i x.1).map (·.1)), ?_, ?_, fun w hS => ⟨?_, fun r hr ho => ?_⟩⟩
      · rw [hls, List.map_append] at hnd
        exact (List.nodup_append.1 hnd).1.sublist ((List.filter_sublist).map _)
      · intro j hj
        obtain ⟨x, hx, rfl⟩ := List.mem_map.1 hj
        exact (List.mem_filter.1 hx).2
      · rw [rows_of hnd βr _ (fun x hx => hin x (List.mem_filter.1 hx).1)] at hS
        unfold rowsD
        rw [ents_append]
        have e : (pre.map (rowL βr)).filter (fun x => ancB rm all.toArray all.length i x.1) = (pre.filter fun x => ancB rm all.toArray all.toArray.size i x.1).map (rowL βr) := by
          rw [List.filter_map]
          congr 1
        rw [e]
        exact hS
      · unfold rowsD at hr
        rcases List.mem_append.1 hr with hr | hr
        · obtain ⟨x, hx, rfl⟩ := List.mem_map.1 hr
          obtain ⟨y, _, rfl⟩ := List.mem_map.1 (List.mem_filter.1 hx).1
          cases ho
        · exact hF r hr ho
    have h0 := hg γ .refl
    rw [evD_cons] at h0
    simp only at h0
    split at h0
    · -- a value
      rename_i v0 lh h' 
      have hnone : Sn.layL ls i = none := lookup_not fun x hx => by
        rw [hls] at hx
        rcases List.mem_append.1 hx with hx | hx
        · have := hpre x hx; omega
        · simp only [planL, planH, List.nil_append, List.tail_cons] at hx
          have := planL_ge l (i + 1) _ x hx
          omega
      have hg1 : ∀ β, Ag n β γ → gR (opD E .check β (run β) all o T v0 ⟨n, lh, rowsD rm all i (pre.map (rowL βr)) M, A β⟩) := fun β hβ => by
        have h1 := hg β hβ
        rw [evD_cons] at h1
        simp only at h1
        split at h1
        · rename_i v acc hq
          rw [hq]
          obtain ⟨l', hl', hgd⟩ := h1
          exact evD_kp (hkp β) (hk β) l (i + 1) _ ⟨n, h', M, acc⟩ _ l' hl' hgd
        · exact absurd h1 not_good
        · exact absurd h1 not_good
        · exact absurd h1 not_good
      rcases opD_ok hP hs hop hkp hr hg1 with ⟨v, hv, hw⟩ | ⟨t, mk, c, k, _, _, _, hb⟩ | ⟨f, args, H, _, _, _, hb⟩
      · refine ⟨v, ?_, ?_⟩
        · unfold Sn.YB
          rw [hnone]
          refine ⟨needs, hneeds, hanc, ?_⟩
          rcases hw with ⟨hw, rfl⟩ | ⟨hw, hu⟩
          · exact .inr ⟨hw, rfl⟩
          · refine .inl ⟨hw, fun w hS => ?_⟩
            rw [eval_T]
            exact hu w0 w (hSG w hS)
        · refine hKf _ ?_
          rw [put_T]
          refine ih (i + 1) γ n h' (fun β => match opD E .check β (run β) all o T v0 ⟨n, lh, rowsD rm all i (pre.map (rowL βr)) M, A β⟩ with | .val _ acc => acc | _ => []) _ pre ?_ (fun x hx => by have := hpre x hx; omega) (fun β hβ => ?_) hQ
          · rw [hls]; simp [planL, planH]
          · have h1 := hg β hβ
            rw [evD_cons] at h1
            obtain ⟨acc, hacc⟩ := hv β hβ
            simp only [hacc] at h1 ⊢
            exact h1
      · obtain ⟨v, acc, _, h3⟩ := hb γ .refl
        have h1 := hg γ .refl
        rw [evD_cons] at h1
        simp only [h3] at h1
        exact absurd h1 not_good
      · obtain ⟨t, acc, h3, _⟩ := hb γ .refl
        have h1 := hg γ .refl
        rw [evD_cons] at h1
        simp only [h3] at h1
        exact absurd h1 not_good
    · -- a call that lays a row
      rename_i v c t lh h'
      have hg1 : ∀ β, Ag n β γ → gR (opD E .check β (run β) all o T undef ⟨n, lh, rowsD rm all i (pre.map (rowL βr)) M, A β⟩) := fun β hβ => by
        have h1 := hg β hβ
        rw [evD_cons] at h1
        simp only at h1
        split at h1
        · rename_i v' c' t' acc hq
          rw [hq]
          obtain ⟨l', hl', hgd⟩ := h1
          have h2 := evD_kp (hkp β) (hk β) l (i + 1) _ ⟨n + 1, h', M, _⟩ _ l' hl' hgd
          exact fun x hx => h2 x (List.mem_cons_of_mem _ (List.mem_cons_of_mem _ hx))
        · exact absurd h1 not_good
        · exact absurd h1 not_good
      rcases opD_ok hP hs hop hkp hr hg1 with ⟨v, hv, _⟩ | ⟨t, mk, c, k, hlk, hw, hrun, hb⟩ | ⟨f, args, H, hw, hrun, hcon, hb⟩
      · obtain ⟨acc, h3⟩ := hv γ .refl
        have h1 := hg γ .refl
        rw [evD_cons] at h1
        simp only [h3] at h1
        exact absurd h1 not_good
      · obtain ⟨v, acc, _, h3⟩ := hb γ .refl
        have h1 := hg γ .refl
        rw [evD_cons] at h1
        simp only [h3] at h1
        exact absurd h1 not_good
      · have hfact : ∀ β, Ag n β γ → H.v [β n] = v (β n) ∧ H.lay [β n] = [⟨(β n).b, c (β n), t, true⟩] := fun β hβ => by
          obtain ⟨t', acc, h3, hlay⟩ := hb β hβ
          have h1 := hg β hβ
          rw [evD_cons] at h1
          simp only [h3] at h1
          obtain ⟨l', hl', hgd⟩ := h1
          have h2 := evD_kp (hkp β) (hk β) l (i + 1) _ ⟨n + 1, h', M, _⟩ _ l' hl' hgd
          have h4 := h2 _ (List.mem_cons_self ..)
          have h5 := h2 _ (List.mem_cons_of_mem _ (List.mem_cons_self ..))
          simp only [It.l, It.r, Lv.v.injEq] at h4 h5
          have h6 := encM_inj h5
          refine ⟨h4, ?_⟩
          rw [hlay fun x hx => h2 x (List.mem_cons_of_mem _ (List.mem_cons_of_mem _ hx))]
          exact h6
        have hz : ∀ z : Fr, H.v [z] = v z ∧ H.lay [z] = [⟨z.b, c z, t, true⟩] := fun z => by
          have h1 := hfact (upN γ n z) (upN_ag _ _ _)
          rw [upN_at] at h1
          exact h1
        have hpl : planL E.P (o :: l) i (.cal v c t lh :: h') = (i, ⟨v, fun z => (c z).toArray, t⟩) :: planL E.P l (i + 1) h' := by
          simp [planL, planH]
        have hsome : Sn.layL ls i = some ⟨v, fun z => (c z).toArray, t⟩ := lookup_mem hnd (x := (i, ⟨v, fun z => (c z).toArray, t⟩)) (by rw [hls, hpl]; simp)
        refine ⟨v (βr i), ?_, ?_⟩
        · unfold Sn.YB
          rw [hsome]
          refine ⟨hw, ⟨needs, hneeds, hanc, fun w hS => ?_⟩, rfl⟩
          rw [eval_T, hrun w0 w (hSG w hS)]
          refine ⟨Gr.refl _, (hcon w0 w (hSG w hS)).mono fun e w' ⟨z, he, hS'⟩ => ?_⟩
          obtain ⟨h1, h2⟩ := hz z
          rw [h2] at hS'
          have h3 := hS'.1.2.2 ⟨z.b, (c z).toArray, t⟩ (by simp [ents])
          exact ⟨z, by rw [he, h1], h3.1, h3.2, hS'.1.gr⟩
        · refine hKf _ ?_
          rw [put_T]
          refine ih (i + 1) (upN γ n (βr i)) (n + 1) h' (fun β => match opD E .check β (run β) all o T undef ⟨n, lh, rowsD rm all i (pre.map (rowL βr)) M, A β⟩ with | .cal v' c' t' acc => .eqv (v' (β n)) (v (β n)) :: .eqv (encM [⟨(β n).b, c' (β n), t', true⟩]) (encM [⟨(β n).b, c (β n), t, true⟩]) :: acc | _ => []) _ (pre ++ [(i, ⟨v, fun z => (c z).toArray, t⟩)]) ?_ (fun x hx => ?_) (fun β hβ => ?_) (fun T' γ' n' h' A' hle hag hq => hQ T' γ' n' h' A' (by omega) ((hag.le (Nat.le_succ n)).trans (upN_ag _ _ _)) hq)
          · rw [hls, hpl]; simp
          · rcases List.mem_append.1 hx with hx | hx
            · have := hpre x hx; omega
            · rw [List.mem_singleton.1 hx]; simp
          · have hβ' := (hβ.le (Nat.le_succ n)).trans (upN_ag γ n (βr i))
            have hn : β n = βr i := by rw [hβ n (Nat.lt_succ_self n), upN_at]
            have h1 := hg β hβ'
            rw [evD_cons] at h1
            obtain ⟨t', acc, h3, _⟩ := hb β hβ'
            simp only [h3] at h1 ⊢
            rw [hn] at h1 ⊢
            simpa [rowL] using h1
    · -- a row
      rename_i v0 lh h'
      have hg1 : ∀ β, Ag n β γ → gR (opD E .check β (run β) all o T v0 ⟨n, lh, rowsD rm all i (pre.map (rowL βr)) M, A β⟩) := fun β hβ => by
        have h1 := hg β hβ
        rw [evD_cons] at h1
        simp only at h1
        split at h1
        · exact absurd h1 not_good
        · exact absurd h1 not_good
        · rename_i v r mk acc hq
          rw [hq]
          obtain ⟨l', hl', hgd⟩ := h1
          have h2 := evD_kp (hkp β) (hk β) l (i + 1) _ ⟨n + 1, h', M, _⟩ _ l' hl' hgd
          exact fun x hx => h2 x (List.mem_cons_of_mem _ (List.mem_cons_of_mem _ hx))
        · exact absurd h1 not_good
      rcases opD_ok hP hs hop hkp hr hg1 with ⟨v, hv, _⟩ | ⟨t, mk, c, k, hlk, hw, hrun, hb⟩ | ⟨f, args, H, _, _, _, hb⟩
      · obtain ⟨acc, h3⟩ := hv γ .refl
        have h1 := hg γ .refl
        rw [evD_cons] at h1
        simp only [h3] at h1
        exact absurd h1 not_good
      · have hfact : ∀ β, Ag n β γ → k (β n).b = .pure (.value (mk (β n).b)) ∧ c.toList = cellsV v0 := fun β hβ => by
          obtain ⟨v, acc, hkv, h3⟩ := hb β hβ
          have h1 := hg β hβ
          rw [evD_cons] at h1
          simp only [h3] at h1
          obtain ⟨l', hl', hgd⟩ := h1
          have h2 := evD_kp (hkp β) (hk β) l (i + 1) _ ⟨n + 1, h', M, _⟩ _ l' hl' hgd
          have h4 := h2 _ (List.mem_cons_self ..)
          have h5 := h2 _ (List.mem_cons_of_mem _ (List.mem_cons_self ..))
          simp only [It.l, It.r, Lv.v.injEq] at h4 h5
          simp only [Value.agg.injEq, Array.mk.injEq] at h5
          exact ⟨h4 ▸ hkv, h5⟩
        have hcs : c = (cellsV v0).toArray := by rw [← (hfact γ .refl).2]
        have hpl : planL E.P (o :: l) i (.lay v0 lh :: h') = (i, ⟨fun z => mk z.b, fun _ => (cellsV v0).toArray, t⟩) :: planL E.P l (i + 1) h' := by
          simp [planL, planH, hlk]
        have hsome : Sn.layL ls i = some ⟨fun z => mk z.b, fun _ => (cellsV v0).toArray, t⟩ := lookup_mem hnd (x := (i, ⟨fun z => mk z.b, fun _ => (cellsV v0).toArray, t⟩)) (by rw [hls, hpl]; simp)
        refine ⟨mk (βr i).b, ?_, ?_⟩
        · unfold Sn.YB
          rw [hsome]
          refine ⟨hw, ⟨[], List.nodup_nil, fun _ h => (by cases h), fun w _ => ?_⟩, rfl⟩
          rw [eval_T, hrun w]
          have h1 := hfact (upN γ n ⟨w.heap.size, fun _ => undef, []⟩) (upN_ag _ _ _)
          rw [upN_at] at h1
          rw [h1.1, hcs]
          exact ⟨⟨w.heap.size, fun _ => undef, []⟩, rfl, Nat.le_refl _, Array.getElem?_push_size, Gr.alloc (Gr.refl _) _ _⟩
        · refine hKf _ ?_
          rw [put_T]
          refine ih (i + 1) (upN γ n (βr i)) (n + 1) h' (fun β => match opD E .check β (run β) all o T v0 ⟨n, lh, rowsD rm all i (pre.map (rowL βr)) M, A β⟩ with | .lay v r mk acc => .eqv v (mk (β n).b) :: .eqv (.agg ⟨r.c⟩) (.agg ⟨cellsV v0⟩) :: acc | _ => []) _ (pre ++ [(i, ⟨fun z => mk z.b, fun _ => (cellsV v0).toArray, t⟩)]) ?_ (fun x hx => ?_) (fun β hβ => ?_) (fun T' γ' n' h' A' hle hag hq => hQ T' γ' n' h' A' (by omega) ((hag.le (Nat.le_succ n)).trans (upN_ag _ _ _)) hq)
          · rw [hls, hpl]; simp
          · rcases List.mem_append.1 hx with hx | hx
            · have := hpre x hx; omega
            · rw [List.mem_singleton.1 hx]; simp
          · have hβ' := (hβ.le (Nat.le_succ n)).trans (upN_ag γ n (βr i))
            have hn : β n = βr i := by rw [hβ n (Nat.lt_succ_self n), upN_at]
            have h1 := hg β hβ'
            rw [evD_cons] at h1
            obtain ⟨v, acc, _, h3⟩ := hb β hβ'
            simp only [h3] at h1 ⊢
            rw [hn] at h1 ⊢
            simpa [rowL] using h1
      · obtain ⟨t, acc, h3, _⟩ := hb γ .refl
        have h1 := hg γ .refl
        rw [evD_cons] at h1
        simp only [h3] at h1
        exact absurd h1 not_good
    · exact absurd h0 not_good
end Ev
end Go.Proofs.Ythpnhanabcipmaa
