/-
  Checked runs: code and functions. The end: 'ev_calls', of a function called, and what it computes. Of no function.
-/
import Derived.Test.YthpnhanabcipmaaEvD
namespace Go.Proofs.Ythpnhanabcipmaa
open Go.RowKit VecM
namespace Ev
/-! ### loops, one round at a time -/
def LoopWp (P : Program) (c : Code) (Q : Exit → Act → World → Prop) (a : Act) (w : World) : Prop :=
  ∀ (b : Frame) (k : List Item) (cs : List Frame), ∃ e a' w', Q e a' w' ∧ Arrives P (lone (b.at a (.code c :: .inLoop c :: k)) cs w) b k cs e a' w'
theorem loop_of {P : Program} {c : Code} {Q : Exit → Act → World → Prop} {a : Act} {w : World} (h : LoopWp P c Q a w) : (Code.loop c).wp P Q a w := fun b k cs =>
  let ⟨e, a', w', hq, ha⟩ := h b k cs
  ⟨e, a', w', hq, .of_steps (.one step_loop) ha⟩
theorem loop_round {P : Program} {c : Code} {Q : Exit → Act → World → Prop} {a : Act} {w : World} (h : c.wp P (Exit.then (LoopWp P c Q) Q) a w) : LoopWp P c Q a w := by
  intro b k cs
  obtain ⟨e, a₁, w₁, hq, harr⟩ := h b (.inLoop c :: k) cs
  cases e with
  | normal =>
    obtain ⟨e₂, a₂, w₂, hq₂, harr₂⟩ := hq b k cs
    exact ⟨e₂, a₂, w₂, hq₂, .of_steps (Steps.trans harr (.one step_inLoop)) harr₂⟩
  | exit id => exact ⟨_, a₁, w₁, hq, .pass (x := .inLoop c) rfl (fun _ _ => .inl (by simp)) harr⟩
  | goto l => exact ⟨_, a₁, w₁, hq, .pass (x := .inLoop c) rfl (fun _ _ => .inl (by simp)) harr⟩
  | ret => exact ⟨_, a₁, w₁, hq, .pass (x := .inLoop c) rfl (fun _ _ => .inl (by simp)) harr⟩
  | panic ch => exact ⟨_, a₁, w₁, hq, .pass (x := .inLoop c) rfl (fun _ _ => .inl (by simp)) harr⟩
  | outgrown => exact ⟨_, a₁, w₁, hq, .pass (x := .inLoop c) rfl (fun _ _ => .inl (by simp)) harr⟩
def wpX (P : Program) (c : Code) (Q : Exit → Act → World → Prop) (a : Act) (w : World) : Prop :=
  match c with
  | .loop body => LoopWp P body Q a w
  | c => c.wp P Q a w
theorem wpX_wp {P : Program} {c : Code} {Q : Exit → Act → World → Prop} {a : Act} {w : World} (h : wpX P c Q a w) : c.wp P Q a w := by
  unfold wpX at h
  split at h
  · exact loop_of h
  · exact h
theorem wpX_of {P : Program} {c : Code} {Q : Exit → Act → World → Prop} {a : Act} {w : World} (hc : ∀ body, c ≠ .loop body) (h : c.wp P Q a w) : wpX P c Q a w := by
  unfold wpX
  split
  · exact absurd rfl (hc _)
  · exact h
/-! ### code -/
def KeepC (K : CodeK) : Prop := ∀ e T s, Kp s.acc (K e T s)
def CodeKp (ev : CodeE) : Prop := ∀ c T s K, KeepC K → Kp s.acc (ev c T s K)
abbrev kC (K : (Nat → Fr) → CodeK) : (Nat → Fr) → KK (Exit × Tm) := fun β p s => K β p.1 p.2 s
def CodeOk (ev : (Nat → Fr) → CodeE) : Prop :=
  ∀ (w0 : World) (c : Code) (γ : Nat → Fr) (n : Nat) (h : List It) (M : List Rw) (A : (Nat → Fr) → List It) (T : Tm) (w : World) (K : (Nat → Fr) → CodeK) (Q : Exit → Act → World → Prop), (∀ β, KeepC (K β)) → SG w0 M w →
    (∀ β, Ag n β γ → good (ev β c T ⟨n, h, M, A β⟩ (K β))) → (∀ e T' w', On w0 n γ (kC K) (e, T') w' → Q e ⟨T'.toArray, []⟩ w') → wpX Try.prog c Q ⟨T.toArray, []⟩ w
theorem fill_ex : ∀ (l : List Value) (i : Nat) (T : Tm), ∃ T' : Tm, (∀ k, fillT i l T k = k T') ∧ T'.toArray.size = T.toArray.size ∧ ∀ j, T'.toArray[j]? = if i ≤ j ∧ j < i + l.length ∧ j < T.toArray.size then l[j - i]? else T.toArray[j]? := by
  intro l
  induction l with
  | nil => exact fun i T => ⟨T, fun _ => rfl, rfl, fun j => by rw [if_neg (by simp; omega)]⟩
  | cons v l ih =>
    intro i T
    obtain ⟨T1, h1, h2⟩ := tput_ex T i v
    obtain ⟨T2, h3, h4, h5⟩ := ih (i + 1) T1
    have hs : T1.toArray.size = T.toArray.size := by rw [h2]; simp
    refine ⟨T2, fun k => ?_, h4.trans hs, fun j => ?_⟩
    · show tputK T i v (fun T => fillT (i + 1) l T k) = _
      rw [h1, h3]
    · rw [h5, hs, h2]
      simp only [List.length_cons]
      by_cases hj : i + 1 ≤ j ∧ j < i + 1 + l.length ∧ j < T.toArray.size
      · rw [if_pos hj, if_pos (by omega)]
        have : j - i = (j - (i + 1)) + 1 := by omega
        rw [this]
        simp
      · rw [if_neg hj]
        by_cases hji : j = i
        · subst hji
          by_cases hlt : j < T.toArray.size
          · rw [if_pos (by omega)]
            simp [hlt]
          · rw [if_neg (by omega)]
            simp [hlt]
        · rw [if_neg (by omega)]
          simp [Array.getElem?_setIfInBounds, Ne.symm hji]
theorem getR_e (i : Nat) : getR .e i = undef := rfl
theorem fill_T (args : List Value) (n : Nat) (h : max n args.length ≤ 4000) : ∃ T' : Tm, (∀ k, fillT 0 args ⟨max n args.length, .e, h⟩ k = k T') ∧ T'.toArray = args.toArray ++ Array.replicate (n - args.toArray.size) undef := by
  obtain ⟨T', h1, h2, h3⟩ := fill_ex args 0 ⟨max n args.length, .e, h⟩
  have hs : (Tm.toArray ⟨max n args.length, .e, h⟩).size = max n args.length := by simp [Tm.toArray]
  refine ⟨T', h1, ?_⟩
  apply Array.ext_getElem?
  intro j
  rw [h3, hs]
  simp only [Nat.zero_le, true_and, Nat.zero_add, Nat.sub_zero]
  by_cases hj : j < args.length
  · rw [if_pos (by omega)]
    simp [Array.getElem?_append, hj]
  · rw [if_neg (by omega)]
    simp only [Tm.toArray, Array.getElem?_append, List.size_toArray, hj, if_false, List.getElem?_toArray, List.getElem?_map, Array.getElem?_replicate]
    by_cases hn : j < max n args.length
    · simp [hn, getR_e]
      omega
    · simp [hn]
      omega
theorem runE_kp {E : Env} {ev : CodeE} (h : CodeKp ev) : RunKp (runE E .check ev) := by
  intro f args s k hk
  unfold runE
  split
  · exact .err
  · split
    · exact .err
    · split
      · exact .err
      · rename_i hn _
        obtain ⟨T', h1, _⟩ := fill_T args _ hn
        rw [h1]
        refine h _ _ _ _ fun e T s => ?_
        split
        · exact evR_kp hk _ _ _
        · exact evR_kp hk _ _ _
        · exact .err
theorem runE_ok {E : Env} (hP : E.P = Try.prog) {ev : (Nat → Fr) → CodeE} (h : CodeOk ev) : RunOk (fun β => runE E .check (ev β)) := by
  intro w0 w f args γ n hh M A K hk hS hg
  cases hf : E.P.funcs[f]? with
  | none =>
    have h0 := hg γ .refl
    unfold runE at h0
    simp only [hf] at h0
    exact absurd h0 not_good
  | some fn =>
    cases hb : fn.body with
    | none =>
      have h0 := hg γ .refl
      unfold runE at h0
      simp only [hf, hb] at h0
      exact absurd h0 not_good
    | some c =>
      cases hd : Nat.decLe (max fn.ntmps args.length) 4000 with
      | isFalse hd' =>
        have h0 := hg γ .refl
        unfold runE at h0
        simp only [hf, hb, hd] at h0
        exact absurd h0 not_good
      | isTrue hd' =>
        obtain ⟨T0, hT1, hT2⟩ := fill_T args fn.ntmps hd'
        let K2 : (Nat → Fr) → CodeK := fun β e T s => match e with
          | .normal => evR E.P .check fn.results.toList T s [] (K β)
          | .ret => evR E.P .check fn.results.toList T s [] (K β)
          | _ => .error 53
        have hk2 : ∀ β, KeepC (K2 β) := fun β e T s => by
          show Kp s.acc (match e with | .normal => _ | .ret => _ | _ => _)
          split
          · exact evR_kp (hk β) _ _ _
          · exact evR_kp (hk β) _ _ _
          · exact .err
        have hg2 : ∀ β, Ag n β γ → good (ev β c T0 ⟨n, hh, M, A β⟩ (K2 β)) := fun β hβ => by
          have := hg β hβ
          unfold runE at this
          simp only [hf, hb, hd, hT1] at this
          exact this
        refine calls_of_wp (hP ▸ hf) hb ?_
        rw [← hT2]
        refine wpX_wp (h w0 c γ n hh M A _ w K2 _ hk2 hS hg2 fun e T' w' hon => ?_)
        have key : ∀ e', (e' = .normal ∨ e' = .ret) → On w0 n γ (kC K2) (e', T') w' → ∃ v, (results fn T'.toArray).run Try.prog w' = .ok v w' ∧ ∃ v', Ending.returned v = .returned v' ∧ On w0 n γ K v' w' := by
          intro e' he' ⟨γ', n', h', M', A', hS', hle, hag, hgd⟩
          have hgd' : ∀ β, Ag n' β γ' → good (evR E.P .check fn.results.toList T' ⟨n', h', M', A' β⟩ [] (K β)) := fun β hβ => by
            have := hgd β hβ
            rcases he' with rfl | rfl <;> exact this
          obtain ⟨vs, h2, hrun, hE⟩ := evR_ok (hk γ') _ _ _ hS' (hgd' γ' .refl)
          rw [hP] at hrun
          refine ⟨tupV vs, ?_, tupV vs, rfl, γ', n', h2, M', fun β => Classical.choose (hE (A' β)), hS', hle, hag, fun β hβ => ?_⟩
          · rw [results_list]
            simp [hrun]
          · have h3 := (Classical.choose_spec (hE (A' β))).2 (K β)
            have h4 := hgd' β hβ
            rw [h3] at h4
            exact h4
        cases e with
        | normal =>
          obtain ⟨v, h1, h2⟩ := key .normal (.inl rfl) hon
          exact ⟨rfl, v, h1, h2⟩
        | ret =>
          obtain ⟨v, h1, h2⟩ := key .ret (.inr rfl) hon
          exact ⟨rfl, v, h1, h2⟩
        | _ =>
          obtain ⟨γ', n', h', M', A', hS', hle, hag, hgd⟩ := hon
          exact absurd (hgd γ' .refl) not_good
theorem smAll_more {ops : Array Oper} {js : List Nat} (h : smAllB ops [] = true) (h1 : js.Nodup) (h2 : ∀ j ∈ js, j < ops.size) : smAllB ops js = true := by
  simp only [smAllB, Bool.and_eq_true, decide_eq_true_eq] at h ⊢
  exact ⟨⟨h.1.1, h1⟩, List.all_eq_true.2 fun j hj => by simpa using h2 j hj⟩
theorem smAny_more {ops : Array Oper} {js : List Nat} (h : smAnyB ops [] = true) (h1 : js.Nodup) (h2 : ∀ j ∈ js, j < ops.size) : smAnyB ops js = true := by
  simp only [smAnyB, Bool.and_eq_true, decide_eq_true_eq] at h ⊢
  exact ⟨⟨h.1.1, h1⟩, List.all_eq_true.2 fun j hj => by simpa using h2 j hj⟩
theorem sm_more {ops : Array Oper} {n : Nat} {js : List Nat} (h : smB ops n [] = true) (h1 : js.Nodup) (h2 : ∀ j ∈ js, j < n) : smB ops n js = true := by
  simp only [smB, Bool.and_eq_true, decide_eq_true_eq] at h ⊢
  exact ⟨⟨h.1.1, h1⟩, List.all_eq_true.2 fun j hj => by simpa using h2 j hj⟩
theorem draw_ok {E : Env} (hP : E.P = Try.prog) (hs : SumOk E) (hop : OphOk E) {run : (Nat → Fr) → CallE} (hkp : ∀ β, RunKp (run β)) (hr : RunOk run) {w0 w : World} {id : Nat} {l : List Oper} {Q : Exit → Act → World → Prop} {K : (Nat → Fr) → KK Tm} (hk : ∀ β, KeepK (K β)) {rm : Region.Mode} (hrm : drawK l (headN l) = some rm)
    {γ : Nat → Fr} {n : Nat} {h : List It} {M : List Rw} {A : (Nat → Fr) → List It} {T : Tm} (hS : SG w0 M w)
    (hg : ∀ β, Ag n β γ → good (evD E rm .check β (run β) l (l.take (headN l)) 0 T ⟨n, h, M, A β⟩ [] fun T s => evO E .check β (run β) l (l.drop (headN l)) T s (K β)))
    (hQ : ∀ T' w', On w0 n γ K T' w' → Q .normal ⟨T'.toArray, []⟩ w') (hm : (Try.prog).follows .mixedOrders = true) : (Code.region id l.toArray true).wp Try.prog Q ⟨T.toArray, []⟩ w := by
  have hnd := planL_nodup (P := E.P) (l.take (headN l)) 0 h
  have hge := planL_ge (P := E.P) (l.take (headN l)) 0 h
  generalize hls : planL E.P (l.take (headN l)) 0 h = ls at hnd hge
  have hlen : (l.take (headN l)).length ≤ headN l ∧ (l.take (headN l)).length ≤ l.length := by simp; omega
  have hlt : ∀ j ∈ ls.map (·.1), j < headN l ∧ j < l.length := fun j hj => by
    obtain ⟨x, hx, rfl⟩ := List.mem_map.1 hj
    have := hge x hx
    omega
  have hk2 : ∀ β, KeepK fun T s => evO E .check β (run β) l (l.drop (headN l)) T s (K β) := fun β T s => evO_kp (hkp β) (hk β) _ T s
  have main : ∀ (Q' : Exit → Act → World → Prop), (∀ a w, Q .normal a w → Q' .normal a w) → ∀ βr : Nat → Fr, Sn.wpTxt Try.prog rm l.toArray w0 (ents M) (Sn.layL ls) βr (fun a' => ∀ w', St w0 (Sn.rowsOf (Sn.layL ls) βr (ls.map (·.1)) ++ ents M) w' → wpList Try.prog l.toArray Q' (l.drop (headN l)) a' w') 0 (l.take (headN l)) ⟨T.toArray, []⟩ := by
    intro Q' hQ' βr
    refine evD_ok hP hs hop hkp hr hnd hS.2 βr hk2 (l.take (headN l)) 0 γ n h A T [] (by rw [hls]; rfl) (fun _ h => (by cases h)) hg fun T' γ' n' h' A' hle hag hgd w' hw' => ?_
    have hS' : SG w0 ((ls.map (rowL βr)).map (·.2) ++ M) w' := by
      refine ⟨?_, fun r hr ho => ?_⟩
      · rw [ents_append, ← rows_of hnd βr ls (fun _ h => h)]
        exact hw'
      · rcases List.mem_append.1 hr with hr | hr
        · obtain ⟨x, hx, rfl⟩ := List.mem_map.1 hr
          obtain ⟨y, _, rfl⟩ := List.mem_map.1 hx
          cases ho
        · exact hS.2 r hr ho
    exact evO_ok hP hs hop hkp hr hk (l.drop (headN l)) γ' n' h' _ A' T' w' hS' hgd fun T'' w'' hon => hQ' _ _ (hQ T'' w'' (hon.le hle hag))
  unfold drawK at hrm
  split at hrm
  · split at hrm
    · rename_i hb
      cases hrm
      exact Sn.sn_tail (headN l) ls hS.1 hm (sm_more hb hnd fun j hj => (hlt j hj).1) (main (onlyN Q) fun _ _ h => h)
    · cases hrm
  · rename_i hlt'
    have hall : headN l = l.length ∨ l.length ≤ headN l := by
      have : ¬ headN l < l.length := fun h => by
        have : Nat.blt (headN l) l.length = true := by unfold Nat.blt; exact Nat.ble_eq_true_of_le (by omega)
        rw [this] at hlt'
        cases hlt'
      omega
    have ht : l.take (headN l) = l := List.take_of_length_le (by omega)
    have hd : l.drop (headN l) = [] := List.drop_eq_nil_of_le (by omega)
    split at hrm
    · rename_i hb
      cases hrm
      have := main Q fun _ _ h => h
      rw [ht, hd] at this
      exact Sn.sn_all ls hS.1 hm (smAll_more hb hnd fun j hj => by simpa using (hlt j hj).2) this
    · split at hrm
      · rename_i hb
        cases hrm
        have := main Q fun _ _ h => h
        rw [ht, hd] at this
        exact Sn.sn_allA ls hS.1 hm (smAny_more hb hnd fun j hj => by simpa using (hlt j hj).2) this
      · cases hrm
noncomputable def putsL : List (Nat × Value) → Tm → Tm
  | [], T => T
  | (i, v) :: l, T => putsL l (Classical.choose (tput_ex T i v))
theorem putsT_eq : ∀ (l : List (Nat × Value)) (T : Tm) (k : Tm → Out), putsT l T k = k (putsL l T) := by
  intro l
  induction l with
  | nil => exact fun T k => rfl
  | cons p l ih =>
    obtain ⟨i, v⟩ := p
    intro T k
    show tputK T i v (fun T => putsT l T k) = _
    rw [(Classical.choose_spec (tput_ex T i v)).1, ih]
    rfl
/-- the runs of blocks that are known -/
def HolesOk (E : Env) : Prop := ∀ id body T M H, E.hole id body T M = some H → T.n = H.n → (∀ p ∈ H.need, tget T p.1 = p.2) → M = H.rows → (∀ b ∈ H.pre, b = true) → ∀ (w0 w : World) (Q : Exit → Act → World → Prop), SG w0 M w →
  (∀ ξ w', SG w0 (H.post H.test ξ).2.2 w' → Q (H.post H.test ξ).1 ⟨(putsL (H.post H.test ξ).2.1 T).toArray, []⟩ w') → H.code.wp Try.prog Q ⟨T.toArray, []⟩ w
theorem no_holes {E : Env} (h : E.hole = fun _ _ _ _ => none) : HolesOk E := fun _ _ _ _ _ hq => by rw [h] at hq; cases hq
noncomputable def kHole (H : Hole) (β : Nat → Fr) (T : Tm) (K : CodeK) (s : Sg) : Out := pickCon .check H.test s fun b s =>
  K (H.post b (β s.n).x).1 (putsL (H.post b (β s.n).x).2.1 T) ⟨s.n + 1, s.h, (H.post b (β s.n).x).2.2, s.acc⟩
theorem kHole_kp {H : Hole} {β : Nat → Fr} {T : Tm} {K : CodeK} (hK : KeepC K) (s : Sg) : Kp s.acc (kHole H β T K s) :=
  pickCon_kp fun b s => hK _ _ ⟨s.n + 1, s.h, _, s.acc⟩
theorem stepC_hole {E : Env} {β : Nat → Fr} {ih : CodeE} {id : Nat} {x : Code} {T : Tm} {s : Sg} {K : CodeK} {H : Hole} (hq : E.hole id x T s.M = some H) :
    stepC E .check β ih (.block id x) T s K = (match Nat.beq T.n H.n with | true => pickPs .check H.pre ⟨s.n, s.h, s.M, needE T H.need (.eqv (encM s.M) (encM H.rows) :: .cod (.block id x) H.code :: s.acc)⟩ (kHole H β T K) | false => .error 93) := by
  have e : (fun s => pickCon .check H.test s fun b s => putsT (H.post b (β s.n).x).2.1 T fun T => K (H.post b (β s.n).x).1 T ⟨s.n + 1, s.h, (H.post b (β s.n).x).2.2, s.acc⟩) = kHole H β T K := by
    funext s
    simp only [putsT_eq]
    rfl
  rw [← e]
  unfold stepC
  simp only [hq]
  rfl
theorem stepC_kp {E : Env} {β : Nat → Fr} {ih : CodeE} (hih : CodeKp ih) : CodeKp (stepC E .check β ih) := by
  intro c T s K hK
  have hr := runE_kp (E := E) hih
  unfold stepC
  split
  · exact hK _ _ _
  · split
    · exact evO_kp hr (fun T s => hK _ T s) _ _ _
    · split
      · exact evD_kp hr (fun T s => evO_kp hr (fun T s => hK _ T s) _ T s) _ _ _ _ _
      · exact .err
  · refine hih _ _ _ _ fun e T s => ?_
    split
    · exact hih _ _ _ _ hK
    · exact hK _ _ _
  · split
    · refine pickCon_kp fun b s => ?_
      split
      · exact hih _ _ _ _ hK
      · exact hih _ _ _ _ hK
    · exact .err
  · rename_i id x
    cases hq : E.hole id x T s.M with
    | some H =>
      have e := stepC_hole (β := β) (ih := ih) (K := K) hq
      unfold stepC at e
      simp only [hq] at e
      simp only
      rw [e]
      split
      · exact (pickPs_kp (kHole_kp hK) H.pre ⟨s.n, s.h, s.M, _⟩).sub fun y hy => needE_sub T H.need _ (List.mem_cons_of_mem _ (List.mem_cons_of_mem _ hy))
      · exact .err
    | none =>
      simp only
      refine hih _ _ _ _ fun e T s => ?_
      split
      · split
        · exact hK _ _ _
        · exact hK _ _ _
      · exact hK _ _ _
  · refine hih _ _ _ _ fun e T s => ?_
    split
    · exact hih _ _ _ _ hK
    · exact hK _ _ _
  · exact hK _ _ _
  · exact hK _ _ _
  · exact .err
theorem evC_kp (E : Env) (β : Nat → Fr) : ∀ fuel, CodeKp (evC E .check β fuel) := by
  intro fuel
  induction fuel with
  | zero => exact fun _ _ _ _ _ => .err
  | succ f ih => exact stepC_kp ih
noncomputable def kSeq (ih : CodeE) (b : Code) (K : CodeK) : CodeK := fun e T s => match e with
  | .normal => ih b T s K
  | e => K e T s
noncomputable def kBlk (id : Nat) (K : CodeK) : CodeK := fun e T s => match e with
  | .exit j => match Nat.beq j id with
    | true => K .normal T s
    | false => K (.exit j) T s
  | e => K e T s
theorem kSeq_kp {ih : CodeE} {b : Code} {K : CodeK} (h : CodeKp ih) (hK : KeepC K) : KeepC (kSeq ih b K) := fun e T s => by
  unfold kSeq
  split
  · exact h _ _ _ _ hK
  · exact hK _ _ _
theorem kBlk_kp {id : Nat} {K : CodeK} (hK : KeepC K) : KeepC (kBlk id K) := fun e T s => by
  unfold kBlk
  split
  · split
    · exact hK _ _ _
    · exact hK _ _ _
  · exact hK _ _ _
theorem On.map {α α' : Type} {w0 : World} {n : Nat} {γ : Nat → Fr} {K : (Nat → Fr) → KK α} {K' : (Nat → Fr) → KK α'} {a : α} {a' : α'} {w : World} (h : On w0 n γ K a w) (e : ∀ β s, K β a s = K' β a' s) : On w0 n γ K' a' w := by
  obtain ⟨γ', n', h', M, A, hS, hle, hag, hgd⟩ := h
  exact ⟨γ', n', h', M, A, hS, hle, hag, fun β hβ => e β _ ▸ hgd β hβ⟩
theorem evC_ok {E : Env} (hP : E.P = Try.prog) (hs : SumOk E) (hh : HolesOk E) (ho : OphOk E) (hm : (Try.prog).follows .mixedOrders = true) : ∀ fuel, CodeOk fun β => evC E .check β fuel := by
  intro fuel
  induction fuel with
  | zero => exact fun w0 c γ n h M A T w K Q hk hS hg hQ => absurd (hg γ .refl) not_good
  | succ f ih =>
    intro w0 c γ n h M A T w K Q hk hS hg hQ
    have hkc : ∀ β, CodeKp (evC E .check β f) := fun β => evC_kp E β f
    have hkp : ∀ β, RunKp (runE E .check (evC E .check β f)) := fun β => runE_kp (hkc β)
    have hr : RunOk fun β => runE E .check (evC E .check β f) := runE_ok hP ih
    have hg : ∀ β, Ag n β γ → good (stepC E .check β (evC E .check β f) c T ⟨n, h, M, A β⟩ (K β)) := hg
    have here : ∀ e T', (∀ β, Ag n β γ → good (K β e T' ⟨n, h, M, A β⟩)) → Q e ⟨T'.toArray, []⟩ w := fun e T' hgd => hQ e T' w ⟨γ, n, h, M, A, hS, Nat.le_refl _, .refl, hgd⟩
    cases c with
    | skip => exact wpX_of (fun _ h => by cases h) (wp_skip (here _ _ hg))
    | region id ops draw =>
      refine wpX_of (fun _ h => by cases h) ?_
      cases draw with
      | false =>
        have h2 := evO_ok (Q := Q) hP hs ho hkp hr (K := fun β T s => K β .normal T s) (all := ops.toList) (fun β T s => hk β _ T s) ops.toList γ n h M A T w hS hg fun T' w' hon => hQ _ _ _ (hon.map fun _ _ => rfl)
        have h3 := wp_region_lit (id := id) h2
        simpa using h3
      | true =>
        have e : ∀ β, stepC E .check β (evC E .check β f) (.region id ops true) T ⟨n, h, M, A β⟩ (K β) = (match drawK ops.toList (headN ops.toList) with
          | some rm => evD E rm .check β (runE E .check (evC E .check β f)) ops.toList (ops.toList.take (headN ops.toList)) 0 T ⟨n, h, M, A β⟩ [] fun T s =>
            evO E .check β (runE E .check (evC E .check β f)) ops.toList (ops.toList.drop (headN ops.toList)) T s fun T s => K β .normal T s
          | none => .error 57) := fun β => rfl
        cases hd : drawK ops.toList (headN ops.toList) with
        | none =>
          have h0 := hg γ .refl
          rw [e, hd] at h0
          exact absurd h0 not_good
        | some rm =>
          have h2 := draw_ok (Q := Q) (id := id) hP hs ho hkp hr (K := fun β T s => K β .normal T s) (l := ops.toList) (fun β T s => hk β _ T s) hd hS (fun β hβ => by
            have h1 := hg β hβ
            rw [e, hd] at h1
            exact h1) (fun T' w' hon => hQ _ _ _ (hon.map fun _ _ => rfl)) hm
          simpa using h2
    | seq x y =>
      refine wpX_of (fun _ h => by cases h) (wp_seq (wpX_wp (ih w0 x γ n h M A T w (fun β => kSeq (evC E .check β f) y (K β)) _ (fun β => kSeq_kp (hkc β) (hk β)) hS (fun β hβ => ?_) fun e T' w' hon => ?_)))
      · have h1 := hg β hβ
        exact h1
      · cases e with
        | normal =>
          obtain ⟨γ', n', h', M', A', hS', hle, hag, hgd⟩ := hon
          exact wpX_wp (ih w0 y γ' n' h' M' A' T' w' K Q hk hS' hgd fun e T'' w'' hon => hQ e T'' w'' (hon.le hle hag))
        | _ => exact hQ _ _ _ (hon.map fun _ _ => rfl)
    | cond c x y =>
      refine wpX_of (fun _ h => by cases h) ?_
      have h0 := hg γ .refl
      cases hc : evalT T c with
      | bool b =>
        have e : ∀ β, stepC E .check β (evC E .check β f) (.cond c x y) T ⟨n, h, M, A β⟩ (K β) = pickCon .check b ⟨n, h, M, A β⟩ fun b s => match b with
          | true => evC E .check β f x T s (K β)
          | false => evC E .check β f y T s (K β) := fun β => by
            unfold stepC
            simp only [hc]
            rfl
        have hkb : ∀ β, ∀ b s, Kp s.acc ((fun (b : Bool) (s : Sg) => (match b with
          | true => evC E .check β f x T s (K β)
          | false => evC E .check β f y T s (K β) : Out)) b s) := fun β b s => by
            cases b
            · exact hkc β _ _ _ _ (hk β)
            · exact hkc β _ _ _ _ (hk β)
        rw [e] at h0
        obtain ⟨b', h', hb, hE⟩ := pickCon_inv (hkb γ) h0
        have hcond : (⟨T.toArray, []⟩ : Act).eval c = .bool b' := by rw [eval_T, hc, hb]
        refine wp_cond hcond ?_
        cases b' with
        | true =>
          refine wpX_wp (ih w0 x γ n h' M (fun β => .con b true :: A β) T w K Q hk hS (fun β hβ => ?_) hQ)
          have h1 := hg β hβ
          rw [e, hE] at h1
          exact h1
        | false =>
          refine wpX_wp (ih w0 y γ n h' M (fun β => .con b false :: A β) T w K Q hk hS (fun β hβ => ?_) hQ)
          have h1 := hg β hβ
          rw [e, hE] at h1
          exact h1
      | _ =>
        unfold stepC at h0
        simp only [hc] at h0
        exact absurd h0 not_good
    | block id x =>
      cases hq : E.hole id x T M with
      | some H =>
        have e : ∀ β, stepC E .check β (evC E .check β f) (.block id x) T ⟨n, h, M, A β⟩ (K β) = _ := fun β => stepC_hole (s := ⟨n, h, M, A β⟩) hq
        cases hn : Nat.beq T.n H.n with
        | false =>
          have h0 := hg γ .refl
          rw [e, hn] at h0
          exact absurd h0 not_good
        | true =>
          have hg1 : ∀ β, Ag n β γ → good (pickPs .check H.pre ⟨n, h, M, needE T H.need (.eqv (encM M) (encM H.rows) :: .cod (.block id x) H.code :: A β)⟩ (kHole H β T (K β))) := fun β hβ => by
            have h1 := hg β hβ
            rw [e, hn] at h1
            exact h1
          have hk1 : ∀ β, ∀ s, Kp s.acc (kHole H β T (K β) s) := fun β => kHole_kp (hk β)
          have hall : ∀ y ∈ needE T H.need (.eqv (encM M) (encM H.rows) :: .cod (.block id x) H.code :: A γ), y.l = y.r := by
            obtain ⟨l, hl, hgl⟩ := hg1 γ .refl
            exact pickPs_kp (hk1 γ) _ ⟨n, h, M, _⟩ l hl hgl
          have hcode : Code.block id x = H.code := by
            have := hall _ (needE_sub T _ _ (List.mem_cons_of_mem _ (List.mem_cons_self ..)))
            simpa [It.l, It.r] using this
          have hrows : M = H.rows := by
            have := hall _ (needE_sub T _ _ (List.mem_cons_self ..))
            exact encM_inj (by simpa [It.l, It.r] using this)
          have hneed : ∀ p ∈ H.need, tget T p.1 = p.2 := fun p hp => by
            have := hall _ (needE_mem T _ _ p hp)
            simpa [It.l, It.r] using this
          obtain ⟨hpre, h2, hE⟩ := pickPs_inv (hk1 γ) _ _ (hg1 γ .refl)
          obtain ⟨B, hB⟩ : ∃ B : (Nat → Fr) → List It, ∀ β k', pickPs .check H.pre ⟨n, h, M, needE T H.need (.eqv (encM M) (encM H.rows) :: .cod (.block id x) H.code :: A β)⟩ k' = k' ⟨n, h2, M, B β⟩ :=
            ⟨fun β => Classical.choose (hE (needE T H.need (.eqv (encM M) (encM H.rows) :: .cod (.block id x) H.code :: A β))), fun β => (Classical.choose_spec (hE (needE T H.need (.eqv (encM M) (encM H.rows) :: .cod (.block id x) H.code :: A β)))).2⟩
          have hg2 : ∀ β, Ag n β γ → good (kHole H β T (K β) ⟨n, h2, M, B β⟩) := fun β hβ => by
            have := hg1 β hβ
            rw [hB] at this
            exact this
          have hkc : ∀ β, ∀ (b : Bool) (s : Sg), Kp s.acc (K β (H.post b (β s.n).x).1 (putsL (H.post b (β s.n).x).2.1 T) ⟨s.n + 1, s.h, (H.post b (β s.n).x).2.2, s.acc⟩) := fun β b s => hk β _ _ ⟨s.n + 1, s.h, _, s.acc⟩
          obtain ⟨b, h3, hb, hE3⟩ := pickCon_inv (hkc γ) (hg2 γ .refl)
          rw [hcode]
          refine wpX_of (fun _ h => by rw [← hcode] at h; cases h) (hh id x T M H hq (Nat.eq_of_beq_eq_true hn) hneed hrows hpre w0 w Q hS fun ξ w' hS' => ?_)
          refine hQ _ _ _ ⟨upN γ n ⟨0, ξ, []⟩, n + 1, h3, _, fun β => .con H.test b :: B β, hS', Nat.le_succ n, upN_ag _ _ _, fun β hβ => ?_⟩
          have hβ' := (hβ.le (Nat.le_succ n)).trans (upN_ag γ n ⟨0, ξ, []⟩)
          have hx : (β n).x = ξ := by rw [hβ n (Nat.lt_succ_self n), upN_at]
          have h4 := hg2 β hβ'
          unfold kHole at h4
          rw [hE3] at h4
          simp only [hx, ← hb] at h4
          rw [← hb]
          exact h4
      | none =>
      have en : ∀ β, stepC E .check β (evC E .check β f) (.block id x) T ⟨n, h, M, A β⟩ (K β) = evC E .check β f x T ⟨n, h, M, A β⟩ (kBlk id (K β)) := fun β => by
        unfold stepC
        simp only [hq]
        rfl
      refine wpX_of (fun _ h => by cases h) (wp_block (wpX_wp (ih w0 x γ n h M A T w (fun β => kBlk id (K β)) _ (fun β => kBlk_kp (hk β)) hS (fun β hβ => ?_) fun e T' w' hon => ?_)))
      · have h1 := hg β hβ
        rw [en] at h1
        exact h1
      · cases e with
        | exit j =>
          show if j = id then Q .normal _ _ else Q (.exit j) _ _
          split
          · rename_i hj
            refine hQ _ _ _ (hon.map fun β s => ?_)
            show (match Nat.beq j id with | true => K β .normal T' s | false => K β (.exit j) T' s) = _
            rw [show Nat.beq j id = true by rw [hj]; exact Nat.beq_refl _]
          · rename_i hj
            refine hQ _ _ _ (hon.map fun β s => ?_)
            show (match Nat.beq j id with | true => K β .normal T' s | false => K β (.exit j) T' s) = _
            rw [show Nat.beq j id = false by
              cases hq : Nat.beq j id with
              | false => rfl
              | true => exact absurd (Nat.eq_of_beq_eq_true hq) hj]
        | _ => exact hQ _ _ _ (hon.map fun _ _ => rfl)
    | loop x =>
      refine loop_round (wpX_wp (ih w0 x γ n h M A T w (fun β => kSeq (evC E .check β f) (.loop x) (K β)) _ (fun β => kSeq_kp (hkc β) (hk β)) hS (fun β hβ => ?_) fun e T' w' hon => ?_))
      · have h1 := hg β hβ
        exact h1
      · cases e with
        | normal =>
          obtain ⟨γ', n', h', M', A', hS', hle, hag, hgd⟩ := hon
          exact ih w0 (.loop x) γ' n' h' M' A' T' w' K Q hk hS' hgd fun e T'' w'' hon => hQ e T'' w'' (hon.le hle hag)
        | _ => exact hQ _ _ _ (hon.map fun _ _ => rfl)
    | exit id => exact wpX_of (fun _ h => by cases h) (wp_exit (here _ _ hg))
    | ret => exact wpX_of (fun _ h => by cases h) (wp_ret (here _ _ hg))
    | _ => exact absurd (hg γ .refl) not_good
/-! ### the end -/
theorem follows_mixed : (Try.prog).follows .mixedOrders = true := by kernel_rfl
theorem map_all : ∀ {l : List It}, l.map It.l = l.map It.r → ∀ x ∈ l, x.l = x.r := by
  intro l
  induction l with
  | nil => exact fun _ x hx => by cases hx
  | cons a l ih =>
    intro h x hx
    simp only [List.map_cons, List.cons.injEq] at h
    rcases List.mem_cons.1 hx with rfl | hx
    · exact h.1
    · exact ih h.2 x hx
theorem good_of {o : Out} (h : lhsO o = rhsO o) : good o := by
  unfold lhsO rhsO at h
  cases o with
  | ok l => exact ⟨l, rfl, map_all h⟩
  | error n => simp at h
/-- a function returns v, if a run by computing says so whatever the blocks are -/
theorem ev_calls {E : Env} (hP : E.P = Try.prog) (hs : SumOk E) (hh : HolesOk E) (ho : OphOk E) {fuel : Nat} {f : FuncId} {args : List Value} {v : Value} {hints : List It} (h : ∀ β : Nat → Fr, good (evF E .check β fuel f args ⟨0, hints, [], []⟩ fun r s => .ok (.eqv r v :: s.acc))) (w : World) :
    Calls Try.prog f args.toArray w fun e w' => e = .returned v ∧ Gr w w' := by
  have hk : ∀ _ : Nat → Fr, KeepK (fun (r : Value) (s : Sg) => (.ok (.eqv r v :: s.acc) : Out)) := fun _ r s l hl hg x hx => by cases hl; exact hg x (List.mem_cons_of_mem _ hx)
  have h1 := runE_ok (E := E) hP (evC_ok hP hs hh ho follows_mixed fuel) w w f args noB 0 hints [] (fun _ => []) (fun _ r s => .ok (.eqv r v :: s.acc)) hk ⟨St.start w, fun r hr => by cases hr⟩ (fun β _ => h β)
  refine h1.mono fun e w' ⟨r, he, γ', n', h', M', A', hS', _, _, hgd⟩ => ?_
  have h2 := good_ok.1 (hgd γ' .refl) _ (List.mem_cons_self ..)
  simp only [It.l, It.r, Lv.v.injEq] at h2
  exact ⟨h2 ▸ he, hS'.gr⟩
theorem ev_top {E : Env} (hP : E.P = Try.prog) (hs : SumOk E) {fuel : Nat} {f : FuncId} {args : List Value} {v : Value} (h : ∀ β : Nat → Fr, lhsO (evTop E fuel f args v β) = rhsO (evTop E fuel f args v β)) (w : World) (hh : HolesOk E := by exact no_holes rfl) (ho : OphOk E := by exact no_oph rfl rfl) :
    Calls Try.prog f args.toArray w fun e w' => e = .returned v ∧ Gr w w' := by
  cases hq : evF E .find noB fuel f args ⟨0, [], [], []⟩ fun _ s => .ok s.acc with
  | error e =>
    have := h noB
    unfold evTop at this
    rw [hq] at this
    simp [lhsO, rhsO] at this
  | ok l =>
    refine ev_calls hP hs hh ho (fuel := fuel) (hints := l.reverse) (fun β => ?_) w
    have := good_of (h β)
    unfold evTop at this
    rw [hq] at this
    exact this
theorem tag_all {D : List (Bool × Bool)} (hD : ∀ p ∈ D, p.1 = p.2) : ∀ {l : List It} {ts : List Nat}, tagL D l ts = tagR D l ts → ∀ x ∈ l, x.l = x.r := by
  intro l
  induction l with
  | nil => exact fun _ x hx => by cases hx
  | cons a l ih =>
    intro ts h x hx
    have step : ∀ {x : It} {ts' : List Nat}, x ∈ a :: l → a.l = a.r → tagL D l ts' = tagR D l ts' → x.l = x.r := fun hx h1 h2 => by
      rcases List.mem_cons.1 hx with rfl | hx
      · exact h1
      · exact ih h2 _ hx
    cases a with
    | con c b =>
      cases ts with
      | nil =>
        simp only [tagL, tagR, List.cons.injEq] at h
        exact step hx h.1 h.2
      | cons t ts =>
        cases t with
        | zero =>
          simp only [tagL, tagR, List.cons.injEq] at h
          exact step hx h.1 h.2
        | succ k =>
          simp only [tagL, tagR] at h
          cases hk : D[k]? with
          | none =>
            rw [hk] at h
            simp at h
          | some p =>
            obtain ⟨u, v⟩ := p
            rw [hk] at h
            simp only [List.cons.injEq, Lv.v.injEq, Value.bool.injEq] at h
            obtain ⟨h1, h2, h3⟩ := h
            have h4 := hD _ (List.mem_of_getElem? hk)
            exact step hx (by simp only [It.l, It.r, h1, h2]; exact congrArg (fun b => Lv.v (.bool b)) h4) h3
    | _ =>
      simp only [tagL, tagR, List.cons.injEq] at h
      exact step hx h.1 h.2
theorem good_tag {D : List (Bool × Bool)} (hD : ∀ p ∈ D, p.1 = p.2) (ts : List Nat) {o : Out} (h : tagOL D ts o = tagOR D ts o) : good o := by
  unfold tagOL tagOR at h
  cases o with
  | ok l => exact ⟨l, rfl, tag_all hD h⟩
  | error n => simp at h
/-- the same along one way, whose tests are facts -/
theorem ev_path {E E' : Env} (hP : E.P = Try.prog) (hs : SumOk E) {fuel : Nat} {f : FuncId} {args args' : List Value} {v : Value} (D : List (Bool × Bool)) (ts : List Nat) (hD : ∀ p ∈ D, p.1 = p.2)
    (h : ∀ β : Nat → Fr, tagOL D ts (evPath E E' fuel f args args' v β) = tagOR D ts (evPath E E' fuel f args args' v β)) (w : World) (hh : HolesOk E := by exact no_holes rfl) (ho : OphOk E := by exact no_oph rfl rfl) :
    Calls Try.prog f args.toArray w fun e w' => e = .returned v ∧ Gr w w' :=
  ev_calls hP hs hh ho (fuel := fuel) (fun β => good_tag hD ts (h β)) w
/-! ### code by itself -/
def okE : Exit → Bool
  | .normal => true
  | .exit _ => true
  | .ret => true
  | _ => false
theorem encE_inj {e e' : Exit} (h : encE e = encE e') (ho : okE e' = true) : e = e' := by
  cases e' <;> cases e <;> simp_all [encE, okE, undef] <;> omega
theorem SG.drop {w0 w : World} {M : List Rw} (h : SG w0 M w) : ∀ k, SG w0 (M.drop k) w := by
  intro k
  induction k generalizing M with
  | zero => exact h
  | succ k ih => cases M with
    | nil => exact h
    | cons r M => exact ih ⟨by
        have h1 := h.1
        unfold ents at *
        rw [List.filter_cons] at h1
        split at h1
        · exact h1.tail
        · exact h1, fun r hr => h.2 r (List.mem_cons_of_mem _ hr)⟩
theorem ev_code {E E' : Env} (hP : E.P = Try.prog) (hs : SumOk E) {fuel : Nat} {c : Code} {vals vals' : List Value} {M M' : List Rw} {ex : Exit} {keep : List (Nat × Value)} {M1 : List Rw} (hex : okE ex = true) (D : List (Bool × Bool)) (ts : List Nat) (hD : ∀ p ∈ D, p.1 = p.2)
    (h : ∀ β : Nat → Fr, tagOL D ts (evCode E E' fuel c vals vals' M M' ex keep M1 β) = tagOR D ts (evCode E E' fuel c vals vals' M M' ex keep M1 β)) {w0 w : World} (hS : SG w0 M w) {Q : Exit → Act → World → Prop}
    (hQ : ∀ (T' : Tm) w', T'.n = vals.length → (∀ p ∈ keep, tget T' p.1 = p.2) → SG w0 M1 w' → Q ex ⟨T'.toArray, []⟩ w') (hh : HolesOk E := by exact no_holes rfl) (ho : OphOk E := by exact no_oph rfl rfl) : wpX Try.prog c Q ⟨vals.toArray, []⟩ w := by
  have h0 := good_tag hD ts (h noB)
  unfold evCode evCodeM at h0
  split at h0
  · exact absurd h0 not_good
  · rename_i hl hd
    obtain ⟨T0, hT1, hT2⟩ := fill_T vals vals.length hl
    have hT3 : T0.toArray = vals.toArray := by rw [hT2]; simp
    rw [← hT3]
    have hk : ∀ _ : Nat → Fr, KeepC (fun e T s => (.ok (needE T keep (.eqv (encE e) (encE ex) :: .eqv (encM (s.M.drop (s.M.length - M1.length))) (encM M1) :: .eqv (.int .u64 T.n) (.int .u64 vals.length) :: s.acc)) : Out)) := fun _ e T s l hl hg x hx => by
      cases hl
      exact hg x (needE_sub _ _ _ (List.mem_cons_of_mem _ (List.mem_cons_of_mem _ (List.mem_cons_of_mem _ hx))))
    refine evC_ok hP hs hh ho follows_mixed fuel w0 c noB 0 (evCodeHints E E' fuel c vals vals' M M') M (fun _ => []) T0 w _ Q hk hS (fun β _ => ?_) fun e T' w' ⟨γ', n', h', M2, A', hS', _, _, hgd⟩ => ?_
    · have h1 := good_tag hD ts (h β)
      unfold evCode evCodeM at h1
      simp only [hd, hT1] at h1
      exact h1
    · have h2 := good_ok.1 (hgd γ' .refl)
      have e1 := h2 _ (needE_sub _ _ _ (List.mem_cons_self ..))
      have e2 := h2 _ (needE_sub _ _ _ (List.mem_cons_of_mem _ (List.mem_cons_self ..)))
      have e3 := h2 _ (needE_sub _ _ _ (List.mem_cons_of_mem _ (List.mem_cons_of_mem _ (List.mem_cons_self ..))))
      simp only [It.l, It.r, Lv.v.injEq] at e1 e2 e3
      obtain rfl := encE_inj e1 hex
      simp only [Value.int.injEq, true_and] at e3
      refine hQ T' w' (by omega) (fun p hp => ?_) (encM_inj e2 ▸ hS'.drop _)
      have := h2 _ (needE_mem T' _ _ p hp)
      simpa [It.l, It.r] using this
theorem assoc_mem : ∀ {l : List (Nat × Value)} {i : Nat} {v : Value}, assocN l i = some v → (i, v) ∈ l := by
  intro l
  induction l with
  | nil => intro i v h; cases h
  | cons p l ih =>
    obtain ⟨j, u⟩ := p
    intro i v h
    unfold assocN at h
    split at h
    · rename_i hb
      obtain rfl := Nat.eq_of_beq_eq_true hb
      cases h
      exact List.mem_cons_self ..
    · exact List.mem_cons_of_mem _ (ih h)
theorem vals_eq {T : Tm} {n : Nat} (hn : T.n = n) {need : List (Nat × Value)} (h : ∀ p ∈ need, tget T p.1 = p.2) : T.toArray = (valsOf need (tget T) n).toArray := by
  subst hn
  unfold Tm.toArray valsOf
  congr 1
  refine List.map_congr_left fun i hi => ?_
  have hb : Nat.blt i T.n = true := (blt_iff _ _).2 (List.mem_range.1 hi)
  have e : tget T i = getR T.t i := by unfold tget; rw [hb]
  split
  · rename_i v hv
    exact e.symm.trans (h _ (assoc_mem hv))
  · exact e.symm
theorem tget_size {T : Tm} {i : Nat} (h : ¬ i < T.n) : tget T i = undef := by
  have hb : Nat.blt i T.n = false := by
    cases hq : Nat.blt i T.n with
    | false => rfl
    | true => exact absurd ((blt_iff _ _).1 hq) h
  unfold tget
  rw [hb]
theorem T_ext {T T' : Tm} (hn : T.n = T'.n) (h : ∀ i, i < T.n → tget T i = tget T' i) : T.toArray = T'.toArray := by
  unfold Tm.toArray
  rw [← hn]
  congr 1
  refine List.map_congr_left fun i hi => ?_
  have hi := List.mem_range.1 hi
  have hb : Nat.blt i T.n = true := (blt_iff _ _).2 hi
  have := h i hi
  unfold tget at this
  rw [← hn, hb] at this
  exact this
theorem size_n (T : Tm) : T.toArray.size = T.n := by simp [Tm.toArray]
theorem puts_get (g : Nat → Value) : ∀ (l : List Nat) (T : Tm), (putsL (l.map fun i => (i, g i)) T).n = T.n ∧ ∀ i, i < T.n → tget (putsL (l.map fun i => (i, g i)) T) i = if memN l i then g i else tget T i := by
  intro l
  induction l with
  | nil => exact fun T => ⟨rfl, fun i _ => by simp [memN, putsL]⟩
  | cons j l ih =>
    intro T
    have h2 := (Classical.choose_spec (tput_ex T j (g j))).2
    have hn : (Classical.choose (tput_ex T j (g j))).n = T.n := by rw [← size_n, h2]; simp [size_n]
    obtain ⟨h3, h4⟩ := ih (Classical.choose (tput_ex T j (g j)))
    refine ⟨h3.trans hn, fun i hi => ?_⟩
    have h5 := h4 i (by rw [hn]; exact hi)
    show tget (putsL (l.map fun i => (i, g i)) (Classical.choose (tput_ex T j (g j)))) i = _
    rw [h5, tget_eq, h2]
    have hm : memN (j :: l) i = (match Nat.beq j i with | true => true | false => memN l i) := rfl
    rw [hm]
    by_cases hji : j = i
    · subst hji
      rw [Nat.beq_refl]
      have hs : j < T.toArray.size := by rw [size_n]; exact hi
      have : (T.toArray.setIfInBounds j (g j)).getD j undef = g j := by simp [Array.getD, hs]
      rw [this]
      simp
    · have hb : Nat.beq j i = false := by
        cases hq : Nat.beq j i with
        | false => rfl
        | true => exact absurd (Nat.eq_of_beq_eq_true hq) hji
      rw [hb]
      have : (T.toArray.setIfInBounds j (g j)).getD i undef = tget T i := by
        rw [tget_eq]
        simp [Array.getD_eq_getD_getElem?, Array.getElem?_setIfInBounds, hji]
      rw [this]
theorem keep_mem {need : List (Nat × Value)} {g : Nat → Value} {n : Nat} {hav : List Nat} {i : Nat} (hi : i < n) (h : memN hav i = false) : (i, match assocN need i with | some v => v | none => g i) ∈ keepOf need g n hav :=
  List.mem_map.2 ⟨i, List.mem_filter.2 ⟨List.mem_range.2 hi, by rw [h]; rfl⟩, rfl⟩
/-- a run of code that leaves all slots but some as they were, is a hole's -/
theorem hole_T {T T' : Tm} {n : Nat} (hn : T.n = n) (hn' : T'.n = n) {need : List (Nat × Value)} (h : ∀ p ∈ need, tget T p.1 = p.2) {hav : List Nat} (hk : ∀ p ∈ keepOf need (tget T) n hav, tget T' p.1 = p.2) :
    T'.toArray = (putsL (hav.map fun i => (i, tget T' i)) T).toArray := by
  obtain ⟨h1, h2⟩ := puts_get (tget T') hav T
  refine T_ext (by omega) fun i hi => ?_
  rw [h2 i (by omega)]
  cases hm : memN hav i with
  | true => simp
  | false =>
    have := hk _ (keep_mem (need := need) (g := tget T) (n := n) (by omega) hm)
    simp only at this
    rw [this]
    simp only [Bool.false_eq_true, if_false]
    split
    · rename_i v hv
      exact (h _ (assoc_mem hv)).symm
    · rfl
/-- no known answers -/
noncomputable def bare : Env := { P := Try.prog, known := [], sum := fun _ _ => none }
theorem bare_ok : SumOk bare := fun _ _ _ _ h => by cases h
/-- two vectors compared, as a run computes it -/
def eq16 (x y : Nat → Int) : Bool :=
  and (x 0 == y 0) (and (x 1 == y 1) (and (x 2 == y 2) (and (x 3 == y 3) (and (x 4 == y 4) (and (x 5 == y 5) (and (x 6 == y 6) (and (x 7 == y 7) (and (x 8 == y 8) (and (x 9 == y 9) (and (x 10 == y 10) (and (x 11 == y 11) (and (x 12 == y 12) (and (x 13 == y 13) (and (x 14 == y 14) (and (x 15 == y 15) true)))))))))))))))
theorem eq16_of {x y : Nat → Int} (h : ∀ m, m < 16 → x m = y m) : eq16 x y = true := by
  unfold eq16
  simp [h 0 (by decide), h 1 (by decide), h 2 (by decide), h 3 (by decide), h 4 (by decide), h 5 (by decide), h 6 (by decide), h 7 (by decide), h 8 (by decide), h 9 (by decide), h 10 (by decide), h 11 (by decide), h 12 (by decide), h 13 (by decide), h 14 (by decide), h 15 (by decide)]
end Ev
end Go.Proofs.Ythpnhanabcipmaa
