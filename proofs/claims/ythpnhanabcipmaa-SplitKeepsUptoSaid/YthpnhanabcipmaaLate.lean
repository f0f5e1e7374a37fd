/-
  Regions that draw their order, in which an operation that only moves a value may come later than the text has it (behind a store that doesn't wait for it): it is taken at the text's place all the same; then the first n operations by their words, and behind them a chain. Of no program.
-/
import Derived.Test.YthpnhanabcipmaaNetTail
namespace Go.Proofs.Ythpnhanabcipmaa
open Go.RowKit
section
variable {P : Program} {ops : Array Oper}
/-- an operation that hands on a value, whatever the world -/
def Oper.plainB (o : Oper) : Bool := o.guard.isNone && match o.op with | .move _ | .assign _ | .extract _ _ => true | _ => false
theorem plain_upon {o : Oper} (h : Oper.plainB o = true) (a : Act) {K : Act → World → Prop} {Q : Exit → Act → World → Prop} {w : World} (hw : o.wp P a w K Q ∨ (o.asks P a w ∧ LetsOut Q)) (hQ : ∀ a w, ¬ Q .outgrown a w) :
    ∃ v, (∀ w, (execOp a.eval o).run P w = .ok (.value v) w) ∧ K (a.put o.dst v) w := by
  rcases hw with hw | ⟨_, a', w', hq⟩
  · unfold Oper.plainB at h
    simp only [Bool.and_eq_true] at h
    obtain ⟨_, h⟩ := h
    unfold Oper.wp at hw
    unfold execOp at hw ⊢
    split at h
    · rename_i x ho
      simp only [ho, Sem.run_pure, Oper.upon] at hw ⊢
      exact ⟨_, fun _ => rfl, hw⟩
    · rename_i x ho
      simp only [ho, Sem.run_pure, Oper.upon] at hw ⊢
      exact ⟨_, fun _ => rfl, hw⟩
    · rename_i x i ho
      simp only [ho] at hw ⊢
      generalize a.eval x = t at *
      cases t <;> simp only [Instr.extract] at hw ⊢ <;> first | exact hw.elim | skip
      case tuple vs =>
        cases hv : vs[i]? with
        | none => rw [hv] at hw; exact hw.elim
        | some u => rw [hv] at hw; exact ⟨u, fun _ => rfl, hw⟩
    · cases h
  · exact absurd hq (hQ _ _)
/-- what the text's mode asks more than any order: of plain operations alone, which are ready as soon as what asks for them is; and nobody touches them -/
def lateB (ops : Array Oper) : Bool :=
  Region.noSelect ops && (List.range ops.size).all fun i => match ops[i]? with
    | none => true
    | some oi => oi.after.all fun e => Region.binds .any e || !Region.binds .text e || (decide (e.on < i) && match ops[e.on]? with
        | none => false
        | some oj => Oper.plainB oj && oj.after.all (fun e' => !Region.binds .text e' || (Region.binds .any e' && oi.after.any fun e'' => Region.binds .any e'' && e''.on == e'.on)) &&
            (List.range ops.size).all fun k => k == e.on || oj.after.any (fun e' => Region.binds .any e' && e'.on == k) || (match ops[k]? with
              | some ok => ok.after.any (fun e'' => Region.binds .any e'' && e''.on == e.on) || oj.apart ops ok
              | none => true))
theorem any_text {e : Edge} (h : Region.binds .any e = true) : Region.binds .text e = true := by
  unfold Region.binds at *
  split <;> simp_all
theorem ready_any {listed : Array Bool} {i : Nat} (h : i ∈ Region.ready .text ops listed) : i ∈ Region.ready .any ops listed := by
  rw [mem_ready] at *
  obtain ⟨h0, o, ho, hall⟩ := h
  exact ⟨h0, o, ho, fun e he hb => hall e he (any_text hb)⟩
/-- no panic, no outgrowing: the normal way alone -/
def onlyN (Q : Exit → Act → World → Prop) : Exit → Act → World → Prop := fun e a w => match e with | .normal => Q .normal a w | _ => False
theorem late_any {Q : Exit → Act → World → Prop} (hB : lateB ops = true) : ∀ (f : Nat) (listed : Array Bool) (a : Act) (w : World),
    wpAny P .text ops (onlyN Q) f listed a w → wpAny P .any ops (onlyN Q) f listed a w := by
  simp only [lateB, Bool.and_eq_true] at hB
  obtain ⟨hsel, hB⟩ := hB
  have key : ∀ (i : Nat) (listed : Array Bool), i ∈ Region.ready .any ops listed → i ∈ Region.ready .text ops listed ∨ ∃ j oj, ops[j]? = some oj ∧ Oper.plainB oj = true ∧ j ∈ Region.ready .text ops listed ∧
      ∀ k ok, ops[k]? = some ok → k ≠ j → listed.getD k true = false → (∀ e ∈ ok.after, Region.binds .any e = true → e.on ≠ j) → oj.apart ops ok = true := by
    intro i listed hi
    obtain ⟨h0, oi, hoi, hall⟩ := mem_ready.1 hi
    by_cases ht : i ∈ Region.ready .text ops listed
    · exact .inl ht
    · right
      have hex : ∃ e ∈ oi.after, Region.binds .text e = true ∧ listed.getD e.on false = false := by
        apply Classical.byContradiction
        intro hno
        refine ht (mem_ready.2 ⟨h0, oi, hoi, fun e he hb => ?_⟩)
        cases hl : listed.getD e.on false with
        | true => rfl
        | false => exact absurd ⟨e, he, hb, hl⟩ hno
      obtain ⟨e, he, hb, hl⟩ := hex
      have hna : Region.binds .any e = false := by
        cases hh : Region.binds .any e with
        | false => rfl
        | true => rw [hall e he hh] at hl; cases hl
      have h1 := List.all_eq_true.1 hB i (List.mem_range.2 (Array.getElem?_eq_some_iff.1 hoi).1)
      simp only [hoi] at h1
      have h2 := Array.all_eq_true'.1 h1 e he
      rw [hna, hb] at h2
      simp only [Bool.false_or, Bool.not_true, Bool.and_eq_true, decide_eq_true_eq] at h2
      obtain ⟨_, h2⟩ := h2
      cases hoj : ops[e.on]? with
      | none => rw [hoj] at h2; cases h2
      | some oj =>
        rw [hoj] at h2
        simp only [Bool.and_eq_true] at h2
        obtain ⟨⟨hp, hd⟩, hf⟩ := h2
        have hun : listed.getD e.on true = false := by
          have hlt := (Array.getElem?_eq_some_iff.1 hoj).1
          cases hq : listed[e.on]? with
          | none =>
            have hi' : listed.size ≤ e.on := by
              rcases Nat.lt_or_ge e.on listed.size with h | h
              · rw [Array.getElem?_eq_getElem h] at hq; cases hq
              · exact h
            -- i is listed there as well
            exfalso
            have : listed.getD i true = true := by
              have hi2 : ¬ i < listed.size ∨ i < listed.size := by omega
              rcases hi2 with h | h
              · simp [Array.getElem?_eq_none (by omega : listed.size ≤ i)]
              · have h3 := Array.all_eq_true'.1 h1 e he
                rw [hna, hb] at h3
                simp only [Bool.false_or, Bool.not_true, Bool.and_eq_true, decide_eq_true_eq] at h3
                omega
            rw [this] at h0; cases h0
          | some b =>
            simp only [Array.getD_eq_getD_getElem?, hq, Option.getD_some] at hl ⊢
            exact hl
        refine ⟨e.on, oj, hoj, hp, mem_ready.2 ⟨hun, oj, hoj, fun e' he' hb' => ?_⟩, fun k ok hk hkj hku hno => ?_⟩
        · have h3 := Array.all_eq_true'.1 hd e' he'
          rw [hb'] at h3
          simp only [Bool.not_true, Bool.false_or, Bool.and_eq_true] at h3
          obtain ⟨e'', he'', h4⟩ := Array.any_eq_true'.1 h3.2
          simp only [Bool.and_eq_true, beq_iff_eq] at h4
          rw [← h4.2]
          exact hall e'' he'' h4.1
        · have h3 := List.all_eq_true.1 hf k (List.mem_range.2 (Array.getElem?_eq_some_iff.1 hk).1)
          simp only [hk, Bool.or_eq_true, beq_iff_eq] at h3
          rcases h3 with (h3 | h3) | h3 | h3
          · exact absurd h3 hkj
          · exfalso
            obtain ⟨e', he', h4⟩ := Array.any_eq_true'.1 h3
            simp only [Bool.and_eq_true, beq_iff_eq] at h4
            have h5 := Array.all_eq_true'.1 hd e' he'
            rw [any_text h4.1] at h5
            simp only [Bool.not_true, Bool.false_or, Bool.and_eq_true] at h5
            obtain ⟨e'', he'', h6⟩ := Array.any_eq_true'.1 h5.2
            simp only [Bool.and_eq_true, beq_iff_eq] at h6
            have h7 := hall e'' he'' h6.1
            rw [h6.2, h4.2] at h7
            rw [getD_both hku] at h7
            cases h7
          · obtain ⟨e'', he'', h4⟩ := Array.any_eq_true'.1 h3
            simp only [Bool.and_eq_true, beq_iff_eq] at h4
            exact absurd h4.2 (hno e'' he'' h4.1)
          · exact h3
  intro f
  induction f with
  | zero =>
    intro listed a w ⟨hr, hq⟩
    refine ⟨?_, hq⟩
    cases hra : Region.ready .any ops listed with
    | nil => rfl
    | cons i l =>
      exfalso
      rcases key i listed (by rw [hra]; exact List.mem_cons_self ..) with h | ⟨j, oj, _, _, h, _⟩
      · rw [hr] at h; cases h
      · rw [hr] at h; cases h
  | succ f ih =>
    intro listed a w ⟨hr, hall⟩
    by_cases hlate : ∃ i, i ∈ Region.ready .any ops listed ∧ i ∉ Region.ready .text ops listed
    · obtain ⟨i, hi, hni⟩ := hlate
      rcases key i listed hi with h | ⟨j, oj, hoj, hp, hjr, hfree⟩
      · exact absurd h hni
      · have h1 := hall j hjr
        have hwt : Region.wanted oj (yielded ops a.tmps) = true := by
          unfold Oper.plainB at hp
          simp only [Bool.and_eq_true, Option.isNone_iff_eq_none] at hp
          simp [Region.wanted, hp.1]
        unfold wpOp at h1
        simp only [hoj, hwt, if_true] at h1
        obtain ⟨v, hv, hk⟩ := plain_upon hp a h1 (fun _ _ h => h)
        exact wpAny_first hoj (Region.noSelect_spec hsel) (fun _ _ _ h => h.elim) f listed a w hfree (ready_any hjr) (.inl ⟨hwt, hv⟩) (ih _ _ _ hk)
    · have hsame : ∀ i, i ∈ Region.ready .any ops listed → i ∈ Region.ready .text ops listed := fun i hi => by
        apply Classical.byContradiction
        intro h; exact hlate ⟨i, hi, h⟩
      refine ⟨fun h0 => hr ?_, fun i hi => wpOp_mono (fun a' w' h => ih _ _ _ h) (hall i (hsame i hi))⟩
      cases hrt : Region.ready .text ops listed with
      | nil => rfl
      | cons i l =>
        have : i ∈ Region.ready .any ops listed := ready_any (by rw [hrt]; exact List.mem_cons_self ..)
        rw [h0] at this; cases this
theorem onlyN_le {Q : Exit → Act → World → Prop} {e : Exit} {a : Act} {w : World} (h : onlyN Q e a w) : Q e a w := by
  cases e <;> first | exact h | exact h.elim
end
end Go.Proofs.Ythpnhanabcipmaa
