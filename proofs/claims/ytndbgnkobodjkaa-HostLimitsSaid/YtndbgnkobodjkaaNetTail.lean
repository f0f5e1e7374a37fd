/-
  Regions that draw their order, whose first n operations hand on addresses and whose others come behind them in a chain: the first n by their words, whatever their order, then the chain as it stands. Of no program.
-/
import Derived.Test.YtndbgnkobodjkaaNet
namespace Go.Proofs.Ytndbgnkobodjkaa
open Go.RowKit
section
variable {P : Program} {ops : Array Oper} {md : Region.Mode} {w0 : World}
def headDone (m n : Nat) : Array Bool := Array.ofFn (n := m) fun i => decide (i.val < n)
def netTailB (md : Region.Mode) (ops : Array Oper) (n s : Nat) : Bool :=
  netB md ops s && decide (n < ops.size) && Region.sinkB md ops n && Region.chainB md ops n && Region.seqB md ops (ops.size - n) n (headDone ops.size n) && (List.range n).all fun k => match (ops[k]?).bind (·.guard) with | some (g, _) => decide (g < n) | none => true
def unlh (n : Nat) (listed : Array Bool) : Nat := (List.range n).countP fun k => !listed.getD k true
theorem least_of {p : Nat → Prop} [DecidablePred p] : ∀ n, (∃ k, k < n ∧ p k) → ∃ k, k < n ∧ p k ∧ ∀ j, j < k → ¬ p j := by
  intro n ⟨k, hk, hp⟩
  induction k using Nat.strongRecOn with
  | _ k ih =>
    by_cases h : ∃ j, j < k ∧ p j
    · obtain ⟨j, hj, hpj⟩ := h
      exact ih j hj (by omega) hpj
    · exact ⟨k, hk, hp, fun j hj hpj => h ⟨j, hj, hpj⟩⟩
theorem wanted_head {opsh : Array Oper} {n : Nat} {o : Oper} (hh : ∀ j, j < n → opsh[j]? = ops[j]?) (hg : ∀ g b, o.guard = some (g, b) → g < n) (t : Array Value) : Region.wanted o (yielded opsh t) = Region.wanted o (yielded ops t) := by
  unfold Region.wanted
  cases ho : o.guard with
  | none => rfl
  | some gb =>
    obtain ⟨g, b⟩ := gb
    have : yielded opsh t g = yielded ops t g := by unfold yielded; rw [hh g (hg g b ho)]
    simp only [this]
theorem net_tail {opsh : Array Oper} {n : Nat} (hh : ∀ j, j < n → opsh[j]? = ops[j]?) (hh' : ∀ j oj, opsh[j]? = some oj → j < n) {a0 : Act} {Φ : Nat → Value → World → Prop} {Q : Exit → Act → World → Prop} (hB : netTailB md ops n a0.tmps.size = true) (hmono : ∀ k v w w', Gr w w' → Φ k v w → Φ k v w')
    (hstep : ∀ (k : Nat) (o : Oper), k < n → ops[k]? = some o → NetStep P md opsh w0 a0 Φ k o)
    (hQ : ∀ (a : Act) (w : World), Gr w0 w → a.defers = a0.defers → a.tmps.size = a0.tmps.size → (∀ d, (∀ (k : Nat) (o : Oper), k < n → ops[k]? = some o → o.dst ≠ some d) → a.tmps[d]? = a0.tmps[d]?) → (∀ (k : Nat) (o : Oper) (d : Tmp), k < n → ops[k]? = some o → o.dst = some d → Φ k (a.eval (.tmp d)) w) → wpList P ops Q (ops.toList.drop n) a w) :
    ∀ (f : Nat) (listed : Array Bool) (a : Act) (w : World), HeadInv md ops n listed → unlh n listed = f → NetInv ops w0 a0 Φ listed a w → wpAny P md ops Q (f + (ops.size - n)) listed a w := by
  simp only [netTailB, Bool.and_eq_true, decide_eq_true_eq] at hB
  obtain ⟨⟨⟨⟨⟨hNB, hn⟩, hs⟩, hc⟩, hseq⟩, hgd⟩ := hB
  have hguard : ∀ k o, k < n → ops[k]? = some o → ∀ g b, o.guard = some (g, b) → g < n := fun k o hk ho g b hg => by
    have := List.all_eq_true.1 hgd k (List.mem_range.2 hk)
    rw [ho] at this
    simpa [hg] using this
  obtain ⟨hd, hafter⟩ := netB_spec hNB
  have lst : ∀ (listed : Array Bool), HeadInv md ops n listed → ∀ k, listed.getD k false = true → k < n := fun listed hi k hk => by
    rcases Nat.lt_or_ge k n with h | h
    · exact h
    · exfalso
      have hks : k < ops.size := by
        rw [← hi.size]
        rcases Nat.lt_or_ge k listed.size with h' | h'
        · exact h'
        · simp [Array.getElem?_eq_none h'] at hk
      have := getD_both (hi.tail k h hks)
      rw [this] at hk; cases hk
  intro f
  induction f with
  | zero =>
    intro listed a w hi hu inv
    have hall : ∀ k, k < n → listed.getD k true = true := fun k hk => by
      have h0 : (List.range n).countP (fun k => !listed.getD k true) = 0 := hu
      have := List.countP_eq_zero.1 h0 k (List.mem_range.2 hk)
      simpa using this
    have hall' : ∀ k, k < n → listed.getD k false = true := fun k hk => by
      have h1 := hall k hk
      have hlt : k < listed.size := by rw [hi.size]; omega
      simpa [hlt] using h1
    have he : listed = headDone ops.size n := by
      apply Array.ext
      · simp [headDone, hi.size]
      · intro k h1 h2
        by_cases hk : k < n
        · have := hall k hk
          simp only [Array.getD_eq_getD_getElem?, Array.getElem?_eq_getElem h1, Option.getD_some] at this
          rw [this]; simp [headDone, hk]
        · have := hi.tail k (by omega) (by rw [← hi.size]; exact h1)
          simp only [Array.getD_eq_getD_getElem?, Array.getElem?_eq_getElem h1, Option.getD_some] at this
          rw [this]; simp [headDone, hk]
    have hlen : (ops.toList.drop n).length = ops.size - n := by simp
    have := wpAny_of_seq (md := md) (Q' := Q) (P := P) (ops.toList.drop n) n listed a w (fun j => by simp [List.getElem?_drop]) (by rw [hlen, he]; exact hseq)
      (hQ a w inv.gr inv.defers inv.size (fun d hdd => inv.keep d fun k o hk hl => hdd k o (lst listed hi k hl) hk) (fun k o d hkn hk hkd => inv.ok k o d hk (hall' k hkn) hkd))
    rw [hlen] at this
    rw [Nat.zero_add]
    exact this
  | succ f ih =>
    intro listed a w hi hu inv
    have hpos : ∃ k, k < n ∧ listed.getD k true = false := by
      apply Classical.byContradiction
      intro hno
      have h0 : (List.range n).countP (fun k => !listed.getD k true) = 0 := List.countP_eq_zero.2 fun k hk => by
        have hk := List.mem_range.1 hk
        cases hg : listed.getD k true with
        | true => decide
        | false => exact absurd ⟨k, hk, hg⟩ hno
      unfold unlh at hu; omega
    rw [show f + 1 + (ops.size - n) = (f + (ops.size - n)) + 1 by omega]
    refine ⟨fun hr => ?_, fun i hir => ?_⟩
    · exfalso
      obtain ⟨k, hk, hku, hmin⟩ := least_of n hpos
      have : k ∈ Region.ready md ops listed := mem_ready.2 ⟨hku, ops[k]'(by omega), Array.getElem?_eq_getElem (by omega), fun e he hb => by
        have hlt := hafter k _ (Array.getElem?_eq_getElem (by omega)) e he hb
        have h1 := hmin e.on hlt
        have hlt' : e.on < listed.size := by rw [hi.size]; omega
        simp only [Array.getD_eq_getD_getElem?, Array.getElem?_eq_getElem hlt', Option.getD_some] at h1 ⊢
        simpa using h1⟩
      rw [hr] at this; cases this
    · obtain ⟨k0, hk0, hku0⟩ := hpos
      have hin : i < n := by
        rcases Nat.lt_or_ge i n with h | h
        · exact h
        · exact absurd hir (tail_waits hs hc hn hi _ k0 rfl hk0 hku0 i h)
      obtain ⟨hun, o, ho, hall⟩ := mem_ready.1 hir
      have hio := (Array.getElem?_eq_some_iff.1 ho).1
      have hst := hstep i o hin ho a w inv.gr (fun d hdd => inv.keep d fun k ok hk hl => hdd k ok (by rw [hh k (lst listed hi k hl)]; exact hk)) (fun e he hb oj d hj hjd => inv.ok e.on oj d (by rw [← hh e.on (hh' _ _ hj)]; exact hj) (hall e he hb) hjd)
      rw [wanted_head hh (hguard i o hin ho)] at hst
      have hunl : unlh n (listed.setIfInBounds i true) = f := by
        have hp : ∀ l : List Nat, l.Nodup → i ∈ l → l.countP (fun k => !(listed.setIfInBounds i true).getD k true) + 1 = l.countP fun k => !listed.getD k true := by
          intro l
          induction l with
          | nil => intro _ h; cases h
          | cons x l ihl =>
            intro hnd hm
            obtain ⟨hx, hnd⟩ := List.nodup_cons.1 hnd
            have hset : (listed.setIfInBounds i true).getD i true = true := by
              have : i < listed.size := by rw [hi.size]; exact hio
              simp [this]
            by_cases hxi : x = i
            · subst hxi
              have hsame : ∀ l' : List Nat, x ∉ l' → l'.countP (fun k => !(listed.setIfInBounds x true).getD k true) = l'.countP fun k => !listed.getD k true := by
                intro l' hx'
                refine List.countP_congr fun k hk => ?_
                have hkx : x ≠ k := fun e => hx' (e ▸ hk)
                rw [getD_set_ne true hkx]
              rw [List.countP_cons_of_neg (by rw [hset]; decide), List.countP_cons_of_pos (by rw [hun]; rfl), hsame l hx]
            · have hml : i ∈ l := by
                rcases List.mem_cons.1 hm with h | h
                · exact absurd h.symm hxi
                · exact h
              have := ihl hnd hml
              rw [List.countP_cons, List.countP_cons, getD_set_ne true (Ne.symm hxi)]
              omega
        have := hp (List.range n) List.nodup_range (List.mem_range.2 hin)
        unfold unlh at hu ⊢; omega
      have next : ∀ (v : Value) (w' : World), Gr w w' → Φ i v w' → NetInv ops w0 a0 Φ (listed.setIfInBounds i true) (a.put o.dst v) w' := fun v w' hg hv => by
        refine ⟨gr_trans inv.gr hg, ?_, ?_, fun d hdd => ?_, fun k ok d hk hl hkd => ?_⟩
        · rw [← inv.defers]; unfold Act.put; split <;> rfl
        · rw [← inv.size]; unfold Act.put; split
          · exact Array.size_setIfInBounds
          · rfl
        · have h1 := inv.keep d fun k ok hk hlk => hdd k ok hk (getD_set_true hlk)
          rw [← h1]
          cases hod : o.dst with
          | none => rfl
          | some d' =>
            have hli : i < listed.size := by rw [hi.size]; exact hio
            have hne : d' ≠ d := fun e => hdd i o ho (by simp [hli]) (by rw [hod, e])
            simp [Act.put, Array.getElem?_setIfInBounds_ne hne]
        · by_cases hki : k = i
          · subst hki
            have : ok = o := Option.some.inj (hk.symm.trans ho)
            subst this
            rw [hkd, eval_put_same (by rw [inv.size]; exact (hd k ok d ho hkd).1)]
            exact hv
          · rw [getD_set_ne false (Ne.symm hki)] at hl
            have h1 := hmono k _ w w' hg (inv.ok k ok d hk hl hkd)
            cases hod : o.dst with
            | none => exact h1
            | some d' =>
              have hne : d' ≠ d := fun e => hki ((hd i o d ho (by rw [hod, e])).2 k ok hk hkd)
              rw [eval_put_ne hne]; exact h1
      have hi' := hi.set hir hin
      unfold wpOp
      simp only [ho]
      by_cases hw : Region.wanted o (yielded ops a.tmps) = true
      · rw [if_pos hw]
        left
        have hr := hst.1 hw
        unfold Oper.wp
        generalize (execOp a.eval o).run P w = r at *
        cases r with
        | ok nx w' =>
          cases nx <;> simp only [netUpon] at hr <;> simp only [Oper.upon]
          case value u => exact ih _ _ _ hi' hunl (next u w' hr.2 hr.1)
          case skip => exact ih _ _ _ hi' hunl (next undef w' hr.2 hr.1)
          case enter g args => exact hr.mono fun e w'' ⟨u, he, hv, hg⟩ => by subst he; exact ih _ _ _ hi' hunl (next u w'' hg hv)
        | halt x w' => simp only [netUpon] at hr
      · rw [if_neg hw]
        exact ih _ _ _ hi' hunl (next undef w (Gr.refl _) (hst.2 (by simpa using hw)))
/-- **A region that draws: n operations with their words, behind them a chain.** -/
theorem wp_region_net_tail {id : Nat} {Q : Exit → Act → World → Prop} {a : Act} {w : World} {l : List Oper} (n : Nat) (Φ : Nat → Value → World → Prop) (hm : P.follows .mixedOrders = true) (hB : netTailB .any l.toArray n a.tmps.size = true)
    (hmono : ∀ k v w w', Gr w w' → Φ k v w → Φ k v w') (hsteps : netSteps P (l.take n).toArray w.drew a Φ (l.take n) 0)
    (hQ : ∀ (V : Nat → Value) (w' : World), Gr w.drew w' → (∀ (k : Nat) (o : Oper) (d : Tmp), k < n → l[k]? = some o → o.dst = some d → Φ k (V d) w') → wpList P l.toArray Q (l.drop n) (putAll a V (l.take n)) w') : (Code.region id l.toArray true).wp P Q a w := by
  refine wp_region_any hm ?_
  have hn : n < l.length := by
    have h := hB
    simp only [netTailB, Bool.and_eq_true, decide_eq_true_eq] at h
    simpa using h.1.1.1.1.2
  have hu : unlh n (Array.replicate l.toArray.size false) = n := by
    unfold unlh
    have : (List.range n).countP (fun k => !(Array.replicate l.toArray.size false).getD k true) = (List.range n).length := List.countP_eq_length.2 fun k hk => by
      have hk := List.mem_range.1 hk
      have hkl : k < l.length := by omega
      simp [hkl]
    rw [this]; simp
  have H := net_tail (opsh := (l.take n).toArray) (fun j hj => by simp [List.getElem?_take_of_lt hj]) (fun j oj hj => by have := (Array.getElem?_eq_some_iff.1 hj).1; simp at this; omega) (w0 := w.drew) (a0 := a) (Φ := Φ) (Q := Q) (P := P) (n := n) hB hmono (fun k o hkn hk => by
    have := netSteps_spec (l.take n) 0 hsteps k o (by rw [List.getElem?_take_of_lt hkn]; simpa using hk)
    rwa [Nat.zero_add] at this) (fun a' w' hg hdf hsz hkeep hok => ?_) n (Array.replicate l.toArray.size false) a w.drew
    ⟨by simp, fun j oj _ hl => (by rw [getD_replicate_false] at hl; cases hl), fun t _ ht => getD_in (by simpa using ht) (getD_replicate_false _ _)⟩ hu
    ⟨Gr.refl _, rfl, rfl, fun _ _ => rfl, fun k o d _ hl _ => by rw [getD_replicate_false] at hl; cases hl⟩
  · rw [show n + (l.toArray.size - n) = l.toArray.size by simp; omega] at H
    exact H
  have e : a' = putAll a (fun d => a'.eval (.tmp d)) (l.take n) := by
    have h1 : a'.tmps = (putAll a (fun d => a'.eval (.tmp d)) (l.take n)).tmps := by
      apply Array.ext_getElem?
      intro d
      by_cases hd : d < a.tmps.size
      · rw [putAll_get _ d (l.take n) a hd]
        by_cases hany : (l.take n).any (fun o => o.dst == some d) = true
        · rw [if_pos hany]
          have hd' : d < a'.tmps.size := by omega
          simp [Act.eval, hd']
        · rw [if_neg hany]
          refine hkeep d fun k o hkn hk he => hany ?_
          have hk' : (l.take n)[k]? = some o := by rw [List.getElem?_take_of_lt hkn]; simpa using hk
          exact List.any_eq_true.2 ⟨o, List.mem_of_getElem? hk', by simp [he]⟩
      · rw [Array.getElem?_eq_none (by omega), Array.getElem?_eq_none (by rw [putAll_size]; omega)]
    have h2 : a'.defers = (putAll a (fun d => a'.eval (.tmp d)) (l.take n)).defers := by rw [putAll_defers]; exact hdf
    revert h1 h2
    generalize putAll a (fun d => a'.eval (.tmp d)) (l.take n) = b
    intro h1 h2
    cases a'; cases b
    simp at h1 h2
    simp [h1, h2]
  have hfin := hQ (fun d => a'.eval (.tmp d)) w' hg (fun k o d hkn hk hkd => hok k o d hkn (by simpa using hk) hkd)
  rw [← e] at hfin
  simpa using hfin
end
end Go.Proofs.Ytndbgnkobodjkaa
