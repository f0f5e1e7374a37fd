/-
  What a checked run means: the function called returns what it computed, and nothing that was there has changed. Of no program.
-/
import Derived.Test.YthpnhanabcipmaaEv
namespace Go.Proofs.Ythpnhanabcipmaa
open Go.RowKit VecM
namespace Ev
def ents (M : List Rw) : List Ent := (M.filter (·.own)).map fun r => ⟨r.b, r.c.toArray, r.t⟩
/-- the own rows are there, and what was given stands -/
def SG (w0 : World) (M : List Rw) (w : World) : Prop :=
  St w0 (ents M) w ∧ ∀ r ∈ M, r.own = false → ∃ fr, w0.heap[r.b]? = some (.cells r.c.toArray r.t fr)
theorem Has.of_mem {M : List Ent} {e : Ent} (h : e ∈ M) : Has M e.b e.c e.t := by
  induction M with
  | nil => cases h
  | cons x M ih =>
    rcases List.mem_cons.1 h with rfl | h
    · exact .hd
    · exact .tl (ih h)
theorem ents_mem {M : List Rw} {r : Rw} (h : r ∈ M) (ho : r.own = true) : Has (ents M) r.b r.c.toArray r.t :=
  Has.of_mem (e := ⟨r.b, r.c.toArray, r.t⟩) (List.mem_map.2 ⟨r, List.mem_filter.2 ⟨h, ho⟩, rfl⟩)
theorem SG.row {w0 w : World} {M : List Rw} (h : SG w0 M w) {r : Rw} (hr : r ∈ M) : ∃ fr, w.heap[r.b]? = some (.cells r.c.toArray r.t fr) ∧ (r.own = true → fr = (0, 0)) := by
  cases ho : r.own with
  | true => exact ⟨(0, 0), h.1.row (ents_mem hr ho), fun _ => rfl⟩
  | false =>
    obtain ⟨fr, hf⟩ := h.2 r hr ho
    exact ⟨fr, gr_block h.1.gr hf, fun h => by cases h⟩
theorem SG.gr {w0 w : World} {M : List Rw} (h : SG w0 M w) : Gr w0 w := h.1.gr
theorem SG.grow {w0 w w' : World} {M : List Rw} (h : SG w0 M w) (hg : Gr w w') : SG w0 M w' := ⟨h.1.grow hg, h.2⟩
theorem SG.alloc {w0 w : World} {M : List Rw} (h : SG w0 M w) (c : List Value) (t : TypeId) : SG w0 (⟨w.heap.size, c, t, true⟩ :: M) (w.alloc (.cells c.toArray t)) := by
  refine ⟨?_, fun r hr ho => ?_⟩
  · exact h.1.alloc c.toArray t
  · rcases List.mem_cons.1 hr with rfl | hr
    · cases ho
    · exact h.2 r hr ho
theorem SG.thaw {w0 w : World} {M : List Rw} (h : SG w0 M w) : SG w (M.map thaw) w := by
  refine ⟨?_, fun r hr _ => ?_⟩
  · have e : ents (M.map Ev.thaw) = [] := by
      unfold ents
      rw [List.map_eq_nil_iff, List.filter_eq_nil_iff]
      intro r hr
      obtain ⟨q, _, rfl⟩ := List.mem_map.1 hr
      simp [Ev.thaw]
    rw [e]
    exact St.start w
  · obtain ⟨q, hq, rfl⟩ := List.mem_map.1 hr
    obtain ⟨fr, hf, _⟩ := h.row hq
    exact ⟨fr, hf⟩
/-! ### lists -/
theorem nth_eq (l : List Value) (n : Nat) : nth l n = l.getD n undef := by
  induction l generalizing n with
  | nil => rfl
  | cons x l ih =>
    cases n with
    | zero => rfl
    | succ n => exact ih n
theorem nth?_eq (l : List Value) (n : Nat) : nth? l n = l[n]? := by
  induction l generalizing n with
  | nil => rfl
  | cons x l ih =>
    cases n with
    | zero => rfl
    | succ n => exact ih n
/-! ### slots -/
theorem getR_set : ∀ (f : Nat) (t : Tr) (i : Nat) (v : Value), i + 1 < 2 ^ f → ∃ t', (∀ k, setR f t i v k = k t') ∧ ∀ j, getR t' j = if j = i then v else getR t j := by
  intro f
  induction f with
  | zero => intro t i v h; simp at h
  | succ f ih =>
    intro t i v h
    have hp : (2 : Nat) ^ (f + 1) = 2 * 2 ^ f := by rw [Nat.pow_succ]; omega
    have ge : ∀ (x : Value) (l r : Tr) (m : Nat), getR (.n x l r) (m + 1) = if m % 2 = 0 then getR l (m / 2) else getR r (m / 2) := fun x l r m => by
      show Nat.rec (motive := fun _ => Value) (getR l (Nat.div m 2)) (fun _ _ => getR r (Nat.div m 2)) (Nat.mod m 2) = _
      have e : Nat.mod m 2 = m % 2 := rfl
      have e2 : Nat.div m 2 = m / 2 := rfl
      rw [e, e2]
      rcases Nat.mod_two_eq_zero_or_one m with h | h <;> rw [h] <;> rfl
    have g0 : ∀ (x : Value) (l r : Tr), getR (.n x l r) 0 = x := fun _ _ _ => rfl
    have key : ∀ (x : Value) (l r : Tr), (∀ j, getR t j = getR (.n x l r) j) → (∀ k, setR (f + 1) t i v k = Nat.rec (motive := fun _ => Out) (k (.n v l r)) (fun m _ => Nat.rec (motive := fun _ => Out) (setR f l (Nat.div m 2) v fun l => k (.n x l r)) (fun _ _ => setR f r (Nat.div m 2) v fun r => k (.n x l r)) (Nat.mod m 2)) i) →
        ∃ t', (∀ k, setR (f + 1) t i v k = k t') ∧ ∀ j, getR t' j = if j = i then v else getR t j := fun x l r hg hs => by
      cases i with
      | zero =>
        refine ⟨.n v l r, fun k => hs k, fun j => ?_⟩
        cases j with
        | zero => rfl
        | succ j => rw [if_neg (by omega), hg, ge, ge]
      | succ m =>
        have hm : m / 2 + 1 < 2 ^ f := by omega
        rcases Nat.mod_two_eq_zero_or_one m with h0 | h0
        · obtain ⟨l', h1, h2⟩ := ih l (m / 2) v hm
          refine ⟨.n x l' r, fun k => ?_, fun j => ?_⟩
          · rw [hs]
            show Nat.rec (motive := fun _ => Out) (setR f l (m / 2) v fun l => k (.n x l r)) (fun _ _ => setR f r (m / 2) v fun r => k (.n x l r)) (m % 2) = _
            rw [h0]
            exact h1 _
          · rw [hg]
            cases j with
            | zero => rw [if_neg (by omega), g0, g0]
            | succ j =>
              rw [ge, ge, h2]
              by_cases hj : j = m
              · subst hj; simp [h0]
              · rw [if_neg (show ¬ j + 1 = m + 1 by omega)]
                split
                · rw [if_neg (by omega)]
                · rfl
        · obtain ⟨r', h1, h2⟩ := ih r (m / 2) v hm
          refine ⟨.n x l r', fun k => ?_, fun j => ?_⟩
          · rw [hs]
            show Nat.rec (motive := fun _ => Out) (setR f l (m / 2) v fun l => k (.n x l r)) (fun _ _ => setR f r (m / 2) v fun r => k (.n x l r)) (m % 2) = _
            rw [h0]
            exact h1 _
          · rw [hg]
            cases j with
            | zero => rw [if_neg (by omega), g0, g0]
            | succ j =>
              rw [ge, ge, h2]
              by_cases hj : j = m
              · subst hj; simp [h0]
              · rw [if_neg (show ¬ j + 1 = m + 1 by omega)]
                split
                · rfl
                · rw [if_neg (by omega)]
    cases t with
    | e =>
      refine key undef .e .e (fun j => ?_) (fun k => rfl)
      cases j with
      | zero => rfl
      | succ j => rw [ge]; split <;> rfl
    | n x l r => exact key x l r (fun _ => rfl) (fun k => rfl)
noncomputable def Tm.toArray (T : Tm) : Array Value := ((List.range T.n).map (getR T.t)).toArray
theorem blt_iff (i n : Nat) : Nat.blt i n = true ↔ i < n := by unfold Nat.blt; rw [Nat.ble_eq]; omega
theorem tget_eq (T : Tm) (i : Nat) : tget T i = T.toArray.getD i undef := by
  unfold tget Tm.toArray
  cases h : Nat.blt i T.n with
  | true =>
    have := (blt_iff _ _).1 h
    simp [this]
  | false =>
    have h' : ¬ i < T.n := fun hh => by rw [(blt_iff _ _).2 hh] at h; cases h
    simp [h']
theorem tget?_eq (T : Tm) (i : Nat) : tget? T i = T.toArray[i]? := by
  unfold tget? Tm.toArray
  cases h : Nat.blt i T.n with
  | true =>
    have := (blt_iff _ _).1 h
    simp [this]
  | false =>
    have h' : ¬ i < T.n := fun hh => by rw [(blt_iff _ _).2 hh] at h; cases h
    simp [h']
theorem tput_ex (T : Tm) (i : Nat) (v : Value) : ∃ T' : Tm, (∀ k, tputK T i v k = k T') ∧ T'.toArray = T.toArray.setIfInBounds i v := by
  cases h : Nat.blt i T.n with
  | true =>
    have hi := (blt_iff _ _).1 h
    obtain ⟨t', h1, h2⟩ := getR_set 12 T.t i v (by have := T.h; omega)
    refine ⟨⟨T.n, t', T.h⟩, fun k => ?_, ?_⟩
    · unfold tputK; rw [h]; exact h1 _
    · unfold Tm.toArray
      simp only [List.setIfInBounds_toArray]
      congr 1
      apply List.ext_getElem
      · simp
      · intro j hj hj'
        simp [h2, List.getElem_set]
        by_cases hji : j = i
        · subst hji; simp
        · rw [if_neg hji, if_neg (fun e => hji e.symm)]
  | false =>
    have h' : ¬ i < T.n := fun hh => by rw [(blt_iff _ _).2 hh] at h; cases h
    refine ⟨T, fun k => ?_, ?_⟩
    · unfold tputK; rw [h]
    · unfold Tm.toArray
      simp only [List.setIfInBounds_toArray]
      congr 1
      rw [List.set_eq_of_length_le (by simp; omega)]
theorem rowAt_eq (l : List Rw) (n : Nat) : rowAt l n = l[n]? := by
  induction l generalizing n with
  | nil => rfl
  | cons x l ih =>
    cases n with
    | zero => rfl
    | succ n => exact ih n
theorem putK_eq (l : List Value) (n : Nat) (v : Value) (k : List Value → Out) : putK l n v k = k (l.set n v) := by
  induction l generalizing n k with
  | nil => rfl
  | cons x l ih =>
    cases n with
    | zero => rfl
    | succ n => exact ih n _
theorem putR_eq (l : List Rw) (n : Nat) (v : Rw) (k : List Rw → Out) : putR l n v k = k (l.set n v) := by
  induction l generalizing n k with
  | nil => rfl
  | cons x l ih =>
    cases n with
    | zero => rfl
    | succ n => exact ih n _
theorem rep_set {M : List Rw} {j : Nat} {r : Rw} (h : M[j]? = some r) (ho : r.own = true) (c : List Value) : Rep (ents M) r.b r.c.toArray r.t c.toArray (ents (M.set j ⟨r.b, c, r.t, true⟩)) := by
  induction M generalizing j with
  | nil => simp at h
  | cons x M ih =>
    cases j with
    | zero =>
      simp at h
      subst h
      unfold ents
      simp only [List.set_cons_zero, List.filter_cons, ho, if_true, List.map_cons]
      exact .hd
    | succ j =>
      simp at h
      have := ih h
      unfold ents at *
      simp only [List.set_cons_succ, List.filter_cons]
      split
      · exact .tl this
      · exact this
theorem SG.set {w0 w : World} {M : List Rw} (h : SG w0 M w) {j : Nat} {r : Rw} (hj : M[j]? = some r) (ho : r.own = true) (c : List Value) : SG w0 (M.set j ⟨r.b, c, r.t, true⟩) (w.setRow r.b c.toArray) := by
  refine ⟨h.1.setRow (rep_set hj ho c), fun q hq hn => ?_⟩
  rcases List.mem_or_eq_of_mem_set hq with hq | rfl
  · exact h.2 q hq hn
  · cases hn
theorem SG.setCell {w0 w : World} {M : List Rw} (h : SG w0 M w) {j : Nat} {r : Rw} (hj : M[j]? = some r) (ho : r.own = true) (off : Nat) (v : Value) : SG w0 (M.set j ⟨r.b, r.c.set off v, r.t, true⟩) (w.setCell ⟨r.b, off, none⟩ v) := by
  refine ⟨h.1.setCell (c := r.c.toArray) (t := r.t) off v ?_, fun q hq hn => ?_⟩
  · have := rep_set hj ho (r.c.set off v)
    simpa using this
  · rcases List.mem_or_eq_of_mem_set hq with hq | rfl
    · exact h.2 q hq hn
    · cases hn
/-! ### items -/
def good (o : Out) : Prop := ∃ l, o = .ok l ∧ ∀ x ∈ l, x.l = x.r
theorem good_ok {l : List It} : good (.ok l) ↔ ∀ x ∈ l, x.l = x.r := ⟨fun ⟨_, h, h'⟩ => by cases h; exact h', fun h => ⟨l, rfl, h⟩⟩
theorem not_good {n : Nat} : ¬ good (.error n) := fun ⟨_, h, _⟩ => by cases h
/-- what was laid down ahead stands in the end -/
def Kp (A : List It) (o : Out) : Prop := ∀ l, o = .ok l → (∀ x ∈ l, x.l = x.r) → ∀ x ∈ A, x.l = x.r
theorem Kp.err {A : List It} {n : Nat} : Kp A (.error n) := fun _ h => by cases h
theorem Kp.tail {x : It} {A : List It} {o : Out} (h : Kp (x :: A) o) : Kp A o := fun l hl hg _ hi => h l hl hg _ (List.mem_cons_of_mem _ hi)
theorem Kp.holds {x : It} {A : List It} {o : Out} (h : Kp (x :: A) o) (hg : good o) : x.l = x.r := by
  obtain ⟨l, hl, h'⟩ := hg
  exact h l hl h' _ (List.mem_cons_self ..)
abbrev KK (α : Type) := α → Sg → Out
def KeepK {α : Type} (k : KK α) : Prop := ∀ a s, Kp s.acc (k a s)
theorem pickRow_kp {blk : Nat} {s : Sg} {k : Nat → Rw → Sg → Out} (hk : ∀ j r s, Kp s.acc (k j r s)) : Kp s.acc (pickRow .check blk s k) := by
  unfold pickRow
  simp only
  split
  · split
    · exact (hk _ _ _).tail
    · exact .err
  · exact .err
theorem pickRow_inv {blk : Nat} {s : Sg} {k : Nat → Rw → Sg → Out} (hk : ∀ j r s, Kp s.acc (k j r s)) (hg : good (pickRow .check blk s k)) :
    ∃ j h r, s.M[j]? = some r ∧ blk = r.b ∧ ∀ (A : List It) (k' : Nat → Rw → Sg → Out), pickRow .check blk ⟨s.n, s.h, s.M, A⟩ k' = k' j r ⟨s.n, h, s.M, .eqv (.int .u64 blk) (.int .u64 r.b) :: A⟩ := by
  unfold pickRow at hg
  simp only at hg
  split at hg
  · rename_i j h hh
    split at hg
    · rename_i r hr
      refine ⟨j, h, r, by rw [← rowAt_eq]; exact hr, ?_, fun A k' => ?_⟩
      · have e := (hk j r ⟨s.n, h, s.M, .eqv (.int .u64 blk) (.int .u64 r.b) :: s.acc⟩).holds hg
        simp only [It.l, It.r, Lv.v.injEq, Value.int.injEq, true_and] at e
        omega
      · unfold pickRow
        simp only [hh, hr]
    · exact absurd hg not_good
  · exact absurd hg not_good
theorem pickCon_kp {c : Bool} {s : Sg} {k : Bool → Sg → Out} (hk : ∀ b s, Kp s.acc (k b s)) : Kp s.acc (pickCon .check c s k) := by
  unfold pickCon
  simp only
  split
  · exact (hk _ _).tail
  · exact .err
theorem pickCon_inv {c : Bool} {s : Sg} {k : Bool → Sg → Out} (hk : ∀ b s, Kp s.acc (k b s)) (hg : good (pickCon .check c s k)) :
    ∃ b h, c = b ∧ ∀ (A : List It) (k' : Bool → Sg → Out), pickCon .check c ⟨s.n, s.h, s.M, A⟩ k' = k' b ⟨s.n, h, s.M, .con c b :: A⟩ := by
  unfold pickCon at hg
  simp only at hg
  split at hg
  · rename_i x b h hh
    refine ⟨b, h, ?_, fun A k' => ?_⟩
    · have e := (hk b ⟨s.n, h, s.M, .con c b :: s.acc⟩).holds hg
      simpa [It.l, It.r] using e
    · unfold pickCon
      simp only [hh]
  · exact absurd hg not_good
/-! ### the semantics' terms -/
noncomputable def kLoad (e1 e2 : Nat) (a : Addr) (f : Value → Sg → Out) (_ : Nat) (r : Rw) (s : Sg) : Out :=
  match a.spot with
  | some _ => .error e1
  | none => match nth? r.c a.off with
    | some v => f v s
    | none => .error e2
def kFroz (e : Nat) (f : Bool → Sg → Out) (_ : Nat) (r : Rw) (s : Sg) : Out :=
  match r.own with
  | true => f false s
  | false => .error e
theorem kLoad_kp {e1 e2 : Nat} {a : Addr} {f : Value → Sg → Out} (hf : ∀ v s, Kp s.acc (f v s)) (j : Nat) (r : Rw) (s : Sg) : Kp s.acc (kLoad e1 e2 a f j r s) := by
  unfold kLoad
  split
  · exact .err
  · split
    · exact hf _ _
    · exact .err
theorem kFroz_kp {e : Nat} {f : Bool → Sg → Out} (hf : ∀ v s, Kp s.acc (f v s)) (j : Nat) (r : Rw) (s : Sg) : Kp s.acc (kFroz e f j r s) := by
  unfold kFroz
  split
  · exact hf _ _
  · exact .err
theorem kLoad_inv {e1 e2 : Nat} {a : Addr} {f : Value → Sg → Out} {j : Nat} {r : Rw} {s : Sg} (hg : good (kLoad e1 e2 a f j r s)) :
    ∃ v, a.spot = none ∧ r.c[a.off]? = some v ∧ ∀ f' j' s', kLoad e1 e2 a f' j' r s' = f' v s' := by
  unfold kLoad at hg
  split at hg
  · exact absurd hg not_good
  · rename_i hsp
    split at hg
    · rename_i v hv
      exact ⟨v, hsp, by rw [← nth?_eq]; exact hv, fun f' j' s' => by simp [kLoad, hsp, hv]⟩
    · exact absurd hg not_good
theorem kFroz_inv {e : Nat} {f : Bool → Sg → Out} {j : Nat} {r : Rw} {s : Sg} (hg : good (kFroz e f j r s)) : r.own = true ∧ ∀ f' j' s', kFroz e f' j' r s' = f' false s' := by
  unfold kFroz at hg
  split at hg
  · rename_i ho
    exact ⟨ho, fun f' j' s' => by simp [kFroz, ho]⟩
  · exact absurd hg not_good
section
variable {P : Program} {α : Type}
theorem evV_load (m : Mode) (a : Addr) (q : Value → Sem α) (s : Sg) (k : KK α) : evV P .check (.load m a q) s k = pickRow .check a.block s (kLoad 20 21 a fun v s => evV P .check (q v) s k) := rfl
theorem evV_shape (b : Nat) (q : Option (TypeId × Nat) → Sem α) (s : Sg) (k : KK α) : evV P .check (.shape b q) s k = pickRow .check b s (fun _ r s => evV P .check (q (some (r.t, r.c.length))) s k) := rfl
theorem evV_frozen (a : Addr) (q : Bool → Sem α) (s : Sg) (k : KK α) : evV P .check (.frozen a q) s k = pickRow .check a.block s (kFroz 25 fun v s => evV P .check (q v) s k) := rfl
end
theorem evV_kp {P : Program} {α : Type} (x : Sem α) : ∀ (s : Sg) (k : KK α), KeepK k → Kp s.acc (evV P .check x s k) := by
  induction x with
  | pure a => exact fun s k hk => hk a s
  | load m a q ih => exact fun s k hk => pickRow_kp (kLoad_kp fun v s => ih v s k hk)
  | store m a v q ih => exact fun s k hk => .err
  | new o q ih => exact fun s k hk => .err
  | shape r q ih => exact fun s k hk => pickRow_kp (s := s) (k := fun _ r s => evV P .check (q (some (r.t, r.c.length))) s k) fun j r s => ih _ s k hk
  | freeze a n q ih => exact fun s k hk => .err
  | frozen a q ih => exact fun s k hk => pickRow_kp (kFroz_kp fun v s => ih v s k hk)
  | getObj r q ih => exact fun s k hk => .err
  | setObj r o q ih => exact fun s k hk => .err
  | choose q c ih =>
    intro s k hk
    show Kp s.acc (match q.forced with | true => evV P .check (c 0) s k | false => .error 28)
    split
    · exact ih _ _ _ hk
    · exact .err
  | sys c q ih => exact fun s k hk => .err
  | program q ih => exact fun s k hk => ih _ _ _ hk
  | mark m q ih => exact fun s k hk => ih _ _ hk
  | halt h => exact fun s k hk => .err
theorem cell_row {w : World} {b off : Nat} {c : List Value} {t : TypeId} {fr : Nat × Nat} (h : w.heap[b]? = some (.cells c.toArray t fr)) : w.cell? ⟨b, off, none⟩ = c[off]? := by
  simp [World.cell?, h]
theorem cell_row' {w : World} {a : Addr} {b : Nat} {c : List Value} {t : TypeId} {fr : Nat × Nat} (h : w.heap[b]? = some (.cells c.toArray t fr)) (hb : a.block = b) (hs : a.spot = none) : w.cell? a = c[a.off]? := by
  obtain ⟨b', off, sp⟩ := a
  simp only at hb hs
  subst hb hs
  exact cell_row h
/-- what reads alone: the world stays, and what is computed hangs on nothing else -/
theorem evV_st {P : Program} {α : Type} (x : Sem α) : ∀ (s : Sg) (k : KK α), KeepK k → good (evV P .check x s k) →
    ∃ a h, (∀ w0 w, SG w0 s.M w → x.run P w = .ok a w) ∧ ∀ A, ∃ B, A ⊆ B ∧ ∀ k', evV P .check x ⟨s.n, s.h, s.M, A⟩ k' = k' a ⟨s.n, h, s.M, B⟩ := by
  induction x with
  | pure a => exact fun s k hk hg => ⟨a, s.h, fun _ _ _ => rfl, fun A => ⟨A, fun _ h => h, fun _ => rfl⟩⟩
  | load m a q ih =>
    intro s k hk hg
    rw [evV_load] at hg
    obtain ⟨j, h, r, hj, hb, he⟩ := pickRow_inv (kLoad_kp fun v s => evV_kp (q v) s k hk) hg
    have hg' := he s.acc (kLoad 20 21 a fun v s => evV P .check (q v) s k) ▸ hg
    obtain ⟨v, hsp, hv, hl⟩ := kLoad_inv hg'
    rw [hl] at hg'
    obtain ⟨u, h', hrun, hE⟩ := ih v ⟨s.n, h, s.M, _⟩ k hk hg'
    refine ⟨u, h', fun w0 w hS => ?_, fun A => ?_⟩
    · obtain ⟨fr, hrow, _⟩ := hS.row (List.mem_of_getElem? hj)
      simp only [Sem.run, (cell_row' hrow hb hsp).trans hv]
      exact hrun w0 w hS
    · obtain ⟨B, hB, hE⟩ := hE (.eqv (.int .u64 a.block) (.int .u64 r.b) :: A)
      exact ⟨B, fun _ hx => hB (List.mem_cons_of_mem _ hx), fun k' => by rw [evV_load, he, hl]; exact hE k'⟩
  | store m a v q ih => exact fun s k hk hg => absurd hg not_good
  | new o q ih => exact fun s k hk hg => absurd hg not_good
  | shape b q ih =>
    intro s k hk hg
    rw [evV_shape] at hg
    obtain ⟨j, h, r, hj, hb, he⟩ := pickRow_inv (fun j r s => evV_kp (q (some (r.t, r.c.length))) s k hk) hg
    rw [he s.acc] at hg
    obtain ⟨u, h', hrun, hE⟩ := ih _ ⟨s.n, h, s.M, _⟩ k hk hg
    refine ⟨u, h', fun w0 w hS => ?_, fun A => ?_⟩
    · obtain ⟨fr, hrow, _⟩ := hS.row (List.mem_of_getElem? hj)
      have hc : w.shape? b = some (r.t, r.c.length) := by simp [World.shape?, hb, hrow]
      simp only [Sem.run, hc]
      exact hrun w0 w hS
    · obtain ⟨B, hB, hE⟩ := hE (.eqv (.int .u64 b) (.int .u64 r.b) :: A)
      exact ⟨B, fun _ hx => hB (List.mem_cons_of_mem _ hx), fun k' => by rw [evV_shape, he]; exact hE k'⟩
  | freeze a n q ih => exact fun s k hk hg => absurd hg not_good
  | frozen a q ih =>
    intro s k hk hg
    rw [evV_frozen] at hg
    obtain ⟨j, h, r, hj, hb, he⟩ := pickRow_inv (kFroz_kp fun v s => evV_kp (q v) s k hk) hg
    have hg' := he s.acc (kFroz 25 fun v s => evV P .check (q v) s k) ▸ hg
    obtain ⟨ho, hl⟩ := kFroz_inv hg'
    rw [hl] at hg'
    obtain ⟨u, h', hrun, hE⟩ := ih _ ⟨s.n, h, s.M, _⟩ k hk hg'
    refine ⟨u, h', fun w0 w hS => ?_, fun A => ?_⟩
    · obtain ⟨fr, hrow, hfr⟩ := hS.row (List.mem_of_getElem? hj)
      obtain rfl := hfr ho
      have hc : w.frozen? a = false := by simp [World.frozen?, hb, hrow]
      simp only [Sem.run, hc]
      exact hrun w0 w hS
    · obtain ⟨B, hB, hE⟩ := hE (.eqv (.int .u64 a.block) (.int .u64 r.b) :: A)
      exact ⟨B, fun _ hx => hB (List.mem_cons_of_mem _ hx), fun k' => by rw [evV_frozen, he, hl]; exact hE k'⟩
  | getObj r q ih => exact fun s k hk hg => absurd hg not_good
  | setObj r o q ih => exact fun s k hk hg => absurd hg not_good
  | choose q c ih =>
    intro s k hk hg
    have hg : good (match q.forced with | true => evV P .check (c 0) s k | false => .error 28) := hg
    split at hg
    · rename_i hf
      obtain ⟨u, h', hrun, hE⟩ := ih 0 _ k hk hg
      refine ⟨u, h', fun w0 w hS => ?_, fun A => ?_⟩
      · simp only [Sem.run, hf, if_true]
        exact hrun w0 w hS
      · obtain ⟨B, hB, hE⟩ := hE A
        refine ⟨B, hB, fun k' => ?_⟩
        show (match q.forced with | true => evV P .check (c 0) ⟨s.n, s.h, s.M, A⟩ k' | false => .error 28) = _
        simp only [hf]
        exact hE k'
    · exact absurd hg not_good
  | sys c q ih => exact fun s k hk hg => absurd hg not_good
  | program q ih => exact fun s k hk hg => ih P _ k hk hg
  | mark m q ih => exact fun s k hk hg => ih _ k hk hg
  | halt h => exact fun s k hk hg => absurd hg not_good
theorem evV_ok {P : Program} {α : Type} {w0 w : World} (x : Sem α) (s : Sg) (k : KK α) (hk : KeepK k) (hS : SG w0 s.M w) (hg : good (evV P .check x s k)) :
    ∃ a h, x.run P w = .ok a w ∧ ∀ A, ∃ B, A ⊆ B ∧ ∀ k', evV P .check x ⟨s.n, s.h, s.M, A⟩ k' = k' a ⟨s.n, h, s.M, B⟩ := by
  obtain ⟨a, h, hr, he⟩ := evV_st x s k hk hg
  exact ⟨a, h, hr w0 w hS, he⟩
/-! ### terms that write -/
noncomputable def kStore (a : Addr) (v : Value) (f : Sg → Out) (j : Nat) (r : Rw) (s : Sg) : Out :=
  match a.spot with
  | some _ => .error 9
  | none => match v.oneCell', r.own with
    | true, true => match nth? r.c a.off with
      | some _ => putK r.c a.off v fun c => putR s.M j ⟨r.b, c, r.t, true⟩ fun M => f ⟨s.n, s.h, M, s.acc⟩
      | none => .error 10
    | _, _ => .error 11
theorem kStore_kp {a : Addr} {v : Value} {f : Sg → Out} (hf : ∀ s, Kp s.acc (f s)) (j : Nat) (r : Rw) (s : Sg) : Kp s.acc (kStore a v f j r s) := by
  unfold kStore
  split
  · exact .err
  · split
    · split
      · rw [putK_eq, putR_eq]
        exact hf ⟨s.n, s.h, _, s.acc⟩
      · exact .err
    · exact .err
theorem kStore_inv {a : Addr} {v : Value} {f : Sg → Out} {j : Nat} {r : Rw} {s : Sg} (hg : good (kStore a v f j r s)) :
    a.spot = none ∧ v.oneCell' = true ∧ r.own = true ∧ (∃ u, r.c[a.off]? = some u) ∧ ∀ f' s', kStore a v f' j r s' = f' ⟨s'.n, s'.h, s'.M.set j ⟨r.b, r.c.set a.off v, r.t, true⟩, s'.acc⟩ := by
  unfold kStore at hg
  split at hg
  · exact absurd hg not_good
  · rename_i hsp
    split at hg
    · rename_i h1 h2
      split at hg
      · rename_i u hu
        exact ⟨hsp, h1, h2, ⟨u, by rw [← nth?_eq]; exact hu⟩, fun f' s' => by simp [kStore, hsp, h1, h2, hu, putK_eq, putR_eq]⟩
      · exact absurd hg not_good
    · exact absurd hg not_good
section
variable {P : Program} {α : Type} {β : Nat → Fr}
theorem evS_load (m : Mode) (a : Addr) (q : Value → Sem α) (s : Sg) (k : KK α) : evS P .check β (.load m a q) s k = pickRow .check a.block s (kLoad 7 8 a fun v s => evS P .check β (q v) s k) := rfl
theorem evS_store (m : Mode) (a : Addr) (v : Value) (q : Sem α) (s : Sg) (k : KK α) : evS P .check β (.store m a v q) s k = pickRow .check a.block s (kStore a v fun s => evS P .check β q s k) := rfl
theorem evS_shape (b : Nat) (q : Option (TypeId × Nat) → Sem α) (s : Sg) (k : KK α) : evS P .check β (.shape b q) s k = pickRow .check b s (fun _ r s => evS P .check β (q (some (r.t, r.c.length))) s k) := rfl
theorem evS_frozen (a : Addr) (q : Bool → Sem α) (s : Sg) (k : KK α) : evS P .check β (.frozen a q) s k = pickRow .check a.block s (kFroz 14 fun v s => evS P .check β (q v) s k) := rfl
theorem evS_new (c : Array Value) (t : TypeId) (q : Nat → Sem α) (s : Sg) (k : KK α) : evS P .check β (.new (.cells c t (0, 0)) q) s k = evS P .check β (q (β s.n).b) ⟨s.n + 1, s.h, ⟨(β s.n).b, c.toList, t, true⟩ :: s.M, s.acc⟩ k := rfl
theorem evS_new' (o : Obj) (q : Nat → Sem α) (s : Sg) (k : KK α) : evS P .check β (.new o q) s k = (match o with | .cells c t (0, 0) => evS P .check β (q (β s.n).b) ⟨s.n + 1, s.h, ⟨(β s.n).b, c.toList, t, true⟩ :: s.M, s.acc⟩ k | _ => .error 12) := rfl
theorem evS_new_inv {o : Obj} {q : Nat → Sem α} {s : Sg} {k : KK α} (hg : good (evS P .check β (.new o q) s k)) : ∃ c t, o = .cells c t (0, 0) := by
  rw [evS_new'] at hg
  split at hg
  · exact ⟨_, _, rfl⟩
  · exact absurd hg not_good
theorem evS_choose (q : Question) (c : Nat → Sem α) (s : Sg) (k : KK α) : evS P .check β (.choose q c) s k = (match q.forced with | true => evS P .check β (c 0) s k | false => .error 17) := rfl
end
theorem evS_kp {P : Program} {β : Nat → Fr} {α : Type} (x : Sem α) : ∀ (s : Sg) (k : KK α), KeepK k → Kp s.acc (evS P .check β x s k) := by
  induction x with
  | pure a => exact fun s k hk => hk a s
  | load m a q ih => exact fun s k hk => pickRow_kp (kLoad_kp fun v s => ih v s k hk)
  | store m a v q ih => exact fun s k hk => pickRow_kp (kStore_kp fun s => ih s k hk)
  | new o q ih =>
    intro s k hk
    show Kp s.acc (match o with | .cells c t (0, 0) => evS P .check β (q (β s.n).b) ⟨s.n + 1, s.h, ⟨(β s.n).b, c.toList, t, true⟩ :: s.M, s.acc⟩ k | _ => .error 12)
    split
    · exact ih _ ⟨s.n + 1, s.h, _, s.acc⟩ k hk
    · exact .err
  | shape r q ih => exact fun s k hk => pickRow_kp (s := s) (k := fun _ r s => evS P .check β (q (some (r.t, r.c.length))) s k) fun j r s => ih _ s k hk
  | freeze a n q ih => exact fun s k hk => .err
  | frozen a q ih => exact fun s k hk => pickRow_kp (kFroz_kp fun v s => ih v s k hk)
  | getObj r q ih => exact fun s k hk => .err
  | setObj r o q ih => exact fun s k hk => .err
  | choose q c ih =>
    intro s k hk
    rw [evS_choose]
    split
    · exact ih _ _ _ hk
    · exact .err
  | sys c q ih => exact fun s k hk => .err
  | program q ih => exact fun s k hk => ih _ _ _ hk
  | mark m q ih => exact fun s k hk => ih _ _ hk
  | halt h => exact fun s k hk => .err
/-- the same numbers below n -/
def Ag (n : Nat) (β γ : Nat → Fr) : Prop := ∀ i, i < n → β i = γ i
theorem Ag.refl {n : Nat} {γ : Nat → Fr} : Ag n γ γ := fun _ _ => rfl
theorem Ag.le {n m : Nat} {β γ : Nat → Fr} (h : Ag m β γ) (hn : n ≤ m) : Ag n β γ := fun i hi => h i (Nat.lt_of_lt_of_le hi hn)
theorem Ag.trans {n : Nat} {a b c : Nat → Fr} (h : Ag n a b) (h' : Ag n b c) : Ag n a c := fun i hi => (h i hi).trans (h' i hi)
def Gd {α : Type} (n : Nat) (γ : Nat → Fr) (K : (Nat → Fr) → KK α) (a : α) (h : List It) (M : List Rw) (A : (Nat → Fr) → List It) : Prop :=
  ∀ β, Ag n β γ → good (K β a ⟨n, h, M, A β⟩)
/-- it goes on in the world w with what was computed -/
def On {α : Type} (w0 : World) (n : Nat) (γ : Nat → Fr) (K : (Nat → Fr) → KK α) (a : α) (w : World) : Prop :=
  ∃ γ' n' h M A, SG w0 M w ∧ n ≤ n' ∧ Ag n γ' γ ∧ Gd n' γ' K a h M A
theorem On.le {α : Type} {w0 : World} {n n1 : Nat} {γ γ1 : Nat → Fr} {K : (Nat → Fr) → KK α} {a : α} {w : World} (h : On w0 n1 γ1 K a w) (hn : n ≤ n1) (hg : Ag n γ1 γ) : On w0 n γ K a w := by
  obtain ⟨γ', n', h', M, A, hS, hle, hag, hgd⟩ := h
  exact ⟨γ', n', h', M, A, hS, Nat.le_trans hn hle, (hag.le hn).trans hg, hgd⟩
def upN (γ : Nat → Fr) (n : Nat) (b : Fr) : Nat → Fr := fun i => if i = n then b else γ i
theorem upN_ag (γ : Nat → Fr) (n : Nat) (b : Fr) : Ag n (upN γ n b) γ := fun i hi => by unfold upN; rw [if_neg (by omega)]
theorem upN_at (γ : Nat → Fr) (n : Nat) (b : Fr) : upN γ n b n = b := by unfold upN; rw [if_pos rfl]
theorem evS_ok {P : Program} {α : Type} {w0 : World} (x : Sem α) : ∀ (γ : Nat → Fr) (n : Nat) (h : List It) (M : List Rw) (A : (Nat → Fr) → List It) (w : World) (K : (Nat → Fr) → KK α), (∀ β, KeepK (K β)) → SG w0 M w →
    (∀ β, Ag n β γ → good (evS P .check β x ⟨n, h, M, A β⟩ (K β))) → ∃ a w', x.run P w = .ok a w' ∧ On w0 n γ K a w' := by
  induction x with
  | pure a => exact fun γ n h M A w K hk hS hg => ⟨a, w, rfl, γ, n, h, M, A, hS, Nat.le_refl _, .refl, hg⟩
  | load m a q ih =>
    intro γ n h M A w K hk hS hg
    have h0 := hg γ .refl
    rw [evS_load] at h0
    obtain ⟨j, h', r, hj, hb, he⟩ := pickRow_inv (kLoad_kp fun v s => evS_kp (q v) s _ (hk γ)) h0
    rw [he (A γ)] at h0
    obtain ⟨v, hsp, hv, hl⟩ := kLoad_inv h0
    obtain ⟨fr, hrow, _⟩ := hS.row (List.mem_of_getElem? hj)
    obtain ⟨u, w', hrun, hon⟩ := ih v γ n h' M (fun β => .eqv (.int .u64 a.block) (.int .u64 r.b) :: A β) w K hk hS (fun β hβ => by
      have h1 := hg β hβ
      rw [evS_load, he (A β), hl] at h1
      exact h1)
    refine ⟨u, w', ?_, hon⟩
    simp only [Sem.run, (cell_row' hrow hb hsp).trans hv]
    exact hrun
  | store m a v q ih =>
    intro γ n h M A w K hk hS hg
    have h0 := hg γ .refl
    rw [evS_store] at h0
    obtain ⟨j, h', r, hj, hb, he⟩ := pickRow_inv (kStore_kp fun s => evS_kp q s _ (hk γ)) h0
    rw [he (A γ)] at h0
    obtain ⟨hsp, h1, ho, ⟨u0, hu0⟩, hl⟩ := kStore_inv h0
    obtain ⟨fr, hrow, hfr⟩ := hS.row (List.mem_of_getElem? hj)
    obtain rfl := hfr ho
    have hS' := hS.setCell hj ho a.off v
    have ea : (⟨r.b, a.off, none⟩ : Addr) = a := by
      obtain ⟨b, off, sp⟩ := a
      simp only at hsp hb
      subst hsp hb
      rfl
    rw [ea] at hS'
    obtain ⟨u, w', hrun, hon⟩ := ih γ n h' (M.set j ⟨r.b, r.c.set a.off v, r.t, true⟩) (fun β => .eqv (.int .u64 a.block) (.int .u64 r.b) :: A β) _ K hk hS' (fun β hβ => by
      have h1 := hg β hβ
      rw [evS_store, he (A β), hl] at h1
      exact h1)
    refine ⟨u, w', ?_, hon⟩
    have hc : w.cell? a = some u0 := (cell_row' hrow hb hsp).trans hu0
    have hz : w.frozen? a = false := by simp [World.frozen?, hb, hrow]
    cases v <;> first | (simp [Value.oneCell'] at h1; done) | (simp only [Sem.run, hc, hz]; exact hrun)
  | new o q ih =>
    intro γ n h M A w K hk hS hg
    obtain ⟨c, t, rfl⟩ := evS_new_inv (hg γ .refl)
    have hS' := hS.alloc c.toList t
    obtain ⟨u, w', hrun, hon⟩ := ih w.heap.size (upN γ n ⟨w.heap.size, fun _ => undef, []⟩) (n + 1) h (⟨w.heap.size, c.toList, t, true⟩ :: M) A _ K hk hS' (fun β hβ => by
      have h1 := hg β ((hβ.le (Nat.le_succ n)).trans (upN_ag _ _ _))
      have e : (β n).b = w.heap.size := by rw [hβ n (Nat.lt_succ_self n), upN_at]
      rw [evS_new] at h1
      simp only [e] at h1
      exact h1)
    refine ⟨u, w', ?_, hon.le (Nat.le_succ n) (upN_ag _ _ _)⟩
    simp only [Sem.run]
    exact hrun
  | shape b q ih =>
    intro γ n h M A w K hk hS hg
    have h0 := hg γ .refl
    rw [evS_shape] at h0
    obtain ⟨j, h', r, hj, hb, he⟩ := pickRow_inv (fun j r s => evS_kp (q (some (r.t, r.c.length))) s _ (hk γ)) h0
    obtain ⟨fr, hrow, _⟩ := hS.row (List.mem_of_getElem? hj)
    obtain ⟨u, w', hrun, hon⟩ := ih (some (r.t, r.c.length)) γ n h' M (fun β => .eqv (.int .u64 b) (.int .u64 r.b) :: A β) w K hk hS (fun β hβ => by
      have h1 := hg β hβ
      rw [evS_shape, he (A β)] at h1
      exact h1)
    refine ⟨u, w', ?_, hon⟩
    have hc : w.shape? b = some (r.t, r.c.length) := by simp [World.shape?, hb, hrow]
    simp only [Sem.run, hc]
    exact hrun
  | freeze a n q ih => exact fun γ n h M A w K hk hS hg => absurd (hg γ .refl) not_good
  | frozen a q ih =>
    intro γ n h M A w K hk hS hg
    have h0 := hg γ .refl
    rw [evS_frozen] at h0
    obtain ⟨j, h', r, hj, hb, he⟩ := pickRow_inv (kFroz_kp fun v s => evS_kp (q v) s _ (hk γ)) h0
    rw [he (A γ)] at h0
    obtain ⟨ho, hl⟩ := kFroz_inv h0
    obtain ⟨fr, hrow, hfr⟩ := hS.row (List.mem_of_getElem? hj)
    obtain rfl := hfr ho
    obtain ⟨u, w', hrun, hon⟩ := ih false γ n h' M (fun β => .eqv (.int .u64 a.block) (.int .u64 r.b) :: A β) w K hk hS (fun β hβ => by
      have h1 := hg β hβ
      rw [evS_frozen, he (A β), hl] at h1
      exact h1)
    refine ⟨u, w', ?_, hon⟩
    have hc : w.frozen? a = false := by simp [World.frozen?, hb, hrow]
    simp only [Sem.run, hc]
    exact hrun
  | getObj r q ih => exact fun γ n h M A w K hk hS hg => absurd (hg γ .refl) not_good
  | setObj r o q ih => exact fun γ n h M A w K hk hS hg => absurd (hg γ .refl) not_good
  | choose q c ih =>
    intro γ n h M A w K hk hS hg
    cases hf : q.forced with
    | true =>
      obtain ⟨u, w', hrun, hon⟩ := ih 0 γ n h M A w K hk hS (fun β hβ => by
        have h1 := hg β hβ
        rw [evS_choose, hf] at h1
        exact h1)
      refine ⟨u, w', ?_, hon⟩
      simp only [Sem.run, hf, if_true]
      exact hrun
    | false =>
      have h1 := hg γ .refl
      rw [evS_choose, hf] at h1
      exact absurd h1 not_good
  | sys c q ih => exact fun γ n h M A w K hk hS hg => absurd (hg γ .refl) not_good
  | program q ih => exact fun γ n h M A w K hk hS hg => ih P γ n h M A w K hk hS hg
  | mark m q ih => exact fun γ n h M A w K hk hS hg => ih γ n h M A w K hk hS hg
  | halt h => exact fun γ n h M A w K hk hS hg => absurd (hg γ .refl) not_good
end Ev
end Go.Proofs.Ythpnhanabcipmaa
