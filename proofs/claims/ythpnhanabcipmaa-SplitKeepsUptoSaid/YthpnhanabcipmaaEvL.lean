/-
  Checked runs: holes made of a run of code, and loops of as many rounds as one likes. Of no program's function.
-/
import Derived.Test.YthpnhanabcipmaaEvC
namespace Go.Proofs.Ythpnhanabcipmaa
open Go.RowKit VecM
namespace Ev
/-- the block with this number -/
def blkOf (id : Nat) : Code → Option Code
  | .block j c => match Nat.beq j id with
    | true => some (.block j c)
    | false => blkOf id c
  | .seq a b => match blkOf id a with
    | some c => some c
    | none => blkOf id b
  | .cond _ a b => match blkOf id a with
    | some c => some c
    | none => blkOf id b
  | .loop c => blkOf id c
  | _ => none
noncomputable def blkIn (f : FuncId) (id : Nat) : Code := ((Try.prog.funcs[f]?.bind (·.body)).bind (blkOf id)).getD .skip
/-- the loop within the block with this number: its round's code -/
noncomputable def loopIn (f : FuncId) (id : Nat) : Code := match blkIn f id with
  | .block _ (.loop c) => c
  | _ => .skip
theorem putsL_n : ∀ (l : List (Nat × Value)) (T : Tm), (putsL l T).n = T.n := by
  intro l
  induction l with
  | nil => exact fun T => rfl
  | cons p l ih =>
    intro T
    have h2 := (Classical.choose_spec (tput_ex T p.1 p.2)).2
    have hn : (Classical.choose (tput_ex T p.1 p.2)).n = T.n := by rw [← size_n, h2]; simp [size_n]
    exact (ih _).trans hn
theorem tget_put {T : Tm} {j i : Nat} {v : Value} (hj : j < T.n) : tget (Classical.choose (tput_ex T j v)) i = if i = j then v else tget T i := by
  have h2 := (Classical.choose_spec (tput_ex T j v)).2
  rw [tget_eq, h2, tget_eq]
  by_cases h : i = j
  · subst h
    have hs : i < T.toArray.size := by rw [size_n]; exact hj
    simp [Array.getD, hs]
  · rw [if_neg h]
    simp [Array.getD_eq_getD_getElem?, Array.getElem?_setIfInBounds, show ¬ j = i from fun e => h e.symm]
/-- slots that are put to what they have -/
theorem putsL_same : ∀ (l : List (Nat × Value)) (T : Tm), (∀ p ∈ l, p.1 < T.n ∧ tget T p.1 = p.2) → ∀ i, tget (putsL l T) i = tget T i := by
  intro l
  induction l with
  | nil => exact fun T _ i => rfl
  | cons p l ih =>
    intro T h i
    have hp := h p (List.mem_cons_self ..)
    have hn : (Classical.choose (tput_ex T p.1 p.2)).n = T.n := putsL_n [p] T
    have hsame : ∀ i, tget (Classical.choose (tput_ex T p.1 p.2)) i = tget T i := fun i => by
      rw [tget_put hp.1]
      split
      · rename_i e; rw [e, hp.2]
      · rfl
    show tget (putsL l (Classical.choose (tput_ex T p.1 p.2))) i = _
    rw [ih _ (fun q hq => by rw [hn, hsame]; exact h q (List.mem_cons_of_mem _ hq)), hsame]
theorem putsL_app : ∀ (l l' : List (Nat × Value)) (T : Tm), putsL (l ++ l') T = putsL l' (putsL l T) := by
  intro l
  induction l with
  | nil => exact fun l' T => rfl
  | cons p l ih => exact fun l' T => ih l' _
/-- what a run of code does: from slots 'need' and rows R, it ends so; slots 'give' are known then, all others but 'hav' are as they were -/
def Runs (c : Code) (n : Nat) (need : List (Nat × Value)) (R : List Rw) (ex : Exit) (give : List (Nat × Value)) (hav : List Nat) (R1 : List Rw) : Prop :=
  ∀ (w0 w : World) (T : Tm) (Q : Exit → Act → World → Prop), T.n = n → (∀ p ∈ need, tget T p.1 = p.2) → SG w0 R w →
    (∀ (T' : Tm) w', T'.n = n → (∀ p ∈ give, tget T' p.1 = p.2) → (∀ i, i < n → memN hav i = false → tget T' i = tget T i) → SG w0 R1 w' → Q ex ⟨T'.toArray, []⟩ w') → wpX Try.prog c Q ⟨T.toArray, []⟩ w
theorem runs_code {E E' : Env} (hP : E.P = Try.prog) (hs : SumOk E) {fuel : Nat} {c : Code} {n : Nat} {need need' : List (Nat × Value)} {M M' : List Rw} {ex : Exit} {give : List (Nat × Value)} {hav : List Nat} {M1 : List Rw} (hex : okE ex = true) (D : List (Bool × Bool)) (ts : List Nat) (hD : ∀ p ∈ D, p.1 = p.2)
    (h : ∀ (g : Nat → Value) (β : Nat → Fr), tagOL D ts (evCode E E' fuel c (valsOf need g n) (valsOf need' (fun _ => undef) n) M M' ex (give ++ keepOf need g n hav) M1 β) = tagOR D ts (evCode E E' fuel c (valsOf need g n) (valsOf need' (fun _ => undef) n) M M' ex (give ++ keepOf need g n hav) M1 β))
    (hh : HolesOk E := by exact no_holes rfl) (ho : OphOk E := by exact no_oph rfl rfl) : Runs c n need M ex give hav M1 := by
  intro w0 w T Q hn hneed hS hQ
  rw [vals_eq hn hneed]
  refine ev_code hP hs hex D ts hD (h (tget T)) hS (fun T' w' e1 e2 e3 => ?_) hh ho
  have e1' : T'.n = n := by rw [e1]; simp [valsOf]
  refine hQ T' w' e1' (fun p hp => e2 p (List.mem_append_left _ hp)) (fun i hi hm => ?_) e3
  have h1 := e2 _ (List.mem_append_right _ (keep_mem (need := need) (g := tget T) hi hm))
  simp only at h1
  rw [h1]
  split
  · rename_i v hv
    exact (hneed _ (assoc_mem hv)).symm
  · rfl
/-- a hole made of a run -/
def mkHole (c : Code) (n : Nat) (need : List (Nat × Value)) (R : List Rw) (pre : List Bool) (ex : Exit) (give : List (Nat × Value)) (hav : List Nat) (R1 : List Rw) : Hole :=
  ⟨c, n, need, R, pre, true, fun _ ξ => (ex, hav.map (fun k => (k, ξ k)) ++ give, R1)⟩
theorem mkHole_ok {c : Code} {n : Nat} {need : List (Nat × Value)} {R : List Rw} {ex : Exit} {give : List (Nat × Value)} {hav : List Nat} {R1 : List Rw} (hr : Runs c n need R ex give hav R1) (hg : ∀ p ∈ give, p.1 < n)
    {T : Tm} {w0 w : World} {Q : Exit → Act → World → Prop} (hn : T.n = n) (hneed : ∀ p ∈ need, tget T p.1 = p.2) (hS : SG w0 R w)
    (hQ : ∀ (ξ : Nat → Value) w', SG w0 R1 w' → Q ex ⟨(putsL (hav.map (fun k => (k, ξ k)) ++ give) T).toArray, []⟩ w') : c.wp Try.prog Q ⟨T.toArray, []⟩ w := by
  refine wpX_wp (hr w0 w T Q hn hneed hS fun T' w' e1 e2 e3 e4 => ?_)
  have h := hQ (tget T') w' e4
  obtain ⟨h1, h2⟩ := puts_get (tget T') hav T
  have e : (putsL (hav.map (fun k => (k, tget T' k)) ++ give) T).toArray = T'.toArray := by
    refine T_ext (by rw [putsL_n]; omega) fun i hi => ?_
    rw [putsL_n] at hi
    have hmid : ∀ i, i < T.n → tget (putsL (hav.map fun k => (k, tget T' k)) T) i = tget T' i := fun i hi => by
      rw [h2 i hi]
      cases hm : memN hav i with
      | true => simp
      | false =>
        simp only [Bool.false_eq_true, if_false]
        exact (e3 i (by omega) hm).symm
    rw [putsL_app, putsL_same _ _ (fun p hp => ?_), hmid i hi]
    have := hg p hp
    exact ⟨by rw [putsL_n]; omega, by rw [hmid _ (by omega)]; exact e2 p hp⟩
  rw [e] at h
  exact h
/-- a loop within its block: m rounds, and then its end -/
theorem runs_loop {id n m : Nat} {c : Code} {nc : List (Nat × Value)} {nv : Nat → List (Nat × Value)} {hav : List Nat} {R : Nat → List Rw} (hc : ∀ b, c ≠ .loop b) (hnc : ∀ p ∈ nc, p.1 < n ∧ memN hav p.1 = false)
    (hr : ∀ p, p < m → Runs c n (nc ++ nv p) (R p) .normal (nv (p + 1)) hav (R (p + 1)))
    (he : Runs c n (nc ++ nv m) (R m) (.exit id) (nv m) hav (R m)) : Runs (.block id (.loop c)) n (nc ++ nv 0) (R 0) .normal (nv m) hav (R m) := by
  intro w0 w T Q hn hneed hS hQ
  refine wpX_of (fun _ h => by cases h) (wp_block ?_)
  refine loop_of ?_
  suffices H : ∀ k p, p + k = m → ∀ (w : World) (T' : Tm), T'.n = n → (∀ q ∈ nv p, tget T' q.1 = q.2) → (∀ i, i < n → memN hav i = false → tget T' i = tget T i) → SG w0 (R p) w →
      LoopWp Try.prog c (Exit.inBlock id Q) ⟨T'.toArray, []⟩ w by
    exact H m 0 (by omega) w T hn (fun q hq => hneed q (List.mem_append_right _ hq)) (fun _ _ _ => rfl) hS
  intro k
  induction k with
  | zero =>
    intro p hp w T' e1 e2 e3 e4
    obtain rfl : p = m := by omega
    refine loop_round (wpX_wp (he w0 w T' _ e1 (fun q hq => ?_) e4 fun T2 w2 f1 f2 f3 f4 => ?_))
    · rcases List.mem_append.1 hq with hq | hq
      · rw [e3 _ (hnc q hq).1 (hnc q hq).2]
        exact hneed q (List.mem_append_left _ hq)
      · exact e2 q hq
    · simp only [Exit.then, Exit.inBlock, if_true]
      exact hQ T2 w2 f1 f2 (fun i hi hm => (f3 i hi hm).trans (e3 i hi hm)) f4
  | succ k ih =>
    intro p hp w T' e1 e2 e3 e4
    refine loop_round (wpX_wp (hr p (by omega) w0 w T' _ e1 (fun q hq => ?_) e4 fun T2 w2 f1 f2 f3 f4 => ?_))
    · rcases List.mem_append.1 hq with hq | hq
      · rw [e3 _ (hnc q hq).1 (hnc q hq).2]
        exact hneed q (List.mem_append_left _ hq)
      · exact e2 q hq
    · simp only [Exit.then]
      exact ih (p + 1) (by omega) w2 T2 f1 f2 (fun i hi hm => (f3 i hi hm).trans (e3 i hi hm)) f4
/-! ### vectors as rows; what is known of one or two vectors -/
def pt (b : Nat) : Value := .pointer (some ⟨b, 0, none⟩)
def vrow (b : Nat) (f : Nat → Int) : Rw := ⟨b, (bs f).toList, 54, true⟩
def hd1 : List (Nat → Int) → Nat → Int
  | f :: _ => f
  | [] => fun _ => 0
def hd2 : List (Nat → Int) → Nat → Int
  | _ :: f :: _ => f
  | _ => fun _ => 0
theorem one_fs {c : List Value} {fs : List (Nat → Int)} (h : [c] = fs.map (fun x => (bs x).toList)) : ∃ x, fs = [x] ∧ c = (bs x).toList := by
  match fs, h with
  | [x], h => simp only [List.map_cons, List.map_nil, List.cons.injEq, and_true] at h; exact ⟨x, rfl, h⟩
theorem two_fs {c d : List Value} {fs : List (Nat → Int)} (h : [c, d] = fs.map (fun x => (bs x).toList)) : ∃ x y, fs = [x, y] ∧ c = (bs x).toList ∧ d = (bs y).toList := by
  match fs, h with
  | [x, y], h => simp only [List.map_cons, List.map_nil, List.cons.injEq, and_true] at h; exact ⟨x, y, rfl, h.1, h.2⟩
theorem byt_one {a : Nat → Int} (ha : Byt a) : ∀ x ∈ [a], Byt x := fun x hx => by rw [List.mem_singleton.1 hx]; exact ha
theorem byt_two {a b : Nat → Int} (ha : Byt a) (hb : Byt b) : ∀ x ∈ [a, b], Byt x := fun x hx => by
  simp only [List.mem_cons, List.not_mem_nil, or_false] at hx
  rcases hx with rfl | rfl
  · exact ha
  · exact hb
theorem byt_three {a b c : Nat → Int} (ha : Byt a) (hb : Byt b) (hc : Byt c) : ∀ x ∈ [a, b, c], Byt x := fun x hx => by
  simp only [List.mem_cons, List.not_mem_nil, or_false] at hx
  rcases hx with rfl | rfl | rfl
  · exact ha
  · exact hb
  · exact hc
theorem byt_zero : Byt fun _ => 0 := fun _ => ⟨Int.le_refl _, by show (0 : Int) ≤ 255; decide⟩
/-- a sample -/
def smp (l : List Int) : Nat → Int := fun i => l.getD i 0
end Ev
end Go.Proofs.Ythpnhanabcipmaa
