/-
  Checked runs: results, calls, chains of operations. Of no function.
-/
import Derived.Test.YthpnhanabcipmaaEvA
namespace Go.Proofs.Ythpnhanabcipmaa
open Go.RowKit VecM
namespace Ev
section
variable {P : Program}
theorem evR_kp {T : Tm} {k : KK Value} (hk : KeepK k) : ∀ (rs : List ResultVar) (s : Sg) (acc : List Value), Kp s.acc (evR P .check rs T s acc k) := by
  intro rs
  induction rs with
  | nil =>
    intro s acc
    unfold evR
    split <;> exact hk _ _
  | cons r rs ih =>
    intro s acc
    cases r with
    | tmp t => unfold evR; exact ih s _
    | cell a t => unfold evR; exact loadE_kp fun v s => ih s _
theorem tup_rev (acc : List Value) (k : KK Value) (s : Sg) : (match acc with | [v] => k v s | acc => k (.tuple acc.reverse.toArray) s) = k (tupV acc.reverse) s := by
  match acc with
  | [] => rfl
  | [v] => rfl
  | a :: b :: l =>
    have : tupV (a :: b :: l).reverse = .tuple (a :: b :: l).reverse.toArray := by
      unfold tupV
      split
      · rename_i v h
        have := congrArg List.length h
        simp at this
      · rfl
    rw [this]
theorem evR_ok {w0 w : World} {T : Tm} {k : KK Value} (hk : KeepK k) : ∀ (rs : List ResultVar) (s : Sg) (acc : List Value), SG w0 s.M w → good (evR P .check rs T s acc k) →
    ∃ vs h, (rs.mapM (resF T)).run P w = .ok vs w ∧ ∀ A, ∃ B, A ⊆ B ∧ ∀ k', evR P .check rs T ⟨s.n, s.h, s.M, A⟩ acc k' = k' (tupV (acc.reverse ++ vs)) ⟨s.n, h, s.M, B⟩ := by
  intro rs
  induction rs with
  | nil =>
    intro s acc hS hg
    refine ⟨[], s.h, by simp, fun A => ⟨A, fun _ h => h, fun k' => ?_⟩⟩
    unfold evR
    rw [List.append_nil]
    exact tup_rev acc k' _
  | cons r rs ih =>
    intro s acc hS hg
    cases r with
    | tmp t =>
      unfold evR at hg
      obtain ⟨vs, h, hrun, hE⟩ := ih s _ hS hg
      refine ⟨tget T t :: vs, h, ?_, fun A => ?_⟩
      · simp [List.mapM_cons, resF, hrun, tget_eq]
      · obtain ⟨B, hB, hE⟩ := hE A
        refine ⟨B, hB, fun k' => ?_⟩
        unfold evR
        rw [hE k']
        simp
    | cell a t =>
      unfold evR at hg
      obtain ⟨ad, v, h, hx, hrun1, hE1⟩ := loadE_ok (fun v s => evR_kp hk rs s (v :: acc)) hS hg
      obtain ⟨B0, hB0, hE0⟩ := hE1 s.acc
      rw [hE0] at hg
      obtain ⟨vs, h2, hrun, hE⟩ := ih ⟨s.n, h, s.M, B0⟩ (v :: acc) hS hg
      refine ⟨v :: vs, h2, ?_, fun A => ?_⟩
      · rw [tget_eq] at hx
        have hx' : T.toArray[a]?.getD undef = .pointer (some ad) := by simpa using hx
        simp [List.mapM_cons, resF, hrun, hx', asAddr, hrun1]
      · obtain ⟨B1, hB1, hE1⟩ := hE1 A
        obtain ⟨B2, hB2, hE2⟩ := hE B1
        refine ⟨B2, fun _ hx => hB2 (hB1 hx), fun k' => ?_⟩
        unfold evR
        rw [hE1]
        refine (hE2 k').trans ?_
        simp
end
/-! ### calls -/
def RunKp (run : CallE) : Prop := ∀ f args s k, KeepK k → Kp s.acc (run f args s k)
def RunOk (run : (Nat → Fr) → CallE) : Prop :=
  ∀ (w0 w : World) (f : FuncId) (args : List Value) (γ : Nat → Fr) (n : Nat) (h : List It) (M : List Rw) (A : (Nat → Fr) → List It) (K : (Nat → Fr) → KK Value), (∀ β, KeepK (K β)) → SG w0 M w →
    (∀ β, Ag n β γ → good (run β f args ⟨n, h, M, A β⟩ (K β))) → Calls Try.prog f args.toArray w fun e w' => ∃ v, e = .returned v ∧ On w0 n γ K v w'
def SumOk (E : Env) : Prop := ∀ f args cs mk, E.sum f args = some (cs, mk) → ∀ fs : List (Nat → Int), cs = fs.map (fun x => (bs x).toList) → (∀ x ∈ fs, x ∈ E.known) → (∀ p ∈ (mk fs).2, p = true) →
  ∀ w, Calls Try.prog f args.toArray w fun e w' => e = .returned (mk fs).1 ∧ Gr w w'
theorem atK_mem : ∀ {K : List (Nat → Int)} {j : Nat} {x : Nat → Int}, atK K j = some x → x ∈ K := by
  intro K
  induction K with
  | nil => intro j x h; cases h
  | cons y K ih =>
    intro j x h
    cases j with
    | zero => cases h; exact List.mem_cons_self ..
    | succ j => exact List.mem_cons_of_mem _ (ih h)
theorem pickK_kp {K : List (Nat → Int)} {c : List Value} {s : Sg} {k : (Nat → Int) → Sg → Out} (hk : ∀ x s, Kp s.acc (k x s)) : Kp s.acc (pickK .check K c s k) := by
  unfold pickK
  simp only
  split
  · split
    · exact (hk _ _).tail
    · exact .err
  · exact .err
theorem pickK_inv {K : List (Nat → Int)} {c : List Value} {s : Sg} {k : (Nat → Int) → Sg → Out} (hk : ∀ x s, Kp s.acc (k x s)) (hg : good (pickK .check K c s k)) :
    ∃ x h, x ∈ K ∧ c = (bs x).toList ∧ ∀ A, ∃ B, A ⊆ B ∧ ∀ k', pickK .check K c ⟨s.n, s.h, s.M, A⟩ k' = k' x ⟨s.n, h, s.M, B⟩ := by
  unfold pickK at hg
  simp only at hg
  split at hg
  · rename_i j h hh
    split at hg
    · rename_i x hx
      have e := (hk x ⟨s.n, h, s.M, .eqv (.agg ⟨c⟩) (.agg (bs x)) :: s.acc⟩).holds hg
      simp only [It.l, It.r, Lv.v.injEq, Value.agg.injEq] at e
      refine ⟨x, h, atK_mem hx, by rw [← e], fun A => ⟨.eqv (.agg ⟨c⟩) (.agg (bs x)) :: A, fun _ hq => List.mem_cons_of_mem _ hq, fun k' => ?_⟩⟩
      unfold pickK
      simp only [hh, hx]
    · exact absurd hg not_good
  · exact absurd hg not_good
theorem pickKs_kp {K : List (Nat → Int)} {k : List (Nat → Int) → Sg → Out} (hk : ∀ fs s, Kp s.acc (k fs s)) : ∀ (cs : List (List Value)) (fs : List (Nat → Int)) (s : Sg), Kp s.acc (pickKs .check K cs fs s k) := by
  intro cs
  induction cs with
  | nil => exact fun fs s => hk fs s
  | cons c cs ih => exact fun fs s => pickK_kp fun x s => ih _ s
theorem pickKs_inv {K : List (Nat → Int)} {k : List (Nat → Int) → Sg → Out} (hk : ∀ fs s, Kp s.acc (k fs s)) : ∀ (cs : List (List Value)) (fs : List (Nat → Int)) (s : Sg), good (pickKs .check K cs fs s k) →
    ∃ gs h, cs = gs.map (fun x => (bs x).toList) ∧ (∀ x ∈ gs, x ∈ K) ∧ ∀ A, ∃ B, A ⊆ B ∧ ∀ k', pickKs .check K cs fs ⟨s.n, s.h, s.M, A⟩ k' = k' (fs ++ gs) ⟨s.n, h, s.M, B⟩ := by
  intro cs
  induction cs with
  | nil => exact fun fs s _ => ⟨[], s.h, rfl, fun _ h => (by cases h), fun A => ⟨A, fun _ h => h, fun k' => by rw [List.append_nil]; rfl⟩⟩
  | cons c cs ih =>
    intro fs s hg
    have hg : good (pickK .check K c s fun x s => pickKs .check K cs (fs ++ [x]) s k) := hg
    obtain ⟨x, h, hx, hc, hE⟩ := pickK_inv (fun x s => pickKs_kp hk cs _ s) hg
    obtain ⟨B0, _, hE0⟩ := hE s.acc
    rw [hE0] at hg
    obtain ⟨gs, h2, hcs, hgs, hE2⟩ := ih _ _ hg
    refine ⟨x :: gs, h2, by rw [hc, hcs]; rfl, fun y hy => ?_, fun A => ?_⟩
    · rcases List.mem_cons.1 hy with rfl | hy
      · exact hx
      · exact hgs y hy
    · obtain ⟨B1, hB1, hE1⟩ := hE A
      obtain ⟨B2, hB2, hE3⟩ := hE2 B1
      refine ⟨B2, fun _ hx => hB2 (hB1 hx), fun k' => ?_⟩
      show pickK .check K c _ (fun x s => pickKs .check K cs (fs ++ [x]) s k') = _
      rw [hE1, hE3, List.append_assoc]
      rfl
theorem pickPs_kp {k : Sg → Out} (hk : ∀ s, Kp s.acc (k s)) : ∀ (ps : List Bool) (s : Sg), Kp s.acc (pickPs .check ps s k) := by
  intro ps
  induction ps with
  | nil => exact hk
  | cons p ps ih =>
    intro s
    unfold pickPs
    refine pickCon_kp fun b s => ?_
    cases b
    · exact .err
    · exact ih s
theorem pickPs_inv {k : Sg → Out} (hk : ∀ s, Kp s.acc (k s)) : ∀ (ps : List Bool) (s : Sg), good (pickPs .check ps s k) →
    (∀ p ∈ ps, p = true) ∧ ∃ h, ∀ A, ∃ B, A ⊆ B ∧ ∀ k', pickPs .check ps ⟨s.n, s.h, s.M, A⟩ k' = k' ⟨s.n, h, s.M, B⟩ := by
  intro ps
  induction ps with
  | nil => exact fun s _ => ⟨fun _ h => (by cases h), s.h, fun A => ⟨A, fun _ h => h, fun _ => rfl⟩⟩
  | cons p ps ih =>
    intro s hg
    unfold pickPs at hg
    have hkp : ∀ (b : Bool) (s : Sg), Kp s.acc (match b with | true => pickPs .check ps s k | false => .error 73) := fun b s => by
      cases b
      · exact .err
      · exact pickPs_kp hk ps s
    obtain ⟨b, h, hb, hE⟩ := pickCon_inv hkp hg
    rw [hE s.acc] at hg
    cases b with
    | false => exact absurd hg not_good
    | true =>
      obtain ⟨hps, h2, hE2⟩ := ih _ hg
      refine ⟨fun q hq => ?_, h2, fun A => ?_⟩
      · rcases List.mem_cons.1 hq with rfl | hq
        · exact hb
        · exact hps q hq
      · obtain ⟨B, hB, hE3⟩ := hE2 (.con p true :: A)
        refine ⟨B, fun _ hx => hB (List.mem_cons_of_mem _ hx), fun k' => ?_⟩
        unfold pickPs
        rw [hE A]
        exact hE3 k'
theorem callE_kp {E : Env} {run : CallE} (hr : RunKp run) : RunKp (callE E .check run) := by
  intro f args s k hk
  unfold callE
  split
  · exact pickKs_kp (fun fs s => pickPs_kp (fun s => hk _ s) _ s) _ _ _
  · exact hr _ _ _ _ hk
theorem callE_ok {E : Env} {run : (Nat → Fr) → CallE} (hs : SumOk E) (hr : RunOk run) : RunOk (fun β => callE E .check (run β)) := by
  intro w0 w f args γ n h M A K hk hS hg
  cases hq : E.sum f args with
  | none =>
    refine hr w0 w f args γ n h M A K hk hS fun β hβ => ?_
    have := hg β hβ
    unfold callE at this
    simp only [hq] at this
    exact this
  | some p =>
    obtain ⟨cs, mk⟩ := p
    have hg' : ∀ β, Ag n β γ → good (pickKs .check E.known cs [] ⟨n, h, M, A β⟩ fun fs s => pickPs .check (mk fs).2 s fun s => K β (mk fs).1 s) := fun β hβ => by
      have := hg β hβ
      unfold callE at this
      simp only [hq] at this
      exact this
    obtain ⟨gs, h', hcs, hgs, hE⟩ := pickKs_inv (fun fs s => pickPs_kp (fun s => hk γ _ s) _ s) cs [] _ (hg' γ .refl)
    simp only [List.nil_append] at hE
    have hg2 : ∀ β, Ag n β γ → good (pickPs .check (mk gs).2 ⟨n, h', M, Classical.choose (hE (A β))⟩ fun s => K β (mk gs).1 s) := fun β hβ => by
      have h1 := hg' β hβ
      have h2 := (Classical.choose_spec (hE (A β))).2 (fun fs s => pickPs .check (mk fs).2 s fun s => K β (mk fs).1 s)
      rw [h2] at h1
      exact h1
    obtain ⟨hps, h3, hE2⟩ := pickPs_inv (fun s => hk γ _ s) _ _ (hg2 γ .refl)
    refine (hs f args cs mk hq gs hcs hgs hps w).mono fun e w' ⟨he, hw⟩ => ⟨(mk gs).1, he, γ, n, h3, M, fun β => Classical.choose (hE2 (Classical.choose (hE (A β)))), hS.grow hw, Nat.le_refl _, .refl, fun β hβ => ?_⟩
    have h1 := hg2 β hβ
    have h2 := (Classical.choose_spec (hE2 (Classical.choose (hE (A β))))).2 (fun s => K β (mk gs).1 s)
    rw [h2] at h1
    exact h1
/-! ### chains of operations -/
noncomputable def putL (T : Tm) (d : Option Tmp) (v : Value) : Tm :=
  match d with
  | some d => Classical.choose (tput_ex T d v)
  | none => T
theorem putT_eq (T : Tm) (d : Option Tmp) (v : Value) (k : Tm → Out) : putT T d v k = k (putL T d v) := by
  cases d with
  | none => rfl
  | some d => exact (Classical.choose_spec (tput_ex T d v)).1 k
theorem put_T (T : Tm) (d : Option Tmp) (v : Value) (ds : List Deferred) : (⟨T.toArray, ds⟩ : Act).put d v = ⟨(putL T d v).toArray, ds⟩ := by
  cases d with
  | none => rfl
  | some d => simp only [Act.put, putL, (Classical.choose_spec (tput_ex T d v)).2]
theorem concE_kp {E : Env} {o : Oper} {v : Value} {s : Sg} {k : KK Value} (hk : KeepK k) : Kp s.acc (concE E .check o v s k) := by
  unfold concE
  split
  · exact hk _ _
  · split
    · simp only
      split
      · exact (hk _ _).tail
      · exact .err
    · exact .err
theorem concE_inv {E : Env} {o : Oper} {v : Value} {s : Sg} {k : KK Value} (hk : KeepK k) (hg : good (concE E .check o v s k)) :
    ∃ h, ∀ A, ∃ B, A ⊆ B ∧ ∀ k', concE E .check o v ⟨s.n, s.h, s.M, A⟩ k' = k' v ⟨s.n, h, s.M, B⟩ := by
  unfold concE at hg
  split at hg
  · rename_i hc
    exact ⟨s.h, fun A => ⟨A, fun _ h => h, fun k' => by unfold concE; simp only [hc]⟩⟩
  · rename_i hc
    split at hg
    · rename_i kd z
      simp only at hg
      split at hg
      · rename_i k0 z0 l0 h hh
        have e := (hk (.int kd z0) ⟨s.n, h, s.M, .con (z == z0) true :: s.acc⟩).holds hg
        simp only [It.l, It.r, Lv.v.injEq, Value.bool.injEq, beq_iff_eq] at e
        refine ⟨h, fun A => ⟨.con (z == z0) true :: A, fun _ h => List.mem_cons_of_mem _ h, fun k' => ?_⟩⟩
        unfold concE
        simp only [hc, hh, e]
      · exact absurd hg not_good
    · exact absurd hg not_good
theorem encR_inj {r r' : Rw} (h : encR r = encR r') : r = r' := by
  obtain ⟨b, c, t, o⟩ := r
  obtain ⟨b', c', t', o'⟩ := r'
  simp only [encR, Value.tuple.injEq, Array.mk.injEq, List.cons.injEq, Value.int.injEq, true_and, Value.bool.injEq, Value.agg.injEq, and_true] at h
  obtain ⟨h1, h2, h3, h4⟩ := h
  have h1 := Int.ofNat.inj h1
  have h2 := Int.ofNat.inj h2
  subst h1 h2 h3 h4
  rfl
theorem encM_inj {M M' : List Rw} (h : encM M = encM M') : M = M' := by
  simp only [encM, Value.tuple.injEq, Array.mk.injEq] at h
  induction M generalizing M' with
  | nil => cases M' with
    | nil => rfl
    | cons r M' => simp at h
  | cons r M ih => cases M' with
    | nil => simp at h
    | cons r' M' =>
      simp only [List.map_cons, List.cons.injEq] at h
      rw [encR_inj h.1, ih h.2]
theorem needE_sub (T : Tm) : ∀ (l : List (Nat × Value)) (A : List It), A ⊆ needE T l A := by
  intro l
  induction l with
  | nil => exact fun A _ h => h
  | cons p l ih =>
    obtain ⟨i, v⟩ := p
    exact fun A x hx => ih _ (List.mem_cons_of_mem _ hx)
theorem needE_mem (T : Tm) : ∀ (l : List (Nat × Value)) (A : List It), ∀ p ∈ l, It.eqv (tget T p.1) p.2 ∈ needE T l A := by
  intro l
  induction l with
  | nil => intro A p hp; cases hp
  | cons q l ih =>
    obtain ⟨i, v⟩ := q
    intro A p hp
    rcases List.mem_cons.1 hp with rfl | hp
    · exact needE_sub T l _ (List.mem_cons_self ..)
    · exact ih _ p hp
theorem Kp.sub {A A' : List It} {o : Out} (h : Kp A' o) (hs : A ⊆ A') : Kp A o := fun l hl hg x hx => h l hl hg x (hs hx)
theorem opI_sub (H : OHole) (T : Tm) (M : List Rw) (A : List It) : A ⊆ opI .check H T M A := fun _ hx => needE_sub T _ _ (List.mem_cons_of_mem _ hx)
theorem rowsK_eq (n : Nat) : ∀ (l : List Rw) (k : List Rw → Out), rowsK n l k = k l := by
  induction n with
  | zero => exact fun _ _ => rfl
  | succ n ih =>
    intro l k
    cases l with
    | nil => rfl
    | cons x l => exact ih l fun q => k (x :: q)
/-- the rows to which values lead, as a fact -/
def Res1 (M : List Rw) : List Value → List (Nat × Rw) → Prop
  | [], L => L = []
  | v :: vs, L => match refB v with
    | none => Res1 M vs L
    | some b => ∃ j r L', L = (j, r) :: L' ∧ M[j]? = some r ∧ b = r.b ∧ Res1 M vs L'
def Res2 (dep : Rw → Bool) (M : List Rw) : List Value → List (Nat × Rw) → Prop
  | [], L => L = []
  | v :: vs, L => match refB v with
    | none => Res2 dep M vs L
    | some b => ∃ j r L1 L2, L = (j, r) :: (L1 ++ L2) ∧ M[j]? = some r ∧ b = r.b ∧ (match dep r with | true => Res1 M r.c L1 | false => L1 = []) ∧ Res2 dep M vs L2
theorem res1_none {md : Md} {v : Value} (hv : refB v = none) (vs : List Value) (L : List (Nat × Rw)) (s : Sg) (k : List (Nat × Rw) → Sg → Out) : res1 md (v :: vs) L s k = res1 md vs L s k := by
  show (match refB v with | none => res1 md vs L s k | some b => pickRow md b s fun j r s => res1 md vs (L ++ [(j, r)]) s k) = _
  rw [hv]
theorem res1_some {md : Md} {v : Value} {b : Nat} (hv : refB v = some b) (vs : List Value) (L : List (Nat × Rw)) (s : Sg) (k : List (Nat × Rw) → Sg → Out) : res1 md (v :: vs) L s k = pickRow md b s fun j r s => res1 md vs (L ++ [(j, r)]) s k := by
  show (match refB v with | none => res1 md vs L s k | some b => pickRow md b s fun j r s => res1 md vs (L ++ [(j, r)]) s k) = _
  rw [hv]
theorem res2_none {md : Md} {dep : Rw → Bool} {v : Value} (hv : refB v = none) (vs : List Value) (L : List (Nat × Rw)) (s : Sg) (k : List (Nat × Rw) → Sg → Out) : res2 md dep (v :: vs) L s k = res2 md dep vs L s k := by
  show (match refB v with | none => res2 md dep vs L s k | some b => pickRow md b s fun j r s => match dep r with | true => res1 md r.c (L ++ [(j, r)]) s (fun L s => res2 md dep vs L s k) | false => res2 md dep vs (L ++ [(j, r)]) s k) = _
  rw [hv]
theorem res2_some {md : Md} {dep : Rw → Bool} {v : Value} {b : Nat} (hv : refB v = some b) (vs : List Value) (L : List (Nat × Rw)) (s : Sg) (k : List (Nat × Rw) → Sg → Out) : res2 md dep (v :: vs) L s k = pickRow md b s fun j r s => match dep r with | true => res1 md r.c (L ++ [(j, r)]) s (fun L s => res2 md dep vs L s k) | false => res2 md dep vs (L ++ [(j, r)]) s k := by
  show (match refB v with | none => res2 md dep vs L s k | some b => pickRow md b s fun j r s => match dep r with | true => res1 md r.c (L ++ [(j, r)]) s (fun L s => res2 md dep vs L s k) | false => res2 md dep vs (L ++ [(j, r)]) s k) = _
  rw [hv]
theorem res1_kp {k : List (Nat × Rw) → Sg → Out} (hk : ∀ L s, Kp s.acc (k L s)) : ∀ (vs : List Value) (L : List (Nat × Rw)) (s : Sg), Kp s.acc (res1 .check vs L s k) := by
  intro vs
  induction vs with
  | nil => exact hk
  | cons v vs ih =>
    intro L s
    unfold res1
    split
    · exact ih L s
    · exact pickRow_kp fun j r s => ih _ s
theorem res1_inv {k : List (Nat × Rw) → Sg → Out} (hk : ∀ L s, Kp s.acc (k L s)) : ∀ (vs : List Value) (L : List (Nat × Rw)) (s : Sg), good (res1 .check vs L s k) →
    ∃ L' h, Res1 s.M vs L' ∧ ∀ A, ∃ B, A ⊆ B ∧ ∀ k', res1 .check vs L ⟨s.n, s.h, s.M, A⟩ k' = k' (L ++ L') ⟨s.n, h, s.M, B⟩ := by
  intro vs
  induction vs with
  | nil => exact fun L s _ => ⟨[], s.h, rfl, fun A => ⟨A, fun _ h => h, fun k' => by rw [List.append_nil]; rfl⟩⟩
  | cons v vs ih =>
    intro L s hg
    cases hv : refB v with
    | none =>
      rw [res1_none hv] at hg
      obtain ⟨L', h, h1, h2⟩ := ih L s hg
      refine ⟨L', h, by unfold Res1; rw [hv]; exact h1, fun A => ?_⟩
      obtain ⟨B, hB, h3⟩ := h2 A
      exact ⟨B, hB, fun k' => (by rw [res1_none hv]; exact h3 k')⟩
    | some b =>
      rw [res1_some hv] at hg
      obtain ⟨j, h, r, hj, hb, he⟩ := pickRow_inv (fun j r s => res1_kp hk vs (L ++ [(j, r)]) s) hg
      rw [he s.acc] at hg
      obtain ⟨L', h2, h3, h4⟩ := ih _ _ hg
      refine ⟨(j, r) :: L', h2, by unfold Res1; rw [hv]; exact ⟨j, r, L', rfl, hj, hb, h3⟩, fun A => ?_⟩
      obtain ⟨B, hB, h5⟩ := h4 (.eqv (.int .u64 b) (.int .u64 r.b) :: A)
      refine ⟨B, fun _ hx => hB (List.mem_cons_of_mem _ hx), fun k' => ?_⟩
      rw [res1_some hv]
      refine (he A _).trans ((h5 k').trans ?_)
      rw [List.append_assoc]
      rfl
theorem res2_kp {dep : Rw → Bool} {k : List (Nat × Rw) → Sg → Out} (hk : ∀ L s, Kp s.acc (k L s)) : ∀ (vs : List Value) (L : List (Nat × Rw)) (s : Sg), Kp s.acc (res2 .check dep vs L s k) := by
  intro vs
  induction vs with
  | nil => exact hk
  | cons v vs ih =>
    intro L s
    unfold res2
    split
    · exact ih L s
    · refine pickRow_kp fun j r s => ?_
      split
      · exact res1_kp (fun L s => ih L s) _ _ _
      · exact ih _ s
theorem res2_inv {dep : Rw → Bool} {k : List (Nat × Rw) → Sg → Out} (hk : ∀ L s, Kp s.acc (k L s)) : ∀ (vs : List Value) (L : List (Nat × Rw)) (s : Sg), good (res2 .check dep vs L s k) →
    ∃ L' h, Res2 dep s.M vs L' ∧ ∀ A, ∃ B, A ⊆ B ∧ ∀ k', res2 .check dep vs L ⟨s.n, s.h, s.M, A⟩ k' = k' (L ++ L') ⟨s.n, h, s.M, B⟩ := by
  intro vs
  induction vs with
  | nil => exact fun L s _ => ⟨[], s.h, rfl, fun A => ⟨A, fun _ h => h, fun k' => by rw [List.append_nil]; rfl⟩⟩
  | cons v vs ih =>
    intro L s hg
    cases hv : refB v with
    | none =>
      rw [res2_none hv] at hg
      obtain ⟨L', h, h1, h2⟩ := ih L s hg
      refine ⟨L', h, by unfold Res2; rw [hv]; exact h1, fun A => ?_⟩
      obtain ⟨B, hB, h3⟩ := h2 A
      exact ⟨B, hB, fun k' => (by rw [res2_none hv]; exact h3 k')⟩
    | some b =>
      rw [res2_some hv] at hg
      have hkr : ∀ j r s, Kp s.acc (match dep r with
          | true => res1 .check r.c (L ++ [(j, r)]) s fun L s => res2 .check dep vs L s k
          | false => res2 .check dep vs (L ++ [(j, r)]) s k) := fun j r s => by
        split
        · exact res1_kp (fun L s => res2_kp hk vs L s) _ _ _
        · exact res2_kp hk vs _ s
      obtain ⟨j, h, r, hj, hb, he⟩ := pickRow_inv hkr hg
      rw [he s.acc] at hg
      cases hd : dep r with
      | true =>
        simp only [hd] at hg
        obtain ⟨L1, h2, h3, h4⟩ := res1_inv (fun L s => res2_kp hk vs L s) r.c _ _ hg
        obtain ⟨B1, hB1, h5⟩ := h4 (.eqv (.int .u64 b) (.int .u64 r.b) :: s.acc)
        rw [h5] at hg
        obtain ⟨L2, h6, h7, h8⟩ := ih _ _ hg
        refine ⟨(j, r) :: (L1 ++ L2), h6, by unfold Res2; rw [hv]; exact ⟨j, r, L1, L2, rfl, hj, hb, by rw [hd]; exact h3, h7⟩, fun A => ?_⟩
        obtain ⟨B2, hB2, h9⟩ := h4 (.eqv (.int .u64 b) (.int .u64 r.b) :: A)
        obtain ⟨B3, hB3, h10⟩ := h8 B2
        refine ⟨B3, fun _ hx => hB3 (hB2 (List.mem_cons_of_mem _ hx)), fun k' => ?_⟩
        rw [res2_some hv]
        refine (he A _).trans ?_
        simp only [hd]
        refine (h9 _).trans ((h10 k').trans ?_)
        simp [List.append_assoc]
      | false =>
        simp only [hd] at hg
        obtain ⟨L2, h6, h7, h8⟩ := ih _ _ hg
        refine ⟨(j, r) :: ([] ++ L2), h6, by unfold Res2; rw [hv]; exact ⟨j, r, [], L2, rfl, hj, hb, by rw [hd], h7⟩, fun A => ?_⟩
        obtain ⟨B3, hB3, h10⟩ := h8 (.eqv (.int .u64 b) (.int .u64 r.b) :: A)
        refine ⟨B3, fun _ hx => hB3 (List.mem_cons_of_mem _ hx), fun k' => ?_⟩
        rw [res2_some hv]
        refine (he A _).trans ?_
        simp only [hd]
        refine (h10 k').trans ?_
        simp [List.append_assoc]
noncomputable def kMs (β : Nat → Fr) (D : MSum) (args : List Value) (o : Oper) (T : Tm) (k : KK Tm) (L : List (Nat × Rw)) (s : Sg) : Out :=
  match D.hole s.n args L s.M with
  | some H => pickPs .check H.pre s fun s => k (putL T o.dst (H.v (frL β s.n H.n))) ⟨s.n + H.n, s.h, H.out (frL β s.n H.n), s.acc⟩
  | none => .error 120
theorem kMs_kp {β : Nat → Fr} {D : MSum} {args : List Value} {o : Oper} {T : Tm} {k : KK Tm} (hk : KeepK k) : ∀ L s, Kp s.acc (kMs β D args o T k L s) := by
  intro L s
  unfold kMs
  split
  · rename_i H _
    exact pickPs_kp (k := fun s => k (putL T o.dst (H.v (frL β s.n H.n))) ⟨s.n + H.n, s.h, H.out (frL β s.n H.n), s.acc⟩) (fun s => hk _ ⟨s.n + H.n, s.h, _, s.acc⟩) H.pre s
  · exact .err
noncomputable def kNx (E : Env) (β : Nat → Fr) (run : CallE) (o : Oper) (T : Tm) (k : KK Tm) (nx : Next) (s : Sg) : Out :=
  match nx with
  | .value v => concE E .check o v s fun v s => k (putL T o.dst v) s
  | .skip => k (putL T o.dst undef) s
  | .enter f args => match E.csum f args.toList s.M with
    | some H => pickPs .check H.pre ⟨s.n, s.h, s.M, cI .check H s.M s.acc⟩ fun s => k (putL T o.dst (H.v (frL β s.n H.n))) ⟨s.n + H.n, s.h, H.lay (frL β s.n H.n) ++ s.M, s.acc⟩
    | none => match E.msum f with
      | some D => res2 .check D.dep args.toList [] s fun L s => match D.hole s.n args.toList L s.M with
        | some H => pickPs .check H.pre s fun s => k (putL T o.dst (H.v (frL β s.n H.n))) ⟨s.n + H.n, s.h, H.out (frL β s.n H.n), s.acc⟩
        | none => .error 120
      | none => callE E .check run f args.toList s fun v s => k (putL T o.dst v) s
  | _ => .error 50
noncomputable def kOp (E : Env) (β : Nat → Fr) (run : CallE) (o : Oper) (T : Tm) (k : KK Tm) (g : Bool) (s : Sg) : Out :=
  match g with
  | false => k (putL T o.dst undef) s
  | true => match E.oph o T s.M with
    | some H => match Nat.beq T.n H.n with
      | true => pickPs .check H.pre ⟨s.n, s.h, s.M, opI .check H T s.M s.acc⟩ fun s => k (putL T o.dst (H.v.getD undef)) ⟨s.n, s.h, H.rows1, s.acc⟩
      | false => .error 102
    | none => match E.aop o T s.M with
    | some H => match Nat.beq T.n H.n with
      | true => pickPs .check H.pre ⟨s.n, s.h, s.M, needI .check H T s.acc⟩ fun s => k (putL T o.dst ((H.v (frL β s.n H.nf)).getD undef)) ⟨s.n + H.nf, s.h, H.out (frL β s.n H.nf), s.acc⟩
      | false => .error 123
    | none => match fastV E.P (evalT T) o.op with
    | some v => k (putL T o.dst v) s
    | none => match appOf o with
    | some (x, y, t) => appE E.P .check β (evalT T x) (evalT T y) t s fun v s => k (putL T o.dst v) s
    | none => match o.op with
      | .load t x => loadE E.P .check (evalT T x) t s fun v s => k (putL T o.dst v) s
      | .store t x y => storeE E.P .check β (evalT T x) (evalT T y) t s fun s => k (putL T o.dst undef) s
      | .pick c a b => pickV .check (evalT T c) (evalT T a) (evalT T b) s fun v s => k (putL T o.dst v) s
      | _ => evS E.P .check β (execOp (evalT T) o) s (kNx E β run o T k)
theorem evO_cons (E : Env) (β : Nat → Fr) (run : CallE) (all : List Oper) (o : Oper) (l : List Oper) (T : Tm) (s : Sg) (K : KK Tm) :
    evO E .check β run all (o :: l) T s K = askG .check all T o s (kOp E β run o T fun T s => evO E .check β run all l T s K) := by
  have e : ∀ g s, (match g with
      | false => putT T o.dst undef fun T => evO E .check β run all l T s K
      | true => match E.oph o T s.M with
      | some H => match Nat.beq T.n H.n with
        | true => pickPs .check H.pre ⟨s.n, s.h, s.M, opI .check H T s.M s.acc⟩ fun s => putT T o.dst (H.v.getD undef) fun T => evO E .check β run all l T ⟨s.n, s.h, H.rows1, s.acc⟩ K
        | false => .error 102
      | none => match E.aop o T s.M with
      | some H => match Nat.beq T.n H.n with
        | true => pickPs .check H.pre ⟨s.n, s.h, s.M, needI .check H T s.acc⟩ fun s => putT T o.dst ((H.v (frL β s.n H.nf)).getD undef) fun T => rowsK H.nk (H.out (frL β s.n H.nf)) fun M => evO E .check β run all l T ⟨s.n + H.nf, s.h, M, s.acc⟩ K
        | false => .error 123
      | none => match fastV E.P (evalT T) o.op with
        | some v => putT T o.dst v fun T => evO E .check β run all l T s K
        | none => match appOf o with
        | some (x, y, t) => appE E.P .check β (evalT T x) (evalT T y) t s fun v s => putT T o.dst v fun T => evO E .check β run all l T s K
        | none => match o.op with
          | .load t x => loadE E.P .check (evalT T x) t s fun v s => putT T o.dst v fun T => evO E .check β run all l T s K
          | .store t x y => storeE E.P .check β (evalT T x) (evalT T y) t s fun s => putT T o.dst undef fun T => evO E .check β run all l T s K
          | .pick c a b => pickV .check (evalT T c) (evalT T a) (evalT T b) s fun v s => putT T o.dst v fun T => evO E .check β run all l T s K
          | _ => evS E.P .check β (execOp (evalT T) o) s fun nx s => match nx with
            | .value v => concE E .check o v s fun v s => putT T o.dst v fun T => evO E .check β run all l T s K
            | .skip => putT T o.dst undef fun T => evO E .check β run all l T s K
            | .enter f args => match E.csum f args.toList s.M with
              | some H => pickPs .check H.pre ⟨s.n, s.h, s.M, cI .check H s.M s.acc⟩ fun s => putT T o.dst (H.v (frL β s.n H.n)) fun T => evO E .check β run all l T ⟨s.n + H.n, s.h, H.lay (frL β s.n H.n) ++ s.M, s.acc⟩ K
              | none => match E.msum f with
                | some D => res2 .check D.dep args.toList [] s fun L s => match D.hole s.n args.toList L s.M with
                  | some H => pickPs .check H.pre s fun s => putT T o.dst (H.v (frL β s.n H.n)) fun T => rowsK H.nk (H.out (frL β s.n H.n)) fun M => evO E .check β run all l T ⟨s.n + H.n, s.h, M, s.acc⟩ K
                  | none => .error 120
                | none => callE E .check run f args.toList s fun v s => putT T o.dst v fun T => evO E .check β run all l T s K
            | _ => .error 50) = kOp E β run o T (fun T s => evO E .check β run all l T s K) g s := by
    intro g s
    have e2 : (fun (nx : Next) (s : Sg) => (match nx with
            | .value v => concE E .check o v s fun v s => putT T o.dst v fun T => evO E .check β run all l T s K
            | .skip => putT T o.dst undef fun T => evO E .check β run all l T s K
            | .enter f args => match E.csum f args.toList s.M with
              | some H => pickPs .check H.pre ⟨s.n, s.h, s.M, cI .check H s.M s.acc⟩ fun s => putT T o.dst (H.v (frL β s.n H.n)) fun T => evO E .check β run all l T ⟨s.n + H.n, s.h, H.lay (frL β s.n H.n) ++ s.M, s.acc⟩ K
              | none => match E.msum f with
                | some D => res2 .check D.dep args.toList [] s fun L s => match D.hole s.n args.toList L s.M with
                  | some H => pickPs .check H.pre s fun s => putT T o.dst (H.v (frL β s.n H.n)) fun T => rowsK H.nk (H.out (frL β s.n H.n)) fun M => evO E .check β run all l T ⟨s.n + H.n, s.h, M, s.acc⟩ K
                  | none => .error 120
                | none => callE E .check run f args.toList s fun v s => putT T o.dst v fun T => evO E .check β run all l T s K
            | _ => .error 50 : Out)) = kNx E β run o T fun T s => evO E .check β run all l T s K := by
      funext nx s
      simp only [putT_eq, rowsK_eq]
      unfold kNx
      rfl
    simp only [putT_eq, rowsK_eq] at e2 ⊢
    rw [e2]
    unfold kOp
    rfl
  have : (fun g s => _) = kOp E β run o T (fun T s => evO E .check β run all l T s K) := funext fun g => funext fun s => e g s
  exact congrArg (askG .check all T o s) this
theorem kNx_kp {E : Env} {β : Nat → Fr} {run : CallE} {o : Oper} {T : Tm} {k : KK Tm} (hr : RunKp run) (hk : KeepK k) : KeepK (kNx E β run o T k) := by
  intro nx s
  unfold kNx
  split
  · exact concE_kp fun v s => hk _ _
  · exact hk _ _
  · split
    · rename_i H _
      exact Kp.tail (x := .eqv (encM s.M) (encM H.rows)) (pickPs_kp (k := fun s => k (putL T o.dst (H.v (frL β s.n H.n))) ⟨s.n + H.n, s.h, H.lay (frL β s.n H.n) ++ s.M, s.acc⟩) (fun s => hk _ ⟨s.n + H.n, s.h, _, s.acc⟩) H.pre ⟨s.n, s.h, s.M, cI .check H s.M s.acc⟩)
    · split
      · exact res2_kp (kMs_kp hk) _ _ _
      · exact callE_kp hr _ _ _ _ fun v s => hk _ _
  · exact .err
theorem kOp_kp {E : Env} {β : Nat → Fr} {run : CallE} {o : Oper} {T : Tm} {k : KK Tm} (hr : RunKp run) (hk : KeepK k) (g : Bool) (s : Sg) : Kp s.acc (kOp E β run o T k g s) := by
  unfold kOp
  split
  · exact hk _ _
  · split
    · rename_i H _
      split
      · exact Kp.sub (pickPs_kp (k := fun s => k (putL T o.dst (H.v.getD undef)) ⟨s.n, s.h, H.rows1, s.acc⟩) (fun s => hk _ ⟨s.n, s.h, H.rows1, s.acc⟩) H.pre ⟨s.n, s.h, s.M, opI .check H T s.M s.acc⟩) (opI_sub H T s.M s.acc)
      · exact .err
    split
    · rename_i H _
      split
      · exact Kp.sub (pickPs_kp (k := fun s => k (putL T o.dst ((H.v (frL β s.n H.nf)).getD undef)) ⟨s.n + H.nf, s.h, H.out (frL β s.n H.nf), s.acc⟩) (fun s => hk _ ⟨s.n + H.nf, s.h, H.out (frL β s.n H.nf), s.acc⟩) H.pre ⟨s.n, s.h, s.M, needI .check H T s.acc⟩) (needE_sub T H.need s.acc)
      · exact .err
    split
    · exact hk _ _
    · split
      · exact appE_kp fun v s => hk _ _
      split
      · exact loadE_kp fun v s => hk _ _
      · exact storeE_kp fun s => hk _ _
      · exact pickV_kp fun v s => hk _ _
      · exact evS_kp _ _ _ (kNx_kp hr hk)
theorem evO_kp {E : Env} {β : Nat → Fr} {run : CallE} {all : List Oper} (hr : RunKp run) {K : KK Tm} (hk : KeepK K) : ∀ (l : List Oper) (T : Tm) (s : Sg), Kp s.acc (evO E .check β run all l T s K) := by
  intro l
  induction l with
  | nil => exact fun T s => hk T s
  | cons o l ih =>
    intro T s
    rw [evO_cons]
    exact askG_kp fun g s => kOp_kp hr (fun T s => ih T s) g s
/-- the operations whose runs are known, and the calls that are known by the rows -/
def OphOk (E : Env) : Prop := (∀ f args M H, E.csum f args M = some H → M = H.rows → (∀ b ∈ H.pre, b = true) → ∀ w0 w : World, SG w0 M w → Calls Try.prog f args.toArray w fun e w' => ∃ fr : List Fr, fr.length = H.n ∧ e = .returned (H.v fr) ∧ SG w0 (H.lay fr ++ M) w') ∧ (∀ o T M H, E.oph o T M = some H → T.n = H.n → (∀ p ∈ H.need, tget T p.1 = p.2) → M = H.rows → (∀ b ∈ H.pre, b = true) → ∀ w0 w : World, SG w0 M w →
  ∃ w', (execOp (evalT T) o).run Try.prog w = .ok (match H.v with | some v => .value v | none => .skip) w' ∧ SG w0 H.rows1 w') ∧
  (∀ f D, E.msum f = some D → ∀ k args L M H, D.hole k args L M = some H → Res2 D.dep M args L → (∀ b ∈ H.pre, b = true) → ∀ w0 w : World, SG w0 M w → Calls Try.prog f args.toArray w fun e w' => ∃ fr : List Fr, fr.length = H.n ∧ e = .returned (H.v fr) ∧ SG w0 (H.out fr) w') ∧ ∀ o T M H, E.aop o T M = some H → T.n = H.n → (∀ p ∈ H.need, tget T p.1 = p.2) → (∀ b ∈ H.pre, b = true) → ∀ w0 w : World, SG w0 M w →
  ∃ fr w', fr.length = H.nf ∧ (execOp (evalT T) o).run Try.prog w = .ok (match H.v fr with | some v => .value v | none => .skip) w' ∧ SG w0 (H.out fr) w'
/-- the operations that lay rows -/
def AopOk (E : Env) : Prop := ∀ o T M H, E.aop o T M = some H → T.n = H.n → (∀ p ∈ H.need, tget T p.1 = p.2) → (∀ b ∈ H.pre, b = true) → ∀ w0 w : World, SG w0 M w →
  ∃ fr w', fr.length = H.nf ∧ (execOp (evalT T) o).run Try.prog w = .ok (match H.v fr with | some v => .value v | none => .skip) w' ∧ SG w0 (H.out fr) w'
/-- the calls that may write rows -/
def MsOk (E : Env) : Prop := ∀ f D, E.msum f = some D → ∀ k args L M H, D.hole k args L M = some H → Res2 D.dep M args L → (∀ b ∈ H.pre, b = true) → ∀ w0 w : World, SG w0 M w → Calls Try.prog f args.toArray w fun e w' => ∃ fr : List Fr, fr.length = H.n ∧ e = .returned (H.v fr) ∧ SG w0 (H.out fr) w'
theorem no_ms {E : Env} (h : E.msum = fun _ => none) : MsOk E := fun _ _ hq => by rw [h] at hq; cases hq
theorem no_aop {E : Env} (h : E.aop = fun _ _ _ => none) : AopOk E := fun _ _ _ _ hq => by rw [h] at hq; cases hq
theorem no_oph {E : Env} (h : E.oph = fun _ _ _ => none) (h2 : E.csum = fun _ _ _ => none) (h3 : E.msum = fun _ => none := by rfl) (h4 : E.aop = fun _ _ _ => none := by rfl) : OphOk E := ⟨fun _ _ _ _ hq => (by rw [h2] at hq; cases hq), fun _ _ _ _ hq => (by rw [h] at hq; cases hq), no_ms h3, no_aop h4⟩
theorem oph_of {E : Env} (h2 : E.csum = fun _ _ _ => none) (h : ∀ o T M H, E.oph o T M = some H → T.n = H.n → (∀ p ∈ H.need, tget T p.1 = p.2) → M = H.rows → (∀ b ∈ H.pre, b = true) → ∀ w0 w : World, SG w0 M w →
  ∃ w', (execOp (evalT T) o).run Try.prog w = .ok (match H.v with | some v => .value v | none => .skip) w' ∧ SG w0 H.rows1 w') (h3 : E.msum = fun _ => none := by rfl) (h4 : E.aop = fun _ _ _ => none := by rfl) : OphOk E := ⟨fun _ _ _ _ hq => (by rw [h2] at hq; cases hq), h, no_ms h3, no_aop h4⟩
theorem csum_of {E : Env} (h : E.oph = fun _ _ _ => none) (h2 : ∀ f args M H, E.csum f args M = some H → M = H.rows → (∀ b ∈ H.pre, b = true) → ∀ w0 w : World, SG w0 M w → Calls Try.prog f args.toArray w fun e w' => ∃ fr : List Fr, fr.length = H.n ∧ e = .returned (H.v fr) ∧ SG w0 (H.lay fr ++ M) w') (h3 : E.msum = fun _ => none := by rfl) (h4 : E.aop = fun _ _ _ => none := by rfl) : OphOk E := ⟨h2, fun _ _ _ _ hq => (by rw [h] at hq; cases hq), no_ms h3, no_aop h4⟩
theorem msum_of {E : Env} (h : E.oph = fun _ _ _ => none) (h2 : E.csum = fun _ _ _ => none) (h3 : MsOk E) (h4 : AopOk E := by exact no_aop rfl) : OphOk E := ⟨fun _ _ _ _ hq => (by rw [h2] at hq; cases hq), fun _ _ _ _ hq => (by rw [h] at hq; cases hq), h3, h4⟩
theorem evO_ok {E : Env} (hP : E.P = Try.prog) (hs : SumOk E) (ho : OphOk E) {run : (Nat → Fr) → CallE} (hkp : ∀ β, RunKp (run β)) (hr : RunOk run) {w0 : World} {all : List Oper} {Q : Exit → Act → World → Prop} {K : (Nat → Fr) → KK Tm} (hk : ∀ β, KeepK (K β)) :
    ∀ (l : List Oper) (γ : Nat → Fr) (n : Nat) (h : List It) (M : List Rw) (A : (Nat → Fr) → List It) (T : Tm) (w : World), SG w0 M w →
      (∀ β, Ag n β γ → good (evO E .check β (run β) all l T ⟨n, h, M, A β⟩ (K β))) → (∀ T' w', On w0 n γ K T' w' → Q .normal ⟨T'.toArray, []⟩ w') → wpList Try.prog all.toArray Q l ⟨T.toArray, []⟩ w := by
  intro l
  induction l with
  | nil => exact fun γ n h M A T w hS hg hQ => hQ T w ⟨γ, n, h, M, A, hS, Nat.le_refl _, .refl, hg⟩
  | cons o l ih =>
    intro γ n h M A T w hS hg hQ
    have hk2 : ∀ β, KeepK fun T s => evO E .check β (run β) all l T s (K β) := fun β T s => evO_kp (hkp β) (hk β) l T s
    have h0 := hg γ .refl
    rw [evO_cons] at h0
    obtain ⟨g, h1, hw, hE⟩ := askG_inv (fun g s => kOp_kp (hkp γ) (hk2 γ) g s) h0
    have hg1 : ∀ β, Ag n β γ → good (kOp E β (run β) o T (fun T s => evO E .check β (run β) all l T s (K β)) g ⟨n, h1, M, Classical.choose (hE (A β))⟩) := fun β hβ => by
      have := hg β hβ
      rw [evO_cons] at this
      have h2 := (Classical.choose_spec (hE (A β))).2 (kOp E β (run β) o T fun T s => evO E .check β (run β) all l T s (K β))
      exact h2 ▸ this
    generalize hB : (fun β => Classical.choose (hE (A β))) = B at hg1
    have hg1 : ∀ β, Ag n β γ → good (kOp E β (run β) o T (fun T s => evO E .check β (run β) all l T s (K β)) g ⟨n, h1, M, B β⟩) := fun β hβ => by
      have := hg1 β hβ
      rw [← hB]; exact this
    clear h0
    -- how it goes on
    have hnext : ∀ (v : Value) (w' : World), On w0 n γ (fun β (_ : Unit) s => evO E .check β (run β) all l (putL T o.dst v) s (K β)) () w' → wpList Try.prog all.toArray Q l ((⟨T.toArray, []⟩ : Act).put o.dst v) w' := fun v w' hon => by
      obtain ⟨γ', n', h', M', A', hS', hle, hag, hgd⟩ := hon
      rw [put_T]
      exact ih γ' n' h' M' A' _ w' hS' hgd fun T' w'' hq => hQ T' w'' (hq.le hle hag)
    unfold wpList
    rw [hw]
    cases g with
    | false =>
      simp only [Bool.false_eq_true, if_false]
      exact hnext undef w ⟨γ, n, h1, M, B, hS, Nat.le_refl _, .refl, fun β hβ => hg1 β hβ⟩
    | true =>
      simp only [if_true]
      refine .inl ?_
      unfold Oper.wp
      have he := eval_T T []
      rw [he]
      cases hoph : E.oph o T M with
      | some H =>
        have hg2 : ∀ β, Ag n β γ → Nat.beq T.n H.n = true ∧ good (pickPs .check H.pre ⟨n, h1, M, opI .check H T M (B β)⟩ fun s => evO E .check β (run β) all l (putL T o.dst (H.v.getD undef)) ⟨s.n, s.h, H.rows1, s.acc⟩ (K β)) := fun β hβ => by
          have := hg1 β hβ
          unfold kOp at this
          simp only [hoph] at this
          split at this
          · rename_i hb; exact ⟨hb, this⟩
          · exact absurd this not_good
        have hkc : ∀ β, ∀ s : Sg, Kp s.acc (evO E .check β (run β) all l (putL T o.dst (H.v.getD undef)) ⟨s.n, s.h, H.rows1, s.acc⟩ (K β)) := fun β s => hk2 β _ ⟨s.n, s.h, _, s.acc⟩
        obtain ⟨hb, hg3⟩ := hg2 γ .refl
        have hall : ∀ y ∈ opI .check H T M (B γ), y.l = y.r := by
          obtain ⟨l', hl', hgl'⟩ := hg3
          exact pickPs_kp (hkc γ) _ _ l' hl' hgl'
        have hneed : ∀ p ∈ H.need, tget T p.1 = p.2 := fun p hp => by
          have := hall _ (needE_mem T _ _ p hp)
          simpa [It.l, It.r] using this
        have hrows : M = H.rows := by
          have := hall _ (needE_sub _ _ _ (List.mem_cons_self ..))
          simp only [It.l, It.r, Lv.v.injEq] at this
          exact encM_inj this
        obtain ⟨hpre, h2, hE⟩ := pickPs_inv (hkc γ) H.pre _ hg3
        obtain ⟨w', hrun, hS'⟩ := ho.2.1 o T M H hoph (Nat.eq_of_beq_eq_true hb) hneed hrows hpre w0 w hS
        rw [hrun]
        have hon : On w0 n γ (fun β (_ : Unit) s => evO E .check β (run β) all l (putL T o.dst (H.v.getD undef)) s (K β)) () w' := by
          refine ⟨γ, n, h2, H.rows1, fun β => Classical.choose (hE (opI .check H T M (B β))), hS', Nat.le_refl _, .refl, fun β hβ => ?_⟩
          have h4 := (hg2 β hβ).2
          have h5 : pickPs .check H.pre ⟨n, h1, M, opI .check H T M (B β)⟩ (fun s => evO E .check β (run β) all l (putL T o.dst (H.v.getD undef)) ⟨s.n, s.h, H.rows1, s.acc⟩ (K β)) = _ := (Classical.choose_spec (hE (opI .check H T M (B β)))).2 _
          rw [h5] at h4
          exact h4
        cases hv : H.v with
        | some v => rw [hv] at hon; exact hnext v w' hon
        | none => rw [hv] at hon; exact hnext undef w' hon
      | none =>
      cases haop : E.aop o T M with
      | some H =>
        have hg2 : ∀ β, Ag n β γ → Nat.beq T.n H.n = true ∧ good (pickPs .check H.pre ⟨n, h1, M, needI .check H T (B β)⟩ fun s => evO E .check β (run β) all l (putL T o.dst ((H.v (frL β s.n H.nf)).getD undef)) ⟨s.n + H.nf, s.h, H.out (frL β s.n H.nf), s.acc⟩ (K β)) := fun β hβ => by
          have := hg1 β hβ
          unfold kOp at this
          simp only [hoph, haop] at this
          split at this
          · rename_i hb; exact ⟨hb, this⟩
          · exact absurd this not_good
        have hkc : ∀ β, ∀ s : Sg, Kp s.acc (evO E .check β (run β) all l (putL T o.dst ((H.v (frL β s.n H.nf)).getD undef)) ⟨s.n + H.nf, s.h, H.out (frL β s.n H.nf), s.acc⟩ (K β)) := fun β s => hk2 β _ ⟨s.n + H.nf, s.h, _, s.acc⟩
        obtain ⟨hb, hg3⟩ := hg2 γ .refl
        have hall : ∀ y ∈ needI .check H T (B γ), y.l = y.r := by
          obtain ⟨l', hl', hgl'⟩ := hg3
          exact pickPs_kp (hkc γ) _ _ l' hl' hgl'
        have hneed : ∀ p ∈ H.need, tget T p.1 = p.2 := fun p hp => by
          have := hall _ (needE_mem T _ _ p hp)
          simpa [It.l, It.r] using this
        obtain ⟨hpre, h2, hE⟩ := pickPs_inv (hkc γ) H.pre _ hg3
        obtain ⟨fr, w', hfl, hrun, hS'⟩ := ho.2.2.2 o T M H haop (Nat.eq_of_beq_eq_true hb) hneed hpre w0 w hS
        rw [hrun]
        have hag2 : Ag n (fun i => if n ≤ i then fr.getD (i - n) (noB 0) else γ i) γ := fun i hi => if_neg (by omega)
        have hfr : ∀ β : Nat → Fr, Ag (n + H.nf) β (fun i => if n ≤ i then fr.getD (i - n) (noB 0) else γ i) → frL β n H.nf = fr := fun β hβ => by
          refine List.ext_getElem (by simp [frL, hfl]) fun i h1 h2 => ?_
          simp only [frL, List.getElem_map, List.getElem_range]
          rw [hβ (n + i) (by omega)]
          show (if n ≤ n + i then fr.getD (n + i - n) (noB 0) else γ (n + i)) = fr[i]
          rw [if_pos (by omega), Nat.add_sub_cancel_left]
          simp [h2]
        have hon : On w0 n γ (fun β (_ : Unit) s => evO E .check β (run β) all l (putL T o.dst ((H.v fr).getD undef)) s (K β)) () w' := by
          refine ⟨_, n + H.nf, h2, H.out fr, fun β => Classical.choose (hE (needI .check H T (B β))), hS', by omega, hag2, fun β hβ => ?_⟩
          have h4 := (hg2 β ((hβ.le (by omega)).trans hag2)).2
          have h5 : pickPs .check H.pre ⟨n, h1, M, needI .check H T (B β)⟩ (fun s => evO E .check β (run β) all l (putL T o.dst ((H.v (frL β s.n H.nf)).getD undef)) ⟨s.n + H.nf, s.h, H.out (frL β s.n H.nf), s.acc⟩ (K β)) = _ := (Classical.choose_spec (hE (needI .check H T (B β)))).2 _
          rw [h5] at h4
          simp only [hfr β hβ] at h4
          exact h4
        cases hv : H.v fr with
        | some v => rw [hv] at hon; exact hnext v w' hon
        | none => rw [hv] at hon; exact hnext undef w' hon
      | none =>
      cases hf : fastV E.P (evalT T) o.op with
      | some v =>
        rw [fastV_ok (hP ▸ hf)]
        refine hnext v w ⟨γ, n, h1, M, B, hS, Nat.le_refl _, .refl, fun β hβ => ?_⟩
        have := hg1 β hβ
        unfold kOp at this
        simp only [hoph, haop, hf] at this
        exact this
      | none =>
        cases hap : appOf o with
        | some p =>
          obtain ⟨x, y, t⟩ := p
          have hg2 : ∀ β, Ag n β γ → good (appE E.P .check β (evalT T x) (evalT T y) t ⟨n, h1, M, B β⟩ fun v s => evO E .check β (run β) all l (putL T o.dst v) s (K β)) := fun β hβ => by
            have := hg1 β hβ
            unfold kOp at this
            simp only [hoph, haop, hf, hap] at this
            exact this
          obtain ⟨v, w', hrun, hon⟩ := appE_ok (ty := o.type) (fun β v s => hk2 β _ s) hS hg2
          rw [hP] at hrun
          rw [exec_app hap hrun]
          exact hnext v w' hon
        | none =>
          by_cases hl : ∃ t x, o.op = .load t x
          · obtain ⟨t, x, ho⟩ := hl
            have hg2 : ∀ β, Ag n β γ → good (loadE E.P .check (evalT T x) t ⟨n, h1, M, B β⟩ fun v s => evO E .check β (run β) all l (putL T o.dst v) s (K β)) := fun β hβ => by
              have := hg1 β hβ
              unfold kOp at this
              simp only [hoph, haop, hf, hap, ho] at this
              exact this
            obtain ⟨a, v, h2, hx, hrun, hE⟩ := loadE_ok (fun v s => hk2 γ _ s) hS (hg2 γ .refl)
            have hr2 : (execOp (evalT T) o).run Try.prog w = .ok (.value v) w := by
              unfold execOp
              rw [hP] at hrun
              simp [ho, Instr.loadAt, Instr.sureAddr, hx, hrun]
            rw [hr2]
            refine hnext v w ⟨γ, n, h2, M, fun β => Classical.choose (hE (B β)), hS, Nat.le_refl _, .refl, fun β hβ => ?_⟩
            have h3 := (Classical.choose_spec (hE (B β))).2 (fun v s => evO E .check β (run β) all l (putL T o.dst v) s (K β))
            have h4 := hg2 β hβ
            rw [h3] at h4
            exact h4
          · by_cases hst : ∃ t x y, o.op = .store t x y
            · obtain ⟨t, x, y, ho⟩ := hst
              have hg2 : ∀ β, Ag n β γ → good (storeE E.P .check β (evalT T x) (evalT T y) t ⟨n, h1, M, B β⟩ fun s => evO E .check β (run β) all l (putL T o.dst undef) s (K β)) := fun β hβ => by
                have := hg1 β hβ
                unfold kOp at this
                simp only [hoph, haop, hf, hap, ho] at this
                exact this
              obtain ⟨a, w', hx, hrun, hon⟩ := storeE_ok (fun β s => hk2 β _ s) hS hg2
              have hr2 : (execOp (evalT T) o).run Try.prog w = .ok .skip w' := by
                unfold execOp
                rw [hP] at hrun
                simp [ho, Instr.storeAt, Instr.sureAddr, hx, hrun]
              rw [hr2]
              exact hnext undef w' hon
            · by_cases hpk : ∃ c a b, o.op = .pick c a b
              · obtain ⟨c, a, b, ho⟩ := hpk
                have hg2 : ∀ β, Ag n β γ → good (pickV .check (evalT T c) (evalT T a) (evalT T b) ⟨n, h1, M, B β⟩ fun v s => evO E .check β (run β) all l (putL T o.dst v) s (K β)) := fun β hβ => by
                  have := hg1 β hβ
                  unfold kOp at this
                  simp only [hoph, haop, hf, hap, ho] at this
                  exact this
                obtain ⟨q, h2, hx, hE⟩ := pickV_st (fun v s => hk2 γ _ s) (hg2 γ .refl)
                rw [run_pick ho hx]
                refine hnext _ w ⟨γ, n, h2, M, fun β => Classical.choose (hE (B β)), hS, Nat.le_refl _, .refl, fun β hβ => ?_⟩
                have h3 := (Classical.choose_spec (hE (B β))).2 (fun v s => evO E .check β (run β) all l (putL T o.dst v) s (K β))
                have h4 := hg2 β hβ
                rw [h3] at h4
                exact h4
              have hg2 : ∀ β, Ag n β γ → good (evS E.P .check β (execOp (evalT T) o) ⟨n, h1, M, B β⟩ (kNx E β (run β) o T fun T s => evO E .check β (run β) all l T s (K β))) := fun β hβ => by
                have := hg1 β hβ
                unfold kOp at this
                simp only [hoph, haop, hf, hap] at this
                split at this
                · rename_i ho; exact absurd ⟨_, _, ho⟩ hl
                · rename_i ho; exact absurd ⟨_, _, _, ho⟩ hst
                · rename_i ho; exact absurd ⟨_, _, _, ho⟩ hpk
                · exact this
              obtain ⟨nx, w', hrun, hon⟩ := evS_ok _ γ n h1 M B w (fun β => kNx E β (run β) o T fun T s => evO E .check β (run β) all l T s (K β)) (fun β => kNx_kp (hkp β) (hk2 β)) hS hg2
              rw [hP] at hrun
              rw [hrun]
              obtain ⟨γ', n', h', M', A', hS', hle, hag, hgd⟩ := hon
              cases nx with
              | value v =>
                have hk3 : ∀ β, KeepK fun (v : Value) (s : Sg) => evO E .check β (run β) all l (putL T o.dst v) s (K β) := fun β v s => hk2 β _ s
                have hgd' : ∀ β, Ag n' β γ' → good (concE E .check o v ⟨n', h', M', A' β⟩ fun v s => evO E .check β (run β) all l (putL T o.dst v) s (K β)) := hgd
                obtain ⟨h3, hE3⟩ := concE_inv (hk3 γ') (hgd' γ' .refl)
                refine hnext v w' ⟨γ', n', h3, M', fun β => Classical.choose (hE3 (A' β)), hS', hle, hag, fun β hβ => ?_⟩
                have h4 := (Classical.choose_spec (hE3 (A' β))).2 (fun v s => evO E .check β (run β) all l (putL T o.dst v) s (K β))
                have h5 := hgd' β hβ
                rw [h4] at h5
                exact h5
              | skip => exact hnext undef w' ⟨γ', n', h', M', A', hS', hle, hag, hgd⟩
              | enter f args =>
                  cases hcs : E.csum f args.toList M' with
                  | some H =>
                    have hgd' : ∀ β, Ag n' β γ' → good (pickPs .check H.pre ⟨n', h', M', cI .check H M' (A' β)⟩ fun s => evO E .check β (run β) all l (putL T o.dst (H.v (frL β s.n H.n))) ⟨s.n + H.n, s.h, H.lay (frL β s.n H.n) ++ s.M, s.acc⟩ (K β)) := fun β hβ => by
                      have h4 := hgd β hβ
                      unfold kNx at h4
                      simp only [hcs] at h4
                      exact h4
                    have hkc : ∀ β, ∀ s : Sg, Kp s.acc (evO E .check β (run β) all l (putL T o.dst (H.v (frL β s.n H.n))) ⟨s.n + H.n, s.h, H.lay (frL β s.n H.n) ++ s.M, s.acc⟩ (K β)) := fun β s => hk2 β _ ⟨s.n + H.n, s.h, _, s.acc⟩
                    have hrows : M' = H.rows := by
                      obtain ⟨l', hl', hgl'⟩ := hgd' γ' .refl
                      have := pickPs_kp (hkc γ') _ _ l' hl' hgl' _ (List.mem_cons_self ..)
                      simp only [It.l, It.r, Lv.v.injEq] at this
                      exact encM_inj this
                    obtain ⟨hpre, h2, hE⟩ := pickPs_inv (hkc γ') H.pre _ (hgd' γ' .refl)
                    have hc := ho.1 f args.toList M' H hcs hrows hpre w0 w' hS'
                    have hc : Calls Try.prog f args w' fun e w'' => ∃ fr : List Fr, fr.length = H.n ∧ e = .returned (H.v fr) ∧ SG w0 (H.lay fr ++ M') w'' := by simpa using hc
                    refine hc.mono fun e w'' ⟨fr, hfl, he, hS2⟩ => ?_
                    subst he
                    have hag2 : Ag n' (fun i => if n' ≤ i then fr.getD (i - n') (noB 0) else γ' i) γ' := fun i hi => if_neg (by omega)
                    have hfr : ∀ β : Nat → Fr, Ag (n' + H.n) β (fun i => if n' ≤ i then fr.getD (i - n') (noB 0) else γ' i) → frL β n' H.n = fr := fun β hβ => by
                      refine List.ext_getElem (by simp [frL, hfl]) fun i h1 h2 => ?_
                      simp only [frL, List.getElem_map, List.getElem_range]
                      rw [hβ (n' + i) (by omega)]
                      show (if n' ≤ n' + i then fr.getD (n' + i - n') (noB 0) else γ' (n' + i)) = fr[i]
                      rw [if_pos (by omega), Nat.add_sub_cancel_left]
                      simp [h2]
                    refine hnext (H.v fr) w'' ⟨_, n' + H.n, h2, H.lay fr ++ M', fun β => Classical.choose (hE (cI .check H M' (A' β))), hS2, by omega, (hag2.le hle).trans hag, fun β hβ => ?_⟩
                    have h4 := hgd' β ((hβ.le (by omega)).trans hag2)
                    have h5 : pickPs .check H.pre ⟨n', h', M', cI .check H M' (A' β)⟩ (fun s => evO E .check β (run β) all l (putL T o.dst (H.v (frL β s.n H.n))) ⟨s.n + H.n, s.h, H.lay (frL β s.n H.n) ++ s.M, s.acc⟩ (K β)) = _ := (Classical.choose_spec (hE (cI .check H M' (A' β)))).2 _
                    rw [h5] at h4
                    simp only [hfr β hβ] at h4
                    exact h4
                  | none =>
                   cases hms : E.msum f with
                   | some D =>
                    have hgd' : ∀ β, Ag n' β γ' → good (res2 .check D.dep args.toList [] ⟨n', h', M', A' β⟩ (kMs β D args.toList o T fun T s => evO E .check β (run β) all l T s (K β))) := fun β hβ => by
                      have h4 := hgd β hβ
                      unfold kNx at h4
                      simp only [hcs, hms] at h4
                      exact h4
                    obtain ⟨L, h2, hres, hE⟩ := res2_inv (kMs_kp (hk2 γ')) args.toList [] _ (hgd' γ' .refl)
                    have hgd2 : ∀ β, Ag n' β γ' → good (kMs β D args.toList o T (fun T s => evO E .check β (run β) all l T s (K β)) L ⟨n', h2, M', Classical.choose (hE (A' β))⟩) := fun β hβ => by
                      have h4 := hgd' β hβ
                      have h5 := (Classical.choose_spec (hE (A' β))).2 (kMs β D args.toList o T fun T s => evO E .check β (run β) all l T s (K β))
                      simp only [List.nil_append] at h5
                      exact h5 ▸ h4
                    cases hH : D.hole n' args.toList L M' with
                    | none =>
                      have h4 := hgd2 γ' .refl
                      unfold kMs at h4
                      simp only [hH] at h4
                      exact absurd h4 not_good
                    | some H =>
                    have hgd3 : ∀ β, Ag n' β γ' → good (pickPs .check H.pre ⟨n', h2, M', Classical.choose (hE (A' β))⟩ fun s => evO E .check β (run β) all l (putL T o.dst (H.v (frL β s.n H.n))) ⟨s.n + H.n, s.h, H.out (frL β s.n H.n), s.acc⟩ (K β)) := fun β hβ => by
                      have h4 := hgd2 β hβ
                      unfold kMs at h4
                      simp only [hH] at h4
                      exact h4
                    have hkc : ∀ β, ∀ s : Sg, Kp s.acc (evO E .check β (run β) all l (putL T o.dst (H.v (frL β s.n H.n))) ⟨s.n + H.n, s.h, H.out (frL β s.n H.n), s.acc⟩ (K β)) := fun β s => hk2 β _ ⟨s.n + H.n, s.h, _, s.acc⟩
                    obtain ⟨hpre, h3, hE2⟩ := pickPs_inv (hkc γ') H.pre _ (hgd3 γ' .refl)
                    have hc := ho.2.2.1 f D hms n' args.toList L M' H hH hres hpre w0 w' hS'
                    have hc : Calls Try.prog f args w' fun e w'' => ∃ fr : List Fr, fr.length = H.n ∧ e = .returned (H.v fr) ∧ SG w0 (H.out fr) w'' := by simpa using hc
                    refine hc.mono fun e w'' ⟨fr, hfl, he, hS2⟩ => ?_
                    subst he
                    have hag2 : Ag n' (fun i => if n' ≤ i then fr.getD (i - n') (noB 0) else γ' i) γ' := fun i hi => if_neg (by omega)
                    have hfr : ∀ β : Nat → Fr, Ag (n' + H.n) β (fun i => if n' ≤ i then fr.getD (i - n') (noB 0) else γ' i) → frL β n' H.n = fr := fun β hβ => by
                      refine List.ext_getElem (by simp [frL, hfl]) fun i h1 h2 => ?_
                      simp only [frL, List.getElem_map, List.getElem_range]
                      rw [hβ (n' + i) (by omega)]
                      show (if n' ≤ n' + i then fr.getD (n' + i - n') (noB 0) else γ' (n' + i)) = fr[i]
                      rw [if_pos (by omega), Nat.add_sub_cancel_left]
                      simp [h2]
                    refine hnext (H.v fr) w'' ⟨_, n' + H.n, h3, H.out fr, fun β => Classical.choose (hE2 (Classical.choose (hE (A' β)))), hS2, by omega, (hag2.le hle).trans hag, fun β hβ => ?_⟩
                    have h4 := hgd3 β ((hβ.le (by omega)).trans hag2)
                    have h5 : pickPs .check H.pre ⟨n', h2, M', Classical.choose (hE (A' β))⟩ (fun s => evO E .check β (run β) all l (putL T o.dst (H.v (frL β s.n H.n))) ⟨s.n + H.n, s.h, H.out (frL β s.n H.n), s.acc⟩ (K β)) = _ := (Classical.choose_spec (hE2 (Classical.choose (hE (A' β))))).2 _
                    rw [h5] at h4
                    simp only [hfr β hβ] at h4
                    exact h4
                   | none =>
                    replace hgd : ∀ β, Ag n' β γ' → good (callE E .check (run β) f args.toList ⟨n', h', M', A' β⟩ fun v s => evO E .check β (run β) all l (putL T o.dst v) s (K β)) := fun β hβ => by
                      have h4 := hgd β hβ
                      unfold kNx at h4
                      simp only [hcs, hms] at h4
                      exact h4
                    have hc := callE_ok hs hr w0 w' f args.toList γ' n' h' M' A' (fun β v s => evO E .check β (run β) all l (putL T o.dst v) s (K β)) (fun β v s => hk2 β _ s) hS' hgd
                    have hc : Calls Try.prog f args w' fun e w'' => ∃ v, e = .returned v ∧ On w0 n' γ' (fun β v s => evO E .check β (run β) all l (putL T o.dst v) s (K β)) v w'' := by simpa using hc
                    refine hc.mono fun e w'' ⟨v, he, hon⟩ => ?_
                    subst he
                    obtain ⟨γ2, n2, h2, M2, A2, hS2, hle2, hag2, hgd2⟩ := hon
                    exact hnext v w'' ⟨γ2, n2, h2, M2, A2, hS2, Nat.le_trans hle hle2, (hag2.le hle).trans hag, hgd2⟩
              | _ => exact absurd (hgd γ' .refl) not_good
end Ev
end Go.Proofs.Ythpnhanabcipmaa
