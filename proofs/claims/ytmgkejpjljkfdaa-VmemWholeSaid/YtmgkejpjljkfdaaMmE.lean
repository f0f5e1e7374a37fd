/-
  Rows of bytes that are not written out: a byte read and written at a number that is not known; a call's answer and all rows behind it. Of no function.
-/
import Derived.Test.YtmgkejpjljkfdaaEvH
namespace Go.Proofs.Ytmgkejpjljkfdaa
open Go.RowKit VecM
namespace Ev
/-- the byte at a place -/
def gB (c : List Value) (i : Nat) : Int := match c[i]? with
  | some (.int .u8 x) => x
  | _ => 0
def isB : Option Value → Bool
  | some (.int .u8 _) => true
  | _ => false
theorem isB_eq {c : List Value} {i : Nat} (h : isB c[i]? = true) : c[i]? = some (.int .u8 (gB c i)) := by
  unfold gB
  unfold isB at h
  split at h
  · rename_i x hx; rw [hx]
  · cases h
theorem addr_add (b x j : Nat) : (⟨b, x, none⟩ : Addr).add j = ⟨b, x + j, none⟩ := by unfold Addr.add; split <;> simp_all
theorem run_saddr' {ρ : Operand → Value} {o : Oper} {t e : TypeId} {n c x j b : Nat} {kd : IntKind} {y i : Operand} (ho : o.op = .indexAddr t y i) (hx : ρ y = .slice (some ⟨b, x, none⟩) n c) (hi : ρ i = .int kd (j : Int)) (hu : Try.prog.underlying t = some (.slice e)) {f : TypeInfo} (hf : Try.prog.info? e = some f) (h1 : f.size = 1) (hj : j < n) (w : World) :
    (execOp ρ o).run Try.prog w = .ok (.value (.pointer (some ⟨b, x + j, none⟩))) w := by
  unfold execOp
  simp [ho, hx, hi, Instr.indexAt, asIntOf, run_underlying hu, sizeOf, typeInfo, hf, h1, hj, addr_add, Result.andThen]
theorem run_slice' {ρ : Operand → Value} {o : Oper} {t e : TypeId} {n c A m b : Nat} {k1 k2 : IntKind} {y l h : Operand} (ho : o.op = .slice t y (some l) (some h) none) (hx : ρ y = .slice (some ⟨b, 0, none⟩) n c) (hl : ρ l = .int k1 (A : Int)) (hh : ρ h = .int k2 ((A + m : Nat) : Int)) (hu : Try.prog.underlying t = some (.slice e)) {f : TypeInfo} (hf : Try.prog.info? e = some f) (h1 : f.size = 1) (h2 : A + m ≤ c) (h3 : 0 < m) (w : World) :
    (execOp ρ o).run Try.prog w = .ok (.value (.slice (some ⟨b, A, none⟩) m (c - A))) w := by
  have he : Try.prog.elem t = e := by simp [Program.elem, hu]
  have hu' : Try.prog.underlying t = some (.slice (Try.prog.elem t)) := by rw [he]; exact hu
  have hr := run_slice_lh (P := Try.prog) w t (some ⟨b, 0, none⟩) n c hu' k1 k2 (A : Int) ((A + m : Nat) : Int) (by omega) (by omega) (by omega)
  have hn : ¬ c = A := by omega
  have hs := run_sliceAt_slice (P := Try.prog) w t (.slice (some ⟨b, 0, none⟩) n c) (some (.int k1 (A : Int))) (some (.int k2 ((A + m : Nat) : Int))) none hu'
  unfold execOp
  simp only [ho, hx, hl, hh, Option.map_some, Option.map_none, Sem.run_bind, hs, hr]
  simp [sliced, he, sizeOf, typeInfo, hf, h1, addr_add, Result.andThen, hn]
  omega
/-- load and store of bytes in row j, their places' addresses; the slice of n bytes from A on -/
noncomputable def byOph (j A n : Nat) (o : Oper) (T : Tm) (M : List Rw) : Option OHole :=
  match o.op with
  | .load t (.tmp p) => match Nat.beq t 5 with
    | true => match tget T p, rowAt M j with
      | .pointer (some ⟨_, off, none⟩), some r => some ⟨T.n, [(p, .pointer (some ⟨r.b, off, none⟩))], M, [isB r.c[off]?], some (.int .u8 (gB r.c off)), M⟩
      | _, _ => none
    | false => none
  | .store t (.tmp p) y => match Nat.beq t 5 with
    | true => match o.guard, tget T p, evalT T y, rowAt M j with
      | none, .pointer (some ⟨_, off, none⟩), .int .u8 z, some r => match r.own with
        | true => some ⟨T.n, [(p, .pointer (some ⟨r.b, off, none⟩))], M, [decide (off < r.c.length)], none, M.set j ⟨r.b, r.c.set off (.int .u8 z), r.t, true⟩⟩
        | false => none
      | _, _, _, _ => none
    | false => none
  | .slice t y (some l) (some h) none => match Nat.beq t 23 with
    | true => match evalT T y, evalT T l, evalT T h with
      | .slice (some ⟨b, 0, none⟩) _ cap, .int _ lo, .int _ hi => some ⟨T.n, [], M, [decide (lo = (A : Int)), decide (hi = ((A + n : Nat) : Int)), decide (A + n ≤ cap), decide (0 < n)], some (.slice (some ⟨b, A, none⟩) n (cap - A)), M⟩
      | _, _, _ => none
    | false => none
  | .indexAddr t y i => match Nat.beq t 23 with
    | true => match evalT T y, evalT T i with
      | .slice (some ⟨b, off, none⟩) m _, .int _ z => some ⟨T.n, [], M, [decide (0 ≤ z), decide (z < (m : Int))], some (.pointer (some ⟨b, off + z.toNat, none⟩)), M⟩
      | _, _ => none
    | false => none
  | _ => none
theorem byOph_ok (j A n : Nat) : OphAt (byOph j A n) := by
  intro o T M H hq hn hneed hrows hpre w0 w hS
  have he := eval_T T []
  unfold byOph at hq
  split at hq
  · rename_i t p hop
    split at hq
    · rename_i ht
      obtain rfl := Nat.eq_of_beq_eq_true ht
      split at hq
      · rename_i b off r hx hr
        cases hq
        have h0 := hpre _ (List.mem_cons_self ..)
        have hp := hneed _ (List.mem_cons_self ..)
        simp only at hp
        rw [rowAt_eq] at hr
        refine ⟨w, ?_, hS⟩
        obtain ⟨fr, hrow, _⟩ := hS.row (List.mem_of_getElem? hr)
        refine run_load8 hop (b := r.b) (j := off) hp ?_
        rw [cell_of_row w r.b off _ _ fr hrow]
        simpa using isB_eq h0
      · cases hq
    · cases hq
  · rename_i t p y hop
    split at hq
    · rename_i ht
      obtain rfl := Nat.eq_of_beq_eq_true ht
      split at hq
      · rename_i b off z r hgd hx hy hr
        split at hq
        · rename_i how
          cases hq
          have h0 := hpre _ (List.mem_cons_self ..)
          simp only [decide_eq_true_eq] at h0
          have hp := hneed _ (List.mem_cons_self ..)
          simp only at hp
          rw [rowAt_eq] at hr
          obtain ⟨fr, hrow, hfr⟩ := hS.row (List.mem_of_getElem? hr)
          have hm : Has (ents M) r.b r.c.toArray r.t := ents_mem (List.mem_of_getElem? hr) how
          refine ⟨w.setCell ⟨r.b, off, none⟩ (.int .u8 z), ?_, hS.setCell hr how off (.int .u8 z)⟩
          rw [← he]
          refine run_put (P := Try.prog) (a := ⟨T.toArray, []⟩) (u := r.c[off]) (v := .int .u8 z) hop (by rw [he]; exact hp) (by rw [he]; exact hy) info8 size8 rfl w ?_ (hS.1.thawed hm off)
          rw [hS.1.cell hm off]
          simp [h0]
        · cases hq
      · cases hq
    · cases hq
  · rename_i t y l h hop
    split at hq
    · rename_i ht
      obtain rfl := Nat.eq_of_beq_eq_true ht
      split at hq
      · rename_i b len cap k1 lo k2 hi hx hl hh
        cases hq
        have h0 := hpre _ (List.mem_cons_self ..)
        have h1 := hpre _ (List.mem_cons_of_mem _ (List.mem_cons_self ..))
        have h2 := hpre _ (List.mem_cons_of_mem _ (List.mem_cons_of_mem _ (List.mem_cons_self ..)))
        have h3 := hpre _ (List.mem_cons_of_mem _ (List.mem_cons_of_mem _ (List.mem_cons_of_mem _ (List.mem_cons_self ..))))
        simp only [decide_eq_true_eq] at h0 h1 h2 h3
        subst h0 h1
        exact ⟨w, run_slice' hop hx hl hh Try.underlying23 info8 size8 h2 h3 w, hS⟩
      · cases hq
    · cases hq
  · rename_i t y i hop
    split at hq
    · rename_i ht
      obtain rfl := Nat.eq_of_beq_eq_true ht
      split at hq
      · rename_i b off m cap kd z hx hi
        cases hq
        have h0 := hpre _ (List.mem_cons_self ..)
        have h1 := hpre _ (List.mem_cons_of_mem _ (List.mem_cons_self ..))
        simp only [decide_eq_true_eq] at h0 h1
        exact ⟨w, run_saddr' (j := z.toNat) hop hx (by rw [hi]; congr 1; omega) Try.underlying23 info8 size8 (by omega) w, hS⟩
      · cases hq
    · cases hq
  · cases hq
/-! ### an answer and all rows behind it -/
noncomputable def evPathR (E E' : Env) (fuel : Nat) (f : FuncId) (args args' : List Value) (M M' : List Rw) (v : Value) (k : Nat) (M1 : List Rw) (β : Nat → Fr) : Out :=
  evF E .check β fuel f args ⟨0, evHintsM E E' fuel f args args' M M', M, []⟩ fun q s => .ok (.eqv q v :: .eqv (encM (s.M.drop k)) (encM M1) :: s.acc)
theorem ev_callR {E E' : Env} (hP : E.P = Try.prog) (hs : SumOk E) {fuel : Nat} {f : FuncId} {args args' : List Value} {M M' : List Rw} {v : (Nat → Fr) → Value} {k : Nat} {M1 : (Nat → Fr) → List Rw} (D : List (Bool × Bool)) (ts : List Nat) (hD : ∀ p ∈ D, p.1 = p.2)
    (h : ∀ β : Nat → Fr, tagOL D ts (evPathR E E' fuel f args args' M M' (v β) k (M1 β) β) = tagOR D ts (evPathR E E' fuel f args args' M M' (v β) k (M1 β) β)) (w0 w : World) (hS : SG w0 M w) (hh : HolesOk E := by exact no_holes rfl) (ho : OphOk E := by exact no_oph rfl rfl) :
    Calls Try.prog f args.toArray w fun e w' => ∃ β : Nat → Fr, e = .returned (v β) ∧ SG w0 (M1 β) w' := by
  let K : (Nat → Fr) → KK Value := fun β q s => .ok (.eqv q (v β) :: .eqv (encM (s.M.drop k)) (encM (M1 β)) :: s.acc)
  have hk : ∀ β : Nat → Fr, KeepK (K β) := fun β q s l hl hg x hx => by cases hl; exact hg x (List.mem_cons_of_mem _ (List.mem_cons_of_mem _ hx))
  have h1 := runE_ok (E := E) hP (evC_ok hP hs hh ho follows_mixed fuel) w0 w f args noB 0 (evHintsM E E' fuel f args args' M M') M (fun _ => []) K hk hS (fun β _ => good_tag hD ts (h β))
  refine h1.mono fun e w' ⟨q, he, γ', n', h', M2, A', hS', _, _, hgd⟩ => ?_
  have h2 := good_ok.1 (hgd γ' .refl) _ (List.mem_cons_self ..)
  have h3 := good_ok.1 (hgd γ' .refl) _ (List.mem_cons_of_mem _ (List.mem_cons_self ..))
  simp only [It.l, It.r, Lv.v.injEq] at h2 h3
  exact ⟨γ', h2 ▸ he, encM_inj h3 ▸ hS'.drop k⟩
/-- the same, with facts that speak of the rows that are laid -/
theorem ev_callB {E E' : Env} (hP : E.P = Try.prog) (hs : SumOk E) {fuel : Nat} {f : FuncId} {args args' : List Value} {M M' : List Rw} {v : (Nat → Fr) → Value} {k : Nat} {M1 : (Nat → Fr) → List Rw} (D : (Nat → Fr) → List (Bool × Bool)) (ts : List Nat) (hD : ∀ β, ∀ p ∈ D β, p.1 = p.2)
    (h : ∀ β : Nat → Fr, tagOL (D β) ts (evPathR E E' fuel f args args' M M' (v β) k (M1 β) β) = tagOR (D β) ts (evPathR E E' fuel f args args' M M' (v β) k (M1 β) β)) (w0 w : World) (hS : SG w0 M w) (hh : HolesOk E := by exact no_holes rfl) (ho : OphOk E := by exact no_oph rfl rfl) :
    Calls Try.prog f args.toArray w fun e w' => ∃ β : Nat → Fr, e = .returned (v β) ∧ SG w0 (M1 β) w' := by
  let K : (Nat → Fr) → KK Value := fun β q s => .ok (.eqv q (v β) :: .eqv (encM (s.M.drop k)) (encM (M1 β)) :: s.acc)
  have hk : ∀ β : Nat → Fr, KeepK (K β) := fun β q s l hl hg x hx => by cases hl; exact hg x (List.mem_cons_of_mem _ (List.mem_cons_of_mem _ hx))
  have h1 := runE_ok (E := E) hP (evC_ok hP hs hh ho follows_mixed fuel) w0 w f args noB 0 (evHintsM E E' fuel f args args' M M') M (fun _ => []) K hk hS (fun β _ => good_tag (hD β) ts (h β))
  refine h1.mono fun e w' ⟨q, he, γ', n', h', M2, A', hS', _, _, hgd⟩ => ?_
  have h2 := good_ok.1 (hgd γ' .refl) _ (List.mem_cons_self ..)
  have h3 := good_ok.1 (hgd γ' .refl) _ (List.mem_cons_of_mem _ (List.mem_cons_self ..))
  simp only [It.l, It.r, Lv.v.injEq] at h2 h3
  exact ⟨γ', h2 ▸ he, encM_inj h3 ▸ hS'.drop k⟩
/-- two rows out of many -/
theorem perm_two {M : List Rw} {j0 j1 : Nat} {r0 r1 : Rw} (h0 : M[j0]? = some r0) (h1 : M[j1]? = some r1) (hne : r0 ≠ r1) : ∃ C, M.Perm (r0 :: r1 :: C) ∧ ∀ r, (M.set j1 r).Perm (r0 :: r :: C) := by
  obtain ⟨hl, rfl⟩ := List.getElem?_eq_some_iff.1 h1
  have e1 : M = M.take j1 ++ M[j1] :: M.drop (j1 + 1) := by
    rw [← List.drop_eq_getElem_cons hl, List.take_append_drop]
  have hm : r0 ∈ M.take j1 ++ M.drop (j1 + 1) := by
    have := List.mem_of_getElem? h0
    rw [e1] at this
    rcases List.mem_append.1 this with h | h
    · exact List.mem_append_left _ h
    · rcases List.mem_cons.1 h with h | h
      · exact absurd h hne
      · exact List.mem_append_right _ h
  obtain ⟨A, B, hAB⟩ := List.append_of_mem hm
  refine ⟨A ++ B, ?_, fun r => ?_⟩
  · conv => lhs; rw [e1]
    refine List.perm_middle.trans ?_
    rw [hAB]
    exact (List.perm_middle.cons _).trans (List.Perm.swap ..)
  · rw [List.set_eq_take_append_cons_drop, if_pos hl]
    refine List.perm_middle.trans ?_
    rw [hAB]
    exact (List.perm_middle.cons _).trans (List.Perm.swap ..)
end Ev
end Go.Proofs.Ytmgkejpjljkfdaa
