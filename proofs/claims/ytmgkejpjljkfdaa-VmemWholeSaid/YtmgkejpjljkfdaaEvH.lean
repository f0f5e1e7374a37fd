/-
  Checked runs: a vector's element by a number that is not known, shifts by such a number, vectors that were given. Of no function.
-/
import Derived.Test.YtmgkejpjljkfdaaEvL
import Derived.Test.YtmgkejpjljkfdaaSlP
import Derived.Test.YtmgkejpjljkfdaaSteady
namespace Go.Proofs.Ytmgkejpjljkfdaa
open Go.RowKit VecM
namespace Ev
/-- index, load, store of the head row's vector f; shifts -/
noncomputable def symOph (n : Nat) (f : Nat → Int) (o : Oper) (T : Tm) (M : List Rw) : Option OHole :=
  match o.op with
  | .indexAddr t x i => match Nat.beq t 35 with
    | true => match evalT T x, evalT T i with
      | .pointer (some ⟨b, 0, none⟩), .int _ z => some ⟨n, [], M, [decide (0 ≤ z), decide (z < 16)], some (.pointer (some ⟨b, z.toNat, none⟩)), M⟩
      | _, _ => none
    | false => none
  | .load t (.tmp p) => match Nat.beq t 5 with
    | true => match tget T p, M with
      | .pointer (some ⟨_, off, none⟩), r :: M => some ⟨n, [(p, .pointer (some ⟨r.b, off, none⟩))], vrow r.b f :: M, [decide (off < 16)], some (.int .u8 (f off)), vrow r.b f :: M⟩
      | _, _ => none
    | false => none
  | .store t (.tmp p) y => match Nat.beq t 5 with
    | true => match o.guard, tget T p, evalT T y, M with
      | none, .pointer (some ⟨_, off, none⟩), .int .u8 z, r :: M => some ⟨n, [(p, .pointer (some ⟨r.b, off, none⟩))], vrow r.b f :: M, [decide (off < 16)], none, vrow r.b (upd f off z) :: M⟩
      | _, _, _, _ => none
    | false => none
  | .binOp .shr _ x y _ => match evalT T x, evalT T y with
    | .int k m, .int _ z => some ⟨n, [], M, [decide (0 ≤ z)], some (.int k (m.fdiv (2 ^ (min z.toNat k.bits)))), M⟩
    | _, _ => none
  | .binOp .shl _ x y _ => match evalT T x, evalT T y with
    | .int k m, .int _ z => some ⟨n, [], M, [decide (0 ≤ z)], some (.int k (k.wrap (m * 2 ^ (min z.toNat k.bits)))), M⟩
    | _, _ => none
  | _ => none
def OphAt (oph : Oper → Tm → List Rw → Option OHole) : Prop := ∀ o T M H, oph o T M = some H → T.n = H.n → (∀ p ∈ H.need, tget T p.1 = p.2) → M = H.rows → (∀ b ∈ H.pre, b = true) → ∀ w0 w : World, SG w0 M w →
  ∃ w', (execOp (evalT T) o).run Try.prog w = .ok (match H.v with | some v => .value v | none => .skip) w' ∧ SG w0 H.rows1 w'
theorem run_load8 {ρ : Operand → Value} {o : Oper} {x : Operand} (ho : o.op = .load 5 x) {b j : Nat} (hx : ρ x = .pointer (some ⟨b, j, none⟩)) {v : Value} {w : World} (hv : w.cell? ⟨b, j, none⟩ = some v) : (execOp ρ o).run Try.prog w = .ok (.value v) w := by
  unfold execOp
  simp only [ho, hx]
  go_simp
theorem symOph_ok (n : Nat) (f : Nat → Int) : OphAt (symOph n f) := by
  intro o T M H hq hn hneed hrows hpre w0 w hS
  have he := eval_T T []
  unfold symOph at hq
  split at hq
  · rename_i t x i hop
    split at hq
    · rename_i ht
      obtain rfl := Nat.eq_of_beq_eq_true ht
      split at hq
      · rename_i b kd z hx hi
        cases hq
        have h0 := hpre _ (List.mem_cons_self ..)
        have h1 := hpre _ (List.mem_cons_of_mem _ (List.mem_cons_self ..))
        simp only [decide_eq_true_eq] at h0 h1
        refine ⟨w, ?_, hS⟩
        rw [← he]
        exact run_addr (P := Try.prog) (a := ⟨T.toArray, []⟩) hop (by rw [he]; exact hx) (kd := kd) (j := z.toNat) (by rw [he, hi]; congr 1; omega) Try.underlying35 info8 size8 (by omega) w
      · cases hq
    · cases hq
  · rename_i t p hop
    split at hq
    · rename_i ht
      obtain rfl := Nat.eq_of_beq_eq_true ht
      split at hq
      · rename_i b off r M' hx
        cases hq
        have h0 := hpre _ (List.mem_cons_self ..)
        simp only [decide_eq_true_eq] at h0
        have hp := hneed _ (List.mem_cons_self ..)
        simp only at hp
        rw [hrows] at hS
        refine ⟨w, ?_, hS⟩
        obtain ⟨fr, hrow, _⟩ := hS.row (List.mem_cons_self ..)
        refine run_load8 hop (b := r.b) (j := off) hp ?_
        rw [cell_of_row w r.b off _ _ fr hrow]
        show ((bs f).toList.toArray)[off]? = _
        rw [Array.toArray_toList]
        exact bs_get f off h0
      · cases hq
    · cases hq
  · rename_i t p y hop
    split at hq
    · rename_i ht
      obtain rfl := Nat.eq_of_beq_eq_true ht
      split at hq
      · rename_i b off z r M' hgd hx hy
        cases hq
        have h0 := hpre _ (List.mem_cons_self ..)
        simp only [decide_eq_true_eq] at h0
        have hp := hneed _ (List.mem_cons_self ..)
        simp only at hp
        rw [hrows] at hS
        obtain ⟨fr, hrow, hfr⟩ := hS.row (r := vrow r.b f) (List.mem_cons_self ..)
        have hm : Has (ents (vrow r.b f :: M')) r.b (bs f).toList.toArray 35 := ents_mem (r := vrow r.b f) (List.mem_cons_self ..) rfl
        refine ⟨w.setCell ⟨r.b, off, none⟩ (.int .u8 z), ?_, ?_⟩
        · rw [← he]
          refine run_put (P := Try.prog) (a := ⟨T.toArray, []⟩) (u := .int .u8 (f off)) (v := .int .u8 z) hop (by rw [he]; exact hp) (by rw [he]; exact hy) info8 size8 rfl w ?_ (hS.1.thawed hm off)
          rw [hS.1.cell hm off, Array.toArray_toList]
          exact bs_get f off h0
        · have h2 := hS.setCell (j := 0) (r := vrow r.b f) rfl rfl off (.int .u8 z)
          have e : ((vrow r.b f).c.set off (.int .u8 z)) = (bs (upd f off z)).toList := by
            show (bs f).toList.set off (.int .u8 z) = _
            rw [← bs_upd f off z h0, Array.toList_setIfInBounds]
          rw [e] at h2
          exact h2
      · cases hq
    · cases hq
  · rename_i t x y t' hop
    split at hq
    · rename_i k m k' z hx hy
      cases hq
      have h0 := hpre _ (List.mem_cons_self ..)
      simp only [decide_eq_true_eq] at h0
      refine ⟨w, ?_, hS⟩
      rw [← he]
      exact run_shr (P := Try.prog) (a := ⟨T.toArray, []⟩) hop (by rw [he]; exact hx) (by rw [he]; exact hy) h0 rfl w
    · cases hq
  · rename_i t x y t' hop
    split at hq
    · rename_i k m k' z hx hy
      cases hq
      have h0 := hpre _ (List.mem_cons_self ..)
      simp only [decide_eq_true_eq] at h0
      refine ⟨w, ?_, hS⟩
      rw [← he]
      exact run_shl (P := Try.prog) (a := ⟨T.toArray, []⟩) hop (by rw [he]; exact hx) (by rw [he]; exact hy) h0 rfl w
    · cases hq
  · cases hq
/-! ### from rows that were given -/
noncomputable def evHintsM (E E' : Env) (fuel : Nat) (f : FuncId) (args args' : List Value) (M M' : List Rw) : List It :=
  match evF E' .find noB fuel f args' ⟨0, [], M', []⟩ fun _ s => .ok s.acc with
  | .error _ => []
  | .ok h => match evF E .follow noB fuel f args ⟨0, h.reverse, M, []⟩ fun _ s => .ok s.acc with
    | .error _ => []
    | .ok h => h.reverse
noncomputable def evPathM (E E' : Env) (fuel : Nat) (f : FuncId) (args args' : List Value) (M M' : List Rw) (v : Value) (β : Nat → Fr) : Out :=
  evF E .check β fuel f args ⟨0, evHintsM E E' fuel f args args' M M', M, []⟩ fun r s => .ok (.eqv r v :: s.acc)
theorem ev_pathM {E E' : Env} (hP : E.P = Try.prog) (hs : SumOk E) {fuel : Nat} {f : FuncId} {args args' : List Value} {M M' : List Rw} {v : Value} (D : List (Bool × Bool)) (ts : List Nat) (hD : ∀ p ∈ D, p.1 = p.2)
    (h : ∀ β : Nat → Fr, tagOL D ts (evPathM E E' fuel f args args' M M' v β) = tagOR D ts (evPathM E E' fuel f args args' M M' v β)) (w : World) (hS : SG w M w) (hh : HolesOk E := by exact no_holes rfl) (ho : OphOk E := by exact no_oph rfl rfl) :
    Calls Try.prog f args.toArray w fun e w' => e = .returned v ∧ Gr w w' := by
  have hk : ∀ _ : Nat → Fr, KeepK (fun (r : Value) (s : Sg) => (.ok (.eqv r v :: s.acc) : Out)) := fun _ r s l hl hg x hx => by cases hl; exact hg x (List.mem_cons_of_mem _ hx)
  have h1 := runE_ok (E := E) hP (evC_ok hP hs hh ho follows_mixed fuel) w w f args noB 0 (evHintsM E E' fuel f args args' M M') M (fun _ => []) (fun _ r s => .ok (.eqv r v :: s.acc)) hk hS (fun β _ => good_tag hD ts (h β))
  refine h1.mono fun e w' ⟨r, he, γ', n', h', M2, A', hS', _, _, hgd⟩ => ?_
  have h2 := good_ok.1 (hgd γ' .refl) _ (List.mem_cons_self ..)
  simp only [It.l, It.r, Lv.v.injEq] at h2
  exact ⟨h2 ▸ he, hS'.gr⟩
end Ev
end Go.Proofs.Ytmgkejpjljkfdaa
