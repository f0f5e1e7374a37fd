/-
  Checked runs: a vector's element by a number that is not known, shifts by such a number, vectors that were given. Of no function.
-/
import Derived.Test.YtfkioggmomnibaaEvL
import Derived.Test.YtfkioggmomnibaaSlP
import Derived.Test.YtfkioggmomnibaaSteady
namespace Go.Proofs.Ytfkioggmomnibaa
open Go.RowKit VecM
namespace Ev
def OphAt (oph : Oper → Tm → List Rw → Option OHole) : Prop := ∀ o T M H, oph o T M = some H → T.n = H.n → (∀ p ∈ H.need, tget T p.1 = p.2) → M = H.rows → (∀ b ∈ H.pre, b = true) → ∀ w0 w : World, SG w0 M w →
  ∃ w', (execOp (evalT T) o).run Try.prog w = .ok (match H.v with | some v => .value v | none => .skip) w' ∧ SG w0 H.rows1 w'
theorem run_load8 {ρ : Operand → Value} {o : Oper} {x : Operand} (ho : o.op = .load 5 x) {b j : Nat} (hx : ρ x = .pointer (some ⟨b, j, none⟩)) {v : Value} {w : World} (hv : w.cell? ⟨b, j, none⟩ = some v) : (execOp ρ o).run Try.prog w = .ok (.value v) w := by
  unfold execOp
  simp only [ho, hx]
  go_simp
/-! ### from rows that were given -/
noncomputable def evHintsM (E E' : Env) (fuel : Nat) (f : FuncId) (args args' : List Value) (M M' : List Rw) : List It :=
  match evF E' .find noB fuel f args' ⟨0, [], M', []⟩ fun _ s => .ok s.acc with
  | .error _ => []
  | .ok h => match evF E .follow noB fuel f args ⟨0, h.reverse, M, []⟩ fun _ s => .ok s.acc with
    | .error _ => []
    | .ok h => h.reverse
noncomputable def evPathM (E E' : Env) (fuel : Nat) (f : FuncId) (args args' : List Value) (M M' : List Rw) (v : Value) (β : Nat → Fr) : Out :=
  evF E .check β fuel f args ⟨0, evHintsM E E' fuel f args args' M M', M, []⟩ fun r s => .ok (.eqv r v :: s.acc)
theorem ev_pathM {E E' : Env} (hP : E.P = Try.prog) (hs : SumOk E) {fuel : Nat} {f : FuncId} {args args' : List Value} {M M' : List Rw} {v : Value} (D : List (Bool × Bool)) (ts : List Nat) (hD : ∀ p ∈ D, p.1 = p.2)
    (h : ∀ β : Nat → Fr, tagOL D ts (evPathM E E' fuel f args args' M M' v β) = tagOR D ts (evPathM E E' fuel f args args' M M' v β)) (w : World) (hS : SG w M w) (hh : HolesOk E := by exact no_holes rfl) (ho : OphOk E := by exact no_oph rfl rfl) :
    Calls Try.prog f args.toArray w fun e w' => e = .returned v ∧ Gr w w' := by
  have hk : ∀ _ : Nat → Fr, KeepK (fun (r : Value) (s : Sg) => (.ok (.eqv r v :: s.acc) : Out)) := fun _ r s l hl hg x hx => by cases hl; exact hg x (List.mem_cons_of_mem _ hx)
  have h1 := runE_ok (E := E) hP (evC_ok hP hs hh ho follows_mixed fuel) w w f args noB 0 (evHintsM E E' fuel f args args' M M') M (fun _ => []) (fun _ r s => .ok (.eqv r v :: s.acc)) hk hS (fun β _ => good_tag hD ts (h β))
  refine h1.mono fun e w' ⟨r, he, γ', n', h', M2, A', hS', _, _, hgd⟩ => ?_
  have h2 := good_ok.1 (hgd γ' .refl) _ (List.mem_cons_self ..)
  simp only [It.l, It.r, Lv.v.injEq] at h2
  exact ⟨h2 ▸ he, hS'.gr⟩
end Ev
end Go.Proofs.Ytfkioggmomnibaa
