/-
  Of layer 21: the laws' awake answers true.
-/
import Derived.Test.YthpnhanabcipmaaSpSg
import Derived.Test.YthpnhanabcipmaaEvL
namespace Go.Proofs.Ythpnhanabcipmaa
open Go.RowKit VecM Ev
namespace Sp
/-- the one image of a function's type that awake asks for: how long it is -/
def sgC (f : FuncId) (args : List Value) (M : List Rw) : Option CHole :=
  match Nat.beq f 10 with
  | true => match args, M with
    | [.agg ⟨[.slice none 0 0, .slice (some ⟨b, 0, none⟩) 1 1]⟩], r :: M' => some ⟨⟨b, [.int .i64 123], r.t, r.own⟩ :: M', [], 1, fun fr => .agg ⟨[((fr[0]?).getD (noB 0)).x 0, .slice (some ⟨((fr[0]?).getD (noB 0)).b, 0, none⟩) 2 ((fr[0]?).getD (noB 0)).t.length]⟩, fun _ => []⟩
    | _, _ => none
  | false => none
theorem sgC_ok : ∀ f args M H, sgC f args M = some H → M = H.rows → (∀ b ∈ H.pre, b = true) → ∀ w0 w : World, SG w0 M w → Calls Try.prog f args.toArray w fun e w' => ∃ fr : List Fr, fr.length = H.n ∧ e = .returned (H.v fr) ∧ SG w0 (H.lay fr ++ M) w' := by
  intro f args M H hq hrows _ w0 w hS
  unfold sgC at hq
  split at hq
  · rename_i hf
    obtain rfl := Nat.eq_of_beq_eq_true hf
    split at hq
    · rename_i b r M'
      cases hq
      obtain ⟨fr, hrow, _⟩ := hS.row (r := r) (List.mem_cons_self ..)
      have hr : r = ⟨b, [.int .i64 123], r.t, r.own⟩ := (List.cons.inj hrows).1
      rw [hr] at hrow
      have h1 : I64s w (.slice none 0 0) 0 (fun _ => 0) := .inl ⟨rfl, _, _, rfl⟩
      have h2 : I64s w (.slice (some ⟨b, 0, none⟩) 1 1) 1 (fun _ => 123) := .inr ⟨by omega, b, 0, 1, rfl, fun j hj => by
        obtain rfl : j = 0 := by omega
        exact (cell_of_row _ _ 0 _ _ _ hrow).trans rfl⟩
      refine (sig_any (by omega) (by omega) h1 h2).mono fun e w' ⟨vi, vo, h3, h4, _, h6⟩ => ?_
      rcases h6.2 with ⟨_, h7⟩ | ⟨g, cap, cur, h7, _⟩
      · exact absurd h7 (by decide)
      · refine ⟨[⟨g, fun _ => vi, List.replicate cap undef⟩], rfl, ?_, hS.grow h4⟩
        rw [h3, h7]
        show _ = Ending.returned (Value.agg ⟨[vi, .slice (some ⟨g, 0, none⟩) 2 (List.replicate cap undef).length]⟩)
        rw [List.length_replicate]
        rfl
    · cases hq
  · cases hq
noncomputable def envA : Env := { P := Try.prog, known := [], sum := fun _ _ => none, csum := sgC }
theorem envA_ok : OphOk envA := csum_of rfl sgC_ok
noncomputable def awPath (β : Nat → Fr) : Out := evPath envA envA 4000 9 [] [] (.bool true) β
--EVTS t_aw | fun (β : Nat → Fr) => (awPath β, [])
def t_aw : List Nat := [0, 0, 0, 0, 0, 0, 0, 0, 0, 0, 0, 0, 0, 0, 0, 0, 0, 0, 0, 0, 0, 0, 0, 0, 0, 0, 0, 0, 0, 0, 0, 0, 0, 0, 0, 0, 0, 0, 0, 0, 0, 0, 0, 0, 0, 0, 0, 0, 0, 0, 0, 0, 0, 0, 0, 0, 0, 0, 0, 0, 0, 0, 0, 0, 0, 0, 0, 0, 0, 0, 0, 0, 0, 0, 0, 0, 0, 0, 0, 0, 0, 0, 0, 0, 0, 0, 0, 0, 0, 0, 0, 0, 0, 0, 0, 0, 0, 0, 0, 0, 0, 0, 0, 0, 0, 0, 0, 0, 0, 0, 0, 0, 0, 0, 0]
end Sp
end Go.Proofs.Ythpnhanabcipmaa
