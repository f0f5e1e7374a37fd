/-
  Of layer 10: the laws' awake answers true.
-/
import Derived.Test.YtmgkejpjljkfdaaMmMs
namespace Go.Proofs.Ytmgkejpjljkfdaa
open Go.RowKit VecM Ev
namespace Mm
def orM (l : List (FuncId × MSum)) (f : FuncId) : Option MSum := match l with
  | [] => none
  | (g, D) :: l => match Nat.beq f g with
    | true => some D
    | false => orM l f
theorem orM_mem {l : List (FuncId × MSum)} {f : FuncId} {D : MSum} (h : orM l f = some D) : (f, D) ∈ l := by
  induction l with
  | nil => cases h
  | cons p l ih =>
    obtain ⟨g, E⟩ := p
    unfold orM at h
    split at h
    · rename_i hb
      cases h
      rw [Nat.eq_of_beq_eq_true hb]
      exact List.mem_cons_self ..
    · exact List.mem_cons_of_mem _ (ih h)
def CsOk (cs : CsF) : Prop := ∀ f args M H, cs f args M = some H → M = H.rows → (∀ b ∈ H.pre, b = true) → ∀ w0 w : World, SG w0 M w → Calls Try.prog f args.toArray w fun e w' => ∃ fr : List Fr, fr.length = H.n ∧ e = .returned (H.v fr) ∧ SG w0 (H.lay fr ++ M) w'
def no_cs : CsF := fun _ _ _ => none
theorem no_csOk : CsOk no_cs := fun _ _ _ _ hq => by cases hq
/-- the same for a sample -/
def gaS (ld er : Int) : Ga := ⟨fun _ _ _ _ => ld, fun _ a _ => match decide (a = 65533) with | true => 23 | false => er, fun c _ _ _ _ => c, fun _ _ _ _ => true, fun _ => [], fun c _ _ => c, fun c _ _ _ => c, fun _ => 65536, fun _ _ _ _ _ _ => true, fun _ _ _ => true, fun _ _ _ _ _ _ => true⟩
def gdR (_ N : Nat) (most x : Int) : Bool := grB (Nat.div N 65536) most x
def aC1 (G : Ga) : List Value := G.st (G.zc (pN 1)) (pN 1) 0 2 70000
def aC2 (G : Ga) (β : Nat → Fr) : List Value := G.gw (aC1 G) (pN 1) 1 (β 2).t
def awD (G : Ga) (β : Nat → Fr) : List (Bool × Bool) := [(G.nq 1 2 0, true), (G.ok (G.zc (pN 1)) (pN 1) (pN 1) 0, true), (G.ok (aC1 G) (pN 1) (pN 1) 0, true), (G.ok (aC1 G) (pN 1) (pN 1) 65533, true),
  (G.er (pN 1) 0 2 == 0, true), (G.ld (aC1 G) (pN 1) 0 4 == 4464, true), (G.er (pN 1) 0 4 == 0, true), (G.er (pN 1) 65533 4 == 23, true),
  (G.gk (aC1 G) (pN 1) (pN 1) 2 1 true, true), (G.gk (aC2 G β) (pN 1 + (zX 1).toNat) (G.ln (aC2 G β)) 2 1 false, true)]
def t_aw : List Nat := [0, 0, 10, 0, 0, 0, 0, 0, 0, 0, 0, 9, 0, 0, 0, 0, 0, 0, 8, 8, 0, 8, 8, 7, 7, 7, 6, 6, 6, 5, 5, 5, 4, 0, 0, 0, 0, 3, 0, 0, 0, 0, 2, 0, 0, 0, 0, 0, 0, 0, 0, 1]
end Mm
end Go.Proofs.Ytmgkejpjljkfdaa
