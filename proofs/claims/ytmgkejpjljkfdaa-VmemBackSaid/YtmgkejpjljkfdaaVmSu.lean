/-
  Of layer 11: the pair map's Get and Set by their answers; Load whose answer is told ahead.
-/
import Derived.Test.YtmgkejpjljkfdaaMmCp
namespace Go.Proofs.Ytmgkejpjljkfdaa
open Go.RowKit VecM Ev Mm
namespace Vm
noncomputable def sumP (f : FuncId) (args : List Value) : Option (List (List Value) × (List (Nat → Int) → Value × List Bool)) :=
  match Nat.beq f 26 with
  | true => match args with
    | [.agg ⟨c⟩, .int .i64 v, .int .i64 i, .int .u64 x] => some ([c], fun fs => (.agg (bs (setI (Ev.hd1 fs) v i x)), []))
    | _ => none
  | false => match Nat.beq f 28 with
    | true => match args with
      | [.agg ⟨c⟩, .int .i64 v, .int .i64 i] => some ([c], fun fs => (.int .u64 (getI (Ev.hd1 fs) v i), []))
      | _ => none
    | false => none
theorem sumP_ok {E : Env} (hE : E.sum = sumP) (hK : ∀ x ∈ E.known, Byt x) : SumOk E := by
  intro f args cs mk h fs hcs hfs _ w
  rw [hE] at h
  unfold sumP at h
  split at h
  · rename_i hf
    obtain rfl := Nat.eq_of_beq_eq_true hf
    split at h
    · cases h
      obtain ⟨x, rfl, rfl⟩ := Ev.one_fs hcs
      exact set_any x _ _ _ w
    · cases h
  · split at h
    · rename_i hf
      obtain rfl := Nat.eq_of_beq_eq_true hf
      split at h
      · cases h
        obtain ⟨x, rfl, rfl⟩ := Ev.one_fs hcs
        exact get_any x (hK x (hfs x (List.mem_cons_self ..))) _ _ w
      · cases h
    · cases h
/-- does Load answer so? -/
noncomputable def ldQ (c : List Value) (N cap : Nat) (a n z : Int) : Bool := @decide (Fit c N cap a ∧ erV N a n = 0 ∧ ldV c N a n = z) (Classical.propDecidable _)
theorem ldQ_iff {c : List Value} {N cap : Nat} {a n z : Int} : ldQ c N cap a n z = true ↔ Fit c N cap a ∧ erV N a n = 0 ∧ ldV c N a n = z := by unfold ldQ; exact @decide_eq_true_iff _ (Classical.propDecidable _)
def ldK (q : List Value → Nat → Nat → Int → Int → Int → Bool) (z : Int) : MSum := ⟨depM, fun _ args L M => match args, L with
  | [.pointer (some ⟨_, 0, none⟩), .int .u64 a, .int .i64 n], [(_, r0), (_, r1)] => match r0.c with
    | [.slice (some ⟨_, 0, none⟩) N cap, .int .i64 _] => some ⟨[Nat.beq r0.t tM, Nat.beq r1.t tB, r0.own, r1.own, q r1.c N cap a n z], 0, fun _ => .tuple #[.int .u64 z, .int .i64 0], fun _ => M, 0⟩
    | _ => none
  | _, _ => none⟩
theorem ldK_ok (z : Int) {k : Nat} {args : List Value} {L : List (Nat × Rw)} {M : List Rw} {H : MHole} (hq : (ldK ldQ z).hole k args L M = some H) (hr : Res2 depM M args L) (hpre : ∀ b ∈ H.pre, b = true) (w0 w : World) (hS : SG w0 M w) :
    Calls Try.prog 24 args.toArray w fun e w' => ∃ fr : List Fr, fr.length = H.n ∧ e = .returned (H.v fr) ∧ SG w0 (H.out fr) w' := by
  unfold ldK at hq
  simp only at hq
  split at hq
  · rename_i b a n j0 r0 j1 r1
    split at hq
    · rename_i b1 N cap most hc
      cases hq
      obtain ⟨t0, t1, o0, o1, hF⟩ := pre5 hpre
      obtain ⟨hF, he, hz⟩ := ldQ_iff.1 hF
      obtain ⟨m0, m1, rfl, rfl, _⟩ := res_mem hr (Nat.eq_of_beq_eq_true t0) hc
      have e0 := own_row o0 (Nat.eq_of_beq_eq_true t0) hc
      have e1 := own_row o1 (Nat.eq_of_beq_eq_true t1) rfl
      rw [e0] at m0
      rw [e1] at m1
      exact (ld_any hS hF m0 m1).mono fun e w' ⟨h1, h2⟩ => ⟨[], rfl, by rw [h1, he, hz], h2⟩
    · cases hq
  · cases hq
end Vm
end Go.Proofs.Ytmgkejpjljkfdaa
