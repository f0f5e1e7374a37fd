/-
  memory's functions as calls among rows, by functions that a run does not unfold. Of layer 10.
-/
import Derived.Test.YtmgkejpjljkfdaaMmSb
namespace Go.Proofs.Ytmgkejpjljkfdaa
open Go.RowKit VecM Ev
namespace Mm
/-- what the calls answer and leave, and when; which way New and Grow go -/
structure Ga where
  ld : List Value → Nat → Int → Int → Int
  er : Nat → Int → Int → Int
  st : List Value → Nat → Int → Int → Int → List Value
  ok : List Value → Nat → Nat → Int → Bool
  zc : Nat → List Value
  tk : List Value → Nat → List Value → List Value
  gw : List Value → Nat → Int → List Value → List Value
  ln : List Value → Nat
  sm : List Value → List Value → Nat → Nat → Nat → Nat → Bool
  nq : Int → Int → Int → Bool
  gk : List Value → Nat → Nat → Int → Int → Bool → Bool
noncomputable def okB (c : List Value) (N cap : Nat) (a : Int) : Bool := @decide (Fit c N cap a) (Classical.propDecidable _)
noncomputable def smB (c c' : List Value) (N N' cap cap' : Nat) : Bool := @decide (Same c c' N N' cap cap') (Classical.propDecidable _)
def nqB (l m e : Int) : Bool := decide (nwE l m = e)
/-- may Grow be asked so, and does it answer so? -/
structure Gk (c : List Value) (N cap : Nat) (most x : Int) (b : Bool) : Prop where
  p : N = 65536 * (N / 65536)
  p16 : N / 65536 ≤ 16
  len : N ≤ c.length
  cap : cap = c.length
  lo : 0 ≤ x
  hi : x < 4294967296
  m : most < 9223372036854775808
  b : grB (N / 65536) most x = b
noncomputable def gkB (c : List Value) (N cap : Nat) (most x : Int) (b : Bool) : Bool := @decide (Gk c N cap most x b) (Classical.propDecidable _)
theorem okB_iff {c : List Value} {N cap : Nat} {a : Int} : okB c N cap a = true ↔ Fit c N cap a := by unfold okB; exact @decide_eq_true_iff _ (Classical.propDecidable _)
theorem smB_iff {c c' : List Value} {N N' cap cap' : Nat} : smB c c' N N' cap cap' = true ↔ Same c c' N N' cap cap' := by unfold smB; exact @decide_eq_true_iff _ (Classical.propDecidable _)
theorem gkB_iff {c : List Value} {N cap : Nat} {most x : Int} {b : Bool} : gkB c N cap most x b = true ↔ Gk c N cap most x b := by unfold gkB; exact @decide_eq_true_iff _ (Classical.propDecidable _)
def tkV (c : List Value) (N : Nat) (t : List Value) : List Value := c.take N ++ t
def gwV (c : List Value) (N : Nat) (x : Int) (t : List Value) : List Value := c.take N ++ (zC (zX x).toNat ++ t)
noncomputable def gaR : Ga := ⟨ldV, erV, stV, okB, zC, tkV, gwV, List.length, smB, nqB, gkB⟩
def frN (fr : List Fr) (k : Nat) : Fr := (fr[k]?).getD (noB 0)
def mCount (M : List Rw) : Nat := match M with
  | [] => 0
  | r :: M => match Nat.beq r.t tM with
    | true => mCount M + 1
    | false => mCount M
def nwM (G : Ga) (nw : Nat → Int) : MSum := ⟨depM, fun _ args L M => match args, L with
  | [.int .i64 l, .int .i64 m], [] => match nw (mCount M) with
    | .ofNat 0 => some ⟨[G.nq l m 0], 2, fun fr => .tuple #[.pointer (some ⟨(frN fr 1).b, 0, none⟩), .int .i64 0],
        fun fr => ⟨(frN fr 1).b, hdr (frN fr 0).b (pN l) (pN l) m, tM, true⟩ :: ⟨(frN fr 0).b, G.zc (pN l), tB, true⟩ :: M, 0⟩
    | e => some ⟨[G.nq l m e], 0, fun _ => nwX e, fun _ => M, 0⟩
  | _, _ => none⟩
def ldM (G : Ga) : MSum := ⟨depM, fun _ args L M => match args, L with
  | [.pointer (some ⟨_, 0, none⟩), .int .u64 a, .int .i64 n], [(_, r0), (_, r1)] => match r0.c with
    | [.slice (some ⟨_, 0, none⟩) N cap, .int .i64 _] => some ⟨[Nat.beq r0.t tM, Nat.beq r1.t tB, r0.own, r1.own, G.ok r1.c N cap a], 0, fun _ => .tuple #[.int .u64 (G.ld r1.c N a n), .int .i64 (G.er N a n)], fun _ => M, 0⟩
    | _ => none
  | _, _ => none⟩
def stM (G : Ga) : MSum := ⟨depM, fun _ args L M => match args, L with
  | [.pointer (some ⟨_, 0, none⟩), .int .u64 a, .int .i64 n, .int .u64 x], [(_, r0), (j1, r1)] => match r0.c with
    | [.slice (some ⟨_, 0, none⟩) N cap, .int .i64 _] => some ⟨[Nat.beq r0.t tM, Nat.beq r1.t tB, r0.own, r1.own, G.ok r1.c N cap a], 0, fun _ => .int .i64 (G.er N a n), fun _ => M.set j1 ⟨r1.b, G.st r1.c N a n x, tB, true⟩, M.length⟩
    | _ => none
  | _, _ => none⟩
def clM (G : Ga) : MSum := ⟨depM, fun _ args L M => match args, L with
  | [.pointer (some ⟨_, 0, none⟩)], [(_, r0), (_, r1)] => match r0.c with
    | [.slice (some ⟨_, 0, none⟩) N cap, .int .i64 most] => some ⟨[Nat.beq r0.t tM, Nat.beq r1.t tB, r0.own, r1.own, G.ok r1.c N cap 0], 2, fun fr => .pointer (some ⟨(frN fr 1).b, 0, none⟩),
        fun fr => ⟨(frN fr 1).b, hdr (frN fr 0).b N (G.ln (G.tk r1.c N (frN fr 0).t)) most, tM, true⟩ :: ⟨(frN fr 0).b, G.tk r1.c N (frN fr 0).t, tB, true⟩ :: M, 0⟩
    | _ => none
  | _, _ => none⟩
def grM (G : Ga) (gd : Nat → Nat → Int → Int → Bool) : MSum := ⟨depM, fun k args L M => match args, L with
  | [.pointer (some ⟨_, 0, none⟩), .int .u32 x], [(j0, r0), (j1, r1)] => match r0.c with
    | [.slice (some ⟨_, 0, none⟩) N cap, .int .i64 most] => match gd k N most x with
      | true => some ⟨[Nat.beq r0.t tM, Nat.beq r1.t tB, r0.own, r1.own, G.gk r1.c N cap most x true], 1, fun _ => .int .u32 (Nat.div N 65536 : Nat),
          fun fr => ⟨(frN fr 0).b, G.gw r1.c N x (frN fr 0).t, tB, true⟩ :: (M.set j0 ⟨r0.b, hdr (frN fr 0).b (N + (zX x).toNat) (G.ln (G.gw r1.c N x (frN fr 0).t)) most, tM, true⟩).eraseIdx j1, M.length⟩
      | false => some ⟨[Nat.beq r0.t tM, Nat.beq r1.t tB, r0.own, r1.own, G.gk r1.c N cap most x false], 0, fun _ => .int .u32 4294967295, fun _ => M, 0⟩
    | _ => none
  | _, _ => none⟩
def saS (G : Ga) : MSum := ⟨depM, fun _ args L M => match args, L with
  | [.pointer (some ⟨_, 0, none⟩), .pointer (some ⟨_, 0, none⟩)], [(_, r0), (_, r1), (_, r2), (_, r3)] => match r0.c, r2.c with
    | [.slice (some ⟨_, 0, none⟩) N cap, .int .i64 _], [.slice (some ⟨_, 0, none⟩) N' cap', .int .i64 _] => some ⟨[Nat.beq r0.t tM, Nat.beq r1.t tB, Nat.beq r2.t tM, Nat.beq r3.t tB, G.sm r1.c r3.c N N' cap cap'], 0, fun _ => .bool true, fun _ => M, 0⟩
    | _, _ => none
  | _, _ => none⟩
section
variable {k : Nat} {args : List Value} {L : List (Nat × Rw)} {M : List Rw} {H : MHole}
theorem own_row {r : Rw} {t : TypeId} {c : List Value} (h : r.own = true) (ht : r.t = t) (hc : r.c = c) : r = ⟨r.b, c, t, true⟩ := by
  cases r; cases h; cases ht; cases hc; rfl
theorem nwM_ok (nw : Nat → Int) (hq : (nwM gaR nw).hole k args L M = some H) (_hr : Res2 depM M args L) (hpre : ∀ b ∈ H.pre, b = true) (w0 w : World) (hS : SG w0 M w) :
    Calls Try.prog 8 args.toArray w fun e w' => ∃ fr : List Fr, fr.length = H.n ∧ e = .returned (H.v fr) ∧ SG w0 (H.out fr) w' := by
  unfold nwM at hq
  simp only at hq
  split at hq
  · rename_i l m
    split at hq
    · cases hq
      have h := of_decide_eq_true (hpre _ (List.mem_cons_self ..))
      exact (new_ok h hS).mono fun e w' ⟨β, h1, h2⟩ => ⟨[β 0, β 1], rfl, h1, h2⟩
    · rename_i hne
      cases hq
      have h : nwE l m = nw (mCount M) := of_decide_eq_true (hpre _ (List.mem_cons_self ..))
      have h0 : nwE l m ≠ 0 := by rw [h]; exact hne
      rw [← h]
      exact (new_no h0 hS).mono fun e w' ⟨h1, h2⟩ => ⟨[], rfl, h1, h2⟩
  · cases hq
theorem pre5 {a b c d e : Bool} (h : ∀ x ∈ [a, b, c, d, e], x = true) : a = true ∧ b = true ∧ c = true ∧ d = true ∧ e = true :=
  ⟨h _ (List.mem_cons_self ..), h _ (List.mem_cons_of_mem _ (List.mem_cons_self ..)), h _ (List.mem_cons_of_mem _ (List.mem_cons_of_mem _ (List.mem_cons_self ..))), h _ (List.mem_cons_of_mem _ (List.mem_cons_of_mem _ (List.mem_cons_of_mem _ (List.mem_cons_self ..)))),
    h _ (List.mem_cons_of_mem _ (List.mem_cons_of_mem _ (List.mem_cons_of_mem _ (List.mem_cons_of_mem _ (List.mem_cons_self ..)))))⟩
theorem ldM_ok (hq : (ldM gaR).hole k args L M = some H) (hr : Res2 depM M args L) (hpre : ∀ b ∈ H.pre, b = true) (w0 w : World) (hS : SG w0 M w) :
    Calls Try.prog 24 args.toArray w fun e w' => ∃ fr : List Fr, fr.length = H.n ∧ e = .returned (H.v fr) ∧ SG w0 (H.out fr) w' := by
  unfold ldM at hq
  simp only at hq
  split at hq
  · rename_i b a n j0 r0 j1 r1
    split at hq
    · rename_i b1 N cap most hc
      cases hq
      obtain ⟨t0, t1, o0, o1, hF⟩ := pre5 hpre
      obtain ⟨m0, m1, rfl, rfl, _⟩ := res_mem hr (Nat.eq_of_beq_eq_true t0) hc
      have e0 := own_row o0 (Nat.eq_of_beq_eq_true t0) hc
      have e1 := own_row o1 (Nat.eq_of_beq_eq_true t1) rfl
      rw [e0] at m0
      rw [e1] at m1
      exact (ld_any hS (okB_iff.1 hF) m0 m1).mono fun e w' ⟨h1, h2⟩ => ⟨[], rfl, h1, h2⟩
    · cases hq
  · cases hq
theorem stM_ok (hq : (stM gaR).hole k args L M = some H) (hr : Res2 depM M args L) (hpre : ∀ b ∈ H.pre, b = true) (w0 w : World) (hS : SG w0 M w) :
    Calls Try.prog 38 args.toArray w fun e w' => ∃ fr : List Fr, fr.length = H.n ∧ e = .returned (H.v fr) ∧ SG w0 (H.out fr) w' := by
  unfold stM at hq
  simp only at hq
  split at hq
  · rename_i b a n x j0 r0 j1 r1
    split at hq
    · rename_i b1 N cap most hc
      cases hq
      obtain ⟨t0, t1, o0, o1, hF⟩ := pre5 hpre
      obtain ⟨m0, m1, rfl, rfl, _⟩ := res_mem hr (Nat.eq_of_beq_eq_true t0) hc
      have e0 := own_row o0 (Nat.eq_of_beq_eq_true t0) hc
      have e1 := own_row o1 (Nat.eq_of_beq_eq_true t1) rfl
      rw [e0] at m0
      rw [e1] at m1
      exact (st_any hS (okB_iff.1 hF) x m0 m1).mono fun e w' ⟨h1, h2⟩ => ⟨[], rfl, h1, h2⟩
    · cases hq
  · cases hq
end
end Mm
end Go.Proofs.Ytmgkejpjljkfdaa
