/-
  Joined: VmFl, VmFm, VmFn, VmFo, VmFu, VmFv.
-/
import Derived.Test.YtmgkejpjljkfdaaVmJa
import Derived.Test.YtmgkejpjljkfdaaSig
namespace Go.Proofs.Ytmgkejpjljkfdaa
open Go.RowKit VecM Ev Mm
namespace Vm
/-- bytes read and written in rows that the address's slot tells; addresses of elements -/
noncomputable def byG (I : Nat → Nat → Option Nat) (o : Oper) (T : Tm) (M : List Rw) : Option OHole :=
  match o.op with
  | .load t (.tmp p) => match Nat.beq t 5 with
    | true => match I p M.length with
      | some j => match tget T p, Ev.rowAt M j with
        | .pointer (some ⟨_, off, none⟩), some r => some ⟨T.n, [(p, .pointer (some ⟨r.b, off, none⟩))], M, [isB r.c[off]?], some (.int .u8 (gB r.c off)), M⟩
        | _, _ => none
      | none => none
    | false => none
  | .store t (.tmp p) y => match Nat.beq t 5 with
    | true => match I p M.length with
      | some j => match o.guard, tget T p, evalT T y, Ev.rowAt M j with
        | none, .pointer (some ⟨_, off, none⟩), .int .u8 z, some r => match r.own with
          | true => some ⟨T.n, [(p, .pointer (some ⟨r.b, off, none⟩))], M, [decide (off < r.c.length)], none, M.set j ⟨r.b, r.c.set off (.int .u8 z), r.t, true⟩⟩
          | false => none
        | _, _, _, _ => none
      | none => none
    | false => none
  | .indexAddr t y i => match Nat.beq t 23 with
    | true => match evalT T y, evalT T i with
      | .slice (some ⟨b, off, none⟩) m _, .int _ z => some ⟨T.n, [], M, [decide (0 ≤ z), decide (z < (m : Int))], some (.pointer (some ⟨b, off + z.toNat, none⟩)), M⟩
      | _, _ => none
    | false => match Nat.beq t 35 with
      | true => match evalT T y, evalT T i with
        | .pointer (some ⟨b, 0, none⟩), .int _ z => some ⟨T.n, [], M, [decide (0 ≤ z), decide (z < 16)], some (.pointer (some ⟨b, z.toNat, none⟩)), M⟩
        | _, _ => none
      | false => none
  | _ => none
theorem byG_ok (I : Nat → Nat → Option Nat) : OphAt (byG I) := by
  intro o T M H hq hn hneed hrows hpre w0 w hS
  have he := eval_T T []
  unfold byG at hq
  split at hq
  · rename_i t p hop
    split at hq
    · rename_i ht
      obtain rfl := Nat.eq_of_beq_eq_true ht
      split at hq
      · split at hq
        · rename_i j _ b off r hx hr
          cases hq
          have h0 := hpre _ (List.mem_cons_self ..)
          have hp := hneed _ (List.mem_cons_self ..)
          simp only at hp
          rw [rowAt_eq] at hr
          refine ⟨w, ?_, hS⟩
          obtain ⟨fr, hrow, _⟩ := hS.row (List.mem_of_getElem? hr)
          refine run_load8 hop (b := r.b) (j := off) hp ?_
          rw [cell_of_row w r.b off _ _ fr hrow]
          simpa using isB_eq h0
        · cases hq
      · cases hq
    · cases hq
  · rename_i t p y hop
    split at hq
    · rename_i ht
      obtain rfl := Nat.eq_of_beq_eq_true ht
      split at hq
      · split at hq
        · rename_i j _ b off z r hgd hx hy hr
          split at hq
          · rename_i how
            cases hq
            have h0 := hpre _ (List.mem_cons_self ..)
            simp only [decide_eq_true_eq] at h0
            have hp := hneed _ (List.mem_cons_self ..)
            simp only at hp
            rw [rowAt_eq] at hr
            obtain ⟨fr, hrow, hfr⟩ := hS.row (List.mem_of_getElem? hr)
            have hm : Has (ents M) r.b r.c.toArray r.t := ents_mem (List.mem_of_getElem? hr) how
            refine ⟨w.setCell ⟨r.b, off, none⟩ (.int .u8 z), ?_, hS.setCell hr how off (.int .u8 z)⟩
            rw [← he]
            refine run_put (P := Try.prog) (a := ⟨T.toArray, []⟩) (u := r.c[off]) (v := .int .u8 z) hop (by rw [he]; exact hp) (by rw [he]; exact hy) info8 size8 rfl w ?_ (hS.1.thawed hm off)
            rw [hS.1.cell hm off]
            simp [h0]
          · cases hq
        · cases hq
      · cases hq
    · cases hq
  · rename_i t y i hop
    split at hq
    · rename_i ht
      obtain rfl := Nat.eq_of_beq_eq_true ht
      split at hq
      · rename_i b off m cap kd z hx hi
        cases hq
        have h0 := hpre _ (List.mem_cons_self ..)
        have h1 := hpre _ (List.mem_cons_of_mem _ (List.mem_cons_self ..))
        simp only [decide_eq_true_eq] at h0 h1
        exact ⟨w, run_saddr' (j := z.toNat) hop hx (by rw [hi]; congr 1; omega) Try.underlying23 info8 size8 (by omega) w, hS⟩
      · cases hq
    · split at hq
      · rename_i ht
        obtain rfl := Nat.eq_of_beq_eq_true ht
        split at hq
        · rename_i b kd z hx hi
          cases hq
          have h0 := hpre _ (List.mem_cons_self ..)
          have h1 := hpre _ (List.mem_cons_of_mem _ (List.mem_cons_self ..))
          simp only [decide_eq_true_eq] at h0 h1
          refine ⟨w, ?_, hS⟩
          rw [← he]
          exact run_addr (P := Try.prog) (a := ⟨T.toArray, []⟩) hop (by rw [he]; exact hx) (kd := kd) (j := z.toNat) (by rw [he, hi]; congr 1; omega) Try.underlying35 info8 size8 (by omega) w
        · cases hq
      · cases hq
  · cases hq
/-- a page made -/
noncomputable def mkOp (z : Nat → List Value) (o : Oper) (T : Tm) (M : List Rw) : Option AHole :=
  match o.op with
  | .makeSlice t (.const (.int kd n)) (.const (.int kd' m)) => match Nat.beq t 23 with
    | true => match o.guard with
      | none => some ⟨T.n, [], [decide (n = 65536), decide (m = 65536), Nat.beq (kNum kd) (kNum kd')], 1, fun fr => some (.slice (some ⟨(hdF fr).b, 0, none⟩) 65536 65536), fun fr => ⟨(hdF fr).b, z 65536, 5, true⟩ :: M, 0⟩
      | _ => none
    | false => none
  | _ => none
theorem kNum_inj {k k' : IntKind} (h : kNum k = kNum k') : k = k' := by cases k <;> cases k' <;> first | rfl | exact absurd h (by decide)
theorem mkOp_ok (o : Oper) (T : Tm) (M : List Rw) (H : AHole) (hq : mkOp zC o T M = some H) (_hn : T.n = H.n) (_hneed : ∀ p ∈ H.need, tget T p.1 = p.2) (hpre : ∀ b ∈ H.pre, b = true) (w0 w : World) (hS : SG w0 M w) :
    ∃ fr w', fr.length = H.nf ∧ (execOp (evalT T) o).run Try.prog w = .ok (match H.v fr with | some v => .value v | none => .skip) w' ∧ SG w0 (H.out fr) w' := by
  unfold mkOp at hq
  split at hq
  · rename_i t kd n kd' m hop
    split at hq
    · rename_i ht
      obtain rfl := Nat.eq_of_beq_eq_true ht
      split at hq
      · cases hq
        have h0 := hpre _ (List.mem_cons_self ..)
        have h1 := hpre _ (List.mem_cons_of_mem _ (List.mem_cons_self ..))
        have h2 := kNum_inj (Nat.eq_of_beq_eq_true (hpre _ (List.mem_cons_of_mem _ (List.mem_cons_of_mem _ (List.mem_cons_self ..)))))
        simp only [decide_eq_true_eq] at h0 h1
        subst h0 h1 h2
        have hr := run_make_row (P := Try.prog) 23 5 _ _ Try.underlying23 info8 zero8 size8 rfl kd kd 65536 (by rw [bytes8]; omega) (by omega) w
        refine ⟨[⟨w.heap.size, fun _ => undef, []⟩], w.alloc (.cells (madeCells #[.int .u8 0] 65536) 5), rfl, ?_, ?_⟩
        · have hp : evalT T (.const (.int kd 65536)) = .int kd ((65536 : Nat) : Int) := rfl
          unfold execOp
          simp only [hop, hp, Sem.run_bind, hr, Result.andThen_ok, Sem.run_pure]
          rfl
        · rw [made_zC]
          exact hS.alloc (zC 65536) 5
      · cases hq
    · cases hq
  · cases hq
/-- counting up by d -/
def ic (d : Int) : Nat → Int
  | 0 => 0
  | k + 1 => IntKind.i64.wrap (ic d k + d)
theorem ic1 : ∀ k : Nat, k ≤ 65536 → ic 1 k = k := by
  intro k
  induction k with
  | zero => intro _; rfl
  | succ k ih => intro hk; rw [ic, ih (by omega), wi (by omega) (by omega)]; omega
theorem ic2 : ∀ k : Nat, k ≤ 16 → ic 4096 k = ((4096 * k : Nat) : Int) := by
  intro k
  induction k with
  | zero => intro _; rfl
  | succ k ih => intro hk; rw [ic, ih (by omega), wi (by omega) (by omega)]; omega
/-- the byte that tells a place -/
def fvI (z : Int) : Int := IntKind.u8.wrap ((BitVec.ofInt 8 (IntKind.u8.wrap z) ^^^ BitVec.ofInt 8 (IntKind.u8.wrap (z.fdiv (2 ^ (min (Int.toNat 8) 64))))).toNat : Int)
theorem fvI_bd (z : Int) : 0 ≤ fvI z ∧ fvI z ≤ 255 := by
  unfold fvI
  rw [IntKind.wrap_u8]
  omega
structure Gf where
  fl : List Value
  h : List Value → Bool
  g : List Value → List Value
  fv : Int → Int
def fS (c : List Value) : Nat → List Value
  | 0 => c
  | k + 1 => (fS c k).set (0 + (ic 1 k).toNat) (.int .u8 (fvI (ic 1 k)))
def fS1 (c : List Value) : List Value := fS c 65536
theorem fS1_eq (c : List Value) : fS1 c = fS c 65536 := by unfold fS1; rfl
attribute [irreducible] fS1
def flV : List Value := cpP (zC 65536) 65536 0 (fS1 (zC 65536)) 0 65536
def gfR : Gf := ⟨flV, fun c => decide (c.length = 65536), fS1, fvI⟩
def gfS : Gf := ⟨[], fun _ => true, fun c => c, fun _ => 0⟩
def fR (b2 : Nat) (c : List Value) (mb b1 N cap : Nat) (most : Int) (c1 : List Value) : List Rw := [⟨b2, c, tB, true⟩, ⟨mb, hdr b1 N cap most, tM, true⟩, ⟨b1, c1, tB, true⟩]
def fhav : List Nat := [4] ++ (List.range 13).map (· + 10)
def fnc (b2 : Nat) : List (Nat × Value) := [(3, .slice (some ⟨b2, 0, none⟩) 65536 65536)]
def nw1 (s : Nat) (z : Int) : List (Nat × Value) := [(s, .int .i64 z)]
def fI : Nat → Nat → Option Nat := fun p _ => match Nat.beq p 22 with | true => some 0 | false => none
noncomputable def envF : Env := { P := Try.prog, known := [], sum := fun _ _ => none, oph := byG fI }
noncomputable def cdPath (E : Env) (k : Nat) (c : Code) (need need' : List (Nat × Value)) (M M' : List Rw) (ex : Exit) (give : List (Nat × Value)) (hav : List Nat) (M1 : List Rw) (g : Nat → Value) (β : Nat → Fr) : Out :=
  evCode E E 4000 c (valsOf need g k) (valsOf need' (fun _ => undef) k) M M' ex (give ++ keepOf need g k hav) M1 β
def D_fr (c : List Value) (p : Nat) : List (Bool × Bool) := [(decide (ic 1 p < 65536), true), (decide (0 ≤ ic 1 p), true), (decide (ic 1 p < 65536), true), (decide (0 + (ic 1 p).toNat < c.length), true)]
noncomputable def P_fr (b2 : Nat) (c : List Value) (mb b1 N cap : Nat) (most : Int) (c1 : List Value) (p : Nat) (g : Nat → Value) (β : Nat → Fr) : Out :=
  cdPath envF 27 (loopIn 20 0) (fnc b2 ++ nw1 4 (ic 1 p)) (fnc 1001 ++ nw1 4 0) (fR b2 c mb b1 N cap most c1) (fR 1001 [.int .u8 0] 1002 1003 0 0 0 []) .normal (nw1 4 (ic 1 (p + 1))) fhav (fR b2 (c.set (0 + (ic 1 p).toNat) (.int .u8 (fvI (ic 1 p)))) mb b1 N cap most c1) g β
def t_fr : List Nat := [4, 3, 2, 1]
noncomputable def P_fe (b2 : Nat) (c : List Value) (mb b1 N cap : Nat) (most : Int) (c1 : List Value) (p : Nat) (g : Nat → Value) (β : Nat → Fr) : Out :=
  cdPath envF 27 (loopIn 20 0) (fnc b2 ++ nw1 4 (ic 1 p)) (fnc 1001 ++ nw1 4 65536) (fR b2 c mb b1 N cap most c1) (fR 1001 [.int .u8 0] 1002 1003 0 0 0 []) (.exit 0) (nw1 4 (ic 1 p)) fhav (fR b2 c mb b1 N cap most c1) g β
def t_fe : List Nat := [1]
end Vm
end Go.Proofs.Ytmgkejpjljkfdaa
namespace Go.Proofs.Ytmgkejpjljkfdaa
open Go.RowKit VecM Ev Mm
namespace Vm
theorem envF_ok : OphOk envF := oph_of rfl (byG_ok fI)
theorem gh_iff {c : List Value} : gfR.h c = true ↔ c.length = 65536 := decide_eq_true_iff
theorem R_fr (b2 : Nat) (c : List Value) (mb b1 N cap : Nat) (most : Int) (c1 : List Value) (p : Nat) (hD : ∀ q ∈ D_fr c p, q.1 = q.2) :
    Runs (loopIn 20 0) 27 (fnc b2 ++ nw1 4 (ic 1 p)) (fR b2 c mb b1 N cap most c1) .normal (nw1 4 (ic 1 (p + 1))) fhav (fR b2 (c.set (0 + (ic 1 p).toNat) (.int .u8 (fvI (ic 1 p)))) mb b1 N cap most c1) :=
  runs_code (E := envF) (E' := envF) rfl (nosum_ok _ rfl) (fuel := 4000) (need' := fnc 1001 ++ nw1 4 0) (M' := fR 1001 [.int .u8 0] 1002 1003 0 0 0 []) rfl (D_fr c p) t_fr hD
    (fun g β => (by kernel_rfl : tagOL (D_fr c p) t_fr (P_fr b2 c mb b1 N cap most c1 p g β) = tagOR (D_fr c p) t_fr (P_fr b2 c mb b1 N cap most c1 p g β))) (ho := envF_ok)
theorem R_fe (b2 : Nat) (c : List Value) (mb b1 N cap : Nat) (most : Int) (c1 : List Value) (p : Nat) (hD : ∀ q ∈ [(decide (ic 1 p < 65536), false)], q.1 = q.2) :
    Runs (loopIn 20 0) 27 (fnc b2 ++ nw1 4 (ic 1 p)) (fR b2 c mb b1 N cap most c1) (.exit 0) (nw1 4 (ic 1 p)) fhav (fR b2 c mb b1 N cap most c1) :=
  runs_code (E := envF) (E' := envF) rfl (nosum_ok _ rfl) (fuel := 4000) (need' := fnc 1001 ++ nw1 4 65536) (M' := fR 1001 [.int .u8 0] 1002 1003 0 0 0 []) rfl [(decide (ic 1 p < 65536), false)] t_fe hD
    (fun g β => (by kernel_rfl : tagOL [(decide (ic 1 p < 65536), false)] t_fe (P_fe b2 c mb b1 N cap most c1 p g β) = tagOR [(decide (ic 1 p < 65536), false)] t_fe (P_fe b2 c mb b1 N cap most c1 p g β))) (ho := envF_ok)
theorem fblk : blkIn 20 0 = .block 0 (.loop (loopIn 20 0)) := by kernel_rfl
theorem fnoloop : ∀ b, loopIn 20 0 ≠ .loop b := by
  intro b h
  have : (match loopIn 20 0 with | .loop _ => true | _ => false) = false := by kernel_rfl
  rw [h] at this
  cases this
/-- fewer slots told -/
theorem runs_less {c : Code} {n : Nat} {need give : List (Nat × Value)} {R R1 : List Rw} {ex : Exit} {hav : List Nat} (h : Runs c n need R ex give hav R1) : Runs c n need R ex [] hav R1 :=
  fun w0 w T Q hn hneed hS hQ => h w0 w T Q hn hneed hS fun T' w' e1 _ e3 e4 => hQ T' w' e1 (fun _ hp => by cases hp) e3 e4
theorem fS_len (c : List Value) : ∀ k, (fS c k).length = c.length
  | 0 => rfl
  | k + 1 => by rw [fS, List.length_set, fS_len c k]
theorem floop {c : List Value} (hc : c.length = 65536) (b2 mb b1 N cap : Nat) (most : Int) (c1 : List Value) :
    Runs (blkIn 20 0) 27 (fnc b2 ++ nw1 4 0) (fR b2 c mb b1 N cap most c1) .normal [] fhav (fR b2 (fS1 c) mb b1 N cap most c1) := by
  rw [fblk, fS1_eq]
  refine runs_less (runs_loop (id := 0) (n := 27) (m := 65536) (nc := fnc b2) (nv := fun p => nw1 4 (ic 1 p)) (hav := fhav) (R := fun p => fR b2 (fS c p) mb b1 N cap most c1) fnoloop (fun p hp => ?_) (fun p hp => ?_) ?_)
  · obtain rfl := List.mem_singleton.1 hp
    exact ⟨show (3 : Nat) < 27 by decide, show memN fhav 3 = false by decide⟩
  · have e := ic1 p (by omega)
    refine R_fr b2 (fS c p) mb b1 N cap most c1 p (one_d (decide_eq_true ?_) (one_d (decide_eq_true ?_) (one_d (decide_eq_true ?_) (one_d (decide_eq_true ?_) nil_d))))
    · rw [e]; omega
    · rw [e]; omega
    · rw [e]; omega
    · rw [e, fS_len, hc]; omega
  · refine R_fe b2 (fS c 65536) mb b1 N cap most c1 65536 (one_d (decide_eq_false ?_) nil_d)
    rw [ic1 _ (Nat.le_refl _)]; omega
noncomputable def hoF (B : Gf) (id : Nat) (_ : Code) (_ : Tm) (M : List Rw) : Option Hole :=
  match Nat.beq id 0 with
  | true => match M with
    | [⟨b2, c, _, _⟩, ⟨mb, [.slice (some ⟨_, 0, none⟩) N cap, .int .i64 most], _, _⟩, ⟨b1, c1, _, _⟩] => some (mkHole (blkIn 20 0) 27 (fnc b2 ++ nw1 4 0) (fR b2 c mb b1 N cap most c1) [B.h c] .normal [] fhav (fR b2 (B.g c) mb b1 N cap most c1))
    | _ => none
  | false => none
noncomputable def envFl (G : Ga) (K : Gq) (B : Gf) : Env :=
  { P := Try.prog, known := [], sum := fun _ _ => none, hole := hoF B, aop := mkOp G.zc, msum := orM [(8, nwM G fun _ => 0), (10, poM K)] }
theorem envFl_ms (B : Gf) : MsOk (envFl gaR gqR B) := by
  intro f D hq k args L M H h1 h2 h3 w0 w hS
  have hm := orM_mem hq
  simp only [List.mem_cons, List.not_mem_nil, or_false, Prod.mk.injEq] at hm
  rcases hm with ⟨rfl, rfl⟩ | ⟨rfl, rfl⟩
  · exact nwM_ok _ h1 h2 h3 w0 w hS
  · exact poM_ok k args L M H h1 h2 h3 w0 w hS
theorem envFl_ok (B : Gf) : OphOk (envFl gaR gqR B) := ⟨fun _ _ _ _ hq => (by cases hq), fun _ _ _ _ hq => (by cases hq), envFl_ms B, mkOp_ok⟩
theorem envFl_holes (G : Ga) (K : Gq) : HolesOk (envFl G K gfR) := by
  intro id body T M H hq hn hneed hrows hpre w0 w1 Q hS hQ
  replace hq : hoF gfR id body T M = some H := hq
  unfold hoF at hq
  split at hq
  · split at hq
    · cases hq
      have h := gh_iff.1 (hpre _ (List.mem_cons_self ..))
      exact mkHole_ok (floop h _ _ _ _ _ _ _) (fun p hp => by cases hp) hn hneed (by rw [hrows] at hS; exact hS) fun ξ w' h => hQ ξ w' h
    · cases hq
  · cases hq
noncomputable def flPath (G : Ga) (K : Gq) (B : Gf) (β : Nat → Fr) : Out :=
  evPathR (envFl G K B) (envFl (gaS 0 0) (gqS 0) gfS) 4000 20 [] [] [] [] (.pointer (some ⟨(β 1).b, 0, none⟩)) 1
    [⟨(β 1).b, hdr (β 0).b (pN 1) (pN 1) 1, tM, true⟩, ⟨(β 0).b, K.cp (G.zc (pN 1)) (pN 1) 0 (B.g (G.zc 65536)) 0 65536, tB, true⟩] β
def D_fl (G : Ga) (K : Gq) (B : Gf) : List (Bool × Bool) := [(G.nq 1 1 0, true), (B.h (G.zc 65536), true), (K.pk (G.zc (pN 1)) (pN 1) (pN 1) 0 (B.g (G.zc 65536)) 0 65536, true)]
def t_fl : List Nat := [0, 0, 0, 3, 0, 0, 0, 0, 0, 2, 0, 0, 0, 1]
end Vm
end Go.Proofs.Ytmgkejpjljkfdaa
namespace Go.Proofs.Ytmgkejpjljkfdaa
open Go.RowKit VecM Ev Mm
namespace Vm
theorem fl_run (G : Ga) (hG : G = gaR) (K : Gq) (hK : K = gqR) (B : Gf) (hB : B = gfR) (hD : ∀ p ∈ D_fl G K B, p.1 = p.2) (w : World) : Calls Try.prog 20 #[] w fun e w' => ∃ β : Nat → Fr, e = .returned (.pointer (some ⟨(β 1).b, 0, none⟩)) ∧
    SG w [⟨(β 1).b, hdr (β 0).b (pN 1) (pN 1) 1, tM, true⟩, ⟨(β 0).b, K.cp (G.zc (pN 1)) (pN 1) 0 (B.g (G.zc 65536)) 0 65536, tB, true⟩] w' :=
  ev_callB (E := envFl G K B) (E' := envFl (gaS 0 0) (gqS 0) gfS) rfl (nosum_ok _ rfl) (fuel := 4000) (args := []) (args' := []) (M := []) (M' := [])
    (v := fun β => .pointer (some ⟨(β 1).b, 0, none⟩)) (k := 1) (M1 := fun β => [⟨(β 1).b, hdr (β 0).b (pN 1) (pN 1) 1, tM, true⟩, ⟨(β 0).b, K.cp (G.zc (pN 1)) (pN 1) 0 (B.g (G.zc 65536)) 0 65536, tB, true⟩]) (fun _ => D_fl G K B) t_fl (fun _ => hD)
    (fun β => (by kernel_rfl : tagOL (D_fl G K B) t_fl (flPath G K B β) = tagOR (D_fl G K B) t_fl (flPath G K B β))) w w ⟨St.start w, fun _ h => by cases h⟩ (hh := by rw [hB]; exact envFl_holes G K) (ho := by rw [hG, hK]; exact envFl_ok B)
theorem set_ok {c : List Value} {N : Nat} (h : OkB c N) (j : Nat) {y : Int} (h0 : 0 ≤ y) (h1 : y ≤ 255) : OkB (c.set j (.int .u8 y)) N := by
  refine ⟨by rw [List.length_set]; exact h.1, fun i hi => ?_⟩
  rw [List.getElem?_set]
  have hl := h.1
  by_cases e : j = i
  · subst e
    rw [if_pos rfl, if_pos (by omega)]
    exact ⟨y, rfl, h0, h1⟩
  · rw [if_neg e]
    exact h.2 i hi
theorem fS_ok : ∀ k, k ≤ 65536 → OkB (fS (zC 65536) k) 65536 ∧ ∀ i : Nat, i < k → gB (fS (zC 65536) k) i = fvI i := by
  intro k
  induction k with
  | zero => exact fun _ => ⟨zC_ok (Nat.le_refl _), fun i hi => absurd hi (by omega)⟩
  | succ k ih =>
    intro hk
    obtain ⟨h1, h2⟩ := ih (by omega)
    rw [fS, ic1 k (by omega)]
    have e : 0 + ((k : Int)).toNat = k := by omega
    rw [e]
    obtain ⟨b0, b1⟩ := fvI_bd (k : Int)
    refine ⟨set_ok h1 k b0 b1, fun i hi => ?_⟩
    rw [gB_set _ _ _ (by have := h1.1; omega)]
    unfold upd
    by_cases hik : i = k
    · rw [if_pos hik, hik]
    · rw [if_neg hik]; exact h2 i (by omega)
theorem fl_src : SrcB (fS1 (zC 65536)) 0 65536 := fun j hj => by
  rw [Nat.zero_add, fS1_eq]
  exact (fS_ok 65536 (Nat.le_refl _)).1.2 j hj
theorem flV_eq : flV = cpV (zC 65536) (0 : Int).toNat (fS1 (zC 65536)) 0 65536 := by
  unfold flV cpP
  rw [if_pos (by decide)]
theorem flV_ok : OkB flV 65536 := by
  rw [flV_eq]
  exact cpV_ok (A := (0 : Int).toNat) (zC_ok (Nat.le_refl _)) fl_src (by omega) (by simp)
theorem flV_gB {i : Nat} (hi : i < 65536) : gB flV i = fvI i := by
  rw [flV_eq]
  have h := cpV_in (A := (0 : Int).toNat) (d := zC 65536) (N := 65536) (n := 65536) (off := 0) (s := fS1 (zC 65536)) (zC_ok (Nat.le_refl _)) fl_src (by omega) (by simp) (j := i) hi
  rw [show (0 : Int).toNat + i = i by simp, Nat.zero_add] at h
  rw [h, fS1_eq]
  exact (fS_ok 65536 (Nat.le_refl _)).2 i hi
theorem D_fl_ok : ∀ p ∈ D_fl gaR gqR gfR, p.1 = p.2 := by
  unfold D_fl
  have e1 : pN 1 = 65536 := by decide
  rw [e1]
  refine one_d (show nqB 1 1 0 = true by decide) (one_d (gh_iff.2 (zC_len 65536)) (one_d (pks_iff.2 ⟨⟨zC_ok (Nat.le_refl _), Nat.le_refl _, by omega, by omega, by omega⟩, by omega, by omega, fl_src⟩) nil_d))
/-- filled, as a call that is known -/
def flC (B : Gf) : CsF := fun f args M => match Nat.beq f 20 with
  | true => match args with
    | [] => some ⟨M, [], 2, fun fr => .pointer (some ⟨(frN fr 1).b, 0, none⟩), fun fr => [⟨(frN fr 1).b, hdr (frN fr 0).b 65536 65536 1, tM, true⟩, ⟨(frN fr 0).b, B.fl, tB, true⟩]⟩
    | _ => none
  | false => none
theorem flC_ok : CsOk (flC gfR) := by
  intro f args M H hq _ _ w0 w hS
  unfold flC at hq
  split at hq
  · rename_i hf
    obtain rfl := Nat.eq_of_beq_eq_true hf
    split at hq
    · cases hq
      refine (fl_run gaR rfl gqR rfl gfR rfl D_fl_ok w).mono fun e w' ⟨β, h1, h2⟩ => ⟨[β 0, β 1], rfl, h1, sg_top hS (fun r hr => ?_) ?_⟩
      · simp only [List.mem_cons, List.not_mem_nil, or_false] at hr
        rcases hr with rfl | rfl <;> rfl
      · have e1 : pN 1 = 65536 := by decide
        rw [e1] at h2
        exact h2
    · cases hq
  · cases hq
theorem run_codeB {E E' : Env} (hP : E.P = Try.prog) (hs : SumOk E) {fuel : Nat} {c : Code} {vals vals' : List Value} {M M' : List Rw} {ex : Exit} {keep : List (Nat × Value)} {M1 : List Rw} (hex : okE ex = true) (D : (Nat → Fr) → List (Bool × Bool)) (ts : List Nat) (hD : ∀ β, ∀ p ∈ D β, p.1 = p.2)
    (h : ∀ β : Nat → Fr, tagOL (D β) ts (evCode E E' fuel c vals vals' M M' ex keep M1 β) = tagOR (D β) ts (evCode E E' fuel c vals vals' M M' ex keep M1 β)) {w0 w : World} (hS : SG w0 M w) {Q : Exit → Act → World → Prop}
    (hQ : ∀ (T' : Tm) w', T'.n = vals.length → (∀ p ∈ keep, tget T' p.1 = p.2) → SG w0 M1 w' → Q ex ⟨T'.toArray, []⟩ w') (hh : HolesOk E := by exact no_holes rfl) (ho : OphOk E := by exact no_oph rfl rfl) : wpX Try.prog c Q ⟨vals.toArray, []⟩ w := by
  have h0 := good_tag (hD noB) ts (h noB)
  unfold evCode evCodeM at h0
  split at h0
  · exact absurd h0 not_good
  · rename_i hl hd
    obtain ⟨T0, hT1, hT2⟩ := fill_T vals vals.length hl
    have hT3 : T0.toArray = vals.toArray := by rw [hT2]; simp
    rw [← hT3]
    have hk : ∀ _ : Nat → Fr, KeepC (fun e T s => (.ok (needE T keep (.eqv (encE e) (encE ex) :: .eqv (encM (s.M.drop (s.M.length - M1.length))) (encM M1) :: .eqv (.int .u64 T.n) (.int .u64 vals.length) :: s.acc)) : Out)) := fun _ e T s l hl hg x hx => by
      cases hl
      exact hg x (needE_sub _ _ _ (List.mem_cons_of_mem _ (List.mem_cons_of_mem _ (List.mem_cons_of_mem _ hx))))
    refine evC_ok hP hs hh ho follows_mixed fuel w0 c noB 0 (evCodeHints E E' fuel c vals vals' M M') M (fun _ => []) T0 w _ Q hk hS (fun β _ => ?_) fun e T' w' ⟨γ', n', h', M2, A', hS', _, _, hgd⟩ => ?_
    · have h1 := good_tag (hD β) ts (h β)
      unfold evCode evCodeM at h1
      simp only [hd, hT1] at h1
      exact h1
    · have h2 := good_ok.1 (hgd γ' .refl)
      have e1 := h2 _ (needE_sub _ _ _ (List.mem_cons_self ..))
      have e2 := h2 _ (needE_sub _ _ _ (List.mem_cons_of_mem _ (List.mem_cons_self ..)))
      have e3 := h2 _ (needE_sub _ _ _ (List.mem_cons_of_mem _ (List.mem_cons_of_mem _ (List.mem_cons_self ..))))
      simp only [It.l, It.r, Lv.v.injEq] at e1 e2 e3
      obtain rfl := encE_inj e1 hex
      simp only [Value.int.injEq, true_and] at e3
      refine hQ T' w' (by omega) (fun p hp => ?_) (encM_inj e2 ▸ hS'.drop _)
      have := h2 _ (needE_mem T' _ _ p hp)
      simpa [It.l, It.r] using this
theorem runs_codeF {E E' : Env} (hP : E.P = Try.prog) (hs : SumOk E) {fuel : Nat} {c : Code} {n : Nat} {need need' : List (Nat × Value)} {M M' : List Rw} {ex : Exit} {give : List (Nat × Value)} {hav : List Nat} {M1 : List Rw} (hex : okE ex = true) (D : (Nat → Fr) → List (Bool × Bool)) (ts : List Nat) (hD : ∀ β, ∀ p ∈ D β, p.1 = p.2)
    (h : ∀ (g : Nat → Value) (β : Nat → Fr), tagOL (D β) ts (evCode E E' fuel c (valsOf need g n) (valsOf need' (fun _ => undef) n) M M' ex (give ++ keepOf need g n hav) M1 β) = tagOR (D β) ts (evCode E E' fuel c (valsOf need g n) (valsOf need' (fun _ => undef) n) M M' ex (give ++ keepOf need g n hav) M1 β))
    (hh : HolesOk E := by exact no_holes rfl) (ho : OphOk E := by exact no_oph rfl rfl) : Runs c n need M ex give hav M1 := by
  intro w0 w T Q hn hneed hS hQ
  rw [vals_eq hn hneed]
  refine run_codeB hP hs hex D ts hD (h (tget T)) hS (fun T' w' e1 e2 e3 => ?_) hh ho
  have e1' : T'.n = n := by rw [e1]; simp [valsOf]
  refine hQ T' w' e1' (fun p hp => e2 p (List.mem_append_left _ hp)) (fun i hi hm => ?_) e3
  have h1 := e2 _ (List.mem_append_right _ (keep_mem (need := need) (g := tget T) hi hm))
  simp only at h1
  rw [h1]
  split
  · rename_i v hv
    exact (hneed _ (assoc_mem hv)).symm
  · rfl
/-! ### untouched: the inner loop's rounds -/
def uI : Nat → Nat → Option Nat := fun p _ => match Nat.beq p 49 with | true => some 0 | false => none
noncomputable def envU : Env := { P := Try.prog, known := [], sum := fun _ _ => none, oph := byG uI }
theorem envU_ok : OphOk envU := oph_of rfl (byG_ok uI)
def uR (d : Nat) (dc : List Value) (mb b1 N cap : Nat) (most : Int) (c : List Value) : List Rw := [⟨d, dc, tB, true⟩, ⟨mb, hdr b1 N cap most, tM, false⟩, ⟨b1, c, tB, false⟩]
def uhav : List Nat := [10, 11] ++ (List.range 30).map (· + 29)
def unc (f a n : Int) (d dn : Nat) : List (Nat × Value) := [(7, .int .i64 f), (8, .slice (some ⟨d, 0, none⟩) 4096 dn), (1, .int .i64 a), (2, .int .i64 n)]
def kkI (f : Int) (p : Nat) : Int := IntKind.i64.wrap (f + ic 1 p)
def uIx (dc : List Value) (f : Int) (p : Nat) : List (Bool × Bool) := [(decide (0 ≤ ic 1 p), true), (decide (ic 1 p < 4096), true), (isB dc[0 + (ic 1 p).toNat]?, true), (gB dc (0 + (ic 1 p).toNat) != fvI (kkI f p), false)]
def D_uA (dc : List Value) (f a : Int) (p : Nat) : List (Bool × Bool) := [(decide (ic 1 p < 4096), true), (decide (kkI f p < a), true)] ++ uIx dc f p
def D_uB (dc : List Value) (f a n : Int) (p : Nat) : List (Bool × Bool) := [(decide (ic 1 p < 4096), true), (decide (kkI f p < a), false), (decide (kkI f p ≥ IntKind.i64.wrap (a + n)), true)] ++ uIx dc f p
def D_uC (f a n : Int) (p : Nat) : List (Bool × Bool) := [(decide (ic 1 p < 4096), true), (decide (kkI f p < a), false), (decide (kkI f p ≥ IntKind.i64.wrap (a + n)), false)]
noncomputable def P_u (f a n : Int) (d dn : Nat) (dc : List Value) (mb b1 N cap : Nat) (most : Int) (c : List Value) (i i' : Int) (a' n' : Int) (ex : Exit) (i1 : Int) (g : Nat → Value) (β : Nat → Fr) : Out :=
  cdPath envU 59 (loopIn 21 2) (unc f a n d dn ++ nw1 10 i) (unc 0 a' n' 1001 4096 ++ nw1 10 i') (uR d dc mb b1 N cap most c) (uR 1001 [.int .u8 0] 1002 1003 0 0 0 []) ex (nw1 10 i1) uhav (uR d dc mb b1 N cap most c) g β
def t_uA : List Nat := [6, 0, 0, 0, 0, 0, 0, 0, 0, 5, 0, 4, 3, 0, 0, 0, 2, 2, 2, 2, 2, 2, 1]
def t_uB : List Nat := [7, 3, 3, 3, 3, 3, 3, 3, 3, 6, 3, 5, 4, 3, 3, 3, 2, 2, 2, 2, 2, 2, 1]
def t_uC : List Nat := [0, 3, 3, 3, 3, 3, 3, 3, 3, 3, 3, 3, 3, 2, 2, 2, 2, 2, 2, 1]
def t_uE : List Nat := [1]
end Vm
end Go.Proofs.Ytmgkejpjljkfdaa
namespace Go.Proofs.Ytmgkejpjljkfdaa
open Go.RowKit VecM Ev Mm
namespace Vm
section
variable (f a n : Int) (d dn : Nat) (dc : List Value) (mb b1 N cap : Nat) (most : Int) (c : List Value) (p : Nat)
theorem R_uA (hD : ∀ q ∈ D_uA dc f a p, q.1 = q.2) : Runs (loopIn 21 2) 59 (unc f a n d dn ++ nw1 10 (ic 1 p)) (uR d dc mb b1 N cap most c) .normal (nw1 10 (ic 1 (p + 1))) uhav (uR d dc mb b1 N cap most c) :=
  runs_code (E := envU) (E' := envU) rfl (nosum_ok _ rfl) (fuel := 4000) (need' := unc 0 5 5 1001 4096 ++ nw1 10 0) (M' := uR 1001 [.int .u8 0] 1002 1003 0 0 0 []) rfl (D_uA dc f a p) t_uA hD
    (fun g β => (by kernel_rfl : tagOL (D_uA dc f a p) t_uA (P_u f a n d dn dc mb b1 N cap most c (ic 1 p) 0 5 5 .normal (ic 1 (p + 1)) g β) = tagOR (D_uA dc f a p) t_uA (P_u f a n d dn dc mb b1 N cap most c (ic 1 p) 0 5 5 .normal (ic 1 (p + 1)) g β))) (ho := envU_ok)
theorem R_uB (hD : ∀ q ∈ D_uB dc f a n p, q.1 = q.2) : Runs (loopIn 21 2) 59 (unc f a n d dn ++ nw1 10 (ic 1 p)) (uR d dc mb b1 N cap most c) .normal (nw1 10 (ic 1 (p + 1))) uhav (uR d dc mb b1 N cap most c) :=
  runs_code (E := envU) (E' := envU) rfl (nosum_ok _ rfl) (fuel := 4000) (need' := unc 0 (-1) 0 1001 4096 ++ nw1 10 0) (M' := uR 1001 [.int .u8 0] 1002 1003 0 0 0 []) rfl (D_uB dc f a n p) t_uB hD
    (fun g β => (by kernel_rfl : tagOL (D_uB dc f a n p) t_uB (P_u f a n d dn dc mb b1 N cap most c (ic 1 p) 0 (-1) 0 .normal (ic 1 (p + 1)) g β) = tagOR (D_uB dc f a n p) t_uB (P_u f a n d dn dc mb b1 N cap most c (ic 1 p) 0 (-1) 0 .normal (ic 1 (p + 1)) g β))) (ho := envU_ok)
theorem R_uC (hD : ∀ q ∈ D_uC f a n p, q.1 = q.2) : Runs (loopIn 21 2) 59 (unc f a n d dn ++ nw1 10 (ic 1 p)) (uR d dc mb b1 N cap most c) .normal (nw1 10 (ic 1 (p + 1))) uhav (uR d dc mb b1 N cap most c) :=
  runs_code (E := envU) (E' := envU) rfl (nosum_ok _ rfl) (fuel := 4000) (need' := unc 0 0 5 1001 4096 ++ nw1 10 0) (M' := uR 1001 [.int .u8 0] 1002 1003 0 0 0 []) rfl (D_uC f a n p) t_uC hD
    (fun g β => (by kernel_rfl : tagOL (D_uC f a n p) t_uC (P_u f a n d dn dc mb b1 N cap most c (ic 1 p) 0 0 5 .normal (ic 1 (p + 1)) g β) = tagOR (D_uC f a n p) t_uC (P_u f a n d dn dc mb b1 N cap most c (ic 1 p) 0 0 5 .normal (ic 1 (p + 1)) g β))) (ho := envU_ok)
theorem R_uE (hD : ∀ q ∈ [(decide (ic 1 p < 4096), false)], q.1 = q.2) : Runs (loopIn 21 2) 59 (unc f a n d dn ++ nw1 10 (ic 1 p)) (uR d dc mb b1 N cap most c) (.exit 2) (nw1 10 (ic 1 p)) uhav (uR d dc mb b1 N cap most c) :=
  runs_code (E := envU) (E' := envU) rfl (nosum_ok _ rfl) (fuel := 4000) (need' := unc 0 0 5 1001 4096 ++ nw1 10 4096) (M' := uR 1001 [.int .u8 0] 1002 1003 0 0 0 []) rfl [(decide (ic 1 p < 4096), false)] t_uE hD
    (fun g β => (by kernel_rfl : tagOL [(decide (ic 1 p < 4096), false)] t_uE (P_u f a n d dn dc mb b1 N cap most c (ic 1 p) 4096 0 5 (.exit 2) (ic 1 p) g β) = tagOR [(decide (ic 1 p < 4096), false)] t_uE (P_u f a n d dn dc mb b1 N cap most c (ic 1 p) 4096 0 5 (.exit 2) (ic 1 p) g β))) (ho := envU_ok)
end
theorem ublk2 : blkIn 21 2 = .block 2 (.loop (loopIn 21 2)) := by kernel_rfl
theorem unoloop2 : ∀ b, loopIn 21 2 ≠ .loop b := by
  intro b h
  have : (match loopIn 21 2 with | .loop _ => true | _ => false) = false := by kernel_rfl
  rw [h] at this
  cases this
theorem ublk0 : blkIn 21 0 = .block 0 (.loop (loopIn 21 0)) := by kernel_rfl
theorem unoloop0 : ∀ b, loopIn 21 0 ≠ .loop b := by
  intro b h
  have : (match loopIn 21 0 with | .loop _ => true | _ => false) = false := by kernel_rfl
  rw [h] at this
  cases this
/-- are these 4096 bytes as they were laid, but for n from a on? -/
structure U2 (f a n : Int) (dc : List Value) : Prop where
  f0 : 0 ≤ f
  f1 : f ≤ 61440
  a0 : -1 ≤ a
  a1 : a ≤ 65536
  n0 : 0 ≤ n
  n1 : n ≤ 16
  ok : OkB dc 4096
  eq : ∀ i : Nat, i < 4096 → (f + i < a ∨ a + n ≤ f + i) → gB dc i = fvI (f + i)
theorem uloop {f a n : Int} {dc : List Value} (H : U2 f a n dc) (d dn mb b1 N cap : Nat) (most : Int) (c : List Value) :
    Runs (blkIn 21 2) 59 (unc f a n d dn ++ nw1 10 0) (uR d dc mb b1 N cap most c) .normal [] uhav (uR d dc mb b1 N cap most c) := by
  obtain ⟨f0, f1, a0, a1, n0, n1, ok, he⟩ := H
  rw [ublk2]
  refine runs_less (runs_loop (id := 2) (n := 59) (m := 4096) (nc := unc f a n d dn) (nv := fun p => nw1 10 (ic 1 p)) (hav := uhav) (R := fun _ => uR d dc mb b1 N cap most c) unoloop2 (fun p hp => ?_) (fun p hp => ?_) ?_)
  · simp only [unc, List.mem_cons, List.not_mem_nil, or_false] at hp
    rcases hp with rfl | rfl | rfl | rfl
    · exact ⟨show (7 : Nat) < 59 by decide, show memN uhav 7 = false by decide⟩
    · exact ⟨show (8 : Nat) < 59 by decide, show memN uhav 8 = false by decide⟩
    · exact ⟨show (1 : Nat) < 59 by decide, show memN uhav 1 = false by decide⟩
    · exact ⟨show (2 : Nat) < 59 by decide, show memN uhav 2 = false by decide⟩
  · have e := ic1 p (by omega)
    have ek : kkI f p = f + p := by unfold kkI; rw [e, wi (by omega) (by omega)]
    have ea : IntKind.i64.wrap (a + n) = a + n := wi (by omega) (by omega)
    have e0 : 0 + (ic 1 p).toNat = p := by rw [e]; omega
    have ix : (f + p < a ∨ a + n ≤ f + p) → ∀ q ∈ uIx dc f p, q.1 = q.2 := fun h => by
      unfold uIx
      rw [e0, ek]
      exact one_d (decide_eq_true (by rw [e]; omega)) (one_d (decide_eq_true (by rw [e]; omega)) (one_d (ok.is hp) (one_d (ne_f (he p hp h)) nil_d)))
    by_cases hA : f + p < a
    · refine R_uA f a n d dn dc mb b1 N cap most c p (app_d (one_d (decide_eq_true (by rw [e]; omega)) (one_d (decide_eq_true (by rw [ek]; exact hA)) nil_d)) (ix (.inl hA)))
    · by_cases hB : a + n ≤ f + p
      · refine R_uB f a n d dn dc mb b1 N cap most c p (app_d (one_d (decide_eq_true (by rw [e]; omega)) (one_d (decide_eq_false (by rw [ek]; exact hA)) (one_d (decide_eq_true (by rw [ek, ea]; exact hB)) nil_d))) (ix (.inr hB)))
      · exact R_uC f a n d dn dc mb b1 N cap most c p (one_d (decide_eq_true (by rw [e]; omega)) (one_d (decide_eq_false (by rw [ek]; exact hA)) (one_d (decide_eq_false (by rw [ek, ea]; omega)) nil_d)))
  · refine R_uE f a n d dn dc mb b1 N cap most c 4096 (one_d (decide_eq_false ?_) nil_d)
    rw [ic1 _ (by omega)]; omega
structure Gu where
  pk : List Value → Nat → Nat → Int → Int → Bool
  u2 : Int → Int → Int → List Value → Bool
  un : List Value → Nat → Nat → Int → Int → Bool
/-- is a page as filled laid it, but for n bytes from a on? -/
structure Un (c : List Value) (N cap : Nat) (a n : Int) : Prop where
  N : N = 65536
  ok : OkB c 65536
  cap : 65536 ≤ cap
  a0 : -1 ≤ a
  a1 : a ≤ 65536
  n0 : 0 ≤ n
  n1 : n ≤ 16
  eq : ∀ i : Nat, i < 65536 → ((i : Int) < a ∨ a + n ≤ i) → gB c i = fvI i
noncomputable def guR : Gu := ⟨pkB, fun f a n dc => @decide (U2 f a n dc) (Classical.propDecidable _), fun c N cap a n => @decide (Un c N cap a n) (Classical.propDecidable _)⟩
def guS : Gu := ⟨fun _ _ _ _ _ => true, fun _ _ _ _ => true, fun _ _ _ _ _ => true⟩
theorem u2_iff {f a n : Int} {dc : List Value} : guR.u2 f a n dc = true ↔ U2 f a n dc := @decide_eq_true_iff _ (Classical.propDecidable _)
theorem un_iff {c : List Value} {N cap : Nat} {a n : Int} : guR.un c N cap a n = true ↔ Un c N cap a n := @decide_eq_true_iff _ (Classical.propDecidable _)
def uQ (mb b1 N cap : Nat) (most : Int) (c : List Value) : List Rw := [⟨mb, hdr b1 N cap most, tM, false⟩, ⟨b1, c, tB, false⟩]
def unc0 (mb : Nat) (a n : Int) : List (Nat × Value) := [(0, .pointer (some ⟨mb, 0, none⟩)), (1, .int .i64 a), (2, .int .i64 n)]
def uhav0 : List Nat := [7, 8, 9, 10, 11] ++ (List.range 47).map (· + 12)
noncomputable def hoU (B : Gu) (id : Nat) (_ : Code) (T : Tm) (M : List Rw) : Option Hole :=
  match Nat.beq id 2 with
  | true => match M with
    | [⟨d, dc, _, _⟩, ⟨mb, [.slice (some ⟨_, 0, none⟩) N cap, .int .i64 most], _, _⟩, ⟨b1, c, _, _⟩] => match tget T 7, tget T 1, tget T 2, tget T 8 with
      | .int .i64 f, .int .i64 a, .int .i64 n, .slice (some ⟨_, 0, none⟩) _ dn => some (mkHole (blkIn 21 2) 59 (unc f a n d dn ++ nw1 10 0) (uR d dc mb b1 N cap most c) [B.u2 f a n dc] .normal [] uhav (uR d dc mb b1 N cap most c))
      | _, _, _, _ => none
    | _ => none
  | false => none
theorem hoU_ok (E : Env) (h : E.hole = hoU guR) : HolesOk E := by
  intro id body T M H hq hn hneed hrows hpre w0 w1 Q hS hQ
  replace hq : hoU guR id body T M = some H := by rw [← h]; exact hq
  unfold hoU at hq
  split at hq
  · split at hq
    · split at hq
      · cases hq
        have h := u2_iff.1 (hpre _ (List.mem_cons_self ..))
        exact mkHole_ok (uloop h _ _ _ _ _ _ _ _) (fun p hp => by cases hp) hn hneed (by rw [hrows] at hS; exact hS) fun ξ w' h => hQ ξ w' h
      · cases hq
    · cases hq
  · cases hq
noncomputable def envV (B : Gu) : Env := { P := Try.prog, known := [], sum := fun _ _ => none, hole := hoU B, msum := fun f => match Nat.beq f 22 with | true => some (pkM B.pk) | false => none }
theorem envV_ms : MsOk (envV guR) := by
  intro f D hq k args L M H h1 h2 h3 w0 w hS
  unfold envV at hq
  simp only at hq
  split at hq
  · rename_i hf
    obtain rfl := Nat.eq_of_beq_eq_true hf
    cases hq
    exact pkM_ok k args L M H h1 h2 h3 w0 w hS
  · cases hq
theorem envV_ok : OphOk (envV guR) := msum_of rfl rfl envV_ms (no_aop rfl)
def udc (c : List Value) (q : Nat) (β : Nat → Fr) : List Value := (c.drop (ic 4096 q).toNat).take (Int.toNat 4096) ++ (β 0).t
def D_ur (B : Gu) (a n : Int) (N cap : Nat) (c : List Value) (q : Nat) (β : Nat → Fr) : List (Bool × Bool) := [(decide (ic 4096 q < 65536), true), (B.pk c N cap (ic 4096 q) 4096, true), (B.u2 (ic 4096 q) a n (udc c q β), true)]
noncomputable def P_ur (B : Gu) (a n : Int) (mb b1 N cap : Nat) (most : Int) (c : List Value) (i i' : Int) (ex : Exit) (i1 : Int) (g : Nat → Value) (β : Nat → Fr) : Out :=
  evCode (envV B) (envV guS) 4000 (loopIn 21 0) (valsOf (unc0 mb a n ++ nw1 7 i) g 59) (valsOf (unc0 1001 5 5 ++ nw1 7 i') (fun _ => undef) 59) (uQ mb b1 N cap most c) (uQ 1001 1002 65536 65536 0 []) ex (nw1 7 i1 ++ keepOf (unc0 mb a n ++ nw1 7 i) g 59 uhav0) (uQ mb b1 N cap most c) β
def t_ur : List Nat := [0, 3, 0, 0, 0, 0, 0, 2, 0, 0, 1]
def t_ue : List Nat := [1]
end Vm
end Go.Proofs.Ytmgkejpjljkfdaa
namespace Go.Proofs.Ytmgkejpjljkfdaa
open Go.RowKit VecM Ev Mm
namespace Vm
section
variable (a n : Int) (mb b1 N cap : Nat) (most : Int) (c : List Value) (q : Nat)
theorem R_ur (hD : ∀ β, ∀ p ∈ D_ur guR a n N cap c q β, p.1 = p.2) : Runs (loopIn 21 0) 59 (unc0 mb a n ++ nw1 7 (ic 4096 q)) (uQ mb b1 N cap most c) .normal (nw1 7 (ic 4096 (q + 1))) uhav0 (uQ mb b1 N cap most c) :=
  (fun (B : Gu) (hB : B = guR) => runs_codeF (E := envV B) (E' := envV guS) rfl (nosum_ok _ rfl) (fuel := 4000) (need' := unc0 1001 5 5 ++ nw1 7 0) (M' := uQ 1001 1002 65536 65536 0 []) rfl (D_ur B a n N cap c q) t_ur (by rw [hB]; exact hD)
    (fun g β => (by kernel_rfl : tagOL (D_ur B a n N cap c q β) t_ur (P_ur B a n mb b1 N cap most c (ic 4096 q) 0 .normal (ic 4096 (q + 1)) g β) = tagOR (D_ur B a n N cap c q β) t_ur (P_ur B a n mb b1 N cap most c (ic 4096 q) 0 .normal (ic 4096 (q + 1)) g β))) (hh := by rw [hB]; exact hoU_ok _ rfl) (ho := by rw [hB]; exact envV_ok)) guR rfl
theorem R_ue (hD : ∀ p ∈ [(decide (ic 4096 q < 65536), false)], p.1 = p.2) : Runs (loopIn 21 0) 59 (unc0 mb a n ++ nw1 7 (ic 4096 q)) (uQ mb b1 N cap most c) (.exit 0) (nw1 7 (ic 4096 q)) uhav0 (uQ mb b1 N cap most c) :=
  (fun (B : Gu) (hB : B = guR) => runs_codeF (E := envV B) (E' := envV guS) rfl (nosum_ok _ rfl) (fuel := 4000) (need' := unc0 1001 5 5 ++ nw1 7 65536) (M' := uQ 1001 1002 65536 65536 0 []) rfl (fun _ => [(decide (ic 4096 q < 65536), false)]) t_ue (fun _ => hD)
    (fun g β => (by kernel_rfl : tagOL [(decide (ic 4096 q < 65536), false)] t_ue (P_ur B a n mb b1 N cap most c (ic 4096 q) 65536 (.exit 0) (ic 4096 q) g β) = tagOR [(decide (ic 4096 q < 65536), false)] t_ue (P_ur B a n mb b1 N cap most c (ic 4096 q) 65536 (.exit 0) (ic 4096 q) g β))) (hh := by rw [hB]; exact hoU_ok _ rfl) (ho := by rw [hB]; exact envV_ok)) guR rfl
end
theorem uloop0 {a n : Int} {N cap : Nat} {c : List Value} (H : Un c N cap a n) (mb b1 : Nat) (most : Int) :
    Runs (blkIn 21 0) 59 (unc0 mb a n ++ nw1 7 0) (uQ mb b1 N cap most c) .normal [] uhav0 (uQ mb b1 N cap most c) := by
  obtain ⟨rfl, ok, hcap, a0, a1, n0, n1, he⟩ := H
  rw [ublk0]
  refine runs_less (runs_loop (id := 0) (n := 59) (m := 16) (nc := unc0 mb a n) (nv := fun p => nw1 7 (ic 4096 p)) (hav := uhav0) (R := fun _ => uQ mb b1 65536 cap most c) unoloop0 (fun p hp => ?_) (fun p hp => ?_) ?_)
  · simp only [unc0, List.mem_cons, List.not_mem_nil, or_false] at hp
    rcases hp with rfl | rfl | rfl
    · exact ⟨show (0 : Nat) < 59 by decide, show memN uhav0 0 = false by decide⟩
    · exact ⟨show (1 : Nat) < 59 by decide, show memN uhav0 1 = false by decide⟩
    · exact ⟨show (2 : Nat) < 59 by decide, show memN uhav0 2 = false by decide⟩
  · have e := ic2 p (by omega)
    have hl := ok.1
    refine R_ur a n mb b1 65536 cap most c p fun β => ?_
    unfold D_ur udc
    rw [e]
    have t1 : ((4096 * p : Nat) : Int).toNat = 4096 * p := by omega
    have t2 : Int.toNat 4096 = 4096 := rfl
    refine one_d (decide_eq_true (by omega)) (one_d (pkB_iff.2 ⟨⟨ok, hcap, by omega, by omega, by omega⟩, by omega, by omega⟩) (one_d (u2_iff.2 ⟨by omega, by omega, a0, a1, n0, n1, ?_, fun i hi h => ?_⟩) nil_d))
    · rw [t1, t2]
      refine ⟨?_, fun i hi => ?_⟩
      · rw [List.length_append, List.length_take, List.length_drop]; omega
      · rw [List.getElem?_append_left (by rw [List.length_take, List.length_drop]; omega), List.getElem?_take_of_lt hi, List.getElem?_drop]
        exact ok.2 _ (by omega)
    · rw [t1, t2]
      have e2 : gB ((c.drop (4096 * p)).take 4096 ++ (β 0).t) i = gB c (4096 * p + i) := by
        unfold gB
        rw [List.getElem?_append_left (by rw [List.length_take, List.length_drop]; omega), List.getElem?_take_of_lt hi, List.getElem?_drop]
      rw [e2, he (4096 * p + i) (by omega) (by omega)]
      congr 1
  · refine R_ue a n mb b1 65536 cap most c 16 (one_d (decide_eq_false ?_) nil_d)
    rw [ic2 _ (by omega)]; omega
noncomputable def hoW (B : Gu) (id : Nat) (_ : Code) (T : Tm) (M : List Rw) : Option Hole :=
  match Nat.beq id 0 with
  | true => match M with
    | [⟨mb, [.slice (some ⟨_, 0, none⟩) N cap, .int .i64 most], _, _⟩, ⟨b1, c, _, _⟩] => match tget T 1, tget T 2 with
      | .int .i64 a, .int .i64 n => some (mkHole (blkIn 21 0) 59 (unc0 mb a n ++ nw1 7 0) (uQ mb b1 N cap most c) [B.un c N cap a n] .normal [] uhav0 (uQ mb b1 N cap most c))
      | _, _ => none
    | _ => none
  | false => none
theorem hoW_ok (E : Env) (h : E.hole = hoW guR) : HolesOk E := by
  intro id body T M H hq hn hneed hrows hpre w0 w1 Q hS hQ
  replace hq : hoW guR id body T M = some H := by rw [← h]; exact hq
  unfold hoW at hq
  split at hq
  · split at hq
    · split at hq
      · cases hq
        have h := un_iff.1 (hpre _ (List.mem_cons_self ..))
        exact mkHole_ok (uloop0 h _ _ _) (fun p hp => by cases hp) hn hneed (by rw [hrows] at hS; exact hS) fun ξ w' h => hQ ξ w' h
      · cases hq
    · cases hq
  · cases hq
noncomputable def envX (B : Gu) : Env := { P := Try.prog, known := [], sum := fun _ _ => none, hole := hoW B }
noncomputable def unPath (B : Gu) (a n : Int) (mb b1 N cap : Nat) (most : Int) (c : List Value) (β : Nat → Fr) : Out :=
  evPathM (envX B) (envX guS) 4000 21 [.pointer (some ⟨mb, 0, none⟩), .int .i64 a, .int .i64 n] [.pointer (some ⟨1001, 0, none⟩), .int .i64 5, .int .i64 5] (uQ mb b1 N cap most c) (uQ 1001 1002 65536 65536 0 []) (.bool true) β
def t_un : List Nat := [0, 1]
end Vm
end Go.Proofs.Ytmgkejpjljkfdaa
namespace Go.Proofs.Ytmgkejpjljkfdaa
open Go.RowKit VecM Ev Mm
namespace Vm
theorem un_run (B : Gu) (hB : B = guR) (a n : Int) (mb b1 N cap : Nat) (most : Int) (c : List Value) (h : B.un c N cap a n = true) (w : World) (hS : SG w (uQ mb b1 N cap most c) w) :
    Calls Try.prog 21 #[.pointer (some ⟨mb, 0, none⟩), .int .i64 a, .int .i64 n] w fun e w' => e = .returned (.bool true) ∧ Gr w w' :=
  ev_pathM (E := envX B) (E' := envX guS) rfl (nosum_ok _ rfl) (fuel := 4000) (args := [.pointer (some ⟨mb, 0, none⟩), .int .i64 a, .int .i64 n]) (args' := [.pointer (some ⟨1001, 0, none⟩), .int .i64 5, .int .i64 5]) (M := uQ mb b1 N cap most c) (M' := uQ 1001 1002 65536 65536 0 []) [(B.un c N cap a n, true)] t_un (one_d h nil_d)
    (fun β => (by kernel_rfl : tagOL [(B.un c N cap a n, true)] t_un (unPath B a n mb b1 N cap most c β) = tagOR [(B.un c N cap a n, true)] t_un (unPath B a n mb b1 N cap most c β))) w hS (hh := by rw [hB]; exact hoW_ok _ rfl)
def unM (B : Gu) : MSum := ⟨depM, fun _ args L M => match args, L with
  | [.pointer (some ⟨_, 0, none⟩), .int .i64 a, .int .i64 n], [(_, r0), (_, r1)] => match r0.c with
    | [.slice (some ⟨_, 0, none⟩) N cap, .int .i64 _] => some ⟨[Nat.beq r0.t tM, Nat.beq r1.t tB, B.un r1.c N cap a n], 0, fun _ => .bool true, fun _ => M, 0⟩
    | _ => none
  | _, _ => none⟩
theorem unM_ok {k : Nat} {args : List Value} {L : List (Nat × Rw)} {M : List Rw} {H : MHole} (hq : (unM guR).hole k args L M = some H) (hr : Res2 depM M args L) (hpre : ∀ b ∈ H.pre, b = true) (w0 w : World) (hS : SG w0 M w) :
    Calls Try.prog 21 args.toArray w fun e w' => ∃ fr : List Fr, fr.length = H.n ∧ e = .returned (H.v fr) ∧ SG w0 (H.out fr) w' := by
  unfold unM at hq
  simp only at hq
  split at hq
  · rename_i b a n j0 r0 j1 r1
    split at hq
    · rename_i b1 N cap most hc
      cases hq
      have t0 := Nat.eq_of_beq_eq_true (hpre _ (List.mem_cons_self ..))
      have t1 := Nat.eq_of_beq_eq_true (hpre _ (List.mem_cons_of_mem _ (List.mem_cons_self ..)))
      have hu := hpre _ (List.mem_cons_of_mem _ (List.mem_cons_of_mem _ (List.mem_cons_self ..)))
      obtain ⟨m0, m1, rfl, rfl, _⟩ := res_mem hr t0 hc
      have h2 : SG w (uQ r0.b r1.b N cap most r1.c) w := sg_given hS fun r hr => by
        simp only [uQ, List.mem_cons, List.not_mem_nil, or_false] at hr
        rcases hr with rfl | rfl
        · exact ⟨r0, List.mem_of_getElem? m0, by unfold thaw hdr; rw [hc, t0]⟩
        · exact ⟨r1, List.mem_of_getElem? m1, by unfold thaw; rw [t1]⟩
      exact (un_run guR rfl a n r0.b r1.b N cap most r1.c hu w h2).mono fun e w' ⟨h3, h4⟩ => ⟨[], rfl, h3, hS.grow h4⟩
    · cases hq
  · cases hq
noncomputable def sumR (f : FuncId) (args : List Value) : Option (List (List Value) × (List (Nat → Int) → Value × List Bool)) :=
  match Nat.beq f 59 with
  | true => match args with
    | [.agg ⟨c⟩, .int .i64 v, .int .i64 i] => some ([c], fun fs => (.int .i64 (sgnI (Ev.hd1 fs) v i), []))
    | _ => none
  | false => sumP f args
theorem sumR_ok {E : Env} (hE : E.sum = sumR) (hK : ∀ x ∈ E.known, Byt x) : SumOk E := by
  intro f args cs mk h fs hcs hfs hp w
  rw [hE] at h
  unfold sumR at h
  split at h
  · rename_i hf
    obtain rfl := Nat.eq_of_beq_eq_true hf
    split at h
    · cases h
      obtain ⟨x, rfl, rfl⟩ := Ev.one_fs hcs
      exact signed_any x (hK x (hfs x (List.mem_cons_self ..))) _ _ w
    · cases h
  · exact sumP_ok (E := { E with sum := sumP }) rfl hK f args cs mk h fs hcs hfs hp w
end Vm
end Go.Proofs.Ytmgkejpjljkfdaa
