/-
  Joined: VmSu, VmAw, VmBk, VmBf.
-/
import Derived.Test.YtmgkejpjljkfdaaMmCp
namespace Go.Proofs.Ytmgkejpjljkfdaa
open Go.RowKit VecM Ev Mm
namespace Vm
noncomputable def sumP (f : FuncId) (args : List Value) : Option (List (List Value) × (List (Nat → Int) → Value × List Bool)) :=
  match Nat.beq f 26 with
  | true => match args with
    | [.agg ⟨c⟩, .int .i64 v, .int .i64 i, .int .u64 x] => some ([c], fun fs => (.agg (bs (setI (Ev.hd1 fs) v i x)), []))
    | _ => none
  | false => match Nat.beq f 28 with
    | true => match args with
      | [.agg ⟨c⟩, .int .i64 v, .int .i64 i] => some ([c], fun fs => (.int .u64 (getI (Ev.hd1 fs) v i), []))
      | _ => none
    | false => none
theorem sumP_ok {E : Env} (hE : E.sum = sumP) (hK : ∀ x ∈ E.known, Byt x) : SumOk E := by
  intro f args cs mk h fs hcs hfs _ w
  rw [hE] at h
  unfold sumP at h
  split at h
  · rename_i hf
    obtain rfl := Nat.eq_of_beq_eq_true hf
    split at h
    · cases h
      obtain ⟨x, rfl, rfl⟩ := Ev.one_fs hcs
      exact set_any x _ _ _ w
    · cases h
  · split at h
    · rename_i hf
      obtain rfl := Nat.eq_of_beq_eq_true hf
      split at h
      · cases h
        obtain ⟨x, rfl, rfl⟩ := Ev.one_fs hcs
        exact get_any x (hK x (hfs x (List.mem_cons_self ..))) _ _ w
      · cases h
    · cases h
/-- does Load answer so? -/
noncomputable def ldQ (c : List Value) (N cap : Nat) (a n z : Int) : Bool := @decide (Fit c N cap a ∧ erV N a n = 0 ∧ ldV c N a n = z) (Classical.propDecidable _)
theorem ldQ_iff {c : List Value} {N cap : Nat} {a n z : Int} : ldQ c N cap a n z = true ↔ Fit c N cap a ∧ erV N a n = 0 ∧ ldV c N a n = z := by unfold ldQ; exact @decide_eq_true_iff _ (Classical.propDecidable _)
def ldK (q : List Value → Nat → Nat → Int → Int → Int → Bool) (z : Int) : MSum := ⟨depM, fun _ args L M => match args, L with
  | [.pointer (some ⟨_, 0, none⟩), .int .u64 a, .int .i64 n], [(_, r0), (_, r1)] => match r0.c with
    | [.slice (some ⟨_, 0, none⟩) N cap, .int .i64 _] => some ⟨[Nat.beq r0.t tM, Nat.beq r1.t tB, r0.own, r1.own, q r1.c N cap a n z], 0, fun _ => .tuple #[.int .u64 z, .int .i64 0], fun _ => M, 0⟩
    | _ => none
  | _, _ => none⟩
theorem ldK_ok (z : Int) {k : Nat} {args : List Value} {L : List (Nat × Rw)} {M : List Rw} {H : MHole} (hq : (ldK ldQ z).hole k args L M = some H) (hr : Res2 depM M args L) (hpre : ∀ b ∈ H.pre, b = true) (w0 w : World) (hS : SG w0 M w) :
    Calls Try.prog 24 args.toArray w fun e w' => ∃ fr : List Fr, fr.length = H.n ∧ e = .returned (H.v fr) ∧ SG w0 (H.out fr) w' := by
  unfold ldK at hq
  simp only at hq
  split at hq
  · rename_i b a n j0 r0 j1 r1
    split at hq
    · rename_i b1 N cap most hc
      cases hq
      obtain ⟨t0, t1, o0, o1, hF⟩ := pre5 hpre
      obtain ⟨hF, he, hz⟩ := ldQ_iff.1 hF
      obtain ⟨m0, m1, rfl, rfl, _⟩ := res_mem hr (Nat.eq_of_beq_eq_true t0) hc
      have e0 := own_row o0 (Nat.eq_of_beq_eq_true t0) hc
      have e1 := own_row o1 (Nat.eq_of_beq_eq_true t1) rfl
      rw [e0] at m0
      rw [e1] at m1
      exact (ld_any hS hF m0 m1).mono fun e w' ⟨h1, h2⟩ => ⟨[], rfl, by rw [h1, he, hz], h2⟩
    · cases hq
  · cases hq
end Vm
end Go.Proofs.Ytmgkejpjljkfdaa
namespace Go.Proofs.Ytmgkejpjljkfdaa
open Go.RowKit VecM Ev Mm
namespace Vm
abbrev LqF := List Value → Nat → Nat → Int → Int → Int → Bool
noncomputable def envW (G : Ga) (K : Gq) (q : LqF) : Env :=
  { P := Try.prog, known := [], sum := fun _ _ => none, msum := orM [(8, nwM G fun _ => 0), (10, poM K), (24, ldK q 511)] }
theorem envW_ms : MsOk (envW gaR gqR ldQ) := by
  intro f D hq k args L M H h1 h2 h3 w0 w hS
  have hm := orM_mem hq
  simp only [List.mem_cons, List.not_mem_nil, or_false, Prod.mk.injEq] at hm
  rcases hm with ⟨rfl, rfl⟩ | ⟨rfl, rfl⟩ | ⟨rfl, rfl⟩
  · exact nwM_ok _ h1 h2 h3 w0 w hS
  · exact poM_ok k args L M H h1 h2 h3 w0 w hS
  · exact ldK_ok 511 h1 h2 h3 w0 w hS
theorem envW_ok : OphOk (envW gaR gqR ldQ) := msum_of rfl rfl envW_ms (no_aop rfl)
def qS : LqF := fun _ _ _ _ _ _ => true
noncomputable def awPath (G : Ga) (K : Gq) (q : LqF) (β : Nat → Fr) : Out :=
  evPathR (envW G K q) (envW (gaS 0 0) (gqS 0) qS) 4000 7 [] [] [] [] (.bool true) 100 [] β
def awB : List Value := [.int .u8 255, .int .u8 1] ++ List.replicate 14 (.int .u8 0)
def awD (G : Ga) (K : Gq) (q : LqF) : List (Bool × Bool) := [(G.nq 1 1 0, true), (K.pk (G.zc (pN 1)) (pN 1) (pN 1) 65520 awB 0 16, true), (q (K.cp (G.zc (pN 1)) (pN 1) 65520 awB 0 16) (pN 1) (pN 1) 65520 8 511, true), (K.er (pN 1) 65520 16 == 0, true)]
def t_vaw : List Nat := [0, 0, 0, 0, 0, 0, 0, 0, 0, 0, 0, 0, 0, 0, 0, 0, 0, 0, 0, 0, 0, 0, 0, 0, 0, 0, 0, 0, 0, 0, 0, 0, 0, 0, 0, 0, 0, 0, 0, 0, 0, 0, 0, 0, 0, 0, 0, 0, 0, 0, 0, 0, 0, 0, 0, 0, 0, 0, 0, 0, 0, 4, 4, 4, 0, 0, 0, 0, 0, 0, 0, 0, 0, 0, 0, 0, 0, 0, 0, 0, 0, 0, 0, 0, 0, 0, 0, 0, 0, 0, 0, 0, 0, 0, 0, 0, 0, 0, 0, 0, 0, 0, 0, 0, 0, 0, 0, 0, 0, 0, 0, 0, 0, 0, 0, 0, 0, 0, 0, 0, 0, 0, 0, 0, 0, 0, 0, 0, 0, 0, 0, 0, 0, 0, 0, 0, 0, 0, 0, 0, 0, 0, 0, 0, 0, 0, 0, 0, 0, 0, 0, 0, 0, 0, 0, 0, 0, 0, 0, 0, 0, 0, 0, 0, 0, 0, 0, 0, 0, 0, 0, 0, 0, 0, 0, 0, 0, 0, 0, 0, 0, 0, 0, 0, 0, 0, 0, 0, 0, 0, 0, 0, 0, 0, 0, 0, 0, 0, 0, 0, 0, 0, 0, 0, 0, 0, 0, 0, 0, 0, 0, 0, 0, 0, 0, 0, 0, 0, 0, 0, 0, 0, 0, 0, 0, 0, 0, 0, 0, 0, 0, 0, 0, 0, 0, 0, 0, 0, 0, 0, 0, 0, 0, 0, 0, 0, 0, 0, 0, 0, 0, 0, 0, 0, 0, 0, 0, 0, 0, 0, 0, 0, 0, 0, 0, 0, 0, 0, 0, 0, 0, 0, 0, 0, 0, 0, 0, 0, 0, 0, 0, 0, 0, 0, 0, 0, 0, 0, 0, 0, 0, 0, 0, 0, 0, 0, 0, 0, 0, 0, 0, 0, 0, 0, 0, 0, 0, 0, 0, 0, 0, 0, 0, 0, 0, 0, 0, 0, 0, 0, 0, 0, 0, 0, 0, 0, 0, 0, 0, 0, 0, 0, 0, 0, 0, 0, 0, 0, 0, 0, 0, 0, 0, 0, 0, 0, 0, 0, 0, 0, 0, 0, 0, 0, 0, 0, 0, 0, 0, 0, 0, 0, 0, 0, 0, 0, 0, 0, 0, 0, 0, 0, 0, 0, 0, 0, 0, 0, 0, 0, 0, 0, 0, 0, 0, 0, 0, 0, 0, 0, 0, 0, 0, 0, 0, 0, 0, 0, 0, 0, 0, 0, 0, 0, 0, 0, 0, 0, 0, 0, 0, 0, 0, 0, 0, 0, 0, 0, 0, 0, 0, 0, 0, 0, 0, 0, 0, 0, 0, 0, 0, 0, 0, 0, 0, 0, 0, 0, 0, 3, 0, 0, 0, 0, 0, 0, 0, 0, 0, 0, 0, 0, 0, 0, 0, 0, 0, 0, 0, 0, 0, 0, 0, 0, 0, 0, 0, 0, 0, 0, 0, 0, 0, 0, 0, 0, 0, 0, 0, 0, 0, 0, 0, 0, 0, 0, 0, 0, 0, 0, 0, 0, 0, 0, 0, 0, 0, 0, 0, 0, 0, 0, 0, 0, 0, 0, 0, 0, 0, 0, 0, 0, 0, 0, 0, 0, 0, 0, 0, 0, 0, 0, 0, 0, 0, 0, 0, 0, 0, 0, 0, 0, 0, 0, 0, 0, 0, 0, 0, 0, 0, 0, 0, 0, 0, 0, 0, 0, 0, 0, 0, 0, 0, 2, 0, 0, 0, 0, 0, 0, 0, 0, 0, 0, 0, 0, 0, 0, 0, 0, 0, 0, 0, 0, 0, 0, 0, 0, 0, 0, 0, 0, 0, 0, 0, 0, 0, 0, 0, 0, 0, 0, 0, 0, 0, 0, 0, 0, 0, 0, 0, 0, 0, 0, 0, 0, 0, 0, 0, 0, 0, 0, 0, 0, 0, 0, 0, 0, 0, 0, 0, 0, 0, 0, 0, 0, 0, 0, 0, 0, 0, 0, 0, 0, 0, 0, 0, 0, 0, 0, 0, 0, 1]
theorem awB_src : SrcB awB 0 16 := src_of (by decide)
theorem z64' {a : Int} (h0 : 0 ≤ a) (h1 : a < 18446744073709551616) : Fit (zC 65536) 65536 65536 a := ⟨z64, Nat.le_refl _, by omega, h0, h1⟩
theorem awD_ok : ∀ p ∈ awD gaR gqR ldQ, p.1 = p.2 := by
  unfold awD
  rw [pN1]
  have F := z64' (a := 65520) (by decide) (by decide)
  have ok := cpV_ok (A := 65520) z64 awB_src (by omega) (by omega)
  have hin : ∀ j, j < 16 → gB (cpV (zC 65536) 65520 awB 0 16) (65520 + j) = gB awB (0 + j) := fun j hj => cpV_in z64 awB_src (by omega) (by omega) hj
  have F2 : Fit (cpV (zC 65536) 65520 awB 0 16) 65536 65536 65520 := ⟨ok, Nat.le_refl _, by omega, by omega, by omega⟩
  refine one_d (show nqB 1 1 0 = true by decide) (one_d (pks_iff.2 ⟨F, by omega, by omega, awB_src⟩) (one_d (ldQ_iff.2 ?_) (one_d (show (erP 65536 65520 16 == 0) = true by decide) nil_d)))
  have he : erV 65536 65520 8 = 0 := by decide
  refine ⟨F2, he, ?_⟩
  show ldV (cpV (zC 65536) 65520 awB 0 16) 65536 65520 8 = 511
  rw [ldV_sum F2 he]
  show sumN (gB (cpV (zC 65536) 65520 awB 0 16)) 65520 8 = 511
  rw [sumN_congr (g := gB awB) (b := 0) 8 fun m hm => hin m (by omega)]
  decide
theorem vaw_run (G : Ga) (hG : G = gaR) (K : Gq) (hK : K = gqR) (q : LqF) (hq : q = ldQ) (w : World) : Calls Try.prog 7 #[] w fun e w' => ∃ _β : Nat → Fr, e = .returned (.bool true) ∧ SG w [] w' :=
  ev_callB (E := envW G K q) (E' := envW (gaS 0 0) (gqS 0) qS) rfl (nosum_ok _ rfl) (fuel := 4000) (args := []) (args' := []) (M := []) (M' := [])
    (v := fun _ => .bool true) (k := 100) (M1 := fun _ => []) (fun _ => awD G K q) t_vaw (fun _ => by rw [hG, hK, hq]; exact awD_ok) (fun β => (by kernel_rfl : tagOL (awD G K q) t_vaw (awPath G K q β) = tagOR (awD G K q) t_vaw (awPath G K q β))) w w ⟨St.start w, fun _ h => by cases h⟩ (ho := by rw [hG, hK, hq]; exact envW_ok)
theorem awake_any (w : World) : Calls Try.prog 7 #[] w fun e w' => e = .returned (.bool true) ∧ Gr w w' := (vaw_run gaR rfl gqR rfl ldQ rfl w).mono fun _ _ ⟨_, h1, h2⟩ => ⟨h1, h2.gr⟩
end Vm
end Go.Proofs.Ytmgkejpjljkfdaa
namespace Go.Proofs.Ytmgkejpjljkfdaa
open Go.RowKit VecM Ev Mm
namespace Vm
def awK : CsF := fun f args M => match Nat.beq f 7 with
  | true => match args with
    | [] => some ⟨M, [], 0, fun _ => .bool true, fun _ => []⟩
    | _ => none
  | false => none
theorem awK_ok : CsOk awK := by
  intro f args M H hq _ _ w0 w hS
  unfold awK at hq
  split at hq
  · rename_i hf
    obtain rfl := Nat.eq_of_beq_eq_true hf
    split at hq
    · cases hq
      exact (awake_any w).mono fun e w' ⟨h1, h2⟩ => ⟨[], rfl, h1, hS.grow h2⟩
    · cases hq
  · cases hq
noncomputable def envB (G : Ga) (K : Gq) (kn : List (Nat → Int)) : Env :=
  { P := Try.prog, known := kn, sum := sumP, csum := awK, msum := orM [(8, nwM G fun _ => 0), (10, poM K), (24, ldM G), (38, stM G)] }
theorem envB_ms (kn : List (Nat → Int)) : MsOk (envB gaR gqR kn) := by
  intro f D hq k args L M H h1 h2 h3 w0 w hS
  have hm := orM_mem hq
  simp only [List.mem_cons, List.not_mem_nil, or_false, Prod.mk.injEq] at hm
  rcases hm with ⟨rfl, rfl⟩ | ⟨rfl, rfl⟩ | ⟨rfl, rfl⟩ | ⟨rfl, rfl⟩
  · exact nwM_ok _ h1 h2 h3 w0 w hS
  · exact poM_ok k args L M H h1 h2 h3 w0 w hS
  · exact ldM_ok h1 h2 h3 w0 w hS
  · exact stM_ok h1 h2 h3 w0 w hS
theorem envB_ok (kn : List (Nat → Int)) : OphOk (envB gaR gqR kn) := ⟨awK_ok, fun _ _ _ _ hq => (by cases hq), envB_ms kn, no_aop rfl⟩
/-- the bytes of a vector, in memory -/
def vL (b : Nat → Int) : List Value := (bs b).toList
def z0 : Nat → Int := fun _ => 0
def b0 (G : Ga) : List Value := G.zc (pN 2)
def pA (a B : Int) : Int := IntKind.u64.wrap (IntKind.u64.wrap (IntKind.u32.wrap a) + IntKind.u64.wrap B)
def pB : Int := IntKind.u64.wrap (IntKind.u64.wrap (IntKind.i64.wrap (((pN 2 : Nat) : Int).tdiv 65536)) * 65536)
def dOut (a B n : Int) : Bool × Bool := (decide (IntKind.u64.wrap (pA a B + IntKind.u64.wrap n) > pB), false)
def c0 (G : Ga) (K : Gq) (a : Int) (v : Nat → Int) : List Value := K.cp (b0 G) (pN 2) (pA a 0) (vL v) 0 16
def lo (G : Ga) (K : Gq) (a : Int) (v : Nat → Int) : Int := G.ld (c0 G K a v) (pN 2) (pA a 0) 8
def hi (G : Ga) (K : Gq) (a : Int) (v : Nat → Int) : Int := G.ld (c0 G K a v) (pN 2) (IntKind.u64.wrap (pA a 0 + 8)) 8
def x1 (G : Ga) (K : Gq) (a : Int) (v : Nat → Int) : Nat → Int := setI z0 64 0 (lo G K a v)
def x2 (G : Ga) (K : Gq) (a : Int) (v : Nat → Int) : Nat → Int := setI (x1 G K a v) 64 1 (hi G K a v)
def iU (l q : Int) : Int := IntKind.u64.wrap ((IntKind.i64.wrap l).tmod q)
def iI (l q : Int) : Int := IntKind.i64.wrap (iU l q)
def bZ (l n q : Int) : Int := IntKind.i64.wrap (n * iI l q)
def gV (v : Nat → Int) (l n q : Int) : Int := getI v (8 * n) (iI l q)
def cN (G : Ga) (v : Nat → Int) (a l : Int) (c : List Value) (n q : Int) : List Value := G.st c (pN 2) (pA a 40) n (gV v l n q)
def dK (G : Ga) (v : Nat → Int) (a l : Int) (c : List Value) (n q : Int) : List (Bool × Bool) :=
  [(decide (iU l q ≥ q), false), dOut a 40 n, (G.ok c (pN 2) (pN 2) (pA a 40), true), (decide (iU l q ≥ q), false), dOut a 40 n, (G.ok (cN G v a l c n q) (pN 2) (pN 2) (pA a 40), true), (decide (bZ l n q < 0), false), (decide (bZ l n q > 4294967295), false), dOut a (bZ l n q) n,
   (G.ok (cN G v a l c n q) (pN 2) (pN 2) (pA a (bZ l n q)), true), (G.er (pN 2) (pA a 40) n != 0, false),
   (!(eq16 (setI z0 (8 * n) (iI l q) (G.ld (cN G v a l c n q) (pN 2) (pA a 40) n)) (setI z0 (8 * n) (iI l q) (gV v l n q))), false),
   (!(eq16 (setI z0 (8 * n) (iI l q) (G.ld (cN G v a l c n q) (pN 2) (pA a (bZ l n q)) n)) (setI z0 (8 * n) (iI l q) (gV v l n q))), false)]
def d0 (G : Ga) (K : Gq) (a : Int) (v : Nat → Int) : List (Bool × Bool) :=
  [(G.nq 2 2 0, true), dOut a 0 16, (K.pk (b0 G) (pN 2) (pN 2) (pA a 0) (vL v) 0 16, true), (K.er (pN 2) (pA a 0) 16 != 0, false), (G.ok (c0 G K a v) (pN 2) (pN 2) (pA a 0), true), (G.ok (c0 G K a v) (pN 2) (pN 2) (IntKind.u64.wrap (pA a 0 + 8)), true), (!(eq16 (x2 G K a v) v), false)]
def c1 (G : Ga) (K : Gq) (a l : Int) (v : Nat → Int) : List Value := cN G v a l (c0 G K a v) 1 16
def c2 (G : Ga) (K : Gq) (a l : Int) (v : Nat → Int) : List Value := cN G v a l (c1 G K a l v) 2 8
def c3 (G : Ga) (K : Gq) (a l : Int) (v : Nat → Int) : List Value := cN G v a l (c2 G K a l v) 4 4
noncomputable def kn0 (G : Ga) (K : Gq) (a : Int) (v : Nat → Int) : List (Nat → Int) := [v, z0, x1 G K a v]
def gaN : Ga := { gaS 0 0 with ld := fun _ _ _ n => (256 ^ n.toNat - 1) / 255 }
def o1 : Nat → Int := fun _ => 1
noncomputable def bkPath (G : Ga) (K : Gq) (kn kn' : List (Nat → Int)) (a l : Int) (v : Nat → Int) (a' l' : Int) (v' : Nat → Int) (β : Nat → Fr) : Out :=
  evPathR (envB G K kn) (envB gaN (gqS 0) kn') 4000 6 [.int .u16 a, .agg (bs v), .int .u8 l] [.int .u16 a', .agg (bs v'), .int .u8 l'] [] [] (.bool true) 1000 [] β
def D_bk (G : Ga) (K : Gq) (a l : Int) (v : Nat → Int) : List (Bool × Bool) := d0 G K a v ++ dK G v a l (c0 G K a v) 1 16 ++ dK G v a l (c1 G K a l v) 2 8 ++ dK G v a l (c2 G K a l v) 4 4 ++ dK G v a l (c3 G K a l v) 8 2
def t_bk : List Nat := [0, 59, 58, 58, 58, 58, 0, 0, 0, 0, 0, 0, 0, 57, 57, 57, 0, 0, 0, 0, 0, 0, 0, 0, 0, 0, 0, 0, 0, 0, 0, 0, 0, 56, 0, 0, 0, 0, 0, 0, 0, 0, 0, 0, 0, 0, 0, 0, 0, 0, 0, 0, 0, 0, 55, 0, 0, 50, 0, 0, 0, 0, 0, 0, 0, 0, 0, 0, 54, 53, 53, 53, 53, 0, 0, 0, 0, 0, 0, 0, 0, 0, 0, 0, 0, 0, 0, 0, 0, 0, 0, 0, 0, 0, 0, 0, 0, 0, 0, 0, 0, 0, 0, 0, 0, 0, 0, 0, 0, 0, 0, 0, 0, 0, 0, 0, 0, 0, 0, 0, 0, 0, 0, 0, 0, 0, 0, 0, 0, 52, 0, 0, 0, 0, 0, 0, 0, 0, 0, 0, 0, 0, 0, 0, 0, 0, 0, 0, 0, 0, 51, 0, 0, 50, 0, 0, 0, 0, 0, 0, 0, 0, 0, 0, 0, 0, 0, 0, 0, 0, 0, 0, 0, 0, 0, 0, 0, 0, 0, 0, 0, 0, 0, 0, 0, 0, 0, 0, 0, 0, 0, 0, 0, 0, 0, 0, 0, 0, 0, 0, 0, 0, 0, 0, 0, 39, 0, 0, 0, 0, 0, 0, 0, 0, 0, 0, 0, 0, 0, 0, 0, 0, 0, 0, 0, 0, 0, 0, 0, 0, 48, 0, 0, 47, 0, 0, 0, 0, 0, 0, 0, 0, 0, 0, 0, 0, 0, 0, 0, 0, 0, 0, 0, 0, 0, 0, 0, 0, 0, 0, 0, 0, 0, 0, 0, 0, 0, 0, 0, 0, 0, 0, 0, 0, 0, 0, 0, 0, 0, 0, 0, 0, 0, 0, 0, 0, 0, 0, 0, 0, 0, 0, 0, 0, 46, 45, 45, 45, 45, 0, 0, 0, 0, 0, 0, 0, 44, 44, 44, 0, 0, 0, 0, 0, 0, 0, 0, 0, 0, 0, 0, 0, 0, 0, 0, 0, 43, 0, 0, 0, 0, 0, 0, 0, 0, 0, 0, 0, 0, 0, 0, 0, 0, 0, 0, 0, 0, 42, 0, 0, 37, 0, 0, 0, 0, 0, 0, 0, 0, 0, 0, 41, 40, 40, 40, 40, 0, 0, 0, 0, 0, 0, 0, 0, 0, 0, 0, 0, 0, 0, 0, 0, 0, 0, 0, 0, 0, 0, 0, 0, 0, 0, 0, 0, 0, 0, 0, 0, 0, 0, 0, 0, 0, 0, 0, 0, 0, 0, 0, 0, 0, 0, 0, 0, 0, 0, 0, 0, 0, 0, 0, 0, 39, 0, 0, 0, 0, 0, 0, 0, 0, 0, 0, 0, 0, 0, 0, 0, 0, 0, 0, 0, 0, 38, 0, 0, 37, 0, 0, 0, 0, 0, 0, 0, 0, 0, 0, 0, 0, 0, 0, 0, 0, 0, 0, 0, 0, 0, 0, 0, 0, 0, 0, 0, 0, 0, 0, 0, 0, 0, 0, 0, 0, 0, 0, 0, 0, 0, 0, 0, 0, 0, 0, 0, 0, 0, 0, 0, 26, 0, 0, 0, 0, 0, 0, 0, 0, 0, 0, 0, 0, 0, 0, 0, 0, 0, 0, 0, 0, 0, 0, 0, 0, 35, 0, 0, 34, 0, 0, 0, 0, 0, 0, 0, 0, 0, 0, 0, 0, 0, 0, 0, 0, 0, 0, 0, 0, 0, 0, 0, 0, 0, 0, 0, 0, 0, 0, 0, 0, 0, 0, 0, 0, 0, 0, 0, 0, 0, 0, 0, 0, 0, 0, 0, 0, 0, 0, 0, 0, 0, 0, 0, 0, 0, 0, 0, 0, 33, 32, 32, 32, 32, 0, 0, 0, 0, 0, 0, 0, 31, 31, 31, 0, 0, 0, 0, 0, 0, 0, 0, 0, 0, 0, 0, 0, 0, 0, 0, 0, 30, 0, 0, 0, 0, 0, 0, 0, 0, 0, 0, 0, 0, 0, 0, 0, 0, 0, 0, 0, 0, 29, 0, 0, 24, 0, 0, 0, 0, 0, 0, 0, 0, 0, 0, 28, 27, 27, 27, 27, 0, 0, 0, 0, 0, 0, 0, 0, 0, 0, 0, 0, 0, 0, 0, 0, 0, 0, 0, 0, 0, 0, 0, 0, 0, 0, 0, 0, 0, 0, 0, 0, 0, 0, 0, 0, 0, 0, 0, 0, 0, 0, 0, 0, 0, 0, 0, 0, 0, 0, 0, 0, 0, 0, 0, 0, 26, 0, 0, 0, 0, 0, 0, 0, 0, 0, 0, 0, 0, 0, 0, 0, 0, 0, 0, 0, 0, 25, 0, 0, 24, 0, 0, 0, 0, 0, 0, 0, 0, 0, 0, 0, 0, 0, 0, 0, 0, 0, 0, 0, 0, 0, 0, 0, 0, 0, 0, 0, 0, 0, 0, 0, 0, 0, 0, 0, 0, 0, 0, 0, 0, 0, 0, 0, 0, 0, 0, 0, 0, 0, 0, 0, 13, 0, 0, 0, 0, 0, 0, 0, 0, 0, 0, 0, 0, 0, 0, 0, 0, 0, 0, 0, 0, 0, 0, 0, 0, 22, 0, 0, 21, 0, 0, 0, 0, 0, 0, 0, 0, 0, 0, 0, 0, 0, 0, 0, 0, 0, 0, 0, 0, 0, 0, 0, 0, 0, 0, 0, 0, 0, 0, 0, 0, 0, 0, 0, 0, 0, 0, 0, 0, 0, 0, 0, 0, 0, 0, 0, 0, 0, 0, 0, 0, 0, 0, 0, 0, 0, 0, 0, 0, 20, 19, 19, 19, 19, 0, 0, 0, 0, 0, 0, 0, 18, 18, 18, 0, 0, 0, 0, 0, 0, 0, 0, 0, 0, 0, 0, 0, 0, 0, 0, 0, 17, 0, 0, 0, 0, 0, 0, 0, 0, 0, 0, 0, 0, 0, 0, 0, 0, 0, 0, 0, 0, 16, 0, 0, 11, 0, 0, 0, 0, 0, 0, 0, 0, 0, 0, 15, 14, 14, 14, 14, 0, 0, 0, 0, 0, 0, 0, 0, 0, 0, 0, 0, 0, 0, 0, 0, 0, 0, 0, 0, 0, 0, 0, 0, 0, 0, 0, 0, 0, 0, 0, 0, 0, 0, 0, 0, 0, 0, 0, 0, 0, 0, 0, 0, 0, 0, 0, 0, 0, 0, 0, 0, 0, 0, 0, 0, 13, 0, 0, 0, 0, 0, 0, 0, 0, 0, 0, 0, 0, 0, 0, 0, 0, 0, 0, 0, 0, 12, 0, 0, 11, 0, 0, 0, 0, 0, 0, 0, 0, 0, 0, 0, 0, 0, 0, 0, 0, 0, 0, 0, 0, 0, 0, 0, 0, 0, 0, 0, 0, 0, 0, 0, 0, 0, 0, 0, 0, 0, 0, 0, 0, 0, 0, 0, 0, 0, 0, 0, 0, 0, 0, 0, 10, 0, 0, 0, 0, 0, 0, 0, 0, 0, 0, 0, 0, 0, 0, 0, 0, 0, 0, 0, 0, 0, 0, 0, 0, 9, 0, 0, 8, 0, 0, 0, 0, 0, 0, 0, 0, 0, 0, 0, 0, 0, 0, 0, 0, 0, 0, 0, 0, 0, 0, 0, 0, 0, 0, 0, 0, 0, 0, 0, 0, 0, 0, 0, 0, 0, 0, 0, 0, 0, 0, 0, 0, 0, 0, 0, 0, 0, 0, 0, 0, 0, 0, 0, 0, 0, 0, 0, 0, 7, 0, 0, 0, 0, 0, 0, 0, 0, 0, 0, 0, 6, 0, 0, 0, 0, 5, 0, 0, 0, 0, 0, 0, 0, 2, 0, 0, 0, 0, 0, 0, 0, 0, 0, 0, 0, 0, 0, 0, 0, 0, 0, 0, 0, 0, 0, 0, 0, 0, 0, 0, 0, 0, 4, 0, 0, 0, 3, 0, 0, 0, 0, 0, 0, 0, 0, 0, 0, 0, 0, 0, 0, 0, 0, 2, 0, 0, 0, 0, 0, 0, 0, 0, 0, 0, 0, 0, 0, 0, 0, 0, 0, 0, 0, 0, 0, 0, 0, 0, 0, 0, 0, 0, 0, 0, 0, 0, 0, 0, 0, 0, 0, 0, 0, 0, 0, 0, 0, 0, 0, 0, 1, 0]
end Vm
end Go.Proofs.Ytmgkejpjljkfdaa
namespace Go.Proofs.Ytmgkejpjljkfdaa
open Go.RowKit VecM Ev Mm
namespace Vm
/-! ### the facts -/
theorem pN2 : pN 2 = 131072 := by decide
theorem pB_eq : pB = 131072 := by unfold pB; rw [pN2]; rfl
section
variable {a : Int} (a0 : 0 ≤ a) (a1 : a ≤ 65535)
include a0 a1
theorem pA_eq {B : Int} (b0 : 0 ≤ B) (b1 : B ≤ 4294967295) : pA a B = a + B := by
  unfold pA
  rw [IntKind.wrap_u32, Int.emod_eq_of_lt a0 (by omega), wu a0 (by omega), wu b0 (by omega), wu (by omega) (by omega)]
theorem dOut_ok {B n : Int} (b0 : 0 ≤ B) (n0 : 0 ≤ n) (h : B + n ≤ 1000) : (dOut a B n).1 = (dOut a B n).2 := by
  unfold dOut
  refine decide_eq_false ?_
  rw [pA_eq a0 a1 b0 (by omega), wu n0 (by omega), wu (by omega) (by omega), pB_eq]
  omega
end
structure Inv (v : Nat → Int) (a : Int) (c : List Value) : Prop where
  ok : OkB c 131072
  eq : ∀ m, m < 16 → gB c (a.toNat + m) = v m
theorem eq_t {x y : Nat → Int} (h : ∀ m, m < 16 → x m = y m) : (!(eq16 x y)) = false := by rw [eq16_of h]; rfl
theorem dK_core {v : Nat → Int} (hv : Byt v) {a : Int} (a0 : 0 ≤ a) (a1 : a ≤ 65535) {l n q : Int} {n' t : Nat} (hn : n = n') (hn1 : n' = 1 ∨ n' = 2 ∨ n' = 4 ∨ n' = 8) (ht : t + n' ≤ 16) (hU : ¬ iU l q ≥ q) (hz : bZ l n q = t)
    (hg : gV v l n q = sumN v t n') {c : List Value} (I : Inv v a c) : (∀ p ∈ dK gaR v a l c n q, p.1 = p.2) ∧ Inv v a (cN gaR v a l c n q) := by
  obtain ⟨ok, he⟩ := I
  have e40 : pA a 40 = a + 40 := pA_eq a0 a1 (by omega) (by omega)
  have ez : pA a (bZ l n q) = a + t := by rw [hz]; exact pA_eq a0 a1 (by omega) (by omega)
  have F : Fit c 131072 131072 (a + 40) := ⟨ok, Nat.le_refl _, by omega, by omega, by omega⟩
  have her : erV 131072 (a + 40) n = 0 := by unfold erV; rw [if_neg (by omega), if_pos (by omega)]
  have ec : cN gaR v a l c n q = stV c 131072 (a + 40) n (gV v l n q) := by unfold cN; rw [pN2, e40]; rfl
  have F' := F.st n (gV v l n q)
  have hB : gB (stV c 131072 (a + 40) n (gV v l n q)) = setN (gB c) (a + 40).toNat (gV v l n q) n.toNat := funext (stV_gB F her)
  have tn : n.toNat = n' := by omega
  rw [tn] at hB
  have hx : gV v l n q % 256 ^ n' = gV v l n q := by rw [hg]; exact Int.emod_eq_of_lt (sumN_bd hv t n').1 (sumN_bd hv t n').2
  have l1 : ldV (stV c 131072 (a + 40) n (gV v l n q)) 131072 (a + 40) n = gV v l n q := by
    rw [ldV_sum F' her, hB, tn, sum_set _ _ _ _ _ (Nat.le_refl _), hx]
  have hin : ∀ m, m < 16 → gB (stV c 131072 (a + 40) n (gV v l n q)) (a.toNat + m) = v m := fun m hm => by
    rw [hB]; unfold setN; rw [if_neg (by omega)]; exact he m hm
  have F2 : Fit (stV c 131072 (a + 40) n (gV v l n q)) 131072 131072 (a + t) := F'.at (by omega) (by omega)
  have her2 : erV 131072 (a + t) n = 0 := by unfold erV; rw [if_neg (by omega), if_pos (by omega)]
  have l2 : ldV (stV c 131072 (a + 40) n (gV v l n q)) 131072 (a + t) n = gV v l n q := by
    rw [ldV_sum F2 her2, tn]
    refine Eq.trans (sumN_congr (b := t) n' fun m hm => ?_) hg.symm
    rw [show (a + (t : Int)).toNat + m = a.toNat + (t + m) by omega]
    exact hin (t + m) (by omega)
  refine ⟨?_, ?_⟩
  · unfold dK
    rw [ec, pN2, e40, ez]
    have d1 := dOut_ok a0 a1 (B := 40) (n := n) (by omega) (by omega) (by omega)
    refine one_d (decide_eq_false hU) (one_d d1 (one_d (okD F) (one_d (decide_eq_false hU) (one_d d1 (one_d (okD F') (one_d (decide_eq_false (by omega)) (one_d (decide_eq_false (by omega)) (one_d (dOut_ok a0 a1 (by omega) (by omega) (by omega)) (one_d (okD F2) (one_d (ne_f her) (one_d (eq_t fun m _ => ?_) (one_d (eq_t fun m _ => ?_) nil_d))))))))))))
    · show setI z0 (8 * n) (iI l q) (ldV _ 131072 (a + 40) n) m = _
      rw [l1]
    · show setI z0 (8 * n) (iI l q) (ldV _ 131072 (a + t) n) m = _
      rw [l2]
  · rw [ec]; exact ⟨F'.ok, hin⟩
theorem lane_q {l q : Int} (l0 : 0 ≤ l) (l1 : l ≤ 255) (q0 : 0 < q) (q1 : q ≤ 16) : iU l q = l % q ∧ iI l q = l % q ∧ 0 ≤ l % q ∧ l % q < q := by
  have h0 := Int.emod_nonneg l (show q ≠ 0 by omega)
  have h1 := Int.emod_lt_of_pos l q0
  have e : iU l q = l % q := by unfold iU; rw [wi (by omega) (by omega), Int.tmod_eq_emod_of_nonneg l0, wu h0 (by omega)]
  refine ⟨e, ?_, h0, h1⟩
  unfold iI
  rw [e, wi (by omega) (by omega)]
theorem dK_ok {v : Nat → Int} (hv : Byt v) {a : Int} (a0 : 0 ≤ a) (a1 : a ≤ 65535) {l n q : Int} (l0 : 0 ≤ l) (l1 : l ≤ 255) (h : (n = 1 ∧ q = 16) ∨ (n = 2 ∧ q = 8) ∨ (n = 4 ∧ q = 4) ∨ (n = 8 ∧ q = 2)) {c : List Value} (I : Inv v a c) :
    (∀ p ∈ dK gaR v a l c n q, p.1 = p.2) ∧ Inv v a (cN gaR v a l c n q) := by
  obtain ⟨hU, hI, h0, h1⟩ := lane_q l0 l1 (q := q) (by omega) (by omega)
  have hn1 : n.toNat = 1 ∨ n.toNat = 2 ∨ n.toNat = 4 ∨ n.toNat = 8 := by omega
  have hbz : bZ l n q = n * (l % q) ∧ n * (l % q) + n ≤ 16 ∧ 0 ≤ n * (l % q) := by
    unfold bZ
    rw [hI]
    rcases h with ⟨rfl, rfl⟩ | ⟨rfl, rfl⟩ | ⟨rfl, rfl⟩ | ⟨rfl, rfl⟩
    · rw [wi (by omega) (by omega)]; omega
    · rw [wi (by omega) (by omega)]; omega
    · rw [wi (by omega) (by omega)]; omega
    · rw [wi (by omega) (by omega)]; omega
  refine dK_core hv a0 a1 (n' := n.toNat) (t := (n * (l % q)).toNat) (by omega) hn1 (by omega) (by rw [hU]; omega) (by rw [hbz.1]; omega) ?_ I
  unfold gV
  rw [hI]
  have hth : thereB (8 * n) (l % q) = true := by
    rw [there_iff]
    refine ⟨h0, ?_⟩
    rcases h with ⟨rfl, rfl⟩ | ⟨rfl, rfl⟩ | ⟨rfl, rfl⟩ | ⟨rfl, rfl⟩ <;> exact h1
  unfold getI
  rw [if_pos hth]
  have hw : wid (8 * n) = n.toNat := by unfold wid; omega
  rw [hw]
  congr 1
  rcases h with ⟨rfl, rfl⟩ | ⟨rfl, rfl⟩ | ⟨rfl, rfl⟩ | ⟨rfl, rfl⟩
  · show (l % 16).toNat * 1 = (1 * (l % 16)).toNat; omega
  · show (l % 8).toNat * 2 = (2 * (l % 8)).toNat; omega
  · show (l % 4).toNat * 4 = (4 * (l % 4)).toNat; omega
  · show (l % 2).toNat * 8 = (8 * (l % 2)).toNat; omega
theorem vL_get (v : Nat → Int) {j : Nat} (h : j < 16) : (vL v)[0 + j]? = some (.int .u8 (v j)) := by
  unfold vL
  rw [Nat.zero_add, Array.getElem?_toList]
  exact bs_get v j h
theorem vL_src {v : Nat → Int} (hv : Byt v) : SrcB (vL v) 0 16 := fun j hj => ⟨v j, vL_get v hj, hv j⟩
theorem vL_gB (v : Nat → Int) {j : Nat} (h : j < 16) : gB (vL v) (0 + j) = v j := by unfold gB; rw [vL_get v h]
theorem z128 : OkB (zC 131072) 131072 := zC_ok (Nat.le_refl _)
section
variable {v : Nat → Int} (hv : Byt v) {a : Int} (a0 : 0 ≤ a) (a1 : a ≤ 65535)
include hv a0 a1
omit hv in
theorem c0_eq : c0 gaR gqR a v = cpV (zC 131072) a.toNat (vL v) 0 16 := by
  unfold c0 b0
  rw [pN2, pA_eq a0 a1 (by omega) (by omega), Int.add_zero]
  show cpP (zC 131072) 131072 a (vL v) 0 16 = _
  unfold cpP
  rw [if_pos (by omega)]
theorem c0_inv : Inv v a (c0 gaR gqR a v) := by
  rw [c0_eq a0 a1]
  exact ⟨cpV_ok z128 (vL_src hv) (by omega) (by omega), fun m hm => by rw [cpV_in z128 (vL_src hv) (by omega) (by omega) hm]; exact vL_gB v hm⟩
theorem ld_c0 {t : Nat} (ht : t + 8 ≤ 16) : ldV (c0 gaR gqR a v) 131072 (a + t) 8 = sumN v t 8 := by
  obtain ⟨ok, he⟩ := c0_inv hv a0 a1
  have F : Fit (c0 gaR gqR a v) 131072 131072 (a + t) := ⟨ok, Nat.le_refl _, by omega, by omega, by omega⟩
  have her : erV 131072 (a + t) 8 = 0 := by unfold erV; rw [if_neg (by omega), if_pos (by omega)]
  rw [ldV_sum F her]
  refine sumN_congr 8 fun m hm => ?_
  rw [show (a + (t : Int)).toNat + m = a.toNat + (t + m) by omega]
  exact he _ (by omega)
theorem x2_eq : ∀ m, m < 16 → x2 gaR gqR a v m = v m := by
  intro m hm
  have e8 : IntKind.u64.wrap (pA a 0 + 8) = a + (8 : Nat) := by rw [pA_eq a0 a1 (by omega) (by omega), wu (by omega) (by omega)]; omega
  have elo : lo gaR gqR a v = sumN v 0 8 := by
    have := ld_c0 hv a0 a1 (t := 0) (by omega)
    unfold lo
    rw [pN2, pA_eq a0 a1 (by omega) (by omega)]
    exact this
  have ehi : hi gaR gqR a v = sumN v 8 8 := by
    have := ld_c0 hv a0 a1 (t := 8) (by omega)
    unfold hi
    rw [pN2, e8]
    exact this
  have e2 : x2 gaR gqR a v = setN (setN z0 0 (sumN v 0 8) 8) 8 (sumN v 8 8) 8 := by
    unfold x2 x1
    rw [elo, ehi]
    rfl
  rw [e2]
  unfold setN
  by_cases h : m < 8
  · rw [if_neg (by omega), if_pos (by omega)]
    have := byte_of_sum hv 0 8 m h
    rw [Nat.zero_add] at this
    exact this.symm
  · rw [if_pos (by omega)]
    have := byte_of_sum hv 8 8 (m - 8) (by omega)
    rw [show 8 + (m - 8) = m by omega] at this
    exact this.symm
theorem d0_ok : ∀ p ∈ d0 gaR gqR a v, p.1 = p.2 := by
  obtain ⟨ok, _⟩ := c0_inv hv a0 a1
  have e0 : pA a 0 = a + 0 := pA_eq a0 a1 (by omega) (by omega)
  have F : Fit (zC 131072) 131072 131072 (a + 0) := ⟨z128, Nat.le_refl _, by omega, by omega, by omega⟩
  have Fc : Fit (c0 gaR gqR a v) 131072 131072 (a + 0) := ⟨ok, Nat.le_refl _, by omega, by omega, by omega⟩
  have e8 : IntKind.u64.wrap (a + 0 + 8) = a + 8 := by rw [wu (by omega) (by omega)]; omega
  unfold d0
  refine one_d (show nqB 2 2 0 = true by decide) (one_d (dOut_ok a0 a1 (by omega) (by omega) (by omega)) (one_d (pks_iff.2 ?_) (one_d (ne_f ?_) (one_d (okD ?_) (one_d (okD ?_) (one_d (eq_t (x2_eq hv a0 a1)) nil_d))))))
  · unfold b0
    rw [pN2, e0]
    exact ⟨F, by omega, by omega, vL_src hv⟩
  · rw [pN2, e0]
    show erP 131072 (a + 0) 16 = 0
    unfold erP
    rw [if_pos (by omega)]
  · rw [pN2, e0]; exact Fc
  · rw [pN2, e0, e8]; exact Fc.at (by omega) (by omega)
end
end Vm
end Go.Proofs.Ytmgkejpjljkfdaa
