/-
  Of layer 11: VmemBack: its run. (gen_vmbk.py)
-/
import Derived.Test.YtmgkejpjljkfdaaVmAw
namespace Go.Proofs.Ytmgkejpjljkfdaa
open Go.RowKit VecM Ev Mm
namespace Vm
def awK : CsF := fun f args M => match Nat.beq f 7 with
  | true => match args with
    | [] => some ⟨M, [], 0, fun _ => .bool true, fun _ => []⟩
    | _ => none
  | false => none
theorem awK_ok : CsOk awK := by
  intro f args M H hq _ _ w0 w hS
  unfold awK at hq
  split at hq
  · rename_i hf
    obtain rfl := Nat.eq_of_beq_eq_true hf
    split at hq
    · cases hq
      exact (awake_any w).mono fun e w' ⟨h1, h2⟩ => ⟨[], rfl, h1, hS.grow h2⟩
    · cases hq
  · cases hq
noncomputable def envB (G : Ga) (K : Gq) (kn : List (Nat → Int)) : Env :=
  { P := Try.prog, known := kn, sum := sumP, csum := awK, msum := orM [(8, nwM G fun _ => 0), (10, poM K), (24, ldM G), (38, stM G)] }
theorem envB_ms (kn : List (Nat → Int)) : MsOk (envB gaR gqR kn) := by
  intro f D hq k args L M H h1 h2 h3 w0 w hS
  have hm := orM_mem hq
  simp only [List.mem_cons, List.not_mem_nil, or_false, Prod.mk.injEq] at hm
  rcases hm with ⟨rfl, rfl⟩ | ⟨rfl, rfl⟩ | ⟨rfl, rfl⟩ | ⟨rfl, rfl⟩
  · exact nwM_ok _ h1 h2 h3 w0 w hS
  · exact poM_ok k args L M H h1 h2 h3 w0 w hS
  · exact ldM_ok h1 h2 h3 w0 w hS
  · exact stM_ok h1 h2 h3 w0 w hS
theorem envB_ok (kn : List (Nat → Int)) : OphOk (envB gaR gqR kn) := ⟨awK_ok, fun _ _ _ _ hq => (by cases hq), envB_ms kn, no_aop rfl⟩
/-- the bytes of a vector, in memory -/
def vL (b : Nat → Int) : List Value := (bs b).toList
def z0 : Nat → Int := fun _ => 0
def b0 (G : Ga) : List Value := G.zc (pN 2)
def pA (a B : Int) : Int := IntKind.u64.wrap (IntKind.u64.wrap (IntKind.u32.wrap a) + IntKind.u64.wrap B)
def pB : Int := IntKind.u64.wrap (IntKind.u64.wrap (IntKind.i64.wrap (((pN 2 : Nat) : Int).tdiv 65536)) * 65536)
def dOut (a B n : Int) : Bool × Bool := (decide (IntKind.u64.wrap (pA a B + IntKind.u64.wrap n) > pB), false)
def c0 (G : Ga) (K : Gq) (a : Int) (v : Nat → Int) : List Value := K.cp (b0 G) (pN 2) (pA a 0) (vL v) 0 16
def lo (G : Ga) (K : Gq) (a : Int) (v : Nat → Int) : Int := G.ld (c0 G K a v) (pN 2) (pA a 0) 8
def hi (G : Ga) (K : Gq) (a : Int) (v : Nat → Int) : Int := G.ld (c0 G K a v) (pN 2) (IntKind.u64.wrap (pA a 0 + 8)) 8
def x1 (G : Ga) (K : Gq) (a : Int) (v : Nat → Int) : Nat → Int := setI z0 64 0 (lo G K a v)
def x2 (G : Ga) (K : Gq) (a : Int) (v : Nat → Int) : Nat → Int := setI (x1 G K a v) 64 1 (hi G K a v)
def iU (l q : Int) : Int := IntKind.u64.wrap ((IntKind.i64.wrap l).tmod q)
def iI (l q : Int) : Int := IntKind.i64.wrap (iU l q)
def bZ (l n q : Int) : Int := IntKind.i64.wrap (n * iI l q)
def gV (v : Nat → Int) (l n q : Int) : Int := getI v (8 * n) (iI l q)
def cN (G : Ga) (v : Nat → Int) (a l : Int) (c : List Value) (n q : Int) : List Value := G.st c (pN 2) (pA a 40) n (gV v l n q)
def dK (G : Ga) (v : Nat → Int) (a l : Int) (c : List Value) (n q : Int) : List (Bool × Bool) :=
  [(decide (iU l q ≥ q), false), dOut a 40 n, (G.ok c (pN 2) (pN 2) (pA a 40), true), (decide (iU l q ≥ q), false), dOut a 40 n, (G.ok (cN G v a l c n q) (pN 2) (pN 2) (pA a 40), true), (decide (bZ l n q < 0), false), (decide (bZ l n q > 4294967295), false), dOut a (bZ l n q) n,
   (G.ok (cN G v a l c n q) (pN 2) (pN 2) (pA a (bZ l n q)), true), (G.er (pN 2) (pA a 40) n != 0, false),
   (!(eq16 (setI z0 (8 * n) (iI l q) (G.ld (cN G v a l c n q) (pN 2) (pA a 40) n)) (setI z0 (8 * n) (iI l q) (gV v l n q))), false),
   (!(eq16 (setI z0 (8 * n) (iI l q) (G.ld (cN G v a l c n q) (pN 2) (pA a (bZ l n q)) n)) (setI z0 (8 * n) (iI l q) (gV v l n q))), false)]
def d0 (G : Ga) (K : Gq) (a : Int) (v : Nat → Int) : List (Bool × Bool) :=
  [(G.nq 2 2 0, true), dOut a 0 16, (K.pk (b0 G) (pN 2) (pN 2) (pA a 0) (vL v) 0 16, true), (K.er (pN 2) (pA a 0) 16 != 0, false), (G.ok (c0 G K a v) (pN 2) (pN 2) (pA a 0), true), (G.ok (c0 G K a v) (pN 2) (pN 2) (IntKind.u64.wrap (pA a 0 + 8)), true), (!(eq16 (x2 G K a v) v), false)]
def c1 (G : Ga) (K : Gq) (a l : Int) (v : Nat → Int) : List Value := cN G v a l (c0 G K a v) 1 16
def c2 (G : Ga) (K : Gq) (a l : Int) (v : Nat → Int) : List Value := cN G v a l (c1 G K a l v) 2 8
def c3 (G : Ga) (K : Gq) (a l : Int) (v : Nat → Int) : List Value := cN G v a l (c2 G K a l v) 4 4
noncomputable def kn0 (G : Ga) (K : Gq) (a : Int) (v : Nat → Int) : List (Nat → Int) := [v, z0, x1 G K a v]
def gaN : Ga := { gaS 0 0 with ld := fun _ _ _ n => (256 ^ n.toNat - 1) / 255 }
def o1 : Nat → Int := fun _ => 1
noncomputable def bkPath (G : Ga) (K : Gq) (kn kn' : List (Nat → Int)) (a l : Int) (v : Nat → Int) (a' l' : Int) (v' : Nat → Int) (β : Nat → Fr) : Out :=
  evPathR (envB G K kn) (envB gaN (gqS 0) kn') 4000 6 [.int .u16 a, .agg (bs v), .int .u8 l] [.int .u16 a', .agg (bs v'), .int .u8 l'] [] [] (.bool true) 1000 [] β
def D_bk (G : Ga) (K : Gq) (a l : Int) (v : Nat → Int) : List (Bool × Bool) := d0 G K a v ++ dK G v a l (c0 G K a v) 1 16 ++ dK G v a l (c1 G K a l v) 2 8 ++ dK G v a l (c2 G K a l v) 4 4 ++ dK G v a l (c3 G K a l v) 8 2
--EVTS t_bk | fun (G : Ga) (K : Gq) (a l : Int) (v : Nat → Int) (β : Nat → Fr) => (bkPath G K (kn0 G K a v) (kn0 gaN (gqS 0) 5 o1) a l v 5 3 o1 β, D_bk G K a l v)
def t_bk : List Nat := [0, 59, 58, 58, 58, 58, 0, 0, 0, 0, 0, 0, 0, 57, 57, 57, 0, 0, 0, 0, 0, 0, 0, 0, 0, 0, 0, 0, 0, 0, 0, 0, 0, 56, 0, 0, 0, 0, 0, 0, 0, 0, 0, 0, 0, 0, 0, 0, 0, 0, 0, 0, 0, 0, 55, 0, 0, 50, 0, 0, 0, 0, 0, 0, 0, 0, 0, 0, 54, 53, 53, 53, 53, 0, 0, 0, 0, 0, 0, 0, 0, 0, 0, 0, 0, 0, 0, 0, 0, 0, 0, 0, 0, 0, 0, 0, 0, 0, 0, 0, 0, 0, 0, 0, 0, 0, 0, 0, 0, 0, 0, 0, 0, 0, 0, 0, 0, 0, 0, 0, 0, 0, 0, 0, 0, 0, 0, 0, 0, 52, 0, 0, 0, 0, 0, 0, 0, 0, 0, 0, 0, 0, 0, 0, 0, 0, 0, 0, 0, 0, 51, 0, 0, 50, 0, 0, 0, 0, 0, 0, 0, 0, 0, 0, 0, 0, 0, 0, 0, 0, 0, 0, 0, 0, 0, 0, 0, 0, 0, 0, 0, 0, 0, 0, 0, 0, 0, 0, 0, 0, 0, 0, 0, 0, 0, 0, 0, 0, 0, 0, 0, 0, 0, 0, 0, 39, 0, 0, 0, 0, 0, 0, 0, 0, 0, 0, 0, 0, 0, 0, 0, 0, 0, 0, 0, 0, 0, 0, 0, 0, 48, 0, 0, 47, 0, 0, 0, 0, 0, 0, 0, 0, 0, 0, 0, 0, 0, 0, 0, 0, 0, 0, 0, 0, 0, 0, 0, 0, 0, 0, 0, 0, 0, 0, 0, 0, 0, 0, 0, 0, 0, 0, 0, 0, 0, 0, 0, 0, 0, 0, 0, 0, 0, 0, 0, 0, 0, 0, 0, 0, 0, 0, 0, 0, 46, 45, 45, 45, 45, 0, 0, 0, 0, 0, 0, 0, 44, 44, 44, 0, 0, 0, 0, 0, 0, 0, 0, 0, 0, 0, 0, 0, 0, 0, 0, 0, 43, 0, 0, 0, 0, 0, 0, 0, 0, 0, 0, 0, 0, 0, 0, 0, 0, 0, 0, 0, 0, 42, 0, 0, 37, 0, 0, 0, 0, 0, 0, 0, 0, 0, 0, 41, 40, 40, 40, 40, 0, 0, 0, 0, 0, 0, 0, 0, 0, 0, 0, 0, 0, 0, 0, 0, 0, 0, 0, 0, 0, 0, 0, 0, 0, 0, 0, 0, 0, 0, 0, 0, 0, 0, 0, 0, 0, 0, 0, 0, 0, 0, 0, 0, 0, 0, 0, 0, 0, 0, 0, 0, 0, 0, 0, 0, 39, 0, 0, 0, 0, 0, 0, 0, 0, 0, 0, 0, 0, 0, 0, 0, 0, 0, 0, 0, 0, 38, 0, 0, 37, 0, 0, 0, 0, 0, 0, 0, 0, 0, 0, 0, 0, 0, 0, 0, 0, 0, 0, 0, 0, 0, 0, 0, 0, 0, 0, 0, 0, 0, 0, 0, 0, 0, 0, 0, 0, 0, 0, 0, 0, 0, 0, 0, 0, 0, 0, 0, 0, 0, 0, 0, 26, 0, 0, 0, 0, 0, 0, 0, 0, 0, 0, 0, 0, 0, 0, 0, 0, 0, 0, 0, 0, 0, 0, 0, 0, 35, 0, 0, 34, 0, 0, 0, 0, 0, 0, 0, 0, 0, 0, 0, 0, 0, 0, 0, 0, 0, 0, 0, 0, 0, 0, 0, 0, 0, 0, 0, 0, 0, 0, 0, 0, 0, 0, 0, 0, 0, 0, 0, 0, 0, 0, 0, 0, 0, 0, 0, 0, 0, 0, 0, 0, 0, 0, 0, 0, 0, 0, 0, 0, 33, 32, 32, 32, 32, 0, 0, 0, 0, 0, 0, 0, 31, 31, 31, 0, 0, 0, 0, 0, 0, 0, 0, 0, 0, 0, 0, 0, 0, 0, 0, 0, 30, 0, 0, 0, 0, 0, 0, 0, 0, 0, 0, 0, 0, 0, 0, 0, 0, 0, 0, 0, 0, 29, 0, 0, 24, 0, 0, 0, 0, 0, 0, 0, 0, 0, 0, 28, 27, 27, 27, 27, 0, 0, 0, 0, 0, 0, 0, 0, 0, 0, 0, 0, 0, 0, 0, 0, 0, 0, 0, 0, 0, 0, 0, 0, 0, 0, 0, 0, 0, 0, 0, 0, 0, 0, 0, 0, 0, 0, 0, 0, 0, 0, 0, 0, 0, 0, 0, 0, 0, 0, 0, 0, 0, 0, 0, 0, 26, 0, 0, 0, 0, 0, 0, 0, 0, 0, 0, 0, 0, 0, 0, 0, 0, 0, 0, 0, 0, 25, 0, 0, 24, 0, 0, 0, 0, 0, 0, 0, 0, 0, 0, 0, 0, 0, 0, 0, 0, 0, 0, 0, 0, 0, 0, 0, 0, 0, 0, 0, 0, 0, 0, 0, 0, 0, 0, 0, 0, 0, 0, 0, 0, 0, 0, 0, 0, 0, 0, 0, 0, 0, 0, 0, 13, 0, 0, 0, 0, 0, 0, 0, 0, 0, 0, 0, 0, 0, 0, 0, 0, 0, 0, 0, 0, 0, 0, 0, 0, 22, 0, 0, 21, 0, 0, 0, 0, 0, 0, 0, 0, 0, 0, 0, 0, 0, 0, 0, 0, 0, 0, 0, 0, 0, 0, 0, 0, 0, 0, 0, 0, 0, 0, 0, 0, 0, 0, 0, 0, 0, 0, 0, 0, 0, 0, 0, 0, 0, 0, 0, 0, 0, 0, 0, 0, 0, 0, 0, 0, 0, 0, 0, 0, 20, 19, 19, 19, 19, 0, 0, 0, 0, 0, 0, 0, 18, 18, 18, 0, 0, 0, 0, 0, 0, 0, 0, 0, 0, 0, 0, 0, 0, 0, 0, 0, 17, 0, 0, 0, 0, 0, 0, 0, 0, 0, 0, 0, 0, 0, 0, 0, 0, 0, 0, 0, 0, 16, 0, 0, 11, 0, 0, 0, 0, 0, 0, 0, 0, 0, 0, 15, 14, 14, 14, 14, 0, 0, 0, 0, 0, 0, 0, 0, 0, 0, 0, 0, 0, 0, 0, 0, 0, 0, 0, 0, 0, 0, 0, 0, 0, 0, 0, 0, 0, 0, 0, 0, 0, 0, 0, 0, 0, 0, 0, 0, 0, 0, 0, 0, 0, 0, 0, 0, 0, 0, 0, 0, 0, 0, 0, 0, 13, 0, 0, 0, 0, 0, 0, 0, 0, 0, 0, 0, 0, 0, 0, 0, 0, 0, 0, 0, 0, 12, 0, 0, 11, 0, 0, 0, 0, 0, 0, 0, 0, 0, 0, 0, 0, 0, 0, 0, 0, 0, 0, 0, 0, 0, 0, 0, 0, 0, 0, 0, 0, 0, 0, 0, 0, 0, 0, 0, 0, 0, 0, 0, 0, 0, 0, 0, 0, 0, 0, 0, 0, 0, 0, 0, 10, 0, 0, 0, 0, 0, 0, 0, 0, 0, 0, 0, 0, 0, 0, 0, 0, 0, 0, 0, 0, 0, 0, 0, 0, 9, 0, 0, 8, 0, 0, 0, 0, 0, 0, 0, 0, 0, 0, 0, 0, 0, 0, 0, 0, 0, 0, 0, 0, 0, 0, 0, 0, 0, 0, 0, 0, 0, 0, 0, 0, 0, 0, 0, 0, 0, 0, 0, 0, 0, 0, 0, 0, 0, 0, 0, 0, 0, 0, 0, 0, 0, 0, 0, 0, 0, 0, 0, 0, 7, 0, 0, 0, 0, 0, 0, 0, 0, 0, 0, 0, 6, 0, 0, 0, 0, 5, 0, 0, 0, 0, 0, 0, 0, 2, 0, 0, 0, 0, 0, 0, 0, 0, 0, 0, 0, 0, 0, 0, 0, 0, 0, 0, 0, 0, 0, 0, 0, 0, 0, 0, 0, 0, 4, 0, 0, 0, 3, 0, 0, 0, 0, 0, 0, 0, 0, 0, 0, 0, 0, 0, 0, 0, 0, 2, 0, 0, 0, 0, 0, 0, 0, 0, 0, 0, 0, 0, 0, 0, 0, 0, 0, 0, 0, 0, 0, 0, 0, 0, 0, 0, 0, 0, 0, 0, 0, 0, 0, 0, 0, 0, 0, 0, 0, 0, 0, 0, 0, 0, 0, 0, 1, 0]
end Vm
end Go.Proofs.Ytmgkejpjljkfdaa
