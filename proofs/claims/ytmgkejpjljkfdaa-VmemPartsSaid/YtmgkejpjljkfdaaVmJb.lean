/-
  Joined: VmPs, VmPa, VmPb, VmPc, VmPd.
-/
import Derived.Test.YtmgkejpjljkfdaaVmJa
import Derived.Test.YtmgkejpjljkfdaaWdUB
import Derived.Test.YtmgkejpjljkfdaaMvEx
namespace Go.Proofs.Ytmgkejpjljkfdaa
open Go.RowKit VecM Ev Mm
namespace Vm
noncomputable def sumQ (f : FuncId) (args : List Value) : Option (List (List Value) × (List (Nat → Int) → Value × List Bool)) :=
  match Nat.beq f 59 with
  | true => match args with
    | [.agg ⟨c⟩, .int .i64 v, .int .i64 i] => some ([c], fun fs => (.int .i64 (sgnI (Ev.hd1 fs) v i), []))
    | _ => none
  | false => match Nat.beq f 23 with
  | true => match args with
    | [.int .i64 op, .agg ⟨c⟩] => some ([c], fun fs => (.tuple #[.agg (bs (Wd.unV op (Ev.hd1 fs))), .int .i64 (Wd.unE op)], [decide (-9223372036854775808 ≤ op), decide (op ≤ 9223372036854775807)]))
    | _ => none
  | false => match Nat.beq f 25 with
  | true => match args with
    | [.int .i64 op, .int .u64 x] => some ([], fun _ => (.tuple #[.agg (bs (Mv.splV (Mv.spW op) x)), .int .i64 (if Mv.spW op = 0 then 1 else 0)], [decide (-9223372036854775808 ≤ op), decide (op ≤ 9223372036854775807)]))
    | _ => none
  | false => sumP f args
theorem two_pre {p q : Bool} (h : ∀ b ∈ [p, q], b = true) : p = true ∧ q = true := ⟨h _ (List.mem_cons_self ..), h _ (List.mem_cons_of_mem _ (List.mem_cons_self ..))⟩
theorem sumQ_ok {E : Env} (hE : E.sum = sumQ) (hK : ∀ x ∈ E.known, Byt x) : SumOk E := by
  intro f args cs mk h fs hcs hfs hp w
  rw [hE] at h
  unfold sumQ at h
  split at h
  · rename_i hf
    obtain rfl := Nat.eq_of_beq_eq_true hf
    split at h
    · cases h
      obtain ⟨x, rfl, rfl⟩ := Ev.one_fs hcs
      exact signed_any x (hK x (hfs x (List.mem_cons_self ..))) _ _ w
    · cases h
  · split at h
    · rename_i hf
      obtain rfl := Nat.eq_of_beq_eq_true hf
      split at h
      · cases h
        obtain ⟨x, rfl, rfl⟩ := Ev.one_fs hcs
        obtain ⟨h0, h1⟩ := two_pre hp
        exact Wd.un_any _ ⟨of_decide_eq_true h0, of_decide_eq_true h1⟩ x (hK x (hfs x (List.mem_cons_self ..))) w
      · cases h
    · split at h
      · rename_i hf
        obtain rfl := Nat.eq_of_beq_eq_true hf
        split at h
        · cases h
          obtain ⟨h0, h1⟩ := two_pre hp
          exact Mv.splat_any _ _ ⟨of_decide_eq_true h0, of_decide_eq_true h1⟩ w
        · cases h
      · exact sumP_ok (E := { E with sum := sumP }) rfl hK f args cs mk h fs hcs hfs hp w
end Vm
end Go.Proofs.Ytmgkejpjljkfdaa
namespace Go.Proofs.Ytmgkejpjljkfdaa
open Go.RowKit VecM Ev Mm
namespace Vm
noncomputable def envQ (G : Ga) (K : Gq) (kn : List (Nat → Int)) : Env :=
  { P := Try.prog, known := kn, sum := sumQ, csum := awK, msum := orM [(8, nwM G fun _ => 0), (10, poM K), (24, ldM G), (38, stM G)] }
theorem envQ_ok (kn : List (Nat → Int)) : OphOk (envQ gaR gqR kn) := ⟨awK_ok, fun _ _ _ _ hq => (by cases hq), envB_ms kn, no_aop rfl⟩
def pc0 (G : Ga) (K : Gq) (a : Int) (d : Nat → Int) : List Value := K.cp (b0 G) (pN 2) (IntKind.u64.wrap a) (vL d) 0 16
def pL (G : Ga) (K : Gq) (a : Int) (d : Nat → Int) (n : Int) : Int := G.ld (pc0 G K a d) (pN 2) (pA a 0) n
def pH (G : Ga) (K : Gq) (a : Int) (d : Nat → Int) : Int := G.ld (pc0 G K a d) (pN 2) (IntKind.u64.wrap (pA a 0 + 8)) 8
def pM (G : Ga) (K : Gq) (a : Int) (d : Nat → Int) (n : Int) : Int := G.ld (pc0 G K a d) (pN 2) (IntKind.u64.wrap a) n
def y1 (G : Ga) (K : Gq) (a : Int) (d : Nat → Int) : Nat → Int := setI z0 64 0 (pL G K a d 8)
def y2 (G : Ga) (K : Gq) (a : Int) (d : Nat → Int) : Nat → Int := setI (y1 G K a d) 64 1 (pH G K a d)
/-- a widening load's lanes, one by one -/
def eS (b : Nat → Int) (w h : Int) (s : Bool) : Nat → (Nat → Int)
  | 0 => z0
  | k + 1 => setI (eS b w h s k) w k (if s then IntKind.u64.wrap (sgnI b h k) else getI b h k)
/-- a splat's -/
def sS (b : Nat → Int) (w x : Int) : Nat → (Nat → Int)
  | 0 => b
  | k + 1 => setI (sS b w x k) w k x
noncomputable def knP (G : Ga) (K : Gq) (a : Int) (d v : Nat → Int) : List (Nat → Int) := [z0, y1 G K a d, y2 G K a d] ++ ((List.range 7).map fun (k : Nat) => eS (y1 G K a d) 16 8 true (k + 1)) ++ ((List.range 7).map fun (k : Nat) => eS (y1 G K a d) 16 8 false (k + 1))
  ++ ((List.range 3).map fun (k : Nat) => eS (y1 G K a d) 32 16 true (k + 1)) ++ ((List.range 3).map fun (k : Nat) => eS (y1 G K a d) 32 16 false (k + 1)) ++ [eS (y1 G K a d) 64 32 true 1, eS (y1 G K a d) 64 32 false 1, v]
  ++ ((List.range 15).map fun (k : Nat) => sS v 8 (pL G K a d 1) (k + 1)) ++ ((List.range 7).map fun (k : Nat) => sS v 16 (pL G K a d 2) (k + 1)) ++ ((List.range 3).map fun (k : Nat) => sS v 32 (pL G K a d 4) (k + 1)) ++ [sS v 64 (pL G K a d 8) 1]
/-- the sample's data: what is loaded has its first bytes, wherever -/
def d8 : Nat → Int := fun m => 129 + ((Nat.mod m 8 : Nat) : Int)
def v2 : Nat → Int := fun _ => 2
def gaM : Ga := { gaS 0 0 with ld := fun _ _ _ n => sumN d8 0 n.toNat }
def acC (op A B L H : Int) (la : Option Addr) (lv lc : Nat) (addr : Int) (v : Nat → Int) : Value := .agg (#[.int .i64 op, .int .i64 A, .int .i64 B, .int .u64 L, .int .u64 H, .slice la lv lc, .int .u32 addr] ++ bs v)
noncomputable def paPath (G : Ga) (K : Gq) (kn kn' : List (Nat → Int)) (a : Int) (d : Nat → Int) (o o' : Value) (a' : Int) (d' : Nat → Int) (β : Nat → Fr) : Out :=
  evPathR (envQ G K kn) (envQ gaM (gqS 0) kn') 4000 5 [.int .u16 a, .agg (bs d), o] [.int .u16 a', .agg (bs d'), o'] [] [] (.bool true) 1000 [] β
def okP (G : Ga) (K : Gq) (a : Int) (d : Nat → Int) (p : Int) : Bool × Bool := (G.ok (pc0 G K a d) (pN 2) (pN 2) p, true)
def pE (G : Ga) (K : Gq) (a : Int) (d : Nat → Int) (op w h : Int) (s : Bool) (n : Nat) : List (Bool × Bool) := [dOut a 0 8, okP G K a d (pA a 0), (!(eq16 (eS (y1 G K a d) w h s n) (Wd.unV op (y2 G K a d))), false)]
def lI (l q : Int) : Int := IntKind.i64.wrap (l.tmod q)
def lU (l q : Int) : Int := IntKind.u64.wrap (lI l q)
def pS (G : Ga) (K : Gq) (a : Int) (d v : Nat → Int) (l w n q : Int) (m : Nat) : List (Bool × Bool) :=
  [okP G K a d (IntKind.u64.wrap a), dOut a 0 n, okP G K a d (pA a 0), (decide (lU l q ≥ q), false), dOut a 0 n, okP G K a d (pA a 0), (!(eq16 (sS v w (pL G K a d n) m) (Mv.splV w (pM G K a d n))), false),
   (!(eq16 (setI v w (IntKind.i64.wrap (lU l q)) (pL G K a d n)) (setI v w (lI l q) (pM G K a d n))), false)]
def pZ (G : Ga) (K : Gq) (a : Int) (d : Nat → Int) (w n : Int) : List (Bool × Bool) := [dOut a 0 n, okP G K a d (pA a 0), (!(eq16 (setI z0 64 0 (pL G K a d n)) (setI z0 w 0 (pM G K a d n))), false)]
def D_pa (G : Ga) (K : Gq) (a l : Int) (d v : Nat → Int) : List (Bool × Bool) :=
  [(G.nq 2 2 0, true), (K.pk (b0 G) (pN 2) (pN 2) (IntKind.u64.wrap a) (vL d) 0 16, true), dOut a 0 16, okP G K a d (pA a 0), okP G K a d (IntKind.u64.wrap (pA a 0 + 8)), (!(eq16 (y2 G K a d) d), false)]
  ++ pE G K a d 64903 16 8 true 8 ++ pE G K a d 64905 16 8 false 8 ++ pE G K a d 64935 32 16 true 4 ++ pE G K a d 64937 32 16 false 4 ++ pE G K a d 64967 64 32 true 2 ++ pE G K a d 64969 64 32 false 2
  ++ pS G K a d v l 8 1 16 16 ++ pS G K a d v l 16 2 8 8 ++ pS G K a d v l 32 4 4 4 ++ pZ G K a d 32 4 ++ pS G K a d v l 64 8 2 2 ++ pZ G K a d 64 8
def t_pa : List Nat := [0, 62, 0, 0, 0, 0, 0, 0, 0, 0, 0, 0, 0, 0, 0, 0, 0, 0, 0, 0, 0, 0, 0, 0, 0, 0, 0, 0, 0, 0, 0, 0, 0, 0, 0, 0, 0, 0, 0, 0, 0, 0, 0, 0, 4, 0, 0, 0, 0, 0, 0, 0, 0, 0, 0, 0, 0, 0, 0, 0, 0, 0, 0, 0, 0, 0, 0, 0, 0, 0, 0, 7, 0, 0, 0, 0, 0, 0, 0, 0, 0, 0, 0, 0, 0, 0, 0, 0, 0, 0, 0, 0, 0, 0, 0, 0, 0, 0, 0, 0, 0, 0, 0, 0, 0, 0, 0, 0, 0, 0, 0, 0, 0, 0, 0, 0, 0, 0, 0, 0, 0, 0, 0, 0, 0, 0, 0, 0, 0, 0, 0, 0, 0, 0, 0, 0, 0, 0, 0, 59, 0, 0, 0, 0, 0, 0, 0, 0, 58, 58, 58, 0, 0, 0, 0, 0, 0, 0, 0, 0, 0, 0, 0, 0, 0, 0, 0, 0, 0, 0, 0, 0, 0, 0, 0, 4, 0, 0, 0, 0, 0, 0, 0, 0, 0, 0, 0, 0, 0, 0, 0, 0, 0, 0, 0, 0, 56, 0, 0, 55, 0, 0, 0, 0, 0, 0, 0, 0, 0, 0, 0, 0, 0, 0, 0, 0, 0, 0, 0, 0, 0, 0, 0, 0, 0, 0, 0, 0, 0, 0, 0, 0, 0, 0, 0, 0, 0, 0, 0, 0, 0, 0, 0, 0, 0, 0, 0, 0, 0, 0, 0, 0, 0, 0, 0, 0, 0, 0, 0, 0, 0, 0, 0, 0, 0, 0, 0, 0, 0, 0, 0, 4, 0, 0, 0, 0, 0, 0, 0, 0, 0, 0, 0, 0, 0, 0, 0, 53, 0, 0, 0, 0, 0, 0, 0, 0, 0, 0, 0, 0, 0, 0, 0, 0, 0, 0, 0, 0, 0, 0, 0, 0, 0, 0, 0, 0, 0, 0, 0, 0, 0, 0, 0, 0, 0, 0, 0, 0, 0, 0, 0, 0, 25, 0, 0, 0, 0, 0, 51, 0, 0, 0, 0, 0, 0, 0, 0, 0, 0, 0, 0, 0, 0, 0, 0, 0, 0, 0, 0, 0, 0, 0, 0, 0, 0, 0, 0, 0, 0, 0, 0, 0, 0, 0, 0, 0, 0, 0, 0, 0, 4, 0, 0, 0, 0, 0, 0, 0, 0, 0, 0, 0, 0, 0, 0, 0, 0, 0, 0, 0, 0, 0, 0, 0, 0, 0, 49, 0, 0, 0, 0, 0, 0, 0, 0, 0, 0, 0, 0, 0, 0, 0, 0, 0, 0, 0, 0, 0, 0, 0, 0, 0, 0, 0, 0, 0, 0, 0, 0, 0, 0, 0, 0, 0, 0, 0, 0, 0, 0, 0, 0, 0, 0, 0, 0, 0, 0, 0, 0, 0, 0, 0, 0, 0, 0, 0, 0, 0, 0, 0, 0, 0, 48, 0, 0, 0, 0, 0, 0, 0, 0, 47, 47, 47, 0, 0, 0, 0, 0, 0, 0, 0, 0, 0, 0, 0, 0, 0, 0, 0, 0, 0, 0, 0, 0, 0, 0, 0, 4, 0, 0, 0, 0, 0, 0, 0, 0, 0, 0, 0, 0, 0, 0, 0, 0, 0, 0, 0, 0, 45, 0, 0, 44, 0, 0, 0, 0, 0, 0, 0, 0, 0, 0, 0, 0, 0, 0, 0, 0, 0, 0, 0, 0, 0, 0, 0, 0, 0, 0, 0, 0, 0, 0, 0, 0, 0, 0, 0, 0, 0, 0, 0, 0, 0, 0, 0, 0, 0, 0, 0, 0, 0, 0, 0, 0, 0, 0, 0, 0, 0, 0, 0, 0, 0, 0, 0, 0, 0, 0, 0, 0, 0, 0, 0, 0, 0, 4, 0, 0, 0, 0, 0, 0, 0, 0, 0, 0, 0, 0, 0, 0, 0, 42, 0, 0, 0, 0, 0, 0, 0, 0, 0, 0, 0, 0, 0, 0, 0, 0, 0, 0, 0, 0, 0, 0, 0, 0, 0, 0, 0, 0, 0, 0, 0, 0, 0, 0, 0, 0, 0, 0, 0, 0, 0, 0, 0, 0, 25, 0, 0, 0, 0, 0, 0, 40, 0, 0, 0, 0, 0, 0, 0, 0, 39, 39, 39, 0, 0, 0, 0, 0, 0, 0, 0, 0, 0, 0, 0, 0, 0, 0, 0, 0, 0, 0, 0, 0, 0, 0, 0, 4, 0, 0, 0, 0, 0, 0, 0, 0, 0, 0, 0, 0, 0, 0, 0, 0, 0, 0, 0, 0, 37, 0, 0, 36, 0, 0, 0, 0, 0, 0, 0, 0, 0, 0, 0, 0, 0, 0, 0, 0, 0, 0, 0, 0, 0, 0, 0, 0, 0, 0, 0, 0, 0, 0, 0, 0, 0, 0, 0, 0, 0, 0, 0, 0, 0, 0, 0, 0, 0, 0, 0, 0, 0, 0, 0, 0, 0, 0, 0, 0, 0, 0, 0, 0, 0, 0, 0, 0, 0, 0, 0, 0, 0, 0, 0, 0, 0, 0, 0, 0, 4, 0, 0, 0, 0, 0, 0, 0, 0, 0, 0, 0, 0, 0, 0, 0, 34, 0, 0, 0, 0, 0, 0, 0, 0, 0, 0, 0, 0, 0, 0, 0, 0, 0, 0, 0, 0, 0, 0, 0, 0, 0, 0, 0, 0, 0, 0, 0, 0, 0, 0, 0, 0, 0, 0, 0, 0, 0, 0, 0, 0, 25, 0, 0, 0, 0, 0, 0, 32, 0, 0, 0, 0, 0, 0, 0, 0, 31, 31, 31, 0, 0, 0, 0, 0, 0, 0, 0, 0, 0, 0, 0, 0, 0, 0, 0, 0, 0, 0, 0, 0, 0, 0, 0, 4, 0, 0, 0, 0, 0, 0, 0, 0, 0, 0, 0, 0, 0, 0, 0, 0, 0, 0, 0, 0, 29, 0, 0, 28, 0, 0, 0, 0, 0, 0, 0, 0, 0, 0, 0, 0, 0, 0, 0, 0, 0, 0, 0, 0, 0, 0, 0, 0, 0, 0, 0, 0, 0, 0, 0, 0, 0, 0, 0, 0, 0, 0, 0, 0, 0, 0, 0, 0, 0, 0, 0, 0, 0, 0, 0, 0, 0, 0, 0, 0, 0, 0, 0, 0, 0, 0, 0, 0, 0, 0, 0, 0, 0, 0, 0, 0, 0, 0, 0, 0, 0, 0, 0, 0, 0, 0, 0, 4, 0, 0, 0, 0, 0, 0, 0, 0, 0, 0, 0, 0, 0, 0, 0, 26, 0, 0, 0, 0, 0, 0, 0, 0, 0, 0, 0, 0, 0, 0, 0, 0, 0, 0, 0, 0, 0, 0, 0, 0, 0, 0, 0, 0, 0, 0, 0, 0, 0, 0, 0, 0, 0, 0, 0, 0, 0, 0, 0, 0, 25, 0, 0, 0, 0, 0, 0, 24, 0, 0, 0, 0, 0, 0, 0, 0, 0, 0, 0, 0, 0, 0, 0, 0, 0, 0, 0, 0, 0, 0, 0, 0, 0, 0, 0, 0, 0, 0, 0, 0, 0, 0, 4, 0, 0, 0, 0, 0, 0, 0, 0, 0, 0, 0, 7, 0, 0, 0, 0, 0, 0, 0, 0, 0, 0, 0, 0, 0, 0, 0, 0, 0, 0, 0, 0, 0, 0, 0, 0, 0, 0, 0, 0, 0, 0, 0, 0, 0, 0, 0, 0, 0, 21, 0, 0, 0, 0, 0, 0, 0, 0, 0, 0, 0, 0, 0, 0, 0, 0, 0, 0, 0, 0, 0, 0, 0, 0, 0, 0, 0, 0, 0, 0, 0, 0, 0, 0, 4, 0, 0, 0, 0, 0, 0, 0, 0, 0, 0, 0, 7, 0, 0, 0, 0, 0, 0, 0, 0, 0, 0, 0, 0, 0, 0, 0, 0, 0, 0, 0, 0, 0, 0, 0, 0, 0, 0, 0, 0, 0, 0, 0, 0, 0, 0, 0, 0, 0, 18, 0, 0, 0, 0, 0, 0, 0, 0, 0, 0, 0, 0, 0, 0, 0, 0, 0, 0, 0, 0, 0, 0, 0, 0, 0, 0, 0, 0, 0, 0, 0, 0, 0, 0, 0, 0, 0, 0, 4, 0, 0, 0, 0, 0, 0, 0, 0, 0, 0, 0, 7, 0, 0, 0, 0, 0, 0, 0, 0, 0, 0, 0, 0, 0, 0, 0, 0, 0, 0, 0, 0, 0, 0, 0, 0, 0, 0, 0, 0, 0, 0, 0, 0, 0, 0, 0, 0, 0, 15, 0, 0, 0, 0, 0, 0, 0, 0, 0, 0, 0, 0, 0, 0, 0, 0, 0, 0, 0, 0, 0, 0, 0, 0, 0, 0, 0, 0, 0, 0, 0, 0, 0, 0, 0, 0, 0, 0, 4, 0, 0, 0, 0, 0, 0, 0, 0, 0, 0, 0, 7, 0, 0, 0, 0, 0, 0, 0, 0, 0, 0, 0, 0, 0, 0, 0, 0, 0, 0, 0, 0, 0, 0, 0, 0, 0, 0, 0, 0, 0, 0, 0, 0, 0, 0, 0, 0, 0, 12, 0, 0, 0, 0, 0, 0, 0, 0, 0, 0, 0, 0, 0, 0, 0, 0, 0, 0, 0, 0, 0, 0, 0, 0, 0, 0, 0, 0, 0, 0, 0, 0, 0, 0, 0, 0, 0, 0, 0, 0, 0, 0, 0, 0, 0, 4, 0, 0, 0, 0, 0, 0, 0, 0, 0, 0, 0, 7, 0, 0, 0, 0, 0, 0, 0, 0, 0, 0, 0, 0, 0, 0, 0, 0, 0, 0, 0, 0, 0, 0, 0, 0, 0, 0, 0, 0, 0, 0, 0, 0, 0, 0, 0, 0, 0, 9, 0, 0, 0, 0, 0, 0, 0, 0, 0, 0, 0, 0, 0, 0, 0, 0, 0, 0, 0, 0, 0, 0, 0, 0, 0, 0, 0, 0, 0, 0, 0, 0, 0, 0, 0, 0, 0, 0, 0, 0, 0, 0, 0, 0, 0, 4, 0, 0, 0, 0, 0, 0, 0, 0, 0, 0, 0, 7, 0, 0, 0, 0, 0, 0, 0, 0, 0, 0, 0, 0, 0, 0, 0, 0, 0, 0, 0, 0, 0, 0, 0, 0, 0, 0, 0, 0, 0, 0, 0, 0, 0, 0, 0, 0, 0, 6, 0, 0, 0, 0, 0, 0, 0, 0, 0, 0, 0, 5, 0, 0, 0, 0, 4, 0, 0, 0, 0, 0, 0, 0, 3, 0, 0, 0, 0, 0, 0, 0, 0, 0, 0, 0, 0, 0, 0, 0, 0, 0, 0, 0, 0, 0, 0, 0, 0, 0, 0, 0, 0, 0, 0, 0, 2, 0, 0, 0, 0, 1, 0]
end Vm
end Go.Proofs.Ytmgkejpjljkfdaa
namespace Go.Proofs.Ytmgkejpjljkfdaa
open Go.RowKit VecM Ev Mm
namespace Vm
theorem byt_z0 : Byt z0 := fun _ => ⟨Int.le_refl _, by show (0 : Int) ≤ 255; decide⟩
theorem eS_byt (b : Nat → Int) (w h : Int) (s : Bool) : ∀ k, Byt (eS b w h s k)
  | 0 => byt_z0
  | k + 1 => setI_byt (eS_byt b w h s k) _ _ _
theorem sS_byt {b : Nat → Int} (hb : Byt b) (w x : Int) : ∀ k, Byt (sS b w x k)
  | 0 => hb
  | k + 1 => setI_byt (sS_byt hb w x k) _ _ _
theorem knP_byt (G : Ga) (K : Gq) (a : Int) (d : Nat → Int) {v : Nat → Int} (hv : Byt v) : ∀ x ∈ knP G K a d v, Byt x := by
  have h1 : Byt (y1 G K a d) := setI_byt byt_z0 _ _ _
  have h2 : Byt (y2 G K a d) := setI_byt h1 _ _ _
  intro x hx
  unfold knP at hx
  simp only [List.mem_append, List.mem_map, List.mem_cons, List.not_mem_nil, or_false] at hx
  rcases hx with (((((((((h | ⟨k, _, rfl⟩) | ⟨k, _, rfl⟩) | ⟨k, _, rfl⟩) | ⟨k, _, rfl⟩) | h) | ⟨k, _, rfl⟩) | ⟨k, _, rfl⟩) | ⟨k, _, rfl⟩) | h)
  · rcases h with rfl | rfl | rfl
    · exact byt_z0
    · exact h1
    · exact h2
  · exact eS_byt _ _ _ _ _
  · exact eS_byt _ _ _ _ _
  · exact eS_byt _ _ _ _ _
  · exact eS_byt _ _ _ _ _
  · rcases h with rfl | rfl | rfl
    · exact eS_byt _ _ _ _ _
    · exact eS_byt _ _ _ _ _
    · exact hv
  · exact sS_byt hv _ _ _
  · exact sS_byt hv _ _ _
  · exact sS_byt hv _ _ _
  · rw [h]; exact sS_byt hv _ _ _
theorem pa_run (G : Ga) (hG : G = gaR) (K : Gq) (hK : K = gqR) (a : Int) (d : Nat → Int) (op A B L H : Int) (la : Option Addr) (lv lc : Nat) (l : Int) (v : Nat → Int) (hv : Byt v) (hD : ∀ p ∈ D_pa G K a l d v, p.1 = p.2) (w : World) :
    Calls Try.prog 5 #[.int .u16 a, .agg (bs d), acC op A B L H la lv lc l v] w fun e w' => e = .returned (.bool true) ∧ Gr w w' :=
  (ev_callB (E := envQ G K (knP G K a d v)) (E' := envQ gaM (gqS 0) (knP gaM (gqS 0) 5 d8 v2)) rfl (sumQ_ok rfl (knP_byt G K a d hv)) (fuel := 4000) (args := [.int .u16 a, .agg (bs d), acC op A B L H la lv lc l v]) (args' := [.int .u16 5, .agg (bs d8), acC 0 0 0 0 0 none 0 0 3 v2]) (M := []) (M' := [])
    (v := fun _ => .bool true) (k := 1000) (M1 := fun _ => []) (fun _ => D_pa G K a l d v) t_pa (fun _ => hD) (fun β => (by kernel_rfl : tagOL (D_pa G K a l d v) t_pa (paPath G K (knP G K a d v) (knP gaM (gqS 0) 5 d8 v2) a d (acC op A B L H la lv lc l v) (acC 0 0 0 0 0 none 0 0 3 v2) 5 d8 β) = tagOR (D_pa G K a l d v) t_pa (paPath G K (knP G K a d v) (knP gaM (gqS 0) 5 d8 v2) a d (acC op A B L H la lv lc l v) (acC 0 0 0 0 0 none 0 0 3 v2) 5 d8 β))) w w ⟨St.start w, fun _ h => by cases h⟩ (ho := by rw [hG, hK]; exact envQ_ok _)).mono fun _ _ ⟨_, h1, h2⟩ => ⟨h1, h2.gr⟩
end Vm
end Go.Proofs.Ytmgkejpjljkfdaa
namespace Go.Proofs.Ytmgkejpjljkfdaa
open Go.RowKit VecM Ev Mm
namespace Vm
theorem eS_of (b : Nat → Int) (w h : Int) (s : Bool) : ∀ k : Nat, eS b w h s k = ofK z0 w (fun i => Wd.laI s b h i) k
  | 0 => rfl
  | k + 1 => by rw [eS, eS_of b w h s k]; rfl
theorem sS_of (b : Nat → Int) (w x : Int) : ∀ k : Nat, sS b w x k = ofK b w (fun _ => x) k
  | 0 => rfl
  | k + 1 => by rw [sS, sS_of b w x k]; rfl
/-- two vectors whose lower halves agree, widened -/
theorem laI_low {b c : Nat → Int} (h : ∀ m, m < 8 → b m = c m) (s : Bool) {v : Int} {i : Nat} (hi : i * wid v + wid v ≤ 8) : Wd.laI s b v i = Wd.laI s c v i := by
  have e : getI b v i = getI c v i := by
    unfold getI
    split
    · exact sum_congr fun m _ h1 => h m (by rw [Int.toNat_natCast] at h1; omega)
    · rfl
  unfold Wd.laI sgnI
  rw [e]
theorem ofK_congr {b : Nat → Int} {w : Int} {f g : Nat → Int} : ∀ k : Nat, (∀ i, i < k → f i = g i) → ofK b w f k = ofK b w g k
  | 0, _ => rfl
  | k + 1, h => by rw [ofK, ofK, ofK_congr k fun i hi => h i (by omega), h k (by omega)]
theorem wide_eq {b c : Nat → Int} (h : ∀ m, m < 8 → b m = c m) (w v : Int) (s : Bool) (L : Nat) (hL : L * wid v = 8) : eS b w v s L = ofK z0 w (fun i => Wd.laI s c v i) L := by
  rw [eS_of]
  refine ofK_congr L fun i hi => laI_low h s ?_
  have := Nat.mul_le_mul_right (wid v) (show i + 1 ≤ L from hi)
  rw [Nat.add_mul, Nat.one_mul, hL] at this
  exact this
theorem un_03 (b : Nat → Int) : Wd.unV 64903 b = ofK z0 16 (fun i => Wd.laI true b 8 i) 8 := by kernel_rfl
theorem un_05 (b : Nat → Int) : Wd.unV 64905 b = ofK z0 16 (fun i => Wd.laI false b 8 i) 8 := by kernel_rfl
theorem un_35 (b : Nat → Int) : Wd.unV 64935 b = ofK z0 32 (fun i => Wd.laI true b 16 i) 4 := by kernel_rfl
theorem un_37 (b : Nat → Int) : Wd.unV 64937 b = ofK z0 32 (fun i => Wd.laI false b 16 i) 4 := by kernel_rfl
theorem un_67 (b : Nat → Int) : Wd.unV 64967 b = ofK z0 64 (fun i => Wd.laI true b 32 i) 2 := by kernel_rfl
theorem un_69 (b : Nat → Int) : Wd.unV 64969 b = ofK z0 64 (fun i => Wd.laI false b 32 i) 2 := by kernel_rfl
theorem spl_eq {v : Nat → Int} (hv : Byt v) {w x : Int} (hw : w = 8 ∨ w = 16 ∨ w = 32 ∨ w = 64) : ∀ m, m < 16 → sS v w x (lanesI w).toNat m = Mv.splV w x m := by
  rw [sS_of]
  unfold Mv.splV
  refine ext (ofK_byt hv _ _ _) (ofK_byt byt_z0 _ _ _) w hw fun j hj => ?_
  have hl : j < (lanesI w).toNat := by have := (there_iff.1 hj).2; omega
  rw [get_ofK _ _ _ j hj, if_pos hl, get_ofK _ _ _ j hj, if_pos hl]
/-- a number of n bytes, laid alone -/
theorem zero_eq {x : Int} {n : Nat} (h0 : 0 ≤ x) (h1 : x < 256 ^ n) (hn : n ≤ 8) : setN z0 0 x 8 = setN z0 0 x n := by
  funext m
  unfold setN
  by_cases h : m < n
  · rw [if_pos (by omega), if_pos (by omega)]
  · by_cases h8 : m < 8
    · rw [if_pos (by omega), if_neg (by omega), Nat.sub_zero]
      have hp : (256 : Int) ^ n ≤ 256 ^ m := by
        have := Nat.pow_le_pow_right (show 0 < 256 by decide) (show n ≤ m by omega)
        rw [show (256 : Int) = ((256 : Nat) : Int) from rfl, ← Int.natCast_pow, ← Int.natCast_pow]
        exact Int.ofNat_le.2 this
      rw [Int.ediv_eq_zero_of_lt h0 (by omega)]
      rfl
    · rw [if_neg (by omega), if_neg (by omega)]
theorem pc0_eq {a : Int} (a0 : 0 ≤ a) (a1 : a ≤ 65535) (d : Nat → Int) : pc0 gaR gqR a d = c0 gaR gqR a d := by
  unfold pc0 c0
  rw [pA_eq a0 a1 (by omega) (by omega), wu a0 (by omega), Int.add_zero]
end Vm
end Go.Proofs.Ytmgkejpjljkfdaa
namespace Go.Proofs.Ytmgkejpjljkfdaa
open Go.RowKit VecM Ev Mm
namespace Vm
section
variable {d v : Nat → Int} (hd : Byt d) (hv : Byt v) {a : Int} (a0 : 0 ≤ a) (a1 : a ≤ 65535)
include hd a0 a1
theorem ld_p {n : Nat} (hn : n = 1 ∨ n = 2 ∨ n = 4 ∨ n = 8) : pL gaR gqR a d n = sumN d 0 n ∧ pM gaR gqR a d n = sumN d 0 n := by
  obtain ⟨ok, he⟩ := c0_inv hd a0 a1
  have F : Fit (c0 gaR gqR a d) 131072 131072 a := ⟨ok, Nat.le_refl _, by omega, by omega, by omega⟩
  have her : erV 131072 a n = 0 := by unfold erV; rw [if_neg (by omega), if_pos (by omega)]
  have h : ldV (c0 gaR gqR a d) 131072 a n = sumN d 0 n := by
    rw [ldV_sum F her]
    exact sumN_congr n fun m hm => by rw [Nat.zero_add]; exact he m (by omega)
  refine ⟨?_, ?_⟩
  · unfold pL
    rw [pc0_eq a0 a1, pN2, pA_eq a0 a1 (by omega) (by omega), Int.add_zero]; exact h
  · unfold pM
    rw [pc0_eq a0 a1, pN2, wu a0 (by omega)]; exact h
omit hd in
theorem y_eq : y1 gaR gqR a d = x1 gaR gqR a d ∧ y2 gaR gqR a d = x2 gaR gqR a d := by
  unfold y2 y1 x2 x1 pL pH lo hi
  rw [pc0_eq a0 a1]
  exact ⟨rfl, rfl⟩
theorem y2_d : ∀ m, m < 16 → y2 gaR gqR a d m = d m := by
  rw [(y_eq a0 a1).2]; exact x2_eq hd a0 a1
omit hd a0 a1 in
theorem y_low : ∀ m, m < 8 → y1 gaR gqR a d m = y2 gaR gqR a d m := by
  intro m hm
  unfold y2
  show _ = setN (y1 gaR gqR a d) 8 _ 8 m
  unfold setN
  rw [if_neg (by omega)]
theorem okP_ok {p : Int} (p0 : 0 ≤ p) (p1 : p < 18446744073709551616) : (okP gaR gqR a d p).1 = (okP gaR gqR a d p).2 := by
  unfold okP
  rw [pc0_eq a0 a1, pN2]
  exact okD ⟨(c0_inv hd a0 a1).ok, Nat.le_refl _, by omega, p0, p1⟩
omit hd in
theorem pA0 : pA a 0 = a := by rw [pA_eq a0 a1 (by omega) (by omega), Int.add_zero]
theorem pE_ok {op w h : Int} {s : Bool} {n : Nat} (hL : n * wid h = 8) (hu : ∀ b, Wd.unV op b = ofK z0 w (fun i => Wd.laI s b h i) n) : ∀ p ∈ pE gaR gqR a d op w h s n, p.1 = p.2 := by
  unfold pE
  refine one_d (dOut_ok a0 a1 (by omega) (by omega) (by omega)) (one_d (okP_ok hd a0 a1 (by rw [pA0 a0 a1]; omega) (by rw [pA0 a0 a1]; omega)) (one_d (eq_t fun m _ => ?_) nil_d))
  rw [wide_eq y_low w h s n hL, hu]
theorem pZ_ok {w : Int} {n : Nat} (hw : (w = 32 ∧ n = 4) ∨ (w = 64 ∧ n = 8)) : ∀ p ∈ pZ gaR gqR a d w n, p.1 = p.2 := by
  obtain ⟨e1, e2⟩ := ld_p hd a0 a1 (n := n) (by omega)
  obtain ⟨s0, s1⟩ := sumN_bd hd 0 n
  unfold pZ
  refine one_d (dOut_ok a0 a1 (by omega) (by omega) (by omega)) (one_d (okP_ok hd a0 a1 (by rw [pA0 a0 a1]; omega) (by rw [pA0 a0 a1]; omega)) (one_d (eq_t fun m _ => ?_) nil_d))
  rw [e1, e2]
  show setN z0 0 (sumN d 0 n) 8 m = _
  rw [zero_eq s0 s1 (by omega)]
  rcases hw with ⟨rfl, rfl⟩ | ⟨rfl, rfl⟩ <;> rfl
include hv
theorem pS_ok {l w q : Int} {n m : Nat} (l0 : 0 ≤ l) (_l1 : l < 4294967296) (hw : (w = 8 ∧ n = 1 ∧ q = 16 ∧ m = 16) ∨ (w = 16 ∧ n = 2 ∧ q = 8 ∧ m = 8) ∨ (w = 32 ∧ n = 4 ∧ q = 4 ∧ m = 4) ∨ (w = 64 ∧ n = 8 ∧ q = 2 ∧ m = 2)) : ∀ p ∈ pS gaR gqR a d v l w n q m, p.1 = p.2 := by
  obtain ⟨e1, e2⟩ := ld_p hd a0 a1 (n := n) (by omega)
  have h0 := Int.emod_nonneg l (show q ≠ 0 by omega)
  have h1 := Int.emod_lt_of_pos l (show 0 < q by omega)
  have eI : lI l q = l % q := by unfold lI; rw [Int.tmod_eq_emod_of_nonneg l0, wi (by omega) (by omega)]
  have eU : lU l q = l % q := by unfold lU; rw [eI, wu h0 (by omega)]
  have eW : IntKind.i64.wrap (lU l q) = lI l q := by rw [eU, eI, wi (by omega) (by omega)]
  have dA := okP_ok hd a0 a1 (p := pA a 0) (by rw [pA0 a0 a1]; omega) (by rw [pA0 a0 a1]; omega)
  have dO := dOut_ok a0 a1 (B := 0) (n := n) (by omega) (by omega) (by omega)
  have hm : m = (lanesI w).toNat := by rcases hw with ⟨rfl, _, _, rfl⟩ | ⟨rfl, _, _, rfl⟩ | ⟨rfl, _, _, rfl⟩ | ⟨rfl, _, _, rfl⟩ <;> rfl
  unfold pS
  refine one_d (okP_ok hd a0 a1 (by rw [wu a0 (by omega)]; omega) (by rw [wu a0 (by omega)]; omega)) (one_d dO (one_d dA (one_d (decide_eq_false (by rw [eU]; omega)) (one_d dO (one_d dA (one_d (eq_t fun k hk => ?_) (one_d (eq_t fun k _ => ?_) nil_d)))))))
  · rw [e1, e2, hm]; exact spl_eq hv (by omega) k hk
  · rw [e1, e2, eW]
theorem pa_facts {l : Int} (l0 : 0 ≤ l) (l1 : l < 4294967296) : ∀ p ∈ D_pa gaR gqR a l d v, p.1 = p.2 := by
  have F : Fit (zC 131072) 131072 131072 a := ⟨z128, Nat.le_refl _, by omega, by omega, by omega⟩
  have h0 : ∀ p ∈ [((gaR.nq 2 2 0, true) : Bool × Bool), (gqR.pk (b0 gaR) (pN 2) (pN 2) (IntKind.u64.wrap a) (vL d) 0 16, true), dOut a 0 16, okP gaR gqR a d (pA a 0), okP gaR gqR a d (IntKind.u64.wrap (pA a 0 + 8)), (!(eq16 (y2 gaR gqR a d) d), false)], p.1 = p.2 := by
    refine one_d (show nqB 2 2 0 = true by decide) (one_d (pks_iff.2 ?_) (one_d (dOut_ok a0 a1 (by omega) (by omega) (by omega)) (one_d (okP_ok hd a0 a1 (by rw [pA0 a0 a1]; omega) (by rw [pA0 a0 a1]; omega)) (one_d (okP_ok hd a0 a1 ?_ ?_) (one_d (eq_t (y2_d hd a0 a1)) nil_d)))))
    · unfold b0
      rw [pN2, wu a0 (by omega)]
      exact ⟨F, by omega, by omega, vL_src hd⟩
    · rw [pA0 a0 a1, wu (by omega) (by omega)]; omega
    · rw [pA0 a0 a1, wu (by omega) (by omega)]; omega
  have e1 := pE_ok hd a0 a1 (op := 64903) (w := 16) (h := 8) (s := true) (n := 8) rfl un_03
  have e2 := pE_ok hd a0 a1 (op := 64905) (w := 16) (h := 8) (s := false) (n := 8) rfl un_05
  have e3 := pE_ok hd a0 a1 (op := 64935) (w := 32) (h := 16) (s := true) (n := 4) rfl un_35
  have e4 := pE_ok hd a0 a1 (op := 64937) (w := 32) (h := 16) (s := false) (n := 4) rfl un_37
  have e5 := pE_ok hd a0 a1 (op := 64967) (w := 64) (h := 32) (s := true) (n := 2) rfl un_67
  have e6 := pE_ok hd a0 a1 (op := 64969) (w := 64) (h := 32) (s := false) (n := 2) rfl un_69
  have s1 := pS_ok hd hv a0 a1 l0 l1 (w := 8) (q := 16) (n := 1) (m := 16) (.inl ⟨rfl, rfl, rfl, rfl⟩)
  have s2 := pS_ok hd hv a0 a1 l0 l1 (w := 16) (q := 8) (n := 2) (m := 8) (.inr (.inl ⟨rfl, rfl, rfl, rfl⟩))
  have s3 := pS_ok hd hv a0 a1 l0 l1 (w := 32) (q := 4) (n := 4) (m := 4) (.inr (.inr (.inl ⟨rfl, rfl, rfl, rfl⟩)))
  have s4 := pS_ok hd hv a0 a1 l0 l1 (w := 64) (q := 2) (n := 8) (m := 2) (.inr (.inr (.inr ⟨rfl, rfl, rfl, rfl⟩)))
  have z1 := pZ_ok hd a0 a1 (w := 32) (n := 4) (.inl ⟨rfl, rfl⟩)
  have z2 := pZ_ok hd a0 a1 (w := 64) (n := 8) (.inr ⟨rfl, rfl⟩)
  exact app_d (app_d (app_d (app_d (app_d (app_d (app_d (app_d (app_d (app_d (app_d (app_d h0 e1) e2) e3) e4) e5) e6) s1) s2) s3) z1) s4) z2
/-- VmemParts -/
theorem parts_all (op A B L H : Int) (la : Option Addr) (lv lc : Nat) {l : Int} (l0 : 0 ≤ l) (l1 : l < 4294967296) (w : World) :
    Calls Try.prog 5 #[.int .u16 a, .agg (bs d), acC op A B L H la lv lc l v] w fun e w' => e = .returned (.bool true) ∧ Gr w w' :=
  pa_run gaR rfl gqR rfl a d op A B L H la lv lc l v hv (pa_facts hd hv a0 a1 l0 l1) w
end
end Vm
end Go.Proofs.Ytmgkejpjljkfdaa
