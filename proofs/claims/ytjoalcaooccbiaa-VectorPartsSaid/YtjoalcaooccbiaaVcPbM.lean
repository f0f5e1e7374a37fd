/-
 Of layer 9: VectorParts, by which of the layers' calls answers. Conditions: the library's variable reads as some number; bytes; what vector.Do answers. (gen_vcpar.py)
-/
import Derived.Test.YtjoalcaooccbiaaVcPaM
namespace Go.Proofs.Ytjoalcaooccbiaa
open Go.RowKit VecM Ev
namespace Vc
def h2 (a : Nat → Int) : List Value := [.int .u64 (getI a 64 0), .int .u64 (getI a 64 1)]
def h4 (a b : Nat → Int) : List Value := [.int .u64 (getI a 64 0), .int .u64 (getI a 64 1), .int .u64 (getI b 64 0), .int .u64 (getI b 64 1)]
noncomputable def envX (m : Int) (t : Gt) (K : List (Nat → Int)) (bits cdo : CsF) : Env := { P := Try.prog, known := K, sum := sumD, csum := orC (awS (gRow m t)) (orC bits (orC num1S cdo)) }
theorem envX_ok {m : Int} {t : Gt} {K : List (Nat → Int)} {bits cdo : CsF} (h : COk bits) (h' : COk cdo) : OphOk (envX m t K bits cdo) := csum_of rfl (orC_ok (awS_ok m t) (orC_ok h (orC_ok num1S_ok h')))
def sa : Nat → Int := smp [200, 17, 3, 255, 128, 90, 77, 161, 14, 222, 65, 130, 9, 250, 101, 188]
def sb : Nat → Int := smp [3, 24, 12, 6, 7, 19, 2, 14, 21, 8, 27, 16, 9, 12, 23, 15]
def sc : Nat → Int := smp [33, 240, 129, 6, 71, 199, 2, 144, 213, 88, 27, 166, 95, 12, 231, 150]
noncomputable def paPath (m : Int) (t : Gt) (z z' : Int) (a b b' : Nat → Int) (K K' : List (Nat → Int)) (bits bits' cdo cdo' : CsF) (β : Nat → Fr) : Out :=
 evPathM (envX m t K bits cdo) (envX 0 ⟨0, []⟩ K' bits' cdo') 600 4 [.int .i64 z, .agg (bs a), .agg (bs b)] [.int .i64 z', .agg (bs sa), .agg (bs b')] [gRow m t] [gRow 0 ⟨0, []⟩] (.bool true) β
theorem pa_run (m : Int) (t : Gt) (z z' : Int) (a b b' : Nat → Int) (K K' : List (Nat → Int)) (bits bits' cdo cdo' : CsF) (h1 : COk bits) (h2 : COk cdo) (hK : ∀ x ∈ K, Byt x) (D : List (Bool × Bool)) (ts : List Nat) (hD : ∀ p ∈ D, p.1 = p.2)
  (hr : ∀ β, tagOL D ts (paPath m t z z' a b b' K K' bits bits' cdo cdo' β) = tagOR D ts (paPath m t z z' a b b' K K' bits bits' cdo cdo' β)) (w : World) (hS : SG w [gRow m t] w) :
  Calls Try.prog 4 #[.int .i64 z, .agg (bs a), .agg (bs b)] w fun e w' => e = .returned (.bool true) ∧ Gr w w' :=
 ev_pathM (E := envX m t K bits cdo) (E' := envX 0 ⟨0, []⟩ K' bits' cdo') rfl (sumD_ok rfl hK) (args := [.int .i64 z, .agg (bs a), .agg (bs b)]) D ts hD hr w hS (ho := envX_ok h1 h2)
/-- the first row of a type with so many cells -/
def rowOfN (t : TypeId) (n : Nat) : List Rw → Nat
 | [] => 0
 | r :: M => match Nat.beq r.t t && Nat.beq r.c.length n with | true => 0 | false => rowOfN t n M + 1
noncomputable def doX (m : Int) (t : Gt) (op A L H : Int) (need : Nat) (Y : (Nat → Int) → List Int) (ok : Bool) : CsF := doS (gRow m t) op A L H need Y ok (rowOfN 22 need)
theorem doX_ok {m : Int} {t : Gt} {op A L H : Int} {need : Nat} {Y : (Nat → Int) → List Int} {ok : Bool} (K : DoIs m t op A L H need Y ok) : COk (doX m t op A L H need Y ok) := doS_ok m t op A L H need Y ok _ K
noncomputable def shfV (a b : Nat → Int) : Nat → Int := if okS b then Mv.shV a b b else fun _ => 0
/-- the tests that tell which calls answer -/
noncomputable def pTests (op : Int) : List Bool := [(if Ar.unOk op = true then (0 : Int) else 1) == 0, Wd.unE op == 0, (if Ar.biOk op = true then (0 : Int) else 1) == 0, Wd.biE op == 0, (if Cp.cW op = 0 then (1 : Int) else 0) == 0, (if Ar.shOk op = true then (0 : Int) else 1) == 0, (if Mv.spW op = 0 then (1 : Int) else 0) == 0, (if thereB (Mv.reW op) 1 = true then (0 : Int) else 1) == 0, (if thereB (Mv.exW op) 1 = true then (0 : Int) else 1) == 0, Cp.tsOk op == 0]
theorem pt (i : Nat) {op : Int} {v : List Bool} (hv : pTests op = v) : (pTests op).getD i false = v.getD i false := by rw [hv]
theorem neq_of {x y : Int} {b : Bool} (h : (x == y) = b) : (x != y) = !b := by rw [bne, h]
theorem u32_l (z : Int) : decide (0 ≤ IntKind.u32.wrap z) = true := u32_lo z
def DoNo2 (m : Int) (t : Gt) (op : Int) : Prop := ∀ (B : Int) (lv hp : Option Addr) (ln lc cap : Nat) (w : World), SG w [gRow m t] w → Calls Try.prog 10 #[ins op 1 B 0 0 (.slice lv ln lc), .slice hp 2 cap] w (Err w)
/-- vector.Do of two halves, which it refuses -/
noncomputable def doN2 (g : Rw) (op : Int) : CsF := fun f args M =>
 match Nat.beq f 10 with
 | false => none
 | true => match args with
  | [.agg ⟨[.int .i64 op', .int .i64 A', .int .i64 _, .int .u64 L', .int .u64 H', .slice _ _ _]⟩, .slice _ 2 _] => some ⟨setEnd M [g], [decide (op' = op), decide (A' = 1), decide (L' = 0), decide (H' = 0)], 0, fun _ => err1, fun _ => []⟩
  | _ => none
theorem doN2_ok (m : Int) (t : Gt) (op : Int) (K : DoNo2 m t op) : COk (doN2 (gRow m t) op) := by
 intro f args M H' hq hrows hpre w0 w hS
 unfold doN2 at hq
 split at hq
 ·cases hq
 ·rename_i hf
  obtain rfl := Nat.eq_of_beq_eq_true hf
  split at hq
  ·rename_i op' A' B L' Hh lv ln lc hp cap
   cases hq
   have p1 := of_decide_eq_true (hpre _ (List.mem_cons_self ..))
   have p2 := of_decide_eq_true (hpre _ (List.mem_cons_of_mem _ (List.mem_cons_self ..)))
   have p3 := of_decide_eq_true (hpre _ (List.mem_cons_of_mem _ (List.mem_cons_of_mem _ (List.mem_cons_self ..))))
   have p4 := of_decide_eq_true (hpre _ (List.mem_cons_of_mem _ (List.mem_cons_of_mem _ (List.mem_cons_of_mem _ (List.mem_cons_self ..)))))
   subst p1 p2 p3 p4
   simp only at hrows
   have m2 : gRow m t ∈ M := by rw [hrows]; exact setEnd_mem (List.mem_cons_self ..)
   have hs : SG w [gRow m t] w := sg_given hS (fun r hr => by obtain rfl := List.mem_singleton.1 hr; exact ⟨_, m2, rfl, rfl, rfl⟩) (fun r hr => by obtain rfl := List.mem_singleton.1 hr; rfl)
   exact (K B lv hp ln lc cap w hs).mono fun e w' h => ⟨[], rfl, h.1, hS.grow h.2⟩
  ·cases hq
theorem mem_c {c : CsF} {l : List CsF} (h : COk c) (h' : ∀ x ∈ l, COk x) : ∀ x ∈ c :: l, COk x := fun x hx => by
 rcases List.mem_cons.1 hx with rfl | hx
 ·exact h
 ·exact h' x hx
theorem ne_f {a b : Int} (h : a = b) : (a != b) = false := by rw [h]; exact bne_self_eq_false b
end Vc
end Go.Proofs.Ytjoalcaooccbiaa
