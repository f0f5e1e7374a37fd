/-
  Of layer 11: VmemWhole: what its runs are told. (gen_vmwh.py)
-/
import Derived.Test.YtmgkejpjljkfdaaVmGa
namespace Go.Proofs.Ytmgkejpjljkfdaa
open Go.RowKit VecM Ev Mm
namespace Vm
def whC (B : Gf) : CsF := fun f args M => match awK f args M with
  | some H => some H
  | none => flC B f args M
theorem whC_ok : CsOk (whC gfR) := by
  intro f args M H hq h1 h2 w0 w hS
  unfold whC at hq
  split at hq
  · rename_i H' h'
    cases hq
    exact awK_ok f args M H h' h1 h2 w0 w hS
  · exact flC_ok f args M H hq h1 h2 w0 w hS
def whI (p n : Nat) : Option Nat := match Nat.beq p 162 with
  | true => some 0
  | false => match Nat.beq p 167 with
    | true => some (Nat.sub n 2)
    | false => none
noncomputable def envWh (G : Ga) (K : Gq) (F : Gf) (U : Gu) (kn : List (Nat → Int)) : Env :=
  { P := Try.prog, known := kn, sum := sumR, csum := whC F, oph := byG whI, msum := orM [(24, ldM G), (38, stM G), (10, poM K), (22, pkM U.pk), (21, unM U)] }
theorem envWh_ms (F : Gf) (kn : List (Nat → Int)) : MsOk (envWh gaR gqR F guR kn) := by
  intro f D hq k args L M H h1 h2 h3 w0 w hS
  have hm := orM_mem hq
  simp only [List.mem_cons, List.not_mem_nil, or_false, Prod.mk.injEq] at hm
  rcases hm with ⟨rfl, rfl⟩ | ⟨rfl, rfl⟩ | ⟨rfl, rfl⟩ | ⟨rfl, rfl⟩ | ⟨rfl, rfl⟩
  · exact ldM_ok h1 h2 h3 w0 w hS
  · exact stM_ok h1 h2 h3 w0 w hS
  · exact poM_ok k args L M H h1 h2 h3 w0 w hS
  · exact pkM_ok k args L M H h1 h2 h3 w0 w hS
  · exact unM_ok h1 h2 h3 w0 w hS
theorem envWh_ok (kn : List (Nat → Int)) : OphOk (envWh gaR gqR gfR guR kn) := ⟨whC_ok, byG_ok whI, envWh_ms gfR kn, no_aop rfl⟩
def insV (op A B L H : Int) (la : Option Addr) (lv lc : Nat) : Value := .agg ⟨[.int .i64 op, .int .i64 A, .int .i64 B, .int .u64 L, .int .u64 H, .slice la lv lc]⟩
/-- the sample's data: what is loaded has its first bytes, wherever; a page of zeros -/
def wd8 : Nat → Int := fun m => 129 + ((Nat.mod m 8 : Nat) : Int)
def wv2 : Nat → Int := fun _ => 2
def gaW : Ga := { gaS 0 0 with ld := fun _ _ _ n => sumN wd8 0 n.toNat }
def gfW : Gf := ⟨List.replicate 40 (.int .u8 0), fun _ => true, fun c => c, fun _ => 0⟩
noncomputable def whPath (G : Ga) (K : Gq) (F : Gf) (U : Gu) (kn kn' : List (Nat → Int)) (op A B L H : Int) (la : Option Addr) (lv lc : Nat) (a : Int) (v : Nat → Int) (op' B' L' a' : Int) (v' : Nat → Int) (β : Nat → Fr) : Out :=
  evPathR (envWh G K F U kn) (envWh gaW (gqS 0) gfW guS kn') 4000 4 [insV op A B L H la lv lc, .int .u32 a, .agg (bs v)] [insV op' 0 B' L' 0 none 0 0, .int .u32 a', .agg (bs v')] [] [] (.bool true) 1000 [] β
theorem wh_run (G : Ga) (hG : G = gaR) (K : Gq) (hK : K = gqR) (F : Gf) (hF : F = gfR) (U : Gu) (hU : U = guR) (kn kn' : List (Nat → Int)) (hkn : ∀ x ∈ kn, Byt x) (op A B L H : Int) (la : Option Addr) (lv lc : Nat) (a : Int) (v : Nat → Int) (op' B' L' a' : Int) (v' : Nat → Int)
    (D : (Nat → Fr) → List (Bool × Bool)) (ts : List Nat) (hD : ∀ β, ∀ p ∈ D β, p.1 = p.2) (hr : ∀ β, tagOL (D β) ts (whPath G K F U kn kn' op A B L H la lv lc a v op' B' L' a' v' β) = tagOR (D β) ts (whPath G K F U kn kn' op A B L H la lv lc a v op' B' L' a' v' β)) (w : World) :
    Calls Try.prog 4 #[insV op A B L H la lv lc, .int .u32 a, .agg (bs v)] w fun e w' => e = .returned (.bool true) ∧ Gr w w' :=
  (ev_callB (E := envWh G K F U kn) (E' := envWh gaW (gqS 0) gfW guS kn') rfl (sumR_ok rfl hkn) (fuel := 4000) (args := [insV op A B L H la lv lc, .int .u32 a, .agg (bs v)]) (args' := [insV op' 0 B' L' 0 none 0 0, .int .u32 a', .agg (bs v')]) (M := []) (M' := [])
    (v := fun _ => .bool true) (k := 1000) (M1 := fun _ => []) D ts hD hr w w ⟨St.start w, fun _ h => by cases h⟩ (ho := by rw [hG, hK, hF, hU]; exact envWh_ok _)).mono fun _ _ ⟨_, h1, h2⟩ => ⟨h1, h2.gr⟩
/-! ### the facts' lists -/
def wA (a B : Int) : Int := IntKind.u64.wrap (IntKind.u64.wrap a + IntKind.u64.wrap B)
def oD (a B n : Int) : Bool := decide (IntKind.u64.wrap (wA a B + n) > 65536)
def eN (a B n : Int) : Int := IntKind.i64.wrap (IntKind.i64.wrap (IntKind.i64.wrap a + B) + n)
def atN (a B n : Int) : Int := IntKind.i64.wrap (eN a B n - n)
def lD (b : Bool) (q L : Int) (r : Bool) : List (Bool × Bool) := match b with
  | true => [(decide (L ≥ q), r)]
  | false => []
def bD (B : Int) : List (Bool × Bool) := [(decide (B < 0), false), (decide (B ≥ 4294967296), false)]
def kD (B : Int) : List (Bool × Bool) := [(decide (B < 0), false), (decide (B > 4294967295), false)]
def uD (F : Gf) (U : Gu) : List (Bool × Bool) := [(U.un F.fl 65536 65536 (-1) 0, true)]
def A1D (F : Gf) (U : Gu) (B : Int) : List (Bool × Bool) := [(decide (B < 0), true), (decide (B < 0), true)] ++ uD F U
def A2D (F : Gf) (U : Gu) (B : Int) : List (Bool × Bool) := [(decide (B < 0), false), (decide (B ≥ 4294967296), true), (decide (B < 0), false), (decide (B > 4294967295), true)] ++ uD F U
def A3D (F : Gf) (U : Gu) (q B L : Int) : List (Bool × Bool) := bD B ++ lD true q L true ++ kD B ++ lD true q L true ++ uD F U
def inD (b : Bool) (q B L a n : Int) (r : Bool) : List (Bool × Bool) := bD B ++ lD b q L false ++ kD B ++ lD b q L false ++ [(oD a B n, r)]
def TD (F : Gf) (U : Gu) (b : Bool) (q B L a n : Int) : List (Bool × Bool) := inD b q B L a n true ++ [(decide (eN a B n > 65536), true)] ++ uD F U
def LD (G : Ga) (F : Gf) (U : Gu) (b : Bool) (q B L a n : Int) : List (Bool × Bool) := inD b q B L a n false ++ [(G.ok F.fl 65536 65536 (wA a B), true), (decide (eN a B n > 65536), false)] ++ uD F U
def L16D (G : Ga) (F : Gf) (U : Gu) (B L a : Int) : List (Bool × Bool) := inD false 0 B L a 16 false ++ [(G.ok F.fl 65536 65536 (wA a B), true), (G.ok F.fl 65536 65536 (IntKind.u64.wrap (wA a B + 8)), true), (decide (eN a B 16 > 65536), false)] ++ uD F U
def wX (G : Ga) (F : Gf) (a B n : Int) : Int := G.ld F.fl 65536 (wA a B) n
def stC (G : Ga) (F : Gf) (a B n L : Int) (v : Nat → Int) : List Value := G.st F.fl 65536 (wA a B) n (getI v (8 * n) (IntKind.i64.wrap L))
def cpC (K : Gq) (F : Gf) (a B : Int) (v : Nat → Int) : List Value := K.cp F.fl 65536 (wA a B) (vL v) 0 16
def pkC (c : List Value) (a B n : Int) (m : Nat) (t : List Value) : List Value := (c.drop (atN a B n).toNat).take m ++ t
def fz (n L : Int) (i : Nat) : Int := IntKind.i64.wrap (IntKind.i64.wrap (n * IntKind.i64.wrap L) + (i : Int))
def SD (G : Ga) (F : Gf) (U : Gu) (q B L a n : Int) (m : Nat) (v : Nat → Int) (t : List Value) : List (Bool × Bool) :=
  inD true q B L a n false ++ [(G.ok F.fl 65536 65536 (wA a B), true), (decide (eN a B n > 65536), false), (G.er 65536 (wA a B) n != 0, false), (U.pk (stC G F a B n L v) 65536 65536 (atN a B n) n, true)] ++
  ((List.range m).map fun (i : Nat) => [(isB (pkC (stC G F a B n L v) a B n m t)[0 + i]?, true), (decide (0 ≤ fz n L i), true), (decide (fz n L i < 16), true), (isB (vL v)[(fz n L i).toNat]?, true), (gB (pkC (stC G F a B n L v) a B n m t) (0 + i) != gB (vL v) (fz n L i).toNat, false)]).flatten ++ [(U.un (stC G F a B n L v) 65536 65536 (atN a B n) n, true)]
def S16D (K : Gq) (F : Gf) (U : Gu) (B L a : Int) (v : Nat → Int) (t : List Value) : List (Bool × Bool) :=
  inD false 0 B L a 16 false ++ [(K.pk F.fl 65536 65536 (wA a B) (vL v) 0 16, true), (decide (eN a B 16 > 65536), false), (K.er 65536 (wA a B) 16 != 0, false), (U.pk (cpC K F a B v) 65536 65536 (atN a B 16) 16, true)] ++
  ((List.range 16).map fun (i : Nat) => [(isB (pkC (cpC K F a B v) a B 16 16 t)[0 + i]?, true), (gB (pkC (cpC K F a B v) a B 16 16 t) (0 + i) != v i, false)]).flatten ++ [(U.un (cpC K F a B v) 65536 65536 (atN a B 16) 16, true)]
/-- a widening load's lanes, one by one -/
def weS (b : Nat → Int) (w h : Int) (s : Bool) : Nat → (Nat → Int)
  | 0 => z0
  | k + 1 => setI (weS b w h s k) w k (if s then IntKind.u64.wrap (sgnI b h k) else getI b h k)
/-- a splat's -/
def wsS (b : Nat → Int) (w x : Int) : Nat → (Nat → Int)
  | 0 => b
  | k + 1 => setI (wsS b w x k) w k x
theorem wbyt_z0 : Byt z0 := fun _ => ⟨Int.le_refl _, by show (0 : Int) ≤ 255; decide⟩
theorem weS_byt (b : Nat → Int) (w h : Int) (s : Bool) : ∀ k, Byt (weS b w h s k)
  | 0 => wbyt_z0
  | k + 1 => setI_byt (weS_byt b w h s k) _ _ _
theorem wsS_byt {b : Nat → Int} (hb : Byt b) (w x : Int) : ∀ k, Byt (wsS b w x k)
  | 0 => hb
  | k + 1 => setI_byt (wsS_byt hb w x k) _ _ _
def kW (G : Ga) (F : Gf) (a B w h : Int) (s : Bool) (m : Nat) : List (Nat → Int) := z0 :: setI z0 64 0 (wX G F a B 8) :: (List.range m).map fun (k : Nat) => weS (setI z0 64 0 (wX G F a B 8)) w h s (k + 1)
def kP (G : Ga) (F : Gf) (a B w n : Int) (m : Nat) (v : Nat → Int) : List (Nat → Int) := v :: (List.range m).map fun (k : Nat) => wsS v w (wX G F a B n) (k + 1)
theorem kW_byt (G : Ga) (F : Gf) (a B w h : Int) (s : Bool) (m : Nat) : ∀ x ∈ kW G F a B w h s m, Byt x := by
  intro x hx
  unfold kW at hx
  simp only [List.mem_cons, List.mem_map] at hx
  rcases hx with rfl | rfl | ⟨k, _, rfl⟩
  · exact wbyt_z0
  · exact setI_byt wbyt_z0 _ _ _
  · exact weS_byt _ _ _ _ _
theorem kP_byt (G : Ga) (F : Gf) (a B w n : Int) (m : Nat) {v : Nat → Int} (hv : Byt v) : ∀ x ∈ kP G F a B w n m v, Byt x := by
  intro x hx
  unfold kP at hx
  simp only [List.mem_cons, List.mem_map] at hx
  rcases hx with rfl | ⟨k, _, rfl⟩
  · exact hv
  · exact wsS_byt hv _ _ _
theorem wbyt_one {v : Nat → Int} (hv : Byt v) : ∀ x ∈ [v], Byt x := fun x hx => by rw [List.mem_singleton.1 hx]; exact hv
theorem wbyt_z2 (G : Ga) (F : Gf) (a B : Int) : ∀ x ∈ [z0, setI z0 64 0 (wX G F a B 8)], Byt x := fun x hx => by
  simp only [List.mem_cons, List.not_mem_nil, or_false] at hx
  rcases hx with rfl | rfl
  · exact wbyt_z0
  · exact setI_byt wbyt_z0 _ _ _
end Vm
end Go.Proofs.Ytmgkejpjljkfdaa
