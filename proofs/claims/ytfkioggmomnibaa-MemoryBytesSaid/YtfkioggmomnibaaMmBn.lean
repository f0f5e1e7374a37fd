/-
  Of layer 10: MemoryBytes of nothing.
-/
import Derived.Test.YtfkioggmomnibaaMmBl
namespace Go.Proofs.Ytfkioggmomnibaa
open Go.RowKit VecM Ev
namespace Mm
def orC (a b : CsF) : CsF := fun f args M => match a f args M with
  | some h => some h
  | none => b f args M
theorem orC_ok {a b : CsF} (ha : CsOk a) (hb : CsOk b) : CsOk (orC a b) := by
  intro f args M H hq
  unfold orC at hq
  split at hq
  · rename_i h he
    cases hq
    exact ha f args M _ he
  · exact hb f args M H hq
noncomputable def envBn (G : Ga) (K : Gq) : Env :=
  { P := Try.prog, known := [], sum := fun _ _ => none, csum := orC awC (pzC K.er G.ok), msum := orM [(9, nwM G fun _ => 0), (11, clM G), (19, saS G)], aop := apOp 0 0 }
theorem envBn_ms : ∀ f D, orM [(9, nwM gaR fun _ => 0), (11, clM gaR), (19, saS gaR)] f = some D →
    ∀ k args L M H, D.hole k args L M = some H → Res2 D.dep M args L → (∀ b ∈ H.pre, b = true) → ∀ w0 w : World, SG w0 M w → Calls Try.prog f args.toArray w fun e w' => ∃ fr : List Fr, fr.length = H.n ∧ e = .returned (H.v fr) ∧ SG w0 (H.out fr) w' := by
  intro f D hq k args L M H h1 h2 h3 w0 w hS
  have hm := orM_mem hq
  simp only [List.mem_cons, List.not_mem_nil, or_false, Prod.mk.injEq] at hm
  rcases hm with ⟨rfl, rfl⟩ | ⟨rfl, rfl⟩ | ⟨rfl, rfl⟩
  · exact nwM_ok _ h1 h2 h3 w0 w hS
  · exact clM_ok h1 h2 h3 w0 w hS
  · exact saS_ok h1 h2 h3 w0 w hS
theorem envBn_ok : OphOk (envBn gaR gqR) := ⟨orC_ok awC_ok pzC_ok, fun _ _ _ _ hq => (by cases hq), envBn_ms, apOp_ok 0 0⟩
noncomputable def bnPath (G : Ga) (K : Gq) (er : Int) (a : Int) (x : Option Addr) (sc : Nat) (a' : Int) (β : Nat → Fr) : Out :=
  evPathR (envBn G K) (envBn (gaS 0 0) (gqS er)) 4000 7 [.int .u64 a, .slice x 0 sc] [.int .u64 a', .slice none 0 0] [] [] (.bool true) 100 [] β
theorem bn_run (G : Ga) (hG : G = gaR) (K : Gq) (hK : K = gqR) (er : Int) (a : Int) (x : Option Addr) (sc : Nat) (a' : Int) (D : (Nat → Fr) → List (Bool × Bool)) (ts : List Nat) (hD : ∀ β, ∀ p ∈ D β, p.1 = p.2)
    (hr : ∀ β, tagOL (D β) ts (bnPath G K er a x sc a' β) = tagOR (D β) ts (bnPath G K er a x sc a' β)) (w : World) :
    Calls Try.prog 7 #[.int .u64 a, .slice x 0 sc] w fun e w' => e = .returned (.bool true) ∧ Gr w w' :=
  (ev_callB (E := envBn G K) (E' := envBn (gaS 0 0) (gqS er)) rfl (nosum_ok _ rfl) (fuel := 4000) (args := [.int .u64 a, .slice x 0 sc]) (args' := [.int .u64 a', .slice none 0 0]) (M := []) (M' := [])
    (v := fun _ => .bool true) (k := 100) (M1 := fun _ => []) D ts hD hr w w ⟨St.start w, fun _ h => by cases h⟩ (hh := no_holes rfl) (ho := by rw [hG, hK]; exact envBn_ok)).mono fun _ _ ⟨_, h1, h2⟩ => ⟨h1, h2.gr⟩
def D_bn0 (G : Ga) (a : Int) : List (Bool × Bool) := [(G.nq 1 (-1) 0, true), (G.ok (G.zc (pN 1)) (pN 1) (pN 1) 0, true), (G.ok (G.zc (pN 1)) (pN 1) (pN 1) a, true)]
def bnS (G : Ga) (β : Nat → Fr) : List (Bool × Bool) := [(G.sm (G.zc (pN 1)) (lK G β) (pN 1) (pN 1) (pN 1) (G.ln (lK G β)), true)]
def D_bnA (G : Ga) (K : Gq) (a : Int) (β : Nat → Fr) : List (Bool × Bool) := D_bn0 G a ++ [(decide (a > 65536), true), (K.er (pN 1) a 0 == 23, true)] ++ bnS G β
--EVTS t_bnA | fun (G : Ga) (K : Gq) (a : Int) (x : Option Addr) (sc : Nat) (β : Nat → Fr) => (bnPath G K 23 a x sc 70000 β, D_bnA G K a β)
def t_bnA : List Nat := [5, 6, 0, 0, 0, 0, 5, 5, 5, 4, 0, 0, 0, 0, 0, 0, 0, 0, 3, 2, 0, 0, 0, 0, 1, 0]
theorem bnA_run (a : Int) (x : Option Addr) (sc : Nat) (hD : ∀ β, ∀ p ∈ D_bnA gaR gqR a β, p.1 = p.2) (w : World) : Calls Try.prog 7 #[.int .u64 a, .slice x 0 sc] w fun e w' => e = .returned (.bool true) ∧ Gr w w' :=
  (fun (G : Ga) (hG : G = gaR) (K : Gq) (hK : K = gqR) => bn_run G hG K hK 23 a x sc 70000 (D_bnA G K a) t_bnA (by rw [hG, hK]; exact hD) (fun β => by kernel_rfl) w) gaR rfl gqR rfl
def D_bnO (G : Ga) (K : Gq) (a : Int) (β : Nat → Fr) : List (Bool × Bool) := D_bn0 G a ++ [(decide (a > 65536), false), (K.er (pN 1) a 0 != 0, false), (K.er (pN 1) a 0 == 0, true)] ++ bnS G β
--EVTS t_bnO | fun (G : Ga) (K : Gq) (a : Int) (x : Option Addr) (sc : Nat) (β : Nat → Fr) => (bnPath G K 0 a x sc 7 β, D_bnO G K a β)
def t_bnO : List Nat := [6, 7, 0, 0, 0, 0, 6, 6, 6, 0, 3, 0, 0, 0, 5, 4, 0, 0, 0, 0, 0, 0, 0, 0, 3, 2, 0, 0, 0, 0, 1, 0]
theorem bnO_run (a : Int) (x : Option Addr) (sc : Nat) (hD : ∀ β, ∀ p ∈ D_bnO gaR gqR a β, p.1 = p.2) (w : World) : Calls Try.prog 7 #[.int .u64 a, .slice x 0 sc] w fun e w' => e = .returned (.bool true) ∧ Gr w w' :=
  (fun (G : Ga) (hG : G = gaR) (K : Gq) (hK : K = gqR) => bn_run G hG K hK 0 a x sc 7 (D_bnO G K a) t_bnO (by rw [hG, hK]; exact hD) (fun β => by kernel_rfl) w) gaR rfl gqR rfl
end Mm
end Go.Proofs.Ytfkioggmomnibaa
