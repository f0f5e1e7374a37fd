/-
  Of layer 10: MemoryBytes: its runs. (gen_mmbl.py)
-/
import Derived.Test.YtfkioggmomnibaaMmBz
namespace Go.Proofs.Ytfkioggmomnibaa
open Go.RowKit VecM Ev
namespace Mm
noncomputable def blPath (G : Ga) (K : Gq) (B : HbF) (er : Int) (a : Int) (gb off n sc : Nat) (dc : List Value) (dt : TypeId) (a' : Int) (n' : Nat) (β : Nat → Fr) : Out :=
  evPathR (envBl G K B) (envBl (gaS 0 0) (gqS er) hbS) 4000 7 [.int .u64 a, .slice (some ⟨gb, off, none⟩) n sc] [.int .u64 a', .slice (some ⟨1001, 0, none⟩) n' 9000] [⟨gb, dc, dt, false⟩] [⟨1001, [], tB, false⟩] (.bool true) 100 [] β
theorem bl_run (G : Ga) (hG : G = gaR) (K : Gq) (hK : K = gqR) (B : HbF) (hB : B = hbR) (er : Int) (a : Int) (gb off n sc : Nat) (dc : List Value) (dt : TypeId) (a' : Int) (n' : Nat) (D : (Nat → Fr) → List (Bool × Bool)) (ts : List Nat) (hD : ∀ β, ∀ p ∈ D β, p.1 = p.2)
    (hr : ∀ β, tagOL (D β) ts (blPath G K B er a gb off n sc dc dt a' n' β) = tagOR (D β) ts (blPath G K B er a gb off n sc dc dt a' n' β)) (w : World) (hS : SG w [⟨gb, dc, dt, false⟩] w) :
    Calls Try.prog 7 #[.int .u64 a, .slice (some ⟨gb, off, none⟩) n sc] w fun e w' => e = .returned (.bool true) ∧ Gr w w' :=
  (ev_callB (E := envBl G K B) (E' := envBl (gaS 0 0) (gqS er) hbS) rfl (nosum_ok _ rfl) (fuel := 4000) (args := [.int .u64 a, .slice (some ⟨gb, off, none⟩) n sc]) (args' := [.int .u64 a', .slice (some ⟨1001, 0, none⟩) n' 9000]) (M := [⟨gb, dc, dt, false⟩]) (M' := [⟨1001, [], tB, false⟩])
    (v := fun _ => .bool true) (k := 100) (M1 := fun _ => []) D ts hD hr w w hS (hh := by rw [hB]; exact envBl_holes G K) (ho := by rw [hG, hK, hB]; exact envBl_ok)).mono fun _ _ ⟨_, h1, h2⟩ => ⟨h1, h2.gr⟩
def lC (G : Ga) (K : Gq) (a : Int) (off n : Nat) (dc : List Value) : List Value := K.cp (G.zc (pN 1)) (pN 1) a dc off n
def lK (G : Ga) (β : Nat → Fr) : List Value := G.tk (G.zc (pN 1)) (pN 1) (β 2).t
def lA (n : Nat) : Int := IntKind.u64.wrap (65536 - IntKind.u64.wrap (n : Int))
def lZ (G : Ga) (K : Gq) (a : Int) (off n : Nat) (dc : List Value) : List Value := K.cp (lC G K a off n dc) (pN 1) a (zC (Int.toNat (n : Int))) 0 (Int.toNat (n : Int))
def D_bl0 (G : Ga) (K : Gq) (a : Int) (off n : Nat) (dc : List Value) : List (Bool × Bool) := [(G.nq 1 (-1) 0, true), (G.ok (G.zc (pN 1)) (pN 1) (pN 1) 0, true), (K.pk (G.zc (pN 1)) (pN 1) (pN 1) a dc off n, true)]
def D_blU (G : Ga) (K : Gq) (a : Int) (off n : Nat) (dc : List Value) (β : Nat → Fr) : List (Bool × Bool) := [(K.er (pN 1) a n == 23, true), (G.sm (lC G K a off n dc) (lK G β) (pN 1) (pN 1) (pN 1) (G.ln (lK G β)), true)]
def D_blW (G : Ga) (K : Gq) (B : HbF) (a : Int) (off n sc : Nat) (dc : List Value) (β : Nat → Fr) : List (Bool × Bool) := [(K.er (pN 1) a n != 0, false), (B (lC G K a off n dc) (pN 1) (pN 1) a off n sc dc, true), (decide (0 ≤ (n : Int)), true), (decide ((n : Int) ≤ 140737488355328), true),
  (K.pk (lC G K a off n dc) (pN 1) (pN 1) a (zC (Int.toNat (n : Int))) 0 (Int.toNat (n : Int)), true), (K.er (pN 1) a (Int.toNat (n : Int)) == 0, true), (G.sm (lZ G K a off n dc) (lK G β) (pN 1) (pN 1) (pN 1) (G.ln (lK G β)), true)]
def D_blL (G : Ga) (K : Gq) (B : HbF) (a : Int) (gb off n sc : Nat) (dc : List Value) (dt : TypeId) (β : Nat → Fr) : List (Bool × Bool) := D_bl0 G K a off n dc ++ [(decide (IntKind.u64.wrap (n : Int) > 65536), true)] ++ D_blU G K a off n dc β
--EVTS t_blL | fun (G : Ga) (K : Gq) (B : HbF) (a : Int) (gb off n sc : Nat) (dc : List Value) (dt : TypeId) (β : Nat → Fr) => (blPath G K B 23 a gb off n sc dc dt 5 70000 β, D_blL G K B a gb off n sc dc dt β)
def t_blL : List Nat := [5, 6, 0, 0, 0, 0, 5, 5, 5, 0, 4, 4, 4, 4, 4, 4, 4, 0, 0, 0, 3, 0, 0, 0, 0, 2, 0, 0, 0, 0, 1, 0]
theorem blL_run (a : Int) (gb off n sc : Nat) (dc : List Value) (dt : TypeId) (hD : ∀ β, ∀ p ∈ D_blL gaR gqR hbR a gb off n sc dc dt β, p.1 = p.2) (w : World) (hS : SG w [⟨gb, dc, dt, false⟩] w) : Calls Try.prog 7 #[.int .u64 a, .slice (some ⟨gb, off, none⟩) n sc] w fun e w' => e = .returned (.bool true) ∧ Gr w w' :=
  (fun (G : Ga) (hG : G = gaR) (K : Gq) (hK : K = gqR) (B : HbF) (hB : B = hbR) => bl_run G hG K hK B hB 23 a gb off n sc dc dt 5 70000 (D_blL G K B a gb off n sc dc dt) t_blL (by rw [hG, hK, hB]; exact hD) (fun β => by kernel_rfl) w hS) gaR rfl gqR rfl hbR rfl
def D_blA (G : Ga) (K : Gq) (B : HbF) (a : Int) (gb off n sc : Nat) (dc : List Value) (dt : TypeId) (β : Nat → Fr) : List (Bool × Bool) := D_bl0 G K a off n dc ++ [(decide (IntKind.u64.wrap (n : Int) > 65536), false), (decide (a > lA n), true)] ++ D_blU G K a off n dc β
--EVTS t_blA | fun (G : Ga) (K : Gq) (B : HbF) (a : Int) (gb off n sc : Nat) (dc : List Value) (dt : TypeId) (β : Nat → Fr) => (blPath G K B 23 a gb off n sc dc dt 65536 5 β, D_blA G K B a gb off n sc dc dt β)
def t_blA : List Nat := [6, 7, 0, 0, 0, 0, 6, 6, 6, 5, 4, 4, 4, 4, 4, 4, 4, 0, 0, 0, 3, 0, 0, 0, 0, 2, 0, 0, 0, 0, 1, 0]
theorem blA_run (a : Int) (gb off n sc : Nat) (dc : List Value) (dt : TypeId) (hD : ∀ β, ∀ p ∈ D_blA gaR gqR hbR a gb off n sc dc dt β, p.1 = p.2) (w : World) (hS : SG w [⟨gb, dc, dt, false⟩] w) : Calls Try.prog 7 #[.int .u64 a, .slice (some ⟨gb, off, none⟩) n sc] w fun e w' => e = .returned (.bool true) ∧ Gr w w' :=
  (fun (G : Ga) (hG : G = gaR) (K : Gq) (hK : K = gqR) (B : HbF) (hB : B = hbR) => bl_run G hG K hK B hB 23 a gb off n sc dc dt 65536 5 (D_blA G K B a gb off n sc dc dt) t_blA (by rw [hG, hK, hB]; exact hD) (fun β => by kernel_rfl) w hS) gaR rfl gqR rfl hbR rfl
def D_blO (G : Ga) (K : Gq) (B : HbF) (a : Int) (gb off n sc : Nat) (dc : List Value) (dt : TypeId) (β : Nat → Fr) : List (Bool × Bool) := D_bl0 G K a off n dc ++ [(decide (IntKind.u64.wrap (n : Int) > 65536), false), (decide (a > lA n), false)] ++ D_blW G K B a off n sc dc β
--EVTS t_blO | fun (G : Ga) (K : Gq) (B : HbF) (a : Int) (gb off n sc : Nat) (dc : List Value) (dt : TypeId) (β : Nat → Fr) => (blPath G K B 0 a gb off n sc dc dt 5 5 β, D_blO G K B a gb off n sc dc dt β)
def t_blO : List Nat := [11, 12, 0, 0, 0, 0, 11, 11, 11, 0, 0, 0, 10, 0, 0, 0, 0, 9, 0, 0, 7, 6, 5, 4, 4, 4, 4, 4, 4, 4, 0, 0, 0, 3, 0, 0, 0, 0, 2, 0, 0, 0, 0, 1, 0]
theorem blO_run (a : Int) (gb off n sc : Nat) (dc : List Value) (dt : TypeId) (hD : ∀ β, ∀ p ∈ D_blO gaR gqR hbR a gb off n sc dc dt β, p.1 = p.2) (w : World) (hS : SG w [⟨gb, dc, dt, false⟩] w) : Calls Try.prog 7 #[.int .u64 a, .slice (some ⟨gb, off, none⟩) n sc] w fun e w' => e = .returned (.bool true) ∧ Gr w w' :=
  (fun (G : Ga) (hG : G = gaR) (K : Gq) (hK : K = gqR) (B : HbF) (hB : B = hbR) => bl_run G hG K hK B hB 0 a gb off n sc dc dt 5 5 (D_blO G K B a gb off n sc dc dt) t_blO (by rw [hG, hK, hB]; exact hD) (fun β => by kernel_rfl) w hS) gaR rfl gqR rfl hbR rfl
end Mm
end Go.Proofs.Ytfkioggmomnibaa
