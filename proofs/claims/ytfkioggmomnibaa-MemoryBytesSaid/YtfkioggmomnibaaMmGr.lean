/-
  Of layer 10: MemoryGrows: the rounds of its loops. (gen_mmgr.py)
-/
import Derived.Test.YtfkioggmomnibaaMmAk
namespace Go.Proofs.Ytfkioggmomnibaa
open Go.RowKit VecM Ev
namespace Mm
/-- a number that a loop counts up from l, as it counts -/
def iy (l : Int) : Nat → Int
  | 0 => l
  | k + 1 => IntKind.i64.wrap (iy l k + 1)
theorem iy_eq {l : Int} (h0 : 0 ≤ l) (h1 : l ≤ 16) : ∀ k : Nat, k ≤ 20 → iy l k = l + k := by
  intro k
  induction k with
  | zero => intro _; simp [iy]
  | succ k ih => intro hk; rw [iy, ih (by omega), wi (by omega) (by omega)]; omega
def a1 (k : Nat) : Int := IntKind.u64.wrap (IntKind.i64.wrap (IntKind.i64.wrap (iy 0 k * 65536) + iy 0 k))
def x1 (k : Nat) : Int := IntKind.u64.wrap (IntKind.i64.wrap (iy 0 k + 1))
def g1S (G : Ga) (c : List Value) (N : Nat) : Nat → List Value
  | 0 => c
  | k + 1 => G.st (g1S G c N k) N (a1 k) 1 (x1 k)
def gR (mb b1 N cap : Nat) (most : Int) (c : List Value) : List Rw := [⟨mb, hdr b1 N cap most, tM, true⟩, ⟨b1, c, tB, true⟩]
def gR2 (mb b1 N cap : Nat) (most : Int) (c : List Value) : List Rw := [⟨b1, c, tB, true⟩, ⟨mb, hdr b1 N cap most, tM, true⟩]
def hav1 : List Nat := [9, 39, 40, 41, 42, 43, 44, 45, 46, 47, 48, 49, 50, 51, 52, 53]
def hav2 : List Nat := [12, 13, 14] ++ (List.range 24).map (· + 91)
def hav4 : List Nat := [15, 16, 17, 18] ++ (List.range 26).map (· + 116)
def nc0 (l : Int) (mb : Nat) : List (Nat × Value) := [(0, .int .i64 l), (7, .pointer (some ⟨mb, 0, none⟩))]
def nc4 (mb : Nat) : List (Nat × Value) := [(7, .pointer (some ⟨mb, 0, none⟩))]
def nv (s : Nat) (z : Int) : List (Nat × Value) := [(s, .int .i64 z)]
noncomputable def envG (G : Ga) : Env := envL G (fun _ => 0) gdR no_cs
noncomputable def rdPath (E E' : Env) (c : Code) (need need' : List (Nat × Value)) (M M' : List Rw) (ex : Exit) (give : List (Nat × Value)) (hav : List Nat) (M1 : List Rw) (g : Nat → Value) (β : Nat → Fr) : Out :=
  evCode E E' 4000 c (valsOf need g 178) (valsOf need' (fun _ => undef) 178) M M' ex (give ++ keepOf need g 178 hav) M1 β
theorem rd_run (G : Ga) (hG : G = gaR) (G' : Ga) (c : Code) (need need' : List (Nat × Value)) (M M' : List Rw) (ex : Exit) (hex : okE ex = true) (give : List (Nat × Value)) (hav : List Nat) (M1 : List Rw) (D : List (Bool × Bool)) (ts : List Nat) (hD : ∀ p ∈ D, p.1 = p.2)
    (h : ∀ g β, tagOL D ts (rdPath (envG G) (envG G') c need need' M M' ex give hav M1 g β) = tagOR D ts (rdPath (envG G) (envG G') c need need' M M' ex give hav M1 g β)) : Runs c 178 need M ex give hav M1 :=
  runs_code (E := envG G) (E' := envG G') rfl (nosum_ok _ rfl) (fuel := 4000) (need' := need') (M' := M') hex D ts hD h (ho := by rw [hG]; exact envL_ok _ _ no_csOk)
def D_l1r (G : Ga) (mb b1 N cap : Nat) (most l : Int) (c : List Value) (p : Nat) : List (Bool × Bool) := [(decide (iy 0 p < l), true), (G.ok c N cap (a1 p), true)]
noncomputable def P_l1r (G : Ga) (mb b1 N cap : Nat) (most l : Int) (c : List Value) (p : Nat) (g : Nat → Value) (β : Nat → Fr) : Out := rdPath (envG G) (envG (gaS 0 0)) (loopIn 6 0) (nc0 l mb ++ nv 9 (iy 0 p)) (nc0 5 1001 ++ nv 9 0) (gR mb b1 N cap most c) (gR 1001 1002 65536 65536 0 []) .normal (nv 9 (iy 0 (p + 1))) hav1 (gR mb b1 N cap most (G.st c N (a1 p) 1 (x1 p))) g β
--EVTS t_l1r | fun (G : Ga) (mb b1 N cap : Nat) (most l : Int) (c : List Value) (p : Nat) (g : Nat → Value) (β : Nat → Fr) => (P_l1r G mb b1 N cap most l c p g β, D_l1r G mb b1 N cap most l c p)
def t_l1r : List Nat := [2, 0, 0, 0, 0, 1]
theorem R_l1r (mb b1 N cap : Nat) (most l : Int) (c : List Value) (p : Nat) (hD : ∀ q ∈ D_l1r gaR mb b1 N cap most l c p, q.1 = q.2) : Runs (loopIn 6 0) 178 (nc0 l mb ++ nv 9 (iy 0 p)) (gR mb b1 N cap most c) .normal (nv 9 (iy 0 (p + 1))) hav1 (gR mb b1 N cap most (gaR.st c N (a1 p) 1 (x1 p))) :=
  (fun (G : Ga) (hG : G = gaR) => hG ▸ rd_run G hG (gaS 0 0) (loopIn 6 0) (nc0 l mb ++ nv 9 (iy 0 p)) (nc0 5 1001 ++ nv 9 0) (gR mb b1 N cap most c) (gR 1001 1002 65536 65536 0 []) .normal rfl (nv 9 (iy 0 (p + 1))) hav1 (gR mb b1 N cap most (G.st c N (a1 p) 1 (x1 p))) (D_l1r G mb b1 N cap most l c p) t_l1r (by rw [hG]; exact hD) (fun g β => (by kernel_rfl : tagOL (D_l1r G mb b1 N cap most l c p) t_l1r (P_l1r G mb b1 N cap most l c p g β) = tagOR (D_l1r G mb b1 N cap most l c p) t_l1r (P_l1r G mb b1 N cap most l c p g β)))) gaR rfl
def D_l1e (G : Ga) (mb b1 N cap : Nat) (most l : Int) (c : List Value) (p : Nat) : List (Bool × Bool) := [(decide (iy 0 p < l), false)]
noncomputable def P_l1e (G : Ga) (mb b1 N cap : Nat) (most l : Int) (c : List Value) (p : Nat) (g : Nat → Value) (β : Nat → Fr) : Out := rdPath (envG G) (envG (gaS 0 0)) (loopIn 6 0) (nc0 l mb ++ nv 9 (iy 0 p)) (nc0 0 1001 ++ nv 9 0) (gR mb b1 N cap most c) (gR 1001 1002 65536 65536 0 []) (.exit 0) (nv 9 (iy 0 p)) hav1 (gR mb b1 N cap most c) g β
--EVTS t_l1e | fun (G : Ga) (mb b1 N cap : Nat) (most l : Int) (c : List Value) (p : Nat) (g : Nat → Value) (β : Nat → Fr) => (P_l1e G mb b1 N cap most l c p g β, D_l1e G mb b1 N cap most l c p)
def t_l1e : List Nat := [1]
theorem R_l1e (mb b1 N cap : Nat) (most l : Int) (c : List Value) (p : Nat) (hD : ∀ q ∈ D_l1e gaR mb b1 N cap most l c p, q.1 = q.2) : Runs (loopIn 6 0) 178 (nc0 l mb ++ nv 9 (iy 0 p)) (gR mb b1 N cap most c) (.exit 0) (nv 9 (iy 0 p)) hav1 (gR mb b1 N cap most c) :=
  (fun (G : Ga) (hG : G = gaR) => rd_run G hG (gaS 0 0) (loopIn 6 0) (nc0 l mb ++ nv 9 (iy 0 p)) (nc0 0 1001 ++ nv 9 0) (gR mb b1 N cap most c) (gR 1001 1002 65536 65536 0 []) (.exit 0) rfl (nv 9 (iy 0 p)) hav1 (gR mb b1 N cap most c) (D_l1e G mb b1 N cap most l c p) t_l1e (by rw [hG]; exact hD) (fun g β => (by kernel_rfl : tagOL (D_l1e G mb b1 N cap most l c p) t_l1e (P_l1e G mb b1 N cap most l c p g β) = tagOR (D_l1e G mb b1 N cap most l c p) t_l1e (P_l1e G mb b1 N cap most l c p g β)))) gaR rfl
def D_l2r (G : Ga) (mb b1 N cap : Nat) (most l : Int) (c : List Value) (p : Nat) : List (Bool × Bool) := [(decide (iy 0 p < l), true), (G.ok c N cap (a1 p), true), (G.er N (a1 p) 1 != 0, false), (G.ld c N (a1 p) 1 != x1 p, false)]
noncomputable def P_l2r (G : Ga) (mb b1 N cap : Nat) (most l : Int) (c : List Value) (p : Nat) (g : Nat → Value) (β : Nat → Fr) : Out := rdPath (envG G) (envG (gaS 1 0)) (loopIn 6 2) (nc0 l mb ++ nv 12 (iy 0 p)) (nc0 5 1001 ++ nv 12 0) (gR2 mb b1 N cap most c) (gR2 1001 1002 65536 65536 0 []) .normal (nv 12 (iy 0 (p + 1))) hav2 (gR2 mb b1 N cap most c) g β
--EVTS t_l2r | fun (G : Ga) (mb b1 N cap : Nat) (most l : Int) (c : List Value) (p : Nat) (g : Nat → Value) (β : Nat → Fr) => (P_l2r G mb b1 N cap most l c p g β, D_l2r G mb b1 N cap most l c p)
def t_l2r : List Nat := [4, 3, 3, 3, 3, 3, 3, 2, 0, 0, 0, 0, 1]
theorem R_l2r (mb b1 N cap : Nat) (most l : Int) (c : List Value) (p : Nat) (hD : ∀ q ∈ D_l2r gaR mb b1 N cap most l c p, q.1 = q.2) : Runs (loopIn 6 2) 178 (nc0 l mb ++ nv 12 (iy 0 p)) (gR2 mb b1 N cap most c) .normal (nv 12 (iy 0 (p + 1))) hav2 (gR2 mb b1 N cap most c) :=
  (fun (G : Ga) (hG : G = gaR) => rd_run G hG (gaS 1 0) (loopIn 6 2) (nc0 l mb ++ nv 12 (iy 0 p)) (nc0 5 1001 ++ nv 12 0) (gR2 mb b1 N cap most c) (gR2 1001 1002 65536 65536 0 []) .normal rfl (nv 12 (iy 0 (p + 1))) hav2 (gR2 mb b1 N cap most c) (D_l2r G mb b1 N cap most l c p) t_l2r (by rw [hG]; exact hD) (fun g β => (by kernel_rfl : tagOL (D_l2r G mb b1 N cap most l c p) t_l2r (P_l2r G mb b1 N cap most l c p g β) = tagOR (D_l2r G mb b1 N cap most l c p) t_l2r (P_l2r G mb b1 N cap most l c p g β)))) gaR rfl
def D_l2e (G : Ga) (mb b1 N cap : Nat) (most l : Int) (c : List Value) (p : Nat) : List (Bool × Bool) := [(decide (iy 0 p < l), false)]
noncomputable def P_l2e (G : Ga) (mb b1 N cap : Nat) (most l : Int) (c : List Value) (p : Nat) (g : Nat → Value) (β : Nat → Fr) : Out := rdPath (envG G) (envG (gaS 0 0)) (loopIn 6 2) (nc0 l mb ++ nv 12 (iy 0 p)) (nc0 0 1001 ++ nv 12 0) (gR2 mb b1 N cap most c) (gR2 1001 1002 65536 65536 0 []) (.exit 2) (nv 12 (iy 0 p)) hav2 (gR2 mb b1 N cap most c) g β
--EVTS t_l2e | fun (G : Ga) (mb b1 N cap : Nat) (most l : Int) (c : List Value) (p : Nat) (g : Nat → Value) (β : Nat → Fr) => (P_l2e G mb b1 N cap most l c p g β, D_l2e G mb b1 N cap most l c p)
def t_l2e : List Nat := [1]
theorem R_l2e (mb b1 N cap : Nat) (most l : Int) (c : List Value) (p : Nat) (hD : ∀ q ∈ D_l2e gaR mb b1 N cap most l c p, q.1 = q.2) : Runs (loopIn 6 2) 178 (nc0 l mb ++ nv 12 (iy 0 p)) (gR2 mb b1 N cap most c) (.exit 2) (nv 12 (iy 0 p)) hav2 (gR2 mb b1 N cap most c) :=
  (fun (G : Ga) (hG : G = gaR) => rd_run G hG (gaS 0 0) (loopIn 6 2) (nc0 l mb ++ nv 12 (iy 0 p)) (nc0 0 1001 ++ nv 12 0) (gR2 mb b1 N cap most c) (gR2 1001 1002 65536 65536 0 []) (.exit 2) rfl (nv 12 (iy 0 p)) hav2 (gR2 mb b1 N cap most c) (D_l2e G mb b1 N cap most l c p) t_l2e (by rw [hG]; exact hD) (fun g β => (by kernel_rfl : tagOL (D_l2e G mb b1 N cap most l c p) t_l2e (P_l2e G mb b1 N cap most l c p g β) = tagOR (D_l2e G mb b1 N cap most l c p) t_l2e (P_l2e G mb b1 N cap most l c p g β)))) gaR rfl
def a3 (l : Int) (p j : Nat) : Int := IntKind.u64.wrap (IntKind.i64.wrap (IntKind.i64.wrap (iy l p * 65536) + ((8192 * j : Nat) : Int)))
def pg (N : Nat) : Int := IntKind.i64.wrap ((N : Int).tdiv 65536)
def D_l4r (G : Ga) (mb b1 N cap : Nat) (most l : Int) (c : List Value) (p : Nat) : List (Bool × Bool) := [(decide (iy l p < pg N), true)] ++ ((List.range 8).map fun (j : Nat) => [(G.ok c N cap (a3 l p j), true), (G.er N (a3 l p j) 8 != 0, false), (G.ld c N (a3 l p j) 8 != 0, false)]).flatten
noncomputable def P_l4r (G : Ga) (mb b1 N cap : Nat) (most l : Int) (c : List Value) (p : Nat) (g : Nat → Value) (β : Nat → Fr) : Out := rdPath (envG G) (envG (gaS 0 0)) (loopIn 6 4) (nc4 mb ++ nv 15 (iy l p)) (nc4 1001 ++ nv 15 0) (gR2 mb b1 N cap most c) (gR2 1001 1002 65536 65536 0 []) .normal (nv 15 (iy l (p + 1))) hav4 (gR2 mb b1 N cap most c) g β
--EVTS t_l4r | fun (G : Ga) (mb b1 N cap : Nat) (most l : Int) (c : List Value) (p : Nat) (g : Nat → Value) (β : Nat → Fr) => (P_l4r G mb b1 N cap most l c p g β, D_l4r G mb b1 N cap most l c p)
def t_l4r : List Nat := [0, 25, 24, 24, 24, 23, 0, 0, 0, 0, 0, 22, 21, 21, 21, 20, 0, 0, 0, 0, 0, 19, 18, 18, 18, 17, 0, 0, 0, 0, 0, 16, 15, 15, 15, 14, 0, 0, 0, 0, 0, 13, 12, 12, 12, 11, 0, 0, 0, 0, 0, 10, 9, 9, 9, 8, 0, 0, 0, 0, 0, 7, 6, 6, 6, 5, 0, 0, 0, 0, 0, 4, 3, 3, 3, 2, 0, 0, 0, 0, 0, 1, 0]
theorem R_l4r (mb b1 N cap : Nat) (most l : Int) (c : List Value) (p : Nat) (hD : ∀ q ∈ D_l4r gaR mb b1 N cap most l c p, q.1 = q.2) : Runs (loopIn 6 4) 178 (nc4 mb ++ nv 15 (iy l p)) (gR2 mb b1 N cap most c) .normal (nv 15 (iy l (p + 1))) hav4 (gR2 mb b1 N cap most c) :=
  (fun (G : Ga) (hG : G = gaR) => rd_run G hG (gaS 0 0) (loopIn 6 4) (nc4 mb ++ nv 15 (iy l p)) (nc4 1001 ++ nv 15 0) (gR2 mb b1 N cap most c) (gR2 1001 1002 65536 65536 0 []) .normal rfl (nv 15 (iy l (p + 1))) hav4 (gR2 mb b1 N cap most c) (D_l4r G mb b1 N cap most l c p) t_l4r (by rw [hG]; exact hD) (fun g β => (by kernel_rfl : tagOL (D_l4r G mb b1 N cap most l c p) t_l4r (P_l4r G mb b1 N cap most l c p g β) = tagOR (D_l4r G mb b1 N cap most l c p) t_l4r (P_l4r G mb b1 N cap most l c p g β)))) gaR rfl
def D_l4e (G : Ga) (mb b1 N cap : Nat) (most l : Int) (c : List Value) (p : Nat) : List (Bool × Bool) := [(decide (iy l p < pg N), false)]
noncomputable def P_l4e (G : Ga) (mb b1 N cap : Nat) (most l : Int) (c : List Value) (p : Nat) (g : Nat → Value) (β : Nat → Fr) : Out := rdPath (envG G) (envG (gaS 0 0)) (loopIn 6 4) (nc4 mb ++ nv 15 (iy l p)) (nc4 1001 ++ nv 15 1) (gR2 mb b1 N cap most c) (gR2 1001 1002 65536 65536 0 []) (.exit 4) (nv 15 (iy l p)) hav4 (gR2 mb b1 N cap most c) g β
--EVTS t_l4e | fun (G : Ga) (mb b1 N cap : Nat) (most l : Int) (c : List Value) (p : Nat) (g : Nat → Value) (β : Nat → Fr) => (P_l4e G mb b1 N cap most l c p g β, D_l4e G mb b1 N cap most l c p)
def t_l4e : List Nat := [1, 0]
theorem R_l4e (mb b1 N cap : Nat) (most l : Int) (c : List Value) (p : Nat) (hD : ∀ q ∈ D_l4e gaR mb b1 N cap most l c p, q.1 = q.2) : Runs (loopIn 6 4) 178 (nc4 mb ++ nv 15 (iy l p)) (gR2 mb b1 N cap most c) (.exit 4) (nv 15 (iy l p)) hav4 (gR2 mb b1 N cap most c) :=
  (fun (G : Ga) (hG : G = gaR) => rd_run G hG (gaS 0 0) (loopIn 6 4) (nc4 mb ++ nv 15 (iy l p)) (nc4 1001 ++ nv 15 1) (gR2 mb b1 N cap most c) (gR2 1001 1002 65536 65536 0 []) (.exit 4) rfl (nv 15 (iy l p)) hav4 (gR2 mb b1 N cap most c) (D_l4e G mb b1 N cap most l c p) t_l4e (by rw [hG]; exact hD) (fun g β => (by kernel_rfl : tagOL (D_l4e G mb b1 N cap most l c p) t_l4e (P_l4e G mb b1 N cap most l c p g β) = tagOR (D_l4e G mb b1 N cap most l c p) t_l4e (P_l4e G mb b1 N cap most l c p g β)))) gaR rfl
end Mm
end Go.Proofs.Ytfkioggmomnibaa
