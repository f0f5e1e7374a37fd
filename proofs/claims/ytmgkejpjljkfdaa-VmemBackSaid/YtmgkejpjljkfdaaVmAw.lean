/-
  Of layer 11: the laws' awake answers true.
-/
import Derived.Test.YtmgkejpjljkfdaaVmSu
namespace Go.Proofs.Ytmgkejpjljkfdaa
open Go.RowKit VecM Ev Mm
namespace Vm
abbrev LqF := List Value → Nat → Nat → Int → Int → Int → Bool
noncomputable def envW (G : Ga) (K : Gq) (q : LqF) : Env :=
  { P := Try.prog, known := [], sum := fun _ _ => none, msum := orM [(8, nwM G fun _ => 0), (10, poM K), (24, ldK q 511)] }
theorem envW_ms : MsOk (envW gaR gqR ldQ) := by
  intro f D hq k args L M H h1 h2 h3 w0 w hS
  have hm := orM_mem hq
  simp only [List.mem_cons, List.not_mem_nil, or_false, Prod.mk.injEq] at hm
  rcases hm with ⟨rfl, rfl⟩ | ⟨rfl, rfl⟩ | ⟨rfl, rfl⟩
  · exact nwM_ok _ h1 h2 h3 w0 w hS
  · exact poM_ok k args L M H h1 h2 h3 w0 w hS
  · exact ldK_ok 511 h1 h2 h3 w0 w hS
theorem envW_ok : OphOk (envW gaR gqR ldQ) := msum_of rfl rfl envW_ms (no_aop rfl)
def qS : LqF := fun _ _ _ _ _ _ => true
noncomputable def awPath (G : Ga) (K : Gq) (q : LqF) (β : Nat → Fr) : Out :=
  evPathR (envW G K q) (envW (gaS 0 0) (gqS 0) qS) 4000 7 [] [] [] [] (.bool true) 100 [] β
def awB : List Value := [.int .u8 255, .int .u8 1] ++ List.replicate 14 (.int .u8 0)
def awD (G : Ga) (K : Gq) (q : LqF) : List (Bool × Bool) := [(G.nq 1 1 0, true), (K.pk (G.zc (pN 1)) (pN 1) (pN 1) 65520 awB 0 16, true), (q (K.cp (G.zc (pN 1)) (pN 1) 65520 awB 0 16) (pN 1) (pN 1) 65520 8 511, true), (K.er (pN 1) 65520 16 == 0, true)]
--EVTS t_vaw | fun (G : Ga) (K : Gq) (q : LqF) (β : Nat → Fr) => (awPath G K q β, awD G K q)
def t_vaw : List Nat := [0, 0, 0, 0, 0, 0, 0, 0, 0, 0, 0, 0, 0, 0, 0, 0, 0, 0, 0, 0, 0, 0, 0, 0, 0, 0, 0, 0, 0, 0, 0, 0, 0, 0, 0, 0, 0, 0, 0, 0, 0, 0, 0, 0, 0, 0, 0, 0, 0, 0, 0, 0, 0, 0, 0, 0, 0, 0, 0, 0, 0, 4, 4, 4, 0, 0, 0, 0, 0, 0, 0, 0, 0, 0, 0, 0, 0, 0, 0, 0, 0, 0, 0, 0, 0, 0, 0, 0, 0, 0, 0, 0, 0, 0, 0, 0, 0, 0, 0, 0, 0, 0, 0, 0, 0, 0, 0, 0, 0, 0, 0, 0, 0, 0, 0, 0, 0, 0, 0, 0, 0, 0, 0, 0, 0, 0, 0, 0, 0, 0, 0, 0, 0, 0, 0, 0, 0, 0, 0, 0, 0, 0, 0, 0, 0, 0, 0, 0, 0, 0, 0, 0, 0, 0, 0, 0, 0, 0, 0, 0, 0, 0, 0, 0, 0, 0, 0, 0, 0, 0, 0, 0, 0, 0, 0, 0, 0, 0, 0, 0, 0, 0, 0, 0, 0, 0, 0, 0, 0, 0, 0, 0, 0, 0, 0, 0, 0, 0, 0, 0, 0, 0, 0, 0, 0, 0, 0, 0, 0, 0, 0, 0, 0, 0, 0, 0, 0, 0, 0, 0, 0, 0, 0, 0, 0, 0, 0, 0, 0, 0, 0, 0, 0, 0, 0, 0, 0, 0, 0, 0, 0, 0, 0, 0, 0, 0, 0, 0, 0, 0, 0, 0, 0, 0, 0, 0, 0, 0, 0, 0, 0, 0, 0, 0, 0, 0, 0, 0, 0, 0, 0, 0, 0, 0, 0, 0, 0, 0, 0, 0, 0, 0, 0, 0, 0, 0, 0, 0, 0, 0, 0, 0, 0, 0, 0, 0, 0, 0, 0, 0, 0, 0, 0, 0, 0, 0, 0, 0, 0, 0, 0, 0, 0, 0, 0, 0, 0, 0, 0, 0, 0, 0, 0, 0, 0, 0, 0, 0, 0, 0, 0, 0, 0, 0, 0, 0, 0, 0, 0, 0, 0, 0, 0, 0, 0, 0, 0, 0, 0, 0, 0, 0, 0, 0, 0, 0, 0, 0, 0, 0, 0, 0, 0, 0, 0, 0, 0, 0, 0, 0, 0, 0, 0, 0, 0, 0, 0, 0, 0, 0, 0, 0, 0, 0, 0, 0, 0, 0, 0, 0, 0, 0, 0, 0, 0, 0, 0, 0, 0, 0, 0, 0, 0, 0, 0, 0, 0, 0, 0, 0, 0, 0, 0, 0, 0, 0, 0, 0, 0, 0, 0, 0, 0, 0, 0, 0, 0, 0, 0, 0, 0, 0, 0, 0, 0, 0, 0, 0, 0, 3, 0, 0, 0, 0, 0, 0, 0, 0, 0, 0, 0, 0, 0, 0, 0, 0, 0, 0, 0, 0, 0, 0, 0, 0, 0, 0, 0, 0, 0, 0, 0, 0, 0, 0, 0, 0, 0, 0, 0, 0, 0, 0, 0, 0, 0, 0, 0, 0, 0, 0, 0, 0, 0, 0, 0, 0, 0, 0, 0, 0, 0, 0, 0, 0, 0, 0, 0, 0, 0, 0, 0, 0, 0, 0, 0, 0, 0, 0, 0, 0, 0, 0, 0, 0, 0, 0, 0, 0, 0, 0, 0, 0, 0, 0, 0, 0, 0, 0, 0, 0, 0, 0, 0, 0, 0, 0, 0, 0, 0, 0, 0, 0, 0, 2, 0, 0, 0, 0, 0, 0, 0, 0, 0, 0, 0, 0, 0, 0, 0, 0, 0, 0, 0, 0, 0, 0, 0, 0, 0, 0, 0, 0, 0, 0, 0, 0, 0, 0, 0, 0, 0, 0, 0, 0, 0, 0, 0, 0, 0, 0, 0, 0, 0, 0, 0, 0, 0, 0, 0, 0, 0, 0, 0, 0, 0, 0, 0, 0, 0, 0, 0, 0, 0, 0, 0, 0, 0, 0, 0, 0, 0, 0, 0, 0, 0, 0, 0, 0, 0, 0, 0, 0, 1]
theorem awB_src : SrcB awB 0 16 := src_of (by decide)
theorem z64' {a : Int} (h0 : 0 ≤ a) (h1 : a < 18446744073709551616) : Fit (zC 65536) 65536 65536 a := ⟨z64, Nat.le_refl _, by omega, h0, h1⟩
theorem awD_ok : ∀ p ∈ awD gaR gqR ldQ, p.1 = p.2 := by
  unfold awD
  rw [pN1]
  have F := z64' (a := 65520) (by decide) (by decide)
  have ok := cpV_ok (A := 65520) z64 awB_src (by omega) (by omega)
  have hin : ∀ j, j < 16 → gB (cpV (zC 65536) 65520 awB 0 16) (65520 + j) = gB awB (0 + j) := fun j hj => cpV_in z64 awB_src (by omega) (by omega) hj
  have F2 : Fit (cpV (zC 65536) 65520 awB 0 16) 65536 65536 65520 := ⟨ok, Nat.le_refl _, by omega, by omega, by omega⟩
  refine one_d (show nqB 1 1 0 = true by decide) (one_d (pks_iff.2 ⟨F, by omega, by omega, awB_src⟩) (one_d (ldQ_iff.2 ?_) (one_d (show (erP 65536 65520 16 == 0) = true by decide) nil_d)))
  have he : erV 65536 65520 8 = 0 := by decide
  refine ⟨F2, he, ?_⟩
  show ldV (cpV (zC 65536) 65520 awB 0 16) 65536 65520 8 = 511
  rw [ldV_sum F2 he]
  show sumN (gB (cpV (zC 65536) 65520 awB 0 16)) 65520 8 = 511
  rw [sumN_congr (g := gB awB) (b := 0) 8 fun m hm => hin m (by omega)]
  decide
theorem vaw_run (G : Ga) (hG : G = gaR) (K : Gq) (hK : K = gqR) (q : LqF) (hq : q = ldQ) (w : World) : Calls Try.prog 7 #[] w fun e w' => ∃ _β : Nat → Fr, e = .returned (.bool true) ∧ SG w [] w' :=
  ev_callB (E := envW G K q) (E' := envW (gaS 0 0) (gqS 0) qS) rfl (nosum_ok _ rfl) (fuel := 4000) (args := []) (args' := []) (M := []) (M' := [])
    (v := fun _ => .bool true) (k := 100) (M1 := fun _ => []) (fun _ => awD G K q) t_vaw (fun _ => by rw [hG, hK, hq]; exact awD_ok) (fun β => (by kernel_rfl : tagOL (awD G K q) t_vaw (awPath G K q β) = tagOR (awD G K q) t_vaw (awPath G K q β))) w w ⟨St.start w, fun _ h => by cases h⟩ (ho := by rw [hG, hK, hq]; exact envW_ok)
theorem awake_any (w : World) : Calls Try.prog 7 #[] w fun e w' => e = .returned (.bool true) ∧ Gr w w' := (vaw_run gaR rfl gqR rfl ldQ rfl w).mono fun _ _ ⟨_, h1, h2⟩ => ⟨h1, h2.gr⟩
end Vm
end Go.Proofs.Ytmgkejpjljkfdaa
