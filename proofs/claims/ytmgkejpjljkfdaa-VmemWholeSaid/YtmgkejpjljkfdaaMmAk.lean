/-
  Of layer 10: the laws' awake answers true, proved.
-/
import Derived.Test.YtmgkejpjljkfdaaMmM
namespace Go.Proofs.Ytmgkejpjljkfdaa
open Go.RowKit VecM Ev
namespace Mm
theorem pN1 : pN 1 = 65536 := by decide
theorem fit_z (N cap : Nat) (h : N ≤ cap) (hb : N ≤ 70368744177664) {a : Int} (h0 : 0 ≤ a) (h1 : a < 18446744073709551616) : Fit (zC N) N cap a := ⟨zC_ok (Nat.le_refl _), h, hb, h0, h1⟩
theorem aw_ld : ldV (stV (zC 65536) 65536 0 2 70000) 65536 0 4 = 4464 := by
  have F := fit_z 65536 65536 (by omega) (by omega) (a := 0) (by omega) (by omega)
  have e1 : erV 65536 0 2 = 0 := by decide
  have e2 : erV 65536 0 4 = 0 := by decide
  have hg := fun i => stV_gB (x := 70000) F e1 i
  rw [ldV_sum (F.st 2 70000) e2]
  have h0 := hg 0
  have h1 := hg 1
  have h2 := hg 2
  have h3 := hg 3
  simp only [setN, zC_gB] at h0 h1 h2 h3
  show sumN _ 0 4 = 4464
  simp only [sumN, Nat.zero_add, h0, h1, h2, h3]
  decide
theorem gwV_len {c : List Value} {N : Nat} {x : Int} {t : List Value} (h : N ≤ c.length) : (gwV c N x t).length = N + (zX x).toNat + t.length := by
  unfold gwV
  rw [List.length_append, List.length_append, List.length_take, zC_len]
  omega
set_option maxRecDepth 100000 in
theorem awD_ok (β : Nat → Fr) : ∀ p ∈ awD gaR β, p.1 = p.2 := by
  have F := fit_z 65536 65536 (by omega) (by omega) (a := 0) (by omega) (by omega)
  have F1 : Fit (stV (zC 65536) 65536 0 2 70000) 65536 65536 0 := F.st 2 70000
  have l1 : (stV (zC 65536) 65536 0 2 70000).length = 65536 := by rw [stV_len, zC_len]
  have z1 : zX 1 = 65536 := by decide
  have l2 : (gwV (stV (zC 65536) 65536 0 2 70000) 65536 1 (β 2).t).length = 131072 + (β 2).t.length := by rw [gwV_len (by omega), z1]; rfl
  have k1 : Gk (stV (zC 65536) 65536 0 2 70000) 65536 65536 2 1 true := ⟨by omega, by omega, by omega, by omega, by omega, by omega, by omega, by decide⟩
  have k2 : Gk (gwV (stV (zC 65536) 65536 0 2 70000) 65536 1 (β 2).t) 131072 (gwV (stV (zC 65536) 65536 0 2 70000) 65536 1 (β 2).t).length 2 1 false := ⟨by omega, by omega, by omega, rfl, by omega, by omega, by omega, by decide⟩
  have hb : (65536 + (zX 1).toNat) = 131072 := by rw [z1]; rfl
  unfold awD aC2 aC1
  rw [pN1, hb]
  refine one_d (show nqB 1 2 0 = true by decide) (one_d (okB_iff.2 F) (one_d (okB_iff.2 F1) (one_d (okB_iff.2 (F1.at (by omega) (by omega))) (one_d (show (erV 65536 0 2 == 0) = true by decide) (one_d ?_ (one_d (show (erV 65536 0 4 == 0) = true by decide) (one_d (show (erV 65536 65533 4 == 23) = true by decide) (one_d (gkB_iff.2 k1) (one_d (gkB_iff.2 k2) nil_d)))))))))
  show (ldV (stV (zC 65536) 65536 0 2 70000) 65536 0 4 == 4464) = true
  rw [aw_ld]; rfl
theorem eqb_t {a b : Int} (h : a = b) : (a == b) = true := by simpa using h
theorem app_d {D D' : List (Bool × Bool)} (h : ∀ p ∈ D, p.1 = p.2) (h' : ∀ p ∈ D', p.1 = p.2) : ∀ p ∈ D ++ D', p.1 = p.2 := fun p hp => by
  rcases List.mem_append.1 hp with hp | hp
  · exact h p hp
  · exact h' p hp
theorem okD {c : List Value} {N cap : Nat} {a : Int} (F : Fit c N cap a) : gaR.ok c N cap a = true := okB_iff.2 F
end Mm
end Go.Proofs.Ytmgkejpjljkfdaa
