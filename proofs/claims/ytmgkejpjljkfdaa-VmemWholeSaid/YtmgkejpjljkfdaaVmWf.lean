/-
  Of layer 11: VmemWhole: the facts of its runs.
-/
import Derived.Test.YtmgkejpjljkfdaaVmWa
namespace Go.Proofs.Ytmgkejpjljkfdaa
open Go.RowKit VecM Ev Mm
namespace Vm
theorem uD_ok : ∀ p ∈ uD gfR guR, p.1 = p.2 :=
  one_d (un_iff.2 ⟨rfl, flV_ok, Nat.le_refl _, by omega, by omega, by omega, by omega, fun _ hi _ => flV_gB hi⟩) nil_d
theorem A1D_ok {B : Int} (h : B < 0) : ∀ p ∈ A1D gfR guR B, p.1 = p.2 :=
  app_d (one_d (decide_eq_true h) (one_d (decide_eq_true h) nil_d)) uD_ok
theorem A2D_ok {B : Int} (h : 4294967296 ≤ B) : ∀ p ∈ A2D gfR guR B, p.1 = p.2 :=
  app_d (one_d (decide_eq_false (by omega)) (one_d (decide_eq_true h) (one_d (decide_eq_false (by omega)) (one_d (decide_eq_true (by omega)) nil_d)))) uD_ok
section
variable {B : Int} (B0 : 0 ≤ B) (B1 : B < 4294967296)
include B0 B1
theorem bD_ok : ∀ p ∈ bD B, p.1 = p.2 := one_d (decide_eq_false (by omega)) (one_d (decide_eq_false (by omega)) nil_d)
theorem kD_ok : ∀ p ∈ kD B, p.1 = p.2 := one_d (decide_eq_false (by omega)) (one_d (decide_eq_false (by omega)) nil_d)
omit B0 B1 in
theorem lD_ok {b : Bool} {q L : Int} (h : b = true → L < q) : ∀ p ∈ lD b q L false, p.1 = p.2 := by
  unfold lD
  split
  · exact one_d (decide_eq_false (by have := h rfl; omega)) nil_d
  · exact nil_d
theorem A3D_ok {q L : Int} (h : q ≤ L) : ∀ p ∈ A3D gfR guR q B L, p.1 = p.2 := by
  have hl : ∀ p ∈ lD true q L true, p.1 = p.2 := one_d (decide_eq_true h) nil_d
  exact app_d (app_d (app_d (app_d (bD_ok B0 B1) hl) (kD_ok B0 B1)) hl) uD_ok
variable {a : Int} (a0 : 0 ≤ a) (a1 : a < 4294967296)
include a0 a1
theorem wA_eq : wA a B = a + B := by unfold wA; rw [wu a0 (by omega), wu B0 (by omega), wu (by omega) (by omega)]
theorem eN_eq {n : Int} (n0 : 0 ≤ n) (n1 : n ≤ 16) : eN a B n = a + B + n := by unfold eN; rw [wi (x := a) (by omega) (by omega), wi (x := a + B) (by omega) (by omega), wi (by omega) (by omega)]
theorem atN_eq {n : Int} (n0 : 0 ≤ n) (n1 : n ≤ 16) : atN a B n = a + B := by unfold atN; rw [eN_eq B0 B1 a0 a1 n0 n1, wi (by omega) (by omega)]; omega
theorem inD_ok {b : Bool} {q L n : Int} {r : Bool} (n0 : 0 ≤ n) (n1 : n ≤ 16) (h : b = true → L < q) (hr : decide (a + B + n > 65536) = r) : ∀ p ∈ inD b q B L a n r, p.1 = p.2 := by
  refine app_d (app_d (app_d (app_d (bD_ok B0 B1) (lD_ok h)) (kD_ok B0 B1)) (lD_ok h)) (one_d ?_ nil_d)
  unfold oD
  rw [wA_eq B0 B1 a0 a1, wu (by omega) (by omega)]
  exact hr
theorem TD_ok {b : Bool} {q L n : Int} (n0 : 0 ≤ n) (n1 : n ≤ 16) (h : b = true → L < q) (ht : 65536 < a + B + n) : ∀ p ∈ TD gfR guR b q B L a n, p.1 = p.2 :=
  app_d (app_d (inD_ok B0 B1 a0 a1 n0 n1 h (decide_eq_true ht)) (one_d (decide_eq_true (by rw [eN_eq B0 B1 a0 a1 n0 n1]; exact ht)) nil_d)) uD_ok
theorem flF {P : Int} (h0 : 0 ≤ P) (h1 : P < 18446744073709551616) : Fit flV 65536 65536 P := by
  have := B0; have := B1; have := a0; have := a1
  exact ⟨flV_ok, Nat.le_refl _, by omega, h0, h1⟩
theorem LD_ok {b : Bool} {q L n : Int} (n0 : 0 ≤ n) (n1 : n ≤ 16) (h : b = true → L < q) (ht : a + B + n ≤ 65536) : ∀ p ∈ LD gaR gfR guR b q B L a n, p.1 = p.2 := by
  refine app_d (app_d (inD_ok B0 B1 a0 a1 n0 n1 h (decide_eq_false (by omega))) (one_d ?_ (one_d (decide_eq_false (by rw [eN_eq B0 B1 a0 a1 n0 n1]; omega)) nil_d))) uD_ok
  rw [wA_eq B0 B1 a0 a1]
  exact okD (flF B0 B1 a0 a1 (by omega) (by omega))
theorem L16D_ok {L : Int} (ht : a + B + 16 ≤ 65536) : ∀ p ∈ L16D gaR gfR guR B L a, p.1 = p.2 := by
  refine app_d (app_d (inD_ok B0 B1 a0 a1 (by omega) (by omega) (fun h => by cases h) (decide_eq_false (by omega))) (one_d ?_ (one_d ?_ (one_d (decide_eq_false (by rw [eN_eq B0 B1 a0 a1 (by omega) (by omega)]; omega)) nil_d)))) uD_ok
  · rw [wA_eq B0 B1 a0 a1]
    exact okD (flF B0 B1 a0 a1 (by omega) (by omega))
  · rw [wA_eq B0 B1 a0 a1, wu (by omega) (by omega)]
    exact okD (flF B0 B1 a0 a1 (by omega) (by omega))
theorem row_ok {c : List Value} (ok : OkB c 65536) {n : Int} {m : Nat} (hn : n = m) (n1 : n ≤ 16) (ht : a + B + n ≤ 65536) (t : List Value) {i : Nat} (hi : i < m) :
    isB (pkC c a B n m t)[0 + i]? = true ∧ gB (pkC c a B n m t) (0 + i) = gB c ((a + B).toNat + i) := by
  have hl := ok.1
  unfold pkC
  rw [atN_eq B0 B1 a0 a1 (by omega) n1, Nat.zero_add]
  have hg : (((c.drop (a + B).toNat).take m ++ t))[i]? = c[(a + B).toNat + i]? := cut_get hi (by omega)
  refine ⟨?_, ?_⟩
  · rw [hg]; exact ok.is (by omega)
  · unfold gB; rw [hg]
theorem S16D_ok {L : Int} {v : Nat → Int} (hv : Byt v) (ht : a + B + 16 ≤ 65536) (t : List Value) : ∀ p ∈ S16D gqR gfR guR B L a v t, p.1 = p.2 := by
  have eA := wA_eq B0 B1 a0 a1
  have eT := atN_eq B0 B1 a0 a1 (n := 16) (by omega) (by omega)
  have ec : cpC gqR gfR a B v = cpV flV (a + B).toNat (vL v) 0 16 := by
    unfold cpC
    rw [eA]
    show cpP flV 65536 (a + B) (vL v) 0 16 = _
    unfold cpP
    rw [if_pos (by omega)]
  have ok : OkB (cpC gqR gfR a B v) 65536 := by rw [ec]; exact cpV_ok flV_ok (vL_src hv) (by omega) (by omega)
  have hin : ∀ i, i < 16 → gB (cpC gqR gfR a B v) ((a + B).toNat + i) = v i := fun i hi => by
    rw [ec, cpV_in flV_ok (vL_src hv) (by omega) (by omega) hi, Nat.zero_add]
    have := vL_gB v hi
    rw [Nat.zero_add] at this
    exact this
  have hout : ∀ i : Nat, i < 65536 → ((i : Int) < a + B ∨ a + B + 16 ≤ i) → gB (cpC gqR gfR a B v) i = fvI i := fun i hi h => by
    rw [ec, cpV_out flV_ok (vL_src hv) (by omega) (by omega) (by omega)]
    exact flV_gB hi
  have her : erP 65536 (a + B) 16 = 0 := by unfold erP; rw [if_pos (by omega)]
  unfold S16D
  rw [eA, eT]
  refine app_d (app_d (app_d (inD_ok B0 B1 a0 a1 (by omega) (by omega) (fun h => by cases h) (decide_eq_false (by omega))) (one_d ?_ (one_d (decide_eq_false (by rw [eN_eq B0 B1 a0 a1 (by omega) (by omega)]; omega)) (one_d (ne_f her) (one_d ?_ nil_d))))) fun p hp => ?_) (one_d ?_ nil_d)
  · exact pks_iff.2 ⟨flF B0 B1 a0 a1 (by omega) (by omega), by omega, by omega, vL_src hv⟩
  · exact pkB_iff.2 ⟨⟨ok, Nat.le_refl _, by omega, by omega, by omega⟩, by omega, by omega⟩
  · simp only [List.mem_flatten, List.mem_map, List.mem_range] at hp
    obtain ⟨l, ⟨i, hi, rfl⟩, hp⟩ := hp
    obtain ⟨h1, h2⟩ := row_ok B0 B1 a0 a1 ok (n := 16) (m := 16) rfl (by omega) ht t hi
    simp only [List.mem_cons, List.not_mem_nil, or_false] at hp
    rcases hp with rfl | rfl
    · exact h1
    · refine ne_f ?_
      rw [h2]
      exact hin i hi
  · exact un_iff.2 ⟨rfl, ok, Nat.le_refl _, by omega, by omega, by omega, by omega, hout⟩
theorem SD_ok {q L n : Int} {m : Nat} (h : (n = 1 ∧ m = 1 ∧ q = 16) ∨ (n = 2 ∧ m = 2 ∧ q = 8) ∨ (n = 4 ∧ m = 4 ∧ q = 4) ∨ (n = 8 ∧ m = 8 ∧ q = 2)) (L0 : 0 ≤ L) (hL : L < q) {v : Nat → Int} (hv : Byt v) (ht : a + B + n ≤ 65536) (t : List Value) : ∀ p ∈ SD gaR gfR guR q B L a n m v t, p.1 = p.2 := by
  have eA := wA_eq B0 B1 a0 a1
  have eT := atN_eq B0 B1 a0 a1 (n := n) (by omega) (by omega)
  have eL : IntKind.i64.wrap L = L := wi (by omega) (by omega)
  have hz : ∃ z : Nat, n * L = z ∧ z + m ≤ 16 ∧ z = L.toNat * m := by
    rcases h with ⟨rfl, rfl, rfl⟩ | ⟨rfl, rfl, rfl⟩ | ⟨rfl, rfl, rfl⟩ | ⟨rfl, rfl, rfl⟩
    · exact ⟨L.toNat * 1, by omega, by omega, rfl⟩
    · exact ⟨L.toNat * 2, by omega, by omega, rfl⟩
    · exact ⟨L.toNat * 4, by omega, by omega, rfl⟩
    · exact ⟨L.toNat * 8, by omega, by omega, rfl⟩
  obtain ⟨z, z1, z2, z3⟩ := hz
  have hm : m = n.toNat ∧ n = m := by omega
  have ex : getI v (8 * n) L = sumN v z m := by
    have hth : thereB (8 * n) L = true := by
      rw [there_iff]
      refine ⟨L0, ?_⟩
      rcases h with ⟨rfl, rfl, rfl⟩ | ⟨rfl, rfl, rfl⟩ | ⟨rfl, rfl, rfl⟩ | ⟨rfl, rfl, rfl⟩ <;> exact hL
    unfold getI
    rw [if_pos hth]
    have hw : wid (8 * n) = m := by unfold wid; omega
    rw [hw, z3]
  have F : Fit flV 65536 65536 (a + B) := flF B0 B1 a0 a1 (by omega) (by omega)
  have her : erV 65536 (a + B) n = 0 := by unfold erV; rw [if_neg (by omega), if_pos (by omega)]
  have ec : stC gaR gfR a B n L v = stV flV 65536 (a + B) n (sumN v z m) := by
    unfold stC
    rw [eA, eL, ex]
    rfl
  have F' : Fit (stC gaR gfR a B n L v) 65536 65536 (a + B) := by rw [ec]; exact F.st n _
  have hg : ∀ i, gB (stC gaR gfR a B n L v) i = setN (gB flV) (a + B).toNat (sumN v z m) m i := fun i => by
    rw [ec, stV_gB F her, hm.1]
  have hfz : ∀ i : Nat, i < m → fz n L i = ((z + i : Nat) : Int) := fun i hi => by
    unfold fz
    have b1 : IntKind.i64.wrap (z : Int) = z := wi (by omega) (by omega)
    rw [eL, z1, b1, wi (by omega) (by omega)]
    omega
  unfold SD
  rw [eA, eT]
  refine app_d (app_d (app_d (inD_ok B0 B1 a0 a1 (by omega) (by omega) (fun _ => hL) (decide_eq_false (by omega))) (one_d (okD F) (one_d (decide_eq_false (by rw [eN_eq B0 B1 a0 a1 (by omega) (by omega)]; omega)) (one_d (ne_f her) (one_d ?_ nil_d))))) fun p hp => ?_) (one_d ?_ nil_d)
  · exact pkB_iff.2 ⟨F', by omega, by omega⟩
  · simp only [List.mem_flatten, List.mem_map, List.mem_range] at hp
    obtain ⟨l, ⟨i, hi, rfl⟩, hp⟩ := hp
    obtain ⟨h1, h2⟩ := row_ok B0 B1 a0 a1 F'.ok (n := n) (m := m) hm.2 (by omega) ht t hi
    have e := hfz i hi
    have hv2 := vL_get v (j := z + i) (by omega)
    rw [Nat.zero_add] at hv2
    simp only [List.mem_cons, List.not_mem_nil, or_false] at hp
    rcases hp with rfl | rfl | rfl | rfl | rfl
    · exact h1
    · exact decide_eq_true (by rw [e]; omega)
    · exact decide_eq_true (by rw [e]; omega)
    · show isB (vL v)[(fz n L i).toNat]? = true
      rw [e, Int.toNat_natCast, hv2]
      rfl
    · refine ne_f ?_
      rw [h2, hg, e, Int.toNat_natCast]
      unfold setN
      rw [if_pos (by omega), show (a + B).toNat + i - (a + B).toNat = i by omega, ← byte_of_sum hv z m i hi]
      unfold gB
      rw [hv2]
  · refine un_iff.2 ⟨rfl, F'.ok, Nat.le_refl _, by omega, by omega, by omega, by omega, fun i hi h => ?_⟩
    rw [hg]
    unfold setN
    rw [if_neg (by omega)]
    exact flV_gB hi
end
end Vm
end Go.Proofs.Ytmgkejpjljkfdaa
