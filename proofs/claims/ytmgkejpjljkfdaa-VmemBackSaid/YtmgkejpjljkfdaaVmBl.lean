/-
  Of layer 11: VmemBack: for every address, vector and lane the law returns true.
-/
import Derived.Test.YtmgkejpjljkfdaaVmBk
namespace Go.Proofs.Ytmgkejpjljkfdaa
open Go.RowKit VecM Ev Mm
namespace Vm
theorem kn_byt (G : Ga) (K : Gq) (a : Int) {v : Nat → Int} (hv : Byt v) : ∀ x ∈ kn0 G K a v, Byt x := by
  have hz : Byt z0 := fun _ => ⟨Int.le_refl _, by show (0 : Int) ≤ 255; decide⟩
  intro x hx
  unfold kn0 at hx
  simp only [List.mem_cons, List.not_mem_nil, or_false] at hx
  rcases hx with rfl | rfl | rfl
  · exact hv
  · exact hz
  · exact setI_byt hz _ _ _
theorem bk_run (G : Ga) (hG : G = gaR) (K : Gq) (hK : K = gqR) (a l : Int) (v : Nat → Int) (hv : Byt v) (hD : ∀ p ∈ D_bk G K a l v, p.1 = p.2) (w : World) :
    Calls Try.prog 6 #[.int .u16 a, .agg (bs v), .int .u8 l] w fun e w' => e = .returned (.bool true) ∧ Gr w w' :=
  (ev_callB (E := envB G K (kn0 G K a v)) (E' := envB gaN (gqS 0) (kn0 gaN (gqS 0) 5 o1)) rfl (sumP_ok rfl (kn_byt G K a hv)) (fuel := 4000) (args := [.int .u16 a, .agg (bs v), .int .u8 l]) (args' := [.int .u16 5, .agg (bs o1), .int .u8 3]) (M := []) (M' := [])
    (v := fun _ => .bool true) (k := 1000) (M1 := fun _ => []) (fun _ => D_bk G K a l v) t_bk (fun _ => hD) (fun β => (by kernel_rfl : tagOL (D_bk G K a l v) t_bk (bkPath G K (kn0 G K a v) (kn0 gaN (gqS 0) 5 o1) a l v 5 3 o1 β) = tagOR (D_bk G K a l v) t_bk (bkPath G K (kn0 G K a v) (kn0 gaN (gqS 0) 5 o1) a l v 5 3 o1 β))) w w ⟨St.start w, fun _ h => by cases h⟩ (ho := by rw [hG, hK]; exact envB_ok _)).mono fun _ _ ⟨_, h1, h2⟩ => ⟨h1, h2.gr⟩
/-! ### the facts -/
theorem pN2 : pN 2 = 131072 := by decide
theorem pB_eq : pB = 131072 := by unfold pB; rw [pN2]; rfl
section
variable {a : Int} (a0 : 0 ≤ a) (a1 : a ≤ 65535)
include a0 a1
theorem pA_eq {B : Int} (b0 : 0 ≤ B) (b1 : B ≤ 4294967295) : pA a B = a + B := by
  unfold pA
  rw [IntKind.wrap_u32, Int.emod_eq_of_lt a0 (by omega), wu a0 (by omega), wu b0 (by omega), wu (by omega) (by omega)]
theorem dOut_ok {B n : Int} (b0 : 0 ≤ B) (n0 : 0 ≤ n) (h : B + n ≤ 1000) : (dOut a B n).1 = (dOut a B n).2 := by
  unfold dOut
  refine decide_eq_false ?_
  rw [pA_eq a0 a1 b0 (by omega), wu n0 (by omega), wu (by omega) (by omega), pB_eq]
  omega
end
structure Inv (v : Nat → Int) (a : Int) (c : List Value) : Prop where
  ok : OkB c 131072
  eq : ∀ m, m < 16 → gB c (a.toNat + m) = v m
theorem eq_t {x y : Nat → Int} (h : ∀ m, m < 16 → x m = y m) : (!(eq16 x y)) = false := by rw [eq16_of h]; rfl
theorem dK_core {v : Nat → Int} (hv : Byt v) {a : Int} (a0 : 0 ≤ a) (a1 : a ≤ 65535) {l n q : Int} {n' t : Nat} (hn : n = n') (hn1 : n' = 1 ∨ n' = 2 ∨ n' = 4 ∨ n' = 8) (ht : t + n' ≤ 16) (hU : ¬ iU l q ≥ q) (hz : bZ l n q = t)
    (hg : gV v l n q = sumN v t n') {c : List Value} (I : Inv v a c) : (∀ p ∈ dK gaR v a l c n q, p.1 = p.2) ∧ Inv v a (cN gaR v a l c n q) := by
  obtain ⟨ok, he⟩ := I
  have e40 : pA a 40 = a + 40 := pA_eq a0 a1 (by omega) (by omega)
  have ez : pA a (bZ l n q) = a + t := by rw [hz]; exact pA_eq a0 a1 (by omega) (by omega)
  have F : Fit c 131072 131072 (a + 40) := ⟨ok, Nat.le_refl _, by omega, by omega, by omega⟩
  have her : erV 131072 (a + 40) n = 0 := by unfold erV; rw [if_neg (by omega), if_pos (by omega)]
  have ec : cN gaR v a l c n q = stV c 131072 (a + 40) n (gV v l n q) := by unfold cN; rw [pN2, e40]; rfl
  have F' := F.st n (gV v l n q)
  have hB : gB (stV c 131072 (a + 40) n (gV v l n q)) = setN (gB c) (a + 40).toNat (gV v l n q) n.toNat := funext (stV_gB F her)
  have tn : n.toNat = n' := by omega
  rw [tn] at hB
  have hx : gV v l n q % 256 ^ n' = gV v l n q := by rw [hg]; exact Int.emod_eq_of_lt (sumN_bd hv t n').1 (sumN_bd hv t n').2
  have l1 : ldV (stV c 131072 (a + 40) n (gV v l n q)) 131072 (a + 40) n = gV v l n q := by
    rw [ldV_sum F' her, hB, tn, sum_set _ _ _ _ _ (Nat.le_refl _), hx]
  have hin : ∀ m, m < 16 → gB (stV c 131072 (a + 40) n (gV v l n q)) (a.toNat + m) = v m := fun m hm => by
    rw [hB]; unfold setN; rw [if_neg (by omega)]; exact he m hm
  have F2 : Fit (stV c 131072 (a + 40) n (gV v l n q)) 131072 131072 (a + t) := F'.at (by omega) (by omega)
  have her2 : erV 131072 (a + t) n = 0 := by unfold erV; rw [if_neg (by omega), if_pos (by omega)]
  have l2 : ldV (stV c 131072 (a + 40) n (gV v l n q)) 131072 (a + t) n = gV v l n q := by
    rw [ldV_sum F2 her2, tn]
    refine Eq.trans (sumN_congr (b := t) n' fun m hm => ?_) hg.symm
    rw [show (a + (t : Int)).toNat + m = a.toNat + (t + m) by omega]
    exact hin (t + m) (by omega)
  refine ⟨?_, ?_⟩
  · unfold dK
    rw [ec, pN2, e40, ez]
    have d1 := dOut_ok a0 a1 (B := 40) (n := n) (by omega) (by omega) (by omega)
    refine one_d (decide_eq_false hU) (one_d d1 (one_d (okD F) (one_d (decide_eq_false hU) (one_d d1 (one_d (okD F') (one_d (decide_eq_false (by omega)) (one_d (decide_eq_false (by omega)) (one_d (dOut_ok a0 a1 (by omega) (by omega) (by omega)) (one_d (okD F2) (one_d (ne_f her) (one_d (eq_t fun m _ => ?_) (one_d (eq_t fun m _ => ?_) nil_d))))))))))))
    · show setI z0 (8 * n) (iI l q) (ldV _ 131072 (a + 40) n) m = _
      rw [l1]
    · show setI z0 (8 * n) (iI l q) (ldV _ 131072 (a + t) n) m = _
      rw [l2]
  · rw [ec]; exact ⟨F'.ok, hin⟩
theorem lane_q {l q : Int} (l0 : 0 ≤ l) (l1 : l ≤ 255) (q0 : 0 < q) (q1 : q ≤ 16) : iU l q = l % q ∧ iI l q = l % q ∧ 0 ≤ l % q ∧ l % q < q := by
  have h0 := Int.emod_nonneg l (show q ≠ 0 by omega)
  have h1 := Int.emod_lt_of_pos l q0
  have e : iU l q = l % q := by unfold iU; rw [wi (by omega) (by omega), Int.tmod_eq_emod_of_nonneg l0, wu h0 (by omega)]
  refine ⟨e, ?_, h0, h1⟩
  unfold iI
  rw [e, wi (by omega) (by omega)]
theorem dK_ok {v : Nat → Int} (hv : Byt v) {a : Int} (a0 : 0 ≤ a) (a1 : a ≤ 65535) {l n q : Int} (l0 : 0 ≤ l) (l1 : l ≤ 255) (h : (n = 1 ∧ q = 16) ∨ (n = 2 ∧ q = 8) ∨ (n = 4 ∧ q = 4) ∨ (n = 8 ∧ q = 2)) {c : List Value} (I : Inv v a c) :
    (∀ p ∈ dK gaR v a l c n q, p.1 = p.2) ∧ Inv v a (cN gaR v a l c n q) := by
  obtain ⟨hU, hI, h0, h1⟩ := lane_q l0 l1 (q := q) (by omega) (by omega)
  have hn1 : n.toNat = 1 ∨ n.toNat = 2 ∨ n.toNat = 4 ∨ n.toNat = 8 := by omega
  have hbz : bZ l n q = n * (l % q) ∧ n * (l % q) + n ≤ 16 ∧ 0 ≤ n * (l % q) := by
    unfold bZ
    rw [hI]
    rcases h with ⟨rfl, rfl⟩ | ⟨rfl, rfl⟩ | ⟨rfl, rfl⟩ | ⟨rfl, rfl⟩
    · rw [wi (by omega) (by omega)]; omega
    · rw [wi (by omega) (by omega)]; omega
    · rw [wi (by omega) (by omega)]; omega
    · rw [wi (by omega) (by omega)]; omega
  refine dK_core hv a0 a1 (n' := n.toNat) (t := (n * (l % q)).toNat) (by omega) hn1 (by omega) (by rw [hU]; omega) (by rw [hbz.1]; omega) ?_ I
  unfold gV
  rw [hI]
  have hth : thereB (8 * n) (l % q) = true := by
    rw [there_iff]
    refine ⟨h0, ?_⟩
    rcases h with ⟨rfl, rfl⟩ | ⟨rfl, rfl⟩ | ⟨rfl, rfl⟩ | ⟨rfl, rfl⟩ <;> exact h1
  unfold getI
  rw [if_pos hth]
  have hw : wid (8 * n) = n.toNat := by unfold wid; omega
  rw [hw]
  congr 1
  rcases h with ⟨rfl, rfl⟩ | ⟨rfl, rfl⟩ | ⟨rfl, rfl⟩ | ⟨rfl, rfl⟩
  · show (l % 16).toNat * 1 = (1 * (l % 16)).toNat; omega
  · show (l % 8).toNat * 2 = (2 * (l % 8)).toNat; omega
  · show (l % 4).toNat * 4 = (4 * (l % 4)).toNat; omega
  · show (l % 2).toNat * 8 = (8 * (l % 2)).toNat; omega
theorem vL_get (v : Nat → Int) {j : Nat} (h : j < 16) : (vL v)[0 + j]? = some (.int .u8 (v j)) := by
  unfold vL
  rw [Nat.zero_add, Array.getElem?_toList]
  exact bs_get v j h
theorem vL_src {v : Nat → Int} (hv : Byt v) : SrcB (vL v) 0 16 := fun j hj => ⟨v j, vL_get v hj, hv j⟩
theorem vL_gB (v : Nat → Int) {j : Nat} (h : j < 16) : gB (vL v) (0 + j) = v j := by unfold gB; rw [vL_get v h]
theorem z128 : OkB (zC 131072) 131072 := zC_ok (Nat.le_refl _)
section
variable {v : Nat → Int} (hv : Byt v) {a : Int} (a0 : 0 ≤ a) (a1 : a ≤ 65535)
include hv a0 a1
omit hv in
theorem c0_eq : c0 gaR gqR a v = cpV (zC 131072) a.toNat (vL v) 0 16 := by
  unfold c0 b0
  rw [pN2, pA_eq a0 a1 (by omega) (by omega), Int.add_zero]
  show cpP (zC 131072) 131072 a (vL v) 0 16 = _
  unfold cpP
  rw [if_pos (by omega)]
theorem c0_inv : Inv v a (c0 gaR gqR a v) := by
  rw [c0_eq a0 a1]
  exact ⟨cpV_ok z128 (vL_src hv) (by omega) (by omega), fun m hm => by rw [cpV_in z128 (vL_src hv) (by omega) (by omega) hm]; exact vL_gB v hm⟩
theorem ld_c0 {t : Nat} (ht : t + 8 ≤ 16) : ldV (c0 gaR gqR a v) 131072 (a + t) 8 = sumN v t 8 := by
  obtain ⟨ok, he⟩ := c0_inv hv a0 a1
  have F : Fit (c0 gaR gqR a v) 131072 131072 (a + t) := ⟨ok, Nat.le_refl _, by omega, by omega, by omega⟩
  have her : erV 131072 (a + t) 8 = 0 := by unfold erV; rw [if_neg (by omega), if_pos (by omega)]
  rw [ldV_sum F her]
  refine sumN_congr 8 fun m hm => ?_
  rw [show (a + (t : Int)).toNat + m = a.toNat + (t + m) by omega]
  exact he _ (by omega)
theorem x2_eq : ∀ m, m < 16 → x2 gaR gqR a v m = v m := by
  intro m hm
  have e8 : IntKind.u64.wrap (pA a 0 + 8) = a + (8 : Nat) := by rw [pA_eq a0 a1 (by omega) (by omega), wu (by omega) (by omega)]; omega
  have elo : lo gaR gqR a v = sumN v 0 8 := by
    have := ld_c0 hv a0 a1 (t := 0) (by omega)
    unfold lo
    rw [pN2, pA_eq a0 a1 (by omega) (by omega)]
    exact this
  have ehi : hi gaR gqR a v = sumN v 8 8 := by
    have := ld_c0 hv a0 a1 (t := 8) (by omega)
    unfold hi
    rw [pN2, e8]
    exact this
  have e2 : x2 gaR gqR a v = setN (setN z0 0 (sumN v 0 8) 8) 8 (sumN v 8 8) 8 := by
    unfold x2 x1
    rw [elo, ehi]
    rfl
  rw [e2]
  unfold setN
  by_cases h : m < 8
  · rw [if_neg (by omega), if_pos (by omega)]
    have := byte_of_sum hv 0 8 m h
    rw [Nat.zero_add] at this
    exact this.symm
  · rw [if_pos (by omega)]
    have := byte_of_sum hv 8 8 (m - 8) (by omega)
    rw [show 8 + (m - 8) = m by omega] at this
    exact this.symm
theorem d0_ok : ∀ p ∈ d0 gaR gqR a v, p.1 = p.2 := by
  obtain ⟨ok, _⟩ := c0_inv hv a0 a1
  have e0 : pA a 0 = a + 0 := pA_eq a0 a1 (by omega) (by omega)
  have F : Fit (zC 131072) 131072 131072 (a + 0) := ⟨z128, Nat.le_refl _, by omega, by omega, by omega⟩
  have Fc : Fit (c0 gaR gqR a v) 131072 131072 (a + 0) := ⟨ok, Nat.le_refl _, by omega, by omega, by omega⟩
  have e8 : IntKind.u64.wrap (a + 0 + 8) = a + 8 := by rw [wu (by omega) (by omega)]; omega
  unfold d0
  refine one_d (show nqB 2 2 0 = true by decide) (one_d (dOut_ok a0 a1 (by omega) (by omega) (by omega)) (one_d (pks_iff.2 ?_) (one_d (ne_f ?_) (one_d (okD ?_) (one_d (okD ?_) (one_d (eq_t (x2_eq hv a0 a1)) nil_d))))))
  · unfold b0
    rw [pN2, e0]
    exact ⟨F, by omega, by omega, vL_src hv⟩
  · rw [pN2, e0]
    show erP 131072 (a + 0) 16 = 0
    unfold erP
    rw [if_pos (by omega)]
  · rw [pN2, e0]; exact Fc
  · rw [pN2, e0, e8]; exact Fc.at (by omega) (by omega)
/-- VmemBack -/
theorem back_all {l : Int} (l0 : 0 ≤ l) (l1 : l ≤ 255) (w : World) : Calls Try.prog 6 #[.int .u16 a, .agg (bs v), .int .u8 l] w fun e w' => e = .returned (.bool true) ∧ Gr w w' := by
  obtain ⟨k0, i0⟩ := dK_ok hv a0 a1 l0 l1 (.inl ⟨rfl, rfl⟩) (c0_inv hv a0 a1)
  obtain ⟨k1, i1⟩ := dK_ok hv a0 a1 l0 l1 (.inr (.inl ⟨rfl, rfl⟩)) i0
  obtain ⟨k2, i2⟩ := dK_ok hv a0 a1 l0 l1 (.inr (.inr (.inl ⟨rfl, rfl⟩))) i1
  obtain ⟨k3, _⟩ := dK_ok hv a0 a1 l0 l1 (.inr (.inr (.inr ⟨rfl, rfl⟩))) i2
  exact bk_run gaR rfl gqR rfl a l v hv (app_d (app_d (app_d (app_d (d0_ok hv a0 a1) k0) k1) k2) k3) w
end
end Vm
end Go.Proofs.Ytmgkejpjljkfdaa
