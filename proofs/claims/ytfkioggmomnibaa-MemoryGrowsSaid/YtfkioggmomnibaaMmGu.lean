/-
  Of layer 10: MemoryGrows: the facts of its runs, and the law.
-/
import Derived.Test.YtfkioggmomnibaaMmGt
namespace Go.Proofs.Ytfkioggmomnibaa
open Go.RowKit VecM Ev
namespace Mm
/-- what is known of l and m where New answers a memory -/
structure Lm (l m : Int) : Prop where
  lo : 0 ≤ l
  hi : l ≤ 16
  m0 : -1 ≤ m
  m1 : m < 9223372036854775808
  lm : m < 0 ∨ l ≤ m
theorem pN_eq {l m : Int} (h : Lm l m) : pN l = 65536 * l.toNat := by
  obtain ⟨h0, h1, _, _, _⟩ := h
  unfold pN
  rw [wi (by omega) (by omega)]
  omega
theorem nat_div (n : Nat) : Nat.div n 65536 = n / 65536 := rfl
theorem pN_div {l m : Int} (h : Lm l m) : pN l / 65536 = l.toNat := by rw [pN_eq h]; omega
theorem gc1_ok {l m : Int} (h : Lm l m) : H1 (gz gaR l) (pN l) (pN l) l ∧ OkB (gc1 gaR gbR l) (pN l) ∧ (gc1 gaR gbR l).length = pN l ∧ ∀ k : Nat, k < l.toNat → gB (gc1 gaR gbR l) (65537 * k) = k + 1 := by
  have hN := pN_eq h
  have hz : OkB (zC (pN l)) (pN l) := zC_ok (Nat.le_refl _)
  have H : H1 (gz gaR l) (pN l) (pN l) l := ⟨h.lo, h.hi, hN, hz, Nat.le_refl _⟩
  obtain ⟨i1, i2, i3⟩ := g1S_ok H l.toNat (Nat.le_refl _)
  exact ⟨H, i1, i2.trans (zC_len _), i3⟩
theorem gz_len (l : Int) : (gz gaR l).length = pN l := zC_len _
theorem gwD0_ok {l m : Int} (h : Lm l m) (hn : nwE l m = 0) : ∀ p ∈ gwD0 gaR gbR l m, p.1 = p.2 :=
  one_d (decide_eq_true hn) (one_d (h1_iff.2 (gc1_ok h).1) nil_d)
theorem gk1 {l m x : Int} (h : Lm l m) (h0 : 0 ≤ x) (h1 : x < 4294967296) {b : Bool} (hb : grB l.toNat m x = b) : Gk (gc1 gaR gbR l) (pN l) (pN l) m x b := by
  obtain ⟨_, _, i2, _⟩ := gc1_ok h
  have hN := pN_eq h
  have hd := pN_div h
  have := h.hi
  exact ⟨by omega, by omega, by omega, i2.symm, h0, h1, h.m1, by rw [hd]; exact hb⟩
def ceil (m : Int) : Int := if m < 0 then 16 else min m 16
theorem grB_t {p : Nat} {m x : Int} (h : (p : Int) + x ≤ ceil m) : grB p m x = true := decide_eq_true h
theorem grB_f {p : Nat} {m x : Int} (h : ¬ (p : Int) + x ≤ ceil m) : grB p m x = false := decide_eq_false h
theorem ceil_bd {l m : Int} (h : Lm l m) : l ≤ ceil m ∧ ceil m ≤ 16 := by
  obtain ⟨_, _, _, _, _⟩ := h
  unfold ceil
  split <;> omega
theorem wx {x : Int} (h0 : 0 ≤ x) (h1 : x < 4294967296) : IntKind.i64.wrap x = x := wi (by omega) (by omega)
theorem gwN_ok {l m x : Int} (h : Lm l m) (h0 : 0 ≤ x) (h1 : x < 4294967296) (hx : ¬ l + x ≤ ceil m) : ∀ p ∈ gwN gaR gbR (ceil m) l m x, p.1 = p.2 := by
  obtain ⟨c0, c1⟩ := ceil_bd h
  have := h.lo
  refine one_d (gkB_iff.2 (gk1 h h0 h1 (grB_f (by omega)))) (one_d (decide_eq_true ?_) nil_d)
  rw [wx h0 h1, wi (by omega) (by omega)]; omega
/-- behind the first growth -/
theorem gN2_eq {l m x : Int} (h : Lm l m) (h0 : 0 ≤ x) (hx : l + x ≤ ceil m) : gN2 l x = 65536 * (l + x).toNat := by
  obtain ⟨c0, c1⟩ := ceil_bd h
  have := h.lo
  unfold gN2
  rw [pN_eq h, zX_eq h0 (by omega)]
  omega
theorem gwV_ok {c : List Value} {N : Nat} {x : Int} {t : List Value} (ok : OkB c N) : OkB (gwV c N x t) (N + (zX x).toNat) := by
  refine ⟨by rw [gwV_len ok.1]; omega, fun i hi => ?_⟩
  have := ok.1
  unfold gwV
  by_cases h : i < N
  · rw [List.getElem?_append_left (by rw [List.length_take]; omega), List.getElem?_take_of_lt h]; exact ok.2 i h
  · rw [List.getElem?_append_right (by rw [List.length_take]; omega), List.length_take, Nat.min_eq_left this, List.getElem?_append_left (by rw [zC_len]; omega)]
    exact ⟨0, by unfold zC; rw [List.getElem?_replicate, if_pos (by omega)], by decide, by decide⟩
theorem gwV_lo {c : List Value} {N : Nat} {x : Int} {t : List Value} (ok : OkB c N) {i : Nat} (hi : i < N) : gB (gwV c N x t) i = gB c i := by
  have := ok.1
  unfold gwV gB
  rw [List.getElem?_append_left (by rw [List.length_take]; omega), List.getElem?_take_of_lt hi]
theorem gwV_hi {c : List Value} {N : Nat} {x : Int} {t : List Value} (ok : OkB c N) {i : Nat} (h1 : N ≤ i) (h2 : i < N + (zX x).toNat) : gB (gwV c N x t) i = 0 := by
  have := ok.1
  unfold gwV gB
  rw [List.getElem?_append_right (by rw [List.length_take]; omega), List.length_take, Nat.min_eq_left this, List.getElem?_append_left (by rw [zC_len]; omega)]
  unfold zC
  rw [List.getElem?_replicate, if_pos (by omega)]
section
variable {l m x : Int}
theorem gc2_ok (h : Lm l m) (β : Nat → Fr) : OkB (gc2 gaR gbR l x β) (gN2 l x) ∧ gN2 l x ≤ (gc2 gaR gbR l x β).length ∧ (∀ i, i < pN l → gB (gc2 gaR gbR l x β) i = gB (gc1 gaR gbR l) i) ∧ ∀ i, pN l ≤ i → i < gN2 l x → gB (gc2 gaR gbR l x β) i = 0 := by
  obtain ⟨_, ok, hl, _⟩ := gc1_ok h
  exact ⟨gwV_ok ok, (gwV_ok (x := x) (t := (β 3).t) ok).1, fun i hi => gwV_lo ok hi, fun i h1 h2 => gwV_hi ok h1 h2⟩
theorem gwY_ok (h : Lm l m) (h0 : 0 ≤ x) (h1 : x < 4294967296) (hx : l + x ≤ ceil m) (β : Nat → Fr) : ∀ p ∈ gwY gaR gbR (ceil m) l m x β, p.1 = p.2 := by
  obtain ⟨c0, c1⟩ := ceil_bd h
  have hlo := h.lo
  obtain ⟨ok, hle, hL, hH⟩ := gc2_ok (x := x) h β
  obtain ⟨_, _, _, i3⟩ := gc1_ok h
  have e2 := gN2_eq h h0 hx
  have eN := pN_eq h
  have hp : pg (gN2 l x) = l + x := by rw [pg_eq (by omega) (by omega)]; omega
  have hA : gA l x = (gN2 l x : Nat) := by unfold gA; rw [hp, wu (x := l + x) (by omega) (by omega), wu (x := (l + x) * 65536) (by omega) (by omega)]; omega
  have hw := wx h0 h1
  refine one_d (gkB_iff.2 (gk1 h h0 h1 (grB_t (by omega)))) (one_d (decide_eq_false ?_) (one_d (ne_f ?_) (one_d (ne_f ?_) (one_d (h2_iff.2 ⟨hlo, h.hi, by omega, by omega, ok, hle, fun k hk => ?_⟩) (one_d (h3_iff.2 ⟨hlo, by omega, by omega, by omega, ok, hle, fun i h3 h4 => hH i (by omega) h4⟩) (one_d (okD ⟨ok, hle, by omega, by rw [hA]; omega, by rw [hA]; omega⟩) (one_d (eqb_t ?_) nil_d)))))))
  · rw [hw, wi (by omega) (by omega)]; omega
  · rw [nat_div, pN_div h, wi (by omega) (by omega)]; omega
  · rw [hp, hw, wi (by omega) (by omega)]
  · rw [hL _ (by omega)]; exact i3 k hk
  · show erV (gN2 l x) (gA l x) 1 = 23
    rw [hA]; unfold erV; rw [if_neg (by omega), if_neg (by omega)]
theorem gk2 (h : Lm l m) (h0 : 0 ≤ x) (hx : l + x ≤ ceil m) (β : Nat → Fr) {y : Int} (y0 : 0 ≤ y) (y1 : y < 4294967296) {b : Bool} (hb : grB (l + x).toNat m y = b) : Gk (gc2 gaR gbR l x β) (gN2 l x) (gaR.ln (gc2 gaR gbR l x β)) m y b := by
  obtain ⟨c0, c1⟩ := ceil_bd h
  obtain ⟨ok, hle, _, _⟩ := gc2_ok (x := x) h β
  have e2 := gN2_eq h h0 hx
  have := h.lo
  have hd : gN2 l x / 65536 = (l + x).toNat := by omega
  exact ⟨by omega, by omega, hle, rfl, y0, y1, h.m1, by rw [hd]; exact hb⟩
theorem gwE_ok (h : Lm l m) (h0 : 0 ≤ x) (hx : l + x ≤ ceil m) (he : ceil m = l + x) (β : Nat → Fr) : ∀ p ∈ gwE gaR gbR (ceil m) l m x β, p.1 = p.2 := by
  obtain ⟨c0, c1⟩ := ceil_bd h
  have e2 := gN2_eq h h0 hx
  have := h.lo
  have hp : pg (gN2 l x) = l + x := by rw [pg_eq (by omega) (by omega)]; omega
  exact one_d (eqb_t (by rw [hp]; exact he)) (one_d (gkB_iff.2 (gk2 h h0 hx β (by omega) (by omega) (grB_f (by omega)))) nil_d)
theorem gwF_ok (h : Lm l m) (h0 : 0 ≤ x) (hx : l + x ≤ ceil m) (he : ¬ ceil m = l + x) (β : Nat → Fr) : ∀ p ∈ gwF gaR gbR (ceil m) l m x β, p.1 = p.2 := by
  obtain ⟨c0, c1⟩ := ceil_bd h
  have e2 := gN2_eq h h0 hx
  have := h.lo
  obtain ⟨ok, hle, _, _⟩ := gc2_ok (x := x) h β
  have hp : pg (gN2 l x) = l + x := by rw [pg_eq (by omega) (by omega)]; omega
  have hX : gX (ceil m) l x = ceil m - (l + x) := by unfold gX; rw [hp, wi (by omega) (by omega), IntKind.wrap_u32]; omega
  have hz : zX (ceil m - (l + x)) = 65536 * (ceil m - (l + x)) := zX_eq (by omega) (by omega)
  refine one_d ?_ (one_d ?_ (one_d (eqb_t ?_) (one_d ?_ nil_d)))
  · rw [hp]; simpa using he
  · rw [hX]; exact gkB_iff.2 (gk2 h h0 hx β (by omega) (by omega) (grB_t (by omega)))
  · rw [nat_div, IntKind.wrap_u32, IntKind.wrap_u32]; omega
  · have hl := gwV_len (c := gc2 gaR gbR l x β) (N := gN2 l x) (x := ceil m - (l + x)) (t := (β 6).t) hle
    have hc : gc3 gaR gbR (ceil m) l x β = gwV (gc2 gaR gbR l x β) (gN2 l x) (ceil m - (l + x)) (β 6).t := by unfold gc3; rw [hX]; rfl
    rw [hX, hc, hz]
    refine gkB_iff.2 ⟨by omega, by omega, by rw [hl, hz]; omega, rfl, by omega, by omega, h.m1, grB_f ?_⟩
    omega
end
theorem eqb_ne {a b : Int} (h : ¬ a = b) : (a == b) = false := by simpa using h
/-- MemoryGrows -/
theorem grows_all (l m x : Int) (_hl : -9223372036854775808 ≤ l ∧ l ≤ 9223372036854775807) (hm : -9223372036854775808 ≤ m ∧ m ≤ 9223372036854775807) (hx : 0 ≤ x ∧ x < 4294967296) (w : World) :
    Calls Try.prog 6 #[.int .i64 l, .int .i64 m, .int .u32 x] w fun e w' => e = .returned (.bool true) ∧ Gr w w' := by
  by_cases h1 : nwE l m = 1
  · exact gwe1_run x h1 w
  by_cases h3 : nwE l m = 3
  · exact gwe3_run x h3 w
  have hn : nwE l m = 0 := by
    unfold nwE at h1 h3 ⊢
    split
    · rename_i hb
      rw [if_pos hb] at h1
      exact absurd rfl h1
    · rename_i hb
      rw [if_neg hb] at h3
      split
      · rename_i hc
        rw [if_pos hc] at h3
        exact absurd rfl h3
      · rfl
  have h : Lm l m := by
    unfold nwE at hn
    split at hn
    · cases hn
    · split at hn
      · cases hn
      · exact ⟨by omega, by omega, by omega, by omega, by omega⟩
  have hv : (Value.bool (pg (pN l) == l)) = .bool true := by
    have hN := pN_eq h
    have hd := pN_div h
    have := h.lo
    have := h.hi
    rw [eqb_t]
    rw [pg_eq (by omega) (by omega), hd]; omega
  have d0 := gwD0_ok h hn
  by_cases hy : l + x ≤ ceil m
  · have dY := gwY_ok h hx.1 hx.2 hy
    by_cases he : ceil m = l + x
    · have dE := gwE_ok h hx.1 hy he
      by_cases hm0 : 0 ≤ m
      · by_cases hm1 : m < 16
        · have hc : ceil m = m := by unfold ceil; rw [if_neg (by omega)]; omega
          rw [hc] at dY dE
          exact gwaE_run l m x hv (fun β => app_d (app_d d0 (one_d (decide_eq_true hm0) (one_d (decide_eq_true hm1) nil_d))) (app_d (dY β) (dE β))) w
        · have hc : ceil m = 16 := by unfold ceil; rw [if_neg (by omega)]; omega
          rw [hc] at dY dE
          exact gwbE_run l m x hv (fun β => app_d (app_d d0 (one_d (decide_eq_true hm0) (one_d (decide_eq_false hm1) nil_d))) (app_d (dY β) (dE β))) w
      · have hc : ceil m = 16 := by unfold ceil; rw [if_pos (by omega)]
        rw [hc] at dY dE
        exact gwcE_run l m x hv (fun β => app_d (app_d d0 (one_d (decide_eq_false hm0) nil_d)) (app_d (dY β) (dE β))) w
    · have dF := gwF_ok h hx.1 hy he
      by_cases hm0 : 0 ≤ m
      · by_cases hm1 : m < 16
        · have hc : ceil m = m := by unfold ceil; rw [if_neg (by omega)]; omega
          rw [hc] at dY dF
          exact gwaF_run l m x hv (fun β => app_d (app_d d0 (one_d (decide_eq_true hm0) (one_d (decide_eq_true hm1) nil_d))) (app_d (dY β) (dF β))) w
        · have hc : ceil m = 16 := by unfold ceil; rw [if_neg (by omega)]; omega
          rw [hc] at dY dF
          exact gwbF_run l m x hv (fun β => app_d (app_d d0 (one_d (decide_eq_true hm0) (one_d (decide_eq_false hm1) nil_d))) (app_d (dY β) (dF β))) w
      · have hc : ceil m = 16 := by unfold ceil; rw [if_pos (by omega)]
        rw [hc] at dY dF
        exact gwcF_run l m x hv (fun β => app_d (app_d d0 (one_d (decide_eq_false hm0) nil_d)) (app_d (dY β) (dF β))) w
  · have dN := gwN_ok h hx.1 hx.2 hy
    by_cases hm0 : 0 ≤ m
    · by_cases hm1 : m < 16
      · have hc : ceil m = m := by unfold ceil; rw [if_neg (by omega)]; omega
        rw [hc] at dN
        exact gwaN_run l m x hv (fun _ => app_d (app_d d0 (one_d (decide_eq_true hm0) (one_d (decide_eq_true hm1) nil_d))) dN) w
      · have hc : ceil m = 16 := by unfold ceil; rw [if_neg (by omega)]; omega
        rw [hc] at dN
        exact gwbN_run l m x hv (fun _ => app_d (app_d d0 (one_d (decide_eq_true hm0) (one_d (decide_eq_false hm1) nil_d))) dN) w
    · have hc : ceil m = 16 := by unfold ceil; rw [if_pos (by omega)]
      rw [hc] at dN
      exact gwcN_run l m x hv (fun _ => app_d (app_d d0 (one_d (decide_eq_false hm0) nil_d)) dN) w
end Mm
end Go.Proofs.Ytfkioggmomnibaa
