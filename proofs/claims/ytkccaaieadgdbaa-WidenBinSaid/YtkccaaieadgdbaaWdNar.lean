/-
  WidenNarrows: for all vectors the law returns true. Condition: bytes.
-/
import Derived.Test.YtkccaaieadgdbaaWdNw
namespace Go.Proofs.Ytkccaaieadgdbaa
open Go.RowKit VecM Ev
namespace Wd
/-! ### lanes of narrow vectors -/
theorem nar_lanes (v m n lo hi : Int) (N : Nat) (hn : n = N) (hL : lanesI v = 2 * n) (a b : Nat → Int) : ∀ k, k ≤ N → ∀ j, j < k →
    getI (naK v m n lo hi a b k) v j = IntKind.u64.wrap (holdI (sgnI a m j) lo hi) % 256 ^ wid v ∧ getI (naK v m n lo hi a b k) v (n + j) = IntKind.u64.wrap (holdI (sgnI b m j) lo hi) % 256 ^ wid v := by
  intro k
  induction k with
  | zero => intro _ j hj; omega
  | succ k ih =>
    intro hk j hj
    have t1 : thereB v k = true := there_iff.2 ⟨by omega, by omega⟩
    have t2 : thereB v (n + k) = true := there_iff.2 ⟨by omega, by omega⟩
    rw [naK]
    by_cases h : j = k
    · subst h
      refine ⟨?_, get_set _ _ _ _ t2⟩
      rw [get_set_other _ _ _ _ _ (show n + (j : Int) ≠ (j : Int) by omega), get_set _ _ _ _ t1]
    · obtain ⟨h1, h2⟩ := ih (by omega) j (by omega)
      refine ⟨?_, ?_⟩
      · rw [get_set_other _ _ _ _ _ (show n + (k : Int) ≠ (j : Int) by omega), get_set_other _ _ _ _ _ (show (k : Int) ≠ (j : Int) by omega), h1]
      · rw [get_set_other _ _ _ _ _ (show n + (k : Int) ≠ n + (j : Int) by omega), get_set_other _ _ _ _ _ (show (k : Int) ≠ n + (j : Int) by omega), h2]
/-- the lane that is narrowed -/
def nwX (a b : Nat → Int) (m n i : Int) : Int := if i < n then sgnI a m i else sgnI b m (i - n)
theorem nar_at (v m n lo hi : Int) (N : Nat) (hn : n = N) (hL : lanesI v = 2 * n) (a b : Nat → Int) (i : Int) (h0 : 0 ≤ i) (h1 : i < 2 * n) :
    getI (naK v m n lo hi a b N) v i = IntKind.u64.wrap (holdI (nwX a b m n i) lo hi) % 256 ^ wid v ∧ thereB v i = true := by
  refine ⟨?_, there_iff.2 ⟨h0, by omega⟩⟩
  unfold nwX
  by_cases h : i < n
  · rw [if_pos h]
    have := (nar_lanes v m n lo hi N hn hL a b N (Nat.le_refl _) i.toNat (by omega)).1
    rw [Int.toNat_of_nonneg h0] at this
    exact this
  · rw [if_neg h]
    have := (nar_lanes v m n lo hi N hn hL a b N (Nat.le_refl _) (i - n).toNat (by omega)).2
    rw [Int.toNat_of_nonneg (by omega), show n + (i - n) = i by omega] at this
    exact this
theorem sg_mod (v V : Int) (hv : v = 8 ∧ V = 256 ∨ v = 16 ∧ V = 65536) (b : Nat → Int) (i q : Int) (ht : thereB v i = true) (hg : getI b v i = IntKind.u64.wrap q % 256 ^ wid v) (h0 : -V ≤ 2 * q) (h1 : 2 * q < V) : sgnI b v i = q := by
  unfold sgnI sg
  rw [if_pos ht, hg, IntKind.wrap_u64]
  rcases hv with ⟨rfl, rfl⟩ | ⟨rfl, rfl⟩
  · rw [show ((2 : Int) ^ (((8 : Int)).toNat - 1)) = 128 by decide, show ((2 : Int) ^ ((8 : Int)).toNat) = 256 by decide, show (256 : Int) ^ wid 8 = 256 by decide]
    split <;> omega
  · rw [show ((2 : Int) ^ (((16 : Int)).toNat - 1)) = 32768 by decide, show ((2 : Int) ^ ((16 : Int)).toNat) = 65536 by decide, show (256 : Int) ^ wid 16 = 65536 by decide]
    split <;> omega
theorem gt_mod (v V : Int) (hv : v = 8 ∧ V = 256 ∨ v = 16 ∧ V = 65536) (b : Nat → Int) (i q : Int) (hg : getI b v i = IntKind.u64.wrap q % 256 ^ wid v) (h0 : 0 ≤ q) (h1 : q < V) : getI b v i = q := by
  rw [hg, IntKind.wrap_u64]
  rcases hv with ⟨rfl, rfl⟩ | ⟨rfl, rfl⟩
  · rw [show (256 : Int) ^ wid 8 = 256 by decide]; omega
  · rw [show (256 : Int) ^ wid 16 = 65536 by decide]; omega
theorem bi_64869 (a b : Nat → Int) : biV 64869 a b = naK 8 16 8 (-128) 127 a b 8 := by kernel_rfl
theorem bi_64870 (a b : Nat → Int) : biV 64870 a b = naK 8 16 8 0 255 a b 8 := by kernel_rfl
theorem bi_64901 (a b : Nat → Int) : biV 64901 a b = naK 16 32 4 (-32768) 32767 a b 4 := by kernel_rfl
theorem bi_64902 (a b : Nat → Int) : biV 64902 a b = naK 16 32 4 0 65535 a b 4 := by kernel_rfl
theorem s_0 (a b : Nat → Int) (i : Int) (h0 : 0 ≤ i) (h1 : i < 16) : sgnI (biV 64869 a b) 8 i = holdI (nwX a b 16 8 i) (-128) 127 := by
  obtain ⟨hg, ht⟩ := nar_at 8 16 8 (-128) 127 8 rfl rfl a b i h0 (by omega)
  have := holdI_bd (nwX a b 16 8 i) (show (-128 : Int) ≤ 127 by decide)
  rw [bi_64869]
  exact sg_mod 8 256 (.inl ⟨rfl, rfl⟩) _ _ _ ht hg (by omega) (by omega)
theorem u_0 (a b : Nat → Int) (i : Int) (h0 : 0 ≤ i) (h1 : i < 16) : IntKind.i64.wrap (getI (biV 64870 a b) 8 i) = holdI (nwX a b 16 8 i) 0 255 := by
  obtain ⟨hg, ht⟩ := nar_at 8 16 8 0 255 8 rfl rfl a b i h0 (by omega)
  have := holdI_bd (nwX a b 16 8 i) (show (0 : Int) ≤ 255 by decide)
  rw [bi_64870, gt_mod 8 256 (.inl ⟨rfl, rfl⟩) _ _ _ hg (by omega) (by omega)]
  exact IntWalk.i64_in _ (by omega)
theorem s_1 (a b : Nat → Int) (i : Int) (h0 : 0 ≤ i) (h1 : i < 8) : sgnI (biV 64901 a b) 16 i = holdI (nwX a b 32 4 i) (-32768) 32767 := by
  obtain ⟨hg, ht⟩ := nar_at 16 32 4 (-32768) 32767 4 rfl rfl a b i h0 (by omega)
  have := holdI_bd (nwX a b 32 4 i) (show (-32768 : Int) ≤ 32767 by decide)
  rw [bi_64901]
  exact sg_mod 16 65536 (.inr ⟨rfl, rfl⟩) _ _ _ ht hg (by omega) (by omega)
theorem u_1 (a b : Nat → Int) (i : Int) (h0 : 0 ≤ i) (h1 : i < 8) : IntKind.i64.wrap (getI (biV 64902 a b) 16 i) = holdI (nwX a b 32 4 i) 0 65535 := by
  obtain ⟨hg, ht⟩ := nar_at 16 32 4 0 65535 4 rfl rfl a b i h0 (by omega)
  have := holdI_bd (nwX a b 32 4 i) (show (0 : Int) ≤ 65535 by decide)
  rw [bi_64902, gt_mod 16 65536 (.inr ⟨rfl, rfl⟩) _ _ _ hg (by omega) (by omega)]
  exact IntWalk.i64_in _ (by omega)
/-! ### the rounds, as a hole -/
noncomputable def nwHole (a b : Nat → Int) (id : Nat) (_ : Code) (T : Tm) (M : List Rw) : Option Hole :=
  match Nat.beq id 3 with
  | false => none
  | true => match tget T 11 with
    | .int .i64 i => match M with
      | [ru, rs, rq, rp] => some ⟨nwBlk, 181, nwNeed i 8 8 256 rp.b rq.b rs.b ru.b, [vrow ru.b (biV 64870 a b), vrow rs.b (biV 64869 a b), vrow rq.b b, vrow rp.b a], [decide (0 ≤ i), decide (i < 16)], true,
        fun _ ξ => (.normal, nwHav.map fun k => (k, ξ k), [vrow ru.b (biV 64870 a b), vrow rs.b (biV 64869 a b), vrow rq.b b, vrow rp.b a])⟩
      | [ru, rs, r1, r2, rq, rp] => some ⟨nwBlk, 181, nwNeed i 16 4 65536 rp.b rq.b rs.b ru.b, [vrow ru.b (biV 64902 a b), vrow rs.b (biV 64901 a b), r1, r2, vrow rq.b b, vrow rp.b a], [decide (0 ≤ i), decide (i < 8)], true,
        fun _ ξ => (.normal, nwHav.map fun k => (k, ξ k), [vrow ru.b (biV 64902 a b), vrow rs.b (biV 64901 a b), r1, r2, vrow rq.b b, vrow rp.b a])⟩
      | _ => none
    | _ => none
noncomputable def envN (a b : Nat → Int) (K : List (Nat → Int)) : Env := { P := Try.prog, known := K, sum := sumW, hole := nwHole a b }
theorem envN_ok (a b : Nat → Int) (K : List (Nat → Int)) (hK : ∀ x ∈ K, Byt x) : SumOk (envN a b K) := sumW_ok K hK
theorem four_byt {a b : Nat → Int} (ha : Byt a) (hb : Byt b) (k l : Int) : ∀ x ∈ [a, b, biV k a b, biV l a b], Byt x := by
  intro x hx
  simp only [List.mem_cons, List.not_mem_nil, or_false] at hx
  rcases hx with rfl | rfl | rfl | rfl
  · exact ha
  · exact hb
  · exact bi_byt _ ha
  · exact bi_byt _ ha
theorem nw_holes (a b : Nat → Int) (ha : Byt a) (hb : Byt b) (K : List (Nat → Int)) : HolesOk (envN a b K) := by
  intro id body T M H hq hn hneed hrows hpre w0 w Q hS hQ
  replace hq : nwHole a b id body T M = some H := hq
  unfold nwHole at hq
  split at hq
  · cases hq
  · split at hq
    · rename_i i _
      split at hq
      · rename_i ru rs rq rp
        cases hq
        simp only at hn hneed hrows hpre hQ
        have h0 := hpre _ (List.mem_cons_self ..)
        have h1 := hpre _ (List.mem_cons_of_mem _ (List.mem_cons_self ..))
        simp only [decide_eq_true_eq] at h0 h1
        rw [hrows] at hS
        show nwBlk.wp Try.prog Q ⟨T.toArray, []⟩ w
        rw [vals_eq hn hneed]
        have hfin : ∀ (T' : Tm) w', T'.n = 181 → (∀ p ∈ keepOf (nwNeed i 8 8 256 rp.b rq.b rs.b ru.b) (tget T) 181 nwHav, tget T' p.1 = p.2) → SG w0 [vrow ru.b (biV 64870 a b), vrow rs.b (biV 64869 a b), vrow rq.b b, vrow rp.b a] w' → Q .normal ⟨T'.toArray, []⟩ w' := fun T' w' e1 e2 e3 => by
          rw [hole_T hn e1 hneed e2]
          exact hQ (tget T') w' e3
        have e1 := s_0 a b i h0 h1
        have e2 := u_0 a b i h0 h1
        unfold nwX at e1 e2
        by_cases h : i < 8
        · rw [if_pos h] at e1 e2
          exact wpX_wp (nwR00 (vrow 0 a) (vrow 0 a) rp.b rq.b rs.b ru.b a b _ _ (four_byt ha hb _ _) (tget T) i _ h (by rw [Int.tmod_eq_of_lt h0 h]) e1 e2 hS hfin)
        · rw [if_neg h] at e1 e2
          exact wpX_wp (nwR01 (vrow 0 a) (vrow 0 a) rp.b rq.b rs.b ru.b a b _ _ (four_byt ha hb _ _) (tget T) i _ (by omega) (by rw [IntWalk.i64_in _ (by omega)]) e1 e2 hS hfin)
      · rename_i ru rs r1 r2 rq rp
        cases hq
        simp only at hn hneed hrows hpre hQ
        have h0 := hpre _ (List.mem_cons_self ..)
        have h1 := hpre _ (List.mem_cons_of_mem _ (List.mem_cons_self ..))
        simp only [decide_eq_true_eq] at h0 h1
        rw [hrows] at hS
        show nwBlk.wp Try.prog Q ⟨T.toArray, []⟩ w
        rw [vals_eq hn hneed]
        have hfin : ∀ (T' : Tm) w', T'.n = 181 → (∀ p ∈ keepOf (nwNeed i 16 4 65536 rp.b rq.b rs.b ru.b) (tget T) 181 nwHav, tget T' p.1 = p.2) → SG w0 [vrow ru.b (biV 64902 a b), vrow rs.b (biV 64901 a b), r1, r2, vrow rq.b b, vrow rp.b a] w' → Q .normal ⟨T'.toArray, []⟩ w' := fun T' w' e1 e2 e3 => by
          rw [hole_T hn e1 hneed e2]
          exact hQ (tget T') w' e3
        have e1 := s_1 a b i h0 h1
        have e2 := u_1 a b i h0 h1
        unfold nwX at e1 e2
        by_cases h : i < 4
        · rw [if_pos h] at e1 e2
          exact wpX_wp (nwR10 r1 r2 rp.b rq.b rs.b ru.b a b _ _ (four_byt ha hb _ _) (tget T) i _ h (by rw [Int.tmod_eq_of_lt h0 h]) e1 e2 hS hfin)
        · rw [if_neg h] at e1 e2
          exact wpX_wp (nwR11 r1 r2 rp.b rq.b rs.b ru.b a b _ _ (four_byt ha hb _ _) (tget T) i _ (by omega) (by rw [IntWalk.i64_in _ (by omega)]) e1 e2 hS hfin)
      · cases hq
    · cases hq
/-! ### the law -/
def nrK (a b : Nat → Int) : List (Nat → Int) := [a, b, biV 64869 a b, biV 64870 a b, biV 64901 a b, biV 64902 a b, unV 64903 a, unV 64904 a, unV 64905 a, unV 64906 a, unV 64935 a, unV 64936 a, unV 64937 a, unV 64938 a]
noncomputable def nrPath (a b : Nat → Int) (β : Nat → Fr) : Out := evPath (envN a b (nrK a b)) (envN sA sB (nrK sA sB)) 80 6 [.agg (bs a), .agg (bs b)] [.agg (bs sA), .agg (bs sB)] (.bool true) β
def nrD (a : Nat → Int) : List (Bool × Bool) :=
  [(!(eq16 (biV 64869 (unV 64903 a) (unV 64904 a)) a), false), (!(eq16 (biV 64870 (unV 64905 a) (unV 64906 a)) a), false), (!(eq16 (biV 64901 (unV 64935 a) (unV 64936 a)) a), false), (!(eq16 (biV 64902 (unV 64937 a) (unV 64938 a)) a), false)]
--EVTS nrTs | fun (a b : Nat → Int) (β : Nat → Fr) => (nrPath a b β, nrD a)
def nrTs : List Nat := [0, 4, 3, 3, 3, 0, 0, 3, 0, 0, 3, 3, 3, 3, 3, 0, 0, 3, 3, 3, 3, 3, 3, 3, 3, 0, 0, 0, 0, 0, 0, 0, 0, 0, 0, 0, 0, 0, 0, 0, 0, 0, 0, 0, 0, 0, 0, 0, 0, 0, 0, 0, 0, 0, 0, 0, 0, 0, 0, 0, 0, 0, 0, 0, 0, 0, 0, 0, 0, 2, 1, 1, 1, 0, 0, 1, 0, 0, 1, 1, 1, 1, 1, 0, 0, 1, 1, 1, 1, 1, 1, 1, 1, 0, 0, 0, 0, 0, 0, 0, 0, 0, 0, 0, 0, 0, 0, 0, 0, 0, 0, 0, 0, 0, 0, 0, 0, 0, 0, 0, 0, 0, 0, 0, 0, 0, 0, 0, 0, 0, 0, 0, 0, 0, 0, 0, 0, 0, 0, 0, 0, 0, 0, 0, 0, 0, 0, 0, 0, 0, 0, 0, 0, 0, 0, 0, 0, 0, 0, 0, 0, 0, 0, 0, 0, 0, 0, 0, 0, 0]
theorem nr_fact (op eo1 eo2 v m lo hi V : Int) (n : Nat) (hv : v = 8 ∧ V = 256 ∨ v = 16 ∧ V = 65536) (hL : lanesI v = 2 * n) (a : Nat → Int) (ha : Byt a) (hbi : biV op (unV eo1 a) (unV eo2 a) = naK v m n lo hi (unV eo1 a) (unV eo2 a) n)
    (hx : ∀ i : Nat, i < 2 * n → holdI (nwX (unV eo1 a) (unV eo2 a) m n i) lo hi % V = getI a v i) : eq16 (biV op (unV eo1 a) (unV eo2 a)) a = true := by
  refine eq16_of (ext (bi_byt _ (un_byt _ ha)) ha v (by omega) fun j hj => ?_)
  obtain ⟨h0, h1⟩ := there_iff.1 hj
  rw [hbi, (nar_at v m n lo hi n rfl hL _ _ j h0 (by omega)).1, ← hx j (by omega), IntKind.wrap_u64]
  rcases hv with ⟨rfl, rfl⟩ | ⟨rfl, rfl⟩
  · rw [show (256 : Int) ^ wid 8 = 256 by decide]; omega
  · rw [show (256 : Int) ^ wid 16 = 65536 by decide]; omega
theorem sg_get (v V : Int) (hv : v = 8 ∧ V = 256 ∨ v = 16 ∧ V = 65536) {a : Nat → Int} (ha : Byt a) (i : Int) (ht : thereB v i = true) : sgnI a v i % V = getI a v i ∧ -V ≤ 2 * sgnI a v i ∧ 2 * sgnI a v i < V ∧ 0 ≤ getI a v i ∧ getI a v i < V := by
  have hg := get_bd ha v V (by omega) i
  have hs := sgn_bd ha v V (by omega) i
  refine ⟨?_, hs.1, hs.2, hg.1, hg.2⟩
  unfold sgnI sg
  rw [if_pos ht]
  rcases hv with ⟨rfl, rfl⟩ | ⟨rfl, rfl⟩
  · rw [show ((2 : Int) ^ (((8 : Int)).toNat - 1)) = 128 by decide, show ((2 : Int) ^ ((8 : Int)).toNat) = 256 by decide]
    split <;> omega
  · rw [show ((2 : Int) ^ (((16 : Int)).toNat - 1)) = 32768 by decide, show ((2 : Int) ^ ((16 : Int)).toNat) = 65536 by decide]
    split <;> omega
theorem hold_in {x l h : Int} (h0 : l ≤ x) (h1 : x ≤ h) : holdI x l h = x := by unfold holdI; rw [if_neg (by omega), if_neg (by omega)]
theorem l_s0 (a : Nat → Int) (ha : Byt a) (i : Nat) (hi : i < 8) : sgnI (unV 64903 a) 16 i = sgnI a 8 i ∧ sgnI (unV 64904 a) 16 i = sgnI a 8 (8 + (i : Int)) ∧ getI (unV 64905 a) 16 i = getI a 8 i ∧ getI (unV 64906 a) 16 i = getI a 8 (8 + (i : Int)) := by
  have h1 := exL_0_0 a a ha ha i hi
  have h2 := exL_0_1 a a ha ha i hi
  have e1 := h1 _ (List.mem_cons_self ..)
  have e2 := h1 _ (List.mem_cons_of_mem _ (List.mem_cons_self ..))
  have e3 := h2 _ (List.mem_cons_self ..)
  have e4 := h2 _ (List.mem_cons_of_mem _ (List.mem_cons_self ..))
  simp only [bne_eq_false_iff_eq] at e1 e2 e3 e4
  exact ⟨e1, e3, e2, e4⟩
theorem u_s0 (b : Nat → Int) (i q : Int) (hg : getI b 16 i = q) (ht : thereB 16 i = true) (h1 : q < 256) : sgnI b 16 i = q := by
  unfold sgnI sg
  rw [if_pos ht, hg, show ((2 ^ (((16 : Int)).toNat - 1)) : Int) = 32768 by decide, if_neg (by omega)]
theorem nx_s0 (a : Nat → Int) (ha : Byt a) (i : Nat) (hi : i < 2 * 8) : nwX (unV 64903 a) (unV 64904 a) 16 8 i = sgnI a 8 i ∧ nwX (unV 64905 a) (unV 64906 a) 16 8 i = getI a 8 i := by
  unfold nwX
  by_cases h : i < 8
  · rw [if_pos (by omega), if_pos (by omega)]
    obtain ⟨e1, _, e3, _⟩ := l_s0 a ha i h
    have ht : thereB 16 (i : Int) = true := there_iff.2 ⟨by omega, by unfold lanesI; simp; omega⟩
    exact ⟨e1, u_s0 _ _ _ e3 ht (get_bd ha 8 256 (by omega) _).2⟩
  · rw [if_neg (by omega), if_neg (by omega)]
    obtain ⟨_, e2, _, e4⟩ := l_s0 a ha (i - 8) (by omega)
    have ht : thereB 16 ((i - 8 : Nat) : Int) = true := there_iff.2 ⟨by omega, by unfold lanesI; simp; omega⟩
    have e5 := u_s0 _ _ _ e4 ht (get_bd ha 8 256 (by omega) _).2
    rw [show (((i - 8 : Nat) : Int)) = (i : Int) - 8 by omega] at e2 e5
    rw [e2, e5, show (8 : Int) + ((i : Int) - 8) = i by omega]
    exact ⟨rfl, rfl⟩
theorem nf_64869 (a : Nat → Int) (ha : Byt a) : eq16 (biV 64869 (unV 64903 a) (unV 64904 a)) a = true :=
  nr_fact 64869 64903 64904 8 16 (-128) 127 256 8 (by omega) rfl a ha (bi_64869 _ _) fun i hi => by
    have ht : thereB 8 (i : Int) = true := there_iff.2 ⟨by omega, by unfold lanesI; simp; omega⟩
    obtain ⟨e1, e2, e3, _, _⟩ := sg_get 8 256 (by omega) ha i ht
    refine (congrArg (fun z => holdI z (-128) 127 % 256) (nx_s0 a ha i hi).1).trans ?_
    show holdI _ _ _ % _ = _
    rw [hold_in (by omega) (by omega)]
    exact e1
theorem nf_64870 (a : Nat → Int) (ha : Byt a) : eq16 (biV 64870 (unV 64905 a) (unV 64906 a)) a = true :=
  nr_fact 64870 64905 64906 8 16 0 255 256 8 (by omega) rfl a ha (bi_64870 _ _) fun i hi => by
    have ht : thereB 8 (i : Int) = true := there_iff.2 ⟨by omega, by unfold lanesI; simp; omega⟩
    obtain ⟨_, _, _, e4, e5⟩ := sg_get 8 256 (by omega) ha i ht
    refine (congrArg (fun z => holdI z (0) 255 % 256) (nx_s0 a ha i hi).2).trans ?_
    show holdI _ _ _ % _ = _
    rw [hold_in (by omega) (by omega)]
    exact Int.emod_eq_of_lt e4 e5
theorem l_s1 (a : Nat → Int) (ha : Byt a) (i : Nat) (hi : i < 4) : sgnI (unV 64935 a) 32 i = sgnI a 16 i ∧ sgnI (unV 64936 a) 32 i = sgnI a 16 (4 + (i : Int)) ∧ getI (unV 64937 a) 32 i = getI a 16 i ∧ getI (unV 64938 a) 32 i = getI a 16 (4 + (i : Int)) := by
  have h1 := exL_32_0 a a ha ha i hi
  have h2 := exL_32_1 a a ha ha i hi
  have e1 := h1 _ (List.mem_cons_self ..)
  have e2 := h1 _ (List.mem_cons_of_mem _ (List.mem_cons_self ..))
  have e3 := h2 _ (List.mem_cons_self ..)
  have e4 := h2 _ (List.mem_cons_of_mem _ (List.mem_cons_self ..))
  simp only [bne_eq_false_iff_eq] at e1 e2 e3 e4
  exact ⟨e1, e3, e2, e4⟩
theorem u_s1 (b : Nat → Int) (i q : Int) (hg : getI b 32 i = q) (ht : thereB 32 i = true) (h1 : q < 65536) : sgnI b 32 i = q := by
  unfold sgnI sg
  rw [if_pos ht, hg, show ((2 ^ (((32 : Int)).toNat - 1)) : Int) = 2147483648 by decide, if_neg (by omega)]
theorem nx_s1 (a : Nat → Int) (ha : Byt a) (i : Nat) (hi : i < 2 * 4) : nwX (unV 64935 a) (unV 64936 a) 32 4 i = sgnI a 16 i ∧ nwX (unV 64937 a) (unV 64938 a) 32 4 i = getI a 16 i := by
  unfold nwX
  by_cases h : i < 4
  · rw [if_pos (by omega), if_pos (by omega)]
    obtain ⟨e1, _, e3, _⟩ := l_s1 a ha i h
    have ht : thereB 32 (i : Int) = true := there_iff.2 ⟨by omega, by unfold lanesI; simp; omega⟩
    exact ⟨e1, u_s1 _ _ _ e3 ht (get_bd ha 16 65536 (by omega) _).2⟩
  · rw [if_neg (by omega), if_neg (by omega)]
    obtain ⟨_, e2, _, e4⟩ := l_s1 a ha (i - 4) (by omega)
    have ht : thereB 32 ((i - 4 : Nat) : Int) = true := there_iff.2 ⟨by omega, by unfold lanesI; simp; omega⟩
    have e5 := u_s1 _ _ _ e4 ht (get_bd ha 16 65536 (by omega) _).2
    rw [show (((i - 4 : Nat) : Int)) = (i : Int) - 4 by omega] at e2 e5
    rw [e2, e5, show (4 : Int) + ((i : Int) - 4) = i by omega]
    exact ⟨rfl, rfl⟩
theorem nf_64901 (a : Nat → Int) (ha : Byt a) : eq16 (biV 64901 (unV 64935 a) (unV 64936 a)) a = true :=
  nr_fact 64901 64935 64936 16 32 (-32768) 32767 65536 4 (by omega) rfl a ha (bi_64901 _ _) fun i hi => by
    have ht : thereB 16 (i : Int) = true := there_iff.2 ⟨by omega, by unfold lanesI; simp; omega⟩
    obtain ⟨e1, e2, e3, _, _⟩ := sg_get 16 65536 (by omega) ha i ht
    refine (congrArg (fun z => holdI z (-32768) 32767 % 65536) (nx_s1 a ha i hi).1).trans ?_
    show holdI _ _ _ % _ = _
    rw [hold_in (by omega) (by omega)]
    exact e1
theorem nf_64902 (a : Nat → Int) (ha : Byt a) : eq16 (biV 64902 (unV 64937 a) (unV 64938 a)) a = true :=
  nr_fact 64902 64937 64938 16 32 0 65535 65536 4 (by omega) rfl a ha (bi_64902 _ _) fun i hi => by
    have ht : thereB 16 (i : Int) = true := there_iff.2 ⟨by omega, by unfold lanesI; simp; omega⟩
    obtain ⟨_, _, _, e4, e5⟩ := sg_get 16 65536 (by omega) ha i ht
    refine (congrArg (fun z => holdI z (0) 65535 % 65536) (nx_s1 a ha i hi).2).trans ?_
    show holdI _ _ _ % _ = _
    rw [hold_in (by omega) (by omega)]
    exact Int.emod_eq_of_lt e4 e5
theorem nrD_ok (a : Nat → Int) (ha : Byt a) : ∀ p ∈ nrD a, p.1 = p.2 := by
  intro p hp
  unfold nrD at hp
  simp only [List.mem_cons, List.not_mem_nil, or_false] at hp
  rcases hp with rfl | rfl | rfl | rfl
  · rw [nf_64869 a ha]; rfl
  · rw [nf_64870 a ha]; rfl
  · rw [nf_64901 a ha]; rfl
  · rw [nf_64902 a ha]; rfl
theorem nrK_byt (a b : Nat → Int) (ha : Byt a) (hb : Byt b) : ∀ x ∈ nrK a b, Byt x := by
  intro x hx
  unfold nrK at hx
  simp only [List.mem_cons, List.not_mem_nil, or_false] at hx
  repeat' (first | (rcases hx with rfl | hx) | subst hx)
  all_goals first | exact ha | exact hb | exact un_byt _ ha | exact bi_byt _ ha
theorem nar_walk (a b : Nat → Int) (ha : Byt a) (hb : Byt b) (w : World) : Calls Try.prog 6 #[.agg (bs a), .agg (bs b)] w fun e w' => e = .returned (.bool true) ∧ Gr w w' :=
  ev_path (E := envN a b (nrK a b)) (E' := envN sA sB (nrK sA sB)) rfl (envN_ok a b _ (nrK_byt a b ha hb)) (fuel := 80) (args' := [.agg (bs sA), .agg (bs sB)]) (nrD a) nrTs (nrD_ok a ha) (fun β => by kernel_rfl) w (nw_holes a b ha hb _)
end Wd
end Go.Proofs.Ytkccaaieadgdbaa
