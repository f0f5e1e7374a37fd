/-
  Of layer 21: SplitBack: images and halves, as numbers. Of no program's function.
-/
import Derived.Test.YthpnhanabcipmaaBackM
import Derived.Test.YthpnhanabcipmaaSpJn
namespace Go.Proofs.Ythpnhanabcipmaa
open Go.RowKit VecM
namespace Sp
theorem imE_len_ok {t : Int} (h : needI t ≠ 0) : ((imE t).length : Int) = needI t := by
  unfold imE
  by_cases h1 : t = 127
  · rw [if_pos h1, h1]; rfl
  · rw [if_neg h1]
    by_cases h2 : t = 126
    · rw [if_pos h2, h2]; rfl
    · rw [if_neg h2]
      have h3 : t = 123 := by
        unfold needI at h
        by_cases h3 : t = 123
        · exact h3
        · rw [if_neg (by omega), if_neg h3] at h; exact absurd rfl h
      rw [h3]; rfl
theorem imL_len_ok (ts : Nat → Int) : ∀ n, okT ts n → (imL ts n).length = needN ts n
  | 0, _ => by simp [imL, needN, needS]
  | n + 1, h => by
    have h1 := imL_len_ok ts n (fun j hj => h j (by omega))
    have h2 := imE_len_ok (h n (by omega))
    have h3 := needN_succ ts n
    simp only [imL, List.length_append]
    omega
theorem mod_low {b : Nat → Int} (hb : Byt b) : getI b 64 0 % 4294967296 = getI b 32 0 := by
  have e1 : getI b 64 0 = sumN b 0 8 := by unfold getI; rw [if_pos (by decide)]; rfl
  have e2 : getI b 32 0 = sumN b 0 4 := by unfold getI; rw [if_pos (by decide)]; rfl
  rw [e1, e2]
  have h0 := hb 0
  have h1 := hb 1
  have h2 := hb 2
  have h3 := hb 3
  simp only [sumN, Nat.zero_add]
  omega
theorem and_low {x : Int} (h0 : 0 ≤ x) (h1 : x < 18446744073709551616) : Go.bits .and .u64 x 4294967295 = x % 4294967296 := by
  obtain ⟨n, rfl⟩ := Int.eq_ofNat_of_zero_le h0
  have e1 : (BitVec.ofInt 64 (n : Int)).toNat = n := by
    rw [BitVec.toNat_ofInt]
    omega
  have e2 : (BitVec.ofInt 64 (4294967295 : Int)).toNat = 4294967295 := by decide
  have e3 : (BitVec.ofInt 64 (n : Int) &&& BitVec.ofInt 64 (4294967295 : Int)).toNat = n % 4294967296 := by
    rw [BitVec.toNat_and, e1, e2]
    exact Nat.and_two_pow_sub_one_eq_mod n 32
  unfold Go.bits
  show IntKind.u64.wrap ((BitVec.ofInt 64 (n : Int) &&& BitVec.ofInt 64 (4294967295 : Int)).toNat : Int) = _
  rw [e3, IntKind.wrap_u64]
  omega
/-- types and halves side by side -/
structure Pr (l h : List Int) : Prop where
  len : l.length = h.length
  ty : ∀ i, i < l.length → l.getD i 0 = 127 ∨ l.getD i 0 = 126
  bd : ∀ i, i < l.length → 0 ≤ h.getD i 0 ∧ h.getD i 0 < 18446744073709551616
  lo : ∀ i, i < l.length → l.getD i 0 = 127 → h.getD i 0 < 4294967296
theorem app_l {l l' : List Int} {i : Nat} (h : i < l.length) : (l ++ l').getD i 0 = l.getD i 0 := by
  rw [List.getD_eq_getElem?_getD, List.getD_eq_getElem?_getD, List.getElem?_append_left h]
theorem app_r {l l' : List Int} {i : Nat} (h : ¬ i < l.length) : (l ++ l').getD i 0 = l'.getD (i - l.length) 0 := by
  rw [List.getD_eq_getElem?_getD, List.getD_eq_getElem?_getD, List.getElem?_append_right (by omega)]
theorem Pr.app {l h l' h' : List Int} (p : Pr l h) (q : Pr l' h') : Pr (l ++ l') (h ++ h') := by
  have e := p.len
  have e' := q.len
  refine ⟨by simp only [List.length_append]; omega, fun i hi => ?_, fun i hi => ?_, fun i hi => ?_⟩
  all_goals
    rw [List.length_append] at hi
    by_cases c : i < l.length
    · first
        | (rw [app_l c]; exact p.ty i c)
        | (rw [app_l (l := h) (by omega)]; exact p.bd i c)
        | (rw [app_l c, app_l (l := h) (by omega)]; exact p.lo i c)
    · first
        | (rw [app_r c]; exact q.ty _ (by omega))
        | (rw [app_r (l := h) (by omega), ← e]; exact q.bd _ (by omega))
        | (rw [app_r c, app_r (l := h) (by omega), ← e]; exact q.lo _ (by omega))
theorem pr_one {t : Int} {v : Nat → Int} (hv : Byt v) (h : needI t ≠ 0) : Pr (imE t) (putE t v) := by
  have b64 := fun i => getI_bd hv 64 i
  have b32 := fun i => getI_bd hv 32 i
  have w64 : (256 : Int) ^ wid 64 = 18446744073709551616 := by decide
  have w32 : (256 : Int) ^ wid 32 = 4294967296 := by decide
  have c0 := b64 0
  have c1 := b64 1
  have d0 := b32 0
  rw [w64] at c0 c1
  rw [w32] at d0
  unfold imE putE
  by_cases h1 : t = 127
  · rw [if_pos h1, if_pos h1]
    refine ⟨rfl, fun i hi => ?_, fun i hi => ?_, fun i hi _ => ?_⟩
    all_goals
      obtain rfl : i = 0 := by simpa using hi
      first | exact .inl rfl | exact ⟨d0.1, by show getI v 32 0 < _; omega⟩ | exact d0.2
  · rw [if_neg h1, if_neg h1]
    by_cases h2 : t = 126
    · rw [if_pos h2, if_pos h2]
      refine ⟨rfl, fun i hi => ?_, fun i hi => ?_, fun i hi hq => ?_⟩
      · obtain rfl : i = 0 := by simpa using hi
        exact .inr rfl
      · obtain rfl : i = 0 := by simpa using hi
        exact c0
      · obtain rfl : i = 0 := by simpa using hi
        exact absurd hq (by decide)
    · rw [if_neg h2, if_neg h2]
      have h3 : t = 123 := by
        unfold needI at h
        by_cases h3 : t = 123
        · exact h3
        · rw [if_neg (by omega), if_neg h3] at h; exact absurd rfl h
      rw [if_pos h3]
      refine ⟨rfl, fun i hi => ?_, fun i hi => ?_, fun i hi hq => ?_⟩
      · have : i = 0 ∨ i = 1 := by simp at hi; omega
        rcases this with rfl | rfl <;> exact .inr rfl
      · have : i = 0 ∨ i = 1 := by simp at hi; omega
        rcases this with rfl | rfl
        · exact c0
        · exact c1
      · have : i = 0 ∨ i = 1 := by simp at hi; omega
        rcases this with rfl | rfl <;> exact absurd hq (by decide)
theorem pr_all {ts : Nat → Int} {vs : Nat → Nat → Int} (hv : ∀ j, Byt (vs j)) : ∀ n, okT ts n → Pr (imL ts n) (putL ts vs n)
  | 0, _ => ⟨rfl, fun _ h => absurd h (by simp [imL]), fun _ h => absurd h (by simp [imL]), fun _ h => absurd h (by simp [imL])⟩
  | n + 1, h => (pr_all hv n (fun j hj => h j (by omega))).app (pr_one (hv n) (h n (by omega)))
/-! ### an image's image -/
section
variable {l : List Int} (hl : ∀ i, i < l.length → l.getD i 0 = 127 ∨ l.getD i 0 = 126)
include hl
theorem need_im {i : Nat} (h : i < l.length) : needI (l.getD i 0) = 1 := by
  rcases hl i h with e | e <;> rw [e] <;> rfl
theorem ok_im : okT (fun j => l.getD j 0) l.length := fun j hj => by
  show needI (l.getD j 0) ≠ 0
  rw [need_im hl hj]; decide
theorem needN_im : ∀ i, i ≤ l.length → needN (fun j => l.getD j 0) i = i
  | 0, _ => by simp [needN, needS]
  | i + 1, h => by
    have h1 := needN_im i (by omega)
    have h2 := needN_succ (fun j => l.getD j 0) i
    have h3 : needI ((fun j => l.getD j 0) i) = 1 := need_im hl (by omega)
    rw [h3] at h2
    omega
theorem im_im : ∀ i, i ≤ l.length → imL (fun j => l.getD j 0) i = l.take i
  | 0, _ => rfl
  | i + 1, h => by
    rw [imL, im_im i (by omega), List.take_add_one, List.getElem?_eq_getElem (by omega)]
    congr 1
    show imE (l.getD i 0) = [l[i]]
    have e : l[i] = l.getD i 0 := by rw [List.getD_eq_getElem?_getD, List.getElem?_eq_getElem (by omega)]; rfl
    rw [e]
    rcases hl i (by omega) with e | e <;> rw [e] <;> rfl
theorem im_self : imL (fun j => l.getD j 0) l.length = l := by rw [im_im hl _ (Nat.le_refl _), List.take_length]
end
theorem again_at {l h : List Int} (p : Pr l h) {i : Nat} (hi : i < l.length) :
    (putL (fun j => l.getD j 0) (takeV (fun j => l.getD j 0) fun j => h.getD j 0) l.length).getD i 0 = h.getD i 0 := by
  have e := needN_im p.ty i (by omega)
  have h1 := lst_at (fun j => l.getD j 0) (takeV (fun j => l.getD j 0) fun j => h.getD j 0) (r := 0) (ok_im p.ty) hi (by
    show 0 < (putE (l.getD i 0) _).length
    rcases p.ty i hi with q | q <;> rw [q] <;> exact Nat.zero_lt_one)
  rw [e, Nat.add_zero] at h1
  unfold lst at h1
  rw [h1]
  obtain ⟨b0, b1⟩ := p.bd i hi
  have b2 := p.lo i hi
  show (putE (l.getD i 0) (takeV _ _ i)).getD 0 0 = _
  unfold takeV
  rcases p.ty i hi with q | q
  · have q1 : (fun j => l.getD j 0) i = 127 := q
    rw [q, if_pos q1, e]
    show getI (setI (fun _ => 0) 32 0 (h.getD i 0)) 32 0 = _
    rw [get_set _ _ _ _ (by decide)]
    exact Int.emod_eq_of_lt b0 (b2 q)
  · have q1 : (fun j => l.getD j 0) i = 126 := q
    have q2 : ¬ (fun j => l.getD j 0) i = 127 := by rw [q1]; decide
    rw [q, if_neg q2, if_pos q1, e]
    show getI (setI (fun _ => 0) 64 0 (h.getD i 0)) 64 0 = _
    rw [get_set _ _ _ _ (by decide)]
    exact Int.emod_eq_of_lt b0 b1
theorem take_byt (ts zs : Nat → Int) (k : Nat) : Byt (takeV ts zs k) := by
  have h0 : Byt (fun _ : Nat => (0 : Int)) := zero_byt
  unfold takeV
  split
  · exact setI_byt h0 _ _ _
  · split
    · exact setI_byt h0 _ _ _
    · exact setI_byt (setI_byt h0 _ _ _) _ _ _
end Sp
end Go.Proofs.Ythpnhanabcipmaa
