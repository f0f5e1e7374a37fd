/-
  PairBack: what Put and Take give one another.
-/
import Derived.Test.YthpnhanabcipmaaImages
import Derived.Test.YthpnhanabcipmaaAppend
namespace Go.Proofs.Ythpnhanabcipmaa
open Go.RowKit VecM
theorem putE_len_ok {t : Int} (v : Nat → Int) (h : needI t ≠ 0) : ((putE t v).length : Int) = needI t := by
  unfold putE
  by_cases h1 : t = 127
  · rw [if_pos h1, h1]; rfl
  · rw [if_neg h1]
    by_cases h2 : t = 126
    · rw [if_pos h2, h2]; rfl
    · rw [if_neg h2]
      have h3 : t = 123 := by
        unfold needI at h
        by_cases h3 : t = 123
        · exact h3
        · rw [if_neg (by omega), if_neg h3] at h; exact absurd rfl h
      rw [h3]; rfl
theorem putL_len_ok (ts : Nat → Int) (vs : Nat → Nat → Int) : ∀ n, okT ts n → (putL ts vs n).length = needN ts n
  | 0, _ => by simp [putL, needN, needS]
  | n + 1, h => by
    have h1 := putL_len_ok ts vs n (fun j hj => h j (by omega))
    have h2 := putE_len_ok (vs n) (h n (by omega))
    have h3 := needN_succ ts n
    simp only [putL, List.length_append]
    omega
theorem putL_at (ts : Nat → Int) (vs : Nat → Nat → Int) (k r : Nat) : ∀ n, okT ts n → k < n → r < (putE (ts k) (vs k)).length → (putL ts vs n)[needN ts k + r]? = (putE (ts k) (vs k))[r]?
  | 0, _, h, _ => by omega
  | n + 1, ho, h, hr => by
    have ho' : okT ts n := fun j hj => ho j (by omega)
    have hlen := putL_len_ok ts vs n ho'
    simp only [putL]
    by_cases hk : k = n
    · subst hk
      rw [List.getElem?_append_right (by omega), hlen, Nat.add_sub_cancel_left]
    · have h1 := putL_at ts vs k r n ho' (by omega) hr
      have h2 : needN ts k + r < (putL ts vs n).length := by
        have hq : (putE (ts k) (vs k))[r]? = some _ := List.getElem?_eq_getElem hr
        rw [hq] at h1
        exact (List.getElem?_eq_some_iff.1 h1).1
      rw [List.getElem?_append_left h2, h1]
def lst (l : List Int) (j : Nat) : Int := l.getD j 0
theorem lst_at (ts : Nat → Int) (vs : Nat → Nat → Int) {k r n : Nat} (ho : okT ts n) (hk : k < n) (hr : r < (putE (ts k) (vs k)).length) : lst (putL ts vs n) (needN ts k + r) = (putE (ts k) (vs k)).getD r 0 := by
  unfold lst
  rw [List.getD_eq_getElem?_getD, List.getD_eq_getElem?_getD, putL_at ts vs k r n ho hk hr]
/-- a value cut to its type -/
def wantV (t : Int) (v : Nat → Int) : Nat → Int := if t = 127 then setI (fun _ => 0) 32 0 (getI v 32 0) else if t = 126 then setI (fun _ => 0) 64 0 (getI v 64 0) else v
theorem two_byt {b : Nat → Int} (hb : Byt b) : ∀ m, m < 16 → setI (setI (fun _ => 0) 64 0 (getI b 64 0)) 64 1 (getI b 64 1) m = b m := by
  have h0 : Byt (fun _ : Nat => (0 : Int)) := zero_byt
  refine ext (setI_byt (setI_byt h0 _ _ _) _ _ _) hb 64 (by decide) fun j hj => ?_
  have hj2 := (there_iff.1 hj).2
  rw [show lanesI 64 = 2 by decide] at hj2
  have hbd := fun i => getI_bd hb 64 i
  match j, hj2 with
  | 0, _ => rw [get_set_other _ _ _ _ _ (by decide)]; rw [show ((0 : Nat) : Int) = 0 from rfl, get_set _ _ _ _ (by decide)]; exact Int.emod_eq_of_lt (hbd 0).1 (hbd 0).2
  | 1, _ => rw [show ((1 : Nat) : Int) = 1 from rfl, get_set _ _ _ _ (by decide)]; exact Int.emod_eq_of_lt (hbd 1).1 (hbd 1).2
  | k + 2, h => omega
theorem back_vec {ts : Nat → Int} {vs : Nat → Nat → Int} (hvs : ∀ j, Byt (vs j)) {k n : Nat} (ho : okT ts n) (hk : k < n) : ∀ m, m < 16 → takeV ts (lst (putL ts vs n)) k m = wantV (ts k) (vs k) m := by
  have h0 : ∀ r, r < (putE (ts k) (vs k)).length → lst (putL ts vs n) (needN ts k + r) = (putE (ts k) (vs k)).getD r 0 := fun r hr => lst_at ts vs ho hk hr
  have hkk := ho k hk
  unfold takeV wantV
  by_cases h1 : ts k = 127
  · have h2 := h0 0 (by unfold putE; rw [if_pos h1]; simp)
    rw [Nat.add_zero] at h2
    intro m _
    rw [if_pos h1, if_pos h1, h2]; unfold putE; rw [if_pos h1]; rfl
  · by_cases h3 : ts k = 126
    · have h2 := h0 0 (by unfold putE; rw [if_neg h1, if_pos h3]; simp)
      rw [Nat.add_zero] at h2
      intro m _
      rw [if_neg h1, if_neg h1, if_pos h3, if_pos h3, h2]; unfold putE; rw [if_neg h1, if_pos h3]; rfl
    · have hl : (putE (ts k) (vs k)) = [getI (vs k) 64 0, getI (vs k) 64 1] := by unfold putE; rw [if_neg h1, if_neg h3]
      have h2 := h0 0 (by rw [hl]; simp)
      have h4 := h0 1 (by rw [hl]; simp)
      rw [Nat.add_zero] at h2
      rw [if_neg h1, if_neg h1, if_neg h3, if_neg h3, h2, h4, hl]
      exact two_byt (hvs k)
theorem back_bs {ts : Nat → Int} {vs : Nat → Nat → Int} (hvs : ∀ j, Byt (vs j)) {k n : Nat} (ho : okT ts n) (hk : k < n) : bs (takeV ts (lst (putL ts vs n)) k) = bs (wantV (ts k) (vs k)) :=
  bs_congr (back_vec hvs ho hk)
end Go.Proofs.Ythpnhanabcipmaa
