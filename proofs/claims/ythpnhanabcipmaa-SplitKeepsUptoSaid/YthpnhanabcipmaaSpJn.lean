/-
  Of layer 21: SplitJoins: the image of two rows.
-/
import Derived.Test.YthpnhanabcipmaaSpAk
import Derived.Test.YthpnhanabcipmaaSpOpd
import Derived.Test.YthpnhanabcipmaaSteady
namespace Go.Proofs.Ythpnhanabcipmaa
open Go.RowKit VecM Ev
namespace Sp
/-! ### images of two rows -/
def jn (z0 z1 : Nat → Int) (n0 : Nat) (j : Nat) : Int := if j < n0 then z0 j else z1 (j - n0)
theorem imL_congr {z z' : Nat → Int} : ∀ n, (∀ j, j < n → z j = z' j) → imL z n = imL z' n
  | 0, _ => rfl
  | n + 1, h => by rw [imL, imL, imL_congr n (fun j hj => h j (by omega)), h n (by omega)]
theorem imL_jn (z0 z1 : Nat → Int) (n0 : Nat) : ∀ n, imL (jn z0 z1 n0) (n0 + n) = imL z0 n0 ++ imL z1 n
  | 0 => by
    rw [Nat.add_zero, imL_congr n0 (z' := z0) (fun j hj => by unfold jn; rw [if_pos hj])]
    simp [imL]
  | n + 1 => by
    have e : jn z0 z1 n0 (n0 + n) = z1 n := by unfold jn; rw [if_neg (by omega)]; congr 1; omega
    rw [← Nat.add_assoc, imL, imL_jn z0 z1 n0 n, e, imL, List.append_assoc]
theorem imE_mem {t x : Int} (h : x ∈ imE t) : x = 127 ∨ x = 126 := by
  unfold imE at h
  split at h
  · simp at h; omega
  · split at h
    · simp at h; omega
    · split at h
      · simp at h; omega
      · simp at h
theorem imL_mem {z : Nat → Int} {x : Int} : ∀ {n}, x ∈ imL z n → x = 127 ∨ x = 126
  | 0, h => by simp [imL] at h
  | n + 1, h => by
    rw [imL] at h
    rcases List.mem_append.1 h with h | h
    · exact imL_mem h
    · exact imE_mem h
theorem imL_at {z : Nat → Int} {n j : Nat} (h : j < (imL z n).length) : (imL z n).getD j 0 = 127 ∨ (imL z n).getD j 0 = 126 := by
  rw [List.getD_eq_getElem?_getD, List.getElem?_eq_getElem h]
  exact imL_mem (List.getElem_mem h)
theorem ofL_at {z : Nat → Int} : ∀ {n j : Nat}, j < n → (ofL z n).getD j 0 = ((imL z j).length : Int)
  | n + 1, j, h => by
    rw [ofL]
    by_cases e : j = n
    · subst e
      rw [List.getD_eq_getElem?_getD, List.getElem?_append_right (by rw [ofL_len]; omega), ofL_len, Nat.sub_self]
      rfl
    · have := ofL_at (z := z) (n := n) (j := j) (by omega)
      rw [List.getD_eq_getElem?_getD] at this ⊢
      rw [List.getElem?_append_left (by rw [ofL_len]; omega)]
      exact this
theorem zl_jn (z0 z1 : Nat → Int) (n0 n1 : Nat) : ∀ j, j < n0 + n1 → (zl z0 n0 ++ zl z1 n1).getD j 0 = jn z0 z1 n0 j := fun j hj => by
  unfold jn
  by_cases h : j < n0
  · rw [if_pos h, ← zl_get z0 h, List.getD_eq_getElem?_getD, List.getD_eq_getElem?_getD, List.getElem?_append_left (by rw [zl_len]; exact h)]
  · rw [if_neg h, ← zl_get z1 (show j - n0 < n1 by omega), List.getD_eq_getElem?_getD, List.getD_eq_getElem?_getD, List.getElem?_append_right (by rw [zl_len]; omega), zl_len]
theorem i64s_congr {w : World} {v : Value} {n : Nat} {z z' : Nat → Int} (h : I64s w v n z) (he : ∀ j, j < n → z j = z' j) : I64s w v n z' := by
  rcases h with h | ⟨hl, b, off, cap, rfl, hc⟩
  · exact .inl h
  · exact .inr ⟨hl, b, off, cap, rfl, fun j hj => by rw [← he j hj]; exact hc j hj⟩
/-- an own row as a slice: nil, or its cells with room -/
theorem own_room {w : World} {base : Nat} {e : TypeId} {v : Value} {n : Nat} {l : List Int} (h : w.ownsRow base e 1 v n (ivs l)) (hl : l.length = n) :
    (v = .slice none 0 0 ∧ n = 0) ∨ ∃ g cap, v = .slice (some ⟨g, 0, none⟩) n cap ∧ n ≤ cap ∧ n ≤ 9223372036854775807 ∧ ∀ j, j < n → w.cell? ⟨g, j, none⟩ = some (.int .i64 (l.getD j 0)) := by
  subst hl
  rcases h.2 with ⟨h1, h2⟩ | ⟨g, cap, cur, rfl, hb, hh, hn, hcap, hsz, htk⟩
  · exact .inl ⟨h1, h2⟩
  · refine .inr ⟨g, cap, rfl, hn, by unfold maxLen at hcap; omega, fun j hj => ?_⟩
    rw [cell_of_row _ _ j _ _ _ hh]
    have := ivs_get l j hj
    rw [← htk, Nat.mul_one, List.getElem?_take, if_pos hj] at this
    simpa using this
theorem room_head {w : World} {x : Option Addr} {c : Nat} {L0 L1 : List Int} (h : (Value.slice x (L0 ++ L1).length c = .slice none 0 0 ∧ (L0 ++ L1).length = 0) ∨ ∃ g cap, Value.slice x (L0 ++ L1).length c = .slice (some ⟨g, 0, none⟩) (L0 ++ L1).length cap ∧ (L0 ++ L1).length ≤ cap ∧ (L0 ++ L1).length ≤ 9223372036854775807 ∧ ∀ j, j < (L0 ++ L1).length → w.cell? ⟨g, j, none⟩ = some (.int .i64 ((L0 ++ L1).getD j 0))) :
    I64s w (.slice x L0.length c) L0.length fun j => L0.getD j 0 := by
  rcases h with ⟨_, h⟩ | ⟨g, cap, h1, h2, h3, h4⟩
  · rw [List.length_append] at h
    have e : L0.length = 0 := by omega
    exact .inl ⟨e, x, c, by rw [e]⟩
  · injection h1 with h1 _ h5
    subst h1 h5
    rw [List.length_append] at h2 h3 h4
    refine .inr ⟨by omega, g, 0, c, rfl, fun j hj => ?_⟩
    show _ = some (Value.int .i64 (L0.getD j 0))
    rw [Nat.zero_add, h4 j (by omega), List.getD_eq_getElem?_getD, List.getD_eq_getElem?_getD, List.getElem?_append_left hj]
theorem room_none {w : World} {x : Option Addr} {n c : Nat} {z : Nat → Int} (h : n = 0) : I64s w (.slice x n c) n z := .inl ⟨h, x, c, by rw [h]⟩
theorem room_tail {w : World} {x : Option Addr} {c : Nat} {L0 L1 : List Int} (h : (Value.slice x (L0 ++ L1).length c = .slice none 0 0 ∧ (L0 ++ L1).length = 0) ∨ ∃ g cap, Value.slice x (L0 ++ L1).length c = .slice (some ⟨g, 0, none⟩) (L0 ++ L1).length cap ∧ (L0 ++ L1).length ≤ cap ∧ (L0 ++ L1).length ≤ 9223372036854775807 ∧ ∀ j, j < (L0 ++ L1).length → w.cell? ⟨g, j, none⟩ = some (.int .i64 ((L0 ++ L1).getD j 0))) (c' : Nat) :
    I64s w (.slice (Option.map (fun y => y.add L0.length) x) L1.length c') L1.length fun j => L1.getD j 0 := by
  rcases h with ⟨_, h⟩ | ⟨g, cap, h1, h2, h3, h4⟩
  · rw [List.length_append] at h
    exact room_none (by omega)
  · injection h1 with h1 _ h5
    subst h1 h5
    rw [List.length_append] at h2 h3 h4
    have e : (⟨g, 0, none⟩ : Addr).add L0.length = ⟨g, L0.length, none⟩ := by unfold Addr.add; split <;> simp_all
    refine .inr ⟨by omega, g, L0.length, c', by simp [e], fun j hj => ?_⟩
    show _ = some (Value.int .i64 (L1.getD j 0))
    rw [h4 (L0.length + j) (by omega), List.getD_eq_getElem?_getD, List.getD_eq_getElem?_getD, List.getElem?_append_right (by omega), Nat.add_sub_cancel_left]
theorem ls_refl' (l : List Int) : ∀ j, j < l.length → l.getD j 0 = l.getD j 0 := fun _ _ => rfl
theorem jn_oneC (l : List Int) : ∀ u ∈ ivs l, u.oneCell' = true := fun u hu => by
  unfold ivs at hu
  obtain ⟨x, _, rfl⟩ := List.mem_map.1 hu
  rfl
end Sp
end Go.Proofs.Ythpnhanabcipmaa
