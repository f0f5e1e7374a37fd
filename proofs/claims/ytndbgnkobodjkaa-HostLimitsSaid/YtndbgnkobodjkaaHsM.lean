/-
  Of layer 16, plain: rows of numbers and of events in a world; a host's state. Of no program's function.
-/
import Derived.Test.YtndbgnkobodjkaaImages
import Derived.Test.YtndbgnkobodjkaaAppend
import Derived.Test.YtndbgnkobodjkaaFac
import Derived.OwnWalk
namespace Go.Proofs.Ytndbgnkobodjkaa
open Go.RowKit VecM
namespace Hs
/-- a slice of uint64 that reads as the list l, its room no less than its length -/
def Us (w : World) (v : Value) (l : List Int) : Prop := U64c w v l.length fun j => l.getD j 0
/-- the block that a slice's value names lies in D -/
def InB (D : Nat → Prop) (v : Value) : Prop := ∀ k, v.ownBlock = some k → D k
theorem uvs_len (l : List Int) : (uvs l).length = l.length := by unfold uvs; simp
theorem uvs_get (l : List Int) {j : Nat} (h : j < l.length) : (uvs l)[j]? = some (.int .u64 (l.getD j 0)) := by
  unfold uvs
  simp [List.getD_eq_getElem?_getD, h]
theorem uvs_one (l : List Int) : ∀ u ∈ uvs l, u.oneCell' = true := fun u hu => by
  unfold uvs at hu
  obtain ⟨x, _, rfl⟩ := List.mem_map.1 hu
  rfl
theorem us_gr {w w' : World} {v : Value} {l : List Int} (h : Us w v l) (hg : Gr w w') : Us w' v l := u64c_gr h hg
theorem us_sep {ex : Nat → Prop} {w w' : World} {v : Value} {l : List Int} (h : Us w v l) (hs : Sep ex w w') (hx : InB (fun k => ¬ ex k) v) : Us w' v l := by
  rcases h with h | ⟨hl, b, off, cap, hc, rfl, hcell⟩
  · exact .inl h
  · exact .inr ⟨hl, b, off, cap, hc, rfl, fun j hj => hs.cell (hx b rfl) (hcell j hj)⟩
theorem us_slice {w : World} {v : Value} {l : List Int} (h : Us w v l) : ∃ x c, v = .slice x l.length c := slice_u64c h
theorem us_nil (w : World) (x : Option Addr) (c : Nat) : Us w (.slice x 0 c) [] := .inl ⟨rfl, _, _, rfl⟩
theorem us_of_owns {w : World} {base : Nat} {e : TypeId} {v : Value} {l : List Int} (h : w.ownsRow base e 1 v l.length (uvs l)) : Us w v l := u64c_of_uvs h
theorem us_of_owns' {w : World} {base n : Nat} {e : TypeId} {v : Value} {l : List Int} (h : w.ownsRow base e 1 v n (uvs l)) : Us w v l := by
  have := h.1
  rw [uvs_len, Nat.mul_one] at this
  subst this
  exact us_of_owns h
theorem owns_len {w : World} {base n : Nat} {e : TypeId} {v : Value} {l : List Int} (h : w.ownsRow base e 1 v n (uvs l)) : n = l.length := by
  have := h.1
  rw [uvs_len, Nat.mul_one] at this
  exact this.symm
theorem own_slice {w : World} {base : Nat} {e : TypeId} {z : Nat} {v : Value} {n : Nat} {xs : List Value} (h : w.ownsRow base e z v n xs) : ∃ x c, v = .slice x n c := by
  rcases h.2 with ⟨h1, h2⟩ | ⟨g, cap, cur, rfl, _⟩
  · exact ⟨none, 0, by rw [h1, h2]⟩
  · exact ⟨_, _, rfl⟩
/-- a slice that is nil, or has an address: with room and bytes -/
def Ud (w : World) (v : Value) (l : List Int) : Prop := (v = .slice none 0 0 ∧ l = []) ∨ ∃ b off cap, l.length ≤ cap ∧ l.length ≤ 9223372036854775807 ∧ v = .slice (some ⟨b, off, none⟩) l.length cap ∧ ∀ j, j < l.length → w.cell? ⟨b, off + j, none⟩ = some (.int .u64 (l.getD j 0))
theorem us_of_d {w : World} {v : Value} {l : List Int} (h : Ud w v l) : Us w v l := by
  rcases h with ⟨rfl, rfl⟩ | ⟨b, off, cap, hc, hm, rfl, h⟩
  · exact us_nil _ _ _
  · exact .inr ⟨hm, b, off, cap, hc, rfl, h⟩
theorem ud_gr {w w' : World} {v : Value} {l : List Int} (h : Ud w v l) (hg : Gr w w') : Ud w' v l := by
  rcases h with h | ⟨b, off, cap, hc, hm, rfl, hcell⟩
  · exact .inl h
  · exact .inr ⟨b, off, cap, hc, hm, rfl, fun j hj => gr_cell hg (hcell j hj)⟩
theorem ud_sep {ex : Nat → Prop} {w w' : World} {v : Value} {l : List Int} (h : Ud w v l) (hs : Sep ex w w') (hx : InB (fun k => ¬ ex k) v) : Ud w' v l := by
  rcases h with h | ⟨b, off, cap, hc, hm, rfl, hcell⟩
  · exact .inl h
  · exact .inr ⟨b, off, cap, hc, hm, rfl, fun j hj => hs.cell (hx b rfl) (hcell j hj)⟩
theorem ud_of_owns {w : World} {base : Nat} {e : TypeId} {v : Value} {n : Nat} {l : List Int} (h : w.ownsRow base e 1 v n (uvs l)) : Ud w v l := by
  have hl := owns_len h
  subst hl
  rcases h.2 with ⟨h1, h2⟩ | ⟨g, cap, cur, rfl, hb, hh, hn, hcap, hsz, htk⟩
  · exact .inl ⟨h1, List.eq_nil_of_length_eq_zero h2⟩
  · refine .inr ⟨g, 0, cap, hn, by unfold maxLen at hcap; omega, rfl, fun j hj => ?_⟩
    rw [Nat.zero_add, cell_of_row _ _ j _ _ _ hh]
    have h3 := uvs_get l hj
    rw [← htk, Nat.mul_one, List.getElem?_take, if_pos hj] at h3
    simpa using h3
theorem add_at {b off j : Nat} : (⟨b, off, none⟩ : Addr).add j = ⟨b, off + j, none⟩ := by unfold Addr.add; split <;> simp_all
theorem src_of_d {w : World} {v : Value} {l : List Int} (h : Ud w v l) : Src w v l.length (uvs l) := by
  rcases h with ⟨rfl, rfl⟩ | ⟨b, off, cap, hc, hm, rfl, hcell⟩
  · exact .inl ⟨rfl, rfl, rfl⟩
  · refine .inr ⟨_, cap, rfl, fun j u hu => ?_⟩
    have hj : j < l.length := by
      have := (List.getElem?_eq_some_iff.1 hu).1
      rwa [uvs_len] at this
    rw [uvs_get l hj] at hu
    obtain rfl := Option.some.inj hu
    rw [add_at]
    exact hcell j hj
/-- what stands in an event's cells -/
def evV : List (Int × Value) → List Value
  | [] => []
  | (f, v) :: L => .int .i64 f :: v :: evV L
theorem evV_len : ∀ L, (evV L).length = L.length * 2
  | [] => rfl
  | (f, v) :: L => by simp only [evV, List.length_cons, evV_len L]; omega
theorem evV_app : ∀ L L', evV (L ++ L') = evV L ++ evV L'
  | [], L' => rfl
  | (f, v) :: L, L' => by simp only [evV, List.cons_append, evV_app L L']
theorem evV_get : ∀ (L : List (Int × Value)) (j : Nat) (p : Int × Value), L[j]? = some p → (evV L)[j * 2]? = some (.int .i64 p.1) ∧ (evV L)[j * 2 + 1]? = some p.2
  | [], _, _, h => by simp at h
  | (f, v) :: L, 0, p, h => by
    obtain rfl : (f, v) = p := by simpa using h
    exact ⟨rfl, rfl⟩
  | (f, v) :: L, j + 1, p, h => by
    have := evV_get L j p (by simpa using h)
    rw [show (j + 1) * 2 = j * 2 + 1 + 1 by omega, show j * 2 + 1 + 1 + 1 = (j * 2 + 1) + 1 + 1 by omega]
    simpa [evV] using this
/-- events whose arguments read so, in blocks in F -/
def Evs (w : World) (F : Nat → Prop) (L : List (Int × Value)) (E : List (Int × List Int)) : Prop :=
  L.length = E.length ∧ ∀ (j : Nat) (p : Int × Value) (q : Int × List Int), L[j]? = some p → E[j]? = some q → p.1 = q.1 ∧ Ud w p.2 q.2 ∧ InB F p.2
theorem evs_nil (w : World) (F : Nat → Prop) : Evs w F [] [] := ⟨rfl, fun j p q h => by simp at h⟩
theorem evs_sep {ex : Nat → Prop} {w w' : World} {F : Nat → Prop} {L : List (Int × Value)} {E : List (Int × List Int)} (h : Evs w F L E) (hs : Sep ex w w') (hx : ∀ k, F k → ¬ ex k) : Evs w' F L E :=
  ⟨h.1, fun j p q hp hq => ⟨(h.2 j p q hp hq).1, ud_sep (h.2 j p q hp hq).2.1 hs (fun k hk => hx k ((h.2 j p q hp hq).2.2 k hk)), (h.2 j p q hp hq).2.2⟩⟩
theorem evs_gr {w w' : World} {F : Nat → Prop} {L : List (Int × Value)} {E : List (Int × List Int)} (h : Evs w F L E) (hg : Gr w w') : Evs w' F L E :=
  ⟨h.1, fun j p q hp hq => ⟨(h.2 j p q hp hq).1, ud_gr (h.2 j p q hp hq).2.1 hg, (h.2 j p q hp hq).2.2⟩⟩
theorem evs_mono {w : World} {F F' : Nat → Prop} {L : List (Int × Value)} {E : List (Int × List Int)} (h : Evs w F L E) (hx : ∀ k, F k → F' k) : Evs w F' L E :=
  ⟨h.1, fun j p q hp hq => ⟨(h.2 j p q hp hq).1, (h.2 j p q hp hq).2.1, fun k hk => hx k ((h.2 j p q hp hq).2.2 k hk)⟩⟩
theorem evs_app {w : World} {F : Nat → Prop} {L : List (Int × Value)} {E : List (Int × List Int)} {f : Int} {v : Value} {l : List Int} (h : Evs w F L E) (hu : Ud w v l) (hv : InB F v) : Evs w F (L ++ [(f, v)]) (E ++ [(f, l)]) := by
  refine ⟨by simp [h.1], fun j p q hp hq => ?_⟩
  by_cases hj : j < L.length
  · rw [List.getElem?_append_left hj] at hp
    rw [List.getElem?_append_left (by rw [← h.1]; exact hj)] at hq
    exact h.2 j p q hp hq
  · have hjl : j < L.length + 1 := by
      have := (List.getElem?_eq_some_iff.1 hp).1
      simpa using this
    obtain rfl : j = L.length := by omega
    rw [List.getElem?_append_right (Nat.le_refl _), Nat.sub_self] at hp
    rw [List.getElem?_append_right (by rw [h.1]; exact Nat.le_refl _), h.1, Nat.sub_self] at hq
    obtain rfl : (f, v) = p := by simpa using hp
    obtain rfl : (f, l) = q := by simpa using hq
    exact ⟨rfl, hu, hv⟩
/-- what a host holds: replies that wait, events, a code -/
structure Ho where
  R : List Int
  E : List (Int × List Int)
  C : Int
end Hs
end Go.Proofs.Ytndbgnkobodjkaa
