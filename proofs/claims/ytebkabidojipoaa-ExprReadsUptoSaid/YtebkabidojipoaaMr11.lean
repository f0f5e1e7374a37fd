/-
  Texts of this seat, joined: LebOpen. Each says what it proves.
-/
import Derived.Test.YtebkabidojipoaaMr7
import Derived.ProofKit
import Derived.OpenShut
import Derived.Carry
import Derived.ChangeArms
/- LebOpen -/
namespace Go.Proofs.Ytebkabidojipoaa
open Go.RowKit LebM Go.ChangeShapes Go.WideShapes
theorem laidOut : laidOutB Try.prog = true := by kernel_rfl
theorem bulk_len {H : Type} : ∀ l : List (DataW H), l.length ≤ Rows.uptoBulkAll l
 | [] => by simp [Rows.uptoBulkAll]
 | x :: r => by
  have h1 := bulk_len r
  have h2 : 1 ≤ Rows.uptoBulk x := by
   cases x with
   | lit l => cases l <;> simp [Rows.uptoBulk]
   | nil => simp [Rows.uptoBulk]
   | ptr d => simp [Rows.uptoBulk]
   | slice elems spare => simp [Rows.uptoBulk]
   | agg parts => simp [Rows.uptoBulk]
   | iface t d => simp [Rows.uptoBulk]
   | map entries => simp [Rows.uptoBulk]
   | held h => simp [Rows.uptoBulk]
  simp only [Rows.uptoBulkAll, List.length_cons]; omega
theorem trod_bulk {H : Type} {enc : TypeId × Value → H} {W : World} {sp : Nat → Bool} {held : Bool} {t e : TypeId} {a : Option Addr} {n c : Nat} {d : DataW H} {p : List MemPlace}
  (ht : Try.prog.underlying t = some (.slice e)) (h : DataW.Trod enc Try.prog W 0 sp held t (.slice a n c) d p) : n ≤ Rows.uptoBulk d := by
 obtain ⟨fuel, hf⟩ := h
 rcases DataW.trod_slice ht hf with ⟨hcs, _⟩ | ⟨a', len', cap', elems, rest, n', _, hcs, hx, _, hl, hm, hlen, _, _, _⟩
 ·simp [Value.cells] at hcs
  omega
 ·simp [Value.cells] at hcs
  obtain ⟨rfl, rfl, rfl⟩ := hcs
  have e1 := congrArg Prod.fst hx
  simp only at e1
  subst e1
  have := bulk_len (elems.map (·.1))
  simp only [Rows.uptoBulk, List.length_map] at this ⊢
  omega
set_option maxRecDepth 100000 in
theorem open_u8l {H : Type} {enc : TypeId × Value → H} {W : World} {r : Reach} {base : Nat} {v : Value} {d : DataW H} {p : List MemPlace}
  (hok : Value.okWide Try.prog W r base 22 v) (h : DataW.Trod enc Try.prog W 0 (fun _ => true) true 22 v d p) :
  ∃ l : List Int, (∀ x ∈ l, 0 ≤ x ∧ x < 256) ∧ Ks .u8 W v l.length (lst l) ∧ Src W v l.length (l.map (Value.int .u8)) := by
 obtain ⟨a0, len, cap, rfl⟩ := okWide_slice Try.underlying22 hok
 obtain ⟨fuel, hf⟩ := h
 rcases open_ints Try.underlying22 Try.underlying5 (by kernel_rfl) hf with ⟨hcs, _⟩ | ⟨a, len', cap', zs, hcs, _, hl, hm, hz, _, hcell, hwz⟩
 ·simp [Value.cells] at hcs
  obtain ⟨rfl, rfl, rfl⟩ := hcs
  exact ⟨[], fun x hx => by simp at hx, .inl ⟨rfl, _, _, rfl⟩, .inl ⟨rfl, rfl, rfl⟩⟩
 ·simp [Value.cells] at hcs
  obtain ⟨rfl, rfl, rfl⟩ := hcs
  simp only [if_true] at hz
  have hlen : (zs.take len).length = len := by rw [List.length_take]; omega
  have hat : ∀ j, j < len → lst (zs.take len) j = zs.getD j 0 := fun j hj => by
   unfold lst
   rw [List.getD_eq_getElem?_getD, List.getD_eq_getElem?_getD, List.getElem?_take, if_pos hj]
  have hc2 : ∀ j, j < len → W.cell? (a.add j) = some (.int .u8 (lst (zs.take len) j)) := fun j hj => by
   rw [hat j hj]; exact hcell j (by omega)
  refine ⟨zs.take len, fun x hx => ?_, ?_, .inr ⟨a, cap, by rw [hlen], fun j u hu => ?_⟩⟩
  ·have := bounds_u8 (hwz x (List.mem_of_mem_take hx))
   omega
  ·rw [hlen]
   by_cases h0 : len = 0
   ·subst h0; exact .inl ⟨rfl, _, _, rfl⟩
   ·obtain ⟨b, off, spot⟩ := a
    have hspot : spot = none := by simpa [Addr.add] using World.cell?_spot (hc2 0 (by omega))
    subst hspot
    refine .inr ⟨by unfold maxLen at hm; omega, b, off, cap, rfl, fun j hj => ?_⟩
    have := hc2 j hj
    by_cases hj0 : j = 0
    ·subst hj0; simpa [Addr.add] using this
    ·simpa [Addr.add, hj0] using this
  ·have hj : j < len := by
    have := (List.getElem?_eq_some_iff.1 hu).1
    rw [List.length_map, hlen] at this; exact this
   rw [hc2 j hj, ← hu]
   unfold lst
   rw [List.getElem?_map, List.getD_eq_getElem?_getD, List.getElem?_eq_getElem (by omega)]
   rfl
end Go.Proofs.Ytebkabidojipoaa
