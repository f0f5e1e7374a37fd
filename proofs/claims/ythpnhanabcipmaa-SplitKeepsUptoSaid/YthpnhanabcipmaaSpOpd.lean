/-
  Of layer 21: what a given slice of ints is: nil, or a pointer with its numbers and room. No condition.
-/
import Derived.Test.YthpnhanabcipmaaOpenV
import Derived.Test.YthpnhanabcipmaaSpRo
import Derived.Test.YthpnhanabcipmaaAppend
namespace Go.Proofs.Ythpnhanabcipmaa
open Go.RowKit VecM Go.ChangeShapes Go.WideShapes
namespace Sp
def I64d (w : World) (sv : Value) (len : Nat) (zs : Nat → Int) : Prop :=
  (len = 0 ∧ (sv = .slice none 0 0 ∨ ∃ a c, sv = .slice (some a) 0 c)) ∨ (len ≤ 9223372036854775807 ∧ ∃ b off cap, len ≤ cap ∧ sv = .slice (some ⟨b, off, none⟩) len cap ∧ ∀ j, j < len → w.cell? ⟨b, off + j, none⟩ = some (.int .i64 (zs j)))
theorem i64c_of_d {w : World} {sv : Value} {len : Nat} {zs : Nat → Int} (h : I64d w sv len zs) : I64c w sv len zs := by
  rcases h with ⟨h0, h | ⟨a, c, h⟩⟩ | h
  · exact .inl ⟨h0, _, _, h⟩
  · exact .inl ⟨h0, _, _, h⟩
  · exact .inr h
theorem i64d_gr {w w' : World} {sv : Value} {len : Nat} {zs : Nat → Int} (h : I64d w sv len zs) (hg : Gr w w') : I64d w' sv len zs := by
  rcases h with h | ⟨hl, b, off, cap, hc, rfl, h3⟩
  · exact .inl h
  · exact .inr ⟨hl, b, off, cap, hc, rfl, fun j hj => gr_cell hg (h3 j hj)⟩
def zl (z : Nat → Int) (n : Nat) : List Int := (List.range n).map z
theorem zl_len (z : Nat → Int) (n : Nat) : (zl z n).length = n := by unfold zl; simp
theorem zl_get (z : Nat → Int) {n j : Nat} (h : j < n) : (zl z n).getD j 0 = z j := by
  unfold zl
  simp [h]
theorem src_of_d {w : World} {sv : Value} {len : Nat} {zs : Nat → Int} (h : I64d w sv len zs) : Src w sv len (ivs (zl zs len)) := by
  rcases h with ⟨rfl, rfl | ⟨a, c, rfl⟩⟩ | ⟨_, b, off, cap, _, rfl, hc⟩
  · exact .inl ⟨rfl, rfl, rfl⟩
  · exact .inr ⟨a, c, rfl, fun j u hu => by simp [ivs, zl] at hu⟩
  · refine .inr ⟨_, cap, rfl, fun j u hu => ?_⟩
    have hj : j < len := by
      have := (List.getElem?_eq_some_iff.1 hu).1
      rw [ivs_len, zl_len] at this
      exact this
    have h1 := ivs_get (zl zs len) j (by rw [zl_len]; exact hj)
    rw [hu, zl_get zs hj] at h1
    obtain rfl := Option.some.inj h1
    have e : (⟨b, off, none⟩ : Addr).add j = ⟨b, off + j, none⟩ := by unfold Addr.add; split <;> simp_all
    rw [e]
    exact hc j hj
theorem slice_i64d {w : World} {sv : Value} {n : Nat} {ts : Nat → Int} (h : I64d w sv n ts) : ∃ a c, sv = .slice a n c := by
  rcases h with ⟨rfl, rfl | ⟨a, c, rfl⟩⟩ | ⟨_, b, o, c, _, rfl, _⟩
  · exact ⟨_, _, rfl⟩
  · exact ⟨_, _, rfl⟩
  · exact ⟨_, _, rfl⟩
theorem open_i64d {H : Type} {enc : TypeId × Value → H} {W : World} {r : Reach} {base : Nat} {v : Value} {d : DataW H} {p : List MemPlace}
    (hok : Value.okWide Try.prog W r base 22 v) (h : DataW.Trod enc Try.prog W 0 (fun _ => true) true 22 v d p) : ∃ (len : Nat) (zs : Nat → Int), (∀ j, -9223372036854775808 ≤ zs j ∧ zs j ≤ 9223372036854775807) ∧ I64d W v len zs := by
  obtain ⟨a0, len, cap, rfl⟩ := okWide_slice Try.underlying22 hok
  obtain ⟨fuel, hf⟩ := h
  rcases open_ints Try.underlying22 Try.underlying3 (by kernel_rfl) hf with ⟨hcs, _⟩ | ⟨a, len', cap', zs, hcs, _, hl, hm, hz, _, hcell, hwz⟩
  · simp [Value.cells] at hcs
    obtain ⟨rfl, rfl, rfl⟩ := hcs
    exact ⟨0, fun _ => 0, fun _ => ⟨by simp, by simp⟩, .inl ⟨rfl, .inl rfl⟩⟩
  · simp [Value.cells] at hcs
    obtain ⟨rfl, rfl, rfl⟩ := hcs
    simp only [if_true] at hz
    have hb : ∀ j, -9223372036854775808 ≤ (zs.getD j 0) ∧ (zs.getD j 0) ≤ 9223372036854775807 := fun j => by
      by_cases hj : j < zs.length
      · have := bounds_i64 (hwz (zs.getD j 0) (by rw [List.getD_eq_getElem?_getD, List.getElem?_eq_getElem hj]; exact List.getElem_mem hj))
        omega
      · rw [List.getD_eq_getElem?_getD, List.getElem?_eq_none (by omega)]; constructor <;> decide
    refine ⟨len, fun j => zs.getD j 0, hb, ?_⟩
    by_cases h0 : len = 0
    · subst h0; exact .inl ⟨rfl, .inr ⟨_, _, rfl⟩⟩
    · obtain ⟨b, off, spot⟩ := a
      have hspot : spot = none := by simpa [Addr.add] using World.cell?_spot (hcell 0 (by omega))
      subst hspot
      refine .inr ⟨by unfold maxLen at hm; omega, b, off, cap, hl, rfl, fun j hj => ?_⟩
      have := hcell j (by omega)
      by_cases hj0 : j = 0
      · subst hj0; simpa [Addr.add] using this
      · simpa [Addr.add, hj0] using this
end Sp
end Go.Proofs.Ythpnhanabcipmaa
