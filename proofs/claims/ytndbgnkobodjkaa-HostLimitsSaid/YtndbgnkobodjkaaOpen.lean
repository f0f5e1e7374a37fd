/-
  What a given argument is: a vector; and how a law's walk gives its row's post.
-/
import Derived.Test.YtndbgnkobodjkaaAwake
import Derived.ProofKit
import Derived.OpenShut
import Derived.Carry
namespace Go.Proofs.Ytndbgnkobodjkaa
open Go.RowKit VecM Go.ChangeShapes Go.WideShapes
theorem bs_of (cs : Array Value) (hsz : cs.size = 16) (h : ∀ i, i < 16 → ∃ n, cs[i]? = some (.int .u8 n) ∧ 0 ≤ n ∧ n ≤ 255) : ∃ b, Byt b ∧ cs = bs b := by
  refine ⟨fun m => match cs[m]? with | some (.int _ n) => n | _ => 0, fun m => ?_, ?_⟩
  · by_cases hm : m < 16
    · obtain ⟨n, h1, h2, h3⟩ := h m hm
      simp only [h1]; exact ⟨h2, h3⟩
    · have h1 : cs[m]? = none := Array.getElem?_eq_none (by omega)
      simp only [h1]; exact ⟨by decide, by decide⟩
  · apply Array.ext_getElem?
    intro i
    by_cases hi : i < 16
    · obtain ⟨n, h1, _, _⟩ := h i hi
      rw [bs_get _ i hi]
      simp only [h1]
    · rw [Array.getElem?_eq_none (by omega), Array.getElem?_eq_none (by simp; omega)]
theorem cellsV : Try.prog.cellsOf 86 = 16 := by kernel_rfl
theorem laidOut : laidOutB Try.prog = true := by kernel_rfl
theorem open_vec {H : Type} {enc : TypeId × Value → H} {W : World} {r : Reach} {base : Nat} {sp : Nat → Bool} {held : Bool} {v : Value} {d : DataW H} {p : List MemPlace}
    (hok : Value.okWide Try.prog W r base 86 v) (h : DataW.Trod enc Try.prog W 0 sp held 86 v d p) : ∃ b, Byt b ∧ v = .agg (bs b) := by
  simp only [Value.okWide, Try.underlying86] at hok
  obtain ⟨cs, rfl, hsz, _⟩ := hok
  rw [cellsV] at hsz
  obtain ⟨fuel, hf⟩ := h
  obtain ⟨xs, m, rfl, hx, hl, hn, hall⟩ := DataW.trod_array Try.underlying86 hf
  obtain ⟨b, hb, rfl⟩ := bs_of cs hsz fun i hi => by
    have h1 := hall i hi
    rw [cells5, Nat.mul_one] at h1
    rw [List.getElem?_eq_getElem (by omega)] at h1
    obtain ⟨n, hc, _, hw⟩ := DataW.trod_int Try.underlying5 h1
    refine ⟨n, ?_, (bounds_u8 hw).1, (bounds_u8 hw).2⟩
    have h2 := congrArg (·[0]?) hc
    simpa [Value.cells, List.getElem?_take, List.getElem?_drop] using h2
  exact ⟨b, hb, rfl⟩
theorem open_u64s {H : Type} {enc : TypeId × Value → H} {W : World} {r : Reach} {base : Nat} {v : Value} {d : DataW H} {p : List MemPlace}
    (hok : Value.okWide Try.prog W r base 22 v) (h : DataW.Trod enc Try.prog W 0 (fun _ => true) true 22 v d p) : ∃ (len : Nat) (zs : Nat → Int), (∀ j, 0 ≤ zs j ∧ zs j < 18446744073709551616) ∧ U64s W v len zs := by
  obtain ⟨a0, len, cap, rfl⟩ := okWide_slice Try.underlying22 hok
  obtain ⟨fuel, hf⟩ := h
  rcases open_ints Try.underlying22 Try.underlying53 (by kernel_rfl) hf with ⟨hcs, _⟩ | ⟨a, len', cap', zs, hcs, _, hl, hm, hz, _, hcell, hwz⟩
  · simp [Value.cells] at hcs
    obtain ⟨rfl, rfl, rfl⟩ := hcs
    exact ⟨0, fun _ => 0, fun _ => ⟨by simp, by simp⟩, .inl ⟨rfl, _, _, rfl⟩⟩
  · simp [Value.cells] at hcs
    obtain ⟨rfl, rfl, rfl⟩ := hcs
    simp only [if_true] at hz
    have hb : ∀ j, 0 ≤ (zs.getD j 0) ∧ (zs.getD j 0) < 18446744073709551616 := fun j => by
      by_cases hj : j < zs.length
      · have := bounds_u64 (hwz (zs.getD j 0) (by rw [List.getD_eq_getElem?_getD, List.getElem?_eq_getElem hj]; exact List.getElem_mem hj))
        omega
      · rw [List.getD_eq_getElem?_getD, List.getElem?_eq_none (by omega)]; constructor <;> decide
    refine ⟨len, fun j => zs.getD j 0, hb, ?_⟩
    by_cases h0 : len = 0
    · subst h0; exact .inl ⟨rfl, _, _, rfl⟩
    · obtain ⟨b, off, spot⟩ := a
      have hspot : spot = none := by simpa [Addr.add] using World.cell?_spot (hcell 0 (by omega))
      subst hspot
      refine .inr ⟨by unfold maxLen at hm; omega, b, off, cap, rfl, fun j hj => ?_⟩
      have := hcell j (by omega)
      by_cases hj0 : j = 0
      · subst hj0; simpa [Addr.add] using this
      · simpa [Addr.add, hj0] using this
theorem open_i64s {H : Type} {enc : TypeId × Value → H} {W : World} {r : Reach} {base : Nat} {v : Value} {d : DataW H} {p : List MemPlace}
    (hok : Value.okWide Try.prog W r base 33 v) (h : DataW.Trod enc Try.prog W 0 (fun _ => true) true 33 v d p) : ∃ (len : Nat) (zs : Nat → Int), (∀ j, -9223372036854775808 ≤ zs j ∧ zs j ≤ 9223372036854775807) ∧ I64s W v len zs := by
  obtain ⟨a0, len, cap, rfl⟩ := okWide_slice Try.underlying33 hok
  obtain ⟨fuel, hf⟩ := h
  rcases open_ints Try.underlying33 Try.underlying3 (by kernel_rfl) hf with ⟨hcs, _⟩ | ⟨a, len', cap', zs, hcs, _, hl, hm, hz, _, hcell, hwz⟩
  · simp [Value.cells] at hcs
    obtain ⟨rfl, rfl, rfl⟩ := hcs
    exact ⟨0, fun _ => 0, fun _ => ⟨by simp, by simp⟩, .inl ⟨rfl, _, _, rfl⟩⟩
  · simp [Value.cells] at hcs
    obtain ⟨rfl, rfl, rfl⟩ := hcs
    simp only [if_true] at hz
    have hb : ∀ j, -9223372036854775808 ≤ (zs.getD j 0) ∧ (zs.getD j 0) ≤ 9223372036854775807 := fun j => by
      by_cases hj : j < zs.length
      · have := bounds_i64 (hwz (zs.getD j 0) (by rw [List.getD_eq_getElem?_getD, List.getElem?_eq_getElem hj]; exact List.getElem_mem hj))
        omega
      · rw [List.getD_eq_getElem?_getD, List.getElem?_eq_none (by omega)]; constructor <;> decide
    refine ⟨len, fun j => zs.getD j 0, hb, ?_⟩
    by_cases h0 : len = 0
    · subst h0; exact .inl ⟨rfl, _, _, rfl⟩
    · obtain ⟨b, off, spot⟩ := a
      have hspot : spot = none := by simpa [Addr.add] using World.cell?_spot (hcell 0 (by omega))
      subst hspot
      refine .inr ⟨by unfold maxLen at hm; omega, b, off, cap, rfl, fun j hj => ?_⟩
      have := hcell j (by omega)
      by_cases hj0 : j = 0
      · subst hj0; simpa [Addr.add] using this
      · simpa [Addr.add, hj0] using this
end Go.Proofs.Ytndbgnkobodjkaa
