/-
  What a given argument of type At is: a vector's bytes, two ints and a uint64.
-/
import Derived.Test.YthdklnkaeddogabSetsM
import Derived.ChangeArms
namespace Go.Proofs.Ythdklnkaeddogab
open Go.RowKit VecM Go.ChangeShapes Go.WideShapes
theorem cellsA : Try.prog.cellsOf 28 = 19 := by kernel_rfl
theorem one_at {cs : Array Value} {o : Nat} {u : Value} (h : (cs.toList.drop o).take 1 = [u]) : cs[o]? = some u := by
  have h2 := congrArg (·[0]?) h
  simpa [List.getElem?_take, List.getElem?_drop] using h2
theorem open_at {H : Type} {enc : TypeId × Value → H} {W : World} {r : Reach} {base : Nat} {sp : Nat → Bool} {held : Bool} {v : Value} {d : DataW H} {p : List MemPlace}
    (hok : Value.okWide Try.prog W r base 28 v) (h : DataW.Trod enc Try.prog W 0 sp held 28 v d p) :
    ∃ b a i x, Byt b ∧ (-9223372036854775808 ≤ a ∧ a ≤ 9223372036854775807) ∧ (-9223372036854775808 ≤ i ∧ i ≤ 9223372036854775807) ∧ (0 ≤ x ∧ x < 18446744073709551616) ∧ v = .agg (atC b a i x) := by
  obtain ⟨cs, rfl, hsz⟩ := okWide_struct Try.underlying28 hok
  rw [cellsA] at hsz
  obtain ⟨fuel, hf⟩ := h
  obtain ⟨xs, m, rfl, hx, hl, hn, hall⟩ := DataW.trod_struct Try.underlying28 hf
  have hn4 : xs.length = 4 := hn
  have h0 := hall 0 _ rfl
  have h1 := hall 1 _ rfl
  have h2 := hall 2 _ rfl
  have h3 := hall 3 _ rfl
  clear hall
  rw [List.getElem?_eq_getElem (by omega)] at h0 h1 h2 h3
  simp only [Value.cells] at h0 h1 h2 h3
  obtain ⟨a, ha, _, hwa⟩ := DataW.trod_int Try.underlying3 h1
  obtain ⟨i, hi, _, hwi⟩ := DataW.trod_int Try.underlying3 h2
  obtain ⟨x, hxx, _, hwx⟩ := DataW.trod_int Try.underlying26 h3
  obtain ⟨ys, m', _, _, _, hn', hall'⟩ := DataW.trod_array Try.underlying25 h0
  obtain ⟨b, hb, hbs⟩ := bs_of (cs.extract 0 16) (by simp; omega) fun j hj => by
    have hj1 := hall' j hj
    rw [cells5, Nat.mul_one] at hj1
    rw [List.getElem?_eq_getElem (by omega)] at hj1
    obtain ⟨n, hc, _, hw⟩ := DataW.trod_int Try.underlying5 hj1
    refine ⟨n, ?_, (bounds_u8 hw).1, (bounds_u8 hw).2⟩
    have hc2 := congrArg (·[0]?) hc
    simp only [List.getElem?_take, List.getElem?_drop] at hc2
    simp at hc2
    rw [Array.getElem?_extract]
    simp
    exact ⟨by omega, hc2.2⟩
  have bx := bounds_u64 hwx
  refine ⟨b, a, i, x, hb, bounds_i64 hwa, bounds_i64 hwi, ⟨bx.1, by omega⟩, ?_⟩
  congr 1
  have ga := one_at ha
  have gi := one_at hi
  have gx := one_at hxx
  apply Array.ext_getElem?
  intro j
  by_cases hj : j < 16
  · have e1 : (cs.extract 0 16)[j]? = cs[j]? := by rw [Array.getElem?_extract]; simp; omega
    have e2 : (bs b)[j]? = (atC b a i x)[j]? := by unfold atC; rw [Array.getElem?_append_left (by simpa using hj)]
    rw [← e1, hbs, e2]
  · by_cases h16 : j = 16
    · subst h16; rw [atC_1]; exact ga
    · by_cases h17 : j = 17
      · subst h17; rw [atC_2]; exact gi
      · by_cases h18 : j = 18
        · subst h18; rw [atC_3]; exact gx
        · rw [Array.getElem?_eq_none (by omega), Array.getElem?_eq_none (by rw [sz28]; omega)]
end Go.Proofs.Ythdklnkaeddogab
