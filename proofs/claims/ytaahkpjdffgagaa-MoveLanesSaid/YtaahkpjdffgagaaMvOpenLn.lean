/-
  What a given argument of type Lane is: two ints and a uint64; and a vector's bytes (OpenA).
-/
import Derived.Test.YtaahkpjdffgagaaOpenA
import Derived.ChangeArms
namespace Go.Proofs.Ytaahkpjdffgagaa
open Go.RowKit VecM Go.ChangeShapes Go.WideShapes
theorem cellsLn : Try.prog.cellsOf 24 = 3 := by kernel_rfl
theorem one_ln {cs : Array Value} {o : Nat} {u : Value} (h : (cs.toList.drop o).take 1 = [u]) : cs[o]? = some u := by
  have h2 := congrArg (·[0]?) h
  simpa [List.getElem?_take, List.getElem?_drop] using h2
theorem open_lane {H : Type} {enc : TypeId × Value → H} {W : World} {r : Reach} {base : Nat} {sp : Nat → Bool} {held : Bool} {v : Value} {d : DataW H} {p : List MemPlace}
    (hok : Value.okWide Try.prog W r base 24 v) (h : DataW.Trod enc Try.prog W 0 sp held 24 v d p) :
    ∃ a i x, (-9223372036854775808 ≤ a ∧ a ≤ 9223372036854775807) ∧ (-9223372036854775808 ≤ i ∧ i ≤ 9223372036854775807) ∧ (0 ≤ x ∧ x < 18446744073709551616) ∧ v = .agg #[.int .i64 a, .int .i64 i, .int .u64 x] := by
  obtain ⟨cs, rfl, hsz⟩ := okWide_struct Try.underlying24 hok
  rw [cellsLn] at hsz
  obtain ⟨fuel, hf⟩ := h
  obtain ⟨xs, m, rfl, hx, hl, hn, hall⟩ := DataW.trod_struct Try.underlying24 hf
  have hn4 : xs.length = 3 := hn
  have h1 := hall 0 _ rfl
  have h2 := hall 1 _ rfl
  have h3 := hall 2 _ rfl
  clear hall
  rw [List.getElem?_eq_getElem (by omega)] at h1 h2 h3
  simp only [Value.cells] at h1 h2 h3
  obtain ⟨a, ha, _, hwa⟩ := DataW.trod_int Try.underlying3 h1
  obtain ⟨i, hi, _, hwi⟩ := DataW.trod_int Try.underlying3 h2
  obtain ⟨x, hxx, _, hwx⟩ := DataW.trod_int Try.underlying22 h3
  have bx := bounds_u64 hwx
  refine ⟨a, i, x, bounds_i64 hwa, bounds_i64 hwi, ⟨bx.1, by omega⟩, ?_⟩
  congr 1
  have ga := one_ln ha
  have gi := one_ln hi
  have gx := one_ln hxx
  apply Array.ext_getElem?
  intro j
  by_cases h0 : j = 0
  · subst h0; exact ga
  · by_cases h1 : j = 1
    · subst h1; exact gi
    · by_cases h2 : j = 2
      · subst h2; exact gx
      · rw [Array.getElem?_eq_none (by omega), Array.getElem?_eq_none (by simp; omega)]
end Go.Proofs.Ytaahkpjdffgagaa
