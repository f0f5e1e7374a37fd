/-
  Texts of this seat, joined: VcOpen. Each says what it proves.
-/
import Derived.Test.YtjoalcaooccbiaaMk15
import Derived.Test.YtjoalcaooccbiaaMk22
import Derived.ChangeArms
/- VcOpen -/
namespace Go.Proofs.Ytjoalcaooccbiaa
open Go.RowKit VecM Go.ChangeShapes Go.WideShapes
theorem cells6L : Try.prog.cellsOf 23 = 6 := by kernel_rfl
theorem cells5L : Try.prog.cellsOf 61 = 5 := by kernel_rfl
theorem cellsU : Try.prog.cellsOf 22 = 1 := by kernel_rfl
theorem one_at {cs : Array Value} {o : Nat} {u : Value} (h : (cs.toList.drop o).take 1 = [u]) : cs[o]? = some u := by
 have h2 := congrArg (·[0]?) h
 simpa [List.getElem?_take, List.getElem?_drop] using h2
set_option maxRecDepth 100000 in
theorem open_a6 {H : Type} {enc : TypeId × Value → H} {W : World} {r : Reach} {base : Nat} {sp : Nat → Bool} {held : Bool} {v : Value} {d : DataW H} {p : List MemPlace}
  (hok : Value.okWide Try.prog W r base 23 v) (h : DataW.Trod enc Try.prog W 0 sp held 23 v d p) :
  ∃ x : Nat → Int, (∀ j, 0 ≤ x j ∧ x j < 18446744073709551616) ∧ v = .agg #[.int .u64 (x 0), .int .u64 (x 1), .int .u64 (x 2), .int .u64 (x 3), .int .u64 (x 4), .int .u64 (x 5)] := by
 simp only [Value.okWide, Try.underlying23] at hok
 obtain ⟨cs, rfl, hsz, _⟩ := hok
 rw [cells6L] at hsz
 obtain ⟨fuel, hf⟩ := h
 obtain ⟨xs, m, rfl, hx, hl, hn, hall⟩ := DataW.trod_array Try.underlying23 hf
 have key : ∀ i, i < 6 → ∃ n, cs[i]? = some (.int .u64 n) ∧ 0 ≤ n ∧ n < 18446744073709551616 := fun i hi => by
  have h1 := hall i hi
  rw [cellsU, Nat.mul_one] at h1
  rw [List.getElem?_eq_getElem (by omega)] at h1
  obtain ⟨n, hc, _, hw⟩ := DataW.trod_int Try.underlying22 h1
  have hb := bounds_u64 hw
  exact ⟨n, one_at hc, hb.1, by omega⟩
 refine ⟨fun m => match cs[m]? with | some (.int _ n) => n | _ => 0, fun m => ?_, ?_⟩
 ·by_cases hm : m < 6
  ·obtain ⟨n, h1, h2, h3⟩ := key m hm
   simp only [h1]; exact ⟨h2, h3⟩
  ·have h1 : cs[m]? = none := Array.getElem?_eq_none (by omega)
   simp only [h1]; exact ⟨by decide, by decide⟩
 ·congr 1
  apply Array.ext_getElem?
  intro i
  by_cases hi : i < 6
  ·obtain ⟨n, h1, _, _⟩ := key i hi
   match i, hi with
   | 0, _ => simp only [h1]; rfl
   | 1, _ => simp only [h1]; rfl
   | 2, _ => simp only [h1]; rfl
   | 3, _ => simp only [h1]; rfl
   | 4, _ => simp only [h1]; rfl
   | 5, _ => simp only [h1]; rfl
  ·rw [Array.getElem?_eq_none (by omega), Array.getElem?_eq_none (by simp; omega)]
set_option maxRecDepth 100000 in
theorem open_a5 {H : Type} {enc : TypeId × Value → H} {W : World} {r : Reach} {base : Nat} {sp : Nat → Bool} {held : Bool} {v : Value} {d : DataW H} {p : List MemPlace}
  (hok : Value.okWide Try.prog W r base 61 v) (h : DataW.Trod enc Try.prog W 0 sp held 61 v d p) :
  ∃ x : Nat → Int, (∀ j, 0 ≤ x j ∧ x j < 18446744073709551616) ∧ v = .agg #[.int .u64 (x 0), .int .u64 (x 1), .int .u64 (x 2), .int .u64 (x 3), .int .u64 (x 4)] := by
 simp only [Value.okWide, Try.underlying61] at hok
 obtain ⟨cs, rfl, hsz, _⟩ := hok
 rw [cells5L] at hsz
 obtain ⟨fuel, hf⟩ := h
 obtain ⟨xs, m, rfl, hx, hl, hn, hall⟩ := DataW.trod_array Try.underlying61 hf
 have key : ∀ i, i < 5 → ∃ n, cs[i]? = some (.int .u64 n) ∧ 0 ≤ n ∧ n < 18446744073709551616 := fun i hi => by
  have h1 := hall i hi
  rw [cellsU, Nat.mul_one] at h1
  rw [List.getElem?_eq_getElem (by omega)] at h1
  obtain ⟨n, hc, _, hw⟩ := DataW.trod_int Try.underlying22 h1
  have hb := bounds_u64 hw
  exact ⟨n, one_at hc, hb.1, by omega⟩
 refine ⟨fun m => match cs[m]? with | some (.int _ n) => n | _ => 0, fun m => ?_, ?_⟩
 ·by_cases hm : m < 5
  ·obtain ⟨n, h1, h2, h3⟩ := key m hm
   simp only [h1]; exact ⟨h2, h3⟩
  ·have h1 : cs[m]? = none := Array.getElem?_eq_none (by omega)
   simp only [h1]; exact ⟨by decide, by decide⟩
 ·congr 1
  apply Array.ext_getElem?
  intro i
  by_cases hi : i < 5
  ·obtain ⟨n, h1, _, _⟩ := key i hi
   match i, hi with
   | 0, _ => simp only [h1]; rfl
   | 1, _ => simp only [h1]; rfl
   | 2, _ => simp only [h1]; rfl
   | 3, _ => simp only [h1]; rfl
   | 4, _ => simp only [h1]; rfl
  ·rw [Array.getElem?_eq_none (by omega), Array.getElem?_eq_none (by simp; omega)]
end Go.Proofs.Ytjoalcaooccbiaa
