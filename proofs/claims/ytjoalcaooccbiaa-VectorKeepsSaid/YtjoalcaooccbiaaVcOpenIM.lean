/-
 What a given instruction is: five numbers and a slice of numbers. No condition.
-/
import Derived.Test.YtjoalcaooccbiaaMk23
namespace Go.Proofs.Ytjoalcaooccbiaa
open Go.RowKit VecM Go.ChangeShapes Go.WideShapes
theorem cellsIn : Try.prog.cellsOf 37 = 6 := by kernel_rfl
set_option maxRecDepth 100000 in
theorem open_ins {H : Type} {enc : TypeId × Value → H} {W : World} {r : Reach} {base : Nat} {sp : Nat → Bool} {held : Bool} {v : Value} {d : DataW H} {p : List MemPlace}
  (hok : Value.okWide Try.prog W r base 37 v) (h : DataW.Trod enc Try.prog W 0 sp held 37 v d p) :
  ∃ (op a b lo hi : Int) (lv : Option Addr) (ln lc : Nat), (-9223372036854775808 ≤ op ∧ op ≤ 9223372036854775807) ∧ (-9223372036854775808 ≤ a ∧ a ≤ 9223372036854775807) ∧
   v = .agg #[.int .i64 op, .int .i64 a, .int .i64 b, .int .u64 lo, .int .u64 hi, .slice lv ln lc] := by
 obtain ⟨cs, rfl, hsz⟩ := okWide_struct Try.underlying37 hok
 rw [cellsIn] at hsz
 obtain ⟨fuel, hf⟩ := h
 obtain ⟨xs, m, rfl, hx, hl, hn, hall⟩ := DataW.trod_struct Try.underlying37 hf
 have hn6 : xs.length = 6 := hn
 have h0 := hall 0 _ rfl
 have h1 := hall 1 _ rfl
 have h2 := hall 2 _ rfl
 have h3 := hall 3 _ rfl
 have h4 := hall 4 _ rfl
 have h5 := hall 5 _ rfl
 clear hall
 rw [List.getElem?_eq_getElem (by omega)] at h0 h1 h2 h3 h4 h5
 simp only [Value.cells] at h0 h1 h2 h3 h4 h5
 obtain ⟨z0, e0, _, w0⟩ := DataW.trod_int Try.underlying3 h0
 obtain ⟨z1, e1, _, w1⟩ := DataW.trod_int Try.underlying3 h1
 obtain ⟨z2, e2, _, _⟩ := DataW.trod_int Try.underlying3 h2
 obtain ⟨z3, e3, _, _⟩ := DataW.trod_int Try.underlying22 h3
 obtain ⟨z4, e4, _, _⟩ := DataW.trod_int Try.underlying22 h4
 have e5 : ∃ (lv : Option Addr) (ln lc : Nat), (cs.toList.drop 5).take 1 = [.slice lv ln lc] := by
  rcases DataW.trod_slice Try.underlying26 h5 with ⟨hcs, _⟩ | ⟨a', len', cap', elems, rest, n', _, hcs, _⟩
  ·exact ⟨_, _, _, hcs⟩
  ·exact ⟨_, _, _, hcs⟩
 obtain ⟨lv, ln, lc, e5⟩ := e5
 refine ⟨z0, z1, z2, z3, z4, lv, ln, lc, bounds_i64 w0, bounds_i64 w1, ?_⟩
 congr 1
 have g0 := one_at e0
 have g1 := one_at e1
 have g2 := one_at e2
 have g3 := one_at e3
 have g4 := one_at e4
 have g5 := one_at e5
 apply Array.ext_getElem?
 intro j
 by_cases hj : j < 6
 ·match j, hj with
  | 0, _ => exact g0
  | 1, _ => exact g1
  | 2, _ => exact g2
  | 3, _ => exact g3
  | 4, _ => exact g4
  | 5, _ => exact g5
 ·rw [Array.getElem?_eq_none (by omega), Array.getElem?_eq_none (by simp; omega)]
end Go.Proofs.Ytjoalcaooccbiaa
