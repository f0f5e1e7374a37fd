/-
  Of layer 11: what a given instruction is: five numbers and a slice of numbers. No condition.
-/
import Derived.Test.YtmgkejpjljkfdaaOpenA
import Derived.ChangeArms
namespace Go.Proofs.Ytmgkejpjljkfdaa
open Go.RowKit VecM Go.ChangeShapes Go.WideShapes
namespace Vm
theorem one_at {L : List Value} {a : Nat} {u : Value} (h : (L.drop a).take 1 = [u]) : L[a]? = some u := by
  have h2 := congrArg (·[0]?) h
  simp only [List.getElem?_take_of_lt (show 0 < 1 by decide), List.getElem?_drop, Nat.add_zero] at h2
  exact h2
theorem cellsIn : Try.prog.cellsOf 40 = 6 := by kernel_rfl
set_option maxRecDepth 100000 in
theorem open_ins {H : Type} {enc : TypeId × Value → H} {W : World} {r : Reach} {base : Nat} {sp : Nat → Bool} {held : Bool} {v : Value} {d : DataW H} {p : List MemPlace}
    (hok : Value.okWide Try.prog W r base 40 v) (h : DataW.Trod enc Try.prog W 0 sp held 40 v d p) :
    ∃ (op a b lo hi : Int) (lv : Option Addr) (ln lc : Nat), (-9223372036854775808 ≤ op ∧ op ≤ 9223372036854775807) ∧ (0 ≤ lo ∧ lo < 18446744073709551616) ∧
      v = .agg #[.int .i64 op, .int .i64 a, .int .i64 b, .int .u64 lo, .int .u64 hi, .slice lv ln lc] := by
  obtain ⟨cs, rfl, hsz⟩ := okWide_struct Try.underlying40 hok
  rw [cellsIn] at hsz
  obtain ⟨fuel, hf⟩ := h
  obtain ⟨xs, m, rfl, hx, hl, hn, hall⟩ := DataW.trod_struct Try.underlying40 hf
  have hn6 : xs.length = 6 := hn
  have h0 := hall 0 _ rfl
  have h1 := hall 1 _ rfl
  have h2 := hall 2 _ rfl
  have h3 := hall 3 _ rfl
  have h4 := hall 4 _ rfl
  have h5 := hall 5 _ rfl
  clear hall
  rw [List.getElem?_eq_getElem (by omega)] at h0 h1 h2 h3 h4 h5
  simp only [Value.cells] at h0 h1 h2 h3 h4 h5
  obtain ⟨z0, e0, _, w0⟩ := DataW.trod_int Try.underlying3 h0
  obtain ⟨z1, e1, _, _⟩ := DataW.trod_int Try.underlying3 h1
  obtain ⟨z2, e2, _, _⟩ := DataW.trod_int Try.underlying3 h2
  obtain ⟨z3, e3, _, w3⟩ := DataW.trod_int Try.underlying22 h3
  obtain ⟨z4, e4, _, _⟩ := DataW.trod_int Try.underlying22 h4
  have e5 : ∃ (lv : Option Addr) (ln lc : Nat), (cs.toList.drop 5).take 1 = [.slice lv ln lc] := by
    rcases DataW.trod_slice Try.underlying38 h5 with ⟨hcs, _⟩ | ⟨a', len', cap', elems, rest, n', _, hcs, _⟩
    · exact ⟨_, _, _, hcs⟩
    · exact ⟨_, _, _, hcs⟩
  obtain ⟨lv, ln, lc, e5⟩ := e5
  refine ⟨z0, z1, z2, z3, z4, lv, ln, lc, bounds_i64 w0, ⟨(bounds_u64 w3).1, by have := (bounds_u64 w3).2; omega⟩, ?_⟩
  congr 1
  have g0 : cs[0]? = some (.int .i64 z0) := by rw [← Array.getElem?_toList]; exact one_at (a := 0) e0
  have g1 : cs[1]? = some (.int .i64 z1) := by rw [← Array.getElem?_toList]; exact one_at (a := 1) e1
  have g2 : cs[2]? = some (.int .i64 z2) := by rw [← Array.getElem?_toList]; exact one_at (a := 2) e2
  have g3 : cs[3]? = some (.int .u64 z3) := by rw [← Array.getElem?_toList]; exact one_at (a := 3) e3
  have g4 : cs[4]? = some (.int .u64 z4) := by rw [← Array.getElem?_toList]; exact one_at (a := 4) e4
  have g5 : cs[5]? = some (.slice lv ln lc) := by rw [← Array.getElem?_toList]; exact one_at (a := 5) e5
  apply Array.ext_getElem?
  intro j
  by_cases hj : j < 6
  · match j, hj with
    | 0, _ => exact g0
    | 1, _ => exact g1
    | 2, _ => exact g2
    | 3, _ => exact g3
    | 4, _ => exact g4
    | 5, _ => exact g5
  · rw [Array.getElem?_eq_none (by omega), Array.getElem?_eq_none (by simp; omega)]
end Vm
end Go.Proofs.Ytmgkejpjljkfdaa
