/-
  Of layer 11: what a given access is: five numbers, a slice, an address, a vector. No condition.
-/
import Derived.Test.YtmgkejpjljkfdaaOpenA
import Derived.Test.YtmgkejpjljkfdaaVmJb
import Derived.ChangeArms
namespace Go.Proofs.Ytmgkejpjljkfdaa
open Go.RowKit VecM Go.ChangeShapes Go.WideShapes
namespace Vm
theorem cellsAc : Try.prog.cellsOf 43 = 23 := by kernel_rfl
theorem cellsU8 : Try.prog.cellsOf 5 = 1 := by kernel_rfl
theorem at_in {L : List Value} {a n k : Nat} {u : Value} (hk : k < n) (h : (((L.drop a).take n).drop k).take 1 = [u]) : L[a + k]? = some u := by
  have h2 := congrArg (·[0]?) h
  simp only [List.getElem?_take_of_lt (show 0 < 1 by decide), List.getElem?_drop, Nat.add_zero, List.getElem?_take_of_lt hk] at h2
  exact h2
theorem at_one {L : List Value} {a : Nat} {u : Value} (h : (L.drop a).take 1 = [u]) : L[a]? = some u := by
  have h2 := congrArg (·[0]?) h
  simp only [List.getElem?_take_of_lt (show 0 < 1 by decide), List.getElem?_drop, Nat.add_zero] at h2
  exact h2
set_option maxRecDepth 100000 in
theorem open_access {H : Type} {enc : TypeId × Value → H} {W : World} {r : Reach} {base : Nat} {sp : Nat → Bool} {held : Bool} {v : Value} {d : DataW H} {p : List MemPlace}
    (hok : Value.okWide Try.prog W r base 43 v) (h : DataW.Trod enc Try.prog W 0 sp held 43 v d p) :
    ∃ (op a b lo hi : Int) (lv : Option Addr) (ln lc : Nat) (x : Int) (f : Nat → Int), (0 ≤ x ∧ x < 4294967296) ∧ Byt f ∧ v = acC op a b lo hi lv ln lc x f := by
  obtain ⟨cs, rfl, hsz⟩ := okWide_struct Try.underlying43 hok
  rw [cellsAc] at hsz
  obtain ⟨fuel, hf⟩ := h
  obtain ⟨xs, m, rfl, hx, hl, hn, hall⟩ := DataW.trod_struct Try.underlying43 hf
  have hn3 : xs.length = 3 := hn
  have h0 := hall 0 _ rfl
  have h1 := hall 1 _ rfl
  have h2 := hall 2 _ rfl
  clear hall
  rw [List.getElem?_eq_getElem (by omega)] at h0 h1 h2
  simp only [Value.cells] at h0 h1 h2
  obtain ⟨ys, m', _, _, _, hn', hall'⟩ := DataW.trod_struct Try.underlying40 h0
  have hn6 : ys.length = 6 := hn'
  have i0 := hall' 0 _ rfl
  have i1 := hall' 1 _ rfl
  have i2 := hall' 2 _ rfl
  have i3 := hall' 3 _ rfl
  have i4 := hall' 4 _ rfl
  have i5 := hall' 5 _ rfl
  clear hall'
  rw [List.getElem?_eq_getElem (by omega)] at i0 i1 i2 i3 i4 i5
  obtain ⟨z0, e0, _, _⟩ := DataW.trod_int Try.underlying3 i0
  obtain ⟨z1, e1, _, _⟩ := DataW.trod_int Try.underlying3 i1
  obtain ⟨z2, e2, _, _⟩ := DataW.trod_int Try.underlying3 i2
  obtain ⟨z3, e3, _, _⟩ := DataW.trod_int Try.underlying22 i3
  obtain ⟨z4, e4, _, _⟩ := DataW.trod_int Try.underlying22 i4
  have e5 : ∃ (lv : Option Addr) (ln lc : Nat), (((cs.toList.drop 0).take 6).drop 5).take 1 = [.slice lv ln lc] := by
    rcases DataW.trod_slice Try.underlying38 i5 with ⟨hcs, _⟩ | ⟨a', len', cap', elems, rest, n', _, hcs, _⟩
    · exact ⟨_, _, _, hcs⟩
    · exact ⟨_, _, _, hcs⟩
  obtain ⟨lv, ln, lc, e5⟩ := e5
  obtain ⟨x, ex, _, wx⟩ := DataW.trod_int Try.underlying41 h1
  obtain ⟨us, m2, _, _, _, hn2, hall2⟩ := DataW.trod_array Try.underlying35 h2
  have hn16 : us.length = 16 := hn2
  have hb : ∀ j, j < 16 → ∃ n, cs.toList[7 + j]? = some (.int .u8 n) ∧ 0 ≤ n ∧ n ≤ 255 := fun j hj => by
    have hj1 := hall2 j hj
    rw [cellsU8, Nat.mul_one, List.getElem?_eq_getElem (by omega)] at hj1
    obtain ⟨n, hc, _, hw⟩ := DataW.trod_int Try.underlying5 hj1
    exact ⟨n, at_in hj hc, (bounds_u8 hw).1, (bounds_u8 hw).2⟩
  obtain ⟨f, hfb, hbs⟩ := bs_of (cs.extract 7 23) (by simp; omega) fun j hj => by
    obtain ⟨n, h1, h2, h3⟩ := hb j hj
    refine ⟨n, ?_, h2, h3⟩
    rw [Array.getElem?_toList] at h1
    rw [Array.getElem?_extract, if_pos (by omega)]
    exact h1
  have bx := bounds_u32 wx
  refine ⟨z0, z1, z2, z3, z4, lv, ln, lc, x, f, ⟨bx.1, by omega⟩, hfb, ?_⟩
  unfold acC
  congr 1
  have g0 := at_in (by decide) e0
  have g1 := at_in (by decide) e1
  have g2 := at_in (by decide) e2
  have g3 := at_in (by decide) e3
  have g4 := at_in (by decide) e4
  have g5 := at_in (by decide) e5
  have g6 := at_one ex
  rw [Array.getElem?_toList] at g0 g1 g2 g3 g4 g5 g6
  apply Array.ext_getElem?
  intro j
  by_cases hj : j < 7
  · rw [Array.getElem?_append_left (by simpa using hj)]
    match j, hj with
    | 0, _ => exact g0
    | 1, _ => exact g1
    | 2, _ => exact g2
    | 3, _ => exact g3
    | 4, _ => exact g4
    | 5, _ => exact g5
    | 6, _ => exact g6
  · rw [Array.getElem?_append_right (by simp; omega), ← hbs, Array.getElem?_extract]
    by_cases h23 : j < 23
    · rw [if_pos (by simp; omega)]
      congr 1
      simp; omega
    · rw [if_neg (by simp; omega)]
      exact Array.getElem?_eq_none (by omega)
theorem cellsB : Try.prog.cellsOf 34 = 16 := by kernel_rfl
set_option maxRecDepth 100000 in
set_option maxRecDepth 100000 in
theorem open_b16 {H : Type} {enc : TypeId × Value → H} {W : World} {r : Reach} {base : Nat} {sp : Nat → Bool} {held : Bool} {v : Value} {d : DataW H} {p : List MemPlace}
    (hok : Value.okWide Try.prog W r base 34 v) (h : DataW.Trod enc Try.prog W 0 sp held 34 v d p) : ∃ b, Byt b ∧ v = .agg (bs b) := by
  simp only [Value.okWide, Try.underlying34] at hok
  obtain ⟨cs, rfl, hsz, _⟩ := hok
  rw [cellsB] at hsz
  obtain ⟨fuel, hf⟩ := h
  obtain ⟨xs, m, rfl, hx, hl, hn, hall⟩ := DataW.trod_array Try.underlying34 hf
  obtain ⟨b, hb, rfl⟩ := bs_of cs hsz fun i hi => by
    have h1 := hall i hi
    rw [cells5, Nat.mul_one] at h1
    rw [List.getElem?_eq_getElem (by omega)] at h1
    obtain ⟨n, hc, _, hw⟩ := DataW.trod_int Try.underlying5 h1
    refine ⟨n, ?_, (bounds_u8 hw).1, (bounds_u8 hw).2⟩
    have h2 := congrArg (·[0]?) hc
    simpa [Value.cells, List.getElem?_take, List.getElem?_drop] using h2
  exact ⟨b, hb, rfl⟩
end Vm
end Go.Proofs.Ytmgkejpjljkfdaa
