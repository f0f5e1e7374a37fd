/-
  What a given argument is: a vector. No condition.
-/
import Derived.Test.YtmgkejpjljkfdaaSlV
import Derived.ProofKit
import Derived.OpenShut
import Derived.Carry
namespace Go.Proofs.Ytmgkejpjljkfdaa
open Go.RowKit VecM Go.ChangeShapes Go.WideShapes
theorem bs_of (cs : Array Value) (hsz : cs.size = 16) (h : ∀ i, i < 16 → ∃ n, cs[i]? = some (.int .u8 n) ∧ 0 ≤ n ∧ n ≤ 255) : ∃ b, Byt b ∧ cs = bs b := by
  refine ⟨fun m => match cs[m]? with | some (.int _ n) => n | _ => 0, fun m => ?_, ?_⟩
  · by_cases hm : m < 16
    · obtain ⟨n, h1, h2, h3⟩ := h m hm
      simp only [h1]; exact ⟨h2, h3⟩
    · have h1 : cs[m]? = none := Array.getElem?_eq_none (by omega)
      simp only [h1]; exact ⟨by decide, by decide⟩
  · apply Array.ext_getElem?
    intro i
    by_cases hi : i < 16
    · obtain ⟨n, h1, _, _⟩ := h i hi
      rw [bs_get _ i hi]
      simp only [h1]
    · rw [Array.getElem?_eq_none (by omega), Array.getElem?_eq_none (by simp; omega)]
set_option maxRecDepth 100000 in
theorem cellsV : Try.prog.cellsOf 35 = 16 := by kernel_rfl
set_option maxRecDepth 100000 in
theorem laidOut : laidOutB Try.prog = true := by kernel_rfl
set_option maxRecDepth 100000 in
theorem open_vec {H : Type} {enc : TypeId × Value → H} {W : World} {r : Reach} {base : Nat} {sp : Nat → Bool} {held : Bool} {v : Value} {d : DataW H} {p : List MemPlace}
    (hok : Value.okWide Try.prog W r base 35 v) (h : DataW.Trod enc Try.prog W 0 sp held 35 v d p) : ∃ b, Byt b ∧ v = .agg (bs b) := by
  simp only [Value.okWide, Try.underlying35] at hok
  obtain ⟨cs, rfl, hsz, _⟩ := hok
  rw [cellsV] at hsz
  obtain ⟨fuel, hf⟩ := h
  obtain ⟨xs, m, rfl, hx, hl, hn, hall⟩ := DataW.trod_array Try.underlying35 hf
  obtain ⟨b, hb, rfl⟩ := bs_of cs hsz fun i hi => by
    have h1 := hall i hi
    rw [cells5, Nat.mul_one] at h1
    rw [List.getElem?_eq_getElem (by omega)] at h1
    obtain ⟨n, hc, _, hw⟩ := DataW.trod_int Try.underlying5 h1
    refine ⟨n, ?_, (bounds_u8 hw).1, (bounds_u8 hw).2⟩
    have h2 := congrArg (·[0]?) hc
    simpa [Value.cells, List.getElem?_take, List.getElem?_drop] using h2
  exact ⟨b, hb, rfl⟩
end Go.Proofs.Ytmgkejpjljkfdaa
