/-
  What a given list of At is.
-/
import Derived.Test.YthdklnkaeddogabAtOpen
import Derived.Test.YthdklnkaeddogabLanes
namespace Go.Proofs.Ythdklnkaeddogab
open Go.RowKit VecM Go.ChangeShapes Go.WideShapes
theorem open_at_list {H : Type} {enc : TypeId × Value → H} {W : World} {sp : Nat → Bool} {held : Bool} {cs : Array Value} {y : DataW H × List MemPlace} {fuel : Nat}
    (hsz : cs.size = 19) (hf : DataW.trod enc Try.prog W 0 sp held fuel 28 cs.toList = some y) :
    ∃ b a i x, Byt b ∧ (0 ≤ x ∧ x < 18446744073709551616) ∧ cs = atC b a i x := by
  obtain ⟨xs, m, rfl, hx, hl, hn, hall⟩ := DataW.trod_struct Try.underlying28 hf
  have hn4 : xs.length = 4 := hn
  have h0 := hall 0 _ rfl
  have h1 := hall 1 _ rfl
  have h2 := hall 2 _ rfl
  have h3 := hall 3 _ rfl
  clear hall
  rw [List.getElem?_eq_getElem (by omega)] at h0 h1 h2 h3
  obtain ⟨a, ha, _, hwa⟩ := DataW.trod_int Try.underlying3 h1
  obtain ⟨i, hi, _, hwi⟩ := DataW.trod_int Try.underlying3 h2
  obtain ⟨x, hxx, _, hwx⟩ := DataW.trod_int Try.underlying26 h3
  obtain ⟨ys, m', _, _, _, hn', hall'⟩ := DataW.trod_array Try.underlying25 h0
  obtain ⟨b, hb, hbs⟩ := bs_of (cs.extract 0 16) (by simp; omega) fun j hj => by
    have hj1 := hall' j hj
    rw [cells5, Nat.mul_one] at hj1
    rw [List.getElem?_eq_getElem (by omega)] at hj1
    obtain ⟨n, hc, _, hw⟩ := DataW.trod_int Try.underlying5 hj1
    refine ⟨n, ?_, (bounds_u8 hw).1, (bounds_u8 hw).2⟩
    have hc2 := congrArg (·[0]?) hc
    simp only [List.getElem?_take, List.getElem?_drop] at hc2
    simp at hc2
    rw [Array.getElem?_extract]
    simp
    exact ⟨by omega, hc2.2⟩
  have bx := bounds_u64 hwx
  refine ⟨b, a, i, x, hb, ⟨bx.1, by omega⟩, ?_⟩
  have ga := one_at ha
  have gi := one_at hi
  have gx := one_at hxx
  apply Array.ext_getElem?
  intro j
  by_cases hj : j < 16
  · have e1 : (cs.extract 0 16)[j]? = cs[j]? := by rw [Array.getElem?_extract]; simp; omega
    have e2 : (bs b)[j]? = (atC b a i x)[j]? := by unfold atC; rw [Array.getElem?_append_left (by simpa using hj)]
    rw [← e1, hbs, e2]
  · by_cases h16 : j = 16
    · subst h16; rw [atC_1]; exact ga
    · by_cases h17 : j = 17
      · subst h17; rw [atC_2]; exact gi
      · by_cases h18 : j = 18
        · subst h18; rw [atC_3]; exact gx
        · rw [Array.getElem?_eq_none (by omega), Array.getElem?_eq_none (by rw [sz28]; omega)]
theorem open_ats {H : Type} {enc : TypeId × Value → H} {W : World} {r : Reach} {base : Nat} {v : Value} {d : DataW H} {p : List MemPlace}
    (hok : Value.okWide Try.prog W r base 22 v) (h : DataW.Trod enc Try.prog W 0 (fun _ => true) true 22 v d p) :
    ∃ (len : Nat) (B : Nat → Nat → Int) (A I X : Nat → Int), (∀ k, Byt (B k)) ∧ (∀ k, 0 ≤ X k ∧ X k < 18446744073709551616) ∧ Ats W v len B A I X := by
  obtain ⟨a0, len, cap, rfl⟩ := okWide_slice Try.underlying22 hok
  obtain ⟨fuel, hf⟩ := h
  rcases DataW.trod_slice Try.underlying22 hf with ⟨hcs, _⟩ | ⟨a, len', cap', elems, rest, n, _, hcs, _, _, hl, hm, hlen, hel, _, _⟩
  · simp [Value.cells] at hcs
    obtain ⟨rfl, rfl, rfl⟩ := hcs
    exact ⟨0, fun _ _ => 0, fun _ => 0, fun _ => 0, fun _ => 0, fun _ => nought_byt, fun _ => ⟨by simp, by simp⟩, .inl ⟨rfl, _, _, rfl⟩⟩
  · simp [Value.cells] at hcs
    obtain ⟨rfl, rfl, rfl⟩ := hcs
    have hH : ∀ k, ∃ t : (Nat → Int) × Int × Int × Int, Byt t.1 ∧ (0 ≤ t.2.2.2 ∧ t.2.2.2 < 18446744073709551616) ∧ (k < len → ∀ j u, (atC t.1 t.2.1 t.2.2.1 t.2.2.2).toList[j]? = some u → W.cell? ((a.add (k * 19)).add j) = some u) := fun k => by
      by_cases hk : k < len
      · have h1 := hel k hk
        rw [cellsA, List.getElem?_eq_getElem (by omega), Option.bind_eq_some_iff] at h1
        obtain ⟨cs, hcs, hy⟩ := h1
        have hsp := World.cells?_some hcs
        obtain ⟨b, a', i, x, hb, hx, he⟩ := open_at_list (cs := cs.toArray) (by simpa using hsp.2.1) hy
        refine ⟨(b, a', i, x), hb, hx, fun _ j u hu => ?_⟩
        rw [← he] at hu
        have hj := (List.getElem?_eq_some_iff.1 hu).1
        have hj19 : j < 19 := by simpa [hsp.2.1] using hj
        rw [hsp.2.2 j hj19]
        simpa using hu
      · exact ⟨(fun _ => 0, 0, 0, 0), nought_byt, ⟨by simp, by simp⟩, fun h => absurd h hk⟩
    refine ⟨len, fun k => (hH k).choose.1, fun k => (hH k).choose.2.1, fun k => (hH k).choose.2.2.1, fun k => (hH k).choose.2.2.2, fun k => (hH k).choose_spec.1, fun k => (hH k).choose_spec.2.1, ?_⟩
    by_cases h0 : len = 0
    · subst h0; exact .inl ⟨rfl, _, _, rfl⟩
    · obtain ⟨g, off, spot⟩ := a
      obtain ⟨t, _, _, ht⟩ := hH 0
      have h00 := ht (by omega) 0 (.int .u8 (t.1 0)) (by rw [Array.getElem?_toList]; exact atC_get _ _ _ _ 0 _ (by rw [Array.getElem?_toList]; exact bs_get t.1 0 (by omega)))
      have hspot : spot = none := by simpa [Addr.add] using World.cell?_spot h00
      subst hspot
      refine .inr ⟨by unfold maxLen at hm; omega, g, off, cap, rfl, fun k hk j u hu => ?_⟩
      have := (hH k).choose_spec.2.2 hk j u hu
      have hadd : ∀ (o m : Nat), (⟨g, o, none⟩ : Addr).add m = ⟨g, o + m, none⟩ := fun o m => by unfold Addr.add; split <;> simp_all
      rw [hadd, hadd] at this
      exact this
end Go.Proofs.Ythdklnkaeddogab
