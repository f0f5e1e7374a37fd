/-
  What a given list of vectors is. No condition.
-/
import Derived.Test.YtdclbagfnabmkaaOpenA
import Derived.ChangeArms
namespace Go.Proofs.Ytdclbagfnabmkaa
open Go.RowKit VecM Go.ChangeShapes Go.WideShapes
theorem zero_byt : Byt (fun _ : Nat => (0 : Int)) := fun _ => by constructor <;> simp
/-- a slice of vectors, wherever they lie -/
def Vecs (w : World) (sv : Value) (len : Nat) (vs : Nat → Nat → Int) : Prop :=
  (len = 0 ∧ ∃ x c, sv = .slice x 0 c) ∨ (len ≤ 9223372036854775807 ∧ ∃ b off cap, sv = .slice (some ⟨b, off, none⟩) len cap ∧ ∀ j, j < len → ∀ m, m < 16 → w.cell? ⟨b, off + j * 16 + m, none⟩ = some (.int .u8 (vs j m)))
theorem open_vec_list {H : Type} {enc : TypeId × Value → H} {W : World} {sp : Nat → Bool} {held : Bool} {cs : Array Value} {y : DataW H × List MemPlace} {fuel : Nat}
    (hsz : cs.size = 16) (hf : DataW.trod enc Try.prog W 0 sp held fuel 23 cs.toList = some y) : ∃ b, Byt b ∧ cs = bs b := by
  obtain ⟨xs, m, rfl, hx, hl, hn, hall⟩ := DataW.trod_array Try.underlying23 hf
  refine bs_of cs hsz fun i hi => ?_
  have h1 := hall i hi
  rw [cells5, Nat.mul_one] at h1
  rw [List.getElem?_eq_getElem (by omega)] at h1
  obtain ⟨n, hc, _, hw⟩ := DataW.trod_int Try.underlying5 h1
  refine ⟨n, ?_, (bounds_u8 hw).1, (bounds_u8 hw).2⟩
  have h2 := congrArg (·[0]?) hc
  simpa [List.getElem?_take, List.getElem?_drop] using h2
theorem open_vecs {H : Type} {enc : TypeId × Value → H} {W : World} {r : Reach} {base : Nat} {v : Value} {d : DataW H} {p : List MemPlace}
    (hok : Value.okWide Try.prog W r base 33 v) (h : DataW.Trod enc Try.prog W 0 (fun _ => true) true 33 v d p) :
    ∃ (len : Nat) (B : Nat → Nat → Int), (∀ k, Byt (B k)) ∧ Vecs W v len B := by
  obtain ⟨a0, len, cap, rfl⟩ := okWide_slice Try.underlying33 hok
  obtain ⟨fuel, hf⟩ := h
  rcases DataW.trod_slice Try.underlying33 hf with ⟨hcs, _⟩ | ⟨a, len', cap', elems, rest, n, _, hcs, _, _, hl, hm, hlen, hel, _, _⟩
  · simp [Value.cells] at hcs
    obtain ⟨rfl, rfl, rfl⟩ := hcs
    exact ⟨0, fun _ _ => 0, fun _ => zero_byt, .inl ⟨rfl, _, _, rfl⟩⟩
  · simp [Value.cells] at hcs
    obtain ⟨rfl, rfl, rfl⟩ := hcs
    have hH : ∀ k, ∃ t : Nat → Int, Byt t ∧ (k < len → ∀ j, j < 16 → W.cell? ((a.add (k * 16)).add j) = some (.int .u8 (t j))) := fun k => by
      by_cases hk : k < len
      · have h1 := hel k hk
        rw [cellsV, List.getElem?_eq_getElem (by omega), Option.bind_eq_some_iff] at h1
        obtain ⟨cs, hcs, hy⟩ := h1
        have hsp := World.cells?_some hcs
        obtain ⟨b, hb, he⟩ := open_vec_list (cs := cs.toArray) (by simpa using hsp.2.1) hy
        refine ⟨b, hb, fun _ j hj => ?_⟩
        rw [hsp.2.2 j hj]
        have h2 := bs_get b j hj
        rw [← he] at h2
        simpa using h2
      · exact ⟨fun _ => 0, zero_byt, fun h => absurd h hk⟩
    refine ⟨len, fun k => (hH k).choose, fun k => (hH k).choose_spec.1, ?_⟩
    by_cases h0 : len = 0
    · subst h0; exact .inl ⟨rfl, _, _, rfl⟩
    · obtain ⟨g, off, spot⟩ := a
      obtain ⟨t, _, ht⟩ := hH 0
      have h00 := ht (by omega) 0 (by omega)
      have hspot : spot = none := by simpa [Addr.add] using World.cell?_spot h00
      subst hspot
      refine .inr ⟨by unfold maxLen at hm; omega, g, off, cap, rfl, fun k hk j hj => ?_⟩
      have := (hH k).choose_spec.2 hk j hj
      have hadd : ∀ (o m : Nat), (⟨g, o, none⟩ : Addr).add m = ⟨g, o + m, none⟩ := fun o m => by unfold Addr.add; split <;> simp_all
      have h3 : ((⟨g, off, none⟩ : Addr).add (k * 16)).add j = ⟨g, off + k * 16 + j, none⟩ := by rw [hadd, hadd]
      exact (congrArg W.cell? h3).symm.trans this
end Go.Proofs.Ytdclbagfnabmkaa
