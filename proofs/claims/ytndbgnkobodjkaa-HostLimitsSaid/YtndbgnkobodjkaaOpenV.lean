/-
  What a given list of vectors, and a given list of uint64 with its room, is.
-/
import Derived.Test.YtndbgnkobodjkaaOpen
import Derived.Test.YtndbgnkobodjkaaTakeAny
import Derived.ChangeArms
namespace Go.Proofs.Ytndbgnkobodjkaa
open Go.RowKit VecM Go.ChangeShapes Go.WideShapes
/-- a given slice's length is at most its reading's bulk -/
theorem zero_byt : Byt (fun _ : Nat => (0 : Int)) := fun _ => by constructor <;> simp
theorem bulk_len {H : Type} : ∀ l : List (DataW H), l.length ≤ Rows.uptoBulkAll l
  | [] => by simp [Rows.uptoBulkAll]
  | x :: r => by
    have h1 := bulk_len r
    have h2 : 1 ≤ Rows.uptoBulk x := by
      cases x with
      | lit l => cases l <;> simp [Rows.uptoBulk]
      | nil => simp [Rows.uptoBulk]
      | ptr d => simp [Rows.uptoBulk]
      | slice elems spare => simp [Rows.uptoBulk]
      | agg parts => simp [Rows.uptoBulk]
      | iface t d => simp [Rows.uptoBulk]
      | map entries => simp [Rows.uptoBulk]
      | held h => simp [Rows.uptoBulk]
    simp only [Rows.uptoBulkAll, List.length_cons]; omega
theorem trod_bulk {H : Type} {enc : TypeId × Value → H} {W : World} {sp : Nat → Bool} {held : Bool} {t e : TypeId} {a : Option Addr} {n c : Nat} {d : DataW H} {p : List MemPlace}
    (ht : Try.prog.underlying t = some (.slice e)) (h : DataW.Trod enc Try.prog W 0 sp held t (.slice a n c) d p) : n ≤ Rows.uptoBulk d := by
  obtain ⟨fuel, hf⟩ := h
  rcases DataW.trod_slice ht hf with ⟨hcs, _⟩ | ⟨a', len', cap', elems, rest, n', _, hcs, hx, _, hl, hm, hlen, _, _, _⟩
  · simp [Value.cells] at hcs
    omega
  · simp [Value.cells] at hcs
    obtain ⟨rfl, rfl, rfl⟩ := hcs
    have e1 := congrArg Prod.fst hx
    simp only at e1
    subst e1
    have := bulk_len (elems.map (·.1))
    simp only [Rows.uptoBulk, List.length_map] at this ⊢
    omega
theorem open_vec_list {H : Type} {enc : TypeId × Value → H} {W : World} {sp : Nat → Bool} {held : Bool} {cs : Array Value} {y : DataW H × List MemPlace} {fuel : Nat}
    (hsz : cs.size = 16) (hf : DataW.trod enc Try.prog W 0 sp held fuel 86 cs.toList = some y) : ∃ b, Byt b ∧ cs = bs b := by
  obtain ⟨xs, m, rfl, hx, hl, hn, hall⟩ := DataW.trod_array Try.underlying86 hf
  refine bs_of cs hsz fun i hi => ?_
  have h1 := hall i hi
  rw [cells5, Nat.mul_one] at h1
  rw [List.getElem?_eq_getElem (by omega)] at h1
  obtain ⟨n, hc, _, hw⟩ := DataW.trod_int Try.underlying5 h1
  refine ⟨n, ?_, (bounds_u8 hw).1, (bounds_u8 hw).2⟩
  have h2 := congrArg (·[0]?) hc
  simpa [List.getElem?_take, List.getElem?_drop] using h2
theorem open_vecs {H : Type} {enc : TypeId × Value → H} {W : World} {r : Reach} {base : Nat} {v : Value} {d : DataW H} {p : List MemPlace}
    (hok : Value.okWide Try.prog W r base 74 v) (h : DataW.Trod enc Try.prog W 0 (fun _ => true) true 74 v d p) :
    ∃ (len : Nat) (B : Nat → Nat → Int), (∀ k, Byt (B k)) ∧ Vecs W v len B := by
  obtain ⟨a0, len, cap, rfl⟩ := okWide_slice Try.underlying74 hok
  obtain ⟨fuel, hf⟩ := h
  rcases DataW.trod_slice Try.underlying74 hf with ⟨hcs, _⟩ | ⟨a, len', cap', elems, rest, n, _, hcs, _, _, hl, hm, hlen, hel, _, _⟩
  · simp [Value.cells] at hcs
    obtain ⟨rfl, rfl, rfl⟩ := hcs
    exact ⟨0, fun _ _ => 0, fun _ => zero_byt, .inl ⟨rfl, _, _, rfl⟩⟩
  · simp [Value.cells] at hcs
    obtain ⟨rfl, rfl, rfl⟩ := hcs
    have hH : ∀ k, ∃ t : Nat → Int, Byt t ∧ (k < len → ∀ j, j < 16 → W.cell? ((a.add (k * 16)).add j) = some (.int .u8 (t j))) := fun k => by
      by_cases hk : k < len
      · have h1 := hel k hk
        rw [cellsV, List.getElem?_eq_getElem (by omega), Option.bind_eq_some_iff] at h1
        obtain ⟨cs, hcs, hy⟩ := h1
        have hsp := World.cells?_some hcs
        obtain ⟨b, hb, he⟩ := open_vec_list (cs := cs.toArray) (by simpa using hsp.2.1) hy
        refine ⟨b, hb, fun _ j hj => ?_⟩
        rw [hsp.2.2 j hj]
        have h2 := bs_get b j hj
        rw [← he] at h2
        simpa using h2
      · exact ⟨fun _ => 0, zero_byt, fun h => absurd h hk⟩
    refine ⟨len, fun k => (hH k).choose, fun k => (hH k).choose_spec.1, ?_⟩
    by_cases h0 : len = 0
    · subst h0; exact .inl ⟨rfl, _, _, rfl⟩
    · obtain ⟨g, off, spot⟩ := a
      obtain ⟨t, _, ht⟩ := hH 0
      have h00 := ht (by omega) 0 (by omega)
      have hspot : spot = none := by simpa [Addr.add] using World.cell?_spot h00
      subst hspot
      refine .inr ⟨by unfold maxLen at hm; omega, g, off, cap, rfl, fun k hk j hj => ?_⟩
      have := (hH k).choose_spec.2 hk j hj
      have hadd : ∀ (o m : Nat), (⟨g, o, none⟩ : Addr).add m = ⟨g, o + m, none⟩ := fun o m => by unfold Addr.add; split <;> simp_all
      have h3 : ((⟨g, off, none⟩ : Addr).add (k * 16)).add j = ⟨g, off + k * 16 + j, none⟩ := by rw [hadd, hadd]
      exact (congrArg W.cell? h3).symm.trans this
theorem open_u64c {H : Type} {enc : TypeId × Value → H} {W : World} {r : Reach} {base : Nat} {v : Value} {d : DataW H} {p : List MemPlace}
    (hok : Value.okWide Try.prog W r base 22 v) (h : DataW.Trod enc Try.prog W 0 (fun _ => true) true 22 v d p) : ∃ (len : Nat) (zs : Nat → Int), (∀ j, 0 ≤ zs j ∧ zs j < 18446744073709551616) ∧ U64c W v len zs := by
  obtain ⟨a0, len, cap, rfl⟩ := okWide_slice Try.underlying22 hok
  obtain ⟨fuel, hf⟩ := h
  rcases open_ints Try.underlying22 Try.underlying53 (by kernel_rfl) hf with ⟨hcs, _⟩ | ⟨a, len', cap', zs, hcs, _, hl, hm, hz, _, hcell, hwz⟩
  · simp [Value.cells] at hcs
    obtain ⟨rfl, rfl, rfl⟩ := hcs
    exact ⟨0, fun _ => 0, fun _ => ⟨by simp, by simp⟩, .inl ⟨rfl, _, _, rfl⟩⟩
  · simp [Value.cells] at hcs
    obtain ⟨rfl, rfl, rfl⟩ := hcs
    simp only [if_true] at hz
    have hb : ∀ j, 0 ≤ (zs.getD j 0) ∧ (zs.getD j 0) < 18446744073709551616 := fun j => by
      by_cases hj : j < zs.length
      · have := bounds_u64 (hwz (zs.getD j 0) (by rw [List.getD_eq_getElem?_getD, List.getElem?_eq_getElem hj]; exact List.getElem_mem hj))
        omega
      · rw [List.getD_eq_getElem?_getD, List.getElem?_eq_none (by omega)]; constructor <;> decide
    refine ⟨len, fun j => zs.getD j 0, hb, ?_⟩
    by_cases h0 : len = 0
    · subst h0; exact .inl ⟨rfl, _, _, rfl⟩
    · obtain ⟨b, off, spot⟩ := a
      have hspot : spot = none := by simpa [Addr.add] using World.cell?_spot (hcell 0 (by omega))
      subst hspot
      refine .inr ⟨by unfold maxLen at hm; omega, b, off, cap, hl, rfl, fun j hj => ?_⟩
      have := hcell j (by omega)
      by_cases hj0 : j = 0
      · subst hj0; simpa [Addr.add] using this
      · simpa [Addr.add, hj0] using this
end Go.Proofs.Ytndbgnkobodjkaa
