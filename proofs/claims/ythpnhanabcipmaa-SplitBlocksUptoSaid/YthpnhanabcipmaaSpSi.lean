/-
  Of layer 21: a given list of functions' types: what it is. No condition but its bulk.
-/
import Derived.Test.YthpnhanabcipmaaSpSo
import Derived.ChangeSame
namespace Go.Proofs.Ythpnhanabcipmaa
open Go.RowKit VecM Go.ChangeShapes Go.WideShapes
namespace Sp
theorem addr_add2 (g o m : Nat) : (⟨g, o, none⟩ : Addr).add m = ⟨g, o + m, none⟩ := by unfold Addr.add; split <;> simp_all
theorem open_field {H : Type} {enc : TypeId × Value → H} {W : World} {sp : Nat → Bool} {held : Bool} {fuel : Nat} {cells : List Value} {y : DataW H × List MemPlace}
    (hf : DataW.trod enc Try.prog W 0 sp held fuel 22 cells = some y) : ∃ (x : Option Addr) (n c : Nat) (z : Nat → Int), cells = [.slice x n c] ∧ I64s W (.slice x n c) n z ∧ n ≤ Rows.uptoBulk y.1 := by
  rcases open_ints Try.underlying22 Try.underlying3 (by kernel_rfl) hf with ⟨hcs, _⟩ | ⟨a, len, cap, zs, hcs, _, hl, hm, hz, hy, hcell, _⟩
  · exact ⟨none, 0, 0, fun _ => 0, hcs, .inl ⟨rfl, _, _, rfl⟩, Nat.zero_le _⟩
  · have hlz : len ≤ zs.length := by rw [hz]; split <;> omega
    have hb : len ≤ Rows.uptoBulk y.1 := by
      rw [hy]
      have := bulk_len (lits (H := H) .i64 (zs.take len))
      simp only [lits, List.length_map, List.length_take] at this
      simp only [Rows.uptoBulk, lits]
      omega
    refine ⟨some a, len, cap, fun j => zs.getD j 0, hcs, ?_, hb⟩
    by_cases h0 : len = 0
    · subst h0; exact .inl ⟨rfl, _, _, rfl⟩
    · obtain ⟨b, off, spot⟩ := a
      have hspot : spot = none := by simpa [Addr.add] using World.cell?_spot (hcell 0 (by omega))
      subst hspot
      refine .inr ⟨by unfold maxLen at hm; omega, b, off, cap, rfl, fun j hj => ?_⟩
      have := hcell j (by omega)
      rw [addr_add2] at this
      exact this
theorem bulk_mem {H : Type} {x : DataW H} : ∀ {l : List (DataW H)}, x ∈ l → Rows.uptoBulk x ≤ Rows.uptoBulkAll l
  | y :: l, h => by
    rcases List.mem_cons.1 h with rfl | h
    · simp only [Rows.uptoBulkAll]; omega
    · have := bulk_mem h
      simp only [Rows.uptoBulkAll]; omega
theorem open_sg {H : Type} {enc : TypeId × Value → H} {W : World} {sp : Nat → Bool} {held : Bool} {fuel : Nat} {cs : List Value} {y : DataW H × List MemPlace}
    (hf : DataW.trod enc Try.prog W 0 sp held fuel 25 cs = some y) (hb : Rows.uptoBulk y.1 ≤ 1048576) : ∃ s : Sd, s.Ok W ∧ cs[0]? = some s.i ∧ cs[1]? = some s.o := by
  obtain ⟨y0, y1, n, rfl, hl, h0, h1⟩ := trod_struct2 Try.underlying25 hf
  simp only [Rows.uptoBulk, Rows.uptoBulkAll] at hb
  obtain ⟨x, n0, c, z, e, hi, b⟩ := open_field h0
  obtain ⟨x', n', c', z', e', hi', b'⟩ := open_field h1
  refine ⟨⟨x, n0, c, z, x', n', c', z'⟩, ⟨hi, hi', by show n0 ≤ _; omega, by show n' ≤ _; omega⟩, ?_, ?_⟩
  · have h2 := congrArg (·[0]?) e
    have h3 : 0 < Try.prog.cellsOf 22 ∧ cs[0]? = some (.slice x n0 c) := by simpa [List.getElem?_take, List.getElem?_drop] using h2
    exact h3.2
  · have h2 := congrArg (·[0]?) e'
    have h3 : 0 < Try.prog.cellsOf 22 ∧ cs[1]? = some (.slice x' n' c') := by simpa [List.getElem?_take, List.getElem?_drop] using h2
    exact h3.2
theorem open_sigs {H : Type} {enc : TypeId × Value → H} {W : World} {r : Reach} {base : Nat} {v : Value} {d : DataW H} {p : List MemPlace}
    (hok : Value.okWide Try.prog W r base 32 v) (h : DataW.Trod enc Try.prog W 0 (fun _ => true) true 32 v d p) (hb : Rows.uptoBulk d ≤ 1048576) :
    ∃ (len : Nat) (S : Nat → Sd), (∀ j, (S j).Ok W) ∧ Sgs W v len S := by
  obtain ⟨a0, len, cap, rfl⟩ := okWide_slice Try.underlying32 hok
  obtain ⟨fuel, hf⟩ := h
  rcases DataW.trod_slice Try.underlying32 hf with ⟨hcs, _⟩ | ⟨a, len', cap', elems, rest, n, _, hcs, hx, _, hl, hm, hlen, hel, _, _⟩
  · simp [Value.cells] at hcs
    obtain ⟨rfl, rfl, rfl⟩ := hcs
    exact ⟨0, fun _ => sdNo, fun _ => sdNo_ok W, .inl ⟨rfl, _, _, rfl⟩⟩
  · simp [Value.cells] at hcs
    obtain ⟨rfl, rfl, rfl⟩ := hcs
    have e1 := congrArg Prod.fst hx
    simp only at e1
    subst e1
    simp only [Rows.uptoBulk] at hb
    have hH : ∀ k, ∃ s : Sd, s.Ok W ∧ (k < len → W.cell? (a.add (k * 2)) = some s.i ∧ W.cell? ((a.add (k * 2)).add 1) = some s.o) := fun k => by
      by_cases hk : k < len
      · have h1 := hel k hk
        rw [cellsSg, List.getElem?_eq_getElem (by omega), Option.bind_eq_some_iff] at h1
        obtain ⟨cs, hcs, hy⟩ := h1
        have hsp := World.cells?_some hcs
        have hbm : Rows.uptoBulk (elems[k]'(by omega)).1 ≤ 1048576 := by
          have := bulk_mem (l := elems.map (·.1)) (List.mem_map.2 ⟨elems[k]'(by omega), List.getElem_mem _, rfl⟩)
          omega
        obtain ⟨s, hs, e0, e1⟩ := open_sg hy hbm
        refine ⟨s, hs, fun _ => ⟨?_, ?_⟩⟩
        · have h0 := hsp.2.2 0 (by omega)
          rw [e0] at h0
          have ha : (a.add (k * 2)).add 0 = a.add (k * 2) := by simp [Addr.add]
          rw [ha] at h0
          exact h0
        · have h1 := hsp.2.2 1 (by omega)
          rw [e1] at h1
          exact h1
      · exact ⟨sdNo, sdNo_ok W, fun h => absurd h hk⟩
    refine ⟨len, fun k => (hH k).choose, fun k => (hH k).choose_spec.1, ?_⟩
    by_cases h0 : len = 0
    · subst h0; exact .inl ⟨rfl, _, _, rfl⟩
    · obtain ⟨g, off, spot⟩ := a
      have h00 := ((hH 0).choose_spec.2 (by omega)).1
      have hspot : spot = none := by simpa [Addr.add] using World.cell?_spot h00
      subst hspot
      refine .inr ⟨by unfold maxLen at hm; omega, g, off, cap, rfl, fun k hk => ?_⟩
      have := (hH k).choose_spec.2 hk
      have e1 : (⟨g, off, none⟩ : Addr).add (k * 2) = ⟨g, off + k * 2, none⟩ := addr_add2 _ _ _
      have e2 : ((⟨g, off, none⟩ : Addr).add (k * 2)).add 1 = ⟨g, off + k * 2 + 1, none⟩ := by rw [addr_add2, addr_add2]
      exact ⟨(congrArg W.cell? e1).symm.trans this.1, (congrArg W.cell? e2).symm.trans this.2⟩
end Sp
end Go.Proofs.Ythpnhanabcipmaa
