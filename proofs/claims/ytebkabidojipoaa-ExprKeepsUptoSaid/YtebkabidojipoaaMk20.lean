/-
  Texts of this seat, joined: ExOp, ExKb. Each says what it proves.
-/
import Derived.Test.YtebkabidojipoaaMk12
import Derived.Test.YtebkabidojipoaaMk18
/- ExOp -/
namespace Go.Proofs.Ytebkabidojipoaa
open Go.RowKit VecM LebM Go.ChangeShapes Go.WideShapes
namespace Ex
theorem bulk_mem {H : Type} : ∀ (l : List (DataW H)) (d : DataW H), d ∈ l → Rows.uptoBulk d ≤ Rows.uptoBulkAll l
 | [], _, h => by cases h
 | x :: r, d, h => by
  rcases List.mem_cons.1 h with rfl | h
  ·simp only [Rows.uptoBulkAll]; omega
  ·have := bulk_mem r d h
   simp only [Rows.uptoBulkAll]; omega
theorem bulk_app {H : Type} : ∀ (l m : List (DataW H)), Rows.uptoBulkAll (l ++ m) = Rows.uptoBulkAll l + Rows.uptoBulkAll m
 | [], m => by simp [Rows.uptoBulkAll]
 | x :: r, m => by
  have := bulk_app r m
  simp only [List.cons_append, Rows.uptoBulkAll]; omega
theorem szP_app : ∀ (A B : List In), szP (A ++ B) = szP A + szP B
 | [], B => by simp [szP]
 | d :: r, B => by
  have := szP_app r B
  simp only [List.cons_append, szP]; omega
theorem cellsI : Try.prog.cellsOf 38 = 6 := by kernel_rfl
theorem one_of {L : List Value} {a : Nat} {u : Value} (h : (L.drop a).take 1 = [u]) : L[a]? = some u := by
 have h2 := congrArg (·[0]?) h
 simp only [List.getElem?_take_of_lt (show 0 < 1 by decide), List.getElem?_drop, Nat.add_zero] at h2
 exact h2
theorem add_none (g : Nat) (o m : Nat) : (⟨g, o, none⟩ : Addr).add m = ⟨g, o + m, none⟩ := by unfold Addr.add; split <;> simp_all
def InR (d : In) : Prop := (-9223372036854775808 ≤ d.op ∧ d.op ≤ 9223372036854775807) ∧ (-9223372036854775808 ≤ d.a ∧ d.a ≤ 9223372036854775807) ∧ (0 ≤ d.lo ∧ d.lo < 18446744073709551616) ∧ (0 ≤ d.hi ∧ d.hi < 18446744073709551616)
end Ex
end Go.Proofs.Ytebkabidojipoaa
/- ExKb -/
namespace Go.Proofs.Ytebkabidojipoaa
open Go.RowKit VecM LebM Go.ChangeShapes Go.WideShapes
namespace Ex
theorem open_ls2 {H : Type} {enc : TypeId × Value → H} {W : World} {fuel : Nat} {cs : List Value} {y : DataW H × List MemPlace} (h : DataW.trod enc Try.prog W 0 (fun _ => true) true fuel 36 cs = some y) :
  ∃ Lv l, cs = [Lv] ∧ (LsR W Lv l ∧ Src W Lv l.length (ivs l)) ∧ l.length + 1 ≤ Rows.uptoBulk y.1 := by
 rcases open_ints Try.underlying36 Try.underlying3 (by kernel_rfl) h with ⟨rfl, rfl⟩ | ⟨a, len, cap, zs, rfl, _, hl, hm, hz, rfl, hcell, _⟩
 ·exact ⟨_, [], rfl, ⟨lsR_nil W, .inl ⟨rfl, rfl, rfl⟩⟩, by simp [Rows.uptoBulk]⟩
 ·simp only [if_true] at hz
  have hlen : (zs.take len).length = len := by rw [List.length_take]; omega
  refine ⟨_, zs.take len, rfl, ⟨⟨some a, cap, by rw [hlen], fun j hj => ?_⟩, .inr ⟨a, cap, by rw [hlen], fun j u hu => ?_⟩⟩, ?_⟩
  ·rw [hlen] at hj
   have h1 := hcell j (by omega)
   obtain ⟨b, off, spot⟩ := a
   have h0 := hcell 0 (by omega)
   have hspot : spot = none := by simpa [Addr.add] using World.cell?_spot h0
   subst hspot
   refine ⟨b, off, rfl, ?_⟩
   rw [add_none] at h1
   rw [h1, List.getD_eq_getElem?_getD, List.getD_eq_getElem?_getD, List.getElem?_take, if_pos hj]
  ·have hj : j < len := by have := (List.getElem?_eq_some_iff.1 hu).1; unfold ivs at this; simp only [List.length_map] at this; omega
   have h1 := hcell j (by omega)
   rw [h1]
   unfold ivs at hu
   rw [List.getElem?_map, List.getElem?_take, if_pos hj, List.getElem?_eq_getElem (by omega)] at hu
   rw [List.getD_eq_getElem?_getD, List.getElem?_eq_getElem (by omega)]
   exact hu
  ·have := bulk_len (H := H) (lits .i64 (zs.take len))
   have e : (lits (H := H) .i64 (zs.take len)).length = len := by unfold lits; rw [List.length_map, hlen]
   simp only [Rows.uptoBulk]
   omega
set_option maxRecDepth 100000 in
theorem open_instr2 {H : Type} {enc : TypeId × Value → H} {W : World} {fuel : Nat} {cs : List Value} {y : DataW H × List MemPlace} (h : DataW.trod enc Try.prog W 0 (fun _ => true) true fuel 38 cs = some y) :
  ∃ d Lv, cs = (inV d Lv).toList ∧ (LsR W Lv d.l ∧ Src W Lv d.l.length (ivs d.l)) ∧ InR d ∧ d.l.length + 1 ≤ Rows.uptoBulk y.1 := by
 obtain ⟨xs, m, rfl, rfl, hl, hn, hall⟩ := DataW.trod_struct Try.underlying38 h
 rw [cellsI] at hl
 have hn6 : xs.length = 6 := hn
 have h0 := hall 0 _ rfl
 have h1 := hall 1 _ rfl
 have h2 := hall 2 _ rfl
 have h3 := hall 3 _ rfl
 have h4 := hall 4 _ rfl
 have h5 := hall 5 _ rfl
 clear hall
 rw [List.getElem?_eq_getElem (by omega)] at h0 h1 h2 h3 h4 h5
 obtain ⟨z0, e0, _, w0⟩ := DataW.trod_int Try.underlying3 h0
 obtain ⟨z1, e1, _, w1⟩ := DataW.trod_int Try.underlying3 h1
 obtain ⟨z2, e2, _, _⟩ := DataW.trod_int Try.underlying3 h2
 obtain ⟨z3, e3, _, w3⟩ := DataW.trod_int Try.underlying35 h3
 obtain ⟨z4, e4, _, w4⟩ := DataW.trod_int Try.underlying35 h4
 obtain ⟨Lv, l, e5, hL, hb⟩ := open_ls2 h5
 have b3 := bounds_u64 w3
 have b4 := bounds_u64 w4
 refine ⟨⟨z0, z1, z2, z3, z4, l⟩, Lv, ?_, hL, ⟨bounds_i64 w0, bounds_i64 w1, ⟨b3.1, by have := b3.2; dsimp only; omega⟩, ⟨b4.1, by have := b4.2; dsimp only; omega⟩⟩, ?_⟩
 ·have g0 := one_of (a := 0) e0
  have g1 := one_of (a := 1) e1
  have g2 := one_of (a := 2) e2
  have g3 := one_of (a := 3) e3
  have g4 := one_of (a := 4) e4
  have g5 := one_of (a := 5) e5
  apply List.ext_getElem?
  intro j
  by_cases hj : j < 6
  ·match j, hj with
   | 0, _ => exact g0
   | 1, _ => exact g1
   | 2, _ => exact g2
   | 3, _ => exact g3
   | 4, _ => exact g4
   | 5, _ => exact g5
  ·rw [List.getElem?_eq_none (by omega), List.getElem?_eq_none (by simp [inV]; omega)]
 ·have := bulk_mem (xs.map (·.1)) xs[5].1 (List.mem_map_of_mem (List.getElem_mem (by omega)))
  simp only [Rows.uptoBulk]
  omega
set_option maxRecDepth 100000 in
theorem open_code2 {H : Type} {enc : TypeId × Value → H} {W : World} {r : Reach} {base : Nat} {v : Value} {d : DataW H} {p : List MemPlace}
  (hok : Value.okWide Try.prog W r base 24 v) (h : DataW.Trod enc Try.prog W 0 (fun _ => true) true 24 v d p) :
  ∃ P : List (In × Value), CdR W v P ∧ (∀ q ∈ P, Src W q.2 q.1.l.length (ivs q.1.l)) ∧ (∀ q ∈ P, InR q.1) ∧ szP (P.map (·.1)) ≤ Rows.uptoBulk d := by
 obtain ⟨a0, len, cap, rfl⟩ := okWide_slice Try.underlying24 hok
 obtain ⟨fuel, hf⟩ := h
 rcases DataW.trod_slice Try.underlying24 hf with ⟨hcs, _⟩ | ⟨a, len', cap', elems, rest, n, _, hcs, hx, _, hl, hm, hlen, hel, _, _⟩
 ·simp [Value.cells] at hcs
  obtain ⟨rfl, rfl, rfl⟩ := hcs
  exact ⟨[], ⟨⟨none, 0, rfl, fun j u hu => by simp [cdV] at hu⟩, fun q hq => by cases hq⟩, (fun q hq => by cases hq), (fun q hq => by cases hq), by simp [szP]⟩
 ·simp [Value.cells] at hcs
  obtain ⟨rfl, rfl, rfl⟩ := hcs
  have e1 := congrArg Prod.fst hx
  simp only at e1
  subst e1
  have key : ∀ m, m ≤ len → ∃ P : List (In × Value), P.length = m ∧ (∀ q ∈ P, (LsR W q.2 q.1.l ∧ Src W q.2 q.1.l.length (ivs q.1.l)) ∧ InR q.1) ∧ (∀ k q, P[k]? = some q → ∀ i u, (inV q.1 q.2).toList[i]? = some u → W.cell? ((a.add (k * 6)).add i) = some u) ∧ szP (P.map (·.1)) ≤ Rows.uptoBulkAll ((elems.take m).map (·.1)) := by
   intro m
   induction m with
   | zero => exact fun _ => ⟨[], rfl, (fun q hq => by cases hq), (fun k q hq => by simp at hq), by simp [szP]⟩
   | succ m ih =>
    intro hm1
    obtain ⟨P, hP, hq, hc, hs⟩ := ih (by omega)
    have h1 := hel m (by omega)
    rw [cellsI, List.getElem?_eq_getElem (by omega), Option.bind_eq_some_iff] at h1
    obtain ⟨cs, hcs, hy⟩ := h1
    have hsp := World.cells?_some hcs
    obtain ⟨d, Lv, rfl, hL, hR, hb⟩ := open_instr2 hy
    refine ⟨P ++ [(d, Lv)], by simp [hP], fun q hq' => ?_, fun k q hk i u hu => ?_, ?_⟩
    ·rcases List.mem_append.1 hq' with h | h
     ·exact hq q h
     ·obtain rfl := List.mem_singleton.1 h
      exact ⟨hL, hR⟩
    ·by_cases hkm : k < m
     ·rw [List.getElem?_append_left (by omega)] at hk
      exact hc k q hk i u hu
     ·have hk2 := (List.getElem?_eq_some_iff.1 hk).1
      simp only [List.length_append, List.length_singleton] at hk2
      obtain rfl : k = m := by omega
      rw [List.getElem?_append_right (by omega), hP, Nat.sub_self] at hk
      obtain rfl : (d, Lv) = q := by simpa using hk
      have hi := (List.getElem?_eq_some_iff.1 hu).1
      have hi6 : i < 6 := by simpa [inV] using hi
      rw [hsp.2.2 i hi6]
      simpa using hu
    ·have e9 : elems.take (m + 1) = elems.take m ++ [elems[m]] := by rw [List.take_add_one, List.getElem?_eq_getElem (by omega)]; rfl
     rw [List.map_append, szP_app, e9, List.map_append, bulk_app]
     simp only [List.map_cons, List.map_nil, szP, Rows.uptoBulkAll]
     omega
  obtain ⟨P, hP, hq, hc, hs⟩ := key len (Nat.le_refl _)
  refine ⟨P, ⟨⟨some a, cap, by rw [hP], fun j u hu => ?_⟩, fun q h => (hq q h).1.1⟩, fun q h => (hq q h).1.2, fun q h => (hq q h).2, ?_⟩
  ·have hj := (List.getElem?_eq_some_iff.1 hu).1
   rw [cdV_len, hP] at hj
   obtain ⟨q, hk⟩ : ∃ q, P[j / 6]? = some q := ⟨_, List.getElem?_eq_getElem (by omega)⟩
   have h6 := cdV_get P (j / 6) q hk (j % 6) (by omega)
   rw [show j / 6 * 6 + j % 6 = j by omega] at h6
   rw [h6] at hu
   have h7 := hc _ q hk _ u hu
   obtain ⟨b, off, spot⟩ := a
   have hsp0 : ((⟨b, off, spot⟩ : Addr).add (j / 6 * 6)).add (j % 6) = ⟨b, off + j, spot⟩ ∨ spot ≠ none := by
    cases spot with
    | none => left; rw [add_none, add_none, Nat.add_assoc, show j / 6 * 6 + j % 6 = j by omega]
    | some s => right; simp
   have hspot : spot = none := by
    obtain ⟨q0, hk0⟩ : ∃ q, P[0]? = some q := ⟨_, List.getElem?_eq_getElem (by omega)⟩
    have h8 := hc 0 q0 hk0 0 (.int .i64 q0.1.op) rfl
    simpa [Addr.add] using World.cell?_spot h8
   subst hspot
   rcases hsp0 with h9 | h9
   ·rw [h9] at h7
    exact ⟨b, off, rfl, h7⟩
   ·exact absurd rfl h9
  ·rw [List.take_of_length_le (by omega)] at hs
   simp only [Rows.uptoBulk]
   omega
end Ex
end Go.Proofs.Ytebkabidojipoaa
