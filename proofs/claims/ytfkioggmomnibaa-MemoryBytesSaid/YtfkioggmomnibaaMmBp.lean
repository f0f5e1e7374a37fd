/-
  Of layer 10: MemoryBytes: for every place and every list of bytes the law returns true.
-/
import Derived.Test.YtfkioggmomnibaaMmBn
import Derived.Test.YtfkioggmomnibaaMmOpen
import Derived.ProofKit
import Derived.OpenShut
import Derived.Carry
import Derived.ChangeArms
namespace Go.Proofs.Ytfkioggmomnibaa
open Go.RowKit VecM Ev Go.ChangeShapes Go.WideShapes
namespace Mm
theorem cpV_get {d s : List Value} {A off n i : Nat} (h1 : A + n ≤ d.length) (h2 : off + n ≤ s.length) : (cpV d A s off n)[i]? = if A ≤ i ∧ i < A + n then s[off + (i - A)]? else d[i]? := by
  unfold cpV
  have l1 : (d.take A).length = A := by rw [List.length_take]; omega
  have l2 : ((s.drop off).take n).length = n := by rw [List.length_take, List.length_drop]; omega
  by_cases hA : i < A
  · rw [if_neg (by omega), List.getElem?_append_left (by rw [l1]; exact hA), List.getElem?_take_of_lt hA]
  · rw [List.getElem?_append_right (by rw [l1]; omega), l1]
    by_cases hn : i < A + n
    · rw [if_pos ⟨by omega, hn⟩, List.getElem?_append_left (by rw [l2]; omega), List.getElem?_take_of_lt (by omega), List.getElem?_drop]
    · rw [if_neg (by omega), List.getElem?_append_right (by rw [l2]; omega), l2, List.getElem?_drop]
      congr 1
      omega
theorem cpV_len {d s : List Value} {A off n : Nat} (h1 : A + n ≤ d.length) (h2 : off + n ≤ s.length) : (cpV d A s off n).length = d.length := by
  unfold cpV
  rw [List.length_append, List.length_append, List.length_take, List.length_take, List.length_drop, List.length_drop]
  omega
section
variable {d s : List Value} {A off n N : Nat} (ok : OkB d N) (hs : SrcB s off n) (hn : 0 < n) (hA : A + n ≤ N)
include ok hs hn hA
theorem cpV_ok : OkB (cpV d A s off n) N := by
  have h1 := ok.1
  have h2 := hs.len hn
  refine ⟨by rw [cpV_len (by omega) h2]; exact h1, fun i hi => ?_⟩
  rw [cpV_get (by omega) h2]
  split
  · exact hs (i - A) (by omega)
  · exact ok.2 i hi
theorem cpV_in {j : Nat} (hj : j < n) : gB (cpV d A s off n) (A + j) = gB s (off + j) := by
  have h1 := ok.1
  unfold gB
  rw [cpV_get (by omega) (hs.len hn), if_pos (by omega), show A + j - A = j by omega]
theorem cpV_out {i : Nat} (hi : i < A ∨ A + n ≤ i) : gB (cpV d A s off n) i = gB d i := by
  have h1 := ok.1
  unfold gB
  rw [cpV_get (by omega) (hs.len hn), if_neg (by omega)]
end
theorem z64 : OkB (zC 65536) 65536 := zC_ok (Nat.le_refl _)
theorem lK_eq (β : Nat → Fr) : lK gaR β = tkV (zC 65536) 65536 (β 2).t := by unfold lK; rw [pN1]; rfl
theorem lK_ok (β : Nat → Fr) : OkB (lK gaR β) 65536 := by rw [lK_eq]; exact tkV_ok z64 _
theorem lK_same {c : List Value} (β : Nat → Fr) (ok : OkB c 65536) (h : ∀ i, i < 65536 → gB c i = 0) : gaR.sm c (lK gaR β) (pN 1) (pN 1) (pN 1) (gaR.ln (lK gaR β)) = true := by
  rw [pN1]
  refine smB_iff.2 ⟨rfl, rfl, ok, lK_ok β, Nat.le_refl _, (lK_ok β).1, fun i hi => ?_⟩
  rw [h i hi, lK_eq, tkV_gB z64 _ hi, zC_gB]
theorem zC_src (n : Nat) : SrcB (zC n) 0 n := fun j hj => ⟨0, by unfold zC; rw [List.getElem?_replicate, if_pos (by omega)], by decide, by decide⟩
section
variable {a : Int} {off n sc : Nat} {dc : List Value} (h0 : 0 ≤ a) (h1 : a < 18446744073709551616)
include h0 h1
theorem fz : Fit (zC 65536) 65536 65536 a := ⟨z64, Nat.le_refl _, by omega, h0, h1⟩
variable (hn : 0 < n) (hm : n < 9223372036854775808) (hs : SrcB dc off n)
include hn hm hs
theorem bl0_ok : ∀ p ∈ D_bl0 gaR gqR a off n dc, p.1 = p.2 := by
  unfold D_bl0
  rw [pN1]
  exact one_d (show nqB 1 (-1) 0 = true by decide) (one_d (okD (fz (Int.le_refl 0) (by decide))) (one_d (pks_iff.2 ⟨fz h0 h1, hn, hm, hs⟩) nil_d))
omit h0 h1 hn hm hs in
theorem blU_ok (hx : ¬ a + n ≤ 65536) (β : Nat → Fr) : ∀ p ∈ D_blU gaR gqR a off n dc β, p.1 = p.2 := by
  have e : lC gaR gqR a off n dc = zC 65536 := by
    unfold lC; rw [pN1]
    show cpP (zC 65536) 65536 a dc off n = _
    unfold cpP; rw [if_neg (by omega)]
  unfold D_blU
  refine one_d (eqb_t ?_) (one_d ?_ nil_d)
  · rw [pN1]
    show erP 65536 a n = 23
    unfold erP; rw [if_neg (by omega)]
  · rw [e]; exact lK_same β z64 fun i _ => zC_gB
theorem blW_ok (hx : a + n ≤ 65536) (hsc : n ≤ sc) (β : Nat → Fr) : ∀ p ∈ D_blW gaR gqR hbR a off n sc dc β, p.1 = p.2 := by
  have e : lC gaR gqR a off n dc = cpV (zC 65536) a.toNat dc off n := by
    unfold lC; rw [pN1]
    show cpP (zC 65536) 65536 a dc off n = _
    unfold cpP; rw [if_pos (by omega)]
  have hA : a.toNat + n ≤ 65536 := by omega
  have ok := cpV_ok z64 hs hn hA
  have hin : ∀ j, j < n → gB (cpV (zC 65536) a.toNat dc off n) (a.toNat + j) = gB dc (off + j) := fun j hj => cpV_in z64 hs hn hA hj
  have hout : ∀ i, (i < a.toNat ∨ a.toNat + n ≤ i) → gB (cpV (zC 65536) a.toNat dc off n) i = 0 := fun i hi => by rw [cpV_out z64 hs hn hA hi, zC_gB]
  have t : Int.toNat (n : Int) = n := by omega
  have e2 : lZ gaR gqR a off n dc = cpV (cpV (zC 65536) a.toNat dc off n) a.toNat (zC n) 0 n := by
    unfold lZ; rw [pN1, e, t]
    show cpP _ 65536 a (zC n) 0 n = _
    unfold cpP; rw [if_pos (by omega)]
  have he : gqR.er 65536 a n = 0 := by
    show erP 65536 a n = 0
    unfold erP; rw [if_pos (by omega)]
  unfold D_blW
  rw [e2, e, t]
  refine one_d (ne_f ?_) (one_d (hb_iff.2 ?_) (one_d (decide_eq_true (by omega)) (one_d (decide_eq_true (by omega)) (one_d (pks_iff.2 ?_) (one_d (eqb_t ?_) (one_d ?_ nil_d))))))
  · rw [pN1]; exact he
  · rw [pN1]; exact ⟨hsc, rfl, Nat.le_refl _, ok, h0, hx, hs, hin⟩
  · rw [pN1]; exact ⟨⟨ok, Nat.le_refl _, by omega, h0, h1⟩, hn, hm, zC_src n⟩
  · rw [pN1]; exact he
  · refine lK_same β (cpV_ok ok (zC_src n) hn hA) fun i _ => ?_
    by_cases hi : i < a.toNat ∨ a.toNat + n ≤ i
    · rw [cpV_out ok (zC_src n) hn hA hi, hout i hi]
    · have := cpV_in ok (zC_src n) hn hA (j := i - a.toNat) (by omega)
      rw [show a.toNat + (i - a.toNat) = i by omega] at this
      rw [this, zC_gB]
end
/-- a given list of bytes -/
def GiB (w : World) (v : Value) (n : Nat) : Prop :=
  (n = 0 ∧ ∃ x c, v = .slice x 0 c) ∨ (0 < n ∧ n < 9223372036854775808 ∧ ∃ b off sc dc dt, v = .slice (some ⟨b, off, none⟩) n sc ∧ n ≤ sc ∧ SG w [⟨b, dc, dt, false⟩] w ∧ SrcB dc off n)
theorem sg_cells {w : World} {b : Nat} {a : Array Value} {t : TypeId} {fr : Nat × Nat} (h : w.heap[b]? = some (.cells a t fr)) : SG w [⟨b, a.toList, t, false⟩] w :=
  ⟨St.start w, fun r hr _ => by rw [List.mem_singleton.1 hr]; exact ⟨fr, h⟩⟩
theorem cell_block {w : World} {b i : Nat} {v : Value} (h : w.cell? ⟨b, i, none⟩ = some v) : ∃ a t fr, w.heap[b]? = some (.cells a t fr) ∧ a[i]? = some v := by
  unfold World.cell? at h
  split at h
  · rename_i c t fr he
    exact ⟨c, t, fr, he, by simpa using h⟩
  · cases h
theorem gi_of {w : World} {b off n sc : Nat} (h0 : 0 < n) (hm : n < 9223372036854775808) (hsc : n ≤ sc) {f : Nat → Int} (hf : ∀ j, j < n → 0 ≤ f j ∧ f j ≤ 255) (h : ∀ j, j < n → w.cell? ⟨b, off + j, none⟩ = some (.int .u8 (f j))) : GiB w (.slice (some ⟨b, off, none⟩) n sc) n := by
  obtain ⟨a, t, fr, ha, _⟩ := cell_block (h 0 h0)
  refine .inr ⟨h0, hm, b, off, sc, a.toList, t, rfl, hsc, sg_cells ha, fun j hj => ?_⟩
  obtain ⟨a', t', fr', ha', hc⟩ := cell_block (h j hj)
  rw [ha] at ha'
  cases ha'
  exact ⟨f j, by rw [Array.getElem?_toList]; exact hc, hf j hj⟩
theorem open_u8l {H : Type} {enc : TypeId × Value → H} {W : World} {r : Reach} {base : Nat} {v : Value} {d : DataW H} {p : List MemPlace}
    (hok : Value.okWide Try.prog W r base 37 v) (h : DataW.Trod enc Try.prog W 0 (fun _ => true) true 37 v d p) : ∃ n : Nat, True ∧ GiB W v n ∧ True := by
  obtain ⟨a0, len, cap, rfl⟩ := okWide_slice Try.underlying37 hok
  obtain ⟨fuel, hf⟩ := h
  rcases open_ints Try.underlying37 Try.underlying5 (by kernel_rfl) hf with ⟨hcs, _⟩ | ⟨a, len', cap', zs, hcs, _, hl, hm, hz, _, hcell, hwz⟩
  · simp [Value.cells] at hcs
    obtain ⟨rfl, rfl, rfl⟩ := hcs
    exact ⟨0, trivial, .inl ⟨rfl, _, _, rfl⟩, trivial⟩
  · simp [Value.cells] at hcs
    obtain ⟨rfl, rfl, rfl⟩ := hcs
    simp only [if_true] at hz
    by_cases h0 : len = 0
    · subst h0; exact ⟨0, trivial, .inl ⟨rfl, _, _, rfl⟩, trivial⟩
    · obtain ⟨b, off, spot⟩ := a
      have hspot : spot = none := by simpa [Addr.add] using World.cell?_spot (hcell 0 (by omega))
      subst hspot
      refine ⟨len, trivial, gi_of (f := fun j => zs.getD j 0) (by omega) (by unfold maxLen at hm; omega) hl (fun j hj => ?_) (fun j hj => ?_), trivial⟩
      · have hj : j < zs.length := by omega
        have hw := hwz zs[j] (List.getElem_mem hj)
        have := bounds_u8 hw
        simp only [List.getD_eq_getElem?_getD, List.getElem?_eq_getElem hj, Option.getD_some]
        omega
      · have := hcell j (by omega)
        by_cases hj0 : j = 0
        · subst hj0; simpa [Addr.add] using this
        · simpa [Addr.add, hj0] using this
/-- MemoryBytes -/
theorem bytes_all (a : Int) (h : 0 ≤ a ∧ a < 18446744073709551616) (v : Value) (n : Nat) (w : World) (hv : GiB w v n) :
    Calls Try.prog 7 #[.int .u64 a, v] w fun e w' => e = .returned (.bool true) ∧ Gr w w' := by
  obtain ⟨h0, h1⟩ := h
  rcases hv with ⟨rfl, x, c, rfl⟩ | ⟨hn, hm, b, off, sc, dc, dt, rfl, hsc, hS, hs⟩
  · have d0 : ∀ p ∈ D_bn0 gaR a, p.1 = p.2 := by
      unfold D_bn0
      rw [pN1]
      exact one_d (show nqB 1 (-1) 0 = true by decide) (one_d (okD (fz (Int.le_refl 0) (by decide))) (one_d (okD (fz h0 h1)) nil_d))
    have dS : ∀ β, ∀ p ∈ bnS gaR β, p.1 = p.2 := fun β => by
      unfold bnS
      refine one_d ?_ nil_d
      have := lK_same (c := zC 65536) β z64 fun i _ => zC_gB
      rw [← pN1] at this
      exact this
    by_cases ha : a > 65536
    · refine bnA_run a x c (fun β => app_d (app_d d0 (one_d (decide_eq_true ha) (one_d (eqb_t ?_) nil_d))) (dS β)) w
      rw [pN1]
      show erP 65536 a 0 = 23
      unfold erP; rw [if_neg (by omega)]
    · have he : gqR.er 65536 a 0 = 0 := by
        show erP 65536 a 0 = 0
        unfold erP; rw [if_pos (by omega)]
      refine bnO_run a x c (fun β => app_d (app_d d0 (one_d (decide_eq_false ha) (one_d (ne_f ?_) (one_d (eqb_t ?_) nil_d)))) (dS β)) w
      · rw [pN1]; exact he
      · rw [pN1]; exact he
  · have d0 := bl0_ok h0 h1 hn hm hs
    have ew : IntKind.u64.wrap (n : Int) = (n : Int) := wu (by omega) (by omega)
    by_cases hL : (n : Int) > 65536
    · exact blL_run a b off n sc dc dt (fun β => app_d (app_d d0 (one_d (decide_eq_true (by rw [ew]; exact hL)) nil_d)) (blU_ok (by omega) β)) w hS
    · have eA : lA n = 65536 - n := by unfold lA; rw [ew, wu (by omega) (by omega)]
      by_cases hA : a > 65536 - n
      · exact blA_run a b off n sc dc dt (fun β => app_d (app_d d0 (one_d (decide_eq_false (by rw [ew]; exact hL)) (one_d (decide_eq_true (by rw [eA]; exact hA)) nil_d))) (blU_ok (by omega) β)) w hS
      · exact blO_run a b off n sc dc dt (fun β => app_d (app_d d0 (one_d (decide_eq_false (by rw [ew]; exact hL)) (one_d (decide_eq_false (by rw [eA]; exact hA)) nil_d))) (blW_ok h0 h1 hn hm hs (by omega) hsc β)) w hS
end Mm
end Go.Proofs.Ytfkioggmomnibaa
