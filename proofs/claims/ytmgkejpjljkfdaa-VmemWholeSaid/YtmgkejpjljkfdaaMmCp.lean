/-
  Bytes behind a Poke. Of layer 10.
-/
import Derived.Test.YtmgkejpjljkfdaaMmPp
namespace Go.Proofs.Ytmgkejpjljkfdaa
open Go.RowKit VecM Ev
namespace Mm
theorem cpV_get {d s : List Value} {A off n i : Nat} (h1 : A + n ≤ d.length) (h2 : off + n ≤ s.length) : (cpV d A s off n)[i]? = if A ≤ i ∧ i < A + n then s[off + (i - A)]? else d[i]? := by
  unfold cpV
  have l1 : (d.take A).length = A := by rw [List.length_take]; omega
  have l2 : ((s.drop off).take n).length = n := by rw [List.length_take, List.length_drop]; omega
  by_cases hA : i < A
  · rw [if_neg (by omega), List.getElem?_append_left (by rw [l1]; exact hA), List.getElem?_take_of_lt hA]
  · rw [List.getElem?_append_right (by rw [l1]; omega), l1]
    by_cases hn : i < A + n
    · rw [if_pos ⟨by omega, hn⟩, List.getElem?_append_left (by rw [l2]; omega), List.getElem?_take_of_lt (by omega), List.getElem?_drop]
    · rw [if_neg (by omega), List.getElem?_append_right (by rw [l2]; omega), l2, List.getElem?_drop]
      congr 1
      omega
theorem cpV_len {d s : List Value} {A off n : Nat} (h1 : A + n ≤ d.length) (h2 : off + n ≤ s.length) : (cpV d A s off n).length = d.length := by
  unfold cpV
  rw [List.length_append, List.length_append, List.length_take, List.length_take, List.length_drop, List.length_drop]
  omega
section
variable {d s : List Value} {A off n N : Nat} (ok : OkB d N) (hs : SrcB s off n) (hn : 0 < n) (hA : A + n ≤ N)
include ok hs hn hA
theorem cpV_ok : OkB (cpV d A s off n) N := by
  have h1 := ok.1
  have h2 := hs.len hn
  refine ⟨by rw [cpV_len (by omega) h2]; exact h1, fun i hi => ?_⟩
  rw [cpV_get (by omega) h2]
  split
  · exact hs (i - A) (by omega)
  · exact ok.2 i hi
theorem cpV_in {j : Nat} (hj : j < n) : gB (cpV d A s off n) (A + j) = gB s (off + j) := by
  have h1 := ok.1
  unfold gB
  rw [cpV_get (by omega) (hs.len hn), if_pos (by omega), show A + j - A = j by omega]
theorem cpV_out {i : Nat} (hi : i < A ∨ A + n ≤ i) : gB (cpV d A s off n) i = gB d i := by
  have h1 := ok.1
  unfold gB
  rw [cpV_get (by omega) (hs.len hn), if_neg (by omega)]
end
theorem z64 : OkB (zC 65536) 65536 := zC_ok (Nat.le_refl _)
theorem zC_src (n : Nat) : SrcB (zC n) 0 n := fun j hj => ⟨0, by unfold zC; rw [List.getElem?_replicate, if_pos (by omega)], by decide, by decide⟩
theorem src_of {s : List Value} {off n : Nat} (h : ((List.range n).all fun j => isB s[off + j]? && (decide (0 ≤ gB s (off + j)) && decide (gB s (off + j) ≤ 255))) = true) : SrcB s off n := fun j hj => by
  have := List.all_eq_true.1 h j (List.mem_range.2 hj)
  simp only [Bool.and_eq_true, decide_eq_true_eq] at this
  exact ⟨_, isB_eq this.1, this.2⟩
theorem sumN_congr {f g : Nat → Int} {a b : Nat} : ∀ n : Nat, (∀ m, m < n → f (a + m) = g (b + m)) → sumN f a n = sumN g b n := by
  intro n
  induction n with
  | zero => intro _; rfl
  | succ n ih => intro h; rw [sumN, sumN, ih (fun m hm => h m (by omega)), h n (by omega)]
end Mm
end Go.Proofs.Ytmgkejpjljkfdaa
