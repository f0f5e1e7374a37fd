/-
  Two memories of one page with the same bytes are alike. Of layer 10.
-/
import Derived.Test.YtmgkejpjljkfdaaMmSa
namespace Go.Proofs.Ytmgkejpjljkfdaa
open Go.RowKit VecM Ev
namespace Mm
theorem cut_get {c t : List Value} {off n i : Nat} (hi : i < n) (h : off + n ≤ c.length) : ((c.drop off).take n ++ t)[i]? = c[off + i]? := by
  rw [List.getElem?_append_left (by rw [List.length_take, List.length_drop]; omega), List.getElem?_take_of_lt hi, List.getElem?_drop]
theorem cut_gB {c t : List Value} {off n i : Nat} (hi : i < n) (h : off + n ≤ c.length) : gB ((c.drop off).take n ++ t) i = gB c (off + i) := by
  unfold gB; rw [cut_get hi h]
theorem cut_is {c t : List Value} {off n N : Nat} (ok : OkB c N) (h : off + n ≤ N) : isBs ((c.drop off).take n ++ t) n = true := by
  refine List.all_eq_true.2 fun i hi => ?_
  have hi := List.mem_range.1 hi
  rw [cut_get hi (by have := ok.1; omega)]
  exact ok.is (by omega)
/-- two memories of one page with the same bytes -/
structure Same (c c' : List Value) (N N' cap cap' : Nat) : Prop where
  n : N = 65536
  n' : N' = 65536
  ok : OkB c 65536
  ok' : OkB c' 65536
  cap : 65536 ≤ cap
  cap' : 65536 ≤ cap'
  eq : ∀ i, i < 65536 → gB c i = gB c' i
set_option maxRecDepth 100000 in
theorem saD_ok {c c' : List Value} {cap cap' : Nat} (h : Same c c' 65536 65536 cap cap') (β : Nat → Fr) : ∀ p ∈ saD foR cap cap' c c' β, p.1 = p.2 := by
  obtain ⟨_, _, ok, ok', hc, hc', he⟩ := h
  intro p hp
  simp only [saD, List.mem_flatten, List.mem_map, List.mem_range] at hp
  obtain ⟨l, ⟨k, hk, rfl⟩, hp⟩ := hp
  simp only [List.mem_cons, List.not_mem_nil, or_false] at hp
  rcases hp with rfl | rfl | rfl | rfl | rfl
  · have h1 : Fit c 65536 cap ((4096 * k : Nat) : Int) := ⟨ok, hc, by omega, by omega, by omega⟩
    have h2 : pkB c 65536 cap ((4096 * k : Nat) : Int) 4096 = true := pkB_iff.2 ⟨h1, by omega, by omega⟩
    exact h2
  · have h1 : Fit c' 65536 cap' ((4096 * k : Nat) : Int) := ⟨ok', hc', by omega, by omega, by omega⟩
    have h2 : pkB c' 65536 cap' ((4096 * k : Nat) : Int) 4096 = true := pkB_iff.2 ⟨h1, by omega, by omega⟩
    exact h2
  · have h2 : isBs ((c.drop (4096 * k)).take 4096 ++ (β (2 * k)).t) 4096 = true := cut_is ok (by omega)
    exact h2
  · have h2 : isBs ((c'.drop (4096 * k)).take 4096 ++ (β (2 * k + 1)).t) 4096 = true := cut_is ok' (by omega)
    exact h2
  · show neS (strL (((c.drop (4096 * k)).take 4096) ++ (β (2 * k)).t) 4096) (strL (((c'.drop (4096 * k)).take 4096) ++ (β (2 * k + 1)).t) 4096) = false
    have e : strL (((c.drop (4096 * k)).take 4096) ++ (β (2 * k)).t) 4096 = strL (((c'.drop (4096 * k)).take 4096) ++ (β (2 * k + 1)).t) 4096 := by
      unfold strL
      congr 1
      refine List.map_congr_left fun i hi => ?_
      have hi := List.mem_range.1 hi
      have h1 := ok.1
      have h2 := ok'.1
      rw [cut_gB hi (by omega), cut_gB hi (by omega)]
      exact he _ (by omega)
    rw [e]
    unfold neS
    simp
end Mm
end Go.Proofs.Ytmgkejpjljkfdaa
