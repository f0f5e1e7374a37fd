/-
  PairImages: for every list of types, of vectors and of halves the law returns true, where the types are no more than 2^40.
-/
import Derived.Test.YtndbgnkobodjkaaOpenV
namespace Go.Proofs.Ytndbgnkobodjkaa
open Go.RowKit VecM
/-- a list's numbers, one by one -/
theorem u64c_of_uvs {w : World} {base : Nat} {e : TypeId} {v : Value} {l : List Int} (h : w.ownsRow base e 1 v l.length (uvs l)) : U64c w v l.length (fun j => l.getD j 0) := by
  rcases h.2 with ⟨h1, h2⟩ | ⟨g, cap, cur, rfl, hb, hh, hn, hcap, hsz, htk⟩
  · exact .inl ⟨h2, _, _, h1⟩
  · refine .inr ⟨by unfold maxLen at hcap; omega, g, 0, cap, hn, rfl, fun j hj => ?_⟩
    rw [Nat.zero_add, cell_of_row _ _ j _ _ _ hh]
    have h3 : (uvs l)[j]? = some (.int .u64 (l.getD j 0)) := by unfold uvs; simp [List.getD_eq_getElem?_getD, hj]
    rw [← htk, Nat.mul_one, List.getElem?_take, if_pos hj] at h3
    simpa using h3
end Go.Proofs.Ytndbgnkobodjkaa
