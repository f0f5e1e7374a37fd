/-
  The reference's Take: the vectors of the halves.
-/
import Derived.Test.YthpnhanabcipmaaPutAny
namespace Go.Proofs.Ythpnhanabcipmaa
open Go.RowKit VecM
theorem info25 : (Try.prog.info? 54).map (fun i => (i.zero, i.size, i.bytes)) = some (some (.agg (bs fun _ => 0)), 16, 16) := by kernel_rfl
theorem bld25 : Try.prog.built 54 [] = some (bs fun _ => 0) := by kernel_rfl
def needN (ts : Nat → Int) (k : Nat) : Nat := (needS ts k).toNat
theorem needN_eq (ts : Nat → Int) (k : Nat) : (needN ts k : Int) = needS ts k := by have := (needS_bd ts k).1; unfold needN; omega
theorem needN_succ (ts : Nat → Int) (k : Nat) : (needN ts (k + 1) : Int) = needN ts k + needI (ts k) := by rw [needN_eq, needN_eq]; rfl
theorem needN_le (ts : Nat → Int) {k : Nat} : ∀ {m : Nat}, k ≤ m → needN ts k ≤ needN ts m
  | 0, h => by obtain rfl : k = 0 := by omega
               exact Nat.le_refl _
  | m + 1, h => by
    by_cases e : k = m + 1
    · subst e; exact Nat.le_refl _
    · have h1 := needN_le ts (show k ≤ m by omega)
      have h2 := needN_succ ts m
      have h3 := (needI_bd (ts m)).1
      omega
/-- the vector of the k-th type -/
def takeV (ts zs : Nat → Int) (k : Nat) : Nat → Int :=
  if ts k = 127 then setI (fun _ => 0) 32 0 (zs (needN ts k)) else if ts k = 126 then setI (fun _ => 0) 64 0 (zs (needN ts k)) else setI (setI (fun _ => 0) 64 0 (zs (needN ts k))) 64 1 (zs (needN ts k + 1))
def vcs (f : Nat → Nat → Int) (k : Nat) : List Value := (List.range k).flatMap fun j => (bs (f j)).toList
theorem vcs_succ (f : Nat → Nat → Int) (k : Nat) : vcs f (k + 1) = vcs f k ++ (bs (f k)).toList := by unfold vcs; rw [List.range_succ, List.flatMap_append]; simp
theorem add_cell (w : World) (g j : Nat) (u : Option Value) (h : w.cell? ⟨g, j, none⟩ = u) : w.cell? ((⟨g, 0, none⟩ : Addr).add j) = u := by
  have : (⟨g, 0, none⟩ : Addr).add j = ⟨g, j, none⟩ := by unfold Addr.add; split <;> simp_all
  rw [this]; exact h
theorem news_cell (w0 : World) (c : Nat → Int) (t : TypeId) (j : Nat) (u : Value) (h : (bs c).toList[j]? = some u) : (w0.alloc (.cells (bs c) t)).cell? ((⟨w0.heap.size, 0, none⟩ : Addr).add j) = some u := by
  obtain ⟨hj, rfl⟩ := bs_list _ _ _ h
  exact add_cell _ _ _ _ ((cell_of_row _ _ j _ _ _ (heap_alloc_new _ _)).trans (bs_get _ j hj))
theorem bs_all (c : Nat → Int) (u : Value) (h : u ∈ (bs c).toList) : u.oneCell' = true := Array.all_eq_true'.1 (bs_one c) u (by simpa using h)
theorem put_fin' {w wr wx w3 : World} {e : TypeId} {u : Value} {n z : Nat} {xs : List Value} (hg : Gr w wr) (hx : Gr wr wx) (hown : wr.ownsRow w.heap.size e z u n xs) (hgb : wx.grownBy w3 u.ownBlock) : Gr w w3 :=
  (gr_trans hg hx).grown hgb (fun q hq => (hown.lt q hq).1)
end Go.Proofs.Ythpnhanabcipmaa
