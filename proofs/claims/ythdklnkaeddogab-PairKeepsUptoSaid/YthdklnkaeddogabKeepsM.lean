/-
  PairKeeps: what Take and Put give of lists of one half each.
-/
import Derived.Test.YthdklnkaeddogabSetsM
import Derived.Test.YthdklnkaeddogabBackZ
import Derived.Test.YthdklnkaeddogabSep
import Derived.OwnWalk
import Derived.OpenShut
namespace Go.Proofs.Ythdklnkaeddogab
open Go.RowKit VecM
def t126 : Nat → Int := fun _ => 126
theorem t126_at (k : Nat) : t126 k = 126 := rfl
theorem ok126 (n : Nat) : okT t126 n := fun k _ => by rw [t126_at]; decide
theorem need126 : ∀ n : Nat, needN t126 n = n
  | 0 => rfl
  | n + 1 => by
    have h1 := needN_succ t126 n
    rw [need126 n] at h1
    have h2 : needI (t126 n) = 1 := rfl
    omega
theorem take126 (zs : Nat → Int) (k : Nat) : takeV t126 zs k = setI (fun _ => 0) 64 0 (zs k) := by
  unfold takeV
  rw [t126_at, if_neg (by decide), if_pos rfl, need126]
theorem get_set64 {z : Int} (hz : 0 ≤ z ∧ z < 18446744073709551616) : getI (setI (fun _ => 0) 64 0 z) 64 0 = z := by
  rw [get_set _ _ _ _ (by decide)]
  exact Int.emod_eq_of_lt hz.1 hz.2
theorem put126 {zs : Nat → Int} (hz : ∀ j, 0 ≤ zs j ∧ zs j < 18446744073709551616) : ∀ n, putL t126 (takeV t126 zs) n = (List.range n).map zs
  | 0 => rfl
  | n + 1 => by
    rw [putL, put126 hz n, List.range_succ, List.map_append, take126]
    have : putE (t126 n) (setI (fun _ => 0) 64 0 (zs n)) = [zs n] := by
      unfold putE
      rw [t126_at, if_neg (by decide), if_pos rfl, get_set64 (hz n)]
    rw [this]; rfl
theorem uvs_range (zs : Nat → Int) (n : Nat) : uvs ((List.range n).map zs) = u64s zs n := by unfold uvs u64s; simp
theorem putR126 {zs : Nat → Int} (hz : ∀ j, 0 ≤ zs j ∧ zs j < 18446744073709551616) (n : Nat) : putR t126 (takeV t126 zs) n n = (List.range n).map zs := by
  rw [putR_yes ⟨ok126 n, rfl⟩, put126 hz]
theorem u64s_len (f : Nat → Int) (n : Nat) : (u64s f n).length = n * 1 := by unfold u64s; simp
theorem u64s_one (f : Nat → Int) (n : Nat) : ∀ u ∈ u64s f n, u.oneCell' = true := fun u hu => by
  unfold u64s at hu
  obtain ⟨x, _, rfl⟩ := List.mem_map.1 hu
  rfl
theorem src_lit (w : World) (cs : Array Value) (t : TypeId) (m c : Nat) : Src (w.alloc (.cells cs t)) (.slice (some ⟨w.heap.size, 0, none⟩) m c) m cs.toList :=
  .inr ⟨_, _, rfl, fun j x hx => add_cell _ _ _ _ ((cell_of_row _ _ j _ _ _ (heap_alloc_new w _)).trans (by simpa using hx))⟩
theorem owns_some {w : World} {base : Nat} {e : TypeId} {size : Nat} {v : Value} {n : Nat} {xs : List Value} (h : w.ownsRow base e size v n xs) (hn : 0 < n) : ∃ g c, v = .slice (some ⟨g, 0, none⟩) n c ∧ n ≤ c ∧ base ≤ g ∧ g < w.heap.size := by
  rcases h.2 with ⟨_, rfl⟩ | ⟨g, cap, cur, rfl, hb, hg, hnc, _⟩
  · omega
  · exact ⟨g, cap, rfl, hnc, hb, (Array.getElem?_eq_some_iff.1 hg).1⟩
/-- the first n of a row that the call owns -/
theorem u64c_first {w : World} {base : Nat} {e : TypeId} {g c n m : Nat} {zs : Nat → Int} {rest : List Value} (h : w.ownsRow base e 1 (.slice (some ⟨g, 0, none⟩) m c) m (u64s zs n ++ rest)) (hnm : n ≤ m) (hmc : m ≤ c) (hm : m ≤ 9223372036854775807) : U64c w (.slice (some ⟨g, 0, none⟩) n c) n zs :=
  .inr ⟨by omega, g, 0, c, by omega, rfl, fun j hj => by
    rw [Nat.zero_add, h.cellAt j (by omega), List.getElem?_append_left (by rw [u64s_len]; omega), u64s_get zs n j hj]⟩
def v12 : Nat → Int := fun j => if j = 0 then 1 else if j = 1 then 2 else 0
theorem bld12 : Try.prog.built 25 [(0, .int .u8 1), (1, .int .u8 2)] = some (bs v12) := by kernel_rfl
theorem infoI : (Try.prog.info? 3).map (fun i => (i.zero, i.size, i.bytes)) = some (some (.int .i64 0), 1, 8) := by kernel_rfl
end Go.Proofs.Ythdklnkaeddogab
