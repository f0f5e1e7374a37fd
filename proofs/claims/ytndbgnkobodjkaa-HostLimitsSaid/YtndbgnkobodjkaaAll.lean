/-
  The contracts of pair's Signed and All.
-/
import Derived.Test.YtndbgnkobodjkaaPair
namespace Go.Proofs.Ytndbgnkobodjkaa
open Go.RowKit VecM
/-- a lane with its sign -/
def sg (v : Int) (g : Int) : Int := if 2 ^ (v.toNat - 1) ≤ g then g - 2 ^ v.toNat else g
def sgnI (b : Nat → Int) (v i : Int) : Int := if thereB v i then sg v (getI b v i) else 0
theorem sgn_8 (g : Int) (h0 : 0 ≤ g) (h1 : g < 256 ^ wid 8) : wrap64 (IntKind.u64.wrap (g * 72057594037927936)) / 72057594037927936 = sg 8 g := by
  rw [wid8] at h1
  rw [IntKind.wrap_u64]
  unfold wrap64 sg
  rw [show ((2 : Int) ^ (((8 : Int)).toNat - 1)) = 128 by decide, show ((2 : Int) ^ ((8 : Int)).toNat) = 256 by decide]
  by_cases hc : (128 : Int) ≤ g
  · rw [if_pos hc]; omega
  · rw [if_neg hc]; omega
theorem sgn_16 (g : Int) (h0 : 0 ≤ g) (h1 : g < 256 ^ wid 16) : wrap64 (IntKind.u64.wrap (g * 281474976710656)) / 281474976710656 = sg 16 g := by
  rw [wid16] at h1
  rw [IntKind.wrap_u64]
  unfold wrap64 sg
  rw [show ((2 : Int) ^ (((16 : Int)).toNat - 1)) = 32768 by decide, show ((2 : Int) ^ ((16 : Int)).toNat) = 65536 by decide]
  by_cases hc : (32768 : Int) ≤ g
  · rw [if_pos hc]; omega
  · rw [if_neg hc]; omega
theorem sgn_32 (g : Int) (h0 : 0 ≤ g) (h1 : g < 256 ^ wid 32) : wrap64 (IntKind.u64.wrap (g * 4294967296)) / 4294967296 = sg 32 g := by
  rw [wid32] at h1
  rw [IntKind.wrap_u64]
  unfold wrap64 sg
  rw [show ((2 : Int) ^ (((32 : Int)).toNat - 1)) = 2147483648 by decide, show ((2 : Int) ^ ((32 : Int)).toNat) = 4294967296 by decide]
  by_cases hc : (2147483648 : Int) ≤ g
  · rw [if_pos hc]; omega
  · rw [if_neg hc]; omega
theorem sgn_64 (g : Int) (h0 : 0 ≤ g) (h1 : g < 256 ^ wid 64) : wrap64 (IntKind.u64.wrap g) = sg 64 g := by
  rw [wid64] at h1
  rw [IntKind.wrap_u64]
  unfold wrap64 sg
  rw [show ((2 : Int) ^ (((64 : Int)).toNat - 1)) = 9223372036854775808 by decide, show ((2 : Int) ^ ((64 : Int)).toNat) = 18446744073709551616 by decide]
  by_cases hc : (9223372036854775808 : Int) ≤ g
  · rw [if_pos hc]; omega
  · rw [if_neg hc]; omega
/-! ### rows of the call's own -/
theorem owns_gr {w w' : World} {base : Nat} {e : TypeId} {size : Nat} {v : Value} {n : Nat} {xs : List Value} (h : w.ownsRow base e size v n xs) (hg : Gr w w') : w'.ownsRow base e size v n xs :=
  h.kept (row := none) ⟨hg.os, hg.tape, hg.output, hg.size, fun k hk _ => hg.block k hk⟩ (by cases v.ownBlock <;> simp)
theorem owns_base {w : World} {base base' : Nat} {e : TypeId} {size : Nat} {v : Value} {n : Nat} {xs : List Value} (h : w.ownsRow base e size v n xs) (hb : base' ≤ base) : w.ownsRow base' e size v n xs := by
  refine ⟨h.1, ?_⟩
  rcases h.2 with h | ⟨g, cap, cur, h1, h2, h3⟩
  · exact .inl h
  · exact .inr ⟨g, cap, cur, h1, Nat.le_trans hb h2, h3⟩
def u64s (f : Nat → Int) (n : Nat) : List Value := (List.range n).map fun j => .int .u64 (f j)
theorem u64s_succ (f : Nat → Int) (n : Nat) : u64s f (n + 1) = u64s f n ++ [.int .u64 (f n)] := by unfold u64s; rw [List.range_succ]; simp
theorem u64s_get (f : Nat → Int) (n j : Nat) (h : j < n) : (u64s f n)[j]? = some (.int .u64 (f j)) := by unfold u64s; simp [h]
theorem u64s_of_owns {w : World} {base : Nat} {e : TypeId} {v : Value} {n : Nat} {f : Nat → Int} (h : w.ownsRow base e 1 v n (u64s f n)) : U64s w v n f := by
  rcases h.2 with ⟨h1, h2⟩ | ⟨g, cap, cur, rfl, hb, hh, hn, hcap, hsz, htk⟩
  · exact .inl ⟨h2, _, _, by subst h2; exact h1⟩
  · refine .inr ⟨by unfold maxLen at hcap; omega, g, 0, cap, rfl, fun j hj => ?_⟩
    rw [Nat.zero_add, cell_of_row _ _ j _ _ _ hh]
    have := u64s_get f n j hj
    rw [← htk, Nat.mul_one, List.getElem?_take, if_pos hj] at this
    simpa using this
theorem info64 : (Try.prog.info? 53).map (fun i => (i.zero, i.size, i.bytes)) = some (some (.int .u64 0), 1, 8) := by kernel_rfl
end Go.Proofs.Ytndbgnkobodjkaa
