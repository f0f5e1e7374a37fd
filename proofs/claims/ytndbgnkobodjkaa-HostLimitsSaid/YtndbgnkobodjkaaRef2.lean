/-
  The contracts of the document's answers for vectors (plaitref02): Sign, Signed, Of, All, Split, Join.
-/
import Derived.Test.YtndbgnkobodjkaaRef
namespace Go.Proofs.Ytndbgnkobodjkaa
open Go.RowKit VecM
theorem sg_zero (v : Int) : sg v 0 = 0 := by
  unfold sg
  have h : (0 : Int) < 2 ^ (v.toNat - 1) := Int.pow_pos (by decide)
  rw [if_neg (by omega)]
/-! ### Of, Split, Join, All -/
theorem ofK_stop (b : Nat → Int) (v : Int) (f : Nat → Int) (L : Nat) (hL : lanesI v = (L : Int)) : ∀ k, L ≤ k → ofK b v f k = ofK b v f L
  | 0, h => by rw [show L = 0 by omega]
  | k + 1, h => by
    by_cases hk : L = k + 1
    · rw [hk]
    · rw [ofK, ofK_stop b v f L hL k (by omega)]
      unfold setI
      rw [if_neg (fun hh => by have := (there_iff.1 hh); omega)]
theorem ofK_min (b : Nat → Int) (v : Int) (f : Nat → Int) (len : Nat) : ofK b v f (min 16 len) = ofK b v f (ofN v len) := by
  have hb := lanes_bd v
  obtain ⟨L, hL⟩ : ∃ L : Nat, lanesI v = L := ⟨(lanesI v).toNat, by omega⟩
  unfold ofN
  rw [hL, Int.toNat_natCast]
  by_cases h : L ≤ len
  · rw [Nat.min_eq_left h]; exact ofK_stop b v f L hL _ (by omega)
  · rw [Nat.min_eq_right (show len ≤ 16 by omega), Nat.min_eq_right (show len ≤ L by omega)]
end Go.Proofs.Ytndbgnkobodjkaa
