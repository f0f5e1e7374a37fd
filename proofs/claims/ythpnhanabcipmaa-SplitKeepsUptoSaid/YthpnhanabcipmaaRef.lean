/-
  The contracts of the document's answers for vectors (plaitref02): Lanes, Get, Set, Sign, Signed.
-/
import Derived.Test.YthpnhanabcipmaaAll
namespace Go.Proofs.Ythpnhanabcipmaa
open Go.RowKit VecM
/-- the bytes from the highest down to place q -/
def revN (b : Nat → Int) (base n q : Nat) : Int := sumN b (base + q) (n - q)
theorem rget_step {b : Nat → Int} (hb : Byt b) (base q n : Nat) (hq : q < n) (hn : n ≤ 8) :
    IntKind.u64.wrap (IntKind.u64.wrap (revN b base n (q + 1) * 256) + b (base + q)) = revN b base n q := by
  unfold revN
  have e : n - q = (n - (q + 1)) + 1 := by omega
  rw [e, sumN_front, show base + q + 1 = base + (q + 1) by omega]
  obtain ⟨h0, h1⟩ := sumN_bd hb (base + (q + 1)) (n - (q + 1))
  obtain ⟨b0, b1⟩ := hb (base + q)
  have hp : (256 : Int) ^ (n - (q + 1)) ≤ 72057594037927936 := by
    have h7 : (256 : Nat) ^ (n - (q + 1)) ≤ 72057594037927936 := Nat.pow_le_pow_right (show 0 < 256 by decide) (show n - (q + 1) ≤ 7 by omega)
    rw [show (256 : Int) ^ (n - (q + 1)) = ((256 ^ (n - (q + 1)) : Nat) : Int) from (Int.natCast_pow 256 _).symm]
    omega
  rw [IntKind.wrap_u64, IntKind.wrap_u64]
  generalize sumN b (base + (q + 1)) (n - (q + 1)) = S at *
  generalize (256 : Int) ^ (n - (q + 1)) = p at *
  omega
/-- what is left of a number behind k bytes -/
def divP (x : Int) (k : Nat) : Int := x / 256 ^ k
theorem divP_bd {x : Int} (h0 : 0 ≤ x) (h1 : x < 18446744073709551616) (k : Nat) : 0 ≤ divP x k ∧ divP x k ≤ 18446744073709551615 := by
  unfold divP
  have := Int.ediv_le_self (256 ^ k) h0
  exact ⟨Int.ediv_nonneg h0 (Int.le_of_lt (pow_pos' k)), by omega⟩
theorem divP_succ (x : Int) (k : Nat) : divP x k / 256 = divP x (k + 1) := div_pow_div x k
end Go.Proofs.Ythpnhanabcipmaa
