/-
  The contracts of pair's functions on one vector: Lanes, there, Get, Set, Signed, Split, Of, Join; a vector is a function of its bytes' places.
-/
import Derived.Test.YtfkioggmomnibaaSteady
import Derived.ChangeKeysEq
namespace Go.Proofs.Ytfkioggmomnibaa
open Go.RowKit VecM
/-- sixteen bytes, as cells -/
abbrev bs (b : Nat → Int) : Array Value := #[.int .u8 (b 0), .int .u8 (b 1), .int .u8 (b 2), .int .u8 (b 3), .int .u8 (b 4), .int .u8 (b 5), .int .u8 (b 6), .int .u8 (b 7), .int .u8 (b 8), .int .u8 (b 9), .int .u8 (b 10), .int .u8 (b 11), .int .u8 (b 12), .int .u8 (b 13), .int .u8 (b 14), .int .u8 (b 15)]
theorem bs_get (b : Nat → Int) (j : Nat) (h : j < 16) : (bs b)[j]? = some (.int .u8 (b j)) := by
  match j with
  | 0 => rfl
  | 1 => rfl
  | 2 => rfl
  | 3 => rfl
  | 4 => rfl
  | 5 => rfl
  | 6 => rfl
  | 7 => rfl
  | 8 => rfl
  | 9 => rfl
  | 10 => rfl
  | 11 => rfl
  | 12 => rfl
  | 13 => rfl
  | 14 => rfl
  | 15 => rfl
  | k + 16 => omega
theorem bs_congr {b c : Nat → Int} (h : ∀ m, m < 16 → b m = c m) : bs b = bs c := by
  unfold bs
  rw [h 0 (by decide), h 1 (by decide), h 2 (by decide), h 3 (by decide), h 4 (by decide), h 5 (by decide), h 6 (by decide), h 7 (by decide), h 8 (by decide), h 9 (by decide), h 10 (by decide), h 11 (by decide), h 12 (by decide), h 13 (by decide), h 14 (by decide), h 15 (by decide)]
theorem bs_setL (c : Nat → Int) (j : Nat) (y : Int) (h : j < 16) : (([.int .u8 (c 0), .int .u8 (c 1), .int .u8 (c 2), .int .u8 (c 3), .int .u8 (c 4), .int .u8 (c 5), .int .u8 (c 6), .int .u8 (c 7), .int .u8 (c 8), .int .u8 (c 9), .int .u8 (c 10), .int .u8 (c 11), .int .u8 (c 12), .int .u8 (c 13), .int .u8 (c 14), .int .u8 (c 15)] : List Value).set j (.int .u8 y)).toArray = bs (upd c j y) := by
  match j with
  | 0 => rfl
  | 1 => rfl
  | 2 => rfl
  | 3 => rfl
  | 4 => rfl
  | 5 => rfl
  | 6 => rfl
  | 7 => rfl
  | 8 => rfl
  | 9 => rfl
  | 10 => rfl
  | 11 => rfl
  | 12 => rfl
  | 13 => rfl
  | 14 => rfl
  | 15 => rfl
  | k + 16 => omega
theorem bs_one (c : Nat → Int) : (bs c).all (·.oneCell') = true := by kernel_rfl
/-- Get's sum behind k bytes -/
def getP (b : Nat → Int) (base : Nat) : Nat → Int
  | 0 => 0
  | k + 1 => bits .or .u64 (getP b base k) (IntKind.u64.wrap (b (base + k) * 2 ^ (8 * k)))
theorem or_sum (x y : Nat) (m : Nat) (hx : x < 2 ^ m) (hx64 : x < 18446744073709551616) (hy : y * 2 ^ m < 18446744073709551616) : bits .or .u64 (x : Int) (IntKind.u64.wrap ((y : Int) * 2 ^ m)) = ((x + y * 2 ^ m : Nat) : Int) := by
  rw [show (y : Int) * 2 ^ m = ((y * 2 ^ m : Nat) : Int) by push_cast; rfl, IntKind.wrap_u64, show (((y * 2 ^ m : Nat) : Int) % 18446744073709551616) = ((y * 2 ^ m : Nat) : Int) by omega, bits_or_u64_nat _ _ hx64 hy]
  have := Nat.two_pow_add_eq_or_of_lt hx y
  rw [Nat.or_comm, Nat.mul_comm y, ← this, Nat.add_comm]
theorem getP_sum {b : Nat → Int} (hb : Byt b) (base : Nat) : ∀ k, k ≤ 8 → getP b base k = sumN b base k
  | 0, _ => rfl
  | k + 1, hk => by
    rw [getP, getP_sum hb base k (by omega), sumN]
    obtain ⟨h0, h1⟩ := sumN_bd hb base k
    obtain ⟨b0, b1⟩ := hb (base + k)
    obtain ⟨x, hx⟩ := Int.eq_ofNat_of_zero_le h0
    obtain ⟨y, hy⟩ := Int.eq_ofNat_of_zero_le b0
    rw [hx] at h1 ⊢
    rw [hy] at b1 ⊢
    have h256 : (256 : Int) ^ k = ((2 ^ (8 * k) : Nat) : Int) := by rw [← pow8]; push_cast; rfl
    have hp : (2 : Nat) ^ (8 * k) ≤ 2 ^ 56 := Nat.pow_le_pow_right (by decide) (by omega)
    have hx2 : x < 2 ^ (8 * k) := by rw [h256] at h1; exact_mod_cast h1
    have hy2 : y * 2 ^ (8 * k) ≤ 255 * 2 ^ (8 * k) := Nat.mul_le_mul_right _ (by omega)
    have e := or_sum x y (8 * k) hx2 (by omega) (by omega)
    rw [show ((2 : Int) ^ (8 * k)) = 256 ^ k from pow8 k] at e ⊢
    rw [e, h256]; push_cast; rfl
end Go.Proofs.Ytfkioggmomnibaa
