/-
  Of layer 8: widen.hold, narrow, multiply, products, rounded. Conditions: bytes.
-/
import Derived.Test.YtmgkejpjljkfdaaWdEx
namespace Go.Proofs.Ytmgkejpjljkfdaa
open Go.RowKit VecM
namespace Wd
def holdI (n a b : Int) : Int := if n < a then a else if b < n then b else n
theorem holdI_bd (n : Int) {a b : Int} (h : a ≤ b) : a ≤ holdI n a b ∧ holdI n a b ≤ b := by
  unfold holdI
  repeat' split
  all_goals omega
theorem ret_u' {a b : Int} (h : a = b) : Ending.returned (.int .u64 a) = .returned (.int .u64 b) := by rw [h]
theorem ret_i' {a b : Int} (h : a = b) : Ending.returned (.int .i64 a) = .returned (.int .i64 b) := by rw [h]
def muV (v : Int) (L : Nat) (a b : Nat → Int) : Nat → Int := ofK a v (fun i => IntKind.u64.wrap (getI a v i * getI b v i)) L
section
variable {P : Program} {a : Act} {o : Oper}
theorem run_min {x y : Operand} {ts : Array TypeId} {k : IntKind} {m n z : Int} (ho : o.op = .call { callee := .builtin .min, args := #[x, y], argTypes := ts }) (hx : a.eval x = .int k m) (hy : a.eval y = .int k n) (hz : z = if m < n then m else n) (w : World) : (execOp a.eval o).run P w = .ok (.value (.int k z)) w := by
  unfold execOp
  subst hz
  have e : (if n < m then n else m) = if m < n then m else n := by
    by_cases h : n < m
    · rw [if_pos h, if_neg (by omega)]
    · rw [if_neg h]; by_cases h2 : m < n
      · rw [if_pos h2]
      · rw [if_neg h2]; omega
  simp [ho, hx, hy, resolve, invoke, builtin, Builtin.min_, Builtin.min2, Result.andThen, e]
end
def prV (a b : Nat → Int) : Nat → Int := ofK (fun _ => 0) 32 (fun i => IntKind.u64.wrap (IntKind.i64.wrap (IntKind.i64.wrap (sgnI a 16 (2 * i) * sgnI b 16 (2 * i)) + IntKind.i64.wrap (sgnI a 16 (2 * i + 1) * sgnI b 16 (2 * i + 1))))) 4
/-- a product of fractions of 2^15, rounded and held -/
def q15 (x : Int) : Int := if (x + 16384) / 32768 < 32767 then (x + 16384) / 32768 else 32767
def roV (a b : Nat → Int) : Nat → Int := ofK (fun _ => 0) 16 (fun i => IntKind.u64.wrap (q15 (sgnI a 16 i * sgnI b 16 i))) 8
theorem sg16_bd {b : Nat → Int} (hb : Byt b) (i : Nat) : -32768 ≤ sgnI b 16 i ∧ sgnI b 16 i ≤ 32767 := by
  unfold sgnI
  split
  · have hg := getI_bd hb 16 i
    rw [wid16] at hg
    unfold sg
    rw [show ((2 : Int) ^ (((16 : Int)).toNat - 1)) = 32768 by decide, show ((2 : Int) ^ ((16 : Int)).toNat) = 65536 by decide]
    split <;> omega
  · omega
theorem mul_bd (x y : Int) (h : -32768 ≤ x ∧ x ≤ 32767) (h' : -32768 ≤ y ∧ y ≤ 32767) : -1073741824 ≤ x * y ∧ x * y ≤ 1073741824 := by
  have e1 : (x + 32768) * (y + 32768) ≥ 0 := Int.mul_nonneg (by omega) (by omega)
  have e2 : (32768 - x) * (y + 32768) ≥ 0 := Int.mul_nonneg (by omega) (by omega)
  have e3 : (x + 32768) * (32768 - y) ≥ 0 := Int.mul_nonneg (by omega) (by omega)
  have e4 : (32768 - x) * (32768 - y) ≥ 0 := Int.mul_nonneg (by omega) (by omega)
  simp only [Int.add_mul, Int.sub_mul, Int.mul_add, Int.mul_sub] at e1 e2 e3 e4
  omega
/-- narrowed: k lanes of each vector -/
def naK (v m n lo hi : Int) (a b : Nat → Int) : Nat → (Nat → Int)
  | 0 => fun _ => 0
  | k + 1 => setI (setI (naK v m n lo hi a b k) v k (IntKind.u64.wrap (holdI (sgnI a m k) lo hi))) v (n + k) (IntKind.u64.wrap (holdI (sgnI b m k) lo hi))
end Wd
end Go.Proofs.Ytmgkejpjljkfdaa
