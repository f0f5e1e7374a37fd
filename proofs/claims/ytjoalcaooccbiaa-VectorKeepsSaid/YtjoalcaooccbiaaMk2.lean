/-
  Texts of this seat, joined: PopM. Each says what it proves.
-/
import Derived.Lib.BitFns
/- PopM -/
namespace Go.Proofs.Ytjoalcaooccbiaa
namespace PopM
open Go.Lib
theorem and_bytes (a b c d : Nat) (hb : b < 256) (hd : d < 256) : (256 * a + b) &&& (256 * c + d) = 256 * (a &&& c) + (b &&& d) := by
 have h1 : ((256 * a + b) &&& (256 * c + d)) / 2 ^ 8 = a &&& c := by
  rw [Nat.and_div_two_pow]; congr 1 <;> omega
 have h2 : ((256 * a + b) &&& (256 * c + d)) % 2 ^ 8 = b &&& d := by
  rw [Nat.and_mod_two_pow, show (256 * a + b) % 2 ^ 8 = b by omega, show (256 * c + d) % 2 ^ 8 = d by omega]
 omega
def M (m : Nat) : Nat → Nat
 | 0 => 0
 | k + 1 => 256 * M m k + m
theorem M_succ (m k : Nat) : M m (k + 1) = 256 * M m k + m := rfl
def f1 (r : Nat) : Nat := (r / 2 &&& 85) + (r &&& 85)
def f2 (r : Nat) : Nat := (r / 4 &&& 51) + (r &&& 51)
def F1 (k x : Nat) : Nat := (x / 2 &&& M 85 k) + (x &&& M 85 k)
def F2 (k x : Nat) : Nat := (x / 4 &&& M 51 k) + (x &&& M 51 k)
def F3 (k x : Nat) : Nat := (x / 16 + x) &&& M 15 k
theorem low1 : ∀ a : Fin 2, ∀ r : Fin 256, (a.val * 128 + r.val / 2) &&& 85 = r.val / 2 &&& 85 := by decide +kernel
theorem low2 : ∀ a : Fin 4, ∀ r : Fin 256, (a.val * 64 + r.val / 4) &&& 51 = r.val / 4 &&& 51 := by decide +kernel
theorem byte_all : ∀ r : Fin 256, f1 r.val < 256 ∧ f2 (f1 r.val) ≤ 68 ∧ f2 (f1 r.val) % 16 ≤ 4 ∧ f2 (f1 r.val) / 16 ≤ 4 ∧ f2 (f1 r.val) / 16 + f2 (f1 r.val) % 16 = popAux 8 r.val := by decide +kernel
theorem F1_succ (k q r : Nat) (hr : r < 256) : F1 (k + 1) (256 * q + r) = 256 * F1 k q + f1 r := by
 unfold F1 f1
 rw [M_succ, show (256 * q + r) / 2 = 256 * (q / 2) + (q % 2 * 128 + r / 2) by omega, and_bytes _ _ _ _ (by omega) (by decide), and_bytes _ _ _ _ hr (by decide),
  show (q % 2 * 128 + r / 2) &&& 85 = r / 2 &&& 85 from low1 ⟨q % 2, by omega⟩ ⟨r, hr⟩]
 omega
theorem F2_succ (k q r : Nat) (hr : r < 256) : F2 (k + 1) (256 * q + r) = 256 * F2 k q + f2 r := by
 unfold F2 f2
 rw [M_succ, show (256 * q + r) / 4 = 256 * (q / 4) + (q % 4 * 64 + r / 4) by omega, and_bytes _ _ _ _ (by omega) (by decide), and_bytes _ _ _ _ hr (by decide),
  show (q % 4 * 64 + r / 4) &&& 51 = r / 4 &&& 51 from low2 ⟨q % 4, by omega⟩ ⟨r, hr⟩]
 omega
theorem F3_succ (k q r : Nat) (hr : r ≤ 68) (h0 : r % 16 ≤ 4) (_h1 : r / 16 ≤ 4) (hq : q % 16 ≤ 4) : F3 (k + 1) (256 * q + r) = 256 * F3 k q + (r / 16 + r % 16) := by
 unfold F3
 rw [M_succ, show (256 * q + r) / 16 + (256 * q + r) = 256 * (q / 16 + q) + (q % 16 * 16 + r / 16 + r) by omega, and_bytes _ _ _ _ (by omega) (by decide)]
 have : (q % 16 * 16 + r / 16 + r) &&& 15 = (q % 16 * 16 + r / 16 + r) % 16 := Nat.and_two_pow_sub_one_eq_mod _ 4
 rw [this]
 omega
def E : Nat → Nat → Nat
 | 0, _ => 0
 | k + 1, x => 256 * E k (x / 256) + popAux 8 (x % 256)
theorem F2_mod (k x : Nat) : F2 k (F1 k x) % 16 ≤ 4 := by
 match k with
 | 0 => simp [F2, M]
 | k + 1 =>
  obtain ⟨a, b, c, _, _⟩ := byte_all ⟨x % 256, by omega⟩
  simp only at a b c
  rw [show x = 256 * (x / 256) + x % 256 by omega, F1_succ k _ _ (by omega), F2_succ k _ _ a]
  omega
theorem swar_E : ∀ k x, F3 k (F2 k (F1 k x)) = E k x
 | 0, x => by simp [F3, M, E]
 | k + 1, x => by
  obtain ⟨a, b, c, d, e⟩ := byte_all ⟨x % 256, by omega⟩
  simp only at a b c d e
  have ih := swar_E k (x / 256)
  have hm := F2_mod k (x / 256)
  conv => lhs; rw [show x = 256 * (x / 256) + x % 256 by omega]
  rw [F1_succ k _ _ (by omega), F2_succ k _ _ a, F3_succ k _ _ b c d hm, ih, e]
  rfl
theorem popAux_le8 (c : Nat) : popAux 8 c ≤ 8 := by
 simp only [popAux]; omega
theorem dv (m a b : Nat) (h : a < m) : (a + m * b) / m = b := by
 rw [Nat.add_mul_div_left _ _ (by omega), Nat.div_eq_of_lt h, Nat.zero_add]
theorem gather (b0 b1 b2 b3 b4 b5 b6 b7 : Nat) (h0 : b0 ≤ 8) (h1 : b1 ≤ 8) (h2 : b2 ≤ 8) (h3 : b3 ≤ 8) (h4 : b4 ≤ 8) (h5 : b5 ≤ 8) (h6 : b6 ≤ 8) (h7 : b7 ≤ 8)
  (y y1 y2 y3 : Nat) (e : y = b0 + 256 * (b1 + 256 * (b2 + 256 * (b3 + 256 * (b4 + 256 * (b5 + 256 * (b6 + 256 * b7)))))))
  (e1 : y1 = y + y / 256) (e2 : y2 = y1 + y1 / 65536) (e3 : y3 = y2 + y2 / 4294967296) :
  y1 < 18446744073709551616 ∧ y2 < 18446744073709551616 ∧ y3 < 18446744073709551616 ∧ y3 % 128 = b0 + b1 + b2 + b3 + b4 + b5 + b6 + b7 := by
 have k1 : b0 < 256 := by clear e e1 e2 e3; omega
 have k2 : (b0 + b1) + 256 * (b1 + b2) < 65536 := by clear e e1 e2 e3; omega
 have k3 : (b0 + b1 + b2 + b3) + 256 * ((b1 + b2 + b3 + b4) + 256 * ((b2 + b3 + b4 + b5) + 256 * (b3 + b4 + b5 + b6))) < 4294967296 := by clear e e1 e2 e3; omega
 have k4 : b0 + b1 + b2 + b3 + b4 + b5 + b6 + b7 < 128 := by clear e e1 e2 e3; omega
 have d1 : y / 256 = b1 + 256 * (b2 + 256 * (b3 + 256 * (b4 + 256 * (b5 + 256 * (b6 + 256 * b7))))) := by rw [e]; exact dv 256 b0 _ k1
 rw [d1, e] at e1
 clear d1 e
 have g1 : y1 = ((b0 + b1) + 256 * (b1 + b2)) + 65536 * ((b2 + b3) + 256 * ((b3 + b4) + 256 * ((b4 + b5) + 256 * ((b5 + b6) + 256 * ((b6 + b7) + 256 * b7))))) := by
  clear e2 e3 k1 k2 k3 k4 h0 h1 h2 h3 h4 h5 h6 h7
  subst e1
  simp only [Nat.mul_add, ← Nat.mul_assoc, Nat.reduceMul]
  omega
 have l1 : y1 < 18446744073709551616 := by clear e2 e3 e1 k1 k2 k3 k4; omega
 clear e1
 have d2 : y1 / 65536 = (b2 + b3) + 256 * ((b3 + b4) + 256 * ((b4 + b5) + 256 * ((b5 + b6) + 256 * ((b6 + b7) + 256 * b7)))) := by rw [g1]; exact dv 65536 _ _ k2
 rw [d2, g1] at e2
 clear d2 g1
 have g2 : y2 = ((b0 + b1 + b2 + b3) + 256 * ((b1 + b2 + b3 + b4) + 256 * ((b2 + b3 + b4 + b5) + 256 * (b3 + b4 + b5 + b6)))) + 4294967296 * ((b4 + b5 + b6 + b7) + 256 * ((b5 + b6 + b7) + 256 * ((b6 + b7) + 256 * b7))) := by clear e3 k1 k2 k3 k4 l1; omega
 have l2 : y2 < 18446744073709551616 := by clear e3 e2 k1 k2 k3 k4 l1; omega
 clear e2
 have d3 : y2 / 4294967296 = (b4 + b5 + b6 + b7) + 256 * ((b5 + b6 + b7) + 256 * ((b6 + b7) + 256 * b7)) := by rw [g2]; exact dv 4294967296 _ _ k3
 rw [d3, g2] at e3
 clear d3 g2
 have f3 : y3 = (b0 + b1 + b2 + b3 + b4 + b5 + b6 + b7) + 128 * (2 * ((b1 + b2 + b3 + b4 + b5 + b6 + b7) + 256 * ((b2 + b3 + b4 + b5 + b6 + b7) + 256 * ((b3 + b4 + b5 + b6 + b7) + 256 * ((b4 + b5 + b6 + b7) + 256 * ((b5 + b6 + b7) + 256 * ((b6 + b7) + 256 * b7))))))) := by clear k1 k2 k3 k4 l1 l2; omega
 have l3 : y3 < 18446744073709551616 := by clear e3 k1 k2 k3 k4 l1 l2; omega
 refine ⟨l1, l2, l3, ?_⟩
 rw [f3, Nat.add_mul_mod_self_left, Nat.mod_eq_of_lt k4]
theorem pop_bytes (x : Nat) : popAux 64 x = popAux 8 (x % 256) + popAux 8 (x / 256 % 256) + popAux 8 (x / 256 / 256 % 256) + popAux 8 (x / 256 / 256 / 256 % 256)
  + popAux 8 (x / 256 / 256 / 256 / 256 % 256) + popAux 8 (x / 256 / 256 / 256 / 256 / 256 % 256) + popAux 8 (x / 256 / 256 / 256 / 256 / 256 / 256 % 256) + popAux 8 (x / 256 / 256 / 256 / 256 / 256 / 256 / 256 % 256) := by
 have step : ∀ f x, popAux (f + 8) x = popAux 8 (x % 256) + popAux f (x / 256) := by
  intro f x
  simp only [popAux, Nat.div_div_eq_div_mul, Nat.reduceMul]
  omega
 have s : ∀ f g x, f = g + 8 → popAux f x = popAux 8 (x % 256) + popAux g (x / 256) := by
  intro f g x h; rw [h]; exact step g x
 rw [s 64 56 x rfl, s 56 48 _ rfl, s 48 40 _ rfl, s 40 32 _ rfl, s 32 24 _ rfl, s 24 16 _ rfl, s 16 8 _ rfl, s 8 0 (x / 256 / 256 / 256 / 256 / 256 / 256 / 256) rfl]
 simp only [popAux.eq_1]
 omega
theorem M85 : M 85 8 = 6148914691236517205 := by decide
theorem M51 : M 51 8 = 3689348814741910323 := by decide
theorem M15 : M 15 8 = 1085102592571150095 := by decide
theorem ones64 (x y1 y2 y3 y4 y5 y6 : Nat)
  (e1 : y1 = (x / 2 &&& 6148914691236517205) + (x &&& 6148914691236517205)) (e2 : y2 = (y1 / 4 &&& 3689348814741910323) + (y1 &&& 3689348814741910323)) (e3 : y3 = (y2 / 16 + y2) &&& 1085102592571150095)
  (e4 : y4 = y3 + y3 / 256) (e5 : y5 = y4 + y4 / 65536) (e6 : y6 = y5 + y5 / 4294967296) :
  y4 < 18446744073709551616 ∧ y5 < 18446744073709551616 ∧ y6 < 18446744073709551616 ∧ y6 % 128 = popAux 64 x := by
 have h3 : y3 = E 8 x := by
  rw [← swar_E 8 x]
  unfold F3 F2 F1
  rw [M85, M51, M15, ← e1, ← e2, ← e3]
 have p := popAux_le8
 rw [pop_bytes x]
 refine gather _ _ _ _ _ _ _ _ (p _) (p _) (p _) (p _) (p _) (p _) (p _) (p _) y3 y4 y5 y6 ?_ e4 e5 e6
 rw [h3]
 simp only [E]
 omega
theorem and_le5 (x : Nat) : x &&& 6148914691236517205 ≤ 6148914691236517205 := Nat.and_le_right
theorem and_le3 (x : Nat) : x &&& 3689348814741910323 ≤ 3689348814741910323 := Nat.and_le_right
end PopM
end Go.Proofs.Ytjoalcaooccbiaa
