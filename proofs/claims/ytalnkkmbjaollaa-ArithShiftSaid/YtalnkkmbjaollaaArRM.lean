/-
  Plain mathematics of ArithRing, ArithLeast: sums, differences, opposites and products of vectors by one another, and the lesser and the greater. Conditions: a width; bytes.
-/
import Derived.Test.YtalnkkmbjaollaaArAw
namespace Go.Proofs.Ytalnkkmbjaollaa
open Go.RowKit VecM
namespace Ar
theorem mod64 {v : Int} (hv : v = 8 ∨ v = 16 ∨ v = 32 ∨ v = 64) (n : Int) : IntKind.u64.wrap n % 256 ^ wid v = n % 256 ^ wid v := by
  rw [wrap_u]
  rcases pow_of hv with ⟨_, p, _⟩ | ⟨_, p, _⟩ | ⟨_, p, _⟩ | ⟨_, p, _⟩ <;> rw [p] <;> omega
theorem N_pos (v : Int) : (0 : Int) < 256 ^ wid v := pow_pos' _
def B (v o : Int) (a b : Nat → Int) : Nat → Int := biV (baI v + o) a b
def U (v o : Int) (a : Nat → Int) : Nat → Int := unV (baI v + o) a
section
variable {v : Int} (hv : v = 8 ∨ v = 16 ∨ v = 32 ∨ v = 64) {j : Nat} (hj : thereB v j = true) (a b : Nat → Int)
include hv hj
theorem l14 : getI (B v 14 a b) v j = (getI a v j + getI b v j) % 256 ^ wid v := by
  unfold B
  rw [get_bi hv (by omega) (by omega) (by simp [hasB]) hj, show laneI 14 v (getI a v j) (getI b v j) (sgnI a v j) (sgnI b v j) = IntKind.u64.wrap (getI a v j + getI b v j) by simp [laneI], mod64 hv]
theorem l17 : getI (B v 17 a b) v j = (getI a v j - getI b v j) % 256 ^ wid v := by
  unfold B
  rw [get_bi hv (by omega) (by omega) (by simp [hasB]) hj, show laneI 17 v (getI a v j) (getI b v j) (sgnI a v j) (sgnI b v j) = IntKind.u64.wrap (getI a v j - getI b v j) by simp [laneI], mod64 hv]
theorem l21 (h8 : 16 ≤ v) : getI (B v 21 a b) v j = (getI a v j * getI b v j) % 256 ^ wid v := by
  unfold B
  rw [get_bi hv (by omega) (by omega) (by simp [hasB, h8]) hj, show laneI 21 v (getI a v j) (getI b v j) (sgnI a v j) (sgnI b v j) = IntKind.u64.wrap (getI a v j * getI b v j) by simp [laneI], mod64 hv]
theorem l1 : getI (U v 1 a) v j = (-getI a v j) % 256 ^ wid v := by
  unfold U
  rw [get_un hv (by omega) (by omega) (by simp [hasB]) hj, show unL 1 (getI a v j) (sgnI a v j) = IntKind.u64.wrap (-getI a v j) by simp [unL], mod64 hv]
theorem l0 : getI (U v 0 a) v j = (if sgnI a v j < 0 then -getI a v j else getI a v j) % 256 ^ wid v := by
  unfold U
  rw [get_un hv (by omega) (by omega) (by simp [hasB]) hj]
  by_cases h : sgnI a v j < 0
  · rw [show unL 0 (getI a v j) (sgnI a v j) = IntKind.u64.wrap (-getI a v j) by simp [unL, h], mod64 hv, if_pos h]
  · rw [show unL 0 (getI a v j) (sgnI a v j) = getI a v j by simp [unL, h], if_neg h]
end
theorem B_byt (v o : Int) (a b : Nat → Int) : Byt (B v o a b) := biV_byt _ _ _
theorem U_byt (v o : Int) {a : Nat → Int} (ha : Byt a) : Byt (U v o a) := unV_byt _ ha
theorem two_B (v o : Int) (a b : Nat → Int) (hv : v = 8 ∨ v = 16 ∨ v = 32 ∨ v = 64) (ho : 0 ≤ o ∧ o ≤ 31) (ha : Byt a) (hb : Byt b) (w : World) :
    Calls Try.prog 19 #[.int .i64 v, .int .i64 o, .agg (bs a), .agg (bs b)] w fun e w' => e = .returned (.agg (bs (B v o a b))) ∧ Gr w w' := two_any v o a b hv ho ha hb w
theorem one_U (v o : Int) (a : Nat → Int) (hv : v = 8 ∨ v = 16 ∨ v = 32 ∨ v = 64) (ho : 0 ≤ o ∧ o ≤ 31) (ha : Byt a) (w : World) :
    Calls Try.prog 20 #[.int .i64 v, .int .i64 o, .agg (bs a)] w fun e w' => e = .returned (.agg (bs (U v o a))) ∧ Gr w w' := one_any v o a hv ho ha w
theorem eq_same (b : Nat → Int) (w : World) : (Op.equalIn 10000 23 (.agg (bs b)) (.agg (bs b))).run Try.prog w = .ok true w := by rw [eq_vec, vecB_refl]
theorem sub_mod_l (x y N : Int) : ((x % N) - y) % N = (x - y) % N := by rw [Int.sub_emod, Int.emod_emod_of_dvd _ (Int.dvd_refl N), ← Int.sub_emod]
theorem add_mod_l (x y N : Int) : ((x % N) + y) % N = (x + y) % N := by rw [Int.add_emod, Int.emod_emod_of_dvd _ (Int.dvd_refl N), ← Int.add_emod]
theorem add_mod_r (x y N : Int) : (x + (y % N)) % N = (x + y) % N := by rw [Int.add_emod, Int.emod_emod_of_dvd _ (Int.dvd_refl N), ← Int.add_emod]
theorem mul_mod_l (x y N : Int) : ((x % N) * y) % N = (x * y) % N := by rw [Int.mul_emod, Int.emod_emod_of_dvd _ (Int.dvd_refl N), ← Int.mul_emod]
theorem mul_mod_r (x y N : Int) : (x * (y % N)) % N = (x * y) % N := by rw [Int.mul_emod, Int.emod_emod_of_dvd _ (Int.dvd_refl N), ← Int.mul_emod]
theorem neg_mod (x N : Int) : (-(x % N)) % N = (-x) % N := by

  rw [← Int.zero_sub, ← Int.zero_sub, Int.sub_emod, Int.emod_emod_of_dvd _ (Int.dvd_refl N), ← Int.sub_emod]
theorem get_mod {a : Nat → Int} (ha : Byt a) (v j : Int) : getI a v j % 256 ^ wid v = getI a v j := Int.emod_eq_of_lt (getI_bd ha v j).1 (getI_bd ha v j).2
theorem get_zero (v j : Int) : getI (fun _ => 0) v j = 0 := by
  unfold getI
  split
  · generalize wid v = n
    have : ∀ b k, sumN (fun _ => 0) b k = 0 := by
      intro b k
      induction k with
      | zero => rfl
      | succ k ih => rw [sumN, ih, Int.zero_mul, Int.zero_add]
    exact this _ _
  · rfl
/-- the law's equations but for products -/
structure RingF (v : Int) (a b : Nat → Int) : Prop where
  r1 : bs (B v 14 b a) = bs (B v 14 a b)
  r2 : bs (B v 17 (B v 14 a b) b) = bs a
  r3 : bs (B v 17 (fun _ => 0) a) = bs (U v 1 a)
  r4 : bs (B v 14 a (U v 1 b)) = bs (B v 17 a b)
  r5 : bs (B v 14 a (fun _ => 0)) = bs a
  r6 : bs (U v 0 (U v 1 a)) = bs (U v 0 a)
theorem ringF {v : Int} (hv : v = 8 ∨ v = 16 ∨ v = 32 ∨ v = 64) {a b : Nat → Int} (ha : Byt a) (_hb : Byt b) : RingF v a b where
  r1 := bs_ext (B_byt _ _ _ _) (B_byt _ _ _ _) hv fun j hj => by rw [l14 hv hj, l14 hv hj, Int.add_comm]
  r2 := bs_ext (B_byt _ _ _ _) ha hv fun j hj => by rw [l17 hv hj, l14 hv hj, sub_mod_l, show getI a v j + getI b v j - getI b v j = getI a v j by omega, get_mod ha]
  r3 := bs_ext (B_byt _ _ _ _) (U_byt _ _ ha) hv fun j hj => by rw [l17 hv hj, l1 hv hj, get_zero, Int.zero_sub]
  r4 := bs_ext (B_byt _ _ _ _) (B_byt _ _ _ _) hv fun j hj => by rw [l14 hv hj, l17 hv hj, l1 hv hj, add_mod_r, ← Int.sub_eq_add_neg]
  r5 := bs_ext (B_byt _ _ _ _) ha hv fun j hj => by rw [l14 hv hj, get_zero, Int.add_zero, get_mod ha]
  r6 := bs_ext (U_byt _ _ (U_byt _ _ ha)) (U_byt _ _ ha) hv fun j hj => by
    rw [l0 hv hj, l0 hv hj, sgn_of (b := U v 1 a) hj, sgn_of (b := a) hj, l1 hv hj]
    have hb := getI_bd ha v j
    generalize getI a v j = x at *
    unfold sg
    rcases pow_of hv with ⟨_, p1, p2, p3⟩ | ⟨_, p1, p2, p3⟩ | ⟨_, p1, p2, p3⟩ | ⟨_, p1, p2, p3⟩ <;> rw [p1, p2, p3] <;> rw [p1] at hb <;> (repeat' split) <;> omega
structure RingP (v : Int) (a b c : Nat → Int) : Prop where
  r7 : bs (B v 21 b a) = bs (B v 21 a b)
  r8 : bs (B v 21 a (B v 14 b c)) = bs (B v 14 (B v 21 a b) (B v 21 a c))
  r9 : bs (B v 21 (U v 1 a) b) = bs (U v 1 (B v 21 a b))
theorem ringP {v : Int} (hv : v = 8 ∨ v = 16 ∨ v = 32 ∨ v = 64) (h8 : 16 ≤ v) {a b c : Nat → Int} : RingP v a b c where
  r7 := bs_ext (B_byt _ _ _ _) (B_byt _ _ _ _) hv fun j hj => by rw [l21 hv hj _ _ h8, l21 hv hj _ _ h8, Int.mul_comm]
  r8 := bs_ext (B_byt _ _ _ _) (B_byt _ _ _ _) hv fun j hj => by
    rw [l21 hv hj _ _ h8, l14 hv hj, l14 hv hj, l21 hv hj _ _ h8, l21 hv hj _ _ h8, mul_mod_r, add_mod_l, add_mod_r, Int.mul_add]
  r9 := bs_ext (B_byt _ _ _ _) (U_byt _ _ (B_byt _ _ _ _)) hv fun j hj => by
    rw [l21 hv hj _ _ h8, l1 hv hj, l1 hv hj, l21 hv hj _ _ h8, mul_mod_l, neg_mod, Int.neg_mul]
/-- of the absolute lane -/
theorem abs_lane {v : Int} (hv : v = 8 ∨ v = 16 ∨ v = 32 ∨ v = 64) {a : Nat → Int} (ha : Byt a) {j : Nat} (hj : thereB v j = true) :
    (getI (U v 0 a) v j = getI a v j ∨ getI (U v 0 a) v j = getI (U v 1 a) v j) ∧ (0 ≤ sgnI (U v 0 a) v j ∨ getI (U v 0 a) v j = 2 ^ (v.toNat - 1)) := by
  rw [sgn_of (b := U v 0 a) hj, l0 hv hj, l1 hv hj, sgn_of (b := a) hj]
  have hb := getI_bd ha v j
  generalize getI a v j = x at *
  unfold sg
  rcases pow_of hv with ⟨_, p1, p2, p3⟩ | ⟨_, p1, p2, p3⟩ | ⟨_, p1, p2, p3⟩ | ⟨_, p1, p2, p3⟩ <;> rw [p1, p2, p3] <;> rw [p1] at hb <;> (repeat' split) <;> omega
end Ar
end Go.Proofs.Ytalnkkmbjaollaa
