/-
 Of layer 9: plain mathematics for VectorParts: a vector and its halves; numbers of 32 bits laid and taken. Conditions: bytes.
-/
import Derived.Test.YtjoalcaooccbiaaVcPbM
namespace Go.Proofs.Ytjoalcaooccbiaa
open Go.RowKit VecM Ev
namespace Vc
theorem both_out (x y : Int) (m : Nat) (h : 16 ≤ m) : both64 x y m = 0 := by
 have t0 : thereB 64 ((0 : Nat) : Int) = true := by decide
 have t1 : thereB 64 ((1 : Nat) : Int) = true := by decide
 unfold both64
 simp only [ofK, setI, t0, t1, if_true]
 unfold setN
 rw [wid64, if_neg (by omega), if_neg (by omega)]
theorem get_two (x y : Int) (j : Nat) (hj : thereB 64 (j : Int) = true) : getI (both64 x y) 64 j = if j < 2 then two x y j % 256 ^ wid 64 else 0 := by
 unfold both64
 rw [get_ofK _ _ _ _ hj]
 split
 ·rfl
 ·unfold getI
  rw [if_pos hj]
  generalize (j : Int).toNat * wid 64 = base
  generalize wid 64 = n
  induction n with
  | zero => rfl
  | succ n ih => rw [sumN, ih]; simp
theorem half_eq {a : Nat → Int} (ha : Byt a) (hz : ∀ m, 16 ≤ m → a m = 0) : both64 (getI a 64 0) (getI a 64 1) = a := by
 funext m
 by_cases hm : m < 16
 ·refine ext (byt_both _ _) ha 64 (by omega) (fun j hj => ?_) m hm
  rw [get_two _ _ j hj]
  have hl : (j : Int) < 2 := by
   have := (there_iff.1 hj).2
   have e : lanesI 64 = 2 := by decide
   omega
  rw [if_pos (by omega)]
  have p : (256 : Int) ^ wid 64 = 18446744073709551616 := by decide
  rw [p]
  have q0 := getI_64 ha 64 0
  have q1 := getI_64 ha 64 1
  have : j = 0 ∨ j = 1 := by omega
  rcases this with rfl | rfl
  ·show getI a 64 0 % 18446744073709551616 = getI a 64 0
   omega
  ·show getI a 64 1 % 18446744073709551616 = getI a 64 1
   omega
 ·rw [both_out _ _ m (by omega), hz m (by omega)]
theorem there0 (v : Int) (hv : v = 32 ∨ v = 64) : thereB v 0 = true := by
 rcases hv with rfl | rfl <;> decide
theorem one_set (x : Int) : one64 x = setN (fun _ => 0) 0 x 8 := by
 have t0 : thereB 64 ((0 : Nat) : Int) = true := by decide
 unfold one64
 simp only [ofK, setI, t0, if_true]
 rfl
theorem low_set (x : Int) : low32 x = setN (fun _ => 0) 0 x 4 := by
 have t0 : thereB 32 ((0 : Nat) : Int) = true := by decide
 unfold low32
 simp only [ofK, setI, t0, if_true]
 rfl
theorem one_get64 (x : Int) (h : 0 ≤ x ∧ x < 18446744073709551616) : getI (one64 x) 64 0 = x := by
 unfold getI
 rw [if_pos (there0 64 (.inr rfl)), one_set]
 have := sum_set (fun _ => 0) 0 x 8 8 (Nat.le_refl _)
 have e : (0 : Int).toNat * wid 64 = 0 := by decide
 rw [e, wid64, this]
 have p : (256 : Int) ^ 8 = 18446744073709551616 := by decide
 rw [p]; omega
theorem one_get32 (x : Int) (h : 0 ≤ x ∧ x < 4294967296) : getI (one64 x) 32 0 = x := by
 unfold getI
 rw [if_pos (there0 32 (.inl rfl)), one_set]
 have := sum_set (fun _ => 0) 0 x 8 4 (by omega)
 have e : (0 : Int).toNat * wid 32 = 0 := by decide
 rw [e, VecM.wid32, this]
 have p : (256 : Int) ^ 4 = 4294967296 := by decide
 rw [p]; omega
theorem low_get64 (x : Int) (h : 0 ≤ x ∧ x < 4294967296) : getI (low32 x) 64 0 = x := by
 unfold getI
 rw [if_pos (there0 64 (.inr rfl)), low_set]
 have := sum_set (fun _ => 0) 0 x 4 4 (Nat.le_refl _)
 have e : (0 : Int).toNat * wid 64 = 0 := by decide
 rw [e, wid64]
 have z : ∀ m, 4 ≤ m → setN (fun _ => (0 : Int)) 0 x 4 m = 0 := fun m hm => by unfold setN; rw [if_neg (by omega)]
 have e8 : sumN (setN (fun _ => 0) 0 x 4) 0 8 = sumN (setN (fun _ => 0) 0 x 4) 0 4 := by
  have s : ∀ k, 4 ≤ k → sumN (setN (fun _ => 0) 0 x 4) 0 (k + 1) = sumN (setN (fun _ => 0) 0 x 4) 0 k := fun k hk => by
   rw [sumN, z (0 + k) (by omega)]; simp
  rw [s 7 (by omega), s 6 (by omega), s 5 (by omega), s 4 (by omega)]
 rw [e8, this]
 have p : (256 : Int) ^ 4 = 4294967296 := by decide
 rw [p]; omega
theorem setI_low (b : Nat → Int) (v i y y' : Int) (hv : v = 8 ∨ v = 16 ∨ v = 32) (h : y % 4294967296 = y' % 4294967296) : setI b v i y = setI b v i y' := by
 unfold setI
 split
 ·funext m
  have hw : wid v ≤ 4 := by rcases hv with rfl | rfl | rfl <;> decide
  unfold setN
  split
  ·rename_i hm
   obtain ⟨d, hd⟩ : ∃ d, d = m - i.toNat * wid v := ⟨_, rfl⟩
   rw [← hd]
   have hd4 : d < 4 := by omega
   have : d = 0 ∨ d = 1 ∨ d = 2 ∨ d = 3 := by omega
   have e0 : (256 : Int) ^ 0 = 1 := by decide
   have e1 : (256 : Int) ^ 1 = 256 := by decide
   have e2 : (256 : Int) ^ 2 = 65536 := by decide
   have e3 : (256 : Int) ^ 3 = 16777216 := by decide
   rcases this with e | e | e | e <;> rw [e]
   ·rw [e0]; omega
   ·rw [e1]; omega
   ·rw [e2]; omega
   ·rw [e3]; omega
  ·rfl
 ·rfl
theorem ofK_low (v y y' : Int) (hv : v = 8 ∨ v = 16 ∨ v = 32) (h : y % 4294967296 = y' % 4294967296) : ∀ k, ofK (fun _ => 0) v (fun _ => y) k = ofK (fun _ => 0) v (fun _ => y') k
 | 0 => rfl
 | k + 1 => by rw [ofK, ofK, ofK_low v y y' hv h k, setI_low _ v k y y' hv h]
theorem spl_low (v y : Int) (hv : v = 8 ∨ v = 16 ∨ v = 32) : Mv.splV v (y % 4294967296) = Mv.splV v y := ofK_low v _ _ hv (by omega) _
theorem re_low (op y : Int) (a : Nat → Int) (hv : Mv.reW op = 8 ∨ Mv.reW op = 16 ∨ Mv.reW op = 32) : Mv.reV op 1 (y % 4294967296) a = Mv.reV op 1 y a := by
 unfold Mv.reV
 rw [setI_low a (Mv.reW op) 1 _ y hv (by omega)]
theorem ex_bd {a : Nat → Int} (ha : Byt a) (op : Int) (hv : Mv.exW op = 8 ∨ Mv.exW op = 16 ∨ Mv.exW op = 32) : 0 ≤ Mv.exV op 1 a ∧ Mv.exV op 1 a < 4294967296 := by
 unfold Mv.exV
 split
 ·split
  ·rw [IntKind.wrap_u32]; omega
  ·have := getI_bd ha (Mv.exW op) 1
   have hw : (256 : Int) ^ wid (Mv.exW op) ≤ 4294967296 := by rcases hv with h | h | h <;> rw [h] <;> decide
   omega
 ·omega
theorem ex_bd64 {a : Nat → Int} (ha : Byt a) (op : Int) : 0 ≤ Mv.exV op 1 a ∧ Mv.exV op 1 a < 18446744073709551616 := by
 unfold Mv.exV
 split
 ·split
  ·rw [IntKind.wrap_u32]; omega
  ·exact getI_64 ha _ _
 ·omega
theorem t32_bd (b : Bool) : 0 ≤ Cp.t32 b ∧ Cp.t32 b < 4294967296 := by cases b <;> exact ⟨by decide, by decide⟩
theorem sg_bd (a : Nat → Int) (v : Int) : ∀ n, 0 ≤ Cp.sgI a v n ∧ Cp.sgI a v n < 4294967296
 | 0 => ⟨Int.le_refl _, by show (0 : Int) < 4294967296; decide⟩
 | n + 1 => by
  rw [Cp.sgI]
  unfold bits
  rw [IntKind.wrap_u32]
  omega
theorem ts_bd (op : Int) (a : Nat → Int) : 0 ≤ Cp.tsV op a ∧ Cp.tsV op a < 4294967296 := by
 unfold Cp.tsV
 split
 ·exact t32_bd _
 ·split
  ·exact t32_bd _
  ·split
   ·exact sg_bd _ _ _
   ·omega
theorem ts_wrap (op : Int) (a : Nat → Int) : IntKind.u64.wrap (Cp.tsV op a) = Cp.tsV op a := by
 have := ts_bd op a
 rw [IntKind.wrap_u64]; omega
end Vc
end Go.Proofs.Ytjoalcaooccbiaa
