/-
  Plain mathematics of ArithScalar: lanes of 32 and 64 bits, and the operators on whole numbers. Conditions: bytes; a number of 32 bits.
-/
import Derived.Test.YtalnkkmbjaollaaArRM
import Derived.Test.YtalnkkmbjaollaaNBin
import Derived.Test.YtalnkkmbjaollaaSlC
namespace Go.Proofs.Ytalnkkmbjaollaa
open Go.RowKit VecM
namespace Ar
theorem sS_eq {x : Int} (h : 0 ≤ x ∧ x < 4294967296) : sS x = sg 32 x := by
  unfold sS sg
  rw [show (2 : Int) ^ ((32 : Int).toNat - 1) = 2147483648 from rfl, show (2 : Int) ^ (32 : Int).toNat = 4294967296 from rfl]
  unfold wrap64 wrap32
  split <;> omega
theorem sL_eq {x : Int} (h : 0 ≤ x ∧ x < 18446744073709551616) : sL x = sg 64 x := by
  unfold sL sg
  rw [show (2 : Int) ^ ((64 : Int).toNat - 1) = 9223372036854775808 from rfl, show (2 : Int) ^ (64 : Int).toNat = 18446744073709551616 from rfl]
  unfold wrap64
  split <;> omega
theorem lane32 {b : Nat → Int} (hb : Byt b) (j : Int) : 0 ≤ getI b 32 j ∧ getI b 32 j < 4294967296 := getI_bd hb 32 j
theorem lane64 {b : Nat → Int} (hb : Byt b) (j : Int) : 0 ≤ getI b 64 j ∧ getI b 64 j < 18446744073709551616 := getI_bd hb 64 j
def offI (k : Int) : Int := if k = 0 then 14 else if k = 1 then 17 else 21
theorem sh_id {x : Int} (h : 0 ≤ x ∧ x < 4294967296) : sh x = x := by unfold sh; omega
theorem num32 (k : Int) (hk : k = 0 ∨ k = 1 ∨ k = 2) {a b : Nat → Int} (ha : Byt a) (hb : Byt b) {j : Nat} (hj : thereB 32 j = true) (w : World) :
    Calls Try.prog 26 #[.int .i64 (106 + k), .int .u64 (getI a 32 j), .int .u64 (getI b 32 j)] w fun e w' => e = .returned (.tuple #[.int .u64 (getI (B 32 (offI k) a b) 32 j), .int .i64 0]) ∧ Gr w w' := by
  have hx := lane32 ha j
  have hy := lane32 hb j
  have h := bin_w32 (106 + k) (getI a 32 j) (getI b 32 j) (by omega) (by omega) (by rw [sh_id hy]; exact hy.1) (by
    rw [sh_id hy, sS_eq hy]; unfold sg; rw [show (2 : Int) ^ ((32 : Int).toNat - 1) = 2147483648 from rfl, show (2 : Int) ^ (32 : Int).toNat = 4294967296 from rfl]; intro h; split <;> omega) w
  rw [sh_id hx, sh_id hy, show 106 + k - 106 = k by omega] at h
  have p : (256 : Int) ^ wid 32 = 4294967296 := rfl
  rcases hk with rfl | rfl | rfl
  · rw [show offI 0 = 14 from rfl, l14 (by omega) hj, p, ← p, ← mod64 (v := 32) (by omega), p]
    simpa [workI, workE] using h
  · rw [show offI 1 = 17 from rfl, l17 (by omega) hj, p, ← p, ← mod64 (v := 32) (by omega), p]
    simpa [workI, workE] using h
  · rw [show offI 2 = 21 from rfl, l21 (by omega) hj _ _ (by omega), p, ← p, ← mod64 (v := 32) (by omega), p]
    simpa [workI, workE] using h
theorem num64 (k : Int) (hk : k = 0 ∨ k = 1 ∨ k = 2) {a b : Nat → Int} (ha : Byt a) (hb : Byt b) {j : Nat} (hj : thereB 64 j = true) (w : World) :
    Calls Try.prog 26 #[.int .i64 (124 + k), .int .u64 (getI a 64 j), .int .u64 (getI b 64 j)] w fun e w' => e = .returned (.tuple #[.int .u64 (getI (B 64 (offI k) a b) 64 j), .int .i64 0]) ∧ Gr w w' := by
  have hx := lane64 ha j
  have hy := lane64 hb j
  have h := bin_w64 (124 + k) (getI a 64 j) (getI b 64 j) (by omega) (by omega) hy.1 (by
    rw [sL_eq hy]; unfold sg; rw [show (2 : Int) ^ ((64 : Int).toNat - 1) = 9223372036854775808 from rfl, show (2 : Int) ^ (64 : Int).toNat = 18446744073709551616 from rfl]; intro h; split <;> omega) w
  rw [show 124 + k - 124 = k by omega] at h
  have p : (256 : Int) ^ wid 64 = 18446744073709551616 := rfl
  rcases hk with rfl | rfl | rfl
  · rw [show offI 0 = 14 from rfl, l14 (by omega) hj, p, ← wrap_u]
    simpa [workI, workE] using h
  · rw [show offI 1 = 17 from rfl, l17 (by omega) hj, p, ← wrap_u]
    simpa [workI, workE] using h
  · rw [show offI 2 = 21 from rfl, l21 (by omega) hj _ _ (by omega), p, ← wrap_u]
    simpa [workI, workE] using h
def S (v k : Int) (a : Nat → Int) (n : Int) : Nat → Int := shV (baI v + 11 + k) a n
theorem S_byt (v k : Int) {a : Nat → Int} (ha : Byt a) (n : Int) : Byt (S v k a n) := shV_byt _ ha _
theorem sh_S (v k : Int) (a : Nat → Int) (n : Int) (hv : v = 8 ∨ v = 16 ∨ v = 32 ∨ v = 64) (hk : k = 0 ∨ k = 1 ∨ k = 2) (ha : Byt a) (hn : 0 ≤ n ∧ n < 4294967296) (op : Int) (ho : baI v + 11 + k = op) (w : World) :
    Calls Try.prog 14 #[.int .i64 op, .agg (bs a), .int .u32 n] w fun e w' => e = .returned (.tuple #[.agg (bs (S v k a n)), .int .i64 0]) ∧ Gr w w' := by
  have h := sh_any op a ha n hn w
  have hok : shOk op = true := by
    obtain ⟨e1, e2⟩ := op_of (o := 11 + k) hv (by omega) (by omega) (by rcases hk with rfl | rfl | rfl <;> simp [hasB])
    rw [← ho, Int.add_assoc]
    unfold shOk
    rw [e1, e2]
    have h1 : v ≠ 0 := by omega
    have h2 : 11 ≤ 11 + k := by omega
    have h3 : 11 + k ≤ 13 := by omega
    simp [h1, h2, h3]
  rw [if_pos hok] at h
  unfold S
  rw [ho]
  exact h
theorem get_S {v k : Int} (hv : v = 8 ∨ v = 16 ∨ v = 32 ∨ v = 64) (hk : k = 0 ∨ k = 1 ∨ k = 2) (a : Nat → Int) (n : Int) {j : Nat} (hj : thereB v j = true) :
    getI (S v k a n) v j = shL (11 + k) (n % v) (getI a v j) (sgnI a v j) % 256 ^ wid v := by
  unfold S
  rw [Int.add_assoc]
  exact get_sh hv (by omega) (by omega) (by rcases hk with rfl | rfl | rfl <;> simp [hasB]) hj
theorem shl_eq (k m x s w : Int) (hk : k = 0 ∨ k = 1 ∨ k = 2) : shL (11 + k) m x s = shiftI (10 + k) w x s m := by
  rcases hk with rfl | rfl | rfl <;> simp [shL, shiftI]
theorem nsh32 (k : Int) (hk : k = 0 ∨ k = 1 ∨ k = 2) {a : Nat → Int} (ha : Byt a) {n : Int} (hn : 0 ≤ n ∧ n < 4294967296) {j : Nat} (hj : thereB 32 j = true) (w : World) :
    Calls Try.prog 26 #[.int .i64 (116 + k), .int .u64 (getI a 32 j), .int .u64 n] w fun e w' => e = .returned (.tuple #[.int .u64 (getI (S 32 k a n) 32 j), .int .i64 0]) ∧ Gr w w' := by
  have hx := lane32 ha j
  have h := bin_w32 (116 + k) (getI a 32 j) n (by omega) (by omega) (by rw [sh_id hn]; exact hn.1) (by
    rw [sh_id hn, sS_eq hn]; unfold sg; rw [show (2 : Int) ^ ((32 : Int).toNat - 1) = 2147483648 from rfl, show (2 : Int) ^ (32 : Int).toNat = 4294967296 from rfl]; intro h; split <;> omega) w
  rw [sh_id hx, sh_id hn, show 116 + k - 106 = 10 + k by omega, sS_eq hx] at h
  have e : workI (10 + k) 32 (getI a 32 j) (sg 32 (getI a 32 j)) n (sS n) = shiftI (10 + k) 32 (getI a 32 j) (sg 32 (getI a 32 j)) (n % 32) := by
    unfold workI
    rw [if_neg (by omega), if_neg (by omega), if_neg (by omega), if_neg (by omega), if_neg (by omega), if_neg (by omega), if_neg (by omega)]
  have e2 : workE (10 + k) 32 (sg 32 (getI a 32 j)) n (sS n) = 0 := by unfold workE; rw [if_neg (by omega)]
  rw [e, e2] at h
  rw [get_S (by omega) hk a n hj, sgn_of hj, shl_eq k _ _ _ 32 hk]
  exact h
theorem nsh64 (k : Int) (hk : k = 0 ∨ k = 1 ∨ k = 2) {a : Nat → Int} (ha : Byt a) {n : Int} (hn : 0 ≤ n ∧ n < 4294967296) {j : Nat} (hj : thereB 64 j = true) (w : World) :
    Calls Try.prog 26 #[.int .i64 (134 + k), .int .u64 (getI a 64 j), .int .u64 n] w fun e w' => e = .returned (.tuple #[.int .u64 (getI (S 64 k a n) 64 j), .int .i64 0]) ∧ Gr w w' := by
  have hx := lane64 ha j
  have hn' : 0 ≤ n ∧ n < 18446744073709551616 := by omega
  have h := bin_w64 (134 + k) (getI a 64 j) n (by omega) (by omega) hn.1 (by
    rw [sL_eq hn']; unfold sg; rw [show (2 : Int) ^ ((64 : Int).toNat - 1) = 9223372036854775808 from rfl, show (2 : Int) ^ (64 : Int).toNat = 18446744073709551616 from rfl]; intro h; split <;> omega) w
  rw [show 134 + k - 124 = 10 + k by omega, sL_eq hx] at h
  have e : workI (10 + k) 64 (getI a 64 j) (sg 64 (getI a 64 j)) n (sL n) = shiftI (10 + k) 64 (getI a 64 j) (sg 64 (getI a 64 j)) (n % 64) := by
    unfold workI
    rw [if_neg (by omega), if_neg (by omega), if_neg (by omega), if_neg (by omega), if_neg (by omega), if_neg (by omega), if_neg (by omega)]
  have e2 : workE (10 + k) 64 (sg 64 (getI a 64 j)) n (sL n) = 0 := by unfold workE; rw [if_neg (by omega)]
  rw [e, e2] at h
  rw [get_S (by omega) hk a n hj, sgn_of hj, shl_eq k _ _ _ 64 hk]
  have e3 : shiftI (10 + k) 64 (getI a 64 j) (sg 64 (getI a 64 j)) (n % 64) % 256 ^ wid 64 = shiftI (10 + k) 64 (getI a 64 j) (sg 64 (getI a 64 j)) (n % 64) := by
    rw [show (256 : Int) ^ wid 64 = 18446744073709551616 from rfl]
    rcases hk with rfl | rfl | rfl
    · simp only [shiftI, Int.add_zero, if_true, wrap_u]; omega
    · rw [show shiftI (10 + 1) 64 (getI a 64 j) (sg 64 (getI a 64 j)) (n % 64) = IntKind.u64.wrap (sg 64 (getI a 64 j) / 2 ^ (n % 64).toNat) by simp [shiftI], wrap_u]; omega
    · rw [show shiftI (10 + 2) 64 (getI a 64 j) (sg 64 (getI a 64 j)) (n % 64) = getI a 64 j / 2 ^ (n % 64).toNat by simp [shiftI]]
      have h1 : 0 ≤ getI a 64 j / 2 ^ (n % 64).toNat := Int.ediv_nonneg hx.1 (Int.le_of_lt (Int.pow_pos (by decide)))
      have h2 : getI a 64 j / 2 ^ (n % 64).toNat ≤ getI a 64 j := Int.ediv_le_self _ hx.1
      exact Int.emod_eq_of_lt h1 (by omega)
  rw [e3]
  exact h
end Ar
end Go.Proofs.Ytalnkkmbjaollaa
