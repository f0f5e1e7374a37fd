/-
  CompareMasks: for all vectors the law returns true. Condition: bytes.
-/
import Derived.Test.YtdclbagfnabmkaaCpSum
namespace Go.Proofs.Ytdclbagfnabmkaa
open Go.RowKit VecM Ev
namespace Cp
def ltO (k : Nat) : Int := [64805, 64815, 64825, 64984].getD k 0
def eqO (k : Nat) : Int := [64803, 64813, 64823, 64982].getD k 0
def wO (k : Nat) : Int := [8, 16, 32, 64].getD k 0
def lO (k : Nat) : Nat := [16, 8, 4, 2].getD k 0
def mkK (v : Nat → Int) : List (Nat → Int) := v :: (fun _ => 0) :: (List.range 4).flatMap fun (k : Nat) => [cpV (ltO k) v (fun _ => 0), cpV (eqO k) v (fun _ => 0)]
noncomputable def mkPath (v : Nat → Int) (β : Nat → Fr) : Out := evPath (envC (mkK v)) (envC (mkK sZ)) 80 9 [.agg (bs v)] [.agg (bs sZ)] (.bool true) β
def mkD (v : Nat → Int) : List (Bool × Bool) :=
  [((tsV 64851 v == 1) != !(eq16 v fun _ => 0), false), (decide (tsV 64851 v > 1), false)] ++
  (List.range 4).flatMap fun (k : Nat) =>
    [(tsV (64868 + 32 * (k : Int)) v != tsV (64868 + 32 * (k : Int)) (cpV (ltO k) v fun _ => 0), false), ((tsV (64868 + 32 * (k : Int)) v).fdiv (2 ^ lO k) != 0, false),
     ((tsV (64867 + 32 * (k : Int)) v == 1) != (tsV (64868 + 32 * (k : Int)) (cpV (eqO k) v fun _ => 0) == 0), false), (decide (tsV (64867 + 32 * (k : Int)) v > 1), false)] ++
    (List.range (lO k)).map fun (i : Nat) => (((Int.tmod ((tsV (64868 + 32 * (k : Int)) v).fdiv (2 ^ i)) 2) == 1) != decide (sgnI v (wO k) i < 0), false)
--EVTS mkTs | fun (v : Nat → Int) (β : Nat → Fr) => (mkPath v β, mkD v)
def mkTs : List Nat := [0, 0, 48, 0, 47, 0, 46, 45, 45, 45, 44, 44, 44, 44, 44, 44, 43, 43, 43, 43, 43, 0, 0, 0, 0, 0, 0, 0, 0, 0, 0, 0, 0, 0, 0, 0, 0, 0, 0, 0, 0, 0, 0, 0, 0, 0, 0, 0, 42, 0, 41, 0, 40, 0, 39, 0, 38, 37, 37, 37, 36, 36, 36, 36, 36, 36, 35, 35, 35, 35, 35, 0, 0, 0, 0, 0, 0, 0, 0, 0, 0, 0, 0, 0, 0, 0, 0, 0, 0, 0, 0, 0, 0, 0, 0, 0, 0, 0, 34, 0, 33, 0, 32, 0, 31, 0, 30, 0, 29, 0, 28, 0, 27, 0, 26, 25, 25, 25, 24, 24, 24, 24, 24, 24, 23, 23, 23, 23, 23, 0, 0, 0, 0, 0, 0, 0, 0, 0, 0, 0, 0, 0, 0, 0, 0, 0, 0, 0, 0, 0, 0, 0, 0, 0, 0, 0, 22, 0, 21, 0, 20, 0, 19, 0, 18, 0, 17, 0, 16, 0, 15, 0, 14, 0, 13, 0, 12, 0, 11, 0, 10, 0, 9, 0, 8, 0, 7, 0, 6, 5, 5, 5, 4, 4, 4, 4, 4, 4, 3, 3, 3, 3, 3, 0, 0, 0, 0, 0, 0, 0, 0, 0, 0, 0, 0, 0, 0, 0, 0, 0, 0, 0, 0, 0, 0, 0, 0, 0, 0, 2, 1, 1, 1, 0, 0, 0, 0, 0, 0, 0, 0, 0, 0]
theorem eq16_vecB (x y : Nat → Int) : eq16 x y = vecB x y := by kernel_rfl
theorem w_cases (k : Nat) (hk : k < 4) : (wO k = 8 ∨ wO k = 16 ∨ wO k = 32 ∨ wO k = 64) ∧ lanesI (wO k) = lO k ∧ lO k ≤ 16 := by
  match k, hk with
  | 0, _ => decide
  | 1, _ => decide
  | 2, _ => decide
  | 3, _ => decide
theorem ts_any (b : Nat → Int) : tsV 64851 b = t32 (!vecB b fun _ => 0) := by kernel_rfl
theorem ts_all0 (b : Nat → Int) : tsV (64867 + 32 * ((0 : Nat) : Int)) b = t32 (fullB b (wO 0) (lO 0)) := by kernel_rfl
theorem ts_all1 (b : Nat → Int) : tsV (64867 + 32 * ((1 : Nat) : Int)) b = t32 (fullB b (wO 1) (lO 1)) := by kernel_rfl
theorem ts_all2 (b : Nat → Int) : tsV (64867 + 32 * ((2 : Nat) : Int)) b = t32 (fullB b (wO 2) (lO 2)) := by kernel_rfl
theorem ts_all3 (b : Nat → Int) : tsV (64867 + 32 * ((3 : Nat) : Int)) b = t32 (fullB b (wO 3) (lO 3)) := by kernel_rfl
theorem ts_all (k : Nat) (hk : k < 4) (b : Nat → Int) : tsV (64867 + 32 * (k : Int)) b = t32 (fullB b (wO k) (lO k)) := by
  have h : k = 0 ∨ k = 1 ∨ k = 2 ∨ k = 3 := by omega
  rcases h with rfl | rfl | rfl | rfl
  · exact ts_all0 b
  · exact ts_all1 b
  · exact ts_all2 b
  · exact ts_all3 b
theorem ts_msk0 (b : Nat → Int) : tsV (64868 + 32 * ((0 : Nat) : Int)) b = sgI b (wO 0) (lO 0) := by kernel_rfl
theorem ts_msk1 (b : Nat → Int) : tsV (64868 + 32 * ((1 : Nat) : Int)) b = sgI b (wO 1) (lO 1) := by kernel_rfl
theorem ts_msk2 (b : Nat → Int) : tsV (64868 + 32 * ((2 : Nat) : Int)) b = sgI b (wO 2) (lO 2) := by kernel_rfl
theorem ts_msk3 (b : Nat → Int) : tsV (64868 + 32 * ((3 : Nat) : Int)) b = sgI b (wO 3) (lO 3) := by kernel_rfl
theorem ts_msk (k : Nat) (hk : k < 4) (b : Nat → Int) : tsV (64868 + 32 * (k : Int)) b = sgI b (wO k) (lO k) := by
  have h : k = 0 ∨ k = 1 ∨ k = 2 ∨ k = 3 := by omega
  rcases h with rfl | rfl | rfl | rfl
  · exact ts_msk0 b
  · exact ts_msk1 b
  · exact ts_msk2 b
  · exact ts_msk3 b
theorem cp_lt (k : Nat) (hk : k < 4) (b c : Nat → Int) : cpV (ltO k) b c = C (wO k) 2 b c := by
  match k, hk with
  | 0, _ => exact cpV_C rfl rfl _ _
  | 1, _ => exact cpV_C rfl rfl _ _
  | 2, _ => exact cpV_C rfl rfl _ _
  | 3, _ => exact cpV_C rfl rfl _ _
theorem cp_eq (k : Nat) (hk : k < 4) (b c : Nat → Int) : cpV (eqO k) b c = C (wO k) 0 b c := by
  match k, hk with
  | 0, _ => exact cpV_C rfl rfl _ _
  | 1, _ => exact cpV_C rfl rfl _ _
  | 2, _ => exact cpV_C rfl rfl _ _
  | 3, _ => exact cpV_C rfl rfl _ _
theorem t32_one (b : Bool) : (t32 b == 1) = b := by cases b <;> rfl
theorem t32_gt (b : Bool) : decide (t32 b > 1) = false := by cases b <;> rfl
theorem mkD_ok (v : Nat → Int) : ∀ p ∈ mkD v, p.1 = p.2 := by
  intro p hp
  unfold mkD at hp
  simp only [List.mem_append, List.mem_flatMap, List.mem_map, List.mem_range, List.mem_cons, List.not_mem_nil, or_false] at hp
  rcases hp with (rfl | rfl) | ⟨k, hk, (rfl | rfl | rfl | rfl) | ⟨i, hi, rfl⟩⟩
  · simp only [ts_any, t32_one, eq16_vecB, bne_self_eq_false]
  · simp only [ts_any, t32_gt]
  all_goals
    obtain ⟨hw, hl, h16⟩ := w_cases k hk
    obtain ⟨m1, m2, m3, m4, m5⟩ := mskF hw hl v
  · simp only [ts_msk k hk, cp_lt k hk, m1, bne_self_eq_false]
  · simp only [ts_msk k hk]
    rw [Int.fdiv_eq_ediv_of_nonneg _ (Int.le_of_lt (Int.pow_pos (by decide))), Int.ediv_eq_zero_of_lt m2.1 m2.2]
    rfl
  · simp only [ts_msk k hk, ts_all k hk, cp_eq k hk, t32_one]
    cases hf : fullB v (wO k) (lO k) with
    | true => rw [m3 hf]; rfl
    | false => rw [m4 hf]; rfl
  · simp only [ts_all k hk, t32_gt]
  · simp only [ts_msk k hk]
    have h0 : 0 ≤ sgI v (wO k) (lO k) / 2 ^ i := Int.ediv_nonneg m2.1 (Int.le_of_lt (Int.pow_pos (by decide)))
    rw [Int.fdiv_eq_ediv_of_nonneg _ (Int.le_of_lt (Int.pow_pos (by decide))), Int.tmod_eq_emod_of_nonneg h0, m5 i hi, t32_one]
    exact bne_self_eq_false _
theorem mkK_byt (v : Nat → Int) (hv : Byt v) : ∀ x ∈ mkK v, Byt x := by
  intro x hx
  unfold mkK at hx
  simp only [List.mem_cons, List.mem_flatMap, List.mem_range, List.not_mem_nil, or_false] at hx
  rcases hx with rfl | rfl | ⟨k, _, rfl | rfl⟩
  · exact hv
  · exact byt0
  · exact msk_byt _ _ _
  · exact msk_byt _ _ _
theorem masks_walk (v : Nat → Int) (hv : Byt v) (w : World) : Calls Try.prog 9 #[.agg (bs v)] w fun e w' => e = .returned (.bool true) ∧ Gr w w' :=
  ev_path (E := envC (mkK v)) (E' := envC (mkK sZ)) rfl (sumC_ok _ (mkK_byt v hv)) (fuel := 80) (args' := [.agg (bs sZ)]) (mkD v) mkTs (mkD_ok v) (fun β => by kernel_rfl) w
end Cp
end Go.Proofs.Ytdclbagfnabmkaa
