/-
  leb.read's two tests.
-/
import Derived.Test.YthdklnkaeddogaaLebM
namespace Go.Proofs.Ythdklnkaeddogaa
open Go.RowKit LebM
theorem ret_bool {x y : Bool} (h : x = y) : Ending.returned (.bool x) = .returned (.bool y) := by rw [h]
theorem fits_u (c left : Int) (hc : 0 ≤ c ∧ c < 128) (hl : 1 ≤ left ∧ left ≤ 64) (w : World) :
    Calls Try.prog 21 #[.int .u8 c, .int .i64 left] w fun e w' => e = .returned (.bool (fitU c left)) ∧ w = w' := by
  by_cases h : 7 ≤ left
  · rw [show fitU c left = true by unfold fitU; simp [h]]
    go_enter Try.func21, Try.ntmps21
    go_wp2
    go_ret
    exact ⟨rfl, rfl⟩
  · have h6 : left = 1 ∨ left = 2 ∨ left = 3 ∨ left = 4 ∨ left = 5 ∨ left = 6 := by omega
    rcases h6 with rfl | rfl | rfl | rfl | rfl | rfl
    all_goals
      clear h hl
      go_enter Try.func21, Try.ntmps21
      go_wp2
      go_ret
      refine ⟨ret_bool ?_, rfl⟩
      unfold fitU
      rw [Bool.eq_iff_iff]
      simp
      omega
theorem fits_s (c left : Int) (hc : 0 ≤ c ∧ c < 128) (hl : 1 ≤ left ∧ left ≤ 64) (w : World) :
    Calls Try.prog 23 #[.int .u8 c, .int .i64 left] w fun e w' => e = .returned (.bool (fitS c left)) ∧ w = w' := by
  by_cases h : 7 < left
  · rw [show fitS c left = true by unfold fitS; simp [h]]
    have h0 : (0 : Int) ≤ left - 1 := by omega
    go_enter Try.func23, Try.ntmps23
    go_wp2
    go_ret
    exact ⟨rfl, rfl⟩
  · have h6 : left = 1 ∨ left = 2 ∨ left = 3 ∨ left = 4 ∨ left = 5 ∨ left = 6 ∨ left = 7 := by omega
    rcases h6 with rfl | rfl | rfl | rfl | rfl | rfl | rfl
    all_goals
      clear h hl
      go_enter Try.func23, Try.ntmps23
      go_wp2
      all_goals go_ret
      all_goals
        refine ⟨ret_bool ?_, rfl⟩
        unfold fitS
        rw [Bool.eq_iff_iff]
        simp
        try omega
end Go.Proofs.Ythdklnkaeddogaa
