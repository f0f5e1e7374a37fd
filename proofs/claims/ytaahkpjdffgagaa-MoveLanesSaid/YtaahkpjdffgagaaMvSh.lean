/-
  Of layer 7: shapes.Splat, Extract and Replace for all opcodes.
-/
import Derived.Test.YtaahkpjdffgagaaVec
namespace Go.Proofs.Ytaahkpjdffgagaa
open Go.RowKit VecM
namespace Mv
def spW (op : Int) : Int := if op = 64783 then 8 else if op = 64784 then 16 else if op = 64785 then 32 else if op = 64786 then 64 else 0
def exW (op : Int) : Int := if op = 64789 then 8 else if op = 64790 then 8 else if op = 64792 then 16 else if op = 64793 then 16 else if op = 64795 then 32 else if op = 64797 then 64 else 0
def exS (op : Int) : Bool := decide (op = 64789) || decide (op = 64792)
def reW (op : Int) : Int := if op = 64791 then 8 else if op = 64794 then 16 else if op = 64796 then 32 else if op = 64798 then 64 else 0
theorem spW_cases (op : Int) : spW op = 0 ∨ spW op = 8 ∨ spW op = 16 ∨ spW op = 32 ∨ spW op = 64 := by
  unfold spW; repeat' split
  all_goals omega
theorem exW_cases (op : Int) : exW op = 0 ∨ exW op = 8 ∨ exW op = 16 ∨ exW op = 32 ∨ exW op = 64 := by
  unfold exW; repeat' split
  all_goals omega
theorem reW_cases (op : Int) : reW op = 0 ∨ reW op = 8 ∨ reW op = 16 ∨ reW op = 32 ∨ reW op = 64 := by
  unfold reW; repeat' split
  all_goals omega
theorem splatW_any (op : Int) (ho : -9223372036854775808 ≤ op ∧ op ≤ 9223372036854775807) (w : World) : Calls Try.prog 25 #[.int .i64 op] w fun e w' => e = .returned (.int .i64 (spW op)) ∧ w = w' := by
  by_cases h : op = 64783 ∨ op = 64784 ∨ op = 64785 ∨ op = 64786
  · clear ho
    rcases h with rfl | rfl | rfl | rfl
    all_goals
      go_enter Try.func25, Try.ntmps25
      go_wp2
      go_ret
      exact ⟨rfl, rfl⟩
  · have e : spW op = 0 := by unfold spW; rw [if_neg (by omega), if_neg (by omega), if_neg (by omega), if_neg (by omega)]
    rw [e]
    have h' : op < 64783 ∨ 64786 < op := by omega
    clear h e
    rcases h' with h | h
    all_goals
      go_enter Try.func25, Try.ntmps25
      go_wp2
      go_ret
      exact ⟨rfl, rfl⟩
theorem exW_any (op : Int) (w : World) : Calls Try.prog 30 #[.int .i64 op] w fun e w' => e = .returned (.tuple #[.int .i64 (exW op), .bool (exS op)]) ∧ w = w' := by
  by_cases h : op = 64789 ∨ op = 64790 ∨ op = 64792 ∨ op = 64793 ∨ op = 64795 ∨ op = 64797
  · rcases h with rfl | rfl | rfl | rfl | rfl | rfl
    all_goals
      go_enter Try.func30, Try.ntmps30
      go_wp2
      go_ret2
      exact ⟨rfl, rfl⟩
  · have e : exW op = 0 := by unfold exW; rw [if_neg (by omega)]; rw [if_neg (by omega)]; rw [if_neg (by omega)]; rw [if_neg (by omega)]; rw [if_neg (by omega)]; rw [if_neg (by omega)]
    have e2 : exS op = false := by unfold exS; rw [decide_eq_false (by omega), decide_eq_false (by omega)]; rfl
    rw [e, e2]
    clear e e2
    have h0 : (op == 64789) = false := beq_eq_false_iff_ne.2 (by omega)
    have h1 : (op == 64790) = false := beq_eq_false_iff_ne.2 (by omega)
    have h2 : (op == 64792) = false := beq_eq_false_iff_ne.2 (by omega)
    have h3 : (op == 64793) = false := beq_eq_false_iff_ne.2 (by omega)
    have h4 : (op == 64795) = false := beq_eq_false_iff_ne.2 (by omega)
    have h5 : (op == 64797) = false := beq_eq_false_iff_ne.2 (by omega)
    clear h
    go_enter Try.func30, Try.ntmps30
    go_wp2
    go_ret2
    exact ⟨rfl, rfl⟩
theorem reW_any (op : Int) (w : World) : Calls Try.prog 33 #[.int .i64 op] w fun e w' => e = .returned (.int .i64 (reW op)) ∧ w = w' := by
  by_cases h : op = 64791 ∨ op = 64794 ∨ op = 64796 ∨ op = 64798
  · rcases h with rfl | rfl | rfl | rfl
    all_goals
      go_enter Try.func33, Try.ntmps33
      go_wp2
      go_ret
      exact ⟨rfl, rfl⟩
  · have e : reW op = 0 := by unfold reW; rw [if_neg (by omega)]; rw [if_neg (by omega)]; rw [if_neg (by omega)]; rw [if_neg (by omega)]
    rw [e]
    clear e
    have h0 : (op == 64791) = false := beq_eq_false_iff_ne.2 (by omega)
    have h1 : (op == 64794) = false := beq_eq_false_iff_ne.2 (by omega)
    have h2 : (op == 64796) = false := beq_eq_false_iff_ne.2 (by omega)
    have h3 : (op == 64798) = false := beq_eq_false_iff_ne.2 (by omega)
    clear h
    go_enter Try.func33, Try.ntmps33
    go_wp2
    go_ret
    exact ⟨rfl, rfl⟩
end Mv
end Go.Proofs.Ytaahkpjdffgagaa
