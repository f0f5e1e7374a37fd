/-
  Of layer 7: shapes.Splat, Extract and Replace for all opcodes.
-/
import Derived.Test.YtmgkejpjljkfdaaVec
namespace Go.Proofs.Ytmgkejpjljkfdaa
open Go.RowKit VecM
namespace Mv
def spW (op : Int) : Int := if op = 64783 then 8 else if op = 64784 then 16 else if op = 64785 then 32 else if op = 64786 then 64 else 0
def exW (op : Int) : Int := if op = 64789 then 8 else if op = 64790 then 8 else if op = 64792 then 16 else if op = 64793 then 16 else if op = 64795 then 32 else if op = 64797 then 64 else 0
def exS (op : Int) : Bool := decide (op = 64789) || decide (op = 64792)
def reW (op : Int) : Int := if op = 64791 then 8 else if op = 64794 then 16 else if op = 64796 then 32 else if op = 64798 then 64 else 0
theorem spW_cases (op : Int) : spW op = 0 ∨ spW op = 8 ∨ spW op = 16 ∨ spW op = 32 ∨ spW op = 64 := by
  unfold spW; repeat' split
  all_goals omega
theorem exW_cases (op : Int) : exW op = 0 ∨ exW op = 8 ∨ exW op = 16 ∨ exW op = 32 ∨ exW op = 64 := by
  unfold exW; repeat' split
  all_goals omega
theorem reW_cases (op : Int) : reW op = 0 ∨ reW op = 8 ∨ reW op = 16 ∨ reW op = 32 ∨ reW op = 64 := by
  unfold reW; repeat' split
  all_goals omega
theorem splatW_any (op : Int) (ho : -9223372036854775808 ≤ op ∧ op ≤ 9223372036854775807) (w : World) : Calls Try.prog 48 #[.int .i64 op] w fun e w' => e = .returned (.int .i64 (spW op)) ∧ w = w' := by
  by_cases h : op = 64783 ∨ op = 64784 ∨ op = 64785 ∨ op = 64786
  · clear ho
    rcases h with rfl | rfl | rfl | rfl
    all_goals
      go_enter Try.func48, Try.ntmps48
      go_wp2
      go_ret
      exact ⟨rfl, rfl⟩
  · have e : spW op = 0 := by unfold spW; rw [if_neg (by omega), if_neg (by omega), if_neg (by omega), if_neg (by omega)]
    rw [e]
    have h' : op < 64783 ∨ 64786 < op := by omega
    clear h e
    rcases h' with h | h
    all_goals
      go_enter Try.func48, Try.ntmps48
      go_wp2
      go_ret
      exact ⟨rfl, rfl⟩
end Mv
end Go.Proofs.Ytmgkejpjljkfdaa
