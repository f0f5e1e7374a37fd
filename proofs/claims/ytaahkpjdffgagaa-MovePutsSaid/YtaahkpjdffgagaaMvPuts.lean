/-
  MovePuts: for all vectors, lanes and numbers the law returns true. Conditions: bytes, 64 bits.
-/
import Derived.Test.YtaahkpjdffgagaaMvPuA
import Derived.Test.YtaahkpjdffgagaaMvPuB
import Derived.Test.YtaahkpjdffgagaaMvPuC
import Derived.Test.YtaahkpjdffgagaaMvPuD
namespace Go.Proofs.Ytaahkpjdffgagaa
open Go.RowKit VecM Ev
namespace Mv
theorem puts_walk (v : Nat → Int) (hv : Byt v) (lane : Int) (x : Int) (hx : 0 ≤ x ∧ x < 18446744073709551616) (w : World) : Calls Try.prog 7 #[.agg (bs v), .int .i64 lane, .int .u64 x] w fun e w' => e = .returned (.bool true) ∧ Gr w w' := by
  obtain ⟨l, hl, hr⟩ : ∃ l : Nat, l < 16 ∧ IntKind.u64.wrap lane % 16 = (l : Int) := ⟨(IntKind.u64.wrap lane % 16).toNat, by omega, by omega⟩
  have h : l = 0 ∨ l = 1 ∨ l = 2 ∨ l = 3 ∨ l = 4 ∨ l = 5 ∨ l = 6 ∨ l = 7 ∨ l = 8 ∨ l = 9 ∨ l = 10 ∨ l = 11 ∨ l = 12 ∨ l = 13 ∨ l = 14 ∨ l = 15 := by omega
  rcases h with rfl | rfl | rfl | rfl | rfl | rfl | rfl | rfl | rfl | rfl | rfl | rfl | rfl | rfl | rfl | rfl
  · exact pu_0 v hv lane x hx hr w
  · exact pu_1 v hv lane x hx hr w
  · exact pu_2 v hv lane x hx hr w
  · exact pu_3 v hv lane x hx hr w
  · exact pu_4 v hv lane x hx hr w
  · exact pu_5 v hv lane x hx hr w
  · exact pu_6 v hv lane x hx hr w
  · exact pu_7 v hv lane x hx hr w
  · exact pu_8 v hv lane x hx hr w
  · exact pu_9 v hv lane x hx hr w
  · exact pu_10 v hv lane x hx hr w
  · exact pu_11 v hv lane x hx hr w
  · exact pu_12 v hv lane x hx hr w
  · exact pu_13 v hv lane x hx hr w
  · exact pu_14 v hv lane x hx hr w
  · exact pu_15 v hv lane x hx hr w
end Mv
end Go.Proofs.Ytaahkpjdffgagaa
