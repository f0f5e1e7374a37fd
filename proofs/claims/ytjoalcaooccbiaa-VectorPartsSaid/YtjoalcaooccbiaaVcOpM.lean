/-
 Of layer 9: the opcode that a law makes of a number. No condition. (gen_vcshp.py)
-/
import Derived.Test.YtjoalcaooccbiaaMh21
namespace Go.Proofs.Ytjoalcaooccbiaa
open Go.RowKit VecM Ev
namespace Vc
/-- the opcode that a law makes of a number -/
def opOf (z : Int) : Int := IntKind.i64.wrap (64768 + IntKind.i64.wrap ((IntKind.u64.wrap z).tmod 256))
theorem opOf_ex (z : Int) : ∃ k : Nat, k < 256 ∧ opOf z = 64768 + (k : Int) := by
 unfold opOf
 have h1 : 0 ≤ IntKind.u64.wrap z := by rw [IntKind.wrap_u64]; omega
 have e : (IntKind.u64.wrap z).tmod 256 = IntKind.u64.wrap z % 256 := Int.tmod_eq_emod_of_nonneg h1
 refine ⟨(IntKind.u64.wrap z % 256).toNat, by omega, ?_⟩
 have h2 : IntKind.i64.wrap (IntKind.u64.wrap z % 256) = IntKind.u64.wrap z % 256 := IntWalk.i64_in _ (by omega)
 rw [e, h2, IntWalk.i64_in _ (by omega)]
 omega
theorem dec_op {z op : Int} (h : opOf z = op) : decide (opOf z = op) = true := decide_eq_true h
theorem dec_lt {z op : Int} (h : opOf z = op) (h' : 64768 ≤ op) : decide (opOf z < 64768) = false := decide_eq_false (by omega)
theorem ok_all : ∀ k : Fin 256, okP (paOf k.val) (64768 + (k.val : Int)) 1 0 0 = true := by decide +kernel
end Vc
end Go.Proofs.Ytjoalcaooccbiaa
