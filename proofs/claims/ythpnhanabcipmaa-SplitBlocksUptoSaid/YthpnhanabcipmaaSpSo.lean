/-
  Of layer 21: a given list of functions' types. No condition.
-/
import Derived.Test.YthpnhanabcipmaaSpOpd
import Derived.Test.YthpnhanabcipmaaSpEq
namespace Go.Proofs.Ythpnhanabcipmaa
open Go.RowKit VecM Go.ChangeShapes Go.WideShapes
namespace Sp
/-- a function's type as it lies: two slices, and what they hold -/
structure Sd where
  x : Option Addr
  n : Nat
  c : Nat
  z : Nat → Int
  x' : Option Addr
  n' : Nat
  c' : Nat
  z' : Nat → Int
def Sd.i (s : Sd) : Value := .slice s.x s.n s.c
def Sd.o (s : Sd) : Value := .slice s.x' s.n' s.c'
/-- both read as they are told, and are not too long -/
structure Sd.Ok (W : World) (s : Sd) : Prop where
  i : I64s W s.i s.n s.z
  o : I64s W s.o s.n' s.z'
  li : s.n ≤ 1048576
  lo : s.n' ≤ 1048576
def sdNo : Sd := ⟨none, 0, 0, fun _ => 0, none, 0, 0, fun _ => 0⟩
theorem sdNo_ok (W : World) : sdNo.Ok W := ⟨.inl ⟨rfl, _, _, rfl⟩, .inl ⟨rfl, _, _, rfl⟩, by decide, by decide⟩
/-- a slice of functions' types that reads as S -/
def Sgs (w : World) (v : Value) (N : Nat) (S : Nat → Sd) : Prop :=
  (N = 0 ∧ ∃ x c, v = .slice x 0 c) ∨ (N ≤ 9223372036854775807 ∧ ∃ b off cap, v = .slice (some ⟨b, off, none⟩) N cap ∧ ∀ j, j < N → w.cell? ⟨b, off + j * 2, none⟩ = some (S j).i ∧ w.cell? ⟨b, off + j * 2 + 1, none⟩ = some (S j).o)
theorem sgs_gr {w w' : World} {v : Value} {N : Nat} {S : Nat → Sd} (h : Sgs w v N S) (hg : Gr w w') : Sgs w' v N S := by
  rcases h with h | ⟨hl, b, off, cap, rfl, hc⟩
  · exact .inl h
  · exact .inr ⟨hl, b, off, cap, rfl, fun j hj => ⟨gr_cell hg (hc j hj).1, gr_cell hg (hc j hj).2⟩⟩
theorem slice_sgs {w : World} {v : Value} {N : Nat} {S : Nat → Sd} (h : Sgs w v N S) : ∃ x c, v = .slice x N c := by
  rcases h with ⟨rfl, x, c, rfl⟩ | ⟨_, b, off, cap, rfl, _⟩
  · exact ⟨_, _, rfl⟩
  · exact ⟨_, _, rfl⟩
theorem Sd.Ok.gr {W W' : World} {s : Sd} (h : s.Ok W) (hg : Gr W W') : s.Ok W' := ⟨i64s_gr h.i hg, i64s_gr h.o hg, h.li, h.lo⟩
theorem cellsSg : Try.prog.cellsOf 25 = 2 := by kernel_rfl
end Sp
end Go.Proofs.Ythpnhanabcipmaa
