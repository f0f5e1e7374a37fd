/-
  Of MoveSigns: the facts of its tests. For all vectors the law returns true. Condition: bytes.
-/
import Derived.Test.YtaahkpjdffgagaaMvAw
import Derived.Test.YtaahkpjdffgagaaSlP
import Derived.IntWalk
namespace Go.Proofs.Ytaahkpjdffgagaa
open Go.RowKit VecM
namespace Mv
structure SigF (w : Nat) (g x : Int) (s : Int) : Prop where
  f1 : g.fdiv (2 ^ (min (w : Int).toNat IntKind.u64.bits)) = 0
  f2 : IntKind.i32.wrap s = x
  f3 : IntKind.i64.wrap x = x
  f4 : s.fdiv (2 ^ (min (32 : Int).toNat IntKind.u64.bits)) = 0
  f5 : g.fdiv (2 ^ (min ((w : Int) - 1).toNat IntKind.u64.bits)) = 0 ∧ s = g ∨ g.fdiv (2 ^ (min ((w : Int) - 1).toNat IntKind.u64.bits)) = 1 ∧ s = g + 4294967296 - 2 ^ w
  f6 : 0 ≤ g ∧ g < 2 ^ w
theorem sigF_8 {b : Nat → Int} (hb : Byt b) (i : Nat) (hi : i < 16) : SigF 8 (getI b 8 i) (sgnI b 8 i) (IntKind.u32.wrap (sgnI b 8 i)) := by
  have ht : thereB 8 i = true := there_iff.2 ⟨by omega, by unfold lanesI; simp; omega⟩
  have hg := getI_bd hb 8 i
  rw [wid8] at hg
  have hx : sgnI b 8 i = if 2 ^ 7 ≤ getI b 8 i then getI b 8 i - 2 ^ 8 else getI b 8 i := by unfold sgnI; rw [if_pos ht]; rfl
  rw [hx]
  generalize getI b 8 i = g at *
  have e1 : (2 : Int) ^ (min ((8 : Nat) : Int).toNat IntKind.u64.bits) = 256 := by decide
  have e2 : (2 : Int) ^ (min (((8 : Nat) : Int) - 1).toNat IntKind.u64.bits) = 128 := by decide
  have e3 : (2 : Int) ^ (min (32 : Int).toNat IntKind.u64.bits) = 4294967296 := by decide
  have hl : 0 ≤ g ∧ g < 256 := by simpa using hg
  by_cases h : (2 : Int) ^ 7 ≤ g
  · rw [if_pos h]
    have h' : (128 : Int) ≤ g := by simpa using h
    have hs : IntKind.u32.wrap (g - 2 ^ 8) = g + 4294967296 - 256 := by rw [IntKind.wrap_u32]; omega
    rw [hs]
    refine ⟨?_, ?_, ?_, ?_, .inr ⟨?_, rfl⟩, ⟨hl.1, by simpa using hl.2⟩⟩
    · rw [e1, Int.fdiv_eq_ediv_of_nonneg _ (by decide)]; omega
    · rw [IntKind.wrap_i32]; omega
    · exact IntWalk.i64_in _ (by omega)
    · rw [e3, Int.fdiv_eq_ediv_of_nonneg _ (by decide)]; omega
    · rw [e2, Int.fdiv_eq_ediv_of_nonneg _ (by decide)]; omega
  · rw [if_neg h]
    have h' : g < 128 := by simpa using h
    have hs : IntKind.u32.wrap g = g := by rw [IntKind.wrap_u32]; omega
    rw [hs]
    refine ⟨?_, ?_, ?_, ?_, .inl ⟨?_, rfl⟩, ⟨hl.1, by simpa using hl.2⟩⟩
    · rw [e1, Int.fdiv_eq_ediv_of_nonneg _ (by decide)]; omega
    · rw [IntKind.wrap_i32]; omega
    · exact IntWalk.i64_in _ (by omega)
    · rw [e3, Int.fdiv_eq_ediv_of_nonneg _ (by decide)]; omega
    · rw [e2, Int.fdiv_eq_ediv_of_nonneg _ (by decide)]; omega
theorem sigF_16 {b : Nat → Int} (hb : Byt b) (i : Nat) (hi : i < 8) : SigF 16 (getI b 16 i) (sgnI b 16 i) (IntKind.u32.wrap (sgnI b 16 i)) := by
  have ht : thereB 16 i = true := there_iff.2 ⟨by omega, by unfold lanesI; simp; omega⟩
  have hg := getI_bd hb 16 i
  rw [wid16] at hg
  have hx : sgnI b 16 i = if 2 ^ 15 ≤ getI b 16 i then getI b 16 i - 2 ^ 16 else getI b 16 i := by unfold sgnI; rw [if_pos ht]; rfl
  rw [hx]
  generalize getI b 16 i = g at *
  have e1 : (2 : Int) ^ (min ((16 : Nat) : Int).toNat IntKind.u64.bits) = 65536 := by decide
  have e2 : (2 : Int) ^ (min (((16 : Nat) : Int) - 1).toNat IntKind.u64.bits) = 32768 := by decide
  have e3 : (2 : Int) ^ (min (32 : Int).toNat IntKind.u64.bits) = 4294967296 := by decide
  have hl : 0 ≤ g ∧ g < 65536 := by simpa using hg
  by_cases h : (2 : Int) ^ 15 ≤ g
  · rw [if_pos h]
    have h' : (32768 : Int) ≤ g := by simpa using h
    have hs : IntKind.u32.wrap (g - 2 ^ 16) = g + 4294967296 - 65536 := by rw [IntKind.wrap_u32]; omega
    rw [hs]
    refine ⟨?_, ?_, ?_, ?_, .inr ⟨?_, rfl⟩, ⟨hl.1, by simpa using hl.2⟩⟩
    · rw [e1, Int.fdiv_eq_ediv_of_nonneg _ (by decide)]; omega
    · rw [IntKind.wrap_i32]; omega
    · exact IntWalk.i64_in _ (by omega)
    · rw [e3, Int.fdiv_eq_ediv_of_nonneg _ (by decide)]; omega
    · rw [e2, Int.fdiv_eq_ediv_of_nonneg _ (by decide)]; omega
  · rw [if_neg h]
    have h' : g < 32768 := by simpa using h
    have hs : IntKind.u32.wrap g = g := by rw [IntKind.wrap_u32]; omega
    rw [hs]
    refine ⟨?_, ?_, ?_, ?_, .inl ⟨?_, rfl⟩, ⟨hl.1, by simpa using hl.2⟩⟩
    · rw [e1, Int.fdiv_eq_ediv_of_nonneg _ (by decide)]; omega
    · rw [IntKind.wrap_i32]; omega
    · exact IntWalk.i64_in _ (by omega)
    · rw [e3, Int.fdiv_eq_ediv_of_nonneg _ (by decide)]; omega
    · rw [e2, Int.fdiv_eq_ediv_of_nonneg _ (by decide)]; omega
end Mv
end Go.Proofs.Ytaahkpjdffgagaa
