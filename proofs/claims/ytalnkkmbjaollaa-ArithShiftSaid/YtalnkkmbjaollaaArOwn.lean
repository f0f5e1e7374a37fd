/-
  Of layer 5's laws: base, the opcode of offset 0. Condition: a width.
-/
import Derived.Test.YtalnkkmbjaollaaArB
namespace Go.Proofs.Ytalnkkmbjaollaa
open Go.RowKit VecM
namespace Ar
def baI (v : Int) : Int := if v = 8 then 64864 else if v = 16 then 64896 else if v = 32 then 64928 else 64960
theorem ret_ba {a b : Int} (h : a = b) : Ending.returned (.int .i64 a) = .returned (.int .i64 b) := by rw [h]
theorem base_any (v : Int) (hv : v = 8 ∨ v = 16 ∨ v = 32 ∨ v = 64) (w : World) : Calls Try.prog 25 #[.int .i64 v] w fun e w' => e = .returned (.int .i64 (baI v)) ∧ w = w' := by
  have hc : 64864 ≤ baI v ∧ baI v ≤ 64960 := by rcases hv with rfl | rfl | rfl | rfl <;> decide
  have h3 : v = 8 ∧ baI v = 64864 ∨ v = 16 ∧ baI v = 64896 ∨ v = 32 ∧ baI v = 64928 ∨ v = 64 ∧ baI v = 64960 := by rcases hv with rfl | rfl | rfl | rfl <;> simp [baI]
  generalize baI v = c at *
  have HC := Lib.hid hc
  have H3 := Lib.hid h3
  clear hc h3 hv
  go_enter Try.func25, Try.ntmps25
  go_wp2
  go_loopw [0, 3] (fun x b wr => ∃ y d : Int, (y = 8 ∧ d = c ∨ y = 16 ∧ d = c - 32 ∨ y = 32 ∧ d = c - 64 ∨ y = 64 ∧ d = c - 96) ∧ 64864 ≤ d ∧ x = .int .i64 y ∧ b = .int .i64 d ∧ wr = w) (fun x _ _ => (intOf x).toNat)
  case atStart => exact ⟨v, 64864, by have := H3.out; omega, by omega, rfl, rfl, rfl⟩
  case round =>
    obtain ⟨y, d, h, hd, rfl, rfl, rfl⟩ := hrel
    have hcc := HC.out
    rcases h with ⟨rfl, h⟩ | ⟨rfl, h⟩ | ⟨rfl, h⟩ | ⟨rfl, h⟩
    · go_wp2
      go_ret
      exact ⟨ret_ba h, rfl⟩
    · have hd2 : d ≤ 64928 := by omega
      have H := Lib.hid h
      clear h
      go_wp2
      exact ⟨⟨8, d + 32, by have := H.out; omega, by omega, rfl, by go_num, trivial⟩, by simp [intOf]⟩
    · have hd2 : d ≤ 64928 := by omega
      have H := Lib.hid h
      clear h
      go_wp2
      exact ⟨⟨16, d + 32, by have := H.out; omega, by omega, rfl, by go_num, trivial⟩, by simp [intOf]⟩
    · have hd2 : d ≤ 64928 := by omega
      have H := Lib.hid h
      clear h
      go_wp2
      exact ⟨⟨32, d + 32, by have := H.out; omega, by omega, rfl, by go_num, trivial⟩, by simp [intOf]⟩
end Ar
end Go.Proofs.Ytalnkkmbjaollaa
