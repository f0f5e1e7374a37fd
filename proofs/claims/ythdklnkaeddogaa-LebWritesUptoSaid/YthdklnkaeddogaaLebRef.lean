/-
  The reference's bit and read: the same way as leb.read, bit by bit.
-/
import Derived.Test.YthdklnkaeddogaaLebCutM
namespace Go.Proofs.Ythdklnkaeddogaa
open Go.RowKit LebM
/-- bit i of the byte c -/
def bt (c : Int) (i : Nat) : Int := c / 2 ^ i % 2
theorem bit_any (c : Int) (hc : 0 ≤ c ∧ c < 256) (i : Nat) (hi : i ≤ 7) (w : World) :
    Calls Try.prog 25 #[.int .u8 c, .int .i64 i] w fun e w' => e = .returned (.int .i64 (bt c i)) ∧ w = w' := by
  have hi' : i = 0 ∨ i = 1 ∨ i = 2 ∨ i = 3 ∨ i = 4 ∨ i = 5 ∨ i = 6 ∨ i = 7 := by omega
  rcases hi' with rfl | rfl | rfl | rfl | rfl | rfl | rfl | rfl
  · have h1 : c.tmod 2 = bt c 0 := by rw [Int.tmod_eq_emod_of_nonneg (by omega)]; unfold bt; simp
    have h2 : wrap64 c = c := by unfold wrap64; omega
    have hb : 0 ≤ bt c 0 ∧ bt c 0 ≤ 1 := by rw [← h1, Int.tmod_eq_emod_of_nonneg (by omega)]; omega
    generalize bt c 0 = x at *
    clear hc hi
    go_enter Try.func25, Try.ntmps25
    go_wp2
    go_ret
    exact ⟨rfl, rfl⟩
  · have h1 : (c / 2).tmod 2 = bt c 1 := by rw [Int.tmod_eq_emod_of_nonneg (by omega)]; unfold bt; simp
    have h2 : IntKind.i64.wrap (c / 2) = c / 2 := by rw [IntKind.wrap_i64]; omega
    have hb : 0 ≤ bt c 1 ∧ bt c 1 ≤ 1 := by rw [← h1, Int.tmod_eq_emod_of_nonneg (by omega)]; omega
    generalize bt c 1 = x at *
    clear hc hi
    go_enter Try.func25, Try.ntmps25
    go_wp2
    go_ret
    exact ⟨rfl, rfl⟩
  · have h1 : (c / 4).tmod 2 = bt c 2 := by rw [Int.tmod_eq_emod_of_nonneg (by omega)]; unfold bt; simp
    have h2 : IntKind.i64.wrap (c / 4) = c / 4 := by rw [IntKind.wrap_i64]; omega
    have hb : 0 ≤ bt c 2 ∧ bt c 2 ≤ 1 := by rw [← h1, Int.tmod_eq_emod_of_nonneg (by omega)]; omega
    generalize bt c 2 = x at *
    clear hc hi
    go_enter Try.func25, Try.ntmps25
    go_wp2
    go_ret
    exact ⟨rfl, rfl⟩
  · have h1 : (c / 8).tmod 2 = bt c 3 := by rw [Int.tmod_eq_emod_of_nonneg (by omega)]; unfold bt; simp
    have h2 : IntKind.i64.wrap (c / 8) = c / 8 := by rw [IntKind.wrap_i64]; omega
    have hb : 0 ≤ bt c 3 ∧ bt c 3 ≤ 1 := by rw [← h1, Int.tmod_eq_emod_of_nonneg (by omega)]; omega
    generalize bt c 3 = x at *
    clear hc hi
    go_enter Try.func25, Try.ntmps25
    go_wp2
    go_ret
    exact ⟨rfl, rfl⟩
  · have h1 : (c / 16).tmod 2 = bt c 4 := by rw [Int.tmod_eq_emod_of_nonneg (by omega)]; unfold bt; simp
    have h2 : IntKind.i64.wrap (c / 16) = c / 16 := by rw [IntKind.wrap_i64]; omega
    have hb : 0 ≤ bt c 4 ∧ bt c 4 ≤ 1 := by rw [← h1, Int.tmod_eq_emod_of_nonneg (by omega)]; omega
    generalize bt c 4 = x at *
    clear hc hi
    go_enter Try.func25, Try.ntmps25
    go_wp2
    go_ret
    exact ⟨rfl, rfl⟩
  · have h1 : (c / 32).tmod 2 = bt c 5 := by rw [Int.tmod_eq_emod_of_nonneg (by omega)]; unfold bt; simp
    have h2 : IntKind.i64.wrap (c / 32) = c / 32 := by rw [IntKind.wrap_i64]; omega
    have hb : 0 ≤ bt c 5 ∧ bt c 5 ≤ 1 := by rw [← h1, Int.tmod_eq_emod_of_nonneg (by omega)]; omega
    generalize bt c 5 = x at *
    clear hc hi
    go_enter Try.func25, Try.ntmps25
    go_wp2
    go_ret
    exact ⟨rfl, rfl⟩
  · have h1 : (c / 64).tmod 2 = bt c 6 := by rw [Int.tmod_eq_emod_of_nonneg (by omega)]; unfold bt; simp
    have h2 : IntKind.i64.wrap (c / 64) = c / 64 := by rw [IntKind.wrap_i64]; omega
    have hb : 0 ≤ bt c 6 ∧ bt c 6 ≤ 1 := by rw [← h1, Int.tmod_eq_emod_of_nonneg (by omega)]; omega
    generalize bt c 6 = x at *
    clear hc hi
    go_enter Try.func25, Try.ntmps25
    go_wp2
    go_ret
    exact ⟨rfl, rfl⟩
  · have h1 : (c / 128).tmod 2 = bt c 7 := by rw [Int.tmod_eq_emod_of_nonneg (by omega)]; unfold bt; simp
    have h2 : IntKind.i64.wrap (c / 128) = c / 128 := by rw [IntKind.wrap_i64]; omega
    have hb : 0 ≤ bt c 7 ∧ bt c 7 ≤ 1 := by rw [← h1, Int.tmod_eq_emod_of_nonneg (by omega)]; omega
    generalize bt c 7 = x at *
    clear hc hi
    go_enter Try.func25, Try.ntmps25
    go_wp2
    go_ret
    exact ⟨rfl, rfl⟩

theorem bt_bd (c : Int) (i : Nat) : 0 ≤ bt c i ∧ bt c i ≤ 1 := by unfold bt; omega
theorem bt7 (c : Int) (hc : 0 ≤ c ∧ c < 256) : bt c 7 = if c < 128 then 0 else 1 := by
  unfold bt
  rw [show (2 : Int) ^ 7 = 128 from rfl]
  split <;> omega
/-- the bits from left on are as they must be -/
def okU (c : Int) (left : Int) (i : Nat) : Prop := ¬ (left ≤ (i : Int) ∧ bt c i = 1)
def okS (c : Int) (left : Int) (i : Nat) : Prop := ¬ (left ≤ (i : Int) ∧ bt c i ≠ bt c (left - 1).toNat)
instance decU (c left : Int) (i : Nat) : Decidable (okU c left i) := by unfold okU; infer_instance
instance decS (c left : Int) (i : Nat) : Decidable (okS c left i) := by unfold okS; infer_instance
theorem fitU_bits (c : Int) (hc : 0 ≤ c ∧ c < 256) (left : Int) (hl : 1 ≤ left) : fitB false (lowI c) left = true ↔ ∀ i, i < 7 → okU c left i := by
  show fitU (c % 128) left = true ↔ _
  by_cases h7 : 7 ≤ left
  · rw [fitU_of (.inl h7)]
    exact ⟨fun _ i hi h => by omega, fun _ => rfl⟩
  · obtain ⟨n, rfl⟩ := Int.eq_ofNat_of_zero_le hc.1
    have hn : n < 256 := by omega
    have hl' : left = 1 ∨ left = 2 ∨ left = 3 ∨ left = 4 ∨ left = 5 ∨ left = 6 := by omega
    rcases hl' with rfl | rfl | rfl | rfl | rfl | rfl
    · have : ∀ n : Fin 256, fitU (((n.val : Nat) : Int) % 128) 1 = (List.range 7).all fun i => decide (okU ((n.val : Nat) : Int) 1 i) := by decide +kernel
      rw [this ⟨n, hn⟩, List.all_eq_true]; simp only [List.mem_range, decide_eq_true_eq]
    · have : ∀ n : Fin 256, fitU (((n.val : Nat) : Int) % 128) 2 = (List.range 7).all fun i => decide (okU ((n.val : Nat) : Int) 2 i) := by decide +kernel
      rw [this ⟨n, hn⟩, List.all_eq_true]; simp only [List.mem_range, decide_eq_true_eq]
    · have : ∀ n : Fin 256, fitU (((n.val : Nat) : Int) % 128) 3 = (List.range 7).all fun i => decide (okU ((n.val : Nat) : Int) 3 i) := by decide +kernel
      rw [this ⟨n, hn⟩, List.all_eq_true]; simp only [List.mem_range, decide_eq_true_eq]
    · have : ∀ n : Fin 256, fitU (((n.val : Nat) : Int) % 128) 4 = (List.range 7).all fun i => decide (okU ((n.val : Nat) : Int) 4 i) := by decide +kernel
      rw [this ⟨n, hn⟩, List.all_eq_true]; simp only [List.mem_range, decide_eq_true_eq]
    · have : ∀ n : Fin 256, fitU (((n.val : Nat) : Int) % 128) 5 = (List.range 7).all fun i => decide (okU ((n.val : Nat) : Int) 5 i) := by decide +kernel
      rw [this ⟨n, hn⟩, List.all_eq_true]; simp only [List.mem_range, decide_eq_true_eq]
    · have : ∀ n : Fin 256, fitU (((n.val : Nat) : Int) % 128) 6 = (List.range 7).all fun i => decide (okU ((n.val : Nat) : Int) 6 i) := by decide +kernel
      rw [this ⟨n, hn⟩, List.all_eq_true]; simp only [List.mem_range, decide_eq_true_eq]
theorem fitS_bits (c : Int) (hc : 0 ≤ c ∧ c < 256) (left : Int) (hl : 1 ≤ left) : fitB true (lowI c) left = true ↔ ∀ i, i < 7 → okS c left i := by
  show fitS (c % 128) left = true ↔ _
  by_cases h7 : 7 < left
  · rw [show fitS (c % 128) left = true by unfold fitS; simp [h7]]
    exact ⟨fun _ i hi h => by omega, fun _ => rfl⟩
  · obtain ⟨n, rfl⟩ := Int.eq_ofNat_of_zero_le hc.1
    have hn : n < 256 := by omega
    have hl' : left = 1 ∨ left = 2 ∨ left = 3 ∨ left = 4 ∨ left = 5 ∨ left = 6 ∨ left = 7 := by omega
    rcases hl' with rfl | rfl | rfl | rfl | rfl | rfl | rfl
    · have : ∀ n : Fin 256, fitS (((n.val : Nat) : Int) % 128) 1 = (List.range 7).all fun i => decide (okS ((n.val : Nat) : Int) 1 i) := by decide +kernel
      rw [this ⟨n, hn⟩, List.all_eq_true]; simp only [List.mem_range, decide_eq_true_eq]
    · have : ∀ n : Fin 256, fitS (((n.val : Nat) : Int) % 128) 2 = (List.range 7).all fun i => decide (okS ((n.val : Nat) : Int) 2 i) := by decide +kernel
      rw [this ⟨n, hn⟩, List.all_eq_true]; simp only [List.mem_range, decide_eq_true_eq]
    · have : ∀ n : Fin 256, fitS (((n.val : Nat) : Int) % 128) 3 = (List.range 7).all fun i => decide (okS ((n.val : Nat) : Int) 3 i) := by decide +kernel
      rw [this ⟨n, hn⟩, List.all_eq_true]; simp only [List.mem_range, decide_eq_true_eq]
    · have : ∀ n : Fin 256, fitS (((n.val : Nat) : Int) % 128) 4 = (List.range 7).all fun i => decide (okS ((n.val : Nat) : Int) 4 i) := by decide +kernel
      rw [this ⟨n, hn⟩, List.all_eq_true]; simp only [List.mem_range, decide_eq_true_eq]
    · have : ∀ n : Fin 256, fitS (((n.val : Nat) : Int) % 128) 5 = (List.range 7).all fun i => decide (okS ((n.val : Nat) : Int) 5 i) := by decide +kernel
      rw [this ⟨n, hn⟩, List.all_eq_true]; simp only [List.mem_range, decide_eq_true_eq]
    · have : ∀ n : Fin 256, fitS (((n.val : Nat) : Int) % 128) 6 = (List.range 7).all fun i => decide (okS ((n.val : Nat) : Int) 6 i) := by decide +kernel
      rw [this ⟨n, hn⟩, List.all_eq_true]; simp only [List.mem_range, decide_eq_true_eq]
    · have : ∀ n : Fin 256, fitS (((n.val : Nat) : Int) % 128) 7 = (List.range 7).all fun i => decide (okS ((n.val : Nat) : Int) 7 i) := by decide +kernel
      rw [this ⟨n, hn⟩, List.all_eq_true]; simp only [List.mem_range, decide_eq_true_eq]
end Go.Proofs.Ythdklnkaeddogaa
