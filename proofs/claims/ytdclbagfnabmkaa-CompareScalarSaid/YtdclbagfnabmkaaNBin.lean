/-
  Of layer 3: num.Bin by ranges of opcodes, for all operands within 64 bits, in terms of the model's integers. Conditions: those that each theorem names.
-/
import Derived.Test.YtdclbagfnabmkaaNCalls
namespace Go.Proofs.Ytdclbagfnabmkaa
open Go.RowKit
def sh (x : Int) : Int := x % 4294967296
def sS (x : Int) : Int := wrap64 (wrap32 x)
def sL (x : Int) : Int := wrap64 x
theorem short_any (x : Int) (w : World) :
    Calls Try.prog 40 #[.int .u64 x] w fun e w' => e = .returned (.agg #[.int .u64 (sh x), .int .i64 (sS x)]) ∧ Gr w w' := by
  go_enter Try.func40, Try.ntmps40
  go_wp2
  exact bodyPost_ret (v := .agg #[.int .u64 (sh x), .int .i64 (sS x)]) (by simp [results, Try.results40, go_sem, sh, sS]) rfl ⟨rfl, (Gr.refl _).alloc _ _⟩
theorem long_any (x : Int) (w : World) :
    Calls Try.prog 41 #[.int .u64 x] w fun e w' => e = .returned (.agg #[.int .u64 x, .int .i64 (sL x)]) ∧ Gr w w' := by
  go_enter Try.func41, Try.ntmps41
  go_wp2
  exact bodyPost_ret (v := .agg #[.int .u64 x, .int .i64 (sL x)]) (by simp [results, Try.results41, go_sem, sL]) rfl ⟨rfl, (Gr.refl _).alloc _ _⟩
theorem in_yes (op f n : Int) (hf : 0 ≤ f) (hf' : f ≤ 1000) (hn : 0 ≤ n) (hn' : n ≤ 1000) (h0 : f ≤ op) (h1 : op < f + n) (w : World) :
    Calls Try.prog 38 #[.int .i64 op, .int .i64 f, .int .i64 n] w fun e w' => e = .returned (.bool true) ∧ w = w' := by
  go_enter Try.func38, Try.ntmps38
  go_wp2
  go_ret
  exact ⟨rfl, rfl⟩
theorem in_no (op f n : Int) (hf : 0 ≤ f) (hf' : f ≤ 1000) (hn : 0 ≤ n) (hn' : n ≤ 1000) (h : op < f ∨ f + n ≤ op) (w : World) :
    Calls Try.prog 38 #[.int .i64 op, .int .i64 f, .int .i64 n] w fun e w' => e = .returned (.bool false) ∧ w = w' := by
  rcases h with h | h
  · go_enter Try.func38, Try.ntmps38
    go_wp2
    go_ret
    exact ⟨rfl, rfl⟩
  · by_cases h0 : f ≤ op
    · have h' : ¬ op < f + n := by omega
      clear h
      go_enter Try.func38, Try.ntmps38
      go_wp2
      go_ret
      exact ⟨rfl, rfl⟩
    · go_enter Try.func38, Try.ntmps38
      go_wp2
      go_ret
      exact ⟨rfl, rfl⟩
set_option maxHeartbeats 1000000 in
theorem bin_c32 (op x y : Int) (h0 : 70 ≤ op) (h1 : op < 80) (w : World) :
    Calls Try.prog 21 #[.int .i64 op, .int .u64 x, .int .u64 y] w fun e w' => e = .returned (.tuple #[.int .u64 (tI (standsB (op - 70) (sh x) (sS x) (sh y) (sS y))), .int .i64 0]) ∧ Gr w w' := by
  go_enter Try.func21, Try.ntmps21
  go_wp2_with fail
  refine (in_yes op 70 10 (by decide) (by decide) (by decide) (by decide) h0 (by omega) _).mono ?_
  rintro e w1 ⟨rfl, rfl⟩
  go_wp2_with fail
  refine (short_any x _).mono ?_
  rintro e w1 ⟨rfl, hg1⟩
  go_wp2_with fail
  refine (short_any y _).mono ?_
  rintro e w2 ⟨rfl, hg2⟩
  go_wp2_with fail
  refine (stands_any _ (by omega) (by omega) _ _ _ _ _).mono ?_
  rintro e w3 ⟨rfl, hg3⟩
  go_wp2
  go_ret2
  exact ⟨ret_pair rfl rfl, gr_trans hg1 (gr_trans hg2 hg3)⟩
set_option maxHeartbeats 1000000 in
theorem bin_c64 (op x y : Int) (h0 : 81 ≤ op) (h1 : op < 91) (w : World) :
    Calls Try.prog 21 #[.int .i64 op, .int .u64 x, .int .u64 y] w fun e w' => e = .returned (.tuple #[.int .u64 (tI (standsB (op - 81) x (sL x) y (sL y))), .int .i64 0]) ∧ Gr w w' := by
  go_enter Try.func21, Try.ntmps21
  go_wp2_with fail
  refine (in_no op 70 10 (by decide) (by decide) (by decide) (by decide) (by omega) _).mono ?_
  rintro e w1 ⟨rfl, rfl⟩
  go_wp2_with fail
  refine (in_yes op 81 10 (by decide) (by decide) (by decide) (by decide) h0 (by omega) _).mono ?_
  rintro e w1 ⟨rfl, rfl⟩
  go_wp2_with fail
  refine (long_any x _).mono ?_
  rintro e w1 ⟨rfl, hg1⟩
  go_wp2_with fail
  refine (long_any y _).mono ?_
  rintro e w2 ⟨rfl, hg2⟩
  go_wp2_with fail
  refine (stands_any _ (by omega) (by omega) _ _ _ _ _).mono ?_
  rintro e w3 ⟨rfl, hg3⟩
  go_wp2
  go_ret2
  exact ⟨ret_pair rfl rfl, gr_trans hg1 (gr_trans hg2 hg3)⟩
set_option maxHeartbeats 1000000 in
theorem bin_w32 (op x y : Int) (h0 : 106 ≤ op) (h1 : op < 121) (hc0 : 0 ≤ sh y) (hcd : (sh y) ≠ 0 → (sS y) ≠ 0) (w : World) :
    Calls Try.prog 21 #[.int .i64 op, .int .u64 x, .int .u64 y] w fun e w' => e = .returned (.tuple #[.int .u64 ((workI (op - 106) 32 (sh x) (sS x) (sh y) (sS y)) % 4294967296), .int .i64 (workE (op - 106) 32 (sS x) (sh y) (sS y))]) ∧ Gr w w' := by
  have HC := Lib.hid hcd
  have HY := Lib.hid hc0
  clear hcd hc0
  go_enter Try.func21, Try.ntmps21
  go_wp2_with fail
  refine (in_no op 70 10 (by decide) (by decide) (by decide) (by decide) (by omega) _).mono ?_
  rintro e w1 ⟨rfl, rfl⟩
  go_wp2_with fail
  refine (in_no op 81 10 (by decide) (by decide) (by decide) (by decide) (by omega) _).mono ?_
  rintro e w1 ⟨rfl, rfl⟩
  go_wp2_with fail
  refine (in_yes op 106 15 (by decide) (by decide) (by decide) (by decide) h0 (by omega) _).mono ?_
  rintro e w1 ⟨rfl, rfl⟩
  go_wp2_with fail
  refine (short_any x _).mono ?_
  rintro e w1 ⟨rfl, hg1⟩
  go_wp2_with fail
  refine (short_any y _).mono ?_
  rintro e w2 ⟨rfl, hg2⟩
  go_wp2_with fail
  refine (work_any _ 32 _ _ _ _ (by omega) (by omega) (by decide) HY.out HC.out _).mono ?_
  rintro e w3 ⟨rfl, hg3⟩
  go_wp2
  go_ret2
  exact ⟨ret_pair rfl rfl, gr_trans hg1 (gr_trans hg2 hg3)⟩
set_option maxHeartbeats 1000000 in
theorem bin_w64 (op x y : Int) (h0 : 124 ≤ op) (h1 : op < 139) (hc0 : 0 ≤ y) (hcd : y ≠ 0 → (sL y) ≠ 0) (w : World) :
    Calls Try.prog 21 #[.int .i64 op, .int .u64 x, .int .u64 y] w fun e w' => e = .returned (.tuple #[.int .u64 (workI (op - 124) 64 x (sL x) y (sL y)), .int .i64 (workE (op - 124) 64 (sL x) y (sL y))]) ∧ Gr w w' := by
  have HC := Lib.hid hcd
  have HY := Lib.hid hc0
  clear hcd hc0
  go_enter Try.func21, Try.ntmps21
  go_wp2_with fail
  refine (in_no op 70 10 (by decide) (by decide) (by decide) (by decide) (by omega) _).mono ?_
  rintro e w1 ⟨rfl, rfl⟩
  go_wp2_with fail
  refine (in_no op 81 10 (by decide) (by decide) (by decide) (by decide) (by omega) _).mono ?_
  rintro e w1 ⟨rfl, rfl⟩
  go_wp2_with fail
  refine (in_no op 106 15 (by decide) (by decide) (by decide) (by decide) (by omega) _).mono ?_
  rintro e w1 ⟨rfl, rfl⟩
  go_wp2_with fail
  refine (in_yes op 124 15 (by decide) (by decide) (by decide) (by decide) h0 (by omega) _).mono ?_
  rintro e w1 ⟨rfl, rfl⟩
  go_wp2_with fail
  refine (long_any x _).mono ?_
  rintro e w1 ⟨rfl, hg1⟩
  go_wp2_with fail
  refine (long_any y _).mono ?_
  rintro e w2 ⟨rfl, hg2⟩
  go_wp2_with fail
  refine (work_any _ 64 _ _ _ _ (by omega) (by omega) (by decide) HY.out HC.out _).mono ?_
  rintro e w3 ⟨rfl, hg3⟩
  go_wp2
  go_ret2
  exact ⟨ret_pair rfl rfl, gr_trans hg1 (gr_trans hg2 hg3)⟩
set_option maxHeartbeats 1000000 in
theorem bin_none (op x y : Int) (h1 : op < 70 ∨ 80 ≤ op) (h2 : op < 81 ∨ 91 ≤ op) (h3 : op < 106 ∨ 121 ≤ op) (h4 : op < 124 ∨ 139 ≤ op) (w : World) :
    Calls Try.prog 21 #[.int .i64 op, .int .u64 x, .int .u64 y] w fun e w' => e = .returned (.tuple #[.int .u64 0, .int .i64 1]) ∧ Gr w w' := by
  have H1 := Lib.hid h1
  have H2 := Lib.hid h2
  have H3 := Lib.hid h3
  have H4 := Lib.hid h4
  clear h1 h2 h3 h4
  go_enter Try.func21, Try.ntmps21
  go_wp2_with fail
  refine (in_no op 70 10 (by decide) (by decide) (by decide) (by decide) H1.out _).mono ?_
  rintro e w1 ⟨rfl, rfl⟩
  go_wp2_with fail
  refine (in_no op 81 10 (by decide) (by decide) (by decide) (by decide) H2.out _).mono ?_
  rintro e w1 ⟨rfl, rfl⟩
  go_wp2_with fail
  refine (in_no op 106 15 (by decide) (by decide) (by decide) (by decide) H3.out _).mono ?_
  rintro e w1 ⟨rfl, rfl⟩
  go_wp2_with fail
  refine (in_no op 124 15 (by decide) (by decide) (by decide) (by decide) H4.out _).mono ?_
  rintro e w1 ⟨rfl, rfl⟩
  go_wp2
  go_ret2
  exact ⟨rfl, Gr.refl _⟩
end Go.Proofs.Ytdclbagfnabmkaa
