/-
  The contracts of the document's answers for vectors (plaitref02): Sign, Signed (where no more of the pair map is there).
-/
import Derived.Test.YtdclbagfnabmkaaRefG
namespace Go.Proofs.Ytdclbagfnabmkaa
open Go.RowKit VecM
set_option maxHeartbeats 400000 in
theorem rsign_8 (x : Int) (h0 : 0 ≤ x) (h1 : x < 256 ^ wid 8) (w : World) :
    Calls Try.prog 46 #[.int .u64 x, .int .i64 8] w fun e w' => e = .returned (.int .i64 (sg 8 x)) ∧ Gr w w' := by
  rw [wid8] at h1
  have h2 : x ≤ 255 := by omega
  have hm : x % 256 = x := by omega
  by_cases hc : (128 : Int) ≤ x
  · have e : sg 8 x = x - 256 := by unfold sg; rw [show ((2 : Int) ^ (((8 : Int)).toNat - 1)) = 128 by decide, show ((2 : Int) ^ ((8 : Int)).toNat) = 256 by decide, if_pos hc]
    rw [e]
    clear h1 e
    go_enter Try.func46, Try.ntmps46
    go_wp2
    go_ret
    exact ⟨rfl, Gr.refl _⟩
  · have e : sg 8 x = x := by unfold sg; rw [show ((2 : Int) ^ (((8 : Int)).toNat - 1)) = 128 by decide, show ((2 : Int) ^ ((8 : Int)).toNat) = 256 by decide, if_neg hc]
    rw [e]
    have hc' : x < 128 := by omega
    clear h1 e hc
    go_enter Try.func46, Try.ntmps46
    go_wp2
    go_ret
    exact ⟨rfl, Gr.refl _⟩
set_option maxHeartbeats 400000 in
theorem rsign_16 (x : Int) (h0 : 0 ≤ x) (h1 : x < 256 ^ wid 16) (w : World) :
    Calls Try.prog 46 #[.int .u64 x, .int .i64 16] w fun e w' => e = .returned (.int .i64 (sg 16 x)) ∧ Gr w w' := by
  rw [wid16] at h1
  have h2 : x ≤ 65535 := by omega
  have hm : x % 65536 = x := by omega
  by_cases hc : (32768 : Int) ≤ x
  · have e : sg 16 x = x - 65536 := by unfold sg; rw [show ((2 : Int) ^ (((16 : Int)).toNat - 1)) = 32768 by decide, show ((2 : Int) ^ ((16 : Int)).toNat) = 65536 by decide, if_pos hc]
    rw [e]
    clear h1 e
    go_enter Try.func46, Try.ntmps46
    go_wp2
    go_ret
    exact ⟨rfl, Gr.refl _⟩
  · have e : sg 16 x = x := by unfold sg; rw [show ((2 : Int) ^ (((16 : Int)).toNat - 1)) = 32768 by decide, show ((2 : Int) ^ ((16 : Int)).toNat) = 65536 by decide, if_neg hc]
    rw [e]
    have hc' : x < 32768 := by omega
    clear h1 e hc
    go_enter Try.func46, Try.ntmps46
    go_wp2
    go_ret
    exact ⟨rfl, Gr.refl _⟩
set_option maxHeartbeats 400000 in
theorem rsign_32 (x : Int) (h0 : 0 ≤ x) (h1 : x < 256 ^ wid 32) (w : World) :
    Calls Try.prog 46 #[.int .u64 x, .int .i64 32] w fun e w' => e = .returned (.int .i64 (sg 32 x)) ∧ Gr w w' := by
  rw [wid32] at h1
  have h2 : x ≤ 4294967295 := by omega
  have hm : x % 4294967296 = x := by omega
  by_cases hc : (2147483648 : Int) ≤ x
  · have e : sg 32 x = x - 4294967296 := by unfold sg; rw [show ((2 : Int) ^ (((32 : Int)).toNat - 1)) = 2147483648 by decide, show ((2 : Int) ^ ((32 : Int)).toNat) = 4294967296 by decide, if_pos hc]
    rw [e]
    clear h1 e
    go_enter Try.func46, Try.ntmps46
    go_wp2
    go_ret
    exact ⟨rfl, Gr.refl _⟩
  · have e : sg 32 x = x := by unfold sg; rw [show ((2 : Int) ^ (((32 : Int)).toNat - 1)) = 2147483648 by decide, show ((2 : Int) ^ ((32 : Int)).toNat) = 4294967296 by decide, if_neg hc]
    rw [e]
    have hc' : x < 2147483648 := by omega
    clear h1 e hc
    go_enter Try.func46, Try.ntmps46
    go_wp2
    go_ret
    exact ⟨rfl, Gr.refl _⟩
set_option maxHeartbeats 400000 in
theorem rsign_64 (x : Int) (h0 : 0 ≤ x) (h1 : x < 256 ^ wid 64) (w : World) :
    Calls Try.prog 46 #[.int .u64 x, .int .i64 64] w fun e w' => e = .returned (.int .i64 (sg 64 x)) ∧ Gr w w' := by
  rw [wid64] at h1
  have e : sg 64 x = wrap64 x := by
    unfold sg wrap64
    rw [show ((2 : Int) ^ (((64 : Int)).toNat - 1)) = 9223372036854775808 by decide, show ((2 : Int) ^ ((64 : Int)).toNat) = 18446744073709551616 by decide]
    split <;> omega
  rw [e]
  clear e h1
  go_enter Try.func46, Try.ntmps46
  go_wp2
  go_ret
  exact ⟨rfl, Gr.refl _⟩
theorem sg_zero (v : Int) : sg v 0 = 0 := by
  unfold sg
  have h : (0 : Int) < 2 ^ (v.toNat - 1) := Int.pow_pos (by decide)
  rw [if_neg (by omega)]
theorem rsigned_any (b : Nat → Int) (hb : Byt b) (v i : Int) (w : World) :
    Calls Try.prog 29 #[.agg (bs b), .int .i64 v, .int .i64 i] w fun e w' => e = .returned (.int .i64 (sgnI b v i)) ∧ Gr w w' := by
  have esg : sgnI b v i = sg v (getI b v i) := by
    unfold sgnI
    by_cases h : thereB v i = true
    · rw [if_pos h]
    · rw [if_neg h, show getI b v i = 0 by unfold getI; rw [if_neg h], sg_zero]
  have hl := rlanes_any v
  have hbd := getI_bd hb v i
  by_cases h : lanesI v = 0
  · have e : sgnI b v i = 0 := by
      unfold sgnI
      rw [if_neg (fun hh => by have := (there_iff.1 hh); omega)]
    rw [e]
    rw [h] at hl
    have HL := Lib.hid hl
    clear hl hbd esg e h hb
    go_enter Try.func29, Try.ntmps29
    go_wp2_with (go_at_call 45; refine (HL.out _).mono ?_; rintro e w' ⟨rfl, rfl⟩)
    go_ret
    exact ⟨rfl, (Gr.refl _).alloc _ _⟩
  · have C : ∀ w, Calls Try.prog 46 #[.int .u64 (getI b v i), .int .i64 v] w fun e w' => e = .returned (.int .i64 (sgnI b v i)) ∧ Gr w w' := by
      intro w
      rw [esg]
      have hv : v = 8 ∨ v = 16 ∨ v = 32 ∨ v = 64 := by
        unfold lanesI at h
        by_cases h8 : v = 8
        · omega
        by_cases h16 : v = 16
        · omega
        by_cases h32 : v = 32
        · omega
        by_cases h64 : v = 64
        · omega
        rw [if_neg h8, if_neg h16, if_neg h32, if_neg h64] at h
        omega
      rcases hv with rfl | rfl | rfl | rfl
      · exact rsign_8 _ hbd.1 hbd.2 w
      · exact rsign_16 _ hbd.1 hbd.2 w
      · exact rsign_32 _ hbd.1 hbd.2 w
      · exact rsign_64 _ hbd.1 hbd.2 w
    have G := rget_any b hb v i
    have hn : (lanesI v == 0) = false := beq_eq_false_iff_ne.2 h
    generalize lanesI v = L at *
    generalize sgnI b v i = S at *
    generalize getI b v i = g at *
    have HL := Lib.hid hl
    have HC := Lib.hid C
    have HG := Lib.hid G
    clear hl C G esg hbd hb h
    go_enter Try.func29, Try.ntmps29
    go_upto_region 3 with (go_at_call 45; refine (HL.out _).mono ?_; rintro e w' ⟨rfl, rfl⟩)
    refine wp_region_lit ?_
    refine wpList_load_row rfl 23 _ rfl w.heap.size rfl 23 (bs b) (0, 0) _ (heap_alloc_new w _) Try.underlying23 rfl infoV ?_
    go_wp2_with (first | (go_at_call 30; refine (HG.out _).mono ?_; rintro e w1 ⟨rfl, hg⟩) | (go_at_call 46; refine (HC.out _).mono ?_; rintro e w2 ⟨rfl, hg2⟩))
    go_ret
    exact ⟨rfl, gr_trans (gr_trans ((Gr.refl _).alloc _ _) hg) hg2⟩
end Go.Proofs.Ytdclbagfnabmkaa
