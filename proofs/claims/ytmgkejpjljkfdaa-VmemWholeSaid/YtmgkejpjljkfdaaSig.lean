/-
  The contract of pair's Signed, where no more of pair is there.
-/
import Derived.Test.YtmgkejpjljkfdaaVec
namespace Go.Proofs.Ytmgkejpjljkfdaa
open Go.RowKit VecM
theorem lanes_bd (v : Int) : 0 ≤ lanesI v ∧ lanesI v ≤ 16 := by
  unfold lanesI; repeat' split
  all_goals omega
/-- a lane with its sign -/
def sg (v : Int) (g : Int) : Int := if 2 ^ (v.toNat - 1) ≤ g then g - 2 ^ v.toNat else g
def sgnI (b : Nat → Int) (v i : Int) : Int := if thereB v i then sg v (getI b v i) else 0
theorem sgn_8 (g : Int) (h0 : 0 ≤ g) (h1 : g < 256 ^ wid 8) : wrap64 (IntKind.u64.wrap (g * 72057594037927936)) / 72057594037927936 = sg 8 g := by
  rw [wid8] at h1
  rw [IntKind.wrap_u64]
  unfold wrap64 sg
  rw [show ((2 : Int) ^ (((8 : Int)).toNat - 1)) = 128 by decide, show ((2 : Int) ^ ((8 : Int)).toNat) = 256 by decide]
  by_cases hc : (128 : Int) ≤ g
  · rw [if_pos hc]; omega
  · rw [if_neg hc]; omega
set_option maxHeartbeats 400000 in
theorem signed_8 (b : Nat → Int) (hb : Byt b) (i : Int) (h : thereB 8 i = true) (w : World) :
    Calls Try.prog 59 #[.agg (bs b), .int .i64 8, .int .i64 i] w fun e w' => e = .returned (.int .i64 (sg 8 (getI b 8 i))) ∧ Gr w w' := by
  have hgb := getI_bd hb 8 i
  rw [← sgn_8 _ hgb.1 hgb.2]
  have C := get_any b hb 8 i
  have HC := Lib.hid C
  clear C hb hgb
  generalize getI b 8 i = g at *
  go_enter Try.func59, Try.ntmps59
  go_upto_region 4 with (go_at_call 50; refine (there_any _ _ _).mono ?_; rintro e w' ⟨rfl, rfl⟩)
  refine wp_region_lit ?_
  refine wpList_load_row rfl 35 _ rfl w.heap.size rfl 35 (bs b) (0, 0) _ (heap_alloc_new w _) Try.underlying35 rfl infoV ?_
  go_wp2_with (go_at_call 28; refine (HC.out _).mono ?_; rintro e w1 ⟨rfl, hg⟩)
  go_ret
  exact ⟨rfl, gr_trans ((Gr.refl _).alloc _ _) hg⟩
theorem sgn_16 (g : Int) (h0 : 0 ≤ g) (h1 : g < 256 ^ wid 16) : wrap64 (IntKind.u64.wrap (g * 281474976710656)) / 281474976710656 = sg 16 g := by
  rw [wid16] at h1
  rw [IntKind.wrap_u64]
  unfold wrap64 sg
  rw [show ((2 : Int) ^ (((16 : Int)).toNat - 1)) = 32768 by decide, show ((2 : Int) ^ ((16 : Int)).toNat) = 65536 by decide]
  by_cases hc : (32768 : Int) ≤ g
  · rw [if_pos hc]; omega
  · rw [if_neg hc]; omega
set_option maxHeartbeats 400000 in
theorem signed_16 (b : Nat → Int) (hb : Byt b) (i : Int) (h : thereB 16 i = true) (w : World) :
    Calls Try.prog 59 #[.agg (bs b), .int .i64 16, .int .i64 i] w fun e w' => e = .returned (.int .i64 (sg 16 (getI b 16 i))) ∧ Gr w w' := by
  have hgb := getI_bd hb 16 i
  rw [← sgn_16 _ hgb.1 hgb.2]
  have C := get_any b hb 16 i
  have HC := Lib.hid C
  clear C hb hgb
  generalize getI b 16 i = g at *
  go_enter Try.func59, Try.ntmps59
  go_upto_region 4 with (go_at_call 50; refine (there_any _ _ _).mono ?_; rintro e w' ⟨rfl, rfl⟩)
  refine wp_region_lit ?_
  refine wpList_load_row rfl 35 _ rfl w.heap.size rfl 35 (bs b) (0, 0) _ (heap_alloc_new w _) Try.underlying35 rfl infoV ?_
  go_wp2_with (go_at_call 28; refine (HC.out _).mono ?_; rintro e w1 ⟨rfl, hg⟩)
  go_ret
  exact ⟨rfl, gr_trans ((Gr.refl _).alloc _ _) hg⟩
theorem sgn_32 (g : Int) (h0 : 0 ≤ g) (h1 : g < 256 ^ wid 32) : wrap64 (IntKind.u64.wrap (g * 4294967296)) / 4294967296 = sg 32 g := by
  rw [wid32] at h1
  rw [IntKind.wrap_u64]
  unfold wrap64 sg
  rw [show ((2 : Int) ^ (((32 : Int)).toNat - 1)) = 2147483648 by decide, show ((2 : Int) ^ ((32 : Int)).toNat) = 4294967296 by decide]
  by_cases hc : (2147483648 : Int) ≤ g
  · rw [if_pos hc]; omega
  · rw [if_neg hc]; omega
set_option maxHeartbeats 400000 in
theorem signed_32 (b : Nat → Int) (hb : Byt b) (i : Int) (h : thereB 32 i = true) (w : World) :
    Calls Try.prog 59 #[.agg (bs b), .int .i64 32, .int .i64 i] w fun e w' => e = .returned (.int .i64 (sg 32 (getI b 32 i))) ∧ Gr w w' := by
  have hgb := getI_bd hb 32 i
  rw [← sgn_32 _ hgb.1 hgb.2]
  have C := get_any b hb 32 i
  have HC := Lib.hid C
  clear C hb hgb
  generalize getI b 32 i = g at *
  go_enter Try.func59, Try.ntmps59
  go_upto_region 4 with (go_at_call 50; refine (there_any _ _ _).mono ?_; rintro e w' ⟨rfl, rfl⟩)
  refine wp_region_lit ?_
  refine wpList_load_row rfl 35 _ rfl w.heap.size rfl 35 (bs b) (0, 0) _ (heap_alloc_new w _) Try.underlying35 rfl infoV ?_
  go_wp2_with (go_at_call 28; refine (HC.out _).mono ?_; rintro e w1 ⟨rfl, hg⟩)
  go_ret
  exact ⟨rfl, gr_trans ((Gr.refl _).alloc _ _) hg⟩
theorem sgn_64 (g : Int) (h0 : 0 ≤ g) (h1 : g < 256 ^ wid 64) : wrap64 (IntKind.u64.wrap g) = sg 64 g := by
  rw [wid64] at h1
  rw [IntKind.wrap_u64]
  unfold wrap64 sg
  rw [show ((2 : Int) ^ (((64 : Int)).toNat - 1)) = 9223372036854775808 by decide, show ((2 : Int) ^ ((64 : Int)).toNat) = 18446744073709551616 by decide]
  by_cases hc : (9223372036854775808 : Int) ≤ g
  · rw [if_pos hc]; omega
  · rw [if_neg hc]; omega
set_option maxHeartbeats 400000 in
theorem signed_64 (b : Nat → Int) (hb : Byt b) (i : Int) (h : thereB 64 i = true) (w : World) :
    Calls Try.prog 59 #[.agg (bs b), .int .i64 64, .int .i64 i] w fun e w' => e = .returned (.int .i64 (sg 64 (getI b 64 i))) ∧ Gr w w' := by
  have hgb := getI_bd hb 64 i
  rw [← sgn_64 _ hgb.1 hgb.2]
  have C := get_any b hb 64 i
  have HC := Lib.hid C
  clear C hb hgb
  generalize getI b 64 i = g at *
  go_enter Try.func59, Try.ntmps59
  go_upto_region 4 with (go_at_call 50; refine (there_any _ _ _).mono ?_; rintro e w' ⟨rfl, rfl⟩)
  refine wp_region_lit ?_
  refine wpList_load_row rfl 35 _ rfl w.heap.size rfl 35 (bs b) (0, 0) _ (heap_alloc_new w _) Try.underlying35 rfl infoV ?_
  go_wp2_with (go_at_call 28; refine (HC.out _).mono ?_; rintro e w1 ⟨rfl, hg⟩)
  go_ret
  exact ⟨rfl, gr_trans ((Gr.refl _).alloc _ _) hg⟩
theorem signed_any (b : Nat → Int) (hb : Byt b) (v i : Int) (w : World) :
    Calls Try.prog 59 #[.agg (bs b), .int .i64 v, .int .i64 i] w fun e w' => e = .returned (.int .i64 (sgnI b v i)) ∧ Gr w w' := by
  by_cases h : thereB v i = true
  · rw [show sgnI b v i = sg v (getI b v i) by unfold sgnI; rw [if_pos h]]
    rcases there_cases h with ⟨rfl, _, h1⟩ | ⟨rfl, _, h1⟩ | ⟨rfl, _, h1⟩ | ⟨rfl, _, h1⟩
    · exact signed_8 b hb i h w
    · exact signed_16 b hb i h w
    · exact signed_32 b hb i h w
    · exact signed_64 b hb i h w
  · rw [show sgnI b v i = 0 by unfold sgnI; rw [if_neg h]]
    have h' : thereB v i = false := by simpa using h
    clear h
    go_enter Try.func59, Try.ntmps59
    go_wp2_with (go_at_call 50; refine (there_any _ _ _).mono ?_; rintro e w' ⟨rfl, rfl⟩)
    go_ret
    exact ⟨rfl, (Gr.refl _).alloc _ _⟩
end Go.Proofs.Ytmgkejpjljkfdaa
