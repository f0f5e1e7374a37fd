/-
  The contracts of pair's Signed and All.
-/
import Derived.Test.YthdklnkaeddogabPair
namespace Go.Proofs.Ythdklnkaeddogab
open Go.RowKit VecM
/-- a lane with its sign -/
def sg (v : Int) (g : Int) : Int := if 2 ^ (v.toNat - 1) ≤ g then g - 2 ^ v.toNat else g
def sgnI (b : Nat → Int) (v i : Int) : Int := if thereB v i then sg v (getI b v i) else 0
theorem sgn_8 (g : Int) (h0 : 0 ≤ g) (h1 : g < 256 ^ wid 8) : wrap64 (IntKind.u64.wrap (g * 72057594037927936)) / 72057594037927936 = sg 8 g := by
  rw [wid8] at h1
  rw [IntKind.wrap_u64]
  unfold wrap64 sg
  rw [show ((2 : Int) ^ (((8 : Int)).toNat - 1)) = 128 by decide, show ((2 : Int) ^ ((8 : Int)).toNat) = 256 by decide]
  by_cases hc : (128 : Int) ≤ g
  · rw [if_pos hc]; omega
  · rw [if_neg hc]; omega
set_option maxHeartbeats 400000 in
theorem signed_8 (b : Nat → Int) (hb : Byt b) (i : Int) (h : thereB 8 i = true) (w : World) :
    Calls Try.prog 15 #[.agg (bs b), .int .i64 8, .int .i64 i] w fun e w' => e = .returned (.int .i64 (sg 8 (getI b 8 i))) ∧ Gr w w' := by
  have hgb := getI_bd hb 8 i
  rw [← sgn_8 _ hgb.1 hgb.2]
  have C := get_any b hb 8 i
  have HC := Lib.hid C
  clear C hb hgb
  generalize getI b 8 i = g at *
  go_enter Try.func15, Try.ntmps15
  go_upto_region 4 with (go_at_call 33; refine (there_any _ _ _).mono ?_; rintro e w' ⟨rfl, rfl⟩)
  refine wp_region_lit ?_
  refine wpList_load_row rfl 25 _ rfl w.heap.size rfl 25 (bs b) (0, 0) _ (heap_alloc_new w _) Try.underlying25 rfl infoV ?_
  go_wp2_with (go_at_call 13; refine (HC.out _).mono ?_; rintro e w1 ⟨rfl, hg⟩)
  go_ret
  exact ⟨rfl, gr_trans ((Gr.refl _).alloc _ _) hg⟩
theorem sgn_16 (g : Int) (h0 : 0 ≤ g) (h1 : g < 256 ^ wid 16) : wrap64 (IntKind.u64.wrap (g * 281474976710656)) / 281474976710656 = sg 16 g := by
  rw [wid16] at h1
  rw [IntKind.wrap_u64]
  unfold wrap64 sg
  rw [show ((2 : Int) ^ (((16 : Int)).toNat - 1)) = 32768 by decide, show ((2 : Int) ^ ((16 : Int)).toNat) = 65536 by decide]
  by_cases hc : (32768 : Int) ≤ g
  · rw [if_pos hc]; omega
  · rw [if_neg hc]; omega
set_option maxHeartbeats 400000 in
theorem signed_16 (b : Nat → Int) (hb : Byt b) (i : Int) (h : thereB 16 i = true) (w : World) :
    Calls Try.prog 15 #[.agg (bs b), .int .i64 16, .int .i64 i] w fun e w' => e = .returned (.int .i64 (sg 16 (getI b 16 i))) ∧ Gr w w' := by
  have hgb := getI_bd hb 16 i
  rw [← sgn_16 _ hgb.1 hgb.2]
  have C := get_any b hb 16 i
  have HC := Lib.hid C
  clear C hb hgb
  generalize getI b 16 i = g at *
  go_enter Try.func15, Try.ntmps15
  go_upto_region 4 with (go_at_call 33; refine (there_any _ _ _).mono ?_; rintro e w' ⟨rfl, rfl⟩)
  refine wp_region_lit ?_
  refine wpList_load_row rfl 25 _ rfl w.heap.size rfl 25 (bs b) (0, 0) _ (heap_alloc_new w _) Try.underlying25 rfl infoV ?_
  go_wp2_with (go_at_call 13; refine (HC.out _).mono ?_; rintro e w1 ⟨rfl, hg⟩)
  go_ret
  exact ⟨rfl, gr_trans ((Gr.refl _).alloc _ _) hg⟩
theorem sgn_32 (g : Int) (h0 : 0 ≤ g) (h1 : g < 256 ^ wid 32) : wrap64 (IntKind.u64.wrap (g * 4294967296)) / 4294967296 = sg 32 g := by
  rw [wid32] at h1
  rw [IntKind.wrap_u64]
  unfold wrap64 sg
  rw [show ((2 : Int) ^ (((32 : Int)).toNat - 1)) = 2147483648 by decide, show ((2 : Int) ^ ((32 : Int)).toNat) = 4294967296 by decide]
  by_cases hc : (2147483648 : Int) ≤ g
  · rw [if_pos hc]; omega
  · rw [if_neg hc]; omega
set_option maxHeartbeats 400000 in
theorem signed_32 (b : Nat → Int) (hb : Byt b) (i : Int) (h : thereB 32 i = true) (w : World) :
    Calls Try.prog 15 #[.agg (bs b), .int .i64 32, .int .i64 i] w fun e w' => e = .returned (.int .i64 (sg 32 (getI b 32 i))) ∧ Gr w w' := by
  have hgb := getI_bd hb 32 i
  rw [← sgn_32 _ hgb.1 hgb.2]
  have C := get_any b hb 32 i
  have HC := Lib.hid C
  clear C hb hgb
  generalize getI b 32 i = g at *
  go_enter Try.func15, Try.ntmps15
  go_upto_region 4 with (go_at_call 33; refine (there_any _ _ _).mono ?_; rintro e w' ⟨rfl, rfl⟩)
  refine wp_region_lit ?_
  refine wpList_load_row rfl 25 _ rfl w.heap.size rfl 25 (bs b) (0, 0) _ (heap_alloc_new w _) Try.underlying25 rfl infoV ?_
  go_wp2_with (go_at_call 13; refine (HC.out _).mono ?_; rintro e w1 ⟨rfl, hg⟩)
  go_ret
  exact ⟨rfl, gr_trans ((Gr.refl _).alloc _ _) hg⟩
theorem sgn_64 (g : Int) (h0 : 0 ≤ g) (h1 : g < 256 ^ wid 64) : wrap64 (IntKind.u64.wrap g) = sg 64 g := by
  rw [wid64] at h1
  rw [IntKind.wrap_u64]
  unfold wrap64 sg
  rw [show ((2 : Int) ^ (((64 : Int)).toNat - 1)) = 9223372036854775808 by decide, show ((2 : Int) ^ ((64 : Int)).toNat) = 18446744073709551616 by decide]
  by_cases hc : (9223372036854775808 : Int) ≤ g
  · rw [if_pos hc]; omega
  · rw [if_neg hc]; omega
set_option maxHeartbeats 400000 in
theorem signed_64 (b : Nat → Int) (hb : Byt b) (i : Int) (h : thereB 64 i = true) (w : World) :
    Calls Try.prog 15 #[.agg (bs b), .int .i64 64, .int .i64 i] w fun e w' => e = .returned (.int .i64 (sg 64 (getI b 64 i))) ∧ Gr w w' := by
  have hgb := getI_bd hb 64 i
  rw [← sgn_64 _ hgb.1 hgb.2]
  have C := get_any b hb 64 i
  have HC := Lib.hid C
  clear C hb hgb
  generalize getI b 64 i = g at *
  go_enter Try.func15, Try.ntmps15
  go_upto_region 4 with (go_at_call 33; refine (there_any _ _ _).mono ?_; rintro e w' ⟨rfl, rfl⟩)
  refine wp_region_lit ?_
  refine wpList_load_row rfl 25 _ rfl w.heap.size rfl 25 (bs b) (0, 0) _ (heap_alloc_new w _) Try.underlying25 rfl infoV ?_
  go_wp2_with (go_at_call 13; refine (HC.out _).mono ?_; rintro e w1 ⟨rfl, hg⟩)
  go_ret
  exact ⟨rfl, gr_trans ((Gr.refl _).alloc _ _) hg⟩
theorem signed_any (b : Nat → Int) (hb : Byt b) (v i : Int) (w : World) :
    Calls Try.prog 15 #[.agg (bs b), .int .i64 v, .int .i64 i] w fun e w' => e = .returned (.int .i64 (sgnI b v i)) ∧ Gr w w' := by
  by_cases h : thereB v i = true
  · rw [show sgnI b v i = sg v (getI b v i) by unfold sgnI; rw [if_pos h]]
    rcases there_cases h with ⟨rfl, _, h1⟩ | ⟨rfl, _, h1⟩ | ⟨rfl, _, h1⟩ | ⟨rfl, _, h1⟩
    · exact signed_8 b hb i h w
    · exact signed_16 b hb i h w
    · exact signed_32 b hb i h w
    · exact signed_64 b hb i h w
  · rw [show sgnI b v i = 0 by unfold sgnI; rw [if_neg h]]
    have h' : thereB v i = false := by simpa using h
    clear h
    go_enter Try.func15, Try.ntmps15
    go_wp2_with (go_at_call 33; refine (there_any _ _ _).mono ?_; rintro e w' ⟨rfl, rfl⟩)
    go_ret
    exact ⟨rfl, (Gr.refl _).alloc _ _⟩
/-! ### rows of the call's own -/
theorem owns_gr {w w' : World} {base : Nat} {e : TypeId} {size : Nat} {v : Value} {n : Nat} {xs : List Value} (h : w.ownsRow base e size v n xs) (hg : Gr w w') : w'.ownsRow base e size v n xs :=
  h.kept (row := none) ⟨hg.os, hg.tape, hg.output, hg.size, fun k hk _ => hg.block k hk⟩ (by cases v.ownBlock <;> simp)
theorem owns_base {w : World} {base base' : Nat} {e : TypeId} {size : Nat} {v : Value} {n : Nat} {xs : List Value} (h : w.ownsRow base e size v n xs) (hb : base' ≤ base) : w.ownsRow base' e size v n xs := by
  refine ⟨h.1, ?_⟩
  rcases h.2 with h | ⟨g, cap, cur, h1, h2, h3⟩
  · exact .inl h
  · exact .inr ⟨g, cap, cur, h1, Nat.le_trans hb h2, h3⟩
def u64s (f : Nat → Int) (n : Nat) : List Value := (List.range n).map fun j => .int .u64 (f j)
theorem u64s_succ (f : Nat → Int) (n : Nat) : u64s f (n + 1) = u64s f n ++ [.int .u64 (f n)] := by unfold u64s; rw [List.range_succ]; simp
theorem u64s_get (f : Nat → Int) (n j : Nat) (h : j < n) : (u64s f n)[j]? = some (.int .u64 (f j)) := by unfold u64s; simp [h]
theorem u64s_of_owns {w : World} {base : Nat} {e : TypeId} {v : Value} {n : Nat} {f : Nat → Int} (h : w.ownsRow base e 1 v n (u64s f n)) : U64s w v n f := by
  rcases h.2 with ⟨h1, h2⟩ | ⟨g, cap, cur, rfl, hb, hh, hn, hcap, hsz, htk⟩
  · exact .inl ⟨h2, _, _, by subst h2; exact h1⟩
  · refine .inr ⟨by unfold maxLen at hcap; omega, g, 0, cap, rfl, fun j hj => ?_⟩
    rw [Nat.zero_add, cell_of_row _ _ j _ _ _ hh]
    have := u64s_get f n j hj
    rw [← htk, Nat.mul_one, List.getElem?_take, if_pos hj] at this
    simpa using this
theorem info64 : (Try.prog.info? 26).map (fun i => (i.zero, i.size, i.bytes)) = some (some (.int .u64 0), 1, 8) := by kernel_rfl
set_option maxHeartbeats 1000000 in
theorem all_any (b : Nat → Int) (hb : Byt b) (v : Int) (w : World) :
    Calls Try.prog 20 #[.agg (bs b), .int .i64 v] w fun e w' => ∃ sv, e = .returned sv ∧ Gr w w' ∧ w'.ownsRow w.heap.size 26 1 sv (lanesI v).toNat (u64s (fun j => getI b v j) (lanesI v).toNat) := by
  have hbd := lanes_bd v
  obtain ⟨L, hL⟩ : ∃ L : Nat, lanesI v = L := ⟨(lanesI v).toNat, by omega⟩
  have hcon : ∀ w, Calls Try.prog 11 #[.int .i64 v] w fun e w' => e = .returned (.int .i64 (L : Int)) ∧ w = w' := by rw [← hL]; exact lanes_any v
  have HK := Lib.hid hcon
  rw [hL, Int.toNat_natCast]
  have hL16 : L ≤ 16 := by omega
  have C := get_any b hb v
  have HC := Lib.hid C
  obtain ⟨i0, hi, hz0, hz1, hz2⟩ := info_parts info64
  have HI := Lib.hid hi
  have HZ0 := Lib.hid hz0
  have HZ1 := Lib.hid hz1
  have HZ2 := Lib.hid hz2
  clear hL hcon hbd C hb hi hz0 hz1 hz2
  go_enter Try.func20, Try.ntmps20
  go_wp2_with (go_at_call 11; refine (HK.out _).mono ?_; rintro e w' ⟨rfl, rfl⟩)
  go_loopw [5, 9] (fun sv i wr => ∃ k : Nat, k ≤ L ∧ i = .int .i64 k ∧ Gr w wr ∧ wr.heap[w.heap.size]? = some (.cells (bs b) 25 (0, 0)) ∧ wr.ownsRow (w.heap.size + 1) 26 1 sv k (u64s (fun j => getI b v j) k)) (fun _ i _ => L - (intOf i).toNat)
  case atStart => exact ⟨0, by omega, rfl, (Gr.refl _).alloc _ _, heap_alloc_new w _, World.ownsRow_nil _ _ _ _⟩
  case round =>
    obtain ⟨k, hk, rfl, hg, hv, hown⟩ := hrel
    have HG := Lib.hid hg
    have HV := Lib.hid hv
    have HO := Lib.hid hown
    clear hg hv hown
    by_cases hlt : k < L
    · go_upto_region 5 with (fail)
      refine wp_region_lit ?_
      go_wp2_with (first | (at_builtin; refine wpList_append_own _ rfl _ _ 34 rfl (w.heap.size + 1) 26 i0 (.int .u64 0) 1 8 Try.underlying34 HI.out HZ0.out HZ1.out HZ2.out rfl (by decide) u5 k _ rfl ((owns_gr HO.out HG1.out).alloc _) ⟨w1.heap.size, 0, none⟩ 1 1 [.int .u64 (getI b v k)] rfl rfl ?c1 ?c2 ?c3 ?c4 ?c5 ?_) | (refine wpList_load_row rfl 25 _ rfl w.heap.size rfl 25 (bs b) (0, 0) _ HV.out Try.underlying25 rfl infoV ?_) | (go_at_call 13; refine (HC.out _ _).mono ?_; rintro e w1 ⟨rfl, hg1⟩; have HG1 := Lib.hid hg1; clear hg1))
      case c1 =>
        intro j u hju
        match j, hju with
        | 0, hju => simp at hju; subst hju; exact (cell_of_row _ _ 0 _ _ _ (heap_alloc_new w1 _)).trans rfl
      case c2 => intro u hu; simp at hu; subst hu; rfl
      case c3 => unfold maxLen; omega
      case c4 => omega
      case c5 => have := HG1.out.size; have := HG.out.size; simp; omega
      intro v' w2 hown2 hgb _
      have hrow : ∀ q, u5.ownBlock = some q → w.heap.size + 1 ≤ q := fun q hq => (HO.out.lt q hq).1
      have hgr : Gr w w2 := (gr_trans HG.out ((HG1.out).allocO _)).grown hgb (fun q hq => by have := hrow q hq; omega)
      have hv2 : w2.heap[w.heap.size]? = some (.cells (bs b) 25 (0, 0)) := by
        have h1 := gr_block ((HG1.out).allocO (.cells #[.int .u64 (getI b v k)] 26)) HV.out
        rw [hgb.block _ (Array.getElem?_eq_some_iff.1 h1).1 (fun e => by have := hrow _ e.symm; omega)]
        exact h1
      have hown3 : w2.ownsRow (w.heap.size + 1) 26 1 v' (k + 1) (u64s (fun j => getI b v j) (k + 1)) := by rw [u64s_succ]; exact hown2
      have H1 := Lib.hid hgr
      have H2 := Lib.hid hv2
      have H3 := Lib.hid hown3
      clear hown2 hgb hrow hgr hv2 hown3
      go_wp2
      exact ⟨⟨k + 1, by omega, by go_num, H1.out, H2.out, H3.out⟩, by simp [intOf]; omega⟩
    · obtain rfl : L = k := by omega
      go_wp2
      go_ret
      exact ⟨_, rfl, HG.out, owns_base HO.out (by omega)⟩
end Go.Proofs.Ythdklnkaeddogab
