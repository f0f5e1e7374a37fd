/-
  Of layer 6: compare.Cmp for all opcodes and vectors, with shapes.Relation and compare.stands. Conditions: bytes.
-/
import Derived.Test.YtdclbagfnabmkaaSlC
import Derived.Test.YtdclbagfnabmkaaSig
namespace Go.Proofs.Ytdclbagfnabmkaa
open Go.RowKit VecM
namespace Cp
/-- of an opcode: the width of the lanes that it compares, and how -/
def cW (op : Int) : Int := if 64803 ≤ op ∧ op < 64833 then (if (op - 64803) / 10 = 0 then 8 else if (op - 64803) / 10 = 1 then 16 else 32) else if 64982 ≤ op ∧ op < 64988 then 64 else 0
def k64 (d : Int) : Int := if d = 0 then 0 else if d = 1 then 1 else if d = 2 then 2 else if d = 3 then 4 else if d = 4 then 6 else 8
def cK (op : Int) : Int := if 64803 ≤ op ∧ op < 64833 then (op - 64803) % 10 else if 64982 ≤ op ∧ op < 64988 then k64 (op - 64982) else 0
theorem ret_t {a b c d : Int} (h : a = b) (h' : c = d) : Ending.returned (.tuple #[.int .i64 a, .int .i64 c]) = .returned (.tuple #[.int .i64 b, .int .i64 d]) := by rw [h, h']
theorem rel_any (op : Int) (ho : -9223372036854775808 ≤ op ∧ op ≤ 9223372036854775807) (w : World) : Calls Try.prog 25 #[.int .i64 op] w fun e w' => e = .returned (.tuple #[.int .i64 (cW op), .int .i64 (cK op)]) ∧ Gr w w' := by
  by_cases h1 : 64803 ≤ op ∧ op < 64833
  · obtain ⟨h2, h3⟩ := h1
    have hW : cW op = if (op - 64803) / 10 = 0 then 8 else if (op - 64803) / 10 = 1 then 16 else 32 := by unfold cW; rw [if_pos ⟨h2, h3⟩]
    have hK : cK op = (op - 64803) % 10 := by unfold cK; rw [if_pos ⟨h2, h3⟩]
    obtain ⟨q, hq⟩ : ∃ q : Int, (op - 64803) / 10 = q := ⟨_, rfl⟩
    have hqq : q = 0 ∨ q = 1 ∨ q = 2 := by omega
    rw [hq] at hW
    rcases hqq with rfl | rfl | rfl
    all_goals
      have HW := Lib.hid hW
      have HK := Lib.hid hK
      clear hW hK
      have hS := St.start w
      go_enter Try.func25, Try.ntmps25
      go_wp2
      go_ret2
      exact ⟨ret_t HW.out.symm HK.out.symm, hS.gr⟩
  · by_cases h2 : 64982 ≤ op ∧ op < 64988
    · obtain ⟨h3, h4⟩ := h2
      have hd : op = 64982 ∨ op = 64983 ∨ op = 64984 ∨ op = 64985 ∨ op = 64986 ∨ op = 64987 := by omega
      clear h1 h3 h4 ho
      rcases hd with rfl | rfl | rfl | rfl | rfl | rfl
      all_goals
        have hS := St.start w
        go_enter Try.func25, Try.ntmps25
        go_upto_region 4 with (fail)
        refine wp_region_lit ?_
        refine wpList_build_at rfl 46 _ rfl #[.int .i64 0, .int .i64 1, .int .i64 2, .int .i64 4, .int .i64 6, .int .i64 8] (by first | (simp only [List.map_toArray, List.map_cons, List.map_nil]; kernel_rfl) | kernel_rfl) ?_
        refine sl_new hS rfl #[.int .i64 0, .int .i64 0, .int .i64 0, .int .i64 0, .int .i64 0, .int .i64 0] 46 (fun b => .pointer (some ⟨b, 0, none⟩)) (by intro w; go_simp) ?_
        clear hS
        intro bt wk hS
        refine sl_store hS rfl 46 _ _ rfl rfl rfl (by repeat (first | exact Rep.hd | apply Rep.tl)) (by kernel_rfl) (by rfl) (by kernel_rfl) ?_
        clear hS
        intro wk hS
        go_upto_region 5 with (fail)
        refine sd_all hS (by kernel_rfl) (by kernel_rfl) ?_
        iterate 6 (refine sd_step (fun K hK => ?_); (first | (refine sd_cell rfl _ _ rfl rfl (by repeat (first | exact Has.hd | apply Has.tl)) (by rfl) (by intro w hc; go_simp) ?_) | (apply sd_yes rfl; focus (intro wx hx; go_simp; exact ⟨rfl, Gr.refl _⟩))); go_simp; refine hK _ ?_; clear hK K)
        refine sd_nil ?_
        clear hS
        intro wk hS
        go_wp2
        go_ret2
        exact ⟨rfl, hS.gr⟩
    · have hW : cW op = 0 := by unfold cW; rw [if_neg h1, if_neg h2]
      have hK : cK op = 0 := by unfold cK; rw [if_neg h1, if_neg h2]
      rw [hW, hK]
      have hc : op < 64803 ∨ (64833 ≤ op ∧ op < 64982) ∨ 64988 ≤ op := by omega
      clear hW hK h1 h2
      rcases hc with h | ⟨h, h'⟩ | h
      all_goals
        have hS := St.start w
        go_enter Try.func25, Try.ntmps25
        go_wp2
        go_ret2
        exact ⟨rfl, hS.gr⟩
def stB (k x y s r : Int) : Bool :=
  if k = 0 then x == y else if k = 1 then x != y else if k = 2 then decide (s < r) else if k = 3 then decide (x < y) else if k = 4 then decide (r < s) else if k = 5 then decide (y < x)
  else if k = 6 then decide (s ≤ r) else if k = 7 then decide (x ≤ y) else if k = 8 then decide (r ≤ s) else decide (y ≤ x)
set_option maxHeartbeats 1000000 in
theorem stands_any (k x y s r : Int) (hk : 0 ≤ k ∧ k ≤ 9) (w : World) : Calls Try.prog 27 #[.int .i64 k, .int .u64 x, .int .u64 y, .int .i64 s, .int .i64 r] w fun e w' => e = .returned (.bool (stB k x y s r)) ∧ w = w' := by
  obtain rfl | rfl | rfl | rfl | rfl | rfl | rfl | rfl | rfl | rfl : k = 0 ∨ k = 1 ∨ k = 2 ∨ k = 3 ∨ k = 4 ∨ k = 5 ∨ k = 6 ∨ k = 7 ∨ k = 8 ∨ k = 9 := by omega
  all_goals
    clear hk
    go_enter Try.func27, Try.ntmps27
    go_wp2
    go_ret
    exact ⟨rfl, rfl⟩
theorem cK_bd (op : Int) : 0 ≤ cK op ∧ cK op ≤ 9 := by
  unfold cK k64
  repeat' split
  all_goals omega
theorem cW_cases (op : Int) : cW op = 0 ∨ cW op = 8 ∨ cW op = 16 ∨ cW op = 32 ∨ cW op = 64 := by
  unfold cW
  repeat' split
  all_goals omega
/-- lanes set to all ones where they stand -/
def msk (v : Int) (p : Nat → Bool) : Nat → (Nat → Int)
  | 0 => fun _ => 0
  | k + 1 => if p k then setI (msk v p k) v k 18446744073709551615 else msk v p k
theorem msk_byt (v : Int) (p : Nat → Bool) : ∀ k, Byt (msk v p k)
  | 0 => fun _ => ⟨Int.le_refl _, by show (0 : Int) ≤ 255; decide⟩
  | k + 1 => by
    unfold msk
    split
    · exact setI_byt (msk_byt v p k) _ _ _
    · exact msk_byt v p k
def cpV (op : Int) (a b : Nat → Int) : Nat → Int := msk (cW op) (fun j => stB (cK op) (getI a (cW op) j) (getI b (cW op) j) (sgnI a (cW op) j) (sgnI b (cW op) j)) (lanesI (cW op)).toNat
theorem lanes_nat (v : Int) : lanesI v = ((lanesI v).toNat : Int) ∧ (lanesI v).toNat ≤ 16 := by
  have := lanes_bd v
  omega
theorem lanes0 : lanesI 0 = 0 := by decide
set_option maxRecDepth 100000 in
set_option maxHeartbeats 8000000 in
theorem cmp_any (op : Int) (ho : -9223372036854775808 ≤ op ∧ op ≤ 9223372036854775807) (a b : Nat → Int) (ha : Byt a) (hb : Byt b) (w : World) :
    Calls Try.prog 11 #[.int .i64 op, .agg (bs a), .agg (bs b)] w fun e w' => e = .returned (.tuple #[.agg (bs (cpV op a b)), .int .i64 (if cW op = 0 then 1 else 0)]) ∧ Gr w w' := by
  have HA := Lib.hid ha
  have HB := Lib.hid hb
  have CR := fun w => rel_any op ho w
  have hkb := cK_bd op
  have hwc := cW_cases op
  obtain ⟨hL, h16⟩ := lanes_nat (cW op)
  unfold cpV
  clear ha hb ho
  generalize cK op = kk at *
  generalize cW op = v at *
  by_cases h0 : v = 0
  · subst h0
    have XCR := Lib.hid CR
    clear CR hL h16 hwc hkb
    rw [lanes0]
    have hS := St.start w
    go_enter Try.func11, Try.ntmps11
    go_upto_region 3 with (first | (refine sl_load hS rfl 23 _ rfl rfl (by repeat (first | exact Has.hd | apply Has.tl)) Try.underlying23 rfl (by exact infoV) ?_) | (refine sl_store hS rfl 23 _ _ rfl rfl rfl (by repeat (first | exact Rep.hd | apply Rep.tl)) (by exact infoV) (by rfl) (bs_one _) ?_; clear hS; intro wk hS) | (refine sl_box hS rfl _ 23 (box_vec rfl rfl) ?_; clear hS; intro bk wk hS) | (refine sl_box hS rfl _ 23 (alloc_vec rfl) ?_; clear hS; intro bk wk hS) | (refine onlyN_end ?_) | (refine onlyN_now ?_) | ((go_at_call 25); (with_reducible refine sl_call hS (XCR.out _) ?_); clear hS; intro wk hS))
    refine wp_region_lit ?_
    refine wpList_build_at rfl 23 _ rfl (bs fun _ => 0) (by first | (simp only [List.map_toArray, List.map_nil]; kernel_rfl) | (simp only [Array.map_empty]; kernel_rfl)) ?_
    go_wp2_with (first | (refine sl_load hS rfl 23 _ rfl rfl (by repeat (first | exact Has.hd | apply Has.tl)) Try.underlying23 rfl (by exact infoV) ?_) | (refine sl_store hS rfl 23 _ _ rfl rfl rfl (by repeat (first | exact Rep.hd | apply Rep.tl)) (by exact infoV) (by rfl) (bs_one _) ?_; clear hS; intro wk hS) | (refine sl_box hS rfl _ 23 (box_vec rfl rfl) ?_; clear hS; intro bk wk hS) | (refine sl_box hS rfl _ 23 (alloc_vec rfl) ?_; clear hS; intro bk wk hS) | (refine onlyN_end ?_) | (refine onlyN_now ?_))
    refine sl_ret2 hS Try.results11 (by rfl) (by repeat (first | exact Has.hd | apply Has.tl)) Try.underlying23 rfl (by exact infoV) (by rfl) ?_
    exact ⟨rfl, hS.gr⟩
  · have hv0 : (v == 0) = false := beq_eq_false_iff_ne.2 h0
    rw [if_neg h0]
    have CL : ∀ w, Calls Try.prog 26 #[.int .i64 v] w fun e w' => e = .returned (.int .i64 ((lanesI v).toNat : Int)) ∧ Gr w w' := fun w => by rw [← hL]; exact calls_gr (lanes_any v w)
    have HLL := Lib.hid hL
    clear h0 hwc hL
    generalize (lanesI v).toNat = L at *
    have HS := Lib.hid (fun (x y s r : Int) w => stands_any kk x y s r hkb w)
    have HKB := Lib.hid hkb
    clear hkb
    have hS := St.start w
    have XCR := Lib.hid CR
    clear CR
    have XCL := Lib.hid CL
    clear CL
    go_enter Try.func11, Try.ntmps11
    go_upto_region 0 with (fail)
    refine wp_region_lit ?_
    refine sl_box hS rfl _ 23 (box_vec rfl rfl) ?_
    clear hS
    intro p wk hS
    refine sl_box hS rfl _ 23 (box_vec rfl rfl) ?_
    clear hS
    intro q wk hS
    refine sl_box hS rfl _ 23 (alloc_vec rfl) ?_
    clear hS
    intro r wk hS
    go_wp2_with (first | (refine sl_load hS rfl 23 _ rfl rfl (by repeat (first | exact Has.hd | apply Has.tl)) Try.underlying23 rfl (by exact infoV) ?_) | (refine sl_store hS rfl 23 _ _ rfl rfl rfl (by repeat (first | exact Rep.hd | apply Rep.tl)) (by exact infoV) (by rfl) (bs_one _) ?_; clear hS; intro wk hS) | (refine sl_box hS rfl _ 23 (box_vec rfl rfl) ?_; clear hS; intro bk wk hS) | (refine sl_box hS rfl _ 23 (alloc_vec rfl) ?_; clear hS; intro t wk hS) | (refine onlyN_end ?_) | (refine onlyN_now ?_) | ((go_at_call 25); (with_reducible refine sl_call hS (XCR.out _) ?_); clear hS; intro wk hS) | ((go_at_call 26); (with_reducible refine sl_call hS (XCL.out _) ?_); clear hS; intro wk hS))
    go_loopw [26] (fun u wr => ∃ k : Nat, k ≤ L ∧ u = .int .i64 k ∧ St w [⟨t, bs (msk v (fun j => stB kk (getI a v j) (getI b v j) (sgnI a v j) (sgnI b v j)) k), 23⟩, ⟨r, bs (fun _ => 0), 23⟩, ⟨q, bs b, 23⟩, ⟨p, bs a, 23⟩] wr) (fun u _ => L - (intOf u).toNat)
    case atStart => exact ⟨0, by omega, rfl, hS⟩
    case round =>
      obtain ⟨k, hk, rfl, hS⟩ := hrel
      by_cases hlt : k < L
      · have E1 := fun w => get_any a HA.out v k w
        have E2 := fun w => get_any b HB.out v k w
        have E3 := fun w => signed_any a HA.out v k w
        have E4 := fun w => signed_any b HB.out v k w
        have E5 := fun w => calls_gr (HS.out (getI a v k) (getI b v k) (sgnI a v k) (sgnI b v k) w)
        have HM := Lib.hid (show msk v (fun j => stB kk (getI a v j) (getI b v j) (sgnI a v j) (sgnI b v j)) (k + 1) = if stB kk (getI a v k) (getI b v k) (sgnI a v k) (sgnI b v k) then setI (msk v (fun j => stB kk (getI a v j) (getI b v j) (sgnI a v j) (sgnI b v j)) k) v k 18446744073709551615 else msk v (fun j => stB kk (getI a v j) (getI b v j) (sgnI a v j) (sgnI b v j)) k from rfl)
        have E6 := fun w => set_any (msk v (fun j => stB kk (getI a v j) (getI b v j) (sgnI a v j) (sgnI b v j)) k) v k 18446744073709551615 w
        generalize stB kk (getI a v k) (getI b v k) (sgnI a v k) (sgnI b v k) = yes at *
        generalize getI a v k = x at E1 E5
        generalize getI b v k = y at E2 E5
        generalize sgnI a v k = s at E3 E5
        generalize sgnI b v k = r at E4 E5
        generalize hc0 : msk v (fun j => stB kk (getI a v j) (getI b v j) (sgnI a v j) (sgnI b v j)) k = c0 at *
        have XE1 := Lib.hid E1
        clear E1
        have XE2 := Lib.hid E2
        clear E2
        have XE3 := Lib.hid E3
        clear E3
        have XE4 := Lib.hid E4
        clear E4
        have XE5 := Lib.hid E5
        clear E5
        have XE6 := Lib.hid E6
        clear E6
        have Xhc0 := Lib.hid hc0
        clear hc0
        go_upto_region 8 with (first | (refine sl_load hS rfl 23 _ rfl rfl (by repeat (first | exact Has.hd | apply Has.tl)) Try.underlying23 rfl (by exact infoV) ?_) | (refine sl_store hS rfl 23 _ _ rfl rfl rfl (by repeat (first | exact Rep.hd | apply Rep.tl)) (by exact infoV) (by rfl) (bs_one _) ?_; clear hS; intro wk hS) | (refine sl_box hS rfl _ 23 (box_vec rfl rfl) ?_; clear hS; intro bk wk hS) | (refine sl_box hS rfl _ 23 (alloc_vec rfl) ?_; clear hS; intro bk wk hS) | (refine onlyN_end ?_) | (refine onlyN_now ?_))
        refine sd_all hS (by kernel_rfl) (by kernel_rfl) ?_
        iterate 10 (refine sd_step (fun K hK => ?_); (first | (refine sd_load rfl 23 _ rfl rfl (by repeat (first | exact Has.hd | apply Has.tl)) Try.underlying23 rfl (by exact infoV) ?_) | (apply sd_yes rfl; focus (intro wx hx; go_simp; first | (apply sd_enter; first | fail | with_reducible exact XE1.out wx | with_reducible exact XE2.out wx) | exact ⟨rfl, Gr.refl _⟩)) | (refine sd_no rfl ?_)); go_simp; refine hK _ ?_; clear hK K)
        refine sd_nil ?_
        clear hS
        intro wk hS
        go_upto_region 9 with (first | (refine sl_load hS rfl 23 _ rfl rfl (by repeat (first | exact Has.hd | apply Has.tl)) Try.underlying23 rfl (by exact infoV) ?_) | (refine sl_store hS rfl 23 _ _ rfl rfl rfl (by repeat (first | exact Rep.hd | apply Rep.tl)) (by exact infoV) (by rfl) (bs_one _) ?_; clear hS; intro wk hS) | (refine sl_box hS rfl _ 23 (box_vec rfl rfl) ?_; clear hS; intro bk wk hS) | (refine sl_box hS rfl _ 23 (alloc_vec rfl) ?_; clear hS; intro bk wk hS) | (refine onlyN_end ?_) | (refine onlyN_now ?_))
        refine sd_all hS (by kernel_rfl) (by kernel_rfl) ?_
        iterate 10 (refine sd_step (fun K hK => ?_); (first | (refine sd_load rfl 23 _ rfl rfl (by repeat (first | exact Has.hd | apply Has.tl)) Try.underlying23 rfl (by exact infoV) ?_) | (apply sd_yes rfl; focus (intro wx hx; go_simp; first | (apply sd_enter; first | fail | with_reducible exact XE3.out wx | with_reducible exact XE4.out wx) | exact ⟨rfl, Gr.refl _⟩)) | (refine sd_no rfl ?_)); go_simp; refine hK _ ?_; clear hK K)
        refine sd_nil ?_
        clear hS
        intro wk hS
        cases yes
        · go_wp2_with (first | (refine sl_load hS rfl 23 _ rfl rfl (by repeat (first | exact Has.hd | apply Has.tl)) Try.underlying23 rfl (by exact infoV) ?_) | (refine sl_store hS rfl 23 _ _ rfl rfl rfl (by repeat (first | exact Rep.hd | apply Rep.tl)) (by exact infoV) (by rfl) (bs_one _) ?_; clear hS; intro wk hS) | (refine sl_box hS rfl _ 23 (box_vec rfl rfl) ?_; clear hS; intro bk wk hS) | (refine sl_box hS rfl _ 23 (alloc_vec rfl) ?_; clear hS; intro bk wk hS) | (refine onlyN_end ?_) | (refine onlyN_now ?_) | ((go_at_call 27); (with_reducible refine sl_call hS (XE5.out _) ?_); clear hS; intro wk hS) | ((go_at_call 28); (with_reducible refine sl_call hS (XE6.out _) ?_); clear hS; intro wk hS))
          exact ⟨⟨k + 1, by omega, by go_num, by rw [HM.out]; exact hS⟩, by simp [intOf]; omega⟩
        · go_wp2_with (first | (refine sl_load hS rfl 23 _ rfl rfl (by repeat (first | exact Has.hd | apply Has.tl)) Try.underlying23 rfl (by exact infoV) ?_) | (refine sl_store hS rfl 23 _ _ rfl rfl rfl (by repeat (first | exact Rep.hd | apply Rep.tl)) (by exact infoV) (by rfl) (bs_one _) ?_; clear hS; intro wk hS) | (refine sl_box hS rfl _ 23 (box_vec rfl rfl) ?_; clear hS; intro bk wk hS) | (refine sl_box hS rfl _ 23 (alloc_vec rfl) ?_; clear hS; intro bk wk hS) | (refine onlyN_end ?_) | (refine onlyN_now ?_) | ((go_at_call 27); (with_reducible refine sl_call hS (XE5.out _) ?_); clear hS; intro wk hS) | ((go_at_call 28); (with_reducible refine sl_call hS (XE6.out _) ?_); clear hS; intro wk hS))
          exact ⟨⟨k + 1, by omega, by go_num, by rw [HM.out]; exact hS⟩, by simp [intOf]; omega⟩
      · obtain rfl : k = L := by omega
        go_wp2_with (first | (refine sl_load hS rfl 23 _ rfl rfl (by repeat (first | exact Has.hd | apply Has.tl)) Try.underlying23 rfl (by exact infoV) ?_) | (refine sl_store hS rfl 23 _ _ rfl rfl rfl (by repeat (first | exact Rep.hd | apply Rep.tl)) (by exact infoV) (by rfl) (bs_one _) ?_; clear hS; intro wk hS) | (refine sl_box hS rfl _ 23 (box_vec rfl rfl) ?_; clear hS; intro bk wk hS) | (refine sl_box hS rfl _ 23 (alloc_vec rfl) ?_; clear hS; intro bk wk hS) | (refine onlyN_end ?_) | (refine onlyN_now ?_))
        refine sl_ret2 hS Try.results11 (by rfl) (by repeat (first | exact Has.hd | apply Has.tl)) Try.underlying23 rfl (by exact infoV) (by rfl) ?_
        exact ⟨rfl, hS.gr⟩
end Cp
end Go.Proofs.Ytdclbagfnabmkaa
