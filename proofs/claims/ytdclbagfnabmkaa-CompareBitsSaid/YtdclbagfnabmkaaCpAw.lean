/-
  Of layer 6's laws: awake, the answers that the document fixes by number. No condition.
-/
import Derived.Test.YtdclbagfnabmkaaCpOwn
namespace Go.Proofs.Ytdclbagfnabmkaa
open Go.RowKit VecM
namespace Cp
def sbI (op : Int) : Int := if op = 64845 then 1 else if op = 64846 ∨ op = 64847 ∨ op = 64848 ∨ op = 64849 then 2 else if op = 64850 then 3 else 0
set_option maxHeartbeats 1000000 in
theorem bits_no (op : Int) (x : Option Addr) (n c : Nat) (h : sbI op = 0 ∨ sbI op ≠ n) (w : World) :
    Calls Try.prog 15 #[.int .i64 op, .slice x n c] w fun e w' => e = .returned (.tuple #[.agg (bs fun _ => 0), .int .i64 1]) ∧ Gr w w' := by
  have CB : ∀ w, Calls Try.prog 35 #[.int .i64 op] w fun e w' => e = .returned (.int .i64 (sbI op)) ∧ Gr w w' := fun w => calls_gr (sbits_any op w)
  generalize sbI op = d at *
  have XCB := Lib.hid CB
  clear CB
  by_cases h0 : d = 0
  · subst h0
    clear h
    have hS := St.start w
    go_enter Try.func15, Try.ntmps15
    go_upto_region 3 with (first | (refine sl_load hS rfl 23 _ rfl rfl (by repeat (first | exact Has.hd | apply Has.tl)) Try.underlying23 rfl (by exact infoV) ?_) | (refine sl_store hS rfl 23 _ _ rfl rfl rfl (by repeat (first | exact Rep.hd | apply Rep.tl)) (by exact infoV) (by rfl) (bs_one _) ?_; clear hS; intro wk hS) | (refine sl_box hS rfl _ 23 (box_vec rfl rfl) ?_; clear hS; intro bk wk hS) | (refine sl_box hS rfl _ 23 (alloc_vec rfl) ?_; clear hS; intro bk wk hS) | (refine onlyN_end ?_) | (refine onlyN_now ?_) | ((go_at_call 35); (with_reducible refine sl_call hS (XCB.out _) ?_); clear hS; intro wk hS))
    refine wp_region_lit ?_
    refine wpList_build_at rfl 23 _ rfl (bs fun _ => 0) (by first | (simp only [List.map_toArray, List.map_nil]; kernel_rfl) | (simp only [Array.map_empty]; kernel_rfl)) ?_
    go_wp2_with (first | (refine sl_load hS rfl 23 _ rfl rfl (by repeat (first | exact Has.hd | apply Has.tl)) Try.underlying23 rfl (by exact infoV) ?_) | (refine sl_store hS rfl 23 _ _ rfl rfl rfl (by repeat (first | exact Rep.hd | apply Rep.tl)) (by exact infoV) (by rfl) (bs_one _) ?_; clear hS; intro wk hS) | (refine sl_box hS rfl _ 23 (box_vec rfl rfl) ?_; clear hS; intro bk wk hS) | (refine sl_box hS rfl _ 23 (alloc_vec rfl) ?_; clear hS; intro bk wk hS) | (refine onlyN_end ?_) | (refine onlyN_now ?_))
    refine sl_ret2 hS Try.results15 (by rfl) (by repeat (first | exact Has.hd | apply Has.tl)) Try.underlying23 rfl (by exact infoV) (by rfl) ?_
    exact ⟨rfl, hS.gr⟩
  · have h1 : d ≠ n := by omega
    have h2 : (d == 0) = false := beq_eq_false_iff_ne.2 h0
    have h3 : (d == (n : Int)) = false := beq_eq_false_iff_ne.2 h1
    have h4 : (d != (n : Int)) = true := by simp [bne, h3]
    clear h h0
    have hS := St.start w
    go_enter Try.func15, Try.ntmps15
    go_upto_region 3 with (first | (refine sl_load hS rfl 23 _ rfl rfl (by repeat (first | exact Has.hd | apply Has.tl)) Try.underlying23 rfl (by exact infoV) ?_) | (refine sl_store hS rfl 23 _ _ rfl rfl rfl (by repeat (first | exact Rep.hd | apply Rep.tl)) (by exact infoV) (by rfl) (bs_one _) ?_; clear hS; intro wk hS) | (refine sl_box hS rfl _ 23 (box_vec rfl rfl) ?_; clear hS; intro bk wk hS) | (refine sl_box hS rfl _ 23 (alloc_vec rfl) ?_; clear hS; intro bk wk hS) | (refine onlyN_end ?_) | (refine onlyN_now ?_) | ((go_at_call 35); (with_reducible refine sl_call hS (XCB.out _) ?_); clear hS; intro wk hS))
    refine wp_region_lit ?_
    refine wpList_build_at rfl 23 _ rfl (bs fun _ => 0) (by first | (simp only [List.map_toArray, List.map_nil]; kernel_rfl) | (simp only [Array.map_empty]; kernel_rfl)) ?_
    go_wp2_with (first | (refine sl_load hS rfl 23 _ rfl rfl (by repeat (first | exact Has.hd | apply Has.tl)) Try.underlying23 rfl (by exact infoV) ?_) | (refine sl_store hS rfl 23 _ _ rfl rfl rfl (by repeat (first | exact Rep.hd | apply Rep.tl)) (by exact infoV) (by rfl) (bs_one _) ?_; clear hS; intro wk hS) | (refine sl_box hS rfl _ 23 (box_vec rfl rfl) ?_; clear hS; intro bk wk hS) | (refine sl_box hS rfl _ 23 (alloc_vec rfl) ?_; clear hS; intro bk wk hS) | (refine onlyN_end ?_) | (refine onlyN_now ?_))
    refine sl_ret2 hS Try.results15 (by rfl) (by repeat (first | exact Has.hd | apply Has.tl)) Try.underlying23 rfl (by exact infoV) (by rfl) ?_
    exact ⟨rfl, hS.gr⟩
def wA : Nat → Int := ofK (fun _ => 0) 8 (fun _ => 255) (ofN 8 1)
def wB : Nat → Int := ofK (fun _ => 0) 8 (fun _ => 1) (ofN 8 1)
def wDf : Nat → Int := fun j => if j = 0 then 0 else 9223372036854775808
def wD : Nat → Int := ofK (fun _ => 0) 64 wDf (ofN 64 2)
theorem byt0 : Byt fun _ => 0 := fun _ => ⟨Int.le_refl _, by show (0 : Int) ≤ 255; decide⟩
theorem wA_byt : Byt wA := ofK_byt byt0 _ _ _
theorem wB_byt : Byt wB := ofK_byt byt0 _ _ _
theorem wD_byt : Byt wD := ofK_byt byt0 _ _ _
theorem aw_val : (∀ m, m < 16 → cpV 64805 wA wB m = wA m) ∧ (∀ m, m < 16 → bw 64848 wA wB m = wA m) ∧ cW 64805 = 8 ∧ tsV 64964 wD = 2 ∧ tsOk 64964 = 0 ∧ sbI 64848 = 2 := by decide +kernel
theorem aw_of (v : Int) (zs : Nat → Int) (n : Nat) (cs : Array Value) {w0 w : World} {M : List Ent} (hS : St w0 M w) {g : Nat} (hm : Has M g cs 42) (hc : ∀ j, j < n → cs[j]? = some (.int .u64 (zs j))) (hn : n ≤ 9223372036854775807) :
    Calls Try.prog 24 #[.int .i64 v, .slice (some ⟨g, 0, none⟩) n n] w fun e w' => e = .returned (.agg (bs (ofK (fun _ => 0) v zs (ofN v n)))) ∧ Gr w w' :=
  of_any v _ n zs w (.inr ⟨hn, g, 0, n, rfl, fun j hj => by rw [Nat.zero_add, hS.cell hm j]; exact hc j hj⟩)
theorem eq_same (b : Nat → Int) (w : World) : (Op.equalIn 10000 23 (.agg (bs b)) (.agg (bs b))).run Try.prog w = .ok true w := by rw [eq_vec, vecB_refl]
set_option maxRecDepth 100000 in
set_option maxHeartbeats 4000000 in
theorem awake (w : World) : Calls Try.prog 10 #[] w fun e w' => e = .returned (.bool true) ∧ Gr w w' := by
  have hC := fun w => cmp_any 64805 (by omega) wA wB wA_byt wB_byt w
  rw [bs_congr aw_val.1, if_neg (by rw [aw_val.2.2.1]; decide)] at hC
  have XC := Lib.hid hC
  have hT := fun w => test_any 64964 (by omega) wD wD_byt w
  rw [aw_val.2.2.2.1, aw_val.2.2.2.2.1] at hT
  have XT := Lib.hid hT
  clear hC hT
  have hS := St.start w
  go_enter Try.func10, Try.ntmps10
  go_upto_region 1 with (fail)
  refine wp_region_lit ?_
  refine sl_new hS rfl #[.int .u64 255] 42 (fun b => .slice (some ⟨b, 0, none⟩) 1 1) (by intro w; go_simp) ?_
  clear hS
  intro b1 wk hS
  have ho := aw_of 8 (fun _ => 255) 1 _ hS Has.hd (fun j hj => by
    obtain rfl : j = 0 := by omega
    rfl) (by decide)
  rw [show ofK (fun _ => 0) 8 (fun _ => 255) (ofN 8 1) = wA from rfl] at ho
  have HO := Lib.hid ho
  clear ho
  go_upto_region 2 with (first | (refine sl_load hS rfl 23 _ rfl rfl (by repeat (first | exact Has.hd | apply Has.tl)) Try.underlying23 rfl (by exact infoV) ?_) | (refine sl_store hS rfl 23 _ _ rfl rfl rfl (by repeat (first | exact Rep.hd | apply Rep.tl)) (by exact infoV) (by rfl) (bs_one _) ?_; clear hS; intro wk hS) | (refine sl_box hS rfl _ 23 (box_vec rfl rfl) ?_; clear hS; intro bk wk hS) | (refine sl_box hS rfl _ 23 (alloc_vec rfl) ?_; clear hS; intro bk wk hS) | (refine onlyN_end ?_) | (refine onlyN_now ?_) | ((go_at_call 24); (with_reducible refine sl_call hS HO.out ?_); clear hS; intro wk hS))
  clear HO
  refine wp_region_lit ?_
  refine sl_new hS rfl #[.int .u64 1] 42 (fun b => .slice (some ⟨b, 0, none⟩) 1 1) (by intro w; go_simp) ?_
  clear hS
  intro b2 wk hS
  have ho := aw_of 8 (fun _ => 1) 1 _ hS Has.hd (fun j hj => by
    obtain rfl : j = 0 := by omega
    rfl) (by decide)
  rw [show ofK (fun _ => 0) 8 (fun _ => 1) (ofN 8 1) = wB from rfl] at ho
  have HO := Lib.hid ho
  clear ho
  go_upto_region 4 with (first | (refine sl_load hS rfl 23 _ rfl rfl (by repeat (first | exact Has.hd | apply Has.tl)) Try.underlying23 rfl (by exact infoV) ?_) | (refine sl_store hS rfl 23 _ _ rfl rfl rfl (by repeat (first | exact Rep.hd | apply Rep.tl)) (by exact infoV) (by rfl) (bs_one _) ?_; clear hS; intro wk hS) | (refine sl_box hS rfl _ 23 (box_vec rfl rfl) ?_; clear hS; intro bk wk hS) | (refine sl_box hS rfl _ 23 (alloc_vec rfl) ?_; clear hS; intro bk wk hS) | (refine onlyN_end ?_) | (refine onlyN_now ?_) | ((go_at_call 24); (with_reducible refine sl_call hS HO.out ?_); clear hS; intro wk hS) | ((go_at_call 11); (with_reducible refine sl_call hS (XC.out _) ?_); clear hS; intro wk hS))
  clear HO
  refine wp_region_lit ?_
  refine sl_new hS rfl #[.int .u64 0, .int .u64 9223372036854775808] 42 (fun b => .slice (some ⟨b, 0, none⟩) 2 2) (by intro w; go_simp) ?_
  clear hS
  intro b3 wk hS
  have ho := aw_of 64 wDf 2 _ hS Has.hd (fun j hj => by
    match j, hj with
    | 0, _ => rfl
    | 1, _ => rfl) (by decide)
  rw [show ofK (fun _ => 0) 64 wDf (ofN 64 2) = wD from rfl] at ho
  have HO := Lib.hid ho
  clear ho
  go_upto_region 5 with (first | (refine sl_load hS rfl 23 _ rfl rfl (by repeat (first | exact Has.hd | apply Has.tl)) Try.underlying23 rfl (by exact infoV) ?_) | (refine sl_store hS rfl 23 _ _ rfl rfl rfl (by repeat (first | exact Rep.hd | apply Rep.tl)) (by exact infoV) (by rfl) (bs_one _) ?_; clear hS; intro wk hS) | (refine sl_box hS rfl _ 23 (box_vec rfl rfl) ?_; clear hS; intro bk wk hS) | (refine sl_box hS rfl _ 23 (alloc_vec rfl) ?_; clear hS; intro bk wk hS) | (refine onlyN_end ?_) | (refine onlyN_now ?_) | ((go_at_call 24); (with_reducible refine sl_call hS HO.out ?_); clear hS; intro wk hS) | ((go_at_call 13); (with_reducible refine sl_call hS (XT.out _) ?_); clear hS; intro wk hS))
  clear HO
  refine wp_region_lit ?_
  refine sl_load hS rfl 23 _ rfl rfl (by repeat (first | exact Has.hd | apply Has.tl)) Try.underlying23 rfl (by exact infoV) ?_
  refine sl_load hS rfl 23 _ rfl rfl (by repeat (first | exact Has.hd | apply Has.tl)) Try.underlying23 rfl (by exact infoV) ?_
  refine sl_new hS rfl (bs2 wA wB) 23 (fun b => .slice (some ⟨b, 0, none⟩) 2 2) (by intro w; go_simp) ?_
  clear hS
  intro b4 wk hS
  have hc := bits2 64848 (by omega) (a := wA) (b := wB) hS Has.hd
  rw [bs_congr aw_val.2.1] at hc
  have HO := Lib.hid hc
  clear hc
  go_upto_region 6 with (first | (refine sl_load hS rfl 23 _ rfl rfl (by repeat (first | exact Has.hd | apply Has.tl)) Try.underlying23 rfl (by exact infoV) ?_) | (refine sl_store hS rfl 23 _ _ rfl rfl rfl (by repeat (first | exact Rep.hd | apply Rep.tl)) (by exact infoV) (by rfl) (bs_one _) ?_; clear hS; intro wk hS) | (refine sl_box hS rfl _ 23 (box_vec rfl rfl) ?_; clear hS; intro bk wk hS) | (refine sl_box hS rfl _ 23 (alloc_vec rfl) ?_; clear hS; intro bk wk hS) | (refine onlyN_end ?_) | (refine onlyN_now ?_) | ((go_at_call 15); (with_reducible refine sl_call hS HO.out ?_); clear hS; intro wk hS))
  clear HO
  refine wp_region_lit ?_
  refine sl_load hS rfl 23 _ rfl rfl (by repeat (first | exact Has.hd | apply Has.tl)) Try.underlying23 rfl (by exact infoV) ?_
  refine sl_new hS rfl (bs wA) 23 (fun b => .slice (some ⟨b, 0, none⟩) 1 1) (by intro w; go_simp) ?_
  clear hS
  intro b5 wk hS
  have HO := Lib.hid (bits_no 64848 (some ⟨b5, 0, none⟩) 1 1 (by rw [aw_val.2.2.2.2.2]; omega) wk)
  go_upto_region 7 with (first | (refine sl_load hS rfl 23 _ rfl rfl (by repeat (first | exact Has.hd | apply Has.tl)) Try.underlying23 rfl (by exact infoV) ?_) | (refine sl_store hS rfl 23 _ _ rfl rfl rfl (by repeat (first | exact Rep.hd | apply Rep.tl)) (by exact infoV) (by rfl) (bs_one _) ?_; clear hS; intro wk hS) | (refine sl_box hS rfl _ 23 (box_vec rfl rfl) ?_; clear hS; intro bk wk hS) | (refine sl_box hS rfl _ 23 (alloc_vec rfl) ?_; clear hS; intro bk wk hS) | (refine onlyN_end ?_) | (refine onlyN_now ?_) | ((go_at_call 15); (with_reducible refine sl_call hS HO.out ?_); clear hS; intro wk hS))
  clear HO
  have hq := fun w => eq_same wA w
  go_wp2_with (first | (refine sl_load hS rfl 23 _ rfl rfl (by repeat (first | exact Has.hd | apply Has.tl)) Try.underlying23 rfl (by exact infoV) ?_) | (refine sl_store hS rfl 23 _ _ rfl rfl rfl (by repeat (first | exact Rep.hd | apply Rep.tl)) (by exact infoV) (by rfl) (bs_one _) ?_; clear hS; intro wk hS) | (refine sl_box hS rfl _ 23 (box_vec rfl rfl) ?_; clear hS; intro bk wk hS) | (refine sl_box hS rfl _ 23 (alloc_vec rfl) ?_; clear hS; intro bk wk hS) | (refine onlyN_end ?_) | (refine onlyN_now ?_))
  go_ret
  exact ⟨rfl, hS.gr⟩
end Cp
end Go.Proofs.Ytdclbagfnabmkaa
