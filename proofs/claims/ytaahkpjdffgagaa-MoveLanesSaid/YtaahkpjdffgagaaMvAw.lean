/-
  Of layer 7's laws: numbers, low, awake. Conditions: those of each theorem.
-/
import Derived.Test.YtaahkpjdffgagaaMvEx
import Derived.Test.YtaahkpjdffgagaaMvSw
import Derived.Test.YtaahkpjdffgagaaOf
import Derived.Test.YtaahkpjdffgagaaSm
namespace Go.Proofs.Ytaahkpjdffgagaa
open Go.RowKit VecM
namespace Mv
def numV (f : Nat) : Nat → Int := fun m => if m < 16 then (f : Int) + m else 0
theorem numV_at (f k : Nat) (h : k < 16) : numV f k = (f : Int) + k := by unfold numV; rw [if_pos h]
theorem numV_byt (f : Nat) (hf : f ≤ 240) : Byt (numV f) := fun m => by unfold numV; split <;> omega
set_option maxHeartbeats 2000000 in
theorem numbers_any (f : Nat) (hf : f ≤ 240) (w : World) : Calls Try.prog 21 #[.int .i64 f] w fun e w' => e = .returned (.agg (bs (numV f))) ∧ Gr w w' := by
  rw [← upto_all (numV f)]
  have hS := St.start w
  go_enter Try.func21, Try.ntmps21
  go_upto_region 0 with (fail)
  refine wp_region_lit ?_
  refine sl_box hS rfl _ 26 (alloc_vec rfl) ?_
  clear hS
  intro p1 wk hS
  go_upto_region 1 with (first | (refine sl_load hS rfl 26 _ rfl rfl (by repeat (first | exact Has.hd | apply Has.tl)) Try.underlying26 rfl (by exact infoV) ?_) | (refine sl_store hS rfl 26 _ _ rfl rfl rfl (by repeat (first | exact Rep.hd | apply Rep.tl)) (by exact infoV) (by rfl) (bs_one _) ?_; clear hS; intro wk hS) | (refine sl_box hS rfl _ 26 (box_vec rfl rfl) ?_; clear hS; intro bk wk hS) | (refine sl_box hS rfl _ 26 (alloc_vec rfl) ?_; clear hS; intro bk wk hS) | (refine onlyN_end ?_) | (refine onlyN_now ?_))
  refine wp_region_lit ?_
  refine wpList_build_at rfl 26 _ rfl (bs fun _ => 0) (by first | (simp only [List.map_toArray, List.map_nil]; kernel_rfl) | (simp only [Array.map_empty]; kernel_rfl)) ?_
  go_wp2_with (first | (refine sl_load hS rfl 26 _ rfl rfl (by repeat (first | exact Has.hd | apply Has.tl)) Try.underlying26 rfl (by exact infoV) ?_) | (refine sl_store hS rfl 26 _ _ rfl rfl rfl (by repeat (first | exact Rep.hd | apply Rep.tl)) (by exact infoV) (by rfl) (bs_one _) ?_; clear hS; intro wk hS) | (refine sl_box hS rfl _ 26 (box_vec rfl rfl) ?_; clear hS; intro bk wk hS) | (refine sl_box hS rfl _ 26 (alloc_vec rfl) ?_; clear hS; intro p2 wk hS) | (refine onlyN_end ?_) | (refine onlyN_now ?_))
  go_loopw [4] (fun u wr => ∃ k : Nat, k ≤ 16 ∧ u = .int .i64 k ∧ St w [⟨p2, bs (upto k (numV f)), 26⟩, ⟨p1, bs (fun _ => 0), 26⟩] wr) (fun u _ => 16 - (intOf u).toNat)
  case atStart => exact ⟨0, by omega, rfl, by rw [upto0]; exact hS⟩
  case round =>
    obtain ⟨k, hk, rfl, hS⟩ := hrel
    by_cases hlt : k < 16
    · have hw' := upto_succ (numV f) k
      rw [numV_at f k hlt] at hw'
      have hW := Lib.hid hw'
      clear hw'
      have hpt := Lib.hid (bs_upd (upto k (numV f)) k ((f : Int) + k) hlt)
      go_wp2_with (first | (refine sl_load hS rfl 26 _ rfl rfl (by repeat (first | exact Has.hd | apply Has.tl)) Try.underlying26 rfl (by exact infoV) ?_) | (refine sl_store hS rfl 26 _ _ rfl rfl rfl (by repeat (first | exact Rep.hd | apply Rep.tl)) (by exact infoV) (by rfl) (bs_one _) ?_; clear hS; intro wk hS) | (refine sl_box hS rfl _ 26 (box_vec rfl rfl) ?_; clear hS; intro bk wk hS) | (refine sl_box hS rfl _ 26 (alloc_vec rfl) ?_; clear hS; intro bk wk hS) | (refine onlyN_end ?_) | (refine onlyN_now ?_) | (refine sl_addr rfl 26 5 _ _ rfl rfl _ k rfl Try.underlying26 info8 size8 hlt ?_) | (refine sl_put hS rfl 5 _ _ rfl rfl rfl (by repeat (first | exact Rep.hd | apply Rep.tl)) (by exact hlt) hpt.out info8 size8 rfl ?_; clear hS; intro wk hS))
      exact ⟨⟨k + 1, by omega, by go_num, by rw [← hW.out]; exact hS⟩, by simp [intOf]; omega⟩
    · obtain rfl : k = 16 := by omega
      go_wp2_with (first | (refine sl_load hS rfl 26 _ rfl rfl (by repeat (first | exact Has.hd | apply Has.tl)) Try.underlying26 rfl (by exact infoV) ?_) | (refine sl_store hS rfl 26 _ _ rfl rfl rfl (by repeat (first | exact Rep.hd | apply Rep.tl)) (by exact infoV) (by rfl) (bs_one _) ?_; clear hS; intro wk hS) | (refine sl_box hS rfl _ 26 (box_vec rfl rfl) ?_; clear hS; intro bk wk hS) | (refine sl_box hS rfl _ 26 (alloc_vec rfl) ?_; clear hS; intro bk wk hS) | (refine onlyN_end ?_) | (refine onlyN_now ?_))
      refine sl_ret hS Try.results21 (by rfl) (by repeat (first | exact Has.hd | apply Has.tl)) Try.underlying26 rfl (by exact infoV) (by rfl) ?_
      exact ⟨rfl, hS.gr⟩
def lowV (s : Nat → Int) : Nat → Int := fun m => s m % 32
theorem lowV_byt (s : Nat → Int) : Byt (lowV s) := fun m => by unfold lowV; omega
theorem lowV_lt (s : Nat → Int) (m : Nat) : lowV s m < 32 := by unfold lowV; omega
/-- the first k places by f, the others by g -/
def mixed (k : Nat) (f g : Nat → Int) : Nat → Int := fun m => if m < k then f m else g m
theorem mixed0 (f g : Nat → Int) : mixed 0 f g = g := by funext m; unfold mixed; rw [if_neg (by omega)]
theorem mixed_succ (f g : Nat → Int) (k : Nat) : upd (mixed k f g) k (f k) = mixed (k + 1) f g := by
  funext m; unfold upd mixed
  by_cases h : m = k
  · subst h; rw [if_pos rfl, if_pos (by omega)]
  · rw [if_neg h]
    by_cases h2 : m < k
    · rw [if_pos h2, if_pos (by omega)]
    · rw [if_neg h2, if_neg (by omega)]
theorem mixed_all (f g : Nat → Int) : bs (mixed 16 f g) = bs f := bs_congr fun m hm => by unfold mixed; rw [if_pos hm]
theorem mixed_skip (f g : Nat → Int) (k : Nat) (h : f k = g k) : mixed k f g = mixed (k + 1) f g := by
  funext m; unfold mixed
  by_cases h1 : m = k
  · subst h1; rw [if_neg (by omega), if_pos (by omega), h]
  · by_cases h2 : m < k
    · rw [if_pos h2, if_pos (by omega)]
    · rw [if_neg h2, if_neg (by omega)]
theorem mixed_at (f g : Nat → Int) (k : Nat) : mixed k f g k = g k := by unfold mixed; rw [if_neg (by omega)]
set_option maxHeartbeats 2000000 in
theorem low_any (s : Nat → Int) (hs : Byt s) (w : World) : Calls Try.prog 20 #[.agg (bs s)] w fun e w' => e = .returned (.agg (bs (lowV s))) ∧ Gr w w' := by
  rw [← mixed_all (lowV s) s]
  have HB := Lib.hid hs
  clear hs
  have hS := St.start w
  go_enter Try.func20, Try.ntmps20
  go_upto_region 0 with (fail)
  refine wp_region_lit ?_
  refine sl_box hS rfl _ 26 (box_vec rfl rfl) ?_
  clear hS
  intro p1 wk hS
  refine sl_box hS rfl _ 26 (alloc_vec rfl) ?_
  clear hS
  intro p2 wk hS
  go_wp2_with (first | (refine sl_load hS rfl 26 _ rfl rfl (by repeat (first | exact Has.hd | apply Has.tl)) Try.underlying26 rfl (by exact infoV) ?_) | (refine sl_store hS rfl 26 _ _ rfl rfl rfl (by repeat (first | exact Rep.hd | apply Rep.tl)) (by exact infoV) (by rfl) (bs_one _) ?_; clear hS; intro wk hS) | (refine sl_box hS rfl _ 26 (box_vec rfl rfl) ?_; clear hS; intro bk wk hS) | (refine sl_box hS rfl _ 26 (alloc_vec rfl) ?_; clear hS; intro bk wk hS) | (refine onlyN_end ?_) | (refine onlyN_now ?_))
  go_loopw [3] (fun u wr => ∃ k : Nat, k ≤ 16 ∧ u = .int .i64 k ∧ St w [⟨p2, bs (fun _ => 0), 26⟩, ⟨p1, bs (mixed k (lowV s) s), 26⟩] wr) (fun u _ => 16 - (intOf u).toNat)
  case atStart => exact ⟨0, by omega, rfl, by rw [mixed0]; exact hS⟩
  case round =>
    obtain ⟨k, hk, rfl, hS⟩ := hrel
    by_cases hlt : k < 16
    · have hb := HB.out k
      have hw' := mixed_succ (lowV s) s k
      rw [show lowV s k = s k % 32 from rfl] at hw'
      have hv := bs_get (mixed k (lowV s) s) k hlt
      rw [mixed_at] at hv
      have hpt := bs_upd (mixed k (lowV s) s) k (s k % 32) hlt
      generalize s k = x at *
      have hmod : Int.tmod x 32 = x % 32 := Int.tmod_eq_emod_of_nonneg hb.1
      have hW := Lib.hid hw'
      have HV := Lib.hid hv
      have HP := Lib.hid hpt
      clear hw' hv hpt
      go_wp2_with (first | (refine sl_load hS rfl 26 _ rfl rfl (by repeat (first | exact Has.hd | apply Has.tl)) Try.underlying26 rfl (by exact infoV) ?_) | (refine sl_store hS rfl 26 _ _ rfl rfl rfl (by repeat (first | exact Rep.hd | apply Rep.tl)) (by exact infoV) (by rfl) (bs_one _) ?_; clear hS; intro wk hS) | (refine sl_box hS rfl _ 26 (box_vec rfl rfl) ?_; clear hS; intro bk wk hS) | (refine sl_box hS rfl _ 26 (alloc_vec rfl) ?_; clear hS; intro bk wk hS) | (refine onlyN_end ?_) | (refine onlyN_now ?_) | (refine sl_addr rfl 26 5 _ _ rfl rfl _ k rfl Try.underlying26 info8 size8 hlt ?_) | (refine sl_cell hS rfl _ _ rfl rfl (by repeat (first | exact Has.hd | apply Has.tl)) HV.out (by intro w hc; go_simp) ?_) | (refine sl_put hS rfl 5 _ _ rfl rfl rfl (by repeat (first | exact Rep.hd | apply Rep.tl)) (by exact hlt) HP.out info8 size8 rfl ?_; clear hS; intro wk hS))
      exact ⟨⟨k + 1, by omega, by go_num, by rw [← hW.out]; exact hS⟩, by simp [intOf]; omega⟩
    · obtain rfl : k = 16 := by omega
      go_wp2_with (first | (refine sl_load hS rfl 26 _ rfl rfl (by repeat (first | exact Has.hd | apply Has.tl)) Try.underlying26 rfl (by exact infoV) ?_) | (refine sl_store hS rfl 26 _ _ rfl rfl rfl (by repeat (first | exact Rep.hd | apply Rep.tl)) (by exact infoV) (by rfl) (bs_one _) ?_; clear hS; intro wk hS) | (refine sl_box hS rfl _ 26 (box_vec rfl rfl) ?_; clear hS; intro bk wk hS) | (refine sl_box hS rfl _ 26 (alloc_vec rfl) ?_; clear hS; intro bk wk hS) | (refine onlyN_end ?_) | (refine onlyN_now ?_))
      refine sl_ret hS Try.results20 (by rfl) (by repeat (first | exact Has.hd | apply Has.tl)) Try.underlying26 rfl (by exact infoV) (by rfl) ?_
      exact ⟨rfl, hS.gr⟩
theorem aw_of (v : Int) (zs : Nat → Int) (n : Nat) (cs : Array Value) {w0 w : World} {M : List Ent} (hS : St w0 M w) {g : Nat} (hm : Has M g cs 22) (hc : ∀ j, j < n → cs[j]? = some (.int .u64 (zs j))) (hn : n ≤ 9223372036854775807) :
    Calls Try.prog 23 #[.int .i64 v, .slice (some ⟨g, 0, none⟩) n n] w fun e w' => e = .returned (.agg (bs (ofK (fun _ => 0) v zs (ofN v n)))) ∧ Gr w w' :=
  of_any v _ n zs w (.inr ⟨hn, g, 0, n, rfl, fun j hj => by rw [Nat.zero_add, hS.cell hm j]; exact hc j hj⟩)
theorem aw_ofc (v : Int) (zs : Nat → Int) (n : Nat) (cs : Array Value) {c : Nat → Int} (he : ofK (fun _ => 0) v zs (ofN v n) = c) {w0 w : World} {M : List Ent} (hS : St w0 M w) {g : Nat} (hm : Has M g cs 22) (hc : ∀ j, j < n → cs[j]? = some (.int .u64 (zs j))) (hn : n ≤ 9223372036854775807) :
    Calls Try.prog 23 #[.int .i64 v, .slice (some ⟨g, 0, none⟩) n n] w fun e w' => e = .returned (.agg (bs c)) ∧ Gr w w' := by
  subst he; exact aw_of v zs n cs hS hm hc hn
def aE : Nat → Int := splV 16 70000
def bE : Nat → Int := ofK (fun _ => 0) 8 (fun _ => 255) (ofN 8 1)
def zF : Nat → Int := fun j => if j = 0 then 1663540288323457296 else 2242261671028070680
def cE : Nat → Int := ofK (fun _ => 0) 64 zF (ofN 64 2)
theorem byt0 : Byt fun _ => 0 := fun _ => ⟨Int.le_refl _, by show (0 : Int) ≤ 255; decide⟩
theorem aE_byt : Byt aE := ofK_byt byt0 _ _ _
theorem bE_byt : Byt bE := ofK_byt byt0 _ _ _
theorem cE_byt : Byt cE := ofK_byt byt0 _ _ _
theorem aw_val : (∀ m, m < 16 → cE m < 32) ∧ (∀ m, m < 16 → shV (fun _ => 0) aE cE m = aE m) ∧ spW 64784 = 16 ∧ exV 64789 0 bE = 4294967295 ∧ thereB (exW 64789) 0 = true ∧ thereB (reW 64789) 0 = false ∧ getI aE 16 7 = 4464 := by decide +kernel
theorem eq_same (b : Nat → Int) (w : World) : (Op.equalIn 10000 26 (.agg (bs b)) (.agg (bs b))).run Try.prog w = .ok true w := by rw [eq_vec, vecB_refl]
set_option maxRecDepth 100000 in
set_option maxHeartbeats 4000000 in
theorem awake (w : World) : Calls Try.prog 9 #[] w fun e w' => e = .returned (.bool true) ∧ Gr w w' := by
  have C1 := fun w => splat_any 64784 70000 (by omega) w
  rw [aw_val.2.2.1, if_neg (by decide), show splV 16 70000 = aE from rfl] at C1
  have C2 := fun w => extract_any 64789 0 (by omega) bE bE_byt w
  rw [aw_val.2.2.2.1, if_pos aw_val.2.2.2.2.1] at C2
  have C3 := fun w => shuffle_ok (fun _ => 0) aE cE cE_byt aw_val.1 w
  rw [bs_congr aw_val.2.1] at C3
  have C4 := fun w => replace_any 64789 0 1 (by omega) aE w
  rw [show reV 64789 0 1 aE = fun _ => 0 by unfold reV; rw [if_neg (by rw [aw_val.2.2.2.2.2.1]; decide)], if_neg (by rw [aw_val.2.2.2.2.2.1]; decide)] at C4
  have C5 := fun w => get_any aE aE_byt 16 7 w
  rw [aw_val.2.2.2.2.2.2] at C5
  have hq := fun w => eq_same aE w
  have hS := St.start w
  have XC1 := Lib.hid C1
  clear C1
  have XC2 := Lib.hid C2
  clear C2
  have XC3 := Lib.hid C3
  clear C3
  have XC4 := Lib.hid C4
  clear C4
  have XC5 := Lib.hid C5
  clear C5
  go_enter Try.func9, Try.ntmps9
  go_upto_region 2 with (first | (refine sl_load hS rfl 26 _ rfl rfl (by repeat (first | exact Has.hd | apply Has.tl)) Try.underlying26 rfl (by exact infoV) ?_) | (refine sl_store hS rfl 26 _ _ rfl rfl rfl (by repeat (first | exact Rep.hd | apply Rep.tl)) (by exact infoV) (by rfl) (bs_one _) ?_; clear hS; intro wk hS) | (refine sl_box hS rfl _ 26 (box_vec rfl rfl) ?_; clear hS; intro bk wk hS) | (refine sl_box hS rfl _ 26 (alloc_vec rfl) ?_; clear hS; intro pa wk hS) | (refine onlyN_end ?_) | (refine onlyN_now ?_) | ((go_at_call 10); (with_reducible refine sl_call hS (XC1.out _) ?_); clear hS; intro wk hS))
  refine wp_region_lit ?_
  refine sl_new hS rfl #[.int .u64 255] 22 (fun b => .slice (some ⟨b, 0, none⟩) 1 1) (by intro w; go_simp) ?_
  clear hS
  intro s1 wk hS
  have ho := aw_of 8 (fun _ => 255) 1 _ hS Has.hd (fun j hj => by
    obtain rfl : j = 0 := by omega
    rfl) (by decide)
  rw [show ofK (fun _ => 0) 8 (fun _ => 255) (ofN 8 1) = bE from rfl] at ho
  have HO := Lib.hid ho
  clear ho
  go_upto_region 3 with (first | (refine sl_load hS rfl 26 _ rfl rfl (by repeat (first | exact Has.hd | apply Has.tl)) Try.underlying26 rfl (by exact infoV) ?_) | (refine sl_store hS rfl 26 _ _ rfl rfl rfl (by repeat (first | exact Rep.hd | apply Rep.tl)) (by exact infoV) (by rfl) (bs_one _) ?_; clear hS; intro wk hS) | (refine sl_box hS rfl _ 26 (box_vec rfl rfl) ?_; clear hS; intro bk wk hS) | (refine sl_box hS rfl _ 26 (alloc_vec rfl) ?_; clear hS; intro bk wk hS) | (refine onlyN_end ?_) | (refine onlyN_now ?_) | ((go_at_call 23); (with_reducible refine sl_call hS HO.out ?_); clear hS; intro wk hS) | ((go_at_call 12); (with_reducible refine sl_call hS (XC2.out _) ?_); clear hS; intro wk hS))
  clear HO
  refine sm_tail 9 [(0, ⟨(fun b => .slice (some ⟨b, 0, none⟩) 2 2), #[.int .u64 1663540288323457296, .int .u64 2242261671028070680], 22⟩), (8, ⟨(fun b => .pointer (some ⟨b, 0, none⟩)), bs fun _ => 0, 26⟩)] hS (by kernel_rfl) (by kernel_rfl) (fun β => ?_)
  simp only [List.take_succ_cons, List.take_zero, List.drop_succ_cons, List.drop_zero]
  iterate 9 (refine sm_step (fun K hK => ?_); (first | (refine sm_load rfl rfl 26 _ rfl rfl (by repeat (first | exact Has.hd | apply Has.tl)) Try.underlying26 rfl (by exact infoV) ?_) | (refine sm_lay rfl rfl (by intro w; go_simp) ?_) | (refine sm_build rfl rfl 26 _ rfl (bs fun _ => 0) (by first | (simp only [List.map_toArray, List.map_nil]; kernel_rfl) | (simp only [Array.map_empty]; kernel_rfl)) ?_) | (apply sm_yes rfl rfl; focus (intro wx hx; go_simp; first | (apply sm_enter (by kernel_rfl); first | fail | with_reducible exact XC3.out wx) | exact ⟨rfl, Gr.refl _⟩)) | (apply sm_need rfl [0] (by kernel_rfl) rfl; focus (intro wx hx; go_simp; apply sm_enter (by kernel_rfl); exact (aw_ofc 64 zF 2 #[.int .u64 1663540288323457296, .int .u64 2242261671028070680] (show _ = cE from rfl) hx Has.hd (fun j hj => by match j, hj with | 0, _ => rfl | 1, _ => rfl) (by decide)))) | (refine sm_no rfl rfl ?_)); go_simp; refine hK _ ?_; clear hK K)
  refine sm_nil ?_
  clear hS
  intro wk hS
  replace hS : St w [⟨β 0, #[.int .u64 1663540288323457296, .int .u64 2242261671028070680], 22⟩, ⟨β 8, bs fun _ => 0, 26⟩, ⟨s1, #[.int .u64 255], 22⟩, ⟨pa, bs aE, 26⟩] wk := hS
  generalize β 0 = s2 at hS ⊢
  generalize β 8 = pc at hS ⊢
  go_upto_region 4 with (first | (refine sl_load hS rfl 26 _ rfl rfl (by repeat (first | exact Has.hd | apply Has.tl)) Try.underlying26 rfl (by exact infoV) ?_) | (refine sl_store hS rfl 26 _ _ rfl rfl rfl (by repeat (first | exact Rep.hd | apply Rep.tl)) (by exact infoV) (by rfl) (bs_one _) ?_; clear hS; intro wk hS) | (refine sl_box hS rfl _ 26 (box_vec rfl rfl) ?_; clear hS; intro bk wk hS) | (refine sl_box hS rfl _ 26 (alloc_vec rfl) ?_; clear hS; intro bk wk hS) | (refine onlyN_end ?_) | (refine onlyN_now ?_))
  go_wp2_with (first | (refine sl_load hS rfl 26 _ rfl rfl (by repeat (first | exact Has.hd | apply Has.tl)) Try.underlying26 rfl (by exact infoV) ?_) | (refine sl_store hS rfl 26 _ _ rfl rfl rfl (by repeat (first | exact Rep.hd | apply Rep.tl)) (by exact infoV) (by rfl) (bs_one _) ?_; clear hS; intro wk hS) | (refine sl_box hS rfl _ 26 (box_vec rfl rfl) ?_; clear hS; intro bk wk hS) | (refine sl_box hS rfl _ 26 (alloc_vec rfl) ?_; clear hS; intro pd wk hS) | (refine onlyN_end ?_) | (refine onlyN_now ?_) | ((go_at_call 14); (with_reducible refine sl_call hS (XC4.out _) ?_); clear hS; intro wk hS) | ((go_at_call 24); (with_reducible refine sl_call hS (XC5.out _) ?_); clear hS; intro wk hS))
  go_ret
  exact ⟨rfl, hS.gr⟩
end Mv
end Go.Proofs.Ytaahkpjdffgagaa
