/-
  Of layer 7: move.Splat, Extract and Replace for all opcodes. Conditions: bytes.
-/
import Derived.Test.YtmgkejpjljkfdaaMvSh
import Derived.Test.YtmgkejpjljkfdaaSlI
import Derived.Test.YtmgkejpjljkfdaaSig
namespace Go.Proofs.Ytmgkejpjljkfdaa
open Go.RowKit VecM
namespace Mv
set_option maxRecDepth 100000 in
theorem lanes_nat (v : Int) : lanesI v = ((lanesI v).toNat : Int) ∧ (lanesI v).toNat ≤ 16 := by
  have := lanes_bd v
  omega
set_option maxRecDepth 100000 in
theorem lanes0 : lanesI 0 = 0 := by decide
def splV (v x : Int) : Nat → Int := ofK (fun _ => 0) v (fun _ => x) (lanesI v).toNat
set_option maxHeartbeats 2000000 in
set_option maxRecDepth 100000 in
theorem splat_any (op x : Int) (ho : -9223372036854775808 ≤ op ∧ op ≤ 9223372036854775807) (w : World) : Calls Try.prog 25 #[.int .i64 op, .int .u64 x] w fun e w' => e = .returned (.tuple #[.agg (bs (splV (spW op) x)), .int .i64 (if spW op = 0 then 1 else 0)]) ∧ Gr w w' := by
  have CR := fun w => splatW_any op ho w
  obtain ⟨hL, h16⟩ := lanes_nat (spW op)
  unfold splV
  clear ho
  generalize spW op = v at *
  by_cases h0 : v = 0
  · subst h0
    have XCR := Lib.hid CR
    clear CR hL h16
    rw [lanes0]
    have hS := St.start w
    go_enter Try.func25, Try.ntmps25
    go_upto_region 3 with (first | (refine sl_load hS rfl 35 _ rfl rfl (by repeat (first | exact Has.hd | apply Has.tl)) Try.underlying35 rfl (by exact infoV) ?_) | (refine sl_store hS rfl 35 _ _ rfl rfl rfl (by repeat (first | exact Rep.hd | apply Rep.tl)) (by exact infoV) (by rfl) (bs_one _) ?_; clear hS; intro wk hS) | (refine sl_box hS rfl _ 35 (box_vec rfl rfl) ?_; clear hS; intro bk wk hS) | (refine sl_box hS rfl _ 35 (alloc_vec rfl) ?_; clear hS; intro bk wk hS) | (refine onlyN_end ?_) | (refine onlyN_now ?_) | ((go_at_call 48); (with_reducible refine (XCR.out _).mono ?_); rintro _ _ ⟨rfl, rfl⟩))
    refine wp_region_lit ?_
    refine wpList_build_at rfl 35 _ rfl (bs fun _ => 0) (by first | (simp only [List.map_toArray, List.map_nil]; kernel_rfl) | (simp only [Array.map_empty]; kernel_rfl)) ?_
    go_wp2_with (first | (refine sl_load hS rfl 35 _ rfl rfl (by repeat (first | exact Has.hd | apply Has.tl)) Try.underlying35 rfl (by exact infoV) ?_) | (refine sl_store hS rfl 35 _ _ rfl rfl rfl (by repeat (first | exact Rep.hd | apply Rep.tl)) (by exact infoV) (by rfl) (bs_one _) ?_; clear hS; intro wk hS) | (refine sl_box hS rfl _ 35 (box_vec rfl rfl) ?_; clear hS; intro bk wk hS) | (refine sl_box hS rfl _ 35 (alloc_vec rfl) ?_; clear hS; intro bk wk hS) | (refine onlyN_end ?_) | (refine onlyN_now ?_))
    refine sl_ret2 hS Try.results25 (by rfl) (by repeat (first | exact Has.hd | apply Has.tl)) Try.underlying35 rfl (by exact infoV) (by rfl) ?_
    exact ⟨rfl, hS.gr⟩
  · have hv0 : (v == 0) = false := beq_eq_false_iff_ne.2 h0
    rw [if_neg h0]
    have CL : ∀ w, Calls Try.prog 49 #[.int .i64 v] w fun e w' => e = .returned (.int .i64 ((lanesI v).toNat : Int)) ∧ Gr w w' := fun w => by rw [← hL]; exact calls_gr (lanes_any v w)
    clear h0 hL
    generalize (lanesI v).toNat = L at *
    have hS := St.start w
    have XCR := Lib.hid CR
    clear CR
    have XCL := Lib.hid CL
    clear CL
    go_enter Try.func25, Try.ntmps25
    go_upto_region 0 with (fail)
    refine wp_region_lit ?_
    refine sl_box hS rfl _ 35 (alloc_vec rfl) ?_
    clear hS
    intro r wk hS
    go_wp2_with (first | (refine sl_load hS rfl 35 _ rfl rfl (by repeat (first | exact Has.hd | apply Has.tl)) Try.underlying35 rfl (by exact infoV) ?_) | (refine sl_store hS rfl 35 _ _ rfl rfl rfl (by repeat (first | exact Rep.hd | apply Rep.tl)) (by exact infoV) (by rfl) (bs_one _) ?_; clear hS; intro wk hS) | (refine sl_box hS rfl _ 35 (box_vec rfl rfl) ?_; clear hS; intro bk wk hS) | (refine sl_box hS rfl _ 35 (alloc_vec rfl) ?_; clear hS; intro t wk hS) | (refine onlyN_end ?_) | (refine onlyN_now ?_) | ((go_at_call 48); (with_reducible refine (XCR.out _).mono ?_); rintro _ _ ⟨rfl, rfl⟩) | ((go_at_call 49); (with_reducible refine sl_call hS (XCL.out _) ?_); clear hS; intro wk hS))
    go_loopw [16] (fun u wr => ∃ k : Nat, k ≤ L ∧ u = .int .i64 k ∧ St w [⟨t, bs (ofK (fun _ => 0) v (fun _ => x) k), 35⟩, ⟨r, bs (fun _ => 0), 35⟩] wr) (fun u _ => L - (intOf u).toNat)
    case atStart => exact ⟨0, by omega, rfl, hS⟩
    case round =>
      obtain ⟨k, hk, rfl, hS⟩ := hrel
      by_cases hlt : k < L
      · have E6 := fun w => set_any (ofK (fun _ => 0) v (fun _ => x) k) v k x w
        have HM := Lib.hid (show ofK (fun _ => 0) v (fun _ => x) (k + 1) = setI (ofK (fun _ => 0) v (fun _ => x) k) v k x from rfl)
        generalize hc0 : ofK (fun _ => 0) v (fun _ => x) k = c0 at *
        have XE6 := Lib.hid E6
        clear E6
        have Xhc0 := Lib.hid hc0
        clear hc0
        go_wp2_with (first | (refine sl_load hS rfl 35 _ rfl rfl (by repeat (first | exact Has.hd | apply Has.tl)) Try.underlying35 rfl (by exact infoV) ?_) | (refine sl_store hS rfl 35 _ _ rfl rfl rfl (by repeat (first | exact Rep.hd | apply Rep.tl)) (by exact infoV) (by rfl) (bs_one _) ?_; clear hS; intro wk hS) | (refine sl_box hS rfl _ 35 (box_vec rfl rfl) ?_; clear hS; intro bk wk hS) | (refine sl_box hS rfl _ 35 (alloc_vec rfl) ?_; clear hS; intro bk wk hS) | (refine onlyN_end ?_) | (refine onlyN_now ?_) | ((go_at_call 26); (with_reducible refine sl_call hS (XE6.out _) ?_); clear hS; intro wk hS))
        exact ⟨⟨k + 1, by omega, by go_num, by rw [HM.out]; exact hS⟩, by simp [intOf]; omega⟩
      · obtain rfl : k = L := by omega
        go_wp2_with (first | (refine sl_load hS rfl 35 _ rfl rfl (by repeat (first | exact Has.hd | apply Has.tl)) Try.underlying35 rfl (by exact infoV) ?_) | (refine sl_store hS rfl 35 _ _ rfl rfl rfl (by repeat (first | exact Rep.hd | apply Rep.tl)) (by exact infoV) (by rfl) (bs_one _) ?_; clear hS; intro wk hS) | (refine sl_box hS rfl _ 35 (box_vec rfl rfl) ?_; clear hS; intro bk wk hS) | (refine sl_box hS rfl _ 35 (alloc_vec rfl) ?_; clear hS; intro bk wk hS) | (refine onlyN_end ?_) | (refine onlyN_now ?_))
        refine sl_ret2 hS Try.results25 (by rfl) (by repeat (first | exact Has.hd | apply Has.tl)) Try.underlying35 rfl (by exact infoV) (by rfl) ?_
        exact ⟨rfl, hS.gr⟩
set_option maxRecDepth 100000 in
theorem ret_e {a b : Int} (h : a = b) : Ending.returned (.tuple #[.int .u64 a, .int .i64 0]) = .returned (.tuple #[.int .u64 b, .int .i64 0]) := by rw [h]
def exV (op lane : Int) (b : Nat → Int) : Int := if thereB (exW op) lane then (if exS op then IntKind.u32.wrap (sgnI b (exW op) lane) else getI b (exW op) lane) else 0
def reV (op lane x : Int) (b : Nat → Int) : Nat → Int := if thereB (reW op) lane then setI b (reW op) lane x else fun _ => 0
end Mv
end Go.Proofs.Ytmgkejpjljkfdaa
