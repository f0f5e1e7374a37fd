/-
  Of layer 8's laws: awake, un, bin. Conditions: bytes.
-/
import Derived.Test.YtkccaaieadgdbaaWdUB
import Derived.Test.YtkccaaieadgdbaaOf
namespace Go.Proofs.Ytkccaaieadgdbaa
open Go.RowKit VecM
namespace Wd
theorem byt0 : Byt fun _ => 0 := fun _ => ⟨Int.le_refl _, by show (0 : Int) ≤ 255; decide⟩
theorem aw_ofc (v : Int) (zs : Nat → Int) (n : Nat) (cs : Array Value) {c : Nat → Int} (he : ofK (fun _ => 0) v zs (ofN v n) = c) {w0 w : World} {M : List Ent} (hS : St w0 M w) {g : Nat} (hm : Has M g cs 33) (hc : ∀ j, j < n → cs[j]? = some (.int .u64 (zs j))) (hn : n ≤ 9223372036854775807) :
    Calls Try.prog 18 #[.int .i64 v, .slice (some ⟨g, 0, none⟩) n n] w fun e w' => e = .returned (.agg (bs c)) ∧ Gr w w' := by
  subst he; exact of_any v _ n zs w (.inr ⟨hn, g, 0, n, rfl, fun j hj => by rw [Nat.zero_add, hS.cell hm j]; exact hc j hj⟩)
def fB : Nat → Int := fun j => if j = 0 then 300 else 65000
def fC : Nat → Int := fun j => if j = 0 then 127 else 128
def v255 : Nat → Int := ofK (fun _ => 0) 8 (fun _ => 255) (ofN 8 1)
def v300 : Nat → Int := ofK (fun _ => 0) 16 fB (ofN 16 2)
def e16 : Nat → Int := ofK (fun _ => 0) 16 (fun _ => 65535) (ofN 16 1)
def e8 : Nat → Int := ofK (fun _ => 0) 8 fC (ofN 8 2)
theorem aw_val : (∀ m, m < 16 → unV 64903 v255 m = e16 m) ∧ unE 64903 = 0 ∧ (∀ m, m < 16 → biV 64869 v300 (fun _ => 0) m = e8 m) ∧ biE 64869 = 0 ∧ unE 64869 = 1 := by decide +kernel
theorem eq_same (b : Nat → Int) (w : World) : (Op.equalIn 10000 23 (.agg (bs b)) (.agg (bs b))).run Try.prog w = .ok true w := by rw [eq_vec, vecB_refl]
set_option maxRecDepth 100000 in
set_option maxHeartbeats 4000000 in
theorem awake (w : World) : Calls Try.prog 9 #[] w fun e w' => e = .returned (.bool true) ∧ Gr w w' := by
  have C1 := fun w => un_any 64903 (by omega) v255 (ofK_byt byt0 _ _ _) w
  rw [bs_congr aw_val.1, aw_val.2.1] at C1
  have C2 := fun w => bin_any 64869 (by omega) v300 (fun _ => 0) (ofK_byt byt0 _ _ _) byt0 w
  rw [bs_congr aw_val.2.2.1, aw_val.2.2.2.1] at C2
  have C3 := fun w => un_any 64869 (by omega) e16 (ofK_byt byt0 _ _ _) w
  rw [aw_val.2.2.2.2] at C3
  generalize unV 64869 e16 = y at *
  have hS := St.start w
  have XC1 := Lib.hid C1
  clear C1
  have XC2 := Lib.hid C2
  clear C2
  have XC3 := Lib.hid C3
  clear C3
  go_enter Try.func9, Try.ntmps9
  go_upto_region 1 with (fail)
  refine wp_region_lit ?_
  refine sl_new hS rfl #[.int .u64 255] 33 (fun b => .slice (some ⟨b, 0, none⟩) 1 1) (by intro w; go_simp) ?_
  clear hS
  intro s1 wk hS
  have hx := hS
  have HO := Lib.hid (aw_ofc 8 (fun _ => 255) 1 #[.int .u64 255] (show _ = v255 from rfl) hx Has.hd (fun j hj => by match j, hj with | 0, _ => rfl) (by decide))
  clear hx
  go_upto_region 2 with (first | (refine sl_load hS rfl 23 _ rfl rfl (by repeat (first | exact Has.hd | apply Has.tl)) Try.underlying23 rfl (by exact infoV) ?_) | (refine sl_store hS rfl 23 _ _ rfl rfl rfl (by repeat (first | exact Rep.hd | apply Rep.tl)) (by exact infoV) (by rfl) (bs_one _) ?_; clear hS; intro wk hS) | (refine sl_box hS rfl _ 23 (box_vec rfl rfl) ?_; clear hS; intro bk wk hS) | (refine sl_box hS rfl _ 23 (alloc_vec rfl) ?_; clear hS; intro pa wk hS) | (refine onlyN_end ?_) | (refine onlyN_now ?_) | ((go_at_call 18); (with_reducible refine sl_call hS HO.out ?_); clear hS; intro wk hS) | ((go_at_call 10); (with_reducible refine sl_call hS (XC1.out _) ?_); clear hS; intro wk hS))
  clear HO
  refine wp_region_lit ?_
  refine sl_new hS rfl #[.int .u64 300, .int .u64 65000] 33 (fun b => .slice (some ⟨b, 0, none⟩) 2 2) (by intro w; go_simp) ?_
  clear hS
  intro s2 wk hS
  have hx := hS
  have HO := Lib.hid (aw_ofc 16 fB 2 #[.int .u64 300, .int .u64 65000] (show _ = v300 from rfl) hx Has.hd (fun j hj => by match j, hj with | 0, _ => rfl | 1, _ => rfl) (by decide))
  clear hx
  go_upto_region 3 with (first | (refine sl_load hS rfl 23 _ rfl rfl (by repeat (first | exact Has.hd | apply Has.tl)) Try.underlying23 rfl (by exact infoV) ?_) | (refine sl_store hS rfl 23 _ _ rfl rfl rfl (by repeat (first | exact Rep.hd | apply Rep.tl)) (by exact infoV) (by rfl) (bs_one _) ?_; clear hS; intro wk hS) | (refine sl_box hS rfl _ 23 (box_vec rfl rfl) ?_; clear hS; intro bk wk hS) | (refine sl_box hS rfl _ 23 (alloc_vec rfl) ?_; clear hS; intro pb wk hS) | (refine onlyN_end ?_) | (refine onlyN_now ?_) | ((go_at_call 18); (with_reducible refine sl_call hS HO.out ?_); clear hS; intro wk hS) | ((go_at_call 12); (with_reducible refine sl_call hS (XC2.out _) ?_); clear hS; intro wk hS) | (refine wpList_build_at rfl 23 _ rfl (bs fun _ => 0) (by kernel_rfl) ?_))
  clear HO
  have hq1 := fun w => eq_same e16 w
  have hq2 := fun w => eq_same e8 w
  go_upto_region 4 with (first | (refine sl_load hS rfl 23 _ rfl rfl (by repeat (first | exact Has.hd | apply Has.tl)) Try.underlying23 rfl (by exact infoV) ?_) | (refine sl_store hS rfl 23 _ _ rfl rfl rfl (by repeat (first | exact Rep.hd | apply Rep.tl)) (by exact infoV) (by rfl) (bs_one _) ?_; clear hS; intro wk hS) | (refine sl_box hS rfl _ 23 (box_vec rfl rfl) ?_; clear hS; intro bk wk hS) | (refine sl_box hS rfl _ 23 (alloc_vec rfl) ?_; clear hS; intro pc wk hS) | (refine onlyN_end ?_) | (refine onlyN_now ?_) | ((go_at_call 10); (with_reducible refine sl_call hS (XC3.out _) ?_); clear hS; intro wk hS))
  refine sm_all [(1, ⟨(fun b => .slice (some ⟨b, 0, none⟩) 1 1), #[.int .u64 65535], 33⟩), (10, ⟨(fun b => .slice (some ⟨b, 0, none⟩) 2 2), #[.int .u64 127, .int .u64 128], 33⟩)] hS (by kernel_rfl) (by kernel_rfl) (fun β => ?_)
  repeat (refine sm_step (fun K hK => ?_); (first | (refine sm_load rfl rfl 23 _ rfl rfl (by repeat (first | exact Has.hd | apply Has.tl)) Try.underlying23 rfl (by exact infoV) ?_) | (refine sm_lay rfl rfl (by intro w; go_simp) ?_) | (refine sm_build rfl rfl 23 _ rfl (bs fun _ => 0) (by kernel_rfl) ?_) | (apply sm_yes rfl rfl; focus (intro wx hx; go_simp; first | (apply sm_enter (by kernel_rfl); first | fail) | exact ⟨rfl, Gr.refl _⟩)) | (apply (sm_need (i := 2)) rfl [1] (by kernel_rfl) rfl; focus (intro wx hx; go_simp; apply sm_enter (by kernel_rfl); exact (aw_ofc 16 (fun _ => 65535) 1 #[.int .u64 65535] (show _ = e16 from rfl) hx Has.hd (fun j hj => by match j, hj with | 0, _ => rfl) (by decide)))) | (apply (sm_need (i := 11)) rfl [10] (by kernel_rfl) rfl; focus (intro wx hx; go_simp; apply sm_enter (by kernel_rfl); exact (aw_ofc 8 fC 2 #[.int .u64 127, .int .u64 128] (show _ = e8 from rfl) hx Has.hd (fun j hj => by match j, hj with | 0, _ => rfl | 1, _ => rfl) (by decide)))) | (refine sm_no rfl rfl ?_)); go_simp; refine hK _ ?_; clear hK K)
  refine sm_nil ?_
  clear hS
  intro wk hS
  replace hS : St w [⟨β 1, #[.int .u64 65535], 33⟩, ⟨β 10, #[.int .u64 127, .int .u64 128], 33⟩, ⟨pc, bs y, 23⟩, ⟨pb, bs e8, 23⟩, ⟨s2, #[.int .u64 300, .int .u64 65000], 33⟩, ⟨pa, bs e16, 23⟩, ⟨s1, #[.int .u64 255], 33⟩] wk := hS
  generalize β 1 = s3 at hS ⊢
  generalize β 10 = s4 at hS ⊢
  go_wp2
  go_ret
  exact ⟨rfl, hS.gr⟩
set_option maxHeartbeats 2000000 in
theorem bin_k (k op : Int) (hk : 0 ≤ k ∧ k ≤ 1000) (hop : op = 64768 + k) (a b : Nat → Int) (ha : Byt a) (hb : Byt b) (w : World) : Calls Try.prog 17 #[.int .i64 k, .agg (bs a), .agg (bs b)] w fun e w' => e = .returned (.agg (bs (biV op a b))) ∧ Gr w w' := by
  have C1 := fun w => bin_any op (by omega) a b ha hb w
  have T0 : IntKind.i64.wrap (64768 + k) = op := by rw [IntWalk.i64_in _ (by omega), hop]
  clear ha hb hop hk
  generalize biV op a b = y at *
  generalize biE op = z at *
  have hS := St.start w
  have XC1 := Lib.hid C1
  clear C1
  go_enter Try.func17, Try.ntmps17
  go_upto_region 0 with (fail)
  refine wp_region_lit ?_
  refine sl_box hS rfl _ 23 (box_vec rfl rfl) ?_
  clear hS
  intro p wk hS
  refine sl_box hS rfl _ 23 (box_vec rfl rfl) ?_
  clear hS
  intro q wk hS
  go_upto_region 1 with (first | (refine sl_load hS rfl 23 _ rfl rfl (by repeat (first | exact Has.hd | apply Has.tl)) Try.underlying23 rfl (by exact infoV) ?_) | (refine sl_store hS rfl 23 _ _ rfl rfl rfl (by repeat (first | exact Rep.hd | apply Rep.tl)) (by exact infoV) (by rfl) (bs_one _) ?_; clear hS; intro wk hS) | (refine sl_box hS rfl _ 23 (box_vec rfl rfl) ?_; clear hS; intro bk wk hS) | (refine sl_box hS rfl _ 23 (alloc_vec rfl) ?_; clear hS; intro r wk hS) | (refine onlyN_end ?_) | (refine onlyN_now ?_))
  try refine wp_region_lit ?_
  iterate 11 ((first | (refine sl_load hS rfl 23 _ rfl rfl (by repeat (first | exact Has.hd | apply Has.tl)) Try.underlying23 rfl (by exact infoV) ?_) | (refine sl_store hS rfl 23 _ _ rfl rfl rfl (by repeat (first | exact Rep.hd | apply Rep.tl)) (by exact infoV) (by rfl) (bs_one _) ?_; clear hS; intro wk hS) | (refine sl_val rfl (run_add rfl rfl rfl T0) ?_) | ((with_reducible show wpList _ _ _ (⟨_, .alloc 23 , _, _, _, _⟩ :: _) _ _); refine sl_box hS rfl _ 23 (alloc_vec rfl) ?_; clear hS; intro t wk hS) | (apply sl_val rfl; focus (intro w; go_simp; (try simp (disch := omega) only [IntWalk.i64_in, IntWalk.u64_in, IntWalk.u8_in, IntWalk.u32_in, IntWalk.i32_in]); first | exact rfl | rfl)) | (refine sl_step (fun K hK => .inl ⟨rfl, ?_⟩); unfold Oper.wp; go_simp; (first | with_reducible refine sl_call hS (XC1.out _) ?_); clear hS; intro wk hS; refine hK _ _ ?_; clear hK K) | (refine sl_skip rfl ?_)); go_simp)
  go_wp2_with (first | (refine sl_load hS rfl 23 _ rfl rfl (by repeat (first | exact Has.hd | apply Has.tl)) Try.underlying23 rfl (by exact infoV) ?_) | (refine sl_store hS rfl 23 _ _ rfl rfl rfl (by repeat (first | exact Rep.hd | apply Rep.tl)) (by exact infoV) (by rfl) (bs_one _) ?_; clear hS; intro wk hS) | (refine sl_box hS rfl _ 23 (box_vec rfl rfl) ?_; clear hS; intro bk wk hS) | (refine sl_box hS rfl _ 23 (alloc_vec rfl) ?_; clear hS; intro bk wk hS) | (refine onlyN_end ?_) | (refine onlyN_now ?_))
  refine sl_ret hS Try.results17 (by rfl) (by repeat (first | exact Has.hd | apply Has.tl)) Try.underlying23 rfl (by exact infoV) (by rfl) ?_
  exact ⟨rfl, hS.gr⟩
set_option maxHeartbeats 2000000 in
theorem un_k (k op : Int) (hk : 0 ≤ k ∧ k ≤ 1000) (hop : op = 64768 + k) (a : Nat → Int) (ha : Byt a) (w : World) : Calls Try.prog 16 #[.int .i64 k, .agg (bs a)] w fun e w' => e = .returned (.agg (bs (unV op a))) ∧ Gr w w' := by
  have C1 := fun w => un_any op (by omega) a ha w
  have T0 : IntKind.i64.wrap (64768 + k) = op := by rw [IntWalk.i64_in _ (by omega), hop]
  clear ha hop hk
  generalize unV op a = y at *
  generalize unE op = z at *
  have hS := St.start w
  have XC1 := Lib.hid C1
  clear C1
  go_enter Try.func16, Try.ntmps16
  go_upto_region 0 with (fail)
  refine wp_region_lit ?_
  refine sl_box hS rfl _ 23 (box_vec rfl rfl) ?_
  clear hS
  intro p wk hS
  go_upto_region 1 with (first | (refine sl_load hS rfl 23 _ rfl rfl (by repeat (first | exact Has.hd | apply Has.tl)) Try.underlying23 rfl (by exact infoV) ?_) | (refine sl_store hS rfl 23 _ _ rfl rfl rfl (by repeat (first | exact Rep.hd | apply Rep.tl)) (by exact infoV) (by rfl) (bs_one _) ?_; clear hS; intro wk hS) | (refine sl_box hS rfl _ 23 (box_vec rfl rfl) ?_; clear hS; intro bk wk hS) | (refine sl_box hS rfl _ 23 (alloc_vec rfl) ?_; clear hS; intro r wk hS) | (refine onlyN_end ?_) | (refine onlyN_now ?_))
  try refine wp_region_lit ?_
  iterate 10 ((first | (refine sl_load hS rfl 23 _ rfl rfl (by repeat (first | exact Has.hd | apply Has.tl)) Try.underlying23 rfl (by exact infoV) ?_) | (refine sl_store hS rfl 23 _ _ rfl rfl rfl (by repeat (first | exact Rep.hd | apply Rep.tl)) (by exact infoV) (by rfl) (bs_one _) ?_; clear hS; intro wk hS) | (refine sl_val rfl (run_add rfl rfl rfl T0) ?_) | ((with_reducible show wpList _ _ _ (⟨_, .alloc 23 , _, _, _, _⟩ :: _) _ _); refine sl_box hS rfl _ 23 (alloc_vec rfl) ?_; clear hS; intro t wk hS) | (apply sl_val rfl; focus (intro w; go_simp; (try simp (disch := omega) only [IntWalk.i64_in, IntWalk.u64_in, IntWalk.u8_in, IntWalk.u32_in, IntWalk.i32_in]); first | exact rfl | rfl)) | (refine sl_step (fun K hK => .inl ⟨rfl, ?_⟩); unfold Oper.wp; go_simp; (first | with_reducible refine sl_call hS (XC1.out _) ?_); clear hS; intro wk hS; refine hK _ _ ?_; clear hK K) | (refine sl_skip rfl ?_)); go_simp)
  go_wp2_with (first | (refine sl_load hS rfl 23 _ rfl rfl (by repeat (first | exact Has.hd | apply Has.tl)) Try.underlying23 rfl (by exact infoV) ?_) | (refine sl_store hS rfl 23 _ _ rfl rfl rfl (by repeat (first | exact Rep.hd | apply Rep.tl)) (by exact infoV) (by rfl) (bs_one _) ?_; clear hS; intro wk hS) | (refine sl_box hS rfl _ 23 (box_vec rfl rfl) ?_; clear hS; intro bk wk hS) | (refine sl_box hS rfl _ 23 (alloc_vec rfl) ?_; clear hS; intro bk wk hS) | (refine onlyN_end ?_) | (refine onlyN_now ?_))
  refine sl_ret hS Try.results16 (by rfl) (by repeat (first | exact Has.hd | apply Has.tl)) Try.underlying23 rfl (by exact infoV) (by rfl) ?_
  exact ⟨rfl, hS.gr⟩
end Wd
end Go.Proofs.Ytkccaaieadgdbaa
