/-
  Of layer 16: awake.
-/
import Derived.Test.YtndbgnkobodjkaaHsS
namespace Go.Proofs.Ytndbgnkobodjkaa
open Go.RowKit VecM
namespace Hs
theorem infoSg : (Try.prog.info? 35).map (·.size) = some 2 := by kernel_rfl
theorem i64_row {w : World} {g : Nat} {l : List Int} {t : TypeId} {z : Nat × Nat} {cs : Array Value} (h : w.heap[g]? = some (.cells cs t z)) (hc : cs = (l.map (Value.int .i64)).toArray) (hm : l.length ≤ 9223372036854775807) : I64s w (.slice (some ⟨g, 0, none⟩) l.length l.length) l.length fun j => l.getD j 0 := by
  subst hc
  refine .inr ⟨hm, g, 0, l.length, rfl, fun j hj => ?_⟩
  rw [Nat.zero_add, cell_of_row _ _ j _ _ _ h]
  simp [List.getD_eq_getElem?_getD, hj]
theorem u64_row {w : World} {g : Nat} {l : List Int} {t : TypeId} {z : Nat × Nat} {cs : Array Value} (h : w.heap[g]? = some (.cells cs t z)) (hc : cs = (uvs l).toArray) (hm : l.length ≤ 9223372036854775807) : Ud w (.slice (some ⟨g, 0, none⟩) l.length l.length) l := by
  subst hc
  refine .inr ⟨g, 0, l.length, Nat.le_refl _, hm, rfl, fun j hj => ?_⟩
  rw [Nat.zero_add, cell_of_row _ _ j _ _ _ h, List.getElem?_toArray, uvs_get l hj]
theorem hsz_alloc (w : World) (o : Obj) : (w.alloc o).heap.size = w.heap.size + 1 := by simp
theorem c_of_d {w : World} {v : Value} {l : List Int} (h : Ud w v l) : U64c w v l.length fun j => l.getD j 0 := us_of_d h
theorem aw1 : callO ⟨List.take 4096 [1, 2, 1099511627779], [], 0⟩ 0 (exB ⟨#[101, 110, 118]⟩ ⟨#[102]⟩) (fun j => [123].getD j 0) (fun j => [5, 6].getD j 0) 1 2 (fun j => [126, 123].getD j 0) 2 = ([1, 2, 1099511627779], 0, ⟨[], [(0, [5, 6])], 0⟩) := by kernel_rfl
theorem aw2 : callO ⟨[], [(0, [5, 6])], 0⟩ 1 (exB ⟨#[104, 111, 115, 116]⟩ ⟨#[101, 120, 105, 116]⟩) (fun j => [127].getD j 0) (fun j => [4294967303].getD j 0) 1 1 (fun _ => 0) 0 = ([], 28, ⟨[], [(0, [5, 6]), (1, [7])], 7⟩) := by kernel_rfl
set_option maxRecDepth 100000 in
set_option maxHeartbeats 8000000 in
theorem awake_any (w : World) : Calls Try.prog 8 #[] w fun e w' => e = .returned (.bool true) ∧ Gr w w' := by
  go_enter Try.func8, Try.ntmps8
  have HN1 := Lib.hid (new_any (w := w.alloc (.cells #[.int .u64 1, .int .u64 2, .int .u64 1099511627779] 53)) (l := [1, 2, 1099511627779]) (by decide) (u64_row (heap_alloc_new w _) rfl (by decide)))
  go_upto_region 4 with (go_at_call 9; refine HN1.out.mono ?_; rintro e w1 ⟨v, rfl, hg1, hn1⟩; obtain ⟨h, M, F, rfl, hst, hmf⟩ := newH_hst hn1; have HG1 := Lib.hid (gr_trans ((Gr.refl w).alloc _ _) hg1); have HST1 := Lib.hid hst; have HMF := Lib.hid hmf; clear hg1 hn1 hst hmf)
  go_wp2_with fail
  have HW := Lib.hid (HST1.out)
  have hMlt := (hst_h HST1.out).2.1
  have g0 := heap_alloc_new w1 (.cells #[.int .i64 123] 3)
  have g1 : Gr (w1.alloc (.cells #[.int .i64 123] 3)) ((((w1.alloc (.cells #[.int .i64 123] 3)).alloc (.cells #[.int .i64 126, .int .i64 123] 3)).alloc (.cells #[.slice (some ⟨w1.heap.size, 0, none⟩) 1 1, .slice (some ⟨w1.heap.size + 1, 0, none⟩) 2 2] 35)).alloc (.cells #[.int .u64 5, .int .u64 6] 53)) := (((Gr.refl _).allocO _).allocO _).allocO _
  have b0 := gr_block g1 g0
  have g2 := heap_alloc_new (w1.alloc (.cells #[.int .i64 123] 3)) (.cells #[.int .i64 126, .int .i64 123] 3)
  have g3 : Gr ((w1.alloc (.cells #[.int .i64 123] 3)).alloc (.cells #[.int .i64 126, .int .i64 123] 3)) ((((w1.alloc (.cells #[.int .i64 123] 3)).alloc (.cells #[.int .i64 126, .int .i64 123] 3)).alloc (.cells #[.slice (some ⟨w1.heap.size, 0, none⟩) 1 1, .slice (some ⟨w1.heap.size + 1, 0, none⟩) 2 2] 35)).alloc (.cells #[.int .u64 5, .int .u64 6] 53)) := ((Gr.refl _).allocO _).allocO _
  have b1 := gr_block g3 g2
  have b3 := heap_alloc_new (((w1.alloc (.cells #[.int .i64 123] 3)).alloc (.cells #[.int .i64 126, .int .i64 123] 3)).alloc (.cells #[.slice (some ⟨w1.heap.size, 0, none⟩) 1 1, .slice (some ⟨w1.heap.size + 1, 0, none⟩) 2 2] 35)) (.cells #[.int .u64 5, .int .u64 6] 53)
  have HGa := Lib.hid (show Gr w1 ((((w1.alloc (.cells #[.int .i64 123] 3)).alloc (.cells #[.int .i64 126, .int .i64 123] 3)).alloc (.cells #[.slice (some ⟨w1.heap.size, 0, none⟩) 1 1, .slice (some ⟨w1.heap.size + 1, 0, none⟩) 2 2] 35)).alloc (.cells #[.int .u64 5, .int .u64 6] 53)) from ((((Gr.refl _).allocO _).allocO _).allocO _).allocO _)
  simp only [hsz_alloc] at b1 b3
  clear g0 g1 g2 g3
  generalize (((w1.alloc (.cells #[.int .i64 123] 3)).alloc (.cells #[.int .i64 126, .int .i64 123] 3)).alloc (.cells #[.slice (some ⟨w1.heap.size, 0, none⟩) 1 1, .slice (some ⟨w1.heap.size + 1, 0, none⟩) 2 2] 35)).alloc (.cells #[.int .u64 5, .int .u64 6] 53) = w2 at *
  refine (call_any (w := w2) (n := 1) (no := 2) (m := 2) (ti := fun j => [123].getD j 0) (to := fun j => [126, 123].getD j 0) (zi := fun j => [5, 6].getD j 0) (by omega) (by omega) (by decide) (hst_gr HST1.out HGa.out) (i64_row (l := [123]) b0 rfl (by decide)) (i64_row (l := [126, 123]) b1 rfl (by decide)) (fun k hk hm => ?_) (c_of_d (u64_row (l := [5, 6]) b3 rfl (by decide)))).mono ?_
  · have := (hMlt k hm).1
    simp [Value.ownBlock] at hk
    omega
  rw [show callO _ _ _ _ _ _ _ _ _ = _ from aw1]
  rintro e w3 ⟨sv, M', F', rfl, hst, hm, hf, hsp, ho, hib⟩
  have HG3 := Lib.hid (show Gr w w3 from Sep.toGr (gr_trans HG1.out HGa.out) hsp fun k hk => by have := HMF.out k (.inl hk); simp at this; omega)
  have HST3 := Lib.hid hst
  have HMF3 := Lib.hid (show ∀ k, M' k ∨ F' k → w.heap.size ≤ k from fun k hk => by
    have hz := (gr_trans HG1.out HGa.out).size
    rcases hk with hk | hk
    · rcases hm k hk with h | h
      · have := HMF.out k (.inl h); simp at this; omega
      · omega
    · rcases hf k hk with h | h
      · have := HMF.out k (.inr h); simp at this; omega
      · omega)
  obtain ⟨x3, c3, rfl⟩ := own_slice ho
  have HO3 := Lib.hid ho
  have hMlt3 := (hst_h hst).2.1
  have HIB := Lib.hid hib
  clear hst hm hf hsp ho hib b0 b1 b3
  go_wp2_with fail
  have b0 := gr_block ((Gr.refl (w3.alloc (.cells #[.int .i64 127] 3))).allocO (.cells #[.int .u64 4294967303] 53)) (heap_alloc_new w3 (.cells #[.int .i64 127] 3))
  have b1 := heap_alloc_new (w3.alloc (.cells #[.int .i64 127] 3)) (.cells #[.int .u64 4294967303] 53)
  have HGb := Lib.hid (show Gr w3 ((w3.alloc (.cells #[.int .i64 127] 3)).alloc (.cells #[.int .u64 4294967303] 53)) from ((Gr.refl _).allocO _).allocO _)
  simp only [hsz_alloc] at b1
  generalize (w3.alloc (.cells #[.int .i64 127] 3)).alloc (.cells #[.int .u64 4294967303] 53) = w4 at *
  refine (call_any (w := w4) (n := 1) (no := 0) (m := 1) (ti := fun j => [127].getD j 0) (to := fun _ => 0) (zi := fun j => [4294967303].getD j 0) (by omega) (by omega) (by decide) (hst_gr HST3.out HGb.out) (i64_row (l := [127]) b0 rfl (by decide)) (.inl ⟨rfl, _, _, rfl⟩) (inb_nil _) (c_of_d (u64_row (l := [4294967303]) b1 rfl (by decide)))).mono ?_
  rw [show callO _ _ _ _ _ _ _ _ _ = _ from aw2]
  rintro e w5 ⟨sv, M2, F2, rfl, hst, hm, hf, hsp, ho, _⟩
  have HG5 := Lib.hid (show Gr w w5 from Sep.toGr (gr_trans HG3.out HGb.out) hsp fun k hk => HMF3.out k (.inl hk))
  have HST5 := Lib.hid hst
  obtain ⟨x5, c5, rfl⟩ := own_slice ho
  have HU5 := Lib.hid (us_sep (us_gr (us_of_owns HO3.out) HGb.out) hsp (fun k hk => (HIB.out k hk).1))
  clear hst hm hf hsp ho b0 b1
  have HS7 := Lib.hid (fun wx (hg : Gr w5 wx) (h0 : Ud wx (.slice (some ⟨w5.heap.size, 0, none⟩) 3 3) [1, 2, 1099511627779]) => same_nums (us_gr HU5.out hg) (us_of_d h0))
  have HL7 := Lib.hid (fun wx (hg : Gr w5 wx) => log_any (by decide) (by decide) (hst_gr HST5.out hg))
  have HC7 := Lib.hid (fun wx (hg : Gr w5 wx) => code_any (hst_gr HST5.out hg))
  have HGc := Lib.hid (show Gr w5 (w5.alloc (.cells #[.int .u64 1, .int .u64 2, .int .u64 1099511627779] 53)) from (Gr.refl _).allocO _)
  have HDc := Lib.hid (u64_row (l := [1, 2, 1099511627779]) (heap_alloc_new w5 (.cells #[.int .u64 1, .int .u64 2, .int .u64 1099511627779] 53)) rfl (by decide))
  go_wp2_with (first | (go_at_call 22; refine (HS7.out _ HGc.out HDc.out).mono ?_; rintro e w6 ⟨rfl, hg6⟩; have HG6 := Lib.hid (gr_trans HGc.out hg6); clear hg6) | (go_at_call 19; refine (HC7.out _ HG6.out).mono ?_; rintro e w7 ⟨rfl, rfl⟩) | (go_at_call 15; refine (HL7.out _ HG6.out).mono ?_; rintro e w8 ⟨s8, L8, rfl, hg8, ho8, hv8⟩; have hl8 : L8.length = 2 := hv8.1; obtain ⟨x8, c8, rfl⟩ := own_slice ho8; have HG8 := Lib.hid (gr_trans HG6.out hg8); clear hg8 ho8 hv8))
  go_ret
  exact ⟨rfl, gr_trans HG5.out HG8.out⟩
end Hs
end Go.Proofs.Ytndbgnkobodjkaa
