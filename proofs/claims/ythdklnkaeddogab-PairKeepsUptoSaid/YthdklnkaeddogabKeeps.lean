/-
  PairKeeps: for every list of halves and every vector the law returns true, where the halves are no more than 2^20.
-/
import Derived.Test.YthdklnkaeddogabKeepsM
namespace Go.Proofs.Ythdklnkaeddogab
open Go.RowKit VecM
def ΦKZ (ha a7 a10 a11 a15 a16 : Option Addr) (n hc c7 c9 c10 c11 c15 c16 g9 : Nat) (b : Nat → Int) (k : Nat) (v : Value) (_wn : World) : Prop :=
  match k with
  | 0 => v = (.slice a15 (n + 3) c15)
  | 1 => v = (.int .i64 ((n : Int) + 3))
  | 2 => v = (.slice a10 n c10)
  | 3 => v = (.int .i64 (n : Int))
  | 4 => v = (.int .i64 ((n : Int) + 3))
  | 5 => v = (.bool true)
  | 6 => v = (.bool true)
  | 7 => v = (.slice a16 11 c16)
  | 8 => v = (.int .i64 11)
  | 9 => v = (.bool true)
  | 10 => v = (.bool true)
  | 11 => v = (.bool true)
  | 12 => v = (.slice a11 n c11)
  | 13 => v = (.slice ha n hc)
  | 14 => v = (.bool true)
  | 15 => v = (.bool true)
  | 16 => v = (.bool true)
  | 17 => v = (.slice (some ⟨g9, 0, none⟩) 8 c9)
  | 18 => v = (.agg (bs b))
  | 19 => v = (.agg (bs b))
  | 20 => v = (.bool true)
  | 21 => v = (.bool true)
  | 22 => v = (.bool true)
  | 23 => v = (.slice a7 n c7)
  | 24 => v = (.int .i64 (n : Int))
  | 25 => v = (.slice ha n hc)
  | 26 => v = (.int .i64 (n : Int))
  | 27 => v = (.bool true)
  | 28 => v = (.bool true)
  | 29 => v = (.bool true)
  | 30 => v = (.slice a7 n c7)
  | 31 => v = (.int .i64 (n : Int))
  | 32 => v = (.bool true)
  | 33 => v = (.bool true)
  | 34 => v = undef
  | 35 => v = undef
  | 36 => v = undef
  | 37 => v = undef
  | 38 => v = undef
  | 39 => v = undef
  | 40 => v = undef
  | 41 => v = undef
  | 42 => v = undef
  | 43 => v = (.bool true)
  | 44 => v = (.bool true)
  | 45 => v = (.bool true)
  | _ => True
theorem ΦKZ_mono (ha a7 a10 a11 a15 a16 : Option Addr) (n hc c7 c9 c10 c11 c15 c16 g9 : Nat) (b : Nat → Int) : ∀ k v wn wn', Gr wn wn' → ΦKZ ha a7 a10 a11 a15 a16 n hc c7 c9 c10 c11 c15 c16 g9 b k v wn → ΦKZ ha a7 a10 a11 a15 a16 n hc c7 c9 c10 c11 c15 c16 g9 b k v wn' := by
  intro k v wn wn' hg h
  match k with
  | 0 => exact h
  | 1 => exact h
  | 2 => exact h
  | 3 => exact h
  | 4 => exact h
  | 5 => exact h
  | 6 => exact h
  | 7 => exact h
  | 8 => exact h
  | 9 => exact h
  | 10 => exact h
  | 11 => exact h
  | 12 => exact h
  | 13 => exact h
  | 14 => exact h
  | 15 => exact h
  | 16 => exact h
  | 17 => exact h
  | 18 => exact h
  | 19 => exact h
  | 20 => exact h
  | 21 => exact h
  | 22 => exact h
  | 23 => exact h
  | 24 => exact h
  | 25 => exact h
  | 26 => exact h
  | 27 => exact h
  | 28 => exact h
  | 29 => exact h
  | 30 => exact h
  | 31 => exact h
  | 32 => exact h
  | 33 => exact h
  | 34 => exact h
  | 35 => exact h
  | 36 => exact h
  | 37 => exact h
  | 38 => exact h
  | 39 => exact h
  | 40 => exact h
  | 41 => exact h
  | 42 => exact h
  | 43 => exact h
  | 44 => exact h
  | 45 => exact h
  | k + 46 => trivial
def ΦKP (a10 a11 a15 a16 : Option Addr) (n hc c7 c9 c10 c11 c15 c16 g9 hb ho g7 o7 : Nat) (b zs : Nat → Int) (k : Nat) (v : Value) (wn : World) : Prop :=
  match k with
  | 0 => v = (.slice a15 (n + 3) c15)
  | 1 => v = (.int .i64 ((n : Int) + 3))
  | 2 => v = (.slice a10 n c10)
  | 3 => v = (.int .i64 (n : Int))
  | 4 => v = (.int .i64 ((n : Int) + 3))
  | 5 => v = (.bool true)
  | 6 => v = (.bool true)
  | 7 => v = (.slice a16 11 c16)
  | 8 => v = (.int .i64 11)
  | 9 => v = (.bool true)
  | 10 => v = (.bool true)
  | 11 => v = (.bool true)
  | 12 => v = (.slice a11 n c11)
  | 13 => v = (.slice (some ⟨hb, ho, none⟩) n hc)
  | 14 => v = (.bool true)
  | 15 => v = (.bool true)
  | 16 => v = (.bool true)
  | 17 => v = (.slice (some ⟨g9, 0, none⟩) 8 c9)
  | 18 => v = (.agg (bs b))
  | 19 => v = (.agg (bs b))
  | 20 => v = (.bool true)
  | 21 => v = (.bool true)
  | 22 => v = (.bool true)
  | 23 => v = (.slice (some ⟨g7, o7, none⟩) n c7)
  | 24 => v = (.int .i64 (n : Int))
  | 25 => v = (.slice (some ⟨hb, ho, none⟩) n hc)
  | 26 => v = (.int .i64 (n : Int))
  | 27 => v = (.bool true)
  | 28 => v = (.bool true)
  | 29 => v = (.bool true)
  | 30 => v = (.slice (some ⟨g7, o7, none⟩) n c7)
  | 31 => v = (.int .i64 (n : Int))
  | 32 => v = (.bool false)
  | 33 => v = (.bool false)
  | 34 => v = (.slice (some ⟨g7, o7, none⟩) n c7)
  | 35 => v = (.pointer (some ⟨g7, o7, none⟩))
  | 36 => v = (.agg (bs (setI (fun _ => 0) 64 0 (zs 0))))
  | 37 => v = (.slice (some ⟨hb, ho, none⟩) n hc)
  | 38 => v = (.pointer (some ⟨hb, ho, none⟩))
  | 39 => v = (.int .u64 (zs 0))
  | 40 => U64s wn v 1 (fun _ => zs 0)
  | 41 => v = (.agg (bs (setI (fun _ => 0) 64 0 (zs 0))))
  | 42 => v = (.bool true)
  | 43 => v = (.bool true)
  | 44 => v = (.bool true)
  | 45 => v = (.bool true)
  | _ => True
theorem ΦKP_mono (a10 a11 a15 a16 : Option Addr) (n hc c7 c9 c10 c11 c15 c16 g9 hb ho g7 o7 : Nat) (b zs : Nat → Int) : ∀ k v wn wn', Gr wn wn' → ΦKP a10 a11 a15 a16 n hc c7 c9 c10 c11 c15 c16 g9 hb ho g7 o7 b zs k v wn → ΦKP a10 a11 a15 a16 n hc c7 c9 c10 c11 c15 c16 g9 hb ho g7 o7 b zs k v wn' := by
  intro k v wn wn' hg h
  match k with
  | 0 => exact h
  | 1 => exact h
  | 2 => exact h
  | 3 => exact h
  | 4 => exact h
  | 5 => exact h
  | 6 => exact h
  | 7 => exact h
  | 8 => exact h
  | 9 => exact h
  | 10 => exact h
  | 11 => exact h
  | 12 => exact h
  | 13 => exact h
  | 14 => exact h
  | 15 => exact h
  | 16 => exact h
  | 17 => exact h
  | 18 => exact h
  | 19 => exact h
  | 20 => exact h
  | 21 => exact h
  | 22 => exact h
  | 23 => exact h
  | 24 => exact h
  | 25 => exact h
  | 26 => exact h
  | 27 => exact h
  | 28 => exact h
  | 29 => exact h
  | 30 => exact h
  | 31 => exact h
  | 32 => exact h
  | 33 => exact h
  | 34 => exact h
  | 35 => exact h
  | 36 => exact h
  | 37 => exact h
  | 38 => exact h
  | 39 => exact h
  | 40 => exact u64s_gr h hg
  | 41 => exact h
  | 42 => exact h
  | 43 => exact h
  | 44 => exact h
  | 45 => exact h
  | k + 46 => trivial
set_option maxRecDepth 100000 in
set_option maxHeartbeats 8000000 in
theorem keeps_walk (hv : Value) (n : Nat) (zs : Nat → Int) (hz : ∀ j, 0 ≤ zs j ∧ zs j < 18446744073709551616) (b : Nat → Int) (hb : Byt b) (hn : n ≤ 1048576) (w : World) (hu : U64c w hv n zs) (hs : Src w hv n (u64s zs n)) :
    Calls Try.prog 9 #[hv, .agg (bs b)] w fun e w' => e = .returned (.bool true) ∧ Gr w w' := by
  obtain ⟨ha, hc, rfl⟩ := slice_u64c hu
  have HU := Lib.hid (u64s_of_c hu)
  have HSr := Lib.hid hs
  have HZ := Lib.hid hz
  have HBy := Lib.hid hb
  have HN := Lib.hid (show n ≤ 1099511627776 by omega)
  obtain ⟨i0, hi, hz0, hz1, hz2⟩ := info_parts info64
  have HI := Lib.hid hi
  have HZ0 := Lib.hid hz0
  have HZ1 := Lib.hid hz1
  have HZ2 := Lib.hid hz2
  obtain ⟨j0, hj, hj0, hj1, hj2⟩ := info_parts infoI
  have HJ := Lib.hid hj
  have HJ0 := Lib.hid hj0
  have HJ1 := Lib.hid hj1
  have HJ2 := Lib.hid hj2
  clear hu hs hz hb hi hz0 hz1 hz2 hj hj0 hj1 hj2
  go_enter Try.func9, Try.ntmps9
  go_upto_region 3 with (go_at_call 10; refine (Aw.awake _).mono ?_; rintro e w1 ⟨rfl, hg1⟩; have HG1 := Lib.hid hg1; clear hg1)
  have HB1 := Lib.hid (gr_block HG1.out (heap_alloc_new w (.cells (bs b) 25)))
  have HGw1 := Lib.hid (gr_trans ((Gr.refl w).allocO (.cells (bs b) 25)) HG1.out)
  have HS1 := Lib.hid (src_gr HSr.out HGw1.out)
  have HW1 := Lib.hid (show w.heap.size < w1.heap.size by have := HG1.out.size; simp at this; omega)
  clear HG1
  go_wp2_with (at_builtin; refine wpList_append_src rfl _ _ 34 rfl w1.heap.size 26 i0 (.int .u64 0) 1 8 Try.underlying34 HI.out HZ0.out HZ1.out HZ2.out rfl (by decide) (.slice (some ⟨w1.heap.size, 0, none⟩) 0 0) 0 [] rfl (World.ownsRow_made w1 #[] 0 (Nat.le_refl _) (by decide) rfl) (.slice ha n hc) n (u64s zs n) rfl (src_gr HS1.out ((Gr.refl w1).allocO _)) (u64s_len _ _) (u64s_one _ _) (by unfold maxLen; omega) (by omega) (by simp) ?_)
  intro v2 w2 hown2 hgb2
  have HG2 := Lib.hid (((Gr.refl w1).allocO _).grown hgb2 (fun q hq => by simp [Value.ownBlock] at hq; omega))
  have HO2 := Lib.hid (show w2.ownsRow w1.heap.size 26 1 v2 n (u64s zs n) by simpa using hown2)
  clear hown2 hgb2
  go_wp2_with (at_builtin; refine wpList_append_src rfl _ _ 34 rfl w1.heap.size 26 i0 (.int .u64 0) 1 8 Try.underlying34 HI.out HZ0.out HZ1.out HZ2.out rfl (by decide) v2 n (u64s zs n) rfl (HO2.out.alloc _) (.slice (some ⟨w2.heap.size, 0, none⟩) 2 2) 2 [.int .u64 81, .int .u64 82] rfl (src_lit w2 #[.int .u64 81, .int .u64 82] _ 2 2) rfl (fun u hu => by simp at hu; rcases hu with rfl | rfl <;> rfl) (by unfold maxLen; omega) (by omega) (by have := HG2.out.size; simp; omega) ?_)
  intro v3 w3 hown3 hgb3
  have HG3 := Lib.hid ((gr_trans HG2.out ((Gr.refl w2).allocO _)).grown hgb3 (fun q hq => (HO2.out.lt q hq).1))
  obtain ⟨gf, cf, rfl, hcf, hgf1, hgf2⟩ := owns_some hown3 (by omega)
  have HO3 := Lib.hid hown3
  clear hown3 hgb3 HG2 HO2 HS1
  have HGw3 := Lib.hid (gr_trans HGw1.out HG3.out)
  have HB3 := Lib.hid (gr_block HG3.out HB1.out)
  have HGF := Lib.hid hgf1
  have HGF2 := Lib.hid hgf2
  clear hgf1 hgf2
  go_wp2_with (at_make; refine wpList_make_full w3 rfl _ _ 44 rfl w3.heap.size 3 j0 (.int .i64 0) 1 Try.underlying44 HJ.out HJ0.out HJ1.out .i64 .i64 (n : Int) (n : Int) n rfl rfl rfl rfl (by rw [HJ2.out]; omega) (by unfold maxLen; omega) (Nat.le_refl _) ?_)
  intro w4 hown4 hgb4
  have HG4 := Lib.hid ((Gr.refl w3).grown hgb4 (fun q hq => by cases hq))
  have HO4 := Lib.hid hown4
  have HF4 := Lib.hid (owns_gr HO3.out HG4.out)
  have HB4 := Lib.hid (gr_block HG4.out HB3.out)
  have HGw4 := Lib.hid (gr_trans HGw3.out HG4.out)
  have HSz := Lib.hid (show w1.heap.size ≤ w3.heap.size from HG3.out.size)
  generalize hgt : w3.heap.size = gt at *
  have HGT := Lib.hid (Nat.le_of_eq hgt)
  have HGT4 := Lib.hid (show gt < w4.heap.size from (HO4.out.lt gt rfl).2)
  clear hown4 hgb4 hgt
  go_wp2_with fail
  go_loopw [7] (fun i wr => ∃ k : Nat, k ≤ n ∧ i = .int .i64 k ∧ Sep (fun q => q = gt) w4 wr ∧ ∃ xs, wr.ownsRow gt 3 1 (.slice (some ⟨gt, 0, none⟩) n n) n xs ∧ ∀ j, j < k → xs[j]? = some (.int .i64 126)) (fun i _ => n - (intOf i).toNat)
  case atStart => exact ⟨0, by omega, rfl, Sep.refl _, _, HO4.out, fun j hj => by omega⟩
  case round =>
    obtain ⟨k, hk, rfl, hsep, xs, hown, hxs⟩ := hrel
    have HSep := Lib.hid hsep
    have HOw := Lib.hid hown
    have HX := Lib.hid hxs
    clear hsep hown hxs
    by_cases hlt : k < n
    · obtain ⟨xk, hxk⟩ : ∃ xk, wr.cell? ⟨gt, k, none⟩ = some xk := by
        have h1 := HOw.out.cellAt k (by omega)
        have h2 := HOw.out.1
        rw [List.getElem?_eq_getElem (by omega)] at h1
        exact ⟨_, h1⟩
      have hfz := HOw.out.frozenAt k
      go_wp2
      exact ⟨⟨k + 1, by omega, by go_num, Sep.trans HSep.out (Sep.setCell (ex := fun q => q = gt) _ (p := ⟨gt, k, none⟩) rfl _), _, (HOw.out.stored k _).1, fun j hj => by
        by_cases hjk : j = k
        · subst hjk; rw [List.getElem?_set_self (by have := HOw.out.1; omega)]
        · rw [List.getElem?_set_ne (Ne.symm hjk)]; exact HX.out j (by omega)⟩, by simp [intOf]; omega⟩
    · obtain rfl : n = k := by omega
      clear hlt hk
      have HT := Lib.hid (show I64s wr (.slice (some ⟨gt, 0, none⟩) n n) n t126 from .inr ⟨by omega, gt, 0, n, rfl, fun j hj => by rw [Nat.zero_add, HOw.out.cellAt j (by omega)]; exact HX.out j hj⟩)
      have HGr := Lib.hid (HSep.out.toGr HGw4.out (fun q hq => by subst hq; have := HSz.out; have := HW1.out; omega))
      have HBr := Lib.hid (HSep.out.at_ (by have := HSz.out; have := HW1.out; omega) HB4.out)
      have HFr := Lib.hid (HSep.out.owns HF4.out (fun q hq => by simp [Value.ownBlock] at hq; have := HGF2.out; omega))
      clear HSep HOw HX HB1 HGw1 HG3 HO3 HGw3 HB3 HG4 HO4 HF4 HB4 HGw4
      have HFc := Lib.hid (u64c_first HFr.out (by omega) hcf (by omega))
      generalize hts : t126 = ts at *
      have HTS := Lib.hid hts
      have HTX := Lib.hid (show takX ts n n = 0 by rw [← hts]; exact takX_yes ⟨ok126 n, need126 n⟩)
      have HTN := Lib.hid (show takN ts n n = n by rw [← hts]; exact takN_yes ⟨ok126 n, need126 n⟩)
      have HPX := Lib.hid (show putX ts n n = 0 by rw [← hts]; exact putX_yes ⟨ok126 n, rfl⟩)
      have HPR := Lib.hid (show putR ts (takeV ts zs) n n = (List.range n).map zs by rw [← hts]; exact putR126 HZ.out n)
      have HTB := Lib.hid (show ∀ k, Byt (takeV ts zs k) by rw [← hts]; intro k; rw [take126]; exact setI_byt zero_byt _ _ _)
      clear hts
      go_upto_region 10 with (go_at_call 30; refine (take_any HN.out HT.out HFc.out).mono ?_; rw [HTX.out, HTN.out]; rintro e w6 ⟨s6, rfl, hg6, ho6⟩; have HG6 := Lib.hid hg6; have HO6 := Lib.hid ho6; clear hg6 ho6)
      go_upto_region 11 with (go_at_call 30; refine (take_any HN.out (i64s_gr HT.out HG6.out) (u64c_gr HFc.out HG6.out)).mono ?_; rw [HTX.out, HTN.out]; rintro e w7 ⟨s7, rfl, hg7, ho7⟩; have HG7 := Lib.hid hg7; have HO7 := Lib.hid ho7; clear hg7 ho7)
      have HB7 := Lib.hid (gr_block (gr_trans HG6.out HG7.out) HBr.out)
      go_upto_region 12 with (first | (refine wpList_load_row rfl 25 _ rfl w.heap.size rfl 25 (bs b) (0, 0) _ HB7.out Try.underlying25 rfl infoV ?_) | (go_at_call 20; refine (all_any b HBy.out 16 _).mono ?_; rintro e w8 ⟨s8, rfl, hg8, ho8⟩; have HG8 := Lib.hid hg8; have HO8 := Lib.hid (show w8.ownsRow w7.heap.size 26 1 s8 8 (u64s (fun j => getI b 16 j) 8) from ho8); clear hg8 ho8))
      have HB8 := Lib.hid (gr_block HG8.out HB7.out)
      go_upto_region 13 with (first | (refine wpList_load_row rfl 25 _ rfl w.heap.size rfl 25 (bs b) (0, 0) _ HB8.out Try.underlying25 rfl infoV ?_) | (go_at_call 20; refine (all_any b HBy.out 16 _).mono ?_; rintro e w9 ⟨s9, rfl, hg9, ho9⟩; have HG9 := Lib.hid hg9; have HO9 := Lib.hid (show w9.ownsRow w8.heap.size 26 1 s9 8 (u64s (fun j => getI b 16 j) 8) from ho9); clear hg9 ho9))
      have HK9 := Lib.hid (gr_trans HG8.out HG9.out)
      have HV7 := Lib.hid (vecs_of_owns HO7.out)
      have HT9 := Lib.hid (i64s_gr HT.out (gr_trans HG6.out (gr_trans HG7.out HK9.out)))
      go_upto_region 14 with (go_at_call 28; refine (put_any HTB.out HN.out HT9.out (vecs_gr HV7.out HK9.out)).mono ?_; rw [HPX.out, HPR.out, uvs_range]; rintro e w10 ⟨s10, rfl, hg10, ho10⟩; have HG10 := Lib.hid hg10; have HO10 := Lib.hid (show w10.ownsRow w9.heap.size 26 1 s10 n (u64s zs n) by simpa using ho10); clear hg10 ho10)
      go_upto_region 15 with (go_at_call 28; refine (put_any HTB.out HN.out (i64s_gr HT9.out HG10.out) (vecs_gr HV7.out (gr_trans HK9.out HG10.out))).mono ?_; rw [HPX.out, HPR.out, uvs_range]; rintro e w11 ⟨s11, rfl, hg11, ho11⟩; have HG11 := Lib.hid hg11; have HO11 := Lib.hid (show w11.ownsRow w10.heap.size 26 1 s11 n (u64s zs n) by simpa using ho11); clear hg11 ho11)
      obtain ⟨a6, c6, rfl⟩ := owns_slice HO6.out
      obtain ⟨a7, c7, rfl⟩ := owns_slice HO7.out
      obtain ⟨g8, c8, rfl, hc8, -, -⟩ := owns_some HO8.out (by decide)
      obtain ⟨g9, c9, rfl, hc9, -, -⟩ := owns_some HO9.out (by decide)
      obtain ⟨a10, c10, rfl⟩ := owns_slice HO10.out
      obtain ⟨a11, c11, rfl⟩ := owns_slice HO11.out
      have HK11 := Lib.hid (gr_trans HG10.out HG11.out)
      have HKr := Lib.hid (gr_trans HG6.out (gr_trans HG7.out (gr_trans HK9.out HK11.out)))
      have HGa := Lib.hid (gr_trans HGr.out HKr.out)
      have HF11 := Lib.hid (u64s_of_c (u64c_gr HFc.out HKr.out))
      have HU11 := Lib.hid (u64s_gr HU.out HGa.out)
      have HX11 := Lib.hid (u64s_gr (u64s_of_owns HO10.out) HG11.out)
      have HA11 := Lib.hid (vecs_gr (vecs_of_owns HO6.out) (gr_trans HG7.out (gr_trans HK9.out HK11.out)))
      have HV11 := Lib.hid (vecs_gr HV7.out (gr_trans HK9.out HK11.out))
      have H81 := Lib.hid (show wr.cell? ⟨gf, n, none⟩ = some (.int .u64 81) by rw [HFr.out.cellAt n (by omega), List.getElem?_append_right (by rw [u64s_len]; omega), u64s_len]; simp)
      have hnf : (n : Int) < (n : Int) + 2 := by omega
      go_upto_region 17 with (first | (go_at_call 19; refine (same_any (u64s_gr HX11.out HG12.out) (u64s_gr HU11.out HG12.out)).mono ?_; rintro e w13 ⟨rfl, hg13⟩; have HG13 := Lib.hid (gr_trans HG12.out hg13); clear hg13) | (go_at_call 19; refine (same_any HF11.out HU11.out).mono ?_; rintro e w12 ⟨rfl, hg12⟩; have HG12 := Lib.hid hg12; have h81 := gr_cell (gr_trans HKr.out HG12.out) H81.out; clear hg12) | (go_at_call 32; refine (vecs_any (vecs_gr HA11.out HG13.out) (vecs_gr HV11.out HG13.out)).mono ?_; rintro e w14 ⟨rfl, hg14⟩; have HG14 := Lib.hid (gr_trans HG13.out hg14); clear hg14))
      have HZs := Lib.hid (show w.heap.size < wr.heap.size ∧ wr.heap.size ≤ w6.heap.size ∧ w6.heap.size ≤ w7.heap.size ∧ w7.heap.size ≤ w8.heap.size ∧ w8.heap.size ≤ w9.heap.size ∧ w9.heap.size ≤ w10.heap.size ∧ w10.heap.size ≤ w11.heap.size from
        ⟨(Array.getElem?_eq_some_iff.1 HBr.out).1, HG6.out.size, HG7.out.size, HG8.out.size, HG9.out.size, HG10.out.size, HG11.out.size⟩)
      obtain ⟨ex, hex⟩ : ∃ ex : Nat → Prop, ∀ k, ex k ↔ ((Value.slice a6 n c6).ownBlock = some k ∨ (Value.slice a10 n c10).ownBlock = some k) := ⟨_, fun _ => Iff.rfl⟩
      obtain ⟨ey, hey⟩ : ∃ ey : Nat → Prop, ∀ k, ey k ↔ (ex k ∨ k = g8) := ⟨_, fun _ => Iff.rfl⟩
      have HEa := Lib.hid (show ∀ k, (Value.slice a6 n c6).ownBlock = some k → ex k from fun k h => (hex k).2 (.inl h))
      have HEb := Lib.hid (show ∀ k, (Value.slice a10 n c10).ownBlock = some k → ex k from fun k h => (hex k).2 (.inr h))
      have HXY := Lib.hid (show ∀ k, ex k → ey k from fun k h => (hey k).2 (.inl h))
      have HE8 := Lib.hid (show ey g8 from (hey g8).2 (.inr rfl))
      have HEr := Lib.hid (show ∀ k, ex k → (wr.heap.size ≤ k ∧ k < w6.heap.size) ∨ (w9.heap.size ≤ k ∧ k < w10.heap.size) from fun k h => ((hex k).1 h).imp (HO6.out.lt k) (HO10.out.lt k))
      have HE8r := Lib.hid (show w7.heap.size ≤ g8 ∧ g8 < w8.heap.size from HO8.out.lt g8 rfl)
      have HEY := Lib.hid (show ∀ k, ey k → (wr.heap.size ≤ k ∧ k < w6.heap.size) ∨ (w9.heap.size ≤ k ∧ k < w10.heap.size) ∨ (w7.heap.size ≤ k ∧ k < w8.heap.size) from fun k h => by
        rcases (hey k).1 h with h | rfl
        · exact (HEr.out k h).imp id .inl
        · exact .inr (.inr HE8r.out))
      have HN8 := Lib.hid (show ¬ ex g8 from fun h => by have := HEr.out g8 h; have := HE8r.out; have := HZs.out; omega)
      have HXA := Lib.hid (show ∀ k, (Value.slice a10 n c10).ownBlock = some k → ¬ (Value.slice a6 n c6).ownBlock = some k from fun k h h' => by have := HO6.out.lt k h'; have := HO10.out.lt k h; have := HZs.out; omega)
      clear hex hey
      have HN7 := Lib.hid (show ∀ k, (Value.slice a7 n c7).ownBlock = some k → ¬ ey k from fun k h hx => by have := HO7.out.lt k h; have := HEY.out k hx; have := HZs.out; omega)
      have HN9 := Lib.hid (show ∀ k, (Value.slice (some ⟨g9, 0, none⟩) 8 c9).ownBlock = some k → ¬ ey k from fun k h hx => by have := HO9.out.lt k h; have := HEY.out k hx; have := HZs.out; omega)
      have HN11 := Lib.hid (show ∀ k, (Value.slice a11 n c11).ownBlock = some k → ¬ ey k from fun k h hx => by have := HO11.out.lt k h; have := HEY.out k hx; have := HZs.out; omega)
      have HNw := Lib.hid (show ¬ ey w.heap.size from fun hx => by have := HEY.out _ hx; have := HZs.out; omega)
      have HEw := Lib.hid (show ∀ k, ey k → w.heap.size ≤ k from fun k hx => by have := HEY.out k hx; have := HZs.out; omega)
      have HG114 := Lib.hid (gr_trans HK11.out HG14.out)
      have HO6w := Lib.hid (owns_gr HO6.out (gr_trans HG7.out (gr_trans HK9.out HG114.out)))
      have HO8w := Lib.hid (owns_gr HO8.out (gr_trans HG9.out HG114.out))
      have HO7w := Lib.hid (owns_gr HO7.out (gr_trans HK9.out HG114.out))
      have HO9w := Lib.hid (owns_gr HO9.out HG114.out)
      have HO11w := Lib.hid (owns_gr HO11.out HG14.out)
      have HB14 := Lib.hid (gr_block (gr_trans HKr.out HG14.out) HBr.out)
      have HGw14 := Lib.hid (gr_trans HGa.out HG14.out)
      have HO10w := Lib.hid (owns_gr HO10.out (gr_trans HG11.out HG14.out))
      go_wp2_with fail
      go_loopw [18] (fun i wr => ∃ k : Nat, k ≤ n ∧ i = .int .i64 k ∧ Sep ex w14 wr ∧ (∀ g, a6 = some ⟨g, 0, none⟩ → wr.there g 0 (n * 16)) ∧ ∃ xs, wr.ownsRow w9.heap.size 26 1 (.slice a10 n c10) n xs) (fun i _ => n - (intOf i).toNat)
      case atStart => exact ⟨0, by omega, rfl, Sep.refl _, fun g hg => by subst hg; exact owns_there HO6w.out, _, HO10w.out⟩
      case round =>
        obtain ⟨k, hk, rfl, hsq, hth, xs, hox⟩ := hrel
        have HSq := Lib.hid hsq
        have HTh := Lib.hid hth
        have HOx := Lib.hid hox
        clear hsq hth hox
        by_cases hlt : k < n
        · obtain ⟨g6, _, he6, _, _, _⟩ := owns_some HO6.out (by omega)
          obtain ⟨g10, _, he10, _, _, _⟩ := owns_some HO10.out (by omega)
          obtain rfl := (Value.slice.inj he6).1
          obtain rfl := (Value.slice.inj he10).1
          clear he6 he10
          have hne : g10 ≠ g6 := fun e => HXA.out g10 rfl (by rw [e]; rfl)
          have HTk := Lib.hid (there_part (o' := k * 16) (m := 16) (HTh.out g6 rfl) (by omega) (by omega))
          have HNe := Lib.hid hne
          clear hne
          go_upto_region 21 with (first | (refine wpList_build_at rfl 25 _ rfl (bs v12) bld12 ?_) | (refine wpList_store_mid rfl 25 _ _ rfl g6 (k * 16) (bs v12) rfl rfl HTk.out infoV (bs_one _) ?_))
          have HS1 := Lib.hid (show Sep ex wr (wr.setCells g6 (k * 16) (bs v12).toList) from Sep.setCells (HEa.out g6 rfl) _ _ _)
          have HT1 := Lib.hid (World.there_setCells (HTh.out g6 rfl) g6 (k * 16) (bs v12).toList)
          have HO1 := Lib.hid ((Sep.setCells (ex := fun q => q = g6) rfl (bs v12).toList (k * 16) wr).owns HOx.out (fun q hq => by simp only [Value.ownBlock, Option.some.injEq] at hq; subst hq; exact HNe.out))
          generalize wr.setCells g6 (k * 16) (bs v12).toList = W1 at *
          obtain ⟨xk, hxk⟩ : ∃ xk, W1.cell? ⟨g10, k, none⟩ = some xk := by
            have h1 := HO1.out.cellAt k (by omega)
            have h2 := HO1.out.1
            rw [List.getElem?_eq_getElem (by omega)] at h1
            exact ⟨_, h1⟩
          have hfz := HO1.out.frozenAt k
          go_wp2
          exact ⟨⟨k + 1, by omega, by go_num, Sep.trans HSq.out (Sep.trans HS1.out (Sep.setCell _ (p := ⟨g10, k, none⟩) (HEb.out g10 rfl) _)), fun g hg => by
            obtain rfl : g6 = g := by simpa using hg
            exact there_sep (ex := fun q => q = g10) HT1.out (fun e => HNe.out e.symm) (Sep.setCell (ex := fun q => q = g10) _ (p := ⟨g10, k, none⟩) rfl _), _, (HO1.out.stored k _).1⟩, by simp [intOf]; omega⟩
        · obtain rfl : n = k := by omega
          clear hlt hk HTh
          have HSy := Lib.hid (HSq.out.mono HXY.out)
          have HOy := Lib.hid (HSq.out.owns HO8w.out (fun q hq => by simp only [Value.ownBlock, Option.some.injEq] at hq; subst hq; exact HN8.out))
          clear HSq
          go_wp2_with fail
          go_loopw [19] (fun i wr => ∃ k : Nat, k ≤ 8 ∧ i = .int .i64 k ∧ Sep ey w14 wr ∧ (∃ xs, wr.ownsRow w9.heap.size 26 1 (.slice a10 n c10) n xs) ∧ ∃ ys, wr.ownsRow w7.heap.size 26 1 (.slice (some ⟨g8, 0, none⟩) 8 c8) 8 ys) (fun i _ => 8 - (intOf i).toNat)
          case atStart => exact ⟨0, by omega, rfl, HSy.out, ⟨_, HOx.out⟩, _, HOy.out⟩
          case round =>
            obtain ⟨k, hk, rfl, hsp, ⟨xs', hox⟩, ys, hoy⟩ := hrel
            have HSp := Lib.hid hsp
            have HOp := Lib.hid hox
            have HOc := Lib.hid hoy
            clear hsp hox hoy HOx HOy HSy
            by_cases hlt : k < 8
            · obtain ⟨xk, hxk⟩ : ∃ xk, wr.cell? ⟨g8, k, none⟩ = some xk := by
                have h1 := HOc.out.cellAt k (by omega)
                have h2 := HOc.out.1
                rw [List.getElem?_eq_getElem (by omega)] at h1
                exact ⟨_, h1⟩
              have hfz := HOc.out.frozenAt k
              go_wp2
              exact ⟨⟨k + 1, by omega, by go_num, Sep.trans HSp.out (Sep.setCell _ (p := ⟨g8, k, none⟩) HE8.out _), ⟨_, (Sep.setCell (ex := fun q => q = g8) _ (p := ⟨g8, k, none⟩) rfl _).owns HOp.out (fun q hq e => by subst e; exact HN8.out (HEb.out _ hq))⟩, _, (HOc.out.stored k _).1⟩, by simp [intOf]; omega⟩
            · obtain rfl : k = 8 := by omega
              clear hlt hk
              have hszp := HSp.out.size
              have HSzp := Lib.hid hszp
              have HSz14 := Lib.hid (gr_trans HKr.out HG14.out).size
              clear hszp
              go_wp2_with (at_builtin; refine wpList_append_src rfl _ _ 34 rfl w9.heap.size 26 i0 (.int .u64 0) 1 8 Try.underlying34 HI.out HZ0.out HZ1.out HZ2.out rfl (by decide) (.slice a10 n c10) n xs' rfl (HOp.out.alloc _) (.slice (some ⟨wr.heap.size, 0, none⟩) 3 3) 3 [.int .u64 5, .int .u64 5, .int .u64 5] rfl (src_lit wr #[.int .u64 5, .int .u64 5, .int .u64 5] _ 3 3) rfl (fun u hu => by simp at hu; subst hu; rfl) (by unfold maxLen; omega) (by omega) (by have := HSzp.out; have := HG114.out.size; simp; omega) ?_)
              intro v15 w15 hown15 hgb15
              have HS15a := Lib.hid (Sep.trans (Sep.of_gr ((Gr.refl wr).allocO (.cells #[.int .u64 5, .int .u64 5, .int .u64 5] 26))) (Sep.grown (ex := fun q => (Value.slice a10 n c10).ownBlock = some q) hgb15 (fun q hq => hq)))
              have HS15 := Lib.hid (Sep.trans HSp.out (HS15a.out.mono fun q hq => HXY.out q (HEb.out q hq)))
              have HOc15 := Lib.hid (HS15a.out.owns HOc.out (fun q hq h => by simp only [Value.ownBlock, Option.some.injEq] at hq; subst hq; exact HN8.out (HEb.out _ h)))
              obtain ⟨a15, c15, rfl⟩ := owns_slice hown15
              clear hown15 hgb15 HS15a
              have HSz15 := Lib.hid HS15.out.size
              go_wp2_with (at_builtin; refine wpList_append_src rfl _ _ 34 rfl w7.heap.size 26 i0 (.int .u64 0) 1 8 Try.underlying34 HI.out HZ0.out HZ1.out HZ2.out rfl (by decide) (.slice (some ⟨g8, 0, none⟩) 8 c8) 8 ys rfl (HOc15.out.alloc _) (.slice (some ⟨w15.heap.size, 0, none⟩) 3 3) 3 [.int .u64 6, .int .u64 6, .int .u64 6] rfl (src_lit w15 #[.int .u64 6, .int .u64 6, .int .u64 6] _ 3 3) rfl (fun u hu => by simp at hu; subst hu; rfl) (by unfold maxLen; omega) (by omega) (by have := HSz15.out; have := HG114.out.size; have := HG9.out.size; have := HG8.out.size; simp; omega) ?_)
              intro v16 w16 hown16 hgb16
              have HS16a := Lib.hid (Sep.trans (Sep.of_gr ((Gr.refl w15).allocO (.cells #[.int .u64 6, .int .u64 6, .int .u64 6] 26))) (Sep.grown (ex := fun q => q = g8) hgb16 (fun q hq => by simp only [Value.ownBlock, Option.some.injEq] at hq; exact hq.symm)))
              have HS16 := Lib.hid (Sep.trans HS15.out (HS16a.out.mono fun q hq => by subst hq; exact HE8.out))
              obtain ⟨a16, c16, rfl⟩ := owns_slice (show w16.ownsRow w7.heap.size 26 1 v16 11 _ from hown16)
              clear hown16 hgb16 HS16a
              have HGw16 := Lib.hid (HS16.out.toGr HGw14.out HEw.out)
              have HU28 := Lib.hid (u64s_gr HU.out (Gr.drew HGw16.out))
              have HY28 := Lib.hid (u64s_gr (u64s_of_owns (HS16.out.owns HO11w.out HN11.out)) (Gr.drew (Gr.refl w16)))
              have HD28 := Lib.hid (u64s_gr (u64s_of_owns (HS16.out.owns HO9w.out HN9.out)) (Gr.drew (Gr.refl w16)))
              have HB28 := Lib.hid (gr_block (Gr.drew (Gr.refl w16)) (HS16.out.at_ HNw.out HB14.out))
              have HV28 := Lib.hid (vecs_gr (vecs_of_owns (HS16.out.owns HO7w.out HN7.out)) (Gr.drew (Gr.refl w16)))
              have HW3 := Lib.hid (show IntKind.i64.wrap ((n : Int) + 3) = (n : Int) + 3 by rw [IntKind.wrap_i64]; omega)
              by_cases hn0 : n = 0
              · have H0 := Lib.hid (show ((n : Int) == 0) = true from beq_iff_eq.2 (by omega))
                clear hn0
                go_upto_region 28 with (fail)
                refine wp_region_net (ΦKZ ha a7 a10 a11 a15 a16 n hc c7 c9 c10 c11 c15 c16 g9 b) (by kernel_rfl) (by kernel_rfl) (ΦKZ_mono ha a7 a10 a11 a15 a16 n hc c7 c9 c10 c11 c15 c16 g9 b) ?_ ?_
                · refine ⟨?_, ?_, ?_, ?_, ?_, ?_, ?_, ?_, ?_, ?_, ?_, ?_, ?_, ?_, ?_, ?_, ?_, ?_, ?_, ?_, ?_, ?_, ?_, ?_, ?_, ?_, ?_, ?_, ?_, ?_, ?_, ?_, ?_, ?_, ?_, ?_, ?_, ?_, ?_, ?_, ?_, ?_, ?_, ?_, ?_, ?_, trivial⟩
                  · refine NetStep.of rfl fun ρ wx hw hρc hρf hin hdep => ?_
                    have e20 : ρ (.tmp 20) = (.slice a15 (n + 3) c15) := hin 20 (by kernel_rfl)
                    go_simp
                    exact ⟨rfl, Gr.refl _⟩
                  · refine NetStep.of rfl fun ρ wx hw hρc hρf hin hdep => ?_
                    have e154 : ρ (.tmp 154) = (.slice a15 (n + 3) c15) := hdep 0 154 (by kernel_rfl)
                    go_simp
                    exact ⟨rfl, Gr.refl _⟩
                  · refine NetStep.of rfl fun ρ wx hw hρc hρf hin hdep => ?_
                    have e14 : ρ (.tmp 14) = (.slice a10 n c10) := hin 14 (by kernel_rfl)
                    go_simp
                    exact ⟨rfl, Gr.refl _⟩
                  · refine NetStep.of rfl fun ρ wx hw hρc hρf hin hdep => ?_
                    have e156 : ρ (.tmp 156) = (.slice a10 n c10) := hdep 2 156 (by kernel_rfl)
                    go_simp
                    exact ⟨rfl, Gr.refl _⟩
                  · refine NetStep.of rfl fun ρ wx hw hρc hρf hin hdep => ?_
                    have e157 : ρ (.tmp 157) = (.int .i64 (n : Int)) := hdep 3 157 (by kernel_rfl)
                    have hw3 := HW3.out
                    go_simp
                    exact ⟨rfl, Gr.refl _⟩
                  · refine NetStep.of rfl fun ρ wx hw hρc hρf hin hdep => ?_
                    have e155 : ρ (.tmp 155) = (.int .i64 ((n : Int) + 3)) := hdep 1 155 (by kernel_rfl)
                    have e158 : ρ (.tmp 158) = (.int .i64 ((n : Int) + 3)) := hdep 4 158 (by kernel_rfl)
                    go_simp
                    exact ⟨rfl, Gr.refl _⟩
                  · refine NetStep.of rfl fun ρ wx hw hρc hρf hin hdep => ?_
                    have e159 : ρ (.tmp 159) = (.bool true) := hdep 5 159 (by kernel_rfl)
                    go_simp
                    exact ⟨rfl, Gr.refl _⟩
                  · refine NetStep.guarded rfl 160 (by kernel_rfl) (fun _ _ h => h) fun ρ wx hw hρc hρf hin hdep => ?_
                    have e21 : ρ (.tmp 21) = (.slice a16 11 c16) := hin 21 (by kernel_rfl)
                    go_simp
                    exact ⟨rfl, Gr.refl _⟩
                  · refine NetStep.guarded rfl 160 (by kernel_rfl) (fun _ _ h => h) fun ρ wx hw hρc hρf hin hdep => ?_
                    have e161 : ρ (.tmp 161) = (.slice a16 11 c16) := hdep 7 161 (by kernel_rfl)
                    go_simp
                    exact ⟨rfl, Gr.refl _⟩
                  · refine NetStep.guarded rfl 160 (by kernel_rfl) (fun _ _ h => h) fun ρ wx hw hρc hρf hin hdep => ?_
                    have e162 : ρ (.tmp 162) = (.int .i64 11) := hdep 8 162 (by kernel_rfl)
                    go_simp
                    exact ⟨rfl, Gr.refl _⟩
                  · refine NetStep.of rfl fun ρ wx hw hρc hρf hin hdep => ?_
                    have e160 : ρ (.tmp 160) = (.bool true) := hdep 6 160 (by kernel_rfl)
                    have e163 : ρ (.tmp 163) = (.bool true) := hdep 9 163 (by kernel_rfl)
                    go_simp
                    exact ⟨rfl, Gr.refl _⟩
                  · refine NetStep.of rfl fun ρ wx hw hρc hρf hin hdep => ?_
                    have e164 : ρ (.tmp 164) = (.bool true) := hdep 10 164 (by kernel_rfl)
                    go_simp
                    exact ⟨rfl, Gr.refl _⟩
                  · refine NetStep.guarded rfl 165 (by kernel_rfl) (fun _ _ h => h) fun ρ wx hw hρc hρf hin hdep => ?_
                    have e16 : ρ (.tmp 16) = (.slice a11 n c11) := hin 16 (by kernel_rfl)
                    go_simp
                    exact ⟨rfl, Gr.refl _⟩
                  · refine NetStep.guarded rfl 165 (by kernel_rfl) (fun _ _ h => h) fun ρ wx hw hρc hρf hin hdep => ?_
                    have e0 : ρ (.tmp 0) = (.slice ha n hc) := hin 0 (by kernel_rfl)
                    go_simp
                    exact ⟨rfl, Gr.refl _⟩
                  · refine NetStep.guarded rfl 165 (by kernel_rfl) (fun _ _ h => h) fun ρ wx hw hρc hρf hin hdep => ?_
                    have e166 : ρ (.tmp 166) = (.slice a11 n c11) := hdep 12 166 (by kernel_rfl)
                    have e167 : ρ (.tmp 167) = (.slice ha n hc) := hdep 13 167 (by kernel_rfl)
                    go_simp
                    exact (same_any (u64s_gr HY28.out hw) (u64s_gr HU28.out hw)).mono fun e w4 h => ⟨_, h.1, rfl, h.2⟩
                  · refine NetStep.of rfl fun ρ wx hw hρc hρf hin hdep => ?_
                    have e165 : ρ (.tmp 165) = (.bool true) := hdep 11 165 (by kernel_rfl)
                    have e168 : ρ (.tmp 168) = (.bool true) := hdep 14 168 (by kernel_rfl)
                    go_simp
                    exact ⟨rfl, Gr.refl _⟩
                  · refine NetStep.of rfl fun ρ wx hw hρc hρf hin hdep => ?_
                    have e169 : ρ (.tmp 169) = (.bool true) := hdep 15 169 (by kernel_rfl)
                    go_simp
                    exact ⟨rfl, Gr.refl _⟩
                  · refine NetStep.guarded rfl 170 (by kernel_rfl) (fun _ _ h => h) fun ρ wx hw hρc hρf hin hdep => ?_
                    have e13 : ρ (.tmp 13) = (.slice (some ⟨g9, 0, none⟩) 8 c9) := hin 13 (by kernel_rfl)
                    go_simp
                    exact ⟨rfl, Gr.refl _⟩
                  · refine NetStep.guarded rfl 170 (by kernel_rfl) (fun _ _ h => h) fun ρ wx hw hρc hρf hin hdep => ?_
                    have e171 : ρ (.tmp 171) = (.slice (some ⟨g9, 0, none⟩) 8 c9) := hdep 17 171 (by kernel_rfl)
                    go_simp
                    exact (of_back HBy.out 16 (by decide) 8 (by decide) _ wx (u64s_gr HD28.out hw)).mono fun e w4 h => ⟨_, h.1, rfl, h.2⟩
                  · refine NetStep.guarded rfl 170 (by kernel_rfl) (fun _ _ h => h) fun ρ wx hw hρc hρf hin hdep => ?_
                    have e3 : ρ (.tmp 3) = (.pointer (some ⟨w.heap.size, 0, none⟩)) := hin 3 (by kernel_rfl)
                    exact net_load_row 25 _ rfl w.heap.size e3 25 (bs b) (0, 0) _ HB28.out hw Try.underlying25 rfl infoV rfl
                  · refine NetStep.guarded rfl 170 (by kernel_rfl) (fun _ _ h => h) fun ρ wx hw hρc hρf hin hdep => ?_
                    have e172 : ρ (.tmp 172) = (.agg (bs b)) := hdep 18 172 (by kernel_rfl)
                    have e173 : ρ (.tmp 173) = (.agg (bs b)) := hdep 19 173 (by kernel_rfl)
                    have hv := eq_vec b b wx
                    have hr := vecB_refl b
                    go_simp
                    exact ⟨rfl, Gr.refl _⟩
                  · refine NetStep.of rfl fun ρ wx hw hρc hρf hin hdep => ?_
                    have e170 : ρ (.tmp 170) = (.bool true) := hdep 16 170 (by kernel_rfl)
                    have e174 : ρ (.tmp 174) = (.bool true) := hdep 20 174 (by kernel_rfl)
                    go_simp
                    exact ⟨rfl, Gr.refl _⟩
                  · refine NetStep.of rfl fun ρ wx hw hρc hρf hin hdep => ?_
                    have e175 : ρ (.tmp 175) = (.bool true) := hdep 21 175 (by kernel_rfl)
                    go_simp
                    exact ⟨rfl, Gr.refl _⟩
                  · refine NetStep.guarded rfl 176 (by kernel_rfl) (fun _ _ h => h) fun ρ wx hw hρc hρf hin hdep => ?_
                    have e10 : ρ (.tmp 10) = (.slice a7 n c7) := hin 10 (by kernel_rfl)
                    go_simp
                    exact ⟨rfl, Gr.refl _⟩
                  · refine NetStep.guarded rfl 176 (by kernel_rfl) (fun _ _ h => h) fun ρ wx hw hρc hρf hin hdep => ?_
                    have e177 : ρ (.tmp 177) = (.slice a7 n c7) := hdep 23 177 (by kernel_rfl)
                    go_simp
                    exact ⟨rfl, Gr.refl _⟩
                  · refine NetStep.guarded rfl 176 (by kernel_rfl) (fun _ _ h => h) fun ρ wx hw hρc hρf hin hdep => ?_
                    have e0 : ρ (.tmp 0) = (.slice ha n hc) := hin 0 (by kernel_rfl)
                    go_simp
                    exact ⟨rfl, Gr.refl _⟩
                  · refine NetStep.guarded rfl 176 (by kernel_rfl) (fun _ _ h => h) fun ρ wx hw hρc hρf hin hdep => ?_
                    have e179 : ρ (.tmp 179) = (.slice ha n hc) := hdep 25 179 (by kernel_rfl)
                    go_simp
                    exact ⟨rfl, Gr.refl _⟩
                  · refine NetStep.guarded rfl 176 (by kernel_rfl) (fun _ _ h => h) fun ρ wx hw hρc hρf hin hdep => ?_
                    have e178 : ρ (.tmp 178) = (.int .i64 (n : Int)) := hdep 24 178 (by kernel_rfl)
                    have e180 : ρ (.tmp 180) = (.int .i64 (n : Int)) := hdep 26 180 (by kernel_rfl)
                    go_simp
                    exact ⟨rfl, Gr.refl _⟩
                  · refine NetStep.of rfl fun ρ wx hw hρc hρf hin hdep => ?_
                    have e176 : ρ (.tmp 176) = (.bool true) := hdep 22 176 (by kernel_rfl)
                    have e181 : ρ (.tmp 181) = (.bool true) := hdep 27 181 (by kernel_rfl)
                    go_simp
                    exact ⟨rfl, Gr.refl _⟩
                  · refine NetStep.of rfl fun ρ wx hw hρc hρf hin hdep => ?_
                    have e182 : ρ (.tmp 182) = (.bool true) := hdep 28 182 (by kernel_rfl)
                    go_simp
                    exact ⟨rfl, Gr.refl _⟩
                  · refine NetStep.guarded rfl 183 (by kernel_rfl) (fun _ _ h => h) fun ρ wx hw hρc hρf hin hdep => ?_
                    have e10 : ρ (.tmp 10) = (.slice a7 n c7) := hin 10 (by kernel_rfl)
                    go_simp
                    exact ⟨rfl, Gr.refl _⟩
                  · refine NetStep.guarded rfl 183 (by kernel_rfl) (fun _ _ h => h) fun ρ wx hw hρc hρf hin hdep => ?_
                    have e184 : ρ (.tmp 184) = (.slice a7 n c7) := hdep 30 184 (by kernel_rfl)
                    go_simp
                    exact ⟨rfl, Gr.refl _⟩
                  · refine NetStep.guarded rfl 183 (by kernel_rfl) (fun _ _ h => h) fun ρ wx hw hρc hρf hin hdep => ?_
                    have e185 : ρ (.tmp 185) = (.int .i64 (n : Int)) := hdep 31 185 (by kernel_rfl)
                    have h0 := H0.out
                    go_simp
                    exact ⟨rfl, Gr.refl _⟩
                  · refine NetStep.guarded rfl 183 (by kernel_rfl) (fun _ _ h => h) fun ρ wx hw hρc hρf hin hdep => ?_
                    have e186 : ρ (.tmp 186) = (.bool true) := hdep 32 186 (by kernel_rfl)
                    go_simp
                    exact ⟨rfl, Gr.refl _⟩
                  · exact NetStep.skip rfl 187 (by kernel_rfl) (fun _ _ h => h) (fun _ => rfl)
                  · exact NetStep.skip rfl 187 (by kernel_rfl) (fun _ _ h => h) (fun _ => rfl)
                  · exact NetStep.skip rfl 187 (by kernel_rfl) (fun _ _ h => h) (fun _ => rfl)
                  · exact NetStep.skip rfl 187 (by kernel_rfl) (fun _ _ h => h) (fun _ => rfl)
                  · exact NetStep.skip rfl 187 (by kernel_rfl) (fun _ _ h => h) (fun _ => rfl)
                  · exact NetStep.skip rfl 187 (by kernel_rfl) (fun _ _ h => h) (fun _ => rfl)
                  · exact NetStep.skip rfl 187 (by kernel_rfl) (fun _ _ h => h) (fun _ => rfl)
                  · exact NetStep.skip rfl 187 (by kernel_rfl) (fun _ _ h => h) (fun _ => rfl)
                  · exact NetStep.skip rfl 187 (by kernel_rfl) (fun _ _ h => h) (fun _ => rfl)
                  · refine NetStep.guarded rfl 183 (by kernel_rfl) (fun _ _ h => h) fun ρ wx hw hρc hρf hin hdep => ?_
                    have e187 : ρ (.tmp 187) = (.bool true) := hdep 33 187 (by kernel_rfl)
                    have e196 : ρ (.tmp 196) = undef := hdep 42 196 (by kernel_rfl)
                    go_simp
                    exact ⟨rfl, Gr.refl _⟩
                  · refine NetStep.of rfl fun ρ wx hw hρc hρf hin hdep => ?_
                    have e183 : ρ (.tmp 183) = (.bool true) := hdep 29 183 (by kernel_rfl)
                    have e197 : ρ (.tmp 197) = (.bool true) := hdep 43 197 (by kernel_rfl)
                    go_simp
                    exact ⟨rfl, Gr.refl _⟩
                  · refine NetStep.of rfl fun ρ wx hw hρc hρf hin hdep => ?_
                    have e198 : ρ (.tmp 198) = (.bool true) := hdep 44 198 (by kernel_rfl)
                    go_simp
                    exact ⟨rfl, Gr.refl _⟩
                · intro V wN hgN hV
                  have hs : V 4 = .bool true := hV 45 _ 4 rfl rfl
                  have HNN := Lib.hid (gr_trans (Gr.drew HGw16.out) hgN)
                  clear hV hgN
                  simp only [Exit.then, putAll, Act.put, Option.map_some, Option.getD_some, List.setIfInBounds_toArray, List.set_cons_succ, List.set_cons_zero]
                  rw [hs]
                  clear hs
                  go_wp2
                  go_ret
                  exact ⟨rfl, HNN.out⟩
              · have H0 := Lib.hid (show ((n : Int) == 0) = false from beq_eq_false_iff_ne.2 (by omega))
                have hpos : 0 < n := by omega
                obtain ⟨g7, o7, rfl, hl7⟩ : ∃ g o, a7 = some ⟨g, o, none⟩ ∧ ∀ j u, (bs (setI (fun _ => 0) 64 0 (zs 0))).toList[j]? = some u → w16.drew.cell? ⟨g, o + j, none⟩ = some u := by
                  rcases HV28.out with ⟨h, _⟩ | ⟨_, g, o, c, he, hcl⟩
                  · omega
                  · refine ⟨g, o, (Value.slice.inj he).1, fun j u hu => ?_⟩
                    obtain ⟨hj, rfl⟩ := bs_list _ _ _ hu
                    have := hcl 0 hpos j hj
                    rw [Nat.zero_mul, Nat.add_zero, ← HTS.out, take126] at this
                    exact this
                obtain ⟨hb, ho, rfl, hc0⟩ : ∃ g o, ha = some ⟨g, o, none⟩ ∧ w16.drew.cell? ⟨g, o, none⟩ = some (.int .u64 (zs 0)) := by
                  rcases HU28.out with ⟨h, _⟩ | ⟨_, g, o, c, he, hcl⟩
                  · omega
                  · exact ⟨g, o, (Value.slice.inj he).1, by have := hcl 0 hpos; rwa [Nat.add_zero] at this⟩
                have HL7 := Lib.hid hl7
                have HC0 := Lib.hid hc0
                have hnI : (0 : Int) < (n : Int) := by omega
                clear hl7 hc0 hn0
                go_upto_region 28 with (fail)
                refine wp_region_net (ΦKP a10 a11 a15 a16 n hc c7 c9 c10 c11 c15 c16 g9 hb ho g7 o7 b zs) (by kernel_rfl) (by kernel_rfl) (ΦKP_mono a10 a11 a15 a16 n hc c7 c9 c10 c11 c15 c16 g9 hb ho g7 o7 b zs) ?_ ?_
                · refine ⟨?_, ?_, ?_, ?_, ?_, ?_, ?_, ?_, ?_, ?_, ?_, ?_, ?_, ?_, ?_, ?_, ?_, ?_, ?_, ?_, ?_, ?_, ?_, ?_, ?_, ?_, ?_, ?_, ?_, ?_, ?_, ?_, ?_, ?_, ?_, ?_, ?_, ?_, ?_, ?_, ?_, ?_, ?_, ?_, ?_, ?_, trivial⟩
                  · refine NetStep.of rfl fun ρ wx hw hρc hρf hin hdep => ?_
                    have e20 : ρ (.tmp 20) = (.slice a15 (n + 3) c15) := hin 20 (by kernel_rfl)
                    go_simp
                    exact ⟨rfl, Gr.refl _⟩
                  · refine NetStep.of rfl fun ρ wx hw hρc hρf hin hdep => ?_
                    have e154 : ρ (.tmp 154) = (.slice a15 (n + 3) c15) := hdep 0 154 (by kernel_rfl)
                    go_simp
                    exact ⟨rfl, Gr.refl _⟩
                  · refine NetStep.of rfl fun ρ wx hw hρc hρf hin hdep => ?_
                    have e14 : ρ (.tmp 14) = (.slice a10 n c10) := hin 14 (by kernel_rfl)
                    go_simp
                    exact ⟨rfl, Gr.refl _⟩
                  · refine NetStep.of rfl fun ρ wx hw hρc hρf hin hdep => ?_
                    have e156 : ρ (.tmp 156) = (.slice a10 n c10) := hdep 2 156 (by kernel_rfl)
                    go_simp
                    exact ⟨rfl, Gr.refl _⟩
                  · refine NetStep.of rfl fun ρ wx hw hρc hρf hin hdep => ?_
                    have e157 : ρ (.tmp 157) = (.int .i64 (n : Int)) := hdep 3 157 (by kernel_rfl)
                    have hw3 := HW3.out
                    go_simp
                    exact ⟨rfl, Gr.refl _⟩
                  · refine NetStep.of rfl fun ρ wx hw hρc hρf hin hdep => ?_
                    have e155 : ρ (.tmp 155) = (.int .i64 ((n : Int) + 3)) := hdep 1 155 (by kernel_rfl)
                    have e158 : ρ (.tmp 158) = (.int .i64 ((n : Int) + 3)) := hdep 4 158 (by kernel_rfl)
                    go_simp
                    exact ⟨rfl, Gr.refl _⟩
                  · refine NetStep.of rfl fun ρ wx hw hρc hρf hin hdep => ?_
                    have e159 : ρ (.tmp 159) = (.bool true) := hdep 5 159 (by kernel_rfl)
                    go_simp
                    exact ⟨rfl, Gr.refl _⟩
                  · refine NetStep.guarded rfl 160 (by kernel_rfl) (fun _ _ h => h) fun ρ wx hw hρc hρf hin hdep => ?_
                    have e21 : ρ (.tmp 21) = (.slice a16 11 c16) := hin 21 (by kernel_rfl)
                    go_simp
                    exact ⟨rfl, Gr.refl _⟩
                  · refine NetStep.guarded rfl 160 (by kernel_rfl) (fun _ _ h => h) fun ρ wx hw hρc hρf hin hdep => ?_
                    have e161 : ρ (.tmp 161) = (.slice a16 11 c16) := hdep 7 161 (by kernel_rfl)
                    go_simp
                    exact ⟨rfl, Gr.refl _⟩
                  · refine NetStep.guarded rfl 160 (by kernel_rfl) (fun _ _ h => h) fun ρ wx hw hρc hρf hin hdep => ?_
                    have e162 : ρ (.tmp 162) = (.int .i64 11) := hdep 8 162 (by kernel_rfl)
                    go_simp
                    exact ⟨rfl, Gr.refl _⟩
                  · refine NetStep.of rfl fun ρ wx hw hρc hρf hin hdep => ?_
                    have e160 : ρ (.tmp 160) = (.bool true) := hdep 6 160 (by kernel_rfl)
                    have e163 : ρ (.tmp 163) = (.bool true) := hdep 9 163 (by kernel_rfl)
                    go_simp
                    exact ⟨rfl, Gr.refl _⟩
                  · refine NetStep.of rfl fun ρ wx hw hρc hρf hin hdep => ?_
                    have e164 : ρ (.tmp 164) = (.bool true) := hdep 10 164 (by kernel_rfl)
                    go_simp
                    exact ⟨rfl, Gr.refl _⟩
                  · refine NetStep.guarded rfl 165 (by kernel_rfl) (fun _ _ h => h) fun ρ wx hw hρc hρf hin hdep => ?_
                    have e16 : ρ (.tmp 16) = (.slice a11 n c11) := hin 16 (by kernel_rfl)
                    go_simp
                    exact ⟨rfl, Gr.refl _⟩
                  · refine NetStep.guarded rfl 165 (by kernel_rfl) (fun _ _ h => h) fun ρ wx hw hρc hρf hin hdep => ?_
                    have e0 : ρ (.tmp 0) = (.slice (some ⟨hb, ho, none⟩) n hc) := hin 0 (by kernel_rfl)
                    go_simp
                    exact ⟨rfl, Gr.refl _⟩
                  · refine NetStep.guarded rfl 165 (by kernel_rfl) (fun _ _ h => h) fun ρ wx hw hρc hρf hin hdep => ?_
                    have e166 : ρ (.tmp 166) = (.slice a11 n c11) := hdep 12 166 (by kernel_rfl)
                    have e167 : ρ (.tmp 167) = (.slice (some ⟨hb, ho, none⟩) n hc) := hdep 13 167 (by kernel_rfl)
                    go_simp
                    exact (same_any (u64s_gr HY28.out hw) (u64s_gr HU28.out hw)).mono fun e w4 h => ⟨_, h.1, rfl, h.2⟩
                  · refine NetStep.of rfl fun ρ wx hw hρc hρf hin hdep => ?_
                    have e165 : ρ (.tmp 165) = (.bool true) := hdep 11 165 (by kernel_rfl)
                    have e168 : ρ (.tmp 168) = (.bool true) := hdep 14 168 (by kernel_rfl)
                    go_simp
                    exact ⟨rfl, Gr.refl _⟩
                  · refine NetStep.of rfl fun ρ wx hw hρc hρf hin hdep => ?_
                    have e169 : ρ (.tmp 169) = (.bool true) := hdep 15 169 (by kernel_rfl)
                    go_simp
                    exact ⟨rfl, Gr.refl _⟩
                  · refine NetStep.guarded rfl 170 (by kernel_rfl) (fun _ _ h => h) fun ρ wx hw hρc hρf hin hdep => ?_
                    have e13 : ρ (.tmp 13) = (.slice (some ⟨g9, 0, none⟩) 8 c9) := hin 13 (by kernel_rfl)
                    go_simp
                    exact ⟨rfl, Gr.refl _⟩
                  · refine NetStep.guarded rfl 170 (by kernel_rfl) (fun _ _ h => h) fun ρ wx hw hρc hρf hin hdep => ?_
                    have e171 : ρ (.tmp 171) = (.slice (some ⟨g9, 0, none⟩) 8 c9) := hdep 17 171 (by kernel_rfl)
                    go_simp
                    exact (of_back HBy.out 16 (by decide) 8 (by decide) _ wx (u64s_gr HD28.out hw)).mono fun e w4 h => ⟨_, h.1, rfl, h.2⟩
                  · refine NetStep.guarded rfl 170 (by kernel_rfl) (fun _ _ h => h) fun ρ wx hw hρc hρf hin hdep => ?_
                    have e3 : ρ (.tmp 3) = (.pointer (some ⟨w.heap.size, 0, none⟩)) := hin 3 (by kernel_rfl)
                    exact net_load_row 25 _ rfl w.heap.size e3 25 (bs b) (0, 0) _ HB28.out hw Try.underlying25 rfl infoV rfl
                  · refine NetStep.guarded rfl 170 (by kernel_rfl) (fun _ _ h => h) fun ρ wx hw hρc hρf hin hdep => ?_
                    have e172 : ρ (.tmp 172) = (.agg (bs b)) := hdep 18 172 (by kernel_rfl)
                    have e173 : ρ (.tmp 173) = (.agg (bs b)) := hdep 19 173 (by kernel_rfl)
                    have hv := eq_vec b b wx
                    have hr := vecB_refl b
                    go_simp
                    exact ⟨rfl, Gr.refl _⟩
                  · refine NetStep.of rfl fun ρ wx hw hρc hρf hin hdep => ?_
                    have e170 : ρ (.tmp 170) = (.bool true) := hdep 16 170 (by kernel_rfl)
                    have e174 : ρ (.tmp 174) = (.bool true) := hdep 20 174 (by kernel_rfl)
                    go_simp
                    exact ⟨rfl, Gr.refl _⟩
                  · refine NetStep.of rfl fun ρ wx hw hρc hρf hin hdep => ?_
                    have e175 : ρ (.tmp 175) = (.bool true) := hdep 21 175 (by kernel_rfl)
                    go_simp
                    exact ⟨rfl, Gr.refl _⟩
                  · refine NetStep.guarded rfl 176 (by kernel_rfl) (fun _ _ h => h) fun ρ wx hw hρc hρf hin hdep => ?_
                    have e10 : ρ (.tmp 10) = (.slice (some ⟨g7, o7, none⟩) n c7) := hin 10 (by kernel_rfl)
                    go_simp
                    exact ⟨rfl, Gr.refl _⟩
                  · refine NetStep.guarded rfl 176 (by kernel_rfl) (fun _ _ h => h) fun ρ wx hw hρc hρf hin hdep => ?_
                    have e177 : ρ (.tmp 177) = (.slice (some ⟨g7, o7, none⟩) n c7) := hdep 23 177 (by kernel_rfl)
                    go_simp
                    exact ⟨rfl, Gr.refl _⟩
                  · refine NetStep.guarded rfl 176 (by kernel_rfl) (fun _ _ h => h) fun ρ wx hw hρc hρf hin hdep => ?_
                    have e0 : ρ (.tmp 0) = (.slice (some ⟨hb, ho, none⟩) n hc) := hin 0 (by kernel_rfl)
                    go_simp
                    exact ⟨rfl, Gr.refl _⟩
                  · refine NetStep.guarded rfl 176 (by kernel_rfl) (fun _ _ h => h) fun ρ wx hw hρc hρf hin hdep => ?_
                    have e179 : ρ (.tmp 179) = (.slice (some ⟨hb, ho, none⟩) n hc) := hdep 25 179 (by kernel_rfl)
                    go_simp
                    exact ⟨rfl, Gr.refl _⟩
                  · refine NetStep.guarded rfl 176 (by kernel_rfl) (fun _ _ h => h) fun ρ wx hw hρc hρf hin hdep => ?_
                    have e178 : ρ (.tmp 178) = (.int .i64 (n : Int)) := hdep 24 178 (by kernel_rfl)
                    have e180 : ρ (.tmp 180) = (.int .i64 (n : Int)) := hdep 26 180 (by kernel_rfl)
                    go_simp
                    exact ⟨rfl, Gr.refl _⟩
                  · refine NetStep.of rfl fun ρ wx hw hρc hρf hin hdep => ?_
                    have e176 : ρ (.tmp 176) = (.bool true) := hdep 22 176 (by kernel_rfl)
                    have e181 : ρ (.tmp 181) = (.bool true) := hdep 27 181 (by kernel_rfl)
                    go_simp
                    exact ⟨rfl, Gr.refl _⟩
                  · refine NetStep.of rfl fun ρ wx hw hρc hρf hin hdep => ?_
                    have e182 : ρ (.tmp 182) = (.bool true) := hdep 28 182 (by kernel_rfl)
                    go_simp
                    exact ⟨rfl, Gr.refl _⟩
                  · refine NetStep.guarded rfl 183 (by kernel_rfl) (fun _ _ h => h) fun ρ wx hw hρc hρf hin hdep => ?_
                    have e10 : ρ (.tmp 10) = (.slice (some ⟨g7, o7, none⟩) n c7) := hin 10 (by kernel_rfl)
                    go_simp
                    exact ⟨rfl, Gr.refl _⟩
                  · refine NetStep.guarded rfl 183 (by kernel_rfl) (fun _ _ h => h) fun ρ wx hw hρc hρf hin hdep => ?_
                    have e184 : ρ (.tmp 184) = (.slice (some ⟨g7, o7, none⟩) n c7) := hdep 30 184 (by kernel_rfl)
                    go_simp
                    exact ⟨rfl, Gr.refl _⟩
                  · refine NetStep.guarded rfl 183 (by kernel_rfl) (fun _ _ h => h) fun ρ wx hw hρc hρf hin hdep => ?_
                    have e185 : ρ (.tmp 185) = (.int .i64 (n : Int)) := hdep 31 185 (by kernel_rfl)
                    have h0 := H0.out
                    go_simp
                    exact ⟨rfl, Gr.refl _⟩
                  · refine NetStep.guarded rfl 183 (by kernel_rfl) (fun _ _ h => h) fun ρ wx hw hρc hρf hin hdep => ?_
                    have e186 : ρ (.tmp 186) = (.bool false) := hdep 32 186 (by kernel_rfl)
                    go_simp
                    exact ⟨rfl, Gr.refl _⟩
                  · refine NetStep.guarded rfl 187 (by kernel_rfl) (fun _ _ h => h) fun ρ wx hw hρc hρf hin hdep => ?_
                    have e10 : ρ (.tmp 10) = (.slice (some ⟨g7, o7, none⟩) n c7) := hin 10 (by kernel_rfl)
                    go_simp
                    exact ⟨rfl, Gr.refl _⟩
                  · refine NetStep.guarded rfl 187 (by kernel_rfl) (fun _ _ h => h) fun ρ wx hw hρc hρf hin hdep => ?_
                    have e188 : ρ (.tmp 188) = (.slice (some ⟨g7, o7, none⟩) n c7) := hdep 34 188 (by kernel_rfl)
                    go_simp
                    exact ⟨rfl, Gr.refl _⟩
                  · refine NetStep.guarded rfl 187 (by kernel_rfl) (fun _ _ h => h) fun ρ wx hw hρc hρf hin hdep => ?_
                    have e189 : ρ (.tmp 189) = (.pointer (some ⟨g7, o7, none⟩)) := hdep 35 189 (by kernel_rfl)
                    exact net_load_cells 25 _ rfl g7 o7 e189 (bs (setI (fun _ => 0) 64 0 (zs 0))) _ HL7.out hw Try.underlying25 rfl infoV rfl
                  · refine NetStep.guarded rfl 187 (by kernel_rfl) (fun _ _ h => h) fun ρ wx hw hρc hρf hin hdep => ?_
                    have e0 : ρ (.tmp 0) = (.slice (some ⟨hb, ho, none⟩) n hc) := hin 0 (by kernel_rfl)
                    go_simp
                    exact ⟨rfl, Gr.refl _⟩
                  · refine NetStep.guarded rfl 187 (by kernel_rfl) (fun _ _ h => h) fun ρ wx hw hρc hρf hin hdep => ?_
                    have e191 : ρ (.tmp 191) = (.slice (some ⟨hb, ho, none⟩) n hc) := hdep 37 191 (by kernel_rfl)
                    go_simp
                    exact ⟨rfl, Gr.refl _⟩
                  · refine NetStep.guarded rfl 187 (by kernel_rfl) (fun _ _ h => h) fun ρ wx hw hρc hρf hin hdep => ?_
                    have e192 : ρ (.tmp 192) = (.pointer (some ⟨hb, ho, none⟩)) := hdep 38 192 (by kernel_rfl)
                    have hcx := gr_cell hw HC0.out
                    go_simp
                    exact ⟨rfl, Gr.refl _⟩
                  · refine NetStep.guarded rfl 187 (by kernel_rfl) (fun _ _ h => h) fun ρ wx hw hρc hρf hin hdep => ?_
                    have e193 : ρ (.tmp 193) = (.int .u64 (zs 0)) := hdep 39 193 (by kernel_rfl)
                    go_simp
                    exact ⟨u1 wx (zs 0) _, (Gr.refl _).alloc _ _⟩
                  · refine NetStep.guarded rfl 187 (by kernel_rfl) (fun _ _ h => h) fun ρ wx hw hρc hρf hin hdep => ?_
                    have e194 := Lib.hid (show U64s wx (ρ (.tmp 194)) 1 (fun _ => zs 0) from hdep 40 194 (by kernel_rfl))
                    go_simp
                    exact (of1 64 (by decide) (zs 0) _ wx e194.out).mono fun e w4 h => ⟨_, h.1, rfl, h.2⟩
                  · refine NetStep.guarded rfl 187 (by kernel_rfl) (fun _ _ h => h) fun ρ wx hw hρc hρf hin hdep => ?_
                    have e190 : ρ (.tmp 190) = (.agg (bs (setI (fun _ => 0) 64 0 (zs 0)))) := hdep 36 190 (by kernel_rfl)
                    have e195 : ρ (.tmp 195) = (.agg (bs (setI (fun _ => 0) 64 0 (zs 0)))) := hdep 41 195 (by kernel_rfl)
                    have hv := eq_vec (setI (fun _ => 0) 64 0 (zs 0)) (setI (fun _ => 0) 64 0 (zs 0)) wx
                    have hr := vecB_refl (setI (fun _ => 0) 64 0 (zs 0))
                    go_simp
                    exact ⟨rfl, Gr.refl _⟩
                  · refine NetStep.guarded rfl 183 (by kernel_rfl) (fun _ _ h => h) fun ρ wx hw hρc hρf hin hdep => ?_
                    have e187 : ρ (.tmp 187) = (.bool false) := hdep 33 187 (by kernel_rfl)
                    have e196 : ρ (.tmp 196) = (.bool true) := hdep 42 196 (by kernel_rfl)
                    go_simp
                    exact ⟨rfl, Gr.refl _⟩
                  · refine NetStep.of rfl fun ρ wx hw hρc hρf hin hdep => ?_
                    have e183 : ρ (.tmp 183) = (.bool true) := hdep 29 183 (by kernel_rfl)
                    have e197 : ρ (.tmp 197) = (.bool true) := hdep 43 197 (by kernel_rfl)
                    go_simp
                    exact ⟨rfl, Gr.refl _⟩
                  · refine NetStep.of rfl fun ρ wx hw hρc hρf hin hdep => ?_
                    have e198 : ρ (.tmp 198) = (.bool true) := hdep 44 198 (by kernel_rfl)
                    go_simp
                    exact ⟨rfl, Gr.refl _⟩
                · intro V wN hgN hV
                  have hs : V 4 = .bool true := hV 45 _ 4 rfl rfl
                  have HNN := Lib.hid (gr_trans (Gr.drew HGw16.out) hgN)
                  clear hV hgN
                  simp only [Exit.then, putAll, Act.put, Option.map_some, Option.getD_some, List.setIfInBounds_toArray, List.set_cons_succ, List.set_cons_zero]
                  rw [hs]
                  clear hs
                  go_wp2
                  go_ret
                  exact ⟨rfl, HNN.out⟩
end Go.Proofs.Ythdklnkaeddogab
