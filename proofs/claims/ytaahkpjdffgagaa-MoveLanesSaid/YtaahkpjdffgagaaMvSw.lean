/-
  Of layer 7: move.Shuffle and Swizzle on all vectors. Conditions: bytes.
-/
import Derived.Test.YtaahkpjdffgagaaSlI
namespace Go.Proofs.Ytaahkpjdffgagaa
open Go.RowKit VecM
namespace Mv
def swzV (a s : Nat → Int) : Nat → Int := fun m => if s m < 16 then a (s m).toNat else 0
def upto (k : Nat) (f : Nat → Int) : Nat → Int := fun m => if m < k then f m else 0
theorem upto0 (f : Nat → Int) : upto 0 f = fun _ => 0 := by funext m; unfold upto; rw [if_neg (by omega)]
theorem upto_succ (f : Nat → Int) (k : Nat) : upd (upto k f) k (f k) = upto (k + 1) f := by
  funext m; unfold upd upto
  by_cases h : m = k
  · subst h; rw [if_pos rfl, if_pos (by omega)]
  · rw [if_neg h]
    by_cases h2 : m < k
    · rw [if_pos h2, if_pos (by omega)]
    · rw [if_neg h2, if_neg (by omega)]
theorem upto_skip (f : Nat → Int) (k : Nat) (h : f k = 0) : upto k f = upto (k + 1) f := by
  funext m; unfold upto
  by_cases h1 : m = k
  · subst h1; rw [if_neg (by omega), if_pos (by omega), h]
  · by_cases h2 : m < k
    · rw [if_pos h2, if_pos (by omega)]
    · rw [if_neg h2, if_neg (by omega)]
theorem upto_all (f : Nat → Int) : bs (upto 16 f) = bs f := bs_congr fun m hm => by unfold upto; rw [if_pos hm]
set_option maxHeartbeats 1000000 in
theorem swizzle_any (a s : Nat → Int) (hs : Byt s) (w : World) : Calls Try.prog 18 #[.agg (bs a), .agg (bs s)] w fun e w' => e = .returned (.agg (bs (swzV a s))) ∧ Gr w w' := by
  rw [← upto_all (swzV a s)]
  have HB := Lib.hid hs
  clear hs
  have hS := St.start w
  go_enter Try.func18, Try.ntmps18
  go_upto_region 0 with (fail)
  refine wp_region_lit ?_
  refine sl_box hS rfl _ 26 (box_vec rfl rfl) ?_
  clear hS
  intro p1 wk hS
  refine sl_box hS rfl _ 26 (box_vec rfl rfl) ?_
  clear hS
  intro p2 wk hS
  refine sl_box hS rfl _ 26 (alloc_vec rfl) ?_
  clear hS
  intro p3 wk hS
  go_wp2_with (first | (refine sl_load hS rfl 26 _ rfl rfl (by repeat (first | exact Has.hd | apply Has.tl)) Try.underlying26 rfl (by exact infoV) ?_) | (refine sl_store hS rfl 26 _ _ rfl rfl rfl (by repeat (first | exact Rep.hd | apply Rep.tl)) (by exact infoV) (by rfl) (bs_one _) ?_; clear hS; intro wk hS) | (refine sl_box hS rfl _ 26 (box_vec rfl rfl) ?_; clear hS; intro bk wk hS) | (refine sl_box hS rfl _ 26 (alloc_vec rfl) ?_; clear hS; intro p4 wk hS) | (refine onlyN_end ?_) | (refine onlyN_now ?_))
  go_loopw [9] (fun u wr => ∃ k : Nat, k ≤ 16 ∧ u = .int .i64 k ∧ St w [⟨p4, bs (upto k (swzV a s)), 26⟩, ⟨p3, bs (fun _ => 0), 26⟩, ⟨p2, bs s, 26⟩, ⟨p1, bs a, 26⟩] wr) (fun u _ => 16 - (intOf u).toNat)
  case atStart => exact ⟨0, by omega, rfl, by rw [upto0]; exact hS⟩
  case round =>
    obtain ⟨k, hk, rfl, hS⟩ := hrel
    by_cases hlt : k < 16
    · have hv := Lib.hid (bs_get s k hlt)
      have hw := upto_succ (swzV a s) k
      have hn := Lib.hid (upto_skip (swzV a s) k)
      have hf := Lib.hid (show swzV a s k = if s k < 16 then a (s k).toNat else 0 from rfl)
      have hb := HB.out k
      obtain ⟨x, hx⟩ : ∃ x : Nat, s k = x := ⟨(s k).toNat, by omega⟩
      rw [hx] at hf hv hb
      clear hx
      have hw' := Lib.hid hw
      clear hw
      by_cases hc : x < 16
      · have hva := Lib.hid (bs_get a x hc)
        have hpt := Lib.hid (bs_upd (upto k (swzV a s)) k (a x) hlt)
        have hf2 := Lib.hid (show swzV a s k = a x by rw [hf.out, if_pos (by omega)]; rfl)
        generalize a x = z at *
        go_wp2_with (first | (refine sl_load hS rfl 26 _ rfl rfl (by repeat (first | exact Has.hd | apply Has.tl)) Try.underlying26 rfl (by exact infoV) ?_) | (refine sl_store hS rfl 26 _ _ rfl rfl rfl (by repeat (first | exact Rep.hd | apply Rep.tl)) (by exact infoV) (by rfl) (bs_one _) ?_; clear hS; intro wk hS) | (refine sl_box hS rfl _ 26 (box_vec rfl rfl) ?_; clear hS; intro bk wk hS) | (refine sl_box hS rfl _ 26 (alloc_vec rfl) ?_; clear hS; intro bk wk hS) | (refine onlyN_end ?_) | (refine onlyN_now ?_) | (refine sl_idx rfl 26 5 _ _ rfl rfl _ k rfl Try.underlying26 info8 size8 Try.underlying5 hlt hv.out ?_) | (refine sl_addr rfl 26 5 _ _ rfl rfl _ x rfl Try.underlying26 info8 size8 hc ?_) | (refine sl_addr rfl 26 5 _ _ rfl rfl _ k rfl Try.underlying26 info8 size8 hlt ?_) | (refine sl_cell hS rfl _ _ rfl rfl (by repeat (first | exact Has.hd | apply Has.tl)) hva.out (by intro w hc; go_simp) ?_) | (refine sl_put hS rfl 5 _ _ rfl rfl rfl (by repeat (first | exact Rep.hd | apply Rep.tl)) (by exact hlt) hpt.out info8 size8 rfl ?_; clear hS; intro wk hS))
        exact ⟨⟨k + 1, by omega, by go_num, by rw [← hw'.out, hf2.out]; exact hS⟩, by simp [intOf]; omega⟩
      · have hf2 := Lib.hid (show swzV a s k = 0 by rw [hf.out, if_neg (by omega)])
        go_wp2_with (first | (refine sl_load hS rfl 26 _ rfl rfl (by repeat (first | exact Has.hd | apply Has.tl)) Try.underlying26 rfl (by exact infoV) ?_) | (refine sl_store hS rfl 26 _ _ rfl rfl rfl (by repeat (first | exact Rep.hd | apply Rep.tl)) (by exact infoV) (by rfl) (bs_one _) ?_; clear hS; intro wk hS) | (refine sl_box hS rfl _ 26 (box_vec rfl rfl) ?_; clear hS; intro bk wk hS) | (refine sl_box hS rfl _ 26 (alloc_vec rfl) ?_; clear hS; intro bk wk hS) | (refine onlyN_end ?_) | (refine onlyN_now ?_) | (refine sl_idx rfl 26 5 _ _ rfl rfl _ k rfl Try.underlying26 info8 size8 Try.underlying5 hlt hv.out ?_))
        exact ⟨⟨k + 1, by omega, by go_num, by rw [← hn.out hf2.out]; exact hS⟩, by simp [intOf]; omega⟩
    · obtain rfl : k = 16 := by omega
      go_wp2_with (first | (refine sl_load hS rfl 26 _ rfl rfl (by repeat (first | exact Has.hd | apply Has.tl)) Try.underlying26 rfl (by exact infoV) ?_) | (refine sl_store hS rfl 26 _ _ rfl rfl rfl (by repeat (first | exact Rep.hd | apply Rep.tl)) (by exact infoV) (by rfl) (bs_one _) ?_; clear hS; intro wk hS) | (refine sl_box hS rfl _ 26 (box_vec rfl rfl) ?_; clear hS; intro bk wk hS) | (refine sl_box hS rfl _ 26 (alloc_vec rfl) ?_; clear hS; intro bk wk hS) | (refine onlyN_end ?_) | (refine onlyN_now ?_))
      refine sl_ret hS Try.results18 (by rfl) (by repeat (first | exact Has.hd | apply Has.tl)) Try.underlying26 rfl (by exact infoV) (by rfl) ?_
      exact ⟨rfl, hS.gr⟩
def shV (a b s : Nat → Int) : Nat → Int := fun m => if s m < 16 then a (s m).toNat else b (s m - 16).toNat
set_option maxHeartbeats 2000000 in
theorem shuffle_ok (a b s : Nat → Int) (hs : Byt s) (ho : ∀ m, m < 16 → s m < 32) (w : World) : Calls Try.prog 16 #[.agg (bs s), .agg (bs a), .agg (bs b)] w fun e w' => e = .returned (.tuple #[.agg (bs (shV a b s)), .int .i64 0]) ∧ Gr w w' := by
  rw [← upto_all (shV a b s)]
  have HB := Lib.hid hs
  have HO := Lib.hid ho
  clear hs ho
  have hS := St.start w
  go_enter Try.func16, Try.ntmps16
  go_upto_region 0 with (fail)
  refine wp_region_lit ?_
  refine sl_box hS rfl _ 26 (box_vec rfl rfl) ?_
  clear hS
  intro p1 wk hS
  refine sl_box hS rfl _ 26 (box_vec rfl rfl) ?_
  clear hS
  intro p2 wk hS
  refine sl_box hS rfl _ 26 (box_vec rfl rfl) ?_
  clear hS
  intro p3 wk hS
  refine sl_box hS rfl _ 26 (alloc_vec rfl) ?_
  clear hS
  intro p4 wk hS
  go_wp2_with (first | (refine sl_load hS rfl 26 _ rfl rfl (by repeat (first | exact Has.hd | apply Has.tl)) Try.underlying26 rfl (by exact infoV) ?_) | (refine sl_store hS rfl 26 _ _ rfl rfl rfl (by repeat (first | exact Rep.hd | apply Rep.tl)) (by exact infoV) (by rfl) (bs_one _) ?_; clear hS; intro wk hS) | (refine sl_box hS rfl _ 26 (box_vec rfl rfl) ?_; clear hS; intro bk wk hS) | (refine sl_box hS rfl _ 26 (alloc_vec rfl) ?_; clear hS; intro p5 wk hS) | (refine onlyN_end ?_) | (refine onlyN_now ?_))
  go_loopw [12] (fun u wr => ∃ k : Nat, k ≤ 16 ∧ u = .int .i64 k ∧  St w [⟨p5, bs (upto k (shV a b s)), 26⟩, ⟨p4, bs (fun _ => 0), 26⟩, ⟨p3, bs b, 26⟩, ⟨p2, bs a, 26⟩, ⟨p1, bs s, 26⟩] wr) (fun u _ => 16 - (intOf u).toNat)
  case atStart => exact ⟨0, by omega, rfl,  by rw [upto0]; exact hS⟩
  case round =>
    obtain ⟨k, hk, rfl,  hS⟩ := hrel
    by_cases hlt : k < 16
    · have hv := Lib.hid (bs_get s k hlt)
      have hw' := Lib.hid (upto_succ (shV a b s) k)
      have hf := Lib.hid (show shV a b s k = if s k < 16 then a (s k).toNat else b (s k - 16).toNat from rfl)
      have hb := HB.out k
      obtain ⟨x, hx⟩ : ∃ x : Nat, s k = x := ⟨(s k).toNat, by omega⟩
      have hx' := Lib.hid hx
      rw [hx] at hf hv hb
      clear hx
      by_cases hc : x < 16
      · have hva := Lib.hid (bs_get a x hc)
        have hpt := Lib.hid (bs_upd (upto k (shV a b s)) k (a x) hlt)
        have hf2 := Lib.hid (show shV a b s k = a x by rw [hf.out, if_pos (by omega)]; rfl)
        generalize a x = z at *
        go_wp2_with (first | (refine sl_load hS rfl 26 _ rfl rfl (by repeat (first | exact Has.hd | apply Has.tl)) Try.underlying26 rfl (by exact infoV) ?_) | (refine sl_store hS rfl 26 _ _ rfl rfl rfl (by repeat (first | exact Rep.hd | apply Rep.tl)) (by exact infoV) (by rfl) (bs_one _) ?_; clear hS; intro wk hS) | (refine sl_box hS rfl _ 26 (box_vec rfl rfl) ?_; clear hS; intro bk wk hS) | (refine sl_box hS rfl _ 26 (alloc_vec rfl) ?_; clear hS; intro bk wk hS) | (refine onlyN_end ?_) | (refine onlyN_now ?_) | (refine sl_idx rfl 26 5 _ _ rfl rfl _ k rfl Try.underlying26 info8 size8 Try.underlying5 hlt hv.out ?_) | (refine sl_addr rfl 26 5 _ _ rfl rfl _ x rfl Try.underlying26 info8 size8 hc ?_) | (refine sl_addr rfl 26 5 _ _ rfl rfl _ k rfl Try.underlying26 info8 size8 hlt ?_) | (refine sl_cell hS rfl _ _ rfl rfl (by repeat (first | exact Has.hd | apply Has.tl)) hva.out (by intro w hc; go_simp) ?_) | (refine sl_put hS rfl 5 _ _ rfl rfl rfl (by repeat (first | exact Rep.hd | apply Rep.tl)) (by exact hlt) hpt.out info8 size8 rfl ?_; clear hS; intro wk hS))
        exact ⟨⟨k + 1, by omega, by go_num,  by rw [← hw'.out, hf2.out]; exact hS⟩, by simp [intOf]; omega⟩
      · have hd : x < 32 := by have := HO.out k hlt; rw [hx'.out] at this; omega
        have _ := hd
        · obtain ⟨y, rfl⟩ : ∃ y : Nat, x = y + 16 := ⟨x - 16, by omega⟩
          have hy : y < 16 := by omega
          have hva := Lib.hid (bs_get b y hy)
          have hpt := Lib.hid (bs_upd (upto k (shV a b s)) k (b y) hlt)
          have hf2 := Lib.hid (show shV a b s k = b y by rw [hf.out, if_neg (by omega)]; congr 1; omega)
          have hsb : IntKind.u8.wrap (((y + 16 : Nat) : Int) - 16) = (y : Int) := by rw [IntKind.wrap_u8]; omega
          generalize b y = z at *
          go_wp2_with (first | (refine sl_load hS rfl 26 _ rfl rfl (by repeat (first | exact Has.hd | apply Has.tl)) Try.underlying26 rfl (by exact infoV) ?_) | (refine sl_store hS rfl 26 _ _ rfl rfl rfl (by repeat (first | exact Rep.hd | apply Rep.tl)) (by exact infoV) (by rfl) (bs_one _) ?_; clear hS; intro wk hS) | (refine sl_box hS rfl _ 26 (box_vec rfl rfl) ?_; clear hS; intro bk wk hS) | (refine sl_box hS rfl _ 26 (alloc_vec rfl) ?_; clear hS; intro bk wk hS) | (refine onlyN_end ?_) | (refine onlyN_now ?_) | (refine sl_idx rfl 26 5 _ _ rfl rfl _ k rfl Try.underlying26 info8 size8 Try.underlying5 hlt hv.out ?_) | (refine sl_addr rfl 26 5 _ _ rfl rfl _ y (congrArg _ (by first | exact hsb | omega)) Try.underlying26 info8 size8 hy ?_) | (refine sl_addr rfl 26 5 _ _ rfl rfl _ k rfl Try.underlying26 info8 size8 hlt ?_) | (refine sl_cell hS rfl _ _ rfl rfl (by repeat (first | exact Has.hd | apply Has.tl)) hva.out (by intro w hc; go_simp) ?_) | (refine sl_put hS rfl 5 _ _ rfl rfl rfl (by repeat (first | exact Rep.hd | apply Rep.tl)) (by exact hlt) hpt.out info8 size8 rfl ?_; clear hS; intro wk hS))
          exact ⟨⟨k + 1, by omega, by go_num,  by rw [← hw'.out, hf2.out]; exact hS⟩, by simp [intOf]; omega⟩
    · obtain rfl : k = 16 := by omega
      go_wp2_with (first | (refine sl_load hS rfl 26 _ rfl rfl (by repeat (first | exact Has.hd | apply Has.tl)) Try.underlying26 rfl (by exact infoV) ?_) | (refine sl_store hS rfl 26 _ _ rfl rfl rfl (by repeat (first | exact Rep.hd | apply Rep.tl)) (by exact infoV) (by rfl) (bs_one _) ?_; clear hS; intro wk hS) | (refine sl_box hS rfl _ 26 (box_vec rfl rfl) ?_; clear hS; intro bk wk hS) | (refine sl_box hS rfl _ 26 (alloc_vec rfl) ?_; clear hS; intro bk wk hS) | (refine onlyN_end ?_) | (refine onlyN_now ?_))
      refine sl_ret2 hS Try.results16 (by rfl) (by repeat (first | exact Has.hd | apply Has.tl)) Try.underlying26 rfl (by exact infoV) (by rfl) ?_
      exact ⟨rfl, hS.gr⟩
set_option maxHeartbeats 2000000 in
theorem shuffle_bad (a b s : Nat → Int) (hs : Byt s) (ho : ∃ m, m < 16 ∧ 32 ≤ s m) (w : World) : Calls Try.prog 16 #[.agg (bs s), .agg (bs a), .agg (bs b)] w fun e w' => e = .returned (.tuple #[.agg (bs fun _ => 0), .int .i64 1]) ∧ Gr w w' := by
  have HB := Lib.hid hs
  have HO := Lib.hid ho
  clear hs ho
  have hS := St.start w
  go_enter Try.func16, Try.ntmps16
  go_upto_region 0 with (fail)
  refine wp_region_lit ?_
  refine sl_box hS rfl _ 26 (box_vec rfl rfl) ?_
  clear hS
  intro p1 wk hS
  refine sl_box hS rfl _ 26 (box_vec rfl rfl) ?_
  clear hS
  intro p2 wk hS
  refine sl_box hS rfl _ 26 (box_vec rfl rfl) ?_
  clear hS
  intro p3 wk hS
  refine sl_box hS rfl _ 26 (alloc_vec rfl) ?_
  clear hS
  intro p4 wk hS
  go_wp2_with (first | (refine sl_load hS rfl 26 _ rfl rfl (by repeat (first | exact Has.hd | apply Has.tl)) Try.underlying26 rfl (by exact infoV) ?_) | (refine sl_store hS rfl 26 _ _ rfl rfl rfl (by repeat (first | exact Rep.hd | apply Rep.tl)) (by exact infoV) (by rfl) (bs_one _) ?_; clear hS; intro wk hS) | (refine sl_box hS rfl _ 26 (box_vec rfl rfl) ?_; clear hS; intro bk wk hS) | (refine sl_box hS rfl _ 26 (alloc_vec rfl) ?_; clear hS; intro p5 wk hS) | (refine onlyN_end ?_) | (refine onlyN_now ?_))
  go_loopw [12] (fun u wr => ∃ k : Nat, k ≤ 16 ∧ u = .int .i64 k ∧ (∀ i, i < k → s i < 32) ∧ St w [⟨p5, bs (upto k (shV a b s)), 26⟩, ⟨p4, bs (fun _ => 0), 26⟩, ⟨p3, bs b, 26⟩, ⟨p2, bs a, 26⟩, ⟨p1, bs s, 26⟩] wr) (fun u _ => 16 - (intOf u).toNat)
  case atStart => exact ⟨0, by omega, rfl, (fun i hi => absurd hi (Nat.not_lt_zero _)), by rw [upto0]; exact hS⟩
  case round =>
    obtain ⟨k, hk, rfl, hJ, hS⟩ := hrel
    by_cases hlt : k < 16
    · have HJ := Lib.hid hJ
      clear hJ
      have hv := Lib.hid (bs_get s k hlt)
      have hw' := Lib.hid (upto_succ (shV a b s) k)
      have hf := Lib.hid (show shV a b s k = if s k < 16 then a (s k).toNat else b (s k - 16).toNat from rfl)
      have hb := HB.out k
      obtain ⟨x, hx⟩ : ∃ x : Nat, s k = x := ⟨(s k).toNat, by omega⟩
      have hx' := Lib.hid hx
      rw [hx] at hf hv hb
      clear hx
      by_cases hc : x < 16
      · have hva := Lib.hid (bs_get a x hc)
        have hpt := Lib.hid (bs_upd (upto k (shV a b s)) k (a x) hlt)
        have hf2 := Lib.hid (show shV a b s k = a x by rw [hf.out, if_pos (by omega)]; rfl)
        generalize a x = z at *
        go_wp2_with (first | (refine sl_load hS rfl 26 _ rfl rfl (by repeat (first | exact Has.hd | apply Has.tl)) Try.underlying26 rfl (by exact infoV) ?_) | (refine sl_store hS rfl 26 _ _ rfl rfl rfl (by repeat (first | exact Rep.hd | apply Rep.tl)) (by exact infoV) (by rfl) (bs_one _) ?_; clear hS; intro wk hS) | (refine sl_box hS rfl _ 26 (box_vec rfl rfl) ?_; clear hS; intro bk wk hS) | (refine sl_box hS rfl _ 26 (alloc_vec rfl) ?_; clear hS; intro bk wk hS) | (refine onlyN_end ?_) | (refine onlyN_now ?_) | (refine sl_idx rfl 26 5 _ _ rfl rfl _ k rfl Try.underlying26 info8 size8 Try.underlying5 hlt hv.out ?_) | (refine sl_addr rfl 26 5 _ _ rfl rfl _ x rfl Try.underlying26 info8 size8 hc ?_) | (refine sl_addr rfl 26 5 _ _ rfl rfl _ k rfl Try.underlying26 info8 size8 hlt ?_) | (refine sl_cell hS rfl _ _ rfl rfl (by repeat (first | exact Has.hd | apply Has.tl)) hva.out (by intro w hc; go_simp) ?_) | (refine sl_put hS rfl 5 _ _ rfl rfl rfl (by repeat (first | exact Rep.hd | apply Rep.tl)) (by exact hlt) hpt.out info8 size8 rfl ?_; clear hS; intro wk hS))
        exact ⟨⟨k + 1, by omega, by go_num, (fun i hi => by by_cases h : i = k; exact h ▸ (by rw [hx'.out]; omega); exact HJ.out i (by omega)), by rw [← hw'.out, hf2.out]; exact hS⟩, by simp [intOf]; omega⟩
      · by_cases hd : x < 32
        · obtain ⟨y, rfl⟩ : ∃ y : Nat, x = y + 16 := ⟨x - 16, by omega⟩
          have hy : y < 16 := by omega
          have hva := Lib.hid (bs_get b y hy)
          have hpt := Lib.hid (bs_upd (upto k (shV a b s)) k (b y) hlt)
          have hf2 := Lib.hid (show shV a b s k = b y by rw [hf.out, if_neg (by omega)]; congr 1; omega)
          have hsb : IntKind.u8.wrap (((y + 16 : Nat) : Int) - 16) = (y : Int) := by rw [IntKind.wrap_u8]; omega
          generalize b y = z at *
          go_wp2_with (first | (refine sl_load hS rfl 26 _ rfl rfl (by repeat (first | exact Has.hd | apply Has.tl)) Try.underlying26 rfl (by exact infoV) ?_) | (refine sl_store hS rfl 26 _ _ rfl rfl rfl (by repeat (first | exact Rep.hd | apply Rep.tl)) (by exact infoV) (by rfl) (bs_one _) ?_; clear hS; intro wk hS) | (refine sl_box hS rfl _ 26 (box_vec rfl rfl) ?_; clear hS; intro bk wk hS) | (refine sl_box hS rfl _ 26 (alloc_vec rfl) ?_; clear hS; intro bk wk hS) | (refine onlyN_end ?_) | (refine onlyN_now ?_) | (refine sl_idx rfl 26 5 _ _ rfl rfl _ k rfl Try.underlying26 info8 size8 Try.underlying5 hlt hv.out ?_) | (refine sl_addr rfl 26 5 _ _ rfl rfl _ y (congrArg _ (by first | exact hsb | omega)) Try.underlying26 info8 size8 hy ?_) | (refine sl_addr rfl 26 5 _ _ rfl rfl _ k rfl Try.underlying26 info8 size8 hlt ?_) | (refine sl_cell hS rfl _ _ rfl rfl (by repeat (first | exact Has.hd | apply Has.tl)) hva.out (by intro w hc; go_simp) ?_) | (refine sl_put hS rfl 5 _ _ rfl rfl rfl (by repeat (first | exact Rep.hd | apply Rep.tl)) (by exact hlt) hpt.out info8 size8 rfl ?_; clear hS; intro wk hS))
          exact ⟨⟨k + 1, by omega, by go_num, (fun i hi => by by_cases h : i = k; exact h ▸ (by rw [hx'.out]; omega); exact HJ.out i (by omega)), by rw [← hw'.out, hf2.out]; exact hS⟩, by simp [intOf]; omega⟩
        · go_upto_region 5 with (first | (refine sl_load hS rfl 26 _ rfl rfl (by repeat (first | exact Has.hd | apply Has.tl)) Try.underlying26 rfl (by exact infoV) ?_) | (refine sl_store hS rfl 26 _ _ rfl rfl rfl (by repeat (first | exact Rep.hd | apply Rep.tl)) (by exact infoV) (by rfl) (bs_one _) ?_; clear hS; intro wk hS) | (refine sl_box hS rfl _ 26 (box_vec rfl rfl) ?_; clear hS; intro bk wk hS) | (refine sl_box hS rfl _ 26 (alloc_vec rfl) ?_; clear hS; intro bk wk hS) | (refine onlyN_end ?_) | (refine onlyN_now ?_) | (refine sl_idx rfl 26 5 _ _ rfl rfl _ k rfl Try.underlying26 info8 size8 Try.underlying5 hlt hv.out ?_))
          refine wp_region_lit ?_
          refine wpList_build_at rfl 26 _ rfl (bs fun _ => 0) (by first | (simp only [List.map_toArray, List.map_nil]; kernel_rfl) | (simp only [Array.map_empty]; kernel_rfl)) ?_
          go_wp2_with (first | (refine sl_load hS rfl 26 _ rfl rfl (by repeat (first | exact Has.hd | apply Has.tl)) Try.underlying26 rfl (by exact infoV) ?_) | (refine sl_store hS rfl 26 _ _ rfl rfl rfl (by repeat (first | exact Rep.hd | apply Rep.tl)) (by exact infoV) (by rfl) (bs_one _) ?_; clear hS; intro wk hS) | (refine sl_box hS rfl _ 26 (box_vec rfl rfl) ?_; clear hS; intro bk wk hS) | (refine sl_box hS rfl _ 26 (alloc_vec rfl) ?_; clear hS; intro bk wk hS) | (refine onlyN_end ?_) | (refine onlyN_now ?_))
          refine sl_ret2 hS Try.results16 (by rfl) (by repeat (first | exact Has.hd | apply Has.tl)) Try.underlying26 rfl (by exact infoV) (by rfl) ?_
          exact ⟨rfl, hS.gr⟩
    · exfalso
      obtain ⟨m, hm, h32⟩ := HO.out
      have := hJ m (by omega)
      omega
end Mv
end Go.Proofs.Ytaahkpjdffgagaa
