/-
  Of layer 6: compare.Bits, instruction by instruction, on as many vectors as it takes, wherever they lie. Conditions: bytes; the vectors' cells.
-/
import Derived.Test.YtdclbagfnabmkaaCpCmp
namespace Go.Proofs.Ytdclbagfnabmkaa
open Go.RowKit VecM
namespace Cp
theorem bs_set (c : Nat → Int) (j : Nat) (h : j < 16) (y : Int) : (bs c).setIfInBounds j (.int .u8 y) = bs (upd c j y) := by
  rw [← bs_setL c j y h]
  simp only [List.setIfInBounds_toArray]
/-- the first k bytes made anew -/
def bK (f b : Nat → Int) (k : Nat) : Nat → Int := fun m => if m < k then f m else b m
theorem bK_0 (f b : Nat → Int) : bK f b 0 = b := by funext m; unfold bK; rw [if_neg (by omega)]
theorem bK_at (f b : Nat → Int) (k : Nat) : bK f b k k = b k := by unfold bK; rw [if_neg (by omega)]
theorem bK_succ (f b : Nat → Int) (k : Nat) : upd (bK f b k) k (f k) = bK f b (k + 1) := by
  funext m; unfold upd bK; by_cases h : m = k
  · subst h; simp
  · rw [if_neg h]; by_cases h2 : m < k
    · rw [if_pos h2, if_pos (by omega)]
    · rw [if_neg h2, if_neg (by omega)]
def notB (x : Int) : Int := bits .xor .u8 (if IntKind.u8.signed = true then -1 else IntKind.u8.max) x
/-- n vectors from a place on -/
def VecsAt (w : World) (g o n : Nat) (B : Nat → Nat → Int) : Prop := ∀ k, k < n → ∀ m, m < 16 → w.cell? ⟨g, o + k * 16 + m, none⟩ = some (.int .u8 (B k m))
theorem sbits_any (op : Int) (w : World) : Calls Try.prog 35 #[.int .i64 op] w fun e w' => e = .returned (.int .i64 (if op = 64845 then 1 else if op = 64846 ∨ op = 64847 ∨ op = 64848 ∨ op = 64849 then 2 else if op = 64850 then 3 else 0)) ∧ w = w' := by
  by_cases h : op = 64845 ∨ op = 64846 ∨ op = 64847 ∨ op = 64848 ∨ op = 64849 ∨ op = 64850
  · rcases h with rfl | rfl | rfl | rfl | rfl | rfl
    all_goals
      go_enter Try.func35, Try.ntmps35
      go_wp2
      go_ret
      exact ⟨rfl, rfl⟩
  · have e : (if op = 64845 then (1 : Int) else if op = 64846 ∨ op = 64847 ∨ op = 64848 ∨ op = 64849 then 2 else if op = 64850 then 3 else 0) = 0 := by
      rw [if_neg (by omega), if_neg (by omega), if_neg (by omega)]
    rw [e]
    have h1 : (op == 64845) = false := beq_eq_false_iff_ne.2 (by omega)
    have h2 : (op == 64846) = false := beq_eq_false_iff_ne.2 (by omega)
    have h3 : (op == 64847) = false := beq_eq_false_iff_ne.2 (by omega)
    have h4 : (op == 64848) = false := beq_eq_false_iff_ne.2 (by omega)
    have h5 : (op == 64849) = false := beq_eq_false_iff_ne.2 (by omega)
    have h6 : (op == 64850) = false := beq_eq_false_iff_ne.2 (by omega)
    clear h e
    go_enter Try.func35, Try.ntmps35
    go_wp2
    go_ret
    exact ⟨rfl, rfl⟩
set_option maxRecDepth 100000 in
set_option maxHeartbeats 8000000 in
theorem bits_not (g o c : Nat) (B : Nat → Nat → Int) (w : World) (hc : VecsAt w g o 1 B) :
    Calls Try.prog 15 #[.int .i64 64845, .slice (some ⟨g, o, none⟩) 1 c] w fun e w' => e = .returned (.tuple #[.agg (bs fun m => notB (B 0 m)), .int .i64 0]) ∧ Gr w w' := by
  have hv0 : ∀ wk, Gr w wk → ∀ j v, (bs (B 0)).toList[j]? = some v → wk.cell? ⟨g, o + j, none⟩ = some v := fun wk hg j v hj => by
    have hlt : j < 16 := by
      have := (List.getElem?_eq_some_iff.1 hj).1
      simpa using this
    have h1 := gr_cell hg (hc 0 (by omega) j hlt)
    rw [Nat.zero_mul, Nat.add_zero] at h1
    have h2 : (bs (B 0))[j]? = some v := by simpa using hj
    rw [bs_get _ j hlt] at h2
    rw [h1, ← h2]
  have HV0 := Lib.hid hv0
  have HVC := Lib.hid hc
  have CB := fun w => calls_gr (sbits_any 64845 w)
  rw [show (if (64845 : Int) = 64845 then (1 : Int) else if (64845 : Int) = 64846 ∨ (64845 : Int) = 64847 ∨ (64845 : Int) = 64848 ∨ (64845 : Int) = 64849 then 2 else if (64845 : Int) = 64850 then 3 else 0) = 1 from by decide] at CB
  have XCB := Lib.hid CB
  clear hv0 hc CB
  obtain ⟨f, hf⟩ : ∃ f : Nat → Int, f = fun m => notB (B 0 m) := ⟨_, rfl⟩
  rw [← hf]
  have HFD := Lib.hid hf
  clear hf
  have hS := St.start w
  go_enter Try.func15, Try.ntmps15
  go_upto_region 4 with (first | (refine sl_load hS rfl 23 _ rfl rfl (by repeat (first | exact Has.hd | apply Has.tl)) Try.underlying23 rfl (by exact infoV) ?_) | (refine sl_store hS rfl 23 _ _ rfl rfl rfl (by repeat (first | exact Rep.hd | apply Rep.tl)) (by exact infoV) (by rfl) (bs_one _) ?_; clear hS; intro wk hS) | (refine sl_box hS rfl _ 23 (box_vec rfl rfl) ?_; clear hS; intro bk wk hS) | (refine sl_box hS rfl _ 23 (alloc_vec rfl) ?_; clear hS; intro z wk hS) | (refine onlyN_end ?_) | (refine onlyN_now ?_) | ((go_at_call 35); (with_reducible refine sl_call hS (XCB.out _) ?_); clear hS; intro wk hS))
  go_wp2_with (first | (refine sl_load hS rfl 23 _ rfl rfl (by repeat (first | exact Has.hd | apply Has.tl)) Try.underlying23 rfl (by exact infoV) ?_) | (refine sl_store hS rfl 23 _ _ rfl rfl rfl (by repeat (first | exact Rep.hd | apply Rep.tl)) (by exact infoV) (by rfl) (bs_one _) ?_; clear hS; intro wk hS) | (refine sl_box hS rfl _ 23 (box_vec rfl rfl) ?_; clear hS; intro bk wk hS) | (refine sl_box hS rfl _ 23 (alloc_vec rfl) ?_; clear hS; intro r wk hS) | (refine onlyN_end ?_) | (refine onlyN_now ?_) | (refine wpList_load_cells rfl 23 _ rfl g o rfl (bs (B 0)) _ (HV0.out _ hS.gr) Try.underlying23 rfl infoV ?_))
  go_loopw [23] (fun u wr => ∃ k : Nat, k ≤ 16 ∧ u = .int .i64 k ∧ St w [⟨r, bs (bK f (B 0) k), 23⟩, ⟨z, bs (fun _ => 0), 23⟩] wr) (fun u _ => 16 - (intOf u).toNat)
  case atStart => exact ⟨0, by omega, rfl, by rw [bK_0]; exact hS⟩
  case round =>
    obtain ⟨k, hk, rfl, hS⟩ := hrel
    by_cases hlt : k < 16
    · have HB7 := Lib.hid ((bs_get (bK f (B 0) k) k hlt).trans (by rw [bK_at]))
      have HFK := Lib.hid (show f k = notB (B 0 k) by rw [HFD.out])
      have HU := Lib.hid (bK_succ f (B 0) k)
      generalize B 0 k = x0 at *
      have h7 := (hS.cell (show Has _ r _ _ from (by repeat (first | exact Has.hd | apply Has.tl))) k).trans HB7.out
      have h8 := hS.thawed (show Has _ r _ _ from (by repeat (first | exact Has.hd | apply Has.tl))) k
      have HX := Lib.hid (hS.setCell k (.int .u8 (f k)) (b := r) Rep.hd)
      clear hS
      go_wp2_with (first | (refine onlyN_end ?_) | (refine onlyN_now ?_))
      refine ⟨⟨k + 1, by omega, by go_num, ?_⟩, by simp [intOf]; omega⟩
      have hr := HX.out
      rw [bs_set _ _ hlt, HU.out, HFK.out] at hr
      exact hr
    · obtain rfl : k = 16 := by omega
      have e : bs (bK f (B 0) 16) = bs f := bs_congr fun m hm => by unfold bK; rw [if_pos hm]
      rw [e] at hS
      clear e
      go_wp2_with (first | (refine sl_load hS rfl 23 _ rfl rfl (by repeat (first | exact Has.hd | apply Has.tl)) Try.underlying23 rfl (by exact infoV) ?_) | (refine sl_store hS rfl 23 _ _ rfl rfl rfl (by repeat (first | exact Rep.hd | apply Rep.tl)) (by exact infoV) (by rfl) (bs_one _) ?_; clear hS; intro wk hS) | (refine sl_box hS rfl _ 23 (box_vec rfl rfl) ?_; clear hS; intro bk wk hS) | (refine sl_box hS rfl _ 23 (alloc_vec rfl) ?_; clear hS; intro bk wk hS) | (refine onlyN_end ?_) | (refine onlyN_now ?_))
      refine sl_ret2 hS Try.results15 (by rfl) (by repeat (first | exact Has.hd | apply Has.tl)) Try.underlying23 rfl (by exact infoV) (by rfl) ?_
      exact ⟨rfl, hS.gr⟩
set_option maxRecDepth 100000 in
set_option maxHeartbeats 8000000 in
theorem bits_and (g o c : Nat) (B : Nat → Nat → Int) (w : World) (hc : VecsAt w g o 2 B) :
    Calls Try.prog 15 #[.int .i64 64846, .slice (some ⟨g, o, none⟩) 2 c] w fun e w' => e = .returned (.tuple #[.agg (bs fun m => bits .and .u8 (B 0 m) (B 1 m)), .int .i64 0]) ∧ Gr w w' := by
  have hv0 : ∀ wk, Gr w wk → ∀ j v, (bs (B 0)).toList[j]? = some v → wk.cell? ⟨g, o + j, none⟩ = some v := fun wk hg j v hj => by
    have hlt : j < 16 := by
      have := (List.getElem?_eq_some_iff.1 hj).1
      simpa using this
    have h1 := gr_cell hg (hc 0 (by omega) j hlt)
    rw [Nat.zero_mul, Nat.add_zero] at h1
    have h2 : (bs (B 0))[j]? = some v := by simpa using hj
    rw [bs_get _ j hlt] at h2
    rw [h1, ← h2]
  have HV0 := Lib.hid hv0
  have HVC := Lib.hid hc
  have CB := fun w => calls_gr (sbits_any 64846 w)
  rw [show (if (64846 : Int) = 64845 then (1 : Int) else if (64846 : Int) = 64846 ∨ (64846 : Int) = 64847 ∨ (64846 : Int) = 64848 ∨ (64846 : Int) = 64849 then 2 else if (64846 : Int) = 64850 then 3 else 0) = 2 from by decide] at CB
  have XCB := Lib.hid CB
  clear hv0 hc CB
  obtain ⟨f, hf⟩ : ∃ f : Nat → Int, f = fun m => bits .and .u8 (B 0 m) (B 1 m) := ⟨_, rfl⟩
  rw [← hf]
  have HFD := Lib.hid hf
  clear hf
  have hS := St.start w
  go_enter Try.func15, Try.ntmps15
  go_upto_region 4 with (first | (refine sl_load hS rfl 23 _ rfl rfl (by repeat (first | exact Has.hd | apply Has.tl)) Try.underlying23 rfl (by exact infoV) ?_) | (refine sl_store hS rfl 23 _ _ rfl rfl rfl (by repeat (first | exact Rep.hd | apply Rep.tl)) (by exact infoV) (by rfl) (bs_one _) ?_; clear hS; intro wk hS) | (refine sl_box hS rfl _ 23 (box_vec rfl rfl) ?_; clear hS; intro bk wk hS) | (refine sl_box hS rfl _ 23 (alloc_vec rfl) ?_; clear hS; intro z wk hS) | (refine onlyN_end ?_) | (refine onlyN_now ?_) | ((go_at_call 35); (with_reducible refine sl_call hS (XCB.out _) ?_); clear hS; intro wk hS))
  go_wp2_with (first | (refine sl_load hS rfl 23 _ rfl rfl (by repeat (first | exact Has.hd | apply Has.tl)) Try.underlying23 rfl (by exact infoV) ?_) | (refine sl_store hS rfl 23 _ _ rfl rfl rfl (by repeat (first | exact Rep.hd | apply Rep.tl)) (by exact infoV) (by rfl) (bs_one _) ?_; clear hS; intro wk hS) | (refine sl_box hS rfl _ 23 (box_vec rfl rfl) ?_; clear hS; intro bk wk hS) | (refine sl_box hS rfl _ 23 (alloc_vec rfl) ?_; clear hS; intro r wk hS) | (refine onlyN_end ?_) | (refine onlyN_now ?_) | (refine wpList_load_cells rfl 23 _ rfl g o rfl (bs (B 0)) _ (HV0.out _ hS.gr) Try.underlying23 rfl infoV ?_))
  go_loopw [23] (fun u wr => ∃ k : Nat, k ≤ 16 ∧ u = .int .i64 k ∧ St w [⟨r, bs (bK f (B 0) k), 23⟩, ⟨z, bs (fun _ => 0), 23⟩] wr) (fun u _ => 16 - (intOf u).toNat)
  case atStart => exact ⟨0, by omega, rfl, by rw [bK_0]; exact hS⟩
  case round =>
    obtain ⟨k, hk, rfl, hS⟩ := hrel
    by_cases hlt : k < 16
    · have HB7 := Lib.hid ((bs_get (bK f (B 0) k) k hlt).trans (by rw [bK_at]))
      have HF1 := Lib.hid (fun (wk : World) (hg : Gr w wk) => show wk.cell? ⟨g, o + 16 + k, none⟩ = some (.int .u8 (B 1 k)) from gr_cell hg (HVC.out 1 (by omega) k hlt))
      have HFK := Lib.hid (show f k = bits .and .u8 (B 0 k) (B 1 k) by rw [HFD.out])
      have HU := Lib.hid (bK_succ f (B 0) k)
      generalize B 0 k = x0 at *
      generalize B 1 k = x1 at *
      go_upto_region 13 with (first | (refine sl_load hS rfl 23 _ rfl rfl (by repeat (first | exact Has.hd | apply Has.tl)) Try.underlying23 rfl (by exact infoV) ?_) | (refine sl_store hS rfl 23 _ _ rfl rfl rfl (by repeat (first | exact Rep.hd | apply Rep.tl)) (by exact infoV) (by rfl) (bs_one _) ?_; clear hS; intro wk hS) | (refine sl_box hS rfl _ 23 (box_vec rfl rfl) ?_; clear hS; intro bk wk hS) | (refine sl_box hS rfl _ 23 (alloc_vec rfl) ?_; clear hS; intro bk wk hS) | (refine onlyN_end ?_) | (refine onlyN_now ?_))
      refine sd_tail 10 hS (by kernel_rfl) (by kernel_rfl) ?_
      simp only [List.take_succ_cons, List.take_zero, List.drop_succ_cons, List.drop_zero]
      iterate 10 (refine sd_step (fun K hK => ?_); (apply sd_yes rfl; focus (intro wx hx; have h7 := (hx.cell (show Has _ r _ _ from (by repeat (first | exact Has.hd | apply Has.tl))) k).trans HB7.out; have hf1 := HF1.out _ hx.gr; go_simp; exact ⟨rfl, Gr.refl _⟩)); go_simp; refine hK _ ?_; clear hK K)
      refine sd_nil ?_
      clear hS
      intro wk hS
      have h7 := (hS.cell (show Has _ r _ _ from (by repeat (first | exact Has.hd | apply Has.tl))) k).trans HB7.out
      have h8 := hS.thawed (show Has _ r _ _ from (by repeat (first | exact Has.hd | apply Has.tl))) k
      have HX := Lib.hid (hS.setCell k (.int .u8 (f k)) (b := r) Rep.hd)
      clear hS
      go_wp2_with (first | (refine onlyN_end ?_) | (refine onlyN_now ?_))
      refine ⟨⟨k + 1, by omega, by go_num, ?_⟩, by simp [intOf]; omega⟩
      have hr := HX.out
      rw [bs_set _ _ hlt, HU.out, HFK.out] at hr
      exact hr
    · obtain rfl : k = 16 := by omega
      have e : bs (bK f (B 0) 16) = bs f := bs_congr fun m hm => by unfold bK; rw [if_pos hm]
      rw [e] at hS
      clear e
      go_wp2_with (first | (refine sl_load hS rfl 23 _ rfl rfl (by repeat (first | exact Has.hd | apply Has.tl)) Try.underlying23 rfl (by exact infoV) ?_) | (refine sl_store hS rfl 23 _ _ rfl rfl rfl (by repeat (first | exact Rep.hd | apply Rep.tl)) (by exact infoV) (by rfl) (bs_one _) ?_; clear hS; intro wk hS) | (refine sl_box hS rfl _ 23 (box_vec rfl rfl) ?_; clear hS; intro bk wk hS) | (refine sl_box hS rfl _ 23 (alloc_vec rfl) ?_; clear hS; intro bk wk hS) | (refine onlyN_end ?_) | (refine onlyN_now ?_))
      refine sl_ret2 hS Try.results15 (by rfl) (by repeat (first | exact Has.hd | apply Has.tl)) Try.underlying23 rfl (by exact infoV) (by rfl) ?_
      exact ⟨rfl, hS.gr⟩
set_option maxRecDepth 100000 in
set_option maxHeartbeats 8000000 in
theorem bits_andnot (g o c : Nat) (B : Nat → Nat → Int) (w : World) (hc : VecsAt w g o 2 B) :
    Calls Try.prog 15 #[.int .i64 64847, .slice (some ⟨g, o, none⟩) 2 c] w fun e w' => e = .returned (.tuple #[.agg (bs fun m => bits .andNot .u8 (B 0 m) (B 1 m)), .int .i64 0]) ∧ Gr w w' := by
  have hv0 : ∀ wk, Gr w wk → ∀ j v, (bs (B 0)).toList[j]? = some v → wk.cell? ⟨g, o + j, none⟩ = some v := fun wk hg j v hj => by
    have hlt : j < 16 := by
      have := (List.getElem?_eq_some_iff.1 hj).1
      simpa using this
    have h1 := gr_cell hg (hc 0 (by omega) j hlt)
    rw [Nat.zero_mul, Nat.add_zero] at h1
    have h2 : (bs (B 0))[j]? = some v := by simpa using hj
    rw [bs_get _ j hlt] at h2
    rw [h1, ← h2]
  have HV0 := Lib.hid hv0
  have HVC := Lib.hid hc
  have CB := fun w => calls_gr (sbits_any 64847 w)
  rw [show (if (64847 : Int) = 64845 then (1 : Int) else if (64847 : Int) = 64846 ∨ (64847 : Int) = 64847 ∨ (64847 : Int) = 64848 ∨ (64847 : Int) = 64849 then 2 else if (64847 : Int) = 64850 then 3 else 0) = 2 from by decide] at CB
  have XCB := Lib.hid CB
  clear hv0 hc CB
  obtain ⟨f, hf⟩ : ∃ f : Nat → Int, f = fun m => bits .andNot .u8 (B 0 m) (B 1 m) := ⟨_, rfl⟩
  rw [← hf]
  have HFD := Lib.hid hf
  clear hf
  have hS := St.start w
  go_enter Try.func15, Try.ntmps15
  go_upto_region 4 with (first | (refine sl_load hS rfl 23 _ rfl rfl (by repeat (first | exact Has.hd | apply Has.tl)) Try.underlying23 rfl (by exact infoV) ?_) | (refine sl_store hS rfl 23 _ _ rfl rfl rfl (by repeat (first | exact Rep.hd | apply Rep.tl)) (by exact infoV) (by rfl) (bs_one _) ?_; clear hS; intro wk hS) | (refine sl_box hS rfl _ 23 (box_vec rfl rfl) ?_; clear hS; intro bk wk hS) | (refine sl_box hS rfl _ 23 (alloc_vec rfl) ?_; clear hS; intro z wk hS) | (refine onlyN_end ?_) | (refine onlyN_now ?_) | ((go_at_call 35); (with_reducible refine sl_call hS (XCB.out _) ?_); clear hS; intro wk hS))
  go_wp2_with (first | (refine sl_load hS rfl 23 _ rfl rfl (by repeat (first | exact Has.hd | apply Has.tl)) Try.underlying23 rfl (by exact infoV) ?_) | (refine sl_store hS rfl 23 _ _ rfl rfl rfl (by repeat (first | exact Rep.hd | apply Rep.tl)) (by exact infoV) (by rfl) (bs_one _) ?_; clear hS; intro wk hS) | (refine sl_box hS rfl _ 23 (box_vec rfl rfl) ?_; clear hS; intro bk wk hS) | (refine sl_box hS rfl _ 23 (alloc_vec rfl) ?_; clear hS; intro r wk hS) | (refine onlyN_end ?_) | (refine onlyN_now ?_) | (refine wpList_load_cells rfl 23 _ rfl g o rfl (bs (B 0)) _ (HV0.out _ hS.gr) Try.underlying23 rfl infoV ?_))
  go_loopw [23] (fun u wr => ∃ k : Nat, k ≤ 16 ∧ u = .int .i64 k ∧ St w [⟨r, bs (bK f (B 0) k), 23⟩, ⟨z, bs (fun _ => 0), 23⟩] wr) (fun u _ => 16 - (intOf u).toNat)
  case atStart => exact ⟨0, by omega, rfl, by rw [bK_0]; exact hS⟩
  case round =>
    obtain ⟨k, hk, rfl, hS⟩ := hrel
    by_cases hlt : k < 16
    · have HB7 := Lib.hid ((bs_get (bK f (B 0) k) k hlt).trans (by rw [bK_at]))
      have HF1 := Lib.hid (fun (wk : World) (hg : Gr w wk) => show wk.cell? ⟨g, o + 16 + k, none⟩ = some (.int .u8 (B 1 k)) from gr_cell hg (HVC.out 1 (by omega) k hlt))
      have HFK := Lib.hid (show f k = bits .andNot .u8 (B 0 k) (B 1 k) by rw [HFD.out])
      have HU := Lib.hid (bK_succ f (B 0) k)
      generalize B 0 k = x0 at *
      generalize B 1 k = x1 at *
      go_upto_region 15 with (first | (refine sl_load hS rfl 23 _ rfl rfl (by repeat (first | exact Has.hd | apply Has.tl)) Try.underlying23 rfl (by exact infoV) ?_) | (refine sl_store hS rfl 23 _ _ rfl rfl rfl (by repeat (first | exact Rep.hd | apply Rep.tl)) (by exact infoV) (by rfl) (bs_one _) ?_; clear hS; intro wk hS) | (refine sl_box hS rfl _ 23 (box_vec rfl rfl) ?_; clear hS; intro bk wk hS) | (refine sl_box hS rfl _ 23 (alloc_vec rfl) ?_; clear hS; intro bk wk hS) | (refine onlyN_end ?_) | (refine onlyN_now ?_))
      refine sd_tail 10 hS (by kernel_rfl) (by kernel_rfl) ?_
      simp only [List.take_succ_cons, List.take_zero, List.drop_succ_cons, List.drop_zero]
      iterate 10 (refine sd_step (fun K hK => ?_); (apply sd_yes rfl; focus (intro wx hx; have h7 := (hx.cell (show Has _ r _ _ from (by repeat (first | exact Has.hd | apply Has.tl))) k).trans HB7.out; have hf1 := HF1.out _ hx.gr; go_simp; exact ⟨rfl, Gr.refl _⟩)); go_simp; refine hK _ ?_; clear hK K)
      refine sd_nil ?_
      clear hS
      intro wk hS
      have h7 := (hS.cell (show Has _ r _ _ from (by repeat (first | exact Has.hd | apply Has.tl))) k).trans HB7.out
      have h8 := hS.thawed (show Has _ r _ _ from (by repeat (first | exact Has.hd | apply Has.tl))) k
      have HX := Lib.hid (hS.setCell k (.int .u8 (f k)) (b := r) Rep.hd)
      clear hS
      go_wp2_with (first | (refine onlyN_end ?_) | (refine onlyN_now ?_))
      refine ⟨⟨k + 1, by omega, by go_num, ?_⟩, by simp [intOf]; omega⟩
      have hr := HX.out
      rw [bs_set _ _ hlt, HU.out, HFK.out] at hr
      exact hr
    · obtain rfl : k = 16 := by omega
      have e : bs (bK f (B 0) 16) = bs f := bs_congr fun m hm => by unfold bK; rw [if_pos hm]
      rw [e] at hS
      clear e
      go_wp2_with (first | (refine sl_load hS rfl 23 _ rfl rfl (by repeat (first | exact Has.hd | apply Has.tl)) Try.underlying23 rfl (by exact infoV) ?_) | (refine sl_store hS rfl 23 _ _ rfl rfl rfl (by repeat (first | exact Rep.hd | apply Rep.tl)) (by exact infoV) (by rfl) (bs_one _) ?_; clear hS; intro wk hS) | (refine sl_box hS rfl _ 23 (box_vec rfl rfl) ?_; clear hS; intro bk wk hS) | (refine sl_box hS rfl _ 23 (alloc_vec rfl) ?_; clear hS; intro bk wk hS) | (refine onlyN_end ?_) | (refine onlyN_now ?_))
      refine sl_ret2 hS Try.results15 (by rfl) (by repeat (first | exact Has.hd | apply Has.tl)) Try.underlying23 rfl (by exact infoV) (by rfl) ?_
      exact ⟨rfl, hS.gr⟩
set_option maxRecDepth 100000 in
set_option maxHeartbeats 8000000 in
theorem bits_or (g o c : Nat) (B : Nat → Nat → Int) (w : World) (hc : VecsAt w g o 2 B) :
    Calls Try.prog 15 #[.int .i64 64848, .slice (some ⟨g, o, none⟩) 2 c] w fun e w' => e = .returned (.tuple #[.agg (bs fun m => bits .or .u8 (B 0 m) (B 1 m)), .int .i64 0]) ∧ Gr w w' := by
  have hv0 : ∀ wk, Gr w wk → ∀ j v, (bs (B 0)).toList[j]? = some v → wk.cell? ⟨g, o + j, none⟩ = some v := fun wk hg j v hj => by
    have hlt : j < 16 := by
      have := (List.getElem?_eq_some_iff.1 hj).1
      simpa using this
    have h1 := gr_cell hg (hc 0 (by omega) j hlt)
    rw [Nat.zero_mul, Nat.add_zero] at h1
    have h2 : (bs (B 0))[j]? = some v := by simpa using hj
    rw [bs_get _ j hlt] at h2
    rw [h1, ← h2]
  have HV0 := Lib.hid hv0
  have HVC := Lib.hid hc
  have CB := fun w => calls_gr (sbits_any 64848 w)
  rw [show (if (64848 : Int) = 64845 then (1 : Int) else if (64848 : Int) = 64846 ∨ (64848 : Int) = 64847 ∨ (64848 : Int) = 64848 ∨ (64848 : Int) = 64849 then 2 else if (64848 : Int) = 64850 then 3 else 0) = 2 from by decide] at CB
  have XCB := Lib.hid CB
  clear hv0 hc CB
  obtain ⟨f, hf⟩ : ∃ f : Nat → Int, f = fun m => bits .or .u8 (B 0 m) (B 1 m) := ⟨_, rfl⟩
  rw [← hf]
  have HFD := Lib.hid hf
  clear hf
  have hS := St.start w
  go_enter Try.func15, Try.ntmps15
  go_upto_region 4 with (first | (refine sl_load hS rfl 23 _ rfl rfl (by repeat (first | exact Has.hd | apply Has.tl)) Try.underlying23 rfl (by exact infoV) ?_) | (refine sl_store hS rfl 23 _ _ rfl rfl rfl (by repeat (first | exact Rep.hd | apply Rep.tl)) (by exact infoV) (by rfl) (bs_one _) ?_; clear hS; intro wk hS) | (refine sl_box hS rfl _ 23 (box_vec rfl rfl) ?_; clear hS; intro bk wk hS) | (refine sl_box hS rfl _ 23 (alloc_vec rfl) ?_; clear hS; intro z wk hS) | (refine onlyN_end ?_) | (refine onlyN_now ?_) | ((go_at_call 35); (with_reducible refine sl_call hS (XCB.out _) ?_); clear hS; intro wk hS))
  go_wp2_with (first | (refine sl_load hS rfl 23 _ rfl rfl (by repeat (first | exact Has.hd | apply Has.tl)) Try.underlying23 rfl (by exact infoV) ?_) | (refine sl_store hS rfl 23 _ _ rfl rfl rfl (by repeat (first | exact Rep.hd | apply Rep.tl)) (by exact infoV) (by rfl) (bs_one _) ?_; clear hS; intro wk hS) | (refine sl_box hS rfl _ 23 (box_vec rfl rfl) ?_; clear hS; intro bk wk hS) | (refine sl_box hS rfl _ 23 (alloc_vec rfl) ?_; clear hS; intro r wk hS) | (refine onlyN_end ?_) | (refine onlyN_now ?_) | (refine wpList_load_cells rfl 23 _ rfl g o rfl (bs (B 0)) _ (HV0.out _ hS.gr) Try.underlying23 rfl infoV ?_))
  go_loopw [23] (fun u wr => ∃ k : Nat, k ≤ 16 ∧ u = .int .i64 k ∧ St w [⟨r, bs (bK f (B 0) k), 23⟩, ⟨z, bs (fun _ => 0), 23⟩] wr) (fun u _ => 16 - (intOf u).toNat)
  case atStart => exact ⟨0, by omega, rfl, by rw [bK_0]; exact hS⟩
  case round =>
    obtain ⟨k, hk, rfl, hS⟩ := hrel
    by_cases hlt : k < 16
    · have HB7 := Lib.hid ((bs_get (bK f (B 0) k) k hlt).trans (by rw [bK_at]))
      have HF1 := Lib.hid (fun (wk : World) (hg : Gr w wk) => show wk.cell? ⟨g, o + 16 + k, none⟩ = some (.int .u8 (B 1 k)) from gr_cell hg (HVC.out 1 (by omega) k hlt))
      have HFK := Lib.hid (show f k = bits .or .u8 (B 0 k) (B 1 k) by rw [HFD.out])
      have HU := Lib.hid (bK_succ f (B 0) k)
      generalize B 0 k = x0 at *
      generalize B 1 k = x1 at *
      go_upto_region 17 with (first | (refine sl_load hS rfl 23 _ rfl rfl (by repeat (first | exact Has.hd | apply Has.tl)) Try.underlying23 rfl (by exact infoV) ?_) | (refine sl_store hS rfl 23 _ _ rfl rfl rfl (by repeat (first | exact Rep.hd | apply Rep.tl)) (by exact infoV) (by rfl) (bs_one _) ?_; clear hS; intro wk hS) | (refine sl_box hS rfl _ 23 (box_vec rfl rfl) ?_; clear hS; intro bk wk hS) | (refine sl_box hS rfl _ 23 (alloc_vec rfl) ?_; clear hS; intro bk wk hS) | (refine onlyN_end ?_) | (refine onlyN_now ?_))
      refine sd_tail 10 hS (by kernel_rfl) (by kernel_rfl) ?_
      simp only [List.take_succ_cons, List.take_zero, List.drop_succ_cons, List.drop_zero]
      iterate 10 (refine sd_step (fun K hK => ?_); (apply sd_yes rfl; focus (intro wx hx; have h7 := (hx.cell (show Has _ r _ _ from (by repeat (first | exact Has.hd | apply Has.tl))) k).trans HB7.out; have hf1 := HF1.out _ hx.gr; go_simp; exact ⟨rfl, Gr.refl _⟩)); go_simp; refine hK _ ?_; clear hK K)
      refine sd_nil ?_
      clear hS
      intro wk hS
      have h7 := (hS.cell (show Has _ r _ _ from (by repeat (first | exact Has.hd | apply Has.tl))) k).trans HB7.out
      have h8 := hS.thawed (show Has _ r _ _ from (by repeat (first | exact Has.hd | apply Has.tl))) k
      have HX := Lib.hid (hS.setCell k (.int .u8 (f k)) (b := r) Rep.hd)
      clear hS
      go_wp2_with (first | (refine onlyN_end ?_) | (refine onlyN_now ?_))
      refine ⟨⟨k + 1, by omega, by go_num, ?_⟩, by simp [intOf]; omega⟩
      have hr := HX.out
      rw [bs_set _ _ hlt, HU.out, HFK.out] at hr
      exact hr
    · obtain rfl : k = 16 := by omega
      have e : bs (bK f (B 0) 16) = bs f := bs_congr fun m hm => by unfold bK; rw [if_pos hm]
      rw [e] at hS
      clear e
      go_wp2_with (first | (refine sl_load hS rfl 23 _ rfl rfl (by repeat (first | exact Has.hd | apply Has.tl)) Try.underlying23 rfl (by exact infoV) ?_) | (refine sl_store hS rfl 23 _ _ rfl rfl rfl (by repeat (first | exact Rep.hd | apply Rep.tl)) (by exact infoV) (by rfl) (bs_one _) ?_; clear hS; intro wk hS) | (refine sl_box hS rfl _ 23 (box_vec rfl rfl) ?_; clear hS; intro bk wk hS) | (refine sl_box hS rfl _ 23 (alloc_vec rfl) ?_; clear hS; intro bk wk hS) | (refine onlyN_end ?_) | (refine onlyN_now ?_))
      refine sl_ret2 hS Try.results15 (by rfl) (by repeat (first | exact Has.hd | apply Has.tl)) Try.underlying23 rfl (by exact infoV) (by rfl) ?_
      exact ⟨rfl, hS.gr⟩
set_option maxRecDepth 100000 in
set_option maxHeartbeats 8000000 in
theorem bits_xor (g o c : Nat) (B : Nat → Nat → Int) (w : World) (hc : VecsAt w g o 2 B) :
    Calls Try.prog 15 #[.int .i64 64849, .slice (some ⟨g, o, none⟩) 2 c] w fun e w' => e = .returned (.tuple #[.agg (bs fun m => bits .xor .u8 (B 0 m) (B 1 m)), .int .i64 0]) ∧ Gr w w' := by
  have hv0 : ∀ wk, Gr w wk → ∀ j v, (bs (B 0)).toList[j]? = some v → wk.cell? ⟨g, o + j, none⟩ = some v := fun wk hg j v hj => by
    have hlt : j < 16 := by
      have := (List.getElem?_eq_some_iff.1 hj).1
      simpa using this
    have h1 := gr_cell hg (hc 0 (by omega) j hlt)
    rw [Nat.zero_mul, Nat.add_zero] at h1
    have h2 : (bs (B 0))[j]? = some v := by simpa using hj
    rw [bs_get _ j hlt] at h2
    rw [h1, ← h2]
  have HV0 := Lib.hid hv0
  have HVC := Lib.hid hc
  have CB := fun w => calls_gr (sbits_any 64849 w)
  rw [show (if (64849 : Int) = 64845 then (1 : Int) else if (64849 : Int) = 64846 ∨ (64849 : Int) = 64847 ∨ (64849 : Int) = 64848 ∨ (64849 : Int) = 64849 then 2 else if (64849 : Int) = 64850 then 3 else 0) = 2 from by decide] at CB
  have XCB := Lib.hid CB
  clear hv0 hc CB
  obtain ⟨f, hf⟩ : ∃ f : Nat → Int, f = fun m => bits .xor .u8 (B 0 m) (B 1 m) := ⟨_, rfl⟩
  rw [← hf]
  have HFD := Lib.hid hf
  clear hf
  have hS := St.start w
  go_enter Try.func15, Try.ntmps15
  go_upto_region 4 with (first | (refine sl_load hS rfl 23 _ rfl rfl (by repeat (first | exact Has.hd | apply Has.tl)) Try.underlying23 rfl (by exact infoV) ?_) | (refine sl_store hS rfl 23 _ _ rfl rfl rfl (by repeat (first | exact Rep.hd | apply Rep.tl)) (by exact infoV) (by rfl) (bs_one _) ?_; clear hS; intro wk hS) | (refine sl_box hS rfl _ 23 (box_vec rfl rfl) ?_; clear hS; intro bk wk hS) | (refine sl_box hS rfl _ 23 (alloc_vec rfl) ?_; clear hS; intro z wk hS) | (refine onlyN_end ?_) | (refine onlyN_now ?_) | ((go_at_call 35); (with_reducible refine sl_call hS (XCB.out _) ?_); clear hS; intro wk hS))
  go_wp2_with (first | (refine sl_load hS rfl 23 _ rfl rfl (by repeat (first | exact Has.hd | apply Has.tl)) Try.underlying23 rfl (by exact infoV) ?_) | (refine sl_store hS rfl 23 _ _ rfl rfl rfl (by repeat (first | exact Rep.hd | apply Rep.tl)) (by exact infoV) (by rfl) (bs_one _) ?_; clear hS; intro wk hS) | (refine sl_box hS rfl _ 23 (box_vec rfl rfl) ?_; clear hS; intro bk wk hS) | (refine sl_box hS rfl _ 23 (alloc_vec rfl) ?_; clear hS; intro r wk hS) | (refine onlyN_end ?_) | (refine onlyN_now ?_) | (refine wpList_load_cells rfl 23 _ rfl g o rfl (bs (B 0)) _ (HV0.out _ hS.gr) Try.underlying23 rfl infoV ?_))
  go_loopw [23] (fun u wr => ∃ k : Nat, k ≤ 16 ∧ u = .int .i64 k ∧ St w [⟨r, bs (bK f (B 0) k), 23⟩, ⟨z, bs (fun _ => 0), 23⟩] wr) (fun u _ => 16 - (intOf u).toNat)
  case atStart => exact ⟨0, by omega, rfl, by rw [bK_0]; exact hS⟩
  case round =>
    obtain ⟨k, hk, rfl, hS⟩ := hrel
    by_cases hlt : k < 16
    · have HB7 := Lib.hid ((bs_get (bK f (B 0) k) k hlt).trans (by rw [bK_at]))
      have HF1 := Lib.hid (fun (wk : World) (hg : Gr w wk) => show wk.cell? ⟨g, o + 16 + k, none⟩ = some (.int .u8 (B 1 k)) from gr_cell hg (HVC.out 1 (by omega) k hlt))
      have HFK := Lib.hid (show f k = bits .xor .u8 (B 0 k) (B 1 k) by rw [HFD.out])
      have HU := Lib.hid (bK_succ f (B 0) k)
      generalize B 0 k = x0 at *
      generalize B 1 k = x1 at *
      go_upto_region 19 with (first | (refine sl_load hS rfl 23 _ rfl rfl (by repeat (first | exact Has.hd | apply Has.tl)) Try.underlying23 rfl (by exact infoV) ?_) | (refine sl_store hS rfl 23 _ _ rfl rfl rfl (by repeat (first | exact Rep.hd | apply Rep.tl)) (by exact infoV) (by rfl) (bs_one _) ?_; clear hS; intro wk hS) | (refine sl_box hS rfl _ 23 (box_vec rfl rfl) ?_; clear hS; intro bk wk hS) | (refine sl_box hS rfl _ 23 (alloc_vec rfl) ?_; clear hS; intro bk wk hS) | (refine onlyN_end ?_) | (refine onlyN_now ?_))
      refine sd_tail 10 hS (by kernel_rfl) (by kernel_rfl) ?_
      simp only [List.take_succ_cons, List.take_zero, List.drop_succ_cons, List.drop_zero]
      iterate 10 (refine sd_step (fun K hK => ?_); (apply sd_yes rfl; focus (intro wx hx; have h7 := (hx.cell (show Has _ r _ _ from (by repeat (first | exact Has.hd | apply Has.tl))) k).trans HB7.out; have hf1 := HF1.out _ hx.gr; go_simp; exact ⟨rfl, Gr.refl _⟩)); go_simp; refine hK _ ?_; clear hK K)
      refine sd_nil ?_
      clear hS
      intro wk hS
      have h7 := (hS.cell (show Has _ r _ _ from (by repeat (first | exact Has.hd | apply Has.tl))) k).trans HB7.out
      have h8 := hS.thawed (show Has _ r _ _ from (by repeat (first | exact Has.hd | apply Has.tl))) k
      have HX := Lib.hid (hS.setCell k (.int .u8 (f k)) (b := r) Rep.hd)
      clear hS
      go_wp2_with (first | (refine onlyN_end ?_) | (refine onlyN_now ?_))
      refine ⟨⟨k + 1, by omega, by go_num, ?_⟩, by simp [intOf]; omega⟩
      have hr := HX.out
      rw [bs_set _ _ hlt, HU.out, HFK.out] at hr
      exact hr
    · obtain rfl : k = 16 := by omega
      have e : bs (bK f (B 0) 16) = bs f := bs_congr fun m hm => by unfold bK; rw [if_pos hm]
      rw [e] at hS
      clear e
      go_wp2_with (first | (refine sl_load hS rfl 23 _ rfl rfl (by repeat (first | exact Has.hd | apply Has.tl)) Try.underlying23 rfl (by exact infoV) ?_) | (refine sl_store hS rfl 23 _ _ rfl rfl rfl (by repeat (first | exact Rep.hd | apply Rep.tl)) (by exact infoV) (by rfl) (bs_one _) ?_; clear hS; intro wk hS) | (refine sl_box hS rfl _ 23 (box_vec rfl rfl) ?_; clear hS; intro bk wk hS) | (refine sl_box hS rfl _ 23 (alloc_vec rfl) ?_; clear hS; intro bk wk hS) | (refine onlyN_end ?_) | (refine onlyN_now ?_))
      refine sl_ret2 hS Try.results15 (by rfl) (by repeat (first | exact Has.hd | apply Has.tl)) Try.underlying23 rfl (by exact infoV) (by rfl) ?_
      exact ⟨rfl, hS.gr⟩
set_option maxRecDepth 100000 in
set_option maxHeartbeats 8000000 in
theorem bits_sel (g o c : Nat) (B : Nat → Nat → Int) (w : World) (hc : VecsAt w g o 3 B) :
    Calls Try.prog 15 #[.int .i64 64850, .slice (some ⟨g, o, none⟩) 3 c] w fun e w' => e = .returned (.tuple #[.agg (bs fun m => bits .or .u8 (bits .and .u8 (B 0 m) (B 2 m)) (bits .andNot .u8 (B 1 m) (B 2 m))), .int .i64 0]) ∧ Gr w w' := by
  have hv0 : ∀ wk, Gr w wk → ∀ j v, (bs (B 0)).toList[j]? = some v → wk.cell? ⟨g, o + j, none⟩ = some v := fun wk hg j v hj => by
    have hlt : j < 16 := by
      have := (List.getElem?_eq_some_iff.1 hj).1
      simpa using this
    have h1 := gr_cell hg (hc 0 (by omega) j hlt)
    rw [Nat.zero_mul, Nat.add_zero] at h1
    have h2 : (bs (B 0))[j]? = some v := by simpa using hj
    rw [bs_get _ j hlt] at h2
    rw [h1, ← h2]
  have HV0 := Lib.hid hv0
  have HVC := Lib.hid hc
  have CB := fun w => calls_gr (sbits_any 64850 w)
  rw [show (if (64850 : Int) = 64845 then (1 : Int) else if (64850 : Int) = 64846 ∨ (64850 : Int) = 64847 ∨ (64850 : Int) = 64848 ∨ (64850 : Int) = 64849 then 2 else if (64850 : Int) = 64850 then 3 else 0) = 3 from by decide] at CB
  have XCB := Lib.hid CB
  clear hv0 hc CB
  obtain ⟨f, hf⟩ : ∃ f : Nat → Int, f = fun m => bits .or .u8 (bits .and .u8 (B 0 m) (B 2 m)) (bits .andNot .u8 (B 1 m) (B 2 m)) := ⟨_, rfl⟩
  rw [← hf]
  have HFD := Lib.hid hf
  clear hf
  have hS := St.start w
  go_enter Try.func15, Try.ntmps15
  go_upto_region 4 with (first | (refine sl_load hS rfl 23 _ rfl rfl (by repeat (first | exact Has.hd | apply Has.tl)) Try.underlying23 rfl (by exact infoV) ?_) | (refine sl_store hS rfl 23 _ _ rfl rfl rfl (by repeat (first | exact Rep.hd | apply Rep.tl)) (by exact infoV) (by rfl) (bs_one _) ?_; clear hS; intro wk hS) | (refine sl_box hS rfl _ 23 (box_vec rfl rfl) ?_; clear hS; intro bk wk hS) | (refine sl_box hS rfl _ 23 (alloc_vec rfl) ?_; clear hS; intro z wk hS) | (refine onlyN_end ?_) | (refine onlyN_now ?_) | ((go_at_call 35); (with_reducible refine sl_call hS (XCB.out _) ?_); clear hS; intro wk hS))
  go_wp2_with (first | (refine sl_load hS rfl 23 _ rfl rfl (by repeat (first | exact Has.hd | apply Has.tl)) Try.underlying23 rfl (by exact infoV) ?_) | (refine sl_store hS rfl 23 _ _ rfl rfl rfl (by repeat (first | exact Rep.hd | apply Rep.tl)) (by exact infoV) (by rfl) (bs_one _) ?_; clear hS; intro wk hS) | (refine sl_box hS rfl _ 23 (box_vec rfl rfl) ?_; clear hS; intro bk wk hS) | (refine sl_box hS rfl _ 23 (alloc_vec rfl) ?_; clear hS; intro r wk hS) | (refine onlyN_end ?_) | (refine onlyN_now ?_) | (refine wpList_load_cells rfl 23 _ rfl g o rfl (bs (B 0)) _ (HV0.out _ hS.gr) Try.underlying23 rfl infoV ?_))
  go_loopw [23] (fun u wr => ∃ k : Nat, k ≤ 16 ∧ u = .int .i64 k ∧ St w [⟨r, bs (bK f (B 0) k), 23⟩, ⟨z, bs (fun _ => 0), 23⟩] wr) (fun u _ => 16 - (intOf u).toNat)
  case atStart => exact ⟨0, by omega, rfl, by rw [bK_0]; exact hS⟩
  case round =>
    obtain ⟨k, hk, rfl, hS⟩ := hrel
    by_cases hlt : k < 16
    · have HB7 := Lib.hid ((bs_get (bK f (B 0) k) k hlt).trans (by rw [bK_at]))
      have HF1 := Lib.hid (fun (wk : World) (hg : Gr w wk) => show wk.cell? ⟨g, o + 16 + k, none⟩ = some (.int .u8 (B 1 k)) from gr_cell hg (HVC.out 1 (by omega) k hlt))
      have HF2 := Lib.hid (fun (wk : World) (hg : Gr w wk) => show wk.cell? ⟨g, o + 32 + k, none⟩ = some (.int .u8 (B 2 k)) from gr_cell hg (HVC.out 2 (by omega) k hlt))
      have HFK := Lib.hid (show f k = bits .or .u8 (bits .and .u8 (B 0 k) (B 2 k)) (bits .andNot .u8 (B 1 k) (B 2 k)) by rw [HFD.out])
      have HU := Lib.hid (bK_succ f (B 0) k)
      generalize B 0 k = x0 at *
      generalize B 1 k = x1 at *
      generalize B 2 k = x2 at *
      go_upto_region 9 with (first | (refine sl_load hS rfl 23 _ rfl rfl (by repeat (first | exact Has.hd | apply Has.tl)) Try.underlying23 rfl (by exact infoV) ?_) | (refine sl_store hS rfl 23 _ _ rfl rfl rfl (by repeat (first | exact Rep.hd | apply Rep.tl)) (by exact infoV) (by rfl) (bs_one _) ?_; clear hS; intro wk hS) | (refine sl_box hS rfl _ 23 (box_vec rfl rfl) ?_; clear hS; intro bk wk hS) | (refine sl_box hS rfl _ 23 (alloc_vec rfl) ?_; clear hS; intro bk wk hS) | (refine onlyN_end ?_) | (refine onlyN_now ?_))
      refine sd_tail 23 hS (by kernel_rfl) (by kernel_rfl) ?_
      simp only [List.take_succ_cons, List.take_zero, List.drop_succ_cons, List.drop_zero]
      iterate 23 (refine sd_step (fun K hK => ?_); (apply sd_yes rfl; focus (intro wx hx; have h7 := (hx.cell (show Has _ r _ _ from (by repeat (first | exact Has.hd | apply Has.tl))) k).trans HB7.out; have hf1 := HF1.out _ hx.gr; have hf2 := HF2.out _ hx.gr; go_simp; exact ⟨rfl, Gr.refl _⟩)); go_simp; refine hK _ ?_; clear hK K)
      refine sd_nil ?_
      clear hS
      intro wk hS
      have h7 := (hS.cell (show Has _ r _ _ from (by repeat (first | exact Has.hd | apply Has.tl))) k).trans HB7.out
      have h8 := hS.thawed (show Has _ r _ _ from (by repeat (first | exact Has.hd | apply Has.tl))) k
      have HX := Lib.hid (hS.setCell k (.int .u8 (f k)) (b := r) Rep.hd)
      clear hS
      go_wp2_with (first | (refine onlyN_end ?_) | (refine onlyN_now ?_))
      refine ⟨⟨k + 1, by omega, by go_num, ?_⟩, by simp [intOf]; omega⟩
      have hr := HX.out
      rw [bs_set _ _ hlt, HU.out, HFK.out] at hr
      exact hr
    · obtain rfl : k = 16 := by omega
      have e : bs (bK f (B 0) 16) = bs f := bs_congr fun m hm => by unfold bK; rw [if_pos hm]
      rw [e] at hS
      clear e
      go_wp2_with (first | (refine sl_load hS rfl 23 _ rfl rfl (by repeat (first | exact Has.hd | apply Has.tl)) Try.underlying23 rfl (by exact infoV) ?_) | (refine sl_store hS rfl 23 _ _ rfl rfl rfl (by repeat (first | exact Rep.hd | apply Rep.tl)) (by exact infoV) (by rfl) (bs_one _) ?_; clear hS; intro wk hS) | (refine sl_box hS rfl _ 23 (box_vec rfl rfl) ?_; clear hS; intro bk wk hS) | (refine sl_box hS rfl _ 23 (alloc_vec rfl) ?_; clear hS; intro bk wk hS) | (refine onlyN_end ?_) | (refine onlyN_now ?_))
      refine sl_ret2 hS Try.results15 (by rfl) (by repeat (first | exact Has.hd | apply Has.tl)) Try.underlying23 rfl (by exact infoV) (by rfl) ?_
      exact ⟨rfl, hS.gr⟩
end Cp
end Go.Proofs.Ytdclbagfnabmkaa
