/-
  Of layer 4: the reference's Of at an opcode of one row, or of none. Conditions: those of each theorem.
-/
import Derived.Test.YtakleaonmlompaaInsR3
namespace Go.Proofs.Ytakleaonmlompaa
open Go.RowKit
namespace Ins
theorem strs_get (l : List ByteArray) (k : Nat) (h : k < l.length) : (strs l)[k]? = some (.string (l.getD k ⟨#[]⟩)) := by
  unfold strs
  rw [List.getElem?_map, List.getD_eq_getElem?_getD, List.getElem?_eq_getElem h]; rfl
theorem tab_cell {w : World} {b : Nat} {z : Nat × Nat} (h : w.heap[b]? = some (.cells (strs tabL).toArray 9 z)) (k : Nat) (hk : k < 108) : w.cell? ⟨b, k, none⟩ = some (.string (tabN k)) := by
  rw [cell_of_row _ _ k _ _ _ h, List.getElem?_toArray, strs_get _ _ (by rw [tab_len]; exact hk)]
  rfl
theorem beqB_eq {a b : ByteArray} (h : beqB a b = true) : a = b := by
  have h1 : a.data.toList = b.data.toList := by unfold beqB at h; exact eq_of_beq h
  cases a; cases b
  simp only at h1
  congr 1
  exact Array.toList_inj.1 h1
/-- what the walk asks of a row -/
structure RowF (s : ByteArray) (r : Row) (a b c d : ByteArray) : Prop where
  w : wds s = [a, b, c, d, r.s]
  sz : s.size ≤ 1000 ∧ a.size ≤ 6 ∧ b.size ≤ 6 ∧ c.size ≤ 6 ∧ d.size ≤ 6
  lo : numN a 16 a.size = r.lo
  hi : numN b 16 b.size = r.hi
  f : numN c 10 c.size = r.f
  l : numN d 10 d.size = r.l
theorem rowF (k : Nat) (hk : k < 108) : ∃ a b c d, RowF (tabN k) (rowN k) a b c d := by
  have h := rows_ok ⟨k, hk⟩
  simp only [rowOk] at h
  split at h
  · rename_i a b c d e heq
    simp only [Bool.and_eq_true, decide_eq_true_eq] at h
    obtain ⟨⟨⟨⟨⟨⟨⟨⟨⟨h0, h1⟩, h2⟩, h3⟩, h4⟩, h5⟩, h6⟩, h7⟩, h8⟩, h9⟩ := h
    exact ⟨a, b, c, d, by rw [heq, beqB_eq h9], ⟨h0, h1, h2, h3, h4⟩, h5, h6, h7, h8⟩
  · cases h
/-- op lies in row k -/
def InRow (k : Nat) (op : Int) : Prop := (rowN k).lo ≤ op ∧ op ≤ (rowN k).hi
/-- the five words of a row lie in memory -/
theorem word_cells {w : World} {base : Nat} {v : Value} {a b c d e : ByteArray} (h : w.ownsRow base 9 1 v 5 (strs [a, b, c, d, e])) :
    ∃ g q, v = .slice (some ⟨g, 0, none⟩) 5 q ∧ base ≤ g ∧ g < w.heap.size ∧ w.cell? ⟨g, 0, none⟩ = some (.string a) ∧ w.cell? ⟨g, 1, none⟩ = some (.string b) ∧ w.cell? ⟨g, 2, none⟩ = some (.string c) ∧ w.cell? ⟨g, 3, none⟩ = some (.string d) ∧ w.cell? ⟨g, 4, none⟩ = some (.string e) := by
  obtain ⟨g, q, rfl, _, hb, hl⟩ : ∃ g c, v = .slice (some ⟨g, 0, none⟩) 5 c ∧ 5 ≤ c ∧ base ≤ g ∧ g < w.heap.size := by
    rcases h.2 with ⟨_, h0⟩ | ⟨g, cap, cur, rfl, hb, hg, hnc, _⟩
    · cases h0
    · exact ⟨g, cap, rfl, hnc, hb, (Array.getElem?_eq_some_iff.1 hg).1⟩
  exact ⟨g, q, rfl, hb, hl, h.cellAt 0 (by decide), h.cellAt 1 (by decide), h.cellAt 2 (by decide), h.cellAt 3 (by decide), h.cellAt 4 (by decide)⟩
def ΦF (g q base : Nat) (c d : ByteArray) (ff ll : Int) (k : Nat) (v : Value) (wn : World) : Prop :=
  match k with
  | 0 => v = .slice (some ⟨g, 0, none⟩) 5 q
  | 1 => v = .pointer (some ⟨g, 2, none⟩)
  | 2 => v = .string c
  | 3 => v = .int .i64 ff
  | 4 => v = .slice (some ⟨g, 0, none⟩) 5 q
  | 5 => v = .pointer (some ⟨g, 3, none⟩)
  | 6 => v = .string d
  | 7 => v = .int .i64 ll
  | 8 => v = .agg (inf ff ll false (.slice none 0 0) (.slice none 0 0))
  | 9 => ∃ b, v = .pointer (some ⟨b, 0, none⟩) ∧ wn.heap[b]? = some (.cells (inf 0 0 false (.slice none 0 0) (.slice none 0 0)) 27 (0, 0)) ∧ base ≤ b
  | _ => True
theorem ΦF_mono (g q base : Nat) (c d : ByteArray) (ff ll : Int) : ∀ k v wn wn', Gr wn wn' → ΦF g q base c d ff ll k v wn → ΦF g q base c d ff ll k v wn' := by
  intro k v wn wn' hg h
  match k with
  | 0 => exact h
  | 1 => exact h
  | 2 => exact h
  | 3 => exact h
  | 4 => exact h
  | 5 => exact h
  | 6 => exact h
  | 7 => exact h
  | 8 => exact h
  | 9 => obtain ⟨b, h1, h2, h3⟩ := h; exact ⟨b, h1, gr_block hg h2, h3⟩
  | k + 10 => trivial
set_option maxRecDepth 100000 in
set_option maxHeartbeats 4000000 in
theorem rof_none (op : Int) (hn : ∀ k, k < 108 → ¬ InRow k op) (w : World) :
    Calls Try.prog 13 #[.int .i64 op] w fun e w' => e = .returned (.tuple #[.agg #[.int .i64 0, .int .i64 0, .bool false, .slice none 0 0, .slice none 0 0], .bool false]) ∧ Gr w w' := by
  have HN := Lib.hid hn
  clear hn
  go_enter Try.func13, Try.ntmps13
  go_wp2_with fail
  refine (table_any _).mono ?_
  rintro e w1 ⟨rfl, hw⟩
  have HG1 := Lib.hid (show Gr w w1 by rw [hw]; exact ((Gr.refl w).alloc _ _).allocO _)
  have HB := Lib.hid (show w1.heap[w.heap.size]? = some (.cells #[.int .i64 0, .int .i64 0, .bool false, .slice none 0 0, .slice none 0 0] 27 (0, 0)) by rw [hw]; exact heap_alloc2_old w _ _)
  have HT := Lib.hid (show w1.heap[w.heap.size + 1]? = some (.cells (strs tabL).toArray 9 (0, 0)) by rw [hw]; exact heap_alloc2_new w _ _)
  have hsz : (w.alloc (.cells #[.int .i64 0, .int .i64 0, .bool false, .slice none 0 0, .slice none 0 0] 27)).heap.size = w.heap.size + 1 := by simp
  clear hw
  go_wp2_with fail
  go_loopw [5] (fun i wr => ∃ k : Nat, k ≤ 108 ∧ i = .int .i64 k ∧ Gr w1 wr) (fun i _ => 108 - (intOf i).toNat)
  case atStart => exact ⟨0, by omega, rfl, Gr.refl _⟩
  case round =>
    obtain ⟨k, hk, rfl, hg⟩ := hrel
    have HG := Lib.hid hg
    clear hg
    by_cases hlt : k < 108
    · obtain ⟨a, b, c, d, F⟩ := rowF k hlt
      have hcell := tab_cell (gr_block HG.out HT.out) k hlt
      have hno := HN.out k hlt
      unfold InRow at hno
      have C := fun w => words_any (tabN k) w F.sz.1
      rw [F.w] at C
      have N1 := fun w => number_any a 16 (Or.inr rfl) F.sz.2.1 w
      have N2 := fun w => number_any b 16 (Or.inr rfl) F.sz.2.2.1 w
      rw [F.lo] at N1
      rw [F.hi] at N2
      have HC := Lib.hid C
      have H1 := Lib.hid N1
      have H2 := Lib.hid N2
      clear C N1 N2 F
      generalize (rowN k).lo = lo at *
      generalize (rowN k).hi = hi at *
      generalize (rowN k).s = ls at *
      generalize tabN k = s at *
      go_wp2_with fail
      refine (HC.out _).mono ?_
      rintro e w2 ⟨sv, rfl, hg2, ho⟩
      obtain ⟨g, q, rfl, _, _, c0, c1, _, _, _⟩ := word_cells ho
      have HG2 := Lib.hid (gr_trans HG.out hg2)
      clear hcell ho hg2
      by_cases h1 : op < lo
      · go_wp2_with ((go_at_call 24); (with_reducible refine (H1.out _).mono ?_); rintro e w3 ⟨rfl, rfl⟩)
        exact ⟨⟨k + 1, by omega, by go_num, HG2.out⟩, by simp [intOf]; omega⟩
      · have h2 : hi < op := by omega
        clear hno
        go_wp2_with (first | ((go_at_call 24); (with_reducible refine (H1.out _).mono ?_); rintro e w3 ⟨rfl, rfl⟩) | ((go_at_call 24); (with_reducible refine (H2.out _).mono ?_); rintro e w3 ⟨rfl, rfl⟩))
        exact ⟨⟨k + 1, by omega, by go_num, HG2.out⟩, by simp [intOf]; omega⟩
    · obtain rfl : k = 108 := by omega
      have HBk := Lib.hid (gr_block HG.out HB.out)
      go_wp2_with (refine wpList_store_row rfl 27 _ _ rfl w.heap.size (inf 0 0 false (.slice none 0 0) (.slice none 0 0)) rfl rfl 27 (inf 0 0 false (.slice none 0 0) (.slice none 0 0)) HBk.out infoN rfl (inf_one _ _ _ _ _ _ _ _ _) ?_)
      exact bodyPost_ret (v := .tuple #[.agg (inf 0 0 false (.slice none 0 0) (.slice none 0 0)), .bool false]) (results_cell_slot Try.results13 _ _ w.heap.size 27 _ (0, 0) _ rfl (setRow_block (c := inf 0 0 false (.slice none 0 0) (.slice none 0 0)) HBk.out) Try.underlying27 rfl infoN _ rfl) rfl
        ⟨rfl, gr_setRow (gr_trans HG1.out HG.out) (Nat.le_refl _) _⟩
set_option maxRecDepth 100000 in
set_option maxHeartbeats 4000000 in
theorem rof_bare (op ff ll : Int) (k0 : Nat) (hff : (rowN k0).f = ff) (hll : (rowN k0).l = ll) (hk0 : k0 < 108) (hin : InRow k0 op) (hb : bare (rowN k0) = true) (hn : ∀ k, k < k0 → ¬ InRow k op) (w : World) :
    Calls Try.prog 13 #[.int .i64 op] w fun e w' => e = .returned (.tuple #[.agg #[.int .i64 ff, .int .i64 ll, .bool false, .slice none 0 0, .slice none 0 0], .bool true]) ∧ Gr w w' := by
  have HN := Lib.hid hn
  have HIn := Lib.hid hin
  have HBare := Lib.hid hb
  have HFf := Lib.hid hff
  have HLl := Lib.hid hll
  clear hn hin hb hff hll
  go_enter Try.func13, Try.ntmps13
  go_wp2_with fail
  refine (table_any _).mono ?_
  rintro e w1 ⟨rfl, hw⟩
  have HG1 := Lib.hid (show Gr w w1 by rw [hw]; exact ((Gr.refl w).alloc _ _).allocO _)
  have HB := Lib.hid (show w1.heap[w.heap.size]? = some (.cells #[.int .i64 0, .int .i64 0, .bool false, .slice none 0 0, .slice none 0 0] 27 (0, 0)) by rw [hw]; exact heap_alloc2_old w _ _)
  have HT := Lib.hid (show w1.heap[w.heap.size + 1]? = some (.cells (strs tabL).toArray 9 (0, 0)) by rw [hw]; exact heap_alloc2_new w _ _)
  have hsz : (w.alloc (.cells #[.int .i64 0, .int .i64 0, .bool false, .slice none 0 0, .slice none 0 0] 27)).heap.size = w.heap.size + 1 := by simp
  clear hw
  go_wp2_with fail
  go_loopw [5] (fun i wr => ∃ k : Nat, k ≤ k0 ∧ i = .int .i64 k ∧ Gr w1 wr) (fun i _ => k0 - (intOf i).toNat)
  case atStart => exact ⟨0, by omega, rfl, Gr.refl _⟩
  case round =>
    obtain ⟨k, hk, rfl, hg⟩ := hrel
    have HG := Lib.hid hg
    clear hg
    by_cases hlt : k < k0
    · have h108 : k < 108 := by omega
      obtain ⟨a, b, c, d, F⟩ := rowF k h108
      have hcell := tab_cell (gr_block HG.out HT.out) k h108
      have hno := HN.out k hlt
      unfold InRow at hno
      have C := fun w => words_any (tabN k) w F.sz.1
      rw [F.w] at C
      have N1 := fun w => number_any a 16 (Or.inr rfl) F.sz.2.1 w
      have N2 := fun w => number_any b 16 (Or.inr rfl) F.sz.2.2.1 w
      rw [F.lo] at N1
      rw [F.hi] at N2
      have HC := Lib.hid C
      have H1 := Lib.hid N1
      have H2 := Lib.hid N2
      clear C N1 N2 F
      generalize (rowN k).lo = lo at *
      generalize (rowN k).hi = hi at *
      generalize (rowN k).s = ls at *
      generalize tabN k = s at *
      go_wp2_with fail
      refine (HC.out _).mono ?_
      rintro e w2 ⟨sv, rfl, hg2, ho⟩
      obtain ⟨g, q, rfl, _, _, c0, c1, _, _, _⟩ := word_cells ho
      have HG2 := Lib.hid (gr_trans HG.out hg2)
      clear hcell ho hg2
      by_cases h1 : op < lo
      · go_wp2_with ((go_at_call 24); (with_reducible refine (H1.out _).mono ?_); rintro e w3 ⟨rfl, rfl⟩)
        exact ⟨⟨k + 1, by omega, by go_num, HG2.out⟩, by simp [intOf]; omega⟩
      · have h2 : hi < op := by omega
        clear hno
        go_wp2_with (first | ((go_at_call 24); (with_reducible refine (H1.out _).mono ?_); rintro e w3 ⟨rfl, rfl⟩) | ((go_at_call 24); (with_reducible refine (H2.out _).mono ?_); rintro e w3 ⟨rfl, rfl⟩))
        exact ⟨⟨k + 1, by omega, by go_num, HG2.out⟩, by simp [intOf]; omega⟩
    · obtain rfl : k0 = k := by omega
      clear hlt hk
      obtain ⟨a, b, c, d, F⟩ := rowF k0 hk0
      have hcell := tab_cell (gr_block HG.out HT.out) k0 hk0
      obtain ⟨hlo, hhi⟩ := HIn.out
      obtain ⟨_, _, bf0, bf1, bl0, bl1⟩ := rows_bd ⟨k0, hk0⟩
      have hls : (rowN k0).s = ⟨#[45]⟩ := beqB_eq HBare.out
      have C := fun w => words_any (tabN k0) w F.sz.1
      rw [F.w, hls] at C
      have N1 := fun w => number_any a 16 (Or.inr rfl) F.sz.2.1 w
      have N2 := fun w => number_any b 16 (Or.inr rfl) F.sz.2.2.1 w
      have N3 := fun w => number_any c 10 (Or.inl rfl) F.sz.2.2.2.1 w
      have N4 := fun w => number_any d 10 (Or.inl rfl) F.sz.2.2.2.2 w
      rw [F.lo] at N1
      rw [F.hi] at N2
      rw [F.f, HFf.out] at N3
      rw [F.l, HLl.out] at N4
      have HC := Lib.hid C
      have H1 := Lib.hid N1
      have H2 := Lib.hid N2
      have H3 := Lib.hid N3
      have H4 := Lib.hid N4
      clear C N1 N2 N3 N4 F hls HBare HIn HN
      simp only [HFf.out, HLl.out] at bf0 bf1 bl0 bl1
      clear HFf HLl
      generalize (rowN k0).lo = lo at *
      generalize (rowN k0).hi = hi at *
      generalize tabN k0 = s at *
      have hlo' : ¬ op < lo := by omega
      have hhi' : ¬ hi < op := by omega
      go_wp2_with fail
      refine (HC.out _).mono ?_
      rintro e w2 ⟨sv, rfl, hg2, ho⟩
      obtain ⟨g, q, rfl, _, _, c0, c1, c2, c3, c4⟩ := word_cells ho
      have HG2 := Lib.hid (gr_trans HG.out hg2)
      clear hcell ho hg2
      go_upto_region 7 with (first | ((go_at_call 24); (with_reducible refine (H1.out _).mono ?_); rintro e w3 ⟨rfl, rfl⟩) | ((go_at_call 24); (with_reducible refine (H2.out _).mono ?_); rintro e w3 ⟨rfl, rfl⟩))
      have hgl2 : g < w2.heap.size := block_lt_of_cell c0
      refine wp_region_net_tail 10 (ΦF g q w2.heap.size c d ff ll) (by kernel_rfl) (by kernel_rfl) (ΦF_mono _ _ _ c d ff ll) ?_ ?_
      · simp only [List.take_succ_cons, List.take_zero]
        refine ⟨?_, ?_, ?_, ?_, ?_, ?_, ?_, ?_, ?_, ?_, trivial⟩
        · refine NetStep.of rfl fun ρ wx hw hρc hρf hin hdep => ?_
          have e6 : ρ (.tmp 6) = (.slice (some ⟨g, 0, none⟩) 5 q) := hin 6 (by kernel_rfl)
          go_simp
          exact ⟨rfl, Gr.refl _⟩
        · refine NetStep.of rfl fun ρ wx hw hρc hρf hin hdep => ?_
          have e35 : ρ (.tmp 35) = (.slice (some ⟨g, 0, none⟩) 5 q) := hdep 0 35 (by kernel_rfl)
          go_simp
          exact ⟨rfl, Gr.refl _⟩
        · refine NetStep.of rfl fun ρ wx hw hρc hρf hin hdep => ?_
          have e36 : ρ (.tmp 36) = (.pointer (some ⟨g, 2, none⟩)) := hdep 1 36 (by kernel_rfl)
          have hcx := gr_cell (gr_trans (Gr.drew (Gr.refl w2)) hw) c2
          go_simp
          exact ⟨rfl, Gr.refl _⟩
        · refine NetStep.of rfl fun ρ wx hw hρc hρf hin hdep => ?_
          have e37 : ρ (.tmp 37) = (.string c) := hdep 2 37 (by kernel_rfl)
          go_simp
          exact (H3.out wx).mono fun e w4 ⟨h1, h2⟩ => ⟨_, h1, rfl, h2 ▸ Gr.refl _⟩
        · refine NetStep.of rfl fun ρ wx hw hρc hρf hin hdep => ?_
          have e6 : ρ (.tmp 6) = (.slice (some ⟨g, 0, none⟩) 5 q) := hin 6 (by kernel_rfl)
          go_simp
          exact ⟨rfl, Gr.refl _⟩
        · refine NetStep.of rfl fun ρ wx hw hρc hρf hin hdep => ?_
          have e39 : ρ (.tmp 39) = (.slice (some ⟨g, 0, none⟩) 5 q) := hdep 4 39 (by kernel_rfl)
          go_simp
          exact ⟨rfl, Gr.refl _⟩
        · refine NetStep.of rfl fun ρ wx hw hρc hρf hin hdep => ?_
          have e40 : ρ (.tmp 40) = (.pointer (some ⟨g, 3, none⟩)) := hdep 5 40 (by kernel_rfl)
          have hcx := gr_cell (gr_trans (Gr.drew (Gr.refl w2)) hw) c3
          go_simp
          exact ⟨rfl, Gr.refl _⟩
        · refine NetStep.of rfl fun ρ wx hw hρc hρf hin hdep => ?_
          have e41 : ρ (.tmp 41) = (.string d) := hdep 6 41 (by kernel_rfl)
          go_simp
          exact (H4.out wx).mono fun e w4 ⟨h1, h2⟩ => ⟨_, h1, rfl, h2 ▸ Gr.refl _⟩
        · refine NetStep.of rfl fun ρ wx hw hρc hρf hin hdep => ?_
          have e38 : ρ (.tmp 38) = (.int .i64 ff) := hdep 3 38 (by kernel_rfl)
          have e42 : ρ (.tmp 42) = (.int .i64 ll) := hdep 7 42 (by kernel_rfl)
          go_simp
          exact ⟨rfl, Gr.refl _⟩
        · refine NetStep.of rfl fun ρ wx hw hρc hρf hin hdep => ?_
          go_simp
          exact ⟨⟨wx.heap.size, rfl, heap_alloc_new wx _, (gr_trans (Gr.drew (Gr.refl w2)) hw).size⟩, (Gr.refl _).alloc _ _⟩
      · intro V w3 hg3 hV
        obtain ⟨b7, hs7, hblk, hb7⟩ := hV 9 _ 7 (by decide) rfl rfl
        have hs43 : V 43 = .agg (inf ff ll false (.slice none 0 0) (.slice none 0 0)) := hV 8 _ 43 (by decide) rfl rfl
        have G23 := Lib.hid (gr_trans (Gr.drew (Gr.refl w2)) hg3)
        have HG3 := Lib.hid (gr_trans (gr_trans HG1.out HG2.out) G23.out)
        have d4 := gr_cell G23.out c4
        have HB3 := Lib.hid (gr_block (gr_trans HG2.out G23.out) HB.out)
        have HK7 := Lib.hid hblk
        have hw1s : w.heap.size + 2 ≤ w2.heap.size := by
          have h1 := (Array.getElem?_eq_some_iff.1 HT.out).1
          have h2 := HG2.out.size
          omega
        clear hV hg3 hblk c0 c1 c2 c3 c4
        simp only [List.take_succ_cons, List.take_zero, List.drop_succ_cons, List.drop_zero, putAll, Act.put, Option.map_some, Option.getD_some, List.setIfInBounds_toArray, List.set_cons_succ, List.set_cons_zero]
        rw [hs7, hs43]
        clear hs7 hs43
        refine wpList_store_row rfl 27 _ _ rfl b7 (inf ff ll false (.slice none 0 0) (.slice none 0 0)) rfl rfl 27 (inf 0 0 false (.slice none 0 0) (.slice none 0 0)) HK7.out infoN rfl (inf_one _ _ _ _ _ _ _ _ _) ?_
        have hk7 := setRow_block (c := inf ff ll false (.slice none 0 0) (.slice none 0 0)) HK7.out
        have hb4 := (setRow_block_other (w := w3) (c := inf ff ll false (.slice none 0 0) (.slice none 0 0)) (show w.heap.size ≠ b7 by omega)).trans HB3.out
        have hd4 : (w3.setRow b7 (inf ff ll false (.slice none 0 0) (.slice none 0 0))).cell? ⟨g, 4, none⟩ = some (.string ⟨#[45]⟩) := by
          rw [World.cell?_of_block (a := ⟨g, 4, none⟩) (setRow_block_other (w := w3) (c := inf ff ll false (.slice none 0 0) (.slice none 0 0)) (show g ≠ b7 by omega))]; exact d4
        have hg4 := gr_setRow HG3.out (g := b7) (by omega) (inf ff ll false (.slice none 0 0) (.slice none 0 0))
        generalize w3.setRow b7 (inf ff ll false (.slice none 0 0) (.slice none 0 0)) = w4 at *
        obtain ⟨k0', k1, k2, k3, k4⟩ := cells5 (show w4.heap[b7]? = some (.cells #[.int .i64 ff, .int .i64 ll, .bool false, .slice none 0 0, .slice none 0 0] 27 (0, 0)) from hk7)
        have HB4 := Lib.hid hb4
        have HG4 := Lib.hid hg4
        clear hk7 hb4 hg4 d4
        go_wp2_with (refine wpList_store_row rfl 27 _ _ rfl w.heap.size (inf ff ll false (.slice none 0 0) (.slice none 0 0)) rfl rfl 27 (inf 0 0 false (.slice none 0 0) (.slice none 0 0)) HB4.out infoN rfl (inf_one _ _ _ _ _ _ _ _ _) ?_)
        exact bodyPost_ret (v := .tuple #[.agg (inf ff ll false (.slice none 0 0) (.slice none 0 0)), .bool true]) (results_cell_slot Try.results13 _ _ w.heap.size 27 _ (0, 0) _ rfl (setRow_block (c := inf ff ll false (.slice none 0 0) (.slice none 0 0)) HB4.out) Try.underlying27 rfl infoN _ rfl) rfl
          ⟨rfl, gr_setRow HG4.out (Nat.le_refl _) _⟩
end Ins
end Go.Proofs.Ytakleaonmlompaa
