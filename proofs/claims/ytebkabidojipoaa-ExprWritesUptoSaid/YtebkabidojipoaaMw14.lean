/-
  Texts of this seat, joined: InsR5, InsR6, InsOd, InsOdV, InsOdS, InsAllD. Each says what it proves.
-/
import Derived.Test.YtebkabidojipoaaMw13
namespace Go.Proofs.Ytebkabidojipoaa
section
open Go.RowKit
namespace Ins
set_option maxRecDepth 100000 in
set_option maxHeartbeats 4000000 in
theorem rof_lets (op ff ll : Int) (k0 : Nat) (hff : (rowN k0).f = ff) (hll : (rowN k0).l = ll) (hk0 : k0 < 108) (hin : InRow k0 op) (hb : bare (rowN k0) = false) (ls : ByteArray) (at' : Nat) (hls : (rowN k0).s = ls) (hls100 : ls.size ≤ 100) (hat : at' < ls.size) (hpre : ∀ j (h : j < ls.size), j < at' → (ls[j].toNat : Int) ≠ 58) (hcol : ∀ h : at' < ls.size, (ls[at'].toNat : Int) = 58) (L1 L2 : List Value) (n1 n2 : Nat) (hL1 : rcodes (ls.extract 0 at') (ls.extract 0 at').size = L1) (hL2 : rcodes (ls.extract at' ls.size) (ls.extract at' ls.size).size = L2) (hn1 : L1.length = n1) (hn2 : L2.length = n2) (hn : ∀ k, k < k0 → ¬ InRow k op) (w : World) :
  Calls Try.prog 17 #[.int .i64 op] w fun e w' => ∃ xi ci xo co, e = .returned (.tuple #[.agg #[.int .i64 ff, .int .i64 ll, .bool true, .slice xi n1 ci, .slice xo n2 co], .bool true]) ∧ Gr w w' ∧ w'.ownsRow w.heap.size 3 1 (.slice xi n1 ci) n1 L1 ∧ w'.ownsRow w.heap.size 3 1 (.slice xo n2 co) n2 L2 := by
 have T1 := fun w => rtypes_any (ls.extract 0 at') w (by simp; omega)
 rw [hL1, hn1] at T1
 have T2 := fun w => rtypes_any (ls.extract at' ls.size) w (by simp; omega)
 rw [hL2, hn2] at T2
 have HT1 := Lib.hid T1
 have HT2 := Lib.hid T2
 clear T1 T2 hL1 hL2 hn1 hn2
 have HN := Lib.hid hn
 have HIn := Lib.hid hin
 have HLs := Lib.hid hls
 have HPre := Lib.hid hpre
 have HCol := Lib.hid hcol
 have HNe := Lib.hid (show ls ≠ ⟨#[45]⟩ from fun h => by rw [← hls] at h; unfold bare beqB at hb; rw [h] at hb; exact absurd hb (by decide))
 have HFf := Lib.hid hff
 have HLl := Lib.hid hll
 clear hn hin hb hff hll hls hpre hcol
 go_enter Try.func17, Try.ntmps17
 go_wp2_with fail
 refine (table_any _).mono ?_
 rintro e w1 ⟨rfl, hw⟩
 have HG1 := Lib.hid (show Gr w w1 by rw [hw]; exact ((Gr.refl w).alloc _ _).allocO _)
 have HB := Lib.hid (show w1.heap[w.heap.size]? = some (.cells #[.int .i64 0, .int .i64 0, .bool false, .slice none 0 0, .slice none 0 0] 50 (0, 0)) by rw [hw]; exact heap_alloc2_old w _ _)
 have HT := Lib.hid (show w1.heap[w.heap.size + 1]? = some (.cells (strs tabL).toArray 9 (0, 0)) by rw [hw]; exact heap_alloc2_new w _ _)
 have hsz : (w.alloc (.cells #[.int .i64 0, .int .i64 0, .bool false, .slice none 0 0, .slice none 0 0] 50)).heap.size = w.heap.size + 1 := by simp
 clear hw
 go_wp2_with fail
 go_loopw [5] (fun i wr => ∃ k : Nat, k ≤ k0 ∧ i = .int .i64 k ∧ Gr w1 wr) (fun i _ => k0 - (intOf i).toNat)
 case atStart => exact ⟨0, by omega, rfl, Gr.refl _⟩
 case round =>
  obtain ⟨k, hk, rfl, hg⟩ := hrel
  have HG := Lib.hid hg
  clear hg
  by_cases hlt : k < k0
  ·have h108 : k < 108 := by omega
   obtain ⟨a, b, c, d, F⟩ := rowF k h108
   have hcell := tab_cell (gr_block HG.out HT.out) k h108
   have hno := HN.out k hlt
   unfold InRow at hno
   have C := fun w => words_any (tabN k) w F.sz.1
   rw [F.w] at C
   have N1 := fun w => number_any a 16 (Or.inr rfl) F.sz.2.1 w
   have N2 := fun w => number_any b 16 (Or.inr rfl) F.sz.2.2.1 w
   rw [F.lo] at N1
   rw [F.hi] at N2
   have HC := Lib.hid C
   have H1 := Lib.hid N1
   have H2 := Lib.hid N2
   clear C N1 N2 F
   generalize (rowN k).lo = lo at *
   generalize (rowN k).hi = hi at *
   generalize (rowN k).s = ls at *
   generalize tabN k = s at *
   go_wp2_with fail
   refine (HC.out _).mono ?_
   rintro e w2 ⟨sv, rfl, hg2, ho⟩
   obtain ⟨g, q, rfl, _, _, c0, c1, _, _, _⟩ := word_cells ho
   have HG2 := Lib.hid (gr_trans HG.out hg2)
   clear hcell ho hg2
   by_cases h1 : op < lo
   ·go_wp2_with ((go_at_call 35); (with_reducible refine (H1.out _).mono ?_); rintro e w3 ⟨rfl, rfl⟩)
    exact ⟨⟨k + 1, by omega, by go_num, HG2.out⟩, by simp [intOf]; omega⟩
   ·have h2 : hi < op := by omega
    clear hno
    go_wp2_with (first | ((go_at_call 35); (with_reducible refine (H1.out _).mono ?_); rintro e w3 ⟨rfl, rfl⟩) | ((go_at_call 35); (with_reducible refine (H2.out _).mono ?_); rintro e w3 ⟨rfl, rfl⟩))
    exact ⟨⟨k + 1, by omega, by go_num, HG2.out⟩, by simp [intOf]; omega⟩
  ·obtain rfl : k0 = k := by omega
   clear hlt hk
   obtain ⟨a, b, c, d, F⟩ := rowF k0 hk0
   have hcell := tab_cell (gr_block HG.out HT.out) k0 hk0
   obtain ⟨hlo, hhi⟩ := HIn.out
   obtain ⟨_, _, bf0, bf1, bl0, bl1⟩ := rows_bd ⟨k0, hk0⟩
   have C := fun w => words_any (tabN k0) w F.sz.1
   rw [F.w, HLs.out] at C
   have N1 := fun w => number_any a 16 (Or.inr rfl) F.sz.2.1 w
   have N2 := fun w => number_any b 16 (Or.inr rfl) F.sz.2.2.1 w
   have N3 := fun w => number_any c 10 (Or.inl rfl) F.sz.2.2.2.1 w
   have N4 := fun w => number_any d 10 (Or.inl rfl) F.sz.2.2.2.2 w
   rw [F.lo] at N1
   rw [F.hi] at N2
   rw [F.f, HFf.out] at N3
   rw [F.l, HLl.out] at N4
   have HC := Lib.hid C
   have H1 := Lib.hid N1
   have H2 := Lib.hid N2
   have H3 := Lib.hid N3
   have H4 := Lib.hid N4
   clear C N1 N2 N3 N4 F HLs HIn HN
   simp only [HFf.out, HLl.out] at bf0 bf1 bl0 bl1
   clear HFf HLl
   generalize (rowN k0).lo = lo at *
   generalize (rowN k0).hi = hi at *
   generalize tabN k0 = s at *
   have hlo' : ¬ op < lo := by omega
   have hhi' : ¬ hi < op := by omega
   go_wp2_with fail
   refine (HC.out _).mono ?_
   rintro e w2 ⟨sv, rfl, hg2, ho⟩
   obtain ⟨g, q, rfl, _, _, c0, c1, c2, c3, c4⟩ := word_cells ho
   have HG2 := Lib.hid (gr_trans HG.out hg2)
   clear hcell ho hg2
   go_upto_region 7 with (first | ((go_at_call 35); (with_reducible refine (H1.out _).mono ?_); rintro e w3 ⟨rfl, rfl⟩) | ((go_at_call 35); (with_reducible refine (H2.out _).mono ?_); rintro e w3 ⟨rfl, rfl⟩))
   have hgl2 : g < w2.heap.size := block_lt_of_cell c0
   refine wp_region_net_tail 10 (ΦF g q w2.heap.size c d ff ll) (by kernel_rfl) (by kernel_rfl) (ΦF_mono _ _ _ c d ff ll) ?_ ?_
   ·simp only [List.take_succ_cons, List.take_zero]
    refine ⟨?_, ?_, ?_, ?_, ?_, ?_, ?_, ?_, ?_, ?_, trivial⟩
    ·refine NetStep.of rfl fun ρ wx hw hρc hρf hin hdep => ?_
     have e6 : ρ (.tmp 6) = (.slice (some ⟨g, 0, none⟩) 5 q) := hin 6 (by kernel_rfl)
     go_simp
     exact ⟨rfl, Gr.refl _⟩
    ·refine NetStep.of rfl fun ρ wx hw hρc hρf hin hdep => ?_
     have e35 : ρ (.tmp 35) = (.slice (some ⟨g, 0, none⟩) 5 q) := hdep 0 35 (by kernel_rfl)
     go_simp
     exact ⟨rfl, Gr.refl _⟩
    ·refine NetStep.of rfl fun ρ wx hw hρc hρf hin hdep => ?_
     have e36 : ρ (.tmp 36) = (.pointer (some ⟨g, 2, none⟩)) := hdep 1 36 (by kernel_rfl)
     have hcx := gr_cell (gr_trans (Gr.drew (Gr.refl w2)) hw) c2
     go_simp
     exact ⟨rfl, Gr.refl _⟩
    ·refine NetStep.of rfl fun ρ wx hw hρc hρf hin hdep => ?_
     have e37 : ρ (.tmp 37) = (.string c) := hdep 2 37 (by kernel_rfl)
     go_simp
     exact (H3.out wx).mono fun e w4 ⟨h1, h2⟩ => ⟨_, h1, rfl, h2 ▸ Gr.refl _⟩
    ·refine NetStep.of rfl fun ρ wx hw hρc hρf hin hdep => ?_
     have e6 : ρ (.tmp 6) = (.slice (some ⟨g, 0, none⟩) 5 q) := hin 6 (by kernel_rfl)
     go_simp
     exact ⟨rfl, Gr.refl _⟩
    ·refine NetStep.of rfl fun ρ wx hw hρc hρf hin hdep => ?_
     have e39 : ρ (.tmp 39) = (.slice (some ⟨g, 0, none⟩) 5 q) := hdep 4 39 (by kernel_rfl)
     go_simp
     exact ⟨rfl, Gr.refl _⟩
    ·refine NetStep.of rfl fun ρ wx hw hρc hρf hin hdep => ?_
     have e40 : ρ (.tmp 40) = (.pointer (some ⟨g, 3, none⟩)) := hdep 5 40 (by kernel_rfl)
     have hcx := gr_cell (gr_trans (Gr.drew (Gr.refl w2)) hw) c3
     go_simp
     exact ⟨rfl, Gr.refl _⟩
    ·refine NetStep.of rfl fun ρ wx hw hρc hρf hin hdep => ?_
     have e41 : ρ (.tmp 41) = (.string d) := hdep 6 41 (by kernel_rfl)
     go_simp
     exact (H4.out wx).mono fun e w4 ⟨h1, h2⟩ => ⟨_, h1, rfl, h2 ▸ Gr.refl _⟩
    ·refine NetStep.of rfl fun ρ wx hw hρc hρf hin hdep => ?_
     have e38 : ρ (.tmp 38) = (.int .i64 ff) := hdep 3 38 (by kernel_rfl)
     have e42 : ρ (.tmp 42) = (.int .i64 ll) := hdep 7 42 (by kernel_rfl)
     go_simp
     exact ⟨rfl, Gr.refl _⟩
    ·refine NetStep.of rfl fun ρ wx hw hρc hρf hin hdep => ?_
     go_simp
     exact ⟨⟨wx.heap.size, rfl, heap_alloc_new wx _, (gr_trans (Gr.drew (Gr.refl w2)) hw).size⟩, (Gr.refl _).alloc _ _⟩
   ·intro V w3 hg3 hV
    obtain ⟨b7, hs7, hblk, hb7⟩ := hV 9 _ 7 (by decide) rfl rfl
    have hs43 : V 43 = .agg (inf ff ll false (.slice none 0 0) (.slice none 0 0)) := hV 8 _ 43 (by decide) rfl rfl
    have G23 := Lib.hid (gr_trans (Gr.drew (Gr.refl w2)) hg3)
    have HG3 := Lib.hid (gr_trans (gr_trans HG1.out HG2.out) G23.out)
    have d4 := gr_cell G23.out c4
    have HB3 := Lib.hid (gr_block (gr_trans HG2.out G23.out) HB.out)
    have HK7 := Lib.hid hblk
    have hw1s : w.heap.size + 2 ≤ w2.heap.size := by
     have h1 := (Array.getElem?_eq_some_iff.1 HT.out).1
     have h2 := HG2.out.size
     omega
    clear hV hg3 hblk c0 c1 c2 c3 c4
    simp only [List.take_succ_cons, List.take_zero, List.drop_succ_cons, List.drop_zero, putAll, Act.put, Option.map_some, Option.getD_some, List.setIfInBounds_toArray, List.set_cons_succ, List.set_cons_zero]
    rw [hs7, hs43]
    clear hs7 hs43
    refine wpList_store_row rfl 50 _ _ rfl b7 (inf ff ll false (.slice none 0 0) (.slice none 0 0)) rfl rfl 50 (inf 0 0 false (.slice none 0 0) (.slice none 0 0)) HK7.out infoN rfl (inf_one _ _ _ _ _ _ _ _ _) ?_
    have hk7 := setRow_block (c := inf ff ll false (.slice none 0 0) (.slice none 0 0)) HK7.out
    have hb4 := (setRow_block_other (w := w3) (c := inf ff ll false (.slice none 0 0) (.slice none 0 0)) (show w.heap.size ≠ b7 by omega)).trans HB3.out
    have hd4 : (w3.setRow b7 (inf ff ll false (.slice none 0 0) (.slice none 0 0))).cell? ⟨g, 4, none⟩ = some (.string ls) := by
     rw [World.cell?_of_block (a := ⟨g, 4, none⟩) (setRow_block_other (w := w3) (c := inf ff ll false (.slice none 0 0) (.slice none 0 0)) (show g ≠ b7 by omega))]; exact d4
    have hg4 := gr_setRow HG3.out (g := b7) (by omega) (inf ff ll false (.slice none 0 0) (.slice none 0 0))
    generalize w3.setRow b7 (inf ff ll false (.slice none 0 0) (.slice none 0 0)) = w4 at *
    obtain ⟨k0', k1, k2, k3, k4⟩ := cells5 (show w4.heap[b7]? = some (.cells #[.int .i64 ff, .int .i64 ll, .bool false, .slice none 0 0, .slice none 0 0] 50 (0, 0)) from hk7)
    have f2 : w4.frozen? ⟨b7, 2, none⟩ = false := by simp [World.frozen?, hk7]
    have HK4 := Lib.hid hk7
    have HB4 := Lib.hid hb4
    have HG4 := Lib.hid hg4
    have hgb7 : g ≠ b7 := by omega
    have hne0 : ls.toList ≠ [45] := fun h => HNe.out (by rw [ByteArray.toList_eq] at h; cases ls; simp only at h ⊢; congr 1; exact Array.toList_inj.1 h)
    have hne1 : (!ls.toList == [45]) = true := by simpa using hne0
    have hne2 : (ls.toList == [45]) = false := by simpa using hne0
    clear hk7 hb4 hg4 d4
    go_wp2_with fail
    have hk5 : (w4.setCell ⟨b7, 2, none⟩ (.bool true)).heap[b7]? = some (.cells (inf ff ll true (.slice none 0 0) (.slice none 0 0)) 50 (0, 0)) := by
     simp [World.setCell, Array.getElem?_modify, HK4.out, inf]
    have hb5 := ((Sep.setCell (ex := fun q => q = b7) w4 (p := ⟨b7, 2, none⟩) rfl (.bool true)).block w.heap.size (by have := (Array.getElem?_eq_some_iff.1 HB4.out).1; exact this) (show w.heap.size ≠ b7 by omega)).trans HB4.out
    have hd5 : (w4.setCell ⟨b7, 2, none⟩ (.bool true)).cell? ⟨g, 4, none⟩ = some (.string ls) := by
     rw [World.cell?_setCell_far _ _ _ _ (show b7 ≠ g by omega)]; exact hd4
    have hg5 : Gr w (w4.setCell ⟨b7, 2, none⟩ (.bool true)) := HG4.out.setCell (p := ⟨b7, 2, none⟩) (show w.heap.size ≤ b7 by omega) _
    generalize w4.setCell ⟨b7, 2, none⟩ (.bool true) = w5 at *
    clear hd4 k0' k1 k2 k3 k4 f2 HK4 HB4 HG4
    have HK5 := Lib.hid hk5
    have HB5 := Lib.hid hb5
    have HG5 := Lib.hid hg5
    clear hk5 hb5 hg5
    go_loopw [8] (fun i wr => ∃ j : Nat, j ≤ at' ∧ i = .int .i64 j ∧ wr = w5) (fun i _ => at' - (intOf i).toNat)
    case atStart => exact ⟨0, by omega, rfl, rfl⟩
    case round =>
     obtain ⟨j, hj, rfl, rfl⟩ := hrel
     by_cases hlt : j < at'
     ·have hjl : j < ls.size := by omega
      have hb0 := HPre.out j hjl hlt
      have b1 : ((ls[j].toNat : Int) == 58) = false := beq_eq_false_iff_ne.2 hb0
      have b2 : ((ls[j].toNat : Int) != 58) = true := by rw [bne, b1]; rfl
      go_wp2_with fail
      exact ⟨⟨j + 1, by omega, by go_num, trivial⟩, by simp [intOf]; omega⟩
     ·obtain rfl : at' = j := by omega
      have b1 := HCol.out hat
      have b2 : ((ls[at'].toNat : Int) != 58) = false := by rw [b1]; rfl
      clear hlt hj
      go_upto_region 14 with fail
      refine (HT1.out _).mono ?_
      rintro e w6 ⟨sv, rfl, hg6, ho6⟩
      obtain ⟨x1, c1, rfl⟩ := owns_slice ho6
      obtain ⟨_, _, _, k3, _⟩ := cells5 (gr_block hg6 HK5.out)
      have f3 : w6.frozen? ⟨b7, 3, none⟩ = false := by simp [World.frozen?, gr_block hg6 HK5.out]
      have hlt5 := (Array.getElem?_eq_some_iff.1 HB5.out).1
      have hlt7 := (Array.getElem?_eq_some_iff.1 HK5.out).1
      go_upto_region 14 with fail
      have hk7 : (w6.setCell ⟨b7, 3, none⟩ (.slice x1 n1 c1)).heap[b7]? = some (.cells (inf ff ll true (.slice x1 n1 c1) (.slice none 0 0)) 50 (0, 0)) := by
       simp [World.setCell, Array.getElem?_modify, gr_block hg6 HK5.out, inf]
      have hb7 := ((Sep.setCell (ex := fun q => q = b7) w6 (p := ⟨b7, 3, none⟩) rfl (.slice x1 n1 c1)).block w.heap.size (by have := hg6.size; omega) (show w.heap.size ≠ b7 by omega)).trans (gr_block hg6 HB5.out)
      have hd7 : (w6.setCell ⟨b7, 3, none⟩ (.slice x1 n1 c1)).cell? ⟨g, 4, none⟩ = some (.string ls) := by
       rw [World.cell?_setCell_far _ _ _ _ (show b7 ≠ g by omega)]; exact gr_cell hg6 hd5
      have hg7 : Gr w (w6.setCell ⟨b7, 3, none⟩ (.slice x1 n1 c1)) := (gr_trans HG5.out hg6).setCell (p := ⟨b7, 3, none⟩) (show w.heap.size ≤ b7 by omega) _
      have ho7 := Sep.owns (Sep.setCell (ex := fun q => q = b7) w6 (p := ⟨b7, 3, none⟩) rfl (.slice x1 n1 c1)) ho6 (fun q hq e => by have := (ho6.lt q hq).1; omega)
      have hs7 : wr.heap.size ≤ (w6.setCell ⟨b7, 3, none⟩ (.slice x1 n1 c1)).heap.size := by have := hg6.size; simpa [World.setCell] using this
      generalize w6.setCell ⟨b7, 3, none⟩ (.slice x1 n1 c1) = w7 at *
      clear hg6 ho6 k3 f3 hd5
      have HK7 := Lib.hid hk7
      have HB7 := Lib.hid hb7
      have HG7 := Lib.hid hg7
      have HO7 := Lib.hid ho7
      clear hk7 hb7 hg7 ho7
      go_wp2_with fail
      refine (HT2.out _).mono ?_
      rintro e w8 ⟨sv, rfl, hg8, ho8⟩
      obtain ⟨x2, c2, rfl⟩ := owns_slice ho8
      obtain ⟨_, _, _, _, k4⟩ := cells5 (gr_block hg8 HK7.out)
      have f4 : w8.frozen? ⟨b7, 4, none⟩ = false := by simp [World.frozen?, gr_block hg8 HK7.out]
      go_upto_region 15 with fail
      have hk9 : (w8.setCell ⟨b7, 4, none⟩ (.slice x2 n2 c2)).heap[b7]? = some (.cells (inf ff ll true (.slice x1 n1 c1) (.slice x2 n2 c2)) 50 (0, 0)) := by
       simp [World.setCell, Array.getElem?_modify, gr_block hg8 HK7.out, inf]
      have hb9 := ((Sep.setCell (ex := fun q => q = b7) w8 (p := ⟨b7, 4, none⟩) rfl (.slice x2 n2 c2)).block w.heap.size (by have := hg8.size; omega) (show w.heap.size ≠ b7 by omega)).trans (gr_block hg8 HB7.out)
      have hg9 : Gr w (w8.setCell ⟨b7, 4, none⟩ (.slice x2 n2 c2)) := (gr_trans HG7.out hg8).setCell (p := ⟨b7, 4, none⟩) (show w.heap.size ≤ b7 by omega) _
      have ho9 := Sep.owns (Sep.setCell (ex := fun q => q = b7) w8 (p := ⟨b7, 4, none⟩) rfl (.slice x2 n2 c2)) ho8 (fun q hq e => by have := (ho8.lt q hq).1; omega)
      have hp9 := Sep.owns (Sep.setCell (ex := fun q => q = b7) w8 (p := ⟨b7, 4, none⟩) rfl (.slice x2 n2 c2)) (owns_gr HO7.out hg8) (fun q hq e => by have := (HO7.out.lt q hq).1; omega)
      have hq9 := owns_base ho9 hs7
      generalize w8.setCell ⟨b7, 4, none⟩ (.slice x2 n2 c2) = w9 at *
      clear hg8 ho8 k4 f4 ho9
      obtain ⟨k0', k1, k2, k3, k4⟩ := cells5 (show w9.heap[b7]? = some (.cells #[.int .i64 ff, .int .i64 ll, .bool true, .slice x1 n1 c1, .slice x2 n2 c2] 50 (0, 0)) from hk9)
      have HB9 := Lib.hid hb9
      have HG9 := Lib.hid hg9
      have HP9 := Lib.hid hp9
      have HQ9 := Lib.hid hq9
      clear hk9 hb9 hg9 hp9 hq9
      go_wp2_with (refine wpList_store_row rfl 50 _ _ rfl w.heap.size (inf ff ll true (.slice x1 n1 c1) (.slice x2 n2 c2)) rfl rfl 50 (inf 0 0 false (.slice none 0 0) (.slice none 0 0)) HB9.out infoN rfl (inf_one _ _ _ _ _ _ _ _ _) ?_)
      exact bodyPost_ret (v := .tuple #[.agg (inf ff ll true (.slice x1 n1 c1) (.slice x2 n2 c2)), .bool true]) (results_cell_slot Try.results17 _ _ w.heap.size 50 _ (0, 0) _ rfl (setRow_block (c := inf ff ll true (.slice x1 n1 c1) (.slice x2 n2 c2)) HB9.out) Try.underlying50 rfl infoN _ rfl) rfl
       ⟨_, _, _, _, rfl, gr_setRow HG9.out (Nat.le_refl _) _, owns_base (owns_setRow HP9.out hlt5 _) (Nat.le_of_lt hlt5), owns_base (owns_setRow HQ9.out hlt5 _) (Nat.le_of_lt hlt5)⟩
end Ins
end
section
open Go.RowKit
namespace Ins
def RX (op f l : Int) (s : ByteArray) : Prop := ∃ k, k < 108 ∧ InRow k op ∧ (∀ j, j < k → ¬ InRow j op) ∧ (rowN k).f = f ∧ (rowN k).l = l ∧ ((bare (rowN k) = true ∧ s = ⟨#[]⟩) ∨ (bare (rowN k) = false ∧ (rowN k).s = s))
def RN (op : Int) : Prop := ∀ k, k < 108 → ¬ InRow k op
def offB (a b : Int) (n : Nat) : Bool := (List.range n).all fun j => decide ((rowN j).hi < a) || decide (b < (rowN j).lo)
theorem off_of {a b : Int} {n : Nat} (h : offB a b n = true) (op : Int) (h0 : a ≤ op) (h1 : op ≤ b) (j : Nat) (hj : j < n) : ¬ InRow j op := by
 have := List.all_eq_true.1 h j (List.mem_range.2 hj)
 simp only [Bool.or_eq_true, decide_eq_true_eq] at this
 unfold InRow
 omega
def leafB (a b : Int) (k : Nat) (f l : Int) (s : ByteArray) : Bool :=
 decide (k < 108) && decide ((rowN k).lo ≤ a) && decide (b ≤ (rowN k).hi) && offB a b k && decide ((rowN k).f = f) && decide ((rowN k).l = l) && (if bare (rowN k) then beqB s ⟨#[]⟩ else beqB (rowN k).s s)
theorem rx_of {a b : Int} {k : Nat} {f l : Int} {s : ByteArray} (h : leafB a b k f l s = true) (op : Int) (h0 : a ≤ op) (h1 : op ≤ b) : RX op f l s := by
 simp only [leafB, Bool.and_eq_true, decide_eq_true_eq] at h
 obtain ⟨⟨⟨⟨⟨⟨hk, hlo⟩, hhi⟩, hoff⟩, hf⟩, hl⟩, hs⟩ := h
 refine ⟨k, hk, ⟨by omega, by omega⟩, off_of hoff op h0 h1, hf, hl, ?_⟩
 split at hs
 ·rename_i hb; exact .inl ⟨hb, beqB_eq hs⟩
 ·rename_i hb; exact .inr ⟨by simpa using hb, beqB_eq hs⟩
theorem rn_neg (op : Int) (h : op ≤ -1) : RN op := fun k hk ⟨h1, _⟩ => by have := (rows_bd ⟨k, hk⟩).1; simp only at this; omega
theorem rn_big {a : Int} (h : offB a 100001 108 = true) (op : Int) (h0 : a ≤ op) : RN op := fun k hk hr => by
 have h2 := (rows_bd ⟨k, hk⟩).2.1
 have h3 := hr.2
 simp only at h2
 exact off_of h op h0 (by omega) k hk hr
theorem rx1 {a : Int} {k : Nat} {f l : Int} {s : ByteArray} (h : leafB a a k f l s = true) : RX a f l s := rx_of h a (Int.le_refl _) (Int.le_refl _)
def ROW (op : Int) : Prop := (RN op ∧ OFN op) ∨ ∃ f l s, RX op f l s ∧ OFY op f l s ∧ Good op f l s
theorem rowr_0 (op : Int) (h1 : op ≤ -1) : ROW op := Or.inl ⟨rn_neg op h1, fun w => of_sca0 _ _ _ (by omega) (fun w => top_control0 _ _ _ _ (by omega) (fun w => control_0 op (by omega) w) w) w⟩
theorem rowr_1 : ROW 0 := Or.inr ⟨1, 0, ⟨#[]⟩, rx1 (k := 0) (by decide +kernel), fun w hm => of_sca _ _ _ _ (by omega) rfl g0.1.1 g0.1.2.1 g0.1.2.2 (fun w => top_control0 _ _ _ _ (by omega) (fun w => control_1 w) w) w hm, g0.1, g0.2, n0, by decide⟩
theorem rowr_2 : ROW 1 := Or.inr ⟨1, 0, ⟨#[58]⟩, rx1 (k := 1) (by decide +kernel), fun w hm => of_sca _ _ _ _ (by omega) rfl g1.1.1 g1.1.2.1 g1.1.2.2 (fun w => top_control0 _ _ _ _ (by omega) (fun w => control_2 w) w) w hm, g1.1, g1.2, n1, by decide⟩
theorem rowr_3 : ROW 2 := Or.inr ⟨2, 0, ⟨#[]⟩, rx1 (k := 2) (by decide +kernel), fun w hm => of_sca _ _ _ _ (by omega) rfl g2.1.1 g2.1.2.1 g2.1.2.2 (fun w => top_control0 _ _ _ _ (by omega) (fun w => control_3 w) w) w hm, g2.1, g2.2, n2, by decide⟩
theorem rowr_4 : ROW 3 := Or.inr ⟨2, 0, ⟨#[]⟩, rx1 (k := 2) (by decide +kernel), fun w hm => of_sca _ _ _ _ (by omega) rfl g2.1.1 g2.1.2.1 g2.1.2.2 (fun w => top_control0 _ _ _ _ (by omega) (fun w => control_4 w) w) w hm, g2.1, g2.2, n2, by decide⟩
theorem rowr_5 : ROW 4 := Or.inr ⟨2, 0, ⟨#[]⟩, rx1 (k := 2) (by decide +kernel), fun w hm => of_sca _ _ _ _ (by omega) rfl g2.1.1 g2.1.2.1 g2.1.2.2 (fun w => top_control0 _ _ _ _ (by omega) (fun w => control_5 w) w) w hm, g2.1, g2.2, n2, by decide⟩
theorem rowr_6 : ROW 5 := Or.inr ⟨1, 0, ⟨#[]⟩, rx1 (k := 3) (by decide +kernel), fun w hm => of_sca _ _ _ _ (by omega) rfl g0.1.1 g0.1.2.1 g0.1.2.2 (fun w => top_control0 _ _ _ _ (by omega) (fun w => control_6 w) w) w hm, g0.1, g0.2, n0, by decide⟩
theorem rowr_7 (op : Int) (h0 : 6 ≤ op) (h1 : op ≤ 10) : ROW op := Or.inl ⟨off_of (a := 6) (b := 10) (by decide +kernel) op (by omega) (by omega), fun w => of_sca0 _ _ _ (by omega) (fun w => top_control0 _ _ _ _ (by omega) (fun w => control_7 op (by omega) (by omega) w) w) w⟩
theorem rowr_8 : ROW 11 := Or.inr ⟨1, 0, ⟨#[]⟩, rx1 (k := 4) (by decide +kernel), fun w hm => of_sca _ _ _ _ (by omega) rfl g0.1.1 g0.1.2.1 g0.1.2.2 (fun w => top_control0 _ _ _ _ (by omega) (fun w => control_8 w) w) w hm, g0.1, g0.2, n0, by decide⟩
theorem rowr_9 : ROW 12 := Or.inr ⟨3, 0, ⟨#[]⟩, rx1 (k := 5) (by decide +kernel), fun w hm => of_sca _ _ _ _ (by omega) rfl g3.1.1 g3.1.2.1 g3.1.2.2 (fun w => top_control0 _ _ _ _ (by omega) (fun w => control_9 w) w) w hm, g3.1, g3.2, n3, by decide⟩
theorem rowr_10 : ROW 13 := Or.inr ⟨3, 0, ⟨#[]⟩, rx1 (k := 5) (by decide +kernel), fun w hm => of_sca _ _ _ _ (by omega) rfl g3.1.1 g3.1.2.1 g3.1.2.2 (fun w => top_control0 _ _ _ _ (by omega) (fun w => control_10 w) w) w hm, g3.1, g3.2, n3, by decide⟩
theorem rowr_11 : ROW 14 := Or.inr ⟨4, 0, ⟨#[]⟩, rx1 (k := 6) (by decide +kernel), fun w hm => of_sca _ _ _ _ (by omega) rfl g4.1.1 g4.1.2.1 g4.1.2.2 (fun w => top_control0 _ _ _ _ (by omega) (fun w => control_11 w) w) w hm, g4.1, g4.2, n4, by decide⟩
theorem rowr_12 : ROW 15 := Or.inr ⟨1, 0, ⟨#[]⟩, rx1 (k := 7) (by decide +kernel), fun w hm => of_sca _ _ _ _ (by omega) rfl g0.1.1 g0.1.2.1 g0.1.2.2 (fun w => top_control0 _ _ _ _ (by omega) (fun w => control_12 w) w) w hm, g0.1, g0.2, n0, by decide⟩
theorem rowr_13 : ROW 16 := Or.inr ⟨5, 0, ⟨#[]⟩, rx1 (k := 8) (by decide +kernel), fun w hm => of_sca _ _ _ _ (by omega) rfl g5.1.1 g5.1.2.1 g5.1.2.2 (fun w => top_control0 _ _ _ _ (by omega) (fun w => control_13 w) w) w hm, g5.1, g5.2, n5, by decide⟩
theorem rowr_14 : ROW 17 := Or.inr ⟨6, 0, ⟨#[]⟩, rx1 (k := 9) (by decide +kernel), fun w hm => of_sca _ _ _ _ (by omega) rfl g6.1.1 g6.1.2.1 g6.1.2.2 (fun w => top_control0 _ _ _ _ (by omega) (fun w => control_14 w) w) w hm, g6.1, g6.2, n6, by decide⟩
theorem rowr_15 (op : Int) (h0 : 18 ≤ op) (h1 : op ≤ 25) : ROW op := Or.inl ⟨off_of (a := 18) (b := 25) (by decide +kernel) op (by omega) (by omega), fun w => of_sca0 _ _ _ (by omega) (fun w => top_control0 _ _ _ _ (by omega) (fun w => control_15 op (by omega) (by omega) w) w) w⟩
theorem rowr_16 : ROW 26 := Or.inr ⟨1, 0, ⟨#[]⟩, rx1 (k := 10) (by decide +kernel), fun w hm => of_sca _ _ _ _ (by omega) rfl g0.1.1 g0.1.2.1 g0.1.2.2 (fun w => top_control0 _ _ _ _ (by omega) (fun w => control_16 w) w) w hm, g0.1, g0.2, n0, by decide⟩
theorem rowr_17 : ROW 27 := Or.inr ⟨1, 0, ⟨#[]⟩, rx1 (k := 10) (by decide +kernel), fun w hm => of_sca _ _ _ _ (by omega) rfl g0.1.1 g0.1.2.1 g0.1.2.2 (fun w => top_control0 _ _ _ _ (by omega) (fun w => control_17 w) w) w hm, g0.1, g0.2, n0, by decide⟩
theorem rowr_18 (op : Int) (h0 : 28 ≤ op) (h1 : op ≤ 31) : ROW op := Or.inl ⟨off_of (a := 28) (b := 31) (by decide +kernel) op (by omega) (by omega), fun w => of_sca0 _ _ _ (by omega) (fun w => top_control0 _ _ _ _ (by omega) (fun w => control_18 op (by omega) (by omega) w) w) w⟩
theorem rowr_19 : ROW 32 := Or.inr ⟨5, 0, ⟨#[]⟩, rx1 (k := 11) (by decide +kernel), fun w hm => of_sca _ _ _ _ (by omega) rfl g5.1.1 g5.1.2.1 g5.1.2.2 (fun w => top_control0 _ _ _ _ (by omega) (fun w => control_19 w) w) w hm, g5.1, g5.2, n5, by decide⟩
theorem rowr_20 : ROW 33 := Or.inr ⟨5, 0, ⟨#[]⟩, rx1 (k := 11) (by decide +kernel), fun w hm => of_sca _ _ _ _ (by omega) rfl g5.1.1 g5.1.2.1 g5.1.2.2 (fun w => top_control0 _ _ _ _ (by omega) (fun w => control_20 w) w) w hm, g5.1, g5.2, n5, by decide⟩
theorem rowr_21 : ROW 34 := Or.inr ⟨5, 0, ⟨#[]⟩, rx1 (k := 11) (by decide +kernel), fun w hm => of_sca _ _ _ _ (by omega) rfl g5.1.1 g5.1.2.1 g5.1.2.2 (fun w => top_control0 _ _ _ _ (by omega) (fun w => control_21 w) w) w hm, g5.1, g5.2, n5, by decide⟩
theorem rowr_22 : ROW 35 := Or.inr ⟨5, 0, ⟨#[]⟩, rx1 (k := 11) (by decide +kernel), fun w hm => of_sca _ _ _ _ (by omega) rfl g5.1.1 g5.1.2.1 g5.1.2.2 (fun w => top_control0 _ _ _ _ (by omega) (fun w => control_22 w) w) w hm, g5.1, g5.2, n5, by decide⟩
theorem rowr_23 : ROW 36 := Or.inr ⟨5, 0, ⟨#[]⟩, rx1 (k := 11) (by decide +kernel), fun w hm => of_sca _ _ _ _ (by omega) rfl g5.1.1 g5.1.2.1 g5.1.2.2 (fun w => top_control0 _ _ _ _ (by omega) (fun w => control_23 w) w) w hm, g5.1, g5.2, n5, by decide⟩
theorem rowr_24 (op : Int) (h0 : 37 ≤ op) (h1 : op ≤ 39) : ROW op := Or.inl ⟨off_of (a := 37) (b := 39) (by decide +kernel) op (by omega) (by omega), fun w => of_sca0 _ _ _ (by omega) (fun w => top_control0 _ _ _ _ (by omega) (fun w => control_24 op (by omega) (by omega) w) w) w⟩
theorem rowr_25 : ROW 40 := Or.inr ⟨7, 2, ⟨#[105, 58, 105]⟩, rx1 (k := 12) (by decide +kernel), fun w hm => of_sca _ _ _ _ (by omega) rfl g7.1.1 g7.1.2.1 g7.1.2.2 (fun w => top_access0 _ _ _ _ (by omega) (by omega) (fun w => access_0 w) w) w hm, g7.1, g7.2, n7, by decide⟩
theorem rowr_26 : ROW 41 := Or.inr ⟨7, 3, ⟨#[105, 58, 108]⟩, rx1 (k := 13) (by decide +kernel), fun w hm => of_sca _ _ _ _ (by omega) rfl g8.1.1 g8.1.2.1 g8.1.2.2 (fun w => top_access0 _ _ _ _ (by omega) (by omega) (fun w => access_1 w) w) w hm, g8.1, g8.2, n8, by decide⟩
theorem rowr_27 (op : Int) (h0 : 42 ≤ op) (h1 : op ≤ 43) : ROW op := Or.inl ⟨off_of (a := 42) (b := 43) (by decide +kernel) op (by omega) (by omega), fun w => of_sca0 _ _ _ (by omega) (fun w => top_access0 _ _ _ _ (by omega) (by omega) (fun w => access_2 op (by omega) (by omega) w) w) w⟩
theorem rowr_28 : ROW 44 := Or.inr ⟨7, 0, ⟨#[105, 58, 105]⟩, rx1 (k := 14) (by decide +kernel), fun w hm => of_sca _ _ _ _ (by omega) rfl g9.1.1 g9.1.2.1 g9.1.2.2 (fun w => top_access0 _ _ _ _ (by omega) (by omega) (fun w => access_3 w) w) w hm, g9.1, g9.2, n7, by decide⟩
theorem rowr_29 : ROW 45 := Or.inr ⟨7, 0, ⟨#[105, 58, 105]⟩, rx1 (k := 14) (by decide +kernel), fun w hm => of_sca _ _ _ _ (by omega) rfl g9.1.1 g9.1.2.1 g9.1.2.2 (fun w => top_access0 _ _ _ _ (by omega) (by omega) (fun w => access_4 w) w) w hm, g9.1, g9.2, n7, by decide⟩
theorem rowr_30 : ROW 46 := Or.inr ⟨7, 1, ⟨#[105, 58, 105]⟩, rx1 (k := 15) (by decide +kernel), fun w hm => of_sca _ _ _ _ (by omega) rfl g10.1.1 g10.1.2.1 g10.1.2.2 (fun w => top_access0 _ _ _ _ (by omega) (by omega) (fun w => access_5 w) w) w hm, g10.1, g10.2, n7, by decide⟩
theorem rowr_31 : ROW 47 := Or.inr ⟨7, 1, ⟨#[105, 58, 105]⟩, rx1 (k := 15) (by decide +kernel), fun w hm => of_sca _ _ _ _ (by omega) rfl g10.1.1 g10.1.2.1 g10.1.2.2 (fun w => top_access0 _ _ _ _ (by omega) (by omega) (fun w => access_6 w) w) w hm, g10.1, g10.2, n7, by decide⟩
theorem rowr_32 : ROW 48 := Or.inr ⟨7, 0, ⟨#[105, 58, 108]⟩, rx1 (k := 16) (by decide +kernel), fun w hm => of_sca _ _ _ _ (by omega) rfl g11.1.1 g11.1.2.1 g11.1.2.2 (fun w => top_access0 _ _ _ _ (by omega) (by omega) (fun w => access_7 w) w) w hm, g11.1, g11.2, n8, by decide⟩
theorem rowr_33 : ROW 49 := Or.inr ⟨7, 0, ⟨#[105, 58, 108]⟩, rx1 (k := 16) (by decide +kernel), fun w hm => of_sca _ _ _ _ (by omega) rfl g11.1.1 g11.1.2.1 g11.1.2.2 (fun w => top_access0 _ _ _ _ (by omega) (by omega) (fun w => access_8 w) w) w hm, g11.1, g11.2, n8, by decide⟩
theorem rowr_34 : ROW 50 := Or.inr ⟨7, 1, ⟨#[105, 58, 108]⟩, rx1 (k := 17) (by decide +kernel), fun w hm => of_sca _ _ _ _ (by omega) rfl g12.1.1 g12.1.2.1 g12.1.2.2 (fun w => top_access0 _ _ _ _ (by omega) (by omega) (fun w => access_9 w) w) w hm, g12.1, g12.2, n8, by decide⟩
theorem rowr_35 : ROW 51 := Or.inr ⟨7, 1, ⟨#[105, 58, 108]⟩, rx1 (k := 17) (by decide +kernel), fun w hm => of_sca _ _ _ _ (by omega) rfl g12.1.1 g12.1.2.1 g12.1.2.2 (fun w => top_access0 _ _ _ _ (by omega) (by omega) (fun w => access_10 w) w) w hm, g12.1, g12.2, n8, by decide⟩
theorem rowr_36 : ROW 52 := Or.inr ⟨7, 2, ⟨#[105, 58, 108]⟩, rx1 (k := 18) (by decide +kernel), fun w hm => of_sca _ _ _ _ (by omega) rfl g13.1.1 g13.1.2.1 g13.1.2.2 (fun w => top_access0 _ _ _ _ (by omega) (by omega) (fun w => access_11 w) w) w hm, g13.1, g13.2, n8, by decide⟩
theorem rowr_37 : ROW 53 := Or.inr ⟨7, 2, ⟨#[105, 58, 108]⟩, rx1 (k := 18) (by decide +kernel), fun w hm => of_sca _ _ _ _ (by omega) rfl g13.1.1 g13.1.2.1 g13.1.2.2 (fun w => top_access0 _ _ _ _ (by omega) (by omega) (fun w => access_12 w) w) w hm, g13.1, g13.2, n8, by decide⟩
theorem rowr_38 : ROW 54 := Or.inr ⟨7, 2, ⟨#[105, 105, 58]⟩, rx1 (k := 19) (by decide +kernel), fun w hm => of_sca _ _ _ _ (by omega) rfl g14.1.1 g14.1.2.1 g14.1.2.2 (fun w => top_access0 _ _ _ _ (by omega) (by omega) (fun w => access_13 w) w) w hm, g14.1, g14.2, n9, by decide⟩
theorem rowr_39 : ROW 55 := Or.inr ⟨7, 3, ⟨#[105, 108, 58]⟩, rx1 (k := 20) (by decide +kernel), fun w hm => of_sca _ _ _ _ (by omega) rfl g15.1.1 g15.1.2.1 g15.1.2.2 (fun w => top_access0 _ _ _ _ (by omega) (by omega) (fun w => access_14 w) w) w hm, g15.1, g15.2, n10, by decide⟩
theorem rowr_40 (op : Int) (h0 : 56 ≤ op) (h1 : op ≤ 57) : ROW op := Or.inl ⟨off_of (a := 56) (b := 57) (by decide +kernel) op (by omega) (by omega), fun w => of_sca0 _ _ _ (by omega) (fun w => top_access0 _ _ _ _ (by omega) (by omega) (fun w => access_15 op (by omega) (by omega) w) w) w⟩
theorem rowr_41 : ROW 58 := Or.inr ⟨7, 0, ⟨#[105, 105, 58]⟩, rx1 (k := 21) (by decide +kernel), fun w hm => of_sca _ _ _ _ (by omega) rfl g16.1.1 g16.1.2.1 g16.1.2.2 (fun w => top_access0 _ _ _ _ (by omega) (by omega) (fun w => access_16 w) w) w hm, g16.1, g16.2, n9, by decide⟩
theorem rowr_42 : ROW 59 := Or.inr ⟨7, 1, ⟨#[105, 105, 58]⟩, rx1 (k := 22) (by decide +kernel), fun w hm => of_sca _ _ _ _ (by omega) rfl g17.1.1 g17.1.2.1 g17.1.2.2 (fun w => top_access0 _ _ _ _ (by omega) (by omega) (fun w => access_17 w) w) w hm, g17.1, g17.2, n9, by decide⟩
theorem rowr_43 : ROW 60 := Or.inr ⟨7, 0, ⟨#[105, 108, 58]⟩, rx1 (k := 23) (by decide +kernel), fun w hm => of_sca _ _ _ _ (by omega) rfl g18.1.1 g18.1.2.1 g18.1.2.2 (fun w => top_access0 _ _ _ _ (by omega) (by omega) (fun w => access_18 w) w) w hm, g18.1, g18.2, n10, by decide⟩
theorem rowr_44 : ROW 61 := Or.inr ⟨7, 1, ⟨#[105, 108, 58]⟩, rx1 (k := 24) (by decide +kernel), fun w hm => of_sca _ _ _ _ (by omega) rfl g19.1.1 g19.1.2.1 g19.1.2.2 (fun w => top_access0 _ _ _ _ (by omega) (by omega) (fun w => access_19 w) w) w hm, g19.1, g19.2, n10, by decide⟩
theorem rowr_45 : ROW 62 := Or.inr ⟨7, 2, ⟨#[105, 108, 58]⟩, rx1 (k := 25) (by decide +kernel), fun w hm => of_sca _ _ _ _ (by omega) rfl g20.1.1 g20.1.2.1 g20.1.2.2 (fun w => top_access0 _ _ _ _ (by omega) (by omega) (fun w => access_20 w) w) w hm, g20.1, g20.2, n10, by decide⟩
theorem rowr_46 : ROW 63 := Or.inr ⟨14, 0, ⟨#[58, 105]⟩, rx1 (k := 26) (by decide +kernel), fun w hm => of_sca _ _ _ _ (by omega) rfl g21.1.1 g21.1.2.1 g21.1.2.2 (fun w => top_63 w) w hm, g21.1, g21.2, n11, by decide⟩
theorem rowr_47 : ROW 64 := Or.inr ⟨14, 0, ⟨#[105, 58, 105]⟩, rx1 (k := 27) (by decide +kernel), fun w hm => of_sca _ _ _ _ (by omega) rfl g22.1.1 g22.1.2.1 g22.1.2.2 (fun w => top_64 w) w hm, g22.1, g22.2, n12, by decide⟩
theorem rowr_48 : ROW 65 := Or.inr ⟨9, 0, ⟨#[58, 105]⟩, rx1 (k := 28) (by decide +kernel), fun w hm => of_sca _ _ _ _ (by omega) rfl g23.1.1 g23.1.2.1 g23.1.2.2 (fun w => top_65 w) w hm, g23.1, g23.2, n13, by decide⟩
theorem rowr_49 : ROW 66 := Or.inr ⟨10, 0, ⟨#[58, 108]⟩, rx1 (k := 29) (by decide +kernel), fun w hm => of_sca _ _ _ _ (by omega) rfl g24.1.1 g24.1.2.1 g24.1.2.2 (fun w => top_66 w) w hm, g24.1, g24.2, n14, by decide⟩
theorem rowr_50 (op : Int) (h0 : 67 ≤ op) (h1 : op ≤ 68) : ROW op := Or.inl ⟨off_of (a := 67) (b := 68) (by decide +kernel) op (by omega) (by omega), fun w => of_sca0 _ _ _ (by omega) (fun w => top_control1 _ _ _ _ (by omega) (by omega) (fun w => control_25 op (by omega) (by omega) w) w) w⟩
theorem rowr_51 : ROW 69 := Or.inr ⟨1, 0, ⟨#[105, 58, 105]⟩, rx1 (k := 30) (by decide +kernel), fun w hm => of_sca _ _ _ _ (by omega) rfl g25.1.1 g25.1.2.1 g25.1.2.2 (fun w => top_operator0 _ _ _ _ (by omega) (fun w => operator_0 w) w) w hm, g25.1, g25.2, n15, by decide⟩
theorem rowr_52 (op : Int) (h0 : 70 ≤ op) (h1 : op ≤ 79) : ROW op := by
 have hrx : RX op 1 0 ⟨#[105, 105, 58, 105]⟩ := by
  exact rx_of (a := 70) (b := 79) (k := 31) (by decide +kernel) op (by omega) (by omega)
 have hl : decide (op < 197) = true := decide_eq_true (by omega)
 have ha : arI op = 2 := by unfold arI; rw [if_neg (by omega), if_pos (by omega)]
 exact Or.inr ⟨1, 0, ⟨#[105, 105, 58, 105]⟩, hrx, fun w hm => of_sca _ _ _ _ (by omega) rfl g26.1.1 g26.1.2.1 g26.1.2.2 (fun w => top_operator0 _ _ _ _ (by omega) (fun w => operator_1 op (by omega) (by omega) w) w) w hm, g26.1, g26.2, by rw [hl, ha]; exact n16, by unfold floatB; exact decide_eq_false (by unfold Flt; omega)⟩
theorem rowr_53 : ROW 80 := Or.inr ⟨1, 0, ⟨#[108, 58, 105]⟩, rx1 (k := 32) (by decide +kernel), fun w hm => of_sca _ _ _ _ (by omega) rfl g27.1.1 g27.1.2.1 g27.1.2.2 (fun w => top_operator0 _ _ _ _ (by omega) (fun w => operator_2 w) w) w hm, g27.1, g27.2, n17, by decide⟩
theorem rowr_54 (op : Int) (h0 : 81 ≤ op) (h1 : op ≤ 90) : ROW op := by
 have hrx : RX op 1 0 ⟨#[108, 108, 58, 105]⟩ := by
  exact rx_of (a := 81) (b := 90) (k := 33) (by decide +kernel) op (by omega) (by omega)
 have hl : decide (op < 197) = true := decide_eq_true (by omega)
 have ha : arI op = 2 := by unfold arI; rw [if_neg (by omega), if_pos (by omega)]
 exact Or.inr ⟨1, 0, ⟨#[108, 108, 58, 105]⟩, hrx, fun w hm => of_sca _ _ _ _ (by omega) rfl g28.1.1 g28.1.2.1 g28.1.2.2 (fun w => top_operator0 _ _ _ _ (by omega) (fun w => operator_3 op (by omega) (by omega) w) w) w hm, g28.1, g28.2, by rw [hl, ha]; exact n18, by unfold floatB; exact decide_eq_false (by unfold Flt; omega)⟩
theorem rowr_55 (op : Int) (h0 : 91 ≤ op) (h1 : op ≤ 102) : ROW op := Or.inl ⟨off_of (a := 91) (b := 102) (by decide +kernel) op (by omega) (by omega), fun w => of_sca0 _ _ _ (by omega) (fun w => top_operator0 _ _ _ _ (by omega) (fun w => operator_4 op (by omega) (by omega) w) w) w⟩
theorem rowr_56 (op : Int) (h0 : 103 ≤ op) (h1 : op ≤ 105) : ROW op := by
 have hrx : RX op 1 0 ⟨#[105, 58, 105]⟩ := by
  exact rx_of (a := 103) (b := 105) (k := 34) (by decide +kernel) op (by omega) (by omega)
 have hl : decide (op < 197) = true := decide_eq_true (by omega)
 have ha : arI op = 1 := by unfold arI; rw [if_pos (by omega)]
 exact Or.inr ⟨1, 0, ⟨#[105, 58, 105]⟩, hrx, fun w hm => of_sca _ _ _ _ (by omega) rfl g25.1.1 g25.1.2.1 g25.1.2.2 (fun w => top_operator0 _ _ _ _ (by omega) (fun w => operator_5 op (by omega) (by omega) w) w) w hm, g25.1, g25.2, by rw [hl, ha]; exact n15, by unfold floatB; exact decide_eq_false (by unfold Flt; omega)⟩
theorem rowr_57 (op : Int) (h0 : 106 ≤ op) (h1 : op ≤ 120) : ROW op := by
 have hrx : RX op 1 0 ⟨#[105, 105, 58, 105]⟩ := by
  exact rx_of (a := 106) (b := 120) (k := 35) (by decide +kernel) op (by omega) (by omega)
 have hl : decide (op < 197) = true := decide_eq_true (by omega)
 have ha : arI op = 2 := by unfold arI; rw [if_neg (by omega), if_pos (by omega)]
 exact Or.inr ⟨1, 0, ⟨#[105, 105, 58, 105]⟩, hrx, fun w hm => of_sca _ _ _ _ (by omega) rfl g26.1.1 g26.1.2.1 g26.1.2.2 (fun w => top_operator0 _ _ _ _ (by omega) (fun w => operator_6 op (by omega) (by omega) w) w) w hm, g26.1, g26.2, by rw [hl, ha]; exact n16, by unfold floatB; exact decide_eq_false (by unfold Flt; omega)⟩
theorem rowr_58 (op : Int) (h0 : 121 ≤ op) (h1 : op ≤ 123) : ROW op := by
 have hrx : RX op 1 0 ⟨#[108, 58, 108]⟩ := by
  exact rx_of (a := 121) (b := 123) (k := 36) (by decide +kernel) op (by omega) (by omega)
 have hl : decide (op < 197) = true := decide_eq_true (by omega)
 have ha : arI op = 1 := by unfold arI; rw [if_pos (by omega)]
 exact Or.inr ⟨1, 0, ⟨#[108, 58, 108]⟩, hrx, fun w hm => of_sca _ _ _ _ (by omega) rfl g29.1.1 g29.1.2.1 g29.1.2.2 (fun w => top_operator0 _ _ _ _ (by omega) (fun w => operator_7 op (by omega) (by omega) w) w) w hm, g29.1, g29.2, by rw [hl, ha]; exact n19, by unfold floatB; exact decide_eq_false (by unfold Flt; omega)⟩
theorem rowr_59 (op : Int) (h0 : 124 ≤ op) (h1 : op ≤ 138) : ROW op := by
 have hrx : RX op 1 0 ⟨#[108, 108, 58, 108]⟩ := by
  exact rx_of (a := 124) (b := 138) (k := 37) (by decide +kernel) op (by omega) (by omega)
 have hl : decide (op < 197) = true := decide_eq_true (by omega)
 have ha : arI op = 2 := by unfold arI; rw [if_neg (by omega), if_pos (by omega)]
 exact Or.inr ⟨1, 0, ⟨#[108, 108, 58, 108]⟩, hrx, fun w hm => of_sca _ _ _ _ (by omega) rfl g30.1.1 g30.1.2.1 g30.1.2.2 (fun w => top_operator0 _ _ _ _ (by omega) (fun w => operator_8 op (by omega) (by omega) w) w) w hm, g30.1, g30.2, by rw [hl, ha]; exact n20, by unfold floatB; exact decide_eq_false (by unfold Flt; omega)⟩
theorem rowr_60 (op : Int) (h0 : 139 ≤ op) (h1 : op ≤ 166) : ROW op := Or.inl ⟨off_of (a := 139) (b := 166) (by decide +kernel) op (by omega) (by omega), fun w => of_sca0 _ _ _ (by omega) (fun w => top_operator0 _ _ _ _ (by omega) (fun w => operator_9 op (by omega) (by omega) w) w) w⟩
theorem rowr_61 : ROW 167 := Or.inr ⟨1, 0, ⟨#[108, 58, 105]⟩, rx1 (k := 38) (by decide +kernel), fun w hm => of_sca _ _ _ _ (by omega) rfl g27.1.1 g27.1.2.1 g27.1.2.2 (fun w => top_operator0 _ _ _ _ (by omega) (fun w => operator_10 w) w) w hm, g27.1, g27.2, n17, by decide⟩
theorem rowr_62 (op : Int) (h0 : 168 ≤ op) (h1 : op ≤ 171) : ROW op := Or.inl ⟨off_of (a := 168) (b := 171) (by decide +kernel) op (by omega) (by omega), fun w => of_sca0 _ _ _ (by omega) (fun w => top_operator0 _ _ _ _ (by omega) (fun w => operator_11 op (by omega) (by omega) w) w) w⟩
theorem rowr_63 (op : Int) (h0 : 172 ≤ op) (h1 : op ≤ 173) : ROW op := by
 have hrx : RX op 1 0 ⟨#[105, 58, 108]⟩ := by
  exact rx_of (a := 172) (b := 173) (k := 39) (by decide +kernel) op (by omega) (by omega)
 have hl : decide (op < 197) = true := decide_eq_true (by omega)
 have ha : arI op = 1 := by unfold arI; rw [if_pos (by omega)]
 exact Or.inr ⟨1, 0, ⟨#[105, 58, 108]⟩, hrx, fun w hm => of_sca _ _ _ _ (by omega) rfl g31.1.1 g31.1.2.1 g31.1.2.2 (fun w => top_operator0 _ _ _ _ (by omega) (fun w => operator_12 op (by omega) (by omega) w) w) w hm, g31.1, g31.2, by rw [hl, ha]; exact n21, by unfold floatB; exact decide_eq_false (by unfold Flt; omega)⟩
theorem rowr_64 (op : Int) (h0 : 174 ≤ op) (h1 : op ≤ 191) : ROW op := Or.inl ⟨off_of (a := 174) (b := 191) (by decide +kernel) op (by omega) (by omega), fun w => of_sca0 _ _ _ (by omega) (fun w => top_operator0 _ _ _ _ (by omega) (fun w => operator_13 op (by omega) (by omega) w) w) w⟩
theorem rowr_65 (op : Int) (h0 : 192 ≤ op) (h1 : op ≤ 193) : ROW op := by
 have hrx : RX op 1 0 ⟨#[105, 58, 105]⟩ := by
  exact rx_of (a := 192) (b := 193) (k := 40) (by decide +kernel) op (by omega) (by omega)
 have hl : decide (op < 197) = true := decide_eq_true (by omega)
 have ha : arI op = 1 := by unfold arI; rw [if_pos (by omega)]
 exact Or.inr ⟨1, 0, ⟨#[105, 58, 105]⟩, hrx, fun w hm => of_sca _ _ _ _ (by omega) rfl g25.1.1 g25.1.2.1 g25.1.2.2 (fun w => top_operator0 _ _ _ _ (by omega) (fun w => operator_14 op (by omega) (by omega) w) w) w hm, g25.1, g25.2, by rw [hl, ha]; exact n15, by unfold floatB; exact decide_eq_false (by unfold Flt; omega)⟩
theorem rowr_66 (op : Int) (h0 : 194 ≤ op) (h1 : op ≤ 196) : ROW op := by
 have hrx : RX op 1 0 ⟨#[108, 58, 108]⟩ := by
  exact rx_of (a := 194) (b := 196) (k := 41) (by decide +kernel) op (by omega) (by omega)
 have hl : decide (op < 197) = true := decide_eq_true (by omega)
 have ha : arI op = 1 := by unfold arI; rw [if_pos (by omega)]
 exact Or.inr ⟨1, 0, ⟨#[108, 58, 108]⟩, hrx, fun w hm => of_sca _ _ _ _ (by omega) rfl g29.1.1 g29.1.2.1 g29.1.2.2 (fun w => top_operator0 _ _ _ _ (by omega) (fun w => operator_15 op (by omega) (by omega) w) w) w hm, g29.1, g29.2, by rw [hl, ha]; exact n19, by unfold floatB; exact decide_eq_false (by unfold Flt; omega)⟩
theorem rowr_67 (op : Int) (h0 : 197 ≤ op) (h1 : op ≤ 64767) : ROW op := Or.inl ⟨off_of (a := 197) (b := 64767) (by decide +kernel) op (by omega) (by omega), fun w => of_sca0 _ _ _ (by omega) (fun w => top_operator0 _ _ _ _ (by omega) (fun w => operator_16 op (by omega) w) w) w⟩
theorem rowr_68 : ROW 64768 := Or.inr ⟨7, 4, ⟨#[105, 58, 118]⟩, rx1 (k := 42) (by decide +kernel), fun w hm => of_vec _ 0 _ _ _ (by omega) (by omega) (by omega) rfl g32.1.1 g32.1.2.1 g32.1.2.2 (fun w => top_va0 _ _ _ _ (by omega) (by omega) (fun w => va_0 w) w) w hm, g32.1, g32.2, n22, by decide⟩
theorem rowr_69 (op : Int) (h0 : 64769 ≤ op) (h1 : op ≤ 64774) : ROW op := by
 have hrx : RX op 7 3 ⟨#[105, 58, 118]⟩ := by
  exact rx_of (a := 64769) (b := 64774) (k := 43) (by decide +kernel) op (by omega) (by omega)
 have hl : decide (op < 197) = false := decide_eq_false (by omega)
 have ha : arI op = 0 := by unfold arI; rw [if_neg (by omega), if_neg (by omega)]
 exact Or.inr ⟨7, 3, ⟨#[105, 58, 118]⟩, hrx, fun w hm => of_vec _ (op - 64768) _ _ _ (by omega) (by omega) (by omega) rfl g33.1.1 g33.1.2.1 g33.1.2.2 (fun w => top_va0 _ _ _ _ (by omega) (by omega) (fun w => va_1 (op - 64768) (by omega) (by omega) w) w) w hm, g33.1, g33.2, by rw [hl, ha]; exact n22, by unfold floatB; exact decide_eq_false (by unfold Flt; omega)⟩
theorem rowr_70 : ROW 64775 := Or.inr ⟨7, 0, ⟨#[105, 58, 118]⟩, rx1 (k := 44) (by decide +kernel), fun w hm => of_vec _ 7 _ _ _ (by omega) (by omega) (by omega) rfl g34.1.1 g34.1.2.1 g34.1.2.2 (fun w => top_va0 _ _ _ _ (by omega) (by omega) (fun w => va_2 w) w) w hm, g34.1, g34.2, n22, by decide⟩
theorem rowr_71 : ROW 64776 := Or.inr ⟨7, 1, ⟨#[105, 58, 118]⟩, rx1 (k := 45) (by decide +kernel), fun w hm => of_vec _ 8 _ _ _ (by omega) (by omega) (by omega) rfl g35.1.1 g35.1.2.1 g35.1.2.2 (fun w => top_va0 _ _ _ _ (by omega) (by omega) (fun w => va_3 w) w) w hm, g35.1, g35.2, n22, by decide⟩
theorem rowr_72 : ROW 64777 := Or.inr ⟨7, 2, ⟨#[105, 58, 118]⟩, rx1 (k := 46) (by decide +kernel), fun w hm => of_vec _ 9 _ _ _ (by omega) (by omega) (by omega) rfl g36.1.1 g36.1.2.1 g36.1.2.2 (fun w => top_va0 _ _ _ _ (by omega) (by omega) (fun w => va_4 w) w) w hm, g36.1, g36.2, n22, by decide⟩
theorem rowr_73 : ROW 64778 := Or.inr ⟨7, 3, ⟨#[105, 58, 118]⟩, rx1 (k := 47) (by decide +kernel), fun w hm => of_vec _ 10 _ _ _ (by omega) (by omega) (by omega) rfl g33.1.1 g33.1.2.1 g33.1.2.2 (fun w => top_va0 _ _ _ _ (by omega) (by omega) (fun w => va_5 w) w) w hm, g33.1, g33.2, n22, by decide⟩
theorem rowr_74 : ROW 64779 := Or.inr ⟨7, 4, ⟨#[105, 118, 58]⟩, rx1 (k := 48) (by decide +kernel), fun w hm => of_vec _ 11 _ _ _ (by omega) (by omega) (by omega) rfl g37.1.1 g37.1.2.1 g37.1.2.2 (fun w => top_va0 _ _ _ _ (by omega) (by omega) (fun w => va_6 w) w) w hm, g37.1, g37.2, n23, by decide⟩
theorem rowr_75 : ROW 64780 := Or.inr ⟨11, 0, ⟨#[58, 118]⟩, rx1 (k := 49) (by decide +kernel), fun w hm => of_vec _ 12 _ _ _ (by omega) (by omega) (by omega) rfl g38.1.1 g38.1.2.1 g38.1.2.2 (fun w => top_vm0 _ _ _ _ (by omega) (by omega) (fun w => vm_0 w) w) w hm, g38.1, g38.2, n24, by decide⟩
theorem rowr_76 : ROW 64781 := Or.inr ⟨12, 0, ⟨#[118, 118, 58, 118]⟩, rx1 (k := 50) (by decide +kernel), fun w hm => of_vec _ 13 _ _ _ (by omega) (by omega) (by omega) rfl g39.1.1 g39.1.2.1 g39.1.2.2 (fun w => top_vm0 _ _ _ _ (by omega) (by omega) (fun w => vm_1 w) w) w hm, g39.1, g39.2, n25, by decide⟩
theorem rowr_77 : ROW 64782 := Or.inr ⟨1, 0, ⟨#[118, 118, 58, 118]⟩, rx1 (k := 51) (by decide +kernel), fun w hm => of_vec _ 14 _ _ _ (by omega) (by omega) (by omega) rfl g40.1.1 g40.1.2.1 g40.1.2.2 (fun w => top_vm0 _ _ _ _ (by omega) (by omega) (fun w => vm_2 w) w) w hm, g40.1, g40.2, n26, by decide⟩
theorem rowr_78 : ROW 64783 := Or.inr ⟨1, 0, ⟨#[105, 58, 118]⟩, rx1 (k := 52) (by decide +kernel), fun w hm => of_vec _ 15 _ _ _ (by omega) (by omega) (by omega) rfl g41.1.1 g41.1.2.1 g41.1.2.2 (fun w => top_vm0 _ _ _ _ (by omega) (by omega) (fun w => vm_3 w) w) w hm, g41.1, g41.2, n27, by decide⟩
theorem rowr_79 : ROW 64784 := Or.inr ⟨1, 0, ⟨#[105, 58, 118]⟩, rx1 (k := 52) (by decide +kernel), fun w hm => of_vec _ 16 _ _ _ (by omega) (by omega) (by omega) rfl g41.1.1 g41.1.2.1 g41.1.2.2 (fun w => top_vm0 _ _ _ _ (by omega) (by omega) (fun w => vm_4 w) w) w hm, g41.1, g41.2, n27, by decide⟩
theorem rowr_80 : ROW 64785 := Or.inr ⟨1, 0, ⟨#[105, 58, 118]⟩, rx1 (k := 52) (by decide +kernel), fun w hm => of_vec _ 17 _ _ _ (by omega) (by omega) (by omega) rfl g41.1.1 g41.1.2.1 g41.1.2.2 (fun w => top_vm0 _ _ _ _ (by omega) (by omega) (fun w => vm_5 w) w) w hm, g41.1, g41.2, n27, by decide⟩
theorem rowr_81 : ROW 64786 := Or.inr ⟨1, 0, ⟨#[108, 58, 118]⟩, rx1 (k := 53) (by decide +kernel), fun w hm => of_vec _ 18 _ _ _ (by omega) (by omega) (by omega) rfl g42.1.1 g42.1.2.1 g42.1.2.2 (fun w => top_vm0 _ _ _ _ (by omega) (by omega) (fun w => vm_6 w) w) w hm, g42.1, g42.2, n28, by decide⟩
theorem rowr_82 (op : Int) (h0 : 64787 ≤ op) (h1 : op ≤ 64788) : ROW op := Or.inl ⟨off_of (a := 64787) (b := 64788) (by decide +kernel) op (by omega) (by omega), fun w => of_vec0 _ (op - 64768) _ _ (by omega) (by omega) (by omega) (fun w => top_vm0 _ _ _ _ (by omega) (by omega) (fun w => vm_7 (op - 64768) (by omega) (by omega) w) w) w⟩
theorem rowr_83 : ROW 64789 := Or.inr ⟨13, 16, ⟨#[118, 58, 105]⟩, rx1 (k := 54) (by decide +kernel), fun w hm => of_vec _ 21 _ _ _ (by omega) (by omega) (by omega) rfl g43.1.1 g43.1.2.1 g43.1.2.2 (fun w => top_vm0 _ _ _ _ (by omega) (by omega) (fun w => vm_8 w) w) w hm, g43.1, g43.2, n29, by decide⟩
theorem rowr_84 : ROW 64790 := Or.inr ⟨13, 16, ⟨#[118, 58, 105]⟩, rx1 (k := 54) (by decide +kernel), fun w hm => of_vec _ 22 _ _ _ (by omega) (by omega) (by omega) rfl g43.1.1 g43.1.2.1 g43.1.2.2 (fun w => top_vm0 _ _ _ _ (by omega) (by omega) (fun w => vm_9 w) w) w hm, g43.1, g43.2, n29, by decide⟩
theorem rowr_85 : ROW 64791 := Or.inr ⟨13, 16, ⟨#[118, 105, 58, 118]⟩, rx1 (k := 55) (by decide +kernel), fun w hm => of_vec _ 23 _ _ _ (by omega) (by omega) (by omega) rfl g44.1.1 g44.1.2.1 g44.1.2.2 (fun w => top_vm0 _ _ _ _ (by omega) (by omega) (fun w => vm_10 w) w) w hm, g44.1, g44.2, n30, by decide⟩
theorem rowr_86 : ROW 64792 := Or.inr ⟨13, 8, ⟨#[118, 58, 105]⟩, rx1 (k := 56) (by decide +kernel), fun w hm => of_vec _ 24 _ _ _ (by omega) (by omega) (by omega) rfl g45.1.1 g45.1.2.1 g45.1.2.2 (fun w => top_vm0 _ _ _ _ (by omega) (by omega) (fun w => vm_11 w) w) w hm, g45.1, g45.2, n29, by decide⟩
theorem rowr_87 : ROW 64793 := Or.inr ⟨13, 8, ⟨#[118, 58, 105]⟩, rx1 (k := 56) (by decide +kernel), fun w hm => of_vec _ 25 _ _ _ (by omega) (by omega) (by omega) rfl g45.1.1 g45.1.2.1 g45.1.2.2 (fun w => top_vm0 _ _ _ _ (by omega) (by omega) (fun w => vm_12 w) w) w hm, g45.1, g45.2, n29, by decide⟩
theorem rowr_88 : ROW 64794 := Or.inr ⟨13, 8, ⟨#[118, 105, 58, 118]⟩, rx1 (k := 57) (by decide +kernel), fun w hm => of_vec _ 26 _ _ _ (by omega) (by omega) (by omega) rfl g46.1.1 g46.1.2.1 g46.1.2.2 (fun w => top_vm0 _ _ _ _ (by omega) (by omega) (fun w => vm_13 w) w) w hm, g46.1, g46.2, n30, by decide⟩
theorem rowr_89 : ROW 64795 := Or.inr ⟨13, 4, ⟨#[118, 58, 105]⟩, rx1 (k := 58) (by decide +kernel), fun w hm => of_vec _ 27 _ _ _ (by omega) (by omega) (by omega) rfl g47.1.1 g47.1.2.1 g47.1.2.2 (fun w => top_vm0 _ _ _ _ (by omega) (by omega) (fun w => vm_14 w) w) w hm, g47.1, g47.2, n29, by decide⟩
theorem rowr_90 : ROW 64796 := Or.inr ⟨13, 4, ⟨#[118, 105, 58, 118]⟩, rx1 (k := 59) (by decide +kernel), fun w hm => of_vec _ 28 _ _ _ (by omega) (by omega) (by omega) rfl g48.1.1 g48.1.2.1 g48.1.2.2 (fun w => top_vm0 _ _ _ _ (by omega) (by omega) (fun w => vm_15 w) w) w hm, g48.1, g48.2, n30, by decide⟩
theorem rowr_91 : ROW 64797 := Or.inr ⟨13, 2, ⟨#[118, 58, 108]⟩, rx1 (k := 60) (by decide +kernel), fun w hm => of_vec _ 29 _ _ _ (by omega) (by omega) (by omega) rfl g49.1.1 g49.1.2.1 g49.1.2.2 (fun w => top_vm0 _ _ _ _ (by omega) (by omega) (fun w => vm_16 w) w) w hm, g49.1, g49.2, n31, by decide⟩
theorem rowr_92 : ROW 64798 := Or.inr ⟨13, 2, ⟨#[118, 108, 58, 118]⟩, rx1 (k := 61) (by decide +kernel), fun w hm => of_vec _ 30 _ _ _ (by omega) (by omega) (by omega) rfl g50.1.1 g50.1.2.1 g50.1.2.2 (fun w => top_vm0 _ _ _ _ (by omega) (by omega) (fun w => vm_17 w) w) w hm, g50.1, g50.2, n32, by decide⟩
theorem rowr_93 (op : Int) (h0 : 64799 ≤ op) (h1 : op ≤ 64802) : ROW op := Or.inl ⟨off_of (a := 64799) (b := 64802) (by decide +kernel) op (by omega) (by omega), fun w => of_vec0 _ (op - 64768) _ _ (by omega) (by omega) (by omega) (fun w => top_vm0 _ _ _ _ (by omega) (by omega) (fun w => vm_18 (op - 64768) (by omega) (by omega) w) w) w⟩
theorem rowr_94 (op : Int) (h0 : 64803 ≤ op) (h1 : op ≤ 64832) : ROW op := by
 have hrx : RX op 1 0 ⟨#[118, 118, 58, 118]⟩ := by
  exact rx_of (a := 64803) (b := 64832) (k := 62) (by decide +kernel) op (by omega) (by omega)
 have hl : decide (op < 197) = false := decide_eq_false (by omega)
 have ha : arI op = 0 := by unfold arI; rw [if_neg (by omega), if_neg (by omega)]
 exact Or.inr ⟨1, 0, ⟨#[118, 118, 58, 118]⟩, hrx, fun w hm => of_vec _ (op - 64768) _ _ _ (by omega) (by omega) (by omega) rfl g40.1.1 g40.1.2.1 g40.1.2.2 (fun w => top_vb0 _ _ _ _ (by omega) (by omega) (fun w => vb_0 (op - 64768) (by omega) (by omega) w) w) w hm, g40.1, g40.2, by rw [hl, ha]; exact n26, by unfold floatB; exact decide_eq_false (by unfold Flt; omega)⟩
theorem rowr_95 (op : Int) (h0 : 64833 ≤ op) (h1 : op ≤ 64844) : ROW op := Or.inl ⟨off_of (a := 64833) (b := 64844) (by decide +kernel) op (by omega) (by omega), fun w => of_vec0 _ (op - 64768) _ _ (by omega) (by omega) (by omega) (fun w => top_vb0 _ _ _ _ (by omega) (by omega) (fun w => vb_1 (op - 64768) (by omega) (by omega) w) w) w⟩
theorem rowr_96 : ROW 64845 := Or.inr ⟨1, 0, ⟨#[118, 58, 118]⟩, rx1 (k := 63) (by decide +kernel), fun w hm => of_vec _ 77 _ _ _ (by omega) (by omega) (by omega) rfl g51.1.1 g51.1.2.1 g51.1.2.2 (fun w => top_vb0 _ _ _ _ (by omega) (by omega) (fun w => vb_2 w) w) w hm, g51.1, g51.2, n33, by decide⟩
theorem rowr_97 (op : Int) (h0 : 64846 ≤ op) (h1 : op ≤ 64849) : ROW op := by
 have hrx : RX op 1 0 ⟨#[118, 118, 58, 118]⟩ := by
  exact rx_of (a := 64846) (b := 64849) (k := 64) (by decide +kernel) op (by omega) (by omega)
 have hl : decide (op < 197) = false := decide_eq_false (by omega)
 have ha : arI op = 0 := by unfold arI; rw [if_neg (by omega), if_neg (by omega)]
 exact Or.inr ⟨1, 0, ⟨#[118, 118, 58, 118]⟩, hrx, fun w hm => of_vec _ (op - 64768) _ _ _ (by omega) (by omega) (by omega) rfl g40.1.1 g40.1.2.1 g40.1.2.2 (fun w => top_vb0 _ _ _ _ (by omega) (by omega) (fun w => vb_3 (op - 64768) (by omega) (by omega) w) w) w hm, g40.1, g40.2, by rw [hl, ha]; exact n26, by unfold floatB; exact decide_eq_false (by unfold Flt; omega)⟩
theorem rowr_98 : ROW 64850 := Or.inr ⟨1, 0, ⟨#[118, 118, 118, 58, 118]⟩, rx1 (k := 65) (by decide +kernel), fun w hm => of_vec _ 82 _ _ _ (by omega) (by omega) (by omega) rfl g52.1.1 g52.1.2.1 g52.1.2.2 (fun w => top_vb0 _ _ _ _ (by omega) (by omega) (fun w => vb_4 w) w) w hm, g52.1, g52.2, n34, by decide⟩
theorem rowr_99 : ROW 64851 := Or.inr ⟨1, 0, ⟨#[118, 58, 105]⟩, rx1 (k := 66) (by decide +kernel), fun w hm => of_vec _ 83 _ _ _ (by omega) (by omega) (by omega) rfl g53.1.1 g53.1.2.1 g53.1.2.2 (fun w => top_vb0 _ _ _ _ (by omega) (by omega) (fun w => vb_5 w) w) w hm, g53.1, g53.2, n35, by decide⟩
theorem rowr_100 : ROW 64852 := Or.inr ⟨8, 0, ⟨#[105, 118, 58, 118]⟩, rx1 (k := 67) (by decide +kernel), fun w hm => of_vec _ 84 _ _ _ (by omega) (by omega) (by omega) rfl g54.1.1 g54.1.2.1 g54.1.2.2 (fun w => top_va1 _ _ _ _ (by omega) (by omega) (fun w => va_7 w) w) w hm, g54.1, g54.2, n36, by decide⟩
theorem rowr_101 : ROW 64853 := Or.inr ⟨8, 1, ⟨#[105, 118, 58, 118]⟩, rx1 (k := 68) (by decide +kernel), fun w hm => of_vec _ 85 _ _ _ (by omega) (by omega) (by omega) rfl g55.1.1 g55.1.2.1 g55.1.2.2 (fun w => top_va1 _ _ _ _ (by omega) (by omega) (fun w => va_8 w) w) w hm, g55.1, g55.2, n36, by decide⟩
theorem rowr_102 : ROW 64854 := Or.inr ⟨8, 2, ⟨#[105, 118, 58, 118]⟩, rx1 (k := 69) (by decide +kernel), fun w hm => of_vec _ 86 _ _ _ (by omega) (by omega) (by omega) rfl g56.1.1 g56.1.2.1 g56.1.2.2 (fun w => top_va1 _ _ _ _ (by omega) (by omega) (fun w => va_9 w) w) w hm, g56.1, g56.2, n36, by decide⟩
theorem rowr_103 : ROW 64855 := Or.inr ⟨8, 3, ⟨#[105, 118, 58, 118]⟩, rx1 (k := 70) (by decide +kernel), fun w hm => of_vec _ 87 _ _ _ (by omega) (by omega) (by omega) rfl g57.1.1 g57.1.2.1 g57.1.2.2 (fun w => top_va1 _ _ _ _ (by omega) (by omega) (fun w => va_10 w) w) w hm, g57.1, g57.2, n36, by decide⟩
theorem rowr_104 : ROW 64856 := Or.inr ⟨8, 0, ⟨#[105, 118, 58]⟩, rx1 (k := 71) (by decide +kernel), fun w hm => of_vec _ 88 _ _ _ (by omega) (by omega) (by omega) rfl g58.1.1 g58.1.2.1 g58.1.2.2 (fun w => top_va1 _ _ _ _ (by omega) (by omega) (fun w => va_11 w) w) w hm, g58.1, g58.2, n37, by decide⟩
theorem rowr_105 : ROW 64857 := Or.inr ⟨8, 1, ⟨#[105, 118, 58]⟩, rx1 (k := 72) (by decide +kernel), fun w hm => of_vec _ 89 _ _ _ (by omega) (by omega) (by omega) rfl g59.1.1 g59.1.2.1 g59.1.2.2 (fun w => top_va1 _ _ _ _ (by omega) (by omega) (fun w => va_12 w) w) w hm, g59.1, g59.2, n37, by decide⟩
theorem rowr_106 : ROW 64858 := Or.inr ⟨8, 2, ⟨#[105, 118, 58]⟩, rx1 (k := 73) (by decide +kernel), fun w hm => of_vec _ 90 _ _ _ (by omega) (by omega) (by omega) rfl g60.1.1 g60.1.2.1 g60.1.2.2 (fun w => top_va1 _ _ _ _ (by omega) (by omega) (fun w => va_13 w) w) w hm, g60.1, g60.2, n37, by decide⟩
theorem rowr_107 : ROW 64859 := Or.inr ⟨8, 3, ⟨#[105, 118, 58]⟩, rx1 (k := 74) (by decide +kernel), fun w hm => of_vec _ 91 _ _ _ (by omega) (by omega) (by omega) rfl g61.1.1 g61.1.2.1 g61.1.2.2 (fun w => top_va1 _ _ _ _ (by omega) (by omega) (fun w => va_14 w) w) w hm, g61.1, g61.2, n37, by decide⟩
theorem rowr_108 : ROW 64860 := Or.inr ⟨7, 2, ⟨#[105, 58, 118]⟩, rx1 (k := 75) (by decide +kernel), fun w hm => of_vec _ 92 _ _ _ (by omega) (by omega) (by omega) rfl g36.1.1 g36.1.2.1 g36.1.2.2 (fun w => top_va1 _ _ _ _ (by omega) (by omega) (fun w => va_15 w) w) w hm, g36.1, g36.2, n22, by decide⟩
theorem rowr_109 : ROW 64861 := Or.inr ⟨7, 3, ⟨#[105, 58, 118]⟩, rx1 (k := 76) (by decide +kernel), fun w hm => of_vec _ 93 _ _ _ (by omega) (by omega) (by omega) rfl g33.1.1 g33.1.2.1 g33.1.2.2 (fun w => top_va1 _ _ _ _ (by omega) (by omega) (fun w => va_16 w) w) w hm, g33.1, g33.2, n22, by decide⟩
theorem rowr_110 (op : Int) (h0 : 64862 ≤ op) (h1 : op ≤ 64863) : ROW op := Or.inl ⟨off_of (a := 64862) (b := 64863) (by decide +kernel) op (by omega) (by omega), fun w => of_vec0 _ (op - 64768) _ _ (by omega) (by omega) (by omega) (fun w => top_vn0 _ _ _ _ (by omega) (by omega) (fun w => vn_0 (op - 64768) (by omega) (by omega) w) w) w⟩
theorem rowr_111 (op : Int) (h0 : 64864 ≤ op) (h1 : op ≤ 64866) : ROW op := by
 have hrx : RX op 1 0 ⟨#[118, 58, 118]⟩ := by
  exact rx_of (a := 64864) (b := 64866) (k := 77) (by decide +kernel) op (by omega) (by omega)
 have hl : decide (op < 197) = false := decide_eq_false (by omega)
 have ha : arI op = 0 := by unfold arI; rw [if_neg (by omega), if_neg (by omega)]
 exact Or.inr ⟨1, 0, ⟨#[118, 58, 118]⟩, hrx, fun w hm => of_vec _ (op - 64768) _ _ _ (by omega) (by omega) (by omega) rfl g51.1.1 g51.1.2.1 g51.1.2.2 (fun w => top_vn0 _ _ _ _ (by omega) (by omega) (fun w => vn_1 (op - 64768) (by omega) (by omega) w) w) w hm, g51.1, g51.2, by rw [hl, ha]; exact n33, by unfold floatB; exact decide_eq_false (by unfold Flt; omega)⟩
theorem rowr_112 (op : Int) (h0 : 64867 ≤ op) (h1 : op ≤ 64868) : ROW op := by
 have hrx : RX op 1 0 ⟨#[118, 58, 105]⟩ := by
  exact rx_of (a := 64867) (b := 64868) (k := 78) (by decide +kernel) op (by omega) (by omega)
 have hl : decide (op < 197) = false := decide_eq_false (by omega)
 have ha : arI op = 0 := by unfold arI; rw [if_neg (by omega), if_neg (by omega)]
 exact Or.inr ⟨1, 0, ⟨#[118, 58, 105]⟩, hrx, fun w hm => of_vec _ (op - 64768) _ _ _ (by omega) (by omega) (by omega) rfl g53.1.1 g53.1.2.1 g53.1.2.2 (fun w => top_vn0 _ _ _ _ (by omega) (by omega) (fun w => vn_2 (op - 64768) (by omega) (by omega) w) w) w hm, g53.1, g53.2, by rw [hl, ha]; exact n35, by unfold floatB; exact decide_eq_false (by unfold Flt; omega)⟩
theorem rowr_113 (op : Int) (h0 : 64869 ≤ op) (h1 : op ≤ 64870) : ROW op := by
 have hrx : RX op 1 0 ⟨#[118, 118, 58, 118]⟩ := by
  exact rx_of (a := 64869) (b := 64870) (k := 79) (by decide +kernel) op (by omega) (by omega)
 have hl : decide (op < 197) = false := decide_eq_false (by omega)
 have ha : arI op = 0 := by unfold arI; rw [if_neg (by omega), if_neg (by omega)]
 exact Or.inr ⟨1, 0, ⟨#[118, 118, 58, 118]⟩, hrx, fun w hm => of_vec _ (op - 64768) _ _ _ (by omega) (by omega) (by omega) rfl g40.1.1 g40.1.2.1 g40.1.2.2 (fun w => top_vn0 _ _ _ _ (by omega) (by omega) (fun w => vn_3 (op - 64768) (by omega) (by omega) w) w) w hm, g40.1, g40.2, by rw [hl, ha]; exact n26, by unfold floatB; exact decide_eq_false (by unfold Flt; omega)⟩
theorem rowr_114 (op : Int) (h0 : 64871 ≤ op) (h1 : op ≤ 64874) : ROW op := Or.inl ⟨off_of (a := 64871) (b := 64874) (by decide +kernel) op (by omega) (by omega), fun w => of_vec0 _ (op - 64768) _ _ (by omega) (by omega) (by omega) (fun w => top_vn0 _ _ _ _ (by omega) (by omega) (fun w => vn_4 (op - 64768) (by omega) (by omega) w) w) w⟩
theorem rowr_115 (op : Int) (h0 : 64875 ≤ op) (h1 : op ≤ 64877) : ROW op := by
 have hrx : RX op 1 0 ⟨#[118, 105, 58, 118]⟩ := by
  exact rx_of (a := 64875) (b := 64877) (k := 80) (by decide +kernel) op (by omega) (by omega)
 have hl : decide (op < 197) = false := decide_eq_false (by omega)
 have ha : arI op = 0 := by unfold arI; rw [if_neg (by omega), if_neg (by omega)]
 exact Or.inr ⟨1, 0, ⟨#[118, 105, 58, 118]⟩, hrx, fun w hm => of_vec _ (op - 64768) _ _ _ (by omega) (by omega) (by omega) rfl g62.1.1 g62.1.2.1 g62.1.2.2 (fun w => top_vn0 _ _ _ _ (by omega) (by omega) (fun w => vn_5 (op - 64768) (by omega) (by omega) w) w) w hm, g62.1, g62.2, by rw [hl, ha]; exact n38, by unfold floatB; exact decide_eq_false (by unfold Flt; omega)⟩
theorem rowr_116 (op : Int) (h0 : 64878 ≤ op) (h1 : op ≤ 64883) : ROW op := by
 have hrx : RX op 1 0 ⟨#[118, 118, 58, 118]⟩ := by
  exact rx_of (a := 64878) (b := 64883) (k := 81) (by decide +kernel) op (by omega) (by omega)
 have hl : decide (op < 197) = false := decide_eq_false (by omega)
 have ha : arI op = 0 := by unfold arI; rw [if_neg (by omega), if_neg (by omega)]
 exact Or.inr ⟨1, 0, ⟨#[118, 118, 58, 118]⟩, hrx, fun w hm => of_vec _ (op - 64768) _ _ _ (by omega) (by omega) (by omega) rfl g40.1.1 g40.1.2.1 g40.1.2.2 (fun w => top_vn0 _ _ _ _ (by omega) (by omega) (fun w => vn_6 (op - 64768) (by omega) (by omega) w) w) w hm, g40.1, g40.2, by rw [hl, ha]; exact n26, by unfold floatB; exact decide_eq_false (by unfold Flt; omega)⟩
theorem rowr_117 (op : Int) (h0 : 64884 ≤ op) (h1 : op ≤ 64885) : ROW op := Or.inl ⟨off_of (a := 64884) (b := 64885) (by decide +kernel) op (by omega) (by omega), fun w => of_vec0 _ (op - 64768) _ _ (by omega) (by omega) (by omega) (fun w => top_vn0 _ _ _ _ (by omega) (by omega) (fun w => vn_7 (op - 64768) (by omega) (by omega) w) w) w⟩
theorem rowr_118 (op : Int) (h0 : 64886 ≤ op) (h1 : op ≤ 64889) : ROW op := by
 have hrx : RX op 1 0 ⟨#[118, 118, 58, 118]⟩ := by
  exact rx_of (a := 64886) (b := 64889) (k := 82) (by decide +kernel) op (by omega) (by omega)
 have hl : decide (op < 197) = false := decide_eq_false (by omega)
 have ha : arI op = 0 := by unfold arI; rw [if_neg (by omega), if_neg (by omega)]
 exact Or.inr ⟨1, 0, ⟨#[118, 118, 58, 118]⟩, hrx, fun w hm => of_vec _ (op - 64768) _ _ _ (by omega) (by omega) (by omega) rfl g40.1.1 g40.1.2.1 g40.1.2.2 (fun w => top_vn0 _ _ _ _ (by omega) (by omega) (fun w => vn_8 (op - 64768) (by omega) (by omega) w) w) w hm, g40.1, g40.2, by rw [hl, ha]; exact n26, by unfold floatB; exact decide_eq_false (by unfold Flt; omega)⟩
theorem rowr_119 : ROW 64890 := Or.inl ⟨off_of (a := 64890) (b := 64890) (by decide +kernel) 64890 (by omega) (by omega), fun w => of_vec0 _ 122 _ _ (by omega) (by omega) (by omega) (fun w => top_vn0 _ _ _ _ (by omega) (by omega) (fun w => vn_9 w) w) w⟩
theorem rowr_120 : ROW 64891 := Or.inr ⟨1, 0, ⟨#[118, 118, 58, 118]⟩, rx1 (k := 83) (by decide +kernel), fun w hm => of_vec _ 123 _ _ _ (by omega) (by omega) (by omega) rfl g40.1.1 g40.1.2.1 g40.1.2.2 (fun w => top_vn0 _ _ _ _ (by omega) (by omega) (fun w => vn_10 w) w) w hm, g40.1, g40.2, n26, by decide⟩
theorem rowr_121 (op : Int) (h0 : 64892 ≤ op) (h1 : op ≤ 64897) : ROW op := by
 have hrx : RX op 1 0 ⟨#[118, 58, 118]⟩ := by
  exact rx_of (a := 64892) (b := 64897) (k := 84) (by decide +kernel) op (by omega) (by omega)
 have hl : decide (op < 197) = false := decide_eq_false (by omega)
 have ha : arI op = 0 := by unfold arI; rw [if_neg (by omega), if_neg (by omega)]
 exact Or.inr ⟨1, 0, ⟨#[118, 58, 118]⟩, hrx, fun w hm => of_vec _ (op - 64768) _ _ _ (by omega) (by omega) (by omega) rfl g51.1.1 g51.1.2.1 g51.1.2.2 (fun w => top_vn0 _ _ _ _ (by omega) (by omega) (fun w => vn_11 (op - 64768) (by omega) (by omega) w) w) w hm, g51.1, g51.2, by rw [hl, ha]; exact n33, by unfold floatB; exact decide_eq_false (by unfold Flt; omega)⟩
theorem rowr_122 : ROW 64898 := Or.inr ⟨1, 0, ⟨#[118, 118, 58, 118]⟩, rx1 (k := 85) (by decide +kernel), fun w hm => of_vec _ 130 _ _ _ (by omega) (by omega) (by omega) rfl g40.1.1 g40.1.2.1 g40.1.2.2 (fun w => top_vn0 _ _ _ _ (by omega) (by omega) (fun w => vn_12 w) w) w hm, g40.1, g40.2, n26, by decide⟩
theorem rowr_123 (op : Int) (h0 : 64899 ≤ op) (h1 : op ≤ 64900) : ROW op := by
 have hrx : RX op 1 0 ⟨#[118, 58, 105]⟩ := by
  exact rx_of (a := 64899) (b := 64900) (k := 86) (by decide +kernel) op (by omega) (by omega)
 have hl : decide (op < 197) = false := decide_eq_false (by omega)
 have ha : arI op = 0 := by unfold arI; rw [if_neg (by omega), if_neg (by omega)]
 exact Or.inr ⟨1, 0, ⟨#[118, 58, 105]⟩, hrx, fun w hm => of_vec _ (op - 64768) _ _ _ (by omega) (by omega) (by omega) rfl g53.1.1 g53.1.2.1 g53.1.2.2 (fun w => top_vn0 _ _ _ _ (by omega) (by omega) (fun w => vn_13 (op - 64768) (by omega) (by omega) w) w) w hm, g53.1, g53.2, by rw [hl, ha]; exact n35, by unfold floatB; exact decide_eq_false (by unfold Flt; omega)⟩
theorem rowr_124 (op : Int) (h0 : 64901 ≤ op) (h1 : op ≤ 64902) : ROW op := by
 have hrx : RX op 1 0 ⟨#[118, 118, 58, 118]⟩ := by
  exact rx_of (a := 64901) (b := 64902) (k := 87) (by decide +kernel) op (by omega) (by omega)
 have hl : decide (op < 197) = false := decide_eq_false (by omega)
 have ha : arI op = 0 := by unfold arI; rw [if_neg (by omega), if_neg (by omega)]
 exact Or.inr ⟨1, 0, ⟨#[118, 118, 58, 118]⟩, hrx, fun w hm => of_vec _ (op - 64768) _ _ _ (by omega) (by omega) (by omega) rfl g40.1.1 g40.1.2.1 g40.1.2.2 (fun w => top_vn0 _ _ _ _ (by omega) (by omega) (fun w => vn_14 (op - 64768) (by omega) (by omega) w) w) w hm, g40.1, g40.2, by rw [hl, ha]; exact n26, by unfold floatB; exact decide_eq_false (by unfold Flt; omega)⟩
theorem rowr_125 (op : Int) (h0 : 64903 ≤ op) (h1 : op ≤ 64906) : ROW op := by
 have hrx : RX op 1 0 ⟨#[118, 58, 118]⟩ := by
  exact rx_of (a := 64903) (b := 64906) (k := 88) (by decide +kernel) op (by omega) (by omega)
 have hl : decide (op < 197) = false := decide_eq_false (by omega)
 have ha : arI op = 0 := by unfold arI; rw [if_neg (by omega), if_neg (by omega)]
 exact Or.inr ⟨1, 0, ⟨#[118, 58, 118]⟩, hrx, fun w hm => of_vec _ (op - 64768) _ _ _ (by omega) (by omega) (by omega) rfl g51.1.1 g51.1.2.1 g51.1.2.2 (fun w => top_vn0 _ _ _ _ (by omega) (by omega) (fun w => vn_15 (op - 64768) (by omega) (by omega) w) w) w hm, g51.1, g51.2, by rw [hl, ha]; exact n33, by unfold floatB; exact decide_eq_false (by unfold Flt; omega)⟩
theorem rowr_126 (op : Int) (h0 : 64907 ≤ op) (h1 : op ≤ 64909) : ROW op := by
 have hrx : RX op 1 0 ⟨#[118, 105, 58, 118]⟩ := by
  exact rx_of (a := 64907) (b := 64909) (k := 89) (by decide +kernel) op (by omega) (by omega)
 have hl : decide (op < 197) = false := decide_eq_false (by omega)
 have ha : arI op = 0 := by unfold arI; rw [if_neg (by omega), if_neg (by omega)]
 exact Or.inr ⟨1, 0, ⟨#[118, 105, 58, 118]⟩, hrx, fun w hm => of_vec _ (op - 64768) _ _ _ (by omega) (by omega) (by omega) rfl g62.1.1 g62.1.2.1 g62.1.2.2 (fun w => top_vn0 _ _ _ _ (by omega) (by omega) (fun w => vn_16 (op - 64768) (by omega) (by omega) w) w) w hm, g62.1, g62.2, by rw [hl, ha]; exact n38, by unfold floatB; exact decide_eq_false (by unfold Flt; omega)⟩
theorem rowr_127 (op : Int) (h0 : 64910 ≤ op) (h1 : op ≤ 64915) : ROW op := by
 have hrx : RX op 1 0 ⟨#[118, 118, 58, 118]⟩ := by
  exact rx_of (a := 64910) (b := 64915) (k := 90) (by decide +kernel) op (by omega) (by omega)
 have hl : decide (op < 197) = false := decide_eq_false (by omega)
 have ha : arI op = 0 := by unfold arI; rw [if_neg (by omega), if_neg (by omega)]
 exact Or.inr ⟨1, 0, ⟨#[118, 118, 58, 118]⟩, hrx, fun w hm => of_vec _ (op - 64768) _ _ _ (by omega) (by omega) (by omega) rfl g40.1.1 g40.1.2.1 g40.1.2.2 (fun w => top_vn0 _ _ _ _ (by omega) (by omega) (fun w => vn_17 (op - 64768) (by omega) (by omega) w) w) w hm, g40.1, g40.2, by rw [hl, ha]; exact n26, by unfold floatB; exact decide_eq_false (by unfold Flt; omega)⟩
theorem rowr_128 : ROW 64916 := Or.inl ⟨off_of (a := 64916) (b := 64916) (by decide +kernel) 64916 (by omega) (by omega), fun w => of_vec0 _ 148 _ _ (by omega) (by omega) (by omega) (fun w => top_vn0 _ _ _ _ (by omega) (by omega) (fun w => vn_18 w) w) w⟩
theorem rowr_129 (op : Int) (h0 : 64917 ≤ op) (h1 : op ≤ 64921) : ROW op := by
 have hrx : RX op 1 0 ⟨#[118, 118, 58, 118]⟩ := by
  exact rx_of (a := 64917) (b := 64921) (k := 91) (by decide +kernel) op (by omega) (by omega)
 have hl : decide (op < 197) = false := decide_eq_false (by omega)
 have ha : arI op = 0 := by unfold arI; rw [if_neg (by omega), if_neg (by omega)]
 exact Or.inr ⟨1, 0, ⟨#[118, 118, 58, 118]⟩, hrx, fun w hm => of_vec _ (op - 64768) _ _ _ (by omega) (by omega) (by omega) rfl g40.1.1 g40.1.2.1 g40.1.2.2 (fun w => top_vn0 _ _ _ _ (by omega) (by omega) (fun w => vn_19 (op - 64768) (by omega) (by omega) w) w) w hm, g40.1, g40.2, by rw [hl, ha]; exact n26, by unfold floatB; exact decide_eq_false (by unfold Flt; omega)⟩
theorem rowr_130 : ROW 64922 := Or.inl ⟨off_of (a := 64922) (b := 64922) (by decide +kernel) 64922 (by omega) (by omega), fun w => of_vec0 _ 154 _ _ (by omega) (by omega) (by omega) (fun w => top_vn0 _ _ _ _ (by omega) (by omega) (fun w => vn_20 w) w) w⟩
theorem rowr_131 (op : Int) (h0 : 64923 ≤ op) (h1 : op ≤ 64927) : ROW op := by
 have hrx : RX op 1 0 ⟨#[118, 118, 58, 118]⟩ := by
  exact rx_of (a := 64923) (b := 64927) (k := 92) (by decide +kernel) op (by omega) (by omega)
 have hl : decide (op < 197) = false := decide_eq_false (by omega)
 have ha : arI op = 0 := by unfold arI; rw [if_neg (by omega), if_neg (by omega)]
 exact Or.inr ⟨1, 0, ⟨#[118, 118, 58, 118]⟩, hrx, fun w hm => of_vec _ (op - 64768) _ _ _ (by omega) (by omega) (by omega) rfl g40.1.1 g40.1.2.1 g40.1.2.2 (fun w => top_vn0 _ _ _ _ (by omega) (by omega) (fun w => vn_21 (op - 64768) (by omega) (by omega) w) w) w hm, g40.1, g40.2, by rw [hl, ha]; exact n26, by unfold floatB; exact decide_eq_false (by unfold Flt; omega)⟩
theorem rowr_132 (op : Int) (h0 : 64928 ≤ op) (h1 : op ≤ 64929) : ROW op := by
 have hrx : RX op 1 0 ⟨#[118, 58, 118]⟩ := by
  exact rx_of (a := 64928) (b := 64929) (k := 93) (by decide +kernel) op (by omega) (by omega)
 have hl : decide (op < 197) = false := decide_eq_false (by omega)
 have ha : arI op = 0 := by unfold arI; rw [if_neg (by omega), if_neg (by omega)]
 exact Or.inr ⟨1, 0, ⟨#[118, 58, 118]⟩, hrx, fun w hm => of_vec _ (op - 64768) _ _ _ (by omega) (by omega) (by omega) rfl g51.1.1 g51.1.2.1 g51.1.2.2 (fun w => top_vw0 _ _ _ _ (by omega) (fun w => vw_0 (op - 64768) (by omega) (by omega) w) w) w hm, g51.1, g51.2, by rw [hl, ha]; exact n33, by unfold floatB; exact decide_eq_false (by unfold Flt; omega)⟩
theorem rowr_133 : ROW 64930 := Or.inl ⟨off_of (a := 64930) (b := 64930) (by decide +kernel) 64930 (by omega) (by omega), fun w => of_vec0 _ 162 _ _ (by omega) (by omega) (by omega) (fun w => top_vw0 _ _ _ _ (by omega) (fun w => vw_1 w) w) w⟩
theorem rowr_134 (op : Int) (h0 : 64931 ≤ op) (h1 : op ≤ 64932) : ROW op := by
 have hrx : RX op 1 0 ⟨#[118, 58, 105]⟩ := by
  exact rx_of (a := 64931) (b := 64932) (k := 94) (by decide +kernel) op (by omega) (by omega)
 have hl : decide (op < 197) = false := decide_eq_false (by omega)
 have ha : arI op = 0 := by unfold arI; rw [if_neg (by omega), if_neg (by omega)]
 exact Or.inr ⟨1, 0, ⟨#[118, 58, 105]⟩, hrx, fun w hm => of_vec _ (op - 64768) _ _ _ (by omega) (by omega) (by omega) rfl g53.1.1 g53.1.2.1 g53.1.2.2 (fun w => top_vw0 _ _ _ _ (by omega) (fun w => vw_2 (op - 64768) (by omega) (by omega) w) w) w hm, g53.1, g53.2, by rw [hl, ha]; exact n35, by unfold floatB; exact decide_eq_false (by unfold Flt; omega)⟩
theorem rowr_135 (op : Int) (h0 : 64933 ≤ op) (h1 : op ≤ 64934) : ROW op := Or.inl ⟨off_of (a := 64933) (b := 64934) (by decide +kernel) op (by omega) (by omega), fun w => of_vec0 _ (op - 64768) _ _ (by omega) (by omega) (by omega) (fun w => top_vw0 _ _ _ _ (by omega) (fun w => vw_3 (op - 64768) (by omega) (by omega) w) w) w⟩
theorem rowr_136 (op : Int) (h0 : 64935 ≤ op) (h1 : op ≤ 64938) : ROW op := by
 have hrx : RX op 1 0 ⟨#[118, 58, 118]⟩ := by
  exact rx_of (a := 64935) (b := 64938) (k := 95) (by decide +kernel) op (by omega) (by omega)
 have hl : decide (op < 197) = false := decide_eq_false (by omega)
 have ha : arI op = 0 := by unfold arI; rw [if_neg (by omega), if_neg (by omega)]
 exact Or.inr ⟨1, 0, ⟨#[118, 58, 118]⟩, hrx, fun w hm => of_vec _ (op - 64768) _ _ _ (by omega) (by omega) (by omega) rfl g51.1.1 g51.1.2.1 g51.1.2.2 (fun w => top_vw0 _ _ _ _ (by omega) (fun w => vw_4 (op - 64768) (by omega) (by omega) w) w) w hm, g51.1, g51.2, by rw [hl, ha]; exact n33, by unfold floatB; exact decide_eq_false (by unfold Flt; omega)⟩
theorem rowr_137 (op : Int) (h0 : 64939 ≤ op) (h1 : op ≤ 64941) : ROW op := by
 have hrx : RX op 1 0 ⟨#[118, 105, 58, 118]⟩ := by
  exact rx_of (a := 64939) (b := 64941) (k := 96) (by decide +kernel) op (by omega) (by omega)
 have hl : decide (op < 197) = false := decide_eq_false (by omega)
 have ha : arI op = 0 := by unfold arI; rw [if_neg (by omega), if_neg (by omega)]
 exact Or.inr ⟨1, 0, ⟨#[118, 105, 58, 118]⟩, hrx, fun w hm => of_vec _ (op - 64768) _ _ _ (by omega) (by omega) (by omega) rfl g62.1.1 g62.1.2.1 g62.1.2.2 (fun w => top_vw0 _ _ _ _ (by omega) (fun w => vw_5 (op - 64768) (by omega) (by omega) w) w) w hm, g62.1, g62.2, by rw [hl, ha]; exact n38, by unfold floatB; exact decide_eq_false (by unfold Flt; omega)⟩
theorem rowr_138 : ROW 64942 := Or.inr ⟨1, 0, ⟨#[118, 118, 58, 118]⟩, rx1 (k := 97) (by decide +kernel), fun w hm => of_vec _ 174 _ _ _ (by omega) (by omega) (by omega) rfl g40.1.1 g40.1.2.1 g40.1.2.2 (fun w => top_vw0 _ _ _ _ (by omega) (fun w => vw_6 w) w) w hm, g40.1, g40.2, n26, by decide⟩
theorem rowr_139 (op : Int) (h0 : 64943 ≤ op) (h1 : op ≤ 64944) : ROW op := Or.inl ⟨off_of (a := 64943) (b := 64944) (by decide +kernel) op (by omega) (by omega), fun w => of_vec0 _ (op - 64768) _ _ (by omega) (by omega) (by omega) (fun w => top_vw0 _ _ _ _ (by omega) (fun w => vw_7 (op - 64768) (by omega) (by omega) w) w) w⟩
theorem rowr_140 : ROW 64945 := Or.inr ⟨1, 0, ⟨#[118, 118, 58, 118]⟩, rx1 (k := 98) (by decide +kernel), fun w hm => of_vec _ 177 _ _ _ (by omega) (by omega) (by omega) rfl g40.1.1 g40.1.2.1 g40.1.2.2 (fun w => top_vw0 _ _ _ _ (by omega) (fun w => vw_8 w) w) w hm, g40.1, g40.2, n26, by decide⟩
theorem rowr_141 (op : Int) (h0 : 64946 ≤ op) (h1 : op ≤ 64948) : ROW op := Or.inl ⟨off_of (a := 64946) (b := 64948) (by decide +kernel) op (by omega) (by omega), fun w => of_vec0 _ (op - 64768) _ _ (by omega) (by omega) (by omega) (fun w => top_vw0 _ _ _ _ (by omega) (fun w => vw_9 (op - 64768) (by omega) (by omega) w) w) w⟩
theorem rowr_142 (op : Int) (h0 : 64949 ≤ op) (h1 : op ≤ 64954) : ROW op := by
 have hrx : RX op 1 0 ⟨#[118, 118, 58, 118]⟩ := by
  exact rx_of (a := 64949) (b := 64954) (k := 99) (by decide +kernel) op (by omega) (by omega)
 have hl : decide (op < 197) = false := decide_eq_false (by omega)
 have ha : arI op = 0 := by unfold arI; rw [if_neg (by omega), if_neg (by omega)]
 exact Or.inr ⟨1, 0, ⟨#[118, 118, 58, 118]⟩, hrx, fun w hm => of_vec _ (op - 64768) _ _ _ (by omega) (by omega) (by omega) rfl g40.1.1 g40.1.2.1 g40.1.2.2 (fun w => top_vw0 _ _ _ _ (by omega) (fun w => vw_10 (op - 64768) (by omega) (by omega) w) w) w hm, g40.1, g40.2, by rw [hl, ha]; exact n26, by unfold floatB; exact decide_eq_false (by unfold Flt; omega)⟩
theorem rowr_143 : ROW 64955 := Or.inl ⟨off_of (a := 64955) (b := 64955) (by decide +kernel) 64955 (by omega) (by omega), fun w => of_vec0 _ 187 _ _ (by omega) (by omega) (by omega) (fun w => top_vw0 _ _ _ _ (by omega) (fun w => vw_11 w) w) w⟩
theorem rowr_144 (op : Int) (h0 : 64956 ≤ op) (h1 : op ≤ 64959) : ROW op := by
 have hrx : RX op 1 0 ⟨#[118, 118, 58, 118]⟩ := by
  exact rx_of (a := 64956) (b := 64959) (k := 100) (by decide +kernel) op (by omega) (by omega)
 have hl : decide (op < 197) = false := decide_eq_false (by omega)
 have ha : arI op = 0 := by unfold arI; rw [if_neg (by omega), if_neg (by omega)]
 exact Or.inr ⟨1, 0, ⟨#[118, 118, 58, 118]⟩, hrx, fun w hm => of_vec _ (op - 64768) _ _ _ (by omega) (by omega) (by omega) rfl g40.1.1 g40.1.2.1 g40.1.2.2 (fun w => top_vw0 _ _ _ _ (by omega) (fun w => vw_12 (op - 64768) (by omega) (by omega) w) w) w hm, g40.1, g40.2, by rw [hl, ha]; exact n26, by unfold floatB; exact decide_eq_false (by unfold Flt; omega)⟩
theorem rowr_145 (op : Int) (h0 : 64960 ≤ op) (h1 : op ≤ 64961) : ROW op := by
 have hrx : RX op 1 0 ⟨#[118, 58, 118]⟩ := by
  exact rx_of (a := 64960) (b := 64961) (k := 101) (by decide +kernel) op (by omega) (by omega)
 have hl : decide (op < 197) = false := decide_eq_false (by omega)
 have ha : arI op = 0 := by unfold arI; rw [if_neg (by omega), if_neg (by omega)]
 exact Or.inr ⟨1, 0, ⟨#[118, 58, 118]⟩, hrx, fun w hm => of_vec _ (op - 64768) _ _ _ (by omega) (by omega) (by omega) rfl g51.1.1 g51.1.2.1 g51.1.2.2 (fun w => top_vw0 _ _ _ _ (by omega) (fun w => vw_13 (op - 64768) (by omega) (by omega) w) w) w hm, g51.1, g51.2, by rw [hl, ha]; exact n33, by unfold floatB; exact decide_eq_false (by unfold Flt; omega)⟩
theorem rowr_146 : ROW 64962 := Or.inl ⟨off_of (a := 64962) (b := 64962) (by decide +kernel) 64962 (by omega) (by omega), fun w => of_vec0 _ 194 _ _ (by omega) (by omega) (by omega) (fun w => top_vw0 _ _ _ _ (by omega) (fun w => vw_14 w) w) w⟩
theorem rowr_147 (op : Int) (h0 : 64963 ≤ op) (h1 : op ≤ 64964) : ROW op := by
 have hrx : RX op 1 0 ⟨#[118, 58, 105]⟩ := by
  exact rx_of (a := 64963) (b := 64964) (k := 102) (by decide +kernel) op (by omega) (by omega)
 have hl : decide (op < 197) = false := decide_eq_false (by omega)
 have ha : arI op = 0 := by unfold arI; rw [if_neg (by omega), if_neg (by omega)]
 exact Or.inr ⟨1, 0, ⟨#[118, 58, 105]⟩, hrx, fun w hm => of_vec _ (op - 64768) _ _ _ (by omega) (by omega) (by omega) rfl g53.1.1 g53.1.2.1 g53.1.2.2 (fun w => top_vw0 _ _ _ _ (by omega) (fun w => vw_15 (op - 64768) (by omega) (by omega) w) w) w hm, g53.1, g53.2, by rw [hl, ha]; exact n35, by unfold floatB; exact decide_eq_false (by unfold Flt; omega)⟩
theorem rowr_148 (op : Int) (h0 : 64965 ≤ op) (h1 : op ≤ 64966) : ROW op := Or.inl ⟨off_of (a := 64965) (b := 64966) (by decide +kernel) op (by omega) (by omega), fun w => of_vec0 _ (op - 64768) _ _ (by omega) (by omega) (by omega) (fun w => top_vw0 _ _ _ _ (by omega) (fun w => vw_16 (op - 64768) (by omega) (by omega) w) w) w⟩
theorem rowr_149 (op : Int) (h0 : 64967 ≤ op) (h1 : op ≤ 64970) : ROW op := by
 have hrx : RX op 1 0 ⟨#[118, 58, 118]⟩ := by
  exact rx_of (a := 64967) (b := 64970) (k := 103) (by decide +kernel) op (by omega) (by omega)
 have hl : decide (op < 197) = false := decide_eq_false (by omega)
 have ha : arI op = 0 := by unfold arI; rw [if_neg (by omega), if_neg (by omega)]
 exact Or.inr ⟨1, 0, ⟨#[118, 58, 118]⟩, hrx, fun w hm => of_vec _ (op - 64768) _ _ _ (by omega) (by omega) (by omega) rfl g51.1.1 g51.1.2.1 g51.1.2.2 (fun w => top_vw0 _ _ _ _ (by omega) (fun w => vw_17 (op - 64768) (by omega) (by omega) w) w) w hm, g51.1, g51.2, by rw [hl, ha]; exact n33, by unfold floatB; exact decide_eq_false (by unfold Flt; omega)⟩
theorem rowr_150 (op : Int) (h0 : 64971 ≤ op) (h1 : op ≤ 64973) : ROW op := by
 have hrx : RX op 1 0 ⟨#[118, 105, 58, 118]⟩ := by
  exact rx_of (a := 64971) (b := 64973) (k := 104) (by decide +kernel) op (by omega) (by omega)
 have hl : decide (op < 197) = false := decide_eq_false (by omega)
 have ha : arI op = 0 := by unfold arI; rw [if_neg (by omega), if_neg (by omega)]
 exact Or.inr ⟨1, 0, ⟨#[118, 105, 58, 118]⟩, hrx, fun w hm => of_vec _ (op - 64768) _ _ _ (by omega) (by omega) (by omega) rfl g62.1.1 g62.1.2.1 g62.1.2.2 (fun w => top_vw0 _ _ _ _ (by omega) (fun w => vw_18 (op - 64768) (by omega) (by omega) w) w) w hm, g62.1, g62.2, by rw [hl, ha]; exact n38, by unfold floatB; exact decide_eq_false (by unfold Flt; omega)⟩
theorem rowr_151 : ROW 64974 := Or.inr ⟨1, 0, ⟨#[118, 118, 58, 118]⟩, rx1 (k := 105) (by decide +kernel), fun w hm => of_vec _ 206 _ _ _ (by omega) (by omega) (by omega) rfl g40.1.1 g40.1.2.1 g40.1.2.2 (fun w => top_vw0 _ _ _ _ (by omega) (fun w => vw_19 w) w) w hm, g40.1, g40.2, n26, by decide⟩
theorem rowr_152 (op : Int) (h0 : 64975 ≤ op) (h1 : op ≤ 64976) : ROW op := Or.inl ⟨off_of (a := 64975) (b := 64976) (by decide +kernel) op (by omega) (by omega), fun w => of_vec0 _ (op - 64768) _ _ (by omega) (by omega) (by omega) (fun w => top_vw0 _ _ _ _ (by omega) (fun w => vw_20 (op - 64768) (by omega) (by omega) w) w) w⟩
theorem rowr_153 : ROW 64977 := Or.inr ⟨1, 0, ⟨#[118, 118, 58, 118]⟩, rx1 (k := 106) (by decide +kernel), fun w hm => of_vec _ 209 _ _ _ (by omega) (by omega) (by omega) rfl g40.1.1 g40.1.2.1 g40.1.2.2 (fun w => top_vw0 _ _ _ _ (by omega) (fun w => vw_21 w) w) w hm, g40.1, g40.2, n26, by decide⟩
theorem rowr_154 (op : Int) (h0 : 64978 ≤ op) (h1 : op ≤ 64980) : ROW op := Or.inl ⟨off_of (a := 64978) (b := 64980) (by decide +kernel) op (by omega) (by omega), fun w => of_vec0 _ (op - 64768) _ _ (by omega) (by omega) (by omega) (fun w => top_vw0 _ _ _ _ (by omega) (fun w => vw_22 (op - 64768) (by omega) (by omega) w) w) w⟩
theorem rowr_155 (op : Int) (h0 : 64981 ≤ op) (h1 : op ≤ 64991) : ROW op := by
 have hrx : RX op 1 0 ⟨#[118, 118, 58, 118]⟩ := by
  exact rx_of (a := 64981) (b := 64991) (k := 107) (by decide +kernel) op (by omega) (by omega)
 have hl : decide (op < 197) = false := decide_eq_false (by omega)
 have ha : arI op = 0 := by unfold arI; rw [if_neg (by omega), if_neg (by omega)]
 exact Or.inr ⟨1, 0, ⟨#[118, 118, 58, 118]⟩, hrx, fun w hm => of_vec _ (op - 64768) _ _ _ (by omega) (by omega) (by omega) rfl g40.1.1 g40.1.2.1 g40.1.2.2 (fun w => top_vw0 _ _ _ _ (by omega) (fun w => vw_23 (op - 64768) (by omega) (by omega) w) w) w hm, g40.1, g40.2, by rw [hl, ha]; exact n26, by unfold floatB; exact decide_eq_false (by unfold Flt; omega)⟩
theorem rowr_156 (op : Int) (h0 : 64992 ≤ op) (h1 : op ≤ 9223372036854775807) : ROW op := Or.inl ⟨rn_big (a := 64992) (by decide +kernel) op h0, fun w => of_vec0 _ (op - 64768) _ _ (by omega) (by omega) (by omega) (fun w => top_vw0 _ _ _ _ (by omega) (fun w => vw_24 (op - 64768) (by omega) w) w) w⟩
set_option maxHeartbeats 2000000 in
theorem ofr_any (op : Int) (hop : op ≤ 9223372036854775807) : (RN op ∧ OFN op) ∨ ∃ f l s, RX op f l s ∧ OFY op f l s ∧ Good op f l s := by
 by_cases h0_157 : op < 64783
 ·by_cases h0_78 : op < 55
  ·by_cases h0_39 : op < 32
   ·by_cases h0_19 : op < 12
    ·by_cases h0_9 : op < 3
     ·by_cases h0_4 : op < 1
      ·by_cases h0_2 : op < 0
       ·exact rowr_0 op (by omega)
       ·obtain rfl : op = 0 := by omega
        exact rowr_1
      ·by_cases h2_4 : op < 2
       ·obtain rfl : op = 1 := by omega
        exact rowr_2
       ·obtain rfl : op = 2 := by omega
        exact rowr_3
     ·by_cases h4_9 : op < 5
      ·by_cases h4_6 : op < 4
       ·obtain rfl : op = 3 := by omega
        exact rowr_4
       ·obtain rfl : op = 4 := by omega
        exact rowr_5
      ·by_cases h6_9 : op < 6
       ·obtain rfl : op = 5 := by omega
        exact rowr_6
       ·by_cases h7_9 : op < 11
        ·exact rowr_7 op (by omega) (by omega)
        ·obtain rfl : op = 11 := by omega
         exact rowr_8
    ·by_cases h9_19 : op < 17
     ·by_cases h9_14 : op < 14
      ·by_cases h9_11 : op < 13
       ·obtain rfl : op = 12 := by omega
        exact rowr_9
       ·obtain rfl : op = 13 := by omega
        exact rowr_10
      ·by_cases h11_14 : op < 15
       ·obtain rfl : op = 14 := by omega
        exact rowr_11
       ·by_cases h12_14 : op < 16
        ·obtain rfl : op = 15 := by omega
         exact rowr_12
        ·obtain rfl : op = 16 := by omega
         exact rowr_13
     ·by_cases h14_19 : op < 26
      ·by_cases h14_16 : op < 18
       ·obtain rfl : op = 17 := by omega
        exact rowr_14
       ·exact rowr_15 op (by omega) (by omega)
      ·by_cases h16_19 : op < 27
       ·obtain rfl : op = 26 := by omega
        exact rowr_16
       ·by_cases h17_19 : op < 28
        ·obtain rfl : op = 27 := by omega
         exact rowr_17
        ·exact rowr_18 op (by omega) (by omega)
   ·by_cases h19_39 : op < 45
    ·by_cases h19_29 : op < 37
     ·by_cases h19_24 : op < 34
      ·by_cases h19_21 : op < 33
       ·obtain rfl : op = 32 := by omega
        exact rowr_19
       ·obtain rfl : op = 33 := by omega
        exact rowr_20
      ·by_cases h21_24 : op < 35
       ·obtain rfl : op = 34 := by omega
        exact rowr_21
       ·by_cases h22_24 : op < 36
        ·obtain rfl : op = 35 := by omega
         exact rowr_22
        ·obtain rfl : op = 36 := by omega
         exact rowr_23
     ·by_cases h24_29 : op < 41
      ·by_cases h24_26 : op < 40
       ·exact rowr_24 op (by omega) (by omega)
       ·obtain rfl : op = 40 := by omega
        exact rowr_25
      ·by_cases h26_29 : op < 42
       ·obtain rfl : op = 41 := by omega
        exact rowr_26
       ·by_cases h27_29 : op < 44
        ·exact rowr_27 op (by omega) (by omega)
        ·obtain rfl : op = 44 := by omega
         exact rowr_28
    ·by_cases h29_39 : op < 50
     ·by_cases h29_34 : op < 47
      ·by_cases h29_31 : op < 46
       ·obtain rfl : op = 45 := by omega
        exact rowr_29
       ·obtain rfl : op = 46 := by omega
        exact rowr_30
      ·by_cases h31_34 : op < 48
       ·obtain rfl : op = 47 := by omega
        exact rowr_31
       ·by_cases h32_34 : op < 49
        ·obtain rfl : op = 48 := by omega
         exact rowr_32
        ·obtain rfl : op = 49 := by omega
         exact rowr_33
     ·by_cases h34_39 : op < 52
      ·by_cases h34_36 : op < 51
       ·obtain rfl : op = 50 := by omega
        exact rowr_34
       ·obtain rfl : op = 51 := by omega
        exact rowr_35
      ·by_cases h36_39 : op < 53
       ·obtain rfl : op = 52 := by omega
        exact rowr_36
       ·by_cases h37_39 : op < 54
        ·obtain rfl : op = 53 := by omega
         exact rowr_37
        ·obtain rfl : op = 54 := by omega
         exact rowr_38
  ·by_cases h39_78 : op < 121
   ·by_cases h39_58 : op < 65
    ·by_cases h39_48 : op < 60
     ·by_cases h39_43 : op < 58
      ·by_cases h39_41 : op < 56
       ·obtain rfl : op = 55 := by omega
        exact rowr_39
       ·exact rowr_40 op (by omega) (by omega)
      ·by_cases h41_43 : op < 59
       ·obtain rfl : op = 58 := by omega
        exact rowr_41
       ·obtain rfl : op = 59 := by omega
        exact rowr_42
     ·by_cases h43_48 : op < 62
      ·by_cases h43_45 : op < 61
       ·obtain rfl : op = 60 := by omega
        exact rowr_43
       ·obtain rfl : op = 61 := by omega
        exact rowr_44
      ·by_cases h45_48 : op < 63
       ·obtain rfl : op = 62 := by omega
        exact rowr_45
       ·by_cases h46_48 : op < 64
        ·obtain rfl : op = 63 := by omega
         exact rowr_46
        ·obtain rfl : op = 64 := by omega
         exact rowr_47
    ·by_cases h48_58 : op < 80
     ·by_cases h48_53 : op < 67
      ·by_cases h48_50 : op < 66
       ·obtain rfl : op = 65 := by omega
        exact rowr_48
       ·obtain rfl : op = 66 := by omega
        exact rowr_49
      ·by_cases h50_53 : op < 69
       ·exact rowr_50 op (by omega) (by omega)
       ·by_cases h51_53 : op < 70
        ·obtain rfl : op = 69 := by omega
         exact rowr_51
        ·exact rowr_52 op (by omega) (by omega)
     ·by_cases h53_58 : op < 91
      ·by_cases h53_55 : op < 81
       ·obtain rfl : op = 80 := by omega
        exact rowr_53
       ·exact rowr_54 op (by omega) (by omega)
      ·by_cases h55_58 : op < 103
       ·exact rowr_55 op (by omega) (by omega)
       ·by_cases h56_58 : op < 106
        ·exact rowr_56 op (by omega) (by omega)
        ·exact rowr_57 op (by omega) (by omega)
   ·by_cases h58_78 : op < 64768
    ·by_cases h58_68 : op < 172
     ·by_cases h58_63 : op < 139
      ·by_cases h58_60 : op < 124
       ·exact rowr_58 op (by omega) (by omega)
       ·exact rowr_59 op (by omega) (by omega)
      ·by_cases h60_63 : op < 167
       ·exact rowr_60 op (by omega) (by omega)
       ·by_cases h61_63 : op < 168
        ·obtain rfl : op = 167 := by omega
         exact rowr_61
        ·exact rowr_62 op (by omega) (by omega)
     ·by_cases h63_68 : op < 192
      ·by_cases h63_65 : op < 174
       ·exact rowr_63 op (by omega) (by omega)
       ·exact rowr_64 op (by omega) (by omega)
      ·by_cases h65_68 : op < 194
       ·exact rowr_65 op (by omega) (by omega)
       ·by_cases h66_68 : op < 197
        ·exact rowr_66 op (by omega) (by omega)
        ·exact rowr_67 op (by omega) (by omega)
    ·by_cases h68_78 : op < 64778
     ·by_cases h68_73 : op < 64775
      ·by_cases h68_70 : op < 64769
       ·obtain rfl : op = 64768 := by omega
        exact rowr_68
       ·exact rowr_69 op (by omega) (by omega)
      ·by_cases h70_73 : op < 64776
       ·obtain rfl : op = 64775 := by omega
        exact rowr_70
       ·by_cases h71_73 : op < 64777
        ·obtain rfl : op = 64776 := by omega
         exact rowr_71
        ·obtain rfl : op = 64777 := by omega
         exact rowr_72
     ·by_cases h73_78 : op < 64780
      ·by_cases h73_75 : op < 64779
       ·obtain rfl : op = 64778 := by omega
        exact rowr_73
       ·obtain rfl : op = 64779 := by omega
        exact rowr_74
      ·by_cases h75_78 : op < 64781
       ·obtain rfl : op = 64780 := by omega
        exact rowr_75
       ·by_cases h76_78 : op < 64782
        ·obtain rfl : op = 64781 := by omega
         exact rowr_76
        ·obtain rfl : op = 64782 := by omega
         exact rowr_77
 ·by_cases h78_157 : op < 64884
  ·by_cases h78_117 : op < 64846
   ·by_cases h78_97 : op < 64793
    ·by_cases h78_87 : op < 64787
     ·by_cases h78_82 : op < 64785
      ·by_cases h78_80 : op < 64784
       ·obtain rfl : op = 64783 := by omega
        exact rowr_78
       ·obtain rfl : op = 64784 := by omega
        exact rowr_79
      ·by_cases h80_82 : op < 64786
       ·obtain rfl : op = 64785 := by omega
        exact rowr_80
       ·obtain rfl : op = 64786 := by omega
        exact rowr_81
     ·by_cases h82_87 : op < 64790
      ·by_cases h82_84 : op < 64789
       ·exact rowr_82 op (by omega) (by omega)
       ·obtain rfl : op = 64789 := by omega
        exact rowr_83
      ·by_cases h84_87 : op < 64791
       ·obtain rfl : op = 64790 := by omega
        exact rowr_84
       ·by_cases h85_87 : op < 64792
        ·obtain rfl : op = 64791 := by omega
         exact rowr_85
        ·obtain rfl : op = 64792 := by omega
         exact rowr_86
    ·by_cases h87_97 : op < 64798
     ·by_cases h87_92 : op < 64795
      ·by_cases h87_89 : op < 64794
       ·obtain rfl : op = 64793 := by omega
        exact rowr_87
       ·obtain rfl : op = 64794 := by omega
        exact rowr_88
      ·by_cases h89_92 : op < 64796
       ·obtain rfl : op = 64795 := by omega
        exact rowr_89
       ·by_cases h90_92 : op < 64797
        ·obtain rfl : op = 64796 := by omega
         exact rowr_90
        ·obtain rfl : op = 64797 := by omega
         exact rowr_91
     ·by_cases h92_97 : op < 64803
      ·by_cases h92_94 : op < 64799
       ·obtain rfl : op = 64798 := by omega
        exact rowr_92
       ·exact rowr_93 op (by omega) (by omega)
      ·by_cases h94_97 : op < 64833
       ·exact rowr_94 op (by omega) (by omega)
       ·by_cases h95_97 : op < 64845
        ·exact rowr_95 op (by omega) (by omega)
        ·obtain rfl : op = 64845 := by omega
         exact rowr_96
   ·by_cases h97_117 : op < 64859
    ·by_cases h97_107 : op < 64854
     ·by_cases h97_102 : op < 64851
      ·by_cases h97_99 : op < 64850
       ·exact rowr_97 op (by omega) (by omega)
       ·obtain rfl : op = 64850 := by omega
        exact rowr_98
      ·by_cases h99_102 : op < 64852
       ·obtain rfl : op = 64851 := by omega
        exact rowr_99
       ·by_cases h100_102 : op < 64853
        ·obtain rfl : op = 64852 := by omega
         exact rowr_100
        ·obtain rfl : op = 64853 := by omega
         exact rowr_101
     ·by_cases h102_107 : op < 64856
      ·by_cases h102_104 : op < 64855
       ·obtain rfl : op = 64854 := by omega
        exact rowr_102
       ·obtain rfl : op = 64855 := by omega
        exact rowr_103
      ·by_cases h104_107 : op < 64857
       ·obtain rfl : op = 64856 := by omega
        exact rowr_104
       ·by_cases h105_107 : op < 64858
        ·obtain rfl : op = 64857 := by omega
         exact rowr_105
        ·obtain rfl : op = 64858 := by omega
         exact rowr_106
    ·by_cases h107_117 : op < 64867
     ·by_cases h107_112 : op < 64861
      ·by_cases h107_109 : op < 64860
       ·obtain rfl : op = 64859 := by omega
        exact rowr_107
       ·obtain rfl : op = 64860 := by omega
        exact rowr_108
      ·by_cases h109_112 : op < 64862
       ·obtain rfl : op = 64861 := by omega
        exact rowr_109
       ·by_cases h110_112 : op < 64864
        ·exact rowr_110 op (by omega) (by omega)
        ·exact rowr_111 op (by omega) (by omega)
     ·by_cases h112_117 : op < 64871
      ·by_cases h112_114 : op < 64869
       ·exact rowr_112 op (by omega) (by omega)
       ·exact rowr_113 op (by omega) (by omega)
      ·by_cases h114_117 : op < 64875
       ·exact rowr_114 op (by omega) (by omega)
       ·by_cases h115_117 : op < 64878
        ·exact rowr_115 op (by omega) (by omega)
        ·exact rowr_116 op (by omega) (by omega)
  ·by_cases h117_157 : op < 64939
   ·by_cases h117_137 : op < 64910
    ·by_cases h117_127 : op < 64898
     ·by_cases h117_122 : op < 64890
      ·by_cases h117_119 : op < 64886
       ·exact rowr_117 op (by omega) (by omega)
       ·exact rowr_118 op (by omega) (by omega)
      ·by_cases h119_122 : op < 64891
       ·obtain rfl : op = 64890 := by omega
        exact rowr_119
       ·by_cases h120_122 : op < 64892
        ·obtain rfl : op = 64891 := by omega
         exact rowr_120
        ·exact rowr_121 op (by omega) (by omega)
     ·by_cases h122_127 : op < 64901
      ·by_cases h122_124 : op < 64899
       ·obtain rfl : op = 64898 := by omega
        exact rowr_122
       ·exact rowr_123 op (by omega) (by omega)
      ·by_cases h124_127 : op < 64903
       ·exact rowr_124 op (by omega) (by omega)
       ·by_cases h125_127 : op < 64907
        ·exact rowr_125 op (by omega) (by omega)
        ·exact rowr_126 op (by omega) (by omega)
    ·by_cases h127_137 : op < 64928
     ·by_cases h127_132 : op < 64917
      ·by_cases h127_129 : op < 64916
       ·exact rowr_127 op (by omega) (by omega)
       ·obtain rfl : op = 64916 := by omega
        exact rowr_128
      ·by_cases h129_132 : op < 64922
       ·exact rowr_129 op (by omega) (by omega)
       ·by_cases h130_132 : op < 64923
        ·obtain rfl : op = 64922 := by omega
         exact rowr_130
        ·exact rowr_131 op (by omega) (by omega)
     ·by_cases h132_137 : op < 64931
      ·by_cases h132_134 : op < 64930
       ·exact rowr_132 op (by omega) (by omega)
       ·obtain rfl : op = 64930 := by omega
        exact rowr_133
      ·by_cases h134_137 : op < 64933
       ·exact rowr_134 op (by omega) (by omega)
       ·by_cases h135_137 : op < 64935
        ·exact rowr_135 op (by omega) (by omega)
        ·exact rowr_136 op (by omega) (by omega)
   ·by_cases h137_157 : op < 64963
    ·by_cases h137_147 : op < 64949
     ·by_cases h137_142 : op < 64943
      ·by_cases h137_139 : op < 64942
       ·exact rowr_137 op (by omega) (by omega)
       ·obtain rfl : op = 64942 := by omega
        exact rowr_138
      ·by_cases h139_142 : op < 64945
       ·exact rowr_139 op (by omega) (by omega)
       ·by_cases h140_142 : op < 64946
        ·obtain rfl : op = 64945 := by omega
         exact rowr_140
        ·exact rowr_141 op (by omega) (by omega)
     ·by_cases h142_147 : op < 64956
      ·by_cases h142_144 : op < 64955
       ·exact rowr_142 op (by omega) (by omega)
       ·obtain rfl : op = 64955 := by omega
        exact rowr_143
      ·by_cases h144_147 : op < 64960
       ·exact rowr_144 op (by omega) (by omega)
       ·by_cases h145_147 : op < 64962
        ·exact rowr_145 op (by omega) (by omega)
        ·obtain rfl : op = 64962 := by omega
         exact rowr_146
    ·by_cases h147_157 : op < 64975
     ·by_cases h147_152 : op < 64967
      ·by_cases h147_149 : op < 64965
       ·exact rowr_147 op (by omega) (by omega)
       ·exact rowr_148 op (by omega) (by omega)
      ·by_cases h149_152 : op < 64971
       ·exact rowr_149 op (by omega) (by omega)
       ·by_cases h150_152 : op < 64974
        ·exact rowr_150 op (by omega) (by omega)
        ·obtain rfl : op = 64974 := by omega
         exact rowr_151
     ·by_cases h152_157 : op < 64978
      ·by_cases h152_154 : op < 64977
       ·exact rowr_152 op (by omega) (by omega)
       ·obtain rfl : op = 64977 := by omega
        exact rowr_153
      ·by_cases h154_157 : op < 64981
       ·exact rowr_154 op (by omega) (by omega)
       ·by_cases h155_157 : op < 64992
        ·exact rowr_155 op (by omega) (by omega)
        ·exact rowr_156 op (by omega) (by omega)
end Ins
end
section
open Go.RowKit
namespace Ins
end Ins
end
section
open Go.RowKit
namespace Ins
end Ins
end
section
open Go.RowKit
namespace Ins
end Ins
end
section
open Go.RowKit
namespace Ins
end Ins
end
end Go.Proofs.Ytebkabidojipoaa
