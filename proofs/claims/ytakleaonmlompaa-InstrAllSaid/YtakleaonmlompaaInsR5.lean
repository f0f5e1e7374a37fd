/-
  Of layer 4: the reference's Of at an opcode of a row with letters. Conditions: those of each theorem.
-/
import Derived.Test.YtakleaonmlompaaInsR4
namespace Go.Proofs.Ytakleaonmlompaa
open Go.RowKit
namespace Ins
set_option maxRecDepth 100000 in
set_option maxHeartbeats 4000000 in
theorem rof_lets (op ff ll : Int) (k0 : Nat) (hff : (rowN k0).f = ff) (hll : (rowN k0).l = ll) (hk0 : k0 < 108) (hin : InRow k0 op) (hb : bare (rowN k0) = false) (ls : ByteArray) (at' : Nat) (hls : (rowN k0).s = ls) (hls100 : ls.size ≤ 100) (hat : at' < ls.size) (hpre : ∀ j (h : j < ls.size), j < at' → (ls[j].toNat : Int) ≠ 58) (hcol : ∀ h : at' < ls.size, (ls[at'].toNat : Int) = 58) (L1 L2 : List Value) (n1 n2 : Nat) (hL1 : rcodes (ls.extract 0 at') (ls.extract 0 at').size = L1) (hL2 : rcodes (ls.extract at' ls.size) (ls.extract at' ls.size).size = L2) (hn1 : L1.length = n1) (hn2 : L2.length = n2) (hn : ∀ k, k < k0 → ¬ InRow k op) (w : World) :
    Calls Try.prog 13 #[.int .i64 op] w fun e w' => ∃ xi ci xo co, e = .returned (.tuple #[.agg #[.int .i64 ff, .int .i64 ll, .bool true, .slice xi n1 ci, .slice xo n2 co], .bool true]) ∧ Gr w w' ∧ w'.ownsRow w.heap.size 3 1 (.slice xi n1 ci) n1 L1 ∧ w'.ownsRow w.heap.size 3 1 (.slice xo n2 co) n2 L2 := by
  have T1 := fun w => rtypes_any (ls.extract 0 at') w (by simp; omega)
  rw [hL1, hn1] at T1
  have T2 := fun w => rtypes_any (ls.extract at' ls.size) w (by simp; omega)
  rw [hL2, hn2] at T2
  have HT1 := Lib.hid T1
  have HT2 := Lib.hid T2
  clear T1 T2 hL1 hL2 hn1 hn2
  have HN := Lib.hid hn
  have HIn := Lib.hid hin
  have HLs := Lib.hid hls
  have HPre := Lib.hid hpre
  have HCol := Lib.hid hcol
  have HNe := Lib.hid (show ls ≠ ⟨#[45]⟩ from fun h => by rw [← hls] at h; unfold bare beqB at hb; rw [h] at hb; exact absurd hb (by decide))
  have HFf := Lib.hid hff
  have HLl := Lib.hid hll
  clear hn hin hb hff hll hls hpre hcol
  go_enter Try.func13, Try.ntmps13
  go_wp2_with fail
  refine (table_any _).mono ?_
  rintro e w1 ⟨rfl, hw⟩
  have HG1 := Lib.hid (show Gr w w1 by rw [hw]; exact ((Gr.refl w).alloc _ _).allocO _)
  have HB := Lib.hid (show w1.heap[w.heap.size]? = some (.cells #[.int .i64 0, .int .i64 0, .bool false, .slice none 0 0, .slice none 0 0] 27 (0, 0)) by rw [hw]; exact heap_alloc2_old w _ _)
  have HT := Lib.hid (show w1.heap[w.heap.size + 1]? = some (.cells (strs tabL).toArray 9 (0, 0)) by rw [hw]; exact heap_alloc2_new w _ _)
  have hsz : (w.alloc (.cells #[.int .i64 0, .int .i64 0, .bool false, .slice none 0 0, .slice none 0 0] 27)).heap.size = w.heap.size + 1 := by simp
  clear hw
  go_wp2_with fail
  go_loopw [5] (fun i wr => ∃ k : Nat, k ≤ k0 ∧ i = .int .i64 k ∧ Gr w1 wr) (fun i _ => k0 - (intOf i).toNat)
  case atStart => exact ⟨0, by omega, rfl, Gr.refl _⟩
  case round =>
    obtain ⟨k, hk, rfl, hg⟩ := hrel
    have HG := Lib.hid hg
    clear hg
    by_cases hlt : k < k0
    · have h108 : k < 108 := by omega
      obtain ⟨a, b, c, d, F⟩ := rowF k h108
      have hcell := tab_cell (gr_block HG.out HT.out) k h108
      have hno := HN.out k hlt
      unfold InRow at hno
      have C := fun w => words_any (tabN k) w F.sz.1
      rw [F.w] at C
      have N1 := fun w => number_any a 16 (Or.inr rfl) F.sz.2.1 w
      have N2 := fun w => number_any b 16 (Or.inr rfl) F.sz.2.2.1 w
      rw [F.lo] at N1
      rw [F.hi] at N2
      have HC := Lib.hid C
      have H1 := Lib.hid N1
      have H2 := Lib.hid N2
      clear C N1 N2 F
      generalize (rowN k).lo = lo at *
      generalize (rowN k).hi = hi at *
      generalize (rowN k).s = ls at *
      generalize tabN k = s at *
      go_wp2_with fail
      refine (HC.out _).mono ?_
      rintro e w2 ⟨sv, rfl, hg2, ho⟩
      obtain ⟨g, q, rfl, _, _, c0, c1, _, _, _⟩ := word_cells ho
      have HG2 := Lib.hid (gr_trans HG.out hg2)
      clear hcell ho hg2
      by_cases h1 : op < lo
      · go_wp2_with ((go_at_call 24); (with_reducible refine (H1.out _).mono ?_); rintro e w3 ⟨rfl, rfl⟩)
        exact ⟨⟨k + 1, by omega, by go_num, HG2.out⟩, by simp [intOf]; omega⟩
      · have h2 : hi < op := by omega
        clear hno
        go_wp2_with (first | ((go_at_call 24); (with_reducible refine (H1.out _).mono ?_); rintro e w3 ⟨rfl, rfl⟩) | ((go_at_call 24); (with_reducible refine (H2.out _).mono ?_); rintro e w3 ⟨rfl, rfl⟩))
        exact ⟨⟨k + 1, by omega, by go_num, HG2.out⟩, by simp [intOf]; omega⟩
    · obtain rfl : k0 = k := by omega
      clear hlt hk
      obtain ⟨a, b, c, d, F⟩ := rowF k0 hk0
      have hcell := tab_cell (gr_block HG.out HT.out) k0 hk0
      obtain ⟨hlo, hhi⟩ := HIn.out
      obtain ⟨_, _, bf0, bf1, bl0, bl1⟩ := rows_bd ⟨k0, hk0⟩
      have C := fun w => words_any (tabN k0) w F.sz.1
      rw [F.w, HLs.out] at C
      have N1 := fun w => number_any a 16 (Or.inr rfl) F.sz.2.1 w
      have N2 := fun w => number_any b 16 (Or.inr rfl) F.sz.2.2.1 w
      have N3 := fun w => number_any c 10 (Or.inl rfl) F.sz.2.2.2.1 w
      have N4 := fun w => number_any d 10 (Or.inl rfl) F.sz.2.2.2.2 w
      rw [F.lo] at N1
      rw [F.hi] at N2
      rw [F.f, HFf.out] at N3
      rw [F.l, HLl.out] at N4
      have HC := Lib.hid C
      have H1 := Lib.hid N1
      have H2 := Lib.hid N2
      have H3 := Lib.hid N3
      have H4 := Lib.hid N4
      clear C N1 N2 N3 N4 F HLs HIn HN
      simp only [HFf.out, HLl.out] at bf0 bf1 bl0 bl1
      clear HFf HLl
      generalize (rowN k0).lo = lo at *
      generalize (rowN k0).hi = hi at *
      generalize tabN k0 = s at *
      have hlo' : ¬ op < lo := by omega
      have hhi' : ¬ hi < op := by omega
      go_wp2_with fail
      refine (HC.out _).mono ?_
      rintro e w2 ⟨sv, rfl, hg2, ho⟩
      obtain ⟨g, q, rfl, _, _, c0, c1, c2, c3, c4⟩ := word_cells ho
      have HG2 := Lib.hid (gr_trans HG.out hg2)
      clear hcell ho hg2
      go_upto_region 7 with (first | ((go_at_call 24); (with_reducible refine (H1.out _).mono ?_); rintro e w3 ⟨rfl, rfl⟩) | ((go_at_call 24); (with_reducible refine (H2.out _).mono ?_); rintro e w3 ⟨rfl, rfl⟩))
      have hgl2 : g < w2.heap.size := block_lt_of_cell c0
      refine wp_region_net_tail 10 (ΦF g q w2.heap.size c d ff ll) (by kernel_rfl) (by kernel_rfl) (ΦF_mono _ _ _ c d ff ll) ?_ ?_
      · simp only [List.take_succ_cons, List.take_zero]
        refine ⟨?_, ?_, ?_, ?_, ?_, ?_, ?_, ?_, ?_, ?_, trivial⟩
        · refine NetStep.of rfl fun ρ wx hw hρc hρf hin hdep => ?_
          have e6 : ρ (.tmp 6) = (.slice (some ⟨g, 0, none⟩) 5 q) := hin 6 (by kernel_rfl)
          go_simp
          exact ⟨rfl, Gr.refl _⟩
        · refine NetStep.of rfl fun ρ wx hw hρc hρf hin hdep => ?_
          have e35 : ρ (.tmp 35) = (.slice (some ⟨g, 0, none⟩) 5 q) := hdep 0 35 (by kernel_rfl)
          go_simp
          exact ⟨rfl, Gr.refl _⟩
        · refine NetStep.of rfl fun ρ wx hw hρc hρf hin hdep => ?_
          have e36 : ρ (.tmp 36) = (.pointer (some ⟨g, 2, none⟩)) := hdep 1 36 (by kernel_rfl)
          have hcx := gr_cell (gr_trans (Gr.drew (Gr.refl w2)) hw) c2
          go_simp
          exact ⟨rfl, Gr.refl _⟩
        · refine NetStep.of rfl fun ρ wx hw hρc hρf hin hdep => ?_
          have e37 : ρ (.tmp 37) = (.string c) := hdep 2 37 (by kernel_rfl)
          go_simp
          exact (H3.out wx).mono fun e w4 ⟨h1, h2⟩ => ⟨_, h1, rfl, h2 ▸ Gr.refl _⟩
        · refine NetStep.of rfl fun ρ wx hw hρc hρf hin hdep => ?_
          have e6 : ρ (.tmp 6) = (.slice (some ⟨g, 0, none⟩) 5 q) := hin 6 (by kernel_rfl)
          go_simp
          exact ⟨rfl, Gr.refl _⟩
        · refine NetStep.of rfl fun ρ wx hw hρc hρf hin hdep => ?_
          have e39 : ρ (.tmp 39) = (.slice (some ⟨g, 0, none⟩) 5 q) := hdep 4 39 (by kernel_rfl)
          go_simp
          exact ⟨rfl, Gr.refl _⟩
        · refine NetStep.of rfl fun ρ wx hw hρc hρf hin hdep => ?_
          have e40 : ρ (.tmp 40) = (.pointer (some ⟨g, 3, none⟩)) := hdep 5 40 (by kernel_rfl)
          have hcx := gr_cell (gr_trans (Gr.drew (Gr.refl w2)) hw) c3
          go_simp
          exact ⟨rfl, Gr.refl _⟩
        · refine NetStep.of rfl fun ρ wx hw hρc hρf hin hdep => ?_
          have e41 : ρ (.tmp 41) = (.string d) := hdep 6 41 (by kernel_rfl)
          go_simp
          exact (H4.out wx).mono fun e w4 ⟨h1, h2⟩ => ⟨_, h1, rfl, h2 ▸ Gr.refl _⟩
        · refine NetStep.of rfl fun ρ wx hw hρc hρf hin hdep => ?_
          have e38 : ρ (.tmp 38) = (.int .i64 ff) := hdep 3 38 (by kernel_rfl)
          have e42 : ρ (.tmp 42) = (.int .i64 ll) := hdep 7 42 (by kernel_rfl)
          go_simp
          exact ⟨rfl, Gr.refl _⟩
        · refine NetStep.of rfl fun ρ wx hw hρc hρf hin hdep => ?_
          go_simp
          exact ⟨⟨wx.heap.size, rfl, heap_alloc_new wx _, (gr_trans (Gr.drew (Gr.refl w2)) hw).size⟩, (Gr.refl _).alloc _ _⟩
      · intro V w3 hg3 hV
        obtain ⟨b7, hs7, hblk, hb7⟩ := hV 9 _ 7 (by decide) rfl rfl
        have hs43 : V 43 = .agg (inf ff ll false (.slice none 0 0) (.slice none 0 0)) := hV 8 _ 43 (by decide) rfl rfl
        have G23 := Lib.hid (gr_trans (Gr.drew (Gr.refl w2)) hg3)
        have HG3 := Lib.hid (gr_trans (gr_trans HG1.out HG2.out) G23.out)
        have d4 := gr_cell G23.out c4
        have HB3 := Lib.hid (gr_block (gr_trans HG2.out G23.out) HB.out)
        have HK7 := Lib.hid hblk
        have hw1s : w.heap.size + 2 ≤ w2.heap.size := by
          have h1 := (Array.getElem?_eq_some_iff.1 HT.out).1
          have h2 := HG2.out.size
          omega
        clear hV hg3 hblk c0 c1 c2 c3 c4
        simp only [List.take_succ_cons, List.take_zero, List.drop_succ_cons, List.drop_zero, putAll, Act.put, Option.map_some, Option.getD_some, List.setIfInBounds_toArray, List.set_cons_succ, List.set_cons_zero]
        rw [hs7, hs43]
        clear hs7 hs43
        refine wpList_store_row rfl 27 _ _ rfl b7 (inf ff ll false (.slice none 0 0) (.slice none 0 0)) rfl rfl 27 (inf 0 0 false (.slice none 0 0) (.slice none 0 0)) HK7.out infoN rfl (inf_one _ _ _ _ _ _ _ _ _) ?_
        have hk7 := setRow_block (c := inf ff ll false (.slice none 0 0) (.slice none 0 0)) HK7.out
        have hb4 := (setRow_block_other (w := w3) (c := inf ff ll false (.slice none 0 0) (.slice none 0 0)) (show w.heap.size ≠ b7 by omega)).trans HB3.out
        have hd4 : (w3.setRow b7 (inf ff ll false (.slice none 0 0) (.slice none 0 0))).cell? ⟨g, 4, none⟩ = some (.string ls) := by
          rw [World.cell?_of_block (a := ⟨g, 4, none⟩) (setRow_block_other (w := w3) (c := inf ff ll false (.slice none 0 0) (.slice none 0 0)) (show g ≠ b7 by omega))]; exact d4
        have hg4 := gr_setRow HG3.out (g := b7) (by omega) (inf ff ll false (.slice none 0 0) (.slice none 0 0))
        generalize w3.setRow b7 (inf ff ll false (.slice none 0 0) (.slice none 0 0)) = w4 at *
        obtain ⟨k0', k1, k2, k3, k4⟩ := cells5 (show w4.heap[b7]? = some (.cells #[.int .i64 ff, .int .i64 ll, .bool false, .slice none 0 0, .slice none 0 0] 27 (0, 0)) from hk7)
        have f2 : w4.frozen? ⟨b7, 2, none⟩ = false := by simp [World.frozen?, hk7]
        have HK4 := Lib.hid hk7
        have HB4 := Lib.hid hb4
        have HG4 := Lib.hid hg4
        have hgb7 : g ≠ b7 := by omega
        have hne0 : ls.toList ≠ [45] := fun h => HNe.out (by rw [ByteArray.toList_eq] at h; cases ls; simp only at h ⊢; congr 1; exact Array.toList_inj.1 h)
        have hne1 : (!ls.toList == [45]) = true := by simpa using hne0
        have hne2 : (ls.toList == [45]) = false := by simpa using hne0
        clear hk7 hb4 hg4 d4
        go_wp2_with fail
        have hk5 : (w4.setCell ⟨b7, 2, none⟩ (.bool true)).heap[b7]? = some (.cells (inf ff ll true (.slice none 0 0) (.slice none 0 0)) 27 (0, 0)) := by
          simp [World.setCell, Array.getElem?_modify, HK4.out, inf]
        have hb5 := ((Sep.setCell (ex := fun q => q = b7) w4 (p := ⟨b7, 2, none⟩) rfl (.bool true)).block w.heap.size (by have := (Array.getElem?_eq_some_iff.1 HB4.out).1; exact this) (show w.heap.size ≠ b7 by omega)).trans HB4.out
        have hd5 : (w4.setCell ⟨b7, 2, none⟩ (.bool true)).cell? ⟨g, 4, none⟩ = some (.string ls) := by
          rw [World.cell?_setCell_far _ _ _ _ (show b7 ≠ g by omega)]; exact hd4
        have hg5 : Gr w (w4.setCell ⟨b7, 2, none⟩ (.bool true)) := HG4.out.setCell (p := ⟨b7, 2, none⟩) (show w.heap.size ≤ b7 by omega) _
        generalize w4.setCell ⟨b7, 2, none⟩ (.bool true) = w5 at *
        clear hd4 k0' k1 k2 k3 k4 f2 HK4 HB4 HG4
        have HK5 := Lib.hid hk5
        have HB5 := Lib.hid hb5
        have HG5 := Lib.hid hg5
        clear hk5 hb5 hg5
        go_loopw [8] (fun i wr => ∃ j : Nat, j ≤ at' ∧ i = .int .i64 j ∧ wr = w5) (fun i _ => at' - (intOf i).toNat)
        case atStart => exact ⟨0, by omega, rfl, rfl⟩
        case round =>
          obtain ⟨j, hj, rfl, rfl⟩ := hrel
          by_cases hlt : j < at'
          · have hjl : j < ls.size := by omega
            have hb0 := HPre.out j hjl hlt
            have b1 : ((ls[j].toNat : Int) == 58) = false := beq_eq_false_iff_ne.2 hb0
            have b2 : ((ls[j].toNat : Int) != 58) = true := by rw [bne, b1]; rfl
            go_wp2_with fail
            exact ⟨⟨j + 1, by omega, by go_num, trivial⟩, by simp [intOf]; omega⟩
          · obtain rfl : at' = j := by omega
            have b1 := HCol.out hat
            have b2 : ((ls[at'].toNat : Int) != 58) = false := by rw [b1]; rfl
            clear hlt hj
            go_upto_region 14 with fail
            refine (HT1.out _).mono ?_
            rintro e w6 ⟨sv, rfl, hg6, ho6⟩
            obtain ⟨x1, c1, rfl⟩ := owns_slice ho6
            obtain ⟨_, _, _, k3, _⟩ := cells5 (gr_block hg6 HK5.out)
            have f3 : w6.frozen? ⟨b7, 3, none⟩ = false := by simp [World.frozen?, gr_block hg6 HK5.out]
            have hlt5 := (Array.getElem?_eq_some_iff.1 HB5.out).1
            have hlt7 := (Array.getElem?_eq_some_iff.1 HK5.out).1
            go_upto_region 14 with fail
            have hk7 : (w6.setCell ⟨b7, 3, none⟩ (.slice x1 n1 c1)).heap[b7]? = some (.cells (inf ff ll true (.slice x1 n1 c1) (.slice none 0 0)) 27 (0, 0)) := by
              simp [World.setCell, Array.getElem?_modify, gr_block hg6 HK5.out, inf]
            have hb7 := ((Sep.setCell (ex := fun q => q = b7) w6 (p := ⟨b7, 3, none⟩) rfl (.slice x1 n1 c1)).block w.heap.size (by have := hg6.size; omega) (show w.heap.size ≠ b7 by omega)).trans (gr_block hg6 HB5.out)
            have hd7 : (w6.setCell ⟨b7, 3, none⟩ (.slice x1 n1 c1)).cell? ⟨g, 4, none⟩ = some (.string ls) := by
              rw [World.cell?_setCell_far _ _ _ _ (show b7 ≠ g by omega)]; exact gr_cell hg6 hd5
            have hg7 : Gr w (w6.setCell ⟨b7, 3, none⟩ (.slice x1 n1 c1)) := (gr_trans HG5.out hg6).setCell (p := ⟨b7, 3, none⟩) (show w.heap.size ≤ b7 by omega) _
            have ho7 := Sep.owns (Sep.setCell (ex := fun q => q = b7) w6 (p := ⟨b7, 3, none⟩) rfl (.slice x1 n1 c1)) ho6 (fun q hq e => by have := (ho6.lt q hq).1; omega)
            have hs7 : wr.heap.size ≤ (w6.setCell ⟨b7, 3, none⟩ (.slice x1 n1 c1)).heap.size := by have := hg6.size; simpa [World.setCell] using this
            generalize w6.setCell ⟨b7, 3, none⟩ (.slice x1 n1 c1) = w7 at *
            clear hg6 ho6 k3 f3 hd5
            have HK7 := Lib.hid hk7
            have HB7 := Lib.hid hb7
            have HG7 := Lib.hid hg7
            have HO7 := Lib.hid ho7
            clear hk7 hb7 hg7 ho7
            go_wp2_with fail
            refine (HT2.out _).mono ?_
            rintro e w8 ⟨sv, rfl, hg8, ho8⟩
            obtain ⟨x2, c2, rfl⟩ := owns_slice ho8
            obtain ⟨_, _, _, _, k4⟩ := cells5 (gr_block hg8 HK7.out)
            have f4 : w8.frozen? ⟨b7, 4, none⟩ = false := by simp [World.frozen?, gr_block hg8 HK7.out]
            go_upto_region 15 with fail
            have hk9 : (w8.setCell ⟨b7, 4, none⟩ (.slice x2 n2 c2)).heap[b7]? = some (.cells (inf ff ll true (.slice x1 n1 c1) (.slice x2 n2 c2)) 27 (0, 0)) := by
              simp [World.setCell, Array.getElem?_modify, gr_block hg8 HK7.out, inf]
            have hb9 := ((Sep.setCell (ex := fun q => q = b7) w8 (p := ⟨b7, 4, none⟩) rfl (.slice x2 n2 c2)).block w.heap.size (by have := hg8.size; omega) (show w.heap.size ≠ b7 by omega)).trans (gr_block hg8 HB7.out)
            have hg9 : Gr w (w8.setCell ⟨b7, 4, none⟩ (.slice x2 n2 c2)) := (gr_trans HG7.out hg8).setCell (p := ⟨b7, 4, none⟩) (show w.heap.size ≤ b7 by omega) _
            have ho9 := Sep.owns (Sep.setCell (ex := fun q => q = b7) w8 (p := ⟨b7, 4, none⟩) rfl (.slice x2 n2 c2)) ho8 (fun q hq e => by have := (ho8.lt q hq).1; omega)
            have hp9 := Sep.owns (Sep.setCell (ex := fun q => q = b7) w8 (p := ⟨b7, 4, none⟩) rfl (.slice x2 n2 c2)) (owns_gr HO7.out hg8) (fun q hq e => by have := (HO7.out.lt q hq).1; omega)
            have hq9 := owns_base ho9 hs7
            generalize w8.setCell ⟨b7, 4, none⟩ (.slice x2 n2 c2) = w9 at *
            clear hg8 ho8 k4 f4 ho9
            obtain ⟨k0', k1, k2, k3, k4⟩ := cells5 (show w9.heap[b7]? = some (.cells #[.int .i64 ff, .int .i64 ll, .bool true, .slice x1 n1 c1, .slice x2 n2 c2] 27 (0, 0)) from hk9)
            have HB9 := Lib.hid hb9
            have HG9 := Lib.hid hg9
            have HP9 := Lib.hid hp9
            have HQ9 := Lib.hid hq9
            clear hk9 hb9 hg9 hp9 hq9
            go_wp2_with (refine wpList_store_row rfl 27 _ _ rfl w.heap.size (inf ff ll true (.slice x1 n1 c1) (.slice x2 n2 c2)) rfl rfl 27 (inf 0 0 false (.slice none 0 0) (.slice none 0 0)) HB9.out infoN rfl (inf_one _ _ _ _ _ _ _ _ _) ?_)
            exact bodyPost_ret (v := .tuple #[.agg (inf ff ll true (.slice x1 n1 c1) (.slice x2 n2 c2)), .bool true]) (results_cell_slot Try.results13 _ _ w.heap.size 27 _ (0, 0) _ rfl (setRow_block (c := inf ff ll true (.slice x1 n1 c1) (.slice x2 n2 c2)) HB9.out) Try.underlying27 rfl infoN _ rfl) rfl
              ⟨_, _, _, _, rfl, gr_setRow HG9.out (Nat.le_refl _) _, owns_base (owns_setRow HP9.out hlt5 _) (Nat.le_of_lt hlt5), owns_base (owns_setRow HQ9.out hlt5 _) (Nat.le_of_lt hlt5)⟩
end Ins
end Go.Proofs.Ytakleaonmlompaa
