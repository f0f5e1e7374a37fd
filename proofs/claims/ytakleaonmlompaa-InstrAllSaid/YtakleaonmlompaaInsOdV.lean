/-
  Of layer 4: instr.Of's two lists lie in blocks of their own, apart from one another (vectors). Condition: the library's MaxLen reads as some number.
-/
import Derived.Test.YtakleaonmlompaaInsOd
namespace Go.Proofs.Ytakleaonmlompaa
open Go.RowKit
namespace Ins
set_option maxHeartbeats 2000000 in
theorem ofd_vec (n m f l : Int) (s : ByteArray) (hn : 64768 ≤ n) (hn2 : n - 64768 ≤ 9223372036854775807) (hnm : n - 64768 = m) (hf : (f == 0) = false) (hs : s.size < 1000) (hA : (cutA s).size ≤ 1000) (hB : (cutB s).size ≤ 1000) (h : ∀ w, Calls Try.prog 15 #[.int .i64 m] w (RES f l s w)) (w : World) (hm : Mx w) :
    Calls Try.prog 9 #[.int .i64 n] w (OFD f l (cutP s) (cutA s) (cutB s) w) := by
  subst hnm
  have H := Lib.hid h
  have HM := Lib.hid hm
  have C := fun w (hm : Mx w) => cut_any s w (by omega) hm
  have HC := Lib.hid C
  have T1 := fun w => types_any (cutA s) w (by omega)
  have T2 := fun w => types_any (cutB s) w (by omega)
  have HT1 := Lib.hid T1
  have HT2 := Lib.hid T2
  clear h hm C T1 T2
  generalize cutA s = A at *
  generalize cutB s = B at *
  generalize cutP s = p at *
  go_enter Try.func9, Try.ntmps9
  go_wp2_with fail
  refine (H.out _).mono ?_
  rintro e w1 ⟨rfl, hg⟩
  have hb := gr_block hg (heap_alloc2_new w (.cells (inf 0 0 false (.slice none 0 0) (.slice none 0 0)) 27) (.cells (shp 0 0 zs) 34))
  have hi := gr_block hg (heap_alloc2_old w (.cells (inf 0 0 false (.slice none 0 0) (.slice none 0 0)) 27) (.cells (shp 0 0 zs) 34))
  have HB := Lib.hid hb
  have HI := Lib.hid hi
  have HG := Lib.hid (gr_trans (((Gr.refl w).alloc _ _).alloc _ _) hg)
  have HZ1 := Lib.hid (show w.heap.size + 2 ≤ w1.heap.size by have := hg.size; simp at this; omega)
  clear hb hg hi
  go_wp2_with (refine wpList_store_row rfl 34 _ _ rfl (w.heap.size + 1) (shp _ _ _) rfl rfl 34 (shp 0 0 zs) HB.out infoS rfl (shp_one _ _ _) ?_; focus (have hs2 := setRow_block (c := shp f l s) HB.out; have hi2 := (setRow_block_other (w := w1) (c := shp f l s) (show w.heap.size ≠ w.heap.size + 1 by omega)).trans HI.out; have hg2 := gr_setRow HG.out (g := w.heap.size + 1) (by omega) (shp f l s); have hz2 : (w1.setRow (w.heap.size + 1) (shp f l s)).heap.size = w1.heap.size := (by simp [World.setRow]); generalize w1.setRow (w.heap.size + 1) (shp f l s) = w2 at *; have c0 := (cell_of_row _ _ 0 _ _ _ hs2).trans (show (shp f l s)[0]? = some (.int .i64 f) from rfl); have c1 := (cell_of_row _ _ 1 _ _ _ hs2).trans (show (shp f l s)[1]? = some (.int .i64 l) from rfl); have c2 := (cell_of_row _ _ 2 _ _ _ hs2).trans (show (shp f l s)[2]? = some (.string s) from rfl); have HI2 := Lib.hid hi2; have HG2 := Lib.hid hg2; have HZ2 := Lib.hid (show w.heap.size + 2 ≤ w2.heap.size by rw [hz2]; exact HZ1.out); clear hs2 hi2 hg2 hz2))
  refine (HC.out _ (mx_gr HM.out HG2.out)).mono ?_
  rintro e w3 ⟨rfl, hg3⟩
  have d0 := gr_cell hg3 c0
  have d1 := gr_cell hg3 c1
  have HI3 := Lib.hid (gr_block hg3 HI2.out)
  have HG3 := Lib.hid (gr_trans HG2.out hg3)
  have HZ := Lib.hid (Nat.le_trans HZ2.out hg3.size)
  clear c0 c1 c2 hg3 HI2 HG2
  go_wp2_with fail
  obtain ⟨z0, z1, z2, z3, z4⟩ := cells5 (show w3.heap[w.heap.size]? = some (.cells #[.int .i64 0, .int .i64 0, .bool false, .slice none 0 0, .slice none 0 0] 27 (0, 0)) from HI3.out)
  have f0 := frozen0 HI3.out 0
  have f1 := frozen0 HI3.out 1
  have f2 := frozen0 HI3.out 2
  have f3 := frozen0 HI3.out 3
  have f4 := frozen0 HI3.out 4
  go_region_with (first | (go_at_call 18; (with_reducible refine (HT1.out _).mono ?_); rintro e w4 ⟨vi, rfl, hg4', ho4⟩; obtain ⟨xi, ci, rfl⟩ := owns_slice ho4; have hg4 : Gr w3 w4 := gr_trans (Gr.drew (Gr.refl w3)) hg4'; have c0 := gr_cell hg4 d0; have c1 := gr_cell hg4 d1; have HG4 := Lib.hid (gr_trans HG3.out hg4); have HI4 := Lib.hid (gr_block hg4 HI3.out); have HO4 := Lib.hid (owns_base ho4 HZ.out); have HS4 := Lib.hid hg4.size; clear hg4 hg4' ho4 z0 z1 z2 z3 z4 f0 f1 f2 f3 f4) | (go_at_call 18; (with_reducible refine (HT2.out _).mono ?_); rintro e w5 ⟨vo, rfl, hg5, ho5⟩; obtain ⟨xo, co, rfl⟩ := owns_slice ho5; have e0 := gr_cell hg5 c0; have e1 := gr_cell hg5 c1; have HG5 := Lib.hid (gr_trans HG4.out hg5); have HI5 := Lib.hid (gr_block hg5 HI4.out); have HO6 := Lib.hid (owns_gr HO4.out hg5); have HD := Lib.hid (show ∀ q, (Value.slice xi A.size ci).ownBlock = some q → (Value.slice xo B.size co).ownBlock ≠ some q from fun q h1 h2 => by have := (HO4.out.lt q h1).2; have := (ho5.lt q h2).1; omega); have HO5 := Lib.hid (owns_base ho5 (Nat.le_trans HZ.out HS4.out)); obtain ⟨z0, z1, z2, z3, z4⟩ := cells5 (show w5.heap[w.heap.size]? = some (.cells #[.int .i64 0, .int .i64 0, .bool false, .slice none 0 0, .slice none 0 0] 27 (0, 0)) from HI5.out); have f0 := frozen0 HI5.out 0; have f1 := frozen0 HI5.out 1; have f2 := frozen0 HI5.out 2; have f3 := frozen0 HI5.out 3; have f4 := frozen0 HI5.out 4; clear hg5 ho5 c0 c1))
  all_goals
    go_wp2
    exact bodyPost_ret (v := .tuple #[.agg (inf f l p (.slice xi A.size ci) (.slice xo B.size co)), .bool true]) (results_cell_slot Try.results9 _ _ w.heap.size 27 _ (0, 0) _ rfl (five_blk HI5.out _ _ _ _ _) Try.underlying27 rfl infoN _ rfl) rfl
      ⟨_, _, rfl, Sep.toGr HG5.out (five_sep _ _ _ _ _ _ _) (fun k hk => Nat.le_of_eq hk.symm), owns_base (Sep.owns (five_sep _ _ _ _ _ _ _) HO6.out (fun k hk e => by have := (HO6.out.lt k hk).1; omega)) (by omega), owns_base (Sep.owns (five_sep _ _ _ _ _ _ _) HO5.out (fun k hk e => by have := (HO5.out.lt k hk).1; omega)) (by omega), HD.out⟩
end Ins
end Go.Proofs.Ytakleaonmlompaa
