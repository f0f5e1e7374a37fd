/-
  Of layer 4: the reference's Of and the program's agree; InstrAll. Condition: the library's MaxLen reads as some number.
-/
import Derived.Test.YtakleaonmlompaaInsR6
import Derived.Test.YtakleaonmlompaaInsKp
namespace Go.Proofs.Ytakleaonmlompaa
open Go.RowKit
namespace Ins
def BST (ok : Bool) (f l : Int) (p : Bool) (nA nB : Nat) (za zb : Nat → Int) (w : World) (e : Ending) (w' : World) : Prop :=
  ∃ xi ci xo co, e = .returned (.tuple #[.agg #[.int .i64 f, .int .i64 l, .bool p, .slice xi nA ci, .slice xo nB co], .bool ok]) ∧ Gr w w' ∧ IL w' xi nA za ∧ IL w' xo nB zb
theorem codes_len (s : ByteArray) : (codes s s.size).length = s.size := by
  rw [codes_code]; simp
theorem emp_facts : cutP ⟨#[]⟩ = false ∧ (cutA ⟨#[]⟩).size = 0 ∧ (cutB ⟨#[]⟩).size = 0 := by decide +kernel
theorem ref_some (op f l : Int) (s : ByteArray) (h : RX op f l s) (w : World) : Calls Try.prog 13 #[.int .i64 op] w (BST true f l (cutP s) (cutA s).size (cutB s).size (cz (cutA s)) (cz (cutB s)) w) := by
  obtain ⟨k, hk, hin, hn, hf, hl, hs⟩ := h
  rcases hs with ⟨hb, rfl⟩ | ⟨hb, rfl⟩
  · refine (rof_bare op f l k hf hl hk hin hb hn w).mono fun e w' ⟨h1, h2⟩ => ?_
    obtain ⟨e1, e2, e3⟩ := emp_facts
    rw [e1, e2, e3]
    exact ⟨none, 0, none, 0, h1, h2, .inl rfl, .inl rfl⟩
  · have h2 := rows_ok2 ⟨k, hk⟩
    simp only [rowOk2, hb, Bool.false_or, Bool.and_eq_true, decide_eq_true_eq] at h2
    obtain ⟨⟨⟨⟨⟨⟨h100, hp⟩, hat⟩, hpre⟩, hcol⟩, hI⟩, hO⟩ := h2
    rw [hp]
    refine (rof_lets op f l k hf hl hk hin hb (rowN k).s (atR (rowN k)) rfl h100 hat ?_ ?_ (codes (cutA (rowN k).s) (cutA (rowN k).s).size) (codes (cutB (rowN k).s) (cutB (rowN k).s).size) (cutA (rowN k).s).size (cutB (rowN k).s).size ?_ ?_ (codes_len _) (codes_len _) hn w).mono ?_
    · intro j hj hja
      have h3 := List.all_eq_true.1 hpre j (List.mem_range.2 hja)
      have h4 : (rowN k).s.data.toList.getD j 0 = (rowN k).s[j] := by
        rw [List.getD_eq_getElem?_getD, List.getElem?_eq_getElem (by simpa using hj)]; rfl
      rw [h4] at h3
      simp at h3
      omega
    · intro hj
      have h4 : (rowN k).s.data.toList.getD (atR (rowN k)) 0 = (rowN k).s[atR (rowN k)] := by
        rw [List.getD_eq_getElem?_getD, List.getElem?_eq_getElem (by simpa using hj)]; rfl
      rw [h4] at hcol
      have h5 := eq_of_beq hcol
      omega
    · rw [rcodes_ric, codes_code]; exact congrArg _ hI
    · rw [rcodes_ric, codes_code]; exact congrArg _ hO
    · intro e w' ⟨xi, ci, xo, co, h1, h2, h3, h4⟩
      exact ⟨xi, ci, xo, co, h1, h2, il_of_owns h3, il_of_owns h4⟩
set_option maxHeartbeats 1000000 in
theorem one_gen (op : Int) (hop : op ≤ 9223372036854775807) (ok : Bool) (f l : Int) (p : Bool) (nA nB : Nat) (za zb : Nat → Int) (hA : nA ≤ 1000) (hB : nB ≤ 1000)
    (C : ∀ w, Mx w → Calls Try.prog 9 #[.int .i64 op] w (BST ok f l p nA nB za zb w)) (R : ∀ w, Calls Try.prog 13 #[.int .i64 op] w (BST ok f l p nA nB za zb w)) (w : World) (hm : Mx w) :
    Calls Try.prog 8 #[.int .i64 op] w fun e w' => e = .returned (.bool true) ∧ Gr w w' := by
  have F := float_any op hop
  have RF := rfloat_any op
  generalize floatB op = fb at F RF
  have HF := Lib.hid F
  have HRF := Lib.hid RF
  have HM := Lib.hid hm
  have HC := Lib.hid C
  have HR := Lib.hid R
  clear hm C R F RF hop
  go_enter Try.func8, Try.ntmps8
  go_wp2_with fail
  refine (HC.out _ HM.out).mono ?_
  rintro e w1 ⟨xi, ci, xo, co, rfl, hg1, hi1, ho1⟩
  have HG1 := Lib.hid hg1
  have HI1 := Lib.hid hi1
  have HO1 := Lib.hid ho1
  clear hg1 hi1 ho1
  go_wp2_with fail
  have hk1 := heap_alloc_new w1 (.cells #[.int .i64 f, .int .i64 l, .bool p, .slice xi nA ci, .slice xo nB co] 27)
  refine (HR.out _).mono ?_
  rintro e w2 ⟨xi', ci', xo', co', rfl, hg2, hi2, ho2⟩
  obtain ⟨a0, a1, a2, a3, a4⟩ := cells5 (gr_block hg2 hk1)
  have hlt1 : w1.heap.size < w2.heap.size := (Array.getElem?_eq_some_iff.1 (gr_block hg2 hk1)).1
  have G12 := Lib.hid (gr_trans ((Gr.refl w1).alloc _ _) hg2)
  have HI2 := Lib.hid hi2
  have HO2 := Lib.hid ho2
  clear hg2 hi2 ho2 hk1
  go_wp2_with fail
  refine (same_any f l p xi xo xi' xo' nA nB _ _ _ _ za zb _ hA hB (il_gr HI1.out (gr_trans G12.out ((Gr.refl w2).alloc _ _))) (il_gr HI2.out ((Gr.refl w2).alloc _ _)) (il_gr HO1.out (gr_trans G12.out ((Gr.refl w2).alloc _ _))) (il_gr HO2.out ((Gr.refl w2).alloc _ _))).mono ?_
  rintro e w3 ⟨rfl, hg3⟩
  have HG3 := Lib.hid (gr_trans (gr_trans HG1.out (gr_trans G12.out ((Gr.refl w2).alloc _ _))) hg3)
  clear hg3
  go_wp2_with fail
  refine (HF.out _).mono ?_
  rintro e w4 ⟨rfl, rfl⟩
  go_wp2_with fail
  refine (HRF.out _).mono ?_
  rintro e w5 ⟨rfl, hg5⟩
  have HG5 := Lib.hid (gr_trans HG3.out hg5)
  clear hg5
  go_wp2
  go_ret
  exact ⟨by simp, HG5.out⟩
theorem one_any (op : Int) (hop : op ≤ 9223372036854775807) (w : World) (hm : Mx w) :
    Calls Try.prog 8 #[.int .i64 op] w fun e w' => e = .returned (.bool true) ∧ Gr w w' := by
  rcases ofr_any op hop with ⟨hn, ho⟩ | ⟨f, l, s, rx, oy, g⟩
  · exact one_gen op hop false 0 0 false 0 0 (fun _ => 0) (fun _ => 0) (by decide) (by decide)
      (fun w _ => (ho w).mono fun e w' ⟨h1, h2⟩ => ⟨none, 0, none, 0, h1, h2, .inl rfl, .inl rfl⟩)
      (fun w => (rof_none op hn w).mono fun e w' ⟨h1, h2⟩ => ⟨none, 0, none, 0, h1, h2, .inl rfl, .inl rfl⟩) w hm
  · exact one_gen op hop true f l (cutP s) (cutA s).size (cutB s).size (cz (cutA s)) (cz (cutB s)) g.fit.2.1 g.fit.2.2
      (fun w hm => (ofy_lit oy w hm).mono fun e w' ⟨xi, ci, xo, co, h1, h2, h3, h4⟩ => ⟨xi, ci, xo, co, h1, h2, il_of_lst h3, il_of_lst h4⟩)
      (fun w => ref_some op f l s rx w) w hm
theorem wrap_u64 (x : Int) : 0 ≤ IntKind.u64.wrap x ∧ IntKind.u64.wrap x < 18446744073709551616 := by
  simp only [IntKind.wrap, IntKind.signed, IntKind.bits]
  constructor <;> (try simp) <;> omega
theorem wrap_small_u {x : Int} (h0 : 0 ≤ x) (h1 : x ≤ 255) : IntKind.u64.wrap x = x := by
  simp only [IntKind.wrap, IntKind.signed, IntKind.bits]
  (try simp) <;> omega
theorem wrap_small_i {x : Int} (h0 : 0 ≤ x) (h1 : x ≤ 255) : IntKind.i64.wrap x = x := by
  simp only [IntKind.wrap, IntKind.signed, IntKind.bits]
  (try simp) <;> omega
set_option maxHeartbeats 1000000 in
theorem all_any (op : Int) (hop : op ≤ 9223372036854775807) (w : World) (hm : Mx w) :
    Calls Try.prog 3 #[.int .i64 op] w fun e w' => e = .returned (.bool true) ∧ Gr w w' := by
  have HM := Lib.hid hm
  have O1 := Lib.hid (one_any op hop)
  have hz0 : 0 ≤ IntKind.u64.wrap op := (wrap_u64 op).1
  have hz1 : IntKind.u64.wrap op < 18446744073709551616 := (wrap_u64 op).2
  generalize hz : IntKind.u64.wrap op = z at *
  have ht : z.tmod 256 = z % 256 := Int.tmod_eq_emod_of_nonneg hz0
  have hy : 0 ≤ z % 256 ∧ z % 256 ≤ 255 := by omega
  have hw1 : IntKind.u64.wrap (z % 256) = z % 256 := wrap_small_u (by omega) (by omega)
  have hw2 : IntKind.i64.wrap (z % 256) = z % 256 := wrap_small_i (by omega) (by omega)
  have hy0 : 0 ≤ z % 256 := by omega
  have hy1 : z % 256 ≤ 255 := by omega
  generalize z % 256 = y at *
  have O2 := Lib.hid (one_any y (by omega))
  have O3 := Lib.hid (one_any (64768 + y) (by omega))
  clear hm
  go_enter Try.func3, Try.ntmps3
  go_wp2_with fail
  refine (awake_any _ HM.out).mono ?_
  rintro e w1 ⟨rfl, hg1⟩
  have HG1 := Lib.hid hg1
  clear hg1
  go_wp2_with fail
  refine (O1.out _ (mx_gr HM.out HG1.out)).mono ?_
  rintro e w2 ⟨rfl, hg2⟩
  have HG2 := Lib.hid (gr_trans HG1.out hg2)
  clear hg2
  go_wp2_with fail
  refine (O2.out _ (mx_gr HM.out HG2.out)).mono ?_
  rintro e w3 ⟨rfl, hg3⟩
  have HG3 := Lib.hid (gr_trans HG2.out hg3)
  clear hg3
  go_wp2_with fail
  refine (O3.out _ (mx_gr HM.out HG3.out)).mono ?_
  rintro e w4 ⟨rfl, hg4⟩
  have HG4 := Lib.hid (gr_trans HG3.out hg4)
  clear hg4
  go_wp2
  go_ret
  exact ⟨rfl, HG4.out⟩
end Ins
end Go.Proofs.Ytakleaonmlompaa
