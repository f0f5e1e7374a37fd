/-
  Of layer 4: what the laws' texts use of Of's answers; awake; InstrNumbers: for every op the law returns true. Condition: the library's MaxLen reads as some number.
-/
import Derived.Test.YtakleaonmlompaaInsAll
namespace Go.Proofs.Ytakleaonmlompaa
open Go.RowKit
namespace Ins
/-- a slice holds the codes of a string's letters -/
def Lst (w : World) (x : Option Addr) (s : ByteArray) : Prop := s.size = 0 ∨ ∃ b, x = some ⟨b, 0, none⟩ ∧ ∀ j (h : j < s.size), w.cell? ⟨b, j, none⟩ = some (.int .i64 (code s[j]))
theorem lst_gr {w w' : World} {x : Option Addr} {s : ByteArray} (h : Lst w x s) (hg : Gr w w') : Lst w' x s := by
  rcases h with h | ⟨b, h1, h2⟩
  · exact .inl h
  · exact .inr ⟨b, h1, fun j hj => gr_cell hg (h2 j hj)⟩
theorem codes_get (s : ByteArray) (j : Nat) (h : j < s.size) : (codes s s.size)[j]? = some (.int .i64 (code s[j])) := by
  unfold codes
  rw [List.getElem?_map, List.getElem?_take, if_pos h]
  have : s.data.toList[j]? = some s[j] := by
    rw [Array.getElem?_toList]
    exact Array.getElem?_eq_getElem (by simpa using h)
  rw [this]; rfl
theorem lst_of_owns {w : World} {base : Nat} {x : Option Addr} {c : Nat} {s : ByteArray} (h : w.ownsRow base 3 1 (.slice x s.size c) s.size (codes s s.size)) : Lst w x s := by
  rcases h.2 with ⟨h1, h2⟩ | ⟨g, cap, cur, h1, hb, hh, hn, hcap, hsz, htk⟩
  · exact .inl h2
  · cases h1
    refine .inr ⟨g, rfl, fun j hj => ?_⟩
    rw [cell_of_row _ _ j _ _ _ hh]
    have := codes_get s j hj
    rw [← htk, Nat.mul_one, List.getElem?_take, if_pos hj] at this
    simpa using this
theorem ofy_lit {op f l : Int} {s : ByteArray} (h : OFY op f l s) (w : World) (hm : Mx w) : Calls Try.prog 9 #[.int .i64 op] w fun e w' =>
    ∃ xi ci xo co, e = .returned (.tuple #[.agg #[.int .i64 f, .int .i64 l, .bool (cutP s), .slice xi (cutA s).size ci, .slice xo (cutB s).size co], .bool true]) ∧ Gr w w' ∧ Lst w' xi (cutA s) ∧ Lst w' xo (cutB s) :=
  (h w hm).mono fun e w' ⟨vi, vo, h1, h2, h3, h4⟩ => by
    obtain ⟨xi, ci, rfl⟩ := owns_slice h3
    obtain ⟨xo, co, rfl⟩ := owns_slice h4
    exact ⟨xi, ci, xo, co, h1, h2, lst_of_owns h3, lst_of_owns h4⟩
theorem cells5 {w : World} {g : Nat} {a b c d e : Value} {t : TypeId} {z : Nat × Nat} (h : w.heap[g]? = some (.cells #[a, b, c, d, e] t z)) :
    w.cell? ⟨g, 0, none⟩ = some a ∧ w.cell? ⟨g, 1, none⟩ = some b ∧ w.cell? ⟨g, 2, none⟩ = some c ∧ w.cell? ⟨g, 3, none⟩ = some d ∧ w.cell? ⟨g, 4, none⟩ = some e :=
  ⟨(cell_of_row _ _ 0 _ _ _ h).trans rfl, (cell_of_row _ _ 1 _ _ _ h).trans rfl, (cell_of_row _ _ 2 _ _ _ h).trans rfl, (cell_of_row _ _ 3 _ _ _ h).trans rfl, (cell_of_row _ _ 4 _ _ _ h).trans rfl⟩
theorem lit106 (w : World) (hm : Mx w) : Calls Try.prog 9 #[.int .i64 106] w fun e w' => ∃ xi ci xo co, e = .returned (.tuple #[.agg #[.int .i64 1, .int .i64 0, .bool true, .slice xi 2 ci, .slice xo 1 co], .bool true]) ∧ Gr w w' :=
  (ofy_lit of_106 w hm).mono fun e w' ⟨xi, ci, xo, co, h1, h2, _⟩ => by
    rw [show cutP ⟨#[105, 105, 58, 105]⟩ = true by decide +kernel, show (cutA ⟨#[105, 105, 58, 105]⟩).size = 2 by decide +kernel, show (cutB ⟨#[105, 105, 58, 105]⟩).size = 1 by decide +kernel] at h1
    exact ⟨xi, ci, xo, co, h1, h2⟩
theorem lit64852 (w : World) (hm : Mx w) : Calls Try.prog 9 #[.int .i64 64852] w fun e w' => ∃ xi ci xo co, e = .returned (.tuple #[.agg #[.int .i64 8, .int .i64 0, .bool true, .slice xi 2 ci, .slice xo 1 co], .bool true]) ∧ Gr w w' :=
  (ofy_lit of_64852 w hm).mono fun e w' ⟨xi, ci, xo, co, h1, h2, _⟩ => by
    rw [show cutP ⟨#[105, 118, 58, 118]⟩ = true by decide +kernel, show (cutA ⟨#[105, 118, 58, 118]⟩).size = 2 by decide +kernel, show (cutB ⟨#[105, 118, 58, 118]⟩).size = 1 by decide +kernel] at h1
    exact ⟨xi, ci, xo, co, h1, h2⟩
theorem fl42 (w : World) : Calls Try.prog 11 #[.int .i64 42] w fun e w' => e = .returned (.bool true) ∧ w = w' := by
  have C := float_any 42 (by decide) w
  rw [show floatB 42 = true by decide] at C
  exact C
theorem fl106 (w : World) : Calls Try.prog 11 #[.int .i64 106] w fun e w' => e = .returned (.bool false) ∧ w = w' := by
  have C := float_any 106 (by decide) w
  rw [show floatB 106 = false by decide] at C
  exact C
set_option maxHeartbeats 1000000 in
theorem awake_any (w : World) (hm : Mx w) : Calls Try.prog 7 #[] w fun e w' => e = .returned (.bool true) ∧ Gr w w' := by
  have HM := Lib.hid hm
  clear hm
  go_enter Try.func7, Try.ntmps7
  go_wp2_with fail
  refine (lit106 _ HM.out).mono ?_
  rintro e w1 ⟨xi, ci, xo, co, rfl, hg1⟩
  have HG1 := Lib.hid hg1
  clear hg1
  go_wp2_with fail
  refine (lit64852 _ (mx_gr HM.out (HG1.out.alloc _ _))).mono ?_
  rintro e w2 ⟨yi, di, yo, dq, rfl, hg2⟩
  obtain ⟨_, _, c2, c3, c4⟩ := cells5 (gr_block hg2 (heap_alloc_new w1 _))
  have hz : w1.heap.size < w2.heap.size := by have := hg2.size; simp at this; omega
  have HG2 := Lib.hid (gr_trans (HG1.out.alloc _ _) hg2)
  clear hg2
  go_wp2_with (first | (go_at_call 11; (with_reducible refine (fl42 _).mono ?_); rintro e w' ⟨rfl, rfl⟩) | (go_at_call 11; (with_reducible refine (fl106 _).mono ?_); rintro e w' ⟨rfl, rfl⟩))
  go_ret
  exact ⟨rfl, HG2.out.alloc _ _⟩
theorem num_cases {low : Bool} {f n : Int} {s : ByteArray} (h : numB low f n s = true) :
    (cutP s = true ∧ low = true ∧ f = 1 ∧ 0 < (cutA s).size ∧ n = ((cutA s).size : Int) ∧ (cutB s).size = 1) ∨ (n = 0 ∧ (cutP s = false ∨ low = false ∨ f ≠ 1 ∨ (cutA s).size = 0)) := by
  unfold numB at h
  by_cases c : (cutP s && low && decide (f = 1) && decide (0 < (cutA s).size)) = true
  · rw [if_pos c] at h
    simp only [Bool.and_eq_true, decide_eq_true_eq] at c h
    exact .inl ⟨c.1.1.1, c.1.1.2, c.1.2, c.2, by omega, h.2⟩
  · rw [if_neg c] at h
    simp only [decide_eq_true_eq] at h
    refine .inr ⟨h, ?_⟩
    simp only [Bool.and_eq_true, decide_eq_true_eq] at c
    cases h1 : cutP s
    · exact .inl rfl
    · cases h2 : low
      · exact .inr (.inl rfl)
      · by_cases h3 : f = 1
        · exact .inr (.inr (.inr (by
            by_cases h4 : (cutA s).size = 0
            · exact h4
            · exact absurd ⟨⟨⟨h1, h2⟩, h3⟩, by omega⟩ c)))
        · exact .inr (.inr (.inl h3))
/-! ### InstrNumbers -/
def NST (f l : Int) (p : Bool) (nA nB : Nat) (w : World) (e : Ending) (w' : World) : Prop :=
  ∃ xi ci xo co, e = .returned (.tuple #[.agg #[.int .i64 f, .int .i64 l, .bool p, .slice xi nA ci, .slice xo nB co], .bool true]) ∧ Gr w w'
set_option maxHeartbeats 2000000 in
theorem num_some (op f l N : Int) (p : Bool) (nA nB : Nat) (w : World) (hm : Mx w) (hA : nA ≤ 1000) (hB : nB ≤ 1000)
    (C : ∀ w, Mx w → Calls Try.prog 9 #[.int .i64 op] w (NST f l p nA nB w)) (R : ∀ w, Calls Try.prog 12 #[.int .i64 op] w fun e w' => e = .returned (.int .i64 N) ∧ w = w')
    (h : (p = true ∧ op < 197 ∧ f = 1 ∧ 0 < nA ∧ N = (nA : Int) ∧ nB = 1) ∨ (N = 0 ∧ (p = false ∨ ¬ op < 197 ∨ f ≠ 1 ∨ nA = 0))) :
    Calls Try.prog 5 #[.int .i64 op] w fun e w' => e = .returned (.bool true) ∧ Gr w w' := by
  have HM := Lib.hid hm
  have HC := Lib.hid C
  have HR := Lib.hid R
  clear hm C R
  rcases h with ⟨rfl, h1, rfl, h2, rfl, rfl⟩ | ⟨rfl, h⟩
  · go_enter Try.func5, Try.ntmps5
    go_wp2_with fail
    refine (awake_any _ HM.out).mono ?_
    rintro e w1 ⟨rfl, hg1⟩
    have HG1 := Lib.hid hg1
    clear hg1
    go_wp2_with fail
    refine (HC.out _ (mx_gr HM.out HG1.out)).mono ?_
    rintro e w2 ⟨xi, ci, xo, co, rfl, hg2⟩
    have HG2 := Lib.hid (gr_trans HG1.out hg2)
    clear hg2
    go_wp2_with (go_at_call 12; refine (HR.out _).mono ?_; rintro e w' ⟨rfl, rfl⟩)
    go_ret
    exact ⟨rfl, HG2.out.alloc _ _⟩
  · have hc : p = false ∨ (p = true ∧ decide (op < 197) = false) ∨ (p = true ∧ decide (op < 197) = true ∧ (f == 1) = false) ∨ (p = true ∧ decide (op < 197) = true ∧ f = 1 ∧ nA = 0) := by
      cases p
      · exact .inl rfl
      · by_cases h1 : op < 197
        · by_cases h2 : f = 1
          · rcases h with h | h | h | h
            · cases h
            · exact absurd h1 h
            · exact absurd h2 h
            · exact .inr (.inr (.inr ⟨rfl, decide_eq_true h1, h2, h⟩))
          · exact .inr (.inr (.inl ⟨rfl, decide_eq_true h1, beq_eq_false_iff_ne.2 h2⟩))
        · exact .inr (.inl ⟨rfl, decide_eq_false h1⟩)
    clear h
    rcases hc with rfl | ⟨rfl, h1⟩ | ⟨rfl, h1, h2⟩ | ⟨rfl, h1, rfl, rfl⟩
    all_goals
      go_enter Try.func5, Try.ntmps5
      go_wp2_with fail
      refine (awake_any _ HM.out).mono ?_
      rintro e w1 ⟨rfl, hg1⟩
      have HG1 := Lib.hid hg1
      clear hg1
      go_wp2_with fail
      refine (HC.out _ (mx_gr HM.out HG1.out)).mono ?_
      rintro e w2 ⟨xi, ci, xo, co, rfl, hg2⟩
      have HG2 := Lib.hid (gr_trans HG1.out hg2)
      clear hg2
      go_wp2_with (go_at_call 12; refine (HR.out _).mono ?_; rintro e w' ⟨rfl, rfl⟩)
      go_ret
      exact ⟨rfl, HG2.out.alloc _ _⟩
set_option maxHeartbeats 1000000 in
theorem num_none (op : Int) (w : World) (hm : Mx w) (C : OFN op) (R : ∀ w, Calls Try.prog 12 #[.int .i64 op] w fun e w' => e = .returned (.int .i64 0) ∧ w = w') :
    Calls Try.prog 5 #[.int .i64 op] w fun e w' => e = .returned (.bool true) ∧ Gr w w' := by
  have HM := Lib.hid hm
  have HC := Lib.hid C
  have HR := Lib.hid R
  clear hm C R
  go_enter Try.func5, Try.ntmps5
  go_wp2_with fail
  refine (awake_any _ HM.out).mono ?_
  rintro e w1 ⟨rfl, hg1⟩
  have HG1 := Lib.hid hg1
  clear hg1
  go_wp2_with fail
  refine (HC.out _).mono ?_
  rintro e w2 ⟨rfl, hg2⟩
  have HG2 := Lib.hid (gr_trans HG1.out hg2)
  clear hg2
  simp only [inf]
  go_wp2_with (go_at_call 12; refine (HR.out _).mono ?_; rintro e w' ⟨rfl, rfl⟩)
  go_ret
  exact ⟨rfl, HG2.out.alloc _ _⟩
theorem numbers_any (op : Int) (hop : op ≤ 9223372036854775807) (w : World) (hm : Mx w) :
    Calls Try.prog 5 #[.int .i64 op] w fun e w' => e = .returned (.bool true) ∧ Gr w w' := by
  have R := arity_any op hop
  rcases of_any op hop with ⟨h, h0⟩ | ⟨f, l, s, h, g⟩
  · rw [h0] at R
    exact num_none op w hm h R
  · refine num_some op f l (arI op) (cutP s) (cutA s).size (cutB s).size w hm g.fit.2.1 g.fit.2.2 (fun w hm => (ofy_lit h w hm).mono fun e w' ⟨xi, ci, xo, co, h1, h2, _⟩ => ⟨xi, ci, xo, co, h1, h2⟩) R ?_
    rcases num_cases g.num with ⟨a, b, c, d, e, i⟩ | ⟨a, b⟩
    · exact .inl ⟨a, of_decide_eq_true b, c, d, e, i⟩
    · refine .inr ⟨a, ?_⟩
      rcases b with b | b | b | b
      · exact .inl b
      · exact .inr (.inl (of_decide_eq_false b))
      · exact .inr (.inr (.inl b))
      · exact .inr (.inr (.inr b))
end Ins
end Go.Proofs.Ytakleaonmlompaa
