/-
  Of layer 4: the reference's Same on answers that read alike; InstrApart: for every op the law returns true. Condition: the library's MaxLen reads as some number.
-/
import Derived.Test.YtakleaonmlompaaInsLaw
namespace Go.Proofs.Ytakleaonmlompaa
open Go.RowKit
namespace Ins
/-- a slice of ints that reads as zs -/
def IL (w : World) (x : Option Addr) (n : Nat) (zs : Nat → Int) : Prop := n = 0 ∨ ∃ b, x = some ⟨b, 0, none⟩ ∧ ∀ j, j < n → w.cell? ⟨b, j, none⟩ = some (.int .i64 (zs j))
theorem il_gr {w w' : World} {x : Option Addr} {n : Nat} {zs : Nat → Int} (h : IL w x n zs) (hg : Gr w w') : IL w' x n zs := by
  rcases h with h | ⟨b, h1, h2⟩
  · exact .inl h
  · exact .inr ⟨b, h1, fun j hj => gr_cell hg (h2 j hj)⟩
def cz (s : ByteArray) (j : Nat) : Int := if h : j < s.size then code s[j] else 0
theorem il_of_lst {w : World} {x : Option Addr} {s : ByteArray} (h : Lst w x s) : IL w x s.size (cz s) := by
  rcases h with h | ⟨b, h1, h2⟩
  · exact .inl h
  · exact .inr ⟨b, h1, fun j hj => by rw [h2 j hj]; unfold cz; rw [dif_pos hj]⟩
set_option maxHeartbeats 1000000 in
theorem types_same (x y : Option Addr) (n c d : Nat) (zs : Nat → Int) (w : World) (hn : n ≤ 1000) (hx : IL w x n zs) (hy : IL w y n zs) :
    Calls Try.prog 19 #[.slice x n c, .slice y n d] w fun e w' => e = .returned (.bool true) ∧ Gr w w' := by
  by_cases h0 : n = 0
  · subst h0
    clear hx hy
    go_enter Try.func19, Try.ntmps19
    go_wp2_with fail
    refine wp_loop_rounds 1 ?_
    rw [rounds_succ]
    go_wp2
    go_ret
    exact ⟨rfl, Gr.refl _⟩
  · rcases hx with h | ⟨b, rfl, hb⟩
    · exact absurd h h0
    rcases hy with h | ⟨b', rfl, hb'⟩
    · exact absurd h h0
    have HC := Lib.hid hb
    have HC' := Lib.hid hb'
    clear hb hb' h0
    go_enter Try.func19, Try.ntmps19
    go_wp2_with fail
    go_loopw [5] (fun i wr => ∃ k : Nat, k ≤ n ∧ i = .int .i64 k ∧ Gr w wr) (fun i _ => n - (intOf i).toNat)
    case atStart => exact ⟨0, by omega, rfl, Gr.refl _⟩
    case round =>
      obtain ⟨k, hk, rfl, hg⟩ := hrel
      have HG := Lib.hid hg
      clear hg
      by_cases hlt : k < n
      · have h1 := gr_cell HG.out (HC.out k hlt)
        have h2 := gr_cell HG.out (HC'.out k hlt)
        go_wp2_with fail
        go_quiet (fail)
        go_wp2
        exact ⟨⟨k + 1, by omega, by go_num, HG.out.drewN _⟩, by simp [intOf]; omega⟩
      · go_wp2
        go_ret
        exact ⟨rfl, HG.out⟩
set_option maxHeartbeats 2000000 in
theorem same_any (f l : Int) (p : Bool) (x y x' y' : Option Addr) (n m c d c' d' : Nat) (zs ys : Nat → Int) (w : World) (hn : n ≤ 1000) (hm : m ≤ 1000) (hx : IL w x n zs) (hx' : IL w x' n zs) (hy : IL w y m ys) (hy' : IL w y' m ys) :
    Calls Try.prog 10 #[.agg #[.int .i64 f, .int .i64 l, .bool p, .slice x n c, .slice y m d], .agg #[.int .i64 f, .int .i64 l, .bool p, .slice x' n c', .slice y' m d']] w fun e w' => e = .returned (.bool true) ∧ Gr w w' := by
  have A1 := fun w1 (h : Gr w w1) => types_same x x' n c c' zs w1 hn (il_gr hx h) (il_gr hx' h)
  have A2 := fun w1 (h : Gr w w1) => types_same y y' m d d' ys w1 hm (il_gr hy h) (il_gr hy' h)
  have H1 := Lib.hid A1
  have H2 := Lib.hid A2
  clear A1 A2 hx hx' hy hy'
  go_enter Try.func10, Try.ntmps10
  go_wp2_with fail
  refine (H1.out _ (((Gr.refl w).alloc _ _).alloc _ _)).mono ?_
  rintro e w1 ⟨rfl, hg1⟩
  obtain ⟨_, _, _, _, a4⟩ := cells5 (gr_block hg1 (heap_alloc2_old w _ _))
  obtain ⟨_, _, _, _, b4⟩ := cells5 (gr_block hg1 (heap_alloc2_new w _ _))
  have HG1 := Lib.hid (gr_trans (((Gr.refl w).alloc _ _).alloc _ _) hg1)
  clear hg1
  go_wp2_with fail
  refine (H2.out _ HG1.out).mono ?_
  rintro e w2 ⟨rfl, hg2⟩
  have HG2 := Lib.hid (gr_trans HG1.out hg2)
  clear hg2 a4 b4
  go_wp2
  go_ret
  exact ⟨rfl, HG2.out⟩
set_option maxHeartbeats 1000000 in
theorem apart_none (op : Int) (w : World) (hm : Mx w) (C : OFN op) :
    Calls Try.prog 4 #[.int .i64 op] w fun e w' => e = .returned (.bool true) ∧ Gr w w' := by
  have HM := Lib.hid hm
  have HC := Lib.hid C
  clear hm C
  go_enter Try.func4, Try.ntmps4
  go_wp2_with fail
  refine (awake_any _ HM.out).mono ?_
  rintro e w1 ⟨rfl, hg1⟩
  have HG1 := Lib.hid hg1
  clear hg1
  go_wp2_with fail
  refine (HC.out _).mono ?_
  rintro e w2 ⟨rfl, hg2⟩
  have HG2 := Lib.hid (gr_trans HG1.out hg2)
  clear hg2
  simp only [inf]
  go_wp2_with fail
  refine (same_any 0 0 false none none none none 0 0 0 0 0 0 (fun _ => 0) (fun _ => 0) _ (by decide) (by decide) (.inl rfl) (.inl rfl) (.inl rfl) (.inl rfl)).mono ?_
  rintro e w3 ⟨rfl, hg3⟩
  have HG3 := Lib.hid (gr_trans (HG2.out.alloc _ _) hg3)
  clear hg3
  go_wp2
  go_ret
  exact ⟨rfl, HG3.out⟩
/-- how a known opcode's shape may be -/
inductive Shape : Int → Int → Bool → Nat → Nat → (Nat → Int) → Prop
  | mem (f l : Int) (nA nB : Nat) (zs : Nat → Int) (h : f = 7 ∨ f = 8) (hl : 0 ≤ l ∧ l ≤ 4) (hA : 1 ≤ nA) (hz : zs 0 = 127) : Shape f l true nA nB zs
  | lane (l : Int) (nA nB : Nat) (zs : Nat → Int) (hl : l = 16 ∨ l = 8 ∨ l = 4 ∨ l = 2) (hA : 1 ≤ nA) (hz : zs 0 = 123) : Shape 13 l true nA nB zs
  | plain (f : Int) (nA nB : Nat) (zs : Nat → Int) (h : 1 ≤ f ∧ f ≤ 14) (h7 : f ≠ 7) (h8 : f ≠ 8) (h13 : f ≠ 13) : Shape f 0 true nA nB zs
  | bare (f : Int) (zs : Nat → Int) (h : 1 ≤ f ∧ f ≤ 14) (h7 : f ≠ 7) (h8 : f ≠ 8) (h13 : f ≠ 13) : Shape f 0 false 0 0 zs
def AST (f l : Int) (p : Bool) (nA nB : Nat) (zs : Nat → Int) (w : World) (e : Ending) (w' : World) : Prop :=
  ∃ xi ci xo co, e = .returned (.tuple #[.agg #[.int .i64 f, .int .i64 l, .bool p, .slice xi nA ci, .slice xo nB co], .bool true]) ∧ Gr w w' ∧ IL w' xi nA zs
set_option maxRecDepth 100000 in
set_option maxHeartbeats 4000000 in
theorem apart_m7 (op : Int) (l : Int) (nA nB : Nat) (zs : Nat → Int) (w : World) (hm : Mx w) (hl : 0 ≤ l ∧ l ≤ 4) (hA1 : 1 ≤ nA) (hz : zs 0 = 127) (hA : nA ≤ 3) (hB : nB ≤ 1) (hall : ∀ j, zs j = 127 ∨ zs j = 126 ∨ zs j = 123 ∨ nA ≤ j)
    (C : ∀ w, Mx w → Calls Try.prog 9 #[.int .i64 op] w (AST 7 l true nA nB zs w)) (R : ∀ w, Calls Try.prog 11 #[.int .i64 op] w fun e w' => e = .returned (.bool false) ∧ w = w') :
    Calls Try.prog 4 #[.int .i64 op] w fun e w' => e = .returned (.bool true) ∧ Gr w w' := by
  have HM := Lib.hid hm
  have HC := Lib.hid C
  have HR := Lib.hid R
  have HALL := Lib.hid hall
  clear hm C R hall
  go_enter Try.func4, Try.ntmps4
  go_wp2_with fail
  refine (awake_any _ HM.out).mono ?_
  rintro e w1 ⟨rfl, hg1⟩
  have HG1 := Lib.hid hg1
  clear hg1
  go_wp2_with fail
  refine (HC.out _ (mx_gr HM.out HG1.out)).mono ?_
  rintro e w2 ⟨xi, ci, xo, co, rfl, hg2, hil⟩
  have HG2 := Lib.hid (gr_trans HG1.out hg2)
  have HIL := Lib.hid hil
  clear hg2 hil
  go_wp2_with (go_at_call 11; refine (HR.out _).mono ?_; rintro e w' ⟨rfl, rfl⟩)
  go_loopw [5] (fun i wr => ∃ k : Nat, k ≤ nA ∧ i = .int .i64 k ∧ Gr w2 wr ∧ wr.heap[w2.heap.size]? = some (.cells #[.int .i64 7, .int .i64 l, .bool true, .slice xi nA ci, .slice xo nB co] 27 (0, 0))) (fun i _ => nA - (intOf i).toNat)
  case atStart => exact ⟨0, by omega, rfl, (Gr.refl _).alloc _ _, heap_alloc_new w2 _⟩
  case round =>
    obtain ⟨k, hk, rfl, hg, hblk⟩ := hrel
    obtain ⟨q0, q1, q2, q3, q4⟩ := cells5 hblk
    have HG := Lib.hid hg
    have HK := Lib.hid hblk
    clear hg hblk
    by_cases hlt : k < nA
    · rcases HIL.out with h0 | ⟨b, hxb, hcell⟩
      · omega
      · subst hxb
        have hc := gr_cell HG.out (hcell k hlt)
        clear hcell
        have hv : zs k = 127 ∨ (zs k != 127) = true ∧ zs k = 126 ∨ (zs k != 127) = true ∧ (zs k != 126) = true ∧ zs k = 123 := by
          rcases HALL.out k with h | h | h | h
          · exact .inl h
          · exact .inr (.inl ⟨by rw [h]; rfl, h⟩)
          · exact .inr (.inr ⟨by rw [h]; rfl, by rw [h]; rfl, h⟩)
          · omega
        rcases hv with h1 | ⟨_, h1⟩ | ⟨_, _, h1⟩
        all_goals
          rw [h1] at hc
          clear h1
          go_wp2
          exact ⟨⟨k + 1, by omega, by go_num, HG.out, HK.out⟩, by simp [intOf]; omega⟩
    · obtain rfl : nA = k := by omega
      have hz0 := fun (b : Nat) (h : ∀ j, j < nA → w2.cell? ⟨b, j, none⟩ = some (.int .i64 (zs j))) (h1 : 0 < nA) => gr_cell HG.out (h 0 h1)
      rcases HIL.out with h0 | ⟨b, hxb, hcell⟩
      · omega
      · subst hxb
        have hc := hz0 b hcell (by omega)
        rw [hz] at hc
        clear hcell hz0 hz
        go_wp2
        go_ret
        exact ⟨rfl, gr_trans HG2.out HG.out⟩
set_option maxRecDepth 100000 in
set_option maxHeartbeats 4000000 in
theorem apart_m8 (op : Int) (l : Int) (nA nB : Nat) (zs : Nat → Int) (w : World) (hm : Mx w) (hl : 0 ≤ l ∧ l ≤ 4) (hA1 : 1 ≤ nA) (hz : zs 0 = 127) (hA : nA ≤ 3) (hB : nB ≤ 1) (hall : ∀ j, zs j = 127 ∨ zs j = 126 ∨ zs j = 123 ∨ nA ≤ j)
    (C : ∀ w, Mx w → Calls Try.prog 9 #[.int .i64 op] w (AST 8 l true nA nB zs w)) (R : ∀ w, Calls Try.prog 11 #[.int .i64 op] w fun e w' => e = .returned (.bool false) ∧ w = w') :
    Calls Try.prog 4 #[.int .i64 op] w fun e w' => e = .returned (.bool true) ∧ Gr w w' := by
  have HM := Lib.hid hm
  have HC := Lib.hid C
  have HR := Lib.hid R
  have HALL := Lib.hid hall
  clear hm C R hall
  go_enter Try.func4, Try.ntmps4
  go_wp2_with fail
  refine (awake_any _ HM.out).mono ?_
  rintro e w1 ⟨rfl, hg1⟩
  have HG1 := Lib.hid hg1
  clear hg1
  go_wp2_with fail
  refine (HC.out _ (mx_gr HM.out HG1.out)).mono ?_
  rintro e w2 ⟨xi, ci, xo, co, rfl, hg2, hil⟩
  have HG2 := Lib.hid (gr_trans HG1.out hg2)
  have HIL := Lib.hid hil
  clear hg2 hil
  go_wp2_with (go_at_call 11; refine (HR.out _).mono ?_; rintro e w' ⟨rfl, rfl⟩)
  go_loopw [5] (fun i wr => ∃ k : Nat, k ≤ nA ∧ i = .int .i64 k ∧ Gr w2 wr ∧ wr.heap[w2.heap.size]? = some (.cells #[.int .i64 8, .int .i64 l, .bool true, .slice xi nA ci, .slice xo nB co] 27 (0, 0))) (fun i _ => nA - (intOf i).toNat)
  case atStart => exact ⟨0, by omega, rfl, (Gr.refl _).alloc _ _, heap_alloc_new w2 _⟩
  case round =>
    obtain ⟨k, hk, rfl, hg, hblk⟩ := hrel
    obtain ⟨q0, q1, q2, q3, q4⟩ := cells5 hblk
    have HG := Lib.hid hg
    have HK := Lib.hid hblk
    clear hg hblk
    by_cases hlt : k < nA
    · rcases HIL.out with h0 | ⟨b, hxb, hcell⟩
      · omega
      · subst hxb
        have hc := gr_cell HG.out (hcell k hlt)
        clear hcell
        have hv : zs k = 127 ∨ (zs k != 127) = true ∧ zs k = 126 ∨ (zs k != 127) = true ∧ (zs k != 126) = true ∧ zs k = 123 := by
          rcases HALL.out k with h | h | h | h
          · exact .inl h
          · exact .inr (.inl ⟨by rw [h]; rfl, h⟩)
          · exact .inr (.inr ⟨by rw [h]; rfl, by rw [h]; rfl, h⟩)
          · omega
        rcases hv with h1 | ⟨_, h1⟩ | ⟨_, _, h1⟩
        all_goals
          rw [h1] at hc
          clear h1
          go_wp2
          exact ⟨⟨k + 1, by omega, by go_num, HG.out, HK.out⟩, by simp [intOf]; omega⟩
    · obtain rfl : nA = k := by omega
      have hz0 := fun (b : Nat) (h : ∀ j, j < nA → w2.cell? ⟨b, j, none⟩ = some (.int .i64 (zs j))) (h1 : 0 < nA) => gr_cell HG.out (h 0 h1)
      rcases HIL.out with h0 | ⟨b, hxb, hcell⟩
      · omega
      · subst hxb
        have hc := hz0 b hcell (by omega)
        rw [hz] at hc
        clear hcell hz0 hz
        go_wp2
        go_ret
        exact ⟨rfl, gr_trans HG2.out HG.out⟩
set_option maxRecDepth 100000 in
set_option maxHeartbeats 4000000 in
theorem apart_l16 (op : Int) (nA nB : Nat) (zs : Nat → Int) (w : World) (hm : Mx w) (hA1 : 1 ≤ nA) (hz : zs 0 = 123) (hA : nA ≤ 3) (hB : nB ≤ 1) (hall : ∀ j, zs j = 127 ∨ zs j = 126 ∨ zs j = 123 ∨ nA ≤ j)
    (C : ∀ w, Mx w → Calls Try.prog 9 #[.int .i64 op] w (AST 13 16 true nA nB zs w)) (R : ∀ w, Calls Try.prog 11 #[.int .i64 op] w fun e w' => e = .returned (.bool false) ∧ w = w') :
    Calls Try.prog 4 #[.int .i64 op] w fun e w' => e = .returned (.bool true) ∧ Gr w w' := by
  have HM := Lib.hid hm
  have HC := Lib.hid C
  have HR := Lib.hid R
  have HALL := Lib.hid hall
  clear hm C R hall
  go_enter Try.func4, Try.ntmps4
  go_wp2_with fail
  refine (awake_any _ HM.out).mono ?_
  rintro e w1 ⟨rfl, hg1⟩
  have HG1 := Lib.hid hg1
  clear hg1
  go_wp2_with fail
  refine (HC.out _ (mx_gr HM.out HG1.out)).mono ?_
  rintro e w2 ⟨xi, ci, xo, co, rfl, hg2, hil⟩
  have HG2 := Lib.hid (gr_trans HG1.out hg2)
  have HIL := Lib.hid hil
  clear hg2 hil
  go_wp2_with (go_at_call 11; refine (HR.out _).mono ?_; rintro e w' ⟨rfl, rfl⟩)
  go_loopw [5] (fun i wr => ∃ k : Nat, k ≤ nA ∧ i = .int .i64 k ∧ Gr w2 wr ∧ wr.heap[w2.heap.size]? = some (.cells #[.int .i64 13, .int .i64 16, .bool true, .slice xi nA ci, .slice xo nB co] 27 (0, 0))) (fun i _ => nA - (intOf i).toNat)
  case atStart => exact ⟨0, by omega, rfl, (Gr.refl _).alloc _ _, heap_alloc_new w2 _⟩
  case round =>
    obtain ⟨k, hk, rfl, hg, hblk⟩ := hrel
    obtain ⟨q0, q1, q2, q3, q4⟩ := cells5 hblk
    have HG := Lib.hid hg
    have HK := Lib.hid hblk
    clear hg hblk
    by_cases hlt : k < nA
    · rcases HIL.out with h0 | ⟨b, hxb, hcell⟩
      · omega
      · subst hxb
        have hc := gr_cell HG.out (hcell k hlt)
        clear hcell
        have hv : zs k = 127 ∨ (zs k != 127) = true ∧ zs k = 126 ∨ (zs k != 127) = true ∧ (zs k != 126) = true ∧ zs k = 123 := by
          rcases HALL.out k with h | h | h | h
          · exact .inl h
          · exact .inr (.inl ⟨by rw [h]; rfl, h⟩)
          · exact .inr (.inr ⟨by rw [h]; rfl, by rw [h]; rfl, h⟩)
          · omega
        rcases hv with h1 | ⟨_, h1⟩ | ⟨_, _, h1⟩
        all_goals
          rw [h1] at hc
          clear h1
          go_wp2
          exact ⟨⟨k + 1, by omega, by go_num, HG.out, HK.out⟩, by simp [intOf]; omega⟩
    · obtain rfl : nA = k := by omega
      have hz0 := fun (b : Nat) (h : ∀ j, j < nA → w2.cell? ⟨b, j, none⟩ = some (.int .i64 (zs j))) (h1 : 0 < nA) => gr_cell HG.out (h 0 h1)
      rcases HIL.out with h0 | ⟨b, hxb, hcell⟩
      · omega
      · subst hxb
        have hc := hz0 b hcell (by omega)
        rw [hz] at hc
        clear hcell hz0 hz
        go_wp2
        go_ret
        exact ⟨rfl, gr_trans HG2.out HG.out⟩
set_option maxRecDepth 100000 in
set_option maxHeartbeats 4000000 in
theorem apart_l8 (op : Int) (nA nB : Nat) (zs : Nat → Int) (w : World) (hm : Mx w) (hA1 : 1 ≤ nA) (hz : zs 0 = 123) (hA : nA ≤ 3) (hB : nB ≤ 1) (hall : ∀ j, zs j = 127 ∨ zs j = 126 ∨ zs j = 123 ∨ nA ≤ j)
    (C : ∀ w, Mx w → Calls Try.prog 9 #[.int .i64 op] w (AST 13 8 true nA nB zs w)) (R : ∀ w, Calls Try.prog 11 #[.int .i64 op] w fun e w' => e = .returned (.bool false) ∧ w = w') :
    Calls Try.prog 4 #[.int .i64 op] w fun e w' => e = .returned (.bool true) ∧ Gr w w' := by
  have HM := Lib.hid hm
  have HC := Lib.hid C
  have HR := Lib.hid R
  have HALL := Lib.hid hall
  clear hm C R hall
  go_enter Try.func4, Try.ntmps4
  go_wp2_with fail
  refine (awake_any _ HM.out).mono ?_
  rintro e w1 ⟨rfl, hg1⟩
  have HG1 := Lib.hid hg1
  clear hg1
  go_wp2_with fail
  refine (HC.out _ (mx_gr HM.out HG1.out)).mono ?_
  rintro e w2 ⟨xi, ci, xo, co, rfl, hg2, hil⟩
  have HG2 := Lib.hid (gr_trans HG1.out hg2)
  have HIL := Lib.hid hil
  clear hg2 hil
  go_wp2_with (go_at_call 11; refine (HR.out _).mono ?_; rintro e w' ⟨rfl, rfl⟩)
  go_loopw [5] (fun i wr => ∃ k : Nat, k ≤ nA ∧ i = .int .i64 k ∧ Gr w2 wr ∧ wr.heap[w2.heap.size]? = some (.cells #[.int .i64 13, .int .i64 8, .bool true, .slice xi nA ci, .slice xo nB co] 27 (0, 0))) (fun i _ => nA - (intOf i).toNat)
  case atStart => exact ⟨0, by omega, rfl, (Gr.refl _).alloc _ _, heap_alloc_new w2 _⟩
  case round =>
    obtain ⟨k, hk, rfl, hg, hblk⟩ := hrel
    obtain ⟨q0, q1, q2, q3, q4⟩ := cells5 hblk
    have HG := Lib.hid hg
    have HK := Lib.hid hblk
    clear hg hblk
    by_cases hlt : k < nA
    · rcases HIL.out with h0 | ⟨b, hxb, hcell⟩
      · omega
      · subst hxb
        have hc := gr_cell HG.out (hcell k hlt)
        clear hcell
        have hv : zs k = 127 ∨ (zs k != 127) = true ∧ zs k = 126 ∨ (zs k != 127) = true ∧ (zs k != 126) = true ∧ zs k = 123 := by
          rcases HALL.out k with h | h | h | h
          · exact .inl h
          · exact .inr (.inl ⟨by rw [h]; rfl, h⟩)
          · exact .inr (.inr ⟨by rw [h]; rfl, by rw [h]; rfl, h⟩)
          · omega
        rcases hv with h1 | ⟨_, h1⟩ | ⟨_, _, h1⟩
        all_goals
          rw [h1] at hc
          clear h1
          go_wp2
          exact ⟨⟨k + 1, by omega, by go_num, HG.out, HK.out⟩, by simp [intOf]; omega⟩
    · obtain rfl : nA = k := by omega
      have hz0 := fun (b : Nat) (h : ∀ j, j < nA → w2.cell? ⟨b, j, none⟩ = some (.int .i64 (zs j))) (h1 : 0 < nA) => gr_cell HG.out (h 0 h1)
      rcases HIL.out with h0 | ⟨b, hxb, hcell⟩
      · omega
      · subst hxb
        have hc := hz0 b hcell (by omega)
        rw [hz] at hc
        clear hcell hz0 hz
        go_wp2
        go_ret
        exact ⟨rfl, gr_trans HG2.out HG.out⟩
set_option maxRecDepth 100000 in
set_option maxHeartbeats 4000000 in
theorem apart_l4 (op : Int) (nA nB : Nat) (zs : Nat → Int) (w : World) (hm : Mx w) (hA1 : 1 ≤ nA) (hz : zs 0 = 123) (hA : nA ≤ 3) (hB : nB ≤ 1) (hall : ∀ j, zs j = 127 ∨ zs j = 126 ∨ zs j = 123 ∨ nA ≤ j)
    (C : ∀ w, Mx w → Calls Try.prog 9 #[.int .i64 op] w (AST 13 4 true nA nB zs w)) (R : ∀ w, Calls Try.prog 11 #[.int .i64 op] w fun e w' => e = .returned (.bool false) ∧ w = w') :
    Calls Try.prog 4 #[.int .i64 op] w fun e w' => e = .returned (.bool true) ∧ Gr w w' := by
  have HM := Lib.hid hm
  have HC := Lib.hid C
  have HR := Lib.hid R
  have HALL := Lib.hid hall
  clear hm C R hall
  go_enter Try.func4, Try.ntmps4
  go_wp2_with fail
  refine (awake_any _ HM.out).mono ?_
  rintro e w1 ⟨rfl, hg1⟩
  have HG1 := Lib.hid hg1
  clear hg1
  go_wp2_with fail
  refine (HC.out _ (mx_gr HM.out HG1.out)).mono ?_
  rintro e w2 ⟨xi, ci, xo, co, rfl, hg2, hil⟩
  have HG2 := Lib.hid (gr_trans HG1.out hg2)
  have HIL := Lib.hid hil
  clear hg2 hil
  go_wp2_with (go_at_call 11; refine (HR.out _).mono ?_; rintro e w' ⟨rfl, rfl⟩)
  go_loopw [5] (fun i wr => ∃ k : Nat, k ≤ nA ∧ i = .int .i64 k ∧ Gr w2 wr ∧ wr.heap[w2.heap.size]? = some (.cells #[.int .i64 13, .int .i64 4, .bool true, .slice xi nA ci, .slice xo nB co] 27 (0, 0))) (fun i _ => nA - (intOf i).toNat)
  case atStart => exact ⟨0, by omega, rfl, (Gr.refl _).alloc _ _, heap_alloc_new w2 _⟩
  case round =>
    obtain ⟨k, hk, rfl, hg, hblk⟩ := hrel
    obtain ⟨q0, q1, q2, q3, q4⟩ := cells5 hblk
    have HG := Lib.hid hg
    have HK := Lib.hid hblk
    clear hg hblk
    by_cases hlt : k < nA
    · rcases HIL.out with h0 | ⟨b, hxb, hcell⟩
      · omega
      · subst hxb
        have hc := gr_cell HG.out (hcell k hlt)
        clear hcell
        have hv : zs k = 127 ∨ (zs k != 127) = true ∧ zs k = 126 ∨ (zs k != 127) = true ∧ (zs k != 126) = true ∧ zs k = 123 := by
          rcases HALL.out k with h | h | h | h
          · exact .inl h
          · exact .inr (.inl ⟨by rw [h]; rfl, h⟩)
          · exact .inr (.inr ⟨by rw [h]; rfl, by rw [h]; rfl, h⟩)
          · omega
        rcases hv with h1 | ⟨_, h1⟩ | ⟨_, _, h1⟩
        all_goals
          rw [h1] at hc
          clear h1
          go_wp2
          exact ⟨⟨k + 1, by omega, by go_num, HG.out, HK.out⟩, by simp [intOf]; omega⟩
    · obtain rfl : nA = k := by omega
      have hz0 := fun (b : Nat) (h : ∀ j, j < nA → w2.cell? ⟨b, j, none⟩ = some (.int .i64 (zs j))) (h1 : 0 < nA) => gr_cell HG.out (h 0 h1)
      rcases HIL.out with h0 | ⟨b, hxb, hcell⟩
      · omega
      · subst hxb
        have hc := hz0 b hcell (by omega)
        rw [hz] at hc
        clear hcell hz0 hz
        go_wp2
        go_ret
        exact ⟨rfl, gr_trans HG2.out HG.out⟩
set_option maxRecDepth 100000 in
set_option maxHeartbeats 4000000 in
theorem apart_l2 (op : Int) (nA nB : Nat) (zs : Nat → Int) (w : World) (hm : Mx w) (hA1 : 1 ≤ nA) (hz : zs 0 = 123) (hA : nA ≤ 3) (hB : nB ≤ 1) (hall : ∀ j, zs j = 127 ∨ zs j = 126 ∨ zs j = 123 ∨ nA ≤ j)
    (C : ∀ w, Mx w → Calls Try.prog 9 #[.int .i64 op] w (AST 13 2 true nA nB zs w)) (R : ∀ w, Calls Try.prog 11 #[.int .i64 op] w fun e w' => e = .returned (.bool false) ∧ w = w') :
    Calls Try.prog 4 #[.int .i64 op] w fun e w' => e = .returned (.bool true) ∧ Gr w w' := by
  have HM := Lib.hid hm
  have HC := Lib.hid C
  have HR := Lib.hid R
  have HALL := Lib.hid hall
  clear hm C R hall
  go_enter Try.func4, Try.ntmps4
  go_wp2_with fail
  refine (awake_any _ HM.out).mono ?_
  rintro e w1 ⟨rfl, hg1⟩
  have HG1 := Lib.hid hg1
  clear hg1
  go_wp2_with fail
  refine (HC.out _ (mx_gr HM.out HG1.out)).mono ?_
  rintro e w2 ⟨xi, ci, xo, co, rfl, hg2, hil⟩
  have HG2 := Lib.hid (gr_trans HG1.out hg2)
  have HIL := Lib.hid hil
  clear hg2 hil
  go_wp2_with (go_at_call 11; refine (HR.out _).mono ?_; rintro e w' ⟨rfl, rfl⟩)
  go_loopw [5] (fun i wr => ∃ k : Nat, k ≤ nA ∧ i = .int .i64 k ∧ Gr w2 wr ∧ wr.heap[w2.heap.size]? = some (.cells #[.int .i64 13, .int .i64 2, .bool true, .slice xi nA ci, .slice xo nB co] 27 (0, 0))) (fun i _ => nA - (intOf i).toNat)
  case atStart => exact ⟨0, by omega, rfl, (Gr.refl _).alloc _ _, heap_alloc_new w2 _⟩
  case round =>
    obtain ⟨k, hk, rfl, hg, hblk⟩ := hrel
    obtain ⟨q0, q1, q2, q3, q4⟩ := cells5 hblk
    have HG := Lib.hid hg
    have HK := Lib.hid hblk
    clear hg hblk
    by_cases hlt : k < nA
    · rcases HIL.out with h0 | ⟨b, hxb, hcell⟩
      · omega
      · subst hxb
        have hc := gr_cell HG.out (hcell k hlt)
        clear hcell
        have hv : zs k = 127 ∨ (zs k != 127) = true ∧ zs k = 126 ∨ (zs k != 127) = true ∧ (zs k != 126) = true ∧ zs k = 123 := by
          rcases HALL.out k with h | h | h | h
          · exact .inl h
          · exact .inr (.inl ⟨by rw [h]; rfl, h⟩)
          · exact .inr (.inr ⟨by rw [h]; rfl, by rw [h]; rfl, h⟩)
          · omega
        rcases hv with h1 | ⟨_, h1⟩ | ⟨_, _, h1⟩
        all_goals
          rw [h1] at hc
          clear h1
          go_wp2
          exact ⟨⟨k + 1, by omega, by go_num, HG.out, HK.out⟩, by simp [intOf]; omega⟩
    · obtain rfl : nA = k := by omega
      have hz0 := fun (b : Nat) (h : ∀ j, j < nA → w2.cell? ⟨b, j, none⟩ = some (.int .i64 (zs j))) (h1 : 0 < nA) => gr_cell HG.out (h 0 h1)
      rcases HIL.out with h0 | ⟨b, hxb, hcell⟩
      · omega
      · subst hxb
        have hc := hz0 b hcell (by omega)
        rw [hz] at hc
        clear hcell hz0 hz
        go_wp2
        go_ret
        exact ⟨rfl, gr_trans HG2.out HG.out⟩
set_option maxRecDepth 100000 in
set_option maxHeartbeats 4000000 in
theorem apart_p (op : Int) (f : Int) (nA nB : Nat) (zs : Nat → Int) (w : World) (hm : Mx w) (h : 1 ≤ f ∧ f ≤ 14) (h7 : f ≠ 7) (h8 : f ≠ 8) (h13 : f ≠ 13) (hA : nA ≤ 3) (hB : nB ≤ 1) (hall : ∀ j, zs j = 127 ∨ zs j = 126 ∨ zs j = 123 ∨ nA ≤ j)
    (C : ∀ w, Mx w → Calls Try.prog 9 #[.int .i64 op] w (AST f 0 true nA nB zs w)) (R : ∀ w, Calls Try.prog 11 #[.int .i64 op] w fun e w' => e = .returned (.bool false) ∧ w = w') :
    Calls Try.prog 4 #[.int .i64 op] w fun e w' => e = .returned (.bool true) ∧ Gr w w' := by
  have HM := Lib.hid hm
  have HC := Lib.hid C
  have HR := Lib.hid R
  have HALL := Lib.hid hall
  clear hm C R hall
  have g7 : (f == 7) = false := beq_eq_false_iff_ne.2 h7
  have g8 : (f == 8) = false := beq_eq_false_iff_ne.2 h8
  have g13 : (f == 13) = false := beq_eq_false_iff_ne.2 h13
  clear h7 h8 h13
  go_enter Try.func4, Try.ntmps4
  go_wp2_with fail
  refine (awake_any _ HM.out).mono ?_
  rintro e w1 ⟨rfl, hg1⟩
  have HG1 := Lib.hid hg1
  clear hg1
  go_wp2_with fail
  refine (HC.out _ (mx_gr HM.out HG1.out)).mono ?_
  rintro e w2 ⟨xi, ci, xo, co, rfl, hg2, hil⟩
  have HG2 := Lib.hid (gr_trans HG1.out hg2)
  have HIL := Lib.hid hil
  clear hg2 hil
  go_wp2_with (go_at_call 11; refine (HR.out _).mono ?_; rintro e w' ⟨rfl, rfl⟩)
  go_loopw [5] (fun i wr => ∃ k : Nat, k ≤ nA ∧ i = .int .i64 k ∧ Gr w2 wr ∧ wr.heap[w2.heap.size]? = some (.cells #[.int .i64 f, .int .i64 0, .bool true, .slice xi nA ci, .slice xo nB co] 27 (0, 0))) (fun i _ => nA - (intOf i).toNat)
  case atStart => exact ⟨0, by omega, rfl, (Gr.refl _).alloc _ _, heap_alloc_new w2 _⟩
  case round =>
    obtain ⟨k, hk, rfl, hg, hblk⟩ := hrel
    obtain ⟨q0, q1, q2, q3, q4⟩ := cells5 hblk
    have HG := Lib.hid hg
    have HK := Lib.hid hblk
    clear hg hblk
    by_cases hlt : k < nA
    · rcases HIL.out with h0 | ⟨b, hxb, hcell⟩
      · omega
      · subst hxb
        have hc := gr_cell HG.out (hcell k hlt)
        clear hcell
        have hv : zs k = 127 ∨ (zs k != 127) = true ∧ zs k = 126 ∨ (zs k != 127) = true ∧ (zs k != 126) = true ∧ zs k = 123 := by
          rcases HALL.out k with h | h | h | h
          · exact .inl h
          · exact .inr (.inl ⟨by rw [h]; rfl, h⟩)
          · exact .inr (.inr ⟨by rw [h]; rfl, by rw [h]; rfl, h⟩)
          · omega
        rcases hv with h1 | ⟨_, h1⟩ | ⟨_, _, h1⟩
        all_goals
          rw [h1] at hc
          clear h1
          go_wp2
          exact ⟨⟨k + 1, by omega, by go_num, HG.out, HK.out⟩, by simp [intOf]; omega⟩
    · obtain rfl : nA = k := by omega
      have hz0 := fun (b : Nat) (h : ∀ j, j < nA → w2.cell? ⟨b, j, none⟩ = some (.int .i64 (zs j))) (h1 : 0 < nA) => gr_cell HG.out (h 0 h1)
      clear hz0
      go_wp2
      go_ret
      exact ⟨rfl, gr_trans HG2.out HG.out⟩
set_option maxRecDepth 100000 in
set_option maxHeartbeats 4000000 in
theorem apart_b (op : Int) (f : Int) (zs : Nat → Int) (w : World) (hm : Mx w) (h : 1 ≤ f ∧ f ≤ 14) (h7 : f ≠ 7) (h8 : f ≠ 8) (h13 : f ≠ 13) (_hA : 0 ≤ 3) (_hB : 0 ≤ 1) (hall : ∀ j, zs j = 127 ∨ zs j = 126 ∨ zs j = 123 ∨ 0 ≤ j)
    (C : ∀ w, Mx w → Calls Try.prog 9 #[.int .i64 op] w (AST f 0 false 0 0 zs w)) (R : ∀ w, Calls Try.prog 11 #[.int .i64 op] w fun e w' => e = .returned (.bool false) ∧ w = w') :
    Calls Try.prog 4 #[.int .i64 op] w fun e w' => e = .returned (.bool true) ∧ Gr w w' := by
  have HM := Lib.hid hm
  have HC := Lib.hid C
  have HR := Lib.hid R
  have HALL := Lib.hid hall
  clear hm C R hall
  have g7 : (f == 7) = false := beq_eq_false_iff_ne.2 h7
  have g8 : (f == 8) = false := beq_eq_false_iff_ne.2 h8
  have g13 : (f == 13) = false := beq_eq_false_iff_ne.2 h13
  clear h7 h8 h13
  go_enter Try.func4, Try.ntmps4
  go_wp2_with fail
  refine (awake_any _ HM.out).mono ?_
  rintro e w1 ⟨rfl, hg1⟩
  have HG1 := Lib.hid hg1
  clear hg1
  go_wp2_with fail
  refine (HC.out _ (mx_gr HM.out HG1.out)).mono ?_
  rintro e w2 ⟨xi, ci, xo, co, rfl, hg2, hil⟩
  have HG2 := Lib.hid (gr_trans HG1.out hg2)
  have HIL := Lib.hid hil
  clear hg2 hil
  go_wp2_with (go_at_call 11; refine (HR.out _).mono ?_; rintro e w' ⟨rfl, rfl⟩)
  go_loopw [5] (fun i wr => ∃ k : Nat, k ≤ 0 ∧ i = .int .i64 k ∧ Gr w2 wr ∧ wr.heap[w2.heap.size]? = some (.cells #[.int .i64 f, .int .i64 0, .bool false, .slice xi 0 ci, .slice xo 0 co] 27 (0, 0))) (fun i _ => 0 - (intOf i).toNat)
  case atStart => exact ⟨0, by omega, rfl, (Gr.refl _).alloc _ _, heap_alloc_new w2 _⟩
  case round =>
    obtain ⟨k, hk, rfl, hg, hblk⟩ := hrel
    obtain ⟨q0, q1, q2, q3, q4⟩ := cells5 hblk
    have HG := Lib.hid hg
    have HK := Lib.hid hblk
    clear hg hblk
    by_cases hlt : k < 0
    · omega
    · obtain rfl : 0 = k := by omega
      have hz0 := fun (b : Nat) (h : ∀ j, j < 0 → w2.cell? ⟨b, j, none⟩ = some (.int .i64 (zs j))) (h1 : 0 < 0) => gr_cell HG.out (h 0 h1)
      clear hz0
      go_wp2
      go_ret
      exact ⟨rfl, gr_trans HG2.out HG.out⟩
theorem lets_0 (s : ByteArray) (v : Int) (h : 1 ≤ s.size) (hv : (lets s)[0]? = some v) : cz s 0 = v := by
  unfold cz lets at *
  rw [dif_pos (by omega)]
  rw [List.getElem?_map] at hv
  have : s.data.toList[0]? = some s[0] := by
    rw [Array.getElem?_toList]
    exact Array.getElem?_eq_getElem (by simpa using (show 0 < s.size from h))
  rw [this] at hv
  simpa using hv
theorem cz_in (s : ByteArray) (j : Nat) : cz s j = 127 ∨ cz s j = 126 ∨ cz s j = 123 ∨ s.size ≤ j := by
  unfold cz
  by_cases h : j < s.size
  · rw [dif_pos h]; unfold code
    split
    · exact .inl rfl
    · split
      · exact .inr (.inl rfl)
      · exact .inr (.inr (.inl rfl))
  · exact .inr (.inr (.inr (by omega)))
theorem shape_of {f l : Int} {s : ByteArray} (h : apartB f l s = true) : (cutA s).size ≤ 3 ∧ (cutB s).size ≤ 1 ∧ Shape f l (cutP s) (cutA s).size (cutB s).size (cz (cutA s)) := by
  unfold apartB at h
  simp only [Bool.and_eq_true, decide_eq_true_eq, Bool.or_eq_true] at h
  obtain ⟨⟨⟨⟨⟨h1, h2⟩, h3⟩, h4⟩, h5⟩, h6⟩ := h
  refine ⟨h3, h4, ?_⟩
  by_cases c : f = 7 ∨ f = 8
  · rw [if_pos c] at h6
    simp only [Bool.and_eq_true, decide_eq_true_eq] at h6
    obtain ⟨⟨⟨⟨a, b⟩, d⟩, e⟩, g⟩ := h6
    rw [a]
    exact .mem f l _ _ _ c ⟨b, d⟩ e (lets_0 _ _ e g)
  · rw [if_neg c] at h6
    by_cases c2 : f = 13
    · rw [if_pos c2] at h6
      simp only [Bool.and_eq_true, decide_eq_true_eq, Bool.or_eq_true] at h6
      obtain ⟨⟨⟨a, b⟩, d⟩, e⟩ := h6
      subst c2
      rw [a]
      exact .lane l _ _ _ (by omega) d (lets_0 _ _ d b)
    · rw [if_neg c2] at h6
      simp only [decide_eq_true_eq] at h6
      subst h6
      cases hp : cutP s
      · rw [hp] at h5
        have h5' : (cutA s).size + (cutB s).size = 0 := by simpa using h5
        have e1 : (cutA s).size = 0 := by omega
        have e2 : (cutB s).size = 0 := by omega
        rw [e1, e2]
        exact .bare f _ ⟨h1, h2⟩ (by omega) (by omega) c2
      · exact .plain f _ _ _ ⟨h1, h2⟩ (by omega) (by omega) c2
theorem apart_some (op f l : Int) (p : Bool) (nA nB : Nat) (zs : Nat → Int) (w : World) (hm : Mx w) (hA : nA ≤ 3) (hB : nB ≤ 1) (hall : ∀ j, zs j = 127 ∨ zs j = 126 ∨ zs j = 123 ∨ nA ≤ j)
    (C : ∀ w, Mx w → Calls Try.prog 9 #[.int .i64 op] w (AST f l p nA nB zs w)) (R : ∀ w, Calls Try.prog 11 #[.int .i64 op] w fun e w' => e = .returned (.bool false) ∧ w = w') (h : Shape f l p nA nB zs) :
    Calls Try.prog 4 #[.int .i64 op] w fun e w' => e = .returned (.bool true) ∧ Gr w w' := by
  cases h with
  | mem _ _ _ _ _ h hl h1 hz =>
    rcases h with rfl | rfl
    · exact apart_m7 op l nA nB zs w hm hl h1 hz hA hB hall C R
    · exact apart_m8 op l nA nB zs w hm hl h1 hz hA hB hall C R
  | lane _ _ _ _ hl h1 hz =>
    rcases hl with rfl | rfl | rfl | rfl
    · exact apart_l16 op nA nB zs w hm h1 hz hA hB hall C R
    · exact apart_l8 op nA nB zs w hm h1 hz hA hB hall C R
    · exact apart_l4 op nA nB zs w hm h1 hz hA hB hall C R
    · exact apart_l2 op nA nB zs w hm h1 hz hA hB hall C R
  | plain _ _ _ _ h h7 h8 h13 => exact apart_p op f nA nB zs w hm h h7 h8 h13 hA hB hall C R
  | bare _ _ h h7 h8 h13 => exact apart_b op f zs w hm h h7 h8 h13 hA hB hall C R
theorem apart_any (op : Int) (hop : op ≤ 9223372036854775807) (w : World) (hm : Mx w) :
    Calls Try.prog 4 #[.int .i64 op] w fun e w' => e = .returned (.bool true) ∧ Gr w w' := by
  rcases of_any op hop with ⟨h, _⟩ | ⟨f, l, s, h, g⟩
  · exact apart_none op w hm h
  · obtain ⟨a, b, c⟩ := shape_of g.apart
    have R := float_any op hop
    rw [g.float] at R
    exact apart_some op f l (cutP s) (cutA s).size (cutB s).size (cz (cutA s)) w hm a b (cz_in _) (fun w hm => (ofy_lit h w hm).mono fun e w' ⟨xi, ci, xo, co, h1, h2, h3, _⟩ => ⟨xi, ci, xo, co, h1, h2, il_of_lst h3⟩) R c
end Ins
end Go.Proofs.Ytakleaonmlompaa
