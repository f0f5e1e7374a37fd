/-
  InstrKeeps: for every op and t the law returns true. Condition: the library's MaxLen reads as some number.
-/
import Derived.Test.YtakleaonmlompaaInsAllD
import Derived.Test.YtakleaonmlompaaInsAp
import Derived.Test.YtakleaonmlompaaAppKeep
namespace Go.Proofs.Ytakleaonmlompaa
open Go.RowKit
namespace Ins
theorem owns_some {w : World} {base : Nat} {e : TypeId} {size : Nat} {v : Value} {n : Nat} {xs : List Value} (h : w.ownsRow base e size v n xs) (hn : 0 < n) : ∃ g c, v = .slice (some ⟨g, 0, none⟩) n c ∧ n ≤ c ∧ base ≤ g ∧ g < w.heap.size := by
  rcases h.2 with ⟨_, rfl⟩ | ⟨g, cap, cur, rfl, hb, hg, hnc, _⟩
  · omega
  · exact ⟨g, cap, rfl, hnc, hb, (Array.getElem?_eq_some_iff.1 hg).1⟩
def KST (ok : Bool) (f l : Int) (p : Bool) (A B : ByteArray) (w : World) (e : Ending) (w' : World) : Prop :=
  ∃ xi ci xo co, e = .returned (.tuple #[.agg #[.int .i64 f, .int .i64 l, .bool p, .slice xi A.size ci, .slice xo B.size co], .bool ok]) ∧ Gr w w' ∧ w'.ownsRow w.heap.size 3 1 (.slice xi A.size ci) A.size (codes A A.size) ∧ w'.ownsRow w.heap.size 3 1 (.slice xo B.size co) B.size (codes B B.size) ∧ ∀ q, (Value.slice xi A.size ci).ownBlock = some q → (Value.slice xo B.size co).ownBlock ≠ some q
theorem kst_of {f l : Int} {p : Bool} {A B : ByteArray} {w : World} {e : Ending} {w' : World} (h : OFD f l p A B w e w') : KST true f l p A B w e w' := by
  obtain ⟨vi, vo, h1, h2, h3, h4, h5⟩ := h
  obtain ⟨xi, ci, rfl⟩ := owns_slice h3
  obtain ⟨xo, co, rfl⟩ := owns_slice h4
  exact ⟨xi, ci, xo, co, h1, h2, h3, h4, h5⟩
theorem il_of_owns {w : World} {base : Nat} {x : Option Addr} {c : Nat} {s : ByteArray} (h : w.ownsRow base 3 1 (.slice x s.size c) s.size (codes s s.size)) : IL w x s.size (cz s) := il_of_lst (lst_of_owns h)
set_option maxRecDepth 100000 in
set_option maxHeartbeats 8000000 in
theorem keeps_some (ok : Bool) (op t f l : Int) (p : Bool) (A B : ByteArray) (hA : A.size ≤ 1000) (hB : B.size ≤ 1000) (w : World) (hm : Mx w)
    (C : ∀ w, Mx w → Calls Try.prog 9 #[.int .i64 op] w (KST ok f l p A B w)) :
    Calls Try.prog 6 #[.int .i64 op, .int .i64 t] w fun e w' => e = .returned (.bool true) ∧ Gr w w' := by
  have HM := Lib.hid hm
  have HC := Lib.hid C
  obtain ⟨i0, hi, hz0, hz1, hz2⟩ := info_parts infoI
  have HI := Lib.hid hi
  have HZ0 := Lib.hid hz0
  have HZ1 := Lib.hid hz1
  have HZ2 := Lib.hid hz2
  clear hm C hi hz0 hz1 hz2
  go_enter Try.func6, Try.ntmps6
  go_wp2_with fail
  refine (awake_any _ HM.out).mono ?_
  rintro e w1 ⟨rfl, hg1⟩
  have HG1 := Lib.hid hg1
  clear hg1
  go_wp2_with fail
  refine (HC.out _ (mx_gr HM.out HG1.out)).mono ?_
  rintro e w2 ⟨xi, ci, xo, co, rfl, hg2, oi, oo, hd⟩
  have HG2 := Lib.hid (gr_trans HG1.out hg2)
  have HS2 := Lib.hid hg2.size
  have OI2 := Lib.hid oi
  have OO2 := Lib.hid oo
  have HD := Lib.hid hd
  clear hg2 oi oo hd
  go_wp2_with fail
  refine (HC.out _ (mx_gr HM.out (HG2.out.alloc _ _))).mono ?_
  rintro e w3 ⟨yi, di, yo, dq, rfl, hg3, bi, bo, _⟩
  have G23 := Lib.hid (gr_trans ((Gr.refl w2).alloc _ _) hg3)
  have K5a := Lib.hid (gr_block hg3 (heap_alloc_new w2 _))
  have S3 := Lib.hid (show w2.heap.size + 1 ≤ w3.heap.size by have := hg3.size; simp at this; omega)
  have BI3 := Lib.hid (owns_base bi (show w2.heap.size + 1 ≤ _ by simp))
  have BO3 := Lib.hid (owns_base bo (show w2.heap.size + 1 ≤ _ by simp))
  clear hg3 bi bo
  go_wp2_with fail
  refine (HC.out _ (mx_gr HM.out ((gr_trans HG2.out G23.out).alloc _ _))).mono ?_
  rintro e w4 ⟨zi, ei, zo, eo, rfl, hg4, c_i, c_o, _⟩
  have G34 := Lib.hid (gr_trans ((Gr.refl w3).alloc _ _) hg4)
  have K7a := Lib.hid (gr_block hg4 (heap_alloc_new w3 _))
  have S4 := Lib.hid (show w3.heap.size + 1 ≤ w4.heap.size by have := hg4.size; simp at this; omega)
  have CI4 := Lib.hid (owns_base c_i (show w2.heap.size + 1 ≤ _ by have := S3.out; simp; omega))
  have CO4 := Lib.hid (owns_base c_o (show w2.heap.size + 1 ≤ _ by have := S3.out; simp; omega))
  clear hg4 c_i c_o
  go_wp2_with fail
  have G45 := Lib.hid ((Gr.refl w4).alloc #[.int .i64 f, .int .i64 l, .bool p, .slice zi A.size ei, .slice zo B.size eo] 27)
  have K9 := Lib.hid (heap_alloc_new w4 (.cells #[.int .i64 f, .int .i64 l, .bool p, .slice zi A.size ei, .slice zo B.size eo] 27))
  have S5 := Lib.hid (show w4.heap.size + 1 ≤ (w4.alloc (.cells #[.int .i64 f, .int .i64 l, .bool p, .slice zi A.size ei, .slice zo B.size eo] 27)).heap.size by simp)
  generalize w4.alloc (.cells #[.int .i64 f, .int .i64 l, .bool p, .slice zi A.size ei, .slice zo B.size eo] 27) = w5 at *
  have K7 := Lib.hid (gr_block G45.out K7a.out)
  have K5 := Lib.hid (gr_block (gr_trans G34.out G45.out) K5a.out)
  have G25 := Lib.hid (gr_trans G23.out (gr_trans G34.out G45.out))
  have OI5 := Lib.hid (owns_gr OI2.out G25.out)
  have OO5 := Lib.hid (owns_gr OO2.out G25.out)
  have BI5 := Lib.hid (owns_gr BI3.out (gr_trans G34.out G45.out))
  have BO5 := Lib.hid (owns_gr BO3.out (gr_trans G34.out G45.out))
  have CI5 := Lib.hid (owns_gr CI4.out G45.out)
  have CO5 := Lib.hid (owns_gr CO4.out G45.out)
  have HG5 := Lib.hid (gr_trans HG2.out G25.out)
  obtain ⟨ex, hex⟩ : ∃ ex : Nat → Prop, ex = fun q => (Value.slice xi A.size ci).ownBlock = some q ∨ (Value.slice xo B.size co).ownBlock = some q := ⟨_, rfl⟩
  have HEi := Lib.hid (show ∀ q, (Value.slice xi A.size ci).ownBlock = some q → ex q from fun q h => by rw [hex]; exact .inl h)
  have HEo := Lib.hid (show ∀ q, (Value.slice xo B.size co).ownBlock = some q → ex q from fun q h => by rw [hex]; exact .inr h)
  have HEb := Lib.hid (show ∀ q, ex q → w1.heap.size ≤ q ∧ q < w2.heap.size from fun q h => by
    rw [hex] at h
    rcases h with h | h
    · exact OI2.out.lt q h
    · exact OO2.out.lt q h)
  clear hex
  have N5 := Lib.hid (show ¬ ex w2.heap.size from fun h => by have := HEb.out _ h; omega)
  have N7 := Lib.hid (show ¬ ex w3.heap.size from fun h => by have := HEb.out _ h; have := S3.out; omega)
  have N9 := Lib.hid (show ¬ ex w4.heap.size from fun h => by have := HEb.out _ h; have := S3.out; have := S4.out; omega)
  have HNo := Lib.hid (show (Value.slice xo B.size co).ownBlock = none ∨ (Value.slice xo B.size co).ownBlock ≠ (Value.slice xi A.size ci).ownBlock from by
    cases h : (Value.slice xo B.size co).ownBlock with
    | none => exact .inl rfl
    | some q => exact .inr (fun e => HD.out q e.symm h))
  have HNb := Lib.hid (show ∀ (x : Option Addr) (n c : Nat) (xs : List Value) (w' : World), w'.ownsRow (w2.heap.size + 1) 3 1 (.slice x n c) n xs → ∀ q, (Value.slice x n c).ownBlock = some q → ¬ ex q from fun x n c xs w' h q hq hx => by
    have := h.lt q hq
    have := HEb.out q hx
    omega)
  go_loopw [11] (fun i wr => ∃ k : Nat, k ≤ A.size ∧ i = .int .i64 k ∧ Sep ex w5 wr ∧ (∃ xs, wr.ownsRow w1.heap.size 3 1 (.slice xi A.size ci) A.size xs) ∧ (∃ ys, wr.ownsRow w1.heap.size 3 1 (.slice xo B.size co) B.size ys)) (fun i _ => A.size - (intOf i).toNat)
  case atStart => exact ⟨0, by omega, rfl, Sep.refl _, ⟨_, OI5.out⟩, ⟨_, OO5.out⟩⟩
  case round =>
    obtain ⟨k, hk, rfl, hsq, ⟨xs, hoi⟩, ⟨ys, hoo⟩⟩ := hrel
    obtain ⟨_, _, _, q3, q4⟩ := cells5 (Sep.at_ hsq N5.out K5.out)
    have HSq := Lib.hid hsq
    have HOi := Lib.hid hoi
    have HOo := Lib.hid hoo
    clear hsq hoi hoo
    by_cases hlt : k < A.size
    · obtain ⟨g, _, he, _, _, _⟩ := owns_some HOi.out (by omega)
      obtain rfl := (Value.slice.inj he).1
      clear he
      obtain ⟨xk, hxk⟩ : ∃ xk, wr.cell? ⟨g, k, none⟩ = some xk := by
        have h1 := HOi.out.cellAt k (by omega)
        have h2 := HOi.out.1
        rw [List.getElem?_eq_getElem (by omega)] at h1
        exact ⟨_, h1⟩
      have hfz := HOi.out.frozenAt k
      go_wp2
      exact ⟨⟨k + 1, by omega, by go_num, Sep.trans HSq.out (Sep.setCell _ (p := ⟨g, k, none⟩) (HEi.out g rfl) _), ⟨_, (HOi.out.stored k _).1⟩, ⟨_, Sep.owns (Sep.setCell (ex := fun q => q = g) _ (p := ⟨g, k, none⟩) rfl _) HOo.out (fun q hq e => HD.out g rfl (e ▸ hq))⟩⟩, by simp [intOf]; omega⟩
    · go_wp2_with fail
      clear hlt hk
      go_loopw [12] (fun i wr2 => ∃ k : Nat, k ≤ B.size ∧ i = .int .i64 k ∧ Sep ex w5 wr2 ∧ (∃ xs, wr2.ownsRow w1.heap.size 3 1 (.slice xi A.size ci) A.size xs) ∧ (∃ ys, wr2.ownsRow w1.heap.size 3 1 (.slice xo B.size co) B.size ys ∧ ∀ j, j < k → ys[j]? = some (.int .i64 (wrap64 (t + 1))))) (fun i _ => B.size - (intOf i).toNat)
      case atStart => exact ⟨0, by omega, rfl, HSq.out, ⟨_, HOi.out⟩, ⟨_, HOo.out, fun j hj => by omega⟩⟩
      case round =>
        clear q3 q4 HSq HOi HOo xs ys
        obtain ⟨k2, hk, rfl, hsq, ⟨xs, hoi⟩, ⟨ys, hoo, hys⟩⟩ := hrel
        obtain ⟨_, _, _, q3, q4⟩ := cells5 (Sep.at_ hsq N5.out K5.out)
        have HSq := Lib.hid hsq
        have HOi := Lib.hid hoi
        have HOo := Lib.hid hoo
        have HYs := Lib.hid hys
        clear hsq hoi hoo hys
        by_cases hlt : k2 < B.size
        · obtain ⟨g, _, he, _, _, _⟩ := owns_some HOo.out (by omega)
          obtain rfl := (Value.slice.inj he).1
          clear he
          obtain ⟨xk, hxk⟩ : ∃ xk, wr.cell? ⟨g, k2, none⟩ = some xk := by
            have h1 := HOo.out.cellAt k2 (by omega)
            have h2 := HOo.out.1
            rw [List.getElem?_eq_getElem (by omega)] at h1
            exact ⟨_, h1⟩
          have hfz := HOo.out.frozenAt k2
          go_wp2
          exact ⟨⟨k2 + 1, by omega, by go_num, Sep.trans HSq.out (Sep.setCell _ (p := ⟨g, k2, none⟩) (HEo.out g rfl) _), ⟨_, Sep.owns (Sep.setCell (ex := fun q => q = g) _ (p := ⟨g, k2, none⟩) rfl _) HOi.out (fun q hq e => HD.out q hq (by rw [e]; rfl))⟩, ⟨_, (HOo.out.stored k2 _).1, fun j hj => by
            have h2 := HOo.out.1
            rw [List.getElem?_set]
            by_cases hjk : k2 = j
            · subst hjk
              rw [if_pos rfl, if_pos (by omega)]
            · rw [if_neg hjk]; exact HYs.out j (by omega)⟩⟩, by simp [intOf]; omega⟩
        · obtain rfl : B.size = k2 := by omega
          clear hlt hk
          go_wp2_with (at_builtin; refine wpList_append_keep rfl _ _ 25 rfl w1.heap.size 3 i0 (.int .i64 0) 1 8 Try.underlying25 HI.out HZ0.out HZ1.out HZ2.out rfl (by decide) (.slice xi A.size ci) A.size xs rfl (HOi.out.alloc _) ⟨wr.heap.size, 0, none⟩ 3 3 [.int .i64 t, .int .i64 t, .int .i64 t] rfl rfl ?a1 ?a2 (by decide) ?a3 ?a4 ?a5 ?_)
          case a1 => exact World.news_of_block (heap_alloc_new wr _)
          case a2 =>
            intro u hu
            simp only [List.mem_cons, List.not_mem_nil, or_false, or_self] at hu
            subst hu; rfl
          case a3 => unfold maxLen; omega
          case a4 => omega
          case a5 => have := HS2.out; have := S3.out; have := S4.out; have := S5.out; have := HSq.out.size; simp; omega
          intro g13 c13 w6 hx13 hgb _
          have Sa := Lib.hid (Sep.trans HSq.out (Sep.trans (Sep.of_gr ((Gr.refl wr).alloc #[.int .i64 t, .int .i64 t, .int .i64 t] 3)) (Sep.grown hgb (fun k hk => HEi.out k hk))))
          have OO6 := Lib.hid ((HOo.out.alloc (.cells #[.int .i64 t, .int .i64 t, .int .i64 t] 3)).kept hgb HNo.out)
          clear hx13 hgb q3 q4 HSq HOi HOo
          obtain ⟨_, _, _, q3, q4⟩ := cells5 (Sep.at_ Sa.out N5.out K5.out)
          go_wp2_with (at_builtin; refine wpList_append_keep rfl _ _ 25 rfl w1.heap.size 3 i0 (.int .i64 0) 1 8 Try.underlying25 HI.out HZ0.out HZ1.out HZ2.out rfl (by decide) (.slice xo B.size co) B.size ys rfl (OO6.out.alloc _) ⟨w6.heap.size, 0, none⟩ 2 2 [.int .i64 (wrap64 (t + 1)), .int .i64 (wrap64 (t + 1))] rfl rfl ?b1 ?b2 (by decide) ?b3 ?b4 ?b5 ?_)
          case b1 => exact World.news_of_block (heap_alloc_new w6 _)
          case b2 =>
            intro u hu
            simp only [List.mem_cons, List.not_mem_nil, or_false, or_self] at hu
            subst hu; rfl
          case b3 => unfold maxLen; omega
          case b4 => omega
          case b5 => have := HS2.out; have := S3.out; have := S4.out; have := S5.out; have := Sa.out.size; simp; omega
          intro g14 c14 w7 hx14 hgb hkeep
          have Sb := Lib.hid (Sep.trans Sa.out (Sep.trans (Sep.of_gr ((Gr.refl w6).alloc #[.int .i64 (wrap64 (t + 1)), .int .i64 (wrap64 (t + 1))] 3)) (Sep.grown hgb (fun k hk => HEo.out k hk))))
          have OO7 := Lib.hid hkeep
          clear hx14 hgb hkeep q3 q4 Sa OO6
          have HMx := Lib.hid (show Mx w7 from by
            obtain ⟨m, hm⟩ := HM.out
            have h0 := block_lt_of_cell hm
            exact ⟨m, Sep.cell Sb.out (fun h => by have := HEb.out _ h; have := HG1.out.size; simp at h0; omega) (gr_cell HG5.out hm)⟩)
          go_wp2_with fail
          refine (HC.out _ HMx.out).mono ?_
          rintro e w8 ⟨ui, fi, uo, fo, rfl, hg8, d_i, d_o, _⟩
          have G78 := Lib.hid hg8
          have DI8 := Lib.hid d_i
          have DO8 := Lib.hid d_o
          have S8 := Lib.hid (Nat.le_trans Sb.out.size hg8.size)
          clear hg8 d_i d_o
          go_wp2_with fail
          have G89 := Lib.hid ((Gr.refl w8).alloc #[.int .i64 f, .int .i64 l, .bool p, .slice ui A.size fi, .slice uo B.size fo] 27)
          have K15 := Lib.hid (heap_alloc_new w8 (.cells #[.int .i64 f, .int .i64 l, .bool p, .slice ui A.size fi, .slice uo B.size fo] 27))
          generalize w8.alloc (.cells #[.int .i64 f, .int .i64 l, .bool p, .slice ui A.size fi, .slice uo B.size fo] 27) = w9 at *
          have G79 := Lib.hid (gr_trans G78.out G89.out)
          have L5 := Lib.hid (gr_block G79.out (Sep.at_ Sb.out N5.out K5.out))
          have L7 := Lib.hid (gr_block G79.out (Sep.at_ Sb.out N7.out K7.out))
          have L9 := Lib.hid (gr_block G79.out (Sep.at_ Sb.out N9.out K9.out))
          have OO9 := Lib.hid (owns_gr OO7.out G79.out)
          have IBi := Lib.hid (il_of_owns (owns_gr (Sep.owns Sb.out BI5.out (HNb.out _ _ _ _ _ BI5.out)) G79.out))
          have IBo := Lib.hid (il_of_owns (owns_gr (Sep.owns Sb.out BO5.out (HNb.out _ _ _ _ _ BO5.out)) G79.out))
          have ICi := Lib.hid (il_of_owns (owns_gr (Sep.owns Sb.out CI5.out (HNb.out _ _ _ _ _ CI5.out)) G79.out))
          have ICo := Lib.hid (il_of_owns (owns_gr (Sep.owns Sb.out CO5.out (HNb.out _ _ _ _ _ CO5.out)) G79.out))
          have IDi := Lib.hid (il_of_owns (owns_gr DI8.out G89.out))
          have IDo := Lib.hid (il_of_owns (owns_gr DO8.out G89.out))
          have HG9 := Lib.hid (gr_trans (Sep.toGr HG5.out Sb.out (fun k hk => Nat.le_trans HG1.out.size (HEb.out k hk).1)) G79.out)
          go_loopw [17] (fun i wr3 => ∃ k : Nat, k ≤ B.size ∧ i = .int .i64 k ∧ Gr w9 wr3) (fun i _ => B.size - (intOf i).toNat)
          case atStart => exact ⟨0, by omega, rfl, Gr.refl _⟩
          case round =>
            obtain ⟨k3, hk, rfl, hg⟩ := hrel
            have HGr := Lib.hid hg
            obtain ⟨_, _, _, q3, q4⟩ := cells5 (gr_block hg L5.out)
            clear hg
            by_cases hlt : k3 < B.size
            · obtain ⟨g, _, he, _, _, _⟩ := owns_some OO9.out (by omega)
              obtain rfl := (Value.slice.inj he).1
              clear he
              have hc := gr_cell HGr.out ((OO9.out.cellAt k3 (by omega)).trans (HYs.out k3 hlt))
              go_wp2
              exact ⟨⟨k3 + 1, by omega, by go_num, HGr.out⟩, by simp [intOf]; omega⟩
            · obtain rfl : B.size = k3 := by omega
              obtain ⟨r0, r1, r2, r3, r4⟩ := cells5 (gr_block HGr.out L7.out)
              obtain ⟨s0, s1, s2, s3, s4⟩ := cells5 (gr_block HGr.out L9.out)
              go_wp2_with fail
              refine (same_any f l p yi yo zi zo A.size B.size di dq ei eo (cz A) (cz B) _ hA hB (il_gr IBi.out HGr.out) (il_gr ICi.out HGr.out) (il_gr IBo.out HGr.out) (il_gr ICo.out HGr.out)).mono ?_
              rintro e w10 ⟨rfl, hg10⟩
              have HG10 := Lib.hid (gr_trans HGr.out hg10)
              clear hg10 q3 q4 r0 r1 r2 r3 r4 s0 s1 s2 s3 s4
              obtain ⟨r0, r1, r2, r3, r4⟩ := cells5 (gr_block HG10.out L7.out)
              obtain ⟨s0, s1, s2, s3, s4⟩ := cells5 (gr_block HG10.out K15.out)
              go_wp2_with fail
              refine (same_any f l p yi yo ui uo A.size B.size di dq fi fo (cz A) (cz B) _ hA hB (il_gr IBi.out HG10.out) (il_gr IDi.out HG10.out) (il_gr IBo.out HG10.out) (il_gr IDo.out HG10.out)).mono ?_
              rintro e w11 ⟨rfl, hg11⟩
              have HG11 := Lib.hid (gr_trans HG9.out (gr_trans HG10.out hg11))
              clear hg11 r0 r1 r2 r3 r4 s0 s1 s2 s3 s4
              go_wp2
              go_ret
              exact ⟨rfl, HG11.out⟩
theorem keeps_any (op t : Int) (hop : op ≤ 9223372036854775807) (w : World) (hm : Mx w) :
    Calls Try.prog 6 #[.int .i64 op, .int .i64 t] w fun e w' => e = .returned (.bool true) ∧ Gr w w' := by
  rcases ofd_any op hop with ⟨h, _⟩ | ⟨f, l, s, h, g⟩
  · refine keeps_some false op t 0 0 false zs zs (by decide) (by decide) w hm (fun w _ => (h w).mono fun e w' ⟨h1, h2⟩ => ?_)
    exact ⟨none, 0, none, 0, h1, h2, World.ownsRow_nil _ _ _ _, World.ownsRow_nil _ _ _ _, fun q hq => by cases hq⟩
  · exact keeps_some true op t f l (cutP s) (cutA s) (cutB s) g.fit.2.1 g.fit.2.2 w hm (fun w hm => (h w hm).mono fun e w' h => kst_of h)
end Ins
end Go.Proofs.Ytakleaonmlompaa
