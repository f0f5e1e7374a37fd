/-
  Of layer 4: the reference's words: the parts of a string between blanks, in new memory. Condition: the string has at most 1000 bytes.
-/
import Derived.Test.YtakleaonmlompaaInsR1
namespace Go.Proofs.Ytakleaonmlompaa
open Go.RowKit
namespace Ins
/-- does a word end at place i? -/
def spB (s : ByteArray) (i : Nat) : Bool := if h : i < s.size then s[i].toNat == 32 else true
/-- the words that end ahead of place i, and where the next one begins -/
def wst (s : ByteArray) : Nat → List ByteArray × Nat
  | 0 => ([], 0)
  | i + 1 => if spB s i then ((wst s i).1 ++ [s.extract (wst s i).2 i], i + 1) else wst s i
def strs (l : List ByteArray) : List Value := l.map Value.string
theorem wst_le (s : ByteArray) : ∀ k, (wst s k).2 ≤ k ∧ (wst s k).1.length ≤ k
  | 0 => ⟨Nat.le_refl _, Nat.le_refl _⟩
  | k + 1 => by
    have ih := wst_le s k
    simp only [wst]
    split
    · exact ⟨Nat.le_refl _, by simp; omega⟩
    · omega
def wds (s : ByteArray) : List ByteArray := (wst s (s.size + 1)).1
theorem infoStr : (Try.prog.info? 9).map (fun i => (i.zero, i.size, i.bytes)) = some (some (.string { data := #[] }), 1, 16) := by kernel_rfl
set_option maxHeartbeats 4000000 in
theorem words_any (s : ByteArray) (w : World) (hs : s.size ≤ 1000) :
    Calls Try.prog 23 #[.string s] w fun e w' => ∃ sv, e = .returned sv ∧ Gr w w' ∧ w'.ownsRow w.heap.size 9 1 sv (wds s).length (strs (wds s)) := by
  obtain ⟨i0, hi, hz0, hz1, hz2⟩ := info_parts infoStr
  have HI := Lib.hid hi
  have HZ0 := Lib.hid hz0
  have HZ1 := Lib.hid hz1
  have HZ2 := Lib.hid hz2
  clear hi hz0 hz1 hz2
  go_enter Try.func23, Try.ntmps23
  go_wp2_with fail
  go_loopw [5, 4, 3] (fun i fv sv wr => ∃ k f m : Nat, ∃ ls : List ByteArray, k ≤ s.size + 1 ∧ i = .int .i64 k ∧ fv = .int .i64 f ∧ f ≤ k ∧ m ≤ k ∧ wst s k = (ls, f) ∧ m = ls.length ∧ Gr w wr ∧ wr.ownsRow w.heap.size 9 1 sv m (strs ls)) (fun i _ _ _ => s.size + 1 - (intOf i).toNat)
  case atStart => exact ⟨0, 0, 0, [], by omega, rfl, rfl, by omega, by omega, rfl, rfl, Gr.refl _, World.ownsRow_nil _ _ _ _⟩
  case round =>
    obtain ⟨k, f, m, ls, hk, rfl, rfl, hf, hmk, hw, hm, hg, hown⟩ := hrel
    have HG := Lib.hid hg
    have HO := Lib.hid hown
    have HW := Lib.hid hw
    have HMl := Lib.hid hm
    clear hg hown hw hm
    by_cases hlt : k ≤ s.size
    · have HS := Lib.hid (show wst s (k + 1) = if spB s k then (ls ++ [s.extract f k], k + 1) else (ls, f) by rw [wst, HW.out])
      by_cases he : k = s.size
      · have HB := Lib.hid (show wst s (k + 1) = (ls ++ [s.extract f k], k + 1) by rw [HS.out, if_pos (by unfold spB; rw [dif_neg (by omega)])])
        subst he
        go_wp2_with (at_builtin; refine wpList_append_own _ rfl _ _ 41 rfl w.heap.size 9 i0 (.string { data := #[] }) 1 16 Try.underlying41 HI.out HZ0.out HZ1.out HZ2.out rfl (by decide) u3 m _ rfl (HO.out.alloc _) ⟨wr.heap.size, 0, none⟩ 1 1 [.string (s.extract f s.size)] rfl rfl ?c1 ?c2 ?c3 ?c4 ?c5 ?_)
        case c1 =>
          intro j u hju
          match j, hju with
          | 0, hju => simp at hju; subst hju; exact (cell_of_row _ _ 0 _ _ _ (heap_alloc_new wr _)).trans rfl
        case c2 => intro u hu; simp at hu; subst hu; rfl
        case c3 => unfold maxLen; omega
        case c4 => omega
        case c5 => have := HG.out.size; simp; omega
        intro v' w2 hown2 hgb _
        have hrow : ∀ q, u3.ownBlock = some q → w.heap.size ≤ q := fun q hq => (HO.out.lt q hq).1
        have hgr : Gr w w2 := (HG.out.allocO _).grown hgb (fun q hq => by have := hrow q hq; omega)
        have hown3 : w2.ownsRow w.heap.size 9 1 v' (m + 1) (strs (ls ++ [s.extract f s.size])) := by unfold strs at hown2 ⊢; rw [List.map_append]; exact hown2
        have H1 := Lib.hid hgr
        have H3 := Lib.hid hown3
        clear hown2 hgb hrow hgr hown3
        go_wp2
        exact ⟨⟨s.size + 1, s.size + 1, m + 1, ls ++ [s.extract f s.size], by omega, by go_num, by go_num, by omega, by omega, HB.out, by rw [List.length_append, ← HMl.out] <;> rfl, H1.out, H3.out⟩, by simp [intOf] <;> omega⟩
      · have hlt2 : k < s.size := by omega
        have hne : ((k : Int) == (s.size : Int)) = false := beq_eq_false_iff_ne.2 (by omega)
        have hle : f ≤ s.size := by omega
        by_cases h32 : s[k].toNat = 32
        · have HB := Lib.hid (show wst s (k + 1) = (ls ++ [s.extract f k], k + 1) by rw [HS.out, if_pos (by unfold spB; rw [dif_pos hlt2]; simp [h32])])
          have h32' : (s[k].toNat : Int) = 32 := by omega
          clear h32 he
          go_wp2_with (at_builtin; refine wpList_append_own _ rfl _ _ 41 rfl w.heap.size 9 i0 (.string { data := #[] }) 1 16 Try.underlying41 HI.out HZ0.out HZ1.out HZ2.out rfl (by decide) u3 m _ rfl (HO.out.alloc _) ⟨wr.heap.size, 0, none⟩ 1 1 [.string (s.extract f k)] rfl rfl ?c1 ?c2 ?c3 ?c4 ?c5 ?_)
          case c1 =>
            intro j u hju
            match j, hju with
            | 0, hju => simp at hju; subst hju; exact (cell_of_row _ _ 0 _ _ _ (heap_alloc_new wr _)).trans rfl
          case c2 => intro u hu; simp at hu; subst hu; rfl
          case c3 => unfold maxLen; omega
          case c4 => omega
          case c5 => have := HG.out.size; simp; omega
          intro v' w2 hown2 hgb _
          have hrow : ∀ q, u3.ownBlock = some q → w.heap.size ≤ q := fun q hq => (HO.out.lt q hq).1
          have hgr : Gr w w2 := (HG.out.allocO _).grown hgb (fun q hq => by have := hrow q hq; omega)
          have hown3 : w2.ownsRow w.heap.size 9 1 v' (m + 1) (strs (ls ++ [s.extract f k])) := by unfold strs at hown2 ⊢; rw [List.map_append]; exact hown2
          have H1 := Lib.hid hgr
          have H3 := Lib.hid hown3
          clear hown2 hgb hrow hgr hown3
          go_wp2
          exact ⟨⟨k + 1, k + 1, m + 1, ls ++ [s.extract f k], by omega, by go_num, by go_num, by omega, by omega, HB.out, by rw [List.length_append, ← HMl.out] <;> rfl, H1.out, H3.out⟩, by simp [intOf] <;> omega⟩
        · have HB := Lib.hid (show wst s (k + 1) = (ls, f) by rw [HS.out, if_neg (by unfold spB; rw [dif_pos hlt2]; simp [h32])])
          have h32' : ((s[k].toNat : Int) == 32) = false := beq_eq_false_iff_ne.2 (by omega)
          clear h32 he
          go_wp2
          exact ⟨⟨k + 1, f, m, ls, by omega, by go_num, rfl, by omega, by omega, HB.out, HMl.out, HG.out, HO.out⟩, by simp [intOf]; omega⟩
    · obtain rfl : k = s.size + 1 := by omega
      go_wp2
      go_ret
      refine ⟨_, rfl, HG.out, ?_⟩
      have e : wds s = ls := by unfold wds; rw [HW.out]
      rw [e, ← HMl.out]
      exact HO.out
end Ins
end Go.Proofs.Ytakleaonmlompaa
