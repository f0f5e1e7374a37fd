/-
  Of layer 4: the program's types: the row of codes of a string's letters, in new memory. Condition: the string is no longer than 2^32 bytes.
-/
import Derived.Test.YtakleaonmlompaaInsSh
namespace Go.Proofs.Ytakleaonmlompaa
open Go.RowKit
namespace Ins
theorem infoI : (Try.prog.info? 3).map (fun i => (i.zero, i.size, i.bytes)) = some (some (.int .i64 0), 1, 8) := by kernel_rfl
theorem owns_gr {w w' : World} {base : Nat} {e : TypeId} {size : Nat} {v : Value} {n : Nat} {xs : List Value} (h : w.ownsRow base e size v n xs) (hg : Gr w w') : w'.ownsRow base e size v n xs :=
  h.kept (row := none) ⟨hg.os, hg.tape, hg.output, hg.size, fun k hk _ => hg.block k hk⟩ (by cases v.ownBlock <;> simp)
def code (c : UInt8) : Int := if c.toNat = 105 then 127 else if c.toNat = 108 then 126 else 123
def codes (s : ByteArray) (k : Nat) : List Value := (s.data.toList.take k).map fun c => Value.int .i64 (code c)
theorem codes_snoc (s : ByteArray) (k : Nat) (h : k < s.size) : codes s (k + 1) = codes s k ++ [.int .i64 (code s[k])] := by
  unfold codes
  rw [List.take_succ_eq_append_getElem (by simpa using h), List.map_append]; rfl
set_option maxHeartbeats 2000000 in
theorem types_any (s : ByteArray) (w : World) (hs : s.size ≤ 4294967296) :
    Calls Try.prog 18 #[.string s] w fun e w' => ∃ sv, e = .returned sv ∧ Gr w w' ∧ w'.ownsRow w.heap.size 3 1 sv s.size (codes s s.size) := by
  obtain ⟨i0, hi, hz0, hz1, hz2⟩ := info_parts infoI
  have HI := Lib.hid hi
  have HZ0 := Lib.hid hz0
  have HZ1 := Lib.hid hz1
  have HZ2 := Lib.hid hz2
  clear hi hz0 hz1 hz2
  go_enter Try.func18, Try.ntmps18
  go_wp2_with fail
  go_loopw [7, 3] (fun i sv wr => ∃ k : Nat, k ≤ s.size ∧ i = .int .i64 k ∧ Gr w wr ∧ wr.ownsRow w.heap.size 3 1 sv k (codes s k)) (fun i _ _ => s.size - (intOf i).toNat)
  case atStart => exact ⟨0, by omega, rfl, Gr.refl _, World.ownsRow_nil _ _ _ _⟩
  case round =>
    obtain ⟨k, hk, rfl, hg, hown⟩ := hrel
    have HG := Lib.hid hg
    have HO := Lib.hid hown
    clear hg hown
    by_cases hlt : k < s.size
    · have hsn := codes_snoc s k hlt
      have HS := Lib.hid hsn
      clear hsn
      have hc : (s[k].toNat : Int) = 105 ∧ code s[k] = 127 ∨ ((s[k].toNat : Int) == 105) = false ∧ (s[k].toNat : Int) = 108 ∧ code s[k] = 126 ∨ ((s[k].toNat : Int) == 105) = false ∧ ((s[k].toNat : Int) == 108) = false ∧ code s[k] = 123 := by
        unfold code
        by_cases h1 : s[k].toNat = 105
        · left; rw [if_pos h1]; exact ⟨by omega, rfl⟩
        · right
          have b1 : ((s[k].toNat : Int) == 105) = false := beq_eq_false_iff_ne.2 (by omega)
          rw [if_neg h1]
          by_cases h2 : s[k].toNat = 108
          · left; rw [if_pos h2]; exact ⟨b1, by omega, rfl⟩
          · right; rw [if_neg h2]; exact ⟨b1, beq_eq_false_iff_ne.2 (by omega), rfl⟩
      generalize code s[k] = cd at *
      rcases hc with ⟨h1, rfl⟩ | ⟨h1, h2, rfl⟩ | ⟨h1, h2, rfl⟩
      · go_wp2_with (at_builtin; refine wpList_append_own _ rfl _ _ 25 rfl w.heap.size 3 i0 (.int .i64 0) 1 8 Try.underlying25 HI.out HZ0.out HZ1.out HZ2.out rfl (by decide) u3 k _ rfl (HO.out.alloc _) ⟨wr.heap.size, 0, none⟩ 1 1 [.int .i64 127] rfl rfl ?c1 ?c2 ?c3 ?c4 ?c5 ?_)
        case c1 =>
          intro j u hju
          match j, hju with
          | 0, hju => simp at hju; subst hju; exact (cell_of_row _ _ 0 _ _ _ (heap_alloc_new wr _)).trans rfl
        case c2 => intro u hu; simp at hu; subst hu; rfl
        case c3 => unfold maxLen; omega
        case c4 => omega
        case c5 => have := HG.out.size; simp; omega
        intro v' w2 hown2 hgb _
        have hrow : ∀ q, u3.ownBlock = some q → w.heap.size ≤ q := fun q hq => (HO.out.lt q hq).1
        have hgr : Gr w w2 := (HG.out.allocO _).grown hgb (fun q hq => by have := hrow q hq; omega)
        have hown3 : w2.ownsRow w.heap.size 3 1 v' (k + 1) (codes s (k + 1)) := by rw [HS.out]; exact hown2
        have H1 := Lib.hid hgr
        have H3 := Lib.hid hown3
        clear hown2 hgb hrow hgr hown3
        go_wp2
        exact ⟨⟨k + 1, by omega, by go_num, H1.out, H3.out⟩, by simp [intOf]; omega⟩
      · go_wp2_with (at_builtin; refine wpList_append_own _ rfl _ _ 25 rfl w.heap.size 3 i0 (.int .i64 0) 1 8 Try.underlying25 HI.out HZ0.out HZ1.out HZ2.out rfl (by decide) u3 k _ rfl (HO.out.alloc _) ⟨wr.heap.size, 0, none⟩ 1 1 [.int .i64 126] rfl rfl ?c1 ?c2 ?c3 ?c4 ?c5 ?_)
        case c1 =>
          intro j u hju
          match j, hju with
          | 0, hju => simp at hju; subst hju; exact (cell_of_row _ _ 0 _ _ _ (heap_alloc_new wr _)).trans rfl
        case c2 => intro u hu; simp at hu; subst hu; rfl
        case c3 => unfold maxLen; omega
        case c4 => omega
        case c5 => have := HG.out.size; simp; omega
        intro v' w2 hown2 hgb _
        have hrow : ∀ q, u3.ownBlock = some q → w.heap.size ≤ q := fun q hq => (HO.out.lt q hq).1
        have hgr : Gr w w2 := (HG.out.allocO _).grown hgb (fun q hq => by have := hrow q hq; omega)
        have hown3 : w2.ownsRow w.heap.size 3 1 v' (k + 1) (codes s (k + 1)) := by rw [HS.out]; exact hown2
        have H1 := Lib.hid hgr
        have H3 := Lib.hid hown3
        clear hown2 hgb hrow hgr hown3
        go_wp2
        exact ⟨⟨k + 1, by omega, by go_num, H1.out, H3.out⟩, by simp [intOf]; omega⟩
      · go_wp2_with (at_builtin; refine wpList_append_own _ rfl _ _ 25 rfl w.heap.size 3 i0 (.int .i64 0) 1 8 Try.underlying25 HI.out HZ0.out HZ1.out HZ2.out rfl (by decide) u3 k _ rfl (HO.out.alloc _) ⟨wr.heap.size, 0, none⟩ 1 1 [.int .i64 123] rfl rfl ?c1 ?c2 ?c3 ?c4 ?c5 ?_)
        case c1 =>
          intro j u hju
          match j, hju with
          | 0, hju => simp at hju; subst hju; exact (cell_of_row _ _ 0 _ _ _ (heap_alloc_new wr _)).trans rfl
        case c2 => intro u hu; simp at hu; subst hu; rfl
        case c3 => unfold maxLen; omega
        case c4 => omega
        case c5 => have := HG.out.size; simp; omega
        intro v' w2 hown2 hgb _
        have hrow : ∀ q, u3.ownBlock = some q → w.heap.size ≤ q := fun q hq => (HO.out.lt q hq).1
        have hgr : Gr w w2 := (HG.out.allocO _).grown hgb (fun q hq => by have := hrow q hq; omega)
        have hown3 : w2.ownsRow w.heap.size 3 1 v' (k + 1) (codes s (k + 1)) := by rw [HS.out]; exact hown2
        have H1 := Lib.hid hgr
        have H3 := Lib.hid hown3
        clear hown2 hgb hrow hgr hown3
        go_wp2
        exact ⟨⟨k + 1, by omega, by go_num, H1.out, H3.out⟩, by simp [intOf]; omega⟩
    · obtain rfl : k = s.size := by omega
      go_wp2
      go_ret
      exact ⟨_, rfl, HG.out, HO.out⟩
end Ins
end Go.Proofs.Ytakleaonmlompaa
