/-
  Of layer 21: split.Types: the image of types.
-/
import Derived.Test.YthpnhanabcipmaaSame
namespace Go.Proofs.Ythpnhanabcipmaa
open Go.RowKit VecM
namespace Sp
theorem infoZ : (Try.prog.info? 3).map (fun i => (i.zero, i.size, i.bytes)) = some (some (.int .i64 0), 1, 8) := by kernel_rfl
def imE (t : Int) : List Int := if t = 127 then [127] else if t = 126 then [126] else if t = 123 then [126, 126] else []
def imL (ts : Nat → Int) : Nat → List Int
  | 0 => []
  | k + 1 => imL ts k ++ imE (ts k)
def ivs (l : List Int) : List Value := l.map (Value.int .i64)
theorem ivs_app (l l' : List Int) : ivs (l ++ l') = ivs l ++ ivs l' := List.map_append
theorem ivs_len (l : List Int) : (ivs l).length = l.length := by unfold ivs; simp
theorem imE_len (t : Int) : (imE t).length ≤ 2 := by
  unfold imE; split
  · simp
  · split
    · simp
    · split <;> simp
theorem imL_len (ts : Nat → Int) : ∀ k, (imL ts k).length ≤ 2 * k
  | 0 => by simp [imL]
  | k + 1 => by
    have := imL_len ts k
    have := imE_len (ts k)
    simp only [imL, List.length_append]; omega
theorem fin_gr {w wr wx w3 : World} {e : TypeId} {u : Value} {n : Nat} {xs : List Value} (hg : Gr w wr) (hx : Gr wr wx) (hown : wr.ownsRow w.heap.size e 1 u n xs) (hgb : wx.grownBy w3 u.ownBlock) : Gr w w3 :=
  (gr_trans hg hx).grown hgb (fun q hq => (hown.lt q hq).1)
theorem im_row {w3 : World} {base : Nat} {e : TypeId} {u : Value} {ts : Nat → Int} {k m : Nat} {news : List Value} (hn : ivs (imE (ts k)) = news) (h : w3.ownsRow base e 1 u ((imL ts k).length + m) (ivs (imL ts k) ++ news)) :
    w3.ownsRow base e 1 u (imL ts (k + 1)).length (ivs (imL ts (k + 1))) := by
  have e1 : ivs (imL ts (k + 1)) = ivs (imL ts k) ++ news := by rw [imL, ivs_app, hn]
  have hl := h.1
  have e2 : (imL ts (k + 1)).length = (imL ts k).length + m := by
    have h2 := ivs_len (imL ts (k + 1))
    rw [← e1, Nat.mul_one, h2] at hl
    exact hl
  rw [e1, e2]; exact h
set_option maxHeartbeats 2000000 in
theorem types_some (tb to tc len : Nat) (ts : Nat → Int) (w : World) (hl : len ≤ 1099511627776) (ht : ∀ j, j < len → w.cell? ⟨tb, to + j, none⟩ = some (.int .i64 (ts j))) :
    Calls Try.prog 15 #[.slice (some ⟨tb, to, none⟩) len tc] w fun e w' => ∃ sv, e = .returned sv ∧ Gr w w' ∧ w'.ownsRow w.heap.size 3 1 sv (imL ts len).length (ivs (imL ts len)) := by
  have HT := Lib.hid ht
  obtain ⟨i0, hi, hz0, hz1, hz2⟩ := info_parts infoZ
  have HI := Lib.hid hi
  have HZ0 := Lib.hid hz0
  have HZ1 := Lib.hid hz1
  have HZ2 := Lib.hid hz2
  clear ht hi hz0 hz1 hz2
  go_enter Try.func15, Try.ntmps15
  go_wp2_with fail
  go_loopw [3, 8] (fun sv i wr => ∃ k : Nat, k ≤ len ∧ i = .int .i64 k ∧ Gr w wr ∧ wr.ownsRow w.heap.size 3 1 sv (imL ts k).length (ivs (imL ts k))) (fun _ i _ => len - (intOf i).toNat)
  case atStart => exact ⟨0, by omega, rfl, Gr.refl _, World.ownsRow_nil _ _ _ _⟩
  case round =>
    obtain ⟨k, hk, rfl, hg, hown⟩ := hrel
    have HG := Lib.hid hg
    have HW := Lib.hid hown
    clear hg hown
    by_cases hlt : k < len
    · have h1 := gr_cell HG.out (HT.out k hlt)
      have hlen := imL_len ts k
      by_cases c1 : ts k = 127
      · have HR := Lib.hid (show ivs (imE (ts k)) = [.int .i64 127] by rw [c1]; rfl)
        rw [c1] at h1
        clear c1
        go_wp2_with (at_builtin; refine wpList_append_own _ rfl _ _ 22 rfl w.heap.size 3 i0 (.int .i64 0) 1 8 Try.underlying22 HI.out HZ0.out HZ1.out HZ2.out rfl (by decide) u3 (imL ts k).length _ rfl (HW.out.alloc _) ⟨wr.heap.size, 0, none⟩ 1 1 [.int .i64 127] rfl rfl ?c1 ?c2 ?c3 ?c4 ?c5 ?_)
        case c1 =>
          intro j u hju
          match j, hju with
          | 0, hju => simp at hju; subst hju; exact (cell_of_row _ _ 0 _ _ _ (heap_alloc_new wr _)).trans rfl
        case c2 => intro u hu; simp at hu; subst hu; rfl
        case c3 => unfold maxLen; omega
        case c4 => omega
        case c5 => have := HG.out.size; simp at *; omega
        intro v' w3 hown2 hgb _
        have H1 := Lib.hid (fin_gr HG.out ((Gr.refl _).allocO _) HW.out hgb)
        have H3 := Lib.hid (im_row HR.out hown2)
        clear hown2 hgb
        go_wp2
        exact ⟨⟨k + 1, by omega, by go_num, H1.out, H3.out⟩, by simp [intOf]; omega⟩
      · by_cases c2 : ts k = 126
        · have HR := Lib.hid (show ivs (imE (ts k)) = [.int .i64 126] by rw [c2]; rfl)
          rw [c2] at h1
          clear c1 c2
          go_wp2_with (at_builtin; refine wpList_append_own _ rfl _ _ 22 rfl w.heap.size 3 i0 (.int .i64 0) 1 8 Try.underlying22 HI.out HZ0.out HZ1.out HZ2.out rfl (by decide) u3 (imL ts k).length _ rfl (HW.out.alloc _) ⟨wr.heap.size, 0, none⟩ 1 1 [.int .i64 126] rfl rfl ?c1 ?c2 ?c3 ?c4 ?c5 ?_)
          case c1 =>
            intro j u hju
            match j, hju with
            | 0, hju => simp at hju; subst hju; exact (cell_of_row _ _ 0 _ _ _ (heap_alloc_new wr _)).trans rfl
          case c2 => intro u hu; simp at hu; subst hu; rfl
          case c3 => unfold maxLen; omega
          case c4 => omega
          case c5 => have := HG.out.size; simp at *; omega
          intro v' w3 hown2 hgb _
          have H1 := Lib.hid (fin_gr HG.out ((Gr.refl _).allocO _) HW.out hgb)
          have H3 := Lib.hid (im_row HR.out hown2)
          clear hown2 hgb
          go_wp2
          exact ⟨⟨k + 1, by omega, by go_num, H1.out, H3.out⟩, by simp [intOf]; omega⟩
        · by_cases c3 : ts k = 123
          · have HR := Lib.hid (show ivs (imE (ts k)) = [.int .i64 126, .int .i64 126] by rw [c3]; rfl)
            rw [c3] at h1
            clear c1 c2 c3
            go_wp2_with (at_builtin; refine wpList_append_own _ rfl _ _ 22 rfl w.heap.size 3 i0 (.int .i64 0) 1 8 Try.underlying22 HI.out HZ0.out HZ1.out HZ2.out rfl (by decide) u3 (imL ts k).length _ rfl (HW.out.alloc _) ⟨wr.heap.size, 0, none⟩ 2 2 [.int .i64 126, .int .i64 126] rfl rfl ?c1 ?c2 ?c3 ?c4 ?c5 ?_)
            case c1 =>
              intro j u hju
              match j, hju with
              | 0, hju => simp at hju; subst hju; exact (cell_of_row _ _ 0 _ _ _ (heap_alloc_new wr _)).trans rfl
              | 1, hju => simp at hju; subst hju; exact (cell_of_row _ _ 1 _ _ _ (heap_alloc_new wr _)).trans rfl
            case c2 => intro u hu; simp at hu; subst hu; rfl
            case c3 => unfold maxLen; omega
            case c4 => omega
            case c5 => have := HG.out.size; simp at *; omega
            intro v' w3 hown2 hgb _
            have H1 := Lib.hid (fin_gr HG.out ((Gr.refl _).allocO _) HW.out hgb)
            have H3 := Lib.hid (im_row HR.out hown2)
            clear hown2 hgb
            go_wp2
            exact ⟨⟨k + 1, by omega, by go_num, H1.out, H3.out⟩, by simp [intOf]; omega⟩
          · have HR := Lib.hid (show ivs (imE (ts k)) = [] by unfold imE; rw [if_neg c1, if_neg c2, if_neg c3]; rfl)
            have H3 := Lib.hid (im_row (m := 0) HR.out (by rw [List.append_nil]; exact HW.out))
            have n1 : (ts k == 127) = false := by simpa using c1
            have n2 : (ts k == 126) = false := by simpa using c2
            have n3 : (ts k == 123) = false := by simpa using c3
            go_wp2
            exact ⟨⟨k + 1, by omega, by go_num, HG.out, H3.out⟩, by simp [intOf]; omega⟩
    · obtain rfl : k = len := by omega
      go_wp2
      go_ret
      exact ⟨_, rfl, HG.out, HW.out⟩
end Sp
end Go.Proofs.Ythpnhanabcipmaa
