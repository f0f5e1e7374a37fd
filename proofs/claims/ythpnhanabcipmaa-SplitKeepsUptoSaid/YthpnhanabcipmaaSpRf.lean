/-
  Of layer 21: the reference's Types: the image of types.
-/
import Derived.Test.YthpnhanabcipmaaSpOf
namespace Go.Proofs.Ythpnhanabcipmaa
open Go.RowKit VecM
namespace Sp
set_option maxHeartbeats 2000000 in
theorem rtypes_some (tb to tc len : Nat) (ts : Nat → Int) (w : World) (hl : len ≤ 1099511627776) (ht : ∀ j, j < len → w.cell? ⟨tb, to + j, none⟩ = some (.int .i64 (ts j))) :
    Calls Try.prog 13 #[.slice (some ⟨tb, to, none⟩) len tc] w (TYS (imL ts len) w) := by
  have HT := Lib.hid ht
  obtain ⟨i0, hi, hz0, hz1, hz2⟩ := info_parts infoZ
  have HI := Lib.hid hi
  have HZ0 := Lib.hid hz0
  have HZ1 := Lib.hid hz1
  have HZ2 := Lib.hid hz2
  clear ht hi hz0 hz1 hz2
  go_enter Try.func13, Try.ntmps13
  go_wp2_with fail
  go_loopw [3, 4] (fun sv i wr => ∃ k : Nat, k ≤ len ∧ i = .int .i64 k ∧ Gr w wr ∧ wr.ownsRow w.heap.size 3 1 sv (imL ts k).length (ivs (imL ts k))) (fun _ i _ => len - (intOf i).toNat)
  case atStart => exact ⟨0, by omega, rfl, Gr.refl _, World.ownsRow_nil _ _ _ _⟩
  case round =>
    obtain ⟨k, hk, rfl, hg, hown⟩ := hrel
    have HG := Lib.hid hg
    have HW := Lib.hid hown
    clear hg hown
    by_cases hlt : k < len
    · have h1 := gr_cell HG.out (HT.out k hlt)
      have hlen := imL_len ts k
      by_cases c1 : ts k = 127
      · have HR := Lib.hid (show ivs (imE (ts k)) = [.int .i64 127] by rw [c1]; rfl)
        rw [c1] at h1
        clear c1
        have HNd := Lib.hid (show ∀ wx, Calls Try.prog 25 #[.int .i64 127] wx fun e w' => e = .returned (.int .i64 1) ∧ wx = w' from need_any 127)
        go_wp2_with (first | (go_at_call 25; refine (HNd.out _).mono ?_; rintro e w' ⟨rfl, rfl⟩) | (at_builtin; refine wpList_append_own _ rfl _ _ 22 rfl w.heap.size 3 i0 (.int .i64 0) 1 8 Try.underlying22 HI.out HZ0.out HZ1.out HZ2.out rfl (by decide) u3 ((imL ts k).length) _ rfl (HW.out.alloc _) ⟨wr.heap.size, 0, none⟩ 1 1 [.int .i64 127] rfl rfl ?c1 ?c2 ?c3 ?c4 ?c5 ?_))
        case c1 =>
          intro j u hju
          match j, hju with
          | 0, hju => simp at hju; subst hju; exact (cell_of_row _ _ 0 _ _ _ (heap_alloc_new wr _)).trans rfl
        case c2 => intro u hu; simp at hu; subst hu; rfl
        case c3 => unfold maxLen; omega
        case c4 => omega
        case c5 => have := HG.out.size; simp at *; omega
        intro v' w3 hown2 hgb _
        have H1 := Lib.hid (fin_gr HG.out ((Gr.refl _).allocO _) HW.out hgb)
        have H3 := Lib.hid (im_row HR.out hown2)
        clear hown2 hgb
        go_wp2
        exact ⟨⟨k + 1, by omega, by go_num, H1.out, H3.out⟩, by simp [intOf]; omega⟩
      by_cases c2 : ts k = 126
      · clear c1
        have c1 := c2
        clear c2
        have HR := Lib.hid (show ivs (imE (ts k)) = [.int .i64 126] by rw [c1]; rfl)
        rw [c1] at h1
        clear c1
        have HNd := Lib.hid (show ∀ wx, Calls Try.prog 25 #[.int .i64 126] wx fun e w' => e = .returned (.int .i64 1) ∧ wx = w' from need_any 126)
        go_wp2_with (first | (go_at_call 25; refine (HNd.out _).mono ?_; rintro e w' ⟨rfl, rfl⟩) | (at_builtin; refine wpList_append_own _ rfl _ _ 22 rfl w.heap.size 3 i0 (.int .i64 0) 1 8 Try.underlying22 HI.out HZ0.out HZ1.out HZ2.out rfl (by decide) u3 ((imL ts k).length) _ rfl (HW.out.alloc _) ⟨wr.heap.size, 0, none⟩ 1 1 [.int .i64 126] rfl rfl ?c1 ?c2 ?c3 ?c4 ?c5 ?_))
        case c1 =>
          intro j u hju
          match j, hju with
          | 0, hju => simp at hju; subst hju; exact (cell_of_row _ _ 0 _ _ _ (heap_alloc_new wr _)).trans rfl
        case c2 => intro u hu; simp at hu; subst hu; rfl
        case c3 => unfold maxLen; omega
        case c4 => omega
        case c5 => have := HG.out.size; simp at *; omega
        intro v' w3 hown2 hgb _
        have H1 := Lib.hid (fin_gr HG.out ((Gr.refl _).allocO _) HW.out hgb)
        have H3 := Lib.hid (im_row HR.out hown2)
        clear hown2 hgb
        go_wp2
        exact ⟨⟨k + 1, by omega, by go_num, H1.out, H3.out⟩, by simp [intOf]; omega⟩
      by_cases c3 : ts k = 123
      · have HR := Lib.hid (show ivs (imE (ts k)) = [.int .i64 126, .int .i64 126] by rw [c3]; rfl)
        rw [c3] at h1
        clear c1 c2 c3
        have HNd := Lib.hid (show ∀ wx, Calls Try.prog 25 #[.int .i64 123] wx fun e w' => e = .returned (.int .i64 2) ∧ wx = w' from need_any 123)
        go_wp2_with (first | (go_at_call 25; refine (HNd.out _).mono ?_; rintro e w' ⟨rfl, rfl⟩) | (at_builtin; refine wpList_append_own _ rfl _ _ 22 rfl w.heap.size 3 i0 (.int .i64 0) 1 8 Try.underlying22 HI.out HZ0.out HZ1.out HZ2.out rfl (by decide) u3 ((imL ts k).length) _ rfl (HW.out.alloc _) ⟨wr.heap.size, 0, none⟩ 1 1 [.int .i64 126] rfl rfl ?c1 ?c2 ?c3 ?c4 ?c5 ?_))
        case c1 =>
          intro j u hju
          match j, hju with
          | 0, hju => simp at hju; subst hju; exact (cell_of_row _ _ 0 _ _ _ (heap_alloc_new wr _)).trans rfl
        case c2 => intro u hu; simp at hu; subst hu; rfl
        case c3 => unfold maxLen; omega
        case c4 => omega
        case c5 => have := HG.out.size; simp at *; omega
        intro v' w3 hown2 hgb _
        have H1 := Lib.hid (fin_gr HG.out ((Gr.refl _).allocO _) HW.out hgb)
        have HW2 := Lib.hid hown2
        clear hown2 hgb
        go_wp2_with (at_builtin; refine wpList_append_own _ rfl _ _ 22 rfl w.heap.size 3 i0 (.int .i64 0) 1 8 Try.underlying22 HI.out HZ0.out HZ1.out HZ2.out rfl (by decide) v' ((imL ts k).length + 1) _ rfl (HW2.out.alloc _) ⟨w3.heap.size, 0, none⟩ 1 1 [.int .i64 126] rfl rfl ?c1 ?c2 ?c3 ?c4 ?c5 ?_)
        case c1 =>
          intro j u hju
          match j, hju with
          | 0, hju => simp at hju; subst hju; exact (cell_of_row _ _ 0 _ _ _ (heap_alloc_new w3 _)).trans rfl
        case c2 => intro u hu; simp at hu; subst hu; rfl
        case c3 => unfold maxLen; omega
        case c4 => omega
        case c5 => have := H1.out.size; simp at *; omega
        intro v4 w4 hown3 hgb _
        have H2 := Lib.hid (fin_gr H1.out ((Gr.refl _).allocO _) HW2.out hgb)
        have H3 := Lib.hid (im_row (m := 2) HR.out hown3)
        clear hown3 hgb
        go_wp2
        exact ⟨⟨k + 1, by omega, by go_num, H2.out, H3.out⟩, by simp [intOf]; omega⟩
      have HR := Lib.hid (show ivs (imE (ts k)) = [] by unfold imE; rw [if_neg c1, if_neg c2, if_neg c3]; rfl)
      have H3 := Lib.hid (im_row (m := 0) HR.out (by rw [List.append_nil]; exact HW.out))
      have HNd := Lib.hid (show ∀ wx, Calls Try.prog 25 #[.int .i64 (ts k)] wx fun e w' => e = .returned (.int .i64 0) ∧ wx = w' from fun wx => by
        have h := need_any (ts k) wx
        rw [show needI (ts k) = 0 by unfold needI; rw [if_neg (by omega), if_neg c3]] at h
        exact h)
      clear c1 c2 c3
      go_wp2_with (go_at_call 25; refine (HNd.out _).mono ?_; rintro e w' ⟨rfl, rfl⟩)
      exact ⟨⟨k + 1, by omega, by go_num, HG.out, H3.out⟩, by simp [intOf]; omega⟩
    · obtain rfl : k = len := by omega
      go_wp2
      go_ret
      exact ⟨_, rfl, HG.out, HW.out⟩
theorem rtypes_any {sv : Value} {len : Nat} {ts : Nat → Int} {w : World} (hl : len ≤ 1099511627776) (h : I64s w sv len ts) : Calls Try.prog 13 #[sv] w (TYS (imL ts len) w) := by
  rcases h with ⟨rfl, x, c, rfl⟩ | ⟨_, b, off, cap, rfl, hc⟩
  · go_enter Try.func13, Try.ntmps13
    go_wp2_with fail
    refine wp_loop_rounds 1 ?_
    rw [rounds_succ]
    go_wp2
    go_ret
    exact ⟨_, rfl, Gr.refl _, World.ownsRow_nil _ _ _ _⟩
  · exact rtypes_some b off cap len ts w hl hc
end Sp
end Go.Proofs.Ythpnhanabcipmaa
