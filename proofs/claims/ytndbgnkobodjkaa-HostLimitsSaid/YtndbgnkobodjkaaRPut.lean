/-
  The reference's Put: the same halves as Put's.
-/
import Derived.Test.YtndbgnkobodjkaaWidth
namespace Go.Proofs.Ytndbgnkobodjkaa
open Go.RowKit VecM
set_option maxRecDepth 100000 in
set_option maxHeartbeats 2000000 in
theorem rput_some (tb to tc b off cap len : Nat) (ts : Nat → Int) (vs : Nat → Nat → Int) (hvs : ∀ j, Byt (vs j)) (w : World) (hl : len ≤ 1099511627776) (hok : okT ts len)
    (ht : ∀ j, j < len → w.cell? ⟨tb, to + j, none⟩ = some (.int .i64 (ts j))) (hc : ∀ j, j < len → ∀ m, m < 16 → w.cell? ⟨b, off + j * 16 + m, none⟩ = some (.int .u8 (vs j m))) :
    Calls Try.prog 33 #[.slice (some ⟨tb, to, none⟩) len tc, .slice (some ⟨b, off, none⟩) len cap] w fun e w' => ∃ sv, e = .returned (.tuple #[sv, .int .i64 0]) ∧ Gr w w' ∧ w'.ownsRow w.heap.size 53 1 sv (putL ts vs len).length (uvs (putL ts vs len)) := by
  have HT := Lib.hid ht
  have HC := Lib.hid hc
  have HV := Lib.hid hvs
  have HO := Lib.hid hok
  have hcnt := width_some tb to tc len ts w hl ht
  rw [widI_yes hok] at hcnt
  have hn0 := (needS_bd ts len).1
  have HN := Lib.hid hcnt
  obtain ⟨i0, hi, hz0, hz1, hz2⟩ := info_parts info64
  have HI := Lib.hid hi
  have HZ0 := Lib.hid hz0
  have HZ1 := Lib.hid hz1
  have HZ2 := Lib.hid hz2
  clear ht hc hvs hok hcnt hi hz0 hz1 hz2
  generalize needS ts len = nd at *
  go_enter Try.func33, Try.ntmps33
  go_wp2_with (go_at_call 31; refine HN.out.mono ?_; rintro e w' ⟨rfl, rfl⟩)
  go_loopw [6, 7] (fun sv i wr => ∃ k : Nat, k ≤ len ∧ i = .int .i64 k ∧ Gr w wr ∧ wr.ownsRow w.heap.size 53 1 sv (putL ts vs k).length (uvs (putL ts vs k))) (fun _ i _ => len - (intOf i).toNat)
  case atStart => exact ⟨0, by omega, rfl, Gr.refl _, World.ownsRow_nil _ _ _ _⟩
  case round =>
    obtain ⟨k, hk, rfl, hg, hown⟩ := hrel
    have HG := Lib.hid hg
    have HW := Lib.hid hown
    clear hg hown
    by_cases hlt : k < len
    · have h1 := gr_cell HG.out (HT.out k hlt)
      have hld : ∀ j v, (bs (vs k)).toList[j]? = some v → wr.cell? ⟨b, off + k * 16 + j, none⟩ = some v := fun j v hv => by
        obtain ⟨hj, rfl⟩ := bs_list _ _ _ hv
        exact gr_cell HG.out (HC.out k hlt j hj)
      have HL := Lib.hid hld
      have HA := Lib.hid (rget_any (vs k) (HV.out k) 64 0)
      have HB := Lib.hid (rget_any (vs k) (HV.out k) 32 0)
      have HD := Lib.hid (rget_any (vs k) (HV.out k) 64 1)
      clear hld
      have hlen := putL_len ts vs k
      by_cases c1 : ts k = 127
      · rw [c1] at h1
        go_upto_region 9 with (first | (refine wpList_load_cells rfl 86 _ rfl b (off + k * 16) rfl (bs (vs k)) _ HL.out Try.underlying86 rfl infoV ?_) | (go_at_call 41; refine (HA.out _).mono ?_; rintro e w1 ⟨rfl, hgw1⟩; have h1 := gr_cell hgw1 h1; have hlw1 : ∀ j v, (bs (vs k)).toList[j]? = some v → w1.cell? ⟨b, off + k * 16 + j, none⟩ = some v := fun j v hv => gr_cell hgw1 (HL.out j v hv); have HLw1 := Lib.hid hlw1; have HGw1 := Lib.hid hgw1; clear hgw1 hlw1))
        go_wp2_with (first | (at_builtin; refine wpList_append_own _ rfl _ _ 22 rfl w.heap.size 53 i0 (.int .u64 0) 1 8 Try.underlying22 HI.out HZ0.out HZ1.out HZ2.out rfl (by decide) u6 (putL ts vs k).length _ rfl ((owns_gr HW.out (gr_trans HGw1.out HGw2.out)).alloc _) ⟨w2.heap.size, 0, none⟩ 1 1 [.int .u64 (getI (vs k) 32 0)] rfl rfl ?c1 ?c2 ?c3 ?c4 ?c5 ?_) | (refine wpList_load_cells rfl 86 _ rfl b (off + k * 16) rfl (bs (vs k)) _ HLw1.out Try.underlying86 rfl infoV ?_) | (go_at_call 41; refine (HB.out _).mono ?_; rintro e w2 ⟨rfl, hgw2⟩; have h1 := gr_cell hgw2 h1; have hlw2 : ∀ j v, (bs (vs k)).toList[j]? = some v → w2.cell? ⟨b, off + k * 16 + j, none⟩ = some v := fun j v hv => gr_cell hgw2 (HLw1.out j v hv); have HLw2 := Lib.hid hlw2; have HGw2 := Lib.hid hgw2; clear hgw2 hlw2))
        case c1 =>
          intro j u hju
          match j, hju with
          | 0, hju => simp at hju; subst hju; exact (cell_of_row _ _ 0 _ _ _ (heap_alloc_new w2 _)).trans rfl
        case c2 => intro u hu; simp at hu; subst hu; rfl
        case c3 => unfold maxLen; omega
        case c4 => omega
        case c5 => have := (show Gr _ w2 from (gr_trans HGw1.out HGw2.out)).size; have := HG.out.size; simp at *; omega
        intro v' w3 hown2 hgb _
        have H1 := Lib.hid (put_fin HG.out (gr_trans (gr_trans HGw1.out HGw2.out) ((Gr.refl _).allocO _)) HW.out hgb)
        have h1 := gr_cell H1.out (HT.out k hlt)
        rw [c1] at h1
        have H3 := Lib.hid (put_row (t := 127) c1 (by rfl) hown2)
        clear hown2 hgb
        go_wp2
        exact ⟨⟨k + 1, by omega, by go_num, H1.out, H3.out⟩, by simp [intOf]; omega⟩
      · by_cases c2 : ts k = 126
        · rw [c2] at h1
          go_wp2_with (first | (at_builtin; refine wpList_append_own _ rfl _ _ 22 rfl w.heap.size 53 i0 (.int .u64 0) 1 8 Try.underlying22 HI.out HZ0.out HZ1.out HZ2.out rfl (by decide) u6 (putL ts vs k).length _ rfl ((owns_gr HW.out HGw1.out).alloc _) ⟨w1.heap.size, 0, none⟩ 1 1 [.int .u64 (getI (vs k) 64 0)] rfl rfl ?c1 ?c2 ?c3 ?c4 ?c5 ?_) | (refine wpList_load_cells rfl 86 _ rfl b (off + k * 16) rfl (bs (vs k)) _ HL.out Try.underlying86 rfl infoV ?_) | (go_at_call 41; refine (HA.out _).mono ?_; rintro e w1 ⟨rfl, hgw1⟩; have h1 := gr_cell hgw1 h1; have hlw1 : ∀ j v, (bs (vs k)).toList[j]? = some v → w1.cell? ⟨b, off + k * 16 + j, none⟩ = some v := fun j v hv => gr_cell hgw1 (HL.out j v hv); have HLw1 := Lib.hid hlw1; have HGw1 := Lib.hid hgw1; clear hgw1 hlw1))
          case c1 =>
            intro j u hju
            match j, hju with
            | 0, hju => simp at hju; subst hju; exact (cell_of_row _ _ 0 _ _ _ (heap_alloc_new w1 _)).trans rfl
          case c2 => intro u hu; simp at hu; subst hu; rfl
          case c3 => unfold maxLen; omega
          case c4 => omega
          case c5 => have := (show Gr _ w1 from HGw1.out).size; have := HG.out.size; simp at *; omega
          intro v' w3 hown2 hgb _
          have H1 := Lib.hid (put_fin HG.out (gr_trans HGw1.out ((Gr.refl _).allocO _)) HW.out hgb)
          have h1 := gr_cell H1.out (HT.out k hlt)
          rw [c2] at h1
          have H3 := Lib.hid (put_row (t := 126) c2 (by rfl) hown2)
          clear hown2 hgb
          go_wp2
          exact ⟨⟨k + 1, by omega, by go_num, H1.out, H3.out⟩, by simp [intOf]; omega⟩
        · have c3 : ts k = 123 := by
            have h := HO.out k hlt
            unfold needI at h
            by_cases h3 : ts k = 123
            · exact h3
            · rw [if_neg (by omega), if_neg h3] at h; exact absurd rfl h
          clear c1 c2
          rw [c3] at h1
          go_wp2_with (first | (at_builtin; refine wpList_append_own _ rfl _ _ 22 rfl w.heap.size 53 i0 (.int .u64 0) 1 8 Try.underlying22 HI.out HZ0.out HZ1.out HZ2.out rfl (by decide) u6 (putL ts vs k).length _ rfl ((owns_gr HW.out HGw1.out).alloc _) ⟨w1.heap.size, 0, none⟩ 1 1 [.int .u64 (getI (vs k) 64 0)] rfl rfl ?c1 ?c2 ?c3 ?c4 ?c5 ?_) | (refine wpList_load_cells rfl 86 _ rfl b (off + k * 16) rfl (bs (vs k)) _ HL.out Try.underlying86 rfl infoV ?_) | (go_at_call 41; refine (HA.out _).mono ?_; rintro e w1 ⟨rfl, hgw1⟩; have h1 := gr_cell hgw1 h1; have hlw1 : ∀ j v, (bs (vs k)).toList[j]? = some v → w1.cell? ⟨b, off + k * 16 + j, none⟩ = some v := fun j v hv => gr_cell hgw1 (HL.out j v hv); have HLw1 := Lib.hid hlw1; have HGw1 := Lib.hid hgw1; clear hgw1 hlw1))
          case c1 =>
            intro j u hju
            match j, hju with
            | 0, hju => simp at hju; subst hju; exact (cell_of_row _ _ 0 _ _ _ (heap_alloc_new w1 _)).trans rfl
          case c2 => intro u hu; simp at hu; subst hu; rfl
          case c3 => unfold maxLen; omega
          case c4 => omega
          case c5 => have := (show Gr _ w1 from HGw1.out).size; have := HG.out.size; simp at *; omega
          intro v' w3 hown2 hgb _
          have H1 := Lib.hid (put_fin HG.out (gr_trans HGw1.out ((Gr.refl _).allocO _)) HW.out hgb)
          have h1 := gr_cell H1.out (HT.out k hlt)
          rw [c3] at h1
          have hl3 : ∀ j v, (bs (vs k)).toList[j]? = some v → w3.cell? ⟨b, off + k * 16 + j, none⟩ = some v := fun j v hv => by
            obtain ⟨hj, rfl⟩ := bs_list _ _ _ hv
            exact gr_cell H1.out (HC.out k hlt j hj)
          have HL3 := Lib.hid hl3
          have HW3 := Lib.hid hown2
          clear hown2 hgb hl3
          go_wp2_with (first | (at_builtin; refine wpList_append_own _ rfl _ _ 22 rfl w.heap.size 53 i0 (.int .u64 0) 1 8 Try.underlying22 HI.out HZ0.out HZ1.out HZ2.out rfl (by decide) v' ((putL ts vs k).length + 1) _ rfl ((owns_gr HW3.out HG4.out).alloc _) ⟨w4.heap.size, 0, none⟩ 1 1 [.int .u64 (getI (vs k) 64 1)] rfl rfl ?c1 ?c2 ?c3 ?c4 ?c5 ?_) | (refine wpList_load_cells rfl 86 _ rfl b (off + k * 16) rfl (bs (vs k)) _ HL3.out Try.underlying86 rfl infoV ?_) | (go_at_call 41; refine (HD.out _).mono ?_; rintro e w4 ⟨rfl, hg4⟩; have HG4 := Lib.hid hg4; clear hg4))
          case c1 =>
            intro j u hju
            match j, hju with
            | 0, hju => simp at hju; subst hju; exact (cell_of_row _ _ 0 _ _ _ (heap_alloc_new w4 _)).trans rfl
          case c2 => intro u hu; simp at hu; subst hu; rfl
          case c3 => unfold maxLen; omega
          case c4 => omega
          case c5 => have := HG4.out.size; have := H1.out.size; simp at *; omega
          intro v'' w5 hown3 hgb3 _
          have H5 := Lib.hid (put_fin H1.out (gr_trans HG4.out ((Gr.refl _).allocO _)) HW3.out hgb3)
          rw [Nat.add_assoc] at hown3
          have H3 := Lib.hid (put_row (t := 123) c3 (by rfl) hown3)
          clear hown3 hgb3
          go_wp2
          exact ⟨⟨k + 1, by omega, by go_num, H5.out, H3.out⟩, by simp [intOf]; omega⟩
    · obtain rfl : len = k := by omega
      go_wp2
      go_ret2
      exact ⟨_, rfl, HG.out, HW.out⟩
end Go.Proofs.Ytndbgnkobodjkaa
