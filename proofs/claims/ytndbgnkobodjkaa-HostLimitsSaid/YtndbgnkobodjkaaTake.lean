/-
  Take: the vectors of the halves.
-/
import Derived.Test.YtndbgnkobodjkaaTakeNo
import Derived.Test.YtndbgnkobodjkaaNetTail
namespace Go.Proofs.Ytndbgnkobodjkaa
open Go.RowKit VecM
theorem cell_add {w : World} {g j : Nat} {u : Value} (h : w.cell? ((⟨g, 0, none⟩ : Addr).add j) = some u) : w.cell? ⟨g, j, none⟩ = some u := by
  have : (⟨g, 0, none⟩ : Addr).add j = ⟨g, j, none⟩ := by unfold Addr.add; split <;> simp_all
  rw [← this]; exact h
def ΦT (hb oN m c' : Nat) (u8 : Value) (xN yN : Int) (k : Nat) (v : Value) (wn : World) : Prop :=
  match k with
  | 0 => v = u8
  | 1 => v = (.slice (some ⟨hb, oN, none⟩) m c')
  | 2 => v = (.pointer (some ⟨hb, oN, none⟩))
  | 3 => v = (.int .u64 xN)
  | 4 => v = (.slice (some ⟨hb, oN, none⟩) m c')
  | 5 => v = (.pointer (some ⟨hb, oN + 1, none⟩))
  | 6 => v = (.int .u64 yN)
  | 7 => U64s wn v 2 (fun j => if j = 0 then xN else yN)
  | 8 => v = (.agg (bs (setI (setI (fun _ => 0) 64 0 xN) 64 1 yN)))
  | 9 => ∃ g, v = .slice (some ⟨g, 0, none⟩) 1 1 ∧ ∀ j u, (bs (setI (setI (fun _ => 0) 64 0 xN) 64 1 yN)).toList[j]? = some u → wn.cell? ((⟨g, 0, none⟩ : Addr).add j) = some u
  | _ => True
theorem ΦT_mono (hb oN m c' : Nat) (u8 : Value) (xN yN : Int) : ∀ k v wn wn', Gr wn wn' → ΦT hb oN m c' u8 xN yN k v wn → ΦT hb oN m c' u8 xN yN k v wn' := by
  intro k v wn wn' hg h
  match k with
  | 0 => exact h
  | 1 => exact h
  | 2 => exact h
  | 3 => exact h
  | 4 => exact h
  | 5 => exact h
  | 6 => exact h
  | 7 => exact u64s_gr h hg
  | 8 => exact h
  | 9 => exact h.imp fun g ⟨h1, h2⟩ => ⟨h1, fun j u hu => add_cell _ _ _ _ (gr_cell hg (cell_add (h2 j u hu)))⟩
  | k + 10 => trivial
set_option maxRecDepth 100000 in
set_option maxHeartbeats 2000000 in
theorem take_some (tb to tc hb ho hcap len n : Nat) (ts zs : Nat → Int) (w : World) (hl : len ≤ 1099511627776) (hok : okT ts len) (hn : needN ts len = n) (hcl : n ≤ hcap) (hn0 : 0 < n)
    (ht : ∀ j, j < len → w.cell? ⟨tb, to + j, none⟩ = some (.int .i64 (ts j))) (hc : ∀ j, j < n → w.cell? ⟨hb, ho + j, none⟩ = some (.int .u64 (zs j))) :
    Calls Try.prog 36 #[.slice (some ⟨tb, to, none⟩) len tc, .slice (some ⟨hb, ho, none⟩) n hcap] w fun e w' => ∃ sv, e = .returned (.tuple #[sv, .int .i64 0]) ∧ Gr w w' ∧ w'.ownsRow w.heap.size 86 16 sv len (vcs (takeV ts zs) len) := by
  have HT := Lib.hid ht
  have HC := Lib.hid hc
  have hcnt := count_some tb to tc len ts w hl ht
  rw [cntI_yes hok, cntB_yes hok, ← needN_eq, hn] at hcnt
  have hn2 : n ≤ 2199023255552 := by have := (needS_bd ts len).2; have := needN_eq ts len; omega
  have HN := Lib.hid hcnt
  have hmono := hn
  obtain ⟨i0, hi, hz0, hz1, hz2⟩ := info_parts info25
  have HI := Lib.hid hi
  have HZ0 := Lib.hid hz0
  have HZ1 := Lib.hid hz1
  have HZ2 := Lib.hid hz2
  clear ht hc hcnt hi hz0 hz1 hz2 hn
  go_enter Try.func36, Try.ntmps36
  go_wp2_with (go_at_call 42; refine HN.out.mono ?_; rintro e w' ⟨rfl, rfl⟩)
  go_loopw [1, 8, 26] (fun hv sv i wr => ∃ k m c' off' : Nat, k ≤ len ∧ i = .int .i64 k ∧ hv = .slice (some ⟨hb, off', none⟩) m c' ∧ needN ts k + m = n ∧ m ≤ c' ∧ (0 < m → off' = ho + needN ts k) ∧ Gr w wr ∧ wr.ownsRow w.heap.size 86 16 sv k (vcs (takeV ts zs) k)) (fun _ _ i _ => len - (intOf i).toNat)
  case atStart => exact ⟨0, n, hcap, ho, by omega, rfl, rfl, by simp [needN, needS], hcl, fun _ => by simp [needN, needS], Gr.refl _, World.ownsRow_nil _ _ _ _⟩
  case round =>
    obtain ⟨k, m, c', off', hk, rfl, rfl, hNm, hmc, hoff, hg, hown⟩ := hrel
    have HG := Lib.hid hg
    have HW := Lib.hid hown
    clear hg hown
    by_cases hlt : k < len
    · have h1 := gr_cell HG.out (HT.out k hlt)
      have hkk := hok k hlt
      by_cases c1 : ts k = 127
      · have hd : needI (ts k) = 1 := by rw [c1]; rfl
        have hnx := needN_succ ts k
        rw [hd] at hnx
        have hle := needN_le ts (show k + 1 ≤ len by omega)
        have hm1 : 1 ≤ m := by omega
        obtain rfl : off' = ho + needN ts k := hoff (by omega)
        have HX := Lib.hid (gr_cell HG.out (HC.out (needN ts k) (by omega)))
        have hx1 := HX.out
        have HVk := Lib.hid (show takeV ts zs k = setI (fun _ => 0) 32 0 (zs (needN ts k)) by unfold takeV; simp [c1])
        have HNx := Lib.hid hnx
        have HE := Lib.hid hle
        have HM := Lib.hid hNm
        rw [c1] at h1
        clear hd hnx hle hoff hNm
        generalize hNN : needN ts k = N at *
        have HO1 := Lib.hid (of1 32 (by decide) (zs N))
        go_wp2_with (first | (at_builtin; refine wpList_append_own _ rfl _ _ 74 rfl w.heap.size 86 i0 (.agg (bs fun _ => 0)) 16 16 Try.underlying74 HI.out HZ0.out HZ1.out HZ2.out rfl (by decide) u8 k _ rfl ((owns_gr HW.out (gr_trans ((Gr.refl wr).allocO _) HG1.out)).alloc _) ⟨w1.heap.size, 0, none⟩ 1 1 (bs (setI (fun _ => 0) 32 0 (zs N))).toList rfl rfl (fun j u hju => news_cell _ _ _ j u hju) (bs_all _) ?c3 ?c4 ?c5 ?_) | (go_at_call 43; refine (HO1.out _ _ (u1 wr (zs N) _)).mono ?_; rintro e w1 ⟨rfl, hg1⟩; have HG1 := Lib.hid hg1; clear hg1))
        case c3 => unfold maxLen; omega
        case c4 => omega
        case c5 => have := HG1.out.size; have := HG.out.size; simp at *; omega
        intro v' w3 hown2 hgb _
        have H1 := Lib.hid (put_fin' HG.out (gr_trans (gr_trans ((Gr.refl wr).allocO _) HG1.out) ((Gr.refl _).allocO _)) HW.out hgb)
        have H3 := Lib.hid (show w3.ownsRow w.heap.size 86 16 v' (k + 1) (vcs (takeV ts zs) (k + 1)) by rw [vcs_succ, HVk.out]; exact hown2)
        clear hown2 hgb
        go_wp2
        exact ⟨⟨k + 1, m - 1, c' - 1, if c' = 1 then ho + N else ho + N + 1, by omega, by go_num, by by_cases hq : c' = 1 <;> simp [hq], by have := HNx.out; have := HM.out; omega, by omega, fun hm => by rw [if_neg (by omega)]; have := HNx.out; omega, H1.out, H3.out⟩, by simp [intOf]; omega⟩
      · by_cases c2 : ts k = 126
        · have hd : needI (ts k) = 1 := by rw [c2]; rfl
          have hnx := needN_succ ts k
          rw [hd] at hnx
          have hle := needN_le ts (show k + 1 ≤ len by omega)
          have hm1 : 1 ≤ m := by omega
          obtain rfl : off' = ho + needN ts k := hoff (by omega)
          have HX := Lib.hid (gr_cell HG.out (HC.out (needN ts k) (by omega)))
          have hx1 := HX.out
          have HVk := Lib.hid (show takeV ts zs k = setI (fun _ => 0) 64 0 (zs (needN ts k)) by unfold takeV; simp [c2])
          have HNx := Lib.hid hnx
          have HE := Lib.hid hle
          have HM := Lib.hid hNm
          rw [c2] at h1
          clear hd hnx hle hoff hNm
          generalize hNN : needN ts k = N at *
          have HO1 := Lib.hid (of1 64 (by decide) (zs N))
          go_wp2_with (first | (at_builtin; refine wpList_append_own _ rfl _ _ 74 rfl w.heap.size 86 i0 (.agg (bs fun _ => 0)) 16 16 Try.underlying74 HI.out HZ0.out HZ1.out HZ2.out rfl (by decide) u8 k _ rfl ((owns_gr HW.out (gr_trans ((Gr.refl wr).allocO _) HG1.out)).alloc _) ⟨w1.heap.size, 0, none⟩ 1 1 (bs (setI (fun _ => 0) 64 0 (zs N))).toList rfl rfl (fun j u hju => news_cell _ _ _ j u hju) (bs_all _) ?c3 ?c4 ?c5 ?_) | (go_at_call 43; refine (HO1.out _ _ (u1 wr (zs N) _)).mono ?_; rintro e w1 ⟨rfl, hg1⟩; have HG1 := Lib.hid hg1; clear hg1))
          case c3 => unfold maxLen; omega
          case c4 => omega
          case c5 => have := HG1.out.size; have := HG.out.size; simp at *; omega
          intro v' w3 hown2 hgb _
          have H1 := Lib.hid (put_fin' HG.out (gr_trans (gr_trans ((Gr.refl wr).allocO _) HG1.out) ((Gr.refl _).allocO _)) HW.out hgb)
          have H3 := Lib.hid (show w3.ownsRow w.heap.size 86 16 v' (k + 1) (vcs (takeV ts zs) (k + 1)) by rw [vcs_succ, HVk.out]; exact hown2)
          clear hown2 hgb
          go_wp2
          exact ⟨⟨k + 1, m - 1, c' - 1, if c' = 1 then ho + N else ho + N + 1, by omega, by go_num, by by_cases hq : c' = 1 <;> simp [hq], by have := HNx.out; have := HM.out; omega, by omega, fun hm => by rw [if_neg (by omega)]; have := HNx.out; omega, H1.out, H3.out⟩, by simp [intOf]; omega⟩
        · have c3 : ts k = 123 := by
            unfold needI at hkk
            by_cases h3 : ts k = 123
            · exact h3
            · rw [if_neg (by omega), if_neg h3] at hkk; exact absurd rfl hkk
          clear c1 c2
          have hd : needI (ts k) = 2 := by rw [c3]; rfl
          have hnx := needN_succ ts k
          rw [hd] at hnx
          have hle := needN_le ts (show k + 1 ≤ len by omega)
          have hm1 : 2 ≤ m := by omega
          obtain rfl : off' = ho + needN ts k := hoff (by omega)
          have HX := Lib.hid (gr_cell HG.out (HC.out (needN ts k) (by omega)))
          have HY := Lib.hid (show wr.cell? ⟨hb, ho + needN ts k + 1, none⟩ = some (.int .u64 (zs (needN ts k + 1))) by rw [Nat.add_assoc]; exact gr_cell HG.out (HC.out (needN ts k + 1) (by omega)))
          have hmn1 : 1 < m := by omega
          have hmn0 : 0 < m := by omega
          have hc2 : 2 ≤ c' := by omega
          have hmi : (1 : Int) < (m : Int) := by omega
          have hm0 : (0 : Int) < (m : Int) := by omega
          have HVk := Lib.hid (show takeV ts zs k = setI (setI (fun _ => 0) 64 0 (zs (needN ts k))) 64 1 (zs (needN ts k + 1)) by unfold takeV; simp [c3])
          have HNx := Lib.hid hnx
          have HE := Lib.hid hle
          have HM := Lib.hid hNm
          rw [c3] at h1
          clear hd hnx hle hoff hNm
          generalize hNN : needN ts k = N at *
          generalize hxx : zs N = xN at *
          generalize hyy : zs (N + 1) = yN at *
          clear hxx hyy
          generalize hoo : ho + N = oN at *
          have HOO := Lib.hid hoo
          clear hoo
          go_upto_region 9 with (fail)
          refine wp_region_net_tail 10 (ΦT hb oN m c' u8 xN yN) (by kernel_rfl) (by kernel_rfl) (ΦT_mono hb oN m c' u8 xN yN) ?_ ?_
          · simp only [List.take_succ_cons, List.take_zero]
            refine ⟨?_, ?_, ?_, ?_, ?_, ?_, ?_, ?_, ?_, ?_, trivial⟩
            · refine NetStep.of rfl fun ρ wx hw hρc hρf hin hdep => ?_
              have e8 : ρ (.tmp 8) = u8 := hin 8 (by kernel_rfl)
              go_simp
              exact ⟨rfl, Gr.refl _⟩
            · refine NetStep.of rfl fun ρ wx hw hρc hρf hin hdep => ?_
              have e1 : ρ (.tmp 1) = (.slice (some ⟨hb, oN, none⟩) m c') := hin 1 (by kernel_rfl)
              go_simp
              exact ⟨rfl, Gr.refl _⟩
            · refine NetStep.of rfl fun ρ wx hw hρc hρf hin hdep => ?_
              have e32 : ρ (.tmp 32) = (.slice (some ⟨hb, oN, none⟩) m c') := hdep 1 32 (by kernel_rfl)
              go_simp
              exact ⟨rfl, Gr.refl _⟩
            · refine NetStep.of rfl fun ρ wx hw hρc hρf hin hdep => ?_
              have e33 : ρ (.tmp 33) = (.pointer (some ⟨hb, oN, none⟩)) := hdep 2 33 (by kernel_rfl)
              have hcx := gr_cell (gr_trans (Gr.drew (Gr.refl wr)) hw) HX.out
              go_simp
              exact ⟨rfl, Gr.refl _⟩
            · refine NetStep.of rfl fun ρ wx hw hρc hρf hin hdep => ?_
              have e1 : ρ (.tmp 1) = (.slice (some ⟨hb, oN, none⟩) m c') := hin 1 (by kernel_rfl)
              go_simp
              exact ⟨rfl, Gr.refl _⟩
            · refine NetStep.of rfl fun ρ wx hw hρc hρf hin hdep => ?_
              have e35 : ρ (.tmp 35) = (.slice (some ⟨hb, oN, none⟩) m c') := hdep 4 35 (by kernel_rfl)
              go_simp
              exact ⟨rfl, Gr.refl _⟩
            · refine NetStep.of rfl fun ρ wx hw hρc hρf hin hdep => ?_
              have e36 : ρ (.tmp 36) = (.pointer (some ⟨hb, oN + 1, none⟩)) := hdep 5 36 (by kernel_rfl)
              have hcx := gr_cell (gr_trans (Gr.drew (Gr.refl wr)) hw) HY.out
              go_simp
              exact ⟨rfl, Gr.refl _⟩
            · refine NetStep.of rfl fun ρ wx hw hρc hρf hin hdep => ?_
              have e34 : ρ (.tmp 34) = (.int .u64 xN) := hdep 3 34 (by kernel_rfl)
              have e37 : ρ (.tmp 37) = (.int .u64 yN) := hdep 6 37 (by kernel_rfl)
              go_simp
              refine ⟨.inr ⟨by decide, wx.heap.size, 0, 2, rfl, fun j hj => ?_⟩, (Gr.refl _).alloc _ _⟩
              match j, hj with
              | 0, _ => exact (cell_of_row _ _ 0 _ _ _ (heap_alloc_new wx _)).trans rfl
              | 1, _ => exact (cell_of_row _ _ 1 _ _ _ (heap_alloc_new wx _)).trans rfl
            · refine NetStep.of rfl fun ρ wx hw hρc hρf hin hdep => ?_
              have e38 := Lib.hid (show U64s wx (ρ (.tmp 38)) 2 (fun j => if j = 0 then xN else yN) from hdep 7 38 (by kernel_rfl))
              go_simp
              exact (of2 xN yN _ wx e38.out).mono fun e w4 h => ⟨_, h.1, rfl, h.2⟩
            · refine NetStep.of rfl fun ρ wx hw hρc hρf hin hdep => ?_
              have e39 : ρ (.tmp 39) = (.agg (bs (setI (setI (fun _ => 0) 64 0 xN) 64 1 yN))) := hdep 8 39 (by kernel_rfl)
              go_simp
              exact ⟨⟨wx.heap.size, rfl, fun j u hu => news_cell _ _ _ j u hu⟩, (Gr.refl _).alloc _ _⟩
          · intro V wN hgN hV
            have hs31 : V 31 = u8 := hV 0 _ 31 (by decide) rfl rfl
            obtain ⟨g9, hs40, hcell9⟩ := hV 9 _ 40 (by decide) rfl rfl
            have HN := Lib.hid (gr_trans (Gr.drew (Gr.refl _)) hgN)
            clear hV hgN
            simp only [List.take_succ_cons, List.take_zero, List.drop_succ_cons, List.drop_zero, putAll, Act.put, Option.map_some, Option.getD_some, List.setIfInBounds_toArray, List.set_cons_succ, List.set_cons_zero]
            rw [hs31, hs40]
            clear hs31 hs40
            refine wpList_append_own _ rfl _ _ 74 rfl w.heap.size 86 i0 (.agg (bs fun _ => 0)) 16 16 Try.underlying74 HI.out HZ0.out HZ1.out HZ2.out rfl (by decide) u8 k _ rfl (owns_gr HW.out HN.out) ⟨g9, 0, none⟩ 1 1 (bs (setI (setI (fun _ => 0) 64 0 xN) 64 1 yN)).toList rfl rfl hcell9 (bs_all _) ?c3 ?c4 ?c5 ?_
            case c3 => unfold maxLen; omega
            case c4 => omega
            case c5 => have := HN.out.size; have := HG.out.size; simp at *; omega
            intro v' w3 hown2 hgb _
            have H1 := Lib.hid (put_fin' HG.out HN.out HW.out hgb)
            have H3 := Lib.hid (show w3.ownsRow w.heap.size 86 16 v' (k + 1) (vcs (takeV ts zs) (k + 1)) by rw [vcs_succ, HVk.out]; exact hown2)
            clear hown2 hgb
            go_wp2
            exact ⟨⟨k + 1, m - 2, c' - 2, if c' = 2 then oN + 1 else oN + 1 + 1, by omega, by go_num, by by_cases hq : c' = 2 <;> simp [hq, Nat.sub_sub], by have := HNx.out; have := HM.out; omega, by omega, fun hm => by rw [if_neg (by omega)]; have := HOO.out; have := HNx.out; omega, H1.out, H3.out⟩, by simp [intOf]; omega⟩
    · obtain rfl : len = k := by omega
      go_wp2
      go_ret2
      exact ⟨_, rfl, HG.out, HW.out⟩
end Go.Proofs.Ytndbgnkobodjkaa
