/-
  The reference's Take: the vectors of the halves.
-/
import Derived.Test.YtndbgnkobodjkaaPutAny
namespace Go.Proofs.Ytndbgnkobodjkaa
open Go.RowKit VecM
theorem info25 : (Try.prog.info? 86).map (fun i => (i.zero, i.size, i.bytes)) = some (some (.agg (bs fun _ => 0)), 16, 16) := by kernel_rfl
theorem bld25 : Try.prog.built 86 [] = some (bs fun _ => 0) := by kernel_rfl
def needN (ts : Nat → Int) (k : Nat) : Nat := (needS ts k).toNat
theorem needN_eq (ts : Nat → Int) (k : Nat) : (needN ts k : Int) = needS ts k := by have := (needS_bd ts k).1; unfold needN; omega
theorem needN_succ (ts : Nat → Int) (k : Nat) : (needN ts (k + 1) : Int) = needN ts k + needI (ts k) := by rw [needN_eq, needN_eq]; rfl
theorem needN_le (ts : Nat → Int) {k : Nat} : ∀ {m : Nat}, k ≤ m → needN ts k ≤ needN ts m
  | 0, h => by obtain rfl : k = 0 := by omega
               exact Nat.le_refl _
  | m + 1, h => by
    by_cases e : k = m + 1
    · subst e; exact Nat.le_refl _
    · have h1 := needN_le ts (show k ≤ m by omega)
      have h2 := needN_succ ts m
      have h3 := (needI_bd (ts m)).1
      omega
/-- the vector of the k-th type -/
def takeV (ts zs : Nat → Int) (k : Nat) : Nat → Int :=
  if ts k = 127 then setI (fun _ => 0) 32 0 (zs (needN ts k)) else if ts k = 126 then setI (fun _ => 0) 64 0 (zs (needN ts k)) else setI (setI (fun _ => 0) 64 0 (zs (needN ts k))) 64 1 (zs (needN ts k + 1))
def vcs (f : Nat → Nat → Int) (k : Nat) : List Value := (List.range k).flatMap fun j => (bs (f j)).toList
theorem vcs_succ (f : Nat → Nat → Int) (k : Nat) : vcs f (k + 1) = vcs f k ++ (bs (f k)).toList := by unfold vcs; rw [List.range_succ, List.flatMap_append]; simp
theorem add_cell (w : World) (g j : Nat) (u : Option Value) (h : w.cell? ⟨g, j, none⟩ = u) : w.cell? ((⟨g, 0, none⟩ : Addr).add j) = u := by
  have : (⟨g, 0, none⟩ : Addr).add j = ⟨g, j, none⟩ := by unfold Addr.add; split <;> simp_all
  rw [this]; exact h
theorem news_cell (w0 : World) (c : Nat → Int) (t : TypeId) (j : Nat) (u : Value) (h : (bs c).toList[j]? = some u) : (w0.alloc (.cells (bs c) t)).cell? ((⟨w0.heap.size, 0, none⟩ : Addr).add j) = some u := by
  obtain ⟨hj, rfl⟩ := bs_list _ _ _ h
  exact add_cell _ _ _ _ ((cell_of_row _ _ j _ _ _ (heap_alloc_new _ _)).trans (bs_get _ j hj))
theorem bs_all (c : Nat → Int) (u : Value) (h : u ∈ (bs c).toList) : u.oneCell' = true := Array.all_eq_true'.1 (bs_one c) u (by simpa using h)
theorem put_fin' {w wr wx w3 : World} {e : TypeId} {u : Value} {n z : Nat} {xs : List Value} (hg : Gr w wr) (hx : Gr wr wx) (hown : wr.ownsRow w.heap.size e z u n xs) (hgb : wx.grownBy w3 u.ownBlock) : Gr w w3 :=
  (gr_trans hg hx).grown hgb (fun q hq => (hown.lt q hq).1)
set_option maxRecDepth 100000 in
set_option maxHeartbeats 2000000 in
theorem rtake_some (tb to tc hb ho hcap len n : Nat) (ts zs : Nat → Int) (hz : ∀ j, 0 ≤ zs j ∧ zs j < 18446744073709551616) (w : World) (hl : len ≤ 1099511627776) (hok : okT ts len) (hn : needN ts len = n)
    (ht : ∀ j, j < len → w.cell? ⟨tb, to + j, none⟩ = some (.int .i64 (ts j))) (hc : ∀ j, j < n → w.cell? ⟨hb, ho + j, none⟩ = some (.int .u64 (zs j))) :
    Calls Try.prog 32 #[.slice (some ⟨tb, to, none⟩) len tc, .slice (some ⟨hb, ho, none⟩) n hcap] w fun e w' => ∃ sv, e = .returned (.tuple #[sv, .int .i64 0]) ∧ Gr w w' ∧ w'.ownsRow w.heap.size 86 16 sv len (vcs (takeV ts zs) len) := by
  have HT := Lib.hid ht
  have HC := Lib.hid hc
  have hcnt := width_some tb to tc len ts w hl ht
  rw [widI_yes hok, ← needN_eq, hn] at hcnt
  have hn2 : n ≤ 2199023255552 := by have := (needS_bd ts len).2; have := needN_eq ts len; omega
  have HN := Lib.hid hcnt
  have hmono := hn
  obtain ⟨i0, hi, hz0, hz1, hz2⟩ := info_parts info25
  have HI := Lib.hid hi
  have HZ0 := Lib.hid hz0
  have HZ1 := Lib.hid hz1
  have HZ2 := Lib.hid hz2
  clear ht hc hcnt hi hz0 hz1 hz2 hn
  go_enter Try.func32, Try.ntmps32
  go_wp2_with (go_at_call 31; refine HN.out.mono ?_; rintro e w' ⟨rfl, rfl⟩)
  go_loopw [6, 7, 8] (fun sv at' i wr => ∃ k : Nat, k ≤ len ∧ i = .int .i64 k ∧ at' = .int .i64 (needN ts k : Int) ∧ Gr w wr ∧ wr.ownsRow w.heap.size 86 16 sv k (vcs (takeV ts zs) k)) (fun _ _ i _ => len - (intOf i).toNat)
  case atStart => exact ⟨0, by omega, rfl, rfl, Gr.refl _, World.ownsRow_nil _ _ _ _⟩
  case round =>
    obtain ⟨k, hk, rfl, rfl, hg, hown⟩ := hrel
    have HG := Lib.hid hg
    have HW := Lib.hid hown
    clear hg hown
    by_cases hlt : k < len
    · have h1 := gr_cell HG.out (HT.out k hlt)
      have hkk := hok k hlt
      by_cases c1 : ts k = 127
      · have hd : needI (ts k) = 1 := by rw [c1]; rfl
        have hnx := needN_succ ts k
        rw [hd] at hnx
        have hle := needN_le ts (show k + 1 ≤ len by omega)
        have HX := Lib.hid (HC.out (needN ts k) (by omega))
        have hxb := hz (needN ts k)
        have HVk := Lib.hid (show takeV ts zs k = setI (fun _ => 0) 32 0 (zs (needN ts k)) by unfold takeV; simp [c1])
        have HNx := Lib.hid hnx
        have hnd : ∀ wx, Calls Try.prog 34 #[.int .i64 127] wx fun e w' => e = .returned (.int .i64 1) ∧ wx = w' := need_any 127
        have HNd := Lib.hid hnd
        clear hnd
        have hNb : (needN ts k : Int) + 1 ≤ n := by omega
        rw [c1] at h1
        generalize needN ts k = N at *
        clear hd hnx hle hok hmono
        have h1a : ∀ o, (wr.alloc o).cell? ⟨tb, to + k, none⟩ = some (.int .i64 127) := fun o => gr_cell ((Gr.refl wr).allocO o) h1
        go_upto_region 10 with (first | (refine wpList_build_at rfl 86 _ rfl (bs fun _ => 0) bld25 ?_) | (refine wpList_store_row rfl 86 _ _ rfl wr.heap.size (bs fun _ => 0) rfl rfl 86 (bs fun _ => 0) (heap_alloc_new wr _) infoV rfl (bs_one _) ?_; rw [World.setRow_alloc_new]))
        clear h1a
        have HR0 := Lib.hid (heap_alloc_new wr (.cells (bs fun _ => 0) 86))
        have HK0 := Lib.hid ((Gr.refl wr).allocO (.cells (bs fun _ => 0) 86))
        have HG0 := Lib.hid (gr_trans HG.out HK0.out)
        have hgw : w.heap.size ≤ wr.heap.size := HG.out.size
        generalize wr.alloc (.cells (bs fun _ => 0) 86) = W0 at *
        generalize hge : wr.heap.size = g at *
        have hgk : wr.heap.size ≤ g := Nat.le_of_eq hge
        clear hge
        have hN1 : N < n := by omega
        refine wp_region_steady_tail 6 (by kernel_rfl) (by kernel_rfl) ?_
        simp only [List.take_succ_cons, List.take_zero, List.drop_succ_cons, List.drop_zero]
        refine steady_step (fun K hK => ?_)
        refine steady_load_row rfl 86 _ rfl g rfl 86 (bs (fun _ => 0)) (0, 0) _ HR0.out Try.underlying86 rfl infoV ?_
        go_simp; refine hK _ ?_; clear hK K
        iterate 3 (refine steady_step (fun K hK => ?_); apply steady_op rfl; (focus (intro wx hw; go_simp; exact ⟨rfl, hw⟩)); go_simp; refine hK _ ?_; clear hK K)
        have hcellw1 := gr_cell (Gr.drew HG0.out) HX.out
        refine steady_step (fun K hK => ?_)
        apply steady_op rfl
        · intro wx hw; have hcx := gr_cell hw hcellw1; go_simp; exact ⟨rfl, hw⟩
        go_simp; refine hK _ ?_; clear hK K
        refine steady_step (fun K hK => ?_)
        apply steady_op rfl
        · intro wx hw; go_simp; exact (rset_any (fun _ => 0) 32 0 (zs N) hxb.1 hxb.2 wx).mono fun e w3 h => ⟨h.1, gr_trans hw h.2⟩
        go_simp; refine hK _ ?_; clear hK K
        refine steady_nil ?_
        intro w1 hg1
        have hs1 := Lib.hid (gr_block hg1 HR0.out)
        refine wpList_store_row rfl 86 _ _ rfl g (bs (setI (fun _ => 0) 32 0 (zs N))) rfl rfl 86 (bs (fun _ => 0)) hs1.out infoV rfl (bs_one _) ?_
        have HRw1 := Lib.hid (setRow_block (c := bs (setI (fun _ => 0) 32 0 (zs N))) hs1.out)
        have HGw1 := Lib.hid (gr_setRow (gr_trans (Gr.drew HG0.out) hg1) hgw (bs (setI (fun _ => 0) 32 0 (zs N))))
        have HKw1 := Lib.hid (gr_setRow (gr_trans (Gr.drew HK0.out) hg1) hgk (bs (setI (fun _ => 0) 32 0 (zs N))))
        have h1 := gr_cell HGw1.out (HT.out k hlt)
        rw [c1] at h1
        clear hg1 hs1 hcellw1
        generalize w1.setRow g (bs (setI (fun _ => 0) 32 0 (zs N))) = Xw1 at *
        go_wp2_with (first | (at_builtin; refine wpList_append_own _ rfl _ _ 74 rfl w.heap.size 86 i0 (.agg (bs fun _ => 0)) 16 16 Try.underlying74 HI.out HZ0.out HZ1.out HZ2.out rfl (by decide) u6 k _ rfl ((owns_gr HW.out HKw1.out).alloc _) ⟨(Xw1).heap.size, 0, none⟩ 1 1 (bs (setI (fun _ => 0) 32 0 (zs N))).toList rfl rfl (fun j u hju => news_cell _ _ _ j u hju) (bs_all _) ?c3 ?c4 ?c5 ?_) | (refine wpList_load_row rfl 86 _ rfl g rfl 86 (bs (setI (fun _ => 0) 32 0 (zs N))) (0, 0) _ HRw1.out Try.underlying86 rfl infoV ?_))
        case c3 => unfold maxLen; omega
        case c4 => omega
        case c5 => have := HGw1.out.size; simp at *; omega
        intro v' w3 hown2 hgb _
        have H1 := Lib.hid (put_fin' HG.out (gr_trans HKw1.out ((Gr.refl _).allocO _)) HW.out hgb)
        have h1 := gr_cell H1.out (HT.out k hlt)
        rw [c1] at h1
        have H3 := Lib.hid (show w3.ownsRow w.heap.size 86 16 v' (k + 1) (vcs (takeV ts zs) (k + 1)) by rw [vcs_succ, HVk.out]; exact hown2)
        clear hown2 hgb
        go_wp2_with (go_at_call 34; refine (HNd.out _).mono ?_; rintro e w' ⟨rfl, rfl⟩)
        exact ⟨⟨k + 1, by omega, by go_num, by rw [HNx.out], H1.out, H3.out⟩, by simp [intOf]; omega⟩
      · by_cases c2 : ts k = 126
        · have hd : needI (ts k) = 1 := by rw [c2]; rfl
          have hnx := needN_succ ts k
          rw [hd] at hnx
          have hle := needN_le ts (show k + 1 ≤ len by omega)
          have HX := Lib.hid (HC.out (needN ts k) (by omega))
          have hxb := hz (needN ts k)
          have HVk := Lib.hid (show takeV ts zs k = setI (fun _ => 0) 64 0 (zs (needN ts k)) by unfold takeV; simp [c2])
          have HNx := Lib.hid hnx
          have hnd : ∀ wx, Calls Try.prog 34 #[.int .i64 126] wx fun e w' => e = .returned (.int .i64 1) ∧ wx = w' := need_any 126
          have HNd := Lib.hid hnd
          clear hnd
          have hNb : (needN ts k : Int) + 1 ≤ n := by omega
          rw [c2] at h1
          generalize needN ts k = N at *
          clear hd hnx hle hok hmono
          have h1a : ∀ o, (wr.alloc o).cell? ⟨tb, to + k, none⟩ = some (.int .i64 126) := fun o => gr_cell ((Gr.refl wr).allocO o) h1
          go_upto_region 11 with (first | (refine wpList_build_at rfl 86 _ rfl (bs fun _ => 0) bld25 ?_) | (refine wpList_store_row rfl 86 _ _ rfl wr.heap.size (bs fun _ => 0) rfl rfl 86 (bs fun _ => 0) (heap_alloc_new wr _) infoV rfl (bs_one _) ?_; rw [World.setRow_alloc_new]))
          clear h1a
          have HR0 := Lib.hid (heap_alloc_new wr (.cells (bs fun _ => 0) 86))
          have HK0 := Lib.hid ((Gr.refl wr).allocO (.cells (bs fun _ => 0) 86))
          have HG0 := Lib.hid (gr_trans HG.out HK0.out)
          have hgw : w.heap.size ≤ wr.heap.size := HG.out.size
          generalize wr.alloc (.cells (bs fun _ => 0) 86) = W0 at *
          generalize hge : wr.heap.size = g at *
          have hgk : wr.heap.size ≤ g := Nat.le_of_eq hge
          clear hge
          have hN1 : N < n := by omega
          refine wp_region_steady_tail 6 (by kernel_rfl) (by kernel_rfl) ?_
          simp only [List.take_succ_cons, List.take_zero, List.drop_succ_cons, List.drop_zero]
          refine steady_step (fun K hK => ?_)
          refine steady_load_row rfl 86 _ rfl g rfl 86 (bs (fun _ => 0)) (0, 0) _ HR0.out Try.underlying86 rfl infoV ?_
          go_simp; refine hK _ ?_; clear hK K
          iterate 3 (refine steady_step (fun K hK => ?_); apply steady_op rfl; (focus (intro wx hw; go_simp; exact ⟨rfl, hw⟩)); go_simp; refine hK _ ?_; clear hK K)
          have hcellw1 := gr_cell (Gr.drew HG0.out) HX.out
          refine steady_step (fun K hK => ?_)
          apply steady_op rfl
          · intro wx hw; have hcx := gr_cell hw hcellw1; go_simp; exact ⟨rfl, hw⟩
          go_simp; refine hK _ ?_; clear hK K
          refine steady_step (fun K hK => ?_)
          apply steady_op rfl
          · intro wx hw; go_simp; exact (rset_any (fun _ => 0) 64 0 (zs N) hxb.1 hxb.2 wx).mono fun e w3 h => ⟨h.1, gr_trans hw h.2⟩
          go_simp; refine hK _ ?_; clear hK K
          refine steady_nil ?_
          intro w1 hg1
          have hs1 := Lib.hid (gr_block hg1 HR0.out)
          refine wpList_store_row rfl 86 _ _ rfl g (bs (setI (fun _ => 0) 64 0 (zs N))) rfl rfl 86 (bs (fun _ => 0)) hs1.out infoV rfl (bs_one _) ?_
          have HRw1 := Lib.hid (setRow_block (c := bs (setI (fun _ => 0) 64 0 (zs N))) hs1.out)
          have HGw1 := Lib.hid (gr_setRow (gr_trans (Gr.drew HG0.out) hg1) hgw (bs (setI (fun _ => 0) 64 0 (zs N))))
          have HKw1 := Lib.hid (gr_setRow (gr_trans (Gr.drew HK0.out) hg1) hgk (bs (setI (fun _ => 0) 64 0 (zs N))))
          have h1 := gr_cell HGw1.out (HT.out k hlt)
          rw [c2] at h1
          clear hg1 hs1 hcellw1
          generalize w1.setRow g (bs (setI (fun _ => 0) 64 0 (zs N))) = Xw1 at *
          go_wp2_with (first | (at_builtin; refine wpList_append_own _ rfl _ _ 74 rfl w.heap.size 86 i0 (.agg (bs fun _ => 0)) 16 16 Try.underlying74 HI.out HZ0.out HZ1.out HZ2.out rfl (by decide) u6 k _ rfl ((owns_gr HW.out HKw1.out).alloc _) ⟨(Xw1).heap.size, 0, none⟩ 1 1 (bs (setI (fun _ => 0) 64 0 (zs N))).toList rfl rfl (fun j u hju => news_cell _ _ _ j u hju) (bs_all _) ?c3 ?c4 ?c5 ?_) | (refine wpList_load_row rfl 86 _ rfl g rfl 86 (bs (setI (fun _ => 0) 64 0 (zs N))) (0, 0) _ HRw1.out Try.underlying86 rfl infoV ?_))
          case c3 => unfold maxLen; omega
          case c4 => omega
          case c5 => have := HGw1.out.size; simp at *; omega
          intro v' w3 hown2 hgb _
          have H1 := Lib.hid (put_fin' HG.out (gr_trans HKw1.out ((Gr.refl _).allocO _)) HW.out hgb)
          have h1 := gr_cell H1.out (HT.out k hlt)
          rw [c2] at h1
          have H3 := Lib.hid (show w3.ownsRow w.heap.size 86 16 v' (k + 1) (vcs (takeV ts zs) (k + 1)) by rw [vcs_succ, HVk.out]; exact hown2)
          clear hown2 hgb
          go_wp2_with (go_at_call 34; refine (HNd.out _).mono ?_; rintro e w' ⟨rfl, rfl⟩)
          exact ⟨⟨k + 1, by omega, by go_num, by rw [HNx.out], H1.out, H3.out⟩, by simp [intOf]; omega⟩
        · have c3 : ts k = 123 := by
            unfold needI at hkk
            by_cases h3 : ts k = 123
            · exact h3
            · rw [if_neg (by omega), if_neg h3] at hkk; exact absurd rfl hkk
          clear c1 c2
          have hd : needI (ts k) = 2 := by rw [c3]; rfl
          have hnx := needN_succ ts k
          rw [hd] at hnx
          have hle := needN_le ts (show k + 1 ≤ len by omega)
          have HX := Lib.hid (HC.out (needN ts k) (by omega))
          have hxb := hz (needN ts k)
          have HY := Lib.hid (HC.out (needN ts k + 1) (by omega))
          have hyb := hz (needN ts k + 1)
          have HVk := Lib.hid (show takeV ts zs k = setI (setI (fun _ => 0) 64 0 (zs (needN ts k))) 64 1 (zs (needN ts k + 1)) by unfold takeV; simp [c3])
          have HNx := Lib.hid hnx
          have hnd : ∀ wx, Calls Try.prog 34 #[.int .i64 123] wx fun e w' => e = .returned (.int .i64 2) ∧ wx = w' := need_any 123
          have HNd := Lib.hid hnd
          clear hnd
          have hNb : (needN ts k : Int) + 2 ≤ n := by omega
          rw [c3] at h1
          generalize needN ts k = N at *
          clear hd hnx hle hok hmono
          have h1a : ∀ o, (wr.alloc o).cell? ⟨tb, to + k, none⟩ = some (.int .i64 123) := fun o => gr_cell ((Gr.refl wr).allocO o) h1
          go_upto_region 11 with (first | (refine wpList_build_at rfl 86 _ rfl (bs fun _ => 0) bld25 ?_) | (refine wpList_store_row rfl 86 _ _ rfl wr.heap.size (bs fun _ => 0) rfl rfl 86 (bs fun _ => 0) (heap_alloc_new wr _) infoV rfl (bs_one _) ?_; rw [World.setRow_alloc_new]))
          clear h1a
          have HR0 := Lib.hid (heap_alloc_new wr (.cells (bs fun _ => 0) 86))
          have HK0 := Lib.hid ((Gr.refl wr).allocO (.cells (bs fun _ => 0) 86))
          have HG0 := Lib.hid (gr_trans HG.out HK0.out)
          have hgw : w.heap.size ≤ wr.heap.size := HG.out.size
          generalize wr.alloc (.cells (bs fun _ => 0) 86) = W0 at *
          generalize hge : wr.heap.size = g at *
          have hgk : wr.heap.size ≤ g := Nat.le_of_eq hge
          clear hge
          have hN1 : N < n := by omega
          have hN2 : N + 1 < n := by omega
          have hwr : IntKind.i64.wrap ((N : Int) + 1) = (N : Int) + 1 := by rw [IntKind.wrap_i64]; omega
          have hwb0 : (0 : Int) ≤ (N : Int) + 1 := by omega
          have hwb1 : (N : Int) + 1 < (n : Int) := by omega
          have hwt : ((N : Int) + 1).toNat = N + 1 := by omega
          refine wp_region_steady_tail 6 (by kernel_rfl) (by kernel_rfl) ?_
          simp only [List.take_succ_cons, List.take_zero, List.drop_succ_cons, List.drop_zero]
          refine steady_step (fun K hK => ?_)
          refine steady_load_row rfl 86 _ rfl g rfl 86 (bs (fun _ => 0)) (0, 0) _ HR0.out Try.underlying86 rfl infoV ?_
          go_simp; refine hK _ ?_; clear hK K
          iterate 3 (refine steady_step (fun K hK => ?_); apply steady_op rfl; (focus (intro wx hw; go_simp; exact ⟨rfl, hw⟩)); go_simp; refine hK _ ?_; clear hK K)
          have hcellw1 := gr_cell (Gr.drew HG0.out) HX.out
          refine steady_step (fun K hK => ?_)
          apply steady_op rfl
          · intro wx hw; have hcx := gr_cell hw hcellw1; go_simp; exact ⟨rfl, hw⟩
          go_simp; refine hK _ ?_; clear hK K
          refine steady_step (fun K hK => ?_)
          apply steady_op rfl
          · intro wx hw; go_simp; exact (rset_any (fun _ => 0) 64 0 (zs N) hxb.1 hxb.2 wx).mono fun e w3 h => ⟨h.1, gr_trans hw h.2⟩
          go_simp; refine hK _ ?_; clear hK K
          refine steady_nil ?_
          intro w1 hg1
          have hs1 := Lib.hid (gr_block hg1 HR0.out)
          refine wpList_store_row rfl 86 _ _ rfl g (bs (setI (fun _ => 0) 64 0 (zs N))) rfl rfl 86 (bs (fun _ => 0)) hs1.out infoV rfl (bs_one _) ?_
          have HRw1 := Lib.hid (setRow_block (c := bs (setI (fun _ => 0) 64 0 (zs N))) hs1.out)
          have HGw1 := Lib.hid (gr_setRow (gr_trans (Gr.drew HG0.out) hg1) hgw (bs (setI (fun _ => 0) 64 0 (zs N))))
          have HKw1 := Lib.hid (gr_setRow (gr_trans (Gr.drew HK0.out) hg1) hgk (bs (setI (fun _ => 0) 64 0 (zs N))))
          have h1 := gr_cell HGw1.out (HT.out k hlt)
          rw [c3] at h1
          clear hg1 hs1 hcellw1
          generalize w1.setRow g (bs (setI (fun _ => 0) 64 0 (zs N))) = Xw1 at *
          go_upto_region 13 with (fail)
          refine wp_region_steady_tail 7 (by kernel_rfl) (by kernel_rfl) ?_
          simp only [List.take_succ_cons, List.take_zero, List.drop_succ_cons, List.drop_zero]
          refine steady_step (fun K hK => ?_)
          refine steady_load_row rfl 86 _ rfl g rfl 86 (bs (setI (fun _ => 0) 64 0 (zs N))) (0, 0) _ HRw1.out Try.underlying86 rfl infoV ?_
          go_simp; refine hK _ ?_; clear hK K
          iterate 4 (refine steady_step (fun K hK => ?_); apply steady_op rfl; (focus (intro wx hw; go_simp; exact ⟨rfl, hw⟩)); go_simp; refine hK _ ?_; clear hK K)
          have hcellw2 := gr_cell (Gr.drew HGw1.out) HY.out
          refine steady_step (fun K hK => ?_)
          apply steady_op rfl
          · intro wx hw; have hcx := gr_cell hw hcellw2; go_simp; exact ⟨rfl, hw⟩
          go_simp; refine hK _ ?_; clear hK K
          refine steady_step (fun K hK => ?_)
          apply steady_op rfl
          · intro wx hw; go_simp; exact (rset_any (setI (fun _ => 0) 64 0 (zs N)) 64 1 (zs (N + 1)) hyb.1 hyb.2 wx).mono fun e w3 h => ⟨h.1, gr_trans hw h.2⟩
          go_simp; refine hK _ ?_; clear hK K
          refine steady_nil ?_
          intro w2 hg1
          have hs1 := Lib.hid (gr_block hg1 HRw1.out)
          refine wpList_store_row rfl 86 _ _ rfl g (bs (setI (setI (fun _ => 0) 64 0 (zs N)) 64 1 (zs (N + 1)))) rfl rfl 86 (bs (setI (fun _ => 0) 64 0 (zs N))) hs1.out infoV rfl (bs_one _) ?_
          have HRw2 := Lib.hid (setRow_block (c := bs (setI (setI (fun _ => 0) 64 0 (zs N)) 64 1 (zs (N + 1)))) hs1.out)
          have HGw2 := Lib.hid (gr_setRow (gr_trans (Gr.drew HGw1.out) hg1) hgw (bs (setI (setI (fun _ => 0) 64 0 (zs N)) 64 1 (zs (N + 1)))))
          have HKw2 := Lib.hid (gr_setRow (gr_trans (Gr.drew HKw1.out) hg1) hgk (bs (setI (setI (fun _ => 0) 64 0 (zs N)) 64 1 (zs (N + 1)))))
          have h1 := gr_cell HGw2.out (HT.out k hlt)
          rw [c3] at h1
          clear hg1 hs1 hcellw2
          generalize w2.setRow g (bs (setI (setI (fun _ => 0) 64 0 (zs N)) 64 1 (zs (N + 1)))) = Xw2 at *
          go_wp2_with (first | (at_builtin; refine wpList_append_own _ rfl _ _ 74 rfl w.heap.size 86 i0 (.agg (bs fun _ => 0)) 16 16 Try.underlying74 HI.out HZ0.out HZ1.out HZ2.out rfl (by decide) u6 k _ rfl ((owns_gr HW.out HKw2.out).alloc _) ⟨(Xw2).heap.size, 0, none⟩ 1 1 (bs (setI (setI (fun _ => 0) 64 0 (zs N)) 64 1 (zs (N + 1)))).toList rfl rfl (fun j u hju => news_cell _ _ _ j u hju) (bs_all _) ?c3 ?c4 ?c5 ?_) | (refine wpList_load_row rfl 86 _ rfl g rfl 86 (bs (setI (setI (fun _ => 0) 64 0 (zs N)) 64 1 (zs (N + 1)))) (0, 0) _ HRw2.out Try.underlying86 rfl infoV ?_))
          case c3 => unfold maxLen; omega
          case c4 => omega
          case c5 => have := HGw2.out.size; simp at *; omega
          intro v' w3 hown2 hgb _
          have H1 := Lib.hid (put_fin' HG.out (gr_trans HKw2.out ((Gr.refl _).allocO _)) HW.out hgb)
          have h1 := gr_cell H1.out (HT.out k hlt)
          rw [c3] at h1
          have H3 := Lib.hid (show w3.ownsRow w.heap.size 86 16 v' (k + 1) (vcs (takeV ts zs) (k + 1)) by rw [vcs_succ, HVk.out]; exact hown2)
          clear hown2 hgb
          go_wp2_with (go_at_call 34; refine (HNd.out _).mono ?_; rintro e w' ⟨rfl, rfl⟩)
          exact ⟨⟨k + 1, by omega, by go_num, by rw [HNx.out], H1.out, H3.out⟩, by simp [intOf]; omega⟩
    · obtain rfl : len = k := by omega
      go_wp2
      go_ret2
      exact ⟨_, rfl, HG.out, HW.out⟩
end Go.Proofs.Ytndbgnkobodjkaa
