/-
  PairBack: for every list of types and of vectors the law returns true, where these are no more than 2^20.
-/
import Derived.Test.YthdklnkaeddogabBackM
namespace Go.Proofs.Ythdklnkaeddogab
open Go.RowKit VecM
theorem putX_yes {ts : Nat → Int} {n m : Nat} (h : okT ts n ∧ n = m) : putX ts n m = 0 := if_pos h
theorem putX_no {ts : Nat → Int} {n m : Nat} (h : ¬ (okT ts n ∧ n = m)) : putX ts n m = 1 := if_neg h
theorem putR_yes {ts : Nat → Int} {vs : Nat → Nat → Int} {n m : Nat} (h : okT ts n ∧ n = m) : putR ts vs n m = putL ts vs n := if_pos h
theorem putR_no {ts : Nat → Int} {vs : Nat → Nat → Int} {n m : Nat} (h : ¬ (okT ts n ∧ n = m)) : putR ts vs n m = [] := if_neg h
theorem owns_slice {w : World} {base : Nat} {e : TypeId} {size : Nat} {v : Value} {n : Nat} {xs : List Value} (h : w.ownsRow base e size v n xs) : ∃ a c, v = .slice a n c := by
  rcases h.2 with ⟨rfl, rfl⟩ | ⟨g, cap, cur, rfl, _⟩
  · exact ⟨_, _, rfl⟩
  · exact ⟨_, _, rfl⟩
theorem u64c_cut {w : World} {a : Option Addr} {c n : Nat} {zs : Nat → Int} (h : U64c w (.slice a n c) n zs) {k : Nat} (hk : k ≤ n) : U64c w (.slice a k c) k zs := by
  rcases h with ⟨rfl, x, c', he⟩ | ⟨hl, b, off, cap, hcap, he, hc⟩
  · obtain rfl : k = 0 := by omega
    exact .inl ⟨rfl, _, _, rfl⟩
  · obtain ⟨rfl, _, rfl⟩ := Value.slice.inj he
    exact .inr ⟨by omega, b, off, c, by omega, rfl, fun j hj => hc j (by omega)⟩
theorem src_one (w : World) (u : Value) (t : TypeId) : Src (w.alloc (.cells #[u] t)) (.slice (some ⟨w.heap.size, 0, none⟩) 1 1) 1 [u] :=
  .inr ⟨_, _, rfl, fun j x hx => by
    have hj : j < 1 := by have := (List.getElem?_eq_some_iff.1 hx).1; simpa using this
    obtain rfl : j = 0 := by omega
    obtain rfl : u = x := by simpa using hx
    exact add_cell _ _ _ _ ((cell_of_row _ _ 0 _ _ _ (heap_alloc_new w _)).trans rfl)⟩
theorem uvs_len (l : List Int) : (uvs l).length = l.length * 1 := by unfold uvs; simp
theorem uvs_one (l : List Int) : ∀ u ∈ uvs l, u.oneCell' = true := fun u hu => by
  unfold uvs at hu
  obtain ⟨x, _, rfl⟩ := List.mem_map.1 hu
  rfl
set_option maxRecDepth 100000 in
set_option maxHeartbeats 4000000 in
theorem back_some (tb to tc n : Nat) (vv : Value) (m : Nat) (ts : Nat → Int) (vs : Nat → Nat → Int) (hvs : ∀ j, Byt (vs j)) (hn : n ≤ 1048576) (hn0 : 0 < n) (w : World)
    (ht : ∀ j, j < n → w.cell? ⟨tb, to + j, none⟩ = some (.int .i64 (ts j))) (hvv : Vecs w vv m vs) :
    Calls Try.prog 8 #[.slice (some ⟨tb, to, none⟩) n tc, vv] w fun e w' => e = .returned (.bool true) ∧ Gr w w' := by
  have HT := Lib.hid ht
  have HI64 := Lib.hid (show I64s w (.slice (some ⟨tb, to, none⟩) n tc) n ts from .inr ⟨by omega, tb, to, tc, rfl, ht⟩)
  obtain ⟨va, vc, rfl⟩ := slice_vecs hvv
  have HV := Lib.hid hvv
  have HB := Lib.hid hvs
  have HN := Lib.hid (show n ≤ 1099511627776 by omega)
  generalize hpx : putX ts n m = px
  generalize hpl : putR ts vs n m = l
  have HPX := Lib.hid hpx
  have HPL := Lib.hid hpl
  clear ht hvv hvs hpx hpl
  go_enter Try.func8, Try.ntmps8
  go_upto_region 3 with (go_at_call 10; refine (Aw.awake _).mono ?_; rintro e w1 ⟨rfl, hg1⟩; have HG1 := Lib.hid hg1; clear hg1)
  go_upto_region 4 with (go_at_call 28; refine (put_any HB.out HN.out (i64s_gr HI64.out HG1.out) (vecs_gr HV.out HG1.out)).mono ?_; rw [HPX.out, HPL.out]; rintro e w2 ⟨s2, rfl, hg2, ho2⟩; have HG2 := Lib.hid (gr_trans HG1.out hg2); have HO2 := Lib.hid ho2; clear hg2 ho2)
  obtain ⟨xa, xc, rfl⟩ := owns_slice HO2.out
  have HU2 := Lib.hid (u64c_of_uvs HO2.out)
  have HS2 := Lib.hid (src_of_owns HO2.out)
  generalize hLL : l.length = L at *
  have HLL := Lib.hid hLL
  clear hLL
  go_wp2_with fail
  go_loop [7, 8] (fun nd i => ∃ k : Nat, k ≤ n ∧ i = .int .i64 k ∧ nd = .int .i64 (needS ts k) ∧ okT ts k) (fun _ i => n - (intOf i).toNat)
  case atStart => exact ⟨0, by omega, rfl, rfl, fun j hj => by omega⟩
  case round =>
    obtain ⟨k, hk, rfl, rfl, hok⟩ := hrel
    have HO := Lib.hid hok
    clear hok
    have hb := needS_bd ts k
    have hb2 : needS ts k ≤ 2199023255552 := by omega
    have hb3 := hb.1
    clear hb
    by_cases hlt : k < n
    · have h1 := gr_cell HG2.out (HT.out k hlt)
      generalize ht : ts k = t at *
      have HT1 := Lib.hid ht
      have hstep : ∀ d, needI t = d → needS ts k + d = needS ts (k + 1) := fun d hd => by simp only [needS]; rw [HT1.out, hd]
      have HS := Lib.hid hstep
      have hokk : needI t ≠ 0 → okT ts (k + 1) := fun hn j hj => by
        by_cases hjk : j = k
        · rw [hjk, HT1.out]; exact hn
        · exact HO.out j (by omega)
      have HK := Lib.hid hokk
      clear ht hstep hokk
      by_cases c1 : t = 127
      · subst c1
        go_wp2
        exact ⟨⟨k + 1, by omega, by go_num, by rw [← HS.out 1 rfl], HK.out (by decide)⟩, by simp [intOf]; omega⟩
      · have g1 : (t == 127) = false := beq_eq_false_iff_ne.2 c1
        by_cases c2 : t = 126
        · subst c2
          clear c1 g1
          go_wp2
          exact ⟨⟨k + 1, by omega, by go_num, by rw [← HS.out 1 rfl], HK.out (by decide)⟩, by simp [intOf]; omega⟩
        · have g2 : (t == 126) = false := beq_eq_false_iff_ne.2 c2
          by_cases c3 : t = 123
          · subst c3
            clear c1 g1 c2 g2
            go_wp2
            exact ⟨⟨k + 1, by omega, by go_num, by rw [← HS.out 2 rfl], HK.out (by decide)⟩, by simp [intOf]; omega⟩
          · have g3 : (t == 123) = false := beq_eq_false_iff_ne.2 c3
            have hno : ¬ okT ts n := fun hh => hh k hlt (by rw [HT1.out]; unfold needI; rw [if_neg (by omega), if_neg c3])
            obtain rfl : px = 1 := by rw [← HPX.out]; exact putX_no fun h => hno h.1
            obtain rfl : L = 0 := by rw [← HLL.out, ← HPL.out, putR_no fun h => hno h.1]; rfl
            have HTK := Lib.hid (show takX ts n 0 = 1 from takX_no fun h => hno h.1)
            clear c1 c2 c3 hno
            go_wp2_with (go_at_call 30; refine (take_any HN.out (i64s_gr HI64.out HG2.out) HU2.out).mono ?_; rw [HTK.out]; rintro e w3 ⟨s3, rfl, hg3, -⟩; have HG3 := Lib.hid (gr_trans HG2.out hg3); clear hg3)
            go_ret
            exact ⟨rfl, HG3.out⟩
    · obtain rfl : n = k := by omega
      clear hlt hk hb2 hb3
      by_cases hnm : n = m
      · subst hnm
        obtain rfl : px = 0 := by rw [← HPX.out]; exact putX_yes ⟨HO.out, rfl⟩
        obtain rfl : putL ts vs n = l := by rw [← HPL.out]; exact (putR_yes ⟨HO.out, rfl⟩).symm
        have hLn := putL_len_ok ts vs n HO.out
        rw [HLL.out] at hLn
        have hLS : needS ts n = (L : Int) := by rw [← needN_eq, hLn]
        have hL0 : 0 < L := by have := needN_pos HO.out (show n ≠ 0 by omega); omega
        have hLb : L ≤ 2097152 := by have := (needS_bd ts n).2; omega
        have HTK := Lib.hid (show takX ts n L = 0 from takX_yes ⟨HO.out, hLn.symm⟩)
        have HTN := Lib.hid (show takN ts n L = n from takN_yes ⟨HO.out, hLn.symm⟩)
        have HTP := Lib.hid (show takX ts n (L + 1) = 1 from takX_no fun h => by omega)
        have HTM := Lib.hid (show takX ts n (L - 1) = 1 from takX_no fun h => by omega)
        rw [hLS]
        clear hLS hLn
        obtain ⟨b, off, rfl, hcell⟩ : ∃ b off, va = some ⟨b, off, none⟩ ∧ ∀ j, j < n → ∀ m, m < 16 → w.cell? ⟨b, off + j * 16 + m, none⟩ = some (.int .u8 (vs j m)) := by
          rcases HV.out with ⟨h, _⟩ | ⟨_, b, off, cap, he, hc⟩
          · omega
          · exact ⟨b, off, (Value.slice.inj he).1, hc⟩
        have HC := Lib.hid hcell
        clear hcell
        obtain ⟨gx, rfl, hLc⟩ : ∃ g, xa = some ⟨g, 0, none⟩ ∧ L ≤ xc := by
          rcases HU2.out with ⟨h, _⟩ | ⟨_, g, o, c, hc, he, _⟩
          · omega
          · obtain ⟨h1, h2, h3⟩ := Value.slice.inj he
            rcases HO2.out.2 with ⟨h, _⟩ | ⟨g', c', cur, h, _⟩
            · obtain ⟨h4, _⟩ := Value.slice.inj h
              rw [h4] at h1; cases h1
            · obtain ⟨h4, _⟩ := Value.slice.inj h
              exact ⟨g', h4, by omega⟩
        go_upto_region 21 with (go_at_call 30; refine (take_any HN.out (i64s_gr HI64.out HG2.out) HU2.out).mono ?_; rw [HTK.out, HTN.out]; rintro e w3 ⟨s3, rfl, hg3, ho3⟩; have HG3 := Lib.hid (gr_trans HG2.out hg3); have HO3 := Lib.hid ho3; have HK3 := Lib.hid hg3; clear hg3 ho3)
        obtain ⟨g3, o3, c3, rfl, hbk⟩ : ∃ g o c, s3 = .slice (some ⟨g, o, none⟩) n c ∧ ∀ j, j < n → ∀ m, m < 16 → w3.cell? ⟨g, o + j * 16 + m, none⟩ = some (.int .u8 (wantV (ts j) (vs j) m)) := by
          rcases vecs_of_owns HO3.out with ⟨h, _⟩ | ⟨_, g, o, c, he, hc⟩
          · omega
          · exact ⟨g, o, c, he, fun j hj m hm => by rw [hc j hj m hm, ← back_vec HB.out HO.out hj m hm]; rfl⟩
        have HBk := Lib.hid hbk
        clear hbk
        go_wp2_with fail
        go_loopw [12] (fun i wr => ∃ k : Nat, k ≤ n ∧ i = .int .i64 k ∧ Gr w3 wr) (fun i _ => n - (intOf i).toNat)
        case atStart => exact ⟨0, by omega, rfl, Gr.refl _⟩
        case round =>
          obtain ⟨k, hk, rfl, hg⟩ := hrel
          have HG := Lib.hid hg
          clear hg
          by_cases hlt : k < n
          · have hl26 : ∀ j u, (bs (vs k)).toList[j]? = some u → wr.cell? ⟨b, off + k * 16 + j, none⟩ = some u := fun j u hu => by
              obtain ⟨hj, rfl⟩ := bs_list _ _ _ hu
              exact gr_cell (gr_trans HG3.out HG.out) (HC.out k hlt j hj)
            have HL26 := Lib.hid hl26
            clear hl26
            go_upto_region 27 with (first | (refine wpList_load_cells rfl 25 _ rfl b (off + k * 16) rfl (bs (vs k)) _ HL26.out Try.underlying25 rfl infoV ?_) | (refine wpList_store_row rfl 25 _ _ rfl wr.heap.size (bs (vs k)) rfl rfl 25 (bs fun _ => 0) (heap_alloc_new wr _) infoV rfl (bs_one _) ?_; rw [World.setRow_alloc_new]))
            have HR0 := Lib.hid (heap_alloc_new wr (.cells (bs (vs k)) 25))
            have HG0 := Lib.hid ((Gr.refl wr).allocO (.cells (bs (vs k)) 25))
            generalize wr.alloc (.cells (bs (vs k)) 25) = W0 at *
            generalize hge : wr.heap.size = g0 at *
            have HG0s := Lib.hid (Nat.le_of_eq hge)
            clear hge
            have h1 := gr_cell (gr_trans HG3.out (gr_trans HG.out HG0.out)) (HT.out k hlt)
            by_cases c1 : ts k = 127
            · rw [c1] at h1
              have hl28 : ∀ j u, (bs (vs k)).toList[j]? = some u → W0.cell? ⟨b, off + k * 16 + j, none⟩ = some u := fun j u hu => by
                obtain ⟨hj, rfl⟩ := bs_list _ _ _ hu
                exact gr_cell (gr_trans HG3.out (gr_trans HG.out HG0.out)) (HC.out k hlt j hj)
              have HL28 := Lib.hid hl28
              clear hl28
              have HGt := Lib.hid (fun wx => get_any (vs k) (HB.out k) 32 0 wx)
              generalize hgx : getI (vs k) 32 0 = gx at *
              have HOf := Lib.hid (of1 32 (by decide) gx)
              go_upto_region 29 with (first | (refine wpList_load_cells rfl 25 _ rfl b (off + k * 16) rfl (bs (vs k)) _ HL28.out Try.underlying25 rfl infoV ?_) | (go_at_call 13; refine (HGt.out _).mono ?_; rintro e w5 ⟨rfl, hg5⟩; have HG5 := Lib.hid hg5; clear hg5) | (go_at_call 26; refine (HOf.out _ _ (u1 w5 gx _)).mono ?_; rintro e w6 ⟨rfl, hg6⟩; have HG6 := Lib.hid (gr_trans (gr_trans HG5.out ((Gr.refl w5).allocO _)) hg6); clear hg6) | (refine wpList_store_row rfl 25 _ _ rfl g0 (bs (setI (fun _ => 0) 32 0 gx)) rfl rfl 25 (bs (vs k)) (gr_block HG6.out HR0.out) infoV rfl (bs_one _) ?_))
              have HGW := Lib.hid (gr_setRow (gr_trans HG0.out HG6.out) HG0s.out (bs (setI (fun _ => 0) 32 0 gx)))
              have HR := Lib.hid (show (w6.setRow g0 (bs (setI (fun _ => 0) 32 0 gx))).heap[g0]? = some (.cells (bs (wantV (ts k) (vs k))) 25 (0, 0)) by rw [setRow_block (c := bs (setI (fun _ => 0) 32 0 gx)) (gr_block HG6.out HR0.out)]; unfold wantV; rw [if_pos c1, hgx])
              generalize w6.setRow g0 (bs (setI (fun _ => 0) 32 0 gx)) = WW at *
              clear hgx
              have h9 := gr_cell (gr_trans HG3.out (gr_trans HG.out HGW.out)) (HT.out k hlt)
              rw [c1] at h9
              have hl31 : ∀ j v, (bs (wantV (ts k) (vs k))).toList[j]? = some v → WW.drew.cell? ⟨g3, o3 + k * 16 + j, none⟩ = some v := fun j v hv => by
                obtain ⟨hj, rfl⟩ := bs_list _ _ _ hv
                exact gr_cell (Gr.drew (gr_trans HG.out HGW.out)) (HBk.out k hlt j hj)
              have HL31 := Lib.hid hl31
              clear hl31
              generalize hww : wantV (ts k) (vs k) = ww at *
              clear hww
              go_upto_region 31 with (fail)
              refine wp_region_steady (by kernel_rfl) (by kernel_rfl) ?_
              iterate 3 (refine steady_step (fun K hK => ?_); apply steady_op rfl; (focus (intro wx hw; go_simp; exact ⟨rfl, hw⟩)); go_simp; refine hK _ ?_; clear hK K)
              refine steady_step (fun K hK => ?_)
              refine steady_load_cells rfl 25 _ rfl g3 (o3 + k * 16) rfl (bs ww) _ HL31.out Try.underlying25 rfl infoV ?_
              go_simp; refine hK _ ?_; clear hK K
              refine steady_step (fun K hK => ?_)
              refine steady_load_row rfl 25 _ rfl g0 rfl 25 (bs ww) (0, 0) _ HR.out Try.underlying25 rfl infoV ?_
              go_simp; refine hK _ ?_; clear hK K
              refine steady_step (fun K hK => ?_)
              apply steady_op rfl
              · intro wx hw; have hv := eq_vec ww ww wx; have hr := vecB_refl ww; go_simp; exact ⟨rfl, hw⟩
              go_simp; refine hK _ ?_; clear hK K
              refine steady_nil ?_
              intro w9 hg9
              have HN9 := Lib.hid (gr_trans (Gr.drew (gr_trans HG.out HGW.out)) hg9)
              clear hg9
              go_wp2
              exact ⟨⟨k + 1, by omega, by go_num, HN9.out⟩, by simp [intOf]; omega⟩
            · by_cases c2 : ts k = 126
              · rw [c2] at h1
                have hl28 : ∀ j u, (bs (vs k)).toList[j]? = some u → W0.cell? ⟨b, off + k * 16 + j, none⟩ = some u := fun j u hu => by
                  obtain ⟨hj, rfl⟩ := bs_list _ _ _ hu
                  exact gr_cell (gr_trans HG3.out (gr_trans HG.out HG0.out)) (HC.out k hlt j hj)
                have HL28 := Lib.hid hl28
                clear hl28
                have HGt := Lib.hid (fun wx => get_any (vs k) (HB.out k) 64 0 wx)
                generalize hgx : getI (vs k) 64 0 = gx at *
                have HOf := Lib.hid (of1 64 (by decide) gx)
                go_upto_region 31 with (first | (refine wpList_load_cells rfl 25 _ rfl b (off + k * 16) rfl (bs (vs k)) _ HL28.out Try.underlying25 rfl infoV ?_) | (go_at_call 13; refine (HGt.out _).mono ?_; rintro e w5 ⟨rfl, hg5⟩; have HG5 := Lib.hid hg5; clear hg5) | (go_at_call 26; refine (HOf.out _ _ (u1 w5 gx _)).mono ?_; rintro e w6 ⟨rfl, hg6⟩; have HG6 := Lib.hid (gr_trans (gr_trans HG5.out ((Gr.refl w5).allocO _)) hg6); clear hg6) | (refine wpList_store_row rfl 25 _ _ rfl g0 (bs (setI (fun _ => 0) 64 0 gx)) rfl rfl 25 (bs (vs k)) (gr_block HG6.out HR0.out) infoV rfl (bs_one _) ?_))
                have HGW := Lib.hid (gr_setRow (gr_trans HG0.out HG6.out) HG0s.out (bs (setI (fun _ => 0) 64 0 gx)))
                have HR := Lib.hid (show (w6.setRow g0 (bs (setI (fun _ => 0) 64 0 gx))).heap[g0]? = some (.cells (bs (wantV (ts k) (vs k))) 25 (0, 0)) by rw [setRow_block (c := bs (setI (fun _ => 0) 64 0 gx)) (gr_block HG6.out HR0.out)]; unfold wantV; rw [if_neg c1, if_pos c2, hgx])
                generalize w6.setRow g0 (bs (setI (fun _ => 0) 64 0 gx)) = WW at *
                clear hgx
                have h9 := gr_cell (gr_trans HG3.out (gr_trans HG.out HGW.out)) (HT.out k hlt)
                have hl31 : ∀ j v, (bs (wantV (ts k) (vs k))).toList[j]? = some v → WW.drew.cell? ⟨g3, o3 + k * 16 + j, none⟩ = some v := fun j v hv => by
                  obtain ⟨hj, rfl⟩ := bs_list _ _ _ hv
                  exact gr_cell (Gr.drew (gr_trans HG.out HGW.out)) (HBk.out k hlt j hj)
                have HL31 := Lib.hid hl31
                clear hl31
                generalize hww : wantV (ts k) (vs k) = ww at *
                clear hww
                go_upto_region 31 with (fail)
                refine wp_region_steady (by kernel_rfl) (by kernel_rfl) ?_
                iterate 3 (refine steady_step (fun K hK => ?_); apply steady_op rfl; (focus (intro wx hw; go_simp; exact ⟨rfl, hw⟩)); go_simp; refine hK _ ?_; clear hK K)
                refine steady_step (fun K hK => ?_)
                refine steady_load_cells rfl 25 _ rfl g3 (o3 + k * 16) rfl (bs ww) _ HL31.out Try.underlying25 rfl infoV ?_
                go_simp; refine hK _ ?_; clear hK K
                refine steady_step (fun K hK => ?_)
                refine steady_load_row rfl 25 _ rfl g0 rfl 25 (bs ww) (0, 0) _ HR.out Try.underlying25 rfl infoV ?_
                go_simp; refine hK _ ?_; clear hK K
                refine steady_step (fun K hK => ?_)
                apply steady_op rfl
                · intro wx hw; have hv := eq_vec ww ww wx; have hr := vecB_refl ww; go_simp; exact ⟨rfl, hw⟩
                go_simp; refine hK _ ?_; clear hK K
                refine steady_nil ?_
                intro w9 hg9
                have HN9 := Lib.hid (gr_trans (Gr.drew (gr_trans HG.out HGW.out)) hg9)
                clear hg9
                go_wp2
                exact ⟨⟨k + 1, by omega, by go_num, HN9.out⟩, by simp [intOf]; omega⟩
              · have g1 : (ts k == 127) = false := beq_eq_false_iff_ne.2 c1
                have g2 : (ts k == 126) = false := beq_eq_false_iff_ne.2 c2
                have HGW := HG0
                have HR := Lib.hid (show W0.heap[g0]? = some (.cells (bs (wantV (ts k) (vs k))) 25 (0, 0)) by rw [HR0.out]; unfold wantV; rw [if_neg c1, if_neg c2])
                clear HR0 HG0
                generalize W0 = WW at *
                clear c1 c2
                have hl31 : ∀ j v, (bs (wantV (ts k) (vs k))).toList[j]? = some v → WW.drew.cell? ⟨g3, o3 + k * 16 + j, none⟩ = some v := fun j v hv => by
                  obtain ⟨hj, rfl⟩ := bs_list _ _ _ hv
                  exact gr_cell (Gr.drew (gr_trans HG.out HGW.out)) (HBk.out k hlt j hj)
                have HL31 := Lib.hid hl31
                clear hl31
                generalize hww : wantV (ts k) (vs k) = ww at *
                clear hww
                go_upto_region 31 with (fail)
                refine wp_region_steady (by kernel_rfl) (by kernel_rfl) ?_
                iterate 3 (refine steady_step (fun K hK => ?_); apply steady_op rfl; (focus (intro wx hw; go_simp; exact ⟨rfl, hw⟩)); go_simp; refine hK _ ?_; clear hK K)
                refine steady_step (fun K hK => ?_)
                refine steady_load_cells rfl 25 _ rfl g3 (o3 + k * 16) rfl (bs ww) _ HL31.out Try.underlying25 rfl infoV ?_
                go_simp; refine hK _ ?_; clear hK K
                refine steady_step (fun K hK => ?_)
                refine steady_load_row rfl 25 _ rfl g0 rfl 25 (bs ww) (0, 0) _ HR.out Try.underlying25 rfl infoV ?_
                go_simp; refine hK _ ?_; clear hK K
                refine steady_step (fun K hK => ?_)
                apply steady_op rfl
                · intro wx hw; have hv := eq_vec ww ww wx; have hr := vecB_refl ww; go_simp; exact ⟨rfl, hw⟩
                go_simp; refine hK _ ?_; clear hK K
                refine steady_nil ?_
                intro w9 hg9
                have HN9 := Lib.hid (gr_trans (Gr.drew (gr_trans HG.out HGW.out)) hg9)
                clear hg9
                go_wp2
                exact ⟨⟨k + 1, by omega, by go_num, HN9.out⟩, by simp [intOf]; omega⟩
          · obtain rfl : n = k := by omega
            clear hlt hk
            have HGL := Lib.hid (gr_trans HG3.out HG.out)
            have hL0i : ((L : Int) == 0) = false := beq_eq_false_iff_ne.2 (by omega)
            have hLone : (0 : Int) ≤ (L : Int) - 1 := by omega
            have hLcap : (L : Int) - 1 ≤ (xc : Int) := by omega
            have hLnat : ((L : Int) - 1).toNat = L - 1 := by omega
            have HS6 := Lib.hid (src_gr HS2.out (gr_trans HK3.out HG.out))
            obtain ⟨i0, hi, hz0, hz1, hz2⟩ := info_parts info64
            have HI := Lib.hid hi
            have HZ0 := Lib.hid hz0
            have HZ1 := Lib.hid hz1
            have HZ2 := Lib.hid hz2
            clear hi hz0 hz1 hz2
            have hul := uvs_len (putL ts vs n)
            rw [HLL.out] at hul
            have HUL := Lib.hid hul
            clear hul
            go_wp2_with (at_builtin; refine wpList_append_src rfl _ _ 34 rfl wr.heap.size 26 i0 (.int .u64 0) 1 8 Try.underlying34 HI.out HZ0.out HZ1.out HZ2.out rfl (by decide) (.slice (some ⟨wr.heap.size, 0, none⟩) 0 0) 0 [] rfl (World.ownsRow_made wr #[] 0 (Nat.le_refl _) (by decide) rfl) (.slice (some ⟨gx, 0, none⟩) L xc) L (uvs (putL ts vs n)) rfl (src_gr HS6.out ((Gr.refl wr).allocO _)) HUL.out (uvs_one _) (by unfold maxLen; omega) (by omega) (by simp) ?_)
            intro v' w5 hown5 hgb5
            have HG5 := Lib.hid (((Gr.refl wr).allocO _).grown hgb5 (fun q hq => by simp [Value.ownBlock] at hq; omega))
            have HO5 := Lib.hid hown5
            clear hown5 hgb5
            go_wp2_with (at_builtin; refine wpList_append_src rfl _ _ 34 rfl wr.heap.size 26 i0 (.int .u64 0) 1 8 Try.underlying34 HI.out HZ0.out HZ1.out HZ2.out rfl (by decide) v' L (uvs (putL ts vs n)) rfl (HO5.out.alloc _) (.slice (some ⟨w5.heap.size, 0, none⟩) 1 1) 1 [.int .u64 1] rfl (src_one w5 _ _) rfl (fun u hu => by simp at hu; subst hu; rfl) (by unfold maxLen; omega) (by omega) (by have := HG5.out.size; simp; omega) ?_)
            intro v7 w7 hown7 hgb7
            have HG7 := Lib.hid (((gr_trans HG5.out ((Gr.refl w5).allocO _))).grown hgb7 (fun q hq => (HO5.out.lt q hq).1))
            have HO7 := Lib.hid (show w7.ownsRow wr.heap.size 26 1 v7 (putL ts vs n ++ [1]).length (uvs (putL ts vs n ++ [1])) by
              have e1 : (putL ts vs n ++ [1]).length = L + 1 := by rw [List.length_append, HLL.out]; rfl
              have e2 : uvs (putL ts vs n ++ [1]) = uvs (putL ts vs n) ++ [.int .u64 1] := by rw [uvs_app]; rfl
              rw [e1, e2]; exact hown7)
            have HU7 := Lib.hid (u64c_of_uvs HO7.out)
            have hl7 : (putL ts vs n ++ [1]).length = L + 1 := by rw [List.length_append, HLL.out]; rfl
            generalize (putL ts vs n ++ [1]).length = L7 at *
            subst hl7
            clear hown7 hgb7
            have HGM := Lib.hid (gr_trans HGL.out HG7.out)
            go_upto_region 35 with (go_at_call 30; refine (take_any HN.out (i64s_gr HI64.out HGM.out) HU7.out).mono ?_; rw [HTP.out]; rintro e w8 ⟨s8, rfl, hg8, -⟩; have HG8 := Lib.hid (gr_trans HG7.out hg8); clear hg8)
            have HGN := Lib.hid (gr_trans HGL.out HG8.out)
            have HU8 := Lib.hid (u64c_cut (u64c_gr HU2.out (gr_trans HK3.out (gr_trans HG.out HG8.out))) (Nat.sub_le L 1))
            go_wp2_with (go_at_call 30; refine (take_any HN.out (i64s_gr HI64.out HGN.out) HU8.out).mono ?_; rw [HTM.out]; rintro e w9 ⟨s9, rfl, hg9, -⟩; have HG9 := Lib.hid (gr_trans HGN.out hg9); clear hg9)
            go_ret
            exact ⟨rfl, HG9.out⟩
      · obtain rfl : px = 1 := by rw [← HPX.out]; exact putX_no fun h => hnm h.2
        obtain rfl : L = 0 := by rw [← HLL.out, ← HPL.out, putR_no fun h => hnm h.2]; rfl
        have hne : ((n : Int) != (m : Int)) = true := by rw [bne_iff_ne]; intro e; exact hnm (by omega)
        clear hnm
        go_wp2
        go_ret
        exact ⟨rfl, HG2.out⟩
end Go.Proofs.Ythdklnkaeddogab
