/-
  LebKeeps: lists that are handed in stay, and what is answered is new memory, each time.
-/
import Derived.Test.YthdklnkaeddogaaLebCutM
import Derived.Test.YthdklnkaeddogaaSep
import Derived.Deep.AppendLies
namespace Go.Proofs.Ythdklnkaeddogaa
open Go.RowKit LebM
theorem info64 : (Try.prog.info? 24).map (fun i => (i.zero, i.size, i.bytes)) = some (some (.int .u64 0), 1, 8) := by kernel_rfl
theorem str_of_src {w : World} {v : Value} {l : List Int} (h : Src w v l.length (u8s l)) : Str w v l := by
  intro dst hd
  rcases h with ⟨rfl, hl, _⟩ | ⟨ad, c, rfl, hc⟩
  · obtain rfl : l = [] := List.eq_nil_of_length_eq_zero hl
    exact run_convert_bytes_nil w 22 5 Try.underlying22 Try.underlying5 0 0 dst hd
  · have h1 := run_loadCells_list (P := Try.prog) w ad (u8s l) hc
    rw [u8s_len] at h1
    rw [run_convert_bytes_string w 22 dst 5 (some ad) l.length c Try.underlying22 Try.underlying5 hd, run_bytesToString w ad l.length c l h1, foldl_push_bytes]
    congr 2
    simp [strOfNums]
theorem u64m_len (l : List Int) : (l.map (Value.int .u64)).length = l.length * 1 := by simp
theorem u64m_one (l : List Int) : ∀ u ∈ l.map (Value.int .u64), u.oneCell' = true := fun u hu => by
  obtain ⟨x, _, rfl⟩ := List.mem_map.1 hu
  rfl
theorem cat56 (l : List Int) : strOfNums l ++ { data := #[5, 6] } = strOfNums (l ++ [5, 6]) := by
  apply ByteArray.ext
  simp [strOfNums]
theorem u8s_set (l : List Int) (j : Nat) (x : Int) : (u8s l).set j (.int .u8 x) = u8s (l.set j x) := by unfold u8s; rw [List.map_set]
set_option maxRecDepth 100000 in
set_option maxHeartbeats 8000000 in
theorem keeps_walk (uv : Value) (zl : List Int) (hz : ∀ x ∈ zl, 0 ≤ x ∧ x < 18446744073709551616) (hzl : zl.length ≤ 1048576) (bv : Value) (bl : List Int) (hb : ∀ x ∈ bl, 0 ≤ x ∧ x < 256) (hbl : bl.length ≤ 1048576) (w : World)
    (hu : Ks .u64 w uv zl.length (lst zl)) (hus : Src w uv zl.length (zl.map (Value.int .u64))) (hbu : U8s w bv bl.length (lst bl)) (hbs : Src w bv bl.length (u8s bl)) :
    Calls Try.prog 9 #[uv, bv] w fun e w' => e = .returned (.bool true) ∧ Gr w w' := by
  obtain ⟨ua, uc, rfl⟩ := slice_ks hu
  obtain ⟨ba, bc, rfl⟩ := slice_u8s hbu
  have HK := Lib.hid hu
  have HSu := Lib.hid hus
  have HSb := Lib.hid hbs
  have HZb := Lib.hid (show ∀ j, 0 ≤ lst zl j ∧ lst zl j < 18446744073709551616 from fun j => by have := lst_bd (l := zl) (a := 0) (b := 18446744073709551615) (by decide) (fun x hx => by have := hz x hx; omega) j; omega)
  have HBb := Lib.hid hb
  have hEl := forms_len (f := formU) (lebU_len 9) (lst zl) zl.length
  generalize hEE : forms formU (lst zl) zl.length = E at *
  have HPut := Lib.hid (show ∀ sv w, Ks .u64 w sv zl.length (lst zl) → Calls Try.prog 15 #[sv] w fun e w' => ∃ sv, e = .returned sv ∧ Gr w w' ∧ w'.ownsRow w.heap.size 5 1 sv E.length (u8s E) from fun sv w h => by
    have := putu_any sv zl.length (lst zl) HZb.out (by omega) w h
    rw [hEE] at this
    exact this)
  have HBl := Lib.hid (show ∀ x ∈ bl ++ [5, 6], 0 ≤ x ∧ x < 256 from fun x hx => by
    rcases List.mem_append.1 hx with h | h
    · exact hb x h
    · simp at h; omega)
  obtain ⟨i0, hi, hz0, hz1, hz2⟩ := info_parts info8
  have HI := Lib.hid hi
  have HZ0 := Lib.hid hz0
  have HZ1 := Lib.hid hz1
  have HZ2 := Lib.hid hz2
  obtain ⟨j0, hj, hj0, hj1, hj2⟩ := info_parts info64
  have HJ := Lib.hid hj
  have HJ0 := Lib.hid hj0
  have HJ1 := Lib.hid hj1
  have HJ2 := Lib.hid hj2
  generalize hN : zl.length = N at *
  have HN := Lib.hid hN
  generalize hM : bl.length = M at *
  have HM := Lib.hid hM
  have HSE := Lib.hid (strOfNums_size E)
  clear hi hz0 hz1 hz2 hj hj0 hj1 hj2 hu hus hbu hbs hz hb hEE hN hM
  go_enter Try.func9, Try.ntmps9
  go_upto_region 3 with (go_at_call 10; refine (awake_any _).mono ?_; rintro e w1 ⟨rfl, hg1⟩; have HG1 := Lib.hid hg1; clear hg1)
  have HS1 := Lib.hid (src_gr HSu.out HG1.out)
  go_wp2_with (at_builtin; refine wpList_append_src rfl _ _ 31 rfl w1.heap.size 24 j0 (.int .u64 0) 1 8 Try.underlying31 HJ.out HJ0.out HJ1.out HJ2.out rfl (by decide) (.slice (some ⟨w1.heap.size, 0, none⟩) 0 0) 0 [] rfl (World.ownsRow_made w1 #[] 0 (Nat.le_refl _) (by decide) rfl) (.slice ua N uc) N (zl.map (Value.int .u64)) rfl (src_gr HS1.out ((Gr.refl w1).allocO _)) (by rw [u64m_len, HN.out]) (u64m_one _) (by unfold maxLen; omega) (by omega) (by simp) ?_)
  intro v2 w2 hown2 hgb2
  have HG2 := Lib.hid (((Gr.refl w1).allocO _).grown hgb2 (fun q hq => by simp [Value.ownBlock] at hq; omega))
  have HO2 := Lib.hid (show w2.ownsRow w1.heap.size 24 1 v2 N (zl.map (Value.int .u64)) by simpa using hown2)
  clear hown2 hgb2
  go_wp2_with (at_builtin; refine wpList_append_src rfl _ _ 31 rfl w1.heap.size 24 j0 (.int .u64 0) 1 8 Try.underlying31 HJ.out HJ0.out HJ1.out HJ2.out rfl (by decide) v2 N (zl.map (Value.int .u64)) rfl (HO2.out.alloc _) (.slice (some ⟨w2.heap.size, 0, none⟩) 2 2) 2 [.int .u64 71, .int .u64 72] rfl (src_lit w2 #[.int .u64 71, .int .u64 72] _ 2 2) rfl (fun u hu => by simp at hu; rcases hu with rfl | rfl <;> rfl) (by unfold maxLen; omega) (by omega) (by have := HG2.out.size; simp; omega) ?_)
  intro v3 w3 hown3 hgb3
  have HG3 := Lib.hid ((gr_trans HG2.out ((Gr.refl w2).allocO _)).grown hgb3 (fun q hq => (HO2.out.lt q hq).1))
  obtain ⟨gf, cf, rfl, hcf, -, -⟩ := own_some hown3 (by omega)
  have HO3 := Lib.hid hown3
  clear hown3 hgb3 HG2 HO2 HS1
  have HFc := Lib.hid (show Ks .u64 w3 (.slice (some ⟨gf, 0, none⟩) N cf) N (lst zl) from .inr ⟨by omega, gf, 0, cf, rfl, fun j hj => by
    rw [Nat.zero_add, HO3.out.cellAt j (by omega), List.getElem?_append_left (by rw [u64m_len, HN.out]; omega), List.getElem?_map, List.getElem?_eq_getElem (by rw [HN.out]; exact hj)]
    unfold lst
    rw [List.getD_eq_getElem?_getD, List.getElem?_eq_getElem (by rw [HN.out]; exact hj)]
    rfl⟩)
  have H71 := Lib.hid (show w3.cell? ⟨gf, N, none⟩ = some (.int .u64 71) by rw [HO3.out.cellAt N (by omega), List.getElem?_append_right (by rw [u64m_len, HN.out]; omega), u64m_len, HN.out]; simp)
  have hNc : (N : Int) ≤ (cf : Int) := by omega
  go_upto_region 5 with (go_at_call 15; refine (HPut.out _ _ HFc.out).mono ?_; rintro e w4 ⟨s4, rfl, hg4, ho4⟩; have HG4 := Lib.hid hg4; have HO4 := Lib.hid ho4; clear hg4 ho4)
  go_upto_region 6 with (go_at_call 15; refine (HPut.out _ _ (ks_gr HFc.out HG4.out)).mono ?_; rintro e w5 ⟨s5, rfl, hg5, ho5⟩; have HG5 := Lib.hid hg5; have HO5 := Lib.hid ho5; clear hg5 ho5)
  obtain ⟨a4, c4, rfl⟩ := own_slice HO4.out
  obtain ⟨a5, c5, rfl⟩ := own_slice HO5.out
  have HG15 := Lib.hid (gr_trans HG1.out (gr_trans HG3.out (gr_trans HG4.out HG5.out)))
  have HS5 := Lib.hid (src_gr HSb.out HG15.out)
  go_wp2_with (at_builtin; refine wpList_append_src rfl _ _ 22 rfl w5.heap.size 5 i0 (.int .u8 0) 1 1 Try.underlying22 HI.out HZ0.out HZ1.out HZ2.out rfl (by decide) (.slice (some ⟨w5.heap.size, 0, none⟩) 0 0) 0 [] rfl (World.ownsRow_made w5 #[] 0 (Nat.le_refl _) (by decide) rfl) (.slice ba M bc) M (u8s bl) rfl (src_gr HS5.out ((Gr.refl w5).allocO _)) (by rw [u8s_len1, HM.out]) (u8s_one _) (by unfold maxLen; omega) (by omega) (by simp) ?_)
  intro v6 w6 hown6 hgb6
  have HG6 := Lib.hid (((Gr.refl w5).allocO _).grown hgb6 (fun q hq => by simp [Value.ownBlock] at hq; omega))
  have HO6 := Lib.hid (show w6.ownsRow w5.heap.size 5 1 v6 M (u8s bl) by simpa using hown6)
  clear hown6 hgb6
  go_wp2_with (at_builtin; refine wpList_append_src rfl _ _ 22 rfl w5.heap.size 5 i0 (.int .u8 0) 1 1 Try.underlying22 HI.out HZ0.out HZ1.out HZ2.out rfl (by decide) v6 M (u8s bl) rfl (HO6.out.alloc _) (.slice (some ⟨w6.heap.size, 0, none⟩) 2 2) 2 [.int .u8 5, .int .u8 6] rfl (src_lit w6 #[.int .u8 5, .int .u8 6] _ 2 2) rfl (fun u hu => by simp at hu; rcases hu with rfl | rfl <;> rfl) (by unfold maxLen; omega) (by omega) (by have := HG6.out.size; simp; omega) ?_)
  intro v7 w7 hown7 hgb7
  have HG7 := Lib.hid ((gr_trans HG6.out ((Gr.refl w6).allocO _)).grown hgb7 (fun q hq => (HO6.out.lt q hq).1))
  have HO7 := Lib.hid (show w7.ownsRow w5.heap.size 5 1 v7 (bl ++ [5, 6]).length (u8s (bl ++ [5, 6])) by
    rw [List.length_append, HM.out, u8s_app]; exact hown7)
  obtain ⟨g7, c7, rfl, hc7, -, -⟩ := own_some hown7 (by omega)
  clear hown7 hgb7 HG6 HO6 HS5
  have HU7 := Lib.hid (show U8s w7 (.slice (some ⟨g7, 0, none⟩) M c7) M (lst (bl ++ [5, 6])) from by
    have h := u8s_of_owns (v := .slice (some ⟨g7, 0, none⟩) (M + 2) c7) (l := bl ++ [5, 6]) HO7.out
    have h56 : (bl ++ [(5 : Int), 6]).length = M + 2 := by rw [List.length_append, HM.out]; rfl
    rw [h56] at h
    exact u8s_cut h (by omega))
  have HUx := Lib.hid (show ∀ sv w, U8s w sv M (lst (bl ++ [5, 6])) → Calls Try.prog 11 #[sv, .int .i64 0, .int .i64 64] w fun e w' => ∃ a b c, e = .returned (.tuple #[.int .u64 a, .int .i64 b, .int .i64 c]) ∧ w = w' from fun sv w h => (u_any sv M _ (lst_by HBl.out) 0 64 w h).mono fun e w' h => ⟨_, _, _, h.1, h.2⟩)
  have HSx := Lib.hid (show ∀ sv w, U8s w sv M (lst (bl ++ [5, 6])) → Calls Try.prog 13 #[sv, .int .i64 0, .int .i64 64] w fun e w' => ∃ a b c, e = .returned (.tuple #[.int .i64 a, .int .i64 b, .int .i64 c]) ∧ w = w' from fun sv w h => (s_any sv M _ (lst_by HBl.out) 0 64 w h).mono fun e w' h => ⟨_, _, _, h.1, h.2⟩)
  have hMc : (M : Int) ≤ (c7 : Int) := by omega
  go_upto_region 8 with (go_at_call 11; refine (HUx.out _ _ HU7.out).mono ?_; rintro e w' ⟨x1, x2, x3, rfl, rfl⟩)
  go_upto_region 9 with (go_at_call 13; refine (HSx.out _ _ HU7.out).mono ?_; rintro e w' ⟨y1, y2, y3, rfl, rfl⟩)
  have HG17 := Lib.hid (gr_trans HG15.out HG7.out)
  have HG37 := Lib.hid (gr_trans HG4.out (gr_trans HG5.out HG7.out))
  go_wp2_with fail
  go_loopw [9] (fun i wr => ∃ k : Nat, k ≤ N ∧ i = .int .i64 k ∧ Gr w7 wr) (fun i _ => N - (intOf i).toNat)
  case atStart => exact ⟨0, by omega, rfl, Gr.refl _⟩
  case round =>
    obtain ⟨k, hk, rfl, hg⟩ := hrel
    have HG := Lib.hid hg
    clear hg
    by_cases hlt : k < N
    · obtain ⟨ub, uo, uc', he, huc⟩ : ∃ b o c, ua = some ⟨b, o, none⟩ ∧ ∀ j, j < N → w.cell? ⟨b, o + j, none⟩ = some (.int .u64 (lst zl j)) := by
        rcases HK.out with ⟨h, _⟩ | ⟨_, b, o, c, he, hc⟩
        · omega
        · exact ⟨b, o, c, (Value.slice.inj he).1, hc⟩
      subst he
      have h1 := gr_cell (gr_trans HG17.out HG.out) (huc k hlt)
      have h2 : wr.cell? ⟨gf, k, none⟩ = some (.int .u64 (lst zl k)) := gr_cell (gr_trans HG37.out HG.out) (by
        rcases HFc.out with ⟨h, _⟩ | ⟨_, b, o, c, he, hc⟩
        · omega
        · obtain ⟨h1, _, _⟩ := Value.slice.inj he
          obtain ⟨rfl, rfl⟩ : b = gf ∧ o = 0 := by simp at h1; exact ⟨h1.1.symm, h1.2.symm⟩
          have := hc k hlt
          rwa [Nat.zero_add] at this)
      generalize lst zl k = zk at *
      have hki : (k : Int) < (N : Int) := by omega
      have hkf : (k : Int) < (N : Int) + 2 := by omega
      clear huc
      go_wp2_with fail
      go_quiet (fail)
      go_wp2
      exact ⟨⟨k + 1, by omega, by go_num, HG.out.drewN _⟩, by simp [intOf]; omega⟩
    · obtain rfl : k = N := by omega
      obtain ⟨w8, rfl⟩ : ∃ w8, w8 = wr := ⟨_, rfl⟩
      have HG38 := Lib.hid (gr_trans HG37.out HG.out)
      have HGw8 := Lib.hid (gr_trans HG17.out HG.out)
      have HO4w := Lib.hid (own_gr HO4.out (gr_trans HG5.out (gr_trans HG7.out HG.out)))
      have HO5w := Lib.hid (own_gr HO5.out (gr_trans HG7.out HG.out))
      have h71 := gr_cell HG38.out H71.out
      have hcv7 := str_of_owns (v := .slice (some ⟨g7, 0, none⟩) (M + 2) c7) (l := bl ++ [5, 6]) (own_gr HO7.out HG.out)
      have hcvb := str_of_src (v := .slice ba M bc) (l := bl) (by rw [HM.out]; exact src_gr HSb.out HGw8.out)
      have hcv4 := str_of_owns HO4w.out
      have hcv5 := str_of_owns HO5w.out
      unfold Str at hcv7 hcvb hcv4 hcv5
      have hcat := cat56 bl
      have hsz : ((strOfNums bl).size : Int) ≤ 8388608 := by rw [strOfNums_size, HM.out]; omega
      have HSE := Lib.hid (show Str w8 (.slice a5 E.length c5) E from hcv5)
      generalize hss : strOfNums (bl ++ [5, 6]) = sr at *
      generalize hsb : strOfNums bl = sb at *
      generalize hse : strOfNums E = se at *
      have HSe := Lib.hid hse
      have hNf : (k : Int) < (k : Int) + 2 := by omega
      clear hss hsb hse hlt hk
      go_upto_region 17 with (fail)
      obtain ⟨ex, hex⟩ : ∃ ex : Nat → Prop, ∀ q, ex q ↔ ((Value.slice a4 E.length c4).ownBlock = some q ∨ w8.heap.size ≤ q) := ⟨_, fun _ => Iff.rfl⟩
      have HZs := Lib.hid (show w.heap.size ≤ w3.heap.size ∧ w3.heap.size ≤ w4.heap.size ∧ w4.heap.size ≤ w5.heap.size ∧ w5.heap.size ≤ w8.heap.size from ⟨by have := HG1.out.size; have := HG3.out.size; omega, HG4.out.size, HG5.out.size, (gr_trans HG7.out HG.out).size⟩)
      have HEa := Lib.hid (show ∀ q, (Value.slice a4 E.length c4).ownBlock = some q → ex q from fun q h => (hex q).2 (.inl h))
      have HEb := Lib.hid (show ∀ q, w8.heap.size ≤ q → ex q from fun q h => (hex q).2 (.inr h))
      have HN5 := Lib.hid (show ∀ q, (Value.slice a5 E.length c5).ownBlock = some q → ¬ ex q from fun q h hx => by
        have h5 := HO5.out.lt q h
        have := HZs.out
        rcases (hex q).1 hx with h' | h'
        · have := HO4.out.lt q h'; omega
        · omega)
      have HEw := Lib.hid (show ∀ q, ex q → w.heap.size ≤ q from fun q hx => by
        have := HZs.out
        rcases (hex q).1 hx with h' | h'
        · have := HO4.out.lt q h'; omega
        · omega)
      clear hex hcat hcv7 hcvb hcv4 hcv5 h71 hsz
      go_wp2_with fail
      go_loopw [11] (fun i wr => ∃ j : Nat, j ≤ E.length ∧ i = .int .i64 j ∧ Sep ex w8 wr ∧ ∃ xs, wr.ownsRow w3.heap.size 5 1 (.slice a4 E.length c4) E.length xs ∧ ∀ (p : Nat) u, xs[p]? = some u → ∃ v, u = .int .u8 v) (fun i _ => E.length - (intOf i).toNat)
      case atStart => exact ⟨0, by omega, rfl, Sep.refl _, _, HO4w.out, fun p u hu => by
        unfold u8s at hu
        rw [List.getElem?_map] at hu
        obtain ⟨x, _, rfl⟩ := Option.map_eq_some_iff.1 hu
        exact ⟨x, rfl⟩⟩
      case round =>
        obtain ⟨j, hj, rfl, hsep, xs, hown, hxs⟩ := hrel
        have HSp := Lib.hid hsep
        have HOw := Lib.hid hown
        have HXs := Lib.hid hxs
        clear hsep hown hxs
        by_cases hlt : j < E.length
        · obtain ⟨g, _, he, _, _, _⟩ := own_some HOw.out (by omega)
          obtain rfl := (Value.slice.inj he).1
          clear he
          obtain ⟨v, hv⟩ : ∃ v, wr.cell? ⟨g, j, none⟩ = some (.int .u8 v) := by
            have h1 := HOw.out.cellAt j (by omega)
            have h2 := HOw.out.1
            rw [List.getElem?_eq_getElem (by omega)] at h1
            obtain ⟨v, hv⟩ := HXs.out j _ (List.getElem?_eq_getElem (by omega))
            exact ⟨v, by rw [h1, hv]⟩
          have hfz := HOw.out.frozenAt j
          go_wp2
          exact ⟨⟨j + 1, by omega, by go_num, Sep.trans HSp.out (Sep.setCell _ (p := ⟨g, j, none⟩) (HEa.out g rfl) _), _, (HOw.out.stored j _).1, fun p u hu => by
            rw [List.getElem?_set] at hu
            split at hu
            · split at hu
              · exact ⟨_, (Option.some.inj hu).symm⟩
              · cases hu
            · exact HXs.out p u hu⟩, by simp [intOf]; omega⟩
        · obtain rfl : j = E.length := by omega
          clear hlt hj
          go_wp2_with fail
          go_loopw [12, 13] (fun gv i wr => ∃ (j : Nat) (xs : List Value) (ag : Option Addr) (cg : Nat), j ≤ 9 ∧ i = .int .i64 j ∧ gv = .slice ag (E.length + j) cg ∧ Sep ex w8 wr ∧ wr.ownsRow w3.heap.size 5 1 gv (E.length + j) xs ∧ ∀ q, gv.ownBlock = some q → ex q) (fun _ i _ => 9 - (intOf i).toNat)
          case atStart => exact ⟨0, xs, a4, c4, by omega, rfl, rfl, HSp.out, HOw.out, HEa.out⟩
          case round =>
            obtain ⟨j, ys, ag, cg, hj, rfl, rfl, hsep, hown, hgx⟩ := hrel
            have HSq := Lib.hid hsep
            have HOg := Lib.hid hown
            have HGx := Lib.hid hgx
            have HSz := Lib.hid hsep.size
            clear hsep hown hgx
            by_cases hlt : j < 9
            · go_wp2_with (at_builtin; refine wpList_append_lies _ rfl _ _ 22 rfl w3.heap.size 5 i0 (.int .u8 0) 1 1 Try.underlying22 HI.out HZ0.out HZ1.out HZ2.out rfl (by decide) (.slice ag (E.length + j) cg) (E.length + j) ys rfl (HOg.out.alloc _) ⟨wr.heap.size, 0, none⟩ 1 1 [.int .u8 238] rfl rfl (fun q u hu => by
                have hq : q < 1 := by have := (List.getElem?_eq_some_iff.1 hu).1; simpa using this
                obtain rfl : q = 0 := by omega
                obtain rfl : Value.int .u8 238 = u := by simpa using hu
                exact (cell_of_row _ _ 0 _ _ _ (heap_alloc_new wr _)).trans rfl) (fun u hu => by simp at hu; subst hu; rfl) (by decide) (by unfold maxLen; omega) (by omega) (by have := HSz.out; have := HZs.out; simp; omega) _ rfl ?_)
              intro g cap wn hown hgb hat hltn
              have HSn := Lib.hid (Sep.trans HSq.out (Sep.trans (Sep.of_gr ((Gr.refl wr).allocO _)) (Sep.grown (ex := ex) hgb HGx.out)))
              have HOn := Lib.hid hown
              have HXn := Lib.hid (show ∀ q, (Value.slice (some ⟨g, 0, none⟩) (E.length + (j + 1)) cap).ownBlock = some q → ex q from fun q hq => by
                simp only [Value.ownBlock, Option.some.injEq] at hq
                subst hq
                rcases hat with h | h
                · exact HGx.out _ h
                · refine HEb.out _ ?_
                  have := HSz.out
                  omega)
              clear hown hgb hat hltn
              go_wp2
              exact ⟨⟨j + 1, _, _, _, by omega, by go_num, rfl, HSn.out, HOn.out, HXn.out⟩, by simp [intOf]; omega⟩
            · obtain rfl : j = 9 := by omega
              have HGf := Lib.hid (HSq.out.toGr HGw8.out HEw.out)
              have hcv5 := str_of_owns (HSq.out.owns HO5w.out HN5.out)
              unfold Str at hcv5
              rw [HSe.out] at hcv5
              clear hlt hj
              go_wp2_with (go_at_call 15; refine (HPut.out _ _ (ks_gr HK.out HGf.out)).mono ?_; rintro e wz ⟨sz, rfl, hgz, hoz⟩; have HGz := Lib.hid (gr_trans HGf.out hgz); have hcvz := str_of_owns hoz; unfold Str at hcvz; rw [HSe.out] at hcvz; clear hgz hoz)
              go_ret
              exact ⟨rfl, HGz.out⟩
end Go.Proofs.Ythdklnkaeddogaa
