/-
  HostExits: for all names and halves the law returns true.
-/
import Derived.Test.YtndbgnkobodjkaaHsX
namespace Go.Proofs.Ytndbgnkobodjkaa
open Go.RowKit VecM
namespace Hs
def ivs (l : List Int) : List Value := l.map (Value.int .i64)
theorem ivs_len (l : List Int) : (ivs l).length = l.length := by unfold ivs; simp
theorem infoI : (Try.prog.info? 3).map (fun i => (i.zero, i.size, i.bytes)) = some (some (.int .i64 0), 1, 8) := by kernel_rfl
/-- the types of n numbers of 64 bits -/
def reps (n : Nat) : List Int := List.replicate n 126
theorem reps_len (n : Nat) : (reps n).length = n := List.length_replicate
theorem ivs_reps (n : Nat) : ivs (reps (n + 1)) = ivs (reps n) ++ [.int .i64 126] := by
  unfold ivs reps
  rw [List.replicate_succ', List.map_append]; rfl
theorem i64s_own {w : World} {base : Nat} {e : TypeId} {v : Value} {n : Nat} (h : w.ownsRow base e 1 v n (ivs (reps n))) : I64s w v n fun _ => 126 := by
  rcases h.2 with ⟨h1, h2⟩ | ⟨g, cap, cur, rfl, hb, hh, hn, hcap, hsz, htk⟩
  · exact .inl ⟨h2, _, _, by rw [h2] at *; exact h1⟩
  · refine .inr ⟨by unfold maxLen at hcap; omega, g, 0, cap, rfl, fun j hj => ?_⟩
    rw [h.cellAt (0 + j) (by omega)]
    unfold ivs reps
    simp [hj]
theorem ok126 (n : Nat) : okT (fun _ => 126) n := fun k _ => by show needI 126 ≠ 0; decide
theorem need126 : ∀ n : Nat, needN (fun _ => 126) n = n
  | 0 => rfl
  | n + 1 => by
    have h1 := needN_succ (fun _ => 126) n
    have h2 : needI 126 = 1 := by decide
    have h3 := need126 n
    rw [h2, h3] at h1
    omega
theorem get_set64 {z : Int} (hz : 0 ≤ z ∧ z < 18446744073709551616) : getI (setI (fun _ => 0) 64 0 z) 64 0 = z := by
  rw [get_set _ _ _ _ (by decide)]; exact Int.emod_eq_of_lt hz.1 hz.2
theorem put126 {zs : Nat → Int} (hz : ∀ j, 0 ≤ zs j ∧ zs j < 18446744073709551616) : ∀ n, putL (fun _ => 126) (takeV (fun _ => 126) zs) n = (List.range n).map zs
  | 0 => rfl
  | n + 1 => by
    rw [putL, put126 hz n, List.range_succ, List.map_append]
    congr 1
    unfold putE
    rw [if_neg (show ¬ (126 : Int) = 127 by decide), if_pos rfl]
    have e : takeV (fun _ => 126) zs n = setI (fun _ => 0) 64 0 (zs n) := by unfold takeV; rw [if_neg (show ¬ (126 : Int) = 127 by decide), if_pos rfl, need126]
    rw [e, get_set64 (hz n)]; rfl
def U64L (l : List Int) : Prop := ∀ j, 0 ≤ l.getD j 0 ∧ l.getD j 0 < 18446744073709551616
theorem range_getD (l : List Int) : (List.range l.length).map (fun j => l.getD j 0) = l := by
  apply List.ext_getElem (by simp)
  intro j h1 h2
  simp [List.getD_eq_getElem?_getD, h2]
theorem put126_list {l : List Int} (hl : U64L l) : putL (fun _ => 126) (takeV (fun _ => 126) fun j => l.getD j 0) l.length = l := by
  rw [put126 (zs := fun j => l.getD j 0) hl, range_getD]
theorem callO126 (s : Ho) (i : Int) (ex : Bool) {l : List Int} (hl : U64L l) (to : Nat → Int) (no : Nat) (hto : okT to no) (hE : s.E.length < 1024) : callO s i ex (fun _ => 126) (fun j => l.getD j 0) l.length l.length to no =
    if ex = true then ([], 28, ⟨s.R, s.E ++ [(i, l)], if l.length = 0 then 0 else l.headD 0 % 4294967296⟩) else ((nxL to s.R no).1, 0, ⟨(nxL to s.R no).2, s.E ++ [(i, l)], s.C⟩) := by
  unfold callO
  rw [if_neg (by rintro (h | h); exact h ⟨ok126 _, need126 _⟩; exact h hto), if_neg (by omega), put126_list hl]
theorem ev1 {w : World} {base g c : Nat} {f : Int} {av : Value} (h : w.ownsRow base 55 2 (.slice (some ⟨g, 0, none⟩) 1 c) 1 (evV [(f, av)])) : w.cell? ⟨g, 0, none⟩ = some (.int .i64 f) ∧ w.cell? ⟨g, 1, none⟩ = some av :=
  ⟨h.cellAt 0 (by omega), h.cellAt 1 (by omega)⟩
theorem evo1 {w : World} {base : Nat} {L : List (Int × Value)} {f : Int} {l : List Int} (h : Evo w base L [(f, l)]) : ∃ av, L = [(f, av)] ∧ w.ownsRow base 53 1 av l.length (uvs l) := by
  obtain ⟨h1, h2⟩ := h
  match L, h1 with
  | [(f', av)], _ =>
    obtain ⟨h3, h4⟩ := h2 0 (f', av) (f, l) rfl rfl
    exact ⟨av, by simp only at h3; rw [h3], h4⟩
theorem own_some {w : World} {base : Nat} {e : TypeId} {size : Nat} {v : Value} {n : Nat} {xs : List Value} (h : w.ownsRow base e size v n xs) (hn : 0 < n) : ∃ g c, v = .slice (some ⟨g, 0, none⟩) n c ∧ base ≤ g ∧ g < w.heap.size := by
  rcases h.2 with ⟨_, rfl⟩ | ⟨g, cap, cur, rfl, hb, hg, hnc, _⟩
  · omega
  · exact ⟨g, cap, rfl, hb, heap_lt hg⟩
set_option maxRecDepth 100000 in
set_option maxHeartbeats 8000000 in
theorem exits_law {w : World} {a b : ByteArray} {hv : Value} {l : List Int} (hl : l.length ≤ 1048576) (hb : U64L l) (hh : Us w hv l) :
    Calls Try.prog 5 #[.string a, .string b, hv] w fun e w' => e = .returned (.bool true) ∧ Gr w w' := by
  obtain ⟨xh, ch, rfl⟩ := us_slice hh
  have HH := Lib.hid (fun wx (hg : Gr w wx) => us_gr hh hg)
  have HB := Lib.hid hb
  have HL := Lib.hid hl
  clear hh hb
  obtain ⟨i0, hi, hz0, hz1, hz2⟩ := info_parts infoI
  have HI := Lib.hid hi
  have HZ0 := Lib.hid hz0
  have HZ1 := Lib.hid hz1
  have HZ2 := Lib.hid hz2
  clear hi hz0 hz1 hz2
  generalize hn : l.length = n at *
  have HN := Lib.hid hn
  clear hn
  go_enter Try.func5, Try.ntmps5
  go_upto_region 3 with (go_at_call 8; refine (awake_any _).mono ?_; rintro e w1 ⟨rfl, hg1⟩; have HG1 := Lib.hid hg1; clear hg1)
  go_wp2_with fail
  go_loopw [8] (fun i wr => ∃ (k : Nat) (sv : Value), k ≤ n ∧ i = .int .i64 k ∧ Gr w1 wr ∧ wr.heap[w1.heap.size]? = some (.cells #[sv, .slice none 0 0] 35 (0, 0)) ∧ wr.ownsRow (w1.heap.size + 1) 3 1 sv k (ivs (reps k))) (fun i _ => n - (intOf i).toNat)
  case atStart => exact ⟨0, .slice none 0 0, by omega, rfl, (Gr.refl _).alloc _ _, heap_alloc_new _ _, World.ownsRow_nil _ _ _ _⟩
  case round =>
    obtain ⟨k, sv, hk, rfl, hg, hrow, hown⟩ := hrel
    have HG := Lib.hid hg
    have HR := Lib.hid hrow
    have HO := Lib.hid hown
    have HZ := Lib.hid (heap_lt hrow)
    by_cases hlt : k < n
    · obtain ⟨a0, _⟩ := cells2 hrow
      obtain ⟨x0, c0, rfl⟩ := own_slice hown
      clear hg hrow hown
      have HOa := Lib.hid (HO.out.alloc (.cells #[.int .i64 126] 3))
      have HSa := Lib.hid (lit_src wr #[.int .i64 126] 3 1 1)
      go_upto_region 6 with (at_builtin; refine wpList_append_src rfl _ _ 33 rfl (w1.heap.size + 1) 3 i0 (.int .i64 0) 1 8 Try.underlying33 HI.out HZ0.out HZ1.out HZ2.out rfl (by decide) (.slice x0 k c0) k (ivs (reps k)) rfl HOa.out _ 1 [.int .i64 126] rfl HSa.out rfl (fun u hu => by simp at hu; subst hu; rfl) ?c3 ?c4 ?c5 ?_)
      case c3 => have := HL.out; unfold maxLen; omega
      case c4 => have := HL.out; omega
      case c5 => have := HZ.out; simp; omega
      intro v3 w3 hr hgb
      have hSg := Sep.grown (ex := fun q => (Value.slice x0 k c0).ownBlock = some q) hgb (fun q hq => hq)
      have hRw := hSg.at_ (fun hq => by have := (own_row HO.out _ hq).1; omega) (gr_block ((Gr.refl wr).allocO (.cells #[.int .i64 126] 3)) HR.out)
      have HG3 := Lib.hid (show Gr w1 w3 from Sep.toGr (HG.out.allocO _) hSg (fun q hq => by have := (own_row HO.out _ hq).1; omega))
      obtain ⟨x3, c3, rfl⟩ := own_slice hr
      obtain ⟨b0, _⟩ := cells2 hRw
      have fz := froz hRw 0
      have HO3 := Lib.hid (show w3.ownsRow (w1.heap.size + 1) 3 1 (.slice x3 (k + 1) c3) (k + 1) (ivs (reps (k + 1))) by rw [ivs_reps]; exact hr)
      have HR3 := Lib.hid hRw
      clear hr hgb hSg hRw a0
      go_wp2_with fail
      have hs4 := Sep.setCell (ex := fun q => q = w1.heap.size) w3 (p := ⟨w1.heap.size, 0, none⟩) rfl (.slice x3 (k + 1) c3)
      have HR4 := Lib.hid (setCell_cell HR3.out 0 (.slice x3 (k + 1) c3))
      have HO4 := Lib.hid (hs4.owns HO3.out (fun q hq e => by have := (own_row HO3.out _ hq).1; omega))
      have HG4 := Lib.hid (show Gr w1 (w3.setCell ⟨w1.heap.size, 0, none⟩ (.slice x3 (k + 1) c3)) from Sep.toGr HG3.out hs4 (fun q hq => by omega))
      clear hs4
      generalize w3.setCell ⟨w1.heap.size, 0, none⟩ (.slice x3 (k + 1) c3) = w4 at *
      have hl := HL.out
      go_wp2
      exact ⟨⟨k + 1, _, by omega, by go_num, HG4.out, HR4.out, HO4.out⟩, by simp [intOf]; omega⟩
    · have hkn : k = n := by omega
      subst hkn
      obtain ⟨x0, c0, rfl⟩ := own_slice hown
      obtain ⟨_, b1⟩ := cells2 (gr_block ((Gr.refl wr).alloc #[.int .i64 123] 3) hrow)
      have fz := froz (gr_block ((Gr.refl wr).alloc #[.int .i64 123] 3) hrow) 1
      clear hg hrow hown
      go_upto_region 9 with (fail)
      have hs4 := Sep.setCell (ex := fun q => q = w1.heap.size) (wr.alloc (.cells #[.int .i64 123] 3)) (p := ⟨w1.heap.size, 1, none⟩) rfl (.slice (some ⟨wr.heap.size, 0, none⟩) 1 1)
      have HR4 := Lib.hid (setCell_cell (gr_block ((Gr.refl wr).alloc #[.int .i64 123] 3) HR.out) 1 (.slice (some ⟨wr.heap.size, 0, none⟩) 1 1))
      have HO4 := Lib.hid (hs4.owns (owns_gr HO.out ((Gr.refl wr).alloc #[.int .i64 123] 3)) (fun q hq e => by have := (own_row HO.out _ hq).1; omega))
      have HG4 := Lib.hid (Sep.toGr (HG.out.alloc #[.int .i64 123] 3) hs4 (fun q hq => by omega))
      have HT4 := Lib.hid (hs4.at_ (by have := HZ.out; omega) (heap_alloc_new wr (.cells #[.int .i64 123] 3)))
      clear hs4 fz b1
      have HZr := Lib.hid HG.out.size
      generalize (wr.alloc (.cells #[.int .i64 123] 3)).setCell ⟨w1.heap.size, 1, none⟩ (.slice (some ⟨wr.heap.size, 0, none⟩) 1 1) = w4 at *
      generalize hgs : w1.heap.size = gs at *
      generalize wr.heap.size = g8 at *
      have HGs := Lib.hid hgs
      clear hgs
      have HN9 := Lib.hid (new_any (w := w4.alloc (.cells #[.int .u64 3, .int .u64 4, .int .u64 5] 53)) (l := [3, 4, 5]) (by decide) (u64_row (heap_alloc_new w4 _) rfl (by decide)))
      go_upto_region 10 with (go_at_call 9; refine HN9.out.mono ?_; rintro e w5 ⟨v, rfl, hg5, hn5⟩; obtain ⟨h, M, F, rfl, hst, hmf⟩ := newH_hst hn5; have HG5 := Lib.hid (gr_trans ((Gr.refl w4).alloc _ _) hg5); have HST5 := Lib.hid hst; have HMF := Lib.hid hmf; clear hg5 hn5 hst hmf)
      have HR5 := Lib.hid (show w5.heap[gs]? = some (.cells #[.slice x0 k c0, .slice (some ⟨g8, 0, none⟩) 1 1] 35 (0, 0)) from gr_block HG5.out HR4.out)
      have HO5 := Lib.hid (owns_gr HO4.out HG5.out)
      have HT5 := Lib.hid (gr_block HG5.out HT4.out)
      have HGw := Lib.hid (gr_trans HG1.out (gr_trans HG4.out HG5.out))
      have hU : U64c w5 (.slice xh k ch) k fun j => l.getD j 0 := by have := HH.out _ HGw.out; unfold Us at this; rwa [HN.out] at this
      have hC := callO126 ⟨List.take 4096 [3, 4, 5], [], 0⟩ 9 (exB a b) HB.out (fun j => [123].getD j 0) 1 (by decide) (by decide)
      rw [HN.out] at hC
      cases hA : (a.toList == [104, 111, 115, 116])
      · have hx : exB a b = false := by unfold exB; rw [hA]; rfl
        have hq : callO ⟨List.take 4096 [3, 4, 5], [], 0⟩ 9 (exB a b) (fun _ => 126) (fun j => l.getD j 0) k k (fun j => [123].getD j 0) 1 = ([3, 4], 0, ⟨[5], [(9, l)], 0⟩) := hC.trans (if_neg (by rw [hx]; decide))
        have HCall := Lib.hid (call_any (w := w5) (i := 9) (z := 0) (a := a) (b := b) (n := k) (no := 1) (m := k) (ti := fun _ => 126) (to := fun j => [123].getD j 0) (zi := fun j => l.getD j 0) (by have := HL.out; omega) (by omega) (by decide) HST5.out (i64s_own HO5.out) (i64_row (l := [123]) HT5.out rfl (by decide)) (fun q hq hm => by have := HMF.out q (.inl hm); have := heap_lt HT4.out; simp [Value.ownBlock] at hq this; simp at *; omega) hU)
        rw [hq] at HCall
        clear hq hC hU
        go_upto_region 11 with (first | (refine wpList_load_row rfl 35 _ rfl gs rfl 35 _ (0, 0) _ HR5.out Try.underlying35 rfl infoSg ?_) | (go_at_call 21; refine HCall.out.mono ?_; rintro e w6 ⟨sv, M', F', rfl, hst, hm, hf, hsp, ho, hib⟩; obtain ⟨x6, c6, rfl⟩ := own_slice ho; have HST6 := Lib.hid hst; have HO6 := Lib.hid ho; have HIB6 := Lib.hid hib; have HSP6 := Lib.hid hsp; clear hst hm hf hsp ho hib))
        have HG6 := Lib.hid (show Gr w w6 from Sep.toGr HGw.out HSP6.out fun q hq => by have := HMF.out q (.inl hq); have := (gr_trans HG1.out HG4.out).size; simp at *; omega)
        have HL11 := Lib.hid (log_any (by show 1 ≤ 1024; decide) (fun q hq => by simp at hq; subst hq; show l.length ≤ _; have := HL.out; have := HN.out; omega) HST6.out)
        go_upto_region 12 with (go_at_call 15; refine HL11.out.mono ?_; rintro e w7 ⟨s7, L7, rfl, hg7, ho7, hv7⟩; obtain ⟨av, rfl, hav⟩ := evo1 hv7; obtain ⟨g7, c7, rfl, _⟩ := own_some ho7 (by simp); have HG7 := Lib.hid hg7; have HE7 := Lib.hid (ev1 ho7); have HAV := Lib.hid hav; clear hg7 ho7 hv7 hav)
        obtain ⟨e0, e1⟩ := HE7.out
        obtain ⟨xa, ca, rfl⟩ := own_slice HAV.out
        have HS12 := Lib.hid (fun wx (hg : Gr w7 wx) => same_nums (us_gr (us_of_owns HAV.out) hg) (HH.out wx (gr_trans HG6.out (gr_trans HG7.out hg))))
        have hdl : decide (l = l) = true := by simp
        rw [hdl] at HS12
        have HST7 := Lib.hid (fun wx (hg : Gr w7 wx) => hst_gr HST6.out (gr_trans HG7.out hg))
        go_upto_region 14 with (go_at_call 22; refine (HS12.out _ (Gr.refl _)).mono ?_; rintro e w8 ⟨rfl, hg8⟩; have HG8 := Lib.hid hg8; clear hg8)
        have HO7 := Lib.hid (owns_gr HO6.out (gr_trans HG7.out HG8.out))
        have HSo := Lib.hid (fun wx (hg : Gr w8 wx) (hb : Us wx (.slice (some ⟨w8.heap.size, 0, none⟩) 2 2) [3, 4]) => same_nums (us_gr (us_of_owns (l := [3, 4]) HO7.out) hg) hb)
        have HLit := Lib.hid (u64_row (l := [3, 4]) (heap_alloc_new w8 (.cells #[.int .u64 3, .int .u64 4] 53)) rfl (by decide))
        go_wp2_with (first | (go_at_call 22; refine (HSo.out _ ((Gr.refl w8).alloc _ _) (us_of_d HLit.out)).mono ?_; rintro e w9 ⟨rfl, hg9⟩; have HG9 := Lib.hid hg9; have HGX := Lib.hid (gr_trans HG8.out (gr_trans ((Gr.refl w8).alloc _ _) hg9)); clear hg9) | (go_at_call 17; refine (waiting_any (HST7.out _ HGX.out)).mono ?_; rintro e wy ⟨rfl, rfl⟩) | (go_at_call 19; refine (code_any (HST7.out _ HGX.out)).mono ?_; rintro e wy ⟨rfl, rfl⟩))
        go_ret
        exact ⟨rfl, gr_trans HG6.out (gr_trans HG7.out HGX.out)⟩
      cases hB : (b.toList == [101, 120, 105, 116])
      · have hx : exB a b = false := by unfold exB; rw [hA, hB]; rfl
        have hq : callO ⟨List.take 4096 [3, 4, 5], [], 0⟩ 9 (exB a b) (fun _ => 126) (fun j => l.getD j 0) k k (fun j => [123].getD j 0) 1 = ([3, 4], 0, ⟨[5], [(9, l)], 0⟩) := hC.trans (if_neg (by rw [hx]; decide))
        have HCall := Lib.hid (call_any (w := w5) (i := 9) (z := 0) (a := a) (b := b) (n := k) (no := 1) (m := k) (ti := fun _ => 126) (to := fun j => [123].getD j 0) (zi := fun j => l.getD j 0) (by have := HL.out; omega) (by omega) (by decide) HST5.out (i64s_own HO5.out) (i64_row (l := [123]) HT5.out rfl (by decide)) (fun q hq hm => by have := HMF.out q (.inl hm); have := heap_lt HT4.out; simp [Value.ownBlock] at hq this; simp at *; omega) hU)
        rw [hq] at HCall
        clear hq hC hU
        go_upto_region 11 with (first | (refine wpList_load_row rfl 35 _ rfl gs rfl 35 _ (0, 0) _ HR5.out Try.underlying35 rfl infoSg ?_) | (go_at_call 21; refine HCall.out.mono ?_; rintro e w6 ⟨sv, M', F', rfl, hst, hm, hf, hsp, ho, hib⟩; obtain ⟨x6, c6, rfl⟩ := own_slice ho; have HST6 := Lib.hid hst; have HO6 := Lib.hid ho; have HIB6 := Lib.hid hib; have HSP6 := Lib.hid hsp; clear hst hm hf hsp ho hib))
        have HG6 := Lib.hid (show Gr w w6 from Sep.toGr HGw.out HSP6.out fun q hq => by have := HMF.out q (.inl hq); have := (gr_trans HG1.out HG4.out).size; simp at *; omega)
        have HL11 := Lib.hid (log_any (by show 1 ≤ 1024; decide) (fun q hq => by simp at hq; subst hq; show l.length ≤ _; have := HL.out; have := HN.out; omega) HST6.out)
        go_upto_region 12 with (go_at_call 15; refine HL11.out.mono ?_; rintro e w7 ⟨s7, L7, rfl, hg7, ho7, hv7⟩; obtain ⟨av, rfl, hav⟩ := evo1 hv7; obtain ⟨g7, c7, rfl, _⟩ := own_some ho7 (by simp); have HG7 := Lib.hid hg7; have HE7 := Lib.hid (ev1 ho7); have HAV := Lib.hid hav; clear hg7 ho7 hv7 hav)
        obtain ⟨e0, e1⟩ := HE7.out
        obtain ⟨xa, ca, rfl⟩ := own_slice HAV.out
        have HS12 := Lib.hid (fun wx (hg : Gr w7 wx) => same_nums (us_gr (us_of_owns HAV.out) hg) (HH.out wx (gr_trans HG6.out (gr_trans HG7.out hg))))
        have hdl : decide (l = l) = true := by simp
        rw [hdl] at HS12
        have HST7 := Lib.hid (fun wx (hg : Gr w7 wx) => hst_gr HST6.out (gr_trans HG7.out hg))
        go_upto_region 14 with (go_at_call 22; refine (HS12.out _ (Gr.refl _)).mono ?_; rintro e w8 ⟨rfl, hg8⟩; have HG8 := Lib.hid hg8; clear hg8)
        have HO7 := Lib.hid (owns_gr HO6.out (gr_trans HG7.out HG8.out))
        have HSo := Lib.hid (fun wx (hg : Gr w8 wx) (hb : Us wx (.slice (some ⟨w8.heap.size, 0, none⟩) 2 2) [3, 4]) => same_nums (us_gr (us_of_owns (l := [3, 4]) HO7.out) hg) hb)
        have HLit := Lib.hid (u64_row (l := [3, 4]) (heap_alloc_new w8 (.cells #[.int .u64 3, .int .u64 4] 53)) rfl (by decide))
        go_wp2_with (first | (go_at_call 22; refine (HSo.out _ ((Gr.refl w8).alloc _ _) (us_of_d HLit.out)).mono ?_; rintro e w9 ⟨rfl, hg9⟩; have HG9 := Lib.hid hg9; have HGX := Lib.hid (gr_trans HG8.out (gr_trans ((Gr.refl w8).alloc _ _) hg9)); clear hg9) | (go_at_call 17; refine (waiting_any (HST7.out _ HGX.out)).mono ?_; rintro e wy ⟨rfl, rfl⟩) | (go_at_call 19; refine (code_any (HST7.out _ HGX.out)).mono ?_; rintro e wy ⟨rfl, rfl⟩))
        go_ret
        exact ⟨rfl, gr_trans HG6.out (gr_trans HG7.out HGX.out)⟩
      have hx : exB a b = true := by unfold exB; rw [hA, hB]; rfl
      have hq : callO ⟨List.take 4096 [3, 4, 5], [], 0⟩ 9 (exB a b) (fun _ => 126) (fun j => l.getD j 0) k k (fun j => [123].getD j 0) 1 = ([], 28, ⟨[3, 4, 5], [(9, l)], if k = 0 then 0 else l.headD 0 % 4294967296⟩) := hC.trans (by rw [if_pos hx]; rfl)
      have HCall := Lib.hid (call_any (w := w5) (i := 9) (z := 0) (a := a) (b := b) (n := k) (no := 1) (m := k) (ti := fun _ => 126) (to := fun j => [123].getD j 0) (zi := fun j => l.getD j 0) (by have := HL.out; omega) (by omega) (by decide) HST5.out (i64s_own HO5.out) (i64_row (l := [123]) HT5.out rfl (by decide)) (fun q hq hm => by have := HMF.out q (.inl hm); have := heap_lt HT4.out; simp [Value.ownBlock] at hq this; simp at *; omega) hU)
      rw [hq] at HCall
      clear hq hC hU
      go_upto_region 11 with (first | (refine wpList_load_row rfl 35 _ rfl gs rfl 35 _ (0, 0) _ HR5.out Try.underlying35 rfl infoSg ?_) | (go_at_call 21; refine HCall.out.mono ?_; rintro e w6 ⟨sv, M', F', rfl, hst, hm, hf, hsp, ho, hib⟩; obtain ⟨x6, c6, rfl⟩ := own_slice ho; have HST6 := Lib.hid hst; have HO6 := Lib.hid ho; have HIB6 := Lib.hid hib; have HSP6 := Lib.hid hsp; clear hst hm hf hsp ho hib))
      have HG6 := Lib.hid (show Gr w w6 from Sep.toGr HGw.out HSP6.out fun q hq => by have := HMF.out q (.inl hq); have := (gr_trans HG1.out HG4.out).size; simp at *; omega)
      have HL11 := Lib.hid (log_any (by show 1 ≤ 1024; decide) (fun q hq => by simp at hq; subst hq; show l.length ≤ _; have := HL.out; have := HN.out; omega) HST6.out)
      go_upto_region 12 with (go_at_call 15; refine HL11.out.mono ?_; rintro e w7 ⟨s7, L7, rfl, hg7, ho7, hv7⟩; obtain ⟨av, rfl, hav⟩ := evo1 hv7; obtain ⟨g7, c7, rfl, _⟩ := own_some ho7 (by simp); have HG7 := Lib.hid hg7; have HE7 := Lib.hid (ev1 ho7); have HAV := Lib.hid hav; clear hg7 ho7 hv7 hav)
      obtain ⟨e0, e1⟩ := HE7.out
      obtain ⟨xa, ca, rfl⟩ := own_slice HAV.out
      have HS12 := Lib.hid (fun wx (hg : Gr w7 wx) => same_nums (us_gr (us_of_owns HAV.out) hg) (HH.out wx (gr_trans HG6.out (gr_trans HG7.out hg))))
      have hdl : decide (l = l) = true := by simp
      rw [hdl] at HS12
      have HST7 := Lib.hid (fun wx (hg : Gr w7 wx) => hst_gr HST6.out (gr_trans HG7.out hg))
      go_upto_region 14 with (go_at_call 22; refine (HS12.out _ (Gr.refl _)).mono ?_; rintro e w8 ⟨rfl, hg8⟩; have HG8 := Lib.hid hg8; clear hg8)
      have HGX := Lib.hid HG8.out
      by_cases h0 : k = 0
      · rw [if_pos h0] at HST7
        subst h0
        go_wp2_with (first | (go_at_call 17; refine (waiting_any (HST7.out _ HGX.out)).mono ?_; rintro e wy ⟨rfl, rfl⟩) | (go_at_call 19; refine (code_any (HST7.out _ HGX.out)).mono ?_; rintro e wy ⟨rfl, rfl⟩))
        go_ret
        exact ⟨rfl, gr_trans HG6.out (gr_trans HG7.out HGX.out)⟩
      · rw [if_neg h0] at HST7
        have n0 : (0 : Int) < (k : Int) := by omega
        have hud := HH.out w8 (gr_trans HG6.out (gr_trans HG7.out HG8.out))
        rcases hud with ⟨hd, _⟩ | ⟨_, bh, oh, ch', _, hd, hcell⟩
        · exact absurd (HN.out.symm.trans hd) h0
        injection hd with hd1 _ hd2
        subst hd1 hd2
        have h00 := hcell 0 (by rw [HN.out]; omega)
        rw [Nat.add_zero] at h00
        have hx0 : l.getD 0 0 = l.headD 0 := by cases l <;> rfl
        simp only [hx0] at h00
        generalize l.headD 0 = x0' at *
        have cw := wrap_hd x0'
        clear hcell
        go_wp2_with (first | (go_at_call 17; refine (waiting_any (HST7.out _ HGX.out)).mono ?_; rintro e wy ⟨rfl, rfl⟩) | (go_at_call 19; refine (code_any (HST7.out _ HGX.out)).mono ?_; rintro e wy ⟨rfl, rfl⟩))
        go_ret
        exact ⟨rfl, gr_trans HG6.out (gr_trans HG7.out HGX.out)⟩
end Hs
end Go.Proofs.Ytndbgnkobodjkaa
