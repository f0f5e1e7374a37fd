/-
  HostKeeps: for all replies and numbers the law returns true.
-/
import Derived.Test.YtndbgnkobodjkaaHsE
namespace Go.Proofs.Ytndbgnkobodjkaa
open Go.RowKit VecM
namespace Hs
/-- a given list: nil, or with an address -/
def Uz (w : World) (v : Value) (l : List Int) : Prop := Us w v l ∧ ∀ n c, v = .slice none n c → n = 0 ∧ c = 0
theorem src_of_z {w : World} {v : Value} {l : List Int} (h : Uz w v l) : Src w v l.length (uvs l) := by
  obtain ⟨h, hz⟩ := h
  rcases h with ⟨h0, x, c, rfl⟩ | ⟨hm, b, off, cap, hc, rfl, hcell⟩
  · have hl := List.eq_nil_of_length_eq_zero h0
    subst hl
    cases x with
    | none =>
      obtain ⟨_, rfl⟩ := hz 0 c rfl
      exact .inl ⟨rfl, rfl, rfl⟩
    | some a => exact .inr ⟨a, c, rfl, fun j u hu => by simp [uvs] at hu⟩
  · exact src_of_d (.inr ⟨b, off, cap, hc, hm, rfl, hcell⟩)
theorem i64s_congr {w : World} {v : Value} {n : Nat} {z z' : Nat → Int} (h : I64s w v n z) (e : ∀ j, j < n → z j = z' j) : I64s w v n z' := by
  rcases h with h | ⟨hl, b, off, cap, rfl, hcell⟩
  · exact .inl h
  · exact .inr ⟨hl, b, off, cap, rfl, fun j hj => by rw [← e j hj]; exact hcell j hj⟩
theorem hd_take (l : List Int) : hdI (l.take 4096) = hdI l := by cases l <;> rfl
/-- two hosts' blocks lie apart -/
def Apt (M F M' F' : Nat → Prop) : Prop := ∀ k, (M k ∨ F k) → ¬ (M' k ∨ F' k)
theorem apt_step {w : World} {h : Nat} {s : Ho} {M F M1 F1 M' F' : Nat → Prop} (ha : Apt M F M' F') (hh : Hst w h M' F' s) (hm : ∀ k, M1 k → M k ∨ w.heap.size ≤ k) (hf : ∀ k, F1 k → F k ∨ w.heap.size ≤ k) : Apt M1 F1 M' F' := fun k hk hk' => by
  have hlt : k < w.heap.size := by
    rcases hk' with h' | h'
    · exact ((hst_h hh).2.1 k h').1
    · exact (hst_h hh).2.2 k h'
  rcases hk with h1 | h1
  · rcases hm k h1 with h2 | h2
    · exact ha k (.inl h2) hk'
    · omega
  · rcases hf k h1 with h2 | h2
    · exact ha k (.inr h2) hk'
    · omega
theorem apt_symm {M F M' F' : Nat → Prop} (h : Apt M F M' F') : Apt M' F' M F := fun k h1 h2 => h k h2 h1
theorem empty_ex : exB ⟨#[]⟩ ⟨#[]⟩ = false := by kernel_rfl
theorem u64l_one {x : Int} (hx : 0 ≤ x ∧ x < 18446744073709551616) : U64L [x] := fun j => by
  match j with
  | 0 => exact hx
  | j + 1 => simp
theorem call_one (s : Ho) (i : Int) {x : Int} (hx : 0 ≤ x ∧ x < 18446744073709551616) (hE : s.E.length < 1024) : callO s i (exB ⟨#[]⟩ ⟨#[]⟩) (fun _ => 126) (fun j => [x].getD j 0) 1 1 (fun _ => 126) 1 = ([hdI s.R], 0, ⟨s.R.tail, s.E ++ [(i, [x])], s.C⟩) := by
  have h := callO126 s i (exB ⟨#[]⟩ ⟨#[]⟩) (u64l_one hx) (fun _ => 126) 1 (ok126 1) hE
  rw [if_neg (by rw [empty_ex]; decide)] at h
  exact h
theorem i64_one {w : World} {g : Nat} {t : TypeId} {z : Nat × Nat} (h : w.heap[g]? = some (.cells #[.int .i64 126] t z)) : I64s w (.slice (some ⟨g, 0, none⟩) 1 1) 1 fun _ => 126 :=
  i64s_congr (i64_row (l := [126]) h rfl (by decide)) fun j hj => by
    obtain rfl : j = 0 := by omega
    rfl
theorem evo_hd {w : World} {base : Nat} {L : List (Int × Value)} {f : Int} {q : List Int} {E : List (Int × List Int)} (h : Evo w base L ((f, q) :: E)) : ∃ av L', L = (f, av) :: L' ∧ w.ownsRow base 53 1 av q.length (uvs q) ∧ L'.length = E.length := by
  obtain ⟨h1, h2⟩ := h
  match L, h1 with
  | (f', av) :: L', h1 =>
    obtain ⟨h3, h4⟩ := h2 0 (f', av) (f, q) rfl rfl
    exact ⟨av, L', by simp only at h3; rw [h3], h4, by simpa using h1⟩
theorem ev_hd {w : World} {base g c n : Nat} {f : Int} {av : Value} {L : List (Int × Value)} (h : w.ownsRow base 55 2 (.slice (some ⟨g, 0, none⟩) n c) n (evV ((f, av) :: L))) (hn : 0 < n) : w.cell? ⟨g, 0, none⟩ = some (.int .i64 f) ∧ w.cell? ⟨g, 1, none⟩ = some av :=
  ⟨h.cellAt 0 (by omega), h.cellAt 1 (by omega)⟩
theorem same_eq {w : World} {va vb : Value} {la lb : List Int} (ha : Us w va la) (hb : Us w vb lb) (he : la = lb) : Calls Try.prog 22 #[va, vb] w fun e w' => e = .returned (.bool true) ∧ Gr w w' := by
  have := same_nums ha hb
  rwa [decide_eq_true he] at this
/-- one call with one number -/
theorem call_x {w : World} {h g1 g2 g3 : Nat} {M F : Nat → Prop} {s : Ho} {i x : Int} (hx : 0 ≤ x ∧ x < 18446744073709551616) (hE : s.E.length < 1024) (hh : Hst w h M F s) (h1 : w.heap[g1]? = some (.cells #[.int .i64 126] 3 (0, 0))) (h2 : w.heap[g2]? = some (.cells #[.int .i64 126] 3 (0, 0))) (h3 : w.heap[g3]? = some (.cells #[.int .u64 x] 53 (0, 0))) (hg2 : ¬ M g2) :
    Calls Try.prog 21 #[.pointer (some ⟨h, 0, none⟩), .int .i64 i, .agg #[.string ⟨#[]⟩, .string ⟨#[]⟩, .int .i64 0], .agg #[.slice (some ⟨g1, 0, none⟩) 1 1, .slice (some ⟨g2, 0, none⟩) 1 1], .slice (some ⟨g3, 0, none⟩) 1 1] w (CALL w h M F ([hdI s.R], 0, ⟨s.R.tail, s.E ++ [(i, [x])], s.C⟩)) := by
  have := call_any (w := w) (i := i) (z := 0) (a := ⟨#[]⟩) (b := ⟨#[]⟩) (n := 1) (no := 1) (m := 1) (by omega) (by omega) (by omega) hh (i64_one h1) (i64_one h2) (fun k hk => by simp [Value.ownBlock] at hk; subst hk; exact hg2) (c_of_d (u64_row (l := [x]) h3 rfl (by simp)))
  rw [call_one s i hx hE] at this
  exact this
set_option maxRecDepth 100000 in
set_option maxHeartbeats 16000000 in
theorem keeps_law {w : World} {v : Value} {l : List Int} {x : Int} (hl : l.length ≤ 1048576) (hx : 0 ≤ x ∧ x < 18446744073709551616) (hh : Uz w v l) :
    Calls Try.prog 7 #[v, .int .u64 x] w fun e w' => e = .returned (.bool true) ∧ Gr w w' := by
  have HS := Lib.hid (fun wx (hg : Gr w wx) => src_gr (src_of_z hh) hg)
  obtain ⟨xh, ch, rfl⟩ := us_slice hh.1
  have HH := Lib.hid (fun wx (hg : Gr w wx) => us_gr hh.1 hg)
  have HL := Lib.hid hl
  have HX := Lib.hid hx
  clear hh hx
  obtain ⟨i0, hi, hz0, hz1, hz2⟩ := info_parts info64
  have HI := Lib.hid hi
  have HZ0 := Lib.hid hz0
  have HZ1 := Lib.hid hz1
  have HZ2 := Lib.hid hz2
  clear hi hz0 hz1 hz2
  go_enter Try.func7, Try.ntmps7
  go_upto_region 3 with (go_at_call 8; refine (awake_any _).mono ?_; rintro e w1 ⟨rfl, hg1⟩; have HG1 := Lib.hid hg1; clear hg1)
  have HSa := Lib.hid (src_gr (HS.out w1 HG1.out) ((Gr.refl w1).allocO (.cells #[] 53)))
  have HOa := Lib.hid (World.ownsRow_made (base := w1.heap.size) (e := 53) (size := 1) w1 #[] 0 (Nat.le_refl _) (by decide) rfl)
  go_upto_region 4 with (at_builtin; refine wpList_append_src rfl _ _ 22 rfl w1.heap.size 53 i0 (.int .u64 0) 1 8 Try.underlying22 HI.out HZ0.out HZ1.out HZ2.out rfl (by decide) (.slice (some ⟨w1.heap.size, 0, none⟩) 0 0) 0 [] rfl HOa.out _ l.length (uvs l) rfl HSa.out (by rw [uvs_len, Nat.mul_one]) (uvs_one l) ?c3 ?c4 ?c5 ?_)
  case c3 => unfold maxLen; omega
  case c4 => omega
  case c5 => simp
  intro v3 w3 hr hgb
  have HG3 := Lib.hid (show Gr w1 w3 from ((Gr.refl w1).allocO _).grown hgb (fun q hq => by simp [Value.ownBlock] at hq; omega))
  have HO3 := Lib.hid (show w3.ownsRow w1.heap.size 53 1 v3 l.length (uvs l) by simpa using hr)
  clear hr hgb
  obtain ⟨x3, c3, rfl⟩ := own_slice HO3.out
  have HN3 := Lib.hid (new_any (w := w3) (by omega) (ud_of_owns HO3.out))
  go_upto_region 5 with (go_at_call 9; refine HN3.out.mono ?_; rintro e w4 ⟨v, rfl, hg4, hn4⟩; obtain ⟨h, M1, F1, rfl, hst, hmf⟩ := newH_hst hn4; have HG4 := Lib.hid (gr_trans HG3.out hg4); have HO4 := Lib.hid (owns_gr HO3.out hg4); have HST4 := Lib.hid hst; have HMF4 := Lib.hid (show ∀ k, M1 k ∨ F1 k → w3.heap.size ≤ k ∧ w1.heap.size ≤ k from fun k hk => ⟨hmf k hk, Nat.le_trans HG3.out.size (hmf k hk)⟩); clear hg4 hn4 hst hmf)
  have HB3 := Lib.hid (show ∀ k, (Value.slice x3 l.length c3).ownBlock = some k → w1.heap.size ≤ k ∧ k < w3.heap.size from fun k hk => HO3.out.lt k hk)
  go_wp2_with fail
  go_loopw [7] (fun i wr => ∃ (k : Nat) (zs : List Int), k ≤ l.length ∧ i = .int .i64 k ∧ Sep (fun q => (Value.slice x3 l.length c3).ownBlock = some q) w4 wr ∧ wr.ownsRow w1.heap.size 53 1 (.slice x3 l.length c3) l.length (uvs zs)) (fun i _ => l.length - (intOf i).toNat)
  case atStart => exact ⟨0, l, by omega, rfl, Sep.refl _, HO4.out⟩
  case round =>
    obtain ⟨k, zs, hk, rfl, hs, ho⟩ := hrel
    have HSx := Lib.hid hs
    have HOx := Lib.hid ho
    by_cases hlt : k < l.length
    · obtain ⟨g3, c3', e3, hg3⟩ := own_some ho (by omega)
      injection e3 with e3 _ e3'
      subst e3 e3'
      have hk1 := ho.cellAt k (by omega)
      rw [uvs_get zs (by have := owns_len ho; omega)] at hk1
      have hfz := ho.frozenAt k
      have t1 : (k : Int) < (l.length : Int) := by omega
      have HOn := Lib.hid (show ∃ zs', ((wr.setCell ⟨g3, k, none⟩ (.int .u64 (IntKind.u64.wrap (x + 1)))).ownsRow w1.heap.size 53 1 (.slice (some ⟨g3, 0, none⟩) l.length c3) l.length (uvs zs')) from by
        have := (ho.stored k (.int .u64 (IntKind.u64.wrap (x + 1)))).1
        refine ⟨zs.set k (IntKind.u64.wrap (x + 1)), ?_⟩
        have e : uvs (zs.set k (IntKind.u64.wrap (x + 1))) = (uvs zs).set k (.int .u64 (IntKind.u64.wrap (x + 1))) := by unfold uvs; rw [List.map_set]
        rw [e]; exact this)
      have HSn := Lib.hid (Sep.trans hs (Sep.setCell (ex := fun q => (Value.slice (some ⟨g3, 0, none⟩) l.length c3).ownBlock = some q) wr (p := ⟨g3, k, none⟩) rfl (.int .u64 (IntKind.u64.wrap (x + 1)))))
      clear hs ho
      go_wp2_with fail
      obtain ⟨zs', hzs⟩ := HOn.out
      have hl1 := HL.out
      generalize wr.setCell ⟨g3, k, none⟩ (.int .u64 (IntKind.u64.wrap (x + 1))) = w5 at *
      go_wp2
      exact ⟨⟨k + 1, zs', by omega, by go_num, HSn.out, hzs⟩, by simp [intOf]; omega⟩
    · have hkl : k = l.length := by omega
      subst hkl
      clear hs ho
      have HSTr := Lib.hid (hst_sep HST4.out HSx.out (fun k hk e => by have := (HMF4.out k hk).1; have := (HB3.out k e).2; omega))
      have HGr := Lib.hid (Sep.toGr HG4.out HSx.out (fun k hk => (HB3.out k hk).1))
      have HMw := Lib.hid (show ∀ k, M1 k ∨ F1 k → w1.heap.size ≤ k from fun k hk => (HMF4.out k hk).2)
      clear HST4 HSx HOx HMF4 HB3 HG4 HO4 HG3 HO3 HN3 HOa HSa
      have HCl := Lib.hid (hclone_any (by show (l.take 4096).length ≤ _; rw [List.length_take]; omega) (by show 0 ≤ 1024; decide) (fun q hq => by simp at hq) HSTr.out)
      go_upto_region 10 with (go_at_call 11; refine HCl.out.mono ?_; rintro e w6 ⟨v, rfl, hg6, hn6⟩; obtain ⟨h2, M2, F2, rfl, hst, hmf⟩ := newH_hst hn6; have HG6 := Lib.hid hg6; have HSTc := Lib.hid hst; have HM2 := Lib.hid hmf; clear hg6 hn6 hst hmf)
      have HApt := Lib.hid (show Apt M1 F1 M2 F2 from fun k hk hk' => by
        have h1 := HM2.out k hk'
        have h2 : k < wr.heap.size := hk.elim (fun h => ((hst_h HSTr.out).2.1 k h).1) fun h => (hst_h HSTr.out).2.2 k h
        omega)
      have HLt2 := Lib.hid (show ∀ k, M2 k ∨ F2 k → k < w6.heap.size from fun k hk => hk.elim (fun h => ((hst_h HSTc.out).2.1 k h).1) fun h => (hst_h HSTc.out).2.2 k h)
      have HLt1 := Lib.hid (show ∀ k, M1 k ∨ F1 k → k < w6.heap.size from fun k hk => Nat.lt_of_lt_of_le (hk.elim (fun h => ((hst_h HSTr.out).2.1 k h).1) fun h => (hst_h HSTr.out).2.2 k h) HG6.out.size)
      have g3 : Gr ((w6.alloc (.cells #[.int .i64 126] 3)).alloc (.cells #[.int .i64 126] 3)) (((w6.alloc (.cells #[.int .i64 126] 3)).alloc (.cells #[.int .i64 126] 3)).alloc (.cells #[.slice (some ⟨w6.heap.size, 0, none⟩) 1 1, .slice (some ⟨w6.heap.size + 1, 0, none⟩) 1 1] 35)) := (Gr.refl _).allocO _
      have HA0 := Lib.hid (gr_block (gr_trans ((Gr.refl (w6.alloc (.cells #[.int .i64 126] 3))).allocO (.cells #[.int .i64 126] 3)) g3) (heap_alloc_new w6 (.cells #[.int .i64 126] 3)))
      have HA1 := Lib.hid (show (((w6.alloc (.cells #[.int .i64 126] 3)).alloc (.cells #[.int .i64 126] 3)).alloc (.cells #[.slice (some ⟨w6.heap.size, 0, none⟩) 1 1, .slice (some ⟨w6.heap.size + 1, 0, none⟩) 1 1] 35)).heap[w6.heap.size + 1]? = some (Obj.cells #[.int .i64 126] 3 (0, 0)) from by have := gr_block g3 (heap_alloc_new (w6.alloc (.cells #[.int .i64 126] 3)) (.cells #[.int .i64 126] 3)); rwa [hsz_alloc] at this)
      have HA2 := Lib.hid (show (((w6.alloc (.cells #[.int .i64 126] 3)).alloc (.cells #[.int .i64 126] 3)).alloc (.cells #[.slice (some ⟨w6.heap.size, 0, none⟩) 1 1, .slice (some ⟨w6.heap.size + 1, 0, none⟩) 1 1] 35)).heap[w6.heap.size + 1 + 1]? = some (Obj.cells #[.slice (some ⟨w6.heap.size, 0, none⟩) 1 1, .slice (some ⟨w6.heap.size + 1, 0, none⟩) 1 1] 35 (0, 0)) from by have := heap_alloc_new ((w6.alloc (.cells #[.int .i64 126] 3)).alloc (.cells #[.int .i64 126] 3)) (.cells #[.slice (some ⟨w6.heap.size, 0, none⟩) 1 1, .slice (some ⟨w6.heap.size + 1, 0, none⟩) 1 1] 35); rwa [hsz_alloc, hsz_alloc] at this)
      have HG7 := Lib.hid (show Gr w6 (((w6.alloc (.cells #[.int .i64 126] 3)).alloc (.cells #[.int .i64 126] 3)).alloc (.cells #[.slice (some ⟨w6.heap.size, 0, none⟩) 1 1, .slice (some ⟨w6.heap.size + 1, 0, none⟩) 1 1] 35)) from (((Gr.refl _).allocO _).allocO _).allocO _)
      clear g3
      go_upto_region 11 with (fail)
      generalize ((w6.alloc (.cells #[.int .i64 126] 3)).alloc (.cells #[.int .i64 126] 3)).alloc (.cells #[.slice (some ⟨w6.heap.size, 0, none⟩) 1 1, .slice (some ⟨w6.heap.size + 1, 0, none⟩) 1 1] 35) = w7 at *
      by_cases h0 : l.length = 0
      · have n0 : ¬ (0 : Int) < (l.length : Int) := by omega
        have HY := Lib.hid (show hdI (List.take 4096 l) = 0 from by rw [hd_take, List.eq_nil_of_length_eq_zero h0]; rfl)
        go_upto_region 14 with (fail)
        have HGa := Lib.hid (show Gr w7 (w7.alloc (.cells #[.int .u64 x] 53)) from (Gr.refl _).allocO _)
        have HA2a := Lib.hid (gr_block HGa.out HA2.out)
        have HC14 := Lib.hid (call_x (h := h) (i := 1) HX.out (by show 0 < 1024; decide) (hst_gr HSTr.out (gr_trans HG6.out (gr_trans HG7.out HGa.out))) (gr_block HGa.out HA0.out) (gr_block HGa.out HA1.out) (heap_alloc_new w7 (.cells #[.int .u64 x] 53)) (fun hm => by have := HLt1.out _ (.inl hm); omega))
        go_upto_region 15 with (first | (refine wpList_load_row rfl 35 _ rfl (w6.heap.size + 1 + 1) rfl 35 _ (0, 0) _ HA2.out Try.underlying35 rfl infoSg ?_) | (go_at_call 21; refine HC14.out.mono ?_; rintro e w8 ⟨sva, M1a, F1a, rfl, hst, hm, hf, hsp, ho, hib⟩; obtain ⟨x8, c8, rfl⟩ := own_slice ho; have HST8 := Lib.hid hst; have HMm8 := Lib.hid hm; have HFf8 := Lib.hid hf; have HSP8 := Lib.hid hsp; have HO8 := Lib.hid ho; have HIB8 := Lib.hid hib; clear hst hm hf hsp ho hib))
        have HAp8 := Lib.hid (show Apt M1a F1a M2 F2 from apt_step HApt.out (hst_gr HSTc.out (gr_trans HG7.out HGa.out)) HMm8.out HFf8.out)
        have HSc8 := Lib.hid (hst_sep (hst_gr HSTc.out (gr_trans HG7.out HGa.out)) HSP8.out (fun k hk hm => HApt.out k (.inl hm) hk))
        have HLt8 := Lib.hid (show ∀ k, M1a k ∨ F1a k → k < w8.heap.size from fun k hk => hk.elim (fun h => ((hst_h HST8.out).2.1 k h).1) fun h => (hst_h HST8.out).2.2 k h)
        have HZ7 := Lib.hid (show w6.heap.size ≤ (w7.alloc (.cells #[.int .u64 x] 53)).heap.size ∧ (w7.alloc (.cells #[.int .u64 x] 53)).heap.size ≤ w8.heap.size from ⟨(gr_trans HG7.out HGa.out).size, HSP8.out.size⟩)
        have HA0b := Lib.hid (HSP8.out.at_ (fun hm => by have := HLt1.out _ (.inl hm); omega) (gr_block HGa.out HA0.out))
        have HA1b := Lib.hid (HSP8.out.at_ (fun hm => by have := HLt1.out _ (.inl hm); omega) (gr_block HGa.out HA1.out))
        have HA2b := Lib.hid (HSP8.out.at_ (fun hm => by have := HLt1.out _ (.inl hm); omega) HA2a.out)
        have HL15 := Lib.hid (log_any (by show 1 ≤ 1024; decide) (fun q hq => by simp at hq; subst hq; show 1 ≤ _; decide) HST8.out)
        go_upto_region 16 with (go_at_call 15; refine HL15.out.mono ?_; rintro e w9 ⟨s9, L9, rfl, hg9, ho9, hv9⟩; obtain ⟨av, L9', rfl, hav, hl9⟩ := evo_hd hv9; have hl9' := List.eq_nil_of_length_eq_zero hl9; subst hl9'; obtain ⟨g9, c9, rfl, hb9, hb9'⟩ := own_some ho9 (by simp); have HG9 := Lib.hid hg9; have HO9 := Lib.hid ho9; have HAV := Lib.hid hav; have HB9 := Lib.hid (show w8.heap.size ≤ g9 ∧ g9 < w9.heap.size from ⟨hb9, hb9'⟩); clear hg9 ho9 hv9 hav hl9 hb9 hb9')
        obtain ⟨ga, ca, rfl, hba, hba'⟩ := own_some HAV.out (by simp)
        have HBa := Lib.hid (show w8.heap.size ≤ ga ∧ ga < w9.heap.size from ⟨hba, hba'⟩)
        clear hba hba'
        have HGb := Lib.hid (show Gr w8 (w9.alloc (.cells #[.int .u64 x] 53)) from HG9.out.allocO _)
        have HA2c := Lib.hid (gr_block HGb.out HA2b.out)
        have HC16 := Lib.hid (call_x (h := h2) (i := 2) HX.out (by show 0 < 1024; decide) (hst_gr HSc8.out HGb.out) (gr_block HGb.out HA0b.out) (gr_block HGb.out HA1b.out) (heap_alloc_new w9 (.cells #[.int .u64 x] 53)) (fun hm => by have := HLt2.out _ (.inl hm); omega))
        have HA2c' := Lib.hid (gr_block HG9.out HA2b.out)
        go_upto_region 17 with (first | (refine wpList_load_row rfl 35 _ rfl (w6.heap.size + 1 + 1) rfl 35 _ (0, 0) _ HA2c'.out Try.underlying35 rfl infoSg ?_) | (go_at_call 21; refine HC16.out.mono ?_; rintro e w10 ⟨svb, M2a, F2a, rfl, hst, hm, hf, hsp, ho, hib⟩; obtain ⟨x10, c10, rfl⟩ := own_slice ho; have HST10 := Lib.hid hst; have HMm10 := Lib.hid hm; have HFf10 := Lib.hid hf; have HSP10 := Lib.hid hsp; have HO10 := Lib.hid ho; have HIB10 := Lib.hid hib; clear hst hm hf hsp ho hib))
        have HSh10 := Lib.hid (hst_sep (hst_gr HST8.out HGb.out) HSP10.out (fun k hk hm => HAp8.out k hk (.inl hm)))
        have HAp10 := Lib.hid (show Apt M2a F2a M1a F1a from apt_step (apt_symm HAp8.out) (hst_gr HST8.out HGb.out) HMm10.out HFf10.out)
        have HZ9 := Lib.hid (show w8.heap.size ≤ (w9.alloc (.cells #[.int .u64 x] 53)).heap.size ∧ (w9.alloc (.cells #[.int .u64 x] 53)).heap.size ≤ w10.heap.size ∧ w9.heap.size + 1 = (w9.alloc (.cells #[.int .u64 x] 53)).heap.size from ⟨HGb.out.size, HSP10.out.size, by simp⟩)
        have HA0c := Lib.hid (HSP10.out.at_ (fun hm => by have := HLt2.out _ (.inl hm); omega) (gr_block HGb.out HA0b.out))
        have HA1c := Lib.hid (HSP10.out.at_ (fun hm => by have := HLt2.out _ (.inl hm); omega) (gr_block HGb.out HA1b.out))
        have HA2d := Lib.hid (HSP10.out.at_ (fun hm => by have := HLt2.out _ (.inl hm); omega) HA2c.out)
        have HGc := Lib.hid (show Gr w10 (w10.alloc (.cells #[.int .u64 x] 53)) from (Gr.refl _).allocO _)
        have HC17 := Lib.hid (call_x (h := h) (i := 3) HX.out (by show 1 < 1024; decide) (hst_gr HSh10.out HGc.out) (gr_block HGc.out HA0c.out) (gr_block HGc.out HA1c.out) (heap_alloc_new w10 (.cells #[.int .u64 x] 53)) (fun hm => by have := HLt8.out _ (.inl hm); have := HZ7.out; have := HG7.out.size; have := heap_lt HA1b.out; have := HMm8.out _ hm; rcases this with h | h; (have := HLt1.out _ (.inl h); omega); (have := heap_lt HA1.out; simp at *; omega)))
        go_upto_region 18 with (first | (refine wpList_load_row rfl 35 _ rfl (w6.heap.size + 1 + 1) rfl 35 _ (0, 0) _ HA2d.out Try.underlying35 rfl infoSg ?_) | (go_at_call 21; refine HC17.out.mono ?_; rintro e w11 ⟨svx, M1b, F1b, rfl, hst, hm, hf, hsp, ho, hib⟩; obtain ⟨x11, c11, rfl⟩ := own_slice ho; have HST11 := Lib.hid hst; have HMm11 := Lib.hid hm; have HFf11 := Lib.hid hf; have HSP11 := Lib.hid hsp; have HO11 := Lib.hid ho; have HIB11 := Lib.hid hib; clear hst hm hf hsp ho hib))
        have HSc11 := Lib.hid (hst_sep (hst_gr HST10.out HGc.out) HSP11.out (fun k hk hm => HAp10.out k hk (.inl hm)))
        have hza : ∀ k, (Value.slice x8 [hdI (List.take 4096 l)].length c8).ownBlock = some k → ¬ M2 k := fun k hk hm => by
          have h1 := HLt2.out k (.inl hm); have h2 := (own_row HO8.out k hk).1; have := HZ7.out; omega
        have HUa := Lib.hid (us_sep (us_gr (us_sep (us_gr (us_of_owns HO8.out) HGb.out) HSP10.out hza) HGc.out) HSP11.out (fun k hk => (HIB8.out k hk).1))
        have hzb : ∀ k, (Value.slice x10 [hdI (List.take 4096 l)].length c10).ownBlock = some k → ¬ M1a k := fun k hk hm => by
          have h1 := HLt8.out k (.inl hm); have h2 := (own_row HO10.out k hk).1; have := HZ9.out; omega
        have HUb := Lib.hid (us_sep (us_gr (us_of_owns HO10.out) HGc.out) HSP11.out hzb)
        have HS9 := Lib.hid (show Sep (fun k => M2 k ∨ M1a k) w9 w11 from Sep.trans (Sep.of_gr ((Gr.refl w9).allocO _)) (Sep.trans (HSP10.out.mono fun k hk => .inl hk) (Sep.trans (Sep.of_gr HGc.out) (HSP11.out.mono fun k hk => .inr hk))))
        have HLt9 := Lib.hid (show ∀ k, M2 k ∨ M1a k → k < w8.heap.size from fun k hk => hk.elim (fun h => by have := HLt2.out k (.inl h); have := HZ7.out; omega) fun h => HLt8.out k (.inl h))
        have HO9' := Lib.hid (HS9.out.owns HO9.out (fun k hk hm => by have := HLt9.out k hm; simp [Value.ownBlock] at hk; have := HB9.out; omega))
        have HAV' := Lib.hid (HS9.out.owns HAV.out (fun k hk hm => by have := HLt9.out k hm; simp [Value.ownBlock] at hk; have := HBa.out; omega))
        have HGw := Lib.hid (show Gr w1 w11 from by
          have hz := HGr.out.size
          have hz6 := HG6.out.size
          have a1 : Gr w1 w8 := Sep.toGr (gr_trans HGr.out (gr_trans HG6.out (gr_trans HG7.out HGa.out))) HSP8.out (fun k hk => HMw.out k (.inl hk))
          have a2 : Gr w1 w10 := Sep.toGr (gr_trans a1 HGb.out) HSP10.out (fun k hk => by have := HM2.out k (.inl hk); omega)
          exact Sep.toGr (gr_trans a2 HGc.out) HSP11.out (fun k hk => by
            rcases HMm8.out k hk with h | h
            · exact HMw.out k (.inl h)
            · have := HZ7.out; omega))
        have HGy := Lib.hid (show Gr w11 (w11.alloc (.cells #[.int .u64 0] 53)) from (Gr.refl _).allocO _)
        have HS1 := Lib.hid (same_eq (la := [hdI (List.take 4096 l)]) (us_gr HUa.out HGy.out) (us_of_d (u64_row (l := [0]) (heap_alloc_new w11 (.cells #[.int .u64 0] 53)) rfl (by simp))) (by rw [HY.out]))
        have HS2 := Lib.hid (fun wx (hg : Gr w11 wx) => same_eq (la := [hdI (List.take 4096 l)]) (lb := [hdI (List.take 4096 l)]) (us_gr HUb.out hg) (us_gr HUa.out hg) rfl)
        have HLc := Lib.hid (fun wx (hg : Gr w11 wx) => log_any (by show 1 ≤ 1024; decide) (fun q hq => by simp at hq; subst hq; show 1 ≤ _; decide) (hst_gr HSc11.out hg))
        have HLh := Lib.hid (fun wx (hg : Gr w11 wx) => log_any (by show 2 ≤ 1024; decide) (fun q hq => by simp at hq; rcases hq with rfl | rfl <;> (show 1 ≤ _; decide)) (hst_gr HST11.out hg))
        obtain ⟨o9, o9'⟩ := ev_hd HO9'.out (by simp)
        have O9 := Lib.hid (fun wx (hg : Gr w11 wx) => show wx.cell? ⟨g9, 0, none⟩ = some (.int .i64 1) from gr_cell hg o9)
        have O9' := Lib.hid (fun wx (hg : Gr w11 wx) => show wx.cell? ⟨g9, 1, none⟩ = some (.slice (some ⟨ga, 0, none⟩) [x].length ca) from gr_cell hg o9')
        go_upto_region 20 with (first | (go_at_call 22; refine (HS2.out _ HG12.out).mono ?_; rintro e w13 ⟨rfl, hg13⟩; have HG13 := Lib.hid (gr_trans HG12.out hg13); have p9 := O9.out _ HG13.out; clear hg13) | (go_at_call 22; refine HS1.out.mono ?_; rintro e w12 ⟨rfl, hg12⟩; have HG12 := Lib.hid (gr_trans HGy.out hg12); clear hg12) | (go_at_call 15; refine (HLh.out _ HG15.out).mono ?_; rintro e w16 ⟨s16, L16, rfl, hg16, ho16, hv16⟩; have hl16 : L16.length = 2 := hv16.1; obtain ⟨x16, c16, rfl⟩ := own_slice ho16; have HG16 := Lib.hid (gr_trans HG15.out hg16); clear hg16 ho16 hv16) | (go_at_call 15; refine (HLc.out _ HG14.out).mono ?_; rintro e w15 ⟨s15, L15, rfl, hg15, ho15, hv15⟩; obtain ⟨a15, L15', rfl, _, _⟩ := evo_hd hv15; obtain ⟨g15, c15, rfl, _, _⟩ := own_some ho15 (by simp); obtain ⟨p15, _⟩ := ev_hd ho15 (by simp); have HG15 := Lib.hid (gr_trans HG14.out hg15); clear hg15 ho15 hv15) | (go_at_call 15; refine (HLc.out _ HG13.out).mono ?_; rintro e w14 ⟨s14, L14, rfl, hg14, ho14, hv14⟩; have hl14 : L14.length = 1 := hv14.1; obtain ⟨x14, c14, rfl⟩ := own_slice ho14; have HG14 := Lib.hid (gr_trans HG13.out hg14); clear hg14 ho14 hv14))
        have q9 := O9'.out _ HG16.out
        have HAv16 := Lib.hid (owns_gr HAV'.out HG16.out)
        have qx := HAv16.out.cellAt 0 (by simp)
        have qx' : w16.cell? ⟨ga, 0, none⟩ = some (.int .u64 x) := qx
        have qf := HAv16.out.frozenAt 0
        clear qx
        have hsw := Sep.setCell (ex := fun k => k = ga) w16 (p := ⟨ga, 0, none⟩) rfl (.int .u64 (IntKind.u64.wrap (x + 5)))
        have HSTh := Lib.hid (hst_sep (hst_gr HST11.out HG16.out) hsw (fun k hk e => by
          subst e
          have h1 := HBa.out
          have h2 := HZ9.out
          have h3 : (M1a k ∨ F1a k) ∨ (w10.alloc (.cells #[.int .u64 x] 53)).heap.size ≤ k := hk.elim (fun h => (HMm11.out k h).elim (fun h => .inl (.inl h)) .inr) fun h => (HFf11.out k h).elim (fun h => .inl (.inr h)) .inr
          rcases h3 with h3 | h3
          · have := HLt8.out k h3; omega
          · have := HGc.out.size; omega))
        have HSTk := Lib.hid (hst_sep (hst_gr HSc11.out HG16.out) hsw (fun k hk e => by
          subst e
          have h1 := HBa.out
          have h2 := HZ7.out
          have h4 := HZ9.out
          have h3 : (M2 k ∨ F2 k) ∨ (w9.alloc (.cells #[.int .u64 x] 53)).heap.size ≤ k := hk.elim (fun h => (HMm10.out k h).elim (fun h => .inl (.inl h)) .inr) fun h => (HFf10.out k h).elim (fun h => .inl (.inr h)) .inr
          rcases h3 with h3 | h3
          · have := HLt2.out k h3; omega
          · omega))
        have HGe := Lib.hid (show Gr w1 (w16.setCell ⟨ga, 0, none⟩ (.int .u64 (IntKind.u64.wrap (x + 5)))) from Sep.toGr (gr_trans HGw.out HG16.out) hsw (fun k hk => by have h1 := HBa.out; have h2 := HZ7.out; have h3 := HG6.out.size; have h4 := HGr.out.size; omega))
        clear hsw
        go_upto_region 21 with (fail)
        generalize w16.setCell ⟨ga, 0, none⟩ (.int .u64 (IntKind.u64.wrap (x + 5))) = w17 at *
        have HLh2 := Lib.hid (log_any (by show 2 ≤ 1024; decide) (fun q hq => by simp at hq; rcases hq with rfl | rfl <;> (show 1 ≤ _; decide)) HSTh.out)
        have HLc2 := Lib.hid (fun wx (hg : Gr w17 wx) => log_any (by show 1 ≤ 1024; decide) (fun q hq => by simp at hq; subst hq; show 1 ≤ _; decide) (hst_gr HSTk.out hg))
        go_wp2_with (first | (go_at_call 15; refine (HLc2.out _ HG18.out).mono ?_; rintro e w19 ⟨s19, L19, rfl, hg19, ho19, hv19⟩; obtain ⟨a19, L19', rfl, ha19, _⟩ := evo_hd hv19; obtain ⟨g19, c19, rfl, _, _⟩ := own_some ho19 (by simp); obtain ⟨_, p19⟩ := ev_hd ho19 (by simp); obtain ⟨gb19, cb19, rfl, _, _⟩ := own_some ha19 (by simp); have r19 : w19.cell? ⟨gb19, 0, none⟩ = some (.int .u64 x) := ha19.cellAt 0 (by simp); have HG19 := Lib.hid (gr_trans HG18.out hg19); clear hg19 ho19 hv19 ha19) | (go_at_call 15; refine HLh2.out.mono ?_; rintro e w18 ⟨s18, L18, rfl, hg18, ho18, hv18⟩; obtain ⟨a18, L18', rfl, ha18, _⟩ := evo_hd hv18; obtain ⟨g18, c18, rfl, _, _⟩ := own_some ho18 (by simp); obtain ⟨_, p18⟩ := ev_hd ho18 (by simp); obtain ⟨gb18, cb18, rfl, _, _⟩ := own_some ha18 (by simp); have r18 : w18.cell? ⟨gb18, 0, none⟩ = some (.int .u64 x) := ha18.cellAt 0 (by simp); have HG18 := Lib.hid hg18; clear hg18 ho18 hv18 ha18))
        go_ret
        exact ⟨rfl, gr_trans HG1.out (gr_trans HGe.out HG19.out)⟩
      · have n0 : (0 : Int) < (l.length : Int) := by omega
        have HUh := HH.out w7 (gr_trans HG1.out (gr_trans HGr.out (gr_trans HG6.out HG7.out)))
        rcases HUh with ⟨hd, _⟩ | ⟨_, bh, oh, ch', _, hd, hcell⟩
        · exact absurd hd h0
        injection hd with hd1 _ hd2
        subst hd1 hd2
        have h00 := hcell 0 (by omega)
        rw [Nat.add_zero] at h00
        have hx0 : l.getD 0 0 = hdI l := by cases l <;> rfl
        simp only [hx0] at h00
        have HY0 := hd_take l
        generalize hdI l = y at *
        have HY := Lib.hid HY0
        clear hcell HY0
        go_upto_region 14 with (fail)
        have HGa := Lib.hid (show Gr w7 (w7.alloc (.cells #[.int .u64 x] 53)) from (Gr.refl _).allocO _)
        have HA2a := Lib.hid (gr_block HGa.out HA2.out)
        have HC14 := Lib.hid (call_x (h := h) (i := 1) HX.out (by show 0 < 1024; decide) (hst_gr HSTr.out (gr_trans HG6.out (gr_trans HG7.out HGa.out))) (gr_block HGa.out HA0.out) (gr_block HGa.out HA1.out) (heap_alloc_new w7 (.cells #[.int .u64 x] 53)) (fun hm => by have := HLt1.out _ (.inl hm); omega))
        go_upto_region 15 with (first | (refine wpList_load_row rfl 35 _ rfl (w6.heap.size + 1 + 1) rfl 35 _ (0, 0) _ HA2.out Try.underlying35 rfl infoSg ?_) | (go_at_call 21; refine HC14.out.mono ?_; rintro e w8 ⟨sva, M1a, F1a, rfl, hst, hm, hf, hsp, ho, hib⟩; obtain ⟨x8, c8, rfl⟩ := own_slice ho; have HST8 := Lib.hid hst; have HMm8 := Lib.hid hm; have HFf8 := Lib.hid hf; have HSP8 := Lib.hid hsp; have HO8 := Lib.hid ho; have HIB8 := Lib.hid hib; clear hst hm hf hsp ho hib))
        have HAp8 := Lib.hid (show Apt M1a F1a M2 F2 from apt_step HApt.out (hst_gr HSTc.out (gr_trans HG7.out HGa.out)) HMm8.out HFf8.out)
        have HSc8 := Lib.hid (hst_sep (hst_gr HSTc.out (gr_trans HG7.out HGa.out)) HSP8.out (fun k hk hm => HApt.out k (.inl hm) hk))
        have HLt8 := Lib.hid (show ∀ k, M1a k ∨ F1a k → k < w8.heap.size from fun k hk => hk.elim (fun h => ((hst_h HST8.out).2.1 k h).1) fun h => (hst_h HST8.out).2.2 k h)
        have HZ7 := Lib.hid (show w6.heap.size ≤ (w7.alloc (.cells #[.int .u64 x] 53)).heap.size ∧ (w7.alloc (.cells #[.int .u64 x] 53)).heap.size ≤ w8.heap.size from ⟨(gr_trans HG7.out HGa.out).size, HSP8.out.size⟩)
        have HA0b := Lib.hid (HSP8.out.at_ (fun hm => by have := HLt1.out _ (.inl hm); omega) (gr_block HGa.out HA0.out))
        have HA1b := Lib.hid (HSP8.out.at_ (fun hm => by have := HLt1.out _ (.inl hm); omega) (gr_block HGa.out HA1.out))
        have HA2b := Lib.hid (HSP8.out.at_ (fun hm => by have := HLt1.out _ (.inl hm); omega) HA2a.out)
        have HL15 := Lib.hid (log_any (by show 1 ≤ 1024; decide) (fun q hq => by simp at hq; subst hq; show 1 ≤ _; decide) HST8.out)
        go_upto_region 16 with (go_at_call 15; refine HL15.out.mono ?_; rintro e w9 ⟨s9, L9, rfl, hg9, ho9, hv9⟩; obtain ⟨av, L9', rfl, hav, hl9⟩ := evo_hd hv9; have hl9' := List.eq_nil_of_length_eq_zero hl9; subst hl9'; obtain ⟨g9, c9, rfl, hb9, hb9'⟩ := own_some ho9 (by simp); have HG9 := Lib.hid hg9; have HO9 := Lib.hid ho9; have HAV := Lib.hid hav; have HB9 := Lib.hid (show w8.heap.size ≤ g9 ∧ g9 < w9.heap.size from ⟨hb9, hb9'⟩); clear hg9 ho9 hv9 hav hl9 hb9 hb9')
        obtain ⟨ga, ca, rfl, hba, hba'⟩ := own_some HAV.out (by simp)
        have HBa := Lib.hid (show w8.heap.size ≤ ga ∧ ga < w9.heap.size from ⟨hba, hba'⟩)
        clear hba hba'
        have HGb := Lib.hid (show Gr w8 (w9.alloc (.cells #[.int .u64 x] 53)) from HG9.out.allocO _)
        have HA2c := Lib.hid (gr_block HGb.out HA2b.out)
        have HC16 := Lib.hid (call_x (h := h2) (i := 2) HX.out (by show 0 < 1024; decide) (hst_gr HSc8.out HGb.out) (gr_block HGb.out HA0b.out) (gr_block HGb.out HA1b.out) (heap_alloc_new w9 (.cells #[.int .u64 x] 53)) (fun hm => by have := HLt2.out _ (.inl hm); omega))
        have HA2c' := Lib.hid (gr_block HG9.out HA2b.out)
        go_upto_region 17 with (first | (refine wpList_load_row rfl 35 _ rfl (w6.heap.size + 1 + 1) rfl 35 _ (0, 0) _ HA2c'.out Try.underlying35 rfl infoSg ?_) | (go_at_call 21; refine HC16.out.mono ?_; rintro e w10 ⟨svb, M2a, F2a, rfl, hst, hm, hf, hsp, ho, hib⟩; obtain ⟨x10, c10, rfl⟩ := own_slice ho; have HST10 := Lib.hid hst; have HMm10 := Lib.hid hm; have HFf10 := Lib.hid hf; have HSP10 := Lib.hid hsp; have HO10 := Lib.hid ho; have HIB10 := Lib.hid hib; clear hst hm hf hsp ho hib))
        have HSh10 := Lib.hid (hst_sep (hst_gr HST8.out HGb.out) HSP10.out (fun k hk hm => HAp8.out k hk (.inl hm)))
        have HAp10 := Lib.hid (show Apt M2a F2a M1a F1a from apt_step (apt_symm HAp8.out) (hst_gr HST8.out HGb.out) HMm10.out HFf10.out)
        have HZ9 := Lib.hid (show w8.heap.size ≤ (w9.alloc (.cells #[.int .u64 x] 53)).heap.size ∧ (w9.alloc (.cells #[.int .u64 x] 53)).heap.size ≤ w10.heap.size ∧ w9.heap.size + 1 = (w9.alloc (.cells #[.int .u64 x] 53)).heap.size from ⟨HGb.out.size, HSP10.out.size, by simp⟩)
        have HA0c := Lib.hid (HSP10.out.at_ (fun hm => by have := HLt2.out _ (.inl hm); omega) (gr_block HGb.out HA0b.out))
        have HA1c := Lib.hid (HSP10.out.at_ (fun hm => by have := HLt2.out _ (.inl hm); omega) (gr_block HGb.out HA1b.out))
        have HA2d := Lib.hid (HSP10.out.at_ (fun hm => by have := HLt2.out _ (.inl hm); omega) HA2c.out)
        have HGc := Lib.hid (show Gr w10 (w10.alloc (.cells #[.int .u64 x] 53)) from (Gr.refl _).allocO _)
        have HC17 := Lib.hid (call_x (h := h) (i := 3) HX.out (by show 1 < 1024; decide) (hst_gr HSh10.out HGc.out) (gr_block HGc.out HA0c.out) (gr_block HGc.out HA1c.out) (heap_alloc_new w10 (.cells #[.int .u64 x] 53)) (fun hm => by have := HLt8.out _ (.inl hm); have := HZ7.out; have := HG7.out.size; have := heap_lt HA1b.out; have := HMm8.out _ hm; rcases this with h | h; (have := HLt1.out _ (.inl h); omega); (have := heap_lt HA1.out; simp at *; omega)))
        go_upto_region 18 with (first | (refine wpList_load_row rfl 35 _ rfl (w6.heap.size + 1 + 1) rfl 35 _ (0, 0) _ HA2d.out Try.underlying35 rfl infoSg ?_) | (go_at_call 21; refine HC17.out.mono ?_; rintro e w11 ⟨svx, M1b, F1b, rfl, hst, hm, hf, hsp, ho, hib⟩; obtain ⟨x11, c11, rfl⟩ := own_slice ho; have HST11 := Lib.hid hst; have HMm11 := Lib.hid hm; have HFf11 := Lib.hid hf; have HSP11 := Lib.hid hsp; have HO11 := Lib.hid ho; have HIB11 := Lib.hid hib; clear hst hm hf hsp ho hib))
        have HSc11 := Lib.hid (hst_sep (hst_gr HST10.out HGc.out) HSP11.out (fun k hk hm => HAp10.out k hk (.inl hm)))
        have hza : ∀ k, (Value.slice x8 [hdI (List.take 4096 l)].length c8).ownBlock = some k → ¬ M2 k := fun k hk hm => by
          have h1 := HLt2.out k (.inl hm); have h2 := (own_row HO8.out k hk).1; have := HZ7.out; omega
        have HUa := Lib.hid (us_sep (us_gr (us_sep (us_gr (us_of_owns HO8.out) HGb.out) HSP10.out hza) HGc.out) HSP11.out (fun k hk => (HIB8.out k hk).1))
        have hzb : ∀ k, (Value.slice x10 [hdI (List.take 4096 l)].length c10).ownBlock = some k → ¬ M1a k := fun k hk hm => by
          have h1 := HLt8.out k (.inl hm); have h2 := (own_row HO10.out k hk).1; have := HZ9.out; omega
        have HUb := Lib.hid (us_sep (us_gr (us_of_owns HO10.out) HGc.out) HSP11.out hzb)
        have HS9 := Lib.hid (show Sep (fun k => M2 k ∨ M1a k) w9 w11 from Sep.trans (Sep.of_gr ((Gr.refl w9).allocO _)) (Sep.trans (HSP10.out.mono fun k hk => .inl hk) (Sep.trans (Sep.of_gr HGc.out) (HSP11.out.mono fun k hk => .inr hk))))
        have HLt9 := Lib.hid (show ∀ k, M2 k ∨ M1a k → k < w8.heap.size from fun k hk => hk.elim (fun h => by have := HLt2.out k (.inl h); have := HZ7.out; omega) fun h => HLt8.out k (.inl h))
        have HO9' := Lib.hid (HS9.out.owns HO9.out (fun k hk hm => by have := HLt9.out k hm; simp [Value.ownBlock] at hk; have := HB9.out; omega))
        have HAV' := Lib.hid (HS9.out.owns HAV.out (fun k hk hm => by have := HLt9.out k hm; simp [Value.ownBlock] at hk; have := HBa.out; omega))
        have HGw := Lib.hid (show Gr w1 w11 from by
          have hz := HGr.out.size
          have hz6 := HG6.out.size
          have a1 : Gr w1 w8 := Sep.toGr (gr_trans HGr.out (gr_trans HG6.out (gr_trans HG7.out HGa.out))) HSP8.out (fun k hk => HMw.out k (.inl hk))
          have a2 : Gr w1 w10 := Sep.toGr (gr_trans a1 HGb.out) HSP10.out (fun k hk => by have := HM2.out k (.inl hk); omega)
          exact Sep.toGr (gr_trans a2 HGc.out) HSP11.out (fun k hk => by
            rcases HMm8.out k hk with h | h
            · exact HMw.out k (.inl h)
            · have := HZ7.out; omega))
        have HGy := Lib.hid (show Gr w11 (w11.alloc (.cells #[.int .u64 y] 53)) from (Gr.refl _).allocO _)
        have HS1 := Lib.hid (same_eq (la := [hdI (List.take 4096 l)]) (us_gr HUa.out HGy.out) (us_of_d (u64_row (l := [y]) (heap_alloc_new w11 (.cells #[.int .u64 y] 53)) rfl (by simp))) (by rw [HY.out]))
        have HS2 := Lib.hid (fun wx (hg : Gr w11 wx) => same_eq (la := [hdI (List.take 4096 l)]) (lb := [hdI (List.take 4096 l)]) (us_gr HUb.out hg) (us_gr HUa.out hg) rfl)
        have HLc := Lib.hid (fun wx (hg : Gr w11 wx) => log_any (by show 1 ≤ 1024; decide) (fun q hq => by simp at hq; subst hq; show 1 ≤ _; decide) (hst_gr HSc11.out hg))
        have HLh := Lib.hid (fun wx (hg : Gr w11 wx) => log_any (by show 2 ≤ 1024; decide) (fun q hq => by simp at hq; rcases hq with rfl | rfl <;> (show 1 ≤ _; decide)) (hst_gr HST11.out hg))
        obtain ⟨o9, o9'⟩ := ev_hd HO9'.out (by simp)
        have O9 := Lib.hid (fun wx (hg : Gr w11 wx) => show wx.cell? ⟨g9, 0, none⟩ = some (.int .i64 1) from gr_cell hg o9)
        have O9' := Lib.hid (fun wx (hg : Gr w11 wx) => show wx.cell? ⟨g9, 1, none⟩ = some (.slice (some ⟨ga, 0, none⟩) [x].length ca) from gr_cell hg o9')
        go_upto_region 20 with (first | (go_at_call 22; refine (HS2.out _ HG12.out).mono ?_; rintro e w13 ⟨rfl, hg13⟩; have HG13 := Lib.hid (gr_trans HG12.out hg13); have p9 := O9.out _ HG13.out; clear hg13) | (go_at_call 22; refine HS1.out.mono ?_; rintro e w12 ⟨rfl, hg12⟩; have HG12 := Lib.hid (gr_trans HGy.out hg12); clear hg12) | (go_at_call 15; refine (HLh.out _ HG15.out).mono ?_; rintro e w16 ⟨s16, L16, rfl, hg16, ho16, hv16⟩; have hl16 : L16.length = 2 := hv16.1; obtain ⟨x16, c16, rfl⟩ := own_slice ho16; have HG16 := Lib.hid (gr_trans HG15.out hg16); clear hg16 ho16 hv16) | (go_at_call 15; refine (HLc.out _ HG14.out).mono ?_; rintro e w15 ⟨s15, L15, rfl, hg15, ho15, hv15⟩; obtain ⟨a15, L15', rfl, _, _⟩ := evo_hd hv15; obtain ⟨g15, c15, rfl, _, _⟩ := own_some ho15 (by simp); obtain ⟨p15, _⟩ := ev_hd ho15 (by simp); have HG15 := Lib.hid (gr_trans HG14.out hg15); clear hg15 ho15 hv15) | (go_at_call 15; refine (HLc.out _ HG13.out).mono ?_; rintro e w14 ⟨s14, L14, rfl, hg14, ho14, hv14⟩; have hl14 : L14.length = 1 := hv14.1; obtain ⟨x14, c14, rfl⟩ := own_slice ho14; have HG14 := Lib.hid (gr_trans HG13.out hg14); clear hg14 ho14 hv14))
        have q9 := O9'.out _ HG16.out
        have HAv16 := Lib.hid (owns_gr HAV'.out HG16.out)
        have qx := HAv16.out.cellAt 0 (by simp)
        have qx' : w16.cell? ⟨ga, 0, none⟩ = some (.int .u64 x) := qx
        have qf := HAv16.out.frozenAt 0
        clear qx
        have hsw := Sep.setCell (ex := fun k => k = ga) w16 (p := ⟨ga, 0, none⟩) rfl (.int .u64 (IntKind.u64.wrap (x + 5)))
        have HSTh := Lib.hid (hst_sep (hst_gr HST11.out HG16.out) hsw (fun k hk e => by
          subst e
          have h1 := HBa.out
          have h2 := HZ9.out
          have h3 : (M1a k ∨ F1a k) ∨ (w10.alloc (.cells #[.int .u64 x] 53)).heap.size ≤ k := hk.elim (fun h => (HMm11.out k h).elim (fun h => .inl (.inl h)) .inr) fun h => (HFf11.out k h).elim (fun h => .inl (.inr h)) .inr
          rcases h3 with h3 | h3
          · have := HLt8.out k h3; omega
          · have := HGc.out.size; omega))
        have HSTk := Lib.hid (hst_sep (hst_gr HSc11.out HG16.out) hsw (fun k hk e => by
          subst e
          have h1 := HBa.out
          have h2 := HZ7.out
          have h4 := HZ9.out
          have h3 : (M2 k ∨ F2 k) ∨ (w9.alloc (.cells #[.int .u64 x] 53)).heap.size ≤ k := hk.elim (fun h => (HMm10.out k h).elim (fun h => .inl (.inl h)) .inr) fun h => (HFf10.out k h).elim (fun h => .inl (.inr h)) .inr
          rcases h3 with h3 | h3
          · have := HLt2.out k h3; omega
          · omega))
        have HGe := Lib.hid (show Gr w1 (w16.setCell ⟨ga, 0, none⟩ (.int .u64 (IntKind.u64.wrap (x + 5)))) from Sep.toGr (gr_trans HGw.out HG16.out) hsw (fun k hk => by have h1 := HBa.out; have h2 := HZ7.out; have h3 := HG6.out.size; have h4 := HGr.out.size; omega))
        clear hsw
        go_upto_region 21 with (fail)
        generalize w16.setCell ⟨ga, 0, none⟩ (.int .u64 (IntKind.u64.wrap (x + 5))) = w17 at *
        have HLh2 := Lib.hid (log_any (by show 2 ≤ 1024; decide) (fun q hq => by simp at hq; rcases hq with rfl | rfl <;> (show 1 ≤ _; decide)) HSTh.out)
        have HLc2 := Lib.hid (fun wx (hg : Gr w17 wx) => log_any (by show 1 ≤ 1024; decide) (fun q hq => by simp at hq; subst hq; show 1 ≤ _; decide) (hst_gr HSTk.out hg))
        go_wp2_with (first | (go_at_call 15; refine (HLc2.out _ HG18.out).mono ?_; rintro e w19 ⟨s19, L19, rfl, hg19, ho19, hv19⟩; obtain ⟨a19, L19', rfl, ha19, _⟩ := evo_hd hv19; obtain ⟨g19, c19, rfl, _, _⟩ := own_some ho19 (by simp); obtain ⟨_, p19⟩ := ev_hd ho19 (by simp); obtain ⟨gb19, cb19, rfl, _, _⟩ := own_some ha19 (by simp); have r19 : w19.cell? ⟨gb19, 0, none⟩ = some (.int .u64 x) := ha19.cellAt 0 (by simp); have HG19 := Lib.hid (gr_trans HG18.out hg19); clear hg19 ho19 hv19 ha19) | (go_at_call 15; refine HLh2.out.mono ?_; rintro e w18 ⟨s18, L18, rfl, hg18, ho18, hv18⟩; obtain ⟨a18, L18', rfl, ha18, _⟩ := evo_hd hv18; obtain ⟨g18, c18, rfl, _, _⟩ := own_some ho18 (by simp); obtain ⟨_, p18⟩ := ev_hd ho18 (by simp); obtain ⟨gb18, cb18, rfl, _, _⟩ := own_some ha18 (by simp); have r18 : w18.cell? ⟨gb18, 0, none⟩ = some (.int .u64 x) := ha18.cellAt 0 (by simp); have HG18 := Lib.hid hg18; clear hg18 ho18 hv18 ha18))
        go_ret
        exact ⟨rfl, gr_trans HG1.out (gr_trans HGe.out HG19.out)⟩
end Hs
end Go.Proofs.Ytndbgnkobodjkaa
