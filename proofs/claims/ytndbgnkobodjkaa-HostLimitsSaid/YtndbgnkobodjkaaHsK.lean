/-
  Of layer 16: Call.
-/
import Derived.Test.YtndbgnkobodjkaaHsC
namespace Go.Proofs.Ytndbgnkobodjkaa
open Go.RowKit VecM
namespace Hs
/-- what a call comes to: what it answers, and the host behind it -/
def callO (s : Ho) (i : Int) (ex : Bool) (ti zi : Nat → Int) (n m : Nat) (to : Nat → Int) (no : Nat) : List Int × Int × Ho :=
  if ¬ (okT ti n ∧ needN ti n = m) ∨ ¬ okT to no then ([], 1, s)
  else if 1024 ≤ s.E.length then ([], 29, s)
  else if ex = true then ([], 28, ⟨s.R, s.E ++ [(i, putL ti (takeV ti zi) n)], if (putL ti (takeV ti zi) n).length = 0 then 0 else (putL ti (takeV ti zi) n).headD 0 % 4294967296⟩)
  else ((nxL to s.R no).1, 0, ⟨(nxL to s.R no).2, s.E ++ [(i, putL ti (takeV ti zi) n)], s.C⟩)
/-- the import that ends a run -/
def exB (a b : ByteArray) : Bool := (a.toList == [104, 111, 115, 116]) && (b.toList == [101, 120, 105, 116])
def CALL (w : World) (h : Nat) (M F : Nat → Prop) (p : List Int × Int × Ho) (e : Ending) (w' : World) : Prop :=
  ∃ sv M' F', e = .returned (.tuple #[sv, .int .i64 p.2.1]) ∧ Hst w' h M' F' p.2.2 ∧ (∀ k, M' k → M k ∨ w.heap.size ≤ k) ∧ (∀ k, F' k → F k ∨ w.heap.size ≤ k) ∧ Sep M w w' ∧ w'.ownsRow w.heap.size 53 1 sv p.1.length (uvs p.1) ∧ InB (fun k => ¬ M' k ∧ ¬ F' k) sv
theorem inb_nil (D : Nat → Prop) : InB D (.slice none 0 0) := fun k hk => by cases hk
theorem call_nil (w : World) (i : Int) (a b : ByteArray) (z : Int) (x y : Option Addr) (n c m d : Nat) (hv : Value) : Calls Try.prog 21 #[.pointer none, .int .i64 i, .agg #[.string a, .string b, .int .i64 z], .agg #[.slice x n c, .slice y m d], hv] w fun e w' => e = .returned (.tuple #[.slice none 0 0, .int .i64 2]) ∧ Gr w w' := by
  go_enter Try.func21, Try.ntmps21
  go_wp2
  go_ret2
  exact ⟨rfl, ((Gr.refl w).alloc _ _).alloc _ _⟩
theorem putL_len' (ts : Nat → Int) (vs : Nat → Nat → Int) (k : Nat) : (putL ts vs k).length ≤ 2 * k := putL_len ts vs k
theorem wrap_hd (x : Int) : IntKind.u32.wrap x = x % 4294967296 := by rw [IntKind.wrap_u32]
theorem bld55w {w : World} {g : Nat} {cs : Array Value} {t : TypeId} {z : Nat × Nat} (h : w.heap[g]? = some (.cells cs t z)) : ∀ j u, cs.toList[j]? = some u → w.cell? ((⟨g, 0, none⟩ : Addr).add j) = some u := fun j u hu => by
  rw [add_at, Nat.zero_add, cell_of_row _ _ j _ _ _ h]
  exact (Array.getElem?_toList ..).symm.trans hu
theorem cell_hd {w : World} {base : Nat} {e : TypeId} {x : Option Addr} {n c : Nat} {l : List Int} (h : w.ownsRow base e 1 (.slice x n c) n (uvs l)) (hn : 0 < n) : ∃ g, x = some ⟨g, 0, none⟩ ∧ w.cell? ⟨g, 0, none⟩ = some (.int .u64 (l.headD 0)) ∧ base ≤ g := by
  have hl := owns_len h
  rcases h.2 with ⟨h1, h2⟩ | ⟨g, cap, cur, h1, hb, _⟩
  · omega
  · injection h1 with h1 _ h3
    subst h1 h3
    refine ⟨g, rfl, ?_, hb⟩
    rw [h.cellAt 0 (by omega), uvs_get l (by omega)]
    cases l <;> rfl
theorem hst_set {w : World} {h : Nat} {M F : Nat → Prop} {s' : Ho} {rv lv u : Value} {L : List (Int × Value)} {o : Nat} {cs : Array Value} (h1 : w.heap[h]? = some (.cells cs 64 (0, 0))) (ho : cs.setIfInBounds o u = #[rv, lv, .int .u32 s'.C])
    (h2 : Ud w rv s'.R) (h3 : InB F rv) (h4 : w.ownsRow 0 55 2 lv L.length (evV L)) (h5 : Evs w F L s'.E) (h6 : M h) (h7 : InB (fun k => M k ∧ k ≠ h) lv) (h8 : ∀ k, M k → k < w.heap.size ∧ ¬ F k) (h9 : ∀ k, F k → k < w.heap.size) : Hst (w.setCell ⟨h, o, none⟩ u) h M F s' := by
  have hs : Sep (fun k => k = h) w (w.setCell ⟨h, o, none⟩ u) := Sep.setCell (ex := fun k => k = h) w (p := ⟨h, o, none⟩) rfl u
  have hFh : ∀ k, F k → ¬ k = h := fun k hk e => (h8 h h6).2 (e ▸ hk)
  exact ⟨rv, lv, L, by rw [← ho]; exact setCell_cell h1 o u, ud_sep h2 hs (fun k hk => hFh k (h3 k hk)), h3, hs.owns h4 (fun k hk => (h7 k hk).2), evs_sep h5 hs hFh, h6, h7, fun k hk => ⟨Nat.lt_of_lt_of_le (h8 k hk).1 hs.size, (h8 k hk).2⟩, fun k hk => Nat.lt_of_lt_of_le (h9 k hk) hs.size⟩
/-- the host behind a logged event -/
theorem call_log {w wa w3 : World} {h b : Nat} {M F : Nat → Prop} {s : Ho} {rv lv av v3 : Value} {L : List (Int × Value)} {i : Int} {cut : List Int}
    (h1 : w.heap[h]? = some (.cells #[rv, lv, .int .u32 s.C] 64 (0, 0))) (h2 : Ud w rv s.R) (h3 : InB F rv) (h5 : Evs w F L s.E) (h6 : M h) (h7 : InB (fun k => M k ∧ k ≠ h) lv) (h8 : ∀ k, M k → k < w.heap.size ∧ ¬ F k) (h9 : ∀ k, F k → k < w.heap.size)
    (hl : wa.ownsRow 0 55 2 lv L.length (evV L)) (hg : Gr w wa) (ho : wa.ownsRow b 53 1 av cut.length (uvs cut)) (hb : w.heap.size ≤ b) (hr : w3.ownsRow 0 55 2 v3 (L.length + 1) (evV L ++ evV [(i, av)])) (hgb : wa.grownBy w3 lv.ownBlock)
    (hbl : ∀ k, v3.ownBlock = some k → lv.ownBlock = some k ∨ k = wa.heap.size) :
    w3.heap[h]? = some (.cells #[rv, lv, .int .u32 s.C] 64 (0, 0)) ∧ (w3.setCell ⟨h, 1, none⟩ v3).heap[h]? = some (.cells #[rv, v3, .int .u32 s.C] 64 (0, 0)) ∧
    (w3.setCell ⟨h, 1, none⟩ v3).ownsRow b 53 1 av cut.length (uvs cut) ∧ Sep M w (w3.setCell ⟨h, 1, none⟩ v3) ∧ (∀ g c t z, w.heap.size ≤ g → wa.heap[g]? = some (.cells c t z) → (w3.setCell ⟨h, 1, none⟩ v3).heap[g]? = some (.cells c t z)) ∧
    ∃ M' F', Hst (w3.setCell ⟨h, 1, none⟩ v3) h M' F' ⟨s.R, s.E ++ [(i, cut)], s.C⟩ ∧ (∀ k, M' k → M k ∨ w.heap.size ≤ k) ∧ ∀ k, F' k → F k ∨ w.heap.size ≤ k := by
  have hS : Sep (fun q => lv.ownBlock = some q) wa w3 := Sep.grown hgb fun q hq => hq
  have hlh : ¬ lv.ownBlock = some h := fun e => (h7 h e).2 rfl
  have hh3 := hS.at_ hlh (gr_block hg h1)
  have hlt := (h8 h h6).1
  have hsz := hg.size
  have hap : ∀ k, av.ownBlock = some k → ¬ lv.ownBlock = some k := own_apart ho hl (by decide)
  have ho3 := hS.owns ho hap
  have hapv : ∀ k, av.ownBlock = some k → ¬ v3.ownBlock = some k := own_apart ho3 hr (by decide)
  have hvb : ∀ k, av.ownBlock = some k → b ≤ k := fun k hk => (own_row ho k hk).1
  have hsc : Sep (fun k => k = h) w3 (w3.setCell ⟨h, 1, none⟩ v3) := Sep.setCell (ex := fun k => k = h) w3 (p := ⟨h, 1, none⟩) rfl v3
  have hlF : ∀ k, F k → ¬ lv.ownBlock = some k := fun k hk e => (h8 k (h7 k e).1).2 hk
  refine ⟨hh3, (setCell_cell hh3 1 v3).trans rfl, hsc.owns ho3 (fun k hk e => by have := hvb k hk; omega), Sep.trans (Sep.of_gr hg) (Sep.trans (hS.mono fun k hk => (h7 k hk).1) (hsc.mono fun k hk => hk ▸ h6)), fun g c t z hgl hgc => hsc.at_ (by omega) (hS.at_ (fun e => by have := (h8 g (h7 g e).1).1; omega) hgc), fun k => M k ∨ v3.ownBlock = some k, fun k => F k ∨ av.ownBlock = some k, ?_, fun k hk => ?_, fun k hk => ?_⟩
  · refine hst_set (s' := ⟨s.R, s.E ++ [(i, cut)], s.C⟩) (L := L ++ [(i, av)]) hh3 rfl (ud_sep (ud_gr h2 hg) hS fun k hk => hlF k (h3 k hk)) (fun k hk => .inl (h3 k hk)) ?_ (evs_app (evs_mono (evs_sep (evs_gr h5 hg) hS hlF) fun k hk => .inl hk) (ud_of_owns ho3) fun k hk => .inr hk) (.inl h6) (fun k hk => ⟨.inr hk, fun e => ?_⟩) (fun k hk => ?_) (fun k hk => ?_)
    · rw [evV_app, List.length_append]; exact hr
    · rcases hbl k hk with h | h
      · exact (h7 k h).2 e
      · omega
    · have hs3 := hS.size
      rcases hk with hk | hk
      · have := (h8 k hk).1
        refine ⟨by omega, fun hx => ?_⟩
        rcases hx with hx | hx
        · exact (h8 k hk).2 hx
        · have := hvb k hx; omega
      · obtain ⟨_, c, z, e⟩ := own_row hr k hk
        refine ⟨heap_lt e, fun hx => ?_⟩
        rcases hx with hx | hx
        · rcases hbl k hk with h | h
          · exact hlF k hx h
          · have := h9 k hx; omega
        · exact hapv k hx hk
    · have hs3 := hS.size
      rcases hk with hk | hk
      · have := h9 k hk; omega
      · obtain ⟨_, c, z, e⟩ := own_row ho3 k hk
        exact heap_lt e
  · rcases hk with hk | hk
    · exact .inl hk
    · rcases hbl k hk with h | h
      · exact .inl (h7 k h).1
      · exact .inr (by omega)
  · rcases hk with hk | hk
    · exact .inl hk
    · exact .inr (by have := hvb k hk; omega)
set_option maxRecDepth 100000 in
set_option maxHeartbeats 8000000 in
theorem call_any {w : World} {h : Nat} {M F : Nat → Prop} {s : Ho} {i z : Int} {a b : ByteArray} {x y : Option Addr} {n c no d m : Nat} {ti to zi : Nat → Int} {hv : Value} (hn : n ≤ 1099511627776) (hno : no ≤ 1099511627776) (hlE : s.E.length ≤ 1024) (hh : Hst w h M F s)
    (hti : I64s w (.slice x n c) n ti) (hto : I64s w (.slice y no d) no to) (htb : InB (fun k => ¬ M k) (.slice y no d)) (hhv : U64c w hv m zi) :
    Calls Try.prog 21 #[.pointer (some ⟨h, 0, none⟩), .int .i64 i, .agg #[.string a, .string b, .int .i64 z], .agg #[.slice x n c, .slice y no d], hv] w (CALL w h M F (callO s i (exB a b) ti zi n m to no)) := by
  have HSame := Lib.hid (fun wx (hg : Gr w wx) => same_any hn (i64s_gr hti hg) (u64c_gr hhv hg))
  have HKnown := Lib.hid (fun wx (hg : Gr w wx) => known_any hno (i64s_gr hto hg))
  have HTO := Lib.hid hto
  have HTB := Lib.hid htb
  have HN := Lib.hid hn
  have HNO := Lib.hid hno
  have HH := Lib.hid hh
  have HLE := Lib.hid hlE
  clear hti hto htb hhv hn hno hlE
  have HG0 := Lib.hid (show Gr w ((w.alloc (.cells #[.string a, .string b, .int .i64 z] 32)).alloc (.cells #[.slice x n c, .slice y no d] 35)) from ((Gr.refl w).alloc _ _).alloc _ _)
  have HB0 := Lib.hid (heap_alloc2_old w (.cells #[.string a, .string b, .int .i64 z] 32) (.cells #[.slice x n c, .slice y no d] 35))
  have HB1 := Lib.hid (heap_alloc2_new w (.cells #[.string a, .string b, .int .i64 z] 32) (.cells #[.slice x n c, .slice y no d] 35))
  have HZ0 := Lib.hid (show ((w.alloc (.cells #[.string a, .string b, .int .i64 z] 32)).alloc (.cells #[.slice x n c, .slice y no d] 35)).heap.size = w.heap.size + 2 by simp)
  go_enter Try.func21, Try.ntmps21
  go_upto_region 3 with (fail)
  generalize (w.alloc (.cells #[.string a, .string b, .int .i64 z] 32)).alloc (.cells #[.slice x n c, .slice y no d] 35) = w0 at *
  obtain ⟨gi, hgi⟩ : ∃ gi, w.heap.size = gi := ⟨_, rfl⟩
  rw [hgi] at HB0 HB1 ⊢
  have HGI := Lib.hid hgi
  clear hgi
  obtain ⟨q0, q1⟩ := cells2 HB1.out
  have Q0 := Lib.hid q0
  have Q1 := Lib.hid q1
  clear q1
  have hBad : ∀ w2, Gr w w2 → callO s i (exB a b) ti zi n m to no = ([], 1, s) → CALL w h M F (callO s i (exB a b) ti zi n m to no) (.returned (.tuple #[.slice none 0 0, .int .i64 1])) w2 := fun w2 hg he => by
    rw [he]
    exact ⟨_, M, F, rfl, hst_gr HH.out hg, fun k hk => .inl hk, fun k hk => .inl hk, Sep.of_gr hg, World.ownsRow_nil _ _ _ _, inb_nil _⟩
  have HBad := Lib.hid hBad
  clear hBad
  by_cases hok : okT ti n ∧ needN ti n = m
  rotate_left
  · have HX := Lib.hid (show takX ti n m = 1 from takX_no hok)
    have HE := Lib.hid (show callO s i (exB a b) ti zi n m to no = ([], 1, s) from if_pos (.inl hok))
    go_wp2_with (go_at_call 27; refine (HSame.out _ HG0.out).mono ?_; rw [HX.out]; rintro e w1 ⟨sv, rfl, hg1, ho1⟩; obtain ⟨x1, c1, rfl⟩ := own_slice ho1; have HG1 := Lib.hid (gr_trans HG0.out hg1); clear hg1 ho1)
    go_ret2
    exact HBad.out _ HG1.out HE.out
  have HX := Lib.hid (show takX ti n m = 0 from takX_yes hok)
  have HC := Lib.hid (show cutL ti zi n m = putL ti (takeV ti zi) n from if_pos hok)
  have hcl := putL_len' ti (takeV ti zi) n
  by_cases hko : okT to no
  rotate_left
  · have HE := Lib.hid (show callO s i (exB a b) ti zi n m to no = ([], 1, s) from if_pos (.inr hko))
    have HK := Lib.hid (show cntB to no = false from cntB_no hko)
    go_upto_region 4 with (go_at_call 27; refine (HSame.out _ HG0.out).mono ?_; rw [HX.out]; rintro e w1 ⟨sv, rfl, hg1, ho1⟩; obtain ⟨x1, c1, rfl⟩ := own_slice ho1; have HG1 := Lib.hid (gr_trans HG0.out hg1); have q1 := gr_cell hg1 Q1.out; clear hg1 ho1)
    go_wp2_with (go_at_call 28; refine (HKnown.out _ HG1.out).mono ?_; rw [HK.out]; rintro e w2 ⟨rfl, rfl⟩)
    go_ret2
    exact HBad.out _ HG1.out HE.out
  have HK := Lib.hid (show cntB to no = true from cntB_yes hko)
  obtain ⟨rv, lv, L, h1, h2, h3, h4, h5, h6, h7, h8, h9⟩ := hh
  obtain ⟨a0, a1, a2⟩ := cells3 h1
  obtain ⟨xl, cl, rfl⟩ := own_slice h4
  have HLen := Lib.hid (show L.length = s.E.length from h5.1)
  by_cases hlog : 1024 ≤ s.E.length
  · have HE := Lib.hid (show callO s i (exB a b) ti zi n m to no = ([], 29, s) by unfold callO; rw [if_neg (by rintro (h | h); exact h hok; exact h hko), if_pos hlog])
    have t0 : (1024 : Int) ≤ (L.length : Int) := by rw [h5.1]; omega
    clear h1 h2 h3 h4 h5 h6 h7 h8 h9 a0 a2 hlog hok hko hcl
    go_upto_region 4 with (go_at_call 27; refine (HSame.out _ HG0.out).mono ?_; rw [HX.out]; rintro e w1 ⟨sv, rfl, hg1, ho1⟩; obtain ⟨x1, c1, rfl⟩ := own_slice ho1; have HG1 := Lib.hid (gr_trans HG0.out hg1); have q1 := gr_cell hg1 Q1.out; have b1 := gr_cell HG1.out a1; clear hg1 ho1)
    go_wp2_with (go_at_call 28; refine (HKnown.out _ HG1.out).mono ?_; rw [HK.out]; rintro e w2 ⟨rfl, rfl⟩)
    go_ret2
    rw [HE.out]
    exact ⟨_, M, F, rfl, hst_gr HH.out HG1.out, fun k hk => .inl hk, fun k hk => .inl hk, Sep.of_gr HG1.out, World.ownsRow_nil _ _ _ _, inb_nil _⟩
  have HE := Lib.hid (show callO s i (exB a b) ti zi n m to no = if exB a b = true then ([], 28, ⟨s.R, s.E ++ [(i, putL ti (takeV ti zi) n)], if (putL ti (takeV ti zi) n).length = 0 then 0 else (putL ti (takeV ti zi) n).headD 0 % 4294967296⟩)
    else ((nxL to s.R no).1, 0, ⟨(nxL to s.R no).2, s.E ++ [(i, putL ti (takeV ti zi) n)], s.C⟩) by unfold callO; rw [if_neg (by rintro (h | h); exact h hok; exact h hko), if_neg hlog])
  have t0 : ¬ (1024 : Int) ≤ (L.length : Int) := by rw [h5.1]; omega
  have HL1024 := Lib.hid (show L.length < 1024 by rw [h5.1]; omega)
  rw [HC.out] at HSame
  generalize putL ti (takeV ti zi) n = cut at *
  generalize callO s i (exB a b) ti zi n m to no = res at *
  have HF := Lib.hid (show Hst w h M F s from ⟨rv, .slice xl L.length cl, L, h1, h2, h3, h4, h5, h6, h7, h8, h9⟩)
  have HH1 := Lib.hid h1
  have HH2 := Lib.hid h2
  have HH3 := Lib.hid h3
  have HH4 := Lib.hid h4
  have HH5 := Lib.hid h5
  have HH7 := Lib.hid h7
  have HH8 := Lib.hid h8
  have HH9 := Lib.hid h9
  have HFr := Lib.hid (fun (wx : World) (hg : Gr w wx) => froz (gr_block hg h1))
  clear h1 h2 h3 h4 h5 h7 h8 h9 hlog hok hko a0 a2
  obtain ⟨i0, hi, hz0, hz1, hz2⟩ := info_parts info55
  have HI := Lib.hid hi
  have HJ0 := Lib.hid hz0
  have HJ1 := Lib.hid hz1
  have HJ2 := Lib.hid hz2
  clear hi hz0 hz1 hz2
  go_upto_region 4 with (go_at_call 27; refine (HSame.out _ HG0.out).mono ?_; rw [HX.out]; rintro e w1 ⟨sv, rfl, hg1, ho1⟩; obtain ⟨x1, c1, rfl⟩ := own_slice ho1; have HG1 := Lib.hid (gr_trans HG0.out hg1); have HGw := Lib.hid hg1; have HO1 := Lib.hid ho1; have q1 := gr_cell hg1 Q1.out; have b1 := gr_cell HG1.out a1; clear hg1 ho1)
  go_upto_region 8 with (go_at_call 28; refine (HKnown.out _ HG1.out).mono ?_; rw [HK.out]; rintro e w2 ⟨rfl, rfl⟩)
  have HOwn := Lib.hid (show (w1.alloc (.cells #[.int .i64 i, .slice x1 cut.length c1] 55)).ownsRow 0 55 2 (.slice xl L.length cl) L.length (evV L) from owns_gr HH4.out (HG1.out.alloc _ _))
  have HSrc := Lib.hid (show Src (w1.alloc (.cells #[.int .i64 i, .slice x1 cut.length c1] 55)) (.slice (some ⟨w1.heap.size, 0, none⟩) 1 1) 1 (evV [(i, .slice x1 cut.length c1)]) from .inr ⟨_, _, rfl, bld55w (heap_alloc_new w1 (.cells #[.int .i64 i, .slice x1 cut.length c1] 55))⟩)
  have HOne := Lib.hid (show ∀ u ∈ evV [(i, .slice x1 cut.length c1)], u.oneCell' = true from fun u hu => by simp [evV] at hu; rcases hu with rfl | rfl <;> rfl)
  go_upto_region 9 with (at_builtin; refine wpList_append_at rfl _ _ 43 rfl 0 55 i0 (.agg #[.int .i64 0, .slice none 0 0]) 2 32 Try.underlying43 HI.out HJ0.out HJ1.out HJ2.out rfl (by decide) (.slice xl L.length cl) L.length (evV L) rfl HOwn.out _ 1 (evV [(i, .slice x1 cut.length c1)]) rfl HSrc.out rfl HOne.out ?c3 ?c4 ?c5 ?_)
  case c3 => have := HL1024.out; unfold maxLen; omega
  case c4 => have := HL1024.out; omega
  case c5 => omega
  intro v3 w3 hr hgb hbl
  have HLg := Lib.hid (call_log HH1.out HH2.out HH3.out HH5.out h6 HH7.out HH8.out HH9.out HOwn.out (HG1.out.alloc _ _) (owns_gr HO1.out ((Gr.refl _).alloc _ _)) HG0.out.size hr hgb (fun k hk => by simpa using hbl k hk))
  obtain ⟨x3, c3, rfl⟩ := own_slice hr
  obtain ⟨r1, r2, r3⟩ := cells3 HLg.out.1
  have fz3 := froz HLg.out.1 1
  clear hr hgb hbl b1 q1
  go_upto_region 9 with (fail)
  have HM := Lib.hid HLg.out.2
  clear HLg r1 r2 r3 fz3
  generalize w3.setCell ⟨h, 1, none⟩ (.slice x3 (L.length + 1) c3) = w4 at *
  obtain ⟨k1, k2, k3, k4, M', F', k5, k6, k7⟩ := HM.out
  have HK1 := Lib.hid k1
  have HK2 := Lib.hid k2
  have HK3 := Lib.hid k3
  have HK5 := Lib.hid k5
  have HK6 := Lib.hid k6
  have HK7 := Lib.hid k7
  have hbx := k4 gi _ _ _ (by have := HGI.out; omega) (gr_block (gr_trans HGw.out ((Gr.refl w1).alloc _ _)) HB0.out)
  have hby := k4 (gi + 1) _ _ _ (by have := HGI.out; omega) (gr_block (gr_trans HGw.out ((Gr.refl w1).alloc _ _)) HB1.out)
  obtain ⟨ci0, ci1, _⟩ := cells3 hbx
  obtain ⟨_, cy1⟩ := cells2 hby
  have HS4 := Lib.hid k3
  have HAv := Lib.hid k2
  have hgi := HGI.out
  have HMlt := Lib.hid (show ∀ k, M' k ∨ F' k → k < w4.heap.size from fun k hk => hk.elim (fun h => ((hst_h k5).2.1 k h).1) fun h => (hst_h k5).2.2 k h)
  have HMh := Lib.hid (hst_h k5).1
  have HCut := Lib.hid hcl
  clear k2 k3 k4 k5 k6 k7 hbx hby hgi hcl
  have HFin := Lib.hid (fun (p : List Int × Int × Ho) (sv : Value) (w5 : World) (he : res = p) (hst : Hst w5 h M' F' p.2.2) (hsp : Sep (fun k => k = h) w4 w5) (ho : w5.ownsRow w.heap.size 53 1 sv p.1.length (uvs p.1)) (hib : InB (fun k => ¬ M' k ∧ ¬ F' k) sv) =>
    show CALL w h M F res (.returned (.tuple #[sv, .int .i64 p.2.1])) w5 from by
      rw [he]
      exact ⟨sv, M', F', rfl, hst, HK6.out, HK7.out, Sep.trans HS4.out (hsp.mono fun k hk => hk ▸ h6), ho, hib⟩)
  have hexit : ∀ hx : exB a b = true, res = ([], 28, ⟨s.R, s.E ++ [(i, cut)], if cut.length = 0 then 0 else cut.headD 0 % 4294967296⟩) := fun hx => by rw [HE.out, if_pos hx]
  have hgo : ∀ hx : exB a b = false, res = ((nxL to s.R no).1, 0, ⟨(nxL to s.R no).2, s.E ++ [(i, cut)], s.C⟩) := fun hx => by rw [HE.out, if_neg (by rw [hx]; decide)]
  have HExit := Lib.hid hexit
  have HGo := Lib.hid hgo
  clear hexit hgo HE
  have HRes := Lib.hid (fun wx (hs : Sep (fun k => k = h) w4 wx) (hst : Hst wx h M' F' ⟨s.R, s.E ++ [(i, cut)], s.C⟩) => results_any HNO.out hst (i64s_sep (i64s_sep HTO.out HS4.out HTB.out) hs (fun k hk e => HTB.out k hk (e ▸ h6))) (fun k hk e => HTB.out k hk (e ▸ h6)))
  have HW4 := Lib.hid HS4.out.size
  cases hA : (a.toList == [104, 111, 115, 116])
  · have HX1 := Lib.hid (HGo.out (by unfold exB; rw [hA]; rfl))
    go_wp2_with (go_at_call 29; refine (HRes.out _ (Sep.refl _) HK5.out).mono ?_; rintro e w5 ⟨sv, rfl, hst5, hs5, ho5⟩; obtain ⟨x5, c5, rfl⟩ := own_slice ho5; have HST5 := Lib.hid hst5; have HS5 := Lib.hid hs5; have HO5 := Lib.hid ho5; clear hst5 hs5 ho5)
    go_ret2
    exact HFin.out _ _ _ HX1.out HST5.out HS5.out (owns_base HO5.out HW4.out) (fun k hk => by
      have h1 := (own_row HO5.out k hk).1
      exact ⟨fun h => by have := HMlt.out k (.inl h); omega, fun h => by have := HMlt.out k (.inr h); omega⟩)
  cases hB : (b.toList == [101, 120, 105, 116])
  · have HX1 := Lib.hid (HGo.out (by unfold exB; rw [hA, hB]; rfl))
    go_wp2_with (go_at_call 29; refine (HRes.out _ (Sep.refl _) HK5.out).mono ?_; rintro e w5 ⟨sv, rfl, hst5, hs5, ho5⟩; obtain ⟨x5, c5, rfl⟩ := own_slice ho5; have HST5 := Lib.hid hst5; have HS5 := Lib.hid hs5; have HO5 := Lib.hid ho5; clear hst5 hs5 ho5)
    go_ret2
    exact HFin.out _ _ _ HX1.out HST5.out HS5.out (owns_base HO5.out HW4.out) (fun k hk => by
      have h1 := (own_row HO5.out k hk).1
      exact ⟨fun h => by have := HMlt.out k (.inl h); omega, fun h => by have := HMlt.out k (.inr h); omega⟩)
  have HX1 := Lib.hid (HExit.out (by unfold exB; rw [hA, hB]; rfl))
  obtain ⟨m1, m2, m3⟩ := cells3 HK1.out
  have fz4 := froz HK1.out 2
  have HP5 := Lib.hid (show Hst (w4.setCell ⟨h, 2, none⟩ (.int .u32 0)) h M' F' ⟨s.R, s.E ++ [(i, cut)], 0⟩ ∧ Sep (fun k => k = h) w4 (w4.setCell ⟨h, 2, none⟩ (.int .u32 0)) from by
    obtain ⟨rv', lv', L', g1, g2, g3, g4, g5, g6, g7, g8, g9⟩ := HK5.out
    have e := HK1.out.symm.trans g1
    injection e with e
    injection e with e _ _
    simp only [Array.mk.injEq, List.cons.injEq, and_true] at e
    obtain ⟨rfl, rfl, _⟩ := e
    exact hst_put (s' := ⟨s.R, s.E ++ [(i, cut)], 0⟩) HK5.out g1 rfl g2 g3 g4 g5 g7)
  have HQ5 := Lib.hid (setCell_cell HK1.out 2 (.int .u32 0))
  by_cases h0 : cut.length = 0
  · rw [if_pos h0] at HX1
    have n0 : ¬ (0 : Int) < (cut.length : Int) := by omega
    go_wp2
    go_ret2
    exact HFin.out _ _ _ HX1.out HP5.out.1 HP5.out.2 (World.ownsRow_nil _ _ _ _) (inb_nil _)
  · rw [if_neg h0] at HX1
    have n0 : (0 : Int) < (cut.length : Int) := by omega
    obtain ⟨ga, rfl, hca, hgab⟩ := cell_hd (HP5.out.2.owns HAv.out (fun k hk e => by have := (own_row HAv.out k hk).1; have := (HH8.out h h6).1; have := HG0.out.size; omega)) (by omega)
    generalize cut.headD 0 = x0 at *
    have cw := wrap_hd x0
    obtain ⟨z1, z2, z3⟩ := cells3 (HQ5.out.trans rfl)
    have fz5 := froz HQ5.out 2
    have HP6 := Lib.hid (show Hst ((w4.setCell ⟨h, 2, none⟩ (.int .u32 0)).setCell ⟨h, 2, none⟩ (.int .u32 (x0 % 4294967296))) h M' F' ⟨s.R, s.E ++ [(i, cut)], x0 % 4294967296⟩ ∧ Sep (fun k => k = h) (w4.setCell ⟨h, 2, none⟩ (.int .u32 0)) ((w4.setCell ⟨h, 2, none⟩ (.int .u32 0)).setCell ⟨h, 2, none⟩ (.int .u32 (x0 % 4294967296))) from by
      obtain ⟨rv', lv', L', g1, g2, g3, g4, g5, g6, g7, g8, g9⟩ := HP5.out.1
      exact hst_put (s' := ⟨s.R, s.E ++ [(i, cut)], x0 % 4294967296⟩) HP5.out.1 g1 rfl g2 g3 g4 g5 g7)
    go_upto_region 11 with (fail)
    generalize w4.setCell ⟨h, 2, none⟩ (.int .u32 0) = w5 at *
    go_wp2
    go_ret2
    exact HFin.out _ _ _ HX1.out HP6.out.1 (Sep.trans HP5.out.2 HP6.out.2) (World.ownsRow_nil _ _ _ _) (inb_nil _)
end Hs
end Go.Proofs.Ytndbgnkobodjkaa
