/-
  Of layer 16: slices.Concat of two slices, Reply.
-/
import Derived.Test.YtndbgnkobodjkaaHsD
namespace Go.Proofs.Ytndbgnkobodjkaa
open Go.RowKit VecM
namespace Hs
set_option maxHeartbeats 2000000 in
theorem concat2_any {w : World} {gb cc : Nat} {v1 v2 : Value} {l1 l2 : List Int} {tb : TypeId} {z : Nat × Nat} (h1 : Ud w v1 l1) (h2 : Ud w v2 l2) (hb : w.heap[gb]? = some (.cells #[v1, v2] tb z)) (hl : l1.length + l2.length ≤ 1048576) :
    Calls Try.prog 30 #[.slice (some ⟨gb, 0, none⟩) 2 cc] w (NEWS (l1 ++ l2) w) := by
  have HU1 := Lib.hid (fun wx (hg : Gr w wx) => ud_gr h1 hg)
  have HU2 := Lib.hid (fun wx (hg : Gr w wx) => ud_gr h2 hg)
  obtain ⟨x1, c1, rfl⟩ := ud_slice h1
  obtain ⟨x2, c2, rfl⟩ := ud_slice h2
  have HB := Lib.hid (fun wx (hg : Gr w wx) => cells2 (gr_block hg hb))
  have HL := Lib.hid hl
  have HGw := Lib.hid (show Calls Try.prog 39 #[.slice none 0 0, .int .i64 ((l1.length : Int) + (l2.length : Int))] w fun e w' => ∃ sv, e = .returned sv ∧ Gr w w' ∧ w'.ownsRow w.heap.size 53 1 sv 0 [] from by rw [← Int.natCast_add]; exact grow_nil w _ (by omega))
  clear h1 h2 hb
  obtain ⟨i0, hi, hz0, hz1, hz2⟩ := info_parts info64
  have HI := Lib.hid hi
  have HZ0 := Lib.hid hz0
  have HZ1 := Lib.hid hz1
  have HZ2 := Lib.hid hz2
  clear hi hz0 hz1 hz2
  go_enter Try.func30, Try.ntmps30
  go_wp2_with fail
  go_loopw [3, 11] (fun s i wx => (i = .int .i64 0 ∧ s = .int .i64 0 ∨ i = .int .i64 1 ∧ s = .int .i64 (l1.length : Nat) ∨ i = .int .i64 2 ∧ s = .int .i64 ((l1.length : Int) + (l2.length : Int))) ∧ wx = w) (fun _ i _ => 2 - (intOf i).toNat)
  case atStart => exact ⟨.inl ⟨rfl, rfl⟩, rfl⟩
  case round =>
    obtain ⟨hrel, hw⟩ := hrel
    subst hw
    obtain ⟨b0, b1⟩ := HB.out wr (Gr.refl _)
    rcases hrel with ⟨rfl, rfl⟩ | ⟨rfl, rfl⟩ | ⟨rfl, rfl⟩
    · go_wp2
      exact ⟨⟨.inr (.inl ⟨by go_num, by go_num⟩), trivial⟩, by simp [intOf]⟩
    · go_wp2
      exact ⟨⟨.inr (.inr ⟨by go_num, by go_num⟩), trivial⟩, by simp [intOf]⟩
    · clear b0 b1
      go_upto_region 10 with (go_at_call 39; refine HGw.out.mono ?_; rintro e w1 ⟨s1, rfl, hg1, ho1⟩; have HG1 := Lib.hid hg1; have HO1 := Lib.hid ho1; obtain ⟨x9, c9, rfl⟩ := own_slice ho1; clear hg1 ho1)
      go_wp2_with fail
      generalize wr = w at *
      go_loopw [6, 27] (fun s i wx => ∃ L : List Int, (i = .int .i64 0 ∧ L = [] ∨ i = .int .i64 1 ∧ L = l1 ∨ i = .int .i64 2 ∧ L = l1 ++ l2) ∧ Gr w wx ∧ wx.ownsRow w.heap.size 53 1 s L.length (uvs L)) (fun _ i _ => 2 - (intOf i).toNat)
      case atStart => exact ⟨[], .inl ⟨rfl, rfl⟩, HG1.out, HO1.out⟩
      case round =>
        obtain ⟨L, hi, hgx, hown⟩ := hrel
        have HGx := Lib.hid hgx
        obtain ⟨b0, b1⟩ := HB.out wr hgx
        clear hgx
        rcases hi with ⟨rfl, rfl⟩ | ⟨rfl, rfl⟩ | ⟨rfl, rfl⟩
        · have HOx := Lib.hid (show wr.ownsRow w.heap.size 53 1 _ 0 [] from hown)
          obtain ⟨x0, c0, rfl⟩ := own_slice hown
          clear hown
          have HSr := Lib.hid (src_of_d (HU1.out wr HGx.out))
          go_wp2_with (at_builtin; refine wpList_append_src rfl _ _ 22 rfl w.heap.size 53 i0 (.int .u64 0) 1 8 Try.underlying22 HI.out HZ0.out HZ1.out HZ2.out rfl (by decide) (.slice x0 0 c0) 0 [] rfl HOx.out (.slice x1 l1.length c1) l1.length (uvs l1) rfl HSr.out (by rw [uvs_len, Nat.mul_one]) (uvs_one l1) ?c3 ?c4 ?c5 ?_)
          case c3 => have := HL.out; unfold maxLen; omega
          case c4 => have := HL.out; omega
          case c5 => have := HGx.out.size; omega
          intro v3 w3 hr hgb
          have HG3 := Lib.hid (HGx.out.grown hgb (fun q hq => (HOx.out.lt q hq).1))
          have HO3 := Lib.hid (show w3.ownsRow w.heap.size 53 1 v3 ([] ++ l1).length (uvs ([] ++ l1)) by rw [uvs_app]; simpa [uvs] using hr)
          clear hr hgb
          go_wp2
          exact ⟨⟨_, .inr (.inl ⟨by go_num, rfl⟩), HG3.out, HO3.out⟩, by simp [intOf]⟩
        · have HOx := Lib.hid hown
          obtain ⟨x0, c0, rfl⟩ := own_slice hown
          clear hown
          have HSr := Lib.hid (src_of_d (HU2.out wr HGx.out))
          go_wp2_with (at_builtin; refine wpList_append_src rfl _ _ 22 rfl w.heap.size 53 i0 (.int .u64 0) 1 8 Try.underlying22 HI.out HZ0.out HZ1.out HZ2.out rfl (by decide) (.slice x0 L.length c0) L.length (uvs L) rfl HOx.out (.slice x2 l2.length c2) l2.length (uvs l2) rfl HSr.out (by rw [uvs_len, Nat.mul_one]) (uvs_one l2) ?c3 ?c4 ?c5 ?_)
          case c3 => have := HL.out; unfold maxLen; omega
          case c4 => have := HL.out; omega
          case c5 => have := HGx.out.size; omega
          intro v3 w3 hr hgb
          have HG3 := Lib.hid (HGx.out.grown hgb (fun q hq => (HOx.out.lt q hq).1))
          have HO3 := Lib.hid (show w3.ownsRow w.heap.size 53 1 v3 (L ++ l2).length (uvs (L ++ l2)) by rw [uvs_app, List.length_append]; exact hr)
          clear hr hgb
          go_wp2
          exact ⟨⟨_, .inr (.inr ⟨by go_num, rfl⟩), HG3.out, HO3.out⟩, by simp [intOf]⟩
        · have HOx := Lib.hid hown
          clear hown b0 b1
          go_wp2
          go_ret
          exact ⟨_, rfl, HGx.out, HOx.out⟩
/-- the blocks that a host reads alone, more of them -/
theorem hst_more {w : World} {h : Nat} {M F F' : Nat → Prop} {s : Ho} (hh : Hst w h M F s) (h1 : ∀ k, F k → F' k) (h2 : ∀ k, F' k → k < w.heap.size ∧ ¬ M k) : Hst w h M F' s := by
  obtain ⟨rv, lv, L, a1, a2, a3, a4, a5, a6, a7, a8, a9⟩ := hh
  exact ⟨rv, lv, L, a1, a2, fun k hk => h1 k (a3 k hk), a4, evs_mono a5 h1, a6, a7, fun k hk => ⟨(a8 k hk).1, fun hf => (h2 k hf).2 hk⟩, fun k hk => (h2 k hk).1⟩
def RPL (w : World) (h : Nat) (M F : Nat → Prop) (s : Ho) (e : Ending) (w' : World) : Prop :=
  ∃ F', e = .returned (.int .i64 0) ∧ Hst w' h M F' s ∧ (∀ k, F' k → F k ∨ w.heap.size ≤ k) ∧ Sep (fun k => k = h) w w'
theorem reply_many {w : World} {h : Nat} {M F : Nat → Prop} {s : Ho} {v : Value} {l : List Int} (hh : Hst w h M F s) (hv : Ud w v l) (hR : s.R.length ≤ 4096) (hl : 4096 - s.R.length < l.length) (hl2 : l.length ≤ 1048576) :
    Calls Try.prog 23 #[.pointer (some ⟨h, 0, none⟩), v] w fun e w' => e = .returned (.int .i64 3) ∧ w = w' := by
  obtain ⟨rv, lv, L, h1, h2, _⟩ := hh
  obtain ⟨a1, _⟩ := cells3 h1
  obtain ⟨x, c, rfl⟩ := ud_slice h2
  obtain ⟨x2, c2, rfl⟩ := ud_slice hv
  have t1 : 4096 - (s.R.length : Int) < (l.length : Int) := by omega
  have t2 : IntKind.i64.wrap (4096 - (s.R.length : Int)) = 4096 - (s.R.length : Int) := by rw [IntKind.wrap_i64]; omega
  clear h1 h2 hv
  go_enter Try.func23, Try.ntmps23
  go_wp2
  go_ret
  exact ⟨rfl, rfl⟩
set_option maxHeartbeats 1000000 in
theorem reply_any {w : World} {h : Nat} {M F : Nat → Prop} {s : Ho} {v : Value} {l : List Int} (hh : Hst w h M F s) (hv : Ud w v l) (hR : s.R.length ≤ 4096) (hl : ¬ 4096 - s.R.length < l.length) :
    Calls Try.prog 23 #[.pointer (some ⟨h, 0, none⟩), v] w (RPL w h M F ⟨s.R ++ l, s.E, s.C⟩) := by
  have HH := Lib.hid hh
  obtain ⟨rv, lv, L, h1, h2, h3, h4, h5, h6, h7, h8, h9⟩ := hh
  obtain ⟨a1, _, _⟩ := cells3 h1
  have H1 := Lib.hid h1
  have H2 := Lib.hid h2
  have HV := Lib.hid hv
  obtain ⟨x, c, rfl⟩ := ud_slice h2
  obtain ⟨x2, c2, rfl⟩ := ud_slice hv
  have t1 : ¬ 4096 - (s.R.length : Int) < (l.length : Int) := by omega
  have t2 : IntKind.i64.wrap (4096 - (s.R.length : Int)) = 4096 - (s.R.length : Int) := by rw [IntKind.wrap_i64]; omega
  have HC := Lib.hid (concat2_any (w := w.alloc (.cells #[.slice x s.R.length c, .slice x2 l.length c2] 22)) (gb := w.heap.size) (cc := 2) (ud_gr h2 ((Gr.refl w).alloc _ _)) (ud_gr hv ((Gr.refl w).alloc _ _)) (heap_alloc_new w _) (by omega))
  have H3 := Lib.hid (And.intro h3 (And.intro h4 (And.intro h5 (And.intro h6 (And.intro h7 (And.intro h8 h9))))))
  clear h1 h2 h3 h4 h5 h6 h7 h8 h9 hv
  go_enter Try.func23, Try.ntmps23
  go_wp2_with (go_at_call 30; refine HC.out.mono ?_; rintro e w1 ⟨sv, rfl, hg1, ho1⟩; have HGX := Lib.hid (gr_trans ((Gr.refl w).alloc #[.slice x s.R.length c, .slice x2 l.length c2] 22) hg1); obtain ⟨x9, n9, c9, e9⟩ : ∃ x n c, sv = .slice x n c := (by obtain ⟨x, c, h⟩ := own_slice ho1; exact ⟨_, _, _, h⟩); subst e9; have HO1 := Lib.hid ho1; have fz := froz (gr_block HGX.out H1.out) 0; have a1' := (cells3 (gr_block HGX.out H1.out)).1; clear hg1 ho1)
  have HO2 := Lib.hid (show ∀ k, (Value.slice x9 n9 c9).ownBlock = some k → w.heap.size ≤ k ∧ k < w1.heap.size from fun k hk => by have := HO1.out.lt k hk; simp at this; omega)
  have HP := Lib.hid (show Hst (w1.setCell ⟨h, 0, none⟩ (.slice x9 n9 c9)) h M (fun k => F k ∨ (Value.slice x9 n9 c9).ownBlock = some k) ⟨s.R ++ l, s.E, s.C⟩ ∧ Sep (fun k => k = h) w1 (w1.setCell ⟨h, 0, none⟩ (.slice x9 n9 c9)) from by
    obtain ⟨h3, h4, h5, h6, h7, h8, h9⟩ := H3.out
    have hm := hst_more (F' := fun k => F k ∨ (Value.slice x9 n9 c9).ownBlock = some k) (hst_gr HH.out HGX.out) (fun k hk => .inl hk) (fun k hk => by
      rcases hk with hk | hk
      · exact ⟨Nat.lt_of_lt_of_le (h9 k hk) HGX.out.size, fun hm => (h8 k hm).2 hk⟩
      · have := HO2.out k hk
        exact ⟨this.2, fun hm => by have := (h8 k hm).1; omega⟩)
    exact hst_put (s' := ⟨s.R ++ l, s.E, s.C⟩) (o := 0) (u := .slice x9 n9 c9) hm (gr_block HGX.out H1.out) (set3 _ _ _ _).1 (ud_of_owns HO1.out) (fun k hk => .inr hk) (owns_gr h4 HGX.out) (evs_mono (evs_gr h5 HGX.out) (fun k hk => .inl hk)) h7)
  go_ret
  exact ⟨_, rfl, HP.out.1, fun k hk => hk.imp id fun h => (HO2.out k h).1, Sep.trans (Sep.of_gr HGX.out) HP.out.2⟩
end Hs
end Go.Proofs.Ytndbgnkobodjkaa
