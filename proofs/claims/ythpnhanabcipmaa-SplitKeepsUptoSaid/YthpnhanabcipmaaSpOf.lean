/-
  Of layer 21: split.Types, Width and Offsets of any types.
-/
import Derived.Test.YthpnhanabcipmaaSpTy
namespace Go.Proofs.Ythpnhanabcipmaa
open Go.RowKit VecM
namespace Sp
/-- a slice of ints that reads as the list l -/
def Ls (w : World) (v : Value) (l : List Int) : Prop := I64s w v l.length fun j => l.getD j 0
theorem ls_gr {w w' : World} {v : Value} {l : List Int} (h : Ls w v l) (hg : Gr w w') : Ls w' v l := i64s_gr h hg
theorem ivs_get (l : List Int) (j : Nat) (h : j < l.length) : (ivs l)[j]? = some (.int .i64 (l.getD j 0)) := by
  unfold ivs
  simp [h]
theorem ls_of_owns {w : World} {base : Nat} {e : TypeId} {v : Value} {l : List Int} (h : w.ownsRow base e 1 v l.length (ivs l)) : Ls w v l := by
  rcases h.2 with ⟨h1, h2⟩ | ⟨g, cap, cur, rfl, hb, hh, hn, hcap, hsz, htk⟩
  · exact .inl ⟨h2, _, _, by rw [h2] at *; exact h1⟩
  · refine .inr ⟨by unfold maxLen at hcap; omega, g, 0, cap, rfl, fun j hj => ?_⟩
    rw [Nat.zero_add, cell_of_row _ _ j _ _ _ hh]
    have := ivs_get l j hj
    rw [← htk, Nat.mul_one, List.getElem?_take, if_pos hj] at this
    simpa using this
theorem ls_slice {w : World} {v : Value} {n : Nat} {zs : Nat → Int} (h : I64s w v n zs) : ∃ x c, v = .slice x n c := by
  rcases h with ⟨rfl, x, c, rfl⟩ | ⟨_, b, off, cap, rfl, _⟩
  · exact ⟨_, _, rfl⟩
  · exact ⟨_, _, rfl⟩
theorem own_slice {w : World} {base : Nat} {e : TypeId} {v : Value} {n : Nat} {xs : List Value} (h : w.ownsRow base e 1 v n xs) : ∃ x c, v = .slice x n c := by
  rcases h.2 with ⟨h1, h2⟩ | ⟨g, cap, cur, rfl, _⟩
  · exact ⟨none, 0, by rw [h1, h2]⟩
  · exact ⟨_, _, rfl⟩
def TYS (l : List Int) (w : World) (e : Ending) (w' : World) : Prop := ∃ sv, e = .returned sv ∧ Gr w w' ∧ w'.ownsRow w.heap.size 3 1 sv l.length (ivs l)
theorem types_any {sv : Value} {len : Nat} {ts : Nat → Int} {w : World} (hl : len ≤ 1099511627776) (h : I64s w sv len ts) : Calls Try.prog 15 #[sv] w (TYS (imL ts len) w) := by
  rcases h with ⟨rfl, x, c, rfl⟩ | ⟨_, b, off, cap, rfl, hc⟩
  · go_enter Try.func15, Try.ntmps15
    go_wp2_with fail
    refine wp_loop_rounds 1 ?_
    rw [rounds_succ]
    go_wp2
    go_ret
    exact ⟨_, rfl, Gr.refl _, World.ownsRow_nil _ _ _ _⟩
  · exact types_some b off cap len ts w hl hc
theorem width_any {sv : Value} {len : Nat} {ts : Nat → Int} {w : World} (hl : len ≤ 1099511627776) (h : I64s w sv len ts) :
    Calls Try.prog 12 #[sv] w fun e w' => e = .returned (.int .i64 (imL ts len).length) ∧ Gr w w' := by
  have HT := Lib.hid (types_any hl h)
  clear h
  go_enter Try.func12, Try.ntmps12
  go_wp2_with (go_at_call 15; refine HT.out.mono ?_; rintro e w1 ⟨rv, rfl, hg1, ho1⟩; have HG1 := Lib.hid hg1; have HO1 := Lib.hid ho1; obtain ⟨xo, co, rfl⟩ := own_slice ho1; clear hg1 ho1)
  go_ret
  exact ⟨rfl, HG1.out⟩
/-- the offsets -/
def ofL (ts : Nat → Int) : Nat → List Int
  | 0 => []
  | k + 1 => ofL ts k ++ [((imL ts k).length : Int)]
theorem ofL_len (ts : Nat → Int) : ∀ k, (ofL ts k).length = k
  | 0 => rfl
  | k + 1 => by simp only [ofL, List.length_append, ofL_len ts k, List.length_cons, List.length_nil]
theorem of_row {w3 : World} {base : Nat} {e : TypeId} {u : Value} {ts : Nat → Int} {k : Nat} (h : w3.ownsRow base e 1 u (k + 1) (ivs (ofL ts k) ++ [.int .i64 (imL ts k).length])) : w3.ownsRow base e 1 u (k + 1) (ivs (ofL ts (k + 1))) := by
  rw [ofL, ivs_app]; exact h
theorem im_one (t : Int) : (imL (fun _ => t) 1).length = (imE t).length := by simp [imL]
theorem im_add (ts : Nat → Int) (k : Nat) : ((imL ts k).length : Int) + ((imL (fun _ => ts k) 1).length : Int) = ((imL ts (k + 1)).length : Int) := by
  rw [im_one, imL, List.length_append]; omega
set_option maxHeartbeats 2000000 in
theorem offsets_some (tb to tc len : Nat) (ts : Nat → Int) (w : World) (hl : len ≤ 1099511627776) (ht : ∀ j, j < len → w.cell? ⟨tb, to + j, none⟩ = some (.int .i64 (ts j))) :
    Calls Try.prog 16 #[.slice (some ⟨tb, to, none⟩) len tc] w (TYS (ofL ts len) w) := by
  have HT := Lib.hid ht
  obtain ⟨i0, hi, hz0, hz1, hz2⟩ := info_parts infoZ
  have HI := Lib.hid hi
  have HZ0 := Lib.hid hz0
  have HZ1 := Lib.hid hz1
  have HZ2 := Lib.hid hz2
  clear ht hi hz0 hz1 hz2
  go_enter Try.func16, Try.ntmps16
  go_wp2_with fail
  go_loopw [3, 4, 9] (fun sv at_ i wr => ∃ k : Nat, k ≤ len ∧ i = .int .i64 k ∧ at_ = .int .i64 (imL ts k).length ∧ Gr w wr ∧ wr.ownsRow w.heap.size 3 1 sv k (ivs (ofL ts k))) (fun _ _ i _ => len - (intOf i).toNat)
  case atStart => exact ⟨0, by omega, rfl, rfl, Gr.refl _, World.ownsRow_nil _ _ _ _⟩
  case round =>
    obtain ⟨k, hk, rfl, rfl, hg, hown⟩ := hrel
    have HG := Lib.hid hg
    have HW := Lib.hid hown
    clear hg hown
    by_cases hlt : k < len
    · have h1 := gr_cell HG.out (HT.out k hlt)
      have hlen := imL_len ts k
      have hlen2 := imL_len ts (k + 1)
      have HA := Lib.hid (im_add ts k)
      have CW := fun (sv : Value) (w1 : World) (h : I64s w1 sv 1 fun _ => ts k) => width_any (sv := sv) (len := 1) (ts := fun _ => ts k) (w := w1) (by omega) h
      have HCW := Lib.hid CW
      clear CW
      generalize htk : ts k = t at *
      go_wp2_with (at_builtin; refine wpList_append_own _ rfl _ _ 22 rfl w.heap.size 3 i0 (.int .i64 0) 1 8 Try.underlying22 HI.out HZ0.out HZ1.out HZ2.out rfl (by decide) u3 k _ rfl (HW.out.alloc _) ⟨wr.heap.size, 0, none⟩ 1 1 [.int .i64 (imL ts k).length] rfl rfl ?c1 ?c2 ?c3 ?c4 ?c5 ?_)
      case c2 => rfl
      case c3 => unfold maxLen; omega
      case c4 => omega
      case c5 => have := HG.out.size; simp at *; omega
      intro v' w3 hown2 hgb _
      have H1 := Lib.hid (fin_gr HG.out ((Gr.refl _).allocO _) HW.out hgb)
      have H3 := Lib.hid (of_row hown2)
      clear hown2 hgb
      have T2 : IntKind.i64.wrap (((imL ts k).length : Int) + ((imL (fun _ => t) 1).length : Int)) = ((imL ts (k + 1)).length : Int) := by
        rw [HA.out, IntKind.wrap_i64]; omega
      clear hlen hlen2
      have HJ := Lib.hid (show I64s (w3.alloc (.cells #[.int .i64 t] 3)) (.slice (some ⟨w3.heap.size, 0, none⟩) 1 1) 1 (fun _ => t) from .inr ⟨by omega, w3.heap.size, 0, 1, rfl, fun j hj => by
        obtain rfl : j = 0 := by omega
        exact (cell_of_row _ _ 0 _ _ _ (heap_alloc_new w3 _)).trans rfl⟩)
      go_wp2_with (go_loud (go_at_call 12; refine (HCW.out _ _ HJ.out).mono ?_; rintro e w4 ⟨rfl, hg4⟩; have HG4 := Lib.hid hg4; clear hg4))
      exact ⟨⟨k + 1, by omega, by go_num, T2 ▸ rfl, gr_trans H1.out (gr_trans ((Gr.refl _).allocO _) HG4.out), owns_gr H3.out (gr_trans ((Gr.refl _).allocO _) HG4.out)⟩, by simp [intOf]; omega⟩
    · obtain rfl : k = len := by omega
      go_wp2
      go_ret
      exact ⟨_, rfl, HG.out, by rw [ofL_len]; exact HW.out⟩
theorem offsets_any {sv : Value} {len : Nat} {ts : Nat → Int} {w : World} (hl : len ≤ 1099511627776) (h : I64s w sv len ts) : Calls Try.prog 16 #[sv] w (TYS (ofL ts len) w) := by
  rcases h with ⟨rfl, x, c, rfl⟩ | ⟨_, b, off, cap, rfl, hc⟩
  · go_enter Try.func16, Try.ntmps16
    go_wp2_with fail
    refine wp_loop_rounds 1 ?_
    rw [rounds_succ]
    go_wp2
    go_ret
    exact ⟨_, rfl, Gr.refl _, World.ownsRow_nil _ _ _ _⟩
  · exact offsets_some b off cap len ts w hl hc
end Sp
end Go.Proofs.Ythpnhanabcipmaa
