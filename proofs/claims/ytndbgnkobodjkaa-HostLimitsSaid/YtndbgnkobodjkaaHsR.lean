/-
  Of layer 16: results: replies for the halves of types.
-/
import Derived.Test.YtndbgnkobodjkaaHsN
namespace Go.Proofs.Ytndbgnkobodjkaa
open Go.RowKit VecM
namespace Hs
/-- replies for a type's halves, and those that still wait -/
def nxE (t : Int) (R : List Int) : List Int × List Int := if t = 127 then ([hdI R % 4294967296], R.tail) else if t = 123 then ([hdI R, hdI R.tail], R.tail.tail) else ([hdI R], R.tail)
def nxL (ts : Nat → Int) (R : List Int) : Nat → List Int × List Int
  | 0 => ([], R)
  | k + 1 => ((nxL ts R k).1 ++ (nxE (ts k) (nxL ts R k).2).1, (nxE (ts k) (nxL ts R k).2).2)
theorem nxE_len (t : Int) (R : List Int) : (nxE t R).1.length ≤ 2 := by
  unfold nxE; split
  · simp
  · split <;> simp
theorem nxL_len (ts : Nat → Int) (R : List Int) : ∀ k, (nxL ts R k).1.length ≤ 2 * k
  | 0 => by simp [nxL]
  | k + 1 => by
    have := nxL_len ts R k
    have := nxE_len (ts k) (nxL ts R k).2
    simp only [nxL, List.length_append]; omega
theorem hd_wrap (x : Int) : IntKind.u64.wrap (IntKind.u32.wrap x) = x % 4294967296 := by
  rw [IntKind.wrap_u64, IntKind.wrap_u32]; omega
theorem Sep.then_new {ex ex' : Nat → Prop} {w wr w3 : World} (h : Sep ex w wr) (s : Sep ex' wr w3) (hex : ∀ k, ex' k → w.heap.size ≤ k) : Sep ex w w3 :=
  ⟨s.os.trans h.os, s.tape.trans h.tape, s.output.trans h.output, Nat.le_trans h.size s.size, fun k hk hx =>
    (s.block k (Nat.lt_of_lt_of_le hk h.size) fun hx' => by have := hex k hx'; omega).trans (h.block k hk hx)⟩
theorem sep_gr {ex : Nat → Prop} {w wr w3 : World} (h : Sep ex w wr) (s : Gr wr w3) : Sep ex w w3 := Sep.trans h (Sep.of_gr s)
theorem i64s_sep {ex : Nat → Prop} {w w' : World} {v : Value} {n : Nat} {z : Nat → Int} (h : I64s w v n z) (hs : Sep ex w w') (hx : InB (fun k => ¬ ex k) v) : I64s w' v n z := by
  rcases h with h | ⟨hl, b, off, cap, rfl, hcell⟩
  · exact .inl h
  · exact .inr ⟨hl, b, off, cap, rfl, fun j hj => hs.cell (hx b rfl) (hcell j hj)⟩
theorem cells2 {w : World} {g : Nat} {a b : Value} {t : TypeId} {z : Nat × Nat} (h : w.heap[g]? = some (.cells #[a, b] t z)) : w.cell? ⟨g, 0, none⟩ = some a ∧ w.cell? ⟨g, 1, none⟩ = some b :=
  ⟨(cell_of_row _ _ 0 _ _ _ h).trans rfl, (cell_of_row _ _ 1 _ _ _ h).trans rfl⟩
theorem lit_src (w : World) (cs : Array Value) (t : TypeId) (m c : Nat) : Src (w.alloc (.cells cs t)) (.slice (some ⟨w.heap.size, 0, none⟩) m c) m cs.toList :=
  .inr ⟨_, _, rfl, fun j x hx => add_cell _ _ _ _ ((cell_of_row _ _ j _ _ _ (heap_alloc_new w _)).trans (by simpa using hx))⟩
theorem uvs_row {w3 : World} {base : Nat} {e : TypeId} {u : Value} {a b : List Int} {m : Nat} {news : List Value} (hn : uvs b = news) (h : w3.ownsRow base e 1 u (a.length + m) (uvs a ++ news)) : w3.ownsRow base e 1 u (a ++ b).length (uvs (a ++ b)) := by
  rw [← hn, ← uvs_app] at h
  rw [← owns_len h]
  exact h
set_option maxHeartbeats 4000000 in
theorem results_any {w : World} {h : Nat} {M F : Nat → Prop} {s : Ho} {tv : Value} {n : Nat} {ts : Nat → Int} (hn : n ≤ 1099511627776) (hh : Hst w h M F s) (ht : I64s w tv n ts) (hb : InB (fun k => ¬ k = h) tv) :
    Calls Try.prog 29 #[.pointer (some ⟨h, 0, none⟩), tv] w fun e w' => ∃ sv, e = .returned sv ∧ Hst w' h M F ⟨(nxL ts s.R n).2, s.E, s.C⟩ ∧ Sep (fun k => k = h) w w' ∧
      w'.ownsRow w.heap.size 53 1 sv (nxL ts s.R n).1.length (uvs (nxL ts s.R n).1) := by
  obtain ⟨R, E, C⟩ := s
  have HM := Lib.hid (show ∀ k, M k ∨ F k → k < w.heap.size by
    obtain ⟨rv, lv, L, h1, h2, h3, h4, h5, h6, h7, h8, h9⟩ := hh
    intro k hk
    rcases hk with hk | hk
    · exact (h8 k hk).1
    · exact h9 k hk)
  have HH := Lib.hid (show M h by
    obtain ⟨rv, lv, L, h1, h2, h3, h4, h5, h6, h7, h8, h9⟩ := hh
    exact h6)
  have HS := Lib.hid hh
  have HTT := Lib.hid ht
  have HBB := Lib.hid hb
  obtain ⟨i0, hi, hz0, hz1, hz2⟩ := info_parts info64
  have HI := Lib.hid hi
  have HZ0 := Lib.hid hz0
  have HZ1 := Lib.hid hz1
  have HZ2 := Lib.hid hz2
  clear hi hz0 hz1 hz2
  clear hh
  rcases ht with ⟨rfl, x, c, rfl⟩ | ⟨_, b, off, cap, rfl, hcell⟩
  · go_enter Try.func29, Try.ntmps29
    go_wp2_with fail
    refine wp_loop_rounds 1 ?_
    rw [rounds_succ]
    go_wp2
    go_ret
    exact ⟨_, rfl, HS.out, Sep.refl _, World.ownsRow_nil _ _ _ _⟩
  have HT := Lib.hid (fun (wx : World) (j : Nat) (hs : Sep (fun k => k = h) w wx) (hj : j < n) => hs.cell (hb b rfl) (hcell j hj))
  clear hcell hb HBB HTT
  go_enter Try.func29, Try.ntmps29
  go_wp2_with fail
  go_loopw [5, 10] (fun sv i wr => ∃ k : Nat, k ≤ n ∧ i = .int .i64 k ∧ Hst wr h M F ⟨(nxL ts R k).2, E, C⟩ ∧ Sep (fun k => k = h) w wr ∧ wr.ownsRow w.heap.size 53 1 sv (nxL ts R k).1.length (uvs (nxL ts R k).1)) (fun _ i _ => n - (intOf i).toNat)
  case atStart => exact ⟨0, by omega, rfl, HS.out, Sep.refl _, World.ownsRow_nil _ _ _ _⟩
  case round =>
    obtain ⟨k, hk, rfl, hst, hsep, hown⟩ := hrel
    have HR := Lib.hid hst
    have HP := Lib.hid hsep
    have HW := Lib.hid hown
    clear hst hsep hown
    by_cases hlt : k < n
    · have h1 := HT.out _ k HP.out hlt
      have hlen := nxL_len ts R k
      have HD := Lib.hid (show nxL ts R (k + 1) = ((nxL ts R k).1 ++ (nxE (ts k) (nxL ts R k).2).1, (nxE (ts k) (nxL ts R k).2).2) from rfl)
      generalize hA : nxL ts R (k + 1) = A at *
      have HA := Lib.hid hA
      clear hA
      have HLen := Lib.hid hlen
      clear hlen
      generalize (nxL ts R k).1 = l at *
      generalize (nxL ts R k).2 = r at *
      by_cases c1 : ts k = 127
      · have HE := Lib.hid (show nxE (ts k) r = ([hdI r % 4294967296], r.tail) by unfold nxE; rw [if_pos c1])
        rw [c1] at h1
        clear c1
        have cw := hd_wrap (hdI r)
        go_wp2_with (first | (at_builtin; refine wpList_append_src rfl _ _ 22 rfl w.heap.size 53 i0 (.int .u64 0) 1 8 Try.underlying22 HI.out HZ0.out HZ1.out HZ2.out rfl (by decide) u5 l.length _ rfl (HW1.out.alloc _) (.slice (some ⟨w1.heap.size, 0, none⟩) 1 1) 1 (uvs ([hdI r % 4294967296])) rfl (lit_src w1 #[.int .u64 (hdI r % 4294967296)] _ 1 1) rfl (uvs_one _) ?c3 ?c4 ?c5 ?_) | (go_at_call 38; refine (next_any HR.out).mono ?_; rintro e w1 ⟨rfl, hx1, hx2⟩; have HR1 := Lib.hid hx1; have HP1 := Lib.hid (Sep.trans HP.out hx2); have HW1 := Lib.hid (hx2.owns HW.out (fun q hq e => by have := (HW.out.lt q hq).1; have := HM.out h (.inl HH.out); omega)); clear hx1 hx2))
        case c3 => have := HLen.out; unfold maxLen; omega
        case c4 => have := HLen.out; omega
        case c5 => have := HP1.out.size; simp at *; omega
        intro v3 w3 hown3 hgb3
        have HS3 := Lib.hid (show Sep (fun q => u5.ownBlock = some q) w1 w3 from (Sep.of_gr ((Gr.refl w1).allocO _)).trans (Sep.grown hgb3 (fun q hq => hq)))
        have HP3 := Lib.hid (Sep.then_new HP1.out HS3.out (fun q hq => (HW1.out.lt q hq).1))
        have HR3 := Lib.hid (hst_sep HR1.out HS3.out (fun q hq hx => by have := HM.out q hq; have := (HW1.out.lt q hx).1; omega))
        have HO3 := Lib.hid (uvs_row (b := [hdI r % 4294967296]) rfl hown3)
        clear hown3 hgb3
        go_wp2
        have eA := HD.out
        rw [HE.out] at eA
        exact ⟨⟨k + 1, by omega, by go_num, by rw [HA.out, eA]; exact HR3.out, HP3.out, by rw [HA.out, eA]; exact HO3.out⟩, by simp [intOf]; omega⟩
      by_cases c2 : ts k = 123
      · have HE := Lib.hid (show nxE (ts k) r = ([hdI r, hdI r.tail], r.tail.tail) by unfold nxE; rw [if_neg c1, if_pos c2])
        rw [c2] at h1
        clear c1 c2
        go_wp2_with (first | (at_builtin; refine wpList_append_src rfl _ _ 22 rfl w.heap.size 53 i0 (.int .u64 0) 1 8 Try.underlying22 HI.out HZ0.out HZ1.out HZ2.out rfl (by decide) u5 l.length _ rfl (HW2.out.alloc _) (.slice (some ⟨w2.heap.size, 0, none⟩) 2 2) 2 (uvs ([hdI r, hdI r.tail])) rfl (lit_src w2 #[.int .u64 (hdI r), .int .u64 (hdI r.tail)] _ 2 2) rfl (uvs_one _) ?c3 ?c4 ?c5 ?_) | (go_at_call 38; refine (next_any HR1.out).mono ?_; rintro e w2 ⟨rfl, hx1, hx2⟩; have HR2 := Lib.hid hx1; have HP2 := Lib.hid (Sep.trans HP1.out hx2); have HW2 := Lib.hid (hx2.owns HW1.out (fun q hq e => by have := (HW1.out.lt q hq).1; have := HM.out h (.inl HH.out); omega)); clear hx1 hx2) | (go_at_call 38; refine (next_any HR.out).mono ?_; rintro e w1 ⟨rfl, hx1, hx2⟩; have HR1 := Lib.hid hx1; have HP1 := Lib.hid (Sep.trans HP.out hx2); have HW1 := Lib.hid (hx2.owns HW.out (fun q hq e => by have := (HW.out.lt q hq).1; have := HM.out h (.inl HH.out); omega)); clear hx1 hx2))
        case c3 => have := HLen.out; unfold maxLen; omega
        case c4 => have := HLen.out; omega
        case c5 => have := HP2.out.size; simp at *; omega
        intro v3 w3 hown3 hgb3
        have HS3 := Lib.hid (show Sep (fun q => u5.ownBlock = some q) w2 w3 from (Sep.of_gr ((Gr.refl w2).allocO _)).trans (Sep.grown hgb3 (fun q hq => hq)))
        have HP3 := Lib.hid (Sep.then_new HP2.out HS3.out (fun q hq => (HW2.out.lt q hq).1))
        have HR3 := Lib.hid (hst_sep HR2.out HS3.out (fun q hq hx => by have := HM.out q hq; have := (HW2.out.lt q hx).1; omega))
        have HO3 := Lib.hid (uvs_row (b := [hdI r, hdI r.tail]) rfl hown3)
        clear hown3 hgb3
        go_wp2
        have eA := HD.out
        rw [HE.out] at eA
        exact ⟨⟨k + 1, by omega, by go_num, by rw [HA.out, eA]; exact HR3.out, HP3.out, by rw [HA.out, eA]; exact HO3.out⟩, by simp [intOf]; omega⟩
      have HE := Lib.hid (show nxE (ts k) r = ([hdI r], r.tail) by unfold nxE; rw [if_neg c1, if_neg c2])
      have n1 : (ts k == 127) = false := by simpa using c1
      have n2 : (ts k == 123) = false := by simpa using c2
      clear c1 c2
      go_wp2_with (first | (at_builtin; refine wpList_append_src rfl _ _ 22 rfl w.heap.size 53 i0 (.int .u64 0) 1 8 Try.underlying22 HI.out HZ0.out HZ1.out HZ2.out rfl (by decide) u5 l.length _ rfl (HW1.out.alloc _) (.slice (some ⟨w1.heap.size, 0, none⟩) 1 1) 1 (uvs ([hdI r])) rfl (lit_src w1 #[.int .u64 (hdI r)] _ 1 1) rfl (uvs_one _) ?c3 ?c4 ?c5 ?_) | (go_at_call 38; refine (next_any HR.out).mono ?_; rintro e w1 ⟨rfl, hx1, hx2⟩; have HR1 := Lib.hid hx1; have HP1 := Lib.hid (Sep.trans HP.out hx2); have HW1 := Lib.hid (hx2.owns HW.out (fun q hq e => by have := (HW.out.lt q hq).1; have := HM.out h (.inl HH.out); omega)); clear hx1 hx2))
      case c3 => have := HLen.out; unfold maxLen; omega
      case c4 => have := HLen.out; omega
      case c5 => have := HP1.out.size; simp at *; omega
      intro v3 w3 hown3 hgb3
      have HS3 := Lib.hid (show Sep (fun q => u5.ownBlock = some q) w1 w3 from (Sep.of_gr ((Gr.refl w1).allocO _)).trans (Sep.grown hgb3 (fun q hq => hq)))
      have HP3 := Lib.hid (Sep.then_new HP1.out HS3.out (fun q hq => (HW1.out.lt q hq).1))
      have HR3 := Lib.hid (hst_sep HR1.out HS3.out (fun q hq hx => by have := HM.out q hq; have := (HW1.out.lt q hx).1; omega))
      have HO3 := Lib.hid (uvs_row (b := [hdI r]) rfl hown3)
      clear hown3 hgb3
      go_wp2
      have eA := HD.out
      rw [HE.out] at eA
      exact ⟨⟨k + 1, by omega, by go_num, by rw [HA.out, eA]; exact HR3.out, HP3.out, by rw [HA.out, eA]; exact HO3.out⟩, by simp [intOf]; omega⟩
    · obtain rfl : k = n := by omega
      go_wp2
      go_ret
      exact ⟨_, rfl, HR.out, HP.out, HW.out⟩
end Hs
end Go.Proofs.Ytndbgnkobodjkaa
