/-
  Of layer 21: the reference's Offsets; SameTypes of lists.
-/
import Derived.Test.YthpnhanabcipmaaSpRf
namespace Go.Proofs.Ythpnhanabcipmaa
open Go.RowKit VecM
namespace Sp
/-- a slice of ints that reads as zs, with room for them -/
def I64c (w : World) (sv : Value) (len : Nat) (zs : Nat → Int) : Prop :=
  (len = 0 ∧ ∃ x c, sv = .slice x 0 c) ∨ (len ≤ 9223372036854775807 ∧ ∃ b off cap, len ≤ cap ∧ sv = .slice (some ⟨b, off, none⟩) len cap ∧ ∀ j, j < len → w.cell? ⟨b, off + j, none⟩ = some (.int .i64 (zs j)))
theorem i64s_of_c {w : World} {sv : Value} {len : Nat} {zs : Nat → Int} (h : I64c w sv len zs) : I64s w sv len zs := by
  rcases h with h | ⟨h1, b, off, cap, _, h2, h3⟩
  · exact .inl h
  · exact .inr ⟨h1, b, off, cap, h2, h3⟩
theorem i64c_gr {w w' : World} {sv : Value} {len : Nat} {zs : Nat → Int} (h : I64c w sv len zs) (hg : Gr w w') : I64c w' sv len zs := by
  rcases h with h | ⟨hl, b, off, cap, hc, rfl, h3⟩
  · exact .inl h
  · exact .inr ⟨hl, b, off, cap, hc, rfl, fun j hj => gr_cell hg (h3 j hj)⟩
set_option maxHeartbeats 2000000 in
theorem roffsets_some (tb to tc len : Nat) (ts : Nat → Int) (w : World) (hl : len ≤ 1099511627776) (hcap : len ≤ tc) (ht : ∀ j, j < len → w.cell? ⟨tb, to + j, none⟩ = some (.int .i64 (ts j))) :
    Calls Try.prog 17 #[.slice (some ⟨tb, to, none⟩) len tc] w (TYS (ofL ts len) w) := by
  have HT := Lib.hid ht
  obtain ⟨i0, hi, hz0, hz1, hz2⟩ := info_parts infoZ
  have HI := Lib.hid hi
  have HZ0 := Lib.hid hz0
  have HZ1 := Lib.hid hz1
  have HZ2 := Lib.hid hz2
  clear ht hi hz0 hz1 hz2
  go_enter Try.func17, Try.ntmps17
  go_wp2_with fail
  go_loopw [3, 4] (fun sv i wr => ∃ k : Nat, k ≤ len ∧ i = .int .i64 k ∧ Gr w wr ∧ wr.ownsRow w.heap.size 3 1 sv k (ivs (ofL ts k))) (fun _ i _ => len - (intOf i).toNat)
  case atStart => exact ⟨0, by omega, rfl, Gr.refl _, World.ownsRow_nil _ _ _ _⟩
  case round =>
    obtain ⟨k, hk, rfl, hg, hown⟩ := hrel
    have HG := Lib.hid hg
    have HW := Lib.hid hown
    clear hg hown
    by_cases hlt : k < len
    · have k0 : (0 : Int) ≤ (k : Int) := by omega
      have k1 : (k : Int) ≤ (tc : Int) := by omega
      have HC := Lib.hid (rtypes_any (w := wr) (sv := .slice (some ⟨tb, to, none⟩) k tc) (len := k) (ts := ts) (by omega) (.inr ⟨by omega, tb, to, tc, rfl, fun j hj => gr_cell HG.out (HT.out j (by omega))⟩))
      have hlen := imL_len ts k
      go_wp2_with (first | (go_loud (go_at_call 13; refine HC.out.mono ?_; rintro e w1 ⟨rv, rfl, hg1, ho1⟩; have HG1 := Lib.hid hg1; obtain ⟨xo, co, rfl⟩ := own_slice ho1; have HW1 := Lib.hid (owns_gr HW.out hg1); clear hg1 ho1)) | (at_builtin; refine wpList_append_own _ rfl _ _ 22 rfl w.heap.size 3 i0 (.int .i64 0) 1 8 Try.underlying22 HI.out HZ0.out HZ1.out HZ2.out rfl (by decide) u3 k _ rfl (HW1.out.alloc _) ⟨w1.heap.size, 0, none⟩ 1 1 [.int .i64 (imL ts k).length] rfl rfl ?c1 ?c2 ?c3 ?c4 ?c5 ?_))
      case c1 =>
        intro j u hju
        match j, hju with
        | 0, hju => simp at hju; subst hju; exact (cell_of_row _ _ 0 _ _ _ (heap_alloc_new w1 _)).trans rfl
      case c2 => intro u hu; simp at hu; subst hu; rfl
      case c3 => unfold maxLen; omega
      case c4 => omega
      case c5 => have := HG.out.size; have := HG1.out.size; simp at *; omega
      intro v' w3 hown2 hgb _
      have H1 := Lib.hid (fin_gr (gr_trans HG.out HG1.out) ((Gr.refl _).allocO _) HW1.out hgb)
      have H3 := Lib.hid (of_row hown2)
      clear hown2 hgb
      go_wp2
      exact ⟨⟨k + 1, by omega, by go_num, H1.out, H3.out⟩, by simp [intOf]; omega⟩
    · obtain rfl : k = len := by omega
      go_wp2
      go_ret
      exact ⟨_, rfl, HG.out, by rw [ofL_len]; exact HW.out⟩
theorem roffsets_any {sv : Value} {len : Nat} {ts : Nat → Int} {w : World} (hl : len ≤ 1099511627776) (h : I64c w sv len ts) : Calls Try.prog 17 #[sv] w (TYS (ofL ts len) w) := by
  rcases h with ⟨rfl, x, c, rfl⟩ | ⟨_, b, off, cap, hcap, rfl, hc⟩
  · go_enter Try.func17, Try.ntmps17
    go_wp2_with fail
    refine wp_loop_rounds 1 ?_
    rw [rounds_succ]
    go_wp2
    go_ret
    exact ⟨_, rfl, Gr.refl _, World.ownsRow_nil _ _ _ _⟩
  · exact roffsets_some b off cap len ts w hl hcap hc
/-- same numbers, as the reference compares them -/
theorem same_types (x y : Value) (n : Nat) (zs ys : Nat → Int) (w : World) (hn : n ≤ 1099511627776) (hx : I64s w x n zs) (hy : I64s w y n ys) (he : ∀ j, j < n → zs j = ys j) :
    Calls Try.prog 14 #[x, y] w fun e w' => e = .returned (.bool true) ∧ Gr w w' := by
  rcases hx with ⟨rfl, x, c, rfl⟩ | ⟨_, b, off, cap, rfl, hb⟩
  · obtain ⟨x', c', rfl⟩ := ls_slice hy
    go_enter Try.func14, Try.ntmps14
    go_wp2_with fail
    refine wp_loop_rounds 1 ?_
    rw [rounds_succ]
    go_wp2
    go_ret
    exact ⟨rfl, Gr.refl _⟩
  · rcases hy with ⟨rfl, x, c, rfl⟩ | ⟨_, b', off', cap', rfl, hb'⟩
    · go_enter Try.func14, Try.ntmps14
      go_wp2_with fail
      refine wp_loop_rounds 1 ?_
      rw [rounds_succ]
      go_wp2
      go_ret
      exact ⟨rfl, Gr.refl _⟩
    have HC := Lib.hid hb
    have HC' := Lib.hid hb'
    have HE := Lib.hid he
    clear hb hb' he
    go_enter Try.func14, Try.ntmps14
    go_wp2_with fail
    go_loopw [5] (fun i wr => ∃ k : Nat, k ≤ n ∧ i = .int .i64 k ∧ Gr w wr) (fun i _ => n - (intOf i).toNat)
    case atStart => exact ⟨0, by omega, rfl, Gr.refl _⟩
    case round =>
      obtain ⟨k, hk, rfl, hg⟩ := hrel
      have HG := Lib.hid hg
      clear hg
      by_cases hlt : k < n
      · have h1 := gr_cell HG.out (HC.out k hlt)
        have h2 := gr_cell HG.out (HC'.out k hlt)
        rw [← HE.out k hlt] at h2
        go_wp2_with fail
        go_quiet (fail)
        go_wp2
        exact ⟨⟨k + 1, by omega, by go_num, HG.out.drewN _⟩, by simp [intOf]; omega⟩
      · go_wp2
        go_ret
        exact ⟨rfl, HG.out⟩
end Sp
end Go.Proofs.Ythpnhanabcipmaa
