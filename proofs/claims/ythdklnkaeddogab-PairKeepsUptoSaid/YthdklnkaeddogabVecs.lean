/-
  vecs: two lists of the same vectors.
-/
import Derived.Test.YthdklnkaeddogabPutAny
namespace Go.Proofs.Ythdklnkaeddogab
open Go.RowKit VecM
theorem vecs_some (b off cap b' off' cap' len : Nat) (vs : Nat → Nat → Int) (w : World) (hl : len ≤ 9223372036854775807) (hc : ∀ j, j < len → ∀ m, m < 16 → w.cell? ⟨b, off + j * 16 + m, none⟩ = some (.int .u8 (vs j m))) (hc' : ∀ j, j < len → ∀ m, m < 16 → w.cell? ⟨b', off' + j * 16 + m, none⟩ = some (.int .u8 (vs j m))) :
    Calls Try.prog 32 #[.slice (some ⟨b, off, none⟩) len cap, .slice (some ⟨b', off', none⟩) len cap'] w fun e w' => e = .returned (.bool true) ∧ Gr w w' := by
  have HC := Lib.hid hc
  have HC' := Lib.hid hc'
  clear hc hc'
  go_enter Try.func32, Try.ntmps32
  go_wp2_with fail
  go_loopw [5] (fun i wr => ∃ k : Nat, k ≤ len ∧ i = .int .i64 k ∧ Gr w wr) (fun i _ => len - (intOf i).toNat)
  case atStart => exact ⟨0, by omega, rfl, Gr.refl _⟩
  case round =>
    obtain ⟨k, hk, rfl, hg⟩ := hrel
    have HG := Lib.hid hg
    clear hg
    by_cases hlt : k < len
    · have hl1 : ∀ j v, (bs (vs k)).toList[j]? = some v → wr.drew.cell? ⟨b, off + k * 16 + j, none⟩ = some v := fun j v hv => by
        obtain ⟨hj, rfl⟩ := bs_list _ _ _ hv
        exact gr_cell (Gr.drew HG.out) (HC.out k hlt j hj)
      have hl2 : ∀ j v, (bs (vs k)).toList[j]? = some v → wr.drew.cell? ⟨b', off' + k * 16 + j, none⟩ = some v := fun j v hv => by
        obtain ⟨hj, rfl⟩ := bs_list _ _ _ hv
        exact gr_cell (Gr.drew HG.out) (HC'.out k hlt j hj)
      have HL1 := Lib.hid hl1
      have HL2 := Lib.hid hl2
      clear hl1 hl2
      go_upto_region 6 with (fail)
      refine wp_region_steady (by kernel_rfl) (by kernel_rfl) ?_
      iterate 3 (refine steady_step (fun K hK => ?_); apply steady_op rfl; (focus (intro wx hw; go_simp; exact ⟨rfl, hw⟩)); go_simp; refine hK _ ?_; clear hK K)
      refine steady_step (fun K hK => ?_)
      refine steady_load_cells rfl 25 _ rfl b (off + k * 16) rfl (bs (vs k)) _ HL1.out Try.underlying25 rfl infoV ?_
      go_simp; refine hK _ ?_; clear hK K
      iterate 3 (refine steady_step (fun K hK => ?_); apply steady_op rfl; (focus (intro wx hw; go_simp; exact ⟨rfl, hw⟩)); go_simp; refine hK _ ?_; clear hK K)
      refine steady_step (fun K hK => ?_)
      refine steady_load_cells rfl 25 _ rfl b' (off' + k * 16) rfl (bs (vs k)) _ HL2.out Try.underlying25 rfl infoV ?_
      go_simp; refine hK _ ?_; clear hK K
      refine steady_step (fun K hK => ?_)
      apply steady_op rfl
      · intro wx hw; have hv := eq_vec (vs k) (vs k) wx; have hr := vecB_refl (vs k); go_simp; exact ⟨rfl, hw⟩
      go_simp; refine hK _ ?_; clear hK K
      refine steady_nil ?_
      intro w1 hg1
      have HN := Lib.hid (gr_trans (Gr.drew HG.out) hg1)
      clear hg1
      go_wp2
      exact ⟨⟨k + 1, by omega, by go_num, HN.out⟩, by simp [intOf]; omega⟩
    · go_wp2
      go_ret
      exact ⟨rfl, HG.out⟩
theorem vecs_nil (a a' : Option Addr) (c c' : Nat) (w : World) : Calls Try.prog 32 #[.slice a 0 c, .slice a' 0 c'] w fun e w' => e = .returned (.bool true) ∧ Gr w w' := by
  go_enter Try.func32, Try.ntmps32
  go_wp2_with fail
  refine wp_loop_rounds 1 ?_
  rw [rounds_succ]
  go_wp2
  go_ret
  exact ⟨rfl, Gr.refl _⟩
theorem vecs_any {w : World} {a b : Value} {len : Nat} {vs : Nat → Nat → Int} (ha : Vecs w a len vs) (hb : Vecs w b len vs) :
    Calls Try.prog 32 #[a, b] w fun e w' => e = .returned (.bool true) ∧ Gr w w' := by
  by_cases h0 : len = 0
  · subst h0
    obtain ⟨x, c, rfl⟩ := vecs_zero ha
    obtain ⟨x', c', rfl⟩ := vecs_zero hb
    exact vecs_nil x x' c c' w
  · rcases ha with ⟨h, _⟩ | ⟨hl, b1, o1, c1, rfl, hc1⟩
    · exact absurd h h0
    · rcases hb with ⟨h, _⟩ | ⟨_, b2, o2, c2, rfl, hc2⟩
      · exact absurd h h0
      · exact vecs_some b1 o1 c1 b2 o2 c2 len vs w hl hc1 hc2
end Go.Proofs.Ythdklnkaeddogab
