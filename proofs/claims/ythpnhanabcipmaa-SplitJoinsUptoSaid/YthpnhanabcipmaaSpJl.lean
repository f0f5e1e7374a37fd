/-
  Of layer 21: SplitJoins: for all types the law returns true.
-/
import Derived.Test.YthpnhanabcipmaaSpJn
namespace Go.Proofs.Ythpnhanabcipmaa
open Go.RowKit VecM Ev
namespace Sp
set_option maxHeartbeats 8000000 in
theorem joins_law (x0 x1 : Option Addr) (n0 n1 c0 c1 : Nat) (z0 z1 : Nat → Int) (w : World) (hl0 : n0 ≤ 1048576) (hl1 : n1 ≤ 1048576) (h0 : I64d w (.slice x0 n0 c0) n0 z0) (h1 : I64d w (.slice x1 n1 c1) n1 z1) :
    Calls Try.prog 6 #[.slice x0 n0 c0, .slice x1 n1 c1] w fun e w' => e = .returned (.bool true) ∧ Gr w w' := by
  have l0 := imL_len z0 n0
  have l1 := imL_len z1 n1
  have hs0 := i64s_of_c (i64c_of_d h0)
  have hs1 := i64s_of_c (i64c_of_d h1)
  have B0 := Lib.hid (fun w1 (h : Gr w w1) => src_gr (src_of_d h0) h)
  have B1 := Lib.hid (fun w1 (h : Gr w w1) => src_gr (src_of_d h1) h)
  have A3 := Lib.hid (fun w1 (h : Gr w w1) => width_any (w := w1) (by omega) (i64s_gr hs0 h))
  have A4 := Lib.hid (fun w1 (h : Gr w w1) => types_any (w := w1) (by omega) (i64s_gr hs0 h))
  have A5 := Lib.hid (fun w1 (h : Gr w w1) => types_any (w := w1) (by omega) (i64s_gr hs1 h))
  have A6 := Lib.hid (fun w1 (h : Gr w w1) => offsets_any (w := w1) (by omega) (i64s_gr hs1 h))
  have A7 := Lib.hid (fun (w1 : World) (v : Value) (h : I64s w1 v (n0 + n1) (jn z0 z1 n0)) => types_any (w := w1) (by omega) h)
  have A8 := Lib.hid (fun (w1 : World) (v : Value) (h : I64s w1 v (n0 + n1) (jn z0 z1 n0)) => offsets_any (w := w1) (by omega) h)
  have E1 := Lib.hid (imL_jn z0 z1 n0 n1)
  have E2 := Lib.hid (fun i (hi : i < n1) => show ((ofL (jn z0 z1 n0) (n0 + n1)).getD (n0 + i) 0 : Int) = ((imL z0 n0).length : Int) + ((ofL z1 n1).getD i 0 : Int) by
    rw [ofL_at (by omega), ofL_at hi, imL_jn, List.length_append]; omega)
  have E3 := Lib.hid (fun i (hi : i < n1) => show 0 ≤ ((ofL z1 n1).getD i 0 : Int) ∧ ((ofL z1 n1).getD i 0 : Int) ≤ 4194304 by
    rw [ofL_at hi]; have := imL_len z1 i; omega)
  have E4 := Lib.hid (fun j (h : j < (imL z0 n0 ++ imL z1 n1).length) => show (imL z0 n0 ++ imL z1 n1).getD j 0 = 127 ∨ (imL z0 n0 ++ imL z1 n1).getD j 0 = 126 by
    rw [← imL_jn] at h ⊢; exact imL_at h)
  have E5 := Lib.hid (ofL_len (jn z0 z1 n0) (n0 + n1))
  have E6 := Lib.hid (ofL_len z1 n1)
  have E7 := Lib.hid (zl_jn z0 z1 n0 n1)
  have Z0 := Lib.hid (zl_len z0 n0)
  have Z1 := Lib.hid (zl_len z1 n1)
  obtain ⟨i0, hi, hz0, hz1, hz2⟩ := info_parts infoZ
  have HI := Lib.hid hi
  have HZ0 := Lib.hid hz0
  have HZ1 := Lib.hid hz1
  have HZ2 := Lib.hid hz2
  clear h0 h1 hs0 hs1 hi hz0 hz1 hz2
  generalize zl z0 n0 = K0 at *
  generalize zl z1 n1 = K1 at *
  generalize imL z0 n0 = L0 at *
  generalize imL z1 n1 = L1 at *
  generalize ofL z1 n1 = P1 at *
  go_enter Try.func6, Try.ntmps6
  go_wp2_with fail
  refine (awake_any _).mono ?_
  rintro e w1 ⟨rfl, hg1⟩
  have HG1 := Lib.hid hg1
  clear hg1
  go_wp2_with (at_builtin; refine wpList_append_src rfl _ _ 22 rfl w.heap.size 3 i0 (.int .i64 0) 1 8 Try.underlying22 HI.out HZ0.out HZ1.out HZ2.out rfl (by decide) (.slice none 0 0) 0 [] rfl (World.ownsRow_nil _ _ _ _) (.slice x0 n0 c0) n0 (ivs K0) rfl (B0.out _ HG1.out) (by rw [ivs_len, Z0.out, Nat.mul_one]) (jn_oneC K0) ?c3 ?c4 ?c5 ?_)
  case c3 => unfold maxLen; omega
  case c4 => omega
  case c5 => exact HG1.out.size
  intro vA w2 hown2 hgb2
  have HG2 := Lib.hid (fin_gr (e := 3) HG1.out (Gr.refl _) (World.ownsRow_nil _ _ _ _) hgb2)
  have HW2 := Lib.hid (show w2.ownsRow w.heap.size 3 1 vA n0 (ivs K0) by simpa using hown2)
  clear hown2 hgb2
  go_wp2_with (at_builtin; refine wpList_append_src rfl _ _ 22 rfl w.heap.size 3 i0 (.int .i64 0) 1 8 Try.underlying22 HI.out HZ0.out HZ1.out HZ2.out rfl (by decide) vA n0 (ivs K0) rfl HW2.out (.slice x1 n1 c1) n1 (ivs K1) rfl (B1.out _ HG2.out) (by rw [ivs_len, Z1.out, Nat.mul_one]) (jn_oneC K1) ?c3 ?c4 ?c5 ?_)
  case c3 => unfold maxLen; omega
  case c4 => omega
  case c5 => exact HG2.out.size
  intro vB w3 hown3 hgb3
  have HG3 := Lib.hid (fin_gr HG2.out (Gr.refl _) HW2.out hgb3)
  rw [← ivs_app] at hown3
  have hlen3 : (K0 ++ K1).length = n0 + n1 := by rw [List.length_append, Z0.out, Z1.out]
  have HW3 := Lib.hid (show I64s w3 vB (n0 + n1) (jn z0 z1 n0) from i64s_congr (by have := ls_of_owns (l := K0 ++ K1) (by rw [hlen3]; exact hown3); unfold Ls at this; rw [hlen3] at this; exact this) E7.out)
  obtain ⟨xB, cB, rfl⟩ := ls_slice HW3.out
  clear hown3 hgb3 hlen3 HW2
  go_wp2_with fail
  refine (A4.out _ HG3.out).mono ?_
  rintro e w4 ⟨v4, rfl, hg4, ho4⟩
  obtain ⟨x4, c4, rfl⟩ := own_slice ho4
  have HX4 := Lib.hid (ls_of_owns ho4)
  have HG4 := Lib.hid (gr_trans HG3.out hg4)
  have HS4 := Lib.hid hg4
  clear hg4 ho4
  go_wp2_with fail
  refine (A5.out _ HG4.out).mono ?_
  rintro e w5 ⟨v5, rfl, hg5, ho5⟩
  obtain ⟨x5, c5, rfl⟩ := own_slice ho5
  have HX5 := Lib.hid (ls_of_owns ho5)
  have HX4' := Lib.hid (ls_gr HX4.out hg5)
  have HG5 := Lib.hid (gr_trans HG4.out hg5)
  have HS5 := Lib.hid (gr_trans HS4.out hg5)
  clear hg5 ho5 HX4 HS4
  go_wp2_with fail
  refine (A7.out _ _ (i64s_gr HW3.out HS5.out)).mono ?_
  rintro e w6 ⟨v6, rfl, hg6, ho6⟩
  rw [E1.out] at ho6
  have HX6 := Lib.hid (own_room ho6 rfl)
  have HX6' := Lib.hid (ls_of_owns ho6)
  obtain ⟨x6, c6, rfl⟩ := own_slice ho6
  have HX4 := Lib.hid (ls_gr HX4'.out hg6)
  have HX5' := Lib.hid (ls_gr HX5.out hg6)
  have HG6 := Lib.hid (gr_trans HG5.out hg6)
  have HS6 := Lib.hid (gr_trans HS5.out hg6)
  clear hg6 ho6 HX4' HX5 HS5
  have hroom : (L0 ++ L1).length ≤ c6 := by
    rcases HX6.out with ⟨h, h2⟩ | ⟨g, cap, h, h2, _⟩
    · rw [h2]; omega
    · injection h with _ _ h3; omega
  have hla : (L0 ++ L1).length = L0.length + L1.length := List.length_append
  rw [hla] at hroom
  have HA := Lib.hid hla
  clear hla
  have T1 : IntKind.i64.wrap ((L0.length : Int) + (L1.length : Int)) = (L0.length : Int) + (L1.length : Int) := by rw [IntKind.wrap_i64]; omega
  have T2 : (0 : Int) ≤ (L0.length : Int) := by omega
  have T3 : (L0.length : Int) ≤ (c6 : Int) := by omega
  go_wp2_with fail
  refine (same_types _ _ L0.length _ _ w6 (by omega) (room_head HX6.out) HX4.out (ls_refl' L0)).mono ?_
  rintro e w7 ⟨rfl, hg7⟩
  have HG7 := Lib.hid (gr_trans HG6.out hg7)
  have HS7 := Lib.hid (gr_trans HS6.out hg7)
  have HX7 := Lib.hid (ls_gr HX6'.out hg7)
  have HY7 := Lib.hid (ls_gr HX5'.out hg7)
  have HK7 := Lib.hid hg7
  clear hg7 HS6 HX5'
  go_wp2_with fail
  all_goals
    refine (same_types _ _ L1.length _ _ w7 (by omega) (by first | exact room_none (by omega) | exact i64s_gr (room_tail HX6.out _) HK7.out) HY7.out (ls_refl' L1)).mono ?_
    rintro e w8 ⟨rfl, hg8⟩
    have HG8 := Lib.hid (gr_trans HG7.out hg8)
    have HS8 := Lib.hid (gr_trans HS7.out hg8)
    have HX8 := Lib.hid (ls_gr HX7.out hg8)
    clear hg8
    go_wp2_with fail
    go_loopw [9] (fun i wr => ∃ k : Nat, k ≤ L0.length + L1.length ∧ i = .int .i64 k ∧ Gr w8 wr) (fun i _ => L0.length + L1.length - (intOf i).toNat)
    case atStart => exact ⟨0, by omega, rfl, Gr.refl _⟩
    case round =>
      obtain ⟨k, hk, rfl, hg⟩ := hrel
      have HG := Lib.hid hg
      clear hg
      by_cases hlt : k < L0.length + L1.length
      · have hlt2 : k < (L0 ++ L1).length := by rw [HA.out]; exact hlt
        rcases HX8.out with ⟨h, _⟩ | ⟨_, b, off, cap, hb, hc⟩
        · exact absurd h (by omega)
        injection hb with hb1 _ hb2
        subst hb1 hb2
        have h1 : wr.cell? ⟨b, off + k, none⟩ = some (.int .i64 ((L0 ++ L1).getD k 0)) := gr_cell HG.out (hc k hlt2)
        have h2 := E4.out k hlt2
        clear hc hlt2
        rcases h2 with h | h
        · rw [h] at h1
          clear h
          go_wp2
          exact ⟨⟨k + 1, by omega, by go_num, HG.out⟩, by simp [intOf]; omega⟩
        · rw [h] at h1
          clear h
          go_wp2
          exact ⟨⟨k + 1, by omega, by go_num, HG.out⟩, by simp [intOf]; omega⟩
      · obtain rfl : k = L0.length + L1.length := by omega
        have HG9 := Lib.hid (gr_trans HG8.out HG.out)
        have HS9 := Lib.hid (gr_trans HS8.out HG.out)
        clear HG
        go_wp2_with fail
        refine (A8.out _ _ (i64s_gr HW3.out HS9.out)).mono ?_
        rintro e wA ⟨vP, rfl, hgA, hoA⟩
        have HPA := Lib.hid (show I64s wA vP (n0 + n1) fun j => (ofL (jn z0 z1 n0) (n0 + n1)).getD j 0 by have := ls_of_owns hoA; unfold Ls at this; rw [E5.out] at this; exact this)
        obtain ⟨xP, cP, rfl⟩ := ls_slice HPA.out
        rw [E5.out] at hoA
        have HGA := Lib.hid (gr_trans HG9.out hgA)
        clear hgA hoA
        go_wp2_with fail
        refine (A6.out _ HGA.out).mono ?_
        rintro e wB ⟨vQ, rfl, hgB, hoB⟩
        have HQB := Lib.hid (show I64s wB vQ n1 fun j => P1.getD j 0 by have := ls_of_owns hoB; unfold Ls at this; rw [E6.out] at this; exact this)
        obtain ⟨xQ, cQ, rfl⟩ := ls_slice HQB.out
        rw [E6.out] at hoB
        have HPB := Lib.hid (i64s_gr HPA.out hgB)
        have HGB := Lib.hid (gr_trans HGA.out hgB)
        clear hgB hoB HPA
        go_wp2_with fail
        go_loopw [12] (fun i wr => ∃ k : Nat, k ≤ n1 ∧ i = .int .i64 k ∧ Gr wB wr) (fun i _ => n1 - (intOf i).toNat)
        case atStart => exact ⟨0, by omega, rfl, Gr.refl _⟩
        case round =>
        obtain ⟨k, hk, rfl, hg⟩ := hrel
        have HGc := Lib.hid hg
        clear hg
        by_cases hge : n1 ≤ k
        · obtain rfl : k = n1 := by omega
          go_wp2
          go_ret
          exact ⟨rfl, gr_trans HGB.out HGc.out⟩
        have hlt : k < n1 := by omega
        rcases HPB.out with ⟨h, _⟩ | ⟨_, b, off, cap, hb, hc⟩
        · exact absurd h (by omega)
        injection hb with hb1 _ hb2
        subst hb1 hb2
        rcases HQB.out with ⟨h, _⟩ | ⟨_, b', off', cap', hb', hc'⟩
        · exact absurd h (by omega)
        injection hb' with hb1 _ hb2
        subst hb1 hb2
        have e2 := E2.out k hlt
        have e3 := E3.out k hlt
        have hp : wr.cell? ⟨b, off + (n0 + k), none⟩ = some (.int .i64 ((L0.length : Int) + P1.getD k 0)) := by rw [← e2]; exact gr_cell HGc.out (hc (n0 + k) (by omega))
        have hq : wr.cell? ⟨b', off' + k, none⟩ = some (.int .i64 (P1.getD k 0)) := gr_cell HGc.out (hc' k hlt)
        clear hc hc' e2
        generalize P1.getD k 0 = q at *
        have HGk := Lib.hid (gr_trans HGB.out HGc.out)
        have T4 : IntKind.i64.wrap ((n0 : Int) + (k : Int)) = (n0 : Int) + (k : Int) := by rw [IntKind.wrap_i64]; omega
        have T5 : IntKind.i64.wrap ((L0.length : Int) + q) = (L0.length : Int) + q := by rw [IntKind.wrap_i64]; omega
        have T6 : n0 + k < n0 + n1 := by omega
        have T7 : ((n0 : Int) + (k : Int)).toNat = n0 + k := by omega
        have T9 : (0 : Int) ≤ (n0 : Int) + (k : Int) := by omega
        have TA : (n0 : Int) + (k : Int) < (n0 : Int) + (n1 : Int) := by omega
        have T8 : (k : Int) < (n1 : Int) := by omega
        clear T1 e3
        go_upto_region 21 with (fail)
        refine wp_region_steady (by kernel_rfl) (by kernel_rfl) ?_
        refine steady_step (fun K hK => ?_); apply steady_op rfl; (focus (intro wx hw; go_simp; exact ⟨rfl, hw⟩)); go_simp; refine hK _ ?_; clear hK K
        refine steady_step (fun K hK => ?_); apply steady_op rfl; (focus (intro wx hw; go_simp; exact ⟨rfl, hw⟩)); go_simp; refine hK _ ?_; clear hK K
        refine steady_step (fun K hK => ?_); apply steady_op rfl; (focus (intro wx hw; go_simp; exact ⟨rfl, hw⟩)); go_simp; refine hK _ ?_; clear hK K
        refine steady_step (fun K hK => ?_); apply steady_op rfl; (focus (intro wx hw; go_simp; exact ⟨rfl, hw⟩)); go_simp; refine hK _ ?_; clear hK K
        refine steady_step (fun K hK => ?_); apply steady_op rfl; (focus (intro wx hw; go_simp; exact ⟨rfl, hw⟩)); go_simp; refine hK _ ?_; clear hK K
        refine steady_step (fun K hK => ?_); apply steady_op rfl; (focus (intro wx hw; go_simp; exact ⟨rfl, hw⟩)); go_simp; refine hK _ ?_; clear hK K
        refine steady_step (fun K hK => ?_); apply steady_op rfl; (focus (intro wx hw; have hcx := gr_cell (gr_trans (Gr.drew (Gr.refl _)) hw) hp; go_simp; exact ⟨rfl, hw⟩)); go_simp; refine hK _ ?_; clear hK K
        refine steady_step (fun K hK => ?_); apply steady_op rfl; (focus (intro wx hw; go_simp; exact ⟨rfl, hw⟩)); go_simp; refine hK _ ?_; clear hK K
        refine steady_step (fun K hK => ?_)
        apply steady_op rfl
        · intro wx hw; go_simp; exact (A3.out wx (gr_trans HGk.out (gr_trans (Gr.drew (Gr.refl _)) hw))).mono fun e w3 h => ⟨h.1, gr_trans hw h.2⟩
        go_simp; refine hK _ ?_; clear hK K
        refine steady_step (fun K hK => ?_); apply steady_op rfl; (focus (intro wx hw; go_simp; exact ⟨rfl, hw⟩)); go_simp; refine hK _ ?_; clear hK K
        refine steady_step (fun K hK => ?_); apply steady_op rfl; (focus (intro wx hw; go_simp; exact ⟨rfl, hw⟩)); go_simp; refine hK _ ?_; clear hK K
        refine steady_step (fun K hK => ?_); apply steady_op rfl; (focus (intro wx hw; go_simp; exact ⟨rfl, hw⟩)); go_simp; refine hK _ ?_; clear hK K
        refine steady_step (fun K hK => ?_); apply steady_op rfl; (focus (intro wx hw; have hcx := gr_cell (gr_trans (Gr.drew (Gr.refl _)) hw) hq; go_simp; exact ⟨rfl, hw⟩)); go_simp; refine hK _ ?_; clear hK K
        refine steady_step (fun K hK => ?_); apply steady_op rfl; (focus (intro wx hw; go_simp; exact ⟨rfl, hw⟩)); go_simp; refine hK _ ?_; clear hK K
        refine steady_step (fun K hK => ?_); apply steady_op rfl; (focus (intro wx hw; go_simp; exact ⟨rfl, hw⟩)); go_simp; refine hK _ ?_; clear hK K
        refine steady_nil ?_
        intro wz hgz
        have HGz := Lib.hid (gr_trans (Gr.drew (Gr.refl _)) hgz)
        clear hgz
        go_wp2
        exact ⟨⟨k + 1, by omega, by go_num, gr_trans HGc.out HGz.out⟩, by simp [intOf]; omega⟩
theorem split_joins {v0 v1 : Value} {n0 n1 : Nat} {z0 z1 : Nat → Int} {w : World} (l0 : n0 ≤ 1048576) (l1 : n1 ≤ 1048576) (h0 : I64d w v0 n0 z0) (h1 : I64d w v1 n1 z1) :
    Calls Try.prog 6 #[v0, v1] w fun e w' => e = .returned (.bool true) ∧ Gr w w' := by
  obtain ⟨x0, c0, rfl⟩ := slice_i64d h0
  obtain ⟨x1, c1, rfl⟩ := slice_i64d h1
  exact joins_law x0 x1 n0 n1 c0 c1 z0 z1 w l0 l1 h0 h1
end Sp
end Go.Proofs.Ythpnhanabcipmaa
