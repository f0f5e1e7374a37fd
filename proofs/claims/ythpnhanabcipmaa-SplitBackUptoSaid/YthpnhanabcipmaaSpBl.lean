/-
  Of layer 21: SplitBack, where Put takes the values.
-/
import Derived.Test.YthpnhanabcipmaaSpBk
namespace Go.Proofs.Ythpnhanabcipmaa
open Go.RowKit VecM Ev
namespace Sp
set_option maxRecDepth 100000 in
set_option maxHeartbeats 8000000 in
theorem back_yes (x0 : Option Addr) (n c0 : Nat) (z : Nat → Int) (vv : Value) (vs : Nat → Nat → Int) (hB : ∀ j, Byt (vs j)) (w : World) (hl : n ≤ 1048576) (h0 : I64s w (.slice x0 n c0) n z) (h1 : Vecs w vv n vs) (ho : okT z n) :
    Calls Try.prog 5 #[.slice x0 n c0, vv] w fun e w' => e = .returned (.bool true) ∧ Gr w w' := by
  have hP := pr_all (ts := z) hB n ho
  have lL := imL_len z n
  have eLn := imL_len_ok z n ho
  have HP := Lib.hid hP
  have ELH := Lib.hid hP.len
  have A1 := Lib.hid (fun w1 (h : Gr w w1) => put_any (w := w1) hB (by omega) (i64s_gr h0 h) (vecs_gr h1 h))
  have A2 := Lib.hid (putX_yes ⟨ho, rfl⟩)
  have A3 := Lib.hid (putR_yes (vs := vs) ⟨ho, rfl⟩)
  have A4 := Lib.hid (fun w1 (h : Gr w w1) => types_any (w := w1) (by omega) (i64s_gr h0 h))
  have A5 := Lib.hid (fun w1 (h : Gr w w1) => offsets_any (w := w1) (by omega) (i64s_gr h0 h))
  have A6 := Lib.hid (fun w1 (h : Gr w w1) => width_any (w := w1) (by omega) (i64s_gr h0 h))
  have E5 := Lib.hid (ofL_len z n)
  have H0 := Lib.hid h0
  have H1 := Lib.hid h1
  have HB := Lib.hid hB
  have EO := Lib.hid (fun i (hi : i < n) => show ((ofL z n).getD i 0 : Int) = (needN z i : Int) by rw [ofL_at hi, imL_len_ok z i (fun j hj => ho j (by omega))])
  have EN := Lib.hid (fun i (hi : i < n) => show (needN z (i + 1) : Int) = needN z i + needI (z i) ∧ needN z (i + 1) ≤ (putL z vs n).length from ⟨needN_succ z i, by rw [putL_len_ok z vs n ho]; exact needN_le z (by omega)⟩)
  have EH := Lib.hid (fun i r (hi : i < n) (hr : r < (putE (z i) (vs i)).length) => show (putL z vs n).getD (needN z i + r) 0 = (putE (z i) (vs i)).getD r 0 from lst_at z vs ho hi hr)
  have HO := Lib.hid ho
  obtain ⟨xv, cv, rfl⟩ := slice_vecs h1
  clear h0 h1 hP hB ho eLn
  generalize hLL : imL z n = L at *
  generalize hHH : putL z vs n = Hh at *
  generalize hOO : ofL z n = O at *
  clear hLL hHH hOO
  go_enter Try.func5, Try.ntmps5
  go_wp2_with fail
  refine (awake_any _).mono ?_
  rintro e w1 ⟨rfl, hg1⟩
  have HG1 := Lib.hid hg1
  clear hg1
  go_wp2_with fail
  refine (A1.out _ HG1.out).mono ?_
  rintro e w2 ⟨sv, rfl, hg2, ho2⟩
  rw [A3.out] at ho2
  rw [A2.out]
  have HU2 := Lib.hid (u64c_of_uvs ho2)
  obtain ⟨x2, c2, rfl⟩ := slice_u64c HU2.out
  have HG2 := Lib.hid (gr_trans HG1.out hg2)
  clear hg2 ho2 A2 A3
  go_wp2_with fail
  refine (A4.out _ HG2.out).mono ?_
  rintro e w3 ⟨v3, rfl, hg3, ho3⟩
  have HL3 := Lib.hid (show I64s w3 v3 Hh.length fun j => L.getD j 0 by have := ls_of_owns ho3; unfold Ls at this; rw [ELH.out] at this; exact this)
  rw [ELH.out] at ho3
  obtain ⟨x3, c3, rfl⟩ := own_slice ho3
  have HU3 := Lib.hid (u64c_gr HU2.out hg3)
  have HG3 := Lib.hid (gr_trans HG2.out hg3)
  clear hg3 ho3 HU2
  go_wp2_with fail
  refine (A5.out _ HG3.out).mono ?_
  rintro e w4 ⟨v4, rfl, hg4, ho4⟩
  have HO4 := Lib.hid (show I64s w4 v4 n fun j => O.getD j 0 by have := ls_of_owns ho4; unfold Ls at this; rw [E5.out] at this; exact this)
  obtain ⟨x4, c4, rfl⟩ := ls_slice HO4.out
  rw [E5.out] at ho4
  have HL4 := Lib.hid (i64s_gr HL3.out hg4)
  have HU4 := Lib.hid (u64c_gr HU3.out hg4)
  have HG4 := Lib.hid (gr_trans HG3.out hg4)
  clear hg4 ho4 HU3 HL3
  go_wp2_with fail
  refine (A6.out _ HG4.out).mono ?_
  rintro e w5 ⟨rfl, hg5⟩
  have HO5 := Lib.hid (i64s_gr HO4.out hg5)
  have HL5 := Lib.hid (i64s_gr HL4.out hg5)
  have HU5 := Lib.hid (u64c_gr HU4.out hg5)
  have HG5 := Lib.hid (gr_trans HG4.out hg5)
  clear hg5 HO4 HL4 HU4
  rw [ELH.out]
  go_wp2_with fail
  go_loopw [9] (fun i wr => ∃ k : Nat, k ≤ n ∧ i = .int .i64 k ∧ Gr w5 wr) (fun i _ => n - (intOf i).toNat)
  case atStart => exact ⟨0, by omega, rfl, Gr.refl _⟩
  case round =>
    obtain ⟨k, hk, rfl, hg⟩ := hrel
    have HG := Lib.hid hg
    clear hg
    by_cases hlt : k < n
    · rcases H0.out with ⟨h, _⟩ | ⟨_, bt, ot, ct', ht, hct⟩
      · exact absurd h (by omega)
      injection ht with ht1 _ ht2
      subst ht1 ht2
      rcases H1.out with ⟨h, _⟩ | ⟨_, bv, ov, cv', hv', hcv⟩
      · exact absurd h (by omega)
      injection hv' with ht1 _ ht2
      subst ht1 ht2
      rcases HO5.out with ⟨h, _⟩ | ⟨_, bO, oO, cO, hO', hcO⟩
      · exact absurd h (by omega)
      injection hO' with ht1 _ ht2
      subst ht1 ht2
      have en := EN.out k hlt
      have hnz := HO.out k hlt
      have hnb := needI_bd (z k)
      have hHl : needN z k < Hh.length := by omega
      rcases HU5.out with ⟨h, _⟩ | ⟨_, bH, oH, cH, _, hH', hcH⟩
      · exact absurd h (by omega)
      injection hH' with ht1 _ ht2
      subst ht1 ht2
      have HGW := Lib.hid (gr_trans HG5.out HG.out)
      have h1 := gr_cell HGW.out (hct k hlt)
      have hat : wr.cell? ⟨bO, oO + k, none⟩ = some (.int .i64 (needN z k : Int)) := by
        have := gr_cell HG.out (hcO k hlt)
        rw [show (fun j => O.getD j 0) k = (needN z k : Int) from EO.out k hlt] at this
        exact this
      have HLv := Lib.hid (show ∀ j v, (bs (vs k)).toList[j]? = some v → wr.cell? ⟨bv, ov + k * 16 + j, none⟩ = some v from fun j v hv => by
        obtain ⟨hj, rfl⟩ := bs_list _ _ _ hv
        exact gr_cell HGW.out (hcv k hlt j hj))
      have HS := Lib.hid (split_any (vs k) (HB.out k))
      have b64 := getI_bd (HB.out k) 64 0
      have T0 := mod_low (HB.out k)
      clear hct hcv hcO
      by_cases ct : z k = 127
      · have HT := Lib.hid (show Go.bits .and .u64 (getI (vs k) 64 0) 4294967295 = getI (vs k) 32 0 by rw [and_low b64.1 (by rw [show (18446744073709551616 : Int) = 256 ^ wid 64 by decide]; exact b64.2), T0])
        have eh : Hh.getD (needN z k) 0 = getI (vs k) 32 0 := by
          have := EH.out k 0 hlt (by rw [ct]; exact Nat.zero_lt_succ _)
          rw [ct, Nat.add_zero] at this
          exact this
        have hh0 : wr.cell? ⟨bH, oH + needN z k, none⟩ = some (.int .u64 (getI (vs k) 32 0)) := by
          have : wr.cell? ⟨bH, oH + needN z k, none⟩ = some (.int .u64 (Hh.getD (needN z k) 0)) := gr_cell HG.out (hcH (needN z k) (by omega))
          rw [eh] at this
          exact this
        rw [ct] at h1
        clear eh hcH
        go_upto_region 14 with (first | (refine wpList_load_cells rfl 54 _ rfl bv (ov + k * 16) rfl (bs (vs k)) _ HLv.out Try.underlying54 rfl infoV ?_) | (go_at_call 21; refine (HS.out _).mono ?_; rintro e wa ⟨rfl, hga⟩; have HGa := Lib.hid hga; clear hga) | (refine wpList_store_row rfl 51 _ _ rfl wa.heap.size #[.int .u64 (getI (vs k) 64 0), .int .u64 (getI (vs k) 64 1)] rfl rfl 51 #[.int .u64 0, .int .u64 0] (heap_alloc_new wa _) infoH rfl (by kernel_rfl) ?_; rw [World.setRow_alloc_new]))
        have HGz := Lib.hid (show Gr wr (wa.alloc (.cells #[.int .u64 (getI (vs k) 64 0), .int .u64 (getI (vs k) 64 1)] 51)) from gr_trans HGa.out ((Gr.refl _).allocO _))
        obtain ⟨q0, q1⟩ := cells2 (heap_alloc_new wa (.cells #[.int .u64 (getI (vs k) 64 0), .int .u64 (getI (vs k) 64 1)] 51))
        have r1 := gr_cell HGz.out h1
        have r2 := gr_cell HGz.out hat
        have r3 := gr_cell HGz.out hh0
        have t1 := HT.out
        clear h1 hat hh0 HLv HS b64 T0 en hnz hnb HGa ct
        generalize getI (vs k) 32 0 = lw at *
        generalize getI (vs k) 64 0 = lo at *
        generalize getI (vs k) 64 1 = hi at *
        generalize wa.heap.size = ga at *
        generalize wa.alloc (.cells #[.int .u64 lo, .int .u64 hi] 51) = wz at *
        generalize needN z k = at_ at *
        have s1 : (at_ : Int) < (Hh.length : Int) := by omega
        have s2 : ¬ Hh.length ≤ at_ := by omega
        go_wp2_with fail
        go_quiet (fail)
        go_wp2
        exact ⟨⟨k + 1, by omega, by go_num, gr_trans HG.out (HGz.out.drewN _)⟩, by simp [intOf]; omega⟩
      by_cases ct : z k = 126
      · have eh : Hh.getD (needN z k) 0 = getI (vs k) 64 0 := by
          have := EH.out k 0 hlt (by rw [ct]; exact Nat.zero_lt_succ _)
          rw [ct, Nat.add_zero] at this
          exact this
        have hh0 : wr.cell? ⟨bH, oH + needN z k, none⟩ = some (.int .u64 (getI (vs k) 64 0)) := by
          have : wr.cell? ⟨bH, oH + needN z k, none⟩ = some (.int .u64 (Hh.getD (needN z k) 0)) := gr_cell HG.out (hcH (needN z k) (by omega))
          rw [eh] at this
          exact this
        rw [ct] at h1
        clear eh hcH
        go_upto_region 14 with (first | (refine wpList_load_cells rfl 54 _ rfl bv (ov + k * 16) rfl (bs (vs k)) _ HLv.out Try.underlying54 rfl infoV ?_) | (go_at_call 21; refine (HS.out _).mono ?_; rintro e wa ⟨rfl, hga⟩; have HGa := Lib.hid hga; clear hga) | (refine wpList_store_row rfl 51 _ _ rfl wa.heap.size #[.int .u64 (getI (vs k) 64 0), .int .u64 (getI (vs k) 64 1)] rfl rfl 51 #[.int .u64 0, .int .u64 0] (heap_alloc_new wa _) infoH rfl (by kernel_rfl) ?_; rw [World.setRow_alloc_new]))
        have HGz := Lib.hid (show Gr wr (wa.alloc (.cells #[.int .u64 (getI (vs k) 64 0), .int .u64 (getI (vs k) 64 1)] 51)) from gr_trans HGa.out ((Gr.refl _).allocO _))
        obtain ⟨q0, q1⟩ := cells2 (heap_alloc_new wa (.cells #[.int .u64 (getI (vs k) 64 0), .int .u64 (getI (vs k) 64 1)] 51))
        have r1 := gr_cell HGz.out h1
        have r2 := gr_cell HGz.out hat
        have r3 := gr_cell HGz.out hh0
        clear h1 hat hh0 HLv HS b64 T0 en hnz hnb HGa ct
        generalize getI (vs k) 64 0 = lo at *
        generalize getI (vs k) 64 1 = hi at *
        generalize wa.heap.size = ga at *
        generalize wa.alloc (.cells #[.int .u64 lo, .int .u64 hi] 51) = wz at *
        generalize needN z k = at_ at *
        have s1 : (at_ : Int) < (Hh.length : Int) := by omega
        have s2 : ¬ Hh.length ≤ at_ := by omega
        go_wp2_with fail
        go_quiet (fail)
        go_wp2
        exact ⟨⟨k + 1, by omega, by go_num, gr_trans HG.out (HGz.out.drewN _)⟩, by simp [intOf]; omega⟩
      have c3 : z k = 123 := by
        rename_i hx
        unfold needI at hnz
        by_cases h3 : z k = 123
        · exact h3
        · rw [if_neg (by omega), if_neg h3] at hnz; exact absurd rfl hnz
      clear ct
      have ct := c3
      clear c3
      have eh : Hh.getD (needN z k) 0 = getI (vs k) 64 0 := by
        have := EH.out k 0 hlt (by rw [ct]; exact Nat.zero_lt_succ _)
        rw [ct, Nat.add_zero] at this
        exact this
      have hh0 : wr.cell? ⟨bH, oH + needN z k, none⟩ = some (.int .u64 (getI (vs k) 64 0)) := by
        have : wr.cell? ⟨bH, oH + needN z k, none⟩ = some (.int .u64 (Hh.getD (needN z k) 0)) := gr_cell HG.out (hcH (needN z k) (by omega))
        rw [eh] at this
        exact this
      have eh2 : Hh.getD (needN z k + 1) 0 = getI (vs k) 64 1 := by
        have := EH.out k 1 hlt (by rw [ct]; exact Nat.lt_succ_self 1)
        rw [ct] at this
        exact this
      have hl2 : needN z k + 1 < Hh.length := by
        have : needI (z k) = 2 := by rw [ct]; rfl
        omega
      have hh1 : wr.cell? ⟨bH, oH + (needN z k + 1), none⟩ = some (.int .u64 (getI (vs k) 64 1)) := by
        have : wr.cell? ⟨bH, oH + (needN z k + 1), none⟩ = some (.int .u64 (Hh.getD (needN z k + 1) 0)) := gr_cell HG.out (hcH (needN z k + 1) hl2)
        rw [eh2] at this
        exact this
      clear eh2
      rw [ct] at h1
      clear eh hcH
      go_upto_region 14 with (first | (refine wpList_load_cells rfl 54 _ rfl bv (ov + k * 16) rfl (bs (vs k)) _ HLv.out Try.underlying54 rfl infoV ?_) | (go_at_call 21; refine (HS.out _).mono ?_; rintro e wa ⟨rfl, hga⟩; have HGa := Lib.hid hga; clear hga) | (refine wpList_store_row rfl 51 _ _ rfl wa.heap.size #[.int .u64 (getI (vs k) 64 0), .int .u64 (getI (vs k) 64 1)] rfl rfl 51 #[.int .u64 0, .int .u64 0] (heap_alloc_new wa _) infoH rfl (by kernel_rfl) ?_; rw [World.setRow_alloc_new]))
      have HGz := Lib.hid (show Gr wr (wa.alloc (.cells #[.int .u64 (getI (vs k) 64 0), .int .u64 (getI (vs k) 64 1)] 51)) from gr_trans HGa.out ((Gr.refl _).allocO _))
      obtain ⟨q0, q1⟩ := cells2 (heap_alloc_new wa (.cells #[.int .u64 (getI (vs k) 64 0), .int .u64 (getI (vs k) 64 1)] 51))
      have r1 := gr_cell HGz.out h1
      have r2 := gr_cell HGz.out hat
      have r3 := gr_cell HGz.out hh0
      have r4 := gr_cell HGz.out hh1
      clear h1 hh1 hat hh0 HLv HS b64 T0 en hnz hnb HGa ct
      generalize getI (vs k) 64 0 = lo at *
      generalize getI (vs k) 64 1 = hi at *
      generalize wa.heap.size = ga at *
      generalize wa.alloc (.cells #[.int .u64 lo, .int .u64 hi] 51) = wz at *
      generalize needN z k = at_ at *
      have s1 : (at_ : Int) < (Hh.length : Int) := by omega
      have s2 : ¬ Hh.length ≤ at_ := by omega
      have s3 : IntKind.i64.wrap ((at_ : Int) + 1) = (at_ : Int) + 1 := by rw [IntKind.wrap_i64]; omega
      have s4 : ((at_ : Int) + 1).toNat = at_ + 1 := by omega
      have s5 : (at_ : Int) + 1 < (Hh.length : Int) := by omega
      have s7 : (0 : Int) ≤ (at_ : Int) + 1 := by omega
      have s6 : ¬ (Hh.length : Int) ≤ (at_ : Int) + 1 := by omega
      go_wp2_with fail
      go_quiet (fail)
      go_wp2
      exact ⟨⟨k + 1, by omega, by go_num, gr_trans HG.out (HGz.out.drewN _)⟩, by simp [intOf]; omega⟩
    · obtain rfl : k = n := by omega
      have HL6 := Lib.hid (i64s_gr HL5.out HG.out)
      have HU6 := Lib.hid (u64c_gr HU5.out HG.out)
      have HG6 := Lib.hid (gr_trans HG5.out HG.out)
      clear HG HL5 HU5 HO5 HG5 A1 A4 A5 A6 H0 H1 EO EN EH HO E5 HB
      have hok : okT (fun j => L.getD j 0) Hh.length := by rw [← ELH.out]; exact ok_im HP.out.ty
      have hnd : needN (fun j => L.getD j 0) Hh.length = Hh.length := by rw [← ELH.out]; exact needN_im HP.out.ty _ (Nat.le_refl _)
      have hHl : Hh.length ≤ 2097152 := by rw [← ELH.out]; omega
      have K1 := Lib.hid (take_any (w := wr) (by omega) HL6.out HU6.out)
      have K2 := Lib.hid (takX_yes (n := Hh.length) (m := Hh.length) ⟨hok, hnd⟩)
      have K3 := Lib.hid (takN_yes (n := Hh.length) (m := Hh.length) ⟨hok, hnd⟩)
      have K4 := Lib.hid (putX_yes (n := Hh.length) (m := Hh.length) ⟨hok, rfl⟩)
      have K5 := Lib.hid (putR_yes (vs := takeV (fun j => L.getD j 0) fun j => Hh.getD j 0) (n := Hh.length) (m := Hh.length) ⟨hok, rfl⟩)
      have K6 := Lib.hid (show (putL (fun j => L.getD j 0) (takeV (fun j => L.getD j 0) fun j => Hh.getD j 0) Hh.length).length = Hh.length by rw [putL_len_ok _ _ _ hok, hnd])
      have K7 := Lib.hid (fun i (hi : i < Hh.length) => show (putL (fun j => L.getD j 0) (takeV (fun j => L.getD j 0) fun j => Hh.getD j 0) Hh.length).getD i 0 = Hh.getD i 0 by
        have := again_at HP.out (i := i) (by rw [ELH.out]; exact hi)
        rw [ELH.out] at this
        exact this)
      have K8 := Lib.hid (show imL (fun j => L.getD j 0) Hh.length = L by have := im_self HP.out.ty; rw [ELH.out] at this; exact this)
      clear hok hnd
      go_wp2_with fail
      refine K1.out.mono ?_
      rintro e w7 ⟨v7, rfl, hg7, ho7⟩
      rw [K2.out]
      rw [K3.out] at ho7
      have HV7 := Lib.hid (vecs_of_owns ho7)
      obtain ⟨x7, c7, rfl⟩ := slice_vecs HV7.out
      have HL7 := Lib.hid (i64s_gr HL6.out hg7)
      have HU7 := Lib.hid (u64c_gr HU6.out hg7)
      have HG7 := Lib.hid (gr_trans HG6.out hg7)
      clear hg7 ho7 K1 K2 K3 HL6 HU6
      go_wp2_with fail
      refine (put_any (w := w7) (take_byt _ _) (by omega) HL7.out HV7.out).mono ?_
      rintro e w8 ⟨v8, rfl, hg8, ho8⟩
      rw [K4.out]
      rw [K5.out] at ho8
      have HU8 := Lib.hid (show U64c w8 v8 Hh.length _ by have := u64c_of_uvs ho8; rw [K6.out] at this; exact this)
      obtain ⟨x8, c8, rfl⟩ := slice_u64c HU8.out
      have HL8 := Lib.hid (i64s_gr HL7.out hg8)
      have HH8 := Lib.hid (u64c_gr HU7.out hg8)
      have HG8 := Lib.hid (gr_trans HG7.out hg8)
      clear hg8 ho8 K4 K5 K6 HL7 HU7 HV7
      go_wp2_with fail
      go_loopw [14] (fun i wr => ∃ k : Nat, k ≤ Hh.length ∧ i = .int .i64 k ∧ Gr w8 wr) (fun i _ => Hh.length - (intOf i).toNat)
      case atStart => exact ⟨0, by omega, rfl, Gr.refl _⟩
      case round =>
        obtain ⟨k, hk, rfl, hg⟩ := hrel
        have HG := Lib.hid hg
        clear hg
        by_cases hlt : k < Hh.length
        · rcases HU8.out with ⟨h, _⟩ | ⟨_, ba, oa, ca, _, ha, hca⟩
          · exact absurd h (by omega)
          injection ha with ha1 _ ha2
          subst ha1 ha2
          rcases HH8.out with ⟨h, _⟩ | ⟨_, bb, ob, cb, _, hb, hcb⟩
          · exact absurd h (by omega)
          injection hb with hb1 _ hb2
          subst hb1 hb2
          have h1 : wr.cell? ⟨ba, oa + k, none⟩ = some (.int .u64 ((putL (fun j => L.getD j 0) (takeV (fun j => L.getD j 0) fun j => Hh.getD j 0) Hh.length).getD k 0)) := gr_cell HG.out (hca k hlt)
          have h2 : wr.cell? ⟨bb, ob + k, none⟩ = some (.int .u64 (Hh.getD k 0)) := gr_cell HG.out (hcb k hlt)
          rw [K7.out k hlt] at h1
          clear hca hcb
          generalize Hh.getD k 0 = y at *
          go_wp2_with fail
          go_quiet (fail)
          go_wp2
          exact ⟨⟨k + 1, by omega, by go_num, HG.out.drewN _⟩, by simp [intOf]; omega⟩
        · obtain rfl : k = Hh.length := by omega
          have HL9 := Lib.hid (i64s_gr HL8.out HG.out)
          have HG9 := Lib.hid (gr_trans HG8.out HG.out)
          clear HG HL8 HU8 HH8
          go_wp2_with fail
          refine (types_any (w := wr) (by omega) HL9.out).mono ?_
          rintro e wA ⟨vA, rfl, hgA, hoA⟩
          rw [K8.out] at hoA
          have HLA := Lib.hid (show I64s wA vA Hh.length fun j => L.getD j 0 by have := ls_of_owns hoA; unfold Ls at this; rw [ELH.out] at this; exact this)
          obtain ⟨xA, cA, rfl⟩ := ls_slice HLA.out
          have HLB := Lib.hid (i64s_gr HL9.out hgA)
          have HGA := Lib.hid (gr_trans HG9.out hgA)
          clear hgA hoA HL9
          go_wp2_with fail
          refine (same_types _ _ Hh.length _ _ wA (by omega) HLA.out HLB.out (fun _ _ => rfl)).mono ?_
          rintro e wB ⟨rfl, hgB⟩
          have HLC := Lib.hid (i64s_gr HLB.out hgB)
          have HGB := Lib.hid (gr_trans HGA.out hgB)
          clear hgB HLB HLA
          go_wp2_with fail
          refine (width_any (w := wB) (by omega) HLC.out).mono ?_
          rintro e wC ⟨rfl, hgC⟩
          rw [K8.out, ELH.out]
          have HGC := Lib.hid (gr_trans HGB.out hgC)
          clear hgC
          go_wp2
          go_ret
          exact ⟨rfl, HGC.out⟩
theorem split_back {v0 v1 : Value} {n m : Nat} {z : Nat → Int} {vs : Nat → Nat → Int} {w : World} (l0 : n ≤ 1048576) (hB : ∀ j, Byt (vs j)) (h0 : I64d w v0 n z) (h1 : Vecs w v1 m vs) :
    Calls Try.prog 5 #[v0, v1] w fun e w' => e = .returned (.bool true) ∧ Gr w w' := by
  obtain ⟨x0, c0, rfl⟩ := slice_i64d h0
  have hs := i64s_of_c (i64c_of_d h0)
  by_cases h : okT z n ∧ n = m
  · obtain ⟨ho, rfl⟩ := h
    exact back_yes x0 n c0 z v1 vs hB w l0 hs h1 ho
  · exact back_no x0 n c0 z v1 m vs hB w l0 hs h1 h
end Sp
end Go.Proofs.Ythpnhanabcipmaa
