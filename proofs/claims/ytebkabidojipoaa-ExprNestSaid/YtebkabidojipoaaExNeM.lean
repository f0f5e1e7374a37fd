/-
  Of layer 12: ExprNest. Condition: the library's MaxLen reads as some number.
-/
import Derived.Test.YtebkabidojipoaaExFoM
import Derived.Test.YtebkabidojipoaaExWM
namespace Go.Proofs.Ytebkabidojipoaa
open Go.RowKit VecM LebM
namespace Ex
/-- instructions without lists, with their values -/
def zip0 (D : List In) : List (In × Value) := D.map fun d => (d, .slice none 0 0)
theorem zip0_fst (D : List In) : (zip0 D).map (·.1) = D := by unfold zip0; rw [List.map_map]; exact List.map_id _
theorem zip0_snoc (D : List In) (d : In) : cdV (zip0 (D ++ [d])) = cdV (zip0 D) ++ (inV d (.slice none 0 0)).toList := by
  unfold zip0
  rw [List.map_append, cdV_app]
  show _ ++ ((inV d (.slice none 0 0)).toList ++ []) = _
  rw [List.append_nil]
theorem zip0_len (D : List In) : (zip0 D).length = D.length := by unfold zip0; rw [List.length_map]
theorem cdR_zip {w : World} {base : Nat} {v : Value} {D : List In} (hl : ∀ d ∈ D, d.l = []) (h : w.ownsRow base 38 6 v D.length (cdV (zip0 D))) : CdR w v (zip0 D) := by
  refine cdR_own (base := base) ⟨by rw [zip0_len]; exact h, fun p hp => ?_⟩
  obtain ⟨d, hd, rfl⟩ := List.mem_map.1 hp
  rw [hl d hd]
  exact World.ownsRow_nil _ _ _ _
theorem cls_snoc (A : List In) (k : Nat) : A ++ cls (k + 1) = (A ++ cls k) ++ [clI] := by unfold cls; rw [List.replicate_succ', List.append_assoc]
theorem ops_snoc (kd : Int) (k : Nat) : ops kd (k + 1) = ops kd k ++ [opI kd] := by unfold ops; rw [List.replicate_succ']
theorem ops_l (kd : Int) (n : Nat) : (ops kd n).length = n := by unfold ops; simp
theorem cls_l (n : Nat) : (cls n).length = n := by unfold cls; simp
theorem cls_len (A : List In) : ∀ k, (insF (A ++ cls k)).length = (insF A).length + k
  | 0 => by simp [cls]
  | k + 1 => by rw [insF_cls, List.length_append, cls_len A k, List.length_singleton]; omega
theorem nil_l (kd : Int) (n m : Nat) : ∀ d ∈ ops kd n ++ cls m, d.l = [] := fun d hd => by
  rcases List.mem_append.1 hd with hd | hd
  · rw [(List.mem_replicate.1 hd).2]; rfl
  · rw [(List.mem_replicate.1 hd).2]; rfl
theorem szP_nil : ∀ D : List In, (∀ d ∈ D, d.l = []) → szP D = D.length
  | [], _ => rfl
  | d :: r, h => by unfold szP; rw [h d (by simp), szP_nil r fun x hx => h x (by simp [hx]), List.length_cons]; simp; omega
set_option maxRecDepth 100000 in
set_option maxHeartbeats 4000000 in
theorem nest_le (m : Nat) (hm8 : m < 256) (hmc : m ≤ 128) (op : Int) (w : World) (hm : Ins.Mx w) :
    Calls Try.prog 7 #[.int .u8 m, .int .i64 op] w fun e w' => e = .returned (.bool true) ∧ Gr w w' := by
  obtain ⟨u, hu⟩ : ∃ u, IntKind.u64.wrap op = u := ⟨_, rfl⟩
  have hu0 : 0 ≤ u ∧ u < 18446744073709551616 := by rw [← hu, IntKind.wrap_u64]; omega
  have hwz := mx_size hm
  have HMW := Lib.hid hm
  have HM8 := Lib.hid hm8
  have HMC := Lib.hid hmc
  have HWA := Lib.hid (fun wx (hg : Gr w wx) v (D : List In) (k j : Nat) kd (hk : Kd kd) (hD : D = ops kd k ++ cls j) (hs : k + j ≤ 1000) (hr : CdR wx v (zip0 D)) => write_any (v := v) (P := zip0 D) (Ins.mx_gr hm hg) hr (fun p hp => by
    obtain ⟨d, hd, rfl⟩ := List.mem_map.1 hp
    subst hD
    exact (inB_all hk k j d hd).1) (by rw [zip0_fst, szP_nil D (by subst hD; exact nil_l kd k j)]; subst hD; rw [List.length_append, ops_l, cls_l]; omega) (Nat.lt_of_lt_of_le hwz hg.size))
  have HRA := Lib.hid (fun wx (hg : Gr w wx) v base (L : List Int) (hb : byL L) (hl : L.length ≤ 100000) (ho : wx.ownsRow base 5 1 v L.length (u8s L)) => read_any (w := wx) (sv := v) (len := L.length) 0 (lst_by L hb) (Ins.mx_gr hm hg) (u8s_of_owns ho) (own_in ho) (by omega) (Nat.lt_of_lt_of_le hwz hg.size))
  clear hm hwz hmc
  obtain ⟨i8, hi, hz0, hz1, hz2⟩ := info_parts info8
  have HI8 := Lib.hid hi
  have HZ08 := Lib.hid hz0
  have HZ18 := Lib.hid hz1
  have HZ28 := Lib.hid hz2
  clear hi hz0 hz1 hz2
  obtain ⟨i6, hi, hq0, hq1, hq2⟩ := info_parts infoIns
  have HI6 := Lib.hid hi
  have HZ06 := Lib.hid hq0
  have HZ16 := Lib.hid hq1
  have HZ26 := Lib.hid hq2
  clear hi hq0 hq1 hq2
  go_enter Try.func7, Try.ntmps7
  go_wp2_with fail
  refine (awake_any _ HMW.out).mono ?_
  rintro e w1 ⟨rfl, hg1⟩
  have HG1 := Lib.hid hg1
  clear hg1
  go_wp2_with fail
  have hkd0 : Kd (2 + u % 3) := by unfold Kd; omega
  generalize 2 + u % 3 = kd at *
  have HK := Lib.hid hkd0
  have K1 : IntKind.u8.wrap kd = kd := by rw [IntKind.wrap_u8]; have := HK.out; unfold Kd at this; omega
  clear hkd0 hu hu0
  have HBA := Lib.hid (fun (k j : Nat) => show byL (insF (ops kd k ++ cls j)) from by
    rw [insF_app]
    refine byL.app ?_ ?_
    · intro x hx
      obtain ⟨d, hd, hx⟩ := List.mem_flatMap.1 hx
      rw [(List.mem_replicate.1 hd).2, insB_op HK.out] at hx
      have := HK.out
      unfold Kd at this
      simp at hx
      omega
    · intro x hx
      obtain ⟨d, hd, hx⟩ := List.mem_flatMap.1 hx
      rw [(List.mem_replicate.1 hd).2, insB_cl] at hx
      simp at hx
      omega)
  go_loopw [6, 7, 8] (fun bv cv i wr => ∃ k : Nat, k ≤ m ∧ i = .int .i64 k ∧ Gr w wr ∧ wr.ownsRow w.heap.size 5 1 bv (2 * k) (u8s (insF (ops kd k))) ∧ wr.ownsRow w.heap.size 38 6 cv k (cdV (zip0 (ops kd k)))) (fun _ _ i _ => m - (intOf i).toNat)
  case atStart => exact ⟨0, by omega, rfl, HG1.out, World.ownsRow_nil _ _ _ _, World.ownsRow_nil _ _ _ _⟩
  case round =>
    obtain ⟨k, hk, rfl, hg, hb, hc⟩ := hrel
    obtain ⟨xb, cb, rfl⟩ := own_slice hb
    obtain ⟨xc, cc, rfl⟩ := own_slice hc
    have HG := Lib.hid hg
    have HB := Lib.hid hb
    have HC := Lib.hid hc
    clear hg hb hc
    by_cases hlt : k < m
    · have hkn : (k : Int) < (m : Int) := by omega
      have TK : IntKind.i64.wrap ((k : Int) + 1) = (k : Int) + 1 := by have := HM8.out; rw [IntKind.wrap_i64]; omega
      have HLT := Lib.hid hlt
      go_wp2_with (at_builtin; refine wpList_append_at rfl _ _ 22 rfl w.heap.size 5 i8 (.int .u8 0) 1 1 Try.underlying22 HI8.out HZ08.out HZ18.out HZ28.out rfl (by decide) (.slice xb (2 * k) cb) (2 * k) (u8s (insF (ops kd k))) rfl (World.ownsRow.alloc HB.out _) (.slice (some ⟨wr.heap.size, 0, none⟩) 2 2) 2 (#[.int .u8 kd, .int .u8 64] : Array Value).toList rfl (src_lit wr #[.int .u8 kd, .int .u8 64] 5 2 2) rfl (fun u hu => by simp at hu; rcases hu with rfl | rfl <;> rfl) ?c3 ?c4 ?c5 ?_)
      case c3 => have := HM8.out; have := HLT.out; unfold maxLen; omega
      case c4 => have := HM8.out; have := HLT.out; omega
      case c5 => have := HG.out.size; simp; omega
      intro b2 w2 hown2 hgb hblk
      have hs2 : Sep (fun q => Value.ownBlock _ = some q) wr w2 := Sep.trans (Sep.of_gr ((Gr.refl wr).alloc _ _)) (Sep.grown hgb fun q hq => hq)
      have HC2 := Lib.hid (hs2.owns HC.out (fun q hq e => own_apart HB.out HC.out (by decide) q e hq))
      have HG2 := Lib.hid (Sep.toGr HG.out hs2 (fun q hq => by have := HB.out.lt q hq; omega))
      have HB2 := Lib.hid (show w2.ownsRow w.heap.size 5 1 b2 (2 * (k + 1)) (u8s (insF (ops kd (k + 1)))) from by
        rw [insF_ops HK.out, u8s_app, show 2 * (k + 1) = 2 * k + 2 by omega]; exact hown2)
      clear hown2 hgb hblk hs2
      go_wp2_with (at_builtin; refine wpList_append_at rfl _ _ 24 rfl w.heap.size 38 i6 (.agg #[.int .i64 0, .int .i64 0, .int .i64 0, .int .u64 0, .int .u64 0, .slice none 0 0]) 6 64 Try.underlying24 HI6.out HZ06.out HZ16.out HZ26.out rfl (by decide) (.slice xc k cc) k (cdV (zip0 (ops kd k))) rfl (World.ownsRow.alloc HC2.out _) (.slice (some ⟨w2.heap.size, 0, none⟩) 1 1) 1 (#[.int .i64 kd, .int .i64 (-64), .int .i64 0, .int .u64 0, .int .u64 0, .slice none 0 0] : Array Value).toList rfl (src_lit w2 #[.int .i64 kd, .int .i64 (-64), .int .i64 0, .int .u64 0, .int .u64 0, .slice none 0 0] 38 1 1) rfl (inV_all (opI kd) (.slice none 0 0) rfl) ?c3 ?c4 ?c5 ?_)
      case c3 => have := HM8.out; have := HLT.out; unfold maxLen; omega
      case c4 => have := HM8.out; have := HLT.out; omega
      case c5 => have := HG2.out.size; simp; omega
      intro c3 w3 hown3 hgb hblk
      have hs3 : Sep (fun q => Value.ownBlock _ = some q) w2 w3 := Sep.trans (Sep.of_gr ((Gr.refl w2).alloc _ _)) (Sep.grown hgb fun q hq => hq)
      have HB3 := Lib.hid (hs3.owns HB2.out (fun q hq e => own_apart HB2.out HC2.out (by decide) q hq e))
      have HG3 := Lib.hid (Sep.toGr HG2.out hs3 (fun q hq => by have := HC2.out.lt q hq; omega))
      have HC3 := Lib.hid (show w3.ownsRow w.heap.size 38 6 c3 (k + 1) (cdV (zip0 (ops kd (k + 1)))) from by
        rw [ops_snoc, zip0_snoc]; exact hown3)
      clear hown3 hgb hblk hs3
      go_wp2
      exact ⟨⟨k + 1, HLT.out, by first | rfl | go_num, HG3.out, HB3.out, HC3.out⟩, by have := HLT.out; simp [intOf]; omega⟩
    · obtain rfl : m = k := by omega
      have HR1 := Lib.hid (cdR_zip (fun d hd => by have := nil_l kd m 0 d (by rw [show cls 0 = [] from rfl, List.append_nil]; exact hd); exact this) (show wr.ownsRow w.heap.size 38 6 (.slice xc m cc) (ops kd m).length (cdV (zip0 (ops kd m))) from by rw [ops_l]; exact HC.out))
      go_wp2_with fail
      refine (HWA.out wr HG.out (.slice xc m cc) (ops kd m) m 0 kd HK.out (by rw [show cls 0 = [] from rfl, List.append_nil]) (by have := HM8.out; omega) HR1.out).mono ?_
      intro e w2 h2
      rw [zip0_fst, wrS_ok, ok_open HK.out] at h2
      obtain ⟨rfl, hg2⟩ : e = .returned (.tuple #[.slice none 0 0, .int .i64 1]) ∧ Gr wr w2 := h2
      have HG2 := Lib.hid (gr_trans HG.out hg2)
      have HB2 := Lib.hid (own_gr HB.out hg2)
      have HC2 := Lib.hid (own_gr HC.out hg2)
      clear hg2
      go_wp2_with fail
      have hbl : w2.ownsRow w.heap.size 5 1 (.slice xb (2 * m) cb) (insF (ops kd m)).length (u8s (insF (ops kd m))) := by rw [ops_len HK.out]; exact HB2.out
      have hby := HBA.out m 0
      rw [show cls 0 = [] from rfl, List.append_nil] at hby
      refine (HRA.out w2 HG2.out (.slice xb (2 * m) cb) _ (insF (ops kd m)) hby (by rw [ops_len HK.out]; have := HM8.out; omega) hbl).mono ?_
      intro e w3 h3
      rw [read_open HK.out HMC.out] at h3
      have h3' : e = .returned (.tuple #[.slice none 0 0, .int .i64 0, .int .i64 10]) ∧ Gr w2 w3 := by
        rcases h3 with ⟨_, _, _, h4, h5⟩ | ⟨h, _⟩
        · exact ⟨h4, h5⟩
        · exact absurd h (by decide)
      obtain ⟨rfl, hg3⟩ := h3'
      have HG3 := Lib.hid (gr_trans HG2.out hg3)
      have HB3 := Lib.hid (own_gr HB2.out hg3)
      have HC3 := Lib.hid (own_gr HC2.out hg3)
      clear hg3 hbl hby h3
      have y1 : decide ((m : Int) ≤ 128) = true := by exact decide_eq_true (by have := HMC.out; omega)
      have y2 : decide ((m : Int) > 128) = false := by exact decide_eq_false (by have := HMC.out; omega)
      go_wp2_with fail
      clear y1 y2
      go_loopw [6, 7, 14] (fun bv cv i wr => ∃ k : Nat, k ≤ m + 1 ∧ i = .int .i64 k ∧ Gr w wr ∧ wr.ownsRow w.heap.size 5 1 bv (2 * m + k) (u8s (insF (ops kd m ++ cls k))) ∧ wr.ownsRow w.heap.size 38 6 cv (m + k) (cdV (zip0 (ops kd m ++ cls k)))) (fun _ _ i _ => m + 1 - (intOf i).toNat)
      case atStart => exact ⟨0, by omega, rfl, HG3.out, by rw [show cls 0 = [] from rfl, List.append_nil]; exact HB3.out, by rw [show cls 0 = [] from rfl, List.append_nil]; exact HC3.out⟩
      case round =>
        clear HG3 HB3 HC3 HG2 HB2 HC2 HG HB HC HR1
        obtain ⟨k, hk, rfl, hg, hb, hc⟩ := hrel
        obtain ⟨xb2, cb2, rfl⟩ := own_slice hb
        obtain ⟨xc2, cc2, rfl⟩ := own_slice hc
        have HG := Lib.hid hg
        have HB := Lib.hid hb
        have HC := Lib.hid hc
        clear hg hb hc
        by_cases hlt : k ≤ m
        · have hkn : (k : Int) ≤ (m : Int) := by omega
          have TK : IntKind.i64.wrap ((k : Int) + 1) = (k : Int) + 1 := by have := HM8.out; rw [IntKind.wrap_i64]; omega
          have HLT := Lib.hid hlt
          go_wp2_with (at_builtin; refine wpList_append_at rfl _ _ 22 rfl w.heap.size 5 i8 (.int .u8 0) 1 1 Try.underlying22 HI8.out HZ08.out HZ18.out HZ28.out rfl (by decide) (.slice xb2 (2 * m + k) cb2) (2 * m + k) (u8s (insF (ops kd m ++ cls k))) rfl (World.ownsRow.alloc HB.out _) (.slice (some ⟨wr.heap.size, 0, none⟩) 1 1) 1 (#[.int .u8 11] : Array Value).toList rfl (src_lit wr #[.int .u8 11] 5 1 1) rfl (fun u hu => by simp at hu; subst hu; rfl) ?c3 ?c4 ?c5 ?_)
          case c3 => have := HM8.out; have := HLT.out; unfold maxLen; omega
          case c4 => have := HM8.out; have := HLT.out; omega
          case c5 => have := HG.out.size; simp; omega
          intro b2 w2 hown2 hgb hblk
          have hs2 : Sep (fun q => Value.ownBlock _ = some q) wr w2 := Sep.trans (Sep.of_gr ((Gr.refl wr).alloc _ _)) (Sep.grown hgb fun q hq => hq)
          have HC2 := Lib.hid (hs2.owns HC.out (fun q hq e => own_apart HB.out HC.out (by decide) q e hq))
          have HG2 := Lib.hid (Sep.toGr HG.out hs2 (fun q hq => by have := HB.out.lt q hq; omega))
          have HB2 := Lib.hid (show w2.ownsRow w.heap.size 5 1 b2 (2 * m + (k + 1)) (u8s (insF (ops kd m ++ cls (k + 1)))) from by
            rw [insF_cls, u8s_app]; exact hown2)
          clear hown2 hgb hblk hs2
          go_wp2_with (at_builtin; refine wpList_append_at rfl _ _ 24 rfl w.heap.size 38 i6 (.agg #[.int .i64 0, .int .i64 0, .int .i64 0, .int .u64 0, .int .u64 0, .slice none 0 0]) 6 64 Try.underlying24 HI6.out HZ06.out HZ16.out HZ26.out rfl (by decide) (.slice xc2 (m + k) cc2) (m + k) (cdV (zip0 (ops kd m ++ cls k))) rfl (World.ownsRow.alloc HC2.out _) (.slice (some ⟨w2.heap.size, 0, none⟩) 1 1) 1 (#[.int .i64 11, .int .i64 0, .int .i64 0, .int .u64 0, .int .u64 0, .slice none 0 0] : Array Value).toList rfl (src_lit w2 #[.int .i64 11, .int .i64 0, .int .i64 0, .int .u64 0, .int .u64 0, .slice none 0 0] 38 1 1) rfl (inV_all clI (.slice none 0 0) rfl) ?c3 ?c4 ?c5 ?_)
          case c3 => have := HM8.out; have := HLT.out; unfold maxLen; omega
          case c4 => have := HM8.out; have := HLT.out; omega
          case c5 => have := HG2.out.size; simp; omega
          intro c3 w3 hown3 hgb hblk
          have hs3 : Sep (fun q => Value.ownBlock _ = some q) w2 w3 := Sep.trans (Sep.of_gr ((Gr.refl w2).alloc _ _)) (Sep.grown hgb fun q hq => hq)
          have HB3 := Lib.hid (hs3.owns HB2.out (fun q hq e => own_apart HB2.out HC2.out (by decide) q hq e))
          have HG3 := Lib.hid (Sep.toGr HG2.out hs3 (fun q hq => by have := HC2.out.lt q hq; omega))
          have HC3 := Lib.hid (show w3.ownsRow w.heap.size 38 6 c3 (m + (k + 1)) (cdV (zip0 (ops kd m ++ cls (k + 1)))) from by
            rw [cls_snoc, zip0_snoc]; exact hown3)
          clear hown3 hgb hblk hs3
          go_wp2
          exact ⟨⟨k + 1, by have := HLT.out; omega, by first | rfl | go_num, HG3.out, HB3.out, HC3.out⟩, by have := HLT.out; simp [intOf]; omega⟩
        · obtain rfl : k = m + 1 := by omega
          have HG4 := Lib.hid HG.out
          have HB4 := Lib.hid HB.out
          have HC4 := Lib.hid HC.out
          have HRR := Lib.hid (cdR_zip (nil_l kd m (m + 1)) (show wr.ownsRow w.heap.size 38 6 (.slice xc2 (m + (m + 1)) cc2) (ops kd m ++ cls (m + 1)).length (cdV (zip0 (ops kd m ++ cls (m + 1)))) from by rw [List.length_append, ops_l, cls_l]; exact HC.out))
          clear HG HB HC
          go_wp2_with fail
          refine (HWA.out wr HG4.out (.slice xc2 (m + (m + 1)) cc2) (ops kd m ++ cls (m + 1)) m (m + 1) kd HK.out rfl (by have := HM8.out; omega) HRR.out).mono ?_
          intro e w5 h5
          rw [zip0_fst, wrS_ok, if_pos (ok_nest HK.out HMC.out), List.nil_append] at h5
          obtain ⟨sv, rfl, hg5, ho5⟩ := h5
          obtain ⟨xs, cs, rfl⟩ := own_slice ho5
          have hll : (insF (ops kd m ++ cls (m + 1))).length = 2 * m + (m + 1) := by rw [cls_len, ops_len HK.out]
          have hBy := HBA.out m (m + 1)
          have hRd := read_wr (ok_nest HK.out HMC.out) (inB_all HK.out m (m + 1))
          have HB5' := own_gr HB4.out hg5
          generalize insF (ops kd m ++ cls (m + 1)) = L at *
          rw [← hll] at HB5' ⊢
          have HB5 := Lib.hid HB5'
          have HG5 := Lib.hid (gr_trans HG4.out hg5)
          have HC5 := Lib.hid (own_gr HC4.out hg5)
          have HO5 := Lib.hid ho5
          have HLL := Lib.hid hll
          clear hg5 ho5 HB5' hll
          go_wp2_with fail
          refine (HRA.out w5 HG5.out (.slice xb2 L.length cb2) _ L hBy (by have := HM8.out; have := HLL.out; omega) HB5.out).mono ?_
          intro e w6 h6
          rw [hRd] at h6
          rcases h6 with ⟨h, _⟩ | ⟨_, cv, P, rfl, hg6, hP, hcd⟩
          · exact absurd rfl h
          dsimp only at hP
          obtain ⟨z, c6, rfl⟩ := own_slice hcd.1
          have hPl : P.length = m + (m + 1) := by have := congrArg List.length hP; simpa [ops_l, cls_l] using this
          have hr6 := cdR_own hcd
          rw [hPl] at hr6 ⊢
          have HG6 := Lib.hid (gr_trans HG5.out hg6)
          have HSM := Lib.hid (same_any hr6 (cdR_zip (nil_l kd m (m + 1)) (show w6.ownsRow w.heap.size 38 6 (.slice xc2 (m + (m + 1)) cc2) (ops kd m ++ cls (m + 1)).length _ from by rw [List.length_append, ops_l, cls_l]; exact own_gr HC5.out hg6)) (by rw [hP, zip0_fst]) (fun p hp => by
            have h9 : p.1 ∈ ops kd m ++ cls (m + 1) := by rw [← hP]; exact List.mem_map_of_mem hp
            rw [nil_l kd m (m + 1) p.1 h9]; simp) (by have := HM8.out; omega))
          have hs1 := str_of_owns (own_gr HO5.out hg6)
          have hs2 := str_of_owns (own_gr HB5.out hg6)
          unfold Str at hs1 hs2
          clear hg6 hP hcd hPl hr6 hRd hBy
          have y1 : decide ((m : Int) ≤ 128) = true := by exact decide_eq_true (by have := HMC.out; omega)
          have y2 : decide ((m : Int) > 128) = false := by exact decide_eq_false (by have := HMC.out; omega)
          go_wp2_with fail
          refine HSM.out.mono ?_
          rintro e w7 ⟨rfl, hg7⟩
          have HG7 := Lib.hid (gr_trans HG6.out hg7)
          clear hg7
          go_wp2
          go_ret
          exact ⟨rfl, HG7.out⟩
set_option maxRecDepth 100000 in
set_option maxHeartbeats 4000000 in
theorem nest_gt (m : Nat) (hm8 : m < 256) (hmc : m > 128) (op : Int) (w : World) (hm : Ins.Mx w) :
    Calls Try.prog 7 #[.int .u8 m, .int .i64 op] w fun e w' => e = .returned (.bool true) ∧ Gr w w' := by
  obtain ⟨u, hu⟩ : ∃ u, IntKind.u64.wrap op = u := ⟨_, rfl⟩
  have hu0 : 0 ≤ u ∧ u < 18446744073709551616 := by rw [← hu, IntKind.wrap_u64]; omega
  have hwz := mx_size hm
  have HMW := Lib.hid hm
  have HM8 := Lib.hid hm8
  have HMC := Lib.hid hmc
  have HWA := Lib.hid (fun wx (hg : Gr w wx) v (D : List In) (k j : Nat) kd (hk : Kd kd) (hD : D = ops kd k ++ cls j) (hs : k + j ≤ 1000) (hr : CdR wx v (zip0 D)) => write_any (v := v) (P := zip0 D) (Ins.mx_gr hm hg) hr (fun p hp => by
    obtain ⟨d, hd, rfl⟩ := List.mem_map.1 hp
    subst hD
    exact (inB_all hk k j d hd).1) (by rw [zip0_fst, szP_nil D (by subst hD; exact nil_l kd k j)]; subst hD; rw [List.length_append, ops_l, cls_l]; omega) (Nat.lt_of_lt_of_le hwz hg.size))
  have HRA := Lib.hid (fun wx (hg : Gr w wx) v base (L : List Int) (hb : byL L) (hl : L.length ≤ 100000) (ho : wx.ownsRow base 5 1 v L.length (u8s L)) => read_any (w := wx) (sv := v) (len := L.length) 0 (lst_by L hb) (Ins.mx_gr hm hg) (u8s_of_owns ho) (own_in ho) (by omega) (Nat.lt_of_lt_of_le hwz hg.size))
  clear hm hwz hmc
  obtain ⟨i8, hi, hz0, hz1, hz2⟩ := info_parts info8
  have HI8 := Lib.hid hi
  have HZ08 := Lib.hid hz0
  have HZ18 := Lib.hid hz1
  have HZ28 := Lib.hid hz2
  clear hi hz0 hz1 hz2
  obtain ⟨i6, hi, hq0, hq1, hq2⟩ := info_parts infoIns
  have HI6 := Lib.hid hi
  have HZ06 := Lib.hid hq0
  have HZ16 := Lib.hid hq1
  have HZ26 := Lib.hid hq2
  clear hi hq0 hq1 hq2
  go_enter Try.func7, Try.ntmps7
  go_wp2_with fail
  refine (awake_any _ HMW.out).mono ?_
  rintro e w1 ⟨rfl, hg1⟩
  have HG1 := Lib.hid hg1
  clear hg1
  go_wp2_with fail
  have hkd0 : Kd (2 + u % 3) := by unfold Kd; omega
  generalize 2 + u % 3 = kd at *
  have HK := Lib.hid hkd0
  have K1 : IntKind.u8.wrap kd = kd := by rw [IntKind.wrap_u8]; have := HK.out; unfold Kd at this; omega
  clear hkd0 hu hu0
  have HBA := Lib.hid (fun (k j : Nat) => show byL (insF (ops kd k ++ cls j)) from by
    rw [insF_app]
    refine byL.app ?_ ?_
    · intro x hx
      obtain ⟨d, hd, hx⟩ := List.mem_flatMap.1 hx
      rw [(List.mem_replicate.1 hd).2, insB_op HK.out] at hx
      have := HK.out
      unfold Kd at this
      simp at hx
      omega
    · intro x hx
      obtain ⟨d, hd, hx⟩ := List.mem_flatMap.1 hx
      rw [(List.mem_replicate.1 hd).2, insB_cl] at hx
      simp at hx
      omega)
  go_loopw [6, 7, 8] (fun bv cv i wr => ∃ k : Nat, k ≤ m ∧ i = .int .i64 k ∧ Gr w wr ∧ wr.ownsRow w.heap.size 5 1 bv (2 * k) (u8s (insF (ops kd k))) ∧ wr.ownsRow w.heap.size 38 6 cv k (cdV (zip0 (ops kd k)))) (fun _ _ i _ => m - (intOf i).toNat)
  case atStart => exact ⟨0, by omega, rfl, HG1.out, World.ownsRow_nil _ _ _ _, World.ownsRow_nil _ _ _ _⟩
  case round =>
    obtain ⟨k, hk, rfl, hg, hb, hc⟩ := hrel
    obtain ⟨xb, cb, rfl⟩ := own_slice hb
    obtain ⟨xc, cc, rfl⟩ := own_slice hc
    have HG := Lib.hid hg
    have HB := Lib.hid hb
    have HC := Lib.hid hc
    clear hg hb hc
    by_cases hlt : k < m
    · have hkn : (k : Int) < (m : Int) := by omega
      have TK : IntKind.i64.wrap ((k : Int) + 1) = (k : Int) + 1 := by have := HM8.out; rw [IntKind.wrap_i64]; omega
      have HLT := Lib.hid hlt
      go_wp2_with (at_builtin; refine wpList_append_at rfl _ _ 22 rfl w.heap.size 5 i8 (.int .u8 0) 1 1 Try.underlying22 HI8.out HZ08.out HZ18.out HZ28.out rfl (by decide) (.slice xb (2 * k) cb) (2 * k) (u8s (insF (ops kd k))) rfl (World.ownsRow.alloc HB.out _) (.slice (some ⟨wr.heap.size, 0, none⟩) 2 2) 2 (#[.int .u8 kd, .int .u8 64] : Array Value).toList rfl (src_lit wr #[.int .u8 kd, .int .u8 64] 5 2 2) rfl (fun u hu => by simp at hu; rcases hu with rfl | rfl <;> rfl) ?c3 ?c4 ?c5 ?_)
      case c3 => have := HM8.out; have := HLT.out; unfold maxLen; omega
      case c4 => have := HM8.out; have := HLT.out; omega
      case c5 => have := HG.out.size; simp; omega
      intro b2 w2 hown2 hgb hblk
      have hs2 : Sep (fun q => Value.ownBlock _ = some q) wr w2 := Sep.trans (Sep.of_gr ((Gr.refl wr).alloc _ _)) (Sep.grown hgb fun q hq => hq)
      have HC2 := Lib.hid (hs2.owns HC.out (fun q hq e => own_apart HB.out HC.out (by decide) q e hq))
      have HG2 := Lib.hid (Sep.toGr HG.out hs2 (fun q hq => by have := HB.out.lt q hq; omega))
      have HB2 := Lib.hid (show w2.ownsRow w.heap.size 5 1 b2 (2 * (k + 1)) (u8s (insF (ops kd (k + 1)))) from by
        rw [insF_ops HK.out, u8s_app, show 2 * (k + 1) = 2 * k + 2 by omega]; exact hown2)
      clear hown2 hgb hblk hs2
      go_wp2_with (at_builtin; refine wpList_append_at rfl _ _ 24 rfl w.heap.size 38 i6 (.agg #[.int .i64 0, .int .i64 0, .int .i64 0, .int .u64 0, .int .u64 0, .slice none 0 0]) 6 64 Try.underlying24 HI6.out HZ06.out HZ16.out HZ26.out rfl (by decide) (.slice xc k cc) k (cdV (zip0 (ops kd k))) rfl (World.ownsRow.alloc HC2.out _) (.slice (some ⟨w2.heap.size, 0, none⟩) 1 1) 1 (#[.int .i64 kd, .int .i64 (-64), .int .i64 0, .int .u64 0, .int .u64 0, .slice none 0 0] : Array Value).toList rfl (src_lit w2 #[.int .i64 kd, .int .i64 (-64), .int .i64 0, .int .u64 0, .int .u64 0, .slice none 0 0] 38 1 1) rfl (inV_all (opI kd) (.slice none 0 0) rfl) ?c3 ?c4 ?c5 ?_)
      case c3 => have := HM8.out; have := HLT.out; unfold maxLen; omega
      case c4 => have := HM8.out; have := HLT.out; omega
      case c5 => have := HG2.out.size; simp; omega
      intro c3 w3 hown3 hgb hblk
      have hs3 : Sep (fun q => Value.ownBlock _ = some q) w2 w3 := Sep.trans (Sep.of_gr ((Gr.refl w2).alloc _ _)) (Sep.grown hgb fun q hq => hq)
      have HB3 := Lib.hid (hs3.owns HB2.out (fun q hq e => own_apart HB2.out HC2.out (by decide) q hq e))
      have HG3 := Lib.hid (Sep.toGr HG2.out hs3 (fun q hq => by have := HC2.out.lt q hq; omega))
      have HC3 := Lib.hid (show w3.ownsRow w.heap.size 38 6 c3 (k + 1) (cdV (zip0 (ops kd (k + 1)))) from by
        rw [ops_snoc, zip0_snoc]; exact hown3)
      clear hown3 hgb hblk hs3
      go_wp2
      exact ⟨⟨k + 1, HLT.out, by first | rfl | go_num, HG3.out, HB3.out, HC3.out⟩, by have := HLT.out; simp [intOf]; omega⟩
    · obtain rfl : m = k := by omega
      have HR1 := Lib.hid (cdR_zip (fun d hd => by have := nil_l kd m 0 d (by rw [show cls 0 = [] from rfl, List.append_nil]; exact hd); exact this) (show wr.ownsRow w.heap.size 38 6 (.slice xc m cc) (ops kd m).length (cdV (zip0 (ops kd m))) from by rw [ops_l]; exact HC.out))
      go_wp2_with fail
      refine (HWA.out wr HG.out (.slice xc m cc) (ops kd m) m 0 kd HK.out (by rw [show cls 0 = [] from rfl, List.append_nil]) (by have := HM8.out; omega) HR1.out).mono ?_
      intro e w2 h2
      rw [zip0_fst, wrS_ok, ok_open HK.out] at h2
      obtain ⟨rfl, hg2⟩ : e = .returned (.tuple #[.slice none 0 0, .int .i64 1]) ∧ Gr wr w2 := h2
      have HG2 := Lib.hid (gr_trans HG.out hg2)
      have HB2 := Lib.hid (own_gr HB.out hg2)
      have HC2 := Lib.hid (own_gr HC.out hg2)
      clear hg2
      go_wp2_with fail
      have hbl : w2.ownsRow w.heap.size 5 1 (.slice xb (2 * m) cb) (insF (ops kd m)).length (u8s (insF (ops kd m))) := by rw [ops_len HK.out]; exact HB2.out
      have hby := HBA.out m 0
      rw [show cls 0 = [] from rfl, List.append_nil] at hby
      refine (HRA.out w2 HG2.out (.slice xb (2 * m) cb) _ (insF (ops kd m)) hby (by rw [ops_len HK.out]; have := HM8.out; omega) hbl).mono ?_
      intro e w3 h3
      have hdp := read_deep HK.out (show 128 < m from HMC.out) []
      rw [List.append_nil] at hdp
      rw [hdp] at h3
      have h3' : e = .returned (.tuple #[.slice none 0 0, .int .i64 0, .int .i64 3]) ∧ Gr w2 w3 := by
        rcases h3 with ⟨_, _, _, h4, h5⟩ | ⟨h, _⟩
        · exact ⟨h4, h5⟩
        · exact absurd h (by decide)
      obtain ⟨rfl, hg3⟩ := h3'
      have HG3 := Lib.hid (gr_trans HG2.out hg3)
      have HB3 := Lib.hid (own_gr HB2.out hg3)
      have HC3 := Lib.hid (own_gr HC2.out hg3)
      clear hg3 hbl hby h3
      have y1 : decide ((m : Int) ≤ 128) = false := by exact decide_eq_false (by have := HMC.out; omega)
      have y2 : decide ((m : Int) > 128) = true := by exact decide_eq_true (by have := HMC.out; omega)
      go_wp2_with fail
      clear y1 y2
      go_loopw [6, 7, 14] (fun bv cv i wr => ∃ k : Nat, k ≤ m + 1 ∧ i = .int .i64 k ∧ Gr w wr ∧ wr.ownsRow w.heap.size 5 1 bv (2 * m + k) (u8s (insF (ops kd m ++ cls k))) ∧ wr.ownsRow w.heap.size 38 6 cv (m + k) (cdV (zip0 (ops kd m ++ cls k)))) (fun _ _ i _ => m + 1 - (intOf i).toNat)
      case atStart => exact ⟨0, by omega, rfl, HG3.out, by rw [show cls 0 = [] from rfl, List.append_nil]; exact HB3.out, by rw [show cls 0 = [] from rfl, List.append_nil]; exact HC3.out⟩
      case round =>
        clear HG3 HB3 HC3 HG2 HB2 HC2 HG HB HC HR1
        obtain ⟨k, hk, rfl, hg, hb, hc⟩ := hrel
        obtain ⟨xb2, cb2, rfl⟩ := own_slice hb
        obtain ⟨xc2, cc2, rfl⟩ := own_slice hc
        have HG := Lib.hid hg
        have HB := Lib.hid hb
        have HC := Lib.hid hc
        clear hg hb hc
        by_cases hlt : k ≤ m
        · have hkn : (k : Int) ≤ (m : Int) := by omega
          have TK : IntKind.i64.wrap ((k : Int) + 1) = (k : Int) + 1 := by have := HM8.out; rw [IntKind.wrap_i64]; omega
          have HLT := Lib.hid hlt
          go_wp2_with (at_builtin; refine wpList_append_at rfl _ _ 22 rfl w.heap.size 5 i8 (.int .u8 0) 1 1 Try.underlying22 HI8.out HZ08.out HZ18.out HZ28.out rfl (by decide) (.slice xb2 (2 * m + k) cb2) (2 * m + k) (u8s (insF (ops kd m ++ cls k))) rfl (World.ownsRow.alloc HB.out _) (.slice (some ⟨wr.heap.size, 0, none⟩) 1 1) 1 (#[.int .u8 11] : Array Value).toList rfl (src_lit wr #[.int .u8 11] 5 1 1) rfl (fun u hu => by simp at hu; subst hu; rfl) ?c3 ?c4 ?c5 ?_)
          case c3 => have := HM8.out; have := HLT.out; unfold maxLen; omega
          case c4 => have := HM8.out; have := HLT.out; omega
          case c5 => have := HG.out.size; simp; omega
          intro b2 w2 hown2 hgb hblk
          have hs2 : Sep (fun q => Value.ownBlock _ = some q) wr w2 := Sep.trans (Sep.of_gr ((Gr.refl wr).alloc _ _)) (Sep.grown hgb fun q hq => hq)
          have HC2 := Lib.hid (hs2.owns HC.out (fun q hq e => own_apart HB.out HC.out (by decide) q e hq))
          have HG2 := Lib.hid (Sep.toGr HG.out hs2 (fun q hq => by have := HB.out.lt q hq; omega))
          have HB2 := Lib.hid (show w2.ownsRow w.heap.size 5 1 b2 (2 * m + (k + 1)) (u8s (insF (ops kd m ++ cls (k + 1)))) from by
            rw [insF_cls, u8s_app]; exact hown2)
          clear hown2 hgb hblk hs2
          go_wp2_with (at_builtin; refine wpList_append_at rfl _ _ 24 rfl w.heap.size 38 i6 (.agg #[.int .i64 0, .int .i64 0, .int .i64 0, .int .u64 0, .int .u64 0, .slice none 0 0]) 6 64 Try.underlying24 HI6.out HZ06.out HZ16.out HZ26.out rfl (by decide) (.slice xc2 (m + k) cc2) (m + k) (cdV (zip0 (ops kd m ++ cls k))) rfl (World.ownsRow.alloc HC2.out _) (.slice (some ⟨w2.heap.size, 0, none⟩) 1 1) 1 (#[.int .i64 11, .int .i64 0, .int .i64 0, .int .u64 0, .int .u64 0, .slice none 0 0] : Array Value).toList rfl (src_lit w2 #[.int .i64 11, .int .i64 0, .int .i64 0, .int .u64 0, .int .u64 0, .slice none 0 0] 38 1 1) rfl (inV_all clI (.slice none 0 0) rfl) ?c3 ?c4 ?c5 ?_)
          case c3 => have := HM8.out; have := HLT.out; unfold maxLen; omega
          case c4 => have := HM8.out; have := HLT.out; omega
          case c5 => have := HG2.out.size; simp; omega
          intro c3 w3 hown3 hgb hblk
          have hs3 : Sep (fun q => Value.ownBlock _ = some q) w2 w3 := Sep.trans (Sep.of_gr ((Gr.refl w2).alloc _ _)) (Sep.grown hgb fun q hq => hq)
          have HB3 := Lib.hid (hs3.owns HB2.out (fun q hq e => own_apart HB2.out HC2.out (by decide) q hq e))
          have HG3 := Lib.hid (Sep.toGr HG2.out hs3 (fun q hq => by have := HC2.out.lt q hq; omega))
          have HC3 := Lib.hid (show w3.ownsRow w.heap.size 38 6 c3 (m + (k + 1)) (cdV (zip0 (ops kd m ++ cls (k + 1)))) from by
            rw [cls_snoc, zip0_snoc]; exact hown3)
          clear hown3 hgb hblk hs3
          go_wp2
          exact ⟨⟨k + 1, by have := HLT.out; omega, by first | rfl | go_num, HG3.out, HB3.out, HC3.out⟩, by have := HLT.out; simp [intOf]; omega⟩
        · obtain rfl : k = m + 1 := by omega
          have HG4 := Lib.hid HG.out
          have HB4 := Lib.hid HB.out
          have HC4 := Lib.hid HC.out
          have HRR := Lib.hid (cdR_zip (nil_l kd m (m + 1)) (show wr.ownsRow w.heap.size 38 6 (.slice xc2 (m + (m + 1)) cc2) (ops kd m ++ cls (m + 1)).length (cdV (zip0 (ops kd m ++ cls (m + 1)))) from by rw [List.length_append, ops_l, cls_l]; exact HC.out))
          clear HG HB HC
          go_wp2_with fail
          refine (HWA.out wr HG4.out (.slice xc2 (m + (m + 1)) cc2) (ops kd m ++ cls (m + 1)) m (m + 1) kd HK.out rfl (by have := HM8.out; omega) HRR.out).mono ?_
          intro e w5 h5
          rw [zip0_fst, wrS_ok, ok_deep HK.out (show 128 < m from HMC.out)] at h5
          obtain ⟨rfl, hg5⟩ : e = .returned (.tuple #[.slice none 0 0, .int .i64 1]) ∧ Gr wr w5 := h5
          have hll : (insF (ops kd m ++ cls (m + 1))).length = 2 * m + (m + 1) := by rw [cls_len, ops_len HK.out]
          have hBy := HBA.out m (m + 1)
          have hRd := read_deep HK.out (show 128 < m from HMC.out) (cls (m + 1))
          have HB5' := own_gr HB4.out hg5
          generalize insF (ops kd m ++ cls (m + 1)) = L at *
          rw [← hll] at HB5' ⊢
          have HB5 := Lib.hid HB5'
          have HG5 := Lib.hid (gr_trans HG4.out hg5)
          have HLL := Lib.hid hll
          clear hg5 HB5' hll
          go_wp2_with fail
          refine (HRA.out w5 HG5.out (.slice xb2 L.length cb2) _ L hBy (by have := HM8.out; have := HLL.out; omega) HB5.out).mono ?_
          intro e w6 h6
          rw [hRd] at h6
          have h6' : e = .returned (.tuple #[.slice none 0 0, .int .i64 0, .int .i64 3]) ∧ Gr w5 w6 := by
            rcases h6 with ⟨_, _, _, h4, h5⟩ | ⟨h, _⟩
            · exact ⟨h4, h5⟩
            · exact absurd h (by decide)
          obtain ⟨rfl, hg6⟩ := h6'
          have HG6 := Lib.hid (gr_trans HG5.out hg6)
          clear hg6 hRd hBy h6
          have y1 : decide ((m : Int) ≤ 128) = false := by exact decide_eq_false (by have := HMC.out; omega)
          have y2 : decide ((m : Int) > 128) = true := by exact decide_eq_true (by have := HMC.out; omega)
          go_wp2
          go_ret
          exact ⟨rfl, HG6.out⟩
theorem nest_any (a op : Int) (ha : 0 ≤ a ∧ a < 256) (w : World) (hm : Ins.Mx w) :
    Calls Try.prog 7 #[.int .u8 a, .int .i64 op] w fun e w' => e = .returned (.bool true) ∧ Gr w w' := by
  obtain ⟨m, rfl⟩ := Int.eq_ofNat_of_zero_le ha.1
  by_cases h : m ≤ 128
  · exact nest_le m (by omega) h op w hm
  · exact nest_gt m (by omega) (by omega) op w hm
end Ex
end Go.Proofs.Ytebkabidojipoaa
