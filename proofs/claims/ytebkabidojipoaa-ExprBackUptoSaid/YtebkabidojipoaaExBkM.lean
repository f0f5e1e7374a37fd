/-
  Of layer 12: ExprBack. Condition: the library's MaxLen reads as some number.
-/
import Derived.Test.YtebkabidojipoaaExFoM
import Derived.Test.YtebkabidojipoaaExXM
import Derived.Test.YtebkabidojipoaaExOpM
namespace Go.Proofs.Ytebkabidojipoaa
open Go.RowKit VecM LebM
namespace Ex
theorem insF_sz : ∀ D : List In, (insF D).length ≤ 64 * szP D
  | [] => by simp [insF, szP]
  | d :: r => by
    have h1 := insF_sz r
    have h2 := opcL_len d.op
    have h3 := fldL_len d (fm d.op)
    rw [insF_cons, List.length_append]
    unfold insB szP
    rw [List.length_append]
    omega
theorem inB_of {P : List (In × Value)} (hR : ∀ q ∈ P, InR q.1) (hz : szP (P.map (·.1)) ≤ 1048576) : ∀ d ∈ P.map (·.1), InB d := fun d hd => by
  have h1 := szP_mem _ d hd
  obtain ⟨q, hq, rfl⟩ := List.mem_map.1 hd
  obtain ⟨a1, a2, a3, a4⟩ := hR q hq
  exact ⟨⟨a1, a2, a3, a4, by omega⟩, by omega⟩
set_option maxRecDepth 100000 in
set_option maxHeartbeats 4000000 in
theorem back_no {v : Value} {P : List (In × Value)} {w : World} (hm : Ins.Mx w) (hP : CdR w v P) (hR : ∀ q ∈ P, InR q.1) (hz : szP (P.map (·.1)) ≤ 1048576) (hok : okB (P.map (·.1)) [] false = false) (sv : Value) (cut : Int) :
    Calls Try.prog 5 #[v, sv, .int .i64 cut] w fun e w' => e = .returned (.bool true) ∧ Gr w w' := by
  have hwz := mx_size hm
  have HMW := Lib.hid hm
  have HW := Lib.hid (fun wx (hg : Gr w wx) => (write_any (v := v) (P := P) (Ins.mx_gr hm hg) (cdR_gr hP hg) (fun p hp => (inB_of hR hz p.1 (List.mem_map_of_mem hp)).1) hz (Nat.lt_of_lt_of_le hwz hg.size)).mono (show ∀ e w', WRX wx (wrS (P.map (·.1)) [] false []) e w' → e = .returned (.tuple #[.slice none 0 0, .int .i64 1]) ∧ Gr wx w' from by
    intro e w' h
    rw [wrS_ok, hok] at h
    exact h))
  clear hm hP hR hz hok hwz
  go_enter Try.func5, Try.ntmps5
  go_wp2_with fail
  refine (awake_any _ HMW.out).mono ?_
  rintro e w1 ⟨rfl, hg1⟩
  have HG1 := Lib.hid hg1
  clear hg1
  go_wp2_with fail
  refine (HW.out _ HG1.out).mono ?_
  rintro e w2 ⟨rfl, hg2⟩
  have HG2 := Lib.hid (gr_trans HG1.out hg2)
  clear hg2
  go_wp2
  go_ret
  exact ⟨rfl, HG2.out⟩
set_option maxRecDepth 100000 in
set_option maxHeartbeats 20000000 in
theorem back_yes {v : Value} {P : List (In × Value)} {w : World} (hm : Ins.Mx w) (hP : CdR w v P) (hR : ∀ q ∈ P, InR q.1) (hz : szP (P.map (·.1)) ≤ 1048576) (hok : okB (P.map (·.1)) [] false = true)
    {l : List Int} {n : Nat} {xs : Option Addr} {cs : Nat} (hl : ∀ x ∈ l, 0 ≤ x ∧ x < 256) (hn : l.length = n) (hll : n ≤ 1048576) (hsr : Src w (.slice xs n cs) n (u8s l)) (cut : Int) :
    Calls Try.prog 5 #[v, .slice xs n cs, .int .i64 cut] w fun e w' => e = .returned (.bool true) ∧ Gr w w' := by
  have hwz := mx_size hm
  have HMW := Lib.hid hm
  have hib := inB_of hR hz
  have hDz := szP_len (P.map (·.1))
  have hDm := szP_mem (P.map (·.1))
  have hLz := insF_sz (P.map (·.1))
  have hLb := insF_by _ _ _ hok
  obtain ⟨D, hD⟩ : ∃ D, P.map (·.1) = D := ⟨_, rfl⟩
  rw [hD] at hok hib hDz hDm hLz hLb hz
  have hK0 : 0 < (insF D).length := by
    obtain ⟨A, d, e, _⟩ := okB_last D [] hok
    have := insF_len D
    rw [e] at this ⊢
    simp only [List.length_append, List.length_singleton] at this
    omega
  have hBk : ∀ g : Nat → Int, ∀ p len : Nat, At g len p (insF D) → readS g len p = (D, ((p + (insF D).length : Nat) : Int), 0) := fun g p len hat => read_back hok hib hat
  have hSh : ∀ k, k < (insF D).length → readS (lst (insF D)) k 0 = ([], 0, 10) := fun k hk => read_short hok hib hk _ fun j _ => rfl
  have HW := Lib.hid (fun wx (hg : Gr w wx) => (write_any (v := v) (P := P) (Ins.mx_gr hm hg) (cdR_gr hP hg) (fun p hp => (hib p.1 (by rw [← hD]; exact List.mem_map_of_mem hp)).1) (by rw [hD]; exact hz) (Nat.lt_of_lt_of_le hwz hg.size)).mono (show ∀ e w', WRX wx (wrS (P.map (·.1)) [] false []) e w' → ∃ g c, e = .returned (.tuple #[.slice (some ⟨g, 0, none⟩) (insF D).length c, .int .i64 0]) ∧ Gr wx w' ∧ (insF D).length ≤ c ∧ w'.ownsRow wx.heap.size 5 1 (.slice (some ⟨g, 0, none⟩) (insF D).length c) (insF D).length (u8s (insF D)) from by
    intro e w' h
    rw [wrS_ok, hD, if_pos hok, List.nil_append] at h
    obtain ⟨sv, rfl, h1, h2⟩ := h
    obtain ⟨g, c, rfl, h3, _⟩ := own_some h2 hK0
    exact ⟨g, c, rfl, h1, h3, h2⟩))
  generalize insF D = L at *
  obtain ⟨K, hK⟩ : ∃ K, L.length = K := ⟨_, rfl⟩
  rw [hK] at hK0 hLz HW hBk hSh
  obtain ⟨u, hu⟩ : ∃ u, IntKind.u64.wrap cut = u := ⟨_, rfl⟩
  have hu0 : 0 ≤ u ∧ u < 18446744073709551616 := by rw [← hu, IntKind.wrap_u64]; omega
  obtain ⟨k, hk⟩ : ∃ k : Nat, u % (K : Int) = (k : Int) := Int.eq_ofNat_of_zero_le (Int.emod_nonneg _ (by omega))
  have hkK : k < K := by have := Int.emod_lt_of_pos u (show (0 : Int) < K by omega); omega
  have TK1 : IntKind.u64.wrap (K : Int) = (K : Int) := by rw [IntKind.wrap_u64]; omega
  have TK2 : IntKind.i64.wrap (k : Int) = (k : Int) := by rw [IntKind.wrap_i64]; omega
  have TK3 : IntKind.i64.wrap ((n : Int) + (K : Int)) = (n : Int) + (K : Int) := by rw [IntKind.wrap_i64]; omega
  have TK4 : wrap64 (k : Int) = (k : Int) := by unfold wrap64; omega
  have HTK2 := Lib.hid (And.intro ((Int.tmod_eq_emod_of_nonneg hu0.1 : Int.tmod u (K : Int) = u % (K : Int)).trans hk) TK4)
  have HTK := Lib.hid (And.intro TK1 (And.intro TK2 (And.intro TK3 hu)))
  clear hk TK4
  have hall : (l ++ L ++ l).length = n + K + n := by simp only [List.length_append, hn, hK]
  have hat : At (lst (l ++ L ++ l)) (n + K + n) n L := by
    refine ⟨fun j hj => ?_, by omega⟩
    unfold lst
    rw [List.append_assoc, List.getD_eq_getElem?_getD, List.getD_eq_getElem?_getD, List.getElem?_append_right (by omega), List.getElem?_append_left (by omega), hn, Nat.add_sub_cancel_left]
  have hRA := hBk _ _ _ hat
  have hRS := hSh k hkK
  have hba : byL (l ++ L ++ l) := (byL.app hl hLb).app hl
  have HRA := Lib.hid (fun wx (hg : Gr w wx) x c base (ho : wx.ownsRow base 5 1 (.slice x (n + K + n) c) (n + K + n) (u8s (l ++ L ++ l))) => (read_any (w := wx) (sv := .slice x (n + K + n) c) (len := n + K + n) (n : Int) (lst_by _ hba) (Ins.mx_gr hm hg) (by have := u8s_of_owns (l := l ++ L ++ l) (v := .slice x (n + K + n) c) (by rw [hall]; exact ho); rw [hall] at this; exact this) (own_in ho) (by omega) (Nat.lt_of_lt_of_le hwz hg.size)).mono (show ∀ e w', RDX wx (readS (lst (l ++ L ++ l)) (n + K + n) n) e w' → ∃ z m c2 P2, e = .returned (.tuple #[.slice z m c2, .int .i64 ((n : Int) + (K : Int)), .int .i64 0]) ∧ Gr wx w' ∧ P2.map (·.1) = D ∧ CdR w' (.slice z m c2) P2 from by
    intro e w' h
    rw [hRA] at h
    rcases h with ⟨h, _⟩ | ⟨_, cv, P2, rfl, hg1, hP2, hcd⟩
    · exact absurd rfl h
    · obtain ⟨z, c2, rfl⟩ := own_slice hcd.1
      exact ⟨z, _, c2, P2, by dsimp only; push_cast; rfl, hg1, hP2, cdR_own hcd⟩))
  have HRS := Lib.hid (fun wx (hg : Gr w wx) g c base (ho : wx.ownsRow base 5 1 (.slice (some ⟨g, 0, none⟩) K c) K (u8s L)) => (read_any (w := wx) (sv := .slice (some ⟨g, 0, none⟩) k c) (len := k) 0 (lst_by L hLb) (Ins.mx_gr hm hg) (u8s_cut (by have := u8s_of_owns (l := L) (v := .slice (some ⟨g, 0, none⟩) K c) (by rw [hK]; exact ho); rw [hK] at this; exact this) (by omega)) (fun q hq => own_in ho q (by simpa [Value.ownBlock] using hq)) (by omega) (Nat.lt_of_lt_of_le hwz hg.size)).mono (show ∀ e w', RDX wx (readS (lst L) k 0) e w' → e = .returned (.tuple #[.slice none 0 0, .int .i64 0, .int .i64 10]) ∧ Gr wx w' from by
    intro e w' h
    rw [hRS] at h
    rcases h with ⟨_, _, _, h4, h5⟩ | ⟨h, _⟩
    · exact ⟨h4, h5⟩
    · exact absurd h (by decide)))
  have HSM := Lib.hid (fun wx v1 (hg : Gr w wx) P1 (h1 : CdR wx v1 P1) (e1 : P1.map (·.1) = D) => same_any h1 (cdR_gr hP hg) (e1.trans hD.symm) (fun p hp => by have := hDm p.1 (by rw [← e1]; exact List.mem_map_of_mem hp); omega) (by have := congrArg List.length e1; simp only [List.length_map] at this; omega))
  have HSR := Lib.hid hsr
  have HN := Lib.hid hn
  have HK := Lib.hid hK
  have HKK := Lib.hid (show k < K ∧ 0 < K ∧ K ≤ 67108864 ∧ n ≤ 1048576 from ⟨hkK, hK0, by omega, hll⟩)
  have x0 : (K == 0) = false := by apply Bool.eq_false_iff.2; intro h; have := beq_iff_eq.1 h; omega
  have x1 : ((K : Int) == 0) = false := by apply Bool.eq_false_iff.2; intro h; have := beq_iff_eq.1 h; omega
  have x2 : ¬ (K : Int) = 0 := by omega
  have x3 : ¬ K = 0 := by omega
  clear hm hP hR hz hok hwz hib hDz hDm hLz hLb hBk hSh hu0 hu hkK TK1 TK2 TK3 hall hat hRA hRS hba hsr hn hK hK0 hll hD hl
  obtain ⟨i8, hi, hz0, hz1, hz2⟩ := info_parts info8
  have HI8 := Lib.hid hi
  have HZ08 := Lib.hid hz0
  have HZ18 := Lib.hid hz1
  have HZ28 := Lib.hid hz2
  clear hi hz0 hz1 hz2
  go_enter Try.func5, Try.ntmps5
  go_wp2_with fail
  refine (awake_any _ HMW.out).mono ?_
  rintro e w1 ⟨rfl, hg1⟩
  have HG1 := Lib.hid hg1
  clear hg1
  go_wp2_with fail
  refine (HW.out _ HG1.out).mono ?_
  rintro e w2 ⟨g, c, rfl, hg2, hc2, ho2⟩
  have HG2 := Lib.hid (gr_trans HG1.out hg2)
  have HO2 := Lib.hid ho2
  have HCC := Lib.hid hc2
  clear hg2 ho2 hc2
  go_wp2_with (at_builtin; refine wpList_append_at rfl _ _ 22 rfl w2.heap.size 5 i8 (.int .u8 0) 1 1 Try.underlying22 HI8.out HZ08.out HZ18.out HZ28.out rfl (by decide) (.slice none 0 0) 0 [] rfl (World.ownsRow_nil _ _ _ _) (.slice xs n cs) n (u8s l) rfl (src_gr HSR.out HG2.out) (by rw [_root_.Go.Proofs.Ytebkabidojipoaa.u8s_len, Nat.mul_one]; first | exact HN.out | exact HK.out) (u8s_one _) ?c3 ?c4 ?c5 ?_)
  case c3 => have := HKK.out; unfold maxLen; omega
  case c4 => have := HKK.out; omega
  case c5 => exact Nat.le_refl _
  intro v3 w3 hown hgb hblk
  have hs3 : Sep (fun q => Value.ownBlock _ = some q) w2 w3 := Sep.grown hgb fun q hq => hq
  have hg3 : Gr w2 w3 := Sep.toGr (Gr.refl w2) hs3 (fun q hq => by simp [Value.ownBlock] at hq)
  have HG3 := Lib.hid (gr_trans HG2.out hg3)
  have HB3 := Lib.hid (own_gr HO2.out hg3)
  have HR3 := Lib.hid (show w3.ownsRow w2.heap.size 5 1 v3 n (u8s l) from by first | exact hown | (have := hown; rw [Nat.zero_add, List.nil_append] at this; exact this))
  have HZ3 := Lib.hid hg3.size
  clear hown hgb hblk hs3 hg3
  go_wp2_with (at_builtin; refine wpList_append_at rfl _ _ 22 rfl w2.heap.size 5 i8 (.int .u8 0) 1 1 Try.underlying22 HI8.out HZ08.out HZ18.out HZ28.out rfl (by decide) v3 n (u8s l) rfl HR3.out (.slice (some ⟨g, 0, none⟩) K c) K (u8s L) rfl (src_own HB3.out) (by rw [_root_.Go.Proofs.Ytebkabidojipoaa.u8s_len, Nat.mul_one]; first | exact HN.out | exact HK.out) (u8s_one _) ?c3 ?c4 ?c5 ?_)
  case c3 => have := HKK.out; unfold maxLen; omega
  case c4 => have := HKK.out; omega
  case c5 => exact HZ3.out
  intro v4 w4 hown hgb hblk
  have hs4 : Sep (fun q => Value.ownBlock _ = some q) w3 w4 := Sep.grown hgb fun q hq => hq
  have HG4 := Lib.hid (Sep.toGr HG3.out hs4 (fun q hq => by have := HR3.out.lt q hq; have := HG2.out.size; omega))
  have HB4 := Lib.hid (hs4.owns HB3.out (fun q hq e => by have := HR3.out.lt q e; have := own_in HO2.out q hq; omega))
  have HR4 := Lib.hid (show w4.ownsRow w2.heap.size 5 1 v4 (n + K) (u8s (l ++ L)) from by rw [u8s_app]; exact hown)
  have HZ4 := Lib.hid (Nat.le_trans HZ3.out hs4.size)
  clear hown hgb hblk hs4
  go_wp2_with (at_builtin; refine wpList_append_at rfl _ _ 22 rfl w2.heap.size 5 i8 (.int .u8 0) 1 1 Try.underlying22 HI8.out HZ08.out HZ18.out HZ28.out rfl (by decide) v4 (n + K) (u8s (l ++ L)) rfl HR4.out (.slice xs n cs) n (u8s l) rfl (src_gr HSR.out HG4.out) (by rw [_root_.Go.Proofs.Ytebkabidojipoaa.u8s_len, Nat.mul_one]; first | exact HN.out | exact HK.out) (u8s_one _) ?c3 ?c4 ?c5 ?_)
  case c3 => have := HKK.out; unfold maxLen; omega
  case c4 => have := HKK.out; omega
  case c5 => exact HZ4.out
  intro v5 w5 hown hgb hblk
  have hs5 : Sep (fun q => Value.ownBlock _ = some q) w4 w5 := Sep.grown hgb fun q hq => hq
  have HG5 := Lib.hid (Sep.toGr HG4.out hs5 (fun q hq => by have := HR4.out.lt q hq; have := HG2.out.size; omega))
  have HB5 := Lib.hid (hs5.owns HB4.out (fun q hq e => by have := HR4.out.lt q e; have := own_in HO2.out q hq; omega))
  have hr5 : w5.ownsRow w2.heap.size 5 1 v5 (n + K + n) (u8s (l ++ L ++ l)) := by rw [u8s_app]; exact hown
  obtain ⟨x5, c5, rfl⟩ := own_slice hr5
  have HR5 := Lib.hid hr5
  clear hown hgb hblk hs5 hr5
  go_wp2_with fail
  refine (HRA.out _ HG5.out _ _ _ HR5.out).mono ?_
  rintro e w6 ⟨z, m, c6, P2, rfl, hg6, hP2, hr6⟩
  have HG6 := Lib.hid (gr_trans HG5.out hg6)
  have HB6 := Lib.hid (own_gr HB5.out hg6)
  have HP2 := Lib.hid hP2
  have HR6 := Lib.hid hr6
  clear hg6 hP2 hr6
  obtain ⟨TK1, TK2, TK3, hu⟩ := HTK.out
  have y1 : (k : Int) ≤ (c : Int) := by have := HKK.out; have := HCC.out; omega
  have y2 : k ≤ c := by have := HKK.out; have := HCC.out; omega
  obtain ⟨hkt, TK4⟩ := HTK2.out
  go_wp2_with fail
  refine (HRS.out _ HG6.out _ _ _ HB6.out).mono ?_
  rintro e w7 ⟨rfl, hg7⟩
  have HG7 := Lib.hid (gr_trans HG6.out hg7)
  have HSM7 := Lib.hid (HSM.out _ _ HG7.out P2 (cdR_gr HR6.out hg7) HP2.out)
  clear hg7
  go_wp2_with fail
  refine HSM7.out.mono ?_
  rintro e w8 ⟨rfl, hg8⟩
  have HG8 := Lib.hid (gr_trans HG7.out hg8)
  clear hg8
  go_wp2
  go_ret
  exact ⟨rfl, HG8.out⟩
theorem back_any {v sv : Value} {P : List (In × Value)} {w : World} (hm : Ins.Mx w) (hP : CdR w v P) (hR : ∀ q ∈ P, InR q.1) (hz : szP (P.map (·.1)) ≤ 1048576)
    (l : List Int) (hl : ∀ x ∈ l, 0 ≤ x ∧ x < 256) (hll : l.length ≤ 1048576) (hu : U8s w sv l.length (lst l)) (hsr : Src w sv l.length (u8s l)) (cut : Int) :
    Calls Try.prog 5 #[v, sv, .int .i64 cut] w fun e w' => e = .returned (.bool true) ∧ Gr w w' := by
  obtain ⟨xs, cs, rfl⟩ := u8s_slice hu
  cases hok : okB (P.map (·.1)) [] false with
  | false => exact back_no hm hP hR hz hok _ cut
  | true => exact back_yes hm hP hR hz hok hl rfl hll hsr cut
end Ex
end Go.Proofs.Ytebkabidojipoaa
