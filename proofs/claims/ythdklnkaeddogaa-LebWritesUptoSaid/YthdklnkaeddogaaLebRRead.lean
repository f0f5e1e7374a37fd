/-
  The reference's read: the bits of a number, one by one.
-/
import Derived.Test.YthdklnkaeddogaaLebRef
namespace Go.Proofs.Ythdklnkaeddogaa
open Go.RowKit LebM
/-- the first n bits from the byte at a on -/
def bl (f : Nat → Int) (a n : Nat) : List Value := (List.range n).map fun t => .int .i64 (bt (f (a + t / 7)) (t % 7))
theorem bl_len (f : Nat → Int) (a n : Nat) : (bl f a n).length = n * 1 := by unfold bl; simp
theorem bl_succ (f : Nat → Int) (a n : Nat) : bl f a (n + 1) = bl f a n ++ [.int .i64 (bt (f (a + n / 7)) (n % 7))] := by unfold bl; rw [List.range_succ]; simp
theorem bl_get (f : Nat → Int) (a n j : Nat) (h : j < n) : (bl f a n)[j]? = some (.int .i64 (bt (f (a + j / 7)) (j % 7))) := by unfold bl; simp [h]
theorem infoI : (Try.prog.info? 3).map (fun i => (i.zero, i.size, i.bytes)) = some (some (.int .i64 0), 1, 8) := by kernel_rfl
theorem ret_rr {lv : Value} {x y : Int} {r : Int × Int × Int × Int} (h : r.2.2.1 = x ∧ r.2.2.2 = y) : Ending.returned (.tuple #[lv, .int .i64 x, .int .i64 y]) = .returned (.tuple #[lv, .int .i64 r.2.2.1, .int .i64 r.2.2.2]) := by rw [h.1, h.2]
set_option maxRecDepth 100000 in
set_option maxHeartbeats 8000000 in
theorem rread_u_some (b off cap len a : Nat) (f : Nat → Int) (hf : By f) (bits : Int) (hb1 : 1 ≤ bits) (hb2 : bits ≤ 64) (hal : a ≤ len) (hl : len ≤ 4611686018427387904) (w : World) (hc : ∀ j, j < len → w.cell? ⟨b, off + j, none⟩ = some (.int .u8 (f j))) :
    Calls Try.prog 22 #[.slice (some ⟨b, off, none⟩) len cap, .int .i64 a, .int .i64 bits, .bool false] w fun e w' => ∃ lv, e = .returned (.tuple #[lv, .int .i64 (rd false f len bits a 10 0 0).2.2.1, .int .i64 (rd false f len bits a 10 0 0).2.2.2]) ∧ Gr w w' ∧ w'.ownsRow w.heap.size 3 1 lv (rd false f len bits a 10 0 0).2.1.toNat (bl f a (rd false f len bits a 10 0 0).2.1.toNat) := by
  have HC := Lib.hid hc
  have HF := Lib.hid hf
  have g1 : ¬ bits < 1 := by omega
  have g2 : ¬ 64 < bits := by omega
  have g3 : ¬ (len : Int) < (a : Int) := by omega
  obtain ⟨j0, hj, hj0, hj1, hj2⟩ := info_parts infoI
  have HJ := Lib.hid hj
  have HJ0 := Lib.hid hj0
  have HJ1 := Lib.hid hj1
  have HJ2 := Lib.hid hj2
  clear hc hf hj hj0 hj1 hj2
  generalize hR : rd false f len bits a 10 0 0 = R
  have HR := Lib.hid hR
  clear hR
  go_enter Try.func22, Try.ntmps22
  go_wp2_with fail
  go_loopw [11, 12] (fun lv kv wr => ∃ (k q : Nat) (xv : Int), q = 7 * k ∧ a + k ≤ len ∧ k ≤ 9 ∧ (q : Int) < bits ∧ kv = .int .i64 k ∧ Gr w wr ∧ wr.ownsRow w.heap.size 3 1 lv q (bl f a q) ∧ rd false f len bits a (10 - k) k xv = R) (fun _ kv _ => 10 - (intOf kv).toNat)
  case atStart => exact ⟨0, 0, 0, rfl, hal, by decide, by omega, rfl, Gr.refl _, World.ownsRow_nil _ _ _ _, HR.out⟩
  case round =>
    obtain ⟨k, q, xv, hq, hpl, hk, hqb, rfl, hg, hown, hr⟩ := hrel
    obtain ⟨m, hm⟩ : ∃ m, 10 - k = m + 1 := ⟨9 - k, by omega⟩
    rw [hm] at hr
    have HG := Lib.hid hg
    have HW := Lib.hid hown
    have HQ := Lib.hid hq
    have HRr := Lib.hid hr
    have HM := Lib.hid hm
    have hq7 : 7 * (k : Int) = (q : Int) := by omega
    have hq63 : q ≤ 63 := by omega
    clear hg hown hq hr hm
    by_cases hlt : a + k = len
    · have hge : (len : Int) ≤ (a : Int) + (k : Int) := by omega
      have HPl := Lib.hid hlt
      clear hlt
      go_wp2
      go_ret3
      have e := rd_short (s := false) (f := f) (bits := bits) (m := m) (x := xv) HPl.out
      rw [HRr.out] at e
      refine ⟨_, ret_rr ⟨by rw [e], by rw [e]⟩, HG.out, ?_⟩
      rw [e]; exact World.ownsRow_nil _ _ _ _
    · have hlt2 : (a : Int) + (k : Int) < (len : Int) := by omega
      have HNe := Lib.hid hlt
      have h1 := gr_cell HG.out (HC.out (a + k) (by omega))
      have HBd := Lib.hid (HF.out (a + k))
      have HFit := Lib.hid (fitU_bits (f (a + k)) HBd.out (bits - q) (by omega))
      have HQe := Lib.hid (show bits - 7 * (k : Int) = bits - q by omega)
      have HBit := Lib.hid (fun i (hi : i ≤ 7) wx => bit_any (f (a + k)) HBd.out i hi wx)
      generalize hcc : f (a + k) = c at *
      have HCc := Lib.hid hcc
      clear hlt hcc
      go_wp2_with fail
      go_loopw [11, 14] (fun lv iv wr => ∃ i : Nat, i ≤ 7 ∧ iv = .int .i64 i ∧ Gr w wr ∧ wr.ownsRow w.heap.size 3 1 lv (q + i) (bl f a (q + i)) ∧ ∀ j, j < i → okU c (bits - q) j) (fun _ iv _ => 7 - (intOf iv).toNat)
      case atStart => exact ⟨0, by decide, rfl, HG.out, HW.out, fun j hj => by omega⟩
      case round =>
        obtain ⟨i, hi, rfl, hg, hown, hok⟩ := hrel
        have HGi := Lib.hid hg
        have HWi := Lib.hid hown
        have HOk := Lib.hid hok
        clear hg hown hok
        by_cases hi7 : i < 7
        · have hi7' : (i : Int) < 7 := by omega
          have HBi := Lib.hid (HBit.out i hi)
          have hbd := bt_bd c i
          generalize hxx : bt c i = x at *
          have HXx := Lib.hid hxx
          clear hxx
          by_cases hL : bits ≤ (q : Int) + (i : Int)
          · have hge : decide (bits ≤ (q : Int) + (i : Int)) = true := decide_eq_true hL
            by_cases hb : x = 1
            · subst hb
              have HBad := Lib.hid (show ¬ okU c (bits - q) i from fun h => h ⟨by omega, HXx.out⟩)
              clear hL
              go_wp2_with fail
              go_quiet (first | (go_at_call 25; exact Calls.quiet_of_same ((HBi.out _).mono fun e w' h => ⟨h.1, h.2.symm⟩)))
              go_wp2
              go_ret3
              have e := rd_bad (s := false) (f := f) (bits := bits) (m := m) (x := xv) HNe.out (.inl (by
                rw [HCc.out, HQe.out]
                cases hfb : fitB false (lowI c) (bits - q) with
                | false => rfl
                | true => exact absurd (HFit.out.1 hfb i hi7) HBad.out))
              rw [HRr.out] at e
              refine ⟨_, ret_rr ⟨by rw [e], by rw [e]⟩, HGi.out.drewN _, ?_⟩
              rw [e]; exact World.ownsRow_nil _ _ _ _
            · have hb0 : x = 0 := by omega
              subst hb0
              have HOi := Lib.hid (show okU c (bits - q) i from fun h => hb (HXx.out.symm.trans h.2))
              clear hL hb
              go_wp2_with fail
              go_quiet (first | (go_at_call 25; exact Calls.quiet_of_same ((HBi.out _).mono fun e w' h => ⟨h.1, h.2.symm⟩)))
              go_wp2_with (first | (go_at_call 25; refine (HBi.out _).mono ?_; rintro e w' ⟨rfl, rfl⟩) | (at_builtin; refine wpList_append_src rfl _ _ 49 rfl w.heap.size 3 j0 (.int .i64 0) 1 8 Try.underlying49 HJ.out HJ0.out HJ1.out HJ2.out rfl (by decide) u11 (q + i) (bl f a (q + i)) rfl ((own_gr HWi.out ((Gr.refl wr).drewN _)).alloc _) (.slice (some ⟨wr.heap.size, 0, none⟩) 1 1) 1 [.int .i64 0] rfl (src_lit (wr.drewN _) #[.int .i64 0] _ 1 1) rfl (fun u hu => by simp at hu; subst hu; rfl) (by unfold maxLen; omega) (by omega) (by have := HGi.out.size; simp; omega) ?_))
              intro v' w3 hown3 hgb3
              have HG3 := Lib.hid (((HGi.out.drewN _).allocO _).grown hgb3 (fun q hq => (HWi.out.lt q hq).1))
              have HO3 := Lib.hid (show w3.ownsRow w.heap.size 3 1 v' (q + (i + 1)) (bl f a (q + (i + 1))) by
                rw [← Nat.add_assoc, bl_succ, show (q + i) / 7 = k by have := HQ.out; omega, show (q + i) % 7 = i by have := HQ.out; omega, HCc.out, HXx.out]; exact hown3)
              clear hown3 hgb3
              go_wp2
              exact ⟨⟨i + 1, by omega, by go_num, HG3.out, HO3.out, fun j hj => by
                by_cases hji : j = i
                · rw [hji]; exact HOi.out
                · exact HOk.out j (by omega)⟩, by simp [intOf]; omega⟩
          · have hge : decide (bits ≤ (q : Int) + (i : Int)) = false := decide_eq_false hL
            have HOi := Lib.hid (show okU c (bits - q) i from fun h => hL (by omega))
            clear hL
            go_wp2_with fail
            go_quiet (fail)
            go_wp2_with (first | (go_at_call 25; refine (HBi.out _).mono ?_; rintro e w' ⟨rfl, rfl⟩) | (at_builtin; refine wpList_append_src rfl _ _ 49 rfl w.heap.size 3 j0 (.int .i64 0) 1 8 Try.underlying49 HJ.out HJ0.out HJ1.out HJ2.out rfl (by decide) u11 (q + i) (bl f a (q + i)) rfl ((own_gr HWi.out ((Gr.refl wr).drewN _)).alloc _) (.slice (some ⟨wr.heap.size, 0, none⟩) 1 1) 1 [.int .i64 x] rfl (src_lit (wr.drewN _) #[.int .i64 x] _ 1 1) rfl (fun u hu => by simp at hu; subst hu; rfl) (by unfold maxLen; omega) (by omega) (by have := HGi.out.size; simp; omega) ?_))
            intro v' w3 hown3 hgb3
            have HG3 := Lib.hid (((HGi.out.drewN _).allocO _).grown hgb3 (fun q hq => (HWi.out.lt q hq).1))
            have HO3 := Lib.hid (show w3.ownsRow w.heap.size 3 1 v' (q + (i + 1)) (bl f a (q + (i + 1))) by
              rw [← Nat.add_assoc, bl_succ, show (q + i) / 7 = k by have := HQ.out; omega, show (q + i) % 7 = i by have := HQ.out; omega, HCc.out, HXx.out]; exact hown3)
            clear hown3 hgb3
            go_wp2
            exact ⟨⟨i + 1, by omega, by go_num, HG3.out, HO3.out, fun j hj => by
              by_cases hji : j = i
              · rw [hji]; exact HOi.out
              · exact HOk.out j (by omega)⟩, by simp [intOf]; omega⟩
        · obtain rfl : i = 7 := by omega
          have HFt := Lib.hid (show fitB false (lowI (f (a + k))) (bits - 7 * (k : Int)) = true by rw [HCc.out, HQe.out]; exact HFit.out.2 HOk.out)
          have HB7 := Lib.hid (HBit.out 7 (by decide))
          have hy7 := bt7 c HBd.out
          generalize bt c 7 = y at *
          obtain ⟨q', hq'⟩ : ∃ q' : Nat, q' = q + 7 := ⟨_, rfl⟩
          have hq8 : 7 * ((k : Int) + 1) = (q' : Int) := by omega
          have HQ' := Lib.hid hq'
          clear hq'
          by_cases hc : c < 128
          · rw [if_pos hc] at hy7
            subst hy7
            have HE := Lib.hid (rd_end (s := false) (f := f) (m := m) (x := xv) HNe.out HFt.out (by rw [HCc.out]; exact hc))
            clear hc
            have HFin := Lib.hid (show ∀ (v : Value) (w' : World), w'.ownsRow w.heap.size 3 1 v (q + 7) (bl f a (q + 7)) → w'.ownsRow w.heap.size 3 1 v R.2.1.toNat (bl f a R.2.1.toNat) from fun v w' h => by
              rw [← HRr.out, HE.out]
              have e : (7 * (k : Int) + 7).toNat = q + 7 := by have := HQ.out; omega
              rw [e]; exact h)
            by_cases hL : bits ≤ (q' : Int)
            · have hge : decide (bits ≤ (q' : Int)) = true := decide_eq_true hL
              clear hL
              go_wp2_with (go_at_call 25; refine (HB7.out _).mono ?_; rintro e w' ⟨rfl, rfl⟩)
              go_ret3
              exact ⟨_, ret_rr ⟨by rw [← HRr.out, HE.out], by rw [← HRr.out, HE.out]⟩, HGi.out, HFin.out _ _ HWi.out⟩
            · have hge : decide (bits ≤ (q' : Int)) = false := decide_eq_false hL
              clear hL
              go_wp2_with (go_at_call 25; refine (HB7.out _).mono ?_; rintro e w' ⟨rfl, rfl⟩)
              go_ret3
              exact ⟨_, ret_rr ⟨by rw [← HRr.out, HE.out], by rw [← HRr.out, HE.out]⟩, HGi.out, HFin.out _ _ HWi.out⟩
          · rw [if_neg hc] at hy7
            subst hy7
            by_cases hL : bits ≤ (q' : Int)
            · have hge : decide (bits ≤ (q' : Int)) = true := decide_eq_true hL
              have HE := Lib.hid (rd_bad (s := false) (f := f) (bits := bits) (m := m) (x := xv) HNe.out (.inr ⟨by have := HQ'.out; have := HQ.out; omega, by rw [HCc.out]; omega⟩))
              clear hL hc
              go_wp2_with (go_at_call 25; refine (HB7.out _).mono ?_; rintro e w' ⟨rfl, rfl⟩)
              go_ret3
              refine ⟨_, ret_rr ⟨by rw [← HRr.out, HE.out], by rw [← HRr.out, HE.out]⟩, HGi.out, ?_⟩
              rw [← HRr.out, HE.out]; exact World.ownsRow_nil _ _ _ _
            · have hge : decide (bits ≤ (q' : Int)) = false := decide_eq_false hL
              have HE := Lib.hid (rd_more (s := false) (f := f) (m := m) (x := xv) HNe.out HFt.out (by have := HQ'.out; have := HQ.out; omega) (by rw [HCc.out]; omega))
              have HLt := Lib.hid (show (q' : Int) < bits by omega)
              clear hL hc
              go_wp2_with (go_at_call 25; refine (HB7.out _).mono ?_; rintro e w' ⟨rfl, rfl⟩)
              exact ⟨⟨k + 1, q', _, by have := HQ'.out; have := HQ.out; omega, by have := HNe.out; omega, by have := HLt.out; have := HQ'.out; have := HQ.out; omega, HLt.out, by go_num, HGi.out, by rw [HQ'.out]; exact HWi.out, by
                rw [show 10 - (k + 1) = m by have := HM.out; omega, ← HE.out]; exact HRr.out⟩, by simp [intOf]; omega⟩
set_option maxRecDepth 100000 in
set_option maxHeartbeats 8000000 in
theorem rread_s_some (b off cap len a : Nat) (f : Nat → Int) (hf : By f) (bits : Int) (hb1 : 1 ≤ bits) (hb2 : bits ≤ 64) (hal : a ≤ len) (hl : len ≤ 4611686018427387904) (w : World) (hc : ∀ j, j < len → w.cell? ⟨b, off + j, none⟩ = some (.int .u8 (f j))) :
    Calls Try.prog 22 #[.slice (some ⟨b, off, none⟩) len cap, .int .i64 a, .int .i64 bits, .bool true] w fun e w' => ∃ lv, e = .returned (.tuple #[lv, .int .i64 (rd true f len bits a 10 0 0).2.2.1, .int .i64 (rd true f len bits a 10 0 0).2.2.2]) ∧ Gr w w' ∧ w'.ownsRow w.heap.size 3 1 lv (rd true f len bits a 10 0 0).2.1.toNat (bl f a (rd true f len bits a 10 0 0).2.1.toNat) := by
  have HC := Lib.hid hc
  have HF := Lib.hid hf
  have g1 : ¬ bits < 1 := by omega
  have g2 : ¬ 64 < bits := by omega
  have g3 : ¬ (len : Int) < (a : Int) := by omega
  obtain ⟨j0, hj, hj0, hj1, hj2⟩ := info_parts infoI
  have HJ := Lib.hid hj
  have HJ0 := Lib.hid hj0
  have HJ1 := Lib.hid hj1
  have HJ2 := Lib.hid hj2
  clear hc hf hj hj0 hj1 hj2
  generalize hR : rd true f len bits a 10 0 0 = R
  have HR := Lib.hid hR
  clear hR
  go_enter Try.func22, Try.ntmps22
  go_wp2_with fail
  go_loopw [11, 12] (fun lv kv wr => ∃ (k q : Nat) (xv : Int), q = 7 * k ∧ a + k ≤ len ∧ k ≤ 9 ∧ (q : Int) < bits ∧ kv = .int .i64 k ∧ Gr w wr ∧ wr.ownsRow w.heap.size 3 1 lv q (bl f a q) ∧ rd true f len bits a (10 - k) k xv = R) (fun _ kv _ => 10 - (intOf kv).toNat)
  case atStart => exact ⟨0, 0, 0, rfl, hal, by decide, by omega, rfl, Gr.refl _, World.ownsRow_nil _ _ _ _, HR.out⟩
  case round =>
    obtain ⟨k, q, xv, hq, hpl, hk, hqb, rfl, hg, hown, hr⟩ := hrel
    obtain ⟨m, hm⟩ : ∃ m, 10 - k = m + 1 := ⟨9 - k, by omega⟩
    rw [hm] at hr
    have HG := Lib.hid hg
    have HW := Lib.hid hown
    have HQ := Lib.hid hq
    have HRr := Lib.hid hr
    have HM := Lib.hid hm
    have hq7 : 7 * (k : Int) = (q : Int) := by omega
    have hq63 : q ≤ 63 := by omega
    clear hg hown hq hr hm
    by_cases hlt : a + k = len
    · have hge : (len : Int) ≤ (a : Int) + (k : Int) := by omega
      have HPl := Lib.hid hlt
      clear hlt
      go_wp2
      go_ret3
      have e := rd_short (s := true) (f := f) (bits := bits) (m := m) (x := xv) HPl.out
      rw [HRr.out] at e
      refine ⟨_, ret_rr ⟨by rw [e], by rw [e]⟩, HG.out, ?_⟩
      rw [e]; exact World.ownsRow_nil _ _ _ _
    · have hlt2 : (a : Int) + (k : Int) < (len : Int) := by omega
      have HNe := Lib.hid hlt
      have h1 := gr_cell HG.out (HC.out (a + k) (by omega))
      have HBd := Lib.hid (HF.out (a + k))
      have HFit := Lib.hid (fitS_bits (f (a + k)) HBd.out (bits - q) (by omega))
      have HQe := Lib.hid (show bits - 7 * (k : Int) = bits - q by omega)
      have HBit := Lib.hid (fun i (hi : i ≤ 7) wx => bit_any (f (a + k)) HBd.out i hi wx)
      generalize hcc : f (a + k) = c at *
      have HCc := Lib.hid hcc
      clear hlt hcc
      go_wp2_with fail
      go_loopw [11, 14] (fun lv iv wr => ∃ i : Nat, i ≤ 7 ∧ iv = .int .i64 i ∧ Gr w wr ∧ wr.ownsRow w.heap.size 3 1 lv (q + i) (bl f a (q + i)) ∧ ∀ j, j < i → okS c (bits - q) j) (fun _ iv _ => 7 - (intOf iv).toNat)
      case atStart => exact ⟨0, by decide, rfl, HG.out, HW.out, fun j hj => by omega⟩
      case round =>
        obtain ⟨i, hi, rfl, hg, hown, hok⟩ := hrel
        have HGi := Lib.hid hg
        have HWi := Lib.hid hown
        have HOk := Lib.hid hok
        clear hg hown hok
        by_cases hi7 : i < 7
        · have hi7' : (i : Int) < 7 := by omega
          have HBi := Lib.hid (HBit.out i hi)
          generalize hxx : bt c i = x at *
          have HXx := Lib.hid hxx
          clear hxx
          by_cases hL : bits ≤ (q : Int) + (i : Int)
          · have hge : decide (bits ≤ (q : Int) + (i : Int)) = true := decide_eq_true hL
            obtain ⟨g11, c11, he, _, _, _⟩ := own_some HWi.out (by omega)
            obtain ⟨p, hp⟩ := Int.eq_ofNat_of_zero_le (show 0 ≤ bits - 1 by omega)
            have hpq : q ≤ p ∧ p < q + i := by omega
            have hpq' : (p : Int) < (q : Int) + (i : Int) := by omega
            have hcell : wr.cell? ⟨g11, p, none⟩ = some (.int .i64 (bt c (bits - q - 1).toNat)) := by
              have h1 := HWi.out
              rw [he] at h1
              rw [h1.cellAt p (by omega), bl_get _ _ _ _ hpq.2, show p / 7 = k by have := HQ.out; omega, show p % 7 = (bits - q - 1).toNat by have := HQ.out; omega, HCc.out]
            generalize hzz : bt c (bits - q - 1).toNat = z at *
            have HZz := Lib.hid hzz
            have HEe := Lib.hid he
            clear hzz
            by_cases hb : x = z
            · have hne : (x != z) = false := by rw [hb]; simp
              have HOi := Lib.hid (show okS c (bits - q) i from fun h => h.2 (by rw [HXx.out, HZz.out]; exact hb))
              clear hL hb
              subst he
              go_wp2_with fail
              go_quiet (first | (go_at_call 25; exact Calls.quiet_of_same ((HBi.out _).mono fun e w' h => ⟨h.1, h.2.symm⟩)))
              go_wp2_with (first | (go_at_call 25; refine (HBi.out _).mono ?_; rintro e w' ⟨rfl, rfl⟩) | (at_builtin; refine wpList_append_src rfl _ _ 49 rfl w.heap.size 3 j0 (.int .i64 0) 1 8 Try.underlying49 HJ.out HJ0.out HJ1.out HJ2.out rfl (by decide) (.slice (some ⟨g11, 0, none⟩) (q + i) c11) (q + i) (bl f a (q + i)) rfl ((own_gr HWi.out ((Gr.refl wr).drewN _)).alloc _) (.slice (some ⟨wr.heap.size, 0, none⟩) 1 1) 1 [.int .i64 x] rfl (src_lit (wr.drewN _) #[.int .i64 x] _ 1 1) rfl (fun u hu => by simp at hu; subst hu; rfl) (by unfold maxLen; omega) (by omega) (by have := HGi.out.size; simp; omega) ?_))
              intro v' w3 hown3 hgb3
              have HG3 := Lib.hid (((HGi.out.drewN _).allocO _).grown hgb3 (fun q hq => (HWi.out.lt q hq).1))
              have HO3 := Lib.hid (show w3.ownsRow w.heap.size 3 1 v' (q + (i + 1)) (bl f a (q + (i + 1))) by
                rw [← Nat.add_assoc, bl_succ, show (q + i) / 7 = k by have := HQ.out; omega, show (q + i) % 7 = i by have := HQ.out; omega, HCc.out, HXx.out]; exact hown3)
              clear hown3 hgb3
              go_wp2
              exact ⟨⟨i + 1, by omega, by go_num, HG3.out, HO3.out, fun j hj => by
                by_cases hji : j = i
                · rw [hji]; exact HOi.out
                · exact HOk.out j (by omega)⟩, by simp [intOf]; omega⟩
            · have hne : (x != z) = true := bne_iff_ne.2 hb
              have HBad := Lib.hid (show ¬ okS c (bits - q) i from fun h => h ⟨by omega, by rw [HXx.out, HZz.out]; exact hb⟩)
              clear hL hb
              subst he
              go_wp2_with fail
              go_quiet (first | (go_at_call 25; exact Calls.quiet_of_same ((HBi.out _).mono fun e w' h => ⟨h.1, h.2.symm⟩)))
              go_wp2
              go_ret3
              have e := rd_bad (s := true) (f := f) (bits := bits) (m := m) (x := xv) HNe.out (.inl (by
                rw [HCc.out, HQe.out]
                cases hfb : fitB true (lowI c) (bits - q) with
                | false => rfl
                | true => exact absurd (HFit.out.1 hfb i hi7) HBad.out))
              rw [HRr.out] at e
              refine ⟨_, ret_rr ⟨by rw [e], by rw [e]⟩, HGi.out.drewN _, ?_⟩
              rw [e]; exact World.ownsRow_nil _ _ _ _
          · have hge : decide (bits ≤ (q : Int) + (i : Int)) = false := decide_eq_false hL
            have HOi := Lib.hid (show okS c (bits - q) i from fun h => hL (by omega))
            clear hL
            go_wp2_with fail
            go_quiet (fail)
            go_wp2_with (first | (go_at_call 25; refine (HBi.out _).mono ?_; rintro e w' ⟨rfl, rfl⟩) | (at_builtin; refine wpList_append_src rfl _ _ 49 rfl w.heap.size 3 j0 (.int .i64 0) 1 8 Try.underlying49 HJ.out HJ0.out HJ1.out HJ2.out rfl (by decide) u11 (q + i) (bl f a (q + i)) rfl ((own_gr HWi.out ((Gr.refl wr).drewN _)).alloc _) (.slice (some ⟨wr.heap.size, 0, none⟩) 1 1) 1 [.int .i64 x] rfl (src_lit (wr.drewN _) #[.int .i64 x] _ 1 1) rfl (fun u hu => by simp at hu; subst hu; rfl) (by unfold maxLen; omega) (by omega) (by have := HGi.out.size; simp; omega) ?_))
            intro v' w3 hown3 hgb3
            have HG3 := Lib.hid (((HGi.out.drewN _).allocO _).grown hgb3 (fun q hq => (HWi.out.lt q hq).1))
            have HO3 := Lib.hid (show w3.ownsRow w.heap.size 3 1 v' (q + (i + 1)) (bl f a (q + (i + 1))) by
              rw [← Nat.add_assoc, bl_succ, show (q + i) / 7 = k by have := HQ.out; omega, show (q + i) % 7 = i by have := HQ.out; omega, HCc.out, HXx.out]; exact hown3)
            clear hown3 hgb3
            go_wp2
            exact ⟨⟨i + 1, by omega, by go_num, HG3.out, HO3.out, fun j hj => by
              by_cases hji : j = i
              · rw [hji]; exact HOi.out
              · exact HOk.out j (by omega)⟩, by simp [intOf]; omega⟩
        · obtain rfl : i = 7 := by omega
          have HFt := Lib.hid (show fitB true (lowI (f (a + k))) (bits - 7 * (k : Int)) = true by rw [HCc.out, HQe.out]; exact HFit.out.2 HOk.out)
          have HB7 := Lib.hid (HBit.out 7 (by decide))
          have hy7 := bt7 c HBd.out
          generalize bt c 7 = y at *
          obtain ⟨q', hq'⟩ : ∃ q' : Nat, q' = q + 7 := ⟨_, rfl⟩
          have hq8 : 7 * ((k : Int) + 1) = (q' : Int) := by omega
          have HQ' := Lib.hid hq'
          clear hq'
          by_cases hc : c < 128
          · rw [if_pos hc] at hy7
            subst hy7
            have HE := Lib.hid (rd_end (s := true) (f := f) (m := m) (x := xv) HNe.out HFt.out (by rw [HCc.out]; exact hc))
            clear hc
            have HFin := Lib.hid (show ∀ (v : Value) (w' : World), w'.ownsRow w.heap.size 3 1 v (q + 7) (bl f a (q + 7)) → w'.ownsRow w.heap.size 3 1 v R.2.1.toNat (bl f a R.2.1.toNat) from fun v w' h => by
              rw [← HRr.out, HE.out]
              have e : (7 * (k : Int) + 7).toNat = q + 7 := by have := HQ.out; omega
              rw [e]; exact h)
            by_cases hL : bits ≤ (q' : Int)
            · have hge : decide (bits ≤ (q' : Int)) = true := decide_eq_true hL
              clear hL
              go_wp2_with (go_at_call 25; refine (HB7.out _).mono ?_; rintro e w' ⟨rfl, rfl⟩)
              go_ret3
              exact ⟨_, ret_rr ⟨by rw [← HRr.out, HE.out], by rw [← HRr.out, HE.out]⟩, HGi.out, HFin.out _ _ HWi.out⟩
            · have hge : decide (bits ≤ (q' : Int)) = false := decide_eq_false hL
              clear hL
              go_wp2_with (go_at_call 25; refine (HB7.out _).mono ?_; rintro e w' ⟨rfl, rfl⟩)
              go_ret3
              exact ⟨_, ret_rr ⟨by rw [← HRr.out, HE.out], by rw [← HRr.out, HE.out]⟩, HGi.out, HFin.out _ _ HWi.out⟩
          · rw [if_neg hc] at hy7
            subst hy7
            by_cases hL : bits ≤ (q' : Int)
            · have hge : decide (bits ≤ (q' : Int)) = true := decide_eq_true hL
              have HE := Lib.hid (rd_bad (s := true) (f := f) (bits := bits) (m := m) (x := xv) HNe.out (.inr ⟨by have := HQ'.out; have := HQ.out; omega, by rw [HCc.out]; omega⟩))
              clear hL hc
              go_wp2_with (go_at_call 25; refine (HB7.out _).mono ?_; rintro e w' ⟨rfl, rfl⟩)
              go_ret3
              refine ⟨_, ret_rr ⟨by rw [← HRr.out, HE.out], by rw [← HRr.out, HE.out]⟩, HGi.out, ?_⟩
              rw [← HRr.out, HE.out]; exact World.ownsRow_nil _ _ _ _
            · have hge : decide (bits ≤ (q' : Int)) = false := decide_eq_false hL
              have HE := Lib.hid (rd_more (s := true) (f := f) (m := m) (x := xv) HNe.out HFt.out (by have := HQ'.out; have := HQ.out; omega) (by rw [HCc.out]; omega))
              have HLt := Lib.hid (show (q' : Int) < bits by omega)
              clear hL hc
              go_wp2_with (go_at_call 25; refine (HB7.out _).mono ?_; rintro e w' ⟨rfl, rfl⟩)
              exact ⟨⟨k + 1, q', _, by have := HQ'.out; have := HQ.out; omega, by have := HNe.out; omega, by have := HLt.out; have := HQ'.out; have := HQ.out; omega, HLt.out, by go_num, HGi.out, by rw [HQ'.out]; exact HWi.out, by
                rw [show 10 - (k + 1) = m by have := HM.out; omega, ← HE.out]; exact HRr.out⟩, by simp [intOf]; omega⟩
end Go.Proofs.Ythdklnkaeddogaa
