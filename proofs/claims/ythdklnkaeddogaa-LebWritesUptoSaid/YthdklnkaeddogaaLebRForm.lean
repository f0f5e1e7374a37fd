/-
  The reference's form: the shortest bytes that are read back.
-/
import Derived.Test.YthdklnkaeddogaaLebWrM
namespace Go.Proofs.Ythdklnkaeddogaa
open Go.RowKit LebM
theorem or_low (i : Nat) (hi : i < 7) (x v : Int) (hx : 0 ≤ x ∧ x < 2 ^ i) (hv : v = 0 ∨ v = 1) : Go.bits .or .u8 x (IntKind.u8.wrap (v * 2 ^ i)) = x + v * 2 ^ i := by
  obtain ⟨n, rfl⟩ := Int.eq_ofNat_of_zero_le hx.1
  have hle := p2le (show i ≤ 6 by omega)
  have e6 : (2 : Int) ^ 6 = 64 := rfl
  have hn : n < 64 := by omega
  have key : ∀ i : Fin 7, ∀ n : Fin 64, ((n.val : Nat) : Int) < 2 ^ i.val → Go.bits .or .u8 ((n.val : Nat) : Int) (IntKind.u8.wrap (0 * 2 ^ i.val)) = ((n.val : Nat) : Int) + 0 * 2 ^ i.val ∧ Go.bits .or .u8 ((n.val : Nat) : Int) (IntKind.u8.wrap (1 * 2 ^ i.val)) = ((n.val : Nat) : Int) + 1 * 2 ^ i.val := by decide +kernel
  have := key ⟨i, hi⟩ ⟨n, hn⟩ hx.2
  rcases hv with rfl | rfl
  · exact this.1
  · exact this.2
theorem mod2_step (D : Int) (i : Nat) : D % 2 ^ (i + 1) = D % 2 ^ i + D / 2 ^ i % 2 * 2 ^ i := by
  have hp := p2pos i
  have h1 := Int.emod_add_mul_ediv D (2 ^ i)
  have h2 := Int.emod_add_mul_ediv D (2 ^ (i + 1))
  have e : D / 2 ^ (i + 1) = D / 2 ^ i / 2 := by rw [Int.pow_succ, ← Int.ediv_ediv_of_nonneg (Int.le_of_lt hp)]
  have e2 : (2 : Int) ^ (i + 1) = 2 ^ i * 2 := Int.pow_succ ..
  rw [e, e2, Int.mul_assoc] at h2
  have h3 : D / 2 ^ i % 2 = D / 2 ^ i - 2 * (D / 2 ^ i / 2) := by omega
  rw [h3, Int.sub_mul, e2, Int.mul_comm (D / 2 ^ i)]
  have e3 : 2 * (D / 2 ^ i / 2) * 2 ^ i = 2 ^ i * (2 * (D / 2 ^ i / 2)) := Int.mul_comm ..
  rw [e3]
  omega
theorem div_bits (V : Int) (k i : Nat) : V / 128 ^ k / 2 ^ i = V / 2 ^ (7 * k + i) := by
  rw [p2, pow7, Int.ediv_ediv_of_nonneg (Int.le_of_lt (p128pos k))]
theorem bit_u64 (V : Int) (p : Nat) (hp : p < 64) : V % 18446744073709551616 / 2 ^ p % 2 = V / 2 ^ p % 2 := by
  have hq : (18446744073709551616 : Int) = 2 ^ p * (2 * 2 ^ (63 - p)) := by
    rw [← Int.mul_assoc, Int.mul_comm (2 ^ p) 2, Int.mul_assoc, ← p2, show p + (63 - p) = 63 by omega]; rfl
  have h1 := Int.emod_add_mul_ediv V 18446744073709551616
  have hpp := p2pos p
  have h2 : V = V % 18446744073709551616 + 2 ^ p * (2 * (2 ^ (63 - p) * (V / 18446744073709551616))) := by
    have : 18446744073709551616 * (V / 18446744073709551616) = 2 ^ p * (2 * (2 ^ (63 - p) * (V / 18446744073709551616))) := by
      conv => lhs; rw [hq]
      simp only [Int.mul_assoc]
      rw [← hq]
    omega
  have h3 : V / 2 ^ p = V % 18446744073709551616 / 2 ^ p + 2 * (2 ^ (63 - p) * (V / 18446744073709551616)) := by
    conv => lhs; rw [h2]
    rw [Int.add_mul_ediv_left _ _ (by omega)]
  rw [h3]; omega
theorem take_succ_fm (V : Int) (s k : Nat) (h : k < s) : (fm V s).take (k + 1) = (fm V s).take k ++ [(fm V s).getD k 0] := by
  have hl := fm_len s V
  rw [List.take_add_one, List.getD_eq_getElem?_getD, List.getElem?_eq_getElem (by omega)]; rfl
theorem fm_byte (V : Int) (s : Nat) : ∀ x ∈ fm V s, 0 ≤ x ∧ x < 256 := fun x hx => by
  obtain ⟨k, hk, rfl⟩ := List.getElem_of_mem hx
  have hl := fm_len s V
  have h := fm_get s V k (by omega)
  rw [List.getD_eq_getElem?_getD, List.getElem?_eq_getElem hk] at h
  have hd := dig_bd V k
  simp only [Option.getD_some] at h
  rw [h]
  split <;> omega
set_option maxRecDepth 100000 in
set_option maxHeartbeats 8000000 in
theorem rform_u (V nn : Int) (hV : 0 ≤ V ∧ V < 18446744073709551616) (hnn : nn = V % 18446744073709551616) (w : World) :
    Calls Try.prog 24 #[.int .u64 nn, .bool false] w fun e w' => ∃ sv, e = .returned sv ∧ Gr w w' ∧ ∃ s : Nat, (0 < s ∧ s ≤ 10) ∧ (V < 128 ^ s) ∧ (∀ t, 0 < t → t < s → ¬ (V < 128 ^ t)) ∧ w'.ownsRow w.heap.size 5 1 sv (fm V s).length (u8s (fm V s)) := by
  have HV := Lib.hid hV
  have HNN := Lib.hid hnn
  obtain ⟨i0, hi, hz0, hz1, hz2⟩ := info_parts info8
  have HI := Lib.hid hi
  have HZ0 := Lib.hid hz0
  have HZ1 := Lib.hid hz1
  have HZ2 := Lib.hid hz2
  have hnb : 0 ≤ nn ∧ nn < 18446744073709551616 := by omega
  clear hV hnn hi hz0 hz1 hz2
  go_enter Try.func24, Try.ntmps24
  go_wp2_with fail
  go_loopw [5] (fun sz wr => ∃ s : Nat, 0 < s ∧ s ≤ 10 ∧ sz = .int .i64 s ∧ Gr w wr ∧ ∀ t, 0 < t → t < s → ¬ (V < 128 ^ t)) (fun sz _ => 11 - (intOf sz).toNat)
  case atStart => exact ⟨1, by decide, by decide, rfl, Gr.refl _, fun t h1 h2 => by omega⟩
  case round =>
    obtain ⟨s, hs0, hs1, rfl, hg, hno⟩ := hrel
    have HG := Lib.hid hg
    have HNo := Lib.hid hno
    clear hg hno
    go_wp2_with fail
    go_loopw [6, 7] (fun bv kv wr => ∃ k : Nat, k ≤ s ∧ kv = .int .i64 k ∧ Gr w wr ∧ wr.ownsRow w.heap.size 5 1 bv k (u8s ((fm V s).take k))) (fun _ kv _ => s - (intOf kv).toNat)
    case atStart => exact ⟨0, by omega, rfl, HG.out, World.ownsRow_nil _ _ _ _⟩
    case round =>
      obtain ⟨k, hk, rfl, hg, hown⟩ := hrel
      have HGk := Lib.hid hg
      have HOk := Lib.hid hown
      clear hg hown
      by_cases hlt : k < s
      · obtain ⟨q, hq⟩ : ∃ q : Nat, q = 7 * k := ⟨_, rfl⟩
        have hq7 : 7 * (k : Int) = (q : Int) := by omega
        have HQ := Lib.hid hq
        have hltI : (k : Int) < (s : Int) := by omega
        clear hq
        obtain ⟨D, hD⟩ : ∃ D, D = V / 128 ^ k := ⟨_, rfl⟩
        have HD := Lib.hid hD
        clear hD
        go_wp2_with fail
        go_loop [8, 9] (fun xv iv => ∃ (i : Nat) (x : Int), i ≤ 7 ∧ iv = .int .i64 i ∧ xv = .int .u8 x ∧ x = D % 2 ^ i) (fun _ iv => 7 - (intOf iv).toNat)
        case atStart => exact ⟨0, 0, by decide, rfl, rfl, by rw [Int.pow_zero]; omega⟩
        case round =>
          obtain ⟨i, x, hi, rfl, rfl, hx⟩ := hrel
          have HX := Lib.hid hx
          clear hx
          by_cases hi7 : i < 7
          · obtain ⟨p, hp⟩ : ∃ p : Nat, p = q + i := ⟨_, rfl⟩
            have hpI : (q : Int) + (i : Int) = (p : Int) := by omega
            have HP := Lib.hid hp
            have hiI : (i : Int) < 7 := by omega
            have hp2 := p2pos i
            have hxb : 0 ≤ x ∧ x < 2 ^ i := by rw [HX.out]; exact ⟨Int.emod_nonneg _ (by omega), Int.emod_lt_of_pos _ hp2⟩
            have hbit : D / 2 ^ i % 2 = V / 2 ^ p % 2 := by rw [HD.out, div_bits, ← HQ.out, ← HP.out]
            have hst := mod2_step D i
            rw [← HX.out, hbit] at hst
            obtain ⟨v, hv⟩ : ∃ v, V / 2 ^ p % 2 = v := ⟨_, rfl⟩
            have hv01 : v = 0 ∨ v = 1 := by omega
            rw [hv] at hst
            have hor := or_low i hi7 x v hxb hv01
            have hle := p2le (show i ≤ 6 by omega)
            have e6 : (2 : Int) ^ 6 = 64 := rfl
            have hvb : 0 ≤ v * 2 ^ i ∧ v * 2 ^ i ≤ 64 := by rcases hv01 with rfl | rfl <;> omega
            have HST := Lib.hid hst
            have hwi : IntKind.u64.wrap (i : Int) = i := by rw [IntKind.wrap_u64]; omega
            have hwp : IntKind.u64.wrap (p : Int) = p := by rw [IntKind.wrap_u64]; omega
            have hwv : IntKind.u64.wrap v = v := by rw [IntKind.wrap_u64]; omega
            have hw1 : wrap64 v = v := by unfold wrap64; omega
            have HOr := Lib.hid (show Go.bits .or .u8 x (wrap64 (v * 2 ^ i) % 256) = x + v * 2 ^ i by
              rw [show wrap64 (v * 2 ^ i) = v * 2 ^ i by unfold wrap64; omega, ← IntKind.wrap_u8]; exact hor)
            have hv1 : v ≤ 1 ∧ 0 ≤ v := by omega
            clear hp hp2 hxb hbit hst hle e6 hvb hi hor
            by_cases h64 : p < 64
            · have h64I : (p : Int) < 64 := by omega
              have hrem : (nn / 2 ^ p).tmod 2 = v := by
                rw [Int.tmod_eq_emod_of_nonneg (Int.ediv_nonneg hnb.1 (Int.le_of_lt (p2pos p))), HNN.out, bit_u64 V p h64, hv]
              clear hv hv01 h64
              go_wp2
              exact ⟨⟨i + 1, x + v * 2 ^ i, by omega, by go_num, by rw [HOr.out], HST.out.symm⟩, by simp [intOf]; omega⟩
            · have h64I : ¬ (p : Int) < 64 := by omega
              have hv0 : v = 0 := by
                have hge := p2le (show 64 ≤ p by omega)
                have e64 : (2 : Int) ^ 64 = 18446744073709551616 := rfl
                rw [← hv, Int.ediv_eq_zero_of_lt HV.out.1 (by have := HV.out.2; omega)]; rfl
              subst hv0
              clear hv hv01 h64
              have e : Go.bits .or .u8 x 0 = x := by
                have h := HOr.out
                rw [Int.zero_mul, show wrap64 0 % 256 = 0 by unfold wrap64; decide, Int.add_zero] at h
                exact h
              have HE := Lib.hid e
              clear e
              go_wp2
              exact ⟨⟨i + 1, x, by omega, by go_num, by rw [HE.out], by have h := HST.out; rw [Int.zero_mul, Int.add_zero] at h; exact h.symm⟩, by simp [intOf]; omega⟩
          · obtain rfl : i = 7 := by omega
            have hx7 : x = dig V k := by rw [HX.out, HD.out]; rfl
            have hxb := dig_bd V k
            rw [← hx7] at hxb
            by_cases hk1 : k + 1 < s
            · have hk1I : (k : Int) < (s : Int) - 1 := by omega
              have ho := or128 x hxb
              have HC := Lib.hid (show (fm V s).getD k 0 = x + 128 by rw [fm_get s V k (by omega), if_pos hk1, hx7])
              clear hx7 hk1 hi hi7
              go_wp2_with (at_builtin; refine wpList_append_src rfl _ _ 22 rfl w.heap.size 5 i0 (.int .u8 0) 1 1 Try.underlying22 HI.out HZ0.out HZ1.out HZ2.out rfl (by decide) u6 k (u8s ((fm V s).take k)) rfl (HOk.out.alloc _) (.slice (some ⟨wr.heap.size, 0, none⟩) 1 1) 1 [.int .u8 (x + 128)] rfl (src_lit wr #[.int .u8 (x + 128)] _ 1 1) rfl (fun u hu => by simp at hu; subst hu; rfl) (by unfold maxLen; omega) (by omega) (by have := HGk.out.size; simp; omega) ?_)
              intro v' w3 hown3 hgb3
              have HG3 := Lib.hid ((HGk.out.allocO _).grown hgb3 (fun q hq => (HOk.out.lt q hq).1))
              have HO3 := Lib.hid (show w3.ownsRow w.heap.size 5 1 v' (k + 1) (u8s ((fm V s).take (k + 1))) by
                rw [take_succ_fm V s k (by omega), u8s_app, HC.out]; exact hown3)
              clear hown3 hgb3
              go_wp2
              exact ⟨⟨k + 1, by omega, by go_num, HG3.out, HO3.out⟩, by simp [intOf]; omega⟩
            · have hk1I : ¬ (k : Int) < (s : Int) - 1 := by omega
              have HC := Lib.hid (show (fm V s).getD k 0 = x by rw [fm_get s V k (by omega), if_neg hk1, hx7])
              clear hx7 hk1 hi hi7
              go_wp2_with (at_builtin; refine wpList_append_src rfl _ _ 22 rfl w.heap.size 5 i0 (.int .u8 0) 1 1 Try.underlying22 HI.out HZ0.out HZ1.out HZ2.out rfl (by decide) u6 k (u8s ((fm V s).take k)) rfl (HOk.out.alloc _) (.slice (some ⟨wr.heap.size, 0, none⟩) 1 1) 1 [.int .u8 (x)] rfl (src_lit wr #[.int .u8 (x)] _ 1 1) rfl (fun u hu => by simp at hu; subst hu; rfl) (by unfold maxLen; omega) (by omega) (by have := HGk.out.size; simp; omega) ?_)
              intro v' w3 hown3 hgb3
              have HG3 := Lib.hid ((HGk.out.allocO _).grown hgb3 (fun q hq => (HOk.out.lt q hq).1))
              have HO3 := Lib.hid (show w3.ownsRow w.heap.size 5 1 v' (k + 1) (u8s ((fm V s).take (k + 1))) by
                rw [take_succ_fm V s k (by omega), u8s_app, HC.out]; exact hown3)
              clear hown3 hgb3
              go_wp2
              exact ⟨⟨k + 1, by omega, by go_num, HG3.out, HO3.out⟩, by simp [intOf]; omega⟩
      · obtain rfl : k = s := by omega
        have hl := fm_len k V
        have HW := Lib.hid (show wr.ownsRow w.heap.size 5 1 u6 (fm V k).length (u8s (fm V k)) by
          have h := HOk.out
          rw [List.take_of_length_le (by omega)] at h
          rw [hl]; exact h)
        have HU8 := Lib.hid (show U8s wr u6 k (lst (fm V k)) by have h := u8s_of_owns HW.out; rw [hl] at h; exact h)
        clear hl
        obtain ⟨y, wd, hrd, hy⟩ := back_u HV.out (s := k) ⟨hs0, hs1⟩
        have C := ru_any u6 k (by omega) (lst (fm V k)) (lst_by (fm_byte V k)) 0 64 wr HU8.out
        rw [hrd] at C
        have HC := Lib.hid (show Calls Try.prog 12 #[u6, .int .i64 0, .int .i64 64] wr fun e w' => e = .returned (.tuple #[.int .u64 y, .int .i64 k, .int .i64 0]) ∧ Gr wr w' from C)
        have hnV : nn = V := by rw [HNN.out]; exact Int.emod_eq_of_lt HV.out.1 HV.out.2
        clear C hrd
        by_cases hfit : V < 128 ^ k
        · have hyn : (y == nn) = true := beq_iff_eq.2 ((hy.2 hfit).trans hnV.symm)
          have HFit := Lib.hid hfit
          clear hy hfit hnV
          go_wp2_with (go_at_call 12; refine HC.out.mono ?_; rintro e w5 ⟨rfl, hg5⟩; have HG5 := Lib.hid hg5; clear hg5)
          go_ret
          exact ⟨_, rfl, gr_trans HGk.out HG5.out, k, ⟨hs0, hs1⟩, HFit.out, HNo.out, own_gr HW.out HG5.out⟩
        · have hyn : (y == nn) = false := beq_eq_false_iff_ne.2 (fun h => hfit (hy.1 (h.trans hnV)))
          have HNf := Lib.hid hfit
          have hk9 : k ≤ 9 := by
            apply Classical.byContradiction
            intro h
            obtain rfl : k = 10 := by omega
            have e : (128 : Int) ^ 10 = 1180591620717411303424 := rfl
            rw [e] at hfit
            have := HV.out.2
            omega
          clear hy hfit hnV
          go_wp2_with (go_at_call 12; refine HC.out.mono ?_; rintro e w5 ⟨rfl, hg5⟩; have HG5 := Lib.hid hg5; clear hg5)
          exact ⟨⟨k + 1, by omega, by omega, by go_num, gr_trans HGk.out HG5.out, fun t h1 h2 => by
            by_cases ht : t = k
            · rw [ht]; have h3 := HNf.out; omega
            · have h3 := HNo.out t h1 (by omega); omega⟩, by simp [intOf]; omega⟩
set_option maxRecDepth 100000 in
set_option maxHeartbeats 8000000 in
theorem rform_s (V nn : Int) (hV : -9223372036854775808 ≤ V ∧ V ≤ 9223372036854775807) (hnn : nn = V % 18446744073709551616) (w : World) :
    Calls Try.prog 24 #[.int .u64 nn, .bool true] w fun e w' => ∃ sv, e = .returned sv ∧ Gr w w' ∧ ∃ s : Nat, (0 < s ∧ s ≤ 10) ∧ (-(64 * 128 ^ (s - 1)) ≤ V ∧ V < 64 * 128 ^ (s - 1)) ∧ (∀ t, 0 < t → t < s → ¬ (-(64 * 128 ^ (t - 1)) ≤ V ∧ V < 64 * 128 ^ (t - 1))) ∧ w'.ownsRow w.heap.size 5 1 sv (fm V s).length (u8s (fm V s)) := by
  have HV := Lib.hid hV
  have HNN := Lib.hid hnn
  obtain ⟨i0, hi, hz0, hz1, hz2⟩ := info_parts info8
  have HI := Lib.hid hi
  have HZ0 := Lib.hid hz0
  have HZ1 := Lib.hid hz1
  have HZ2 := Lib.hid hz2
  have hnb : 0 ≤ nn ∧ nn < 18446744073709551616 := by omega
  clear hV hnn hi hz0 hz1 hz2
  go_enter Try.func24, Try.ntmps24
  go_wp2_with fail
  go_loopw [5] (fun sz wr => ∃ s : Nat, 0 < s ∧ s ≤ 10 ∧ sz = .int .i64 s ∧ Gr w wr ∧ ∀ t, 0 < t → t < s → ¬ (-(64 * 128 ^ (t - 1)) ≤ V ∧ V < 64 * 128 ^ (t - 1))) (fun sz _ => 11 - (intOf sz).toNat)
  case atStart => exact ⟨1, by decide, by decide, rfl, Gr.refl _, fun t h1 h2 => by omega⟩
  case round =>
    obtain ⟨s, hs0, hs1, rfl, hg, hno⟩ := hrel
    have HG := Lib.hid hg
    have HNo := Lib.hid hno
    clear hg hno
    go_wp2_with fail
    go_loopw [6, 7] (fun bv kv wr => ∃ k : Nat, k ≤ s ∧ kv = .int .i64 k ∧ Gr w wr ∧ wr.ownsRow w.heap.size 5 1 bv k (u8s ((fm V s).take k))) (fun _ kv _ => s - (intOf kv).toNat)
    case atStart => exact ⟨0, by omega, rfl, HG.out, World.ownsRow_nil _ _ _ _⟩
    case round =>
      obtain ⟨k, hk, rfl, hg, hown⟩ := hrel
      have HGk := Lib.hid hg
      have HOk := Lib.hid hown
      clear hg hown
      by_cases hlt : k < s
      · obtain ⟨q, hq⟩ : ∃ q : Nat, q = 7 * k := ⟨_, rfl⟩
        have hq7 : 7 * (k : Int) = (q : Int) := by omega
        have HQ := Lib.hid hq
        have hltI : (k : Int) < (s : Int) := by omega
        clear hq
        obtain ⟨D, hD⟩ : ∃ D, D = V / 128 ^ k := ⟨_, rfl⟩
        have HD := Lib.hid hD
        clear hD
        go_wp2_with fail
        go_loop [8, 9] (fun xv iv => ∃ (i : Nat) (x : Int), i ≤ 7 ∧ iv = .int .i64 i ∧ xv = .int .u8 x ∧ x = D % 2 ^ i) (fun _ iv => 7 - (intOf iv).toNat)
        case atStart => exact ⟨0, 0, by decide, rfl, rfl, by rw [Int.pow_zero]; omega⟩
        case round =>
          obtain ⟨i, x, hi, rfl, rfl, hx⟩ := hrel
          have HX := Lib.hid hx
          clear hx
          by_cases hi7 : i < 7
          · obtain ⟨p, hp⟩ : ∃ p : Nat, p = q + i := ⟨_, rfl⟩
            have hpI : (q : Int) + (i : Int) = (p : Int) := by omega
            have HP := Lib.hid hp
            have hiI : (i : Int) < 7 := by omega
            have hp2 := p2pos i
            have hxb : 0 ≤ x ∧ x < 2 ^ i := by rw [HX.out]; exact ⟨Int.emod_nonneg _ (by omega), Int.emod_lt_of_pos _ hp2⟩
            have hbit : D / 2 ^ i % 2 = V / 2 ^ p % 2 := by rw [HD.out, div_bits, ← HQ.out, ← HP.out]
            have hst := mod2_step D i
            rw [← HX.out, hbit] at hst
            obtain ⟨v, hv⟩ : ∃ v, V / 2 ^ p % 2 = v := ⟨_, rfl⟩
            have hv01 : v = 0 ∨ v = 1 := by omega
            rw [hv] at hst
            have hor := or_low i hi7 x v hxb hv01
            have hle := p2le (show i ≤ 6 by omega)
            have e6 : (2 : Int) ^ 6 = 64 := rfl
            have hvb : 0 ≤ v * 2 ^ i ∧ v * 2 ^ i ≤ 64 := by rcases hv01 with rfl | rfl <;> omega
            have HST := Lib.hid hst
            have hwi : IntKind.u64.wrap (i : Int) = i := by rw [IntKind.wrap_u64]; omega
            have hwp : IntKind.u64.wrap (p : Int) = p := by rw [IntKind.wrap_u64]; omega
            have hwv : IntKind.u64.wrap v = v := by rw [IntKind.wrap_u64]; omega
            have hw1 : wrap64 v = v := by unfold wrap64; omega
            have HOr := Lib.hid (show Go.bits .or .u8 x (wrap64 (v * 2 ^ i) % 256) = x + v * 2 ^ i by
              rw [show wrap64 (v * 2 ^ i) = v * 2 ^ i by unfold wrap64; omega, ← IntKind.wrap_u8]; exact hor)
            have hv1 : v ≤ 1 ∧ 0 ≤ v := by omega
            clear hp hp2 hxb hbit hst hle e6 hvb hi hor
            by_cases h64 : p < 64
            · have h64I : (p : Int) < 64 := by omega
              have hrem : (nn / 2 ^ p).tmod 2 = v := by
                rw [Int.tmod_eq_emod_of_nonneg (Int.ediv_nonneg hnb.1 (Int.le_of_lt (p2pos p))), HNN.out, bit_u64 V p h64, hv]
              clear hv hv01 h64
              go_wp2
              exact ⟨⟨i + 1, x + v * 2 ^ i, by omega, by go_num, by rw [HOr.out], HST.out.symm⟩, by simp [intOf]; omega⟩
            · have h64I : ¬ (p : Int) < 64 := by omega
              have hsh : nn / 9223372036854775808 = v := by
                obtain ⟨e, rfl⟩ := Nat.exists_eq_add_of_le (show 64 ≤ p by omega)
                have hpe := p2pos e
                have h1 := HV.out
                have h2 := HNN.out
                rw [← hv, p2, ← Int.ediv_ediv_of_nonneg (show (0 : Int) ≤ 2 ^ 64 by decide)]
                have e64 : (2 : Int) ^ 64 = 18446744073709551616 := rfl
                rw [e64]
                by_cases hneg : V < 0
                · have e1 : V / 18446744073709551616 = -1 := by omega
                  have e2 : (-1 : Int) / 2 ^ e = -1 := by
                    apply Int.le_antisymm
                    · have := Int.ediv_lt_of_lt_mul hpe (show (-1 : Int) < 0 * 2 ^ e by omega); omega
                    · exact Int.le_ediv_of_mul_le hpe (by omega)
                  rw [e1, e2]; omega
                · have e1 : V / 18446744073709551616 = 0 := by omega
                  rw [e1, Int.zero_ediv]; omega
              clear hv hv01 h64
              go_wp2
              exact ⟨⟨i + 1, x + v * 2 ^ i, by omega, by go_num, by rw [HOr.out], HST.out.symm⟩, by simp [intOf]; omega⟩
          · obtain rfl : i = 7 := by omega
            have hx7 : x = dig V k := by rw [HX.out, HD.out]; rfl
            have hxb := dig_bd V k
            rw [← hx7] at hxb
            by_cases hk1 : k + 1 < s
            · have hk1I : (k : Int) < (s : Int) - 1 := by omega
              have ho := or128 x hxb
              have HC := Lib.hid (show (fm V s).getD k 0 = x + 128 by rw [fm_get s V k (by omega), if_pos hk1, hx7])
              clear hx7 hk1 hi hi7
              go_wp2_with (at_builtin; refine wpList_append_src rfl _ _ 22 rfl w.heap.size 5 i0 (.int .u8 0) 1 1 Try.underlying22 HI.out HZ0.out HZ1.out HZ2.out rfl (by decide) u6 k (u8s ((fm V s).take k)) rfl (HOk.out.alloc _) (.slice (some ⟨wr.heap.size, 0, none⟩) 1 1) 1 [.int .u8 (x + 128)] rfl (src_lit wr #[.int .u8 (x + 128)] _ 1 1) rfl (fun u hu => by simp at hu; subst hu; rfl) (by unfold maxLen; omega) (by omega) (by have := HGk.out.size; simp; omega) ?_)
              intro v' w3 hown3 hgb3
              have HG3 := Lib.hid ((HGk.out.allocO _).grown hgb3 (fun q hq => (HOk.out.lt q hq).1))
              have HO3 := Lib.hid (show w3.ownsRow w.heap.size 5 1 v' (k + 1) (u8s ((fm V s).take (k + 1))) by
                rw [take_succ_fm V s k (by omega), u8s_app, HC.out]; exact hown3)
              clear hown3 hgb3
              go_wp2
              exact ⟨⟨k + 1, by omega, by go_num, HG3.out, HO3.out⟩, by simp [intOf]; omega⟩
            · have hk1I : ¬ (k : Int) < (s : Int) - 1 := by omega
              have HC := Lib.hid (show (fm V s).getD k 0 = x by rw [fm_get s V k (by omega), if_neg hk1, hx7])
              clear hx7 hk1 hi hi7
              go_wp2_with (at_builtin; refine wpList_append_src rfl _ _ 22 rfl w.heap.size 5 i0 (.int .u8 0) 1 1 Try.underlying22 HI.out HZ0.out HZ1.out HZ2.out rfl (by decide) u6 k (u8s ((fm V s).take k)) rfl (HOk.out.alloc _) (.slice (some ⟨wr.heap.size, 0, none⟩) 1 1) 1 [.int .u8 (x)] rfl (src_lit wr #[.int .u8 (x)] _ 1 1) rfl (fun u hu => by simp at hu; subst hu; rfl) (by unfold maxLen; omega) (by omega) (by have := HGk.out.size; simp; omega) ?_)
              intro v' w3 hown3 hgb3
              have HG3 := Lib.hid ((HGk.out.allocO _).grown hgb3 (fun q hq => (HOk.out.lt q hq).1))
              have HO3 := Lib.hid (show w3.ownsRow w.heap.size 5 1 v' (k + 1) (u8s ((fm V s).take (k + 1))) by
                rw [take_succ_fm V s k (by omega), u8s_app, HC.out]; exact hown3)
              clear hown3 hgb3
              go_wp2
              exact ⟨⟨k + 1, by omega, by go_num, HG3.out, HO3.out⟩, by simp [intOf]; omega⟩
      · obtain rfl : k = s := by omega
        have hl := fm_len k V
        have HW := Lib.hid (show wr.ownsRow w.heap.size 5 1 u6 (fm V k).length (u8s (fm V k)) by
          have h := HOk.out
          rw [List.take_of_length_le (by omega)] at h
          rw [hl]; exact h)
        have HU8 := Lib.hid (show U8s wr u6 k (lst (fm V k)) by have h := u8s_of_owns HW.out; rw [hl] at h; exact h)
        clear hl
        obtain ⟨y, wd, hrd, hy, hrng⟩ := back_s HV.out (s := k) ⟨hs0, hs1⟩
        have C := rs_any u6 k (by omega) (lst (fm V k)) (lst_by (fm_byte V k)) 0 64
        rw [hrd] at C
        have HC := Lib.hid (show ∀ w, U8s w u6 k (lst (fm V k)) → Calls Try.prog 14 #[u6, .int .i64 0, .int .i64 64] w fun e w' => e = .returned (.tuple #[.int .i64 (sval y wd), .int .i64 k, .int .i64 0]) ∧ Gr w w' from fun w h => C w h)
        have HCu := Lib.hid (show Calls Try.prog 12 #[u6, .int .i64 0, .int .i64 64] wr fun e w' => ∃ b1 b2 b3, e = .returned (.tuple #[.int .u64 b1, .int .i64 b2, .int .i64 b3]) ∧ Gr wr w' from (ru_any u6 k (by omega) (lst (fm V k)) (lst_by (fm_byte V k)) 0 64 wr HU8.out).mono fun e w' h => ⟨_, _, _, h.1, h.2⟩)
        generalize sval y wd = z at *
        obtain ⟨zz, hzz⟩ : ∃ zz, IntKind.u64.wrap z = zz := ⟨_, rfl⟩
        have hzn : zz = nn ↔ z = V := by
          have h1 := HNN.out
          have h2 := HV.out
          rw [← hzz, IntKind.wrap_u64, h1]
          constructor
          · intro h; omega
          · intro h; rw [h]
        clear C hrd hrng
        by_cases hfit : -(64 * 128 ^ (k - 1)) ≤ V ∧ V < 64 * 128 ^ (k - 1)
        · have hyn : (zz == nn) = true := beq_iff_eq.2 (hzn.2 (hy.2 hfit))
          have HFit := Lib.hid hfit
          clear hy hfit hzn
          go_wp2_with (first | (go_at_call 12; refine HCu.out.mono ?_; rintro e w5 ⟨b1, b2, b3, rfl, hg5⟩; have HG5 := Lib.hid hg5; clear hg5) | (go_at_call 14; refine (HC.out _ (u8s_gr HU8.out HG5.out)).mono ?_; rintro e w6 ⟨rfl, hg6⟩; have HG6 := Lib.hid (gr_trans HG5.out hg6); clear hg6))
          go_ret
          exact ⟨_, rfl, gr_trans HGk.out HG6.out, k, ⟨hs0, hs1⟩, HFit.out, HNo.out, own_gr HW.out HG6.out⟩
        · have hyn : (zz == nn) = false := beq_eq_false_iff_ne.2 (fun h => hfit (hy.1 (hzn.1 h)))
          have HNf := Lib.hid hfit
          have hk9 : k ≤ 9 := by
            apply Classical.byContradiction
            intro h
            obtain rfl : k = 10 := by omega
            have e : (128 : Int) ^ (10 - 1) = 9223372036854775808 := rfl
            rw [e] at hfit
            have := HV.out
            omega
          clear hy hfit hzn
          go_wp2_with (first | (go_at_call 12; refine HCu.out.mono ?_; rintro e w5 ⟨b1, b2, b3, rfl, hg5⟩; have HG5 := Lib.hid hg5; clear hg5) | (go_at_call 14; refine (HC.out _ (u8s_gr HU8.out HG5.out)).mono ?_; rintro e w6 ⟨rfl, hg6⟩; have HG6 := Lib.hid (gr_trans HG5.out hg6); clear hg6))
          exact ⟨⟨k + 1, by omega, by omega, by go_num, gr_trans HGk.out HG6.out, fun t h1 h2 => by
            by_cases ht : t = k
            · rw [ht]; have h3 := HNf.out; omega
            · have h3 := HNo.out t h1 (by omega); omega⟩, by simp [intOf]; omega⟩
end Go.Proofs.Ythdklnkaeddogaa
