/-
  leb.read: a row of bytes, with each of its two tests.
-/
import Derived.Test.YthdklnkaeddogaaLebFit
namespace Go.Proofs.Ythdklnkaeddogaa
open Go.RowKit LebM
/-- a slice of bytes that reads as f in the world w -/
def U8s (w : World) (sv : Value) (len : Nat) (f : Nat → Int) : Prop :=
  (len = 0 ∧ ∃ x c, sv = .slice x 0 c) ∨ (len ≤ 9223372036854775807 ∧ ∃ b off cap, sv = .slice (some ⟨b, off, none⟩) len cap ∧ ∀ j, j < len → w.cell? ⟨b, off + j, none⟩ = some (.int .u8 (f j)))
theorem u8s_gr {w w' : World} {sv : Value} {len : Nat} {f : Nat → Int} (h : U8s w sv len f) (hg : Gr w w') : U8s w' sv len f := by
  rcases h with h | ⟨hl, b, off, cap, rfl, hc⟩
  · exact .inl h
  · exact .inr ⟨hl, b, off, cap, rfl, fun j hj => gr_cell hg (hc j hj)⟩
theorem slice_u8s {w : World} {sv : Value} {n : Nat} {f : Nat → Int} (h : U8s w sv n f) : ∃ a c, sv = .slice a n c := by
  rcases h with ⟨rfl, x, c, rfl⟩ | ⟨_, b, o, c, rfl, _⟩
  · exact ⟨_, _, rfl⟩
  · exact ⟨_, _, rfl⟩
theorem low_eq (c : Int) (h : 0 ≤ c ∧ c < 256) : bits .and .u8 c 127 = c % 128 := by
  obtain ⟨n, rfl⟩ := Int.eq_ofNat_of_zero_le h.1
  have hn : n < 256 := by omega
  have : ∀ n : Fin 256, bits .and .u8 ((n.val : Nat) : Int) 127 = ((n.val : Nat) : Int) % 128 := by decide +kernel
  exact this ⟨n, hn⟩
theorem top_eq (c : Int) (h : 0 ≤ c ∧ c < 256) : bits .and .u8 c 128 = if c < 128 then 0 else 128 := by
  obtain ⟨n, rfl⟩ := Int.eq_ofNat_of_zero_le h.1
  have hn : n < 256 := by omega
  have : ∀ n : Fin 256, bits .and .u8 ((n.val : Nat) : Int) 128 = if ((n.val : Nat) : Int) < 128 then 0 else 128 := by decide +kernel
  exact this ⟨n, hn⟩
theorem or_step (x lo : Int) (q : Nat) (hx : 0 ≤ x ∧ x < 2 ^ q) (hlo : 0 ≤ lo) (hq : q ≤ 63) : bits .or .u64 x (IntKind.u64.wrap (lo * 2 ^ q)) = x + lo * 2 ^ q % 18446744073709551616 := by
  obtain ⟨a, rfl⟩ := Int.eq_ofNat_of_zero_le hx.1
  obtain ⟨y, rfl⟩ := Int.eq_ofNat_of_zero_le hlo
  have ha : a < 2 ^ q := by have := hx.2; exact_mod_cast this
  have h64 : (2 : Nat) ^ q ≤ 2 ^ 63 := Nat.pow_le_pow_right (by decide) hq
  have hsplit : 2 ^ (64 - q) * 2 ^ q = 18446744073709551616 := by rw [← Nat.pow_add, show 64 - q + q = 64 by omega]
  have e1 : y * 2 ^ q % 18446744073709551616 = y % 2 ^ (64 - q) * 2 ^ q := by rw [← hsplit, Nat.mul_mod_mul_right]
  have h1 : y % 2 ^ (64 - q) * 2 ^ q < 18446744073709551616 := by rw [← e1]; exact Nat.mod_lt _ (by decide)
  have e0 : ∀ t : Nat, ((t : Int) % 18446744073709551616) = ((t % 18446744073709551616 : Nat) : Int) := fun t => by omega
  rw [IntKind.wrap_u64, show (y : Int) * 2 ^ q = ((y * 2 ^ q : Nat) : Int) by push_cast; rfl, e0 (y * 2 ^ q), e1, bits_or_u64_nat _ _ (by omega) h1]
  have := Nat.two_pow_add_eq_or_of_lt ha (y % 2 ^ (64 - q))
  rw [Nat.or_comm, Nat.mul_comm (y % 2 ^ (64 - q)), ← this, Nat.add_comm]; push_cast; rfl
theorem step_bd {x lo : Int} {q : Nat} (hx : 0 ≤ x ∧ x < 2 ^ q) (hlo : 0 ≤ lo ∧ lo < 128) : 0 ≤ x + lo * 2 ^ q % 18446744073709551616 ∧ x + lo * 2 ^ q % 18446744073709551616 < 2 ^ (q + 7) := by
  have hp : (0 : Int) < 2 ^ q := Int.pow_pos (by decide)
  have h0 : 0 ≤ lo * 2 ^ q := Int.mul_nonneg hlo.1 (by omega)
  have h1 : lo * 2 ^ q ≤ 127 * 2 ^ q := Int.mul_le_mul_of_nonneg_right (by omega) (by omega)
  have h2 : (2 : Int) ^ (q + 7) = 128 * 2 ^ q := by rw [Int.pow_add, Int.mul_comm]; rfl
  rw [h2]
  generalize lo * 2 ^ q = t at *
  generalize (2 : Int) ^ q = u at *
  omega
theorem pow7 (k : Nat) : (2 : Int) ^ (7 * k) = 128 ^ k := by rw [Int.pow_mul]; rfl
theorem ret4 {a b c d a' b' c' d' : Int} (h : (a, b, c, d) = (a', b', c', d')) : Ending.returned (.tuple #[.int .u64 a, .int .i64 b, .int .i64 c, .int .i64 d]) = .returned (.tuple #[.int .u64 a', .int .i64 b', .int .i64 c', .int .i64 d']) := by
  simp only [Prod.mk.injEq] at h
  obtain ⟨rfl, rfl, rfl, rfl⟩ := h; rfl
theorem results_tmp4 {fn : Func} {t u v z : Tmp} (h : fn.results = #[.tmp t, .tmp u, .tmp v, .tmp z]) (tmps : Array Value) (P : Program) (w : World) :
    (results fn tmps).run P w = .ok (.tuple #[tmps.getD t undef, tmps.getD u undef, tmps.getD v undef, tmps.getD z undef]) w := by
  simp [results, h]
def out4 (r : Int × Int × Int × Int) : Value := .tuple #[.int .u64 r.1, .int .i64 r.2.1, .int .i64 r.2.2.1, .int .i64 r.2.2.2]
theorem ret_out4 {a b c d : Int} {r : Int × Int × Int × Int} (h : r = (a, b, c, d)) : Ending.returned (.tuple #[.int .u64 a, .int .i64 b, .int .i64 c, .int .i64 d]) = .returned (out4 r) := by rw [h]; rfl
theorem rd_short {s : Bool} {f : Nat → Int} {len : Nat} {bits : Int} {a m k : Nat} {x : Int} (h : a + k = len) : rd s f len bits a (m + 1) k x = (0, 0, 0, 5) := by
  rw [rd, if_pos h]
theorem rd_bad {s : Bool} {f : Nat → Int} {len : Nat} {bits : Int} {a m k : Nat} {x : Int} (h : a + k ≠ len) (hb : fitB s (lowI (f (a + k))) (bits - 7 * k) = false ∨ (bits - 7 * k ≤ 7 ∧ 128 ≤ f (a + k))) : rd s f len bits a (m + 1) k x = (0, 0, 0, 6) := by
  rw [rd, if_neg h]; exact if_pos hb
theorem rd_end {s : Bool} {f : Nat → Int} {len : Nat} {bits : Int} {a m k : Nat} {x : Int} (h : a + k ≠ len) (hf : fitB s (lowI (f (a + k))) (bits - 7 * k) = true) (hc : f (a + k) < 128) : rd s f len bits a (m + 1) k x = (x + lowI (f (a + k)) * 128 ^ k % 18446744073709551616, 7 * (k : Int) + 7, (a : Int) + k + 1, 0) := by
  rw [rd, if_neg h]
  refine (if_neg ?_).trans (if_pos hc)
  rintro (h | h)
  · rw [hf] at h; cases h
  · omega
theorem rd_more {s : Bool} {f : Nat → Int} {len : Nat} {bits : Int} {a m k : Nat} {x : Int} (h : a + k ≠ len) (hf : fitB s (lowI (f (a + k))) (bits - 7 * k) = true) (hl : 7 < bits - 7 * k) (hc : 128 ≤ f (a + k)) : rd s f len bits a (m + 1) k x = rd s f len bits a m (k + 1) (x + lowI (f (a + k)) * 128 ^ k % 18446744073709551616) := by
  rw [rd, if_neg h]
  refine (if_neg ?_).trans (if_neg (by omega))
  rintro (h | h)
  · rw [hf] at h; cases h
  · omega
set_option maxHeartbeats 2000000 in
theorem read_u_bad (sv : Value) (a bits : Int) (xa : Option Addr) (len cap : Nat) (hsv : sv = .slice xa len cap) (h : bits < 1 ∨ 64 < bits ∨ a < 0 ∨ (len : Int) < a) (w : World) :
    Calls Try.prog 20 #[sv, .int .i64 a, .int .i64 bits, .func (.func 21) #[] #[]] w fun e w' => e = .returned (out4 (0, 0, 0, 1)) ∧ w = w' := by
  subst hsv
  by_cases h1 : bits < 1
  · clear h
    go_enter Try.func20, Try.ntmps20
    go_wp2
    (try simp only [Exit.inBlock, Exit.then]); refine bodyPost_ret (results_tmp4 rfl _ _ _) rfl ?_
    exact ⟨rfl, rfl⟩
  · by_cases h2 : 64 < bits
    · clear h
      go_enter Try.func20, Try.ntmps20
      go_wp2
      (try simp only [Exit.inBlock, Exit.then]); refine bodyPost_ret (results_tmp4 rfl _ _ _) rfl ?_
      exact ⟨rfl, rfl⟩
    · by_cases h3 : a < 0
      · clear h
        go_enter Try.func20, Try.ntmps20
        go_wp2
        (try simp only [Exit.inBlock, Exit.then]); refine bodyPost_ret (results_tmp4 rfl _ _ _) rfl ?_
        exact ⟨rfl, rfl⟩
      · have h4 : (len : Int) < a := by omega
        clear h
        go_enter Try.func20, Try.ntmps20
        go_wp2
        (try simp only [Exit.inBlock, Exit.then]); refine bodyPost_ret (results_tmp4 rfl _ _ _) rfl ?_
        exact ⟨rfl, rfl⟩
set_option maxHeartbeats 2000000 in
theorem read_u_zero (a0 : Option Addr) (cap : Nat) (bits : Int) (hb1 : 1 ≤ bits) (hb2 : bits ≤ 64) (w : World) :
    Calls Try.prog 20 #[.slice a0 0 cap, .int .i64 0, .int .i64 bits, .func (.func 21) #[] #[]] w fun e w' => e = .returned (out4 (0, 0, 0, 5)) ∧ w = w' := by
  have g1 : ¬ bits < 1 := by omega
  have g2 : ¬ 64 < bits := by omega
  go_enter Try.func20, Try.ntmps20
  go_wp2
  refine wp_loop_rounds 1 ?_
  rw [rounds_succ]
  go_wp2
  (try simp only [Exit.inBlock, Exit.then]); refine bodyPost_ret (results_tmp4 rfl _ _ _) rfl ?_
  exact ⟨rfl, rfl⟩
set_option maxHeartbeats 4000000 in
theorem read_u_some (b off cap len a : Nat) (f : Nat → Int) (hf : By f) (bits : Int) (hb1 : 1 ≤ bits) (hb2 : bits ≤ 64) (hal : a ≤ len) (hl : len ≤ 9223372036854775807) (w : World) (hc : ∀ j, j < len → w.cell? ⟨b, off + j, none⟩ = some (.int .u8 (f j))) :
    Calls Try.prog 20 #[.slice (some ⟨b, off, none⟩) len cap, .int .i64 a, .int .i64 bits, .func (.func 21) #[] #[]] w fun e w' => e = .returned (out4 (rd false f len bits a 10 0 0)) ∧ w = w' := by
  have HC := Lib.hid hc
  have HF := Lib.hid hf
  have g1 : ¬ bits < 1 := by omega
  have g2 : ¬ 64 < bits := by omega
  have g3 : ¬ (len : Int) < (a : Int) := by omega
  clear hc hf
  generalize hR : rd false f len bits a 10 0 0 = R
  have HR := Lib.hid hR
  clear hR
  go_enter Try.func20, Try.ntmps20
  go_wp2_with fail
  go_loop [1, 12, 13] (fun at' x i => ∃ (p k q : Nat) (xv : Int), p = a + k ∧ q = 7 * k ∧ p ≤ len ∧ k ≤ 9 ∧ (q : Int) < bits ∧ at' = .int .i64 p ∧ i = .int .i64 q ∧ x = .int .u64 xv ∧ 0 ≤ xv ∧ xv < 2 ^ q ∧ rd false f len bits a (10 - k) k xv = R) (fun _ _ i => 64 - (intOf i).toNat)
  case atStart => exact ⟨a, 0, 0, 0, rfl, rfl, hal, by decide, by omega, rfl, rfl, rfl, by decide, by decide, HR.out⟩
  case round =>
    obtain ⟨p, k, q, xv, hp, hq, hpl, hk, hqb, rfl, rfl, rfl, hx0, hx1, hr⟩ := hrel
    obtain ⟨m, hm⟩ : ∃ m, 10 - k = m + 1 := ⟨9 - k, by omega⟩
    rw [hm] at hr
    have HP := Lib.hid hp
    have HQ := Lib.hid hq
    have HX := Lib.hid (show 0 ≤ xv ∧ xv < 2 ^ q from ⟨hx0, hx1⟩)
    have HRr := Lib.hid hr
    have HM := Lib.hid hm
    have hq63 : q ≤ 63 := by omega
    clear hp hq hr hm hx0 hx1
    by_cases hlt : p = len
    · have hpi : ((p : Int) == (len : Int)) = true := beq_iff_eq.2 (by omega)
      have HPl := Lib.hid hlt
      clear hlt
      go_wp2
      (try simp only [Exit.inBlock, Exit.then]); refine bodyPost_ret (results_tmp4 rfl _ _ _) rfl ?_
      refine ⟨ret_out4 ?_, rfl⟩
      rw [← HRr.out, rd_short (by have := HP.out; have := HPl.out; omega)]
    · have hpi : ((p : Int) == (len : Int)) = false := beq_eq_false_iff_ne.2 (by omega)
      have hlt2 : p < len := by omega
      have h1 := HC.out p hlt2
      have HNe := Lib.hid (show a + k ≠ len by have := HP.out; omega)
      have hbd := HF.out p
      have hA := low_eq (f p) hbd
      have hB := top_eq (f p) hbd
      have HLo := Lib.hid (show 0 ≤ f p % 128 ∧ f p % 128 < 128 by omega)
      have HFt := Lib.hid (fits_u (f p % 128) (bits - q) HLo.out ⟨by omega, by omega⟩)
      have HFe := Lib.hid (show lowI (f (a + k)) = f p % 128 by rw [← HP.out]; rfl)
      have HQe := Lib.hid (show bits - 7 * (k : Int) = bits - q by have := HQ.out; omega)
      have HBk := Lib.hid (show f (a + k) = f p by rw [← HP.out])
      clear hlt
      generalize f p = c at *
      generalize hlo : c % 128 = lo at *
      have HLe := Lib.hid hlo
      clear hlo
      have hwl : IntKind.u64.wrap lo = lo := by rw [IntKind.wrap_u64]; have := HLo.out; omega
      generalize hfv : fitU lo (bits - q) = fv at *
      have HFv := Lib.hid (show fitB false (lowI (f (a + k))) (bits - 7 * (k : Int)) = fv by rw [HFe.out, HQe.out]; exact hfv)
      clear hfv
      cases fv
      · go_wp2_with (go_at_call 21; refine (HFt.out _).mono ?_; rintro e w' ⟨rfl, rfl⟩)
        (try simp only [Exit.inBlock, Exit.then]); refine bodyPost_ret (results_tmp4 rfl _ _ _) rfl ?_
        refine ⟨ret_out4 ?_, rfl⟩
        rw [← HRr.out, rd_bad HNe.out (.inl HFv.out)]
      · by_cases hc : c < 128
        · rw [if_pos hc] at hB
          have HCl := Lib.hid (show f (a + k) < 128 by rw [HBk.out]; exact hc)
          have HS := Lib.hid (or_step xv lo q HX.out HLo.out.1 hq63)
          have HE := Lib.hid (rd_end (m := m) (x := xv) HNe.out HFv.out HCl.out)
          clear hc
          by_cases hl7 : bits - q ≤ 7
          · go_wp2_with (go_at_call 21; refine (HFt.out _).mono ?_; rintro e w' ⟨rfl, rfl⟩)
            (try simp only [Exit.inBlock, Exit.then]); refine bodyPost_ret (results_tmp4 rfl _ _ _) rfl ?_
            refine ⟨ret_out4 ?_, rfl⟩
            rw [← HRr.out, HE.out, HFe.out, HS.out, HQ.out, pow7, HP.out]; push_cast; rfl
          · go_wp2_with (go_at_call 21; refine (HFt.out _).mono ?_; rintro e w' ⟨rfl, rfl⟩)
            (try simp only [Exit.inBlock, Exit.then]); refine bodyPost_ret (results_tmp4 rfl _ _ _) rfl ?_
            refine ⟨ret_out4 ?_, rfl⟩
            rw [← HRr.out, HE.out, HFe.out, HS.out, HQ.out, pow7, HP.out]; push_cast; rfl
        · rw [if_neg hc] at hB
          have HCl := Lib.hid (show 128 ≤ f (a + k) by rw [HBk.out]; omega)
          clear hc
          by_cases hl7 : bits - q ≤ 7
          · have HE := Lib.hid (rd_bad (s := false) (m := m) (x := xv) HNe.out (.inr ⟨by rw [HQe.out]; exact hl7, HCl.out⟩))
            go_wp2_with (go_at_call 21; refine (HFt.out _).mono ?_; rintro e w' ⟨rfl, rfl⟩)
            (try simp only [Exit.inBlock, Exit.then]); refine bodyPost_ret (results_tmp4 rfl _ _ _) rfl ?_
            refine ⟨ret_out4 ?_, rfl⟩
            rw [← HRr.out, HE.out]
          · have HS := Lib.hid (or_step xv lo q HX.out HLo.out.1 hq63)
            have HE := Lib.hid (rd_more (m := m) (x := xv) HNe.out HFv.out (by rw [HQe.out]; omega) HCl.out)
            go_wp2_with (go_at_call 21; refine (HFt.out _).mono ?_; rintro e w' ⟨rfl, rfl⟩)
            exact ⟨⟨p + 1, k + 1, q + 7, xv + lo * 2 ^ q % 18446744073709551616, by have := HP.out; omega, by have := HQ.out; omega, by omega, by have := HQ.out; omega, by push_cast; omega, by push_cast; rfl, by push_cast; rfl, by rw [HS.out], (step_bd HX.out HLo.out).1, (step_bd HX.out HLo.out).2, by
              rw [show 10 - (k + 1) = m by have := HM.out; omega, ← HRr.out, HE.out, HFe.out, HQ.out, pow7]⟩, by simp [intOf]; omega⟩
set_option maxHeartbeats 2000000 in
theorem read_s_bad (sv : Value) (a bits : Int) (xa : Option Addr) (len cap : Nat) (hsv : sv = .slice xa len cap) (h : bits < 1 ∨ 64 < bits ∨ a < 0 ∨ (len : Int) < a) (w : World) :
    Calls Try.prog 20 #[sv, .int .i64 a, .int .i64 bits, .func (.func 23) #[] #[]] w fun e w' => e = .returned (out4 (0, 0, 0, 1)) ∧ w = w' := by
  subst hsv
  by_cases h1 : bits < 1
  · clear h
    go_enter Try.func20, Try.ntmps20
    go_wp2
    (try simp only [Exit.inBlock, Exit.then]); refine bodyPost_ret (results_tmp4 rfl _ _ _) rfl ?_
    exact ⟨rfl, rfl⟩
  · by_cases h2 : 64 < bits
    · clear h
      go_enter Try.func20, Try.ntmps20
      go_wp2
      (try simp only [Exit.inBlock, Exit.then]); refine bodyPost_ret (results_tmp4 rfl _ _ _) rfl ?_
      exact ⟨rfl, rfl⟩
    · by_cases h3 : a < 0
      · clear h
        go_enter Try.func20, Try.ntmps20
        go_wp2
        (try simp only [Exit.inBlock, Exit.then]); refine bodyPost_ret (results_tmp4 rfl _ _ _) rfl ?_
        exact ⟨rfl, rfl⟩
      · have h4 : (len : Int) < a := by omega
        clear h
        go_enter Try.func20, Try.ntmps20
        go_wp2
        (try simp only [Exit.inBlock, Exit.then]); refine bodyPost_ret (results_tmp4 rfl _ _ _) rfl ?_
        exact ⟨rfl, rfl⟩
set_option maxHeartbeats 2000000 in
theorem read_s_zero (a0 : Option Addr) (cap : Nat) (bits : Int) (hb1 : 1 ≤ bits) (hb2 : bits ≤ 64) (w : World) :
    Calls Try.prog 20 #[.slice a0 0 cap, .int .i64 0, .int .i64 bits, .func (.func 23) #[] #[]] w fun e w' => e = .returned (out4 (0, 0, 0, 5)) ∧ w = w' := by
  have g1 : ¬ bits < 1 := by omega
  have g2 : ¬ 64 < bits := by omega
  go_enter Try.func20, Try.ntmps20
  go_wp2
  refine wp_loop_rounds 1 ?_
  rw [rounds_succ]
  go_wp2
  (try simp only [Exit.inBlock, Exit.then]); refine bodyPost_ret (results_tmp4 rfl _ _ _) rfl ?_
  exact ⟨rfl, rfl⟩
set_option maxHeartbeats 4000000 in
theorem read_s_some (b off cap len a : Nat) (f : Nat → Int) (hf : By f) (bits : Int) (hb1 : 1 ≤ bits) (hb2 : bits ≤ 64) (hal : a ≤ len) (hl : len ≤ 9223372036854775807) (w : World) (hc : ∀ j, j < len → w.cell? ⟨b, off + j, none⟩ = some (.int .u8 (f j))) :
    Calls Try.prog 20 #[.slice (some ⟨b, off, none⟩) len cap, .int .i64 a, .int .i64 bits, .func (.func 23) #[] #[]] w fun e w' => e = .returned (out4 (rd true f len bits a 10 0 0)) ∧ w = w' := by
  have HC := Lib.hid hc
  have HF := Lib.hid hf
  have g1 : ¬ bits < 1 := by omega
  have g2 : ¬ 64 < bits := by omega
  have g3 : ¬ (len : Int) < (a : Int) := by omega
  clear hc hf
  generalize hR : rd true f len bits a 10 0 0 = R
  have HR := Lib.hid hR
  clear hR
  go_enter Try.func20, Try.ntmps20
  go_wp2_with fail
  go_loop [1, 12, 13] (fun at' x i => ∃ (p k q : Nat) (xv : Int), p = a + k ∧ q = 7 * k ∧ p ≤ len ∧ k ≤ 9 ∧ (q : Int) < bits ∧ at' = .int .i64 p ∧ i = .int .i64 q ∧ x = .int .u64 xv ∧ 0 ≤ xv ∧ xv < 2 ^ q ∧ rd true f len bits a (10 - k) k xv = R) (fun _ _ i => 64 - (intOf i).toNat)
  case atStart => exact ⟨a, 0, 0, 0, rfl, rfl, hal, by decide, by omega, rfl, rfl, rfl, by decide, by decide, HR.out⟩
  case round =>
    obtain ⟨p, k, q, xv, hp, hq, hpl, hk, hqb, rfl, rfl, rfl, hx0, hx1, hr⟩ := hrel
    obtain ⟨m, hm⟩ : ∃ m, 10 - k = m + 1 := ⟨9 - k, by omega⟩
    rw [hm] at hr
    have HP := Lib.hid hp
    have HQ := Lib.hid hq
    have HX := Lib.hid (show 0 ≤ xv ∧ xv < 2 ^ q from ⟨hx0, hx1⟩)
    have HRr := Lib.hid hr
    have HM := Lib.hid hm
    have hq63 : q ≤ 63 := by omega
    clear hp hq hr hm hx0 hx1
    by_cases hlt : p = len
    · have hpi : ((p : Int) == (len : Int)) = true := beq_iff_eq.2 (by omega)
      have HPl := Lib.hid hlt
      clear hlt
      go_wp2
      (try simp only [Exit.inBlock, Exit.then]); refine bodyPost_ret (results_tmp4 rfl _ _ _) rfl ?_
      refine ⟨ret_out4 ?_, rfl⟩
      rw [← HRr.out, rd_short (by have := HP.out; have := HPl.out; omega)]
    · have hpi : ((p : Int) == (len : Int)) = false := beq_eq_false_iff_ne.2 (by omega)
      have hlt2 : p < len := by omega
      have h1 := HC.out p hlt2
      have HNe := Lib.hid (show a + k ≠ len by have := HP.out; omega)
      have hbd := HF.out p
      have hA := low_eq (f p) hbd
      have hB := top_eq (f p) hbd
      have HLo := Lib.hid (show 0 ≤ f p % 128 ∧ f p % 128 < 128 by omega)
      have HFt := Lib.hid (fits_s (f p % 128) (bits - q) HLo.out ⟨by omega, by omega⟩)
      have HFe := Lib.hid (show lowI (f (a + k)) = f p % 128 by rw [← HP.out]; rfl)
      have HQe := Lib.hid (show bits - 7 * (k : Int) = bits - q by have := HQ.out; omega)
      have HBk := Lib.hid (show f (a + k) = f p by rw [← HP.out])
      clear hlt
      generalize f p = c at *
      generalize hlo : c % 128 = lo at *
      have HLe := Lib.hid hlo
      clear hlo
      have hwl : IntKind.u64.wrap lo = lo := by rw [IntKind.wrap_u64]; have := HLo.out; omega
      generalize hfv : fitS lo (bits - q) = fv at *
      have HFv := Lib.hid (show fitB true (lowI (f (a + k))) (bits - 7 * (k : Int)) = fv by rw [HFe.out, HQe.out]; exact hfv)
      clear hfv
      cases fv
      · go_wp2_with (go_at_call 23; refine (HFt.out _).mono ?_; rintro e w' ⟨rfl, rfl⟩)
        (try simp only [Exit.inBlock, Exit.then]); refine bodyPost_ret (results_tmp4 rfl _ _ _) rfl ?_
        refine ⟨ret_out4 ?_, rfl⟩
        rw [← HRr.out, rd_bad HNe.out (.inl HFv.out)]
      · by_cases hc : c < 128
        · rw [if_pos hc] at hB
          have HCl := Lib.hid (show f (a + k) < 128 by rw [HBk.out]; exact hc)
          have HS := Lib.hid (or_step xv lo q HX.out HLo.out.1 hq63)
          have HE := Lib.hid (rd_end (m := m) (x := xv) HNe.out HFv.out HCl.out)
          clear hc
          by_cases hl7 : bits - q ≤ 7
          · go_wp2_with (go_at_call 23; refine (HFt.out _).mono ?_; rintro e w' ⟨rfl, rfl⟩)
            (try simp only [Exit.inBlock, Exit.then]); refine bodyPost_ret (results_tmp4 rfl _ _ _) rfl ?_
            refine ⟨ret_out4 ?_, rfl⟩
            rw [← HRr.out, HE.out, HFe.out, HS.out, HQ.out, pow7, HP.out]; push_cast; rfl
          · go_wp2_with (go_at_call 23; refine (HFt.out _).mono ?_; rintro e w' ⟨rfl, rfl⟩)
            (try simp only [Exit.inBlock, Exit.then]); refine bodyPost_ret (results_tmp4 rfl _ _ _) rfl ?_
            refine ⟨ret_out4 ?_, rfl⟩
            rw [← HRr.out, HE.out, HFe.out, HS.out, HQ.out, pow7, HP.out]; push_cast; rfl
        · rw [if_neg hc] at hB
          have HCl := Lib.hid (show 128 ≤ f (a + k) by rw [HBk.out]; omega)
          clear hc
          by_cases hl7 : bits - q ≤ 7
          · have HE := Lib.hid (rd_bad (s := true) (m := m) (x := xv) HNe.out (.inr ⟨by rw [HQe.out]; exact hl7, HCl.out⟩))
            go_wp2_with (go_at_call 23; refine (HFt.out _).mono ?_; rintro e w' ⟨rfl, rfl⟩)
            (try simp only [Exit.inBlock, Exit.then]); refine bodyPost_ret (results_tmp4 rfl _ _ _) rfl ?_
            refine ⟨ret_out4 ?_, rfl⟩
            rw [← HRr.out, HE.out]
          · have HS := Lib.hid (or_step xv lo q HX.out HLo.out.1 hq63)
            have HE := Lib.hid (rd_more (m := m) (x := xv) HNe.out HFv.out (by rw [HQe.out]; omega) HCl.out)
            go_wp2_with (go_at_call 23; refine (HFt.out _).mono ?_; rintro e w' ⟨rfl, rfl⟩)
            exact ⟨⟨p + 1, k + 1, q + 7, xv + lo * 2 ^ q % 18446744073709551616, by have := HP.out; omega, by have := HQ.out; omega, by omega, by have := HQ.out; omega, by push_cast; omega, by push_cast; rfl, by push_cast; rfl, by rw [HS.out], (step_bd HX.out HLo.out).1, (step_bd HX.out HLo.out).2, by
              rw [show 10 - (k + 1) = m by have := HM.out; omega, ← HRr.out, HE.out, HFe.out, HQ.out, pow7]⟩, by simp [intOf]; omega⟩
theorem read_u_any (sv : Value) (len : Nat) (f : Nat → Int) (hf : By f) (a bits : Int) (w : World) (h : U8s w sv len f) :
    Calls Try.prog 20 #[sv, .int .i64 a, .int .i64 bits, .func (.func 21) #[] #[]] w fun e w' => e = .returned (out4 (LebM.read false f len a bits)) ∧ w = w' := by
  obtain ⟨xa, cap, hsv⟩ := slice_u8s h
  unfold LebM.read
  by_cases hb : bits < 1 ∨ 64 < bits ∨ a < 0 ∨ (len : Int) < a
  · rw [if_pos hb]
    exact read_u_bad sv a bits xa len cap hsv hb w
  · rw [if_neg hb]
    obtain ⟨n, rfl⟩ := Int.eq_ofNat_of_zero_le (show 0 ≤ a by omega)
    rw [Int.toNat_natCast]
    rcases h with ⟨rfl, x, c, rfl⟩ | ⟨hl, b, off, c, rfl, hc⟩
    · obtain rfl : n = 0 := by omega
      rw [show rd false f 0 bits 0 10 0 0 = (0, 0, 0, 5) from rd_short rfl]
      exact read_u_zero x c bits (by omega) (by omega) w
    · exact read_u_some b off c len n f hf bits (by omega) (by omega) (by omega) hl w hc
theorem read_s_any (sv : Value) (len : Nat) (f : Nat → Int) (hf : By f) (a bits : Int) (w : World) (h : U8s w sv len f) :
    Calls Try.prog 20 #[sv, .int .i64 a, .int .i64 bits, .func (.func 23) #[] #[]] w fun e w' => e = .returned (out4 (LebM.read true f len a bits)) ∧ w = w' := by
  obtain ⟨xa, cap, hsv⟩ := slice_u8s h
  unfold LebM.read
  by_cases hb : bits < 1 ∨ 64 < bits ∨ a < 0 ∨ (len : Int) < a
  · rw [if_pos hb]
    exact read_s_bad sv a bits xa len cap hsv hb w
  · rw [if_neg hb]
    obtain ⟨n, rfl⟩ := Int.eq_ofNat_of_zero_le (show 0 ≤ a by omega)
    rw [Int.toNat_natCast]
    rcases h with ⟨rfl, x, c, rfl⟩ | ⟨hl, b, off, c, rfl, hc⟩
    · obtain rfl : n = 0 := by omega
      rw [show rd true f 0 bits 0 10 0 0 = (0, 0, 0, 5) from rd_short rfl]
      exact read_s_zero x c bits (by omega) (by omega) w
    · exact read_s_some b off c len n f hf bits (by omega) (by omega) (by omega) hl w hc
end Go.Proofs.Ythdklnkaeddogaa
