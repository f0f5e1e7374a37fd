/-
  The reference's U and S.
-/
import Derived.Test.YthdklnkaeddogaaLebRRead
namespace Go.Proofs.Ythdklnkaeddogaa
open Go.RowKit LebM
/-- the number of the first n bits -/
def sb (f : Nat → Int) (a : Nat) : Nat → Int
  | 0 => 0
  | n + 1 => sb f a n + bt (f (a + n / 7)) (n % 7) * 2 ^ n
theorem sb_bd (f : Nat → Int) (a : Nat) : ∀ n, 0 ≤ sb f a n ∧ sb f a n < 2 ^ n
  | 0 => by simp [sb]
  | n + 1 => by
    have h := sb_bd f a n
    have hb := bt_bd (f (a + n / 7)) (n % 7)
    have hp := p2pos n
    have e : (2 : Int) ^ (n + 1) = 2 * 2 ^ n := by rw [Int.pow_succ, Int.mul_comm]
    simp only [sb]
    have h2 : 0 ≤ bt (f (a + n / 7)) (n % 7) * 2 ^ n := Int.mul_nonneg hb.1 (Int.le_of_lt hp)
    have h3 : bt (f (a + n / 7)) (n % 7) * 2 ^ n ≤ 1 * 2 ^ n := Int.mul_le_mul_of_nonneg_right hb.2 (Int.le_of_lt hp)
    omega
theorem low_bits (c : Int) : bt c 0 + bt c 1 * 2 + bt c 2 * 4 + bt c 3 * 8 + bt c 4 * 16 + bt c 5 * 32 + bt c 6 * 64 = c % 128 := by
  unfold bt
  simp only [show (2 : Int) ^ 0 = 1 from rfl, show (2 : Int) ^ 1 = 2 from rfl, show (2 : Int) ^ 2 = 4 from rfl, show (2 : Int) ^ 3 = 8 from rfl, show (2 : Int) ^ 4 = 16 from rfl, show (2 : Int) ^ 5 = 32 from rfl, show (2 : Int) ^ 6 = 64 from rfl]
  omega
theorem sb_at (f : Nat → Int) (a k i : Nat) (hi : i < 7) : sb f a (7 * k + (i + 1)) = sb f a (7 * k + i) + bt (f (a + k)) i * (128 ^ k * 2 ^ i) := by
  show sb f a (7 * k + i + 1) = _
  simp only [sb]
  rw [show (7 * k + i) / 7 = k by omega, show (7 * k + i) % 7 = i by omega, p2, pow7]
theorem sb_byte (f : Nat → Int) (a k : Nat) : sb f a (7 * (k + 1)) = sb f a (7 * k) + lowI (f (a + k)) * 128 ^ k := by
  have h0 := sb_at f a k 0 (by decide)
  have h1 := sb_at f a k 1 (by decide)
  have h2 := sb_at f a k 2 (by decide)
  have h3 := sb_at f a k 3 (by decide)
  have h4 := sb_at f a k 4 (by decide)
  have h5 := sb_at f a k 5 (by decide)
  have h6 := sb_at f a k 6 (by decide)
  have e := low_bits (f (a + k))
  show sb f a (7 * k + 7) = _
  unfold lowI
  rw [← e]
  simp only [Nat.add_zero, Int.pow_zero, Int.mul_one, show (2 : Int) ^ 1 = 2 from rfl, show (2 : Int) ^ 2 = 4 from rfl, show (2 : Int) ^ 3 = 8 from rfl, show (2 : Int) ^ 4 = 16 from rfl, show (2 : Int) ^ 5 = 32 from rfl, show (2 : Int) ^ 6 = 64 from rfl, Nat.zero_add] at *
  rw [h6, h5, h4, h3, h2, h1, h0]
  simp only [Int.add_mul, Int.mul_assoc]
  have q : ∀ x y : Int, x * (128 ^ k * y) = x * (y * 128 ^ k) := fun x y => by rw [Int.mul_comm (128 ^ k)]
  simp only [q]
  omega
/-- read's sum is the number of its first bits, 64 at most -/
def SumOk (f : Nat → Int) (a : Nat) (r : Int × Int × Int × Int) : Prop := r.2.2.2 ≠ 0 ∧ r.1 = 0 ∧ r.2.1 = 0 ∧ r.2.2.1 = 0 ∨ r.2.2.2 = 0 ∧ ∃ j : Nat, j ≤ 9 ∧ r.2.1 = ((7 * (j + 1) : Nat) : Int) ∧ r.1 = sb f a (min (7 * (j + 1)) 64)
theorem rd_sumOk (s : Bool) {f : Nat → Int} (hf : By f) (len : Nat) (bits : Int) (a : Nat) : ∀ m k, m + k = 10 → SumOk f a (rd s f len bits a m k (sb f a (7 * k)))
  | 0, _, _ => .inl ⟨by rw [rd]; decide, rfl, rfl, rfl⟩
  | m + 1, k, hm => by
    rw [rd]
    have hb := hf (a + k)
    have hx := sb_bd f a (7 * k)
    have hlo : 0 ≤ lowI (f (a + k)) ∧ lowI (f (a + k)) < 128 := by unfold lowI; omega
    have hp := p128pos k
    have hs := sb_byte f a k
    split
    · exact .inl ⟨by decide, rfl, rfl, rfl⟩
    · simp only []
      split
      · exact .inl ⟨by decide, rfl, rfl, rfl⟩
      · by_cases h9 : k = 9
        · subst h9
          have e9 : (128 : Int) ^ 9 = 9223372036854775808 := rfl
          have hb0 : bt (f (a + 9)) 0 = lowI (f (a + 9)) % 2 := by unfold bt lowI; rw [Int.pow_zero]; omega
          have h64 : sb f a 64 = sb f a 63 + bt (f (a + 9)) 0 * 2 ^ 63 := rfl
          have e63 : (2 : Int) ^ 63 = 9223372036854775808 := rfl
          have hval : sb f a (7 * 9) + lowI (f (a + 9)) * 128 ^ 9 % 18446744073709551616 = sb f a 64 := by
            rw [h64, hb0, e9, e63]
            show sb f a 63 + _ = _
            omega
          split
          · refine .inr ⟨rfl, 9, by decide, rfl, ?_⟩
            show _ = sb f a 64
            exact hval
          · obtain rfl : m = 0 := by omega
            exact .inl ⟨by rw [rd]; decide, rfl, rfl, rfl⟩
        · have hp8 : (128 : Int) ^ k ≤ 72057594037927936 := by
            have := p2le (show 7 * k ≤ 56 by omega)
            rw [pow7] at this
            exact this
          have h1 : 0 ≤ lowI (f (a + k)) * 128 ^ k := Int.mul_nonneg hlo.1 (Int.le_of_lt hp)
          have h2 : lowI (f (a + k)) * 128 ^ k ≤ 127 * 128 ^ k := Int.mul_le_mul_of_nonneg_right (by omega) (Int.le_of_lt hp)
          have hval : sb f a (7 * k) + lowI (f (a + k)) * 128 ^ k % 18446744073709551616 = sb f a (7 * (k + 1)) := by rw [mod64 h1 (by omega), hs]
          rw [hval]
          split
          · refine .inr ⟨rfl, k, by omega, by push_cast; omega, ?_⟩
            rw [Nat.min_eq_left (by omega)]
          · exact rd_sumOk s hf len bits a m (k + 1) (by omega)
theorem read_sumOk (s : Bool) {f : Nat → Int} (hf : By f) (len : Nat) (a bits : Int) : SumOk f a.toNat (LebM.read s f len a bits) := by
  unfold LebM.read
  split
  · exact .inl ⟨by decide, rfl, rfl, rfl⟩
  · exact rd_sumOk s hf len bits a.toNat 10 0 rfl
theorem rread_u_bad (sv : Value) (a bits : Int) (xa : Option Addr) (len cap : Nat) (hsv : sv = .slice xa len cap) (h : bits < 1 ∨ 64 < bits ∨ a < 0 ∨ (len : Int) < a) (w : World) :
    Calls Try.prog 22 #[sv, .int .i64 a, .int .i64 bits, .bool false] w fun e w' => e = .returned (.tuple #[.slice none 0 0, .int .i64 0, .int .i64 1]) ∧ w = w' := by
  subst hsv
  by_cases h1 : bits < 1
  · clear h
    go_enter Try.func22, Try.ntmps22
    go_wp2
    go_ret3
    exact ⟨rfl, rfl⟩
  · by_cases h2 : 64 < bits
    · clear h
      go_enter Try.func22, Try.ntmps22
      go_wp2
      go_ret3
      exact ⟨rfl, rfl⟩
    · by_cases h3 : a < 0
      · clear h
        go_enter Try.func22, Try.ntmps22
        go_wp2
        go_ret3
        exact ⟨rfl, rfl⟩
      · have h4 : (len : Int) < a := by omega
        clear h
        go_enter Try.func22, Try.ntmps22
        go_wp2
        go_ret3
        exact ⟨rfl, rfl⟩
theorem rread_u_zero (a0 : Option Addr) (cap : Nat) (bits : Int) (hb1 : 1 ≤ bits) (hb2 : bits ≤ 64) (w : World) :
    Calls Try.prog 22 #[.slice a0 0 cap, .int .i64 0, .int .i64 bits, .bool false] w fun e w' => e = .returned (.tuple #[.slice none 0 0, .int .i64 0, .int .i64 5]) ∧ w = w' := by
  have g1 : ¬ bits < 1 := by omega
  have g2 : ¬ 64 < bits := by omega
  go_enter Try.func22, Try.ntmps22
  go_wp2
  refine wp_loop_rounds 1 ?_
  rw [rounds_succ]
  go_wp2
  go_ret3
  exact ⟨rfl, rfl⟩
theorem rread_u_any (sv : Value) (len : Nat) (hlen : len ≤ 1048576) (f : Nat → Int) (hf : By f) (a bits : Int) (w : World) (h : U8s w sv len f) :
    Calls Try.prog 22 #[sv, .int .i64 a, .int .i64 bits, .bool false] w fun e w' => ∃ lv, e = .returned (.tuple #[lv, .int .i64 (LebM.read false f len a bits).2.2.1, .int .i64 (LebM.read false f len a bits).2.2.2]) ∧ Gr w w' ∧ w'.ownsRow w.heap.size 3 1 lv (LebM.read false f len a bits).2.1.toNat (bl f a.toNat (LebM.read false f len a bits).2.1.toNat) := by
  obtain ⟨xa, cap, hsv⟩ := slice_u8s h
  unfold LebM.read
  by_cases hb : bits < 1 ∨ 64 < bits ∨ a < 0 ∨ (len : Int) < a
  · rw [if_pos hb]
    exact (rread_u_bad sv a bits xa len cap hsv hb w).mono fun e w' ⟨h1, h2⟩ => ⟨_, h1, by subst h2; exact Gr.refl _, World.ownsRow_nil _ _ _ _⟩
  · rw [if_neg hb]
    obtain ⟨n, rfl⟩ := Int.eq_ofNat_of_zero_le (show 0 ≤ a by omega)
    rw [Int.toNat_natCast]
    rcases h with ⟨rfl, x, c, rfl⟩ | ⟨hl, b, off, c, rfl, hc⟩
    · obtain rfl : n = 0 := by omega
      rw [show rd false f 0 bits 0 10 0 0 = (0, 0, 0, 5) from rd_short rfl]
      exact (rread_u_zero x c bits (by omega) (by omega) w).mono fun e w' ⟨h1, h2⟩ => ⟨_, h1, by subst h2; exact Gr.refl _, World.ownsRow_nil _ _ _ _⟩
    · exact rread_u_some b off c len n f hf bits (by omega) (by omega) (by omega) (by omega) w hc
theorem rread_s_bad (sv : Value) (a bits : Int) (xa : Option Addr) (len cap : Nat) (hsv : sv = .slice xa len cap) (h : bits < 1 ∨ 64 < bits ∨ a < 0 ∨ (len : Int) < a) (w : World) :
    Calls Try.prog 22 #[sv, .int .i64 a, .int .i64 bits, .bool true] w fun e w' => e = .returned (.tuple #[.slice none 0 0, .int .i64 0, .int .i64 1]) ∧ w = w' := by
  subst hsv
  by_cases h1 : bits < 1
  · clear h
    go_enter Try.func22, Try.ntmps22
    go_wp2
    go_ret3
    exact ⟨rfl, rfl⟩
  · by_cases h2 : 64 < bits
    · clear h
      go_enter Try.func22, Try.ntmps22
      go_wp2
      go_ret3
      exact ⟨rfl, rfl⟩
    · by_cases h3 : a < 0
      · clear h
        go_enter Try.func22, Try.ntmps22
        go_wp2
        go_ret3
        exact ⟨rfl, rfl⟩
      · have h4 : (len : Int) < a := by omega
        clear h
        go_enter Try.func22, Try.ntmps22
        go_wp2
        go_ret3
        exact ⟨rfl, rfl⟩
theorem rread_s_zero (a0 : Option Addr) (cap : Nat) (bits : Int) (hb1 : 1 ≤ bits) (hb2 : bits ≤ 64) (w : World) :
    Calls Try.prog 22 #[.slice a0 0 cap, .int .i64 0, .int .i64 bits, .bool true] w fun e w' => e = .returned (.tuple #[.slice none 0 0, .int .i64 0, .int .i64 5]) ∧ w = w' := by
  have g1 : ¬ bits < 1 := by omega
  have g2 : ¬ 64 < bits := by omega
  go_enter Try.func22, Try.ntmps22
  go_wp2
  refine wp_loop_rounds 1 ?_
  rw [rounds_succ]
  go_wp2
  go_ret3
  exact ⟨rfl, rfl⟩
theorem rread_s_any (sv : Value) (len : Nat) (hlen : len ≤ 1048576) (f : Nat → Int) (hf : By f) (a bits : Int) (w : World) (h : U8s w sv len f) :
    Calls Try.prog 22 #[sv, .int .i64 a, .int .i64 bits, .bool true] w fun e w' => ∃ lv, e = .returned (.tuple #[lv, .int .i64 (LebM.read true f len a bits).2.2.1, .int .i64 (LebM.read true f len a bits).2.2.2]) ∧ Gr w w' ∧ w'.ownsRow w.heap.size 3 1 lv (LebM.read true f len a bits).2.1.toNat (bl f a.toNat (LebM.read true f len a bits).2.1.toNat) := by
  obtain ⟨xa, cap, hsv⟩ := slice_u8s h
  unfold LebM.read
  by_cases hb : bits < 1 ∨ 64 < bits ∨ a < 0 ∨ (len : Int) < a
  · rw [if_pos hb]
    exact (rread_s_bad sv a bits xa len cap hsv hb w).mono fun e w' ⟨h1, h2⟩ => ⟨_, h1, by subst h2; exact Gr.refl _, World.ownsRow_nil _ _ _ _⟩
  · rw [if_neg hb]
    obtain ⟨n, rfl⟩ := Int.eq_ofNat_of_zero_le (show 0 ≤ a by omega)
    rw [Int.toNat_natCast]
    rcases h with ⟨rfl, x, c, rfl⟩ | ⟨hl, b, off, c, rfl, hc⟩
    · obtain rfl : n = 0 := by omega
      rw [show rd true f 0 bits 0 10 0 0 = (0, 0, 0, 5) from rd_short rfl]
      exact (rread_s_zero x c bits (by omega) (by omega) w).mono fun e w' ⟨h1, h2⟩ => ⟨_, h1, by subst h2; exact Gr.refl _, World.ownsRow_nil _ _ _ _⟩
    · exact rread_s_some b off c len n f hf bits (by omega) (by omega) (by omega) (by omega) w hc

theorem or_bit {f : Nat → Int} {a k : Nat} (hk : k < 64) : Go.bits .or .u64 (sb f a k) (IntKind.u64.wrap (bt (f (a + k / 7)) (k % 7) * 2 ^ k)) = sb f a (k + 1) := by
  have hb := bt_bd (f (a + k / 7)) (k % 7)
  have h := or_step (sb f a k) (bt (f (a + k / 7)) (k % 7)) k (sb_bd f a k) hb.1 (by omega)
  have hp := p2pos k
  have h1 : 0 ≤ bt (f (a + k / 7)) (k % 7) * 2 ^ k := Int.mul_nonneg hb.1 (Int.le_of_lt hp)
  have h2 : bt (f (a + k / 7)) (k % 7) * 2 ^ k ≤ 1 * 2 ^ k := Int.mul_le_mul_of_nonneg_right hb.2 (Int.le_of_lt hp)
  have h3 := p2le (show k ≤ 63 by omega)
  have e63 : (2 : Int) ^ 63 = 9223372036854775808 := rfl
  rw [h, mod64 h1 (by omega)]; rfl
theorem ret_u3 {x x' y z : Int} (h : x = x') : Ending.returned (.tuple #[.int .u64 x, .int .i64 y, .int .i64 z]) = .returned (.tuple #[.int .u64 x', .int .i64 y, .int .i64 z]) := by rw [h]
set_option maxRecDepth 100000 in
set_option maxHeartbeats 4000000 in
theorem ru_any (sv : Value) (len : Nat) (hlen : len ≤ 1048576) (f : Nat → Int) (hf : By f) (a bits : Int) (w : World) (h : U8s w sv len f) :
    Calls Try.prog 12 #[sv, .int .i64 a, .int .i64 bits] w fun e w' => e = .returned (.tuple #[.int .u64 (LebM.read false f len a bits).1, .int .i64 (LebM.read false f len a bits).2.2.1, .int .i64 (LebM.read false f len a bits).2.2.2]) ∧ Gr w w' := by
  have C := rread_u_any sv len hlen f hf a bits w h
  have hs := read_sumOk false hf len a bits
  generalize LebM.read false f len a bits = r at *
  obtain ⟨x, wd, to, er⟩ := r
  obtain ⟨W, hW, hW70, hx⟩ : ∃ W : Nat, wd.toNat = W ∧ W ≤ 70 ∧ x = sb f a.toNat (min W 64) := by
    rcases hs with ⟨_, h1, h2, _⟩ | ⟨_, j, h1, h2, h3⟩
    · simp only at h1 h2
      subst h1 h2
      exact ⟨0, rfl, by decide, rfl⟩
    · simp only at h2 h3
      exact ⟨7 * (j + 1), by rw [h2]; rfl, by omega, h3⟩
  simp only [hW] at C
  have HC := Lib.hid C
  have HX := Lib.hid hx
  generalize a.toNat = n0 at *
  clear C hs h hx hW
  go_enter Try.func12, Try.ntmps12
  go_wp2_with (go_at_call 22; refine HC.out.mono ?_; rintro e w1 ⟨lv, rfl, hg1, ho1⟩; have HG1 := Lib.hid hg1; have HO1 := Lib.hid ho1; clear hg1 ho1)
  obtain ⟨la, lc, rfl⟩ := own_slice HO1.out
  go_loop [12, 13] (fun nv iv => ∃ k : Nat, k ≤ W ∧ k ≤ 64 ∧ iv = .int .i64 k ∧ nv = .int .u64 (sb f n0 k)) (fun _ iv => 64 - (intOf iv).toNat)
  case atStart => exact ⟨0, by omega, by decide, rfl, rfl⟩
  case round =>
    obtain ⟨k, hk, hk64, rfl, rfl⟩ := hrel
    by_cases hlt : k < W
    · have hltI : (k : Int) < (W : Int) := by omega
      by_cases h64 : k < 64
      · obtain ⟨g, _, he, _, _, _⟩ := own_some HO1.out (by omega)
        obtain rfl := (Value.slice.inj he).1
        clear he
        have hcell : w1.cell? ⟨g, k, none⟩ = some (.int .i64 (bt (f (n0 + k / 7)) (k % 7))) := by rw [HO1.out.cellAt k (by omega), bl_get _ _ _ _ hlt]
        have HO := Lib.hid (or_bit (f := f) (a := n0) h64)
        have hb := bt_bd (f (n0 + k / 7)) (k % 7)
        generalize bt (f (n0 + k / 7)) (k % 7) = y at *
        have hwy : IntKind.u64.wrap y = y := by rw [IntKind.wrap_u64]; omega
        have hwk : IntKind.u64.wrap (k : Int) = k := by rw [IntKind.wrap_u64]; omega
        have h64I : (k : Int) < 64 := by omega
        go_wp2
        exact ⟨⟨k + 1, by omega, by omega, by go_num, by rw [← HO.out]⟩, by simp [intOf]; omega⟩
      · have h64I : decide ((k : Int) < 64) = false := decide_eq_false (by omega)
        have HXk := Lib.hid (show x = sb f n0 k by rw [HX.out, show min W 64 = k by omega])
        clear h64
        go_wp2
        go_ret3
        exact ⟨ret_u3 HXk.out.symm, HG1.out⟩
    · obtain rfl : k = W := by omega
      have hm : min k 64 = k := by omega
      rw [hm] at HX
      clear hm
      go_wp2
      go_ret3
      exact ⟨ret_u3 HX.out.symm, HG1.out⟩

theorem sb_top (f : Nat → Int) (a W : Nat) (h : 0 < W) : (2 ^ (W - 1) ≤ sb f a W ↔ bt (f (a + (W - 1) / 7)) ((W - 1) % 7) = 1) := by
  obtain ⟨V, rfl⟩ : ∃ V, W = V + 1 := ⟨W - 1, by omega⟩
  rw [Nat.add_sub_cancel]
  have h1 := sb_bd f a V
  have hb := bt_bd (f (a + V / 7)) (V % 7)
  have hp := p2pos V
  simp only [sb]
  generalize bt (f (a + V / 7)) (V % 7) = y at *
  have : y = 0 ∨ y = 1 := by omega
  rcases this with rfl | rfl
  · rw [Int.zero_mul]; omega
  · rw [Int.one_mul]; omega
/-- what S has added up behind i rounds: W bits, the last of them over and over -/
def sx (f : Nat → Int) (a W i : Nat) : Int := if i ≤ W then sb f a i else sb f a W + bt (f (a + (W - 1) / 7)) ((W - 1) % 7) * (2 ^ i - 2 ^ W)
theorem sx_step {f : Nat → Int} {a W k : Nat} (hW : 0 < W) (hk : k < 64) : Go.bits .or .u64 (sx f a W k) (IntKind.u64.wrap ((if k < W then bt (f (a + k / 7)) (k % 7) else bt (f (a + (W - 1) / 7)) ((W - 1) % 7)) * 2 ^ k)) = sx f a W (k + 1) := by
  unfold sx
  by_cases h : k < W
  · rw [if_pos (by omega), if_pos h, if_pos (by omega)]
    exact or_bit hk
  · rw [if_neg h, if_neg (show ¬ k + 1 ≤ W by omega)]
    have hb := bt_bd (f (a + (W - 1) / 7)) ((W - 1) % 7)
    have hs := sb_bd f a W
    generalize bt (f (a + (W - 1) / 7)) ((W - 1) % 7) = y at *
    have hpk := p2pos k
    have hle := p2le (show W ≤ k by omega)
    have e1 : (2 : Int) ^ (k + 1) = 2 * 2 ^ k := by rw [Int.pow_succ, Int.mul_comm]
    have h3 := p2le (show k ≤ 63 by omega)
    have e63 : (2 : Int) ^ 63 = 9223372036854775808 := rfl
    have hy : y = 0 ∨ y = 1 := by omega
    have hin : (if k ≤ W then sb f a k else sb f a W + y * (2 ^ k - 2 ^ W)) = sb f a W + y * (2 ^ k - 2 ^ W) := by
      by_cases hkW : k ≤ W
      · obtain rfl : k = W := by omega
        rw [if_pos hkW, Int.sub_self, Int.mul_zero, Int.add_zero]
      · rw [if_neg hkW]
    rw [hin]
    rcases hy with rfl | rfl
    · have h := or_step (sb f a W + 0 * (2 ^ k - 2 ^ W)) 0 k (by rw [Int.zero_mul]; omega) (by decide) (by omega)
      rw [h]; simp
    · have h := or_step (sb f a W + 1 * (2 ^ k - 2 ^ W)) 1 k (by rw [Int.one_mul]; omega) (by decide) (by omega)
      rw [h, Int.one_mul, Int.one_mul, Int.one_mul, mod64 (Int.le_of_lt hpk) (by omega)]
      omega
theorem sval_sx {f : Nat → Int} {a j : Nat} (hj : j ≤ 9) : wrap64 (sx f a (7 * (j + 1)) 64) = sval (sb f a (min (7 * (j + 1)) 64)) ((7 * (j + 1) : Nat) : Int) := by
  unfold sval
  rw [show (((7 * (j + 1) : Nat) : Int) - 1).toNat = 7 * (j + 1) - 1 by omega, Int.toNat_natCast]
  by_cases h9 : j = 9
  · subst h9
    have hs := sb_bd f a 64
    have e64 : (2 : Int) ^ 64 = 18446744073709551616 := rfl
    rw [if_neg (by omega)]
    show wrap64 (sb f a 64) = if sb f a 64 < _ then sb f a 64 else sb f a 64 - _
    unfold wrap64
    split <;> omega
  · have ht := sb_top f a (7 * (j + 1)) (by omega)
    have hs := sb_bd f a (7 * (j + 1))
    have hm : min (7 * (j + 1)) 64 = 7 * (j + 1) := by omega
    rw [hm]
    have hle := p2le (show 7 * (j + 1) ≤ 63 by omega)
    have e63 : (2 : Int) ^ 63 = 9223372036854775808 := rfl
    have e64 : (2 : Int) ^ 64 = 18446744073709551616 := rfl
    have hhalf : (2 : Int) ^ (7 * (j + 1)) = 2 * 2 ^ (7 * (j + 1) - 1) := by
      rw [show 7 * (j + 1) = (7 * (j + 1) - 1) + 1 by omega, Int.pow_succ, Int.mul_comm, Nat.add_sub_cancel]
    have hp1 := p2pos (7 * (j + 1) - 1)
    unfold sx
    rw [if_neg (by omega)]
    have hb := bt_bd (f (a + (7 * (j + 1) - 1) / 7)) ((7 * (j + 1) - 1) % 7)
    generalize bt (f (a + (7 * (j + 1) - 1) / 7)) ((7 * (j + 1) - 1) % 7) = y at *
    generalize sb f a (7 * (j + 1)) = z at *
    by_cases hy : y = 1
    · subst hy
      rw [if_pos ⟨by omega, by omega, ht.2 rfl⟩]
      unfold wrap64
      omega
    · obtain rfl : y = 0 := by omega
      have hn : ¬ 2 ^ (7 * (j + 1) - 1) ≤ z := fun h => by have := ht.1 h; omega
      rw [if_neg (fun h => hn h.2.2), if_pos (by omega), Int.zero_mul]
      unfold wrap64
      omega

set_option maxRecDepth 100000 in
set_option maxHeartbeats 4000000 in
theorem rs_any (sv : Value) (len : Nat) (hlen : len ≤ 1048576) (f : Nat → Int) (hf : By f) (a bits : Int) (w : World) (h : U8s w sv len f) :
    Calls Try.prog 14 #[sv, .int .i64 a, .int .i64 bits] w fun e w' => e = .returned (.tuple #[.int .i64 (sval (LebM.read true f len a bits).1 (LebM.read true f len a bits).2.1), .int .i64 (LebM.read true f len a bits).2.2.1, .int .i64 (LebM.read true f len a bits).2.2.2]) ∧ Gr w w' := by
  have C := rread_s_any sv len hlen f hf a bits w h
  have hs := read_sumOk true hf len a bits
  generalize LebM.read true f len a bits = r at *
  obtain ⟨x, wd, to, er⟩ := r
  rcases hs with ⟨he, h1, h2, h3⟩ | ⟨he, j, hj, h2, h3⟩
  · simp only at he h1 h2 h3
    subst h1 h2 h3
    have HC := Lib.hid C
    have hne : (er != 0) = true := bne_iff_ne.2 he
    clear C h he
    go_enter Try.func14, Try.ntmps14
    go_wp2_with (go_at_call 22; refine HC.out.mono ?_; rintro e w1 ⟨lv, rfl, hg1, -⟩; have HG1 := Lib.hid hg1; clear hg1)
    go_ret3
    exact ⟨rfl, HG1.out⟩
  · simp only at he h2 h3
    subst he h2
    have hW : (((7 * (j + 1) : Nat) : Int)).toNat = 7 * (j + 1) := rfl
    simp only [hW] at C
    have HC := Lib.hid C
    have HX := Lib.hid (show wrap64 (sx f a.toNat (7 * (j + 1)) 64) = sval x ((7 * (j + 1) : Nat) : Int) by rw [h3]; exact sval_sx hj)
    have hW0 : 0 < 7 * (j + 1) := by omega
    have hW70 : 7 * (j + 1) ≤ 70 := by omega
    generalize a.toNat = n0 at *
    generalize sval x ((7 * (j + 1) : Nat) : Int) = v at *
    generalize 7 * (j + 1) = W at *
    clear C h h3 hW hj
    go_enter Try.func14, Try.ntmps14
    go_wp2_with (go_at_call 22; refine HC.out.mono ?_; rintro e w1 ⟨lv, rfl, hg1, ho1⟩; have HG1 := Lib.hid hg1; have HO1 := Lib.hid ho1; clear hg1 ho1)
    obtain ⟨g, lc, rfl, _, _, _⟩ := own_some HO1.out hW0
    obtain ⟨V, hV⟩ : ∃ V, W = V + 1 := ⟨W - 1, by omega⟩
    have hVI : (W : Int) - 1 = (V : Int) := by omega
    have hVW : (V : Int) < (W : Int) := by omega
    have hlast : w1.cell? ⟨g, V, none⟩ = some (.int .i64 (bt (f (n0 + V / 7)) (V % 7))) := by rw [HO1.out.cellAt V (by omega), bl_get _ _ _ _ (by omega)]
    have HVs := Lib.hid (show ∀ k, k < 64 → Go.bits .or .u64 (sx f n0 W k) (IntKind.u64.wrap ((if k < W then bt (f (n0 + k / 7)) (k % 7) else bt (f (n0 + V / 7)) (V % 7)) * 2 ^ k)) = sx f n0 W (k + 1) from fun k hk => by
      have := sx_step (f := f) (a := n0) hW0 hk
      rwa [show W - 1 = V by omega] at this)
    have hlb := bt_bd (f (n0 + V / 7)) (V % 7)
    generalize bt (f (n0 + V / 7)) (V % 7) = d at *
    have hwd : IntKind.u64.wrap d = d := by rw [IntKind.wrap_u64]; omega
    clear hV
    go_wp2_with fail
    go_loop [12, 13, 14] (fun nv iv xv => ∃ (k : Nat) (y : Value), k ≤ 64 ∧ iv = .int .i64 k ∧ nv = .int .u64 (sx f n0 W k) ∧ xv = y) (fun _ iv _ => 64 - (intOf iv).toNat)
    case atStart => exact ⟨0, _, by decide, rfl, by unfold sx; rw [if_pos (by omega)]; rfl, rfl⟩
    case round =>
      obtain ⟨k, y, hk, rfl, rfl, rfl⟩ := hrel
      have HO := Lib.hid (fun h => HVs.out k h)
      by_cases h64 : k < 64
      · have h64I : (k : Int) < 64 := by omega
        have hwk : IntKind.u64.wrap (k : Int) = k := by rw [IntKind.wrap_u64]; omega
        have HO := HO.out h64
        generalize sx f n0 W k = s0 at *
        by_cases hlt : k < W
        · have hltI : (k : Int) < (W : Int) := by omega
          rw [if_pos hlt] at HO
          have HOh := Lib.hid HO
          clear HO
          have hcell : w1.cell? ⟨g, k, none⟩ = some (.int .i64 (bt (f (n0 + k / 7)) (k % 7))) := by rw [HO1.out.cellAt k (by omega), bl_get _ _ _ _ hlt]
          have hb := bt_bd (f (n0 + k / 7)) (k % 7)
          generalize bt (f (n0 + k / 7)) (k % 7) = z at *
          have hwz : IntKind.u64.wrap z = z := by rw [IntKind.wrap_u64]; omega
          go_wp2
          exact ⟨⟨k + 1, _, by omega, by go_num, by rw [← HOh.out], rfl⟩, by simp [intOf]; omega⟩
        · have hltI : ¬ (k : Int) < (W : Int) := by omega
          rw [if_neg hlt] at HO
          have HOh := Lib.hid HO
          clear HO
          go_wp2
          exact ⟨⟨k + 1, _, by omega, by go_num, by rw [← HOh.out], rfl⟩, by simp [intOf]; omega⟩
      · obtain rfl : k = 64 := by omega
        clear h64 HO
        generalize hsx : sx f n0 W 64 = s0 at *
        go_wp2
        go_ret3
        exact ⟨ret3 (by rw [← HX.out]), HG1.out⟩
end Go.Proofs.Ythdklnkaeddogaa
