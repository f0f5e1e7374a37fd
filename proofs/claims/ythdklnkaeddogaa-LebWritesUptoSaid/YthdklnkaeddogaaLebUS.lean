/-
  leb.U and leb.S.
-/
import Derived.Test.YthdklnkaeddogaaLebRead
namespace Go.Proofs.Ythdklnkaeddogaa
open Go.RowKit LebM
theorem step_64 {x lo : Int} {q : Nat} (hx : 0 ≤ x ∧ x < 2 ^ q) (hlo : 0 ≤ lo ∧ lo < 128) (hq : q ≤ 63) : x + lo * 2 ^ q % 18446744073709551616 < 18446744073709551616 := by
  obtain ⟨y, rfl⟩ := Int.eq_ofNat_of_zero_le hlo.1
  have hsplit : 2 ^ (64 - q) * 2 ^ q = 18446744073709551616 := by rw [← Nat.pow_add, show 64 - q + q = 64 by omega]
  have e1 : y * 2 ^ q % 18446744073709551616 = y % 2 ^ (64 - q) * 2 ^ q := by rw [← hsplit, Nat.mul_mod_mul_right]
  have h1 : y % 2 ^ (64 - q) + 1 ≤ 2 ^ (64 - q) := Nat.mod_lt _ (Nat.pow_pos (by decide))
  have h2 := Nat.mul_le_mul_right (2 ^ q) h1
  rw [hsplit, Nat.add_mul, ← e1] at h2
  have e0 : ∀ t : Nat, ((t : Int) % 18446744073709551616) = ((t % 18446744073709551616 : Nat) : Int) := fun t => by omega
  have e2 : ((y : Int) * 2 ^ q) = ((y * 2 ^ q : Nat) : Int) := by push_cast; rfl
  have hx2 := hx.2
  have e3 : ((2 : Int) ^ q) = ((2 ^ q : Nat) : Int) := by push_cast; rfl
  rw [e3] at hx2
  rw [e2, e0]
  omega
/-- what read's answer is like -/
def Fine (r : Int × Int × Int × Int) : Prop := (r.1 = 0 ∧ r.2.1 = 0) ∨ ∃ j : Nat, j ≤ 9 ∧ r.2.1 = 7 * j + 7 ∧ 0 ≤ r.1 ∧ r.1 < 2 ^ (7 * j + 7) ∧ r.1 < 18446744073709551616
theorem rd_fine (s : Bool) {f : Nat → Int} (hf : By f) (len : Nat) (bits : Int) (a : Nat) : ∀ m k x, m + k = 10 → 0 ≤ x ∧ x < 2 ^ (7 * k) → Fine (rd s f len bits a m k x)
  | 0, _, _, _, _ => .inl ⟨rfl, rfl⟩
  | m + 1, k, x, hm, hx => by
    rw [rd]
    have hb := hf (a + k)
    have hlo : 0 ≤ lowI (f (a + k)) ∧ lowI (f (a + k)) < 128 := by unfold lowI; omega
    have h1 := step_bd hx hlo
    have h2 := step_64 hx hlo (by omega)
    rw [pow7] at h1 h2
    split
    · exact .inl ⟨rfl, rfl⟩
    · simp only []
      split
      · exact .inl ⟨rfl, rfl⟩
      · split
        · exact .inr ⟨k, by omega, rfl, h1.1, h1.2, h2⟩
        · exact rd_fine s hf len bits a m (k + 1) _ (by omega) ⟨h1.1, h1.2⟩
theorem read_fine (s : Bool) {f : Nat → Int} (hf : By f) (len : Nat) (a bits : Int) : Fine (LebM.read s f len a bits) := by
  unfold LebM.read
  split
  · exact .inl ⟨rfl, rfl⟩
  · exact rd_fine s hf len bits _ 10 0 0 rfl ⟨by decide, by decide⟩
/-- the number with its sign -/
def sval (x wd : Int) : Int := if 0 < wd ∧ wd < 64 ∧ 2 ^ (wd - 1).toNat ≤ x then x - 2 ^ wd.toNat else if x < 9223372036854775808 then x else x - 18446744073709551616
theorem or_top (x : Int) (q : Nat) (hq : q ≤ 63) (hx : 0 ≤ x ∧ x < 2 ^ q) : bits .or .u64 x (18446744073709551616 - 2 ^ q) = x + (18446744073709551616 - 2 ^ q) := by
  obtain ⟨a, rfl⟩ := Int.eq_ofNat_of_zero_le hx.1
  have ha : a < 2 ^ q := by have := hx.2; exact_mod_cast this
  have h64 : (2 : Nat) ^ q ≤ 2 ^ 63 := Nat.pow_le_pow_right (by decide) hq
  have hsplit : 2 ^ (64 - q) * 2 ^ q = 18446744073709551616 := by rw [← Nat.pow_add, show 64 - q + q = 64 by omega]
  have e1 : (2 ^ (64 - q) - 1) * 2 ^ q = 18446744073709551616 - 2 ^ q := by rw [Nat.sub_mul, hsplit, Nat.one_mul]
  have e3 : ((2 : Int) ^ q) = ((2 ^ q : Nat) : Int) := by rw [Int.natCast_pow]; rfl
  have e2 : (18446744073709551616 : Int) - 2 ^ q = ((18446744073709551616 - 2 ^ q : Nat) : Int) := by rw [e3]; omega
  have hp : 0 < 2 ^ q := Nat.pow_pos (by decide)
  rw [e2, bits_or_u64_nat _ _ (by omega) (by omega), ← e1]
  have := Nat.two_pow_add_eq_or_of_lt ha (2 ^ (64 - q) - 1)
  rw [Nat.or_comm, Nat.mul_comm (2 ^ (64 - q) - 1), ← this, Nat.add_comm]; push_cast; rfl
theorem u_any (sv : Value) (len : Nat) (f : Nat → Int) (hf : By f) (a bits : Int) (w : World) (h : U8s w sv len f) :
    Calls Try.prog 11 #[sv, .int .i64 a, .int .i64 bits] w fun e w' => e = .returned (.tuple #[.int .u64 (LebM.read false f len a bits).1, .int .i64 (LebM.read false f len a bits).2.2.1, .int .i64 (LebM.read false f len a bits).2.2.2]) ∧ w = w' := by
  have C := read_u_any sv len f hf a bits w h
  generalize LebM.read false f len a bits = r at *
  obtain ⟨x, wd, to, er⟩ := r
  have HC := Lib.hid (show Calls Try.prog 20 #[sv, .int .i64 a, .int .i64 bits, .func (.func 21) #[] #[]] w fun e w' => e = .returned (.tuple #[.int .u64 x, .int .i64 wd, .int .i64 to, .int .i64 er]) ∧ w = w' from C)
  clear C h
  go_enter Try.func11, Try.ntmps11
  go_wp2_with (go_at_call 20; refine HC.out.mono ?_; rintro e w' ⟨rfl, rfl⟩)
  go_ret3
  exact ⟨rfl, rfl⟩
theorem ret3 {a b c a' : Int} (h : a = a') : Ending.returned (.tuple #[.int .i64 a, .int .i64 b, .int .i64 c]) = .returned (.tuple #[.int .i64 a', .int .i64 b, .int .i64 c]) := by rw [h]
theorem s_any (sv : Value) (len : Nat) (f : Nat → Int) (hf : By f) (a bits : Int) (w : World) (h : U8s w sv len f) :
    Calls Try.prog 13 #[sv, .int .i64 a, .int .i64 bits] w fun e w' => e = .returned (.tuple #[.int .i64 (sval (LebM.read true f len a bits).1 (LebM.read true f len a bits).2.1), .int .i64 (LebM.read true f len a bits).2.2.1, .int .i64 (LebM.read true f len a bits).2.2.2]) ∧ w = w' := by
  have C := read_s_any sv len f hf a bits w h
  have hfine := read_fine true hf len a bits
  generalize LebM.read true f len a bits = r at *
  obtain ⟨x, wd, to, er⟩ := r
  have HC := Lib.hid (show Calls Try.prog 20 #[sv, .int .i64 a, .int .i64 bits, .func (.func 23) #[] #[]] w fun e w' => e = .returned (.tuple #[.int .u64 x, .int .i64 wd, .int .i64 to, .int .i64 er]) ∧ w = w' from C)
  clear C h
  simp only [Fine] at hfine
  rcases hfine with ⟨rfl, rfl⟩ | ⟨j, hj, rfl, hx0, hx1, hx2⟩
  · go_enter Try.func13, Try.ntmps13
    go_wp2_with (go_at_call 20; refine HC.out.mono ?_; rintro e w' ⟨rfl, rfl⟩)
    go_ret3
    exact ⟨rfl, rfl⟩
  · have hj' : j = 0 ∨ j = 1 ∨ j = 2 ∨ j = 3 ∨ j = 4 ∨ j = 5 ∨ j = 6 ∨ j = 7 ∨ j = 8 ∨ j = 9 := by omega
    clear hj
    rcases hj' with rfl | rfl | rfl | rfl | rfl | rfl | rfl | rfl | rfl | rfl
    · have hxb : x < 128 := hx1
      clear hx1
      have HC2 := Lib.hid (show Calls Try.prog 20 #[sv, .int .i64 a, .int .i64 bits, .func (.func 23) #[] #[]] w fun e w' => e = .returned (.tuple #[.int .u64 x, .int .i64 7, .int .i64 to, .int .i64 er]) ∧ w = w' from HC.out)
      clear HC
      by_cases hs : 64 ≤ x
      · have hd : (x / 64 == 1) = true := beq_iff_eq.2 (by omega)
        have hor : Go.bits .or .u64 x 18446744073709551488 = x + 18446744073709551488 := or_top x 7 (by decide) ⟨hx0, hxb⟩
        have HV := Lib.hid (show wrap64 (Go.bits .or .u64 x (IntKind.u64.wrap 2361183241434822606720)) = sval x (7 * (((0 : Nat)) : Int) + 7) by
          unfold sval
          rw [if_pos ⟨by decide, by decide, hs⟩, show IntKind.u64.wrap 2361183241434822606720 = 18446744073709551488 by rw [IntKind.wrap_u64]; rfl, hor]
          show _ = x - 128
          unfold wrap64
          omega)
        clear hs hor
        go_enter Try.func13, Try.ntmps13
        go_wp2_with (go_at_call 20; refine HC2.out.mono ?_; rintro e w' ⟨rfl, rfl⟩)
        go_ret3
        exact ⟨ret3 HV.out, rfl⟩
      · have hd : (x / 64 == 1) = false := beq_eq_false_iff_ne.2 (by omega)
        have HV := Lib.hid (show x = sval x (7 * (((0 : Nat)) : Int) + 7) by
          unfold sval
          rw [if_neg (fun h => hs h.2.2), if_pos (by omega)])
        clear hs
        go_enter Try.func13, Try.ntmps13
        go_wp2_with (go_at_call 20; refine HC2.out.mono ?_; rintro e w' ⟨rfl, rfl⟩)
        go_ret3
        exact ⟨ret3 HV.out, rfl⟩
    · have hxb : x < 16384 := hx1
      clear hx1
      have HC2 := Lib.hid (show Calls Try.prog 20 #[sv, .int .i64 a, .int .i64 bits, .func (.func 23) #[] #[]] w fun e w' => e = .returned (.tuple #[.int .u64 x, .int .i64 14, .int .i64 to, .int .i64 er]) ∧ w = w' from HC.out)
      clear HC
      by_cases hs : 8192 ≤ x
      · have hd : (x / 8192 == 1) = true := beq_iff_eq.2 (by omega)
        have hor : Go.bits .or .u64 x 18446744073709535232 = x + 18446744073709535232 := or_top x 14 (by decide) ⟨hx0, hxb⟩
        have HV := Lib.hid (show wrap64 (Go.bits .or .u64 x (IntKind.u64.wrap 302231454903657293660160)) = sval x (7 * (((1 : Nat)) : Int) + 7) by
          unfold sval
          rw [if_pos ⟨by decide, by decide, hs⟩, show IntKind.u64.wrap 302231454903657293660160 = 18446744073709535232 by rw [IntKind.wrap_u64]; rfl, hor]
          show _ = x - 16384
          unfold wrap64
          omega)
        clear hs hor
        go_enter Try.func13, Try.ntmps13
        go_wp2_with (go_at_call 20; refine HC2.out.mono ?_; rintro e w' ⟨rfl, rfl⟩)
        go_ret3
        exact ⟨ret3 HV.out, rfl⟩
      · have hd : (x / 8192 == 1) = false := beq_eq_false_iff_ne.2 (by omega)
        have HV := Lib.hid (show x = sval x (7 * (((1 : Nat)) : Int) + 7) by
          unfold sval
          rw [if_neg (fun h => hs h.2.2), if_pos (by omega)])
        clear hs
        go_enter Try.func13, Try.ntmps13
        go_wp2_with (go_at_call 20; refine HC2.out.mono ?_; rintro e w' ⟨rfl, rfl⟩)
        go_ret3
        exact ⟨ret3 HV.out, rfl⟩
    · have hxb : x < 2097152 := hx1
      clear hx1
      have HC2 := Lib.hid (show Calls Try.prog 20 #[sv, .int .i64 a, .int .i64 bits, .func (.func 23) #[] #[]] w fun e w' => e = .returned (.tuple #[.int .u64 x, .int .i64 21, .int .i64 to, .int .i64 er]) ∧ w = w' from HC.out)
      clear HC
      by_cases hs : 1048576 ≤ x
      · have hd : (x / 1048576 == 1) = true := beq_iff_eq.2 (by omega)
        have hor : Go.bits .or .u64 x 18446744073707454464 = x + 18446744073707454464 := or_top x 21 (by decide) ⟨hx0, hxb⟩
        have HV := Lib.hid (show wrap64 (Go.bits .or .u64 x (IntKind.u64.wrap 38685626227668133588500480)) = sval x (7 * (((2 : Nat)) : Int) + 7) by
          unfold sval
          rw [if_pos ⟨by decide, by decide, hs⟩, show IntKind.u64.wrap 38685626227668133588500480 = 18446744073707454464 by rw [IntKind.wrap_u64]; rfl, hor]
          show _ = x - 2097152
          unfold wrap64
          omega)
        clear hs hor
        go_enter Try.func13, Try.ntmps13
        go_wp2_with (go_at_call 20; refine HC2.out.mono ?_; rintro e w' ⟨rfl, rfl⟩)
        go_ret3
        exact ⟨ret3 HV.out, rfl⟩
      · have hd : (x / 1048576 == 1) = false := beq_eq_false_iff_ne.2 (by omega)
        have HV := Lib.hid (show x = sval x (7 * (((2 : Nat)) : Int) + 7) by
          unfold sval
          rw [if_neg (fun h => hs h.2.2), if_pos (by omega)])
        clear hs
        go_enter Try.func13, Try.ntmps13
        go_wp2_with (go_at_call 20; refine HC2.out.mono ?_; rintro e w' ⟨rfl, rfl⟩)
        go_ret3
        exact ⟨ret3 HV.out, rfl⟩
    · have hxb : x < 268435456 := hx1
      clear hx1
      have HC2 := Lib.hid (show Calls Try.prog 20 #[sv, .int .i64 a, .int .i64 bits, .func (.func 23) #[] #[]] w fun e w' => e = .returned (.tuple #[.int .u64 x, .int .i64 28, .int .i64 to, .int .i64 er]) ∧ w = w' from HC.out)
      clear HC
      by_cases hs : 134217728 ≤ x
      · have hd : (x / 134217728 == 1) = true := beq_iff_eq.2 (by omega)
        have hor : Go.bits .or .u64 x 18446744073441116160 = x + 18446744073441116160 := or_top x 28 (by decide) ⟨hx0, hxb⟩
        have HV := Lib.hid (show wrap64 (Go.bits .or .u64 x (IntKind.u64.wrap 4951760157141521099328061440)) = sval x (7 * (((3 : Nat)) : Int) + 7) by
          unfold sval
          rw [if_pos ⟨by decide, by decide, hs⟩, show IntKind.u64.wrap 4951760157141521099328061440 = 18446744073441116160 by rw [IntKind.wrap_u64]; rfl, hor]
          show _ = x - 268435456
          unfold wrap64
          omega)
        clear hs hor
        go_enter Try.func13, Try.ntmps13
        go_wp2_with (go_at_call 20; refine HC2.out.mono ?_; rintro e w' ⟨rfl, rfl⟩)
        go_ret3
        exact ⟨ret3 HV.out, rfl⟩
      · have hd : (x / 134217728 == 1) = false := beq_eq_false_iff_ne.2 (by omega)
        have HV := Lib.hid (show x = sval x (7 * (((3 : Nat)) : Int) + 7) by
          unfold sval
          rw [if_neg (fun h => hs h.2.2), if_pos (by omega)])
        clear hs
        go_enter Try.func13, Try.ntmps13
        go_wp2_with (go_at_call 20; refine HC2.out.mono ?_; rintro e w' ⟨rfl, rfl⟩)
        go_ret3
        exact ⟨ret3 HV.out, rfl⟩
    · have hxb : x < 34359738368 := hx1
      clear hx1
      have HC2 := Lib.hid (show Calls Try.prog 20 #[sv, .int .i64 a, .int .i64 bits, .func (.func 23) #[] #[]] w fun e w' => e = .returned (.tuple #[.int .u64 x, .int .i64 35, .int .i64 to, .int .i64 er]) ∧ w = w' from HC.out)
      clear HC
      by_cases hs : 17179869184 ≤ x
      · have hd : (x / 17179869184 == 1) = true := beq_iff_eq.2 (by omega)
        have hor : Go.bits .or .u64 x 18446744039349813248 = x + 18446744039349813248 := or_top x 35 (by decide) ⟨hx0, hxb⟩
        have HV := Lib.hid (show wrap64 (Go.bits .or .u64 x (IntKind.u64.wrap 633825300114114700713991864320)) = sval x (7 * (((4 : Nat)) : Int) + 7) by
          unfold sval
          rw [if_pos ⟨by decide, by decide, hs⟩, show IntKind.u64.wrap 633825300114114700713991864320 = 18446744039349813248 by rw [IntKind.wrap_u64]; rfl, hor]
          show _ = x - 34359738368
          unfold wrap64
          omega)
        clear hs hor
        go_enter Try.func13, Try.ntmps13
        go_wp2_with (go_at_call 20; refine HC2.out.mono ?_; rintro e w' ⟨rfl, rfl⟩)
        go_ret3
        exact ⟨ret3 HV.out, rfl⟩
      · have hd : (x / 17179869184 == 1) = false := beq_eq_false_iff_ne.2 (by omega)
        have HV := Lib.hid (show x = sval x (7 * (((4 : Nat)) : Int) + 7) by
          unfold sval
          rw [if_neg (fun h => hs h.2.2), if_pos (by omega)])
        clear hs
        go_enter Try.func13, Try.ntmps13
        go_wp2_with (go_at_call 20; refine HC2.out.mono ?_; rintro e w' ⟨rfl, rfl⟩)
        go_ret3
        exact ⟨ret3 HV.out, rfl⟩
    · have hxb : x < 4398046511104 := hx1
      clear hx1
      have HC2 := Lib.hid (show Calls Try.prog 20 #[sv, .int .i64 a, .int .i64 bits, .func (.func 23) #[] #[]] w fun e w' => e = .returned (.tuple #[.int .u64 x, .int .i64 42, .int .i64 to, .int .i64 er]) ∧ w = w' from HC.out)
      clear HC
      by_cases hs : 2199023255552 ≤ x
      · have hd : (x / 2199023255552 == 1) = true := beq_iff_eq.2 (by omega)
        have hor : Go.bits .or .u64 x 18446739675663040512 = x + 18446739675663040512 := or_top x 42 (by decide) ⟨hx0, hxb⟩
        have HV := Lib.hid (show wrap64 (Go.bits .or .u64 x (IntKind.u64.wrap 81129638414606681691390958632960)) = sval x (7 * (((5 : Nat)) : Int) + 7) by
          unfold sval
          rw [if_pos ⟨by decide, by decide, hs⟩, show IntKind.u64.wrap 81129638414606681691390958632960 = 18446739675663040512 by rw [IntKind.wrap_u64]; rfl, hor]
          show _ = x - 4398046511104
          unfold wrap64
          omega)
        clear hs hor
        go_enter Try.func13, Try.ntmps13
        go_wp2_with (go_at_call 20; refine HC2.out.mono ?_; rintro e w' ⟨rfl, rfl⟩)
        go_ret3
        exact ⟨ret3 HV.out, rfl⟩
      · have hd : (x / 2199023255552 == 1) = false := beq_eq_false_iff_ne.2 (by omega)
        have HV := Lib.hid (show x = sval x (7 * (((5 : Nat)) : Int) + 7) by
          unfold sval
          rw [if_neg (fun h => hs h.2.2), if_pos (by omega)])
        clear hs
        go_enter Try.func13, Try.ntmps13
        go_wp2_with (go_at_call 20; refine HC2.out.mono ?_; rintro e w' ⟨rfl, rfl⟩)
        go_ret3
        exact ⟨ret3 HV.out, rfl⟩
    · have hxb : x < 562949953421312 := hx1
      clear hx1
      have HC2 := Lib.hid (show Calls Try.prog 20 #[sv, .int .i64 a, .int .i64 bits, .func (.func 23) #[] #[]] w fun e w' => e = .returned (.tuple #[.int .u64 x, .int .i64 49, .int .i64 to, .int .i64 er]) ∧ w = w' from HC.out)
      clear HC
      by_cases hs : 281474976710656 ≤ x
      · have hd : (x / 281474976710656 == 1) = true := beq_iff_eq.2 (by omega)
        have hor : Go.bits .or .u64 x 18446181123756130304 = x + 18446181123756130304 := or_top x 49 (by decide) ⟨hx0, hxb⟩
        have HV := Lib.hid (show wrap64 (Go.bits .or .u64 x (IntKind.u64.wrap 10384593717069655256498042705018880)) = sval x (7 * (((6 : Nat)) : Int) + 7) by
          unfold sval
          rw [if_pos ⟨by decide, by decide, hs⟩, show IntKind.u64.wrap 10384593717069655256498042705018880 = 18446181123756130304 by rw [IntKind.wrap_u64]; rfl, hor]
          show _ = x - 562949953421312
          unfold wrap64
          omega)
        clear hs hor
        go_enter Try.func13, Try.ntmps13
        go_wp2_with (go_at_call 20; refine HC2.out.mono ?_; rintro e w' ⟨rfl, rfl⟩)
        go_ret3
        exact ⟨ret3 HV.out, rfl⟩
      · have hd : (x / 281474976710656 == 1) = false := beq_eq_false_iff_ne.2 (by omega)
        have HV := Lib.hid (show x = sval x (7 * (((6 : Nat)) : Int) + 7) by
          unfold sval
          rw [if_neg (fun h => hs h.2.2), if_pos (by omega)])
        clear hs
        go_enter Try.func13, Try.ntmps13
        go_wp2_with (go_at_call 20; refine HC2.out.mono ?_; rintro e w' ⟨rfl, rfl⟩)
        go_ret3
        exact ⟨ret3 HV.out, rfl⟩
    · have hxb : x < 72057594037927936 := hx1
      clear hx1
      have HC2 := Lib.hid (show Calls Try.prog 20 #[sv, .int .i64 a, .int .i64 bits, .func (.func 23) #[] #[]] w fun e w' => e = .returned (.tuple #[.int .u64 x, .int .i64 56, .int .i64 to, .int .i64 er]) ∧ w = w' from HC.out)
      clear HC
      by_cases hs : 36028797018963968 ≤ x
      · have hd : (x / 36028797018963968 == 1) = true := beq_iff_eq.2 (by omega)
        have hor : Go.bits .or .u64 x 18374686479671623680 = x + 18374686479671623680 := or_top x 56 (by decide) ⟨hx0, hxb⟩
        have HV := Lib.hid (show wrap64 (Go.bits .or .u64 x (IntKind.u64.wrap 1329227995784915872831749466242416640)) = sval x (7 * (((7 : Nat)) : Int) + 7) by
          unfold sval
          rw [if_pos ⟨by decide, by decide, hs⟩, show IntKind.u64.wrap 1329227995784915872831749466242416640 = 18374686479671623680 by rw [IntKind.wrap_u64]; rfl, hor]
          show _ = x - 72057594037927936
          unfold wrap64
          omega)
        clear hs hor
        go_enter Try.func13, Try.ntmps13
        go_wp2_with (go_at_call 20; refine HC2.out.mono ?_; rintro e w' ⟨rfl, rfl⟩)
        go_ret3
        exact ⟨ret3 HV.out, rfl⟩
      · have hd : (x / 36028797018963968 == 1) = false := beq_eq_false_iff_ne.2 (by omega)
        have HV := Lib.hid (show x = sval x (7 * (((7 : Nat)) : Int) + 7) by
          unfold sval
          rw [if_neg (fun h => hs h.2.2), if_pos (by omega)])
        clear hs
        go_enter Try.func13, Try.ntmps13
        go_wp2_with (go_at_call 20; refine HC2.out.mono ?_; rintro e w' ⟨rfl, rfl⟩)
        go_ret3
        exact ⟨ret3 HV.out, rfl⟩
    · have hxb : x < 9223372036854775808 := hx1
      clear hx1
      have HC2 := Lib.hid (show Calls Try.prog 20 #[sv, .int .i64 a, .int .i64 bits, .func (.func 23) #[] #[]] w fun e w' => e = .returned (.tuple #[.int .u64 x, .int .i64 63, .int .i64 to, .int .i64 er]) ∧ w = w' from HC.out)
      clear HC
      by_cases hs : 4611686018427387904 ≤ x
      · have hd : (x / 4611686018427387904 == 1) = true := beq_iff_eq.2 (by omega)
        have hor : Go.bits .or .u64 x 9223372036854775808 = x + 9223372036854775808 := or_top x 63 (by decide) ⟨hx0, hxb⟩
        have HV := Lib.hid (show wrap64 (Go.bits .or .u64 x (IntKind.u64.wrap 170141183460469231722463931679029329920)) = sval x (7 * (((8 : Nat)) : Int) + 7) by
          unfold sval
          rw [if_pos ⟨by decide, by decide, hs⟩, show IntKind.u64.wrap 170141183460469231722463931679029329920 = 9223372036854775808 by rw [IntKind.wrap_u64]; rfl, hor]
          show _ = x - 9223372036854775808
          unfold wrap64
          omega)
        clear hs hor
        go_enter Try.func13, Try.ntmps13
        go_wp2_with (go_at_call 20; refine HC2.out.mono ?_; rintro e w' ⟨rfl, rfl⟩)
        go_ret3
        exact ⟨ret3 HV.out, rfl⟩
      · have hd : (x / 4611686018427387904 == 1) = false := beq_eq_false_iff_ne.2 (by omega)
        have HV := Lib.hid (show x = sval x (7 * (((8 : Nat)) : Int) + 7) by
          unfold sval
          rw [if_neg (fun h => hs h.2.2), if_pos (by omega)])
        clear hs
        go_enter Try.func13, Try.ntmps13
        go_wp2_with (go_at_call 20; refine HC2.out.mono ?_; rintro e w' ⟨rfl, rfl⟩)
        go_ret3
        exact ⟨ret3 HV.out, rfl⟩
    · have HC2 := Lib.hid (show Calls Try.prog 20 #[sv, .int .i64 a, .int .i64 bits, .func (.func 23) #[] #[]] w fun e w' => e = .returned (.tuple #[.int .u64 x, .int .i64 70, .int .i64 to, .int .i64 er]) ∧ w = w' from HC.out)
      have HV := Lib.hid (show wrap64 x = sval x (7 * (((9 : Nat)) : Int) + 7) by
        unfold sval
        rw [if_neg (fun h => absurd h.2.1 (by decide))]
        unfold wrap64
        split <;> omega)
      clear HC hx1
      go_enter Try.func13, Try.ntmps13
      go_wp2_with (go_at_call 20; refine HC2.out.mono ?_; rintro e w' ⟨rfl, rfl⟩)
      go_ret3
      exact ⟨ret3 HV.out, rfl⟩
end Go.Proofs.Ythdklnkaeddogaa
