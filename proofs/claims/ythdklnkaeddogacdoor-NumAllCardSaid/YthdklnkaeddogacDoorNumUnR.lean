/-
  The reference's Un of layer 3: the same number as the program's. (For NumAll.)
-/
import Derived.Test.YthdklnkaeddogacDoorNumCntM
import Derived.Test.YthdklnkaeddogacDoorCtF
namespace Go.Proofs.YthdklnkaeddogacDoor
open Go.RowKit NumRM NumRef NumM Un Un2
namespace NumUnR
theorem wrap_i8 (n : Int) : IntKind.i8.wrap n = (n + 128) % 256 - 128 := by
  simp [IntKind.wrap, IntKind.bits, IntKind.signed]
  split <;> omega
theorem wrap_i16 (n : Int) : IntKind.i16.wrap n = (n + 32768) % 65536 - 32768 := by
  simp [IntKind.wrap, IntKind.bits, IntKind.signed]
  split <;> omega
theorem yes_t (b : Bool) (w : World) : Calls Tryd.prog 27 #[.bool b] w fun e w' => e = .returned (.int .u64 (tI b)) ∧ w = w' := yes_any b w
theorem cut32 (x : Int) : cutI x 32 = y32 x := rfl
theorem sign_eq (x w0 : Int) : signI x w0 = if w0 < 64 ∧ 2 ^ (w0 - 1).toNat ≤ cutI x w0 then cutI x w0 + 18446744073709551616 - 2 ^ w0.toNat else cutI x w0 := rfl
theorem sign8 (x : Int) : signI x 8 = if 128 ≤ x % 256 then x % 256 + 18446744073709551360 else x % 256 := by
  unfold signI
  have e : cutI x 8 = x % 256 := rfl
  rw [e]
  by_cases h : (128 : Int) ≤ x % 256
  · rw [if_pos ⟨by decide, h⟩, if_pos h, show (2 : Int) ^ (8 : Int).toNat = 256 from rfl]; omega
  · rw [if_neg (fun h' => h h'.2), if_neg h]
theorem sign16 (x : Int) : signI x 16 = if 32768 ≤ x % 65536 then x % 65536 + 18446744073709486080 else x % 65536 := by
  unfold signI
  have e : cutI x 16 = x % 65536 := rfl
  rw [e]
  by_cases h : (32768 : Int) ≤ x % 65536
  · rw [if_pos ⟨by decide, h⟩, if_pos h, show (2 : Int) ^ (16 : Int).toNat = 65536 from rfl]; omega
  · rw [if_neg (fun h' => h h'.2), if_neg h]
theorem sign32 (x : Int) : signI x 32 = if 2147483648 ≤ x % 4294967296 then x % 4294967296 + 18446744069414584320 else x % 4294967296 := by
  unfold signI
  have e : cutI x 32 = x % 4294967296 := rfl
  rw [e]
  by_cases h : (2147483648 : Int) ≤ x % 4294967296
  · rw [if_pos ⟨by decide, h⟩, if_pos h, show (2 : Int) ^ (32 : Int).toNat = 4294967296 from rfl]; omega
  · rw [if_neg (fun h' => h h'.2), if_neg h]
theorem sign64 (x : Int) (hx : 0 ≤ x ∧ x < 18446744073709551616) : signI x 64 = x := by
  rw [sign_eq, if_neg (fun h => absurd h.1 (by decide))]
  exact Int.emod_eq_of_lt hx.1 hx.2
theorem sign_bd (x w0 : Int) (hx : 0 ≤ x ∧ x < 18446744073709551616) (hw : w0 = 8 ∨ w0 = 16 ∨ w0 = 32 ∨ w0 = 64) : 0 ≤ signI x w0 ∧ signI x w0 < 18446744073709551616 := by
  rcases hw with rfl | rfl | rfl | rfl
  · rw [sign8]; split <;> omega
  · rw [sign16]; split <;> omega
  · rw [sign32]; split <;> omega
  · rw [sign64 x hx]; exact hx
theorem v172 (x : Int) : signI x 32 = unW 172 x := by
  rw [unW_of_isUn 172 x (by unfold isUn; omega), sign32]
  unfold unI y32 wrap32
  simp only [show ¬ (172 : Int) = 69 by decide, show ¬ (172 : Int) = 80 by decide, show ¬ (172 : Int) = 103 by decide, show ¬ (172 : Int) = 104 by decide, show ¬ (172 : Int) = 105 by decide, show ¬ (172 : Int) = 167 by decide, show ¬ (172 : Int) = 173 by decide, if_false, if_true, IntKind.wrap_u64]
  split <;> omega
theorem v196 (x : Int) : signI x 32 = unW 196 x := by
  rw [unW_of_isUn 196 x (by unfold isUn; omega), sign32]
  unfold unI y32 wrap32
  simp only [show ¬ (196 : Int) = 69 by decide, show ¬ (196 : Int) = 80 by decide, show ¬ (196 : Int) = 103 by decide, show ¬ (196 : Int) = 104 by decide, show ¬ (196 : Int) = 105 by decide, show ¬ (196 : Int) = 167 by decide, show ¬ (196 : Int) = 173 by decide, show ¬ (196 : Int) = 172 by decide, if_false, if_true, IntKind.wrap_u64]
  split <;> omega
theorem v192 (x : Int) : cutI (signI x 8) 32 = unW 192 x := by
  rw [unW_of_isUn 192 x (by unfold isUn; omega), sign8]
  unfold unI y32
  simp only [show ¬ (192 : Int) = 69 by decide, show ¬ (192 : Int) = 80 by decide, show ¬ (192 : Int) = 103 by decide, show ¬ (192 : Int) = 104 by decide, show ¬ (192 : Int) = 105 by decide, show ¬ (192 : Int) = 167 by decide, show ¬ (192 : Int) = 173 by decide, show ¬ (192 : Int) = 172 by decide, show ¬ (192 : Int) = 196 by decide, if_false, if_true, IntKind.wrap_u64, wrap_i8]
  rw [cut32]; unfold y32
  split <;> omega
theorem v193 (x : Int) : cutI (signI x 16) 32 = unW 193 x := by
  rw [unW_of_isUn 193 x (by unfold isUn; omega), sign16]
  unfold unI y32
  simp only [show ¬ (193 : Int) = 69 by decide, show ¬ (193 : Int) = 80 by decide, show ¬ (193 : Int) = 103 by decide, show ¬ (193 : Int) = 104 by decide, show ¬ (193 : Int) = 105 by decide, show ¬ (193 : Int) = 167 by decide, show ¬ (193 : Int) = 173 by decide, show ¬ (193 : Int) = 172 by decide, show ¬ (193 : Int) = 196 by decide, show ¬ (193 : Int) = 192 by decide, if_false, if_true, IntKind.wrap_u64, wrap_i16]
  rw [cut32]; unfold y32
  split <;> omega
theorem v194 (x : Int) : signI x 8 = unW 194 x := by
  rw [unW_of_isUn 194 x (by unfold isUn; omega), sign8]
  unfold unI y32
  simp only [show ¬ (194 : Int) = 69 by decide, show ¬ (194 : Int) = 80 by decide, show ¬ (194 : Int) = 103 by decide, show ¬ (194 : Int) = 104 by decide, show ¬ (194 : Int) = 105 by decide, show ¬ (194 : Int) = 167 by decide, show ¬ (194 : Int) = 173 by decide, show ¬ (194 : Int) = 172 by decide, show ¬ (194 : Int) = 196 by decide, show ¬ (194 : Int) = 192 by decide, show ¬ (194 : Int) = 193 by decide, if_false, if_true, IntKind.wrap_u64, wrap_i8]
  skip
  split <;> omega
theorem v195 (x : Int) : signI x 16 = unW 195 x := by
  rw [unW_of_isUn 195 x (by unfold isUn; omega), sign16]
  unfold unI y32
  simp only [show ¬ (195 : Int) = 69 by decide, show ¬ (195 : Int) = 80 by decide, show ¬ (195 : Int) = 103 by decide, show ¬ (195 : Int) = 104 by decide, show ¬ (195 : Int) = 105 by decide, show ¬ (195 : Int) = 167 by decide, show ¬ (195 : Int) = 173 by decide, show ¬ (195 : Int) = 172 by decide, show ¬ (195 : Int) = 196 by decide, show ¬ (195 : Int) = 192 by decide, show ¬ (195 : Int) = 193 by decide, show ¬ (195 : Int) = 194 by decide, if_false, if_true, IntKind.wrap_u64, wrap_i16]
  skip
  split <;> omega
theorem v69 (x : Int) : unW 69 x = tI (y32 x == 0) := by
  rw [unW_of_isUn 69 x (by unfold isUn; omega)]
  unfold unI
  simp only [if_true]
theorem v80 (x : Int) : unW 80 x = tI (x == 0) := by
  rw [unW_of_isUn 80 x (by unfold isUn; omega)]
  unfold unI
  simp only [show ¬ (80 : Int) = 69 by decide, if_false, if_true]
theorem v167 (x : Int) : unW 167 x = y32 x := by
  rw [unW_of_isUn 167 x (by unfold isUn; omega)]
  unfold unI
  simp only [show ¬ (167 : Int) = 69 by decide, show ¬ (167 : Int) = 80 by decide, show ¬ (167 : Int) = 103 by decide, show ¬ (167 : Int) = 104 by decide, show ¬ (167 : Int) = 105 by decide, if_false, if_true]
theorem v173 (x : Int) : unW 173 x = y32 x := by
  rw [unW_of_isUn 173 x (by unfold isUn; omega)]
  unfold unI
  simp only [show ¬ (173 : Int) = 69 by decide, show ¬ (173 : Int) = 80 by decide, show ¬ (173 : Int) = 103 by decide, show ¬ (173 : Int) = 104 by decide, show ¬ (173 : Int) = 105 by decide, show ¬ (173 : Int) = 167 by decide, if_false, if_true]
theorem count_low (x : Int) (hx : 0 ≤ x ∧ x < 18446744073709551616) (n : Nat) (hn : n ≤ 64) (kind : Int) (hk : kind = 1 ∨ kind = 2) (w : World) :
    Calls Tryd.prog 29 #[.int .u64 x, .int .i64 n, .int .i64 kind] w fun e w' => e = .returned (.int .u64 (if kind = 2 then onesN x (fun i => i) n else zerosN x (fun i => i) n)) ∧ w = w' :=
  count_any x hx n hn kind (fun i => i) (fun i hi => ⟨by omega, by rw [if_neg (by omega)]⟩) w
theorem count_high (x : Int) (hx : 0 ≤ x ∧ x < 18446744073709551616) (n : Nat) (hn : n ≤ 64) (w : World) :
    Calls Tryd.prog 29 #[.int .u64 x, .int .i64 n, .int .i64 0] w fun e w' => e = .returned (.int .u64 (zerosN x (fun i => n - 1 - i) n)) ∧ w = w' :=
  count_any x hx n hn 0 (fun i => n - 1 - i) (fun i hi => ⟨by omega, by rw [if_pos rfl]; omega⟩) w
/-- what count answers for the six operators that count -/
theorem count_un (op x : Int) (hx : U64 x) (n : Nat) (kind : Int) (h : (op = 103 ∧ n = 32 ∧ kind = 0) ∨ (op = 104 ∧ n = 32 ∧ kind = 1) ∨ (op = 105 ∧ n = 32 ∧ kind = 2) ∨ (op = 121 ∧ n = 64 ∧ kind = 0) ∨ (op = 122 ∧ n = 64 ∧ kind = 1) ∨ (op = 123 ∧ n = 64 ∧ kind = 2)) (w : World) :
    Calls Tryd.prog 29 #[.int .u64 x, .int .i64 n, .int .i64 kind] w fun e w' => e = .returned (.int .u64 (unW op x)) ∧ w = w' := by
  obtain ⟨h0, h1⟩ := hx
  obtain ⟨m, rfl⟩ := Int.eq_ofNat_of_zero_le h0
  have hm : m < 2 ^ 64 := by omega
  rcases h with ⟨rfl, rfl, rfl⟩ | ⟨rfl, rfl, rfl⟩ | ⟨rfl, rfl, rfl⟩ | ⟨rfl, rfl, rfl⟩ | ⟨rfl, rfl, rfl⟩ | ⟨rfl, rfl, rfl⟩
  · have e := NumCnt.high_zeros m 32 (by decide)
    have C := count_high m ⟨h0, h1⟩ 32 (by decide) w
    rw [e] at C
    rw [Co.w103]; exact C
  · have C := count_low m ⟨h0, h1⟩ 32 (by decide) 1 (Or.inl rfl) w
    rw [if_neg (by decide), NumCnt.low_zeros] at C
    rw [Co.w104]; exact C
  · have C := count_low m ⟨h0, h1⟩ 32 (by decide) 2 (Or.inr rfl) w
    rw [if_pos rfl, NumCnt.ones_pop] at C
    rw [Co.w105]; exact C
  · have e := NumCnt.high_zeros m 64 (by decide)
    rw [Nat.mod_eq_of_lt hm] at e
    have C := count_high m ⟨h0, h1⟩ 64 (by decide) w
    rw [e] at C
    rw [Co.w121]; exact C
  · have C := count_low m ⟨h0, h1⟩ 64 (by decide) 1 (Or.inl rfl) w
    rw [if_neg (by decide), NumCnt.low_zeros, Nat.mod_eq_of_lt hm] at C
    rw [Co.w122]; exact C
  · have C := count_low m ⟨h0, h1⟩ 64 (by decide) 2 (Or.inr rfl) w
    rw [if_pos rfl, NumCnt.ones_pop, Nat.mod_eq_of_lt hm] at C
    rw [Co.w123]; exact C
set_option maxHeartbeats 1000000 in
theorem un69 (x : Int) (hx : U64 x) (w : World) (A : ∀ w, Calls Tryd.prog 12 #[.int .i64 69] w fun e w' => e = .returned (.int .i64 1) ∧ Grown w w') :
    Calls Tryd.prog 20 #[.int .i64 69, .int .u64 x] w fun e w' => e = .returned (.tuple #[.int .u64 (unW 69 x), .int .i64 0]) ∧ Grown w w' := by
  have C := cut_any x 32 hx (by omega)
  rw [cut32] at C
  have HC := Lib.hid C
  clear C
  rw [v69]
  generalize y32 x = y at *
  have HA := Lib.hid A
  clear A hx
  go_enter Tryd.func20, Tryd.ntmps20
  go_wp2_with fail
  refine (HA.out _).mono ?_
  rintro e w1 ⟨rfl, hg⟩
  go_wp2_with (first | (go_at_call 28; refine (HC.out _).mono ?_; rintro e w2 ⟨rfl, rfl⟩) | (go_at_call 27; refine (yes_t _ _).mono ?_; rintro e w2 ⟨rfl, rfl⟩))
  go_ret2
  exact ⟨ret_pair rfl rfl, hg⟩
set_option maxHeartbeats 1000000 in
theorem un80 (x : Int) (_hx : U64 x) (w : World) (A : ∀ w, Calls Tryd.prog 12 #[.int .i64 80] w fun e w' => e = .returned (.int .i64 1) ∧ Grown w w') :
    Calls Tryd.prog 20 #[.int .i64 80, .int .u64 x] w fun e w' => e = .returned (.tuple #[.int .u64 (unW 80 x), .int .i64 0]) ∧ Grown w w' := by
  rw [v80]
  have HA := Lib.hid A
  clear A
  go_enter Tryd.func20, Tryd.ntmps20
  go_wp2_with fail
  refine (HA.out _).mono ?_
  rintro e w1 ⟨rfl, hg⟩
  go_wp2_with (go_at_call 27; refine (yes_t _ _).mono ?_; rintro e w2 ⟨rfl, rfl⟩)
  go_ret2
  exact ⟨ret_pair rfl rfl, hg⟩
set_option maxHeartbeats 1000000 in
theorem un167 (x : Int) (hx : U64 x) (w : World) (A : ∀ w, Calls Tryd.prog 12 #[.int .i64 167] w fun e w' => e = .returned (.int .i64 1) ∧ Grown w w') :
    Calls Tryd.prog 20 #[.int .i64 167, .int .u64 x] w fun e w' => e = .returned (.tuple #[.int .u64 (unW 167 x), .int .i64 0]) ∧ Grown w w' := by
  have C := cut_any x 32 hx (by omega)
  rw [cut32, ← v167] at C
  have HC := Lib.hid C
  clear C
  generalize unW 167 x = y at *
  have HA := Lib.hid A
  clear A hx
  go_enter Tryd.func20, Tryd.ntmps20
  go_wp2_with fail
  refine (HA.out _).mono ?_
  rintro e w1 ⟨rfl, hg⟩
  go_wp2_with (go_at_call 28; refine (HC.out _).mono ?_; rintro e w2 ⟨rfl, rfl⟩)
  go_ret2
  exact ⟨ret_pair rfl rfl, hg⟩
set_option maxHeartbeats 1000000 in
theorem un173 (x : Int) (hx : U64 x) (w : World) (A : ∀ w, Calls Tryd.prog 12 #[.int .i64 173] w fun e w' => e = .returned (.int .i64 1) ∧ Grown w w') :
    Calls Tryd.prog 20 #[.int .i64 173, .int .u64 x] w fun e w' => e = .returned (.tuple #[.int .u64 (unW 173 x), .int .i64 0]) ∧ Grown w w' := by
  have C := cut_any x 32 hx (by omega)
  rw [cut32, ← v173] at C
  have HC := Lib.hid C
  clear C
  generalize unW 173 x = y at *
  have HA := Lib.hid A
  clear A hx
  go_enter Tryd.func20, Tryd.ntmps20
  go_wp2_with fail
  refine (HA.out _).mono ?_
  rintro e w1 ⟨rfl, hg⟩
  go_wp2_with (go_at_call 28; refine (HC.out _).mono ?_; rintro e w2 ⟨rfl, rfl⟩)
  go_ret2
  exact ⟨ret_pair rfl rfl, hg⟩
set_option maxHeartbeats 1000000 in
theorem un172 (x : Int) (hx : U64 x) (w : World) (A : ∀ w, Calls Tryd.prog 12 #[.int .i64 172] w fun e w' => e = .returned (.int .i64 1) ∧ Grown w w') :
    Calls Tryd.prog 20 #[.int .i64 172, .int .u64 x] w fun e w' => e = .returned (.tuple #[.int .u64 (unW 172 x), .int .i64 0]) ∧ Grown w w' := by
  have C := sign_any x 32 hx (by omega)
  rw [v172] at C
  have HS := Lib.hid C
  clear C
  generalize unW 172 x = y at *
  have HA := Lib.hid A
  clear A hx
  go_enter Tryd.func20, Tryd.ntmps20
  go_wp2_with fail
  refine (HA.out _).mono ?_
  rintro e w1 ⟨rfl, hg⟩
  go_wp2_with (go_at_call 30; refine (HS.out _).mono ?_; rintro e w2 ⟨rfl, rfl⟩)
  go_ret2
  exact ⟨ret_pair rfl rfl, hg⟩
set_option maxHeartbeats 1000000 in
theorem un196 (x : Int) (hx : U64 x) (w : World) (A : ∀ w, Calls Tryd.prog 12 #[.int .i64 196] w fun e w' => e = .returned (.int .i64 1) ∧ Grown w w') :
    Calls Tryd.prog 20 #[.int .i64 196, .int .u64 x] w fun e w' => e = .returned (.tuple #[.int .u64 (unW 196 x), .int .i64 0]) ∧ Grown w w' := by
  have C := sign_any x 32 hx (by omega)
  rw [v196] at C
  have HS := Lib.hid C
  clear C
  generalize unW 196 x = y at *
  have HA := Lib.hid A
  clear A hx
  go_enter Tryd.func20, Tryd.ntmps20
  go_wp2_with fail
  refine (HA.out _).mono ?_
  rintro e w1 ⟨rfl, hg⟩
  go_wp2_with (go_at_call 30; refine (HS.out _).mono ?_; rintro e w2 ⟨rfl, rfl⟩)
  go_ret2
  exact ⟨ret_pair rfl rfl, hg⟩
set_option maxHeartbeats 1000000 in
theorem un194 (x : Int) (hx : U64 x) (w : World) (A : ∀ w, Calls Tryd.prog 12 #[.int .i64 194] w fun e w' => e = .returned (.int .i64 1) ∧ Grown w w') :
    Calls Tryd.prog 20 #[.int .i64 194, .int .u64 x] w fun e w' => e = .returned (.tuple #[.int .u64 (unW 194 x), .int .i64 0]) ∧ Grown w w' := by
  have C := sign_any x 8 hx (by omega)
  rw [v194] at C
  have HS := Lib.hid C
  clear C
  generalize unW 194 x = y at *
  have HA := Lib.hid A
  clear A hx
  go_enter Tryd.func20, Tryd.ntmps20
  go_wp2_with fail
  refine (HA.out _).mono ?_
  rintro e w1 ⟨rfl, hg⟩
  go_wp2_with (go_at_call 30; refine (HS.out _).mono ?_; rintro e w2 ⟨rfl, rfl⟩)
  go_ret2
  exact ⟨ret_pair rfl rfl, hg⟩
set_option maxHeartbeats 1000000 in
theorem un195 (x : Int) (hx : U64 x) (w : World) (A : ∀ w, Calls Tryd.prog 12 #[.int .i64 195] w fun e w' => e = .returned (.int .i64 1) ∧ Grown w w') :
    Calls Tryd.prog 20 #[.int .i64 195, .int .u64 x] w fun e w' => e = .returned (.tuple #[.int .u64 (unW 195 x), .int .i64 0]) ∧ Grown w w' := by
  have C := sign_any x 16 hx (by omega)
  rw [v195] at C
  have HS := Lib.hid C
  clear C
  generalize unW 195 x = y at *
  have HA := Lib.hid A
  clear A hx
  go_enter Tryd.func20, Tryd.ntmps20
  go_wp2_with fail
  refine (HA.out _).mono ?_
  rintro e w1 ⟨rfl, hg⟩
  go_wp2_with (go_at_call 30; refine (HS.out _).mono ?_; rintro e w2 ⟨rfl, rfl⟩)
  go_ret2
  exact ⟨ret_pair rfl rfl, hg⟩
set_option maxHeartbeats 1000000 in
theorem un192 (x : Int) (hx : U64 x) (w : World) (A : ∀ w, Calls Tryd.prog 12 #[.int .i64 192] w fun e w' => e = .returned (.int .i64 1) ∧ Grown w w') :
    Calls Tryd.prog 20 #[.int .i64 192, .int .u64 x] w fun e w' => e = .returned (.tuple #[.int .u64 (unW 192 x), .int .i64 0]) ∧ Grown w w' := by
  have C := sign_any x 8 hx (by omega)
  have D := cut_any (signI x 8) 32 (sign_bd x 8 hx (by omega)) (by omega)
  rw [v192] at D
  generalize signI x 8 = s at *
  generalize unW 192 x = y at *
  have HS := Lib.hid C
  have HC := Lib.hid D
  clear C D
  have HA := Lib.hid A
  clear A hx
  go_enter Tryd.func20, Tryd.ntmps20
  go_wp2_with fail
  refine (HA.out _).mono ?_
  rintro e w1 ⟨rfl, hg⟩
  go_wp2_with (first | (go_at_call 28; refine (HC.out _).mono ?_; rintro e w2 ⟨rfl, rfl⟩) | (go_at_call 30; refine (HS.out _).mono ?_; rintro e w2 ⟨rfl, rfl⟩))
  go_ret2
  exact ⟨ret_pair rfl rfl, hg⟩
set_option maxHeartbeats 1000000 in
theorem un193 (x : Int) (hx : U64 x) (w : World) (A : ∀ w, Calls Tryd.prog 12 #[.int .i64 193] w fun e w' => e = .returned (.int .i64 1) ∧ Grown w w') :
    Calls Tryd.prog 20 #[.int .i64 193, .int .u64 x] w fun e w' => e = .returned (.tuple #[.int .u64 (unW 193 x), .int .i64 0]) ∧ Grown w w' := by
  have C := sign_any x 16 hx (by omega)
  have D := cut_any (signI x 16) 32 (sign_bd x 16 hx (by omega)) (by omega)
  rw [v193] at D
  generalize signI x 16 = s at *
  generalize unW 193 x = y at *
  have HS := Lib.hid C
  have HC := Lib.hid D
  clear C D
  have HA := Lib.hid A
  clear A hx
  go_enter Tryd.func20, Tryd.ntmps20
  go_wp2_with fail
  refine (HA.out _).mono ?_
  rintro e w1 ⟨rfl, hg⟩
  go_wp2_with (first | (go_at_call 28; refine (HC.out _).mono ?_; rintro e w2 ⟨rfl, rfl⟩) | (go_at_call 30; refine (HS.out _).mono ?_; rintro e w2 ⟨rfl, rfl⟩))
  go_ret2
  exact ⟨ret_pair rfl rfl, hg⟩
set_option maxHeartbeats 1000000 in
theorem un103 (x : Int) (hx : U64 x) (w : World) (A : ∀ w, Calls Tryd.prog 12 #[.int .i64 103] w fun e w' => e = .returned (.int .i64 1) ∧ Grown w w') :
    Calls Tryd.prog 20 #[.int .i64 103, .int .u64 x] w fun e w' => e = .returned (.tuple #[.int .u64 (unW 103 x), .int .i64 0]) ∧ Grown w w' := by
  have C := count_un 103 x hx 32 0 (by omega)
  have HN := Lib.hid C
  clear C
  generalize unW 103 x = y at *
  have HA := Lib.hid A
  clear A hx
  go_enter Tryd.func20, Tryd.ntmps20
  go_wp2_with fail
  refine (HA.out _).mono ?_
  rintro e w1 ⟨rfl, hg⟩
  go_wp2_with (go_at_call 29; refine (HN.out _).mono ?_; rintro e w2 ⟨rfl, rfl⟩)
  go_ret2
  exact ⟨ret_pair rfl rfl, hg⟩
set_option maxHeartbeats 1000000 in
theorem un104 (x : Int) (hx : U64 x) (w : World) (A : ∀ w, Calls Tryd.prog 12 #[.int .i64 104] w fun e w' => e = .returned (.int .i64 1) ∧ Grown w w') :
    Calls Tryd.prog 20 #[.int .i64 104, .int .u64 x] w fun e w' => e = .returned (.tuple #[.int .u64 (unW 104 x), .int .i64 0]) ∧ Grown w w' := by
  have C := count_un 104 x hx 32 1 (by omega)
  have HN := Lib.hid C
  clear C
  generalize unW 104 x = y at *
  have HA := Lib.hid A
  clear A hx
  go_enter Tryd.func20, Tryd.ntmps20
  go_wp2_with fail
  refine (HA.out _).mono ?_
  rintro e w1 ⟨rfl, hg⟩
  go_wp2_with (go_at_call 29; refine (HN.out _).mono ?_; rintro e w2 ⟨rfl, rfl⟩)
  go_ret2
  exact ⟨ret_pair rfl rfl, hg⟩
set_option maxHeartbeats 1000000 in
theorem un105 (x : Int) (hx : U64 x) (w : World) (A : ∀ w, Calls Tryd.prog 12 #[.int .i64 105] w fun e w' => e = .returned (.int .i64 1) ∧ Grown w w') :
    Calls Tryd.prog 20 #[.int .i64 105, .int .u64 x] w fun e w' => e = .returned (.tuple #[.int .u64 (unW 105 x), .int .i64 0]) ∧ Grown w w' := by
  have C := count_un 105 x hx 32 2 (by omega)
  have HN := Lib.hid C
  clear C
  generalize unW 105 x = y at *
  have HA := Lib.hid A
  clear A hx
  go_enter Tryd.func20, Tryd.ntmps20
  go_wp2_with fail
  refine (HA.out _).mono ?_
  rintro e w1 ⟨rfl, hg⟩
  go_wp2_with (go_at_call 29; refine (HN.out _).mono ?_; rintro e w2 ⟨rfl, rfl⟩)
  go_ret2
  exact ⟨ret_pair rfl rfl, hg⟩
set_option maxHeartbeats 1000000 in
theorem un121 (x : Int) (hx : U64 x) (w : World) (A : ∀ w, Calls Tryd.prog 12 #[.int .i64 121] w fun e w' => e = .returned (.int .i64 1) ∧ Grown w w') :
    Calls Tryd.prog 20 #[.int .i64 121, .int .u64 x] w fun e w' => e = .returned (.tuple #[.int .u64 (unW 121 x), .int .i64 0]) ∧ Grown w w' := by
  have C := count_un 121 x hx 64 0 (by omega)
  have HN := Lib.hid C
  clear C
  generalize unW 121 x = y at *
  have HA := Lib.hid A
  clear A hx
  go_enter Tryd.func20, Tryd.ntmps20
  go_wp2_with fail
  refine (HA.out _).mono ?_
  rintro e w1 ⟨rfl, hg⟩
  go_wp2_with (go_at_call 29; refine (HN.out _).mono ?_; rintro e w2 ⟨rfl, rfl⟩)
  go_ret2
  exact ⟨ret_pair rfl rfl, hg⟩
set_option maxHeartbeats 1000000 in
theorem un122 (x : Int) (hx : U64 x) (w : World) (A : ∀ w, Calls Tryd.prog 12 #[.int .i64 122] w fun e w' => e = .returned (.int .i64 1) ∧ Grown w w') :
    Calls Tryd.prog 20 #[.int .i64 122, .int .u64 x] w fun e w' => e = .returned (.tuple #[.int .u64 (unW 122 x), .int .i64 0]) ∧ Grown w w' := by
  have C := count_un 122 x hx 64 1 (by omega)
  have HN := Lib.hid C
  clear C
  generalize unW 122 x = y at *
  have HA := Lib.hid A
  clear A hx
  go_enter Tryd.func20, Tryd.ntmps20
  go_wp2_with fail
  refine (HA.out _).mono ?_
  rintro e w1 ⟨rfl, hg⟩
  go_wp2_with (go_at_call 29; refine (HN.out _).mono ?_; rintro e w2 ⟨rfl, rfl⟩)
  go_ret2
  exact ⟨ret_pair rfl rfl, hg⟩
set_option maxHeartbeats 1000000 in
theorem un123 (x : Int) (hx : U64 x) (w : World) (A : ∀ w, Calls Tryd.prog 12 #[.int .i64 123] w fun e w' => e = .returned (.int .i64 1) ∧ Grown w w') :
    Calls Tryd.prog 20 #[.int .i64 123, .int .u64 x] w fun e w' => e = .returned (.tuple #[.int .u64 (unW 123 x), .int .i64 0]) ∧ Grown w w' := by
  have C := count_un 123 x hx 64 2 (by omega)
  have HN := Lib.hid C
  clear C
  generalize unW 123 x = y at *
  have HA := Lib.hid A
  clear A hx
  go_enter Tryd.func20, Tryd.ntmps20
  go_wp2_with fail
  refine (HA.out _).mono ?_
  rintro e w1 ⟨rfl, hg⟩
  go_wp2_with (go_at_call 29; refine (HN.out _).mono ?_; rintro e w2 ⟨rfl, rfl⟩)
  go_ret2
  exact ⟨ret_pair rfl rfl, hg⟩
end NumUnR
end Go.Proofs.YthdklnkaeddogacDoor
