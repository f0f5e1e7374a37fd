/-
  The contracts of num.Un, with the functions of math/bits on 32 bits that it calls.
-/
import Derived.Test.YthdklnkaeddogacDoorAwake
import Derived.Test.YthdklnkaeddogacDoorShelf
import Derived.Lib.Tables
import Derived.Lib.BitFns
namespace Go.Proofs.YthdklnkaeddogacDoor
open Go.RowKit NumM
namespace Un
theorem ret_i64 {a b : Int} (h : a = b) : Ending.returned (.int .i64 a) = .returned (.int .i64 b) := by rw [h]
theorem u32_and255 (x : Int) : 0 ≤ bits .and .u32 x 255 ∧ bits .and .u32 x 255 ≤ 255 := by
  show 0 ≤ IntKind.u32.wrap ((BitVec.ofInt 32 x &&& BitVec.ofInt 32 255).toNat : Int) ∧ IntKind.u32.wrap ((BitVec.ofInt 32 x &&& BitVec.ofInt 32 255).toNat : Int) ≤ 255
  have h : (BitVec.ofInt 32 x &&& BitVec.ofInt 32 255).toNat ≤ 255 := by
    rw [BitVec.toNat_and, show (BitVec.ofInt 32 255).toNat = 255 from rfl]
    exact Nat.and_le_right
  rw [IntKind.wrap_u32]
  omega
def oc32I (x : Int) : Int := (Lib.pop8 (x / 16777216) + Lib.pop8 (bits .and .u32 (x / 65536) 255) + Lib.pop8 (bits .and .u32 (x / 256) 255) + Lib.pop8 (bits .and .u32 x 255)) % 256
theorem oc32I_lt (x : Int) : 0 ≤ oc32I x ∧ oc32I x < 256 := by unfold oc32I; omega
set_option maxRecDepth 100000 in
set_option maxHeartbeats 1000000 in
theorem oc32 (x : Int) (h0 : 0 ≤ x) (h1 : x ≤ 4294967295) (w : World) :
    Calls Tryd.prog 38 #[.int .u32 x] w fun e w' => e = .returned (.int .i64 (wrap64 (oc32I x))) ∧ Grown w w' := by
  have a1 : 0 ≤ x / 16777216 ∧ x / 16777216 ≤ 255 := by omega
  have a2 := u32_and255 (x / 65536)
  have a3 := u32_and255 (x / 256)
  have a4 := u32_and255 x
  go_enter Tryd.func38, Tryd.ntmps38
  go_wp2_with fail
  go_quiet (fail)
  go_wp2
  go_ret
  refine ⟨ret_i64 ?_, Grown.refl _⟩
  have := oc32I_lt x
  rw [IntWalk.wrap64_in _ (by omega)]
  rfl
def tab32 : List Int := [0, 1, 28, 2, 29, 14, 24, 3, 30, 22, 20, 15, 25, 17, 4, 8, 31, 27, 13, 23, 21, 19, 16, 7, 26, 12, 18, 6, 11, 5, 10, 9]
def tzJ (x : Int) : Int := bits .and .u32 x (-x % 4294967296) * 125613361 % 4294967296 / 134217728
theorem tzJ_lt (x : Int) : 0 ≤ tzJ x ∧ tzJ x < 32 := by unfold tzJ; omega
/-- the table of math/bits lies in memory -/
def Tab (w : World) : Prop := ∀ j : Nat, j < 32 → w.cell? ⟨0, j, none⟩ = some (.int .u8 (tab32.getD j 0))
def tz32I (x : Int) : Int := if x = 0 then 32 else tab32[(tzJ x).toNat]?.getD 0
theorem tab32_lt : ∀ j : Fin 32, 0 ≤ tab32[j.val]?.getD 0 ∧ tab32[j.val]?.getD 0 < 32 := by decide
theorem tz32I_lt (x : Int) : 0 ≤ tz32I x ∧ tz32I x ≤ 32 := by
  unfold tz32I
  split
  · exact ⟨by decide, by decide⟩
  · have hl := tzJ_lt x
    have := tab32_lt ⟨(tzJ x).toNat, by omega⟩
    simp only at this
    omega
set_option maxHeartbeats 400000 in
theorem tz32 (x : Int) (w : World) (hT : Tab w) :
    Calls Tryd.prog 37 #[.int .u32 x] w fun e w' => e = .returned (.int .i64 (wrap64 (tz32I x))) ∧ w = w' := by
  by_cases h : x = 0
  · have e : tz32I x = 32 := by unfold tz32I; rw [if_pos h]
    rw [e, h]
    clear hT
    go_enter Tryd.func37, Tryd.ntmps37
    go_wp2
    go_ret
    exact ⟨ret_i64 (by rw [IntWalk.wrap64_in _ (by omega)]), rfl⟩
  · have e : tz32I x = tab32[(tzJ x).toNat]?.getD 0 := by unfold tz32I; rw [if_neg h]
    rw [e]
    have hx : (x == 0) = false := beq_eq_false_iff_ne.2 h
    have hl := tzJ_lt x
    have hc := hT (tzJ x).toNat (by omega)
    clear hT h e
    unfold tzJ at hc hl
    go_enter Tryd.func37, Tryd.ntmps37
    go_wp2
    go_ret
    exact ⟨rfl, rfl⟩
def lz32I (x : Int) : Int := 32 - (Lib.bitLen x.toNat : Int)
theorem bitLenAux_le : ∀ (f k x : Nat), x < 2 ^ k → Lib.bitLenAux f x ≤ k := by
  intro f
  induction f with
  | zero => intro k x _; exact Nat.zero_le _
  | succ f ih =>
    intro k x h
    show (if x = 0 then 0 else 1 + Lib.bitLenAux f (x / 2)) ≤ k
    split
    · exact Nat.zero_le _
    · rename_i h0
      match k, h with
      | 0, h => simp at h; omega
      | k + 1, h =>
        have := ih k (x / 2) (by rw [Nat.pow_succ] at h; omega)
        omega
theorem lz32I_lt (x : Int) (h0 : 0 ≤ x) (h1 : x < 4294967296) : 0 ≤ lz32I x ∧ lz32I x ≤ 32 := by
  unfold lz32I
  have := bitLenAux_le 64 32 x.toNat (by omega)
  show 0 ≤ 32 - (Lib.bitLenAux 64 x.toNat : Int) ∧ _
  unfold Lib.bitLen
  omega
theorem tab_grown {w w' : World} (hg : Grown w w') (hT : Tab w) : Tab w' := by
  intro j hj
  have h := hT j hj
  have hb := block_lt_of_cell h
  rw [World.keptBut.cell hg.1 hb (fun f => f)]
  exact h
/-! ### num.one, num.Un -/
def y32 (x : Int) : Int := x % 4294967296
def unI (op x : Int) : Int :=
  if op = 69 then tI (y32 x == 0) else if op = 80 then tI (x == 0)
  else if op = 103 then lz32I (y32 x) else if op = 104 then tz32I (y32 x) else if op = 105 then oc32I (y32 x)
  else if op = 167 then y32 x else if op = 173 then y32 x
  else if op = 172 then IntKind.u64.wrap (wrap32 (y32 x)) else if op = 196 then IntKind.u64.wrap (wrap32 (y32 x))
  else if op = 192 then IntKind.i8.wrap (y32 x) % 4294967296 else if op = 193 then IntKind.i16.wrap (y32 x) % 4294967296
  else if op = 194 then IntKind.u64.wrap (IntKind.i8.wrap (y32 x)) else if op = 195 then IntKind.u64.wrap (IntKind.i16.wrap (y32 x)) else 0
def isUn (op : Int) : Prop := op = 69 ∨ op = 80 ∨ op = 103 ∨ op = 104 ∨ op = 105 ∨ op = 167 ∨ op = 173 ∨ op = 172 ∨ op = 196 ∨ op = 192 ∨ op = 193 ∨ op = 194 ∨ op = 195
set_option maxHeartbeats 1000000 in
theorem arity_un (op : Int) (h : isUn op) (w : World) : Calls Tryd.prog 11 #[.int .i64 op] w fun e w' => e = .returned (.int .i64 1) ∧ w = w' := by
  rcases h with rfl | rfl | rfl | rfl | rfl | rfl | rfl | rfl | rfl | rfl | rfl | rfl | rfl
  all_goals
    go_enter Tryd.func11, Tryd.ntmps11
    go_wp2
    go_ret
    exact ⟨rfl, rfl⟩
set_option maxHeartbeats 400000 in
theorem one_69 (x : Int) (w : World) (_b0 : 0 ≤ y32 x) (_b1 : y32 x ≤ 4294967295) : Calls Tryd.prog 26 #[.int .i64 69, .int .u64 x, .int .u32 (y32 x)] w fun e w' => e = .returned (.int .u64 (unI 69 x)) ∧ Grown w w' := by
  go_enter Tryd.func26, Tryd.ntmps26
  go_wp2_with (go_at_call 33; refine (truth_any _ _).mono ?_; rintro e w' ⟨rfl, rfl⟩)
  go_ret
  exact ⟨rfl, Grown.refl _⟩
set_option maxHeartbeats 400000 in
theorem one_80 (x : Int) (w : World) (_b0 : 0 ≤ y32 x) (_b1 : y32 x ≤ 4294967295) : Calls Tryd.prog 26 #[.int .i64 80, .int .u64 x, .int .u32 (y32 x)] w fun e w' => e = .returned (.int .u64 (unI 80 x)) ∧ Grown w w' := by
  go_enter Tryd.func26, Tryd.ntmps26
  go_wp2_with (go_at_call 33; refine (truth_any _ _).mono ?_; rintro e w' ⟨rfl, rfl⟩)
  go_ret
  exact ⟨rfl, Grown.refl _⟩
set_option maxHeartbeats 400000 in
theorem one_167 (x : Int) (w : World) (_b0 : 0 ≤ y32 x) (_b1 : y32 x ≤ 4294967295) : Calls Tryd.prog 26 #[.int .i64 167, .int .u64 x, .int .u32 (y32 x)] w fun e w' => e = .returned (.int .u64 (unI 167 x)) ∧ Grown w w' := by
  go_enter Tryd.func26, Tryd.ntmps26
  go_wp2_with (go_at_call 33; refine (truth_any _ _).mono ?_; rintro e w' ⟨rfl, rfl⟩)
  go_ret
  exact ⟨rfl, Grown.refl _⟩
set_option maxHeartbeats 400000 in
theorem one_173 (x : Int) (w : World) (_b0 : 0 ≤ y32 x) (_b1 : y32 x ≤ 4294967295) : Calls Tryd.prog 26 #[.int .i64 173, .int .u64 x, .int .u32 (y32 x)] w fun e w' => e = .returned (.int .u64 (unI 173 x)) ∧ Grown w w' := by
  go_enter Tryd.func26, Tryd.ntmps26
  go_wp2_with (go_at_call 33; refine (truth_any _ _).mono ?_; rintro e w' ⟨rfl, rfl⟩)
  go_ret
  exact ⟨rfl, Grown.refl _⟩
set_option maxHeartbeats 400000 in
theorem one_172 (x : Int) (w : World) (_b0 : 0 ≤ y32 x) (_b1 : y32 x ≤ 4294967295) : Calls Tryd.prog 26 #[.int .i64 172, .int .u64 x, .int .u32 (y32 x)] w fun e w' => e = .returned (.int .u64 (unI 172 x)) ∧ Grown w w' := by
  go_enter Tryd.func26, Tryd.ntmps26
  go_wp2_with (go_at_call 33; refine (truth_any _ _).mono ?_; rintro e w' ⟨rfl, rfl⟩)
  go_ret
  exact ⟨rfl, Grown.refl _⟩
set_option maxHeartbeats 400000 in
theorem one_196 (x : Int) (w : World) (_b0 : 0 ≤ y32 x) (_b1 : y32 x ≤ 4294967295) : Calls Tryd.prog 26 #[.int .i64 196, .int .u64 x, .int .u32 (y32 x)] w fun e w' => e = .returned (.int .u64 (unI 196 x)) ∧ Grown w w' := by
  go_enter Tryd.func26, Tryd.ntmps26
  go_wp2_with (go_at_call 33; refine (truth_any _ _).mono ?_; rintro e w' ⟨rfl, rfl⟩)
  go_ret
  exact ⟨rfl, Grown.refl _⟩
set_option maxHeartbeats 400000 in
theorem one_192 (x : Int) (w : World) (_b0 : 0 ≤ y32 x) (_b1 : y32 x ≤ 4294967295) : Calls Tryd.prog 26 #[.int .i64 192, .int .u64 x, .int .u32 (y32 x)] w fun e w' => e = .returned (.int .u64 (unI 192 x)) ∧ Grown w w' := by
  go_enter Tryd.func26, Tryd.ntmps26
  go_wp2_with (go_at_call 33; refine (truth_any _ _).mono ?_; rintro e w' ⟨rfl, rfl⟩)
  go_ret
  exact ⟨rfl, Grown.refl _⟩
set_option maxHeartbeats 400000 in
theorem one_193 (x : Int) (w : World) (_b0 : 0 ≤ y32 x) (_b1 : y32 x ≤ 4294967295) : Calls Tryd.prog 26 #[.int .i64 193, .int .u64 x, .int .u32 (y32 x)] w fun e w' => e = .returned (.int .u64 (unI 193 x)) ∧ Grown w w' := by
  go_enter Tryd.func26, Tryd.ntmps26
  go_wp2_with (go_at_call 33; refine (truth_any _ _).mono ?_; rintro e w' ⟨rfl, rfl⟩)
  go_ret
  exact ⟨rfl, Grown.refl _⟩
set_option maxHeartbeats 400000 in
theorem one_194 (x : Int) (w : World) (_b0 : 0 ≤ y32 x) (_b1 : y32 x ≤ 4294967295) : Calls Tryd.prog 26 #[.int .i64 194, .int .u64 x, .int .u32 (y32 x)] w fun e w' => e = .returned (.int .u64 (unI 194 x)) ∧ Grown w w' := by
  go_enter Tryd.func26, Tryd.ntmps26
  go_wp2_with (go_at_call 33; refine (truth_any _ _).mono ?_; rintro e w' ⟨rfl, rfl⟩)
  go_ret
  exact ⟨rfl, Grown.refl _⟩
set_option maxHeartbeats 400000 in
theorem one_195 (x : Int) (w : World) (_b0 : 0 ≤ y32 x) (_b1 : y32 x ≤ 4294967295) : Calls Tryd.prog 26 #[.int .i64 195, .int .u64 x, .int .u32 (y32 x)] w fun e w' => e = .returned (.int .u64 (unI 195 x)) ∧ Grown w w' := by
  go_enter Tryd.func26, Tryd.ntmps26
  go_wp2_with (go_at_call 33; refine (truth_any _ _).mono ?_; rintro e w' ⟨rfl, rfl⟩)
  go_ret
  exact ⟨rfl, Grown.refl _⟩
set_option maxHeartbeats 400000 in
theorem onew_103 (x y L : Int) (w : World) (hL : 0 ≤ L ∧ L ≤ 256) (C : Calls Tryd.prog 36 #[.int .u32 y] w fun e w' => e = .returned (.int .i64 L) ∧ Grown w w') :
    Calls Tryd.prog 26 #[.int .i64 103, .int .u64 x, .int .u32 y] w fun e w' => e = .returned (.int .u64 L) ∧ Grown w w' := by
  have H := Lib.hid C
  clear C
  go_enter Tryd.func26, Tryd.ntmps26
  go_wp2_with (go_at_call 36; refine H.out.mono ?_; rintro e w' ⟨rfl, hg⟩)
  go_ret
  exact ⟨rfl, hg⟩
set_option maxHeartbeats 400000 in
theorem onew_104 (x y L : Int) (w : World) (hL : 0 ≤ L ∧ L ≤ 256) (C : Calls Tryd.prog 37 #[.int .u32 y] w fun e w' => e = .returned (.int .i64 L) ∧ Grown w w') :
    Calls Tryd.prog 26 #[.int .i64 104, .int .u64 x, .int .u32 y] w fun e w' => e = .returned (.int .u64 L) ∧ Grown w w' := by
  have H := Lib.hid C
  clear C
  go_enter Tryd.func26, Tryd.ntmps26
  go_wp2_with (go_at_call 37; refine H.out.mono ?_; rintro e w' ⟨rfl, hg⟩)
  go_ret
  exact ⟨rfl, hg⟩
set_option maxHeartbeats 400000 in
theorem onew_105 (x y L : Int) (w : World) (hL : 0 ≤ L ∧ L ≤ 256) (C : Calls Tryd.prog 38 #[.int .u32 y] w fun e w' => e = .returned (.int .i64 L) ∧ Grown w w') :
    Calls Tryd.prog 26 #[.int .i64 105, .int .u64 x, .int .u32 y] w fun e w' => e = .returned (.int .u64 L) ∧ Grown w w' := by
  have H := Lib.hid C
  clear C
  go_enter Tryd.func26, Tryd.ntmps26
  go_wp2_with (go_at_call 38; refine H.out.mono ?_; rintro e w' ⟨rfl, hg⟩)
  go_ret
  exact ⟨rfl, hg⟩
theorem unI_103 (x : Int) : unI 103 x = lz32I (y32 x) := by
  unfold unI
  rw [if_neg (by decide), if_neg (by decide), if_pos rfl]
theorem unI_104 (x : Int) : unI 104 x = tz32I (y32 x) := by
  unfold unI
  rw [if_neg (by decide), if_neg (by decide), if_neg (by decide), if_pos rfl]
theorem unI_105 (x : Int) : unI 105 x = oc32I (y32 x) := by
  unfold unI
  rw [if_neg (by decide), if_neg (by decide), if_neg (by decide), if_neg (by decide), if_pos rfl]
theorem one_un (op x : Int) (h : isUn op) (w : World) (hT : Tab w) : Calls Tryd.prog 26 #[.int .i64 op, .int .u64 x, .int .u32 (y32 x)] w fun e w' => e = .returned (.int .u64 (unI op x)) ∧ Grown w w' := by
  have b0 : 0 ≤ y32 x := by unfold y32; omega
  have b1 : y32 x ≤ 4294967295 := by unfold y32; omega
  rcases h with rfl | rfl | rfl | rfl | rfl | rfl | rfl | rfl | rfl | rfl | rfl | rfl | rfl
  · exact one_69 x w b0 b1
  · exact one_80 x w b0 b1
  · rw [unI_103]
    have bl := lz32I_lt (y32 x) b0 (by omega)
    have C := Tryd.bits_LeadingZeros32 (y32 x) w b0 b1
    exact onew_103 x (y32 x) (lz32I (y32 x)) w (by omega) (C.mono fun e w' h => ⟨h.1, h.2 ▸ Grown.refl _⟩)
  · rw [unI_104]
    have bl := tz32I_lt (y32 x)
    have C := tz32 (y32 x) w hT
    rw [IntWalk.wrap64_in _ (by omega)] at C
    exact onew_104 x (y32 x) (tz32I (y32 x)) w (by omega) (C.mono fun e w' h => ⟨h.1, h.2 ▸ Grown.refl _⟩)
  · rw [unI_105]
    have bl := oc32I_lt (y32 x)
    have C := oc32 (y32 x) b0 b1 w
    rw [IntWalk.wrap64_in _ (by omega)] at C
    exact onew_105 x (y32 x) (oc32I (y32 x)) w (by omega) C
  · exact one_167 x w b0 b1
  · exact one_173 x w b0 b1
  · exact one_172 x w b0 b1
  · exact one_196 x w b0 b1
  · exact one_192 x w b0 b1
  · exact one_193 x w b0 b1
  · exact one_194 x w b0 b1
  · exact one_195 x w b0 b1
set_option maxHeartbeats 400000 in
theorem Un_yes (op x : Int) (h : isUn op) (w : World) (hT : Tab w) : Calls Tryd.prog 18 #[.int .i64 op, .int .u64 x] w fun e w' => e = .returned (.tuple #[.int .u64 (unI op x), .int .i64 0]) ∧ Grown w w' := by
  have C := fun wx (hx : Grown w wx) => one_un op x h wx (tab_grown hx hT)
  have A := arity_un op h
  have HC := Lib.hid C
  have HA := Lib.hid A
  clear C A hT h
  go_enter Tryd.func18, Tryd.ntmps18
  go_wp2_with fail
  refine (HA.out _).mono ?_
  rintro e w1 ⟨rfl, rfl⟩
  go_wp2_with fail
  refine (HC.out _ (Grown.refl _)).mono ?_
  rintro e w1 ⟨rfl, hg⟩
  go_wp2
  go_ret2
  exact ⟨ret_pair rfl rfl, hg⟩
/-! operators with two operands, and none: refused -/
set_option maxHeartbeats 400000 in
theorem arity_two (op : Int) (h : (70 ≤ op ∧ op < 80) ∨ (106 ≤ op ∧ op < 121)) (w : World) : Calls Tryd.prog 11 #[.int .i64 op] w fun e w' => e = .returned (.int .i64 2) ∧ w = w' := by
  rcases h with ⟨h0, h1⟩ | ⟨h0, h1⟩
  · go_enter Tryd.func11, Tryd.ntmps11
    go_wp2_with (first | (go_at_call 19; refine (in_yes op 70 10 (by decide) (by decide) (by decide) (by decide) h0 (by omega) _).mono ?_; rintro e w1 ⟨rfl, rfl⟩))
    go_ret
    exact ⟨rfl, rfl⟩
  · go_enter Tryd.func11, Tryd.ntmps11
    go_wp2_with fail
    refine (in_no op 70 10 (by decide) (by decide) (by decide) (by decide) (by omega) _).mono ?_
    rintro e w1 ⟨rfl, rfl⟩
    go_wp2_with fail
    refine (in_no op 81 10 (by decide) (by decide) (by decide) (by decide) (by omega) _).mono ?_
    rintro e w1 ⟨rfl, rfl⟩
    go_wp2_with fail
    refine (in_yes op 106 15 (by decide) (by decide) (by decide) (by decide) h0 (by omega) _).mono ?_
    rintro e w1 ⟨rfl, rfl⟩
    go_wp2
    go_ret
    exact ⟨rfl, rfl⟩
set_option maxHeartbeats 400000 in
theorem arity_none (op : Int) (h : 91 ≤ op ∧ op ≤ 102) (w : World) : Calls Tryd.prog 11 #[.int .i64 op] w fun e w' => e = .returned (.int .i64 0) ∧ w = w' := by
  obtain ⟨h0, h1⟩ := h
  go_enter Tryd.func11, Tryd.ntmps11
  go_wp2_with fail
  refine (in_no op 70 10 (by decide) (by decide) (by decide) (by decide) (by omega) _).mono ?_
  rintro e w1 ⟨rfl, rfl⟩
  go_wp2_with fail
  refine (in_no op 81 10 (by decide) (by decide) (by decide) (by decide) (by omega) _).mono ?_
  rintro e w1 ⟨rfl, rfl⟩
  go_wp2_with fail
  refine (in_no op 106 15 (by decide) (by decide) (by decide) (by decide) (by omega) _).mono ?_
  rintro e w1 ⟨rfl, rfl⟩
  go_wp2_with fail
  refine (in_no op 124 15 (by decide) (by decide) (by decide) (by decide) (by omega) _).mono ?_
  rintro e w1 ⟨rfl, rfl⟩
  go_wp2
  go_ret
  exact ⟨rfl, rfl⟩
set_option maxHeartbeats 400000 in
theorem Un_no (op x r : Int) (hr : r = 0 ∨ r = 2) (w : World) (A : ∀ w, Calls Tryd.prog 11 #[.int .i64 op] w fun e w' => e = .returned (.int .i64 r) ∧ w = w') :
    Calls Tryd.prog 18 #[.int .i64 op, .int .u64 x] w fun e w' => e = .returned (.tuple #[.int .u64 0, .int .i64 1]) ∧ Grown w w' := by
  have HA := Lib.hid A
  clear A
  rcases hr with rfl | rfl
  all_goals
    go_enter Tryd.func18, Tryd.ntmps18
    go_wp2_with fail
    refine (HA.out _).mono ?_
    rintro e w1 ⟨rfl, rfl⟩
    go_wp2
    go_ret2
    exact ⟨rfl, Grown.refl _⟩
end Un
end Go.Proofs.YthdklnkaeddogacDoor
