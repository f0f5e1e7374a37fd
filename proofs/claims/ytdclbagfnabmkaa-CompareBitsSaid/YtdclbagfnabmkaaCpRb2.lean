/-
  The reference's Bits of layer 6, for all opcodes and numbers of vectors. Conditions: bytes; the vectors' cells.
-/
import Derived.Test.YtdclbagfnabmkaaCpRb
namespace Go.Proofs.Ytdclbagfnabmkaa
open Go.RowKit VecM Ev
namespace Cp
set_option maxRecDepth 100000 in
theorem zY_eq (F : Nat → Int) (n : Nat) (hn : n < 128) (h : bitI (F (n / 8)) (n % 8) = true) : zY (oK F n) n = oK F (n + 1) := by
  have h1 : (qI n).toNat = n / 8 := by rw [qI_val hn]; omega
  have h2 : min (rI n).toNat 8 = n % 8 := by rw [rI_val]; omega
  have h3 : IntKind.u8.wrap (1 * 2 ^ (n % 8)) = 2 ^ (n % 8) := by
    have : ∀ r : Fin 8, IntKind.u8.wrap (1 * 2 ^ r.val) = 2 ^ r.val := by decide
    exact this ⟨n % 8, by omega⟩
  unfold zY
  rw [h1, h2, h3]
  exact oK_yes F n h
def fB (k : Int) (B : Nat → Nat → Int) (m : Nat) : Int :=
  if k = 77 then bits .xor .u8 255 (B 0 m) else if k = 78 then bits .and .u8 (B 0 m) (B 1 m) else if k = 79 then bits .andNot .u8 (B 0 m) (B 1 m) else if k = 80 then bits .or .u8 (B 0 m) (B 1 m)
  else if k = 81 then bits .xor .u8 (B 0 m) (B 1 m) else bits .or .u8 (bits .and .u8 (B 0 m) (B 2 m)) (bits .andNot .u8 (B 1 m) (B 2 m))
set_option maxRecDepth 100000 in
theorem fB_byt (k : Int) (B : Nat → Nat → Int) : Byt (fB k B) := fun m => by
  unfold fB
  repeat' split
  all_goals exact bits_bd _ _ _
set_option maxRecDepth 100000 in
theorem bB_eq (B : Nat → Nat → Int) (k n : Nat) : bB B k n = bitI (B k (n / 8)) (n % 8) := by unfold bB; rw [Int.toNat_natCast]
set_option maxRecDepth 100000 in
theorem cases_b (B : Nat → Nat → Int) (k n : Nat) : bB B k n = false ∨ bB B k n = true := by cases bB B k n <;> simp
set_option maxRecDepth 100000 in
theorem bbr77 (g0 off cap : Nat) (B : Nat → Nat → Int) (cs : List Value) (t : TypeId) (hG : Gv.Ok ⟨g0, off, 1, cap, B, cs, t⟩) (n : Nat) (hn : n < 128) : BRun ⟨g0, off, 1, cap, B, cs, t⟩ 77 (oK (fB 77 B) n) (oK (fB 77 B) (n + 1)) n := by
  have hB : ∀ j, 0 ≤ B j (n / 8) ∧ B j (n / 8) ≤ 255 := fun j => hG.1 j (n / 8)
  have hr : n % 8 < 8 := by omega
  have e : bitI (fB 77 B (n / 8)) (n % 8) = (!bitI (B 0 (n / 8)) (n % 8)) := by
    show bitI (bits .xor .u8 255 (B 0 (n / 8))) (n % 8) = _
    exact bit_not (hB 0) _ hr
  rcases cases_b B 0 n with h0 | h0
  · have e2 : bitI (fB 77 B (n / 8)) (n % 8) = true := by
      rw [e]
      rw [(bB_eq B 0 n).symm.trans h0]
      try rfl
    rw [← zY_eq (fB 77 B) n hn e2]
    exact b77_0 g0 off cap B cs t hG (oK (fB 77 B) n) n hn h0
  · have e2 : bitI (fB 77 B (n / 8)) (n % 8) = false := by
      rw [e]
      rw [(bB_eq B 0 n).symm.trans h0]
      try rfl
    rw [oK_no (fB 77 B) n e2]
    exact b77_1 g0 off cap B cs t hG (oK (fB 77 B) n) n hn h0
set_option maxRecDepth 100000 in
theorem bbr78 (g0 off cap : Nat) (B : Nat → Nat → Int) (cs : List Value) (t : TypeId) (hG : Gv.Ok ⟨g0, off, 2, cap, B, cs, t⟩) (n : Nat) (hn : n < 128) : BRun ⟨g0, off, 2, cap, B, cs, t⟩ 78 (oK (fB 78 B) n) (oK (fB 78 B) (n + 1)) n := by
  have hB : ∀ j, 0 ≤ B j (n / 8) ∧ B j (n / 8) ≤ 255 := fun j => hG.1 j (n / 8)
  have hr : n % 8 < 8 := by omega
  have e : bitI (fB 78 B (n / 8)) (n % 8) = (bitI (B 0 (n / 8)) (n % 8) && bitI (B 1 (n / 8)) (n % 8)) := by
    show bitI (bits .and .u8 (B 0 (n / 8)) (B 1 (n / 8))) (n % 8) = _
    exact bit_and (hB 0) (hB 1) _
  rcases cases_b B 0 n with h0 | h0
  · rcases cases_b B 1 n with h1 | h1
    · have e2 : bitI (fB 78 B (n / 8)) (n % 8) = false := by
        rw [e]
        rw [(bB_eq B 0 n).symm.trans h0]
        rw [(bB_eq B 1 n).symm.trans h1]
        try rfl
      rw [oK_no (fB 78 B) n e2]
      exact b78_00 g0 off cap B cs t hG (oK (fB 78 B) n) n hn h0 h1
    · have e2 : bitI (fB 78 B (n / 8)) (n % 8) = false := by
        rw [e]
        rw [(bB_eq B 0 n).symm.trans h0]
        rw [(bB_eq B 1 n).symm.trans h1]
        try rfl
      rw [oK_no (fB 78 B) n e2]
      exact b78_01 g0 off cap B cs t hG (oK (fB 78 B) n) n hn h0 h1
  · rcases cases_b B 1 n with h1 | h1
    · have e2 : bitI (fB 78 B (n / 8)) (n % 8) = false := by
        rw [e]
        rw [(bB_eq B 0 n).symm.trans h0]
        rw [(bB_eq B 1 n).symm.trans h1]
        try rfl
      rw [oK_no (fB 78 B) n e2]
      exact b78_10 g0 off cap B cs t hG (oK (fB 78 B) n) n hn h0 h1
    · have e2 : bitI (fB 78 B (n / 8)) (n % 8) = true := by
        rw [e]
        rw [(bB_eq B 0 n).symm.trans h0]
        rw [(bB_eq B 1 n).symm.trans h1]
        try rfl
      rw [← zY_eq (fB 78 B) n hn e2]
      exact b78_11 g0 off cap B cs t hG (oK (fB 78 B) n) n hn h0 h1
set_option maxRecDepth 100000 in
theorem bbr79 (g0 off cap : Nat) (B : Nat → Nat → Int) (cs : List Value) (t : TypeId) (hG : Gv.Ok ⟨g0, off, 2, cap, B, cs, t⟩) (n : Nat) (hn : n < 128) : BRun ⟨g0, off, 2, cap, B, cs, t⟩ 79 (oK (fB 79 B) n) (oK (fB 79 B) (n + 1)) n := by
  have hB : ∀ j, 0 ≤ B j (n / 8) ∧ B j (n / 8) ≤ 255 := fun j => hG.1 j (n / 8)
  have hr : n % 8 < 8 := by omega
  have e : bitI (fB 79 B (n / 8)) (n % 8) = (bitI (B 0 (n / 8)) (n % 8) && !bitI (B 1 (n / 8)) (n % 8)) := by
    show bitI (bits .andNot .u8 (B 0 (n / 8)) (B 1 (n / 8))) (n % 8) = _
    exact bit_andNot (hB 0) (hB 1) _ hr
  rcases cases_b B 0 n with h0 | h0
  · rcases cases_b B 1 n with h1 | h1
    · have e2 : bitI (fB 79 B (n / 8)) (n % 8) = false := by
        rw [e]
        rw [(bB_eq B 0 n).symm.trans h0]
        rw [(bB_eq B 1 n).symm.trans h1]
        try rfl
      rw [oK_no (fB 79 B) n e2]
      exact b79_00 g0 off cap B cs t hG (oK (fB 79 B) n) n hn h0 h1
    · have e2 : bitI (fB 79 B (n / 8)) (n % 8) = false := by
        rw [e]
        rw [(bB_eq B 0 n).symm.trans h0]
        rw [(bB_eq B 1 n).symm.trans h1]
        try rfl
      rw [oK_no (fB 79 B) n e2]
      exact b79_01 g0 off cap B cs t hG (oK (fB 79 B) n) n hn h0 h1
  · rcases cases_b B 1 n with h1 | h1
    · have e2 : bitI (fB 79 B (n / 8)) (n % 8) = true := by
        rw [e]
        rw [(bB_eq B 0 n).symm.trans h0]
        rw [(bB_eq B 1 n).symm.trans h1]
        try rfl
      rw [← zY_eq (fB 79 B) n hn e2]
      exact b79_10 g0 off cap B cs t hG (oK (fB 79 B) n) n hn h0 h1
    · have e2 : bitI (fB 79 B (n / 8)) (n % 8) = false := by
        rw [e]
        rw [(bB_eq B 0 n).symm.trans h0]
        rw [(bB_eq B 1 n).symm.trans h1]
        try rfl
      rw [oK_no (fB 79 B) n e2]
      exact b79_11 g0 off cap B cs t hG (oK (fB 79 B) n) n hn h0 h1
set_option maxRecDepth 100000 in
theorem bbr80 (g0 off cap : Nat) (B : Nat → Nat → Int) (cs : List Value) (t : TypeId) (hG : Gv.Ok ⟨g0, off, 2, cap, B, cs, t⟩) (n : Nat) (hn : n < 128) : BRun ⟨g0, off, 2, cap, B, cs, t⟩ 80 (oK (fB 80 B) n) (oK (fB 80 B) (n + 1)) n := by
  have hB : ∀ j, 0 ≤ B j (n / 8) ∧ B j (n / 8) ≤ 255 := fun j => hG.1 j (n / 8)
  have hr : n % 8 < 8 := by omega
  have e : bitI (fB 80 B (n / 8)) (n % 8) = (bitI (B 0 (n / 8)) (n % 8) || bitI (B 1 (n / 8)) (n % 8)) := by
    show bitI (bits .or .u8 (B 0 (n / 8)) (B 1 (n / 8))) (n % 8) = _
    exact bit_or (hB 0) (hB 1) _
  rcases cases_b B 0 n with h0 | h0
  · rcases cases_b B 1 n with h1 | h1
    · have e2 : bitI (fB 80 B (n / 8)) (n % 8) = false := by
        rw [e]
        rw [(bB_eq B 0 n).symm.trans h0]
        rw [(bB_eq B 1 n).symm.trans h1]
        try rfl
      rw [oK_no (fB 80 B) n e2]
      exact b80_00 g0 off cap B cs t hG (oK (fB 80 B) n) n hn h0 h1
    · have e2 : bitI (fB 80 B (n / 8)) (n % 8) = true := by
        rw [e]
        rw [(bB_eq B 0 n).symm.trans h0]
        rw [(bB_eq B 1 n).symm.trans h1]
        try rfl
      rw [← zY_eq (fB 80 B) n hn e2]
      exact b80_01 g0 off cap B cs t hG (oK (fB 80 B) n) n hn h0 h1
  · rcases cases_b B 1 n with h1 | h1
    · have e2 : bitI (fB 80 B (n / 8)) (n % 8) = true := by
        rw [e]
        rw [(bB_eq B 0 n).symm.trans h0]
        rw [(bB_eq B 1 n).symm.trans h1]
        try rfl
      rw [← zY_eq (fB 80 B) n hn e2]
      exact b80_10 g0 off cap B cs t hG (oK (fB 80 B) n) n hn h0 h1
    · have e2 : bitI (fB 80 B (n / 8)) (n % 8) = true := by
        rw [e]
        rw [(bB_eq B 0 n).symm.trans h0]
        rw [(bB_eq B 1 n).symm.trans h1]
        try rfl
      rw [← zY_eq (fB 80 B) n hn e2]
      exact b80_11 g0 off cap B cs t hG (oK (fB 80 B) n) n hn h0 h1
set_option maxRecDepth 100000 in
theorem bbr81 (g0 off cap : Nat) (B : Nat → Nat → Int) (cs : List Value) (t : TypeId) (hG : Gv.Ok ⟨g0, off, 2, cap, B, cs, t⟩) (n : Nat) (hn : n < 128) : BRun ⟨g0, off, 2, cap, B, cs, t⟩ 81 (oK (fB 81 B) n) (oK (fB 81 B) (n + 1)) n := by
  have hB : ∀ j, 0 ≤ B j (n / 8) ∧ B j (n / 8) ≤ 255 := fun j => hG.1 j (n / 8)
  have hr : n % 8 < 8 := by omega
  have e : bitI (fB 81 B (n / 8)) (n % 8) = (bitI (B 0 (n / 8)) (n % 8) != bitI (B 1 (n / 8)) (n % 8)) := by
    show bitI (bits .xor .u8 (B 0 (n / 8)) (B 1 (n / 8))) (n % 8) = _
    exact bit_xor (hB 0) (hB 1) _
  rcases cases_b B 0 n with h0 | h0
  · rcases cases_b B 1 n with h1 | h1
    · have e2 : bitI (fB 81 B (n / 8)) (n % 8) = false := by
        rw [e]
        rw [(bB_eq B 0 n).symm.trans h0]
        rw [(bB_eq B 1 n).symm.trans h1]
        try rfl
      rw [oK_no (fB 81 B) n e2]
      exact b81_00 g0 off cap B cs t hG (oK (fB 81 B) n) n hn h0 h1
    · have e2 : bitI (fB 81 B (n / 8)) (n % 8) = true := by
        rw [e]
        rw [(bB_eq B 0 n).symm.trans h0]
        rw [(bB_eq B 1 n).symm.trans h1]
        try rfl
      rw [← zY_eq (fB 81 B) n hn e2]
      exact b81_01 g0 off cap B cs t hG (oK (fB 81 B) n) n hn h0 h1
  · rcases cases_b B 1 n with h1 | h1
    · have e2 : bitI (fB 81 B (n / 8)) (n % 8) = true := by
        rw [e]
        rw [(bB_eq B 0 n).symm.trans h0]
        rw [(bB_eq B 1 n).symm.trans h1]
        try rfl
      rw [← zY_eq (fB 81 B) n hn e2]
      exact b81_10 g0 off cap B cs t hG (oK (fB 81 B) n) n hn h0 h1
    · have e2 : bitI (fB 81 B (n / 8)) (n % 8) = false := by
        rw [e]
        rw [(bB_eq B 0 n).symm.trans h0]
        rw [(bB_eq B 1 n).symm.trans h1]
        try rfl
      rw [oK_no (fB 81 B) n e2]
      exact b81_11 g0 off cap B cs t hG (oK (fB 81 B) n) n hn h0 h1
set_option maxRecDepth 100000 in
theorem bbr82 (g0 off cap : Nat) (B : Nat → Nat → Int) (cs : List Value) (t : TypeId) (hG : Gv.Ok ⟨g0, off, 3, cap, B, cs, t⟩) (n : Nat) (hn : n < 128) : BRun ⟨g0, off, 3, cap, B, cs, t⟩ 82 (oK (fB 82 B) n) (oK (fB 82 B) (n + 1)) n := by
  have hB : ∀ j, 0 ≤ B j (n / 8) ∧ B j (n / 8) ≤ 255 := fun j => hG.1 j (n / 8)
  have hr : n % 8 < 8 := by omega
  have e : bitI (fB 82 B (n / 8)) (n % 8) = ((bitI (B 0 (n / 8)) (n % 8) && bitI (B 2 (n / 8)) (n % 8)) || (bitI (B 1 (n / 8)) (n % 8) && !bitI (B 2 (n / 8)) (n % 8))) := by
    show bitI (bits .or .u8 (bits .and .u8 (B 0 (n / 8)) (B 2 (n / 8))) (bits .andNot .u8 (B 1 (n / 8)) (B 2 (n / 8)))) (n % 8) = _
    rw [bit_or (bits_bd _ _ _) (bits_bd _ _ _), bit_and (hB 0) (hB 2), bit_andNot (hB 1) (hB 2) _ hr]
  rcases cases_b B 0 n with h0 | h0
  · rcases cases_b B 1 n with h1 | h1
    · rcases cases_b B 2 n with h2 | h2
      · have e2 : bitI (fB 82 B (n / 8)) (n % 8) = false := by
          rw [e]
          rw [(bB_eq B 0 n).symm.trans h0]
          rw [(bB_eq B 1 n).symm.trans h1]
          rw [(bB_eq B 2 n).symm.trans h2]
          try rfl
        rw [oK_no (fB 82 B) n e2]
        exact b82_000 g0 off cap B cs t hG (oK (fB 82 B) n) n hn h0 h1 h2
      · have e2 : bitI (fB 82 B (n / 8)) (n % 8) = false := by
          rw [e]
          rw [(bB_eq B 0 n).symm.trans h0]
          rw [(bB_eq B 1 n).symm.trans h1]
          rw [(bB_eq B 2 n).symm.trans h2]
          try rfl
        rw [oK_no (fB 82 B) n e2]
        exact b82_001 g0 off cap B cs t hG (oK (fB 82 B) n) n hn h0 h1 h2
    · rcases cases_b B 2 n with h2 | h2
      · have e2 : bitI (fB 82 B (n / 8)) (n % 8) = true := by
          rw [e]
          rw [(bB_eq B 0 n).symm.trans h0]
          rw [(bB_eq B 1 n).symm.trans h1]
          rw [(bB_eq B 2 n).symm.trans h2]
          try rfl
        rw [← zY_eq (fB 82 B) n hn e2]
        exact b82_010 g0 off cap B cs t hG (oK (fB 82 B) n) n hn h0 h1 h2
      · have e2 : bitI (fB 82 B (n / 8)) (n % 8) = false := by
          rw [e]
          rw [(bB_eq B 0 n).symm.trans h0]
          rw [(bB_eq B 1 n).symm.trans h1]
          rw [(bB_eq B 2 n).symm.trans h2]
          try rfl
        rw [oK_no (fB 82 B) n e2]
        exact b82_011 g0 off cap B cs t hG (oK (fB 82 B) n) n hn h0 h1 h2
  · rcases cases_b B 1 n with h1 | h1
    · rcases cases_b B 2 n with h2 | h2
      · have e2 : bitI (fB 82 B (n / 8)) (n % 8) = false := by
          rw [e]
          rw [(bB_eq B 0 n).symm.trans h0]
          rw [(bB_eq B 1 n).symm.trans h1]
          rw [(bB_eq B 2 n).symm.trans h2]
          try rfl
        rw [oK_no (fB 82 B) n e2]
        exact b82_100 g0 off cap B cs t hG (oK (fB 82 B) n) n hn h0 h1 h2
      · have e2 : bitI (fB 82 B (n / 8)) (n % 8) = true := by
          rw [e]
          rw [(bB_eq B 0 n).symm.trans h0]
          rw [(bB_eq B 1 n).symm.trans h1]
          rw [(bB_eq B 2 n).symm.trans h2]
          try rfl
        rw [← zY_eq (fB 82 B) n hn e2]
        exact b82_101 g0 off cap B cs t hG (oK (fB 82 B) n) n hn h0 h1 h2
    · rcases cases_b B 2 n with h2 | h2
      · have e2 : bitI (fB 82 B (n / 8)) (n % 8) = true := by
          rw [e]
          rw [(bB_eq B 0 n).symm.trans h0]
          rw [(bB_eq B 1 n).symm.trans h1]
          rw [(bB_eq B 2 n).symm.trans h2]
          try rfl
        rw [← zY_eq (fB 82 B) n hn e2]
        exact b82_110 g0 off cap B cs t hG (oK (fB 82 B) n) n hn h0 h1 h2
      · have e2 : bitI (fB 82 B (n / 8)) (n % 8) = true := by
          rw [e]
          rw [(bB_eq B 0 n).symm.trans h0]
          rw [(bB_eq B 1 n).symm.trans h1]
          rw [(bB_eq B 2 n).symm.trans h2]
          try rfl
        rw [← zY_eq (fB 82 B) n hn e2]
        exact b82_111 g0 off cap B cs t hG (oK (fB 82 B) n) n hn h0 h1 h2
/-! ### the loop -/
def cI : Nat → Int
  | 0 => 0
  | p + 1 => IntKind.i64.wrap (cI p + 1)
set_option maxRecDepth 100000 in
theorem cI_val : ∀ p : Nat, p ≤ 1000 → cI p = p
  | 0, _ => rfl
  | p + 1, h => by
    show IntKind.i64.wrap (cI p + 1) = _
    rw [cI_val p (by omega), IntWalk.i64_in _ (by omega)]
    rfl
noncomputable def lC : Code := loopIn 16 0
def lHav : List Nat := [9, 35, 36, 37, 38] ++ bbHav
def lNc (G : Gv) (k : Int) (bo : Nat) : List (Nat × Value) := [(1, .slice (some ⟨G.g, G.off, none⟩) G.n G.cap), (6, .int .i64 k), (7, .int .i64 G.n), (8, pt bo)]
def lNv (p : Nat) : List (Nat × Value) := [(9, .int .i64 (cI p))]
noncomputable def bbHole (G : Gv) (k : Int) (F : Nat → Int) (p : Nat) (id : Nat) (_ : Code) (_ : Tm) (M : List Rw) : Option Hole :=
  match Nat.beq id 1 with
  | false => none
  | true => match M with
    | [ro, r4, _] => some (mkHole bbBlk 130 (bbNeed G k ro.b (cI p)) [vrow ro.b (oK F p), r4, G.row] [] .normal [] bbHav [vrow ro.b (oK F (p + 1)), r4, G.row])
    | _ => none
noncomputable def envQ (G : Gv) (k : Int) (F : Nat → Int) (p : Nat) : Env := { P := Try.prog, known := [], sum := fun _ _ => none, hole := bbHole G k F p }
set_option maxRecDepth 100000 in
theorem bb_holes (G : Gv) (k : Int) (F : Nat → Int) (p : Nat) (hp : p < 128) (hr : ∀ n, n < 128 → BRun G k (oK F n) (oK F (n + 1)) n) : HolesOk (envQ G k F p) := by
  intro id body T M H hq hn hneed hrows hpre w0 w1 Q hS hQ
  replace hq : bbHole G k F p id body T M = some H := hq
  unfold bbHole at hq
  split at hq
  · cases hq
  split at hq
  · cases hq
    exact mkHole_ok (by rw [cI_val p (by omega)]; exact hr p hp _ _) (fun p hp => by cases hp) hn hneed (by rw [hrows] at hS; exact hS) fun ξ w' h => hQ ξ w' h
  · cases hq
noncomputable def lPath (G S : Gv) (k : Int) (F : Nat → Int) (p : Nat) (ex : Exit) (q q' : Nat) (i' : Int) (bo : Nat) (r4 : Rw) (g : Nat → Value) (β : Nat → Fr) : Out :=
  evCode (envQ G k F p) (envQ S k (fun _ => 0) 0) 60 lC (valsOf (lNc G k bo ++ lNv p) g 130) (valsOf (lNc S k 1002 ++ [(9, .int .i64 i')]) (fun _ => undef) 130) [vrow bo (oK F p), r4, G.row] [vrow 1002 fun _ => 0, vrow 1003 fun _ => 0, S.row] ex (lNv q ++ keepOf (lNc G k bo ++ lNv p) g 130 lHav) [vrow bo (oK F q'), r4, G.row] β
--EVTS lgTs | fun (g0 off n cap : Nat) (B : Nat → Nat → Int) (cs : List Value) (t : TypeId) (k : Int) (F : Nat → Int) (p : Nat) (bo : Nat) (r4 : Rw) (g : Nat → Value) (β : Nat → Fr) => (lPath ⟨g0, off, n, cap, B, cs, t⟩ (sG 1 fun _ _ => 0) k F p .normal (p + 1) (p + 1) 0 bo r4 g β, [(decide (cI p < 128), true)])
def lgTs : List Nat := [0, 1]
--EVTS leTs | fun (g0 off n cap : Nat) (B : Nat → Nat → Int) (cs : List Value) (t : TypeId) (k : Int) (F : Nat → Int) (p : Nat) (bo : Nat) (r4 : Rw) (g : Nat → Value) (β : Nat → Fr) => (lPath ⟨g0, off, n, cap, B, cs, t⟩ (sG 1 fun _ _ => 0) k F p (.exit 0) p p 200 bo r4 g β, [(decide (cI p < 128), false)])
def leTs : List Nat := [1]
set_option maxRecDepth 100000 in
theorem l_go (g0 off n cap : Nat) (B : Nat → Nat → Int) (cs : List Value) (t : TypeId) (k : Int) (F : Nat → Int) (hr : ∀ n', n' < 128 → BRun ⟨g0, off, n, cap, B, cs, t⟩ k (oK F n') (oK F (n' + 1)) n') (p : Nat) (hp : p < 128) (bo : Nat) (r4 : Rw) : Runs lC 130 (lNc ⟨g0, off, n, cap, B, cs, t⟩ k bo ++ lNv p) [vrow bo (oK F p), r4, Gv.row ⟨g0, off, n, cap, B, cs, t⟩] .normal (lNv (p + 1)) lHav [vrow bo (oK F (p + 1)), r4, Gv.row ⟨g0, off, n, cap, B, cs, t⟩] :=
  runs_code (E := envQ ⟨g0, off, n, cap, B, cs, t⟩ k F p) (E' := envQ (sG 1 fun _ _ => 0) k (fun _ => 0) 0) rfl (none_ok _ rfl) (fuel := 60) (need' := lNc (sG 1 fun _ _ => 0) k 1002 ++ [(9, .int .i64 0)]) (M' := [vrow 1002 fun _ => 0, vrow 1003 fun _ => 0, Gv.row (sG 1 fun _ _ => 0)]) rfl [(decide (cI p < 128), true)] lgTs (fun q hq => by rw [List.mem_singleton.1 hq]; exact decide_eq_true (by rw [cI_val p (by omega)]; omega)) (fun g β => by kernel_rfl) (bb_holes ⟨g0, off, n, cap, B, cs, t⟩ k F p hp hr)
set_option maxRecDepth 100000 in
theorem l_end (g0 off n cap : Nat) (B : Nat → Nat → Int) (cs : List Value) (t : TypeId) (k : Int) (F : Nat → Int) (bo : Nat) (r4 : Rw) : Runs lC 130 (lNc ⟨g0, off, n, cap, B, cs, t⟩ k bo ++ lNv 128) [vrow bo (oK F 128), r4, Gv.row ⟨g0, off, n, cap, B, cs, t⟩] (.exit 0) (lNv 128) lHav [vrow bo (oK F 128), r4, Gv.row ⟨g0, off, n, cap, B, cs, t⟩] := by
  have h : ∀ p : Nat, ¬ cI p < 128 → Runs lC 130 (lNc ⟨g0, off, n, cap, B, cs, t⟩ k bo ++ lNv p) [vrow bo (oK F p), r4, Gv.row ⟨g0, off, n, cap, B, cs, t⟩] (.exit 0) (lNv p) lHav [vrow bo (oK F p), r4, Gv.row ⟨g0, off, n, cap, B, cs, t⟩] := fun p hp =>
    runs_code (E := { envQ ⟨g0, off, n, cap, B, cs, t⟩ k F p with hole := fun _ _ _ _ => none }) (E' := { envQ (sG 1 fun _ _ => 0) k (fun _ => 0) 0 with hole := fun _ _ _ _ => none }) rfl (none_ok _ rfl) (fuel := 60) (need' := lNc (sG 1 fun _ _ => 0) k 1002 ++ [(9, .int .i64 200)]) (M' := [vrow 1002 fun _ => 0, vrow 1003 fun _ => 0, Gv.row (sG 1 fun _ _ => 0)]) rfl [(decide (cI p < 128), false)] leTs (fun q hq => by rw [List.mem_singleton.1 hq]; exact decide_eq_false hp) (fun g β => by kernel_rfl)
  exact h 128 (by rw [cI_val 128 (by omega)]; omega)
set_option maxRecDepth 100000 in
theorem l_blk : blkIn 16 0 = .block 0 (.loop lC) := by kernel_rfl
set_option maxRecDepth 100000 in
theorem l_noloop : ∀ b, lC ≠ .loop b := by
  intro b h
  have : (match lC with | .loop _ => true | _ => false) = false := by kernel_rfl
  rw [h] at this
  cases this
set_option maxRecDepth 100000 in
theorem l_run (g0 off n cap : Nat) (B : Nat → Nat → Int) (cs : List Value) (t : TypeId) (k : Int) (F : Nat → Int) (hr : ∀ n', n' < 128 → BRun ⟨g0, off, n, cap, B, cs, t⟩ k (oK F n') (oK F (n' + 1)) n') (bo : Nat) (r4 : Rw) : Runs (blkIn 16 0) 130 (lNc ⟨g0, off, n, cap, B, cs, t⟩ k bo ++ [(9, .int .i64 0)]) [vrow bo fun _ => 0, r4, Gv.row ⟨g0, off, n, cap, B, cs, t⟩] .normal [] lHav [vrow bo (oK F 128), r4, Gv.row ⟨g0, off, n, cap, B, cs, t⟩] := by
  have h := runs_loop (id := 0) (n := 130) (m := 128) (c := lC) (nc := lNc ⟨g0, off, n, cap, B, cs, t⟩ k bo) (nv := lNv) (hav := lHav) (R := fun p => [vrow bo (oK F p), r4, Gv.row ⟨g0, off, n, cap, B, cs, t⟩]) l_noloop (fun p hp => by
      simp only [lNc, List.mem_cons, List.not_mem_nil, or_false] at hp
      rcases hp with rfl | rfl | rfl | rfl
      · exact ⟨show (1 : Nat) < 130 by decide, show memN lHav 1 = false by decide⟩
      · exact ⟨show (6 : Nat) < 130 by decide, show memN lHav 6 = false by decide⟩
      · exact ⟨show (7 : Nat) < 130 by decide, show memN lHav 7 = false by decide⟩
      · exact ⟨show (8 : Nat) < 130 by decide, show memN lHav 8 = false by decide⟩)
    (fun p hp => l_go g0 off n cap B cs t k F hr p hp bo r4) (l_end g0 off n cap B cs t k F bo r4)
  simp only [oK_0] at h
  rw [l_blk]
  intro w0 w1 T Q hn hneed hS hQ
  exact h w0 w1 T Q hn hneed hS fun T' w' e1 e2 e3 e4 => hQ T' w' e1 (fun p hp => by cases hp) e3 e4
noncomputable def lHole (G : Gv) (k : Int) (F : Nat → Int) (id : Nat) (_ : Code) (_ : Tm) (M : List Rw) : Option Hole :=
  match Nat.beq id 0 with
  | false => none
  | true => match M with
    | [ro, r4, _] => some (mkHole (blkIn 16 0) 130 (lNc G k ro.b ++ [(9, .int .i64 0)]) [vrow ro.b fun _ => 0, r4, G.row] [] .normal [] lHav [vrow ro.b (oK F 128), r4, G.row])
    | _ => none
noncomputable def envT (G : Gv) (k : Int) (F : Nat → Int) : Env := { P := Try.prog, known := [], sum := fun _ _ => none, hole := lHole G k F }
set_option maxRecDepth 100000 in
theorem l_holes (G : Gv) (k : Int) (F : Nat → Int) (hr : ∀ n, n < 128 → BRun G k (oK F n) (oK F (n + 1)) n) : HolesOk (envT G k F) := by
  obtain ⟨g0, off, n, cap, B, cs, t⟩ := G
  intro id body T M H hq hn hneed hrows hpre w0 w1 Q hS hQ
  replace hq : lHole ⟨g0, off, n, cap, B, cs, t⟩ k F id body T M = some H := hq
  unfold lHole at hq
  split at hq
  · cases hq
  split at hq
  · cases hq
    exact mkHole_ok (l_run g0 off n cap B cs t k F hr _ _) (fun p hp => by cases hp) hn hneed (by rw [hrows] at hS; exact hS) fun ξ w' h => hQ ξ w' h
  · cases hq
noncomputable def qbPath (op k : Int) (G S : Gv) (F : Nat → Int) (β : Nat → Fr) : Out :=
  evPathM (envT G k F) (envT S k fun _ => 0) 60 16 [.int .i64 op, .slice (some ⟨G.g, G.off, none⟩) G.n G.cap] [.int .i64 op, .slice (some ⟨2001, 0, none⟩) S.n S.cap] [G.row] [S.row] (.tuple #[.agg (bs (oK F 128)), .int .i64 0]) β
--EVTS qb77Ts | fun (g0 off cap : Nat) (B : Nat → Nat → Int) (cs : List Value) (t : TypeId) (F : Nat → Int) (β : Nat → Fr) => (qbPath 64845 77 ⟨g0, off, 1, cap, B, cs, t⟩ (sG 1 fun _ _ => 0) F β, ([] : List (Bool × Bool)))
def qb77Ts : List Nat := [0, 0, 0, 0, 0, 0, 0, 0, 0, 0, 0, 0, 0]
set_option maxRecDepth 100000 in
theorem qb77 (g0 off cap : Nat) (B : Nat → Nat → Int) (cs : List Value) (t : TypeId) (hG : Gv.Ok ⟨g0, off, 1, cap, B, cs, t⟩) (w : World) (hS : SG w [Gv.row ⟨g0, off, 1, cap, B, cs, t⟩] w) : Calls Try.prog 16 #[.int .i64 64845, .slice (some ⟨g0, off, none⟩) 1 cap] w fun e w' => e = .returned (.tuple #[.agg (bs (fB 77 B)), .int .i64 0]) ∧ Gr w w' := by
  rw [← oK_end _ (fB_byt 77 B)]
  exact ev_pathM (E := envT ⟨g0, off, 1, cap, B, cs, t⟩ 77 (fB 77 B)) (E' := envT (sG 1 fun _ _ => 0) 77 fun _ => 0) rfl (none_ok _ rfl) (fuel := 60) (args' := [.int .i64 64845, .slice (some ⟨2001, 0, none⟩) 1 1]) (M' := [Gv.row (sG 1 fun _ _ => 0)]) [] qb77Ts (fun p hp => by cases hp) (fun β => by kernel_rfl) w hS (l_holes ⟨g0, off, 1, cap, B, cs, t⟩ 77 (fB 77 B) (fun n hn => bbr77 g0 off cap B cs t hG n hn))
--EVTS qb78Ts | fun (g0 off cap : Nat) (B : Nat → Nat → Int) (cs : List Value) (t : TypeId) (F : Nat → Int) (β : Nat → Fr) => (qbPath 64846 78 ⟨g0, off, 2, cap, B, cs, t⟩ (sG 2 fun _ _ => 0) F β, ([] : List (Bool × Bool)))
def qb78Ts : List Nat := [0, 0, 0, 0, 0, 0, 0, 0, 0, 0, 0, 0, 0]
set_option maxRecDepth 100000 in
theorem qb78 (g0 off cap : Nat) (B : Nat → Nat → Int) (cs : List Value) (t : TypeId) (hG : Gv.Ok ⟨g0, off, 2, cap, B, cs, t⟩) (w : World) (hS : SG w [Gv.row ⟨g0, off, 2, cap, B, cs, t⟩] w) : Calls Try.prog 16 #[.int .i64 64846, .slice (some ⟨g0, off, none⟩) 2 cap] w fun e w' => e = .returned (.tuple #[.agg (bs (fB 78 B)), .int .i64 0]) ∧ Gr w w' := by
  rw [← oK_end _ (fB_byt 78 B)]
  exact ev_pathM (E := envT ⟨g0, off, 2, cap, B, cs, t⟩ 78 (fB 78 B)) (E' := envT (sG 2 fun _ _ => 0) 78 fun _ => 0) rfl (none_ok _ rfl) (fuel := 60) (args' := [.int .i64 64846, .slice (some ⟨2001, 0, none⟩) 2 2]) (M' := [Gv.row (sG 2 fun _ _ => 0)]) [] qb78Ts (fun p hp => by cases hp) (fun β => by kernel_rfl) w hS (l_holes ⟨g0, off, 2, cap, B, cs, t⟩ 78 (fB 78 B) (fun n hn => bbr78 g0 off cap B cs t hG n hn))
--EVTS qb79Ts | fun (g0 off cap : Nat) (B : Nat → Nat → Int) (cs : List Value) (t : TypeId) (F : Nat → Int) (β : Nat → Fr) => (qbPath 64847 79 ⟨g0, off, 2, cap, B, cs, t⟩ (sG 2 fun _ _ => 0) F β, ([] : List (Bool × Bool)))
def qb79Ts : List Nat := [0, 0, 0, 0, 0, 0, 0, 0, 0, 0, 0, 0, 0]
set_option maxRecDepth 100000 in
theorem qb79 (g0 off cap : Nat) (B : Nat → Nat → Int) (cs : List Value) (t : TypeId) (hG : Gv.Ok ⟨g0, off, 2, cap, B, cs, t⟩) (w : World) (hS : SG w [Gv.row ⟨g0, off, 2, cap, B, cs, t⟩] w) : Calls Try.prog 16 #[.int .i64 64847, .slice (some ⟨g0, off, none⟩) 2 cap] w fun e w' => e = .returned (.tuple #[.agg (bs (fB 79 B)), .int .i64 0]) ∧ Gr w w' := by
  rw [← oK_end _ (fB_byt 79 B)]
  exact ev_pathM (E := envT ⟨g0, off, 2, cap, B, cs, t⟩ 79 (fB 79 B)) (E' := envT (sG 2 fun _ _ => 0) 79 fun _ => 0) rfl (none_ok _ rfl) (fuel := 60) (args' := [.int .i64 64847, .slice (some ⟨2001, 0, none⟩) 2 2]) (M' := [Gv.row (sG 2 fun _ _ => 0)]) [] qb79Ts (fun p hp => by cases hp) (fun β => by kernel_rfl) w hS (l_holes ⟨g0, off, 2, cap, B, cs, t⟩ 79 (fB 79 B) (fun n hn => bbr79 g0 off cap B cs t hG n hn))
--EVTS qb80Ts | fun (g0 off cap : Nat) (B : Nat → Nat → Int) (cs : List Value) (t : TypeId) (F : Nat → Int) (β : Nat → Fr) => (qbPath 64848 80 ⟨g0, off, 2, cap, B, cs, t⟩ (sG 2 fun _ _ => 0) F β, ([] : List (Bool × Bool)))
def qb80Ts : List Nat := [0, 0, 0, 0, 0, 0, 0, 0, 0, 0, 0, 0, 0]
set_option maxRecDepth 100000 in
theorem qb80 (g0 off cap : Nat) (B : Nat → Nat → Int) (cs : List Value) (t : TypeId) (hG : Gv.Ok ⟨g0, off, 2, cap, B, cs, t⟩) (w : World) (hS : SG w [Gv.row ⟨g0, off, 2, cap, B, cs, t⟩] w) : Calls Try.prog 16 #[.int .i64 64848, .slice (some ⟨g0, off, none⟩) 2 cap] w fun e w' => e = .returned (.tuple #[.agg (bs (fB 80 B)), .int .i64 0]) ∧ Gr w w' := by
  rw [← oK_end _ (fB_byt 80 B)]
  exact ev_pathM (E := envT ⟨g0, off, 2, cap, B, cs, t⟩ 80 (fB 80 B)) (E' := envT (sG 2 fun _ _ => 0) 80 fun _ => 0) rfl (none_ok _ rfl) (fuel := 60) (args' := [.int .i64 64848, .slice (some ⟨2001, 0, none⟩) 2 2]) (M' := [Gv.row (sG 2 fun _ _ => 0)]) [] qb80Ts (fun p hp => by cases hp) (fun β => by kernel_rfl) w hS (l_holes ⟨g0, off, 2, cap, B, cs, t⟩ 80 (fB 80 B) (fun n hn => bbr80 g0 off cap B cs t hG n hn))
--EVTS qb81Ts | fun (g0 off cap : Nat) (B : Nat → Nat → Int) (cs : List Value) (t : TypeId) (F : Nat → Int) (β : Nat → Fr) => (qbPath 64849 81 ⟨g0, off, 2, cap, B, cs, t⟩ (sG 2 fun _ _ => 0) F β, ([] : List (Bool × Bool)))
def qb81Ts : List Nat := [0, 0, 0, 0, 0, 0, 0, 0, 0, 0, 0, 0, 0]
set_option maxRecDepth 100000 in
theorem qb81 (g0 off cap : Nat) (B : Nat → Nat → Int) (cs : List Value) (t : TypeId) (hG : Gv.Ok ⟨g0, off, 2, cap, B, cs, t⟩) (w : World) (hS : SG w [Gv.row ⟨g0, off, 2, cap, B, cs, t⟩] w) : Calls Try.prog 16 #[.int .i64 64849, .slice (some ⟨g0, off, none⟩) 2 cap] w fun e w' => e = .returned (.tuple #[.agg (bs (fB 81 B)), .int .i64 0]) ∧ Gr w w' := by
  rw [← oK_end _ (fB_byt 81 B)]
  exact ev_pathM (E := envT ⟨g0, off, 2, cap, B, cs, t⟩ 81 (fB 81 B)) (E' := envT (sG 2 fun _ _ => 0) 81 fun _ => 0) rfl (none_ok _ rfl) (fuel := 60) (args' := [.int .i64 64849, .slice (some ⟨2001, 0, none⟩) 2 2]) (M' := [Gv.row (sG 2 fun _ _ => 0)]) [] qb81Ts (fun p hp => by cases hp) (fun β => by kernel_rfl) w hS (l_holes ⟨g0, off, 2, cap, B, cs, t⟩ 81 (fB 81 B) (fun n hn => bbr81 g0 off cap B cs t hG n hn))
--EVTS qb82Ts | fun (g0 off cap : Nat) (B : Nat → Nat → Int) (cs : List Value) (t : TypeId) (F : Nat → Int) (β : Nat → Fr) => (qbPath 64850 82 ⟨g0, off, 3, cap, B, cs, t⟩ (sG 3 fun _ _ => 0) F β, ([] : List (Bool × Bool)))
def qb82Ts : List Nat := [0, 0, 0, 0, 0, 0, 0, 0, 0, 0, 0, 0, 0]
set_option maxRecDepth 100000 in
theorem qb82 (g0 off cap : Nat) (B : Nat → Nat → Int) (cs : List Value) (t : TypeId) (hG : Gv.Ok ⟨g0, off, 3, cap, B, cs, t⟩) (w : World) (hS : SG w [Gv.row ⟨g0, off, 3, cap, B, cs, t⟩] w) : Calls Try.prog 16 #[.int .i64 64850, .slice (some ⟨g0, off, none⟩) 3 cap] w fun e w' => e = .returned (.tuple #[.agg (bs (fB 82 B)), .int .i64 0]) ∧ Gr w w' := by
  rw [← oK_end _ (fB_byt 82 B)]
  exact ev_pathM (E := envT ⟨g0, off, 3, cap, B, cs, t⟩ 82 (fB 82 B)) (E' := envT (sG 3 fun _ _ => 0) 82 fun _ => 0) rfl (none_ok _ rfl) (fuel := 60) (args' := [.int .i64 64850, .slice (some ⟨2001, 0, none⟩) 3 3]) (M' := [Gv.row (sG 3 fun _ _ => 0)]) [] qb82Ts (fun p hp => by cases hp) (fun β => by kernel_rfl) w hS (l_holes ⟨g0, off, 3, cap, B, cs, t⟩ 82 (fB 82 B) (fun n hn => bbr82 g0 off cap B cs t hG n hn))
/-! ### refused -/
noncomputable def env0 : Env := { P := Try.prog, known := [], sum := fun _ _ => none }
noncomputable def nqPath (op t : Int) (x : Option Addr) (n c n' : Nat) (β : Nat → Fr) : Out :=
  evPath env0 env0 40 16 [.int .i64 op, .slice x n c] [.int .i64 t, .slice none n' n'] (.tuple #[.agg (bs fun _ => 0), .int .i64 1]) β
--EVTS nq77Ts | fun (x : Option Addr) (n c : Nat) (β : Nat → Fr) => (nqPath 64845 64845 x n c 0 β, [((n : Int) != 1, true)])
def nq77Ts : List Nat := [1, 0, 0, 0, 0, 0, 0, 0, 0, 0, 0, 0]
set_option maxRecDepth 100000 in
theorem nq77 (x : Option Addr) (n c : Nat) (h : n ≠ 1) (w : World) : Calls Try.prog 16 #[.int .i64 64845, .slice x n c] w fun e w' => e = .returned (.tuple #[.agg (bs fun _ => 0), .int .i64 1]) ∧ Gr w w' :=
  ev_path (E := env0) (E' := env0) rfl (none_ok _ rfl) (fuel := 40) (args' := [.int .i64 64845, .slice none 0 0]) [((n : Int) != 1, true)] nq77Ts (fun p hp => by rw [List.mem_singleton.1 hp]; simp; omega) (fun β => by kernel_rfl) w
--EVTS nq78Ts | fun (x : Option Addr) (n c : Nat) (β : Nat → Fr) => (nqPath 64846 64846 x n c 0 β, [((n : Int) != 2, true)])
def nq78Ts : List Nat := [1, 0, 0, 0, 0, 0, 0, 0, 0, 0, 0, 0]
set_option maxRecDepth 100000 in
theorem nq78 (x : Option Addr) (n c : Nat) (h : n ≠ 2) (w : World) : Calls Try.prog 16 #[.int .i64 64846, .slice x n c] w fun e w' => e = .returned (.tuple #[.agg (bs fun _ => 0), .int .i64 1]) ∧ Gr w w' :=
  ev_path (E := env0) (E' := env0) rfl (none_ok _ rfl) (fuel := 40) (args' := [.int .i64 64846, .slice none 0 0]) [((n : Int) != 2, true)] nq78Ts (fun p hp => by rw [List.mem_singleton.1 hp]; simp; omega) (fun β => by kernel_rfl) w
--EVTS nq79Ts | fun (x : Option Addr) (n c : Nat) (β : Nat → Fr) => (nqPath 64847 64847 x n c 0 β, [((n : Int) != 2, true)])
def nq79Ts : List Nat := [1, 0, 0, 0, 0, 0, 0, 0, 0, 0, 0, 0]
set_option maxRecDepth 100000 in
theorem nq79 (x : Option Addr) (n c : Nat) (h : n ≠ 2) (w : World) : Calls Try.prog 16 #[.int .i64 64847, .slice x n c] w fun e w' => e = .returned (.tuple #[.agg (bs fun _ => 0), .int .i64 1]) ∧ Gr w w' :=
  ev_path (E := env0) (E' := env0) rfl (none_ok _ rfl) (fuel := 40) (args' := [.int .i64 64847, .slice none 0 0]) [((n : Int) != 2, true)] nq79Ts (fun p hp => by rw [List.mem_singleton.1 hp]; simp; omega) (fun β => by kernel_rfl) w
--EVTS nq80Ts | fun (x : Option Addr) (n c : Nat) (β : Nat → Fr) => (nqPath 64848 64848 x n c 0 β, [((n : Int) != 2, true)])
def nq80Ts : List Nat := [1, 0, 0, 0, 0, 0, 0, 0, 0, 0, 0, 0]
set_option maxRecDepth 100000 in
theorem nq80 (x : Option Addr) (n c : Nat) (h : n ≠ 2) (w : World) : Calls Try.prog 16 #[.int .i64 64848, .slice x n c] w fun e w' => e = .returned (.tuple #[.agg (bs fun _ => 0), .int .i64 1]) ∧ Gr w w' :=
  ev_path (E := env0) (E' := env0) rfl (none_ok _ rfl) (fuel := 40) (args' := [.int .i64 64848, .slice none 0 0]) [((n : Int) != 2, true)] nq80Ts (fun p hp => by rw [List.mem_singleton.1 hp]; simp; omega) (fun β => by kernel_rfl) w
--EVTS nq81Ts | fun (x : Option Addr) (n c : Nat) (β : Nat → Fr) => (nqPath 64849 64849 x n c 0 β, [((n : Int) != 2, true)])
def nq81Ts : List Nat := [1, 0, 0, 0, 0, 0, 0, 0, 0, 0, 0, 0]
set_option maxRecDepth 100000 in
theorem nq81 (x : Option Addr) (n c : Nat) (h : n ≠ 2) (w : World) : Calls Try.prog 16 #[.int .i64 64849, .slice x n c] w fun e w' => e = .returned (.tuple #[.agg (bs fun _ => 0), .int .i64 1]) ∧ Gr w w' :=
  ev_path (E := env0) (E' := env0) rfl (none_ok _ rfl) (fuel := 40) (args' := [.int .i64 64849, .slice none 0 0]) [((n : Int) != 2, true)] nq81Ts (fun p hp => by rw [List.mem_singleton.1 hp]; simp; omega) (fun β => by kernel_rfl) w
--EVTS nq82Ts | fun (x : Option Addr) (n c : Nat) (β : Nat → Fr) => (nqPath 64850 64850 x n c 0 β, [((n : Int) != 3, true)])
def nq82Ts : List Nat := [1, 0, 0, 0, 0, 0, 0, 0, 0, 0, 0, 0]
set_option maxRecDepth 100000 in
theorem nq82 (x : Option Addr) (n c : Nat) (h : n ≠ 3) (w : World) : Calls Try.prog 16 #[.int .i64 64850, .slice x n c] w fun e w' => e = .returned (.tuple #[.agg (bs fun _ => 0), .int .i64 1]) ∧ Gr w w' :=
  ev_path (E := env0) (E' := env0) rfl (none_ok _ rfl) (fuel := 40) (args' := [.int .i64 64850, .slice none 0 0]) [((n : Int) != 3, true)] nq82Ts (fun p hp => by rw [List.mem_singleton.1 hp]; simp; omega) (fun β => by kernel_rfl) w
--EVTS nqLTs | fun (op : Int) (x : Option Addr) (n c : Nat) (β : Nat → Fr) => (nqPath op 64768 x n c 0 β, [(IntKind.i64.wrap (op - 64768) == 77, false), (decide (IntKind.i64.wrap (op - 64768) ≥ 78), false), (decide (IntKind.i64.wrap (op - 64768) ≤ 81), true), (IntKind.i64.wrap (op - 64768) == 82, false)])
def nqLTs : List Nat := [0, 0, 0, 0, 0, 0, 4, 0, 2, 2, 2, 1]
set_option maxRecDepth 100000 in
theorem nqL (op k : Int) (hk : IntKind.i64.wrap (op - 64768) = k) (h : k < 77) (x : Option Addr) (n c : Nat) (w : World) : Calls Try.prog 16 #[.int .i64 op, .slice x n c] w fun e w' => e = .returned (.tuple #[.agg (bs fun _ => 0), .int .i64 1]) ∧ Gr w w' :=
  ev_path (E := env0) (E' := env0) rfl (none_ok _ rfl) (fuel := 40) (args' := [.int .i64 64768, .slice none 0 0]) [(IntKind.i64.wrap (op - 64768) == 77, false), (decide (IntKind.i64.wrap (op - 64768) ≥ 78), false), (decide (IntKind.i64.wrap (op - 64768) ≤ 81), true), (IntKind.i64.wrap (op - 64768) == 82, false)] nqLTs (fun p hp => by
    rw [hk] at hp
    simp only [List.mem_cons, List.not_mem_nil, or_false] at hp
    rcases hp with rfl | rfl | rfl | rfl <;> simp <;> omega) (fun β => by kernel_rfl) w
--EVTS nqHTs | fun (op : Int) (x : Option Addr) (n c : Nat) (β : Nat → Fr) => (nqPath op 64968 x n c 0 β, [(IntKind.i64.wrap (op - 64768) == 77, false), (decide (IntKind.i64.wrap (op - 64768) ≥ 78), true), (decide (IntKind.i64.wrap (op - 64768) ≤ 81), false), (IntKind.i64.wrap (op - 64768) == 82, false)])
def nqHTs : List Nat := [0, 0, 0, 0, 0, 0, 4, 3, 2, 2, 2, 1]
set_option maxRecDepth 100000 in
theorem nqH (op k : Int) (hk : IntKind.i64.wrap (op - 64768) = k) (h : 82 < k) (x : Option Addr) (n c : Nat) (w : World) : Calls Try.prog 16 #[.int .i64 op, .slice x n c] w fun e w' => e = .returned (.tuple #[.agg (bs fun _ => 0), .int .i64 1]) ∧ Gr w w' :=
  ev_path (E := env0) (E' := env0) rfl (none_ok _ rfl) (fuel := 40) (args' := [.int .i64 64968, .slice none 0 0]) [(IntKind.i64.wrap (op - 64768) == 77, false), (decide (IntKind.i64.wrap (op - 64768) ≥ 78), true), (decide (IntKind.i64.wrap (op - 64768) ≤ 81), false), (IntKind.i64.wrap (op - 64768) == 82, false)] nqHTs (fun p hp => by
    rw [hk] at hp
    simp only [List.mem_cons, List.not_mem_nil, or_false] at hp
    rcases hp with rfl | rfl | rfl | rfl <;> simp <;> omega) (fun β => by kernel_rfl) w
def nI (op : Int) : Int := if op = 64845 then 1 else if op = 64846 ∨ op = 64847 ∨ op = 64848 ∨ op = 64849 then 2 else if op = 64850 then 3 else 0
set_option maxRecDepth 100000 in
theorem rbits_no (op : Int) (ho : -9223372036854775808 ≤ op ∧ op ≤ 9223372036854775807) (x : Option Addr) (n c : Nat) (h : nI op = 0 ∨ nI op ≠ n) (w : World) : Calls Try.prog 16 #[.int .i64 op, .slice x n c] w fun e w' => e = .returned (.tuple #[.agg (bs fun _ => 0), .int .i64 1]) ∧ Gr w w' := by
  by_cases hv : op = 64845 ∨ op = 64846 ∨ op = 64847 ∨ op = 64848 ∨ op = 64849 ∨ op = 64850
  · rcases hv with rfl | rfl | rfl | rfl | rfl | rfl
    · rw [show nI 64845 = 1 by decide] at h; exact nq77 x n c (by omega) w
    · rw [show nI 64846 = 2 by decide] at h; exact nq78 x n c (by omega) w
    · rw [show nI 64847 = 2 by decide] at h; exact nq79 x n c (by omega) w
    · rw [show nI 64848 = 2 by decide] at h; exact nq80 x n c (by omega) w
    · rw [show nI 64849 = 2 by decide] at h; exact nq81 x n c (by omega) w
    · rw [show nI 64850 = 3 by decide] at h; exact nq82 x n c (by omega) w
  · obtain ⟨k, hk⟩ : ∃ k, IntKind.i64.wrap (op - 64768) = k := ⟨_, rfl⟩
    have hk2 : k = op - 64768 ∨ k ≥ 1000000 := by
      by_cases hq : -9223372036854711040 ≤ op
      · left; rw [← hk]; exact IntWalk.i64_in _ (by omega)
      · right; rw [← hk]; unfold IntKind.wrap; simp [IntKind.signed, IntKind.bits]; omega
    have hc : k < 77 ∨ 82 < k := by omega
    rcases hc with hc | hc
    · exact nqL op k hk hc x n c w
    · exact nqH op k hk hc x n c w
end Cp
end Go.Proofs.Ytdclbagfnabmkaa
