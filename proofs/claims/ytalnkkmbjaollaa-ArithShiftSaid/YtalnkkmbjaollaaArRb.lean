/-
  The reference's Bin of layer 5, for all opcodes and vectors. Conditions: bytes, 64 bits.
-/
import Derived.Test.YtalnkkmbjaollaaArRu
import Derived.Test.YtalnkkmbjaollaaArLM
namespace Go.Proofs.Ytalnkkmbjaollaa
open Go.RowKit VecM Ev
namespace Ar
noncomputable def bBlk : Code := blkIn 31 1
def bHav : List Nat := [12, 13, 14, 15, 16] ++ (List.range 140).map (· + 31)
def bNeed (w k : Int) (ba bb bo : Nat) (i : Int) : List (Nat × Value) := [(4, pt ba), (5, pt bb), (8, .int .i64 w), (9, .int .i64 k), (10, pt bo), (11, .int .i64 i)]
def rbX (k w X Y S R : Int) : Int :=
  if k = 14 then IntKind.u64.wrap (X + Y) else if k = 17 then IntKind.u64.wrap (X - Y) else if k = 21 then IntKind.u64.wrap (X * Y)
  else if k = 22 then (if R < S then Y else X) else if k = 24 then (if R > S then Y else X) else if k = 23 then (if Y < X then Y else X) else if k = 25 then (if Y > X then Y else X)
  else if k = 27 then IntKind.u64.wrap (Int.tdiv (IntKind.u64.wrap (IntKind.u64.wrap (X + Y) + 1)) 2)
  else if k = 15 then IntKind.u64.wrap (holdI (IntKind.i64.wrap (S + R)) (if w = 8 then -128 else -32768) (if w = 8 then 127 else 32767))
  else if k = 18 then IntKind.u64.wrap (holdI (IntKind.i64.wrap (S - R)) (if w = 8 then -128 else -32768) (if w = 8 then 127 else 32767))
  else if k = 16 then IntKind.u64.wrap (holdI (IntKind.i64.wrap (IntKind.u64.wrap (X + Y))) 0 (if w = 8 then 255 else 65535))
  else IntKind.u64.wrap (holdI (IntKind.i64.wrap (IntKind.i64.wrap X - IntKind.i64.wrap Y)) 0 (if w = 8 then 255 else 65535))
def rbF (k w : Int) (a b : Nat → Int) (j : Nat) : Int := rbX k w (getI a w j) (getI b w j) (sgnI a w j) (sgnI b w j)
noncomputable def bPath (w k : Int) (r6 : Rw) (ba bb bo : Nat) (a b a' b' : Nat → Int) (n : Nat) (x : Int) (g : Nat → Value) (β : Nat → Fr) : Out :=
  evCode (envR [a, b, ofK zV w (rbF k w a b) n]) (envR [a', b', zV]) 60 bBlk (valsOf (bNeed w k ba bb bo n) g 171) (valsOf (bNeed w k 1001 1004 1002 0) (fun _ => undef) 171)
    [vrow bo (ofK zV w (rbF k w a b) n), r6, vrow bb b, vrow ba a] [vrow 1002 zV, vrow 1003 zV, vrow 1004 b', vrow 1001 a'] .normal ([] ++ keepOf (bNeed w k ba bb bo n) g 171 bHav) [vrow bo (setI (ofK zV w (rbF k w a b) n) w n x), r6, vrow bb b, vrow ba a] β
def bD (p : Bool) (c : Bool) (x : Int) : List (Bool × Bool) := [(p, c), (decide (0 ≤ x), true), (decide (x < 18446744073709551616), true)]
theorem bD_ok {p c : Bool} {x : Int} (h : p = c) (h0 : 0 ≤ x) (h1 : x < 18446744073709551616) : ∀ q ∈ bD p c x, q.1 = q.2 := by
  intro q hp
  simp only [bD, List.mem_cons, List.not_mem_nil, or_false] at hp
  rcases hp with rfl | rfl | rfl
  · exact h
  · exact decide_eq_true h0
  · exact decide_eq_true h1
def BRound (w k : Int) (a b : Nat → Int) (n : Nat) : Prop := ∀ (r6 : Rw) (ba bb bo : Nat), Runs bBlk 171 (bNeed w k ba bb bo n) [vrow bo (ofK zV w (rbF k w a b) n), r6, vrow bb b, vrow ba a] .normal [] bHav [vrow bo (ofK zV w (rbF k w a b) (n + 1)), r6, vrow bb b, vrow ba a]
--EVTS b8_14Ts | fun (r6 : Rw) (ba bb bo : Nat) (a b : Nat → Int) (n : Nat) (g : Nat → Value) (β : Nat → Fr) => (bPath 8 14 r6 ba bb bo a b (smp [133, 24, 19, 6, 71, 19, 2, 14, 213, 8, 27, 16, 95, 12, 231, 15]) (smp [33, 24, 129, 6, 71, 19, 2, 14, 213, 8, 27, 16, 95, 12, 231, 25]) n (IntKind.u64.wrap (getI a 8 n + getI b 8 n)) g β, bD (true) true (IntKind.u64.wrap (getI a 8 n + getI b 8 n)))
def b8_14Ts : List Nat := [3, 2, 0]
theorem b8_14 (a b : Nat → Int) (ha : Byt a) (hb : Byt b) (n : Nat) (h : True) : BRound 8 14 a b n := by
  intro r6 ba bb bo
  have e : setI (ofK zV 8 (rbF 14 8 a b) n) 8 n (IntKind.u64.wrap (getI a 8 n + getI b 8 n)) = ofK zV 8 (rbF 14 8 a b) (n + 1) := by
    rw [ofK]
    congr 1
  rw [← e]
  exact runs_code (E := envR [a, b, ofK zV 8 (rbF 14 8 a b) n]) (E' := envR [smp [133, 24, 19, 6, 71, 19, 2, 14, 213, 8, 27, 16, 95, 12, 231, 15], smp [33, 24, 129, 6, 71, 19, 2, 14, 213, 8, 27, 16, 95, 12, 231, 25], zV]) rfl (sumR_ok _ (byt_three ha hb (ofK_byt byt_zero _ _ _))) (fuel := 60) (need' := bNeed 8 14 1001 1004 1002 0) (M' := [vrow 1002 zV, vrow 1003 zV, vrow 1004 (smp [33, 24, 129, 6, 71, 19, 2, 14, 213, 8, 27, 16, 95, 12, 231, 25]), vrow 1001 (smp [133, 24, 19, 6, 71, 19, 2, 14, 213, 8, 27, 16, 95, 12, 231, 15])]) rfl (bD (true) true (IntKind.u64.wrap (getI a 8 n + getI b 8 n))) b8_14Ts (bD_ok rfl (u64_bd _).1 (u64_bd _).2) (fun g β => by kernel_rfl)
--EVTS b8_15Ts | fun (r6 : Rw) (ba bb bo : Nat) (a b : Nat → Int) (n : Nat) (g : Nat → Value) (β : Nat → Fr) => (bPath 8 15 r6 ba bb bo a b (smp [133, 24, 19, 6, 71, 19, 2, 14, 213, 8, 27, 16, 95, 12, 231, 15]) (smp [33, 24, 129, 6, 71, 19, 2, 14, 213, 8, 27, 16, 95, 12, 231, 25]) n (IntKind.u64.wrap (holdI (IntKind.i64.wrap (sgnI a 8 n + sgnI b 8 n)) (-128) 127)) g β, bD (true) true (IntKind.u64.wrap (holdI (IntKind.i64.wrap (sgnI a 8 n + sgnI b 8 n)) (-128) 127)))
def b8_15Ts : List Nat := [3, 2, 0, 0]
theorem b8_15 (a b : Nat → Int) (ha : Byt a) (hb : Byt b) (n : Nat) (h : True) : BRound 8 15 a b n := by
  intro r6 ba bb bo
  have e : setI (ofK zV 8 (rbF 15 8 a b) n) 8 n (IntKind.u64.wrap (holdI (IntKind.i64.wrap (sgnI a 8 n + sgnI b 8 n)) (-128) 127)) = ofK zV 8 (rbF 15 8 a b) (n + 1) := by
    rw [ofK]
    congr 1
  rw [← e]
  exact runs_code (E := envR [a, b, ofK zV 8 (rbF 15 8 a b) n]) (E' := envR [smp [133, 24, 19, 6, 71, 19, 2, 14, 213, 8, 27, 16, 95, 12, 231, 15], smp [33, 24, 129, 6, 71, 19, 2, 14, 213, 8, 27, 16, 95, 12, 231, 25], zV]) rfl (sumR_ok _ (byt_three ha hb (ofK_byt byt_zero _ _ _))) (fuel := 60) (need' := bNeed 8 15 1001 1004 1002 0) (M' := [vrow 1002 zV, vrow 1003 zV, vrow 1004 (smp [33, 24, 129, 6, 71, 19, 2, 14, 213, 8, 27, 16, 95, 12, 231, 25]), vrow 1001 (smp [133, 24, 19, 6, 71, 19, 2, 14, 213, 8, 27, 16, 95, 12, 231, 15])]) rfl (bD (true) true (IntKind.u64.wrap (holdI (IntKind.i64.wrap (sgnI a 8 n + sgnI b 8 n)) (-128) 127))) b8_15Ts (bD_ok rfl (u64_bd _).1 (u64_bd _).2) (fun g β => by kernel_rfl)
--EVTS b8_16Ts | fun (r6 : Rw) (ba bb bo : Nat) (a b : Nat → Int) (n : Nat) (g : Nat → Value) (β : Nat → Fr) => (bPath 8 16 r6 ba bb bo a b (smp [133, 24, 19, 6, 71, 19, 2, 14, 213, 8, 27, 16, 95, 12, 231, 15]) (smp [33, 24, 129, 6, 71, 19, 2, 14, 213, 8, 27, 16, 95, 12, 231, 25]) n (IntKind.u64.wrap (holdI (IntKind.i64.wrap (IntKind.u64.wrap (getI a 8 n + getI b 8 n))) 0 255)) g β, bD (true) true (IntKind.u64.wrap (holdI (IntKind.i64.wrap (IntKind.u64.wrap (getI a 8 n + getI b 8 n))) 0 255)))
def b8_16Ts : List Nat := [3, 2, 0, 0, 0]
theorem b8_16 (a b : Nat → Int) (ha : Byt a) (hb : Byt b) (n : Nat) (h : True) : BRound 8 16 a b n := by
  intro r6 ba bb bo
  have e : setI (ofK zV 8 (rbF 16 8 a b) n) 8 n (IntKind.u64.wrap (holdI (IntKind.i64.wrap (IntKind.u64.wrap (getI a 8 n + getI b 8 n))) 0 255)) = ofK zV 8 (rbF 16 8 a b) (n + 1) := by
    rw [ofK]
    congr 1
  rw [← e]
  exact runs_code (E := envR [a, b, ofK zV 8 (rbF 16 8 a b) n]) (E' := envR [smp [133, 24, 19, 6, 71, 19, 2, 14, 213, 8, 27, 16, 95, 12, 231, 15], smp [33, 24, 129, 6, 71, 19, 2, 14, 213, 8, 27, 16, 95, 12, 231, 25], zV]) rfl (sumR_ok _ (byt_three ha hb (ofK_byt byt_zero _ _ _))) (fuel := 60) (need' := bNeed 8 16 1001 1004 1002 0) (M' := [vrow 1002 zV, vrow 1003 zV, vrow 1004 (smp [33, 24, 129, 6, 71, 19, 2, 14, 213, 8, 27, 16, 95, 12, 231, 25]), vrow 1001 (smp [133, 24, 19, 6, 71, 19, 2, 14, 213, 8, 27, 16, 95, 12, 231, 15])]) rfl (bD (true) true (IntKind.u64.wrap (holdI (IntKind.i64.wrap (IntKind.u64.wrap (getI a 8 n + getI b 8 n))) 0 255))) b8_16Ts (bD_ok rfl (u64_bd _).1 (u64_bd _).2) (fun g β => by kernel_rfl)
--EVTS b8_17Ts | fun (r6 : Rw) (ba bb bo : Nat) (a b : Nat → Int) (n : Nat) (g : Nat → Value) (β : Nat → Fr) => (bPath 8 17 r6 ba bb bo a b (smp [133, 24, 19, 6, 71, 19, 2, 14, 213, 8, 27, 16, 95, 12, 231, 15]) (smp [33, 24, 129, 6, 71, 19, 2, 14, 213, 8, 27, 16, 95, 12, 231, 25]) n (IntKind.u64.wrap (getI a 8 n - getI b 8 n)) g β, bD (true) true (IntKind.u64.wrap (getI a 8 n - getI b 8 n)))
def b8_17Ts : List Nat := [3, 2, 0, 0, 0, 0]
theorem b8_17 (a b : Nat → Int) (ha : Byt a) (hb : Byt b) (n : Nat) (h : True) : BRound 8 17 a b n := by
  intro r6 ba bb bo
  have e : setI (ofK zV 8 (rbF 17 8 a b) n) 8 n (IntKind.u64.wrap (getI a 8 n - getI b 8 n)) = ofK zV 8 (rbF 17 8 a b) (n + 1) := by
    rw [ofK]
    congr 1
  rw [← e]
  exact runs_code (E := envR [a, b, ofK zV 8 (rbF 17 8 a b) n]) (E' := envR [smp [133, 24, 19, 6, 71, 19, 2, 14, 213, 8, 27, 16, 95, 12, 231, 15], smp [33, 24, 129, 6, 71, 19, 2, 14, 213, 8, 27, 16, 95, 12, 231, 25], zV]) rfl (sumR_ok _ (byt_three ha hb (ofK_byt byt_zero _ _ _))) (fuel := 60) (need' := bNeed 8 17 1001 1004 1002 0) (M' := [vrow 1002 zV, vrow 1003 zV, vrow 1004 (smp [33, 24, 129, 6, 71, 19, 2, 14, 213, 8, 27, 16, 95, 12, 231, 25]), vrow 1001 (smp [133, 24, 19, 6, 71, 19, 2, 14, 213, 8, 27, 16, 95, 12, 231, 15])]) rfl (bD (true) true (IntKind.u64.wrap (getI a 8 n - getI b 8 n))) b8_17Ts (bD_ok rfl (u64_bd _).1 (u64_bd _).2) (fun g β => by kernel_rfl)
--EVTS b8_18Ts | fun (r6 : Rw) (ba bb bo : Nat) (a b : Nat → Int) (n : Nat) (g : Nat → Value) (β : Nat → Fr) => (bPath 8 18 r6 ba bb bo a b (smp [133, 24, 19, 6, 71, 19, 2, 14, 213, 8, 27, 16, 95, 12, 231, 15]) (smp [33, 24, 129, 6, 71, 19, 2, 14, 213, 8, 27, 16, 95, 12, 231, 25]) n (IntKind.u64.wrap (holdI (IntKind.i64.wrap (sgnI a 8 n - sgnI b 8 n)) (-128) 127)) g β, bD (true) true (IntKind.u64.wrap (holdI (IntKind.i64.wrap (sgnI a 8 n - sgnI b 8 n)) (-128) 127)))
def b8_18Ts : List Nat := [3, 2, 0, 0, 0, 0, 0]
theorem b8_18 (a b : Nat → Int) (ha : Byt a) (hb : Byt b) (n : Nat) (h : True) : BRound 8 18 a b n := by
  intro r6 ba bb bo
  have e : setI (ofK zV 8 (rbF 18 8 a b) n) 8 n (IntKind.u64.wrap (holdI (IntKind.i64.wrap (sgnI a 8 n - sgnI b 8 n)) (-128) 127)) = ofK zV 8 (rbF 18 8 a b) (n + 1) := by
    rw [ofK]
    congr 1
  rw [← e]
  exact runs_code (E := envR [a, b, ofK zV 8 (rbF 18 8 a b) n]) (E' := envR [smp [133, 24, 19, 6, 71, 19, 2, 14, 213, 8, 27, 16, 95, 12, 231, 15], smp [33, 24, 129, 6, 71, 19, 2, 14, 213, 8, 27, 16, 95, 12, 231, 25], zV]) rfl (sumR_ok _ (byt_three ha hb (ofK_byt byt_zero _ _ _))) (fuel := 60) (need' := bNeed 8 18 1001 1004 1002 0) (M' := [vrow 1002 zV, vrow 1003 zV, vrow 1004 (smp [33, 24, 129, 6, 71, 19, 2, 14, 213, 8, 27, 16, 95, 12, 231, 25]), vrow 1001 (smp [133, 24, 19, 6, 71, 19, 2, 14, 213, 8, 27, 16, 95, 12, 231, 15])]) rfl (bD (true) true (IntKind.u64.wrap (holdI (IntKind.i64.wrap (sgnI a 8 n - sgnI b 8 n)) (-128) 127))) b8_18Ts (bD_ok rfl (u64_bd _).1 (u64_bd _).2) (fun g β => by kernel_rfl)
--EVTS b8_19Ts | fun (r6 : Rw) (ba bb bo : Nat) (a b : Nat → Int) (n : Nat) (g : Nat → Value) (β : Nat → Fr) => (bPath 8 19 r6 ba bb bo a b (smp [133, 24, 19, 6, 71, 19, 2, 14, 213, 8, 27, 16, 95, 12, 231, 15]) (smp [33, 24, 129, 6, 71, 19, 2, 14, 213, 8, 27, 16, 95, 12, 231, 25]) n (IntKind.u64.wrap (holdI (IntKind.i64.wrap (IntKind.i64.wrap (getI a 8 n) - IntKind.i64.wrap (getI b 8 n))) 0 255)) g β, bD (true) true (IntKind.u64.wrap (holdI (IntKind.i64.wrap (IntKind.i64.wrap (getI a 8 n) - IntKind.i64.wrap (getI b 8 n))) 0 255)))
def b8_19Ts : List Nat := [3, 2, 0, 0, 0, 0, 0, 0]
theorem b8_19 (a b : Nat → Int) (ha : Byt a) (hb : Byt b) (n : Nat) (h : True) : BRound 8 19 a b n := by
  intro r6 ba bb bo
  have e : setI (ofK zV 8 (rbF 19 8 a b) n) 8 n (IntKind.u64.wrap (holdI (IntKind.i64.wrap (IntKind.i64.wrap (getI a 8 n) - IntKind.i64.wrap (getI b 8 n))) 0 255)) = ofK zV 8 (rbF 19 8 a b) (n + 1) := by
    rw [ofK]
    congr 1
  rw [← e]
  exact runs_code (E := envR [a, b, ofK zV 8 (rbF 19 8 a b) n]) (E' := envR [smp [133, 24, 19, 6, 71, 19, 2, 14, 213, 8, 27, 16, 95, 12, 231, 15], smp [33, 24, 129, 6, 71, 19, 2, 14, 213, 8, 27, 16, 95, 12, 231, 25], zV]) rfl (sumR_ok _ (byt_three ha hb (ofK_byt byt_zero _ _ _))) (fuel := 60) (need' := bNeed 8 19 1001 1004 1002 0) (M' := [vrow 1002 zV, vrow 1003 zV, vrow 1004 (smp [33, 24, 129, 6, 71, 19, 2, 14, 213, 8, 27, 16, 95, 12, 231, 25]), vrow 1001 (smp [133, 24, 19, 6, 71, 19, 2, 14, 213, 8, 27, 16, 95, 12, 231, 15])]) rfl (bD (true) true (IntKind.u64.wrap (holdI (IntKind.i64.wrap (IntKind.i64.wrap (getI a 8 n) - IntKind.i64.wrap (getI b 8 n))) 0 255))) b8_19Ts (bD_ok rfl (u64_bd _).1 (u64_bd _).2) (fun g β => by kernel_rfl)
--EVTS b8_22yTs | fun (r6 : Rw) (ba bb bo : Nat) (a b : Nat → Int) (n : Nat) (g : Nat → Value) (β : Nat → Fr) => (bPath 8 22 r6 ba bb bo a b (smp [7, 7, 7, 7, 7, 7, 7, 7, 9, 1, 1, 1, 1, 1, 1, 1]) (smp [3, 1, 1, 1, 1, 1, 1, 1, 9, 1, 1, 1, 1, 1, 1, 1]) n (getI b 8 n) g β, bD (decide (sgnI b 8 n < sgnI a 8 n)) true (getI b 8 n))
def b8_22yTs : List Nat := [3, 2, 0, 1, 1, 1, 1, 1, 0, 0, 0, 0, 0, 0, 0, 0, 0, 0, 0, 0, 0]
theorem b8_22y (a b : Nat → Int) (ha : Byt a) (hb : Byt b) (n : Nat) (h : sgnI b 8 n < sgnI a 8 n) : BRound 8 22 a b n := by
  intro r6 ba bb bo
  have e : setI (ofK zV 8 (rbF 22 8 a b) n) 8 n (getI b 8 n) = ofK zV 8 (rbF 22 8 a b) (n + 1) := by
    rw [ofK]
    congr 1
    exact (if_pos h).symm
  rw [← e]
  exact runs_code (E := envR [a, b, ofK zV 8 (rbF 22 8 a b) n]) (E' := envR [smp [7, 7, 7, 7, 7, 7, 7, 7, 9, 1, 1, 1, 1, 1, 1, 1], smp [3, 1, 1, 1, 1, 1, 1, 1, 9, 1, 1, 1, 1, 1, 1, 1], zV]) rfl (sumR_ok _ (byt_three ha hb (ofK_byt byt_zero _ _ _))) (fuel := 60) (need' := bNeed 8 22 1001 1004 1002 0) (M' := [vrow 1002 zV, vrow 1003 zV, vrow 1004 (smp [3, 1, 1, 1, 1, 1, 1, 1, 9, 1, 1, 1, 1, 1, 1, 1]), vrow 1001 (smp [7, 7, 7, 7, 7, 7, 7, 7, 9, 1, 1, 1, 1, 1, 1, 1])]) rfl (bD (decide (sgnI b 8 n < sgnI a 8 n)) true (getI b 8 n)) b8_22yTs (bD_ok (decide_eq_true h) (g_bd hb (by omega) _).1 (g_bd hb (by omega) _).2) (fun g β => by kernel_rfl)
--EVTS b8_22nTs | fun (r6 : Rw) (ba bb bo : Nat) (a b : Nat → Int) (n : Nat) (g : Nat → Value) (β : Nat → Fr) => (bPath 8 22 r6 ba bb bo a b (smp [3, 1, 1, 1, 1, 1, 1, 1, 9, 1, 1, 1, 1, 1, 1, 1]) (smp [7, 7, 7, 7, 7, 7, 7, 7, 9, 1, 1, 1, 1, 1, 1, 1]) n (getI a 8 n) g β, bD (decide (sgnI b 8 n < sgnI a 8 n)) false (getI a 8 n))
def b8_22nTs : List Nat := [3, 2, 0, 1, 0, 1, 0, 0, 0, 1, 1, 1, 0, 0, 0, 0, 0, 0, 0, 0, 0, 0, 0, 0, 0]
theorem b8_22n (a b : Nat → Int) (ha : Byt a) (hb : Byt b) (n : Nat) (h : ¬ sgnI b 8 n < sgnI a 8 n) : BRound 8 22 a b n := by
  intro r6 ba bb bo
  have e : setI (ofK zV 8 (rbF 22 8 a b) n) 8 n (getI a 8 n) = ofK zV 8 (rbF 22 8 a b) (n + 1) := by
    rw [ofK]
    congr 1
    exact (if_neg h).symm
  rw [← e]
  exact runs_code (E := envR [a, b, ofK zV 8 (rbF 22 8 a b) n]) (E' := envR [smp [3, 1, 1, 1, 1, 1, 1, 1, 9, 1, 1, 1, 1, 1, 1, 1], smp [7, 7, 7, 7, 7, 7, 7, 7, 9, 1, 1, 1, 1, 1, 1, 1], zV]) rfl (sumR_ok _ (byt_three ha hb (ofK_byt byt_zero _ _ _))) (fuel := 60) (need' := bNeed 8 22 1001 1004 1002 0) (M' := [vrow 1002 zV, vrow 1003 zV, vrow 1004 (smp [7, 7, 7, 7, 7, 7, 7, 7, 9, 1, 1, 1, 1, 1, 1, 1]), vrow 1001 (smp [3, 1, 1, 1, 1, 1, 1, 1, 9, 1, 1, 1, 1, 1, 1, 1])]) rfl (bD (decide (sgnI b 8 n < sgnI a 8 n)) false (getI a 8 n)) b8_22nTs (bD_ok (decide_eq_false h) (g_bd ha (by omega) _).1 (g_bd ha (by omega) _).2) (fun g β => by kernel_rfl)
--EVTS b8_23yTs | fun (r6 : Rw) (ba bb bo : Nat) (a b : Nat → Int) (n : Nat) (g : Nat → Value) (β : Nat → Fr) => (bPath 8 23 r6 ba bb bo a b (smp [7, 7, 7, 7, 7, 7, 7, 7, 9, 1, 1, 1, 1, 1, 1, 1]) (smp [3, 1, 1, 1, 1, 1, 1, 1, 9, 1, 1, 1, 1, 1, 1, 1]) n (getI b 8 n) g β, bD (decide (getI b 8 n < getI a 8 n)) true (getI b 8 n))
def b8_23yTs : List Nat := [3, 2, 0, 1, 1, 1, 1, 1, 0, 0, 0, 0, 0, 0, 0, 0, 0, 0, 0, 0, 0, 0, 0]
theorem b8_23y (a b : Nat → Int) (ha : Byt a) (hb : Byt b) (n : Nat) (h : getI b 8 n < getI a 8 n) : BRound 8 23 a b n := by
  intro r6 ba bb bo
  have e : setI (ofK zV 8 (rbF 23 8 a b) n) 8 n (getI b 8 n) = ofK zV 8 (rbF 23 8 a b) (n + 1) := by
    rw [ofK]
    congr 1
    exact (if_pos h).symm
  rw [← e]
  exact runs_code (E := envR [a, b, ofK zV 8 (rbF 23 8 a b) n]) (E' := envR [smp [7, 7, 7, 7, 7, 7, 7, 7, 9, 1, 1, 1, 1, 1, 1, 1], smp [3, 1, 1, 1, 1, 1, 1, 1, 9, 1, 1, 1, 1, 1, 1, 1], zV]) rfl (sumR_ok _ (byt_three ha hb (ofK_byt byt_zero _ _ _))) (fuel := 60) (need' := bNeed 8 23 1001 1004 1002 0) (M' := [vrow 1002 zV, vrow 1003 zV, vrow 1004 (smp [3, 1, 1, 1, 1, 1, 1, 1, 9, 1, 1, 1, 1, 1, 1, 1]), vrow 1001 (smp [7, 7, 7, 7, 7, 7, 7, 7, 9, 1, 1, 1, 1, 1, 1, 1])]) rfl (bD (decide (getI b 8 n < getI a 8 n)) true (getI b 8 n)) b8_23yTs (bD_ok (decide_eq_true h) (g_bd hb (by omega) _).1 (g_bd hb (by omega) _).2) (fun g β => by kernel_rfl)
--EVTS b8_23nTs | fun (r6 : Rw) (ba bb bo : Nat) (a b : Nat → Int) (n : Nat) (g : Nat → Value) (β : Nat → Fr) => (bPath 8 23 r6 ba bb bo a b (smp [3, 1, 1, 1, 1, 1, 1, 1, 9, 1, 1, 1, 1, 1, 1, 1]) (smp [7, 7, 7, 7, 7, 7, 7, 7, 9, 1, 1, 1, 1, 1, 1, 1]) n (getI a 8 n) g β, bD (decide (getI b 8 n < getI a 8 n)) false (getI a 8 n))
def b8_23nTs : List Nat := [3, 2, 0, 1, 0, 1, 0, 0, 0, 1, 1, 1, 0, 0, 0, 0, 0, 0, 0, 0, 0, 0, 0, 0, 0, 0, 0]
theorem b8_23n (a b : Nat → Int) (ha : Byt a) (hb : Byt b) (n : Nat) (h : ¬ getI b 8 n < getI a 8 n) : BRound 8 23 a b n := by
  intro r6 ba bb bo
  have e : setI (ofK zV 8 (rbF 23 8 a b) n) 8 n (getI a 8 n) = ofK zV 8 (rbF 23 8 a b) (n + 1) := by
    rw [ofK]
    congr 1
    exact (if_neg h).symm
  rw [← e]
  exact runs_code (E := envR [a, b, ofK zV 8 (rbF 23 8 a b) n]) (E' := envR [smp [3, 1, 1, 1, 1, 1, 1, 1, 9, 1, 1, 1, 1, 1, 1, 1], smp [7, 7, 7, 7, 7, 7, 7, 7, 9, 1, 1, 1, 1, 1, 1, 1], zV]) rfl (sumR_ok _ (byt_three ha hb (ofK_byt byt_zero _ _ _))) (fuel := 60) (need' := bNeed 8 23 1001 1004 1002 0) (M' := [vrow 1002 zV, vrow 1003 zV, vrow 1004 (smp [7, 7, 7, 7, 7, 7, 7, 7, 9, 1, 1, 1, 1, 1, 1, 1]), vrow 1001 (smp [3, 1, 1, 1, 1, 1, 1, 1, 9, 1, 1, 1, 1, 1, 1, 1])]) rfl (bD (decide (getI b 8 n < getI a 8 n)) false (getI a 8 n)) b8_23nTs (bD_ok (decide_eq_false h) (g_bd ha (by omega) _).1 (g_bd ha (by omega) _).2) (fun g β => by kernel_rfl)
--EVTS b8_24yTs | fun (r6 : Rw) (ba bb bo : Nat) (a b : Nat → Int) (n : Nat) (g : Nat → Value) (β : Nat → Fr) => (bPath 8 24 r6 ba bb bo a b (smp [3, 1, 1, 1, 1, 1, 1, 1, 9, 1, 1, 1, 1, 1, 1, 1]) (smp [7, 7, 7, 7, 7, 7, 7, 7, 9, 1, 1, 1, 1, 1, 1, 1]) n (getI b 8 n) g β, bD (decide (sgnI b 8 n > sgnI a 8 n)) true (getI b 8 n))
def b8_24yTs : List Nat := [3, 2, 1, 0, 0, 0, 0, 0, 0, 0, 0, 0, 0, 0, 0, 0, 0, 0, 0, 0, 0, 0, 0, 0, 0]
theorem b8_24y (a b : Nat → Int) (ha : Byt a) (hb : Byt b) (n : Nat) (h : sgnI b 8 n > sgnI a 8 n) : BRound 8 24 a b n := by
  intro r6 ba bb bo
  have e : setI (ofK zV 8 (rbF 24 8 a b) n) 8 n (getI b 8 n) = ofK zV 8 (rbF 24 8 a b) (n + 1) := by
    rw [ofK]
    congr 1
    exact (if_pos h).symm
  rw [← e]
  exact runs_code (E := envR [a, b, ofK zV 8 (rbF 24 8 a b) n]) (E' := envR [smp [3, 1, 1, 1, 1, 1, 1, 1, 9, 1, 1, 1, 1, 1, 1, 1], smp [7, 7, 7, 7, 7, 7, 7, 7, 9, 1, 1, 1, 1, 1, 1, 1], zV]) rfl (sumR_ok _ (byt_three ha hb (ofK_byt byt_zero _ _ _))) (fuel := 60) (need' := bNeed 8 24 1001 1004 1002 0) (M' := [vrow 1002 zV, vrow 1003 zV, vrow 1004 (smp [7, 7, 7, 7, 7, 7, 7, 7, 9, 1, 1, 1, 1, 1, 1, 1]), vrow 1001 (smp [3, 1, 1, 1, 1, 1, 1, 1, 9, 1, 1, 1, 1, 1, 1, 1])]) rfl (bD (decide (sgnI b 8 n > sgnI a 8 n)) true (getI b 8 n)) b8_24yTs (bD_ok (decide_eq_true h) (g_bd hb (by omega) _).1 (g_bd hb (by omega) _).2) (fun g β => by kernel_rfl)
--EVTS b8_24nTs | fun (r6 : Rw) (ba bb bo : Nat) (a b : Nat → Int) (n : Nat) (g : Nat → Value) (β : Nat → Fr) => (bPath 8 24 r6 ba bb bo a b (smp [7, 7, 7, 7, 7, 7, 7, 7, 9, 1, 1, 1, 1, 1, 1, 1]) (smp [3, 1, 1, 1, 1, 1, 1, 1, 9, 1, 1, 1, 1, 1, 1, 1]) n (getI a 8 n) g β, bD (decide (sgnI b 8 n > sgnI a 8 n)) false (getI a 8 n))
def b8_24nTs : List Nat := [3, 2, 1, 0, 0, 0, 0, 0, 0, 0, 0, 0, 0, 0, 0, 0, 0, 0, 0, 0, 0, 0, 0, 0, 0]
theorem b8_24n (a b : Nat → Int) (ha : Byt a) (hb : Byt b) (n : Nat) (h : ¬ sgnI b 8 n > sgnI a 8 n) : BRound 8 24 a b n := by
  intro r6 ba bb bo
  have e : setI (ofK zV 8 (rbF 24 8 a b) n) 8 n (getI a 8 n) = ofK zV 8 (rbF 24 8 a b) (n + 1) := by
    rw [ofK]
    congr 1
    exact (if_neg h).symm
  rw [← e]
  exact runs_code (E := envR [a, b, ofK zV 8 (rbF 24 8 a b) n]) (E' := envR [smp [7, 7, 7, 7, 7, 7, 7, 7, 9, 1, 1, 1, 1, 1, 1, 1], smp [3, 1, 1, 1, 1, 1, 1, 1, 9, 1, 1, 1, 1, 1, 1, 1], zV]) rfl (sumR_ok _ (byt_three ha hb (ofK_byt byt_zero _ _ _))) (fuel := 60) (need' := bNeed 8 24 1001 1004 1002 0) (M' := [vrow 1002 zV, vrow 1003 zV, vrow 1004 (smp [3, 1, 1, 1, 1, 1, 1, 1, 9, 1, 1, 1, 1, 1, 1, 1]), vrow 1001 (smp [7, 7, 7, 7, 7, 7, 7, 7, 9, 1, 1, 1, 1, 1, 1, 1])]) rfl (bD (decide (sgnI b 8 n > sgnI a 8 n)) false (getI a 8 n)) b8_24nTs (bD_ok (decide_eq_false h) (g_bd ha (by omega) _).1 (g_bd ha (by omega) _).2) (fun g β => by kernel_rfl)
--EVTS b8_25yTs | fun (r6 : Rw) (ba bb bo : Nat) (a b : Nat → Int) (n : Nat) (g : Nat → Value) (β : Nat → Fr) => (bPath 8 25 r6 ba bb bo a b (smp [3, 1, 1, 1, 1, 1, 1, 1, 9, 1, 1, 1, 1, 1, 1, 1]) (smp [7, 7, 7, 7, 7, 7, 7, 7, 9, 1, 1, 1, 1, 1, 1, 1]) n (getI b 8 n) g β, bD (decide (getI b 8 n > getI a 8 n)) true (getI b 8 n))
def b8_25yTs : List Nat := [3, 2, 1, 0, 0, 0, 0, 0, 0, 0, 0, 0, 0, 0, 0, 0, 0, 0, 0, 0, 0, 0, 0, 0, 0, 0, 0]
theorem b8_25y (a b : Nat → Int) (ha : Byt a) (hb : Byt b) (n : Nat) (h : getI b 8 n > getI a 8 n) : BRound 8 25 a b n := by
  intro r6 ba bb bo
  have e : setI (ofK zV 8 (rbF 25 8 a b) n) 8 n (getI b 8 n) = ofK zV 8 (rbF 25 8 a b) (n + 1) := by
    rw [ofK]
    congr 1
    exact (if_pos h).symm
  rw [← e]
  exact runs_code (E := envR [a, b, ofK zV 8 (rbF 25 8 a b) n]) (E' := envR [smp [3, 1, 1, 1, 1, 1, 1, 1, 9, 1, 1, 1, 1, 1, 1, 1], smp [7, 7, 7, 7, 7, 7, 7, 7, 9, 1, 1, 1, 1, 1, 1, 1], zV]) rfl (sumR_ok _ (byt_three ha hb (ofK_byt byt_zero _ _ _))) (fuel := 60) (need' := bNeed 8 25 1001 1004 1002 0) (M' := [vrow 1002 zV, vrow 1003 zV, vrow 1004 (smp [7, 7, 7, 7, 7, 7, 7, 7, 9, 1, 1, 1, 1, 1, 1, 1]), vrow 1001 (smp [3, 1, 1, 1, 1, 1, 1, 1, 9, 1, 1, 1, 1, 1, 1, 1])]) rfl (bD (decide (getI b 8 n > getI a 8 n)) true (getI b 8 n)) b8_25yTs (bD_ok (decide_eq_true h) (g_bd hb (by omega) _).1 (g_bd hb (by omega) _).2) (fun g β => by kernel_rfl)
--EVTS b8_25nTs | fun (r6 : Rw) (ba bb bo : Nat) (a b : Nat → Int) (n : Nat) (g : Nat → Value) (β : Nat → Fr) => (bPath 8 25 r6 ba bb bo a b (smp [7, 7, 7, 7, 7, 7, 7, 7, 9, 1, 1, 1, 1, 1, 1, 1]) (smp [3, 1, 1, 1, 1, 1, 1, 1, 9, 1, 1, 1, 1, 1, 1, 1]) n (getI a 8 n) g β, bD (decide (getI b 8 n > getI a 8 n)) false (getI a 8 n))
def b8_25nTs : List Nat := [3, 2, 1, 0, 0, 0, 0, 0, 0, 0, 0, 0, 0, 0, 0, 0, 0, 0, 0, 0, 0, 0, 0, 0, 0, 0, 0]
theorem b8_25n (a b : Nat → Int) (ha : Byt a) (hb : Byt b) (n : Nat) (h : ¬ getI b 8 n > getI a 8 n) : BRound 8 25 a b n := by
  intro r6 ba bb bo
  have e : setI (ofK zV 8 (rbF 25 8 a b) n) 8 n (getI a 8 n) = ofK zV 8 (rbF 25 8 a b) (n + 1) := by
    rw [ofK]
    congr 1
    exact (if_neg h).symm
  rw [← e]
  exact runs_code (E := envR [a, b, ofK zV 8 (rbF 25 8 a b) n]) (E' := envR [smp [7, 7, 7, 7, 7, 7, 7, 7, 9, 1, 1, 1, 1, 1, 1, 1], smp [3, 1, 1, 1, 1, 1, 1, 1, 9, 1, 1, 1, 1, 1, 1, 1], zV]) rfl (sumR_ok _ (byt_three ha hb (ofK_byt byt_zero _ _ _))) (fuel := 60) (need' := bNeed 8 25 1001 1004 1002 0) (M' := [vrow 1002 zV, vrow 1003 zV, vrow 1004 (smp [3, 1, 1, 1, 1, 1, 1, 1, 9, 1, 1, 1, 1, 1, 1, 1]), vrow 1001 (smp [7, 7, 7, 7, 7, 7, 7, 7, 9, 1, 1, 1, 1, 1, 1, 1])]) rfl (bD (decide (getI b 8 n > getI a 8 n)) false (getI a 8 n)) b8_25nTs (bD_ok (decide_eq_false h) (g_bd ha (by omega) _).1 (g_bd ha (by omega) _).2) (fun g β => by kernel_rfl)
--EVTS b8_27Ts | fun (r6 : Rw) (ba bb bo : Nat) (a b : Nat → Int) (n : Nat) (g : Nat → Value) (β : Nat → Fr) => (bPath 8 27 r6 ba bb bo a b (smp [133, 24, 19, 6, 71, 19, 2, 14, 213, 8, 27, 16, 95, 12, 231, 15]) (smp [33, 24, 129, 6, 71, 19, 2, 14, 213, 8, 27, 16, 95, 12, 231, 25]) n (IntKind.u64.wrap (Int.tdiv (IntKind.u64.wrap (IntKind.u64.wrap (getI a 8 n + getI b 8 n) + 1)) 2)) g β, bD (true) true (IntKind.u64.wrap (Int.tdiv (IntKind.u64.wrap (IntKind.u64.wrap (getI a 8 n + getI b 8 n) + 1)) 2)))
def b8_27Ts : List Nat := [3, 2, 0, 0, 0, 0, 0, 0, 0, 0, 0, 0, 0, 0]
theorem b8_27 (a b : Nat → Int) (ha : Byt a) (hb : Byt b) (n : Nat) (h : True) : BRound 8 27 a b n := by
  intro r6 ba bb bo
  have e : setI (ofK zV 8 (rbF 27 8 a b) n) 8 n (IntKind.u64.wrap (Int.tdiv (IntKind.u64.wrap (IntKind.u64.wrap (getI a 8 n + getI b 8 n) + 1)) 2)) = ofK zV 8 (rbF 27 8 a b) (n + 1) := by
    rw [ofK]
    congr 1
  rw [← e]
  exact runs_code (E := envR [a, b, ofK zV 8 (rbF 27 8 a b) n]) (E' := envR [smp [133, 24, 19, 6, 71, 19, 2, 14, 213, 8, 27, 16, 95, 12, 231, 15], smp [33, 24, 129, 6, 71, 19, 2, 14, 213, 8, 27, 16, 95, 12, 231, 25], zV]) rfl (sumR_ok _ (byt_three ha hb (ofK_byt byt_zero _ _ _))) (fuel := 60) (need' := bNeed 8 27 1001 1004 1002 0) (M' := [vrow 1002 zV, vrow 1003 zV, vrow 1004 (smp [33, 24, 129, 6, 71, 19, 2, 14, 213, 8, 27, 16, 95, 12, 231, 25]), vrow 1001 (smp [133, 24, 19, 6, 71, 19, 2, 14, 213, 8, 27, 16, 95, 12, 231, 15])]) rfl (bD (true) true (IntKind.u64.wrap (Int.tdiv (IntKind.u64.wrap (IntKind.u64.wrap (getI a 8 n + getI b 8 n) + 1)) 2))) b8_27Ts (bD_ok rfl (u64_bd _).1 (u64_bd _).2) (fun g β => by kernel_rfl)
--EVTS b16_14Ts | fun (r6 : Rw) (ba bb bo : Nat) (a b : Nat → Int) (n : Nat) (g : Nat → Value) (β : Nat → Fr) => (bPath 16 14 r6 ba bb bo a b (smp [133, 24, 19, 6, 71, 19, 2, 14, 213, 8, 27, 16, 95, 12, 231, 15]) (smp [33, 24, 129, 6, 71, 19, 2, 14, 213, 8, 27, 16, 95, 12, 231, 25]) n (IntKind.u64.wrap (getI a 16 n + getI b 16 n)) g β, bD (true) true (IntKind.u64.wrap (getI a 16 n + getI b 16 n)))
def b16_14Ts : List Nat := [3, 2, 0]
theorem b16_14 (a b : Nat → Int) (ha : Byt a) (hb : Byt b) (n : Nat) (h : True) : BRound 16 14 a b n := by
  intro r6 ba bb bo
  have e : setI (ofK zV 16 (rbF 14 16 a b) n) 16 n (IntKind.u64.wrap (getI a 16 n + getI b 16 n)) = ofK zV 16 (rbF 14 16 a b) (n + 1) := by
    rw [ofK]
    congr 1
  rw [← e]
  exact runs_code (E := envR [a, b, ofK zV 16 (rbF 14 16 a b) n]) (E' := envR [smp [133, 24, 19, 6, 71, 19, 2, 14, 213, 8, 27, 16, 95, 12, 231, 15], smp [33, 24, 129, 6, 71, 19, 2, 14, 213, 8, 27, 16, 95, 12, 231, 25], zV]) rfl (sumR_ok _ (byt_three ha hb (ofK_byt byt_zero _ _ _))) (fuel := 60) (need' := bNeed 16 14 1001 1004 1002 0) (M' := [vrow 1002 zV, vrow 1003 zV, vrow 1004 (smp [33, 24, 129, 6, 71, 19, 2, 14, 213, 8, 27, 16, 95, 12, 231, 25]), vrow 1001 (smp [133, 24, 19, 6, 71, 19, 2, 14, 213, 8, 27, 16, 95, 12, 231, 15])]) rfl (bD (true) true (IntKind.u64.wrap (getI a 16 n + getI b 16 n))) b16_14Ts (bD_ok rfl (u64_bd _).1 (u64_bd _).2) (fun g β => by kernel_rfl)
--EVTS b16_15Ts | fun (r6 : Rw) (ba bb bo : Nat) (a b : Nat → Int) (n : Nat) (g : Nat → Value) (β : Nat → Fr) => (bPath 16 15 r6 ba bb bo a b (smp [133, 24, 19, 6, 71, 19, 2, 14, 213, 8, 27, 16, 95, 12, 231, 15]) (smp [33, 24, 129, 6, 71, 19, 2, 14, 213, 8, 27, 16, 95, 12, 231, 25]) n (IntKind.u64.wrap (holdI (IntKind.i64.wrap (sgnI a 16 n + sgnI b 16 n)) (-32768) 32767)) g β, bD (true) true (IntKind.u64.wrap (holdI (IntKind.i64.wrap (sgnI a 16 n + sgnI b 16 n)) (-32768) 32767)))
def b16_15Ts : List Nat := [3, 2, 0, 0]
theorem b16_15 (a b : Nat → Int) (ha : Byt a) (hb : Byt b) (n : Nat) (h : True) : BRound 16 15 a b n := by
  intro r6 ba bb bo
  have e : setI (ofK zV 16 (rbF 15 16 a b) n) 16 n (IntKind.u64.wrap (holdI (IntKind.i64.wrap (sgnI a 16 n + sgnI b 16 n)) (-32768) 32767)) = ofK zV 16 (rbF 15 16 a b) (n + 1) := by
    rw [ofK]
    congr 1
  rw [← e]
  exact runs_code (E := envR [a, b, ofK zV 16 (rbF 15 16 a b) n]) (E' := envR [smp [133, 24, 19, 6, 71, 19, 2, 14, 213, 8, 27, 16, 95, 12, 231, 15], smp [33, 24, 129, 6, 71, 19, 2, 14, 213, 8, 27, 16, 95, 12, 231, 25], zV]) rfl (sumR_ok _ (byt_three ha hb (ofK_byt byt_zero _ _ _))) (fuel := 60) (need' := bNeed 16 15 1001 1004 1002 0) (M' := [vrow 1002 zV, vrow 1003 zV, vrow 1004 (smp [33, 24, 129, 6, 71, 19, 2, 14, 213, 8, 27, 16, 95, 12, 231, 25]), vrow 1001 (smp [133, 24, 19, 6, 71, 19, 2, 14, 213, 8, 27, 16, 95, 12, 231, 15])]) rfl (bD (true) true (IntKind.u64.wrap (holdI (IntKind.i64.wrap (sgnI a 16 n + sgnI b 16 n)) (-32768) 32767))) b16_15Ts (bD_ok rfl (u64_bd _).1 (u64_bd _).2) (fun g β => by kernel_rfl)
--EVTS b16_16Ts | fun (r6 : Rw) (ba bb bo : Nat) (a b : Nat → Int) (n : Nat) (g : Nat → Value) (β : Nat → Fr) => (bPath 16 16 r6 ba bb bo a b (smp [133, 24, 19, 6, 71, 19, 2, 14, 213, 8, 27, 16, 95, 12, 231, 15]) (smp [33, 24, 129, 6, 71, 19, 2, 14, 213, 8, 27, 16, 95, 12, 231, 25]) n (IntKind.u64.wrap (holdI (IntKind.i64.wrap (IntKind.u64.wrap (getI a 16 n + getI b 16 n))) 0 65535)) g β, bD (true) true (IntKind.u64.wrap (holdI (IntKind.i64.wrap (IntKind.u64.wrap (getI a 16 n + getI b 16 n))) 0 65535)))
def b16_16Ts : List Nat := [3, 2, 0, 0, 0]
theorem b16_16 (a b : Nat → Int) (ha : Byt a) (hb : Byt b) (n : Nat) (h : True) : BRound 16 16 a b n := by
  intro r6 ba bb bo
  have e : setI (ofK zV 16 (rbF 16 16 a b) n) 16 n (IntKind.u64.wrap (holdI (IntKind.i64.wrap (IntKind.u64.wrap (getI a 16 n + getI b 16 n))) 0 65535)) = ofK zV 16 (rbF 16 16 a b) (n + 1) := by
    rw [ofK]
    congr 1
  rw [← e]
  exact runs_code (E := envR [a, b, ofK zV 16 (rbF 16 16 a b) n]) (E' := envR [smp [133, 24, 19, 6, 71, 19, 2, 14, 213, 8, 27, 16, 95, 12, 231, 15], smp [33, 24, 129, 6, 71, 19, 2, 14, 213, 8, 27, 16, 95, 12, 231, 25], zV]) rfl (sumR_ok _ (byt_three ha hb (ofK_byt byt_zero _ _ _))) (fuel := 60) (need' := bNeed 16 16 1001 1004 1002 0) (M' := [vrow 1002 zV, vrow 1003 zV, vrow 1004 (smp [33, 24, 129, 6, 71, 19, 2, 14, 213, 8, 27, 16, 95, 12, 231, 25]), vrow 1001 (smp [133, 24, 19, 6, 71, 19, 2, 14, 213, 8, 27, 16, 95, 12, 231, 15])]) rfl (bD (true) true (IntKind.u64.wrap (holdI (IntKind.i64.wrap (IntKind.u64.wrap (getI a 16 n + getI b 16 n))) 0 65535))) b16_16Ts (bD_ok rfl (u64_bd _).1 (u64_bd _).2) (fun g β => by kernel_rfl)
--EVTS b16_17Ts | fun (r6 : Rw) (ba bb bo : Nat) (a b : Nat → Int) (n : Nat) (g : Nat → Value) (β : Nat → Fr) => (bPath 16 17 r6 ba bb bo a b (smp [133, 24, 19, 6, 71, 19, 2, 14, 213, 8, 27, 16, 95, 12, 231, 15]) (smp [33, 24, 129, 6, 71, 19, 2, 14, 213, 8, 27, 16, 95, 12, 231, 25]) n (IntKind.u64.wrap (getI a 16 n - getI b 16 n)) g β, bD (true) true (IntKind.u64.wrap (getI a 16 n - getI b 16 n)))
def b16_17Ts : List Nat := [3, 2, 0, 0, 0, 0]
theorem b16_17 (a b : Nat → Int) (ha : Byt a) (hb : Byt b) (n : Nat) (h : True) : BRound 16 17 a b n := by
  intro r6 ba bb bo
  have e : setI (ofK zV 16 (rbF 17 16 a b) n) 16 n (IntKind.u64.wrap (getI a 16 n - getI b 16 n)) = ofK zV 16 (rbF 17 16 a b) (n + 1) := by
    rw [ofK]
    congr 1
  rw [← e]
  exact runs_code (E := envR [a, b, ofK zV 16 (rbF 17 16 a b) n]) (E' := envR [smp [133, 24, 19, 6, 71, 19, 2, 14, 213, 8, 27, 16, 95, 12, 231, 15], smp [33, 24, 129, 6, 71, 19, 2, 14, 213, 8, 27, 16, 95, 12, 231, 25], zV]) rfl (sumR_ok _ (byt_three ha hb (ofK_byt byt_zero _ _ _))) (fuel := 60) (need' := bNeed 16 17 1001 1004 1002 0) (M' := [vrow 1002 zV, vrow 1003 zV, vrow 1004 (smp [33, 24, 129, 6, 71, 19, 2, 14, 213, 8, 27, 16, 95, 12, 231, 25]), vrow 1001 (smp [133, 24, 19, 6, 71, 19, 2, 14, 213, 8, 27, 16, 95, 12, 231, 15])]) rfl (bD (true) true (IntKind.u64.wrap (getI a 16 n - getI b 16 n))) b16_17Ts (bD_ok rfl (u64_bd _).1 (u64_bd _).2) (fun g β => by kernel_rfl)
--EVTS b16_18Ts | fun (r6 : Rw) (ba bb bo : Nat) (a b : Nat → Int) (n : Nat) (g : Nat → Value) (β : Nat → Fr) => (bPath 16 18 r6 ba bb bo a b (smp [133, 24, 19, 6, 71, 19, 2, 14, 213, 8, 27, 16, 95, 12, 231, 15]) (smp [33, 24, 129, 6, 71, 19, 2, 14, 213, 8, 27, 16, 95, 12, 231, 25]) n (IntKind.u64.wrap (holdI (IntKind.i64.wrap (sgnI a 16 n - sgnI b 16 n)) (-32768) 32767)) g β, bD (true) true (IntKind.u64.wrap (holdI (IntKind.i64.wrap (sgnI a 16 n - sgnI b 16 n)) (-32768) 32767)))
def b16_18Ts : List Nat := [3, 2, 0, 0, 0, 0, 0]
theorem b16_18 (a b : Nat → Int) (ha : Byt a) (hb : Byt b) (n : Nat) (h : True) : BRound 16 18 a b n := by
  intro r6 ba bb bo
  have e : setI (ofK zV 16 (rbF 18 16 a b) n) 16 n (IntKind.u64.wrap (holdI (IntKind.i64.wrap (sgnI a 16 n - sgnI b 16 n)) (-32768) 32767)) = ofK zV 16 (rbF 18 16 a b) (n + 1) := by
    rw [ofK]
    congr 1
  rw [← e]
  exact runs_code (E := envR [a, b, ofK zV 16 (rbF 18 16 a b) n]) (E' := envR [smp [133, 24, 19, 6, 71, 19, 2, 14, 213, 8, 27, 16, 95, 12, 231, 15], smp [33, 24, 129, 6, 71, 19, 2, 14, 213, 8, 27, 16, 95, 12, 231, 25], zV]) rfl (sumR_ok _ (byt_three ha hb (ofK_byt byt_zero _ _ _))) (fuel := 60) (need' := bNeed 16 18 1001 1004 1002 0) (M' := [vrow 1002 zV, vrow 1003 zV, vrow 1004 (smp [33, 24, 129, 6, 71, 19, 2, 14, 213, 8, 27, 16, 95, 12, 231, 25]), vrow 1001 (smp [133, 24, 19, 6, 71, 19, 2, 14, 213, 8, 27, 16, 95, 12, 231, 15])]) rfl (bD (true) true (IntKind.u64.wrap (holdI (IntKind.i64.wrap (sgnI a 16 n - sgnI b 16 n)) (-32768) 32767))) b16_18Ts (bD_ok rfl (u64_bd _).1 (u64_bd _).2) (fun g β => by kernel_rfl)
--EVTS b16_19Ts | fun (r6 : Rw) (ba bb bo : Nat) (a b : Nat → Int) (n : Nat) (g : Nat → Value) (β : Nat → Fr) => (bPath 16 19 r6 ba bb bo a b (smp [133, 24, 19, 6, 71, 19, 2, 14, 213, 8, 27, 16, 95, 12, 231, 15]) (smp [33, 24, 129, 6, 71, 19, 2, 14, 213, 8, 27, 16, 95, 12, 231, 25]) n (IntKind.u64.wrap (holdI (IntKind.i64.wrap (IntKind.i64.wrap (getI a 16 n) - IntKind.i64.wrap (getI b 16 n))) 0 65535)) g β, bD (true) true (IntKind.u64.wrap (holdI (IntKind.i64.wrap (IntKind.i64.wrap (getI a 16 n) - IntKind.i64.wrap (getI b 16 n))) 0 65535)))
def b16_19Ts : List Nat := [3, 2, 0, 0, 0, 0, 0, 0]
theorem b16_19 (a b : Nat → Int) (ha : Byt a) (hb : Byt b) (n : Nat) (h : True) : BRound 16 19 a b n := by
  intro r6 ba bb bo
  have e : setI (ofK zV 16 (rbF 19 16 a b) n) 16 n (IntKind.u64.wrap (holdI (IntKind.i64.wrap (IntKind.i64.wrap (getI a 16 n) - IntKind.i64.wrap (getI b 16 n))) 0 65535)) = ofK zV 16 (rbF 19 16 a b) (n + 1) := by
    rw [ofK]
    congr 1
  rw [← e]
  exact runs_code (E := envR [a, b, ofK zV 16 (rbF 19 16 a b) n]) (E' := envR [smp [133, 24, 19, 6, 71, 19, 2, 14, 213, 8, 27, 16, 95, 12, 231, 15], smp [33, 24, 129, 6, 71, 19, 2, 14, 213, 8, 27, 16, 95, 12, 231, 25], zV]) rfl (sumR_ok _ (byt_three ha hb (ofK_byt byt_zero _ _ _))) (fuel := 60) (need' := bNeed 16 19 1001 1004 1002 0) (M' := [vrow 1002 zV, vrow 1003 zV, vrow 1004 (smp [33, 24, 129, 6, 71, 19, 2, 14, 213, 8, 27, 16, 95, 12, 231, 25]), vrow 1001 (smp [133, 24, 19, 6, 71, 19, 2, 14, 213, 8, 27, 16, 95, 12, 231, 15])]) rfl (bD (true) true (IntKind.u64.wrap (holdI (IntKind.i64.wrap (IntKind.i64.wrap (getI a 16 n) - IntKind.i64.wrap (getI b 16 n))) 0 65535))) b16_19Ts (bD_ok rfl (u64_bd _).1 (u64_bd _).2) (fun g β => by kernel_rfl)
--EVTS b16_21Ts | fun (r6 : Rw) (ba bb bo : Nat) (a b : Nat → Int) (n : Nat) (g : Nat → Value) (β : Nat → Fr) => (bPath 16 21 r6 ba bb bo a b (smp [133, 24, 19, 6, 71, 19, 2, 14, 213, 8, 27, 16, 95, 12, 231, 15]) (smp [33, 24, 129, 6, 71, 19, 2, 14, 213, 8, 27, 16, 95, 12, 231, 25]) n (IntKind.u64.wrap (getI a 16 n * getI b 16 n)) g β, bD (true) true (IntKind.u64.wrap (getI a 16 n * getI b 16 n)))
def b16_21Ts : List Nat := [3, 2, 0, 0, 0, 0, 0, 0, 0]
theorem b16_21 (a b : Nat → Int) (ha : Byt a) (hb : Byt b) (n : Nat) (h : True) : BRound 16 21 a b n := by
  intro r6 ba bb bo
  have e : setI (ofK zV 16 (rbF 21 16 a b) n) 16 n (IntKind.u64.wrap (getI a 16 n * getI b 16 n)) = ofK zV 16 (rbF 21 16 a b) (n + 1) := by
    rw [ofK]
    congr 1
  rw [← e]
  exact runs_code (E := envR [a, b, ofK zV 16 (rbF 21 16 a b) n]) (E' := envR [smp [133, 24, 19, 6, 71, 19, 2, 14, 213, 8, 27, 16, 95, 12, 231, 15], smp [33, 24, 129, 6, 71, 19, 2, 14, 213, 8, 27, 16, 95, 12, 231, 25], zV]) rfl (sumR_ok _ (byt_three ha hb (ofK_byt byt_zero _ _ _))) (fuel := 60) (need' := bNeed 16 21 1001 1004 1002 0) (M' := [vrow 1002 zV, vrow 1003 zV, vrow 1004 (smp [33, 24, 129, 6, 71, 19, 2, 14, 213, 8, 27, 16, 95, 12, 231, 25]), vrow 1001 (smp [133, 24, 19, 6, 71, 19, 2, 14, 213, 8, 27, 16, 95, 12, 231, 15])]) rfl (bD (true) true (IntKind.u64.wrap (getI a 16 n * getI b 16 n))) b16_21Ts (bD_ok rfl (u64_bd _).1 (u64_bd _).2) (fun g β => by kernel_rfl)
--EVTS b16_22yTs | fun (r6 : Rw) (ba bb bo : Nat) (a b : Nat → Int) (n : Nat) (g : Nat → Value) (β : Nat → Fr) => (bPath 16 22 r6 ba bb bo a b (smp [7, 7, 7, 7, 7, 7, 7, 7, 9, 1, 1, 1, 1, 1, 1, 1]) (smp [3, 1, 1, 1, 1, 1, 1, 1, 9, 1, 1, 1, 1, 1, 1, 1]) n (getI b 16 n) g β, bD (decide (sgnI b 16 n < sgnI a 16 n)) true (getI b 16 n))
def b16_22yTs : List Nat := [3, 2, 0, 1, 1, 1, 1, 1, 0, 0, 0, 0, 0, 0, 0, 0, 0, 0, 0, 0, 0]
theorem b16_22y (a b : Nat → Int) (ha : Byt a) (hb : Byt b) (n : Nat) (h : sgnI b 16 n < sgnI a 16 n) : BRound 16 22 a b n := by
  intro r6 ba bb bo
  have e : setI (ofK zV 16 (rbF 22 16 a b) n) 16 n (getI b 16 n) = ofK zV 16 (rbF 22 16 a b) (n + 1) := by
    rw [ofK]
    congr 1
    exact (if_pos h).symm
  rw [← e]
  exact runs_code (E := envR [a, b, ofK zV 16 (rbF 22 16 a b) n]) (E' := envR [smp [7, 7, 7, 7, 7, 7, 7, 7, 9, 1, 1, 1, 1, 1, 1, 1], smp [3, 1, 1, 1, 1, 1, 1, 1, 9, 1, 1, 1, 1, 1, 1, 1], zV]) rfl (sumR_ok _ (byt_three ha hb (ofK_byt byt_zero _ _ _))) (fuel := 60) (need' := bNeed 16 22 1001 1004 1002 0) (M' := [vrow 1002 zV, vrow 1003 zV, vrow 1004 (smp [3, 1, 1, 1, 1, 1, 1, 1, 9, 1, 1, 1, 1, 1, 1, 1]), vrow 1001 (smp [7, 7, 7, 7, 7, 7, 7, 7, 9, 1, 1, 1, 1, 1, 1, 1])]) rfl (bD (decide (sgnI b 16 n < sgnI a 16 n)) true (getI b 16 n)) b16_22yTs (bD_ok (decide_eq_true h) (g_bd hb (by omega) _).1 (g_bd hb (by omega) _).2) (fun g β => by kernel_rfl)
--EVTS b16_22nTs | fun (r6 : Rw) (ba bb bo : Nat) (a b : Nat → Int) (n : Nat) (g : Nat → Value) (β : Nat → Fr) => (bPath 16 22 r6 ba bb bo a b (smp [3, 1, 1, 1, 1, 1, 1, 1, 9, 1, 1, 1, 1, 1, 1, 1]) (smp [7, 7, 7, 7, 7, 7, 7, 7, 9, 1, 1, 1, 1, 1, 1, 1]) n (getI a 16 n) g β, bD (decide (sgnI b 16 n < sgnI a 16 n)) false (getI a 16 n))
def b16_22nTs : List Nat := [3, 2, 0, 1, 0, 1, 0, 0, 0, 1, 1, 1, 0, 0, 0, 0, 0, 0, 0, 0, 0, 0, 0, 0, 0]
theorem b16_22n (a b : Nat → Int) (ha : Byt a) (hb : Byt b) (n : Nat) (h : ¬ sgnI b 16 n < sgnI a 16 n) : BRound 16 22 a b n := by
  intro r6 ba bb bo
  have e : setI (ofK zV 16 (rbF 22 16 a b) n) 16 n (getI a 16 n) = ofK zV 16 (rbF 22 16 a b) (n + 1) := by
    rw [ofK]
    congr 1
    exact (if_neg h).symm
  rw [← e]
  exact runs_code (E := envR [a, b, ofK zV 16 (rbF 22 16 a b) n]) (E' := envR [smp [3, 1, 1, 1, 1, 1, 1, 1, 9, 1, 1, 1, 1, 1, 1, 1], smp [7, 7, 7, 7, 7, 7, 7, 7, 9, 1, 1, 1, 1, 1, 1, 1], zV]) rfl (sumR_ok _ (byt_three ha hb (ofK_byt byt_zero _ _ _))) (fuel := 60) (need' := bNeed 16 22 1001 1004 1002 0) (M' := [vrow 1002 zV, vrow 1003 zV, vrow 1004 (smp [7, 7, 7, 7, 7, 7, 7, 7, 9, 1, 1, 1, 1, 1, 1, 1]), vrow 1001 (smp [3, 1, 1, 1, 1, 1, 1, 1, 9, 1, 1, 1, 1, 1, 1, 1])]) rfl (bD (decide (sgnI b 16 n < sgnI a 16 n)) false (getI a 16 n)) b16_22nTs (bD_ok (decide_eq_false h) (g_bd ha (by omega) _).1 (g_bd ha (by omega) _).2) (fun g β => by kernel_rfl)
--EVTS b16_23yTs | fun (r6 : Rw) (ba bb bo : Nat) (a b : Nat → Int) (n : Nat) (g : Nat → Value) (β : Nat → Fr) => (bPath 16 23 r6 ba bb bo a b (smp [7, 7, 7, 7, 7, 7, 7, 7, 9, 1, 1, 1, 1, 1, 1, 1]) (smp [3, 1, 1, 1, 1, 1, 1, 1, 9, 1, 1, 1, 1, 1, 1, 1]) n (getI b 16 n) g β, bD (decide (getI b 16 n < getI a 16 n)) true (getI b 16 n))
def b16_23yTs : List Nat := [3, 2, 0, 1, 1, 1, 1, 1, 0, 0, 0, 0, 0, 0, 0, 0, 0, 0, 0, 0, 0, 0, 0]
theorem b16_23y (a b : Nat → Int) (ha : Byt a) (hb : Byt b) (n : Nat) (h : getI b 16 n < getI a 16 n) : BRound 16 23 a b n := by
  intro r6 ba bb bo
  have e : setI (ofK zV 16 (rbF 23 16 a b) n) 16 n (getI b 16 n) = ofK zV 16 (rbF 23 16 a b) (n + 1) := by
    rw [ofK]
    congr 1
    exact (if_pos h).symm
  rw [← e]
  exact runs_code (E := envR [a, b, ofK zV 16 (rbF 23 16 a b) n]) (E' := envR [smp [7, 7, 7, 7, 7, 7, 7, 7, 9, 1, 1, 1, 1, 1, 1, 1], smp [3, 1, 1, 1, 1, 1, 1, 1, 9, 1, 1, 1, 1, 1, 1, 1], zV]) rfl (sumR_ok _ (byt_three ha hb (ofK_byt byt_zero _ _ _))) (fuel := 60) (need' := bNeed 16 23 1001 1004 1002 0) (M' := [vrow 1002 zV, vrow 1003 zV, vrow 1004 (smp [3, 1, 1, 1, 1, 1, 1, 1, 9, 1, 1, 1, 1, 1, 1, 1]), vrow 1001 (smp [7, 7, 7, 7, 7, 7, 7, 7, 9, 1, 1, 1, 1, 1, 1, 1])]) rfl (bD (decide (getI b 16 n < getI a 16 n)) true (getI b 16 n)) b16_23yTs (bD_ok (decide_eq_true h) (g_bd hb (by omega) _).1 (g_bd hb (by omega) _).2) (fun g β => by kernel_rfl)
--EVTS b16_23nTs | fun (r6 : Rw) (ba bb bo : Nat) (a b : Nat → Int) (n : Nat) (g : Nat → Value) (β : Nat → Fr) => (bPath 16 23 r6 ba bb bo a b (smp [3, 1, 1, 1, 1, 1, 1, 1, 9, 1, 1, 1, 1, 1, 1, 1]) (smp [7, 7, 7, 7, 7, 7, 7, 7, 9, 1, 1, 1, 1, 1, 1, 1]) n (getI a 16 n) g β, bD (decide (getI b 16 n < getI a 16 n)) false (getI a 16 n))
def b16_23nTs : List Nat := [3, 2, 0, 1, 0, 1, 0, 0, 0, 1, 1, 1, 0, 0, 0, 0, 0, 0, 0, 0, 0, 0, 0, 0, 0, 0, 0]
theorem b16_23n (a b : Nat → Int) (ha : Byt a) (hb : Byt b) (n : Nat) (h : ¬ getI b 16 n < getI a 16 n) : BRound 16 23 a b n := by
  intro r6 ba bb bo
  have e : setI (ofK zV 16 (rbF 23 16 a b) n) 16 n (getI a 16 n) = ofK zV 16 (rbF 23 16 a b) (n + 1) := by
    rw [ofK]
    congr 1
    exact (if_neg h).symm
  rw [← e]
  exact runs_code (E := envR [a, b, ofK zV 16 (rbF 23 16 a b) n]) (E' := envR [smp [3, 1, 1, 1, 1, 1, 1, 1, 9, 1, 1, 1, 1, 1, 1, 1], smp [7, 7, 7, 7, 7, 7, 7, 7, 9, 1, 1, 1, 1, 1, 1, 1], zV]) rfl (sumR_ok _ (byt_three ha hb (ofK_byt byt_zero _ _ _))) (fuel := 60) (need' := bNeed 16 23 1001 1004 1002 0) (M' := [vrow 1002 zV, vrow 1003 zV, vrow 1004 (smp [7, 7, 7, 7, 7, 7, 7, 7, 9, 1, 1, 1, 1, 1, 1, 1]), vrow 1001 (smp [3, 1, 1, 1, 1, 1, 1, 1, 9, 1, 1, 1, 1, 1, 1, 1])]) rfl (bD (decide (getI b 16 n < getI a 16 n)) false (getI a 16 n)) b16_23nTs (bD_ok (decide_eq_false h) (g_bd ha (by omega) _).1 (g_bd ha (by omega) _).2) (fun g β => by kernel_rfl)
--EVTS b16_24yTs | fun (r6 : Rw) (ba bb bo : Nat) (a b : Nat → Int) (n : Nat) (g : Nat → Value) (β : Nat → Fr) => (bPath 16 24 r6 ba bb bo a b (smp [3, 1, 1, 1, 1, 1, 1, 1, 9, 1, 1, 1, 1, 1, 1, 1]) (smp [7, 7, 7, 7, 7, 7, 7, 7, 9, 1, 1, 1, 1, 1, 1, 1]) n (getI b 16 n) g β, bD (decide (sgnI b 16 n > sgnI a 16 n)) true (getI b 16 n))
def b16_24yTs : List Nat := [3, 2, 1, 0, 0, 0, 0, 0, 0, 0, 0, 0, 0, 0, 0, 0, 0, 0, 0, 0, 0, 0, 0, 0, 0]
theorem b16_24y (a b : Nat → Int) (ha : Byt a) (hb : Byt b) (n : Nat) (h : sgnI b 16 n > sgnI a 16 n) : BRound 16 24 a b n := by
  intro r6 ba bb bo
  have e : setI (ofK zV 16 (rbF 24 16 a b) n) 16 n (getI b 16 n) = ofK zV 16 (rbF 24 16 a b) (n + 1) := by
    rw [ofK]
    congr 1
    exact (if_pos h).symm
  rw [← e]
  exact runs_code (E := envR [a, b, ofK zV 16 (rbF 24 16 a b) n]) (E' := envR [smp [3, 1, 1, 1, 1, 1, 1, 1, 9, 1, 1, 1, 1, 1, 1, 1], smp [7, 7, 7, 7, 7, 7, 7, 7, 9, 1, 1, 1, 1, 1, 1, 1], zV]) rfl (sumR_ok _ (byt_three ha hb (ofK_byt byt_zero _ _ _))) (fuel := 60) (need' := bNeed 16 24 1001 1004 1002 0) (M' := [vrow 1002 zV, vrow 1003 zV, vrow 1004 (smp [7, 7, 7, 7, 7, 7, 7, 7, 9, 1, 1, 1, 1, 1, 1, 1]), vrow 1001 (smp [3, 1, 1, 1, 1, 1, 1, 1, 9, 1, 1, 1, 1, 1, 1, 1])]) rfl (bD (decide (sgnI b 16 n > sgnI a 16 n)) true (getI b 16 n)) b16_24yTs (bD_ok (decide_eq_true h) (g_bd hb (by omega) _).1 (g_bd hb (by omega) _).2) (fun g β => by kernel_rfl)
--EVTS b16_24nTs | fun (r6 : Rw) (ba bb bo : Nat) (a b : Nat → Int) (n : Nat) (g : Nat → Value) (β : Nat → Fr) => (bPath 16 24 r6 ba bb bo a b (smp [7, 7, 7, 7, 7, 7, 7, 7, 9, 1, 1, 1, 1, 1, 1, 1]) (smp [3, 1, 1, 1, 1, 1, 1, 1, 9, 1, 1, 1, 1, 1, 1, 1]) n (getI a 16 n) g β, bD (decide (sgnI b 16 n > sgnI a 16 n)) false (getI a 16 n))
def b16_24nTs : List Nat := [3, 2, 1, 0, 0, 0, 0, 0, 0, 0, 0, 0, 0, 0, 0, 0, 0, 0, 0, 0, 0, 0, 0, 0, 0]
theorem b16_24n (a b : Nat → Int) (ha : Byt a) (hb : Byt b) (n : Nat) (h : ¬ sgnI b 16 n > sgnI a 16 n) : BRound 16 24 a b n := by
  intro r6 ba bb bo
  have e : setI (ofK zV 16 (rbF 24 16 a b) n) 16 n (getI a 16 n) = ofK zV 16 (rbF 24 16 a b) (n + 1) := by
    rw [ofK]
    congr 1
    exact (if_neg h).symm
  rw [← e]
  exact runs_code (E := envR [a, b, ofK zV 16 (rbF 24 16 a b) n]) (E' := envR [smp [7, 7, 7, 7, 7, 7, 7, 7, 9, 1, 1, 1, 1, 1, 1, 1], smp [3, 1, 1, 1, 1, 1, 1, 1, 9, 1, 1, 1, 1, 1, 1, 1], zV]) rfl (sumR_ok _ (byt_three ha hb (ofK_byt byt_zero _ _ _))) (fuel := 60) (need' := bNeed 16 24 1001 1004 1002 0) (M' := [vrow 1002 zV, vrow 1003 zV, vrow 1004 (smp [3, 1, 1, 1, 1, 1, 1, 1, 9, 1, 1, 1, 1, 1, 1, 1]), vrow 1001 (smp [7, 7, 7, 7, 7, 7, 7, 7, 9, 1, 1, 1, 1, 1, 1, 1])]) rfl (bD (decide (sgnI b 16 n > sgnI a 16 n)) false (getI a 16 n)) b16_24nTs (bD_ok (decide_eq_false h) (g_bd ha (by omega) _).1 (g_bd ha (by omega) _).2) (fun g β => by kernel_rfl)
--EVTS b16_25yTs | fun (r6 : Rw) (ba bb bo : Nat) (a b : Nat → Int) (n : Nat) (g : Nat → Value) (β : Nat → Fr) => (bPath 16 25 r6 ba bb bo a b (smp [3, 1, 1, 1, 1, 1, 1, 1, 9, 1, 1, 1, 1, 1, 1, 1]) (smp [7, 7, 7, 7, 7, 7, 7, 7, 9, 1, 1, 1, 1, 1, 1, 1]) n (getI b 16 n) g β, bD (decide (getI b 16 n > getI a 16 n)) true (getI b 16 n))
def b16_25yTs : List Nat := [3, 2, 1, 0, 0, 0, 0, 0, 0, 0, 0, 0, 0, 0, 0, 0, 0, 0, 0, 0, 0, 0, 0, 0, 0, 0, 0]
theorem b16_25y (a b : Nat → Int) (ha : Byt a) (hb : Byt b) (n : Nat) (h : getI b 16 n > getI a 16 n) : BRound 16 25 a b n := by
  intro r6 ba bb bo
  have e : setI (ofK zV 16 (rbF 25 16 a b) n) 16 n (getI b 16 n) = ofK zV 16 (rbF 25 16 a b) (n + 1) := by
    rw [ofK]
    congr 1
    exact (if_pos h).symm
  rw [← e]
  exact runs_code (E := envR [a, b, ofK zV 16 (rbF 25 16 a b) n]) (E' := envR [smp [3, 1, 1, 1, 1, 1, 1, 1, 9, 1, 1, 1, 1, 1, 1, 1], smp [7, 7, 7, 7, 7, 7, 7, 7, 9, 1, 1, 1, 1, 1, 1, 1], zV]) rfl (sumR_ok _ (byt_three ha hb (ofK_byt byt_zero _ _ _))) (fuel := 60) (need' := bNeed 16 25 1001 1004 1002 0) (M' := [vrow 1002 zV, vrow 1003 zV, vrow 1004 (smp [7, 7, 7, 7, 7, 7, 7, 7, 9, 1, 1, 1, 1, 1, 1, 1]), vrow 1001 (smp [3, 1, 1, 1, 1, 1, 1, 1, 9, 1, 1, 1, 1, 1, 1, 1])]) rfl (bD (decide (getI b 16 n > getI a 16 n)) true (getI b 16 n)) b16_25yTs (bD_ok (decide_eq_true h) (g_bd hb (by omega) _).1 (g_bd hb (by omega) _).2) (fun g β => by kernel_rfl)
--EVTS b16_25nTs | fun (r6 : Rw) (ba bb bo : Nat) (a b : Nat → Int) (n : Nat) (g : Nat → Value) (β : Nat → Fr) => (bPath 16 25 r6 ba bb bo a b (smp [7, 7, 7, 7, 7, 7, 7, 7, 9, 1, 1, 1, 1, 1, 1, 1]) (smp [3, 1, 1, 1, 1, 1, 1, 1, 9, 1, 1, 1, 1, 1, 1, 1]) n (getI a 16 n) g β, bD (decide (getI b 16 n > getI a 16 n)) false (getI a 16 n))
def b16_25nTs : List Nat := [3, 2, 1, 0, 0, 0, 0, 0, 0, 0, 0, 0, 0, 0, 0, 0, 0, 0, 0, 0, 0, 0, 0, 0, 0, 0, 0]
theorem b16_25n (a b : Nat → Int) (ha : Byt a) (hb : Byt b) (n : Nat) (h : ¬ getI b 16 n > getI a 16 n) : BRound 16 25 a b n := by
  intro r6 ba bb bo
  have e : setI (ofK zV 16 (rbF 25 16 a b) n) 16 n (getI a 16 n) = ofK zV 16 (rbF 25 16 a b) (n + 1) := by
    rw [ofK]
    congr 1
    exact (if_neg h).symm
  rw [← e]
  exact runs_code (E := envR [a, b, ofK zV 16 (rbF 25 16 a b) n]) (E' := envR [smp [7, 7, 7, 7, 7, 7, 7, 7, 9, 1, 1, 1, 1, 1, 1, 1], smp [3, 1, 1, 1, 1, 1, 1, 1, 9, 1, 1, 1, 1, 1, 1, 1], zV]) rfl (sumR_ok _ (byt_three ha hb (ofK_byt byt_zero _ _ _))) (fuel := 60) (need' := bNeed 16 25 1001 1004 1002 0) (M' := [vrow 1002 zV, vrow 1003 zV, vrow 1004 (smp [3, 1, 1, 1, 1, 1, 1, 1, 9, 1, 1, 1, 1, 1, 1, 1]), vrow 1001 (smp [7, 7, 7, 7, 7, 7, 7, 7, 9, 1, 1, 1, 1, 1, 1, 1])]) rfl (bD (decide (getI b 16 n > getI a 16 n)) false (getI a 16 n)) b16_25nTs (bD_ok (decide_eq_false h) (g_bd ha (by omega) _).1 (g_bd ha (by omega) _).2) (fun g β => by kernel_rfl)
--EVTS b16_27Ts | fun (r6 : Rw) (ba bb bo : Nat) (a b : Nat → Int) (n : Nat) (g : Nat → Value) (β : Nat → Fr) => (bPath 16 27 r6 ba bb bo a b (smp [133, 24, 19, 6, 71, 19, 2, 14, 213, 8, 27, 16, 95, 12, 231, 15]) (smp [33, 24, 129, 6, 71, 19, 2, 14, 213, 8, 27, 16, 95, 12, 231, 25]) n (IntKind.u64.wrap (Int.tdiv (IntKind.u64.wrap (IntKind.u64.wrap (getI a 16 n + getI b 16 n) + 1)) 2)) g β, bD (true) true (IntKind.u64.wrap (Int.tdiv (IntKind.u64.wrap (IntKind.u64.wrap (getI a 16 n + getI b 16 n) + 1)) 2)))
def b16_27Ts : List Nat := [3, 2, 0, 0, 0, 0, 0, 0, 0, 0, 0, 0, 0, 0]
theorem b16_27 (a b : Nat → Int) (ha : Byt a) (hb : Byt b) (n : Nat) (h : True) : BRound 16 27 a b n := by
  intro r6 ba bb bo
  have e : setI (ofK zV 16 (rbF 27 16 a b) n) 16 n (IntKind.u64.wrap (Int.tdiv (IntKind.u64.wrap (IntKind.u64.wrap (getI a 16 n + getI b 16 n) + 1)) 2)) = ofK zV 16 (rbF 27 16 a b) (n + 1) := by
    rw [ofK]
    congr 1
  rw [← e]
  exact runs_code (E := envR [a, b, ofK zV 16 (rbF 27 16 a b) n]) (E' := envR [smp [133, 24, 19, 6, 71, 19, 2, 14, 213, 8, 27, 16, 95, 12, 231, 15], smp [33, 24, 129, 6, 71, 19, 2, 14, 213, 8, 27, 16, 95, 12, 231, 25], zV]) rfl (sumR_ok _ (byt_three ha hb (ofK_byt byt_zero _ _ _))) (fuel := 60) (need' := bNeed 16 27 1001 1004 1002 0) (M' := [vrow 1002 zV, vrow 1003 zV, vrow 1004 (smp [33, 24, 129, 6, 71, 19, 2, 14, 213, 8, 27, 16, 95, 12, 231, 25]), vrow 1001 (smp [133, 24, 19, 6, 71, 19, 2, 14, 213, 8, 27, 16, 95, 12, 231, 15])]) rfl (bD (true) true (IntKind.u64.wrap (Int.tdiv (IntKind.u64.wrap (IntKind.u64.wrap (getI a 16 n + getI b 16 n) + 1)) 2))) b16_27Ts (bD_ok rfl (u64_bd _).1 (u64_bd _).2) (fun g β => by kernel_rfl)
--EVTS b32_14Ts | fun (r6 : Rw) (ba bb bo : Nat) (a b : Nat → Int) (n : Nat) (g : Nat → Value) (β : Nat → Fr) => (bPath 32 14 r6 ba bb bo a b (smp [133, 24, 19, 6, 71, 19, 2, 14, 213, 8, 27, 16, 95, 12, 231, 15]) (smp [33, 24, 129, 6, 71, 19, 2, 14, 213, 8, 27, 16, 95, 12, 231, 25]) n (IntKind.u64.wrap (getI a 32 n + getI b 32 n)) g β, bD (true) true (IntKind.u64.wrap (getI a 32 n + getI b 32 n)))
def b32_14Ts : List Nat := [3, 2, 0]
theorem b32_14 (a b : Nat → Int) (ha : Byt a) (hb : Byt b) (n : Nat) (h : True) : BRound 32 14 a b n := by
  intro r6 ba bb bo
  have e : setI (ofK zV 32 (rbF 14 32 a b) n) 32 n (IntKind.u64.wrap (getI a 32 n + getI b 32 n)) = ofK zV 32 (rbF 14 32 a b) (n + 1) := by
    rw [ofK]
    congr 1
  rw [← e]
  exact runs_code (E := envR [a, b, ofK zV 32 (rbF 14 32 a b) n]) (E' := envR [smp [133, 24, 19, 6, 71, 19, 2, 14, 213, 8, 27, 16, 95, 12, 231, 15], smp [33, 24, 129, 6, 71, 19, 2, 14, 213, 8, 27, 16, 95, 12, 231, 25], zV]) rfl (sumR_ok _ (byt_three ha hb (ofK_byt byt_zero _ _ _))) (fuel := 60) (need' := bNeed 32 14 1001 1004 1002 0) (M' := [vrow 1002 zV, vrow 1003 zV, vrow 1004 (smp [33, 24, 129, 6, 71, 19, 2, 14, 213, 8, 27, 16, 95, 12, 231, 25]), vrow 1001 (smp [133, 24, 19, 6, 71, 19, 2, 14, 213, 8, 27, 16, 95, 12, 231, 15])]) rfl (bD (true) true (IntKind.u64.wrap (getI a 32 n + getI b 32 n))) b32_14Ts (bD_ok rfl (u64_bd _).1 (u64_bd _).2) (fun g β => by kernel_rfl)
--EVTS b32_17Ts | fun (r6 : Rw) (ba bb bo : Nat) (a b : Nat → Int) (n : Nat) (g : Nat → Value) (β : Nat → Fr) => (bPath 32 17 r6 ba bb bo a b (smp [133, 24, 19, 6, 71, 19, 2, 14, 213, 8, 27, 16, 95, 12, 231, 15]) (smp [33, 24, 129, 6, 71, 19, 2, 14, 213, 8, 27, 16, 95, 12, 231, 25]) n (IntKind.u64.wrap (getI a 32 n - getI b 32 n)) g β, bD (true) true (IntKind.u64.wrap (getI a 32 n - getI b 32 n)))
def b32_17Ts : List Nat := [3, 2, 0, 0, 0, 0]
theorem b32_17 (a b : Nat → Int) (ha : Byt a) (hb : Byt b) (n : Nat) (h : True) : BRound 32 17 a b n := by
  intro r6 ba bb bo
  have e : setI (ofK zV 32 (rbF 17 32 a b) n) 32 n (IntKind.u64.wrap (getI a 32 n - getI b 32 n)) = ofK zV 32 (rbF 17 32 a b) (n + 1) := by
    rw [ofK]
    congr 1
  rw [← e]
  exact runs_code (E := envR [a, b, ofK zV 32 (rbF 17 32 a b) n]) (E' := envR [smp [133, 24, 19, 6, 71, 19, 2, 14, 213, 8, 27, 16, 95, 12, 231, 15], smp [33, 24, 129, 6, 71, 19, 2, 14, 213, 8, 27, 16, 95, 12, 231, 25], zV]) rfl (sumR_ok _ (byt_three ha hb (ofK_byt byt_zero _ _ _))) (fuel := 60) (need' := bNeed 32 17 1001 1004 1002 0) (M' := [vrow 1002 zV, vrow 1003 zV, vrow 1004 (smp [33, 24, 129, 6, 71, 19, 2, 14, 213, 8, 27, 16, 95, 12, 231, 25]), vrow 1001 (smp [133, 24, 19, 6, 71, 19, 2, 14, 213, 8, 27, 16, 95, 12, 231, 15])]) rfl (bD (true) true (IntKind.u64.wrap (getI a 32 n - getI b 32 n))) b32_17Ts (bD_ok rfl (u64_bd _).1 (u64_bd _).2) (fun g β => by kernel_rfl)
--EVTS b32_21Ts | fun (r6 : Rw) (ba bb bo : Nat) (a b : Nat → Int) (n : Nat) (g : Nat → Value) (β : Nat → Fr) => (bPath 32 21 r6 ba bb bo a b (smp [133, 24, 19, 6, 71, 19, 2, 14, 213, 8, 27, 16, 95, 12, 231, 15]) (smp [33, 24, 129, 6, 71, 19, 2, 14, 213, 8, 27, 16, 95, 12, 231, 25]) n (IntKind.u64.wrap (getI a 32 n * getI b 32 n)) g β, bD (true) true (IntKind.u64.wrap (getI a 32 n * getI b 32 n)))
def b32_21Ts : List Nat := [3, 2, 0, 0, 0, 0, 0, 0, 0]
theorem b32_21 (a b : Nat → Int) (ha : Byt a) (hb : Byt b) (n : Nat) (h : True) : BRound 32 21 a b n := by
  intro r6 ba bb bo
  have e : setI (ofK zV 32 (rbF 21 32 a b) n) 32 n (IntKind.u64.wrap (getI a 32 n * getI b 32 n)) = ofK zV 32 (rbF 21 32 a b) (n + 1) := by
    rw [ofK]
    congr 1
  rw [← e]
  exact runs_code (E := envR [a, b, ofK zV 32 (rbF 21 32 a b) n]) (E' := envR [smp [133, 24, 19, 6, 71, 19, 2, 14, 213, 8, 27, 16, 95, 12, 231, 15], smp [33, 24, 129, 6, 71, 19, 2, 14, 213, 8, 27, 16, 95, 12, 231, 25], zV]) rfl (sumR_ok _ (byt_three ha hb (ofK_byt byt_zero _ _ _))) (fuel := 60) (need' := bNeed 32 21 1001 1004 1002 0) (M' := [vrow 1002 zV, vrow 1003 zV, vrow 1004 (smp [33, 24, 129, 6, 71, 19, 2, 14, 213, 8, 27, 16, 95, 12, 231, 25]), vrow 1001 (smp [133, 24, 19, 6, 71, 19, 2, 14, 213, 8, 27, 16, 95, 12, 231, 15])]) rfl (bD (true) true (IntKind.u64.wrap (getI a 32 n * getI b 32 n))) b32_21Ts (bD_ok rfl (u64_bd _).1 (u64_bd _).2) (fun g β => by kernel_rfl)
--EVTS b32_22yTs | fun (r6 : Rw) (ba bb bo : Nat) (a b : Nat → Int) (n : Nat) (g : Nat → Value) (β : Nat → Fr) => (bPath 32 22 r6 ba bb bo a b (smp [7, 7, 7, 7, 7, 7, 7, 7, 9, 1, 1, 1, 1, 1, 1, 1]) (smp [3, 1, 1, 1, 1, 1, 1, 1, 9, 1, 1, 1, 1, 1, 1, 1]) n (getI b 32 n) g β, bD (decide (sgnI b 32 n < sgnI a 32 n)) true (getI b 32 n))
def b32_22yTs : List Nat := [3, 2, 0, 1, 1, 1, 1, 1, 0, 0, 0, 0, 0, 0, 0, 0, 0, 0, 0, 0, 0]
theorem b32_22y (a b : Nat → Int) (ha : Byt a) (hb : Byt b) (n : Nat) (h : sgnI b 32 n < sgnI a 32 n) : BRound 32 22 a b n := by
  intro r6 ba bb bo
  have e : setI (ofK zV 32 (rbF 22 32 a b) n) 32 n (getI b 32 n) = ofK zV 32 (rbF 22 32 a b) (n + 1) := by
    rw [ofK]
    congr 1
    exact (if_pos h).symm
  rw [← e]
  exact runs_code (E := envR [a, b, ofK zV 32 (rbF 22 32 a b) n]) (E' := envR [smp [7, 7, 7, 7, 7, 7, 7, 7, 9, 1, 1, 1, 1, 1, 1, 1], smp [3, 1, 1, 1, 1, 1, 1, 1, 9, 1, 1, 1, 1, 1, 1, 1], zV]) rfl (sumR_ok _ (byt_three ha hb (ofK_byt byt_zero _ _ _))) (fuel := 60) (need' := bNeed 32 22 1001 1004 1002 0) (M' := [vrow 1002 zV, vrow 1003 zV, vrow 1004 (smp [3, 1, 1, 1, 1, 1, 1, 1, 9, 1, 1, 1, 1, 1, 1, 1]), vrow 1001 (smp [7, 7, 7, 7, 7, 7, 7, 7, 9, 1, 1, 1, 1, 1, 1, 1])]) rfl (bD (decide (sgnI b 32 n < sgnI a 32 n)) true (getI b 32 n)) b32_22yTs (bD_ok (decide_eq_true h) (g_bd hb (by omega) _).1 (g_bd hb (by omega) _).2) (fun g β => by kernel_rfl)
--EVTS b32_22nTs | fun (r6 : Rw) (ba bb bo : Nat) (a b : Nat → Int) (n : Nat) (g : Nat → Value) (β : Nat → Fr) => (bPath 32 22 r6 ba bb bo a b (smp [3, 1, 1, 1, 1, 1, 1, 1, 9, 1, 1, 1, 1, 1, 1, 1]) (smp [7, 7, 7, 7, 7, 7, 7, 7, 9, 1, 1, 1, 1, 1, 1, 1]) n (getI a 32 n) g β, bD (decide (sgnI b 32 n < sgnI a 32 n)) false (getI a 32 n))
def b32_22nTs : List Nat := [3, 2, 0, 1, 0, 1, 0, 0, 0, 1, 1, 1, 0, 0, 0, 0, 0, 0, 0, 0, 0, 0, 0, 0, 0]
theorem b32_22n (a b : Nat → Int) (ha : Byt a) (hb : Byt b) (n : Nat) (h : ¬ sgnI b 32 n < sgnI a 32 n) : BRound 32 22 a b n := by
  intro r6 ba bb bo
  have e : setI (ofK zV 32 (rbF 22 32 a b) n) 32 n (getI a 32 n) = ofK zV 32 (rbF 22 32 a b) (n + 1) := by
    rw [ofK]
    congr 1
    exact (if_neg h).symm
  rw [← e]
  exact runs_code (E := envR [a, b, ofK zV 32 (rbF 22 32 a b) n]) (E' := envR [smp [3, 1, 1, 1, 1, 1, 1, 1, 9, 1, 1, 1, 1, 1, 1, 1], smp [7, 7, 7, 7, 7, 7, 7, 7, 9, 1, 1, 1, 1, 1, 1, 1], zV]) rfl (sumR_ok _ (byt_three ha hb (ofK_byt byt_zero _ _ _))) (fuel := 60) (need' := bNeed 32 22 1001 1004 1002 0) (M' := [vrow 1002 zV, vrow 1003 zV, vrow 1004 (smp [7, 7, 7, 7, 7, 7, 7, 7, 9, 1, 1, 1, 1, 1, 1, 1]), vrow 1001 (smp [3, 1, 1, 1, 1, 1, 1, 1, 9, 1, 1, 1, 1, 1, 1, 1])]) rfl (bD (decide (sgnI b 32 n < sgnI a 32 n)) false (getI a 32 n)) b32_22nTs (bD_ok (decide_eq_false h) (g_bd ha (by omega) _).1 (g_bd ha (by omega) _).2) (fun g β => by kernel_rfl)
--EVTS b32_23yTs | fun (r6 : Rw) (ba bb bo : Nat) (a b : Nat → Int) (n : Nat) (g : Nat → Value) (β : Nat → Fr) => (bPath 32 23 r6 ba bb bo a b (smp [7, 7, 7, 7, 7, 7, 7, 7, 9, 1, 1, 1, 1, 1, 1, 1]) (smp [3, 1, 1, 1, 1, 1, 1, 1, 9, 1, 1, 1, 1, 1, 1, 1]) n (getI b 32 n) g β, bD (decide (getI b 32 n < getI a 32 n)) true (getI b 32 n))
def b32_23yTs : List Nat := [3, 2, 0, 1, 1, 1, 1, 1, 0, 0, 0, 0, 0, 0, 0, 0, 0, 0, 0, 0, 0, 0, 0]
theorem b32_23y (a b : Nat → Int) (ha : Byt a) (hb : Byt b) (n : Nat) (h : getI b 32 n < getI a 32 n) : BRound 32 23 a b n := by
  intro r6 ba bb bo
  have e : setI (ofK zV 32 (rbF 23 32 a b) n) 32 n (getI b 32 n) = ofK zV 32 (rbF 23 32 a b) (n + 1) := by
    rw [ofK]
    congr 1
    exact (if_pos h).symm
  rw [← e]
  exact runs_code (E := envR [a, b, ofK zV 32 (rbF 23 32 a b) n]) (E' := envR [smp [7, 7, 7, 7, 7, 7, 7, 7, 9, 1, 1, 1, 1, 1, 1, 1], smp [3, 1, 1, 1, 1, 1, 1, 1, 9, 1, 1, 1, 1, 1, 1, 1], zV]) rfl (sumR_ok _ (byt_three ha hb (ofK_byt byt_zero _ _ _))) (fuel := 60) (need' := bNeed 32 23 1001 1004 1002 0) (M' := [vrow 1002 zV, vrow 1003 zV, vrow 1004 (smp [3, 1, 1, 1, 1, 1, 1, 1, 9, 1, 1, 1, 1, 1, 1, 1]), vrow 1001 (smp [7, 7, 7, 7, 7, 7, 7, 7, 9, 1, 1, 1, 1, 1, 1, 1])]) rfl (bD (decide (getI b 32 n < getI a 32 n)) true (getI b 32 n)) b32_23yTs (bD_ok (decide_eq_true h) (g_bd hb (by omega) _).1 (g_bd hb (by omega) _).2) (fun g β => by kernel_rfl)
--EVTS b32_23nTs | fun (r6 : Rw) (ba bb bo : Nat) (a b : Nat → Int) (n : Nat) (g : Nat → Value) (β : Nat → Fr) => (bPath 32 23 r6 ba bb bo a b (smp [3, 1, 1, 1, 1, 1, 1, 1, 9, 1, 1, 1, 1, 1, 1, 1]) (smp [7, 7, 7, 7, 7, 7, 7, 7, 9, 1, 1, 1, 1, 1, 1, 1]) n (getI a 32 n) g β, bD (decide (getI b 32 n < getI a 32 n)) false (getI a 32 n))
def b32_23nTs : List Nat := [3, 2, 0, 1, 0, 1, 0, 0, 0, 1, 1, 1, 0, 0, 0, 0, 0, 0, 0, 0, 0, 0, 0, 0, 0, 0, 0]
theorem b32_23n (a b : Nat → Int) (ha : Byt a) (hb : Byt b) (n : Nat) (h : ¬ getI b 32 n < getI a 32 n) : BRound 32 23 a b n := by
  intro r6 ba bb bo
  have e : setI (ofK zV 32 (rbF 23 32 a b) n) 32 n (getI a 32 n) = ofK zV 32 (rbF 23 32 a b) (n + 1) := by
    rw [ofK]
    congr 1
    exact (if_neg h).symm
  rw [← e]
  exact runs_code (E := envR [a, b, ofK zV 32 (rbF 23 32 a b) n]) (E' := envR [smp [3, 1, 1, 1, 1, 1, 1, 1, 9, 1, 1, 1, 1, 1, 1, 1], smp [7, 7, 7, 7, 7, 7, 7, 7, 9, 1, 1, 1, 1, 1, 1, 1], zV]) rfl (sumR_ok _ (byt_three ha hb (ofK_byt byt_zero _ _ _))) (fuel := 60) (need' := bNeed 32 23 1001 1004 1002 0) (M' := [vrow 1002 zV, vrow 1003 zV, vrow 1004 (smp [7, 7, 7, 7, 7, 7, 7, 7, 9, 1, 1, 1, 1, 1, 1, 1]), vrow 1001 (smp [3, 1, 1, 1, 1, 1, 1, 1, 9, 1, 1, 1, 1, 1, 1, 1])]) rfl (bD (decide (getI b 32 n < getI a 32 n)) false (getI a 32 n)) b32_23nTs (bD_ok (decide_eq_false h) (g_bd ha (by omega) _).1 (g_bd ha (by omega) _).2) (fun g β => by kernel_rfl)
--EVTS b32_24yTs | fun (r6 : Rw) (ba bb bo : Nat) (a b : Nat → Int) (n : Nat) (g : Nat → Value) (β : Nat → Fr) => (bPath 32 24 r6 ba bb bo a b (smp [3, 1, 1, 1, 1, 1, 1, 1, 9, 1, 1, 1, 1, 1, 1, 1]) (smp [7, 7, 7, 7, 7, 7, 7, 7, 9, 1, 1, 1, 1, 1, 1, 1]) n (getI b 32 n) g β, bD (decide (sgnI b 32 n > sgnI a 32 n)) true (getI b 32 n))
def b32_24yTs : List Nat := [3, 2, 1, 0, 0, 0, 0, 0, 0, 0, 0, 0, 0, 0, 0, 0, 0, 0, 0, 0, 0, 0, 0, 0, 0]
theorem b32_24y (a b : Nat → Int) (ha : Byt a) (hb : Byt b) (n : Nat) (h : sgnI b 32 n > sgnI a 32 n) : BRound 32 24 a b n := by
  intro r6 ba bb bo
  have e : setI (ofK zV 32 (rbF 24 32 a b) n) 32 n (getI b 32 n) = ofK zV 32 (rbF 24 32 a b) (n + 1) := by
    rw [ofK]
    congr 1
    exact (if_pos h).symm
  rw [← e]
  exact runs_code (E := envR [a, b, ofK zV 32 (rbF 24 32 a b) n]) (E' := envR [smp [3, 1, 1, 1, 1, 1, 1, 1, 9, 1, 1, 1, 1, 1, 1, 1], smp [7, 7, 7, 7, 7, 7, 7, 7, 9, 1, 1, 1, 1, 1, 1, 1], zV]) rfl (sumR_ok _ (byt_three ha hb (ofK_byt byt_zero _ _ _))) (fuel := 60) (need' := bNeed 32 24 1001 1004 1002 0) (M' := [vrow 1002 zV, vrow 1003 zV, vrow 1004 (smp [7, 7, 7, 7, 7, 7, 7, 7, 9, 1, 1, 1, 1, 1, 1, 1]), vrow 1001 (smp [3, 1, 1, 1, 1, 1, 1, 1, 9, 1, 1, 1, 1, 1, 1, 1])]) rfl (bD (decide (sgnI b 32 n > sgnI a 32 n)) true (getI b 32 n)) b32_24yTs (bD_ok (decide_eq_true h) (g_bd hb (by omega) _).1 (g_bd hb (by omega) _).2) (fun g β => by kernel_rfl)
--EVTS b32_24nTs | fun (r6 : Rw) (ba bb bo : Nat) (a b : Nat → Int) (n : Nat) (g : Nat → Value) (β : Nat → Fr) => (bPath 32 24 r6 ba bb bo a b (smp [7, 7, 7, 7, 7, 7, 7, 7, 9, 1, 1, 1, 1, 1, 1, 1]) (smp [3, 1, 1, 1, 1, 1, 1, 1, 9, 1, 1, 1, 1, 1, 1, 1]) n (getI a 32 n) g β, bD (decide (sgnI b 32 n > sgnI a 32 n)) false (getI a 32 n))
def b32_24nTs : List Nat := [3, 2, 1, 0, 0, 0, 0, 0, 0, 0, 0, 0, 0, 0, 0, 0, 0, 0, 0, 0, 0, 0, 0, 0, 0]
theorem b32_24n (a b : Nat → Int) (ha : Byt a) (hb : Byt b) (n : Nat) (h : ¬ sgnI b 32 n > sgnI a 32 n) : BRound 32 24 a b n := by
  intro r6 ba bb bo
  have e : setI (ofK zV 32 (rbF 24 32 a b) n) 32 n (getI a 32 n) = ofK zV 32 (rbF 24 32 a b) (n + 1) := by
    rw [ofK]
    congr 1
    exact (if_neg h).symm
  rw [← e]
  exact runs_code (E := envR [a, b, ofK zV 32 (rbF 24 32 a b) n]) (E' := envR [smp [7, 7, 7, 7, 7, 7, 7, 7, 9, 1, 1, 1, 1, 1, 1, 1], smp [3, 1, 1, 1, 1, 1, 1, 1, 9, 1, 1, 1, 1, 1, 1, 1], zV]) rfl (sumR_ok _ (byt_three ha hb (ofK_byt byt_zero _ _ _))) (fuel := 60) (need' := bNeed 32 24 1001 1004 1002 0) (M' := [vrow 1002 zV, vrow 1003 zV, vrow 1004 (smp [3, 1, 1, 1, 1, 1, 1, 1, 9, 1, 1, 1, 1, 1, 1, 1]), vrow 1001 (smp [7, 7, 7, 7, 7, 7, 7, 7, 9, 1, 1, 1, 1, 1, 1, 1])]) rfl (bD (decide (sgnI b 32 n > sgnI a 32 n)) false (getI a 32 n)) b32_24nTs (bD_ok (decide_eq_false h) (g_bd ha (by omega) _).1 (g_bd ha (by omega) _).2) (fun g β => by kernel_rfl)
--EVTS b32_25yTs | fun (r6 : Rw) (ba bb bo : Nat) (a b : Nat → Int) (n : Nat) (g : Nat → Value) (β : Nat → Fr) => (bPath 32 25 r6 ba bb bo a b (smp [3, 1, 1, 1, 1, 1, 1, 1, 9, 1, 1, 1, 1, 1, 1, 1]) (smp [7, 7, 7, 7, 7, 7, 7, 7, 9, 1, 1, 1, 1, 1, 1, 1]) n (getI b 32 n) g β, bD (decide (getI b 32 n > getI a 32 n)) true (getI b 32 n))
def b32_25yTs : List Nat := [3, 2, 1, 0, 0, 0, 0, 0, 0, 0, 0, 0, 0, 0, 0, 0, 0, 0, 0, 0, 0, 0, 0, 0, 0, 0, 0]
theorem b32_25y (a b : Nat → Int) (ha : Byt a) (hb : Byt b) (n : Nat) (h : getI b 32 n > getI a 32 n) : BRound 32 25 a b n := by
  intro r6 ba bb bo
  have e : setI (ofK zV 32 (rbF 25 32 a b) n) 32 n (getI b 32 n) = ofK zV 32 (rbF 25 32 a b) (n + 1) := by
    rw [ofK]
    congr 1
    exact (if_pos h).symm
  rw [← e]
  exact runs_code (E := envR [a, b, ofK zV 32 (rbF 25 32 a b) n]) (E' := envR [smp [3, 1, 1, 1, 1, 1, 1, 1, 9, 1, 1, 1, 1, 1, 1, 1], smp [7, 7, 7, 7, 7, 7, 7, 7, 9, 1, 1, 1, 1, 1, 1, 1], zV]) rfl (sumR_ok _ (byt_three ha hb (ofK_byt byt_zero _ _ _))) (fuel := 60) (need' := bNeed 32 25 1001 1004 1002 0) (M' := [vrow 1002 zV, vrow 1003 zV, vrow 1004 (smp [7, 7, 7, 7, 7, 7, 7, 7, 9, 1, 1, 1, 1, 1, 1, 1]), vrow 1001 (smp [3, 1, 1, 1, 1, 1, 1, 1, 9, 1, 1, 1, 1, 1, 1, 1])]) rfl (bD (decide (getI b 32 n > getI a 32 n)) true (getI b 32 n)) b32_25yTs (bD_ok (decide_eq_true h) (g_bd hb (by omega) _).1 (g_bd hb (by omega) _).2) (fun g β => by kernel_rfl)
--EVTS b32_25nTs | fun (r6 : Rw) (ba bb bo : Nat) (a b : Nat → Int) (n : Nat) (g : Nat → Value) (β : Nat → Fr) => (bPath 32 25 r6 ba bb bo a b (smp [7, 7, 7, 7, 7, 7, 7, 7, 9, 1, 1, 1, 1, 1, 1, 1]) (smp [3, 1, 1, 1, 1, 1, 1, 1, 9, 1, 1, 1, 1, 1, 1, 1]) n (getI a 32 n) g β, bD (decide (getI b 32 n > getI a 32 n)) false (getI a 32 n))
def b32_25nTs : List Nat := [3, 2, 1, 0, 0, 0, 0, 0, 0, 0, 0, 0, 0, 0, 0, 0, 0, 0, 0, 0, 0, 0, 0, 0, 0, 0, 0]
theorem b32_25n (a b : Nat → Int) (ha : Byt a) (hb : Byt b) (n : Nat) (h : ¬ getI b 32 n > getI a 32 n) : BRound 32 25 a b n := by
  intro r6 ba bb bo
  have e : setI (ofK zV 32 (rbF 25 32 a b) n) 32 n (getI a 32 n) = ofK zV 32 (rbF 25 32 a b) (n + 1) := by
    rw [ofK]
    congr 1
    exact (if_neg h).symm
  rw [← e]
  exact runs_code (E := envR [a, b, ofK zV 32 (rbF 25 32 a b) n]) (E' := envR [smp [7, 7, 7, 7, 7, 7, 7, 7, 9, 1, 1, 1, 1, 1, 1, 1], smp [3, 1, 1, 1, 1, 1, 1, 1, 9, 1, 1, 1, 1, 1, 1, 1], zV]) rfl (sumR_ok _ (byt_three ha hb (ofK_byt byt_zero _ _ _))) (fuel := 60) (need' := bNeed 32 25 1001 1004 1002 0) (M' := [vrow 1002 zV, vrow 1003 zV, vrow 1004 (smp [3, 1, 1, 1, 1, 1, 1, 1, 9, 1, 1, 1, 1, 1, 1, 1]), vrow 1001 (smp [7, 7, 7, 7, 7, 7, 7, 7, 9, 1, 1, 1, 1, 1, 1, 1])]) rfl (bD (decide (getI b 32 n > getI a 32 n)) false (getI a 32 n)) b32_25nTs (bD_ok (decide_eq_false h) (g_bd ha (by omega) _).1 (g_bd ha (by omega) _).2) (fun g β => by kernel_rfl)
--EVTS b64_14Ts | fun (r6 : Rw) (ba bb bo : Nat) (a b : Nat → Int) (n : Nat) (g : Nat → Value) (β : Nat → Fr) => (bPath 64 14 r6 ba bb bo a b (smp [133, 24, 19, 6, 71, 19, 2, 14, 213, 8, 27, 16, 95, 12, 231, 15]) (smp [33, 24, 129, 6, 71, 19, 2, 14, 213, 8, 27, 16, 95, 12, 231, 25]) n (IntKind.u64.wrap (getI a 64 n + getI b 64 n)) g β, bD (true) true (IntKind.u64.wrap (getI a 64 n + getI b 64 n)))
def b64_14Ts : List Nat := [3, 2, 0]
theorem b64_14 (a b : Nat → Int) (ha : Byt a) (hb : Byt b) (n : Nat) (h : True) : BRound 64 14 a b n := by
  intro r6 ba bb bo
  have e : setI (ofK zV 64 (rbF 14 64 a b) n) 64 n (IntKind.u64.wrap (getI a 64 n + getI b 64 n)) = ofK zV 64 (rbF 14 64 a b) (n + 1) := by
    rw [ofK]
    congr 1
  rw [← e]
  exact runs_code (E := envR [a, b, ofK zV 64 (rbF 14 64 a b) n]) (E' := envR [smp [133, 24, 19, 6, 71, 19, 2, 14, 213, 8, 27, 16, 95, 12, 231, 15], smp [33, 24, 129, 6, 71, 19, 2, 14, 213, 8, 27, 16, 95, 12, 231, 25], zV]) rfl (sumR_ok _ (byt_three ha hb (ofK_byt byt_zero _ _ _))) (fuel := 60) (need' := bNeed 64 14 1001 1004 1002 0) (M' := [vrow 1002 zV, vrow 1003 zV, vrow 1004 (smp [33, 24, 129, 6, 71, 19, 2, 14, 213, 8, 27, 16, 95, 12, 231, 25]), vrow 1001 (smp [133, 24, 19, 6, 71, 19, 2, 14, 213, 8, 27, 16, 95, 12, 231, 15])]) rfl (bD (true) true (IntKind.u64.wrap (getI a 64 n + getI b 64 n))) b64_14Ts (bD_ok rfl (u64_bd _).1 (u64_bd _).2) (fun g β => by kernel_rfl)
--EVTS b64_17Ts | fun (r6 : Rw) (ba bb bo : Nat) (a b : Nat → Int) (n : Nat) (g : Nat → Value) (β : Nat → Fr) => (bPath 64 17 r6 ba bb bo a b (smp [133, 24, 19, 6, 71, 19, 2, 14, 213, 8, 27, 16, 95, 12, 231, 15]) (smp [33, 24, 129, 6, 71, 19, 2, 14, 213, 8, 27, 16, 95, 12, 231, 25]) n (IntKind.u64.wrap (getI a 64 n - getI b 64 n)) g β, bD (true) true (IntKind.u64.wrap (getI a 64 n - getI b 64 n)))
def b64_17Ts : List Nat := [3, 2, 0, 0, 0, 0]
theorem b64_17 (a b : Nat → Int) (ha : Byt a) (hb : Byt b) (n : Nat) (h : True) : BRound 64 17 a b n := by
  intro r6 ba bb bo
  have e : setI (ofK zV 64 (rbF 17 64 a b) n) 64 n (IntKind.u64.wrap (getI a 64 n - getI b 64 n)) = ofK zV 64 (rbF 17 64 a b) (n + 1) := by
    rw [ofK]
    congr 1
  rw [← e]
  exact runs_code (E := envR [a, b, ofK zV 64 (rbF 17 64 a b) n]) (E' := envR [smp [133, 24, 19, 6, 71, 19, 2, 14, 213, 8, 27, 16, 95, 12, 231, 15], smp [33, 24, 129, 6, 71, 19, 2, 14, 213, 8, 27, 16, 95, 12, 231, 25], zV]) rfl (sumR_ok _ (byt_three ha hb (ofK_byt byt_zero _ _ _))) (fuel := 60) (need' := bNeed 64 17 1001 1004 1002 0) (M' := [vrow 1002 zV, vrow 1003 zV, vrow 1004 (smp [33, 24, 129, 6, 71, 19, 2, 14, 213, 8, 27, 16, 95, 12, 231, 25]), vrow 1001 (smp [133, 24, 19, 6, 71, 19, 2, 14, 213, 8, 27, 16, 95, 12, 231, 15])]) rfl (bD (true) true (IntKind.u64.wrap (getI a 64 n - getI b 64 n))) b64_17Ts (bD_ok rfl (u64_bd _).1 (u64_bd _).2) (fun g β => by kernel_rfl)
--EVTS b64_21Ts | fun (r6 : Rw) (ba bb bo : Nat) (a b : Nat → Int) (n : Nat) (g : Nat → Value) (β : Nat → Fr) => (bPath 64 21 r6 ba bb bo a b (smp [133, 24, 19, 6, 71, 19, 2, 14, 213, 8, 27, 16, 95, 12, 231, 15]) (smp [33, 24, 129, 6, 71, 19, 2, 14, 213, 8, 27, 16, 95, 12, 231, 25]) n (IntKind.u64.wrap (getI a 64 n * getI b 64 n)) g β, bD (true) true (IntKind.u64.wrap (getI a 64 n * getI b 64 n)))
def b64_21Ts : List Nat := [3, 2, 0, 0, 0, 0, 0, 0, 0]
theorem b64_21 (a b : Nat → Int) (ha : Byt a) (hb : Byt b) (n : Nat) (h : True) : BRound 64 21 a b n := by
  intro r6 ba bb bo
  have e : setI (ofK zV 64 (rbF 21 64 a b) n) 64 n (IntKind.u64.wrap (getI a 64 n * getI b 64 n)) = ofK zV 64 (rbF 21 64 a b) (n + 1) := by
    rw [ofK]
    congr 1
  rw [← e]
  exact runs_code (E := envR [a, b, ofK zV 64 (rbF 21 64 a b) n]) (E' := envR [smp [133, 24, 19, 6, 71, 19, 2, 14, 213, 8, 27, 16, 95, 12, 231, 15], smp [33, 24, 129, 6, 71, 19, 2, 14, 213, 8, 27, 16, 95, 12, 231, 25], zV]) rfl (sumR_ok _ (byt_three ha hb (ofK_byt byt_zero _ _ _))) (fuel := 60) (need' := bNeed 64 21 1001 1004 1002 0) (M' := [vrow 1002 zV, vrow 1003 zV, vrow 1004 (smp [33, 24, 129, 6, 71, 19, 2, 14, 213, 8, 27, 16, 95, 12, 231, 25]), vrow 1001 (smp [133, 24, 19, 6, 71, 19, 2, 14, 213, 8, 27, 16, 95, 12, 231, 15])]) rfl (bD (true) true (IntKind.u64.wrap (getI a 64 n * getI b 64 n))) b64_21Ts (bD_ok rfl (u64_bd _).1 (u64_bd _).2) (fun g β => by kernel_rfl)
noncomputable def bHole (w k : Int) (a b : Nat → Int) (id : Nat) (_ : Code) (T : Tm) (M : List Rw) : Option Hole :=
  match Nat.beq id 1 with
  | false => none
  | true => match tget T 11 with
    | .int .i64 i => match M with
      | [ro, r6, rb, ra] => some (mkHole bBlk 171 (bNeed w k ra.b rb.b ro.b i) [vrow ro.b (ofK zV w (rbF k w a b) i.toNat), r6, vrow rb.b b, vrow ra.b a] [decide (0 ≤ i)] .normal [] bHav [vrow ro.b (ofK zV w (rbF k w a b) (i.toNat + 1)), r6, vrow rb.b b, vrow ra.b a])
      | _ => none
    | _ => none
noncomputable def envB (w k : Int) (a b : Nat → Int) : Env := { P := Try.prog, known := [a, b], sum := sumO, hole := bHole w k a b }
theorem b_holes (w k : Int) (a b : Nat → Int) (hr : ∀ n, BRound w k a b n) : HolesOk (envB w k a b) := by
  intro id body T M H hq hn hneed hrows hpre w0 w1 Q hS hQ
  replace hq : bHole w k a b id body T M = some H := hq
  unfold bHole at hq
  split at hq
  · cases hq
  · split at hq
    · rename_i i _
      split at hq
      · cases hq
        have h0 := hpre _ (List.mem_cons_self ..)
        simp only [decide_eq_true_eq] at h0
        obtain ⟨n, rfl⟩ : ∃ n : Nat, i = n := ⟨i.toNat, by omega⟩
        exact mkHole_ok (hr n _ _ _ _) (fun p hp => by cases hp) hn hneed (by rw [hrows] at hS; exact hS) fun ξ w' h => hQ ξ w' h
      · cases hq
    · cases hq
noncomputable def biPath (op w k : Int) (L : Nat) (a b : Nat → Int) (β : Nat → Fr) : Out :=
  evPath (envB w k a b) (envB w k (smp [1]) zV) 60 31 [.int .i64 op, .agg (bs a), .agg (bs b)] [.int .i64 op, .agg (bs (smp [1])), .agg (bs zV)] (.tuple #[.agg (bs (ofK zV w (rbF k w a b) L)), .int .i64 0]) β
--EVTS rb64878Ts | fun (a b : Nat → Int) (β : Nat → Fr) => (biPath 64878 8 14 16 a b β, ([] : List (Bool × Bool)))
def rb64878Ts : List Nat := [0, 0, 0, 0, 0, 0, 0, 0, 0, 0, 0, 0, 0, 0, 0, 0, 0, 0, 0, 0, 0, 0, 0, 0, 0, 0, 0, 0, 0, 0, 0, 0, 0, 0, 0, 0, 0, 0, 0, 0, 0, 0, 0, 0, 0, 0, 0, 0, 0, 0]
theorem rb64878 (a b : Nat → Int) (ha : Byt a) (hb : Byt b) (w : World) : Calls Try.prog 31 #[.int .i64 64878, .agg (bs a), .agg (bs b)] w fun e w' => e = .returned (.tuple #[.agg (bs (ofK zV 8 (rbF 14 8 a b) 16)), .int .i64 0]) ∧ Gr w w' :=
  ev_path (E := envB 8 14 a b) (E' := envB 8 14 (smp [1]) zV) rfl (sumO_ok' (envB 8 14 a b) rfl (byt_two ha hb)) (fuel := 60) (args' := [.int .i64 64878, .agg (bs (smp [1])), .agg (bs zV)]) [] rb64878Ts (fun p hp => by cases hp) (fun β => by kernel_rfl) w (b_holes 8 14 a b (fun n => b8_14 a b ha hb n trivial))
--EVTS rb64879Ts | fun (a b : Nat → Int) (β : Nat → Fr) => (biPath 64879 8 15 16 a b β, ([] : List (Bool × Bool)))
def rb64879Ts : List Nat := [0, 0, 0, 0, 0, 0, 0, 0, 0, 0, 0, 0, 0, 0, 0, 0, 0, 0, 0, 0, 0, 0, 0, 0, 0, 0, 0, 0, 0, 0, 0, 0, 0, 0, 0, 0, 0, 0, 0, 0, 0, 0, 0, 0, 0, 0, 0, 0, 0, 0]
theorem rb64879 (a b : Nat → Int) (ha : Byt a) (hb : Byt b) (w : World) : Calls Try.prog 31 #[.int .i64 64879, .agg (bs a), .agg (bs b)] w fun e w' => e = .returned (.tuple #[.agg (bs (ofK zV 8 (rbF 15 8 a b) 16)), .int .i64 0]) ∧ Gr w w' :=
  ev_path (E := envB 8 15 a b) (E' := envB 8 15 (smp [1]) zV) rfl (sumO_ok' (envB 8 15 a b) rfl (byt_two ha hb)) (fuel := 60) (args' := [.int .i64 64879, .agg (bs (smp [1])), .agg (bs zV)]) [] rb64879Ts (fun p hp => by cases hp) (fun β => by kernel_rfl) w (b_holes 8 15 a b (fun n => b8_15 a b ha hb n trivial))
--EVTS rb64880Ts | fun (a b : Nat → Int) (β : Nat → Fr) => (biPath 64880 8 16 16 a b β, ([] : List (Bool × Bool)))
def rb64880Ts : List Nat := [0, 0, 0, 0, 0, 0, 0, 0, 0, 0, 0, 0, 0, 0, 0, 0, 0, 0, 0, 0, 0, 0, 0, 0, 0, 0, 0, 0, 0, 0, 0, 0, 0, 0, 0, 0, 0, 0, 0, 0, 0, 0, 0, 0, 0, 0, 0, 0, 0, 0]
theorem rb64880 (a b : Nat → Int) (ha : Byt a) (hb : Byt b) (w : World) : Calls Try.prog 31 #[.int .i64 64880, .agg (bs a), .agg (bs b)] w fun e w' => e = .returned (.tuple #[.agg (bs (ofK zV 8 (rbF 16 8 a b) 16)), .int .i64 0]) ∧ Gr w w' :=
  ev_path (E := envB 8 16 a b) (E' := envB 8 16 (smp [1]) zV) rfl (sumO_ok' (envB 8 16 a b) rfl (byt_two ha hb)) (fuel := 60) (args' := [.int .i64 64880, .agg (bs (smp [1])), .agg (bs zV)]) [] rb64880Ts (fun p hp => by cases hp) (fun β => by kernel_rfl) w (b_holes 8 16 a b (fun n => b8_16 a b ha hb n trivial))
--EVTS rb64881Ts | fun (a b : Nat → Int) (β : Nat → Fr) => (biPath 64881 8 17 16 a b β, ([] : List (Bool × Bool)))
def rb64881Ts : List Nat := [0, 0, 0, 0, 0, 0, 0, 0, 0, 0, 0, 0, 0, 0, 0, 0, 0, 0, 0, 0, 0, 0, 0, 0, 0, 0, 0, 0, 0, 0, 0, 0, 0, 0, 0, 0, 0, 0, 0, 0, 0, 0, 0, 0, 0, 0, 0, 0, 0, 0]
theorem rb64881 (a b : Nat → Int) (ha : Byt a) (hb : Byt b) (w : World) : Calls Try.prog 31 #[.int .i64 64881, .agg (bs a), .agg (bs b)] w fun e w' => e = .returned (.tuple #[.agg (bs (ofK zV 8 (rbF 17 8 a b) 16)), .int .i64 0]) ∧ Gr w w' :=
  ev_path (E := envB 8 17 a b) (E' := envB 8 17 (smp [1]) zV) rfl (sumO_ok' (envB 8 17 a b) rfl (byt_two ha hb)) (fuel := 60) (args' := [.int .i64 64881, .agg (bs (smp [1])), .agg (bs zV)]) [] rb64881Ts (fun p hp => by cases hp) (fun β => by kernel_rfl) w (b_holes 8 17 a b (fun n => b8_17 a b ha hb n trivial))
--EVTS rb64882Ts | fun (a b : Nat → Int) (β : Nat → Fr) => (biPath 64882 8 18 16 a b β, ([] : List (Bool × Bool)))
def rb64882Ts : List Nat := [0, 0, 0, 0, 0, 0, 0, 0, 0, 0, 0, 0, 0, 0, 0, 0, 0, 0, 0, 0, 0, 0, 0, 0, 0, 0, 0, 0, 0, 0, 0, 0, 0, 0, 0, 0, 0, 0, 0, 0, 0, 0, 0, 0, 0, 0, 0, 0, 0, 0]
theorem rb64882 (a b : Nat → Int) (ha : Byt a) (hb : Byt b) (w : World) : Calls Try.prog 31 #[.int .i64 64882, .agg (bs a), .agg (bs b)] w fun e w' => e = .returned (.tuple #[.agg (bs (ofK zV 8 (rbF 18 8 a b) 16)), .int .i64 0]) ∧ Gr w w' :=
  ev_path (E := envB 8 18 a b) (E' := envB 8 18 (smp [1]) zV) rfl (sumO_ok' (envB 8 18 a b) rfl (byt_two ha hb)) (fuel := 60) (args' := [.int .i64 64882, .agg (bs (smp [1])), .agg (bs zV)]) [] rb64882Ts (fun p hp => by cases hp) (fun β => by kernel_rfl) w (b_holes 8 18 a b (fun n => b8_18 a b ha hb n trivial))
--EVTS rb64883Ts | fun (a b : Nat → Int) (β : Nat → Fr) => (biPath 64883 8 19 16 a b β, ([] : List (Bool × Bool)))
def rb64883Ts : List Nat := [0, 0, 0, 0, 0, 0, 0, 0, 0, 0, 0, 0, 0, 0, 0, 0, 0, 0, 0, 0, 0, 0, 0, 0, 0, 0, 0, 0, 0, 0, 0, 0, 0, 0, 0, 0, 0, 0, 0, 0, 0, 0, 0, 0, 0, 0, 0, 0, 0, 0]
theorem rb64883 (a b : Nat → Int) (ha : Byt a) (hb : Byt b) (w : World) : Calls Try.prog 31 #[.int .i64 64883, .agg (bs a), .agg (bs b)] w fun e w' => e = .returned (.tuple #[.agg (bs (ofK zV 8 (rbF 19 8 a b) 16)), .int .i64 0]) ∧ Gr w w' :=
  ev_path (E := envB 8 19 a b) (E' := envB 8 19 (smp [1]) zV) rfl (sumO_ok' (envB 8 19 a b) rfl (byt_two ha hb)) (fuel := 60) (args' := [.int .i64 64883, .agg (bs (smp [1])), .agg (bs zV)]) [] rb64883Ts (fun p hp => by cases hp) (fun β => by kernel_rfl) w (b_holes 8 19 a b (fun n => b8_19 a b ha hb n trivial))
--EVTS rb64886Ts | fun (a b : Nat → Int) (β : Nat → Fr) => (biPath 64886 8 22 16 a b β, ([] : List (Bool × Bool)))
def rb64886Ts : List Nat := [0, 0, 0, 0, 0, 0, 0, 0, 0, 0, 0, 0, 0, 0, 0, 0, 0, 0, 0, 0, 0, 0, 0, 0, 0, 0, 0, 0, 0, 0, 0, 0, 0, 0, 0, 0, 0, 0, 0, 0, 0, 0, 0, 0, 0, 0, 0, 0, 0, 0]
theorem rb64886 (a b : Nat → Int) (ha : Byt a) (hb : Byt b) (w : World) : Calls Try.prog 31 #[.int .i64 64886, .agg (bs a), .agg (bs b)] w fun e w' => e = .returned (.tuple #[.agg (bs (ofK zV 8 (rbF 22 8 a b) 16)), .int .i64 0]) ∧ Gr w w' :=
  ev_path (E := envB 8 22 a b) (E' := envB 8 22 (smp [1]) zV) rfl (sumO_ok' (envB 8 22 a b) rfl (byt_two ha hb)) (fuel := 60) (args' := [.int .i64 64886, .agg (bs (smp [1])), .agg (bs zV)]) [] rb64886Ts (fun p hp => by cases hp) (fun β => by kernel_rfl) w (b_holes 8 22 a b (fun n => (Decidable.em (sgnI b 8 n < sgnI a 8 n)).elim (b8_22y a b ha hb n) (b8_22n a b ha hb n)))
--EVTS rb64887Ts | fun (a b : Nat → Int) (β : Nat → Fr) => (biPath 64887 8 23 16 a b β, ([] : List (Bool × Bool)))
def rb64887Ts : List Nat := [0, 0, 0, 0, 0, 0, 0, 0, 0, 0, 0, 0, 0, 0, 0, 0, 0, 0, 0, 0, 0, 0, 0, 0, 0, 0, 0, 0, 0, 0, 0, 0, 0, 0, 0, 0, 0, 0, 0, 0, 0, 0, 0, 0, 0, 0, 0, 0, 0, 0]
theorem rb64887 (a b : Nat → Int) (ha : Byt a) (hb : Byt b) (w : World) : Calls Try.prog 31 #[.int .i64 64887, .agg (bs a), .agg (bs b)] w fun e w' => e = .returned (.tuple #[.agg (bs (ofK zV 8 (rbF 23 8 a b) 16)), .int .i64 0]) ∧ Gr w w' :=
  ev_path (E := envB 8 23 a b) (E' := envB 8 23 (smp [1]) zV) rfl (sumO_ok' (envB 8 23 a b) rfl (byt_two ha hb)) (fuel := 60) (args' := [.int .i64 64887, .agg (bs (smp [1])), .agg (bs zV)]) [] rb64887Ts (fun p hp => by cases hp) (fun β => by kernel_rfl) w (b_holes 8 23 a b (fun n => (Decidable.em (getI b 8 n < getI a 8 n)).elim (b8_23y a b ha hb n) (b8_23n a b ha hb n)))
--EVTS rb64888Ts | fun (a b : Nat → Int) (β : Nat → Fr) => (biPath 64888 8 24 16 a b β, ([] : List (Bool × Bool)))
def rb64888Ts : List Nat := [0, 0, 0, 0, 0, 0, 0, 0, 0, 0, 0, 0, 0, 0, 0, 0, 0, 0, 0, 0, 0, 0, 0, 0, 0, 0, 0, 0, 0, 0, 0, 0, 0, 0, 0, 0, 0, 0, 0, 0, 0, 0, 0, 0, 0, 0, 0, 0, 0, 0]
theorem rb64888 (a b : Nat → Int) (ha : Byt a) (hb : Byt b) (w : World) : Calls Try.prog 31 #[.int .i64 64888, .agg (bs a), .agg (bs b)] w fun e w' => e = .returned (.tuple #[.agg (bs (ofK zV 8 (rbF 24 8 a b) 16)), .int .i64 0]) ∧ Gr w w' :=
  ev_path (E := envB 8 24 a b) (E' := envB 8 24 (smp [1]) zV) rfl (sumO_ok' (envB 8 24 a b) rfl (byt_two ha hb)) (fuel := 60) (args' := [.int .i64 64888, .agg (bs (smp [1])), .agg (bs zV)]) [] rb64888Ts (fun p hp => by cases hp) (fun β => by kernel_rfl) w (b_holes 8 24 a b (fun n => (Decidable.em (sgnI b 8 n > sgnI a 8 n)).elim (b8_24y a b ha hb n) (b8_24n a b ha hb n)))
--EVTS rb64889Ts | fun (a b : Nat → Int) (β : Nat → Fr) => (biPath 64889 8 25 16 a b β, ([] : List (Bool × Bool)))
def rb64889Ts : List Nat := [0, 0, 0, 0, 0, 0, 0, 0, 0, 0, 0, 0, 0, 0, 0, 0, 0, 0, 0, 0, 0, 0, 0, 0, 0, 0, 0, 0, 0, 0, 0, 0, 0, 0, 0, 0, 0, 0, 0, 0, 0, 0, 0, 0, 0, 0, 0, 0, 0, 0]
theorem rb64889 (a b : Nat → Int) (ha : Byt a) (hb : Byt b) (w : World) : Calls Try.prog 31 #[.int .i64 64889, .agg (bs a), .agg (bs b)] w fun e w' => e = .returned (.tuple #[.agg (bs (ofK zV 8 (rbF 25 8 a b) 16)), .int .i64 0]) ∧ Gr w w' :=
  ev_path (E := envB 8 25 a b) (E' := envB 8 25 (smp [1]) zV) rfl (sumO_ok' (envB 8 25 a b) rfl (byt_two ha hb)) (fuel := 60) (args' := [.int .i64 64889, .agg (bs (smp [1])), .agg (bs zV)]) [] rb64889Ts (fun p hp => by cases hp) (fun β => by kernel_rfl) w (b_holes 8 25 a b (fun n => (Decidable.em (getI b 8 n > getI a 8 n)).elim (b8_25y a b ha hb n) (b8_25n a b ha hb n)))
--EVTS rb64891Ts | fun (a b : Nat → Int) (β : Nat → Fr) => (biPath 64891 8 27 16 a b β, ([] : List (Bool × Bool)))
def rb64891Ts : List Nat := [0, 0, 0, 0, 0, 0, 0, 0, 0, 0, 0, 0, 0, 0, 0, 0, 0, 0, 0, 0, 0, 0, 0, 0, 0, 0, 0, 0, 0, 0, 0, 0, 0, 0, 0, 0, 0, 0, 0, 0, 0, 0, 0, 0, 0, 0, 0, 0, 0, 0]
theorem rb64891 (a b : Nat → Int) (ha : Byt a) (hb : Byt b) (w : World) : Calls Try.prog 31 #[.int .i64 64891, .agg (bs a), .agg (bs b)] w fun e w' => e = .returned (.tuple #[.agg (bs (ofK zV 8 (rbF 27 8 a b) 16)), .int .i64 0]) ∧ Gr w w' :=
  ev_path (E := envB 8 27 a b) (E' := envB 8 27 (smp [1]) zV) rfl (sumO_ok' (envB 8 27 a b) rfl (byt_two ha hb)) (fuel := 60) (args' := [.int .i64 64891, .agg (bs (smp [1])), .agg (bs zV)]) [] rb64891Ts (fun p hp => by cases hp) (fun β => by kernel_rfl) w (b_holes 8 27 a b (fun n => b8_27 a b ha hb n trivial))
--EVTS rb64910Ts | fun (a b : Nat → Int) (β : Nat → Fr) => (biPath 64910 16 14 8 a b β, ([] : List (Bool × Bool)))
def rb64910Ts : List Nat := [0, 0, 0, 0, 0, 0, 0, 0, 0, 0, 0, 0, 0, 0, 0, 0, 0, 0, 0, 0, 0, 0, 0, 0, 0, 0]
theorem rb64910 (a b : Nat → Int) (ha : Byt a) (hb : Byt b) (w : World) : Calls Try.prog 31 #[.int .i64 64910, .agg (bs a), .agg (bs b)] w fun e w' => e = .returned (.tuple #[.agg (bs (ofK zV 16 (rbF 14 16 a b) 8)), .int .i64 0]) ∧ Gr w w' :=
  ev_path (E := envB 16 14 a b) (E' := envB 16 14 (smp [1]) zV) rfl (sumO_ok' (envB 16 14 a b) rfl (byt_two ha hb)) (fuel := 60) (args' := [.int .i64 64910, .agg (bs (smp [1])), .agg (bs zV)]) [] rb64910Ts (fun p hp => by cases hp) (fun β => by kernel_rfl) w (b_holes 16 14 a b (fun n => b16_14 a b ha hb n trivial))
--EVTS rb64911Ts | fun (a b : Nat → Int) (β : Nat → Fr) => (biPath 64911 16 15 8 a b β, ([] : List (Bool × Bool)))
def rb64911Ts : List Nat := [0, 0, 0, 0, 0, 0, 0, 0, 0, 0, 0, 0, 0, 0, 0, 0, 0, 0, 0, 0, 0, 0, 0, 0, 0, 0]
theorem rb64911 (a b : Nat → Int) (ha : Byt a) (hb : Byt b) (w : World) : Calls Try.prog 31 #[.int .i64 64911, .agg (bs a), .agg (bs b)] w fun e w' => e = .returned (.tuple #[.agg (bs (ofK zV 16 (rbF 15 16 a b) 8)), .int .i64 0]) ∧ Gr w w' :=
  ev_path (E := envB 16 15 a b) (E' := envB 16 15 (smp [1]) zV) rfl (sumO_ok' (envB 16 15 a b) rfl (byt_two ha hb)) (fuel := 60) (args' := [.int .i64 64911, .agg (bs (smp [1])), .agg (bs zV)]) [] rb64911Ts (fun p hp => by cases hp) (fun β => by kernel_rfl) w (b_holes 16 15 a b (fun n => b16_15 a b ha hb n trivial))
--EVTS rb64912Ts | fun (a b : Nat → Int) (β : Nat → Fr) => (biPath 64912 16 16 8 a b β, ([] : List (Bool × Bool)))
def rb64912Ts : List Nat := [0, 0, 0, 0, 0, 0, 0, 0, 0, 0, 0, 0, 0, 0, 0, 0, 0, 0, 0, 0, 0, 0, 0, 0, 0, 0]
theorem rb64912 (a b : Nat → Int) (ha : Byt a) (hb : Byt b) (w : World) : Calls Try.prog 31 #[.int .i64 64912, .agg (bs a), .agg (bs b)] w fun e w' => e = .returned (.tuple #[.agg (bs (ofK zV 16 (rbF 16 16 a b) 8)), .int .i64 0]) ∧ Gr w w' :=
  ev_path (E := envB 16 16 a b) (E' := envB 16 16 (smp [1]) zV) rfl (sumO_ok' (envB 16 16 a b) rfl (byt_two ha hb)) (fuel := 60) (args' := [.int .i64 64912, .agg (bs (smp [1])), .agg (bs zV)]) [] rb64912Ts (fun p hp => by cases hp) (fun β => by kernel_rfl) w (b_holes 16 16 a b (fun n => b16_16 a b ha hb n trivial))
--EVTS rb64913Ts | fun (a b : Nat → Int) (β : Nat → Fr) => (biPath 64913 16 17 8 a b β, ([] : List (Bool × Bool)))
def rb64913Ts : List Nat := [0, 0, 0, 0, 0, 0, 0, 0, 0, 0, 0, 0, 0, 0, 0, 0, 0, 0, 0, 0, 0, 0, 0, 0, 0, 0]
theorem rb64913 (a b : Nat → Int) (ha : Byt a) (hb : Byt b) (w : World) : Calls Try.prog 31 #[.int .i64 64913, .agg (bs a), .agg (bs b)] w fun e w' => e = .returned (.tuple #[.agg (bs (ofK zV 16 (rbF 17 16 a b) 8)), .int .i64 0]) ∧ Gr w w' :=
  ev_path (E := envB 16 17 a b) (E' := envB 16 17 (smp [1]) zV) rfl (sumO_ok' (envB 16 17 a b) rfl (byt_two ha hb)) (fuel := 60) (args' := [.int .i64 64913, .agg (bs (smp [1])), .agg (bs zV)]) [] rb64913Ts (fun p hp => by cases hp) (fun β => by kernel_rfl) w (b_holes 16 17 a b (fun n => b16_17 a b ha hb n trivial))
--EVTS rb64914Ts | fun (a b : Nat → Int) (β : Nat → Fr) => (biPath 64914 16 18 8 a b β, ([] : List (Bool × Bool)))
def rb64914Ts : List Nat := [0, 0, 0, 0, 0, 0, 0, 0, 0, 0, 0, 0, 0, 0, 0, 0, 0, 0, 0, 0, 0, 0, 0, 0, 0, 0]
theorem rb64914 (a b : Nat → Int) (ha : Byt a) (hb : Byt b) (w : World) : Calls Try.prog 31 #[.int .i64 64914, .agg (bs a), .agg (bs b)] w fun e w' => e = .returned (.tuple #[.agg (bs (ofK zV 16 (rbF 18 16 a b) 8)), .int .i64 0]) ∧ Gr w w' :=
  ev_path (E := envB 16 18 a b) (E' := envB 16 18 (smp [1]) zV) rfl (sumO_ok' (envB 16 18 a b) rfl (byt_two ha hb)) (fuel := 60) (args' := [.int .i64 64914, .agg (bs (smp [1])), .agg (bs zV)]) [] rb64914Ts (fun p hp => by cases hp) (fun β => by kernel_rfl) w (b_holes 16 18 a b (fun n => b16_18 a b ha hb n trivial))
--EVTS rb64915Ts | fun (a b : Nat → Int) (β : Nat → Fr) => (biPath 64915 16 19 8 a b β, ([] : List (Bool × Bool)))
def rb64915Ts : List Nat := [0, 0, 0, 0, 0, 0, 0, 0, 0, 0, 0, 0, 0, 0, 0, 0, 0, 0, 0, 0, 0, 0, 0, 0, 0, 0]
theorem rb64915 (a b : Nat → Int) (ha : Byt a) (hb : Byt b) (w : World) : Calls Try.prog 31 #[.int .i64 64915, .agg (bs a), .agg (bs b)] w fun e w' => e = .returned (.tuple #[.agg (bs (ofK zV 16 (rbF 19 16 a b) 8)), .int .i64 0]) ∧ Gr w w' :=
  ev_path (E := envB 16 19 a b) (E' := envB 16 19 (smp [1]) zV) rfl (sumO_ok' (envB 16 19 a b) rfl (byt_two ha hb)) (fuel := 60) (args' := [.int .i64 64915, .agg (bs (smp [1])), .agg (bs zV)]) [] rb64915Ts (fun p hp => by cases hp) (fun β => by kernel_rfl) w (b_holes 16 19 a b (fun n => b16_19 a b ha hb n trivial))
--EVTS rb64917Ts | fun (a b : Nat → Int) (β : Nat → Fr) => (biPath 64917 16 21 8 a b β, ([] : List (Bool × Bool)))
def rb64917Ts : List Nat := [0, 0, 0, 0, 0, 0, 0, 0, 0, 0, 0, 0, 0, 0, 0, 0, 0, 0, 0, 0, 0, 0, 0, 0, 0, 0]
theorem rb64917 (a b : Nat → Int) (ha : Byt a) (hb : Byt b) (w : World) : Calls Try.prog 31 #[.int .i64 64917, .agg (bs a), .agg (bs b)] w fun e w' => e = .returned (.tuple #[.agg (bs (ofK zV 16 (rbF 21 16 a b) 8)), .int .i64 0]) ∧ Gr w w' :=
  ev_path (E := envB 16 21 a b) (E' := envB 16 21 (smp [1]) zV) rfl (sumO_ok' (envB 16 21 a b) rfl (byt_two ha hb)) (fuel := 60) (args' := [.int .i64 64917, .agg (bs (smp [1])), .agg (bs zV)]) [] rb64917Ts (fun p hp => by cases hp) (fun β => by kernel_rfl) w (b_holes 16 21 a b (fun n => b16_21 a b ha hb n trivial))
--EVTS rb64918Ts | fun (a b : Nat → Int) (β : Nat → Fr) => (biPath 64918 16 22 8 a b β, ([] : List (Bool × Bool)))
def rb64918Ts : List Nat := [0, 0, 0, 0, 0, 0, 0, 0, 0, 0, 0, 0, 0, 0, 0, 0, 0, 0, 0, 0, 0, 0, 0, 0, 0, 0]
theorem rb64918 (a b : Nat → Int) (ha : Byt a) (hb : Byt b) (w : World) : Calls Try.prog 31 #[.int .i64 64918, .agg (bs a), .agg (bs b)] w fun e w' => e = .returned (.tuple #[.agg (bs (ofK zV 16 (rbF 22 16 a b) 8)), .int .i64 0]) ∧ Gr w w' :=
  ev_path (E := envB 16 22 a b) (E' := envB 16 22 (smp [1]) zV) rfl (sumO_ok' (envB 16 22 a b) rfl (byt_two ha hb)) (fuel := 60) (args' := [.int .i64 64918, .agg (bs (smp [1])), .agg (bs zV)]) [] rb64918Ts (fun p hp => by cases hp) (fun β => by kernel_rfl) w (b_holes 16 22 a b (fun n => (Decidable.em (sgnI b 16 n < sgnI a 16 n)).elim (b16_22y a b ha hb n) (b16_22n a b ha hb n)))
--EVTS rb64919Ts | fun (a b : Nat → Int) (β : Nat → Fr) => (biPath 64919 16 23 8 a b β, ([] : List (Bool × Bool)))
def rb64919Ts : List Nat := [0, 0, 0, 0, 0, 0, 0, 0, 0, 0, 0, 0, 0, 0, 0, 0, 0, 0, 0, 0, 0, 0, 0, 0, 0, 0]
theorem rb64919 (a b : Nat → Int) (ha : Byt a) (hb : Byt b) (w : World) : Calls Try.prog 31 #[.int .i64 64919, .agg (bs a), .agg (bs b)] w fun e w' => e = .returned (.tuple #[.agg (bs (ofK zV 16 (rbF 23 16 a b) 8)), .int .i64 0]) ∧ Gr w w' :=
  ev_path (E := envB 16 23 a b) (E' := envB 16 23 (smp [1]) zV) rfl (sumO_ok' (envB 16 23 a b) rfl (byt_two ha hb)) (fuel := 60) (args' := [.int .i64 64919, .agg (bs (smp [1])), .agg (bs zV)]) [] rb64919Ts (fun p hp => by cases hp) (fun β => by kernel_rfl) w (b_holes 16 23 a b (fun n => (Decidable.em (getI b 16 n < getI a 16 n)).elim (b16_23y a b ha hb n) (b16_23n a b ha hb n)))
--EVTS rb64920Ts | fun (a b : Nat → Int) (β : Nat → Fr) => (biPath 64920 16 24 8 a b β, ([] : List (Bool × Bool)))
def rb64920Ts : List Nat := [0, 0, 0, 0, 0, 0, 0, 0, 0, 0, 0, 0, 0, 0, 0, 0, 0, 0, 0, 0, 0, 0, 0, 0, 0, 0]
theorem rb64920 (a b : Nat → Int) (ha : Byt a) (hb : Byt b) (w : World) : Calls Try.prog 31 #[.int .i64 64920, .agg (bs a), .agg (bs b)] w fun e w' => e = .returned (.tuple #[.agg (bs (ofK zV 16 (rbF 24 16 a b) 8)), .int .i64 0]) ∧ Gr w w' :=
  ev_path (E := envB 16 24 a b) (E' := envB 16 24 (smp [1]) zV) rfl (sumO_ok' (envB 16 24 a b) rfl (byt_two ha hb)) (fuel := 60) (args' := [.int .i64 64920, .agg (bs (smp [1])), .agg (bs zV)]) [] rb64920Ts (fun p hp => by cases hp) (fun β => by kernel_rfl) w (b_holes 16 24 a b (fun n => (Decidable.em (sgnI b 16 n > sgnI a 16 n)).elim (b16_24y a b ha hb n) (b16_24n a b ha hb n)))
--EVTS rb64921Ts | fun (a b : Nat → Int) (β : Nat → Fr) => (biPath 64921 16 25 8 a b β, ([] : List (Bool × Bool)))
def rb64921Ts : List Nat := [0, 0, 0, 0, 0, 0, 0, 0, 0, 0, 0, 0, 0, 0, 0, 0, 0, 0, 0, 0, 0, 0, 0, 0, 0, 0]
theorem rb64921 (a b : Nat → Int) (ha : Byt a) (hb : Byt b) (w : World) : Calls Try.prog 31 #[.int .i64 64921, .agg (bs a), .agg (bs b)] w fun e w' => e = .returned (.tuple #[.agg (bs (ofK zV 16 (rbF 25 16 a b) 8)), .int .i64 0]) ∧ Gr w w' :=
  ev_path (E := envB 16 25 a b) (E' := envB 16 25 (smp [1]) zV) rfl (sumO_ok' (envB 16 25 a b) rfl (byt_two ha hb)) (fuel := 60) (args' := [.int .i64 64921, .agg (bs (smp [1])), .agg (bs zV)]) [] rb64921Ts (fun p hp => by cases hp) (fun β => by kernel_rfl) w (b_holes 16 25 a b (fun n => (Decidable.em (getI b 16 n > getI a 16 n)).elim (b16_25y a b ha hb n) (b16_25n a b ha hb n)))
--EVTS rb64923Ts | fun (a b : Nat → Int) (β : Nat → Fr) => (biPath 64923 16 27 8 a b β, ([] : List (Bool × Bool)))
def rb64923Ts : List Nat := [0, 0, 0, 0, 0, 0, 0, 0, 0, 0, 0, 0, 0, 0, 0, 0, 0, 0, 0, 0, 0, 0, 0, 0, 0, 0]
theorem rb64923 (a b : Nat → Int) (ha : Byt a) (hb : Byt b) (w : World) : Calls Try.prog 31 #[.int .i64 64923, .agg (bs a), .agg (bs b)] w fun e w' => e = .returned (.tuple #[.agg (bs (ofK zV 16 (rbF 27 16 a b) 8)), .int .i64 0]) ∧ Gr w w' :=
  ev_path (E := envB 16 27 a b) (E' := envB 16 27 (smp [1]) zV) rfl (sumO_ok' (envB 16 27 a b) rfl (byt_two ha hb)) (fuel := 60) (args' := [.int .i64 64923, .agg (bs (smp [1])), .agg (bs zV)]) [] rb64923Ts (fun p hp => by cases hp) (fun β => by kernel_rfl) w (b_holes 16 27 a b (fun n => b16_27 a b ha hb n trivial))
--EVTS rb64942Ts | fun (a b : Nat → Int) (β : Nat → Fr) => (biPath 64942 32 14 4 a b β, ([] : List (Bool × Bool)))
def rb64942Ts : List Nat := [0, 0, 0, 0, 0, 0, 0, 0, 0, 0, 0, 0, 0, 0]
theorem rb64942 (a b : Nat → Int) (ha : Byt a) (hb : Byt b) (w : World) : Calls Try.prog 31 #[.int .i64 64942, .agg (bs a), .agg (bs b)] w fun e w' => e = .returned (.tuple #[.agg (bs (ofK zV 32 (rbF 14 32 a b) 4)), .int .i64 0]) ∧ Gr w w' :=
  ev_path (E := envB 32 14 a b) (E' := envB 32 14 (smp [1]) zV) rfl (sumO_ok' (envB 32 14 a b) rfl (byt_two ha hb)) (fuel := 60) (args' := [.int .i64 64942, .agg (bs (smp [1])), .agg (bs zV)]) [] rb64942Ts (fun p hp => by cases hp) (fun β => by kernel_rfl) w (b_holes 32 14 a b (fun n => b32_14 a b ha hb n trivial))
--EVTS rb64945Ts | fun (a b : Nat → Int) (β : Nat → Fr) => (biPath 64945 32 17 4 a b β, ([] : List (Bool × Bool)))
def rb64945Ts : List Nat := [0, 0, 0, 0, 0, 0, 0, 0, 0, 0, 0, 0, 0, 0]
theorem rb64945 (a b : Nat → Int) (ha : Byt a) (hb : Byt b) (w : World) : Calls Try.prog 31 #[.int .i64 64945, .agg (bs a), .agg (bs b)] w fun e w' => e = .returned (.tuple #[.agg (bs (ofK zV 32 (rbF 17 32 a b) 4)), .int .i64 0]) ∧ Gr w w' :=
  ev_path (E := envB 32 17 a b) (E' := envB 32 17 (smp [1]) zV) rfl (sumO_ok' (envB 32 17 a b) rfl (byt_two ha hb)) (fuel := 60) (args' := [.int .i64 64945, .agg (bs (smp [1])), .agg (bs zV)]) [] rb64945Ts (fun p hp => by cases hp) (fun β => by kernel_rfl) w (b_holes 32 17 a b (fun n => b32_17 a b ha hb n trivial))
--EVTS rb64949Ts | fun (a b : Nat → Int) (β : Nat → Fr) => (biPath 64949 32 21 4 a b β, ([] : List (Bool × Bool)))
def rb64949Ts : List Nat := [0, 0, 0, 0, 0, 0, 0, 0, 0, 0, 0, 0, 0, 0]
theorem rb64949 (a b : Nat → Int) (ha : Byt a) (hb : Byt b) (w : World) : Calls Try.prog 31 #[.int .i64 64949, .agg (bs a), .agg (bs b)] w fun e w' => e = .returned (.tuple #[.agg (bs (ofK zV 32 (rbF 21 32 a b) 4)), .int .i64 0]) ∧ Gr w w' :=
  ev_path (E := envB 32 21 a b) (E' := envB 32 21 (smp [1]) zV) rfl (sumO_ok' (envB 32 21 a b) rfl (byt_two ha hb)) (fuel := 60) (args' := [.int .i64 64949, .agg (bs (smp [1])), .agg (bs zV)]) [] rb64949Ts (fun p hp => by cases hp) (fun β => by kernel_rfl) w (b_holes 32 21 a b (fun n => b32_21 a b ha hb n trivial))
--EVTS rb64950Ts | fun (a b : Nat → Int) (β : Nat → Fr) => (biPath 64950 32 22 4 a b β, ([] : List (Bool × Bool)))
def rb64950Ts : List Nat := [0, 0, 0, 0, 0, 0, 0, 0, 0, 0, 0, 0, 0, 0]
theorem rb64950 (a b : Nat → Int) (ha : Byt a) (hb : Byt b) (w : World) : Calls Try.prog 31 #[.int .i64 64950, .agg (bs a), .agg (bs b)] w fun e w' => e = .returned (.tuple #[.agg (bs (ofK zV 32 (rbF 22 32 a b) 4)), .int .i64 0]) ∧ Gr w w' :=
  ev_path (E := envB 32 22 a b) (E' := envB 32 22 (smp [1]) zV) rfl (sumO_ok' (envB 32 22 a b) rfl (byt_two ha hb)) (fuel := 60) (args' := [.int .i64 64950, .agg (bs (smp [1])), .agg (bs zV)]) [] rb64950Ts (fun p hp => by cases hp) (fun β => by kernel_rfl) w (b_holes 32 22 a b (fun n => (Decidable.em (sgnI b 32 n < sgnI a 32 n)).elim (b32_22y a b ha hb n) (b32_22n a b ha hb n)))
--EVTS rb64951Ts | fun (a b : Nat → Int) (β : Nat → Fr) => (biPath 64951 32 23 4 a b β, ([] : List (Bool × Bool)))
def rb64951Ts : List Nat := [0, 0, 0, 0, 0, 0, 0, 0, 0, 0, 0, 0, 0, 0]
theorem rb64951 (a b : Nat → Int) (ha : Byt a) (hb : Byt b) (w : World) : Calls Try.prog 31 #[.int .i64 64951, .agg (bs a), .agg (bs b)] w fun e w' => e = .returned (.tuple #[.agg (bs (ofK zV 32 (rbF 23 32 a b) 4)), .int .i64 0]) ∧ Gr w w' :=
  ev_path (E := envB 32 23 a b) (E' := envB 32 23 (smp [1]) zV) rfl (sumO_ok' (envB 32 23 a b) rfl (byt_two ha hb)) (fuel := 60) (args' := [.int .i64 64951, .agg (bs (smp [1])), .agg (bs zV)]) [] rb64951Ts (fun p hp => by cases hp) (fun β => by kernel_rfl) w (b_holes 32 23 a b (fun n => (Decidable.em (getI b 32 n < getI a 32 n)).elim (b32_23y a b ha hb n) (b32_23n a b ha hb n)))
--EVTS rb64952Ts | fun (a b : Nat → Int) (β : Nat → Fr) => (biPath 64952 32 24 4 a b β, ([] : List (Bool × Bool)))
def rb64952Ts : List Nat := [0, 0, 0, 0, 0, 0, 0, 0, 0, 0, 0, 0, 0, 0]
theorem rb64952 (a b : Nat → Int) (ha : Byt a) (hb : Byt b) (w : World) : Calls Try.prog 31 #[.int .i64 64952, .agg (bs a), .agg (bs b)] w fun e w' => e = .returned (.tuple #[.agg (bs (ofK zV 32 (rbF 24 32 a b) 4)), .int .i64 0]) ∧ Gr w w' :=
  ev_path (E := envB 32 24 a b) (E' := envB 32 24 (smp [1]) zV) rfl (sumO_ok' (envB 32 24 a b) rfl (byt_two ha hb)) (fuel := 60) (args' := [.int .i64 64952, .agg (bs (smp [1])), .agg (bs zV)]) [] rb64952Ts (fun p hp => by cases hp) (fun β => by kernel_rfl) w (b_holes 32 24 a b (fun n => (Decidable.em (sgnI b 32 n > sgnI a 32 n)).elim (b32_24y a b ha hb n) (b32_24n a b ha hb n)))
--EVTS rb64953Ts | fun (a b : Nat → Int) (β : Nat → Fr) => (biPath 64953 32 25 4 a b β, ([] : List (Bool × Bool)))
def rb64953Ts : List Nat := [0, 0, 0, 0, 0, 0, 0, 0, 0, 0, 0, 0, 0, 0]
theorem rb64953 (a b : Nat → Int) (ha : Byt a) (hb : Byt b) (w : World) : Calls Try.prog 31 #[.int .i64 64953, .agg (bs a), .agg (bs b)] w fun e w' => e = .returned (.tuple #[.agg (bs (ofK zV 32 (rbF 25 32 a b) 4)), .int .i64 0]) ∧ Gr w w' :=
  ev_path (E := envB 32 25 a b) (E' := envB 32 25 (smp [1]) zV) rfl (sumO_ok' (envB 32 25 a b) rfl (byt_two ha hb)) (fuel := 60) (args' := [.int .i64 64953, .agg (bs (smp [1])), .agg (bs zV)]) [] rb64953Ts (fun p hp => by cases hp) (fun β => by kernel_rfl) w (b_holes 32 25 a b (fun n => (Decidable.em (getI b 32 n > getI a 32 n)).elim (b32_25y a b ha hb n) (b32_25n a b ha hb n)))
--EVTS rb64974Ts | fun (a b : Nat → Int) (β : Nat → Fr) => (biPath 64974 64 14 2 a b β, ([] : List (Bool × Bool)))
def rb64974Ts : List Nat := [0, 0, 0, 0, 0, 0, 0, 0]
theorem rb64974 (a b : Nat → Int) (ha : Byt a) (hb : Byt b) (w : World) : Calls Try.prog 31 #[.int .i64 64974, .agg (bs a), .agg (bs b)] w fun e w' => e = .returned (.tuple #[.agg (bs (ofK zV 64 (rbF 14 64 a b) 2)), .int .i64 0]) ∧ Gr w w' :=
  ev_path (E := envB 64 14 a b) (E' := envB 64 14 (smp [1]) zV) rfl (sumO_ok' (envB 64 14 a b) rfl (byt_two ha hb)) (fuel := 60) (args' := [.int .i64 64974, .agg (bs (smp [1])), .agg (bs zV)]) [] rb64974Ts (fun p hp => by cases hp) (fun β => by kernel_rfl) w (b_holes 64 14 a b (fun n => b64_14 a b ha hb n trivial))
--EVTS rb64977Ts | fun (a b : Nat → Int) (β : Nat → Fr) => (biPath 64977 64 17 2 a b β, ([] : List (Bool × Bool)))
def rb64977Ts : List Nat := [0, 0, 0, 0, 0, 0, 0, 0]
theorem rb64977 (a b : Nat → Int) (ha : Byt a) (hb : Byt b) (w : World) : Calls Try.prog 31 #[.int .i64 64977, .agg (bs a), .agg (bs b)] w fun e w' => e = .returned (.tuple #[.agg (bs (ofK zV 64 (rbF 17 64 a b) 2)), .int .i64 0]) ∧ Gr w w' :=
  ev_path (E := envB 64 17 a b) (E' := envB 64 17 (smp [1]) zV) rfl (sumO_ok' (envB 64 17 a b) rfl (byt_two ha hb)) (fuel := 60) (args' := [.int .i64 64977, .agg (bs (smp [1])), .agg (bs zV)]) [] rb64977Ts (fun p hp => by cases hp) (fun β => by kernel_rfl) w (b_holes 64 17 a b (fun n => b64_17 a b ha hb n trivial))
--EVTS rb64981Ts | fun (a b : Nat → Int) (β : Nat → Fr) => (biPath 64981 64 21 2 a b β, ([] : List (Bool × Bool)))
def rb64981Ts : List Nat := [0, 0, 0, 0, 0, 0, 0, 0]
theorem rb64981 (a b : Nat → Int) (ha : Byt a) (hb : Byt b) (w : World) : Calls Try.prog 31 #[.int .i64 64981, .agg (bs a), .agg (bs b)] w fun e w' => e = .returned (.tuple #[.agg (bs (ofK zV 64 (rbF 21 64 a b) 2)), .int .i64 0]) ∧ Gr w w' :=
  ev_path (E := envB 64 21 a b) (E' := envB 64 21 (smp [1]) zV) rfl (sumO_ok' (envB 64 21 a b) rfl (byt_two ha hb)) (fuel := 60) (args' := [.int .i64 64981, .agg (bs (smp [1])), .agg (bs zV)]) [] rb64981Ts (fun p hp => by cases hp) (fun β => by kernel_rfl) w (b_holes 64 21 a b (fun n => b64_21 a b ha hb n trivial))
noncomputable def bnoPath (op : Int) (a b : Nat → Int) (β : Nat → Fr) : Out :=
  evPath (envO [a, b]) (envO [smp [1], zV]) 60 31 [.int .i64 op, .agg (bs a), .agg (bs b)] [.int .i64 0, .agg (bs (smp [1])), .agg (bs zV)] (.tuple #[.agg (bs zV), .int .i64 1]) β
--EVTS bnoTs | fun (op : Int) (a b : Nat → Int) (β : Nat → Fr) => (bnoPath op a b β, [(decide ((if aW op = 0 then -1 else aK op) < 14), true)])
def bnoTs : List Nat := [1]
theorem bno (op : Int) (h : (if aW op = 0 then -1 else aK op) < 14) (a b : Nat → Int) (ha : Byt a) (hb : Byt b) (w : World) : Calls Try.prog 31 #[.int .i64 op, .agg (bs a), .agg (bs b)] w fun e w' => e = .returned (.tuple #[.agg (bs zV), .int .i64 1]) ∧ Gr w w' :=
  ev_path (E := envO [a, b]) (E' := envO [smp [1], zV]) rfl (sumO_ok _ (byt_two ha hb)) (fuel := 60) (args' := [.int .i64 0, .agg (bs (smp [1])), .agg (bs zV)]) [(decide ((if aW op = 0 then -1 else aK op) < 14), true)] bnoTs (fun p hp => by rw [List.mem_singleton.1 hp]; exact decide_eq_true h) (fun β => by kernel_rfl) w
end Ar
end Go.Proofs.Ytalnkkmbjaollaa
