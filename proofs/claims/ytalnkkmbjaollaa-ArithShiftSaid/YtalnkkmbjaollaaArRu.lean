/-
  The reference's Un of layer 5, for all opcodes and vectors. Conditions: bytes, 64 bits.
-/
import Derived.Test.YtalnkkmbjaollaaArRx
import Derived.Test.YtalnkkmbjaollaaPopM
namespace Go.Proofs.Ytalnkkmbjaollaa
open Go.RowKit VecM Ev
namespace Ar
noncomputable def uBlk : Code := blkIn 29 1
def uHav : List Nat := [10, 11] ++ (List.range 31).map (· + 30)
def uNeed (w k : Int) (bv bo : Nat) (i : Int) : List (Nat × Value) := [(3, pt bv), (6, .int .i64 w), (7, .int .i64 k), (8, pt bo), (9, .int .i64 i)]
def unF (k w : Int) (b : Nat → Int) (j : Nat) : Int := unL k (getI b w j) (sgnI b w j)
noncomputable def uPath (w k : Int) (r4 : Rw) (bv bo : Nat) (b b' : Nat → Int) (n : Nat) (x : Int) (g : Nat → Value) (β : Nat → Fr) : Out :=
  evCode (envR [b, ofK zV w (unF k w b) n]) (envR [b', zV]) 60 uBlk (valsOf (uNeed w k bv bo n) g 62) (valsOf (uNeed w k 1001 1002 0) (fun _ => undef) 62)
    [vrow bo (ofK zV w (unF k w b) n), r4, vrow bv b] [vrow 1002 zV, vrow 1003 zV, vrow 1001 b'] .normal ([] ++ keepOf (uNeed w k bv bo n) g 62 uHav) [vrow bo (setI (ofK zV w (unF k w b) n) w n x), r4, vrow bv b] β
def uD (w : Int) (b : Nat → Int) (n : Nat) (c : Bool) (x : Int) : List (Bool × Bool) := [(decide (sgnI b w n ≥ 0), c), (decide (0 ≤ x), true), (decide (x < 18446744073709551616), true)]
theorem uD_ok {w : Int} {b : Nat → Int} {n : Nat} {c : Bool} {x : Int} (h : decide (sgnI b w n ≥ 0) = c) (h0 : 0 ≤ x) (h1 : x < 18446744073709551616) : ∀ p ∈ uD w b n c x, p.1 = p.2 := by
  intro p hp
  simp only [uD, List.mem_cons, List.not_mem_nil, or_false] at hp
  rcases hp with rfl | rfl | rfl
  · exact h
  · exact decide_eq_true h0
  · exact decide_eq_true h1
theorem u64_bd (n : Int) : 0 ≤ IntKind.u64.wrap n ∧ IntKind.u64.wrap n < 18446744073709551616 := by rw [IntKind.wrap_u64]; omega
theorem pw_le {w : Int} (hw : w = 8 ∨ w = 16 ∨ w = 32 ∨ w = 64) : (256 : Int) ^ wid w ≤ 18446744073709551616 := by
  rcases hw with rfl | rfl | rfl | rfl <;> decide
theorem g_bd {b : Nat → Int} (hb : Byt b) {w : Int} (hw : w = 8 ∨ w = 16 ∨ w = 32 ∨ w = 64) (j : Int) : 0 ≤ getI b w j ∧ getI b w j < 18446744073709551616 := by
  have := getI_bd hb w j
  have := pw_le hw
  omega
theorem uK_byt {w : Int} {f : Nat → Int} {n : Nat} {b : Nat → Int} (hb : Byt b) : ∀ x ∈ [b, ofK zV w f n], Byt x := byt_two hb (ofK_byt byt_zero _ _ _)
/-- a round of Un, of any opcode -/
def URound (w k : Int) (b : Nat → Int) (n : Nat) : Prop := ∀ (r4 : Rw) (bv bo : Nat), Runs uBlk 62 (uNeed w k bv bo n) [vrow bo (ofK zV w (unF k w b) n), r4, vrow bv b] .normal [] uHav [vrow bo (ofK zV w (unF k w b) (n + 1)), r4, vrow bv b]
--EVTS u8nTs | fun (r4 : Rw) (bv bo : Nat) (b : Nat → Int) (n : Nat) (g : Nat → Value) (β : Nat → Fr) => (uPath 8 1 r4 bv bo b (smp [33, 24, 129, 6, 71, 19, 2, 14, 213, 8, 27, 16, 95, 12, 231, 15]) n (IntKind.u64.wrap (0 - getI b 8 n)) g β, uD 8 b n true (IntKind.u64.wrap (0 - getI b 8 n)))
def u8nTs : List Nat := [3, 2, 0, 0, 0, 0, 0, 0, 0, 0]
theorem u8n (b : Nat → Int) (hb : Byt b) (n : Nat) (h : True) : URound 8 1 b n := by
  intro r4 bv bo
  have e : setI (ofK zV 8 (unF 1 8 b) n) 8 n (IntKind.u64.wrap (0 - getI b 8 n)) = ofK zV 8 (unF 1 8 b) (n + 1) := by
    rw [ofK]
    congr 1
    unfold unF unL
    simp
  rw [← e]
  exact runs_code (E := envR [b, ofK zV 8 (unF 1 8 b) n]) (E' := envR [smp [33, 24, 129, 6, 71, 19, 2, 14, 213, 8, 27, 16, 95, 12, 231, 15], zV]) rfl (sumR_ok _ (uK_byt hb)) (fuel := 60) (need' := uNeed 8 1 1001 1002 0) (M' := [vrow 1002 zV, vrow 1003 zV, vrow 1001 (smp [33, 24, 129, 6, 71, 19, 2, 14, 213, 8, 27, 16, 95, 12, 231, 15])]) rfl (uD 8 b n (decide (sgnI b 8 n ≥ 0)) (IntKind.u64.wrap (0 - getI b 8 n))) u8nTs (uD_ok rfl (u64_bd _).1 (u64_bd _).2) (fun g β => by kernel_rfl)
--EVTS u8pTs | fun (r4 : Rw) (bv bo : Nat) (b : Nat → Int) (n : Nat) (g : Nat → Value) (β : Nat → Fr) => (uPath 8 0 r4 bv bo b (smp [3, 24, 19, 6, 71, 19, 2, 14, 13, 8, 27, 16, 95, 12, 31, 15]) n (getI b 8 n) g β, uD 8 b n true (getI b 8 n))
def u8pTs : List Nat := [3, 2, 0, 1, 0, 0, 0, 0, 0, 0]
theorem u8p (b : Nat → Int) (hb : Byt b) (n : Nat) (h : sgnI b 8 n ≥ 0) : URound 8 0 b n := by
  intro r4 bv bo
  have e : setI (ofK zV 8 (unF 0 8 b) n) 8 n (getI b 8 n) = ofK zV 8 (unF 0 8 b) (n + 1) := by
    rw [ofK]
    congr 1
    unfold unF unL
    simp; omega
  rw [← e]
  exact runs_code (E := envR [b, ofK zV 8 (unF 0 8 b) n]) (E' := envR [smp [3, 24, 19, 6, 71, 19, 2, 14, 13, 8, 27, 16, 95, 12, 31, 15], zV]) rfl (sumR_ok _ (uK_byt hb)) (fuel := 60) (need' := uNeed 8 0 1001 1002 0) (M' := [vrow 1002 zV, vrow 1003 zV, vrow 1001 (smp [3, 24, 19, 6, 71, 19, 2, 14, 13, 8, 27, 16, 95, 12, 31, 15])]) rfl (uD 8 b n true (getI b 8 n)) u8pTs (uD_ok (decide_eq_true h) (g_bd hb (by omega) _).1 (g_bd hb (by omega) _).2) (fun g β => by kernel_rfl)
--EVTS u8mTs | fun (r4 : Rw) (bv bo : Nat) (b : Nat → Int) (n : Nat) (g : Nat → Value) (β : Nat → Fr) => (uPath 8 0 r4 bv bo b (smp [133, 224, 129, 206, 171, 219, 202, 214, 213, 208, 227, 216, 195, 212, 231, 215]) n (IntKind.u64.wrap (0 - getI b 8 n)) g β, uD 8 b n false (IntKind.u64.wrap (0 - getI b 8 n)))
def u8mTs : List Nat := [3, 2, 0, 1, 0, 0, 0, 0, 0, 0]
theorem u8m (b : Nat → Int) (hb : Byt b) (n : Nat) (h : ¬ sgnI b 8 n ≥ 0) : URound 8 0 b n := by
  intro r4 bv bo
  have e : setI (ofK zV 8 (unF 0 8 b) n) 8 n (IntKind.u64.wrap (0 - getI b 8 n)) = ofK zV 8 (unF 0 8 b) (n + 1) := by
    rw [ofK]
    congr 1
    unfold unF unL
    simp; omega
  rw [← e]
  exact runs_code (E := envR [b, ofK zV 8 (unF 0 8 b) n]) (E' := envR [smp [133, 224, 129, 206, 171, 219, 202, 214, 213, 208, 227, 216, 195, 212, 231, 215], zV]) rfl (sumR_ok _ (uK_byt hb)) (fuel := 60) (need' := uNeed 8 0 1001 1002 0) (M' := [vrow 1002 zV, vrow 1003 zV, vrow 1001 (smp [133, 224, 129, 206, 171, 219, 202, 214, 213, 208, 227, 216, 195, 212, 231, 215])]) rfl (uD 8 b n false (IntKind.u64.wrap (0 - getI b 8 n))) u8mTs (uD_ok (decide_eq_false h) (u64_bd _).1 (u64_bd _).2) (fun g β => by kernel_rfl)
--EVTS u16nTs | fun (r4 : Rw) (bv bo : Nat) (b : Nat → Int) (n : Nat) (g : Nat → Value) (β : Nat → Fr) => (uPath 16 1 r4 bv bo b (smp [33, 24, 129, 6, 71, 19, 2, 14, 213, 8, 27, 16, 95, 12, 231, 15]) n (IntKind.u64.wrap (0 - getI b 16 n)) g β, uD 16 b n true (IntKind.u64.wrap (0 - getI b 16 n)))
def u16nTs : List Nat := [3, 2, 0, 0, 0, 0, 0, 0, 0, 0]
theorem u16n (b : Nat → Int) (hb : Byt b) (n : Nat) (h : True) : URound 16 1 b n := by
  intro r4 bv bo
  have e : setI (ofK zV 16 (unF 1 16 b) n) 16 n (IntKind.u64.wrap (0 - getI b 16 n)) = ofK zV 16 (unF 1 16 b) (n + 1) := by
    rw [ofK]
    congr 1
    unfold unF unL
    simp
  rw [← e]
  exact runs_code (E := envR [b, ofK zV 16 (unF 1 16 b) n]) (E' := envR [smp [33, 24, 129, 6, 71, 19, 2, 14, 213, 8, 27, 16, 95, 12, 231, 15], zV]) rfl (sumR_ok _ (uK_byt hb)) (fuel := 60) (need' := uNeed 16 1 1001 1002 0) (M' := [vrow 1002 zV, vrow 1003 zV, vrow 1001 (smp [33, 24, 129, 6, 71, 19, 2, 14, 213, 8, 27, 16, 95, 12, 231, 15])]) rfl (uD 16 b n (decide (sgnI b 16 n ≥ 0)) (IntKind.u64.wrap (0 - getI b 16 n))) u16nTs (uD_ok rfl (u64_bd _).1 (u64_bd _).2) (fun g β => by kernel_rfl)
--EVTS u16pTs | fun (r4 : Rw) (bv bo : Nat) (b : Nat → Int) (n : Nat) (g : Nat → Value) (β : Nat → Fr) => (uPath 16 0 r4 bv bo b (smp [3, 24, 19, 6, 71, 19, 2, 14, 13, 8, 27, 16, 95, 12, 31, 15]) n (getI b 16 n) g β, uD 16 b n true (getI b 16 n))
def u16pTs : List Nat := [3, 2, 0, 1, 0, 0, 0, 0, 0, 0]
theorem u16p (b : Nat → Int) (hb : Byt b) (n : Nat) (h : sgnI b 16 n ≥ 0) : URound 16 0 b n := by
  intro r4 bv bo
  have e : setI (ofK zV 16 (unF 0 16 b) n) 16 n (getI b 16 n) = ofK zV 16 (unF 0 16 b) (n + 1) := by
    rw [ofK]
    congr 1
    unfold unF unL
    simp; omega
  rw [← e]
  exact runs_code (E := envR [b, ofK zV 16 (unF 0 16 b) n]) (E' := envR [smp [3, 24, 19, 6, 71, 19, 2, 14, 13, 8, 27, 16, 95, 12, 31, 15], zV]) rfl (sumR_ok _ (uK_byt hb)) (fuel := 60) (need' := uNeed 16 0 1001 1002 0) (M' := [vrow 1002 zV, vrow 1003 zV, vrow 1001 (smp [3, 24, 19, 6, 71, 19, 2, 14, 13, 8, 27, 16, 95, 12, 31, 15])]) rfl (uD 16 b n true (getI b 16 n)) u16pTs (uD_ok (decide_eq_true h) (g_bd hb (by omega) _).1 (g_bd hb (by omega) _).2) (fun g β => by kernel_rfl)
--EVTS u16mTs | fun (r4 : Rw) (bv bo : Nat) (b : Nat → Int) (n : Nat) (g : Nat → Value) (β : Nat → Fr) => (uPath 16 0 r4 bv bo b (smp [133, 224, 129, 206, 171, 219, 202, 214, 213, 208, 227, 216, 195, 212, 231, 215]) n (IntKind.u64.wrap (0 - getI b 16 n)) g β, uD 16 b n false (IntKind.u64.wrap (0 - getI b 16 n)))
def u16mTs : List Nat := [3, 2, 0, 1, 0, 0, 0, 0, 0, 0]
theorem u16m (b : Nat → Int) (hb : Byt b) (n : Nat) (h : ¬ sgnI b 16 n ≥ 0) : URound 16 0 b n := by
  intro r4 bv bo
  have e : setI (ofK zV 16 (unF 0 16 b) n) 16 n (IntKind.u64.wrap (0 - getI b 16 n)) = ofK zV 16 (unF 0 16 b) (n + 1) := by
    rw [ofK]
    congr 1
    unfold unF unL
    simp; omega
  rw [← e]
  exact runs_code (E := envR [b, ofK zV 16 (unF 0 16 b) n]) (E' := envR [smp [133, 224, 129, 206, 171, 219, 202, 214, 213, 208, 227, 216, 195, 212, 231, 215], zV]) rfl (sumR_ok _ (uK_byt hb)) (fuel := 60) (need' := uNeed 16 0 1001 1002 0) (M' := [vrow 1002 zV, vrow 1003 zV, vrow 1001 (smp [133, 224, 129, 206, 171, 219, 202, 214, 213, 208, 227, 216, 195, 212, 231, 215])]) rfl (uD 16 b n false (IntKind.u64.wrap (0 - getI b 16 n))) u16mTs (uD_ok (decide_eq_false h) (u64_bd _).1 (u64_bd _).2) (fun g β => by kernel_rfl)
--EVTS u32nTs | fun (r4 : Rw) (bv bo : Nat) (b : Nat → Int) (n : Nat) (g : Nat → Value) (β : Nat → Fr) => (uPath 32 1 r4 bv bo b (smp [33, 24, 129, 6, 71, 19, 2, 14, 213, 8, 27, 16, 95, 12, 231, 15]) n (IntKind.u64.wrap (0 - getI b 32 n)) g β, uD 32 b n true (IntKind.u64.wrap (0 - getI b 32 n)))
def u32nTs : List Nat := [3, 2, 0, 0, 0, 0, 0, 0, 0, 0]
theorem u32n (b : Nat → Int) (hb : Byt b) (n : Nat) (h : True) : URound 32 1 b n := by
  intro r4 bv bo
  have e : setI (ofK zV 32 (unF 1 32 b) n) 32 n (IntKind.u64.wrap (0 - getI b 32 n)) = ofK zV 32 (unF 1 32 b) (n + 1) := by
    rw [ofK]
    congr 1
    unfold unF unL
    simp
  rw [← e]
  exact runs_code (E := envR [b, ofK zV 32 (unF 1 32 b) n]) (E' := envR [smp [33, 24, 129, 6, 71, 19, 2, 14, 213, 8, 27, 16, 95, 12, 231, 15], zV]) rfl (sumR_ok _ (uK_byt hb)) (fuel := 60) (need' := uNeed 32 1 1001 1002 0) (M' := [vrow 1002 zV, vrow 1003 zV, vrow 1001 (smp [33, 24, 129, 6, 71, 19, 2, 14, 213, 8, 27, 16, 95, 12, 231, 15])]) rfl (uD 32 b n (decide (sgnI b 32 n ≥ 0)) (IntKind.u64.wrap (0 - getI b 32 n))) u32nTs (uD_ok rfl (u64_bd _).1 (u64_bd _).2) (fun g β => by kernel_rfl)
--EVTS u32pTs | fun (r4 : Rw) (bv bo : Nat) (b : Nat → Int) (n : Nat) (g : Nat → Value) (β : Nat → Fr) => (uPath 32 0 r4 bv bo b (smp [3, 24, 19, 6, 71, 19, 2, 14, 13, 8, 27, 16, 95, 12, 31, 15]) n (getI b 32 n) g β, uD 32 b n true (getI b 32 n))
def u32pTs : List Nat := [3, 2, 0, 1, 0, 0, 0, 0, 0, 0]
theorem u32p (b : Nat → Int) (hb : Byt b) (n : Nat) (h : sgnI b 32 n ≥ 0) : URound 32 0 b n := by
  intro r4 bv bo
  have e : setI (ofK zV 32 (unF 0 32 b) n) 32 n (getI b 32 n) = ofK zV 32 (unF 0 32 b) (n + 1) := by
    rw [ofK]
    congr 1
    unfold unF unL
    simp; omega
  rw [← e]
  exact runs_code (E := envR [b, ofK zV 32 (unF 0 32 b) n]) (E' := envR [smp [3, 24, 19, 6, 71, 19, 2, 14, 13, 8, 27, 16, 95, 12, 31, 15], zV]) rfl (sumR_ok _ (uK_byt hb)) (fuel := 60) (need' := uNeed 32 0 1001 1002 0) (M' := [vrow 1002 zV, vrow 1003 zV, vrow 1001 (smp [3, 24, 19, 6, 71, 19, 2, 14, 13, 8, 27, 16, 95, 12, 31, 15])]) rfl (uD 32 b n true (getI b 32 n)) u32pTs (uD_ok (decide_eq_true h) (g_bd hb (by omega) _).1 (g_bd hb (by omega) _).2) (fun g β => by kernel_rfl)
--EVTS u32mTs | fun (r4 : Rw) (bv bo : Nat) (b : Nat → Int) (n : Nat) (g : Nat → Value) (β : Nat → Fr) => (uPath 32 0 r4 bv bo b (smp [133, 224, 129, 206, 171, 219, 202, 214, 213, 208, 227, 216, 195, 212, 231, 215]) n (IntKind.u64.wrap (0 - getI b 32 n)) g β, uD 32 b n false (IntKind.u64.wrap (0 - getI b 32 n)))
def u32mTs : List Nat := [3, 2, 0, 1, 0, 0, 0, 0, 0, 0]
theorem u32m (b : Nat → Int) (hb : Byt b) (n : Nat) (h : ¬ sgnI b 32 n ≥ 0) : URound 32 0 b n := by
  intro r4 bv bo
  have e : setI (ofK zV 32 (unF 0 32 b) n) 32 n (IntKind.u64.wrap (0 - getI b 32 n)) = ofK zV 32 (unF 0 32 b) (n + 1) := by
    rw [ofK]
    congr 1
    unfold unF unL
    simp; omega
  rw [← e]
  exact runs_code (E := envR [b, ofK zV 32 (unF 0 32 b) n]) (E' := envR [smp [133, 224, 129, 206, 171, 219, 202, 214, 213, 208, 227, 216, 195, 212, 231, 215], zV]) rfl (sumR_ok _ (uK_byt hb)) (fuel := 60) (need' := uNeed 32 0 1001 1002 0) (M' := [vrow 1002 zV, vrow 1003 zV, vrow 1001 (smp [133, 224, 129, 206, 171, 219, 202, 214, 213, 208, 227, 216, 195, 212, 231, 215])]) rfl (uD 32 b n false (IntKind.u64.wrap (0 - getI b 32 n))) u32mTs (uD_ok (decide_eq_false h) (u64_bd _).1 (u64_bd _).2) (fun g β => by kernel_rfl)
--EVTS u64nTs | fun (r4 : Rw) (bv bo : Nat) (b : Nat → Int) (n : Nat) (g : Nat → Value) (β : Nat → Fr) => (uPath 64 1 r4 bv bo b (smp [33, 24, 129, 6, 71, 19, 2, 14, 213, 8, 27, 16, 95, 12, 231, 15]) n (IntKind.u64.wrap (0 - getI b 64 n)) g β, uD 64 b n true (IntKind.u64.wrap (0 - getI b 64 n)))
def u64nTs : List Nat := [3, 2, 0, 0, 0, 0, 0, 0, 0, 0]
theorem u64n (b : Nat → Int) (hb : Byt b) (n : Nat) (h : True) : URound 64 1 b n := by
  intro r4 bv bo
  have e : setI (ofK zV 64 (unF 1 64 b) n) 64 n (IntKind.u64.wrap (0 - getI b 64 n)) = ofK zV 64 (unF 1 64 b) (n + 1) := by
    rw [ofK]
    congr 1
    unfold unF unL
    simp
  rw [← e]
  exact runs_code (E := envR [b, ofK zV 64 (unF 1 64 b) n]) (E' := envR [smp [33, 24, 129, 6, 71, 19, 2, 14, 213, 8, 27, 16, 95, 12, 231, 15], zV]) rfl (sumR_ok _ (uK_byt hb)) (fuel := 60) (need' := uNeed 64 1 1001 1002 0) (M' := [vrow 1002 zV, vrow 1003 zV, vrow 1001 (smp [33, 24, 129, 6, 71, 19, 2, 14, 213, 8, 27, 16, 95, 12, 231, 15])]) rfl (uD 64 b n (decide (sgnI b 64 n ≥ 0)) (IntKind.u64.wrap (0 - getI b 64 n))) u64nTs (uD_ok rfl (u64_bd _).1 (u64_bd _).2) (fun g β => by kernel_rfl)
--EVTS u64pTs | fun (r4 : Rw) (bv bo : Nat) (b : Nat → Int) (n : Nat) (g : Nat → Value) (β : Nat → Fr) => (uPath 64 0 r4 bv bo b (smp [3, 24, 19, 6, 71, 19, 2, 14, 13, 8, 27, 16, 95, 12, 31, 15]) n (getI b 64 n) g β, uD 64 b n true (getI b 64 n))
def u64pTs : List Nat := [3, 2, 0, 1, 0, 0, 0, 0, 0, 0]
theorem u64p (b : Nat → Int) (hb : Byt b) (n : Nat) (h : sgnI b 64 n ≥ 0) : URound 64 0 b n := by
  intro r4 bv bo
  have e : setI (ofK zV 64 (unF 0 64 b) n) 64 n (getI b 64 n) = ofK zV 64 (unF 0 64 b) (n + 1) := by
    rw [ofK]
    congr 1
    unfold unF unL
    simp; omega
  rw [← e]
  exact runs_code (E := envR [b, ofK zV 64 (unF 0 64 b) n]) (E' := envR [smp [3, 24, 19, 6, 71, 19, 2, 14, 13, 8, 27, 16, 95, 12, 31, 15], zV]) rfl (sumR_ok _ (uK_byt hb)) (fuel := 60) (need' := uNeed 64 0 1001 1002 0) (M' := [vrow 1002 zV, vrow 1003 zV, vrow 1001 (smp [3, 24, 19, 6, 71, 19, 2, 14, 13, 8, 27, 16, 95, 12, 31, 15])]) rfl (uD 64 b n true (getI b 64 n)) u64pTs (uD_ok (decide_eq_true h) (g_bd hb (by omega) _).1 (g_bd hb (by omega) _).2) (fun g β => by kernel_rfl)
--EVTS u64mTs | fun (r4 : Rw) (bv bo : Nat) (b : Nat → Int) (n : Nat) (g : Nat → Value) (β : Nat → Fr) => (uPath 64 0 r4 bv bo b (smp [133, 224, 129, 206, 171, 219, 202, 214, 213, 208, 227, 216, 195, 212, 231, 215]) n (IntKind.u64.wrap (0 - getI b 64 n)) g β, uD 64 b n false (IntKind.u64.wrap (0 - getI b 64 n)))
def u64mTs : List Nat := [3, 2, 0, 1, 0, 0, 0, 0, 0, 0]
theorem u64m (b : Nat → Int) (hb : Byt b) (n : Nat) (h : ¬ sgnI b 64 n ≥ 0) : URound 64 0 b n := by
  intro r4 bv bo
  have e : setI (ofK zV 64 (unF 0 64 b) n) 64 n (IntKind.u64.wrap (0 - getI b 64 n)) = ofK zV 64 (unF 0 64 b) (n + 1) := by
    rw [ofK]
    congr 1
    unfold unF unL
    simp; omega
  rw [← e]
  exact runs_code (E := envR [b, ofK zV 64 (unF 0 64 b) n]) (E' := envR [smp [133, 224, 129, 206, 171, 219, 202, 214, 213, 208, 227, 216, 195, 212, 231, 215], zV]) rfl (sumR_ok _ (uK_byt hb)) (fuel := 60) (need' := uNeed 64 0 1001 1002 0) (M' := [vrow 1002 zV, vrow 1003 zV, vrow 1001 (smp [133, 224, 129, 206, 171, 219, 202, 214, 213, 208, 227, 216, 195, 212, 231, 215])]) rfl (uD 64 b n false (IntKind.u64.wrap (0 - getI b 64 n))) u64mTs (uD_ok (decide_eq_false h) (u64_bd _).1 (u64_bd _).2) (fun g β => by kernel_rfl)
/-! ### popcnt: its inner loop -/
def pX (x : Int) : Nat → Int
  | 0 => x
  | p + 1 => IntKind.u64.wrap (Int.tdiv (pX x p) 2)
def pN (x : Int) : Nat → Int
  | 0 => 0
  | p + 1 => IntKind.u64.wrap (pN x p + Int.tmod (pX x p) 2)
def pS (x : Int) (p : Nat) : List (Nat × Value) := [(10, .int .u64 (pX x p)), (11, .int .u64 (pN x p))]
def pHav : List Nat := [10, 11, 48, 49, 50, 51, 52, 53, 54, 55]
noncomputable def pC : Code := loopIn 29 2
noncomputable def pPath (x x' : Int) (p : Nat) (ex : Exit) (q : Nat) (r1 r2 r3 : Rw) (g : Nat → Value) (β : Nat → Fr) : Out :=
  evCode (envR []) (envR []) 60 pC (valsOf ([] ++ pS x p) g 62) (valsOf ([] ++ pS x' 0) (fun _ => undef) 62) [r1, r2, r3] [vrow 1002 zV, vrow 1003 zV, vrow 1001 zV] ex (pS x q ++ keepOf ([] ++ pS x p) g 62 pHav) [r1, r2, r3] β
--EVTS pgTs | fun (x : Int) (p : Nat) (r1 r2 r3 : Rw) (g : Nat → Value) (β : Nat → Fr) => (pPath x 5 p .normal (p + 1) r1 r2 r3 g β, [(decide (pX x p > 0), true)])
def pgTs : List Nat := [1]
--EVTS peTs | fun (x : Int) (p : Nat) (r1 r2 r3 : Rw) (g : Nat → Value) (β : Nat → Fr) => (pPath x 0 p (.exit 2) p r1 r2 r3 g β, [(decide (pX x p > 0), false)])
def peTs : List Nat := [1]
theorem p_go (x : Int) (p : Nat) (r1 r2 r3 : Rw) (h : pX x p > 0) : Runs pC 62 ([] ++ pS x p) [r1, r2, r3] .normal (pS x (p + 1)) pHav [r1, r2, r3] :=
  runs_code (E := envR []) (E' := envR []) rfl (sumR_ok _ (fun x hx => by cases hx)) (fuel := 60) (need' := [] ++ pS 5 0) (M' := [vrow 1002 zV, vrow 1003 zV, vrow 1001 zV]) rfl [(decide (pX x p > 0), true)] pgTs (fun q hq => by rw [List.mem_singleton.1 hq]; exact decide_eq_true h) (fun g β => by kernel_rfl)
theorem p_end (x : Int) (p : Nat) (r1 r2 r3 : Rw) (h : ¬ pX x p > 0) : Runs pC 62 ([] ++ pS x p) [r1, r2, r3] (.exit 2) (pS x p) pHav [r1, r2, r3] :=
  runs_code (E := envR []) (E' := envR []) rfl (sumR_ok _ (fun x hx => by cases hx)) (fuel := 60) (need' := [] ++ pS 0 0) (M' := [vrow 1002 zV, vrow 1003 zV, vrow 1001 zV]) rfl [(decide (pX x p > 0), false)] peTs (fun q hq => by rw [List.mem_singleton.1 hq]; exact decide_eq_false h) (fun g β => by kernel_rfl)
theorem pX_val (x : Int) (h0 : 0 ≤ x) (h1 : x < 18446744073709551616) : ∀ p : Nat, pX x p = ((x.toNat / 2 ^ p : Nat) : Int) ∧ 0 ≤ pX x p ∧ pX x p < 18446744073709551616
  | 0 => ⟨by show x = _; simp; omega, h0, h1⟩
  | p + 1 => by
    obtain ⟨e, a, b⟩ := pX_val x h0 h1 p
    have e2 : pX x (p + 1) = pX x p / 2 := by
      show IntKind.u64.wrap (Int.tdiv (pX x p) 2) = _
      rw [Int.tdiv_eq_ediv_of_nonneg a, IntWalk.u64_in _ (by omega)]
    refine ⟨?_, by omega, by omega⟩
    rw [e2, e, Nat.pow_succ, ← Nat.div_div_eq_div_mul]
    rfl
theorem pop_step (f n : Nat) : Lib.popAux (f + 1) n = n % 2 + Lib.popAux f (n / 2) := by rfl
/-- the sum of the bits taken and those left -/
theorem pN_val (x : Int) (h0 : 0 ≤ x) (h1 : x < 256) : ∀ p : Nat, p ≤ 8 → pN x p + (Lib.popAux (64 - p) (x.toNat / 2 ^ p) : Nat) = (Lib.popAux 64 x.toNat : Nat) ∧ 0 ≤ pN x p ∧ pN x p ≤ p
  | 0, _ => ⟨by simp [pN], by simp [pN], by simp [pN]⟩
  | p + 1, hp => by
    obtain ⟨e, a, b⟩ := pN_val x h0 h1 p (by omega)
    obtain ⟨e2, _, _⟩ := pX_val x h0 (by omega) p
    have e3 : pN x (p + 1) = pN x p + ((x.toNat / 2 ^ p % 2 : Nat) : Int) := by
      show IntKind.u64.wrap (pN x p + Int.tmod (pX x p) 2) = _
      rw [e2, Int.tmod_eq_emod_of_nonneg (by omega), show ((x.toNat / 2 ^ p : Nat) : Int) % 2 = ((x.toNat / 2 ^ p % 2 : Nat) : Int) by omega, IntWalk.u64_in _ (by omega)]
    have e4 : Lib.popAux (64 - p) (x.toNat / 2 ^ p) = x.toNat / 2 ^ p % 2 + Lib.popAux (64 - (p + 1)) (x.toNat / 2 ^ (p + 1)) := by
      rw [show 64 - p = (64 - (p + 1)) + 1 by omega, pop_step, Nat.pow_succ, ← Nat.div_div_eq_div_mul]
    refine ⟨?_, by omega, by omega⟩
    rw [e3, ← e, e4]
    omega
theorem pop_zero : ∀ f, Lib.popAux f 0 = 0
  | 0 => rfl
  | f + 1 => by rw [pop_step, pop_zero f]
/-- how many rounds there are -/
theorem p_rounds (x : Int) (h0 : 0 ≤ x) (h1 : x < 256) : ∃ m, m ≤ 8 ∧ (∀ p, p < m → pX x p > 0) ∧ ¬ pX x m > 0 ∧ pN x m = (Lib.popAux 64 x.toNat : Nat) := by
  have key : ∀ k, k ≤ 8 → (∃ m, m ≤ k ∧ (∀ p, p < m → pX x p > 0) ∧ ¬ pX x m > 0) ∨ ∀ p, p ≤ k → pX x p > 0 := by
    intro k
    induction k with
    | zero =>
      intro _
      by_cases h : pX x 0 > 0
      · exact .inr fun p hp => by obtain rfl : p = 0 := by omega
                                  exact h
      · exact .inl ⟨0, Nat.le_refl _, fun p hp => by omega, h⟩
    | succ k ih =>
      intro hk
      rcases ih (by omega) with ⟨m, hm, h⟩ | h
      · exact .inl ⟨m, by omega, h⟩
      · by_cases h2 : pX x (k + 1) > 0
        · refine .inr fun p hp => ?_
          by_cases hpk : p ≤ k
          · exact h p hpk
          · obtain rfl : p = k + 1 := by omega
            exact h2
        · exact .inl ⟨k + 1, Nat.le_refl _, fun p hp => h p (by omega), h2⟩
  rcases key 8 (Nat.le_refl _) with ⟨m, hm, h, h2⟩ | h
  · refine ⟨m, hm, h, h2, ?_⟩
    obtain ⟨e, _, _⟩ := pN_val x h0 h1 m hm
    obtain ⟨e2, _, _⟩ := pX_val x h0 (by omega) m
    have hz : x.toNat / 2 ^ m = 0 := by omega
    rw [hz, pop_zero] at e
    omega
  · have := h 8 (Nat.le_refl _)
    obtain ⟨e2, _, _⟩ := pX_val x h0 (by omega) 8
    have hz : x.toNat / 2 ^ 8 = 0 := by omega
    rw [hz] at e2
    omega
theorem p_blk : blkIn 29 2 = .block 2 (.loop pC) := by kernel_rfl
theorem p_noloop : ∀ b, pC ≠ .loop b := by
  intro b h
  have : (match pC with | .loop _ => true | _ => false) = false := by kernel_rfl
  rw [h] at this
  cases this
def popV (x : Int) : Int := (Lib.popAux 64 x.toNat : Nat)
theorem p_run (x : Int) (h0 : 0 ≤ x) (h1 : x < 256) (r1 r2 r3 : Rw) : Runs (blkIn 29 2) 62 [(10, .int .u64 x), (11, .int .u64 0)] [r1, r2, r3] .normal [(11, .int .u64 (popV x))] pHav [r1, r2, r3] := by
  obtain ⟨m, _, hg, he, hv⟩ := p_rounds x h0 h1
  have h := runs_loop (id := 2) (n := 62) (m := m) (c := pC) (nc := []) (nv := pS x) (hav := pHav) (R := fun _ => [r1, r2, r3]) p_noloop (fun p hp => by cases hp) (fun p hp => p_go x p r1 r2 r3 (hg p hp)) (p_end x m r1 r2 r3 he)
  rw [p_blk]
  intro w0 w T Q hn hneed hS hQ
  refine h w0 w T Q hn hneed hS fun T' w' e1 e2 e3 e4 => hQ T' w' e1 (fun p hp => ?_) e3 e4
  rw [List.mem_singleton.1 hp]
  have := e2 (11, .int .u64 (pN x m)) (List.mem_cons_of_mem _ (List.mem_cons_self ..))
  simp only at this ⊢
  rw [this, hv]
  rfl
noncomputable def pHole (pv : Int → Int) (id : Nat) (_ : Code) (T : Tm) (M : List Rw) : Option Hole :=
  match Nat.beq id 2 with
  | false => none
  | true => match tget T 10 with
    | .int .u64 x => match M with
      | [r1, r2, r3] => some (mkHole (blkIn 29 2) 62 [(10, .int .u64 x), (11, .int .u64 0)] [r1, r2, r3] [decide (0 ≤ x), decide (x < 256)] .normal [(11, .int .u64 (pv x))] pHav [r1, r2, r3])
      | _ => none
    | _ => none
noncomputable def envP (pv : Int → Int) (K : List (Nat → Int)) : Env := { P := Try.prog, known := K, sum := sumR, hole := pHole pv }
theorem p_holes (pv : Int → Int) (hpv : ∀ x, pv x = popV x) (K : List (Nat → Int)) : HolesOk (envP pv K) := by
  intro id body T M H hq hn hneed hrows hpre w0 w Q hS hQ
  replace hq : pHole pv id body T M = some H := hq
  unfold pHole at hq
  split at hq
  · cases hq
  · split at hq
    · split at hq
      · cases hq
        have h0 := hpre _ (List.mem_cons_self ..)
        have h1 := hpre _ (List.mem_cons_of_mem _ (List.mem_cons_self ..))
        simp only [decide_eq_true_eq] at h0 h1
        exact mkHole_ok (by rw [hpv]; exact p_run _ h0 h1 _ _ _) (fun p hp => by rw [List.mem_singleton.1 hp]; show 11 < 62; decide) hn hneed hS fun ξ w' h => hQ ξ w' h
      · cases hq
    · cases hq
noncomputable def upPath (pv : Int → Int) (F : Nat → Int) (r4 : Rw) (bv bo : Nat) (b b' : Nat → Int) (n : Nat) (x : Int) (g : Nat → Value) (β : Nat → Fr) : Out :=
  evCode (envP pv [b, ofK zV 8 F n]) (envP popV [b', zV]) 60 uBlk (valsOf (uNeed 8 2 bv bo n) g 62) (valsOf (uNeed 8 2 1001 1002 0) (fun _ => undef) 62)
    [vrow bo (ofK zV 8 F n), r4, vrow bv b] [vrow 1002 zV, vrow 1003 zV, vrow 1001 b'] .normal ([] ++ keepOf (uNeed 8 2 bv bo n) g 62 uHav) [vrow bo (setI (ofK zV 8 F n) 8 n x), r4, vrow bv b] β
def upD (pv : Int → Int) (b : Nat → Int) (n : Nat) : List (Bool × Bool) := [(decide (0 ≤ getI b 8 n), true), (decide (getI b 8 n < 256), true), (decide (0 ≤ pv (getI b 8 n)), true), (decide (pv (getI b 8 n) < 18446744073709551616), true)]
--EVTS upTs | fun (pv : Int → Int) (F : Nat → Int) (r4 : Rw) (bv bo : Nat) (b : Nat → Int) (n : Nat) (g : Nat → Value) (β : Nat → Fr) => (upPath pv F r4 bv bo b (smp [33, 24, 129, 6, 71, 19, 2, 14, 213, 8, 27, 16, 95, 12, 231, 15]) n (pv (getI b 8 n)) g β, upD pv b n)
def upTs : List Nat := [4, 3, 0, 2, 1, 0, 0, 0, 0, 0, 0, 0, 0]
theorem u8p0 (pv : Int → Int) (hpv : ∀ x, pv x = popV x) (F : Nat → Int) (b : Nat → Int) (hb : Byt b) (n : Nat) (r4 : Rw) (bv bo : Nat) :
    Runs uBlk 62 (uNeed 8 2 bv bo n) [vrow bo (ofK zV 8 F n), r4, vrow bv b] .normal [] uHav [vrow bo (setI (ofK zV 8 F n) 8 n (pv (getI b 8 n))), r4, vrow bv b] := by
  have hbd := getI_bd hb 8 n
  rw [show (256 : Int) ^ wid 8 = 256 by decide] at hbd
  have hp := popAux_le 64 (getI b 8 n).toNat
  have hp2 : pv (getI b 8 n) = ((Lib.popAux 64 (getI b 8 n).toNat : Nat) : Int) := hpv _
  refine runs_code (E := envP pv [b, ofK zV 8 F n]) (E' := envP popV [smp [33, 24, 129, 6, 71, 19, 2, 14, 213, 8, 27, 16, 95, 12, 231, 15], zV]) rfl (sumR_ok' (envP pv _) rfl (uK_byt hb)) (fuel := 60) (need' := uNeed 8 2 1001 1002 0) (M' := [vrow 1002 zV, vrow 1003 zV, vrow 1001 (smp [33, 24, 129, 6, 71, 19, 2, 14, 213, 8, 27, 16, 95, 12, 231, 15])]) rfl (upD pv b n) upTs ?_ (fun g β => by kernel_rfl) (p_holes pv hpv _)
  intro p hp3
  simp only [upD, List.mem_cons, List.not_mem_nil, or_false] at hp3
  rcases hp3 with rfl | rfl | rfl | rfl
  · exact decide_eq_true hbd.1
  · exact decide_eq_true hbd.2
  · exact decide_eq_true (by omega)
  · exact decide_eq_true (by omega)
theorem u8c (b : Nat → Int) (hb : Byt b) (n : Nat) : URound 8 2 b n := by
  intro r4 bv bo
  have e : setI (ofK zV 8 (unF 2 8 b) n) 8 n (popV (getI b 8 n)) = ofK zV 8 (unF 2 8 b) (n + 1) := by
    rw [ofK]
    congr 1
  rw [← e]
  exact u8p0 popV (fun _ => rfl) (unF 2 8 b) b hb n r4 bv bo
/-! ### the whole -/
theorem u_round (w k : Int) (hw : w = 8 ∨ w = 16 ∨ w = 32 ∨ w = 64) (hk : k = 0 ∨ k = 1 ∨ (k = 2 ∧ w = 8)) (b : Nat → Int) (hb : Byt b) (n : Nat) : URound w k b n := by
  rcases hk with rfl | rfl | ⟨rfl, rfl⟩
  · rcases hw with rfl | rfl | rfl | rfl
    · by_cases h : sgnI b 8 n ≥ 0
      · exact u8p b hb n h
      · exact u8m b hb n h
    · by_cases h : sgnI b 16 n ≥ 0
      · exact u16p b hb n h
      · exact u16m b hb n h
    · by_cases h : sgnI b 32 n ≥ 0
      · exact u32p b hb n h
      · exact u32m b hb n h
    · by_cases h : sgnI b 64 n ≥ 0
      · exact u64p b hb n h
      · exact u64m b hb n h
  · rcases hw with rfl | rfl | rfl | rfl
    · exact u8n b hb n trivial
    · exact u16n b hb n trivial
    · exact u32n b hb n trivial
    · exact u64n b hb n trivial
  · exact u8c b hb n
noncomputable def uHole (w k : Int) (L : Nat) (b : Nat → Int) (id : Nat) (_ : Code) (T : Tm) (M : List Rw) : Option Hole :=
  match Nat.beq id 1 with
  | false => none
  | true => match tget T 9 with
    | .int .i64 i => match M with
      | [ro, r4, rv] => some (mkHole uBlk 62 (uNeed w k rv.b ro.b i) [vrow ro.b (ofK zV w (unF k w b) i.toNat), r4, vrow rv.b b] [decide (0 ≤ i)] .normal [] uHav [vrow ro.b (ofK zV w (unF k w b) (i.toNat + 1)), r4, vrow rv.b b])
      | _ => none
    | _ => none
noncomputable def envU (w k : Int) (L : Nat) (b : Nat → Int) : Env := { P := Try.prog, known := [b], sum := sumO, hole := uHole w k L b }
theorem u_holes (w k : Int) (L : Nat) (hw : w = 8 ∨ w = 16 ∨ w = 32 ∨ w = 64) (hk : k = 0 ∨ k = 1 ∨ (k = 2 ∧ w = 8)) (b : Nat → Int) (hb : Byt b) : HolesOk (envU w k L b) := by
  intro id body T M H hq hn hneed hrows hpre w0 w1 Q hS hQ
  replace hq : uHole w k L b id body T M = some H := hq
  unfold uHole at hq
  split at hq
  · cases hq
  · split at hq
    · rename_i i _
      split at hq
      · cases hq
        have h0 := hpre _ (List.mem_cons_self ..)
        simp only [decide_eq_true_eq] at h0
        obtain ⟨n, rfl⟩ : ∃ n : Nat, i = n := ⟨i.toNat, by omega⟩
        exact mkHole_ok (u_round w k hw hk b hb n _ _ _) (fun p hp => by cases hp) hn hneed (by rw [hrows] at hS; exact hS) fun ξ w' h => hQ ξ w' h
      · cases hq
    · cases hq
noncomputable def unPath (op w k : Int) (L : Nat) (b : Nat → Int) (β : Nat → Fr) : Out :=
  evPath (envU w k L b) (envU w k L zV) 60 29 [.int .i64 op, .agg (bs b)] [.int .i64 op, .agg (bs zV)] (.tuple #[.agg (bs (ofK zV w (unF k w b) L)), .int .i64 0]) β
--EVTS ru64864Ts | fun (b : Nat → Int) (β : Nat → Fr) => (unPath 64864 8 0 16 b β, ([] : List (Bool × Bool)))
def ru64864Ts : List Nat := [0, 0, 0, 0, 0, 0, 0, 0, 0, 0, 0, 0, 0, 0, 0, 0, 0, 0, 0, 0, 0, 0, 0, 0, 0, 0, 0, 0, 0, 0, 0, 0, 0, 0, 0, 0, 0, 0, 0, 0, 0, 0, 0, 0, 0, 0, 0, 0, 0, 0, 0, 0, 0]
theorem ru64864 (b : Nat → Int) (hb : Byt b) (w : World) : Calls Try.prog 29 #[.int .i64 64864, .agg (bs b)] w fun e w' => e = .returned (.tuple #[.agg (bs (ofK zV 8 (unF 0 8 b) 16)), .int .i64 0]) ∧ Gr w w' :=
  ev_path (E := envU 8 0 16 b) (E' := envU 8 0 16 zV) rfl (sumO_ok' (envU 8 0 16 b) rfl (byt_one hb)) (fuel := 60) (args' := [.int .i64 64864, .agg (bs zV)]) [] ru64864Ts (fun p hp => by cases hp) (fun β => by kernel_rfl) w (u_holes 8 0 16 (by omega) (by omega) b hb)
--EVTS ru64865Ts | fun (b : Nat → Int) (β : Nat → Fr) => (unPath 64865 8 1 16 b β, ([] : List (Bool × Bool)))
def ru64865Ts : List Nat := [0, 0, 0, 0, 0, 0, 0, 0, 0, 0, 0, 0, 0, 0, 0, 0, 0, 0, 0, 0, 0, 0, 0, 0, 0, 0, 0, 0, 0, 0, 0, 0, 0, 0, 0, 0, 0, 0, 0, 0, 0, 0, 0, 0, 0, 0, 0, 0, 0, 0, 0, 0, 0]
theorem ru64865 (b : Nat → Int) (hb : Byt b) (w : World) : Calls Try.prog 29 #[.int .i64 64865, .agg (bs b)] w fun e w' => e = .returned (.tuple #[.agg (bs (ofK zV 8 (unF 1 8 b) 16)), .int .i64 0]) ∧ Gr w w' :=
  ev_path (E := envU 8 1 16 b) (E' := envU 8 1 16 zV) rfl (sumO_ok' (envU 8 1 16 b) rfl (byt_one hb)) (fuel := 60) (args' := [.int .i64 64865, .agg (bs zV)]) [] ru64865Ts (fun p hp => by cases hp) (fun β => by kernel_rfl) w (u_holes 8 1 16 (by omega) (by omega) b hb)
--EVTS ru64866Ts | fun (b : Nat → Int) (β : Nat → Fr) => (unPath 64866 8 2 16 b β, ([] : List (Bool × Bool)))
def ru64866Ts : List Nat := [0, 0, 0, 0, 0, 0, 0, 0, 0, 0, 0, 0, 0, 0, 0, 0, 0, 0, 0, 0, 0, 0, 0, 0, 0, 0, 0, 0, 0, 0, 0, 0, 0, 0, 0, 0, 0, 0, 0, 0, 0, 0, 0, 0, 0, 0, 0, 0, 0, 0, 0, 0, 0]
theorem ru64866 (b : Nat → Int) (hb : Byt b) (w : World) : Calls Try.prog 29 #[.int .i64 64866, .agg (bs b)] w fun e w' => e = .returned (.tuple #[.agg (bs (ofK zV 8 (unF 2 8 b) 16)), .int .i64 0]) ∧ Gr w w' :=
  ev_path (E := envU 8 2 16 b) (E' := envU 8 2 16 zV) rfl (sumO_ok' (envU 8 2 16 b) rfl (byt_one hb)) (fuel := 60) (args' := [.int .i64 64866, .agg (bs zV)]) [] ru64866Ts (fun p hp => by cases hp) (fun β => by kernel_rfl) w (u_holes 8 2 16 (by omega) (by omega) b hb)
--EVTS ru64896Ts | fun (b : Nat → Int) (β : Nat → Fr) => (unPath 64896 16 0 8 b β, ([] : List (Bool × Bool)))
def ru64896Ts : List Nat := [0, 0, 0, 0, 0, 0, 0, 0, 0, 0, 0, 0, 0, 0, 0, 0, 0, 0, 0, 0, 0, 0, 0, 0, 0, 0, 0, 0, 0]
theorem ru64896 (b : Nat → Int) (hb : Byt b) (w : World) : Calls Try.prog 29 #[.int .i64 64896, .agg (bs b)] w fun e w' => e = .returned (.tuple #[.agg (bs (ofK zV 16 (unF 0 16 b) 8)), .int .i64 0]) ∧ Gr w w' :=
  ev_path (E := envU 16 0 8 b) (E' := envU 16 0 8 zV) rfl (sumO_ok' (envU 16 0 8 b) rfl (byt_one hb)) (fuel := 60) (args' := [.int .i64 64896, .agg (bs zV)]) [] ru64896Ts (fun p hp => by cases hp) (fun β => by kernel_rfl) w (u_holes 16 0 8 (by omega) (by omega) b hb)
--EVTS ru64897Ts | fun (b : Nat → Int) (β : Nat → Fr) => (unPath 64897 16 1 8 b β, ([] : List (Bool × Bool)))
def ru64897Ts : List Nat := [0, 0, 0, 0, 0, 0, 0, 0, 0, 0, 0, 0, 0, 0, 0, 0, 0, 0, 0, 0, 0, 0, 0, 0, 0, 0, 0, 0, 0]
theorem ru64897 (b : Nat → Int) (hb : Byt b) (w : World) : Calls Try.prog 29 #[.int .i64 64897, .agg (bs b)] w fun e w' => e = .returned (.tuple #[.agg (bs (ofK zV 16 (unF 1 16 b) 8)), .int .i64 0]) ∧ Gr w w' :=
  ev_path (E := envU 16 1 8 b) (E' := envU 16 1 8 zV) rfl (sumO_ok' (envU 16 1 8 b) rfl (byt_one hb)) (fuel := 60) (args' := [.int .i64 64897, .agg (bs zV)]) [] ru64897Ts (fun p hp => by cases hp) (fun β => by kernel_rfl) w (u_holes 16 1 8 (by omega) (by omega) b hb)
--EVTS ru64928Ts | fun (b : Nat → Int) (β : Nat → Fr) => (unPath 64928 32 0 4 b β, ([] : List (Bool × Bool)))
def ru64928Ts : List Nat := [0, 0, 0, 0, 0, 0, 0, 0, 0, 0, 0, 0, 0, 0, 0, 0, 0]
theorem ru64928 (b : Nat → Int) (hb : Byt b) (w : World) : Calls Try.prog 29 #[.int .i64 64928, .agg (bs b)] w fun e w' => e = .returned (.tuple #[.agg (bs (ofK zV 32 (unF 0 32 b) 4)), .int .i64 0]) ∧ Gr w w' :=
  ev_path (E := envU 32 0 4 b) (E' := envU 32 0 4 zV) rfl (sumO_ok' (envU 32 0 4 b) rfl (byt_one hb)) (fuel := 60) (args' := [.int .i64 64928, .agg (bs zV)]) [] ru64928Ts (fun p hp => by cases hp) (fun β => by kernel_rfl) w (u_holes 32 0 4 (by omega) (by omega) b hb)
--EVTS ru64929Ts | fun (b : Nat → Int) (β : Nat → Fr) => (unPath 64929 32 1 4 b β, ([] : List (Bool × Bool)))
def ru64929Ts : List Nat := [0, 0, 0, 0, 0, 0, 0, 0, 0, 0, 0, 0, 0, 0, 0, 0, 0]
theorem ru64929 (b : Nat → Int) (hb : Byt b) (w : World) : Calls Try.prog 29 #[.int .i64 64929, .agg (bs b)] w fun e w' => e = .returned (.tuple #[.agg (bs (ofK zV 32 (unF 1 32 b) 4)), .int .i64 0]) ∧ Gr w w' :=
  ev_path (E := envU 32 1 4 b) (E' := envU 32 1 4 zV) rfl (sumO_ok' (envU 32 1 4 b) rfl (byt_one hb)) (fuel := 60) (args' := [.int .i64 64929, .agg (bs zV)]) [] ru64929Ts (fun p hp => by cases hp) (fun β => by kernel_rfl) w (u_holes 32 1 4 (by omega) (by omega) b hb)
--EVTS ru64960Ts | fun (b : Nat → Int) (β : Nat → Fr) => (unPath 64960 64 0 2 b β, ([] : List (Bool × Bool)))
def ru64960Ts : List Nat := [0, 0, 0, 0, 0, 0, 0, 0, 0, 0, 0]
theorem ru64960 (b : Nat → Int) (hb : Byt b) (w : World) : Calls Try.prog 29 #[.int .i64 64960, .agg (bs b)] w fun e w' => e = .returned (.tuple #[.agg (bs (ofK zV 64 (unF 0 64 b) 2)), .int .i64 0]) ∧ Gr w w' :=
  ev_path (E := envU 64 0 2 b) (E' := envU 64 0 2 zV) rfl (sumO_ok' (envU 64 0 2 b) rfl (byt_one hb)) (fuel := 60) (args' := [.int .i64 64960, .agg (bs zV)]) [] ru64960Ts (fun p hp => by cases hp) (fun β => by kernel_rfl) w (u_holes 64 0 2 (by omega) (by omega) b hb)
--EVTS ru64961Ts | fun (b : Nat → Int) (β : Nat → Fr) => (unPath 64961 64 1 2 b β, ([] : List (Bool × Bool)))
def ru64961Ts : List Nat := [0, 0, 0, 0, 0, 0, 0, 0, 0, 0, 0]
theorem ru64961 (b : Nat → Int) (hb : Byt b) (w : World) : Calls Try.prog 29 #[.int .i64 64961, .agg (bs b)] w fun e w' => e = .returned (.tuple #[.agg (bs (ofK zV 64 (unF 1 64 b) 2)), .int .i64 0]) ∧ Gr w w' :=
  ev_path (E := envU 64 1 2 b) (E' := envU 64 1 2 zV) rfl (sumO_ok' (envU 64 1 2 b) rfl (byt_one hb)) (fuel := 60) (args' := [.int .i64 64961, .agg (bs zV)]) [] ru64961Ts (fun p hp => by cases hp) (fun β => by kernel_rfl) w (u_holes 64 1 2 (by omega) (by omega) b hb)
def roV (op : Int) : Int := if aW op = 0 then -1 else aK op
noncomputable def unoPath (op t : Int) (b : Nat → Int) (β : Nat → Fr) : Out :=
  evPath (envO [b]) (envO [zV]) 60 29 [.int .i64 op, .agg (bs b)] [.int .i64 t, .agg (bs zV)] (.tuple #[.agg (bs zV), .int .i64 1]) β
--EVTS u0Ts | fun (op : Int) (b : Nat → Int) (β : Nat → Fr) => (unoPath op 0 b β, [(decide ((if aW op = 0 then -1 else aK op) < 0), true)])
def u0Ts : List Nat := [0, 1, 1, 1]
theorem u0 (op : Int) (h : aW op = 0) (b : Nat → Int) (hb : Byt b) (w : World) : Calls Try.prog 29 #[.int .i64 op, .agg (bs b)] w fun e w' => e = .returned (.tuple #[.agg (bs zV), .int .i64 1]) ∧ Gr w w' :=
  ev_path (E := envO [b]) (E' := envO [zV]) rfl (sumO_ok _ (byt_one hb)) (fuel := 60) (args' := [.int .i64 0, .agg (bs zV)]) [(decide ((if aW op = 0 then -1 else aK op) < 0), true)] u0Ts (fun p hp => by rw [List.mem_singleton.1 hp]; simp [h]) (fun β => by kernel_rfl) w
--EVTS u1Ts | fun (op : Int) (b : Nat → Int) (β : Nat → Fr) => (unoPath op 64879 b β, [(decide ((if aW op = 0 then -1 else aK op) < 0), false), (decide ((if aW op = 0 then -1 else aK op) > 2), true)])
def u1Ts : List Nat := [2, 1, 1, 1]
theorem u1 (op : Int) (h : aW op ≠ 0 ∧ aK op > 2) (b : Nat → Int) (hb : Byt b) (w : World) : Calls Try.prog 29 #[.int .i64 op, .agg (bs b)] w fun e w' => e = .returned (.tuple #[.agg (bs zV), .int .i64 1]) ∧ Gr w w' :=
  ev_path (E := envO [b]) (E' := envO [zV]) rfl (sumO_ok _ (byt_one hb)) (fuel := 60) (args' := [.int .i64 64879, .agg (bs zV)]) [(decide ((if aW op = 0 then -1 else aK op) < 0), false), (decide ((if aW op = 0 then -1 else aK op) > 2), true)] u1Ts (fun p hp => by
    simp only [List.mem_cons, List.not_mem_nil, or_false] at hp
    rcases hp with rfl | rfl
    · simp [h.1]; omega
    · simp [h.1]; omega) (fun β => by kernel_rfl) w
theorem un_eq (w : Int) (hw : w = 8 ∨ w = 16 ∨ w = 32 ∨ w = 64) (L : Nat) (hL : lanesI w = L) (f : Nat → Int) (b : Nat → Int) (hb : Byt b) : bs (ofK zV w f L) = bs (ofK b w f L) := by
  refine bs_congr (ext (ofK_byt byt_zero _ _ _) (ofK_byt hb _ _ _) w hw fun j hj => ?_)
  have := (there_iff.1 hj).2
  rw [get_ofK _ _ _ j hj, get_ofK _ _ _ j hj, if_pos (by omega), if_pos (by omega)]
theorem run_any (op : Int) (b : Nat → Int) (hb : Byt b) (w : World) : Calls Try.prog 29 #[.int .i64 op, .agg (bs b)] w fun e w' => e = .returned (.tuple #[.agg (bs (unV op b)), .int .i64 (if unOk op then 0 else 1)]) ∧ Gr w w' := by
  by_cases h : unOk op = true
  · have h2 := h
    unfold unOk at h2
    simp only [Bool.and_eq_true, bne_iff_ne, ne_eq, decide_eq_true_eq] at h2
    have hin : op ∈ opsA := (in_ops op).2 (by
      unfold aW at h2
      split at h2 <;> simp_all)
    rw [if_pos h]
    have e : unV op b = ofK b (aW op) (unF (aK op) (aW op) b) (lanesI (aW op)).toNat := by unfold unV; rw [if_pos h]; rfl
    rw [e]
    clear e h
    simp only [opsA, List.mem_cons, List.not_mem_nil, or_false] at hin
    rcases hin with rfl | rfl | rfl | rfl | rfl | rfl | rfl | rfl | rfl | rfl | rfl | rfl | rfl | rfl | rfl | rfl | rfl | rfl | rfl | rfl | rfl | rfl | rfl | rfl | rfl | rfl | rfl | rfl | rfl | rfl | rfl | rfl | rfl | rfl | rfl | rfl | rfl | rfl | rfl | rfl | rfl | rfl | rfl | rfl | rfl | rfl | rfl | rfl | rfl | rfl | rfl | rfl | rfl | rfl
    · rw [show aW 64864 = 8 by decide +kernel, show aK 64864 = 0 by decide +kernel, show (lanesI 8).toNat = 16 by decide, ← un_eq 8 (by omega) 16 rfl _ b hb]; exact ru64864 b hb w
    · rw [show aW 64865 = 8 by decide +kernel, show aK 64865 = 1 by decide +kernel, show (lanesI 8).toNat = 16 by decide, ← un_eq 8 (by omega) 16 rfl _ b hb]; exact ru64865 b hb w
    · exact absurd h2.2 (by decide +kernel)
    · exact absurd h2.2 (by decide +kernel)
    · exact absurd h2.2 (by decide +kernel)
    · exact absurd h2.2 (by decide +kernel)
    · exact absurd h2.2 (by decide +kernel)
    · exact absurd h2.2 (by decide +kernel)
    · exact absurd h2.2 (by decide +kernel)
    · exact absurd h2.2 (by decide +kernel)
    · exact absurd h2.2 (by decide +kernel)
    · exact absurd h2.2 (by decide +kernel)
    · exact absurd h2.2 (by decide +kernel)
    · exact absurd h2.2 (by decide +kernel)
    · exact absurd h2.2 (by decide +kernel)
    · exact absurd h2.2 (by decide +kernel)
    · rw [show aW 64866 = 8 by decide +kernel, show aK 64866 = 2 by decide +kernel, show (lanesI 8).toNat = 16 by decide, ← un_eq 8 (by omega) 16 rfl _ b hb]; exact ru64866 b hb w
    · rw [show aW 64896 = 16 by decide +kernel, show aK 64896 = 0 by decide +kernel, show (lanesI 16).toNat = 8 by decide, ← un_eq 16 (by omega) 8 rfl _ b hb]; exact ru64896 b hb w
    · rw [show aW 64897 = 16 by decide +kernel, show aK 64897 = 1 by decide +kernel, show (lanesI 16).toNat = 8 by decide, ← un_eq 16 (by omega) 8 rfl _ b hb]; exact ru64897 b hb w
    · exact absurd h2.2 (by decide +kernel)
    · exact absurd h2.2 (by decide +kernel)
    · exact absurd h2.2 (by decide +kernel)
    · exact absurd h2.2 (by decide +kernel)
    · exact absurd h2.2 (by decide +kernel)
    · exact absurd h2.2 (by decide +kernel)
    · exact absurd h2.2 (by decide +kernel)
    · exact absurd h2.2 (by decide +kernel)
    · exact absurd h2.2 (by decide +kernel)
    · exact absurd h2.2 (by decide +kernel)
    · exact absurd h2.2 (by decide +kernel)
    · exact absurd h2.2 (by decide +kernel)
    · exact absurd h2.2 (by decide +kernel)
    · exact absurd h2.2 (by decide +kernel)
    · exact absurd h2.2 (by decide +kernel)
    · rw [show aW 64928 = 32 by decide +kernel, show aK 64928 = 0 by decide +kernel, show (lanesI 32).toNat = 4 by decide, ← un_eq 32 (by omega) 4 rfl _ b hb]; exact ru64928 b hb w
    · rw [show aW 64929 = 32 by decide +kernel, show aK 64929 = 1 by decide +kernel, show (lanesI 32).toNat = 4 by decide, ← un_eq 32 (by omega) 4 rfl _ b hb]; exact ru64929 b hb w
    · exact absurd h2.2 (by decide +kernel)
    · exact absurd h2.2 (by decide +kernel)
    · exact absurd h2.2 (by decide +kernel)
    · exact absurd h2.2 (by decide +kernel)
    · exact absurd h2.2 (by decide +kernel)
    · exact absurd h2.2 (by decide +kernel)
    · exact absurd h2.2 (by decide +kernel)
    · exact absurd h2.2 (by decide +kernel)
    · exact absurd h2.2 (by decide +kernel)
    · exact absurd h2.2 (by decide +kernel)
    · rw [show aW 64960 = 64 by decide +kernel, show aK 64960 = 0 by decide +kernel, show (lanesI 64).toNat = 2 by decide, ← un_eq 64 (by omega) 2 rfl _ b hb]; exact ru64960 b hb w
    · rw [show aW 64961 = 64 by decide +kernel, show aK 64961 = 1 by decide +kernel, show (lanesI 64).toNat = 2 by decide, ← un_eq 64 (by omega) 2 rfl _ b hb]; exact ru64961 b hb w
    · exact absurd h2.2 (by decide +kernel)
    · exact absurd h2.2 (by decide +kernel)
    · exact absurd h2.2 (by decide +kernel)
    · exact absurd h2.2 (by decide +kernel)
    · exact absurd h2.2 (by decide +kernel)
    · exact absurd h2.2 (by decide +kernel)
  · have e : unV op b = zV := by unfold unV; rw [if_neg h]; rfl
    rw [if_neg h, e]
    by_cases h0 : aW op = 0
    · exact u0 op h0 b hb w
    · refine u1 op ⟨h0, ?_⟩ b hb w
      unfold unOk at h
      simp only [Bool.and_eq_true, bne_iff_ne, ne_eq, decide_eq_true_eq, not_and] at h
      have := h h0
      omega
end Ar
end Go.Proofs.Ytalnkkmbjaollaa
