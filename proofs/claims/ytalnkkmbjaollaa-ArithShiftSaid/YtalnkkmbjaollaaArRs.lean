/-
  The reference's Shift of layer 5, for all opcodes, vectors and numbers of places. Conditions: bytes, 64 and 32 bits.
-/
import Derived.Test.YtalnkkmbjaollaaArRu
import Derived.Test.YtalnkkmbjaollaaArLM
namespace Go.Proofs.Ytalnkkmbjaollaa
open Go.RowKit VecM Ev
namespace Ar
/-- x behind p places -/
def sX (k w top x : Int) : Nat → Int
  | 0 => x
  | p + 1 => match k with
    | 11 => IntKind.u64.wrap (sX k w top x p * 2)
    | 12 => bits .or .u64 (IntKind.u64.wrap (Int.tdiv (sX k w top x p) 2)) (IntKind.u64.wrap (top * 2 ^ (w - 1).toNat))
    | _ => IntKind.u64.wrap (Int.tdiv (sX k w top x p) 2)
def sI : Nat → Int
  | 0 => 0
  | p + 1 => IntKind.i64.wrap (sI p + 1)
def sS (k w top x : Int) (p : Nat) : List (Nat × Value) := [(12, .int .u64 (sX k w top x p)), (14, .int .i64 (sI p))]
def sC (k w n top : Int) : List (Nat × Value) := [(2, .int .u32 n), (8, .int .i64 w), (9, .int .i64 k), (13, .int .u64 top)]
def sHav : List Nat := [12, 14] ++ (List.range 28).map (· + 42)
noncomputable def sBody : Code := loopIn 15 2
noncomputable def sPath (k w n top x : Int) (n' : Int) (p : Nat) (ex : Exit) (q : Nat) (r1 r2 r3 : Rw) (g : Nat → Value) (β : Nat → Fr) : Out :=
  evCode (envR []) (envR []) 60 sBody (valsOf (sC k w n top ++ sS k w top x p) g 76) (valsOf (sC k w n' 0 ++ sS k w 0 1 0) (fun _ => undef) 76) [r1, r2, r3] [vrow 1002 zV, vrow 1003 zV, vrow 1001 zV] ex (sS k w top x q ++ keepOf (sC k w n top ++ sS k w top x p) g 76 sHav) [r1, r2, r3] β
def sT (w n : Int) : Int := IntKind.i64.wrap (Int.tmod n (IntKind.u32.wrap w))
def SGo (k w n top x : Int) : Prop := (∀ p, sI p < sT w n → ∀ r1 r2 r3, Runs sBody 76 (sC k w n top ++ sS k w top x p) [r1, r2, r3] .normal (sS k w top x (p + 1)) sHav [r1, r2, r3]) ∧
  ∀ p, ¬ sI p < sT w n → ∀ r1 r2 r3, Runs sBody 76 (sC k w n top ++ sS k w top x p) [r1, r2, r3] (.exit 2) (sS k w top x p) sHav [r1, r2, r3]
--EVTS s8_11gTs | fun (n top x : Int) (p : Nat) (r1 r2 r3 : Rw) (g : Nat → Value) (β : Nat → Fr) => (sPath 11 8 n top x 1 p .normal (p + 1) r1 r2 r3 g β, [(decide (sI p < sT 8 n), true)])
def s8_11gTs : List Nat := [0, 1]
--EVTS s8_11eTs | fun (n top x : Int) (p : Nat) (r1 r2 r3 : Rw) (g : Nat → Value) (β : Nat → Fr) => (sPath 11 8 n top x 0 p (.exit 2) p r1 r2 r3 g β, [(decide (sI p < sT 8 n), false)])
def s8_11eTs : List Nat := [1]
theorem s8_11 (n top x : Int) : SGo 11 8 n top x :=
  ⟨fun p h r1 r2 r3 => runs_code (E := envR []) (E' := envR []) rfl (sumR_ok _ (fun x hx => by cases hx)) (fuel := 60) (need' := sC 11 8 1 0 ++ sS 11 8 0 1 0) (M' := [vrow 1002 zV, vrow 1003 zV, vrow 1001 zV]) rfl [(decide (sI p < sT 8 n), true)] s8_11gTs (fun q hq => by rw [List.mem_singleton.1 hq]; exact decide_eq_true h) (fun g β => by kernel_rfl),
   fun p h r1 r2 r3 => runs_code (E := envR []) (E' := envR []) rfl (sumR_ok _ (fun x hx => by cases hx)) (fuel := 60) (need' := sC 11 8 0 0 ++ sS 11 8 0 1 0) (M' := [vrow 1002 zV, vrow 1003 zV, vrow 1001 zV]) rfl [(decide (sI p < sT 8 n), false)] s8_11eTs (fun q hq => by rw [List.mem_singleton.1 hq]; exact decide_eq_false h) (fun g β => by kernel_rfl)⟩
--EVTS s8_12gTs | fun (n top x : Int) (p : Nat) (r1 r2 r3 : Rw) (g : Nat → Value) (β : Nat → Fr) => (sPath 12 8 n top x 1 p .normal (p + 1) r1 r2 r3 g β, [(decide (sI p < sT 8 n), true)])
def s8_12gTs : List Nat := [0, 0, 1]
--EVTS s8_12eTs | fun (n top x : Int) (p : Nat) (r1 r2 r3 : Rw) (g : Nat → Value) (β : Nat → Fr) => (sPath 12 8 n top x 0 p (.exit 2) p r1 r2 r3 g β, [(decide (sI p < sT 8 n), false)])
def s8_12eTs : List Nat := [1]
theorem s8_12 (n top x : Int) : SGo 12 8 n top x :=
  ⟨fun p h r1 r2 r3 => runs_code (E := envR []) (E' := envR []) rfl (sumR_ok _ (fun x hx => by cases hx)) (fuel := 60) (need' := sC 12 8 1 0 ++ sS 12 8 0 1 0) (M' := [vrow 1002 zV, vrow 1003 zV, vrow 1001 zV]) rfl [(decide (sI p < sT 8 n), true)] s8_12gTs (fun q hq => by rw [List.mem_singleton.1 hq]; exact decide_eq_true h) (fun g β => by kernel_rfl),
   fun p h r1 r2 r3 => runs_code (E := envR []) (E' := envR []) rfl (sumR_ok _ (fun x hx => by cases hx)) (fuel := 60) (need' := sC 12 8 0 0 ++ sS 12 8 0 1 0) (M' := [vrow 1002 zV, vrow 1003 zV, vrow 1001 zV]) rfl [(decide (sI p < sT 8 n), false)] s8_12eTs (fun q hq => by rw [List.mem_singleton.1 hq]; exact decide_eq_false h) (fun g β => by kernel_rfl)⟩
--EVTS s8_13gTs | fun (n top x : Int) (p : Nat) (r1 r2 r3 : Rw) (g : Nat → Value) (β : Nat → Fr) => (sPath 13 8 n top x 1 p .normal (p + 1) r1 r2 r3 g β, [(decide (sI p < sT 8 n), true)])
def s8_13gTs : List Nat := [0, 0, 0, 1]
--EVTS s8_13eTs | fun (n top x : Int) (p : Nat) (r1 r2 r3 : Rw) (g : Nat → Value) (β : Nat → Fr) => (sPath 13 8 n top x 0 p (.exit 2) p r1 r2 r3 g β, [(decide (sI p < sT 8 n), false)])
def s8_13eTs : List Nat := [1]
theorem s8_13 (n top x : Int) : SGo 13 8 n top x :=
  ⟨fun p h r1 r2 r3 => runs_code (E := envR []) (E' := envR []) rfl (sumR_ok _ (fun x hx => by cases hx)) (fuel := 60) (need' := sC 13 8 1 0 ++ sS 13 8 0 1 0) (M' := [vrow 1002 zV, vrow 1003 zV, vrow 1001 zV]) rfl [(decide (sI p < sT 8 n), true)] s8_13gTs (fun q hq => by rw [List.mem_singleton.1 hq]; exact decide_eq_true h) (fun g β => by kernel_rfl),
   fun p h r1 r2 r3 => runs_code (E := envR []) (E' := envR []) rfl (sumR_ok _ (fun x hx => by cases hx)) (fuel := 60) (need' := sC 13 8 0 0 ++ sS 13 8 0 1 0) (M' := [vrow 1002 zV, vrow 1003 zV, vrow 1001 zV]) rfl [(decide (sI p < sT 8 n), false)] s8_13eTs (fun q hq => by rw [List.mem_singleton.1 hq]; exact decide_eq_false h) (fun g β => by kernel_rfl)⟩
--EVTS s16_11gTs | fun (n top x : Int) (p : Nat) (r1 r2 r3 : Rw) (g : Nat → Value) (β : Nat → Fr) => (sPath 11 16 n top x 1 p .normal (p + 1) r1 r2 r3 g β, [(decide (sI p < sT 16 n), true)])
def s16_11gTs : List Nat := [0, 1]
--EVTS s16_11eTs | fun (n top x : Int) (p : Nat) (r1 r2 r3 : Rw) (g : Nat → Value) (β : Nat → Fr) => (sPath 11 16 n top x 0 p (.exit 2) p r1 r2 r3 g β, [(decide (sI p < sT 16 n), false)])
def s16_11eTs : List Nat := [1]
theorem s16_11 (n top x : Int) : SGo 11 16 n top x :=
  ⟨fun p h r1 r2 r3 => runs_code (E := envR []) (E' := envR []) rfl (sumR_ok _ (fun x hx => by cases hx)) (fuel := 60) (need' := sC 11 16 1 0 ++ sS 11 16 0 1 0) (M' := [vrow 1002 zV, vrow 1003 zV, vrow 1001 zV]) rfl [(decide (sI p < sT 16 n), true)] s16_11gTs (fun q hq => by rw [List.mem_singleton.1 hq]; exact decide_eq_true h) (fun g β => by kernel_rfl),
   fun p h r1 r2 r3 => runs_code (E := envR []) (E' := envR []) rfl (sumR_ok _ (fun x hx => by cases hx)) (fuel := 60) (need' := sC 11 16 0 0 ++ sS 11 16 0 1 0) (M' := [vrow 1002 zV, vrow 1003 zV, vrow 1001 zV]) rfl [(decide (sI p < sT 16 n), false)] s16_11eTs (fun q hq => by rw [List.mem_singleton.1 hq]; exact decide_eq_false h) (fun g β => by kernel_rfl)⟩
--EVTS s16_12gTs | fun (n top x : Int) (p : Nat) (r1 r2 r3 : Rw) (g : Nat → Value) (β : Nat → Fr) => (sPath 12 16 n top x 1 p .normal (p + 1) r1 r2 r3 g β, [(decide (sI p < sT 16 n), true)])
def s16_12gTs : List Nat := [0, 0, 1]
--EVTS s16_12eTs | fun (n top x : Int) (p : Nat) (r1 r2 r3 : Rw) (g : Nat → Value) (β : Nat → Fr) => (sPath 12 16 n top x 0 p (.exit 2) p r1 r2 r3 g β, [(decide (sI p < sT 16 n), false)])
def s16_12eTs : List Nat := [1]
theorem s16_12 (n top x : Int) : SGo 12 16 n top x :=
  ⟨fun p h r1 r2 r3 => runs_code (E := envR []) (E' := envR []) rfl (sumR_ok _ (fun x hx => by cases hx)) (fuel := 60) (need' := sC 12 16 1 0 ++ sS 12 16 0 1 0) (M' := [vrow 1002 zV, vrow 1003 zV, vrow 1001 zV]) rfl [(decide (sI p < sT 16 n), true)] s16_12gTs (fun q hq => by rw [List.mem_singleton.1 hq]; exact decide_eq_true h) (fun g β => by kernel_rfl),
   fun p h r1 r2 r3 => runs_code (E := envR []) (E' := envR []) rfl (sumR_ok _ (fun x hx => by cases hx)) (fuel := 60) (need' := sC 12 16 0 0 ++ sS 12 16 0 1 0) (M' := [vrow 1002 zV, vrow 1003 zV, vrow 1001 zV]) rfl [(decide (sI p < sT 16 n), false)] s16_12eTs (fun q hq => by rw [List.mem_singleton.1 hq]; exact decide_eq_false h) (fun g β => by kernel_rfl)⟩
--EVTS s16_13gTs | fun (n top x : Int) (p : Nat) (r1 r2 r3 : Rw) (g : Nat → Value) (β : Nat → Fr) => (sPath 13 16 n top x 1 p .normal (p + 1) r1 r2 r3 g β, [(decide (sI p < sT 16 n), true)])
def s16_13gTs : List Nat := [0, 0, 0, 1]
--EVTS s16_13eTs | fun (n top x : Int) (p : Nat) (r1 r2 r3 : Rw) (g : Nat → Value) (β : Nat → Fr) => (sPath 13 16 n top x 0 p (.exit 2) p r1 r2 r3 g β, [(decide (sI p < sT 16 n), false)])
def s16_13eTs : List Nat := [1]
theorem s16_13 (n top x : Int) : SGo 13 16 n top x :=
  ⟨fun p h r1 r2 r3 => runs_code (E := envR []) (E' := envR []) rfl (sumR_ok _ (fun x hx => by cases hx)) (fuel := 60) (need' := sC 13 16 1 0 ++ sS 13 16 0 1 0) (M' := [vrow 1002 zV, vrow 1003 zV, vrow 1001 zV]) rfl [(decide (sI p < sT 16 n), true)] s16_13gTs (fun q hq => by rw [List.mem_singleton.1 hq]; exact decide_eq_true h) (fun g β => by kernel_rfl),
   fun p h r1 r2 r3 => runs_code (E := envR []) (E' := envR []) rfl (sumR_ok _ (fun x hx => by cases hx)) (fuel := 60) (need' := sC 13 16 0 0 ++ sS 13 16 0 1 0) (M' := [vrow 1002 zV, vrow 1003 zV, vrow 1001 zV]) rfl [(decide (sI p < sT 16 n), false)] s16_13eTs (fun q hq => by rw [List.mem_singleton.1 hq]; exact decide_eq_false h) (fun g β => by kernel_rfl)⟩
--EVTS s32_11gTs | fun (n top x : Int) (p : Nat) (r1 r2 r3 : Rw) (g : Nat → Value) (β : Nat → Fr) => (sPath 11 32 n top x 1 p .normal (p + 1) r1 r2 r3 g β, [(decide (sI p < sT 32 n), true)])
def s32_11gTs : List Nat := [0, 1]
--EVTS s32_11eTs | fun (n top x : Int) (p : Nat) (r1 r2 r3 : Rw) (g : Nat → Value) (β : Nat → Fr) => (sPath 11 32 n top x 0 p (.exit 2) p r1 r2 r3 g β, [(decide (sI p < sT 32 n), false)])
def s32_11eTs : List Nat := [1]
theorem s32_11 (n top x : Int) : SGo 11 32 n top x :=
  ⟨fun p h r1 r2 r3 => runs_code (E := envR []) (E' := envR []) rfl (sumR_ok _ (fun x hx => by cases hx)) (fuel := 60) (need' := sC 11 32 1 0 ++ sS 11 32 0 1 0) (M' := [vrow 1002 zV, vrow 1003 zV, vrow 1001 zV]) rfl [(decide (sI p < sT 32 n), true)] s32_11gTs (fun q hq => by rw [List.mem_singleton.1 hq]; exact decide_eq_true h) (fun g β => by kernel_rfl),
   fun p h r1 r2 r3 => runs_code (E := envR []) (E' := envR []) rfl (sumR_ok _ (fun x hx => by cases hx)) (fuel := 60) (need' := sC 11 32 0 0 ++ sS 11 32 0 1 0) (M' := [vrow 1002 zV, vrow 1003 zV, vrow 1001 zV]) rfl [(decide (sI p < sT 32 n), false)] s32_11eTs (fun q hq => by rw [List.mem_singleton.1 hq]; exact decide_eq_false h) (fun g β => by kernel_rfl)⟩
--EVTS s32_12gTs | fun (n top x : Int) (p : Nat) (r1 r2 r3 : Rw) (g : Nat → Value) (β : Nat → Fr) => (sPath 12 32 n top x 1 p .normal (p + 1) r1 r2 r3 g β, [(decide (sI p < sT 32 n), true)])
def s32_12gTs : List Nat := [0, 0, 1]
--EVTS s32_12eTs | fun (n top x : Int) (p : Nat) (r1 r2 r3 : Rw) (g : Nat → Value) (β : Nat → Fr) => (sPath 12 32 n top x 0 p (.exit 2) p r1 r2 r3 g β, [(decide (sI p < sT 32 n), false)])
def s32_12eTs : List Nat := [1]
theorem s32_12 (n top x : Int) : SGo 12 32 n top x :=
  ⟨fun p h r1 r2 r3 => runs_code (E := envR []) (E' := envR []) rfl (sumR_ok _ (fun x hx => by cases hx)) (fuel := 60) (need' := sC 12 32 1 0 ++ sS 12 32 0 1 0) (M' := [vrow 1002 zV, vrow 1003 zV, vrow 1001 zV]) rfl [(decide (sI p < sT 32 n), true)] s32_12gTs (fun q hq => by rw [List.mem_singleton.1 hq]; exact decide_eq_true h) (fun g β => by kernel_rfl),
   fun p h r1 r2 r3 => runs_code (E := envR []) (E' := envR []) rfl (sumR_ok _ (fun x hx => by cases hx)) (fuel := 60) (need' := sC 12 32 0 0 ++ sS 12 32 0 1 0) (M' := [vrow 1002 zV, vrow 1003 zV, vrow 1001 zV]) rfl [(decide (sI p < sT 32 n), false)] s32_12eTs (fun q hq => by rw [List.mem_singleton.1 hq]; exact decide_eq_false h) (fun g β => by kernel_rfl)⟩
--EVTS s32_13gTs | fun (n top x : Int) (p : Nat) (r1 r2 r3 : Rw) (g : Nat → Value) (β : Nat → Fr) => (sPath 13 32 n top x 1 p .normal (p + 1) r1 r2 r3 g β, [(decide (sI p < sT 32 n), true)])
def s32_13gTs : List Nat := [0, 0, 0, 1]
--EVTS s32_13eTs | fun (n top x : Int) (p : Nat) (r1 r2 r3 : Rw) (g : Nat → Value) (β : Nat → Fr) => (sPath 13 32 n top x 0 p (.exit 2) p r1 r2 r3 g β, [(decide (sI p < sT 32 n), false)])
def s32_13eTs : List Nat := [1]
theorem s32_13 (n top x : Int) : SGo 13 32 n top x :=
  ⟨fun p h r1 r2 r3 => runs_code (E := envR []) (E' := envR []) rfl (sumR_ok _ (fun x hx => by cases hx)) (fuel := 60) (need' := sC 13 32 1 0 ++ sS 13 32 0 1 0) (M' := [vrow 1002 zV, vrow 1003 zV, vrow 1001 zV]) rfl [(decide (sI p < sT 32 n), true)] s32_13gTs (fun q hq => by rw [List.mem_singleton.1 hq]; exact decide_eq_true h) (fun g β => by kernel_rfl),
   fun p h r1 r2 r3 => runs_code (E := envR []) (E' := envR []) rfl (sumR_ok _ (fun x hx => by cases hx)) (fuel := 60) (need' := sC 13 32 0 0 ++ sS 13 32 0 1 0) (M' := [vrow 1002 zV, vrow 1003 zV, vrow 1001 zV]) rfl [(decide (sI p < sT 32 n), false)] s32_13eTs (fun q hq => by rw [List.mem_singleton.1 hq]; exact decide_eq_false h) (fun g β => by kernel_rfl)⟩
--EVTS s64_11gTs | fun (n top x : Int) (p : Nat) (r1 r2 r3 : Rw) (g : Nat → Value) (β : Nat → Fr) => (sPath 11 64 n top x 1 p .normal (p + 1) r1 r2 r3 g β, [(decide (sI p < sT 64 n), true)])
def s64_11gTs : List Nat := [0, 1]
--EVTS s64_11eTs | fun (n top x : Int) (p : Nat) (r1 r2 r3 : Rw) (g : Nat → Value) (β : Nat → Fr) => (sPath 11 64 n top x 0 p (.exit 2) p r1 r2 r3 g β, [(decide (sI p < sT 64 n), false)])
def s64_11eTs : List Nat := [1]
theorem s64_11 (n top x : Int) : SGo 11 64 n top x :=
  ⟨fun p h r1 r2 r3 => runs_code (E := envR []) (E' := envR []) rfl (sumR_ok _ (fun x hx => by cases hx)) (fuel := 60) (need' := sC 11 64 1 0 ++ sS 11 64 0 1 0) (M' := [vrow 1002 zV, vrow 1003 zV, vrow 1001 zV]) rfl [(decide (sI p < sT 64 n), true)] s64_11gTs (fun q hq => by rw [List.mem_singleton.1 hq]; exact decide_eq_true h) (fun g β => by kernel_rfl),
   fun p h r1 r2 r3 => runs_code (E := envR []) (E' := envR []) rfl (sumR_ok _ (fun x hx => by cases hx)) (fuel := 60) (need' := sC 11 64 0 0 ++ sS 11 64 0 1 0) (M' := [vrow 1002 zV, vrow 1003 zV, vrow 1001 zV]) rfl [(decide (sI p < sT 64 n), false)] s64_11eTs (fun q hq => by rw [List.mem_singleton.1 hq]; exact decide_eq_false h) (fun g β => by kernel_rfl)⟩
--EVTS s64_12gTs | fun (n top x : Int) (p : Nat) (r1 r2 r3 : Rw) (g : Nat → Value) (β : Nat → Fr) => (sPath 12 64 n top x 1 p .normal (p + 1) r1 r2 r3 g β, [(decide (sI p < sT 64 n), true)])
def s64_12gTs : List Nat := [0, 0, 1]
--EVTS s64_12eTs | fun (n top x : Int) (p : Nat) (r1 r2 r3 : Rw) (g : Nat → Value) (β : Nat → Fr) => (sPath 12 64 n top x 0 p (.exit 2) p r1 r2 r3 g β, [(decide (sI p < sT 64 n), false)])
def s64_12eTs : List Nat := [1]
theorem s64_12 (n top x : Int) : SGo 12 64 n top x :=
  ⟨fun p h r1 r2 r3 => runs_code (E := envR []) (E' := envR []) rfl (sumR_ok _ (fun x hx => by cases hx)) (fuel := 60) (need' := sC 12 64 1 0 ++ sS 12 64 0 1 0) (M' := [vrow 1002 zV, vrow 1003 zV, vrow 1001 zV]) rfl [(decide (sI p < sT 64 n), true)] s64_12gTs (fun q hq => by rw [List.mem_singleton.1 hq]; exact decide_eq_true h) (fun g β => by kernel_rfl),
   fun p h r1 r2 r3 => runs_code (E := envR []) (E' := envR []) rfl (sumR_ok _ (fun x hx => by cases hx)) (fuel := 60) (need' := sC 12 64 0 0 ++ sS 12 64 0 1 0) (M' := [vrow 1002 zV, vrow 1003 zV, vrow 1001 zV]) rfl [(decide (sI p < sT 64 n), false)] s64_12eTs (fun q hq => by rw [List.mem_singleton.1 hq]; exact decide_eq_false h) (fun g β => by kernel_rfl)⟩
--EVTS s64_13gTs | fun (n top x : Int) (p : Nat) (r1 r2 r3 : Rw) (g : Nat → Value) (β : Nat → Fr) => (sPath 13 64 n top x 1 p .normal (p + 1) r1 r2 r3 g β, [(decide (sI p < sT 64 n), true)])
def s64_13gTs : List Nat := [0, 0, 0, 1]
--EVTS s64_13eTs | fun (n top x : Int) (p : Nat) (r1 r2 r3 : Rw) (g : Nat → Value) (β : Nat → Fr) => (sPath 13 64 n top x 0 p (.exit 2) p r1 r2 r3 g β, [(decide (sI p < sT 64 n), false)])
def s64_13eTs : List Nat := [1]
theorem s64_13 (n top x : Int) : SGo 13 64 n top x :=
  ⟨fun p h r1 r2 r3 => runs_code (E := envR []) (E' := envR []) rfl (sumR_ok _ (fun x hx => by cases hx)) (fuel := 60) (need' := sC 13 64 1 0 ++ sS 13 64 0 1 0) (M' := [vrow 1002 zV, vrow 1003 zV, vrow 1001 zV]) rfl [(decide (sI p < sT 64 n), true)] s64_13gTs (fun q hq => by rw [List.mem_singleton.1 hq]; exact decide_eq_true h) (fun g β => by kernel_rfl),
   fun p h r1 r2 r3 => runs_code (E := envR []) (E' := envR []) rfl (sumR_ok _ (fun x hx => by cases hx)) (fuel := 60) (need' := sC 13 64 0 0 ++ sS 13 64 0 1 0) (M' := [vrow 1002 zV, vrow 1003 zV, vrow 1001 zV]) rfl [(decide (sI p < sT 64 n), false)] s64_13eTs (fun q hq => by rw [List.mem_singleton.1 hq]; exact decide_eq_false h) (fun g β => by kernel_rfl)⟩
theorem s_go (k w : Int) (hw : w = 8 ∨ w = 16 ∨ w = 32 ∨ w = 64) (hk : k = 11 ∨ k = 12 ∨ k = 13) (n top x : Int) : SGo k w n top x := by
  rcases hw with rfl | rfl | rfl | rfl <;> rcases hk with rfl | rfl | rfl
  · exact s8_11 n top x
  · exact s8_12 n top x
  · exact s8_13 n top x
  · exact s16_11 n top x
  · exact s16_12 n top x
  · exact s16_13 n top x
  · exact s32_11 n top x
  · exact s32_12 n top x
  · exact s32_13 n top x
  · exact s64_11 n top x
  · exact s64_12 n top x
  · exact s64_13 n top x
theorem sI_val : ∀ p : Nat, p ≤ 1000 → sI p = p
  | 0, _ => rfl
  | p + 1, h => by
    show IntKind.i64.wrap (sI p + 1) = _
    rw [sI_val p (by omega), IntWalk.i64_in _ (by omega)]
    rfl
theorem sT_val {w n : Int} (hw : w = 8 ∨ w = 16 ∨ w = 32 ∨ w = 64) (hn : 0 ≤ n) : sT w n = n % w ∧ 0 ≤ n % w ∧ n % w < w := by
  unfold sT
  have hu : IntKind.u32.wrap w = w := by rcases hw with rfl | rfl | rfl | rfl <;> rfl
  have h1 : 0 ≤ n % w := Int.emod_nonneg _ (by omega)
  have h2 : n % w < w := Int.emod_lt_of_pos _ (by omega)
  rw [hu, Int.tmod_eq_emod_of_nonneg hn, IntWalk.i64_in _ (by omega)]
  exact ⟨rfl, h1, h2⟩
theorem s_blk : blkIn 15 2 = .block 2 (.loop sBody) := by kernel_rfl
theorem s_noloop : ∀ b, sBody ≠ .loop b := by
  intro b h
  have : (match sBody with | .loop _ => true | _ => false) = false := by kernel_rfl
  rw [h] at this
  cases this
theorem s_run (k w n top x : Int) (hw : w = 8 ∨ w = 16 ∨ w = 32 ∨ w = 64) (hk : k = 11 ∨ k = 12 ∨ k = 13) (hn : 0 ≤ n) (r1 r2 r3 : Rw) :
    Runs (blkIn 15 2) 76 (sC k w n top ++ [(12, .int .u64 x), (14, .int .i64 0)]) [r1, r2, r3] .normal [(12, .int .u64 (sX k w top x (n % w).toNat))] sHav [r1, r2, r3] := by
  obtain ⟨e, h1, h2⟩ := sT_val hw hn
  obtain ⟨hg, he⟩ := s_go k w hw hk n top x
  have hm : (n % w).toNat ≤ 64 := by omega
  have h := runs_loop (id := 2) (n := 76) (m := (n % w).toNat) (c := sBody) (nc := sC k w n top) (nv := sS k w top x) (hav := sHav) (R := fun _ => [r1, r2, r3]) s_noloop (fun p hp => by
      simp only [sC, List.mem_cons, List.not_mem_nil, or_false] at hp
      rcases hp with rfl | rfl | rfl | rfl
      · exact ⟨show (2 : Nat) < 76 by decide, show memN sHav 2 = false by decide⟩
      · exact ⟨show (8 : Nat) < 76 by decide, show memN sHav 8 = false by decide⟩
      · exact ⟨show (9 : Nat) < 76 by decide, show memN sHav 9 = false by decide⟩
      · exact ⟨show (13 : Nat) < 76 by decide, show memN sHav 13 = false by decide⟩)
    (fun p hp => hg p (by rw [e, sI_val p (by omega)]; omega) r1 r2 r3) (he _ (by rw [e, sI_val _ (by omega)]; omega) r1 r2 r3)
  rw [s_blk]
  intro w0 w1 T Q hn hneed hS hQ
  refine h w0 w1 T Q hn hneed hS fun T' w' e1 e2 e3 e4 => hQ T' w' e1 (fun p hp => ?_) e3 e4
  rw [List.mem_singleton.1 hp]
  exact e2 (12, .int .u64 (sX k w top x (n % w).toNat)) (List.mem_cons_self ..)
noncomputable def sHole (k w n : Int) (sv : Int → Int → Int) (id : Nat) (_ : Code) (T : Tm) (M : List Rw) : Option Hole :=
  match Nat.beq id 2 with
  | false => none
  | true => match tget T 12, tget T 13 with
    | .int .u64 x, .int .u64 top => match M with
      | [r1, r2, r3] => some (mkHole (blkIn 15 2) 76 (sC k w n top ++ [(12, .int .u64 x), (14, .int .i64 0)]) [r1, r2, r3] [] .normal [(12, .int .u64 (sv top x))] sHav [r1, r2, r3])
      | _ => none
    | _, _ => none
noncomputable def envS (k w n : Int) (sv : Int → Int → Int) (K : List (Nat → Int)) : Env := { P := Try.prog, known := K, sum := sumR, hole := sHole k w n sv }
theorem s_holes (k w n : Int) (hw : w = 8 ∨ w = 16 ∨ w = 32 ∨ w = 64) (hk : k = 11 ∨ k = 12 ∨ k = 13) (hn0 : 0 ≤ n) (sv : Int → Int → Int) (hsv : ∀ t x, sv t x = sX k w t x (n % w).toNat) (K : List (Nat → Int)) : HolesOk (envS k w n sv K) := by
  intro id body T M H hq hn hneed hrows hpre w0 w1 Q hS hQ
  replace hq : sHole k w n sv id body T M = some H := hq
  unfold sHole at hq
  split at hq
  · cases hq
  · split at hq
    · split at hq
      · cases hq
        exact mkHole_ok (by rw [hsv]; exact s_run k w n _ _ hw hk hn0 _ _ _) (fun p hp => by rw [List.mem_singleton.1 hp]; show 12 < 76; decide) hn hneed hS fun ξ w' h => hQ ξ w' h
      · cases hq
    · cases hq
noncomputable def shBlk : Code := blkIn 15 1
def shHav : List Nat := [12, 13, 14] ++ (List.range 43).map (· + 33)
def shNeed (w k n : Int) (bv bo : Nat) (i : Int) : List (Nat × Value) := [(2, .int .u32 n), (4, pt bv), (8, .int .i64 w), (9, .int .i64 k), (10, pt bo), (11, .int .i64 i)]
noncomputable def shPath (w k n : Int) (sv : Int → Int → Int) (F : Nat → Int) (r4 : Rw) (bv bo : Nat) (b b' : Nat → Int) (i : Nat) (x : Int) (g : Nat → Value) (β : Nat → Fr) : Out :=
  evCode (envS k w n sv [b, ofK zV w F i]) (envS k w 0 (fun _ _ => 0) [b', zV]) 60 shBlk (valsOf (shNeed w k n bv bo i) g 76) (valsOf (shNeed w k 0 1001 1002 0) (fun _ => undef) 76)
    [vrow bo (ofK zV w F i), r4, vrow bv b] [vrow 1002 zV, vrow 1003 zV, vrow 1001 b'] .normal ([] ++ keepOf (shNeed w k n bv bo i) g 76 shHav) [vrow bo (setI (ofK zV w F i) w i x), r4, vrow bv b] β
def shD (x : Int) : List (Bool × Bool) := [(decide (0 ≤ x), true), (decide (x < 18446744073709551616), true)]
theorem shD_ok {x : Int} (h : 0 ≤ x ∧ x < 18446744073709551616) : ∀ q ∈ shD x, q.1 = q.2 := by
  intro q hp
  simp only [shD, List.mem_cons, List.not_mem_nil, or_false] at hp
  rcases hp with rfl | rfl
  · exact decide_eq_true h.1
  · exact decide_eq_true h.2
def ShRound (w k n : Int) (sv : Int → Int → Int) (F : Nat → Int) (b : Nat → Int) (i : Nat) : Prop := ∀ (r4 : Rw) (bv bo : Nat), Runs shBlk 76 (shNeed w k n bv bo i) [vrow bo (ofK zV w F i), r4, vrow bv b] .normal [] shHav [vrow bo (setI (ofK zV w F i) w i (sv (Int.fdiv (getI b w i) (2 ^ (w - 1).toNat)) (getI b w i))), r4, vrow bv b]
--EVTS sh8_11Ts | fun (n : Int) (sv : Int → Int → Int) (F : Nat → Int) (r4 : Rw) (bv bo : Nat) (b : Nat → Int) (i : Nat) (g : Nat → Value) (β : Nat → Fr) => (shPath 8 11 n sv F r4 bv bo b (smp [133, 24, 19, 6, 71, 19, 2, 14, 213, 8, 27, 16, 95, 12, 231, 15]) i (sv (Int.fdiv (getI b 8 i) (2 ^ 7)) (getI b 8 i)) g β, shD (sv (Int.fdiv (getI b 8 i) (2 ^ 7)) (getI b 8 i)))
def sh8_11Ts : List Nat := [2, 1, 0]
theorem sh8_11 (n : Int) (hn : 0 ≤ n) (sv : Int → Int → Int) (hsv : ∀ t x, sv t x = sX 11 8 t x (n % 8).toNat) (F : Nat → Int) (b : Nat → Int) (hb : Byt b) (i : Nat) (hx : 0 ≤ sv (Int.fdiv (getI b 8 i) (2 ^ 7)) (getI b 8 i) ∧ sv (Int.fdiv (getI b 8 i) (2 ^ 7)) (getI b 8 i) < 18446744073709551616) : ShRound 8 11 n sv F b i :=
  fun r4 bv bo => runs_code (E := envS 11 8 n sv [b, ofK zV 8 F i]) (E' := envS 11 8 0 (fun _ _ => 0) [smp [133, 24, 19, 6, 71, 19, 2, 14, 213, 8, 27, 16, 95, 12, 231, 15], zV]) rfl (sumR_ok' (envS 11 8 n sv _) rfl (uK_byt hb)) (fuel := 60) (need' := shNeed 8 11 0 1001 1002 0) (M' := [vrow 1002 zV, vrow 1003 zV, vrow 1001 (smp [133, 24, 19, 6, 71, 19, 2, 14, 213, 8, 27, 16, 95, 12, 231, 15])]) rfl (shD (sv (Int.fdiv (getI b 8 i) (2 ^ 7)) (getI b 8 i))) sh8_11Ts (shD_ok hx) (fun g β => by kernel_rfl) (s_holes 11 8 n (by omega) (by omega) hn sv hsv _)
--EVTS sh8_12Ts | fun (n : Int) (sv : Int → Int → Int) (F : Nat → Int) (r4 : Rw) (bv bo : Nat) (b : Nat → Int) (i : Nat) (g : Nat → Value) (β : Nat → Fr) => (shPath 8 12 n sv F r4 bv bo b (smp [133, 24, 19, 6, 71, 19, 2, 14, 213, 8, 27, 16, 95, 12, 231, 15]) i (sv (Int.fdiv (getI b 8 i) (2 ^ 7)) (getI b 8 i)) g β, shD (sv (Int.fdiv (getI b 8 i) (2 ^ 7)) (getI b 8 i)))
def sh8_12Ts : List Nat := [2, 1, 0]
theorem sh8_12 (n : Int) (hn : 0 ≤ n) (sv : Int → Int → Int) (hsv : ∀ t x, sv t x = sX 12 8 t x (n % 8).toNat) (F : Nat → Int) (b : Nat → Int) (hb : Byt b) (i : Nat) (hx : 0 ≤ sv (Int.fdiv (getI b 8 i) (2 ^ 7)) (getI b 8 i) ∧ sv (Int.fdiv (getI b 8 i) (2 ^ 7)) (getI b 8 i) < 18446744073709551616) : ShRound 8 12 n sv F b i :=
  fun r4 bv bo => runs_code (E := envS 12 8 n sv [b, ofK zV 8 F i]) (E' := envS 12 8 0 (fun _ _ => 0) [smp [133, 24, 19, 6, 71, 19, 2, 14, 213, 8, 27, 16, 95, 12, 231, 15], zV]) rfl (sumR_ok' (envS 12 8 n sv _) rfl (uK_byt hb)) (fuel := 60) (need' := shNeed 8 12 0 1001 1002 0) (M' := [vrow 1002 zV, vrow 1003 zV, vrow 1001 (smp [133, 24, 19, 6, 71, 19, 2, 14, 213, 8, 27, 16, 95, 12, 231, 15])]) rfl (shD (sv (Int.fdiv (getI b 8 i) (2 ^ 7)) (getI b 8 i))) sh8_12Ts (shD_ok hx) (fun g β => by kernel_rfl) (s_holes 12 8 n (by omega) (by omega) hn sv hsv _)
--EVTS sh8_13Ts | fun (n : Int) (sv : Int → Int → Int) (F : Nat → Int) (r4 : Rw) (bv bo : Nat) (b : Nat → Int) (i : Nat) (g : Nat → Value) (β : Nat → Fr) => (shPath 8 13 n sv F r4 bv bo b (smp [133, 24, 19, 6, 71, 19, 2, 14, 213, 8, 27, 16, 95, 12, 231, 15]) i (sv (Int.fdiv (getI b 8 i) (2 ^ 7)) (getI b 8 i)) g β, shD (sv (Int.fdiv (getI b 8 i) (2 ^ 7)) (getI b 8 i)))
def sh8_13Ts : List Nat := [2, 1, 0]
theorem sh8_13 (n : Int) (hn : 0 ≤ n) (sv : Int → Int → Int) (hsv : ∀ t x, sv t x = sX 13 8 t x (n % 8).toNat) (F : Nat → Int) (b : Nat → Int) (hb : Byt b) (i : Nat) (hx : 0 ≤ sv (Int.fdiv (getI b 8 i) (2 ^ 7)) (getI b 8 i) ∧ sv (Int.fdiv (getI b 8 i) (2 ^ 7)) (getI b 8 i) < 18446744073709551616) : ShRound 8 13 n sv F b i :=
  fun r4 bv bo => runs_code (E := envS 13 8 n sv [b, ofK zV 8 F i]) (E' := envS 13 8 0 (fun _ _ => 0) [smp [133, 24, 19, 6, 71, 19, 2, 14, 213, 8, 27, 16, 95, 12, 231, 15], zV]) rfl (sumR_ok' (envS 13 8 n sv _) rfl (uK_byt hb)) (fuel := 60) (need' := shNeed 8 13 0 1001 1002 0) (M' := [vrow 1002 zV, vrow 1003 zV, vrow 1001 (smp [133, 24, 19, 6, 71, 19, 2, 14, 213, 8, 27, 16, 95, 12, 231, 15])]) rfl (shD (sv (Int.fdiv (getI b 8 i) (2 ^ 7)) (getI b 8 i))) sh8_13Ts (shD_ok hx) (fun g β => by kernel_rfl) (s_holes 13 8 n (by omega) (by omega) hn sv hsv _)
--EVTS sh16_11Ts | fun (n : Int) (sv : Int → Int → Int) (F : Nat → Int) (r4 : Rw) (bv bo : Nat) (b : Nat → Int) (i : Nat) (g : Nat → Value) (β : Nat → Fr) => (shPath 16 11 n sv F r4 bv bo b (smp [133, 24, 19, 6, 71, 19, 2, 14, 213, 8, 27, 16, 95, 12, 231, 15]) i (sv (Int.fdiv (getI b 16 i) (2 ^ 15)) (getI b 16 i)) g β, shD (sv (Int.fdiv (getI b 16 i) (2 ^ 15)) (getI b 16 i)))
def sh16_11Ts : List Nat := [2, 1, 0]
theorem sh16_11 (n : Int) (hn : 0 ≤ n) (sv : Int → Int → Int) (hsv : ∀ t x, sv t x = sX 11 16 t x (n % 16).toNat) (F : Nat → Int) (b : Nat → Int) (hb : Byt b) (i : Nat) (hx : 0 ≤ sv (Int.fdiv (getI b 16 i) (2 ^ 15)) (getI b 16 i) ∧ sv (Int.fdiv (getI b 16 i) (2 ^ 15)) (getI b 16 i) < 18446744073709551616) : ShRound 16 11 n sv F b i :=
  fun r4 bv bo => runs_code (E := envS 11 16 n sv [b, ofK zV 16 F i]) (E' := envS 11 16 0 (fun _ _ => 0) [smp [133, 24, 19, 6, 71, 19, 2, 14, 213, 8, 27, 16, 95, 12, 231, 15], zV]) rfl (sumR_ok' (envS 11 16 n sv _) rfl (uK_byt hb)) (fuel := 60) (need' := shNeed 16 11 0 1001 1002 0) (M' := [vrow 1002 zV, vrow 1003 zV, vrow 1001 (smp [133, 24, 19, 6, 71, 19, 2, 14, 213, 8, 27, 16, 95, 12, 231, 15])]) rfl (shD (sv (Int.fdiv (getI b 16 i) (2 ^ 15)) (getI b 16 i))) sh16_11Ts (shD_ok hx) (fun g β => by kernel_rfl) (s_holes 11 16 n (by omega) (by omega) hn sv hsv _)
--EVTS sh16_12Ts | fun (n : Int) (sv : Int → Int → Int) (F : Nat → Int) (r4 : Rw) (bv bo : Nat) (b : Nat → Int) (i : Nat) (g : Nat → Value) (β : Nat → Fr) => (shPath 16 12 n sv F r4 bv bo b (smp [133, 24, 19, 6, 71, 19, 2, 14, 213, 8, 27, 16, 95, 12, 231, 15]) i (sv (Int.fdiv (getI b 16 i) (2 ^ 15)) (getI b 16 i)) g β, shD (sv (Int.fdiv (getI b 16 i) (2 ^ 15)) (getI b 16 i)))
def sh16_12Ts : List Nat := [2, 1, 0]
theorem sh16_12 (n : Int) (hn : 0 ≤ n) (sv : Int → Int → Int) (hsv : ∀ t x, sv t x = sX 12 16 t x (n % 16).toNat) (F : Nat → Int) (b : Nat → Int) (hb : Byt b) (i : Nat) (hx : 0 ≤ sv (Int.fdiv (getI b 16 i) (2 ^ 15)) (getI b 16 i) ∧ sv (Int.fdiv (getI b 16 i) (2 ^ 15)) (getI b 16 i) < 18446744073709551616) : ShRound 16 12 n sv F b i :=
  fun r4 bv bo => runs_code (E := envS 12 16 n sv [b, ofK zV 16 F i]) (E' := envS 12 16 0 (fun _ _ => 0) [smp [133, 24, 19, 6, 71, 19, 2, 14, 213, 8, 27, 16, 95, 12, 231, 15], zV]) rfl (sumR_ok' (envS 12 16 n sv _) rfl (uK_byt hb)) (fuel := 60) (need' := shNeed 16 12 0 1001 1002 0) (M' := [vrow 1002 zV, vrow 1003 zV, vrow 1001 (smp [133, 24, 19, 6, 71, 19, 2, 14, 213, 8, 27, 16, 95, 12, 231, 15])]) rfl (shD (sv (Int.fdiv (getI b 16 i) (2 ^ 15)) (getI b 16 i))) sh16_12Ts (shD_ok hx) (fun g β => by kernel_rfl) (s_holes 12 16 n (by omega) (by omega) hn sv hsv _)
--EVTS sh16_13Ts | fun (n : Int) (sv : Int → Int → Int) (F : Nat → Int) (r4 : Rw) (bv bo : Nat) (b : Nat → Int) (i : Nat) (g : Nat → Value) (β : Nat → Fr) => (shPath 16 13 n sv F r4 bv bo b (smp [133, 24, 19, 6, 71, 19, 2, 14, 213, 8, 27, 16, 95, 12, 231, 15]) i (sv (Int.fdiv (getI b 16 i) (2 ^ 15)) (getI b 16 i)) g β, shD (sv (Int.fdiv (getI b 16 i) (2 ^ 15)) (getI b 16 i)))
def sh16_13Ts : List Nat := [2, 1, 0]
theorem sh16_13 (n : Int) (hn : 0 ≤ n) (sv : Int → Int → Int) (hsv : ∀ t x, sv t x = sX 13 16 t x (n % 16).toNat) (F : Nat → Int) (b : Nat → Int) (hb : Byt b) (i : Nat) (hx : 0 ≤ sv (Int.fdiv (getI b 16 i) (2 ^ 15)) (getI b 16 i) ∧ sv (Int.fdiv (getI b 16 i) (2 ^ 15)) (getI b 16 i) < 18446744073709551616) : ShRound 16 13 n sv F b i :=
  fun r4 bv bo => runs_code (E := envS 13 16 n sv [b, ofK zV 16 F i]) (E' := envS 13 16 0 (fun _ _ => 0) [smp [133, 24, 19, 6, 71, 19, 2, 14, 213, 8, 27, 16, 95, 12, 231, 15], zV]) rfl (sumR_ok' (envS 13 16 n sv _) rfl (uK_byt hb)) (fuel := 60) (need' := shNeed 16 13 0 1001 1002 0) (M' := [vrow 1002 zV, vrow 1003 zV, vrow 1001 (smp [133, 24, 19, 6, 71, 19, 2, 14, 213, 8, 27, 16, 95, 12, 231, 15])]) rfl (shD (sv (Int.fdiv (getI b 16 i) (2 ^ 15)) (getI b 16 i))) sh16_13Ts (shD_ok hx) (fun g β => by kernel_rfl) (s_holes 13 16 n (by omega) (by omega) hn sv hsv _)
--EVTS sh32_11Ts | fun (n : Int) (sv : Int → Int → Int) (F : Nat → Int) (r4 : Rw) (bv bo : Nat) (b : Nat → Int) (i : Nat) (g : Nat → Value) (β : Nat → Fr) => (shPath 32 11 n sv F r4 bv bo b (smp [133, 24, 19, 6, 71, 19, 2, 14, 213, 8, 27, 16, 95, 12, 231, 15]) i (sv (Int.fdiv (getI b 32 i) (2 ^ 31)) (getI b 32 i)) g β, shD (sv (Int.fdiv (getI b 32 i) (2 ^ 31)) (getI b 32 i)))
def sh32_11Ts : List Nat := [2, 1, 0]
theorem sh32_11 (n : Int) (hn : 0 ≤ n) (sv : Int → Int → Int) (hsv : ∀ t x, sv t x = sX 11 32 t x (n % 32).toNat) (F : Nat → Int) (b : Nat → Int) (hb : Byt b) (i : Nat) (hx : 0 ≤ sv (Int.fdiv (getI b 32 i) (2 ^ 31)) (getI b 32 i) ∧ sv (Int.fdiv (getI b 32 i) (2 ^ 31)) (getI b 32 i) < 18446744073709551616) : ShRound 32 11 n sv F b i :=
  fun r4 bv bo => runs_code (E := envS 11 32 n sv [b, ofK zV 32 F i]) (E' := envS 11 32 0 (fun _ _ => 0) [smp [133, 24, 19, 6, 71, 19, 2, 14, 213, 8, 27, 16, 95, 12, 231, 15], zV]) rfl (sumR_ok' (envS 11 32 n sv _) rfl (uK_byt hb)) (fuel := 60) (need' := shNeed 32 11 0 1001 1002 0) (M' := [vrow 1002 zV, vrow 1003 zV, vrow 1001 (smp [133, 24, 19, 6, 71, 19, 2, 14, 213, 8, 27, 16, 95, 12, 231, 15])]) rfl (shD (sv (Int.fdiv (getI b 32 i) (2 ^ 31)) (getI b 32 i))) sh32_11Ts (shD_ok hx) (fun g β => by kernel_rfl) (s_holes 11 32 n (by omega) (by omega) hn sv hsv _)
--EVTS sh32_12Ts | fun (n : Int) (sv : Int → Int → Int) (F : Nat → Int) (r4 : Rw) (bv bo : Nat) (b : Nat → Int) (i : Nat) (g : Nat → Value) (β : Nat → Fr) => (shPath 32 12 n sv F r4 bv bo b (smp [133, 24, 19, 6, 71, 19, 2, 14, 213, 8, 27, 16, 95, 12, 231, 15]) i (sv (Int.fdiv (getI b 32 i) (2 ^ 31)) (getI b 32 i)) g β, shD (sv (Int.fdiv (getI b 32 i) (2 ^ 31)) (getI b 32 i)))
def sh32_12Ts : List Nat := [2, 1, 0]
theorem sh32_12 (n : Int) (hn : 0 ≤ n) (sv : Int → Int → Int) (hsv : ∀ t x, sv t x = sX 12 32 t x (n % 32).toNat) (F : Nat → Int) (b : Nat → Int) (hb : Byt b) (i : Nat) (hx : 0 ≤ sv (Int.fdiv (getI b 32 i) (2 ^ 31)) (getI b 32 i) ∧ sv (Int.fdiv (getI b 32 i) (2 ^ 31)) (getI b 32 i) < 18446744073709551616) : ShRound 32 12 n sv F b i :=
  fun r4 bv bo => runs_code (E := envS 12 32 n sv [b, ofK zV 32 F i]) (E' := envS 12 32 0 (fun _ _ => 0) [smp [133, 24, 19, 6, 71, 19, 2, 14, 213, 8, 27, 16, 95, 12, 231, 15], zV]) rfl (sumR_ok' (envS 12 32 n sv _) rfl (uK_byt hb)) (fuel := 60) (need' := shNeed 32 12 0 1001 1002 0) (M' := [vrow 1002 zV, vrow 1003 zV, vrow 1001 (smp [133, 24, 19, 6, 71, 19, 2, 14, 213, 8, 27, 16, 95, 12, 231, 15])]) rfl (shD (sv (Int.fdiv (getI b 32 i) (2 ^ 31)) (getI b 32 i))) sh32_12Ts (shD_ok hx) (fun g β => by kernel_rfl) (s_holes 12 32 n (by omega) (by omega) hn sv hsv _)
--EVTS sh32_13Ts | fun (n : Int) (sv : Int → Int → Int) (F : Nat → Int) (r4 : Rw) (bv bo : Nat) (b : Nat → Int) (i : Nat) (g : Nat → Value) (β : Nat → Fr) => (shPath 32 13 n sv F r4 bv bo b (smp [133, 24, 19, 6, 71, 19, 2, 14, 213, 8, 27, 16, 95, 12, 231, 15]) i (sv (Int.fdiv (getI b 32 i) (2 ^ 31)) (getI b 32 i)) g β, shD (sv (Int.fdiv (getI b 32 i) (2 ^ 31)) (getI b 32 i)))
def sh32_13Ts : List Nat := [2, 1, 0]
theorem sh32_13 (n : Int) (hn : 0 ≤ n) (sv : Int → Int → Int) (hsv : ∀ t x, sv t x = sX 13 32 t x (n % 32).toNat) (F : Nat → Int) (b : Nat → Int) (hb : Byt b) (i : Nat) (hx : 0 ≤ sv (Int.fdiv (getI b 32 i) (2 ^ 31)) (getI b 32 i) ∧ sv (Int.fdiv (getI b 32 i) (2 ^ 31)) (getI b 32 i) < 18446744073709551616) : ShRound 32 13 n sv F b i :=
  fun r4 bv bo => runs_code (E := envS 13 32 n sv [b, ofK zV 32 F i]) (E' := envS 13 32 0 (fun _ _ => 0) [smp [133, 24, 19, 6, 71, 19, 2, 14, 213, 8, 27, 16, 95, 12, 231, 15], zV]) rfl (sumR_ok' (envS 13 32 n sv _) rfl (uK_byt hb)) (fuel := 60) (need' := shNeed 32 13 0 1001 1002 0) (M' := [vrow 1002 zV, vrow 1003 zV, vrow 1001 (smp [133, 24, 19, 6, 71, 19, 2, 14, 213, 8, 27, 16, 95, 12, 231, 15])]) rfl (shD (sv (Int.fdiv (getI b 32 i) (2 ^ 31)) (getI b 32 i))) sh32_13Ts (shD_ok hx) (fun g β => by kernel_rfl) (s_holes 13 32 n (by omega) (by omega) hn sv hsv _)
--EVTS sh64_11Ts | fun (n : Int) (sv : Int → Int → Int) (F : Nat → Int) (r4 : Rw) (bv bo : Nat) (b : Nat → Int) (i : Nat) (g : Nat → Value) (β : Nat → Fr) => (shPath 64 11 n sv F r4 bv bo b (smp [133, 24, 19, 6, 71, 19, 2, 14, 213, 8, 27, 16, 95, 12, 231, 15]) i (sv (Int.fdiv (getI b 64 i) (2 ^ 63)) (getI b 64 i)) g β, shD (sv (Int.fdiv (getI b 64 i) (2 ^ 63)) (getI b 64 i)))
def sh64_11Ts : List Nat := [2, 1, 0]
theorem sh64_11 (n : Int) (hn : 0 ≤ n) (sv : Int → Int → Int) (hsv : ∀ t x, sv t x = sX 11 64 t x (n % 64).toNat) (F : Nat → Int) (b : Nat → Int) (hb : Byt b) (i : Nat) (hx : 0 ≤ sv (Int.fdiv (getI b 64 i) (2 ^ 63)) (getI b 64 i) ∧ sv (Int.fdiv (getI b 64 i) (2 ^ 63)) (getI b 64 i) < 18446744073709551616) : ShRound 64 11 n sv F b i :=
  fun r4 bv bo => runs_code (E := envS 11 64 n sv [b, ofK zV 64 F i]) (E' := envS 11 64 0 (fun _ _ => 0) [smp [133, 24, 19, 6, 71, 19, 2, 14, 213, 8, 27, 16, 95, 12, 231, 15], zV]) rfl (sumR_ok' (envS 11 64 n sv _) rfl (uK_byt hb)) (fuel := 60) (need' := shNeed 64 11 0 1001 1002 0) (M' := [vrow 1002 zV, vrow 1003 zV, vrow 1001 (smp [133, 24, 19, 6, 71, 19, 2, 14, 213, 8, 27, 16, 95, 12, 231, 15])]) rfl (shD (sv (Int.fdiv (getI b 64 i) (2 ^ 63)) (getI b 64 i))) sh64_11Ts (shD_ok hx) (fun g β => by kernel_rfl) (s_holes 11 64 n (by omega) (by omega) hn sv hsv _)
--EVTS sh64_12Ts | fun (n : Int) (sv : Int → Int → Int) (F : Nat → Int) (r4 : Rw) (bv bo : Nat) (b : Nat → Int) (i : Nat) (g : Nat → Value) (β : Nat → Fr) => (shPath 64 12 n sv F r4 bv bo b (smp [133, 24, 19, 6, 71, 19, 2, 14, 213, 8, 27, 16, 95, 12, 231, 15]) i (sv (Int.fdiv (getI b 64 i) (2 ^ 63)) (getI b 64 i)) g β, shD (sv (Int.fdiv (getI b 64 i) (2 ^ 63)) (getI b 64 i)))
def sh64_12Ts : List Nat := [2, 1, 0]
theorem sh64_12 (n : Int) (hn : 0 ≤ n) (sv : Int → Int → Int) (hsv : ∀ t x, sv t x = sX 12 64 t x (n % 64).toNat) (F : Nat → Int) (b : Nat → Int) (hb : Byt b) (i : Nat) (hx : 0 ≤ sv (Int.fdiv (getI b 64 i) (2 ^ 63)) (getI b 64 i) ∧ sv (Int.fdiv (getI b 64 i) (2 ^ 63)) (getI b 64 i) < 18446744073709551616) : ShRound 64 12 n sv F b i :=
  fun r4 bv bo => runs_code (E := envS 12 64 n sv [b, ofK zV 64 F i]) (E' := envS 12 64 0 (fun _ _ => 0) [smp [133, 24, 19, 6, 71, 19, 2, 14, 213, 8, 27, 16, 95, 12, 231, 15], zV]) rfl (sumR_ok' (envS 12 64 n sv _) rfl (uK_byt hb)) (fuel := 60) (need' := shNeed 64 12 0 1001 1002 0) (M' := [vrow 1002 zV, vrow 1003 zV, vrow 1001 (smp [133, 24, 19, 6, 71, 19, 2, 14, 213, 8, 27, 16, 95, 12, 231, 15])]) rfl (shD (sv (Int.fdiv (getI b 64 i) (2 ^ 63)) (getI b 64 i))) sh64_12Ts (shD_ok hx) (fun g β => by kernel_rfl) (s_holes 12 64 n (by omega) (by omega) hn sv hsv _)
--EVTS sh64_13Ts | fun (n : Int) (sv : Int → Int → Int) (F : Nat → Int) (r4 : Rw) (bv bo : Nat) (b : Nat → Int) (i : Nat) (g : Nat → Value) (β : Nat → Fr) => (shPath 64 13 n sv F r4 bv bo b (smp [133, 24, 19, 6, 71, 19, 2, 14, 213, 8, 27, 16, 95, 12, 231, 15]) i (sv (Int.fdiv (getI b 64 i) (2 ^ 63)) (getI b 64 i)) g β, shD (sv (Int.fdiv (getI b 64 i) (2 ^ 63)) (getI b 64 i)))
def sh64_13Ts : List Nat := [2, 1, 0]
theorem sh64_13 (n : Int) (hn : 0 ≤ n) (sv : Int → Int → Int) (hsv : ∀ t x, sv t x = sX 13 64 t x (n % 64).toNat) (F : Nat → Int) (b : Nat → Int) (hb : Byt b) (i : Nat) (hx : 0 ≤ sv (Int.fdiv (getI b 64 i) (2 ^ 63)) (getI b 64 i) ∧ sv (Int.fdiv (getI b 64 i) (2 ^ 63)) (getI b 64 i) < 18446744073709551616) : ShRound 64 13 n sv F b i :=
  fun r4 bv bo => runs_code (E := envS 13 64 n sv [b, ofK zV 64 F i]) (E' := envS 13 64 0 (fun _ _ => 0) [smp [133, 24, 19, 6, 71, 19, 2, 14, 213, 8, 27, 16, 95, 12, 231, 15], zV]) rfl (sumR_ok' (envS 13 64 n sv _) rfl (uK_byt hb)) (fuel := 60) (need' := shNeed 64 13 0 1001 1002 0) (M' := [vrow 1002 zV, vrow 1003 zV, vrow 1001 (smp [133, 24, 19, 6, 71, 19, 2, 14, 213, 8, 27, 16, 95, 12, 231, 15])]) rfl (shD (sv (Int.fdiv (getI b 64 i) (2 ^ 63)) (getI b 64 i))) sh64_13Ts (shD_ok hx) (fun g β => by kernel_rfl) (s_holes 13 64 n (by omega) (by omega) hn sv hsv _)
/-! ### what the places make -/
theorem or_add (x t : Int) (q : Nat) (hx : 0 ≤ x ∧ x < 2 ^ q) (ht : t = 0 ∨ t = 1) (hq : q ≤ 63) : bits .or .u64 x (IntKind.u64.wrap (t * 2 ^ q)) = x + t * 2 ^ q := by
  obtain ⟨a, rfl⟩ := Int.eq_ofNat_of_zero_le hx.1
  have ha : a < 2 ^ q := by have := hx.2; exact_mod_cast this
  have h64 : (2 : Nat) ^ q ≤ 2 ^ 63 := Nat.pow_le_pow_right (by decide) hq
  rcases ht with rfl | rfl
  · rw [Int.zero_mul, show IntKind.u64.wrap 0 = ((0 : Nat) : Int) from rfl, bits_or_u64_nat _ _ (by omega) (by omega)]
    simp
  · rw [Int.one_mul, show ((2 : Int) ^ q) = ((2 ^ q : Nat) : Int) by push_cast; rfl, IntWalk.u64_in _ (by omega), bits_or_u64_nat _ _ (by omega) (by omega)]
    have := Nat.two_pow_add_eq_or_of_lt ha 1
    rw [Nat.mul_one] at this
    rw [Nat.or_comm, ← this, Nat.add_comm]; push_cast; rfl
theorem sX_bd (k w t x : Int) (h : 0 ≤ x ∧ x < 18446744073709551616) : ∀ p, 0 ≤ sX k w t x p ∧ sX k w t x p < 18446744073709551616
  | 0 => h
  | p + 1 => by
    unfold sX
    split
    · exact u64_bd _
    · unfold bits; exact u64_bd _
    · exact u64_bd _
theorem sX_11 (w t x : Int) : ∀ p : Nat, IntKind.u64.wrap (sX 11 w t x p) = IntKind.u64.wrap (x * 2 ^ p)
  | 0 => by rw [Int.pow_zero, Int.mul_one]; rfl
  | p + 1 => by
    have e : sX 11 w t x (p + 1) = IntKind.u64.wrap (sX 11 w t x p * 2) := rfl
    have ih := sX_11 w t x p
    simp only [IntKind.wrap_u64] at *
    rw [e, Int.pow_succ, ← Int.mul_assoc]
    omega
theorem sX_13 (k w t x : Int) (hk : k = 13) (h : 0 ≤ x ∧ x < 18446744073709551616) : ∀ p : Nat, sX k w t x p = x / 2 ^ p
  | 0 => by rw [Int.pow_zero, Int.ediv_one]; rfl
  | p + 1 => by
    subst hk
    have hb := sX_bd 13 w t x h p
    have e : sX 13 w t x (p + 1) = IntKind.u64.wrap (Int.tdiv (sX 13 w t x p) 2) := rfl
    rw [e, Int.tdiv_eq_ediv_of_nonneg hb.1, IntWalk.u64_in _ (by omega), sX_13 13 w t x rfl h p, Int.pow_succ, Int.ediv_ediv_of_nonneg (Int.le_of_lt (Int.pow_pos (by decide)))]
theorem sX_12 (W : Nat) (w t s : Int) (hw : w = W) (hW : 1 ≤ W ∧ W ≤ 64) (ht : t = 0 ∨ t = 1) (h0 : -(t * 2 ^ (W - 1)) ≤ s) (h1 : s < (1 - t) * 2 ^ (W - 1)) : ∀ p : Nat, sX 12 w t (s + t * 2 ^ W) p = s / 2 ^ p + t * 2 ^ W
  | 0 => by rw [Int.pow_zero, Int.ediv_one]; rfl
  | p + 1 => by
    have ih := sX_12 W w t s hw hW ht h0 h1 p
    have e : sX 12 w t (s + t * 2 ^ W) (p + 1) = bits .or .u64 (IntKind.u64.wrap (Int.tdiv (sX 12 w t (s + t * 2 ^ W) p) 2)) (IntKind.u64.wrap (t * 2 ^ (w - 1).toNat)) := rfl
    have hq : (w - 1).toNat = W - 1 := by omega
    have hpw : (2 : Int) ^ W = 2 * 2 ^ (W - 1) := by
      obtain ⟨V, rfl⟩ : ∃ V, W = V + 1 := ⟨W - 1, by omega⟩
      rw [Int.pow_succ, Nat.add_sub_cancel, Int.mul_comm]
    have hP : (0 : Int) < 2 ^ (W - 1) := Int.pow_pos (by decide)
    have hP2 : (2 : Int) ^ (W - 1) ≤ 9223372036854775808 := by
      have h2 : (2 : Nat) ^ (W - 1) ≤ 2 ^ 63 := Nat.pow_le_pow_right (by decide) (by omega)
      rw [show (2 : Nat) ^ 63 = 9223372036854775808 by decide] at h2
      have h3 := Int.ofNat_le.2 h2
      rw [Int.natCast_pow] at h3
      exact h3
    have hD : (0 : Int) < 2 ^ p := Int.pow_pos (by decide)
    have hd : s / 2 ^ (p + 1) = s / 2 ^ p / 2 := by rw [Int.pow_succ, Int.ediv_ediv_of_nonneg (Int.le_of_lt hD)]
    have hs : -(t * 2 ^ (W - 1)) ≤ s / 2 ^ p ∧ s / 2 ^ p < (1 - t) * 2 ^ (W - 1) ∧ s / 2 ^ p ≤ 2 ^ (W - 1) - 1 := by
      rcases ht with rfl | rfl
      · have a1 : 0 ≤ s := by omega
        have a2 : s / 2 ^ p ≤ s := Int.ediv_le_self _ a1
        have a3 : 0 ≤ s / 2 ^ p := Int.ediv_nonneg a1 (Int.le_of_lt hD)
        omega
      · have a1 : s < 0 := by omega
        have a2 : s ≤ s / 2 ^ p := by
          rw [Int.le_ediv_iff_mul_le hD]
          have : s * 2 ^ p ≤ s * 1 := Int.mul_le_mul_of_nonpos_left (by omega) (by omega)
          omega
        have a3 : s / 2 ^ p < 0 := Int.ediv_lt_of_lt_mul hD (by omega)
        omega
    have hor : ∀ x, 0 ≤ x ∧ x < 2 ^ (W - 1) → bits .or .u64 x (IntKind.u64.wrap (t * 2 ^ (W - 1))) = x + t * 2 ^ (W - 1) := fun x hx => or_add x t (W - 1) hx ht (by omega)
    rw [e, ih, hq, hd]
    generalize s / 2 ^ p = y at *
    generalize (2 : Int) ^ (W - 1) = P at *
    have ht2 : t * 2 ^ W = 2 * (t * P) := by rw [hpw, Int.mul_left_comm]
    rw [ht2]
    have hb : 0 ≤ y / 2 + t * P ∧ y / 2 + t * P < P := by rcases ht with rfl | rfl <;> omega
    have e3 : (y + 2 * (t * P)) / 2 = y / 2 + t * P := by omega
    have e4 : 0 ≤ y + 2 * (t * P) := by rcases ht with rfl | rfl <;> omega
    rw [Int.tdiv_eq_ediv_of_nonneg e4, e3, IntWalk.u64_in _ (by omega), hor _ hb]
    omega
theorem sh_lane (k w n : Int) (hw : w = 8 ∨ w = 16 ∨ w = 32 ∨ w = 64) (hk : k = 11 ∨ k = 12 ∨ k = 13) (b : Nat → Int) (hb : Byt b) (j : Nat) (hj : thereB w j = true) :
    sX k w (Int.fdiv (getI b w j) (2 ^ (w - 1).toNat)) (getI b w j) (n % w).toNat % 256 ^ wid w = shL k (n % w) (getI b w j) (sgnI b w j) % 256 ^ wid w := by
  have hbd := getI_bd hb w j
  have hpw := pw_le hw
  rcases hk with rfl | rfl | rfl
  · have e := sX_11 w (Int.fdiv (getI b w j) (2 ^ (w - 1).toNat)) (getI b w j) (n % w).toNat
    rw [← mod64 hw, e]
    rfl
  · have hs := sgn_of hj (b := b)
    rw [hs]
    show _ = IntKind.u64.wrap (sg w (getI b w j) / 2 ^ (n % w).toNat) % _
    rw [mod64 hw]
    generalize getI b w j = x at *
    have key : ∀ W : Nat, w = W → 1 ≤ W ∧ W ≤ 64 → (256 : Int) ^ wid w = 2 ^ W → sX 12 w (Int.fdiv x (2 ^ (w - 1).toNat)) x (n % w).toNat % 256 ^ wid w = sg w x / 2 ^ (n % w).toNat % 256 ^ wid w := by
      intro W hWw hW hP
      have hq : (w - 1).toNat = W - 1 := by omega
      have hpw2 : (2 : Int) ^ W = 2 * 2 ^ (W - 1) := by
        obtain ⟨V, rfl⟩ : ∃ V, W = V + 1 := ⟨W - 1, by omega⟩
        rw [Int.pow_succ, Nat.add_sub_cancel, Int.mul_comm]
      have hPp : (0 : Int) < 2 ^ (W - 1) := Int.pow_pos (by decide)
      rw [hP] at hbd ⊢
      have hsg : sg w x = if 2 ^ (W - 1) ≤ x then x - 2 ^ W else x := by unfold sg; rw [show w.toNat = W by omega]
      have ht : Int.fdiv x (2 ^ (w - 1).toNat) = if 2 ^ (W - 1) ≤ x then 1 else 0 := by
        rw [hq, Int.fdiv_eq_ediv_of_nonneg _ (Int.le_of_lt hPp)]
        split
        · refine Int.le_antisymm ?_ ?_
          · have : x / 2 ^ (W - 1) < 2 := Int.ediv_lt_of_lt_mul hPp (by omega)
            omega
          · exact (Int.le_ediv_iff_mul_le hPp).2 (by omega)
        · exact Int.ediv_eq_zero_of_lt hbd.1 (by omega)
      rw [ht, hsg]
      by_cases h : 2 ^ (W - 1) ≤ x
      · rw [if_pos h, if_pos h]
        have h12 := sX_12 W w 1 (x - 2 ^ W) hWw hW (.inr rfl) (by omega) (by omega) (n % w).toNat
        rw [show x - 2 ^ W + 1 * 2 ^ W = x by omega] at h12
        rw [h12, Int.one_mul, Int.add_emod_right]
      · rw [if_neg h, if_neg h]
        have h12 := sX_12 W w 0 x hWw hW (.inl rfl) (by omega) (by omega) (n % w).toNat
        rw [show x + 0 * 2 ^ W = x by omega] at h12
        rw [h12, Int.zero_mul, Int.add_zero]
    rcases hw with rfl | rfl | rfl | rfl
    · exact key 8 rfl (by omega) (by decide)
    · exact key 16 rfl (by omega) (by decide)
    · exact key 32 rfl (by omega) (by decide)
    · exact key 64 rfl (by omega) (by decide)
  · rw [sX_13 13 w _ _ rfl (by omega)]
    rfl
/-! ### the whole -/
def svI (k w n t x : Int) : Int := sX k w t x (n % w).toNat
def shF (w : Int) (sv : Int → Int → Int) (b : Nat → Int) (j : Nat) : Int := sv (Int.fdiv (getI b w j) (2 ^ (w - 1).toNat)) (getI b w j)
theorem sh_round (k w n : Int) (hw : w = 8 ∨ w = 16 ∨ w = 32 ∨ w = 64) (hk : k = 11 ∨ k = 12 ∨ k = 13) (hn : 0 ≤ n) (sv : Int → Int → Int) (hsv : ∀ t x, sv t x = sX k w t x (n % w).toNat) (F : Nat → Int) (b : Nat → Int) (hb : Byt b) (i : Nat) : ShRound w k n sv F b i := by
  have hx : 0 ≤ sv (Int.fdiv (getI b w i) (2 ^ (w - 1).toNat)) (getI b w i) ∧ sv (Int.fdiv (getI b w i) (2 ^ (w - 1).toNat)) (getI b w i) < 18446744073709551616 := by
    rw [hsv]; exact sX_bd _ _ _ _ (g_bd hb hw i) _
  rcases hw with rfl | rfl | rfl | rfl <;> rcases hk with rfl | rfl | rfl
  · exact sh8_11 n hn sv hsv F b hb i hx
  · exact sh8_12 n hn sv hsv F b hb i hx
  · exact sh8_13 n hn sv hsv F b hb i hx
  · exact sh16_11 n hn sv hsv F b hb i hx
  · exact sh16_12 n hn sv hsv F b hb i hx
  · exact sh16_13 n hn sv hsv F b hb i hx
  · exact sh32_11 n hn sv hsv F b hb i hx
  · exact sh32_12 n hn sv hsv F b hb i hx
  · exact sh32_13 n hn sv hsv F b hb i hx
  · exact sh64_11 n hn sv hsv F b hb i hx
  · exact sh64_12 n hn sv hsv F b hb i hx
  · exact sh64_13 n hn sv hsv F b hb i hx
noncomputable def rsHole (k w n : Int) (F : Nat → Int) (b : Nat → Int) (id : Nat) (_ : Code) (T : Tm) (M : List Rw) : Option Hole :=
  match Nat.beq id 1 with
  | false => none
  | true => match tget T 11 with
    | .int .i64 i => match M with
      | [ro, r4, rv] => some (mkHole shBlk 76 (shNeed w k n rv.b ro.b i) [vrow ro.b (ofK zV w F i.toNat), r4, vrow rv.b b] [decide (0 ≤ i)] .normal [] shHav [vrow ro.b (ofK zV w F (i.toNat + 1)), r4, vrow rv.b b])
      | _ => none
    | _ => none
noncomputable def envT (k w n : Int) (F : Nat → Int) (b : Nat → Int) : Env := { P := Try.prog, known := [b], sum := sumO, hole := rsHole k w n F b }
theorem rs_holes (k w n : Int) (hw : w = 8 ∨ w = 16 ∨ w = 32 ∨ w = 64) (hk : k = 11 ∨ k = 12 ∨ k = 13) (hn0 : 0 ≤ n) (sv : Int → Int → Int) (hsv : ∀ t x, sv t x = sX k w t x (n % w).toNat) (F b : Nat → Int) (hF : ∀ j, F j = shF w sv b j) (hb : Byt b) : HolesOk (envT k w n F b) := by
  intro id body T M H hq hn hneed hrows hpre w0 w1 Q hS hQ
  replace hq : rsHole k w n F b id body T M = some H := hq
  unfold rsHole at hq
  split at hq
  · cases hq
  · split at hq
    · rename_i i _
      split at hq
      · cases hq
        have h0 := hpre _ (List.mem_cons_self ..)
        simp only [decide_eq_true_eq] at h0
        obtain ⟨n1, rfl⟩ : ∃ n1 : Nat, i = n1 := ⟨i.toNat, by omega⟩
        have hr := sh_round k w n hw hk hn0 sv hsv F b hb n1
        have e : ofK zV w F (n1 + 1) = setI (ofK zV w F n1) w n1 (sv (Int.fdiv (getI b w n1) (2 ^ (w - 1).toNat)) (getI b w n1)) := by rw [ofK, hF]; rfl
        refine mkHole_ok (by simp only [Int.toNat_natCast]; rw [e]; exact hr _ _ _) (fun p hp => by cases hp) hn hneed (by rw [hrows] at hS; exact hS) fun ξ w' h => hQ ξ w' h
      · cases hq
    · cases hq
noncomputable def rsPath (op w k n : Int) (F : Nat → Int) (L : Nat) (b : Nat → Int) (β : Nat → Fr) : Out :=
  evPath (envT k w n F b) (envT k w 0 F zV) 60 15 [.int .i64 op, .agg (bs b), .int .u32 n] [.int .i64 op, .agg (bs zV), .int .u32 0] (.tuple #[.agg (bs (ofK zV w F L)), .int .i64 0]) β
--EVTS rs64875Ts | fun (n : Int) (F : Nat → Int) (b : Nat → Int) (β : Nat → Fr) => (rsPath 64875 8 11 n F 16 b β, ([] : List (Bool × Bool)))
def rs64875Ts : List Nat := [0, 0, 0, 0, 0, 0, 0, 0, 0, 0, 0, 0, 0, 0, 0, 0, 0, 0, 0, 0, 0, 0, 0, 0, 0, 0, 0, 0, 0, 0, 0, 0, 0, 0, 0, 0, 0, 0, 0, 0, 0, 0, 0, 0, 0, 0, 0, 0, 0, 0, 0, 0, 0]
theorem rs64875 (n : Int) (hn : 0 ≤ n) (F b : Nat → Int) (hF : ∀ j, F j = shF 8 (svI 11 8 n) b j) (hb : Byt b) (w : World) : Calls Try.prog 15 #[.int .i64 64875, .agg (bs b), .int .u32 n] w fun e w' => e = .returned (.tuple #[.agg (bs (ofK zV 8 F 16)), .int .i64 0]) ∧ Gr w w' :=
  ev_path (E := envT 11 8 n F b) (E' := envT 11 8 0 F zV) rfl (sumO_ok' (envT 11 8 n F b) rfl (byt_one hb)) (fuel := 60) (args' := [.int .i64 64875, .agg (bs zV), .int .u32 0]) [] rs64875Ts (fun p hp => by cases hp) (fun β => by kernel_rfl) w (rs_holes 11 8 n (by omega) (by omega) hn (svI 11 8 n) (fun _ _ => rfl) F b hF hb)
--EVTS rs64876Ts | fun (n : Int) (F : Nat → Int) (b : Nat → Int) (β : Nat → Fr) => (rsPath 64876 8 12 n F 16 b β, ([] : List (Bool × Bool)))
def rs64876Ts : List Nat := [0, 0, 0, 0, 0, 0, 0, 0, 0, 0, 0, 0, 0, 0, 0, 0, 0, 0, 0, 0, 0, 0, 0, 0, 0, 0, 0, 0, 0, 0, 0, 0, 0, 0, 0, 0, 0, 0, 0, 0, 0, 0, 0, 0, 0, 0, 0, 0, 0, 0, 0, 0, 0]
theorem rs64876 (n : Int) (hn : 0 ≤ n) (F b : Nat → Int) (hF : ∀ j, F j = shF 8 (svI 12 8 n) b j) (hb : Byt b) (w : World) : Calls Try.prog 15 #[.int .i64 64876, .agg (bs b), .int .u32 n] w fun e w' => e = .returned (.tuple #[.agg (bs (ofK zV 8 F 16)), .int .i64 0]) ∧ Gr w w' :=
  ev_path (E := envT 12 8 n F b) (E' := envT 12 8 0 F zV) rfl (sumO_ok' (envT 12 8 n F b) rfl (byt_one hb)) (fuel := 60) (args' := [.int .i64 64876, .agg (bs zV), .int .u32 0]) [] rs64876Ts (fun p hp => by cases hp) (fun β => by kernel_rfl) w (rs_holes 12 8 n (by omega) (by omega) hn (svI 12 8 n) (fun _ _ => rfl) F b hF hb)
--EVTS rs64877Ts | fun (n : Int) (F : Nat → Int) (b : Nat → Int) (β : Nat → Fr) => (rsPath 64877 8 13 n F 16 b β, ([] : List (Bool × Bool)))
def rs64877Ts : List Nat := [0, 0, 0, 0, 0, 0, 0, 0, 0, 0, 0, 0, 0, 0, 0, 0, 0, 0, 0, 0, 0, 0, 0, 0, 0, 0, 0, 0, 0, 0, 0, 0, 0, 0, 0, 0, 0, 0, 0, 0, 0, 0, 0, 0, 0, 0, 0, 0, 0, 0, 0, 0, 0]
theorem rs64877 (n : Int) (hn : 0 ≤ n) (F b : Nat → Int) (hF : ∀ j, F j = shF 8 (svI 13 8 n) b j) (hb : Byt b) (w : World) : Calls Try.prog 15 #[.int .i64 64877, .agg (bs b), .int .u32 n] w fun e w' => e = .returned (.tuple #[.agg (bs (ofK zV 8 F 16)), .int .i64 0]) ∧ Gr w w' :=
  ev_path (E := envT 13 8 n F b) (E' := envT 13 8 0 F zV) rfl (sumO_ok' (envT 13 8 n F b) rfl (byt_one hb)) (fuel := 60) (args' := [.int .i64 64877, .agg (bs zV), .int .u32 0]) [] rs64877Ts (fun p hp => by cases hp) (fun β => by kernel_rfl) w (rs_holes 13 8 n (by omega) (by omega) hn (svI 13 8 n) (fun _ _ => rfl) F b hF hb)
--EVTS rs64907Ts | fun (n : Int) (F : Nat → Int) (b : Nat → Int) (β : Nat → Fr) => (rsPath 64907 16 11 n F 8 b β, ([] : List (Bool × Bool)))
def rs64907Ts : List Nat := [0, 0, 0, 0, 0, 0, 0, 0, 0, 0, 0, 0, 0, 0, 0, 0, 0, 0, 0, 0, 0, 0, 0, 0, 0, 0, 0, 0, 0]
theorem rs64907 (n : Int) (hn : 0 ≤ n) (F b : Nat → Int) (hF : ∀ j, F j = shF 16 (svI 11 16 n) b j) (hb : Byt b) (w : World) : Calls Try.prog 15 #[.int .i64 64907, .agg (bs b), .int .u32 n] w fun e w' => e = .returned (.tuple #[.agg (bs (ofK zV 16 F 8)), .int .i64 0]) ∧ Gr w w' :=
  ev_path (E := envT 11 16 n F b) (E' := envT 11 16 0 F zV) rfl (sumO_ok' (envT 11 16 n F b) rfl (byt_one hb)) (fuel := 60) (args' := [.int .i64 64907, .agg (bs zV), .int .u32 0]) [] rs64907Ts (fun p hp => by cases hp) (fun β => by kernel_rfl) w (rs_holes 11 16 n (by omega) (by omega) hn (svI 11 16 n) (fun _ _ => rfl) F b hF hb)
--EVTS rs64908Ts | fun (n : Int) (F : Nat → Int) (b : Nat → Int) (β : Nat → Fr) => (rsPath 64908 16 12 n F 8 b β, ([] : List (Bool × Bool)))
def rs64908Ts : List Nat := [0, 0, 0, 0, 0, 0, 0, 0, 0, 0, 0, 0, 0, 0, 0, 0, 0, 0, 0, 0, 0, 0, 0, 0, 0, 0, 0, 0, 0]
theorem rs64908 (n : Int) (hn : 0 ≤ n) (F b : Nat → Int) (hF : ∀ j, F j = shF 16 (svI 12 16 n) b j) (hb : Byt b) (w : World) : Calls Try.prog 15 #[.int .i64 64908, .agg (bs b), .int .u32 n] w fun e w' => e = .returned (.tuple #[.agg (bs (ofK zV 16 F 8)), .int .i64 0]) ∧ Gr w w' :=
  ev_path (E := envT 12 16 n F b) (E' := envT 12 16 0 F zV) rfl (sumO_ok' (envT 12 16 n F b) rfl (byt_one hb)) (fuel := 60) (args' := [.int .i64 64908, .agg (bs zV), .int .u32 0]) [] rs64908Ts (fun p hp => by cases hp) (fun β => by kernel_rfl) w (rs_holes 12 16 n (by omega) (by omega) hn (svI 12 16 n) (fun _ _ => rfl) F b hF hb)
--EVTS rs64909Ts | fun (n : Int) (F : Nat → Int) (b : Nat → Int) (β : Nat → Fr) => (rsPath 64909 16 13 n F 8 b β, ([] : List (Bool × Bool)))
def rs64909Ts : List Nat := [0, 0, 0, 0, 0, 0, 0, 0, 0, 0, 0, 0, 0, 0, 0, 0, 0, 0, 0, 0, 0, 0, 0, 0, 0, 0, 0, 0, 0]
theorem rs64909 (n : Int) (hn : 0 ≤ n) (F b : Nat → Int) (hF : ∀ j, F j = shF 16 (svI 13 16 n) b j) (hb : Byt b) (w : World) : Calls Try.prog 15 #[.int .i64 64909, .agg (bs b), .int .u32 n] w fun e w' => e = .returned (.tuple #[.agg (bs (ofK zV 16 F 8)), .int .i64 0]) ∧ Gr w w' :=
  ev_path (E := envT 13 16 n F b) (E' := envT 13 16 0 F zV) rfl (sumO_ok' (envT 13 16 n F b) rfl (byt_one hb)) (fuel := 60) (args' := [.int .i64 64909, .agg (bs zV), .int .u32 0]) [] rs64909Ts (fun p hp => by cases hp) (fun β => by kernel_rfl) w (rs_holes 13 16 n (by omega) (by omega) hn (svI 13 16 n) (fun _ _ => rfl) F b hF hb)
--EVTS rs64939Ts | fun (n : Int) (F : Nat → Int) (b : Nat → Int) (β : Nat → Fr) => (rsPath 64939 32 11 n F 4 b β, ([] : List (Bool × Bool)))
def rs64939Ts : List Nat := [0, 0, 0, 0, 0, 0, 0, 0, 0, 0, 0, 0, 0, 0, 0, 0, 0]
theorem rs64939 (n : Int) (hn : 0 ≤ n) (F b : Nat → Int) (hF : ∀ j, F j = shF 32 (svI 11 32 n) b j) (hb : Byt b) (w : World) : Calls Try.prog 15 #[.int .i64 64939, .agg (bs b), .int .u32 n] w fun e w' => e = .returned (.tuple #[.agg (bs (ofK zV 32 F 4)), .int .i64 0]) ∧ Gr w w' :=
  ev_path (E := envT 11 32 n F b) (E' := envT 11 32 0 F zV) rfl (sumO_ok' (envT 11 32 n F b) rfl (byt_one hb)) (fuel := 60) (args' := [.int .i64 64939, .agg (bs zV), .int .u32 0]) [] rs64939Ts (fun p hp => by cases hp) (fun β => by kernel_rfl) w (rs_holes 11 32 n (by omega) (by omega) hn (svI 11 32 n) (fun _ _ => rfl) F b hF hb)
--EVTS rs64940Ts | fun (n : Int) (F : Nat → Int) (b : Nat → Int) (β : Nat → Fr) => (rsPath 64940 32 12 n F 4 b β, ([] : List (Bool × Bool)))
def rs64940Ts : List Nat := [0, 0, 0, 0, 0, 0, 0, 0, 0, 0, 0, 0, 0, 0, 0, 0, 0]
theorem rs64940 (n : Int) (hn : 0 ≤ n) (F b : Nat → Int) (hF : ∀ j, F j = shF 32 (svI 12 32 n) b j) (hb : Byt b) (w : World) : Calls Try.prog 15 #[.int .i64 64940, .agg (bs b), .int .u32 n] w fun e w' => e = .returned (.tuple #[.agg (bs (ofK zV 32 F 4)), .int .i64 0]) ∧ Gr w w' :=
  ev_path (E := envT 12 32 n F b) (E' := envT 12 32 0 F zV) rfl (sumO_ok' (envT 12 32 n F b) rfl (byt_one hb)) (fuel := 60) (args' := [.int .i64 64940, .agg (bs zV), .int .u32 0]) [] rs64940Ts (fun p hp => by cases hp) (fun β => by kernel_rfl) w (rs_holes 12 32 n (by omega) (by omega) hn (svI 12 32 n) (fun _ _ => rfl) F b hF hb)
--EVTS rs64941Ts | fun (n : Int) (F : Nat → Int) (b : Nat → Int) (β : Nat → Fr) => (rsPath 64941 32 13 n F 4 b β, ([] : List (Bool × Bool)))
def rs64941Ts : List Nat := [0, 0, 0, 0, 0, 0, 0, 0, 0, 0, 0, 0, 0, 0, 0, 0, 0]
theorem rs64941 (n : Int) (hn : 0 ≤ n) (F b : Nat → Int) (hF : ∀ j, F j = shF 32 (svI 13 32 n) b j) (hb : Byt b) (w : World) : Calls Try.prog 15 #[.int .i64 64941, .agg (bs b), .int .u32 n] w fun e w' => e = .returned (.tuple #[.agg (bs (ofK zV 32 F 4)), .int .i64 0]) ∧ Gr w w' :=
  ev_path (E := envT 13 32 n F b) (E' := envT 13 32 0 F zV) rfl (sumO_ok' (envT 13 32 n F b) rfl (byt_one hb)) (fuel := 60) (args' := [.int .i64 64941, .agg (bs zV), .int .u32 0]) [] rs64941Ts (fun p hp => by cases hp) (fun β => by kernel_rfl) w (rs_holes 13 32 n (by omega) (by omega) hn (svI 13 32 n) (fun _ _ => rfl) F b hF hb)
--EVTS rs64971Ts | fun (n : Int) (F : Nat → Int) (b : Nat → Int) (β : Nat → Fr) => (rsPath 64971 64 11 n F 2 b β, ([] : List (Bool × Bool)))
def rs64971Ts : List Nat := [0, 0, 0, 0, 0, 0, 0, 0, 0, 0, 0]
theorem rs64971 (n : Int) (hn : 0 ≤ n) (F b : Nat → Int) (hF : ∀ j, F j = shF 64 (svI 11 64 n) b j) (hb : Byt b) (w : World) : Calls Try.prog 15 #[.int .i64 64971, .agg (bs b), .int .u32 n] w fun e w' => e = .returned (.tuple #[.agg (bs (ofK zV 64 F 2)), .int .i64 0]) ∧ Gr w w' :=
  ev_path (E := envT 11 64 n F b) (E' := envT 11 64 0 F zV) rfl (sumO_ok' (envT 11 64 n F b) rfl (byt_one hb)) (fuel := 60) (args' := [.int .i64 64971, .agg (bs zV), .int .u32 0]) [] rs64971Ts (fun p hp => by cases hp) (fun β => by kernel_rfl) w (rs_holes 11 64 n (by omega) (by omega) hn (svI 11 64 n) (fun _ _ => rfl) F b hF hb)
--EVTS rs64972Ts | fun (n : Int) (F : Nat → Int) (b : Nat → Int) (β : Nat → Fr) => (rsPath 64972 64 12 n F 2 b β, ([] : List (Bool × Bool)))
def rs64972Ts : List Nat := [0, 0, 0, 0, 0, 0, 0, 0, 0, 0, 0]
theorem rs64972 (n : Int) (hn : 0 ≤ n) (F b : Nat → Int) (hF : ∀ j, F j = shF 64 (svI 12 64 n) b j) (hb : Byt b) (w : World) : Calls Try.prog 15 #[.int .i64 64972, .agg (bs b), .int .u32 n] w fun e w' => e = .returned (.tuple #[.agg (bs (ofK zV 64 F 2)), .int .i64 0]) ∧ Gr w w' :=
  ev_path (E := envT 12 64 n F b) (E' := envT 12 64 0 F zV) rfl (sumO_ok' (envT 12 64 n F b) rfl (byt_one hb)) (fuel := 60) (args' := [.int .i64 64972, .agg (bs zV), .int .u32 0]) [] rs64972Ts (fun p hp => by cases hp) (fun β => by kernel_rfl) w (rs_holes 12 64 n (by omega) (by omega) hn (svI 12 64 n) (fun _ _ => rfl) F b hF hb)
--EVTS rs64973Ts | fun (n : Int) (F : Nat → Int) (b : Nat → Int) (β : Nat → Fr) => (rsPath 64973 64 13 n F 2 b β, ([] : List (Bool × Bool)))
def rs64973Ts : List Nat := [0, 0, 0, 0, 0, 0, 0, 0, 0, 0, 0]
theorem rs64973 (n : Int) (hn : 0 ≤ n) (F b : Nat → Int) (hF : ∀ j, F j = shF 64 (svI 13 64 n) b j) (hb : Byt b) (w : World) : Calls Try.prog 15 #[.int .i64 64973, .agg (bs b), .int .u32 n] w fun e w' => e = .returned (.tuple #[.agg (bs (ofK zV 64 F 2)), .int .i64 0]) ∧ Gr w w' :=
  ev_path (E := envT 13 64 n F b) (E' := envT 13 64 0 F zV) rfl (sumO_ok' (envT 13 64 n F b) rfl (byt_one hb)) (fuel := 60) (args' := [.int .i64 64973, .agg (bs zV), .int .u32 0]) [] rs64973Ts (fun p hp => by cases hp) (fun β => by kernel_rfl) w (rs_holes 13 64 n (by omega) (by omega) hn (svI 13 64 n) (fun _ _ => rfl) F b hF hb)
noncomputable def rsnPath (op t n : Int) (b : Nat → Int) (β : Nat → Fr) : Out :=
  evPath (envO [b]) (envO [zV]) 60 15 [.int .i64 op, .agg (bs b), .int .u32 n] [.int .i64 t, .agg (bs zV), .int .u32 0] (.tuple #[.agg (bs zV), .int .i64 1]) β
--EVTS rsn0Ts | fun (op n : Int) (b : Nat → Int) (β : Nat → Fr) => (rsnPath op 0 n b β, [(decide ((if aW op = 0 then -1 else aK op) < 11), true)])
def rsn0Ts : List Nat := [0, 1, 1, 1]
theorem rsn0 (op n : Int) (h : (if aW op = 0 then -1 else aK op) < 11) (b : Nat → Int) (hb : Byt b) (w : World) : Calls Try.prog 15 #[.int .i64 op, .agg (bs b), .int .u32 n] w fun e w' => e = .returned (.tuple #[.agg (bs zV), .int .i64 1]) ∧ Gr w w' :=
  ev_path (E := envO [b]) (E' := envO [zV]) rfl (sumO_ok _ (byt_one hb)) (fuel := 60) (args' := [.int .i64 0, .agg (bs zV), .int .u32 0]) [(decide ((if aW op = 0 then -1 else aK op) < 11), true)] rsn0Ts (fun p hp => by rw [List.mem_singleton.1 hp]; exact decide_eq_true h) (fun β => by kernel_rfl) w
--EVTS rsn1Ts | fun (op n : Int) (b : Nat → Int) (β : Nat → Fr) => (rsnPath op 64879 n b β, [(decide ((if aW op = 0 then -1 else aK op) < 11), false), (decide ((if aW op = 0 then -1 else aK op) > 13), true)])
def rsn1Ts : List Nat := [2, 1, 1, 1]
theorem rsn1 (op n : Int) (h : ¬ (if aW op = 0 then -1 else aK op) < 11 ∧ (if aW op = 0 then -1 else aK op) > 13) (b : Nat → Int) (hb : Byt b) (w : World) : Calls Try.prog 15 #[.int .i64 op, .agg (bs b), .int .u32 n] w fun e w' => e = .returned (.tuple #[.agg (bs zV), .int .i64 1]) ∧ Gr w w' :=
  ev_path (E := envO [b]) (E' := envO [zV]) rfl (sumO_ok _ (byt_one hb)) (fuel := 60) (args' := [.int .i64 64879, .agg (bs zV), .int .u32 0]) [(decide ((if aW op = 0 then -1 else aK op) < 11), false), (decide ((if aW op = 0 then -1 else aK op) > 13), true)] rsn1Ts (fun p hp => by
    simp only [List.mem_cons, List.not_mem_nil, or_false] at hp
    rcases hp with rfl | rfl
    · exact decide_eq_false h.1
    · exact decide_eq_true h.2) (fun β => by kernel_rfl) w
theorem rsh_eq (op k w n : Int) (L : Nat) (e1 : aW op = w) (e2 : aK op = k) (hw : w = 8 ∨ w = 16 ∨ w = 32 ∨ w = 64) (hk : k = 11 ∨ k = 12 ∨ k = 13) (hL : lanesI w = L) (b : Nat → Int) (hb : Byt b) (hn : 0 ≤ n) : bs (ofK zV w (shF w (svI k w n) b) L) = bs (shV op b n) := by
  have hok : shOk op = true := by unfold shOk; rw [e1, e2]; simp; omega
  have e : shV op b n = ofK b w (fun j => shL k (n % w) (getI b w j) (sgnI b w j)) L := by unfold shV; rw [if_pos hok, e1, e2, hL]; simp
  rw [e]
  refine bs_congr (ext (ofK_byt byt_zero _ _ _) (ofK_byt hb _ _ _) w hw fun j hj => ?_)
  have := (there_iff.1 hj).2
  rw [get_ofK _ _ _ j hj, get_ofK _ _ _ j hj, if_pos (by omega), if_pos (by omega)]
  exact sh_lane k w n hw hk b hb j hj
theorem rsh_any (op : Int) (b : Nat → Int) (hb : Byt b) (n : Int) (hn : 0 ≤ n ∧ n < 4294967296) (w : World) : Calls Try.prog 15 #[.int .i64 op, .agg (bs b), .int .u32 n] w fun e w' => e = .returned (.tuple #[.agg (bs (shV op b n)), .int .i64 (if shOk op then 0 else 1)]) ∧ Gr w w' := by
  by_cases h : shOk op = true
  · have h2 := h
    unfold shOk at h2
    simp only [Bool.and_eq_true, bne_iff_ne, ne_eq, decide_eq_true_eq] at h2
    have hin : op ∈ opsA := (in_ops op).2 (by
      unfold aW at h2
      split at h2 <;> simp_all)
    rw [if_pos h]
    clear h
    simp only [opsA, List.mem_cons, List.not_mem_nil, or_false] at hin
    rcases hin with rfl | rfl | rfl | rfl | rfl | rfl | rfl | rfl | rfl | rfl | rfl | rfl | rfl | rfl | rfl | rfl | rfl | rfl | rfl | rfl | rfl | rfl | rfl | rfl | rfl | rfl | rfl | rfl | rfl | rfl | rfl | rfl | rfl | rfl | rfl | rfl | rfl | rfl | rfl | rfl | rfl | rfl | rfl | rfl | rfl | rfl | rfl | rfl | rfl | rfl | rfl | rfl | rfl | rfl
    · exact absurd h2.1.2 (by decide +kernel)
    · exact absurd h2.1.2 (by decide +kernel)
    · rw [← rsh_eq 64875 11 8 n 16 (by decide +kernel) (by decide +kernel) (by omega) (by omega) rfl b hb hn.1]; exact rs64875 n hn.1 _ b (fun _ => rfl) hb w
    · rw [← rsh_eq 64876 12 8 n 16 (by decide +kernel) (by decide +kernel) (by omega) (by omega) rfl b hb hn.1]; exact rs64876 n hn.1 _ b (fun _ => rfl) hb w
    · rw [← rsh_eq 64877 13 8 n 16 (by decide +kernel) (by decide +kernel) (by omega) (by omega) rfl b hb hn.1]; exact rs64877 n hn.1 _ b (fun _ => rfl) hb w
    · exact absurd h2.2 (by decide +kernel)
    · exact absurd h2.2 (by decide +kernel)
    · exact absurd h2.2 (by decide +kernel)
    · exact absurd h2.2 (by decide +kernel)
    · exact absurd h2.2 (by decide +kernel)
    · exact absurd h2.2 (by decide +kernel)
    · exact absurd h2.2 (by decide +kernel)
    · exact absurd h2.2 (by decide +kernel)
    · exact absurd h2.2 (by decide +kernel)
    · exact absurd h2.2 (by decide +kernel)
    · exact absurd h2.2 (by decide +kernel)
    · exact absurd h2.1.2 (by decide +kernel)
    · exact absurd h2.1.2 (by decide +kernel)
    · exact absurd h2.1.2 (by decide +kernel)
    · rw [← rsh_eq 64907 11 16 n 8 (by decide +kernel) (by decide +kernel) (by omega) (by omega) rfl b hb hn.1]; exact rs64907 n hn.1 _ b (fun _ => rfl) hb w
    · rw [← rsh_eq 64908 12 16 n 8 (by decide +kernel) (by decide +kernel) (by omega) (by omega) rfl b hb hn.1]; exact rs64908 n hn.1 _ b (fun _ => rfl) hb w
    · rw [← rsh_eq 64909 13 16 n 8 (by decide +kernel) (by decide +kernel) (by omega) (by omega) rfl b hb hn.1]; exact rs64909 n hn.1 _ b (fun _ => rfl) hb w
    · exact absurd h2.2 (by decide +kernel)
    · exact absurd h2.2 (by decide +kernel)
    · exact absurd h2.2 (by decide +kernel)
    · exact absurd h2.2 (by decide +kernel)
    · exact absurd h2.2 (by decide +kernel)
    · exact absurd h2.2 (by decide +kernel)
    · exact absurd h2.2 (by decide +kernel)
    · exact absurd h2.2 (by decide +kernel)
    · exact absurd h2.2 (by decide +kernel)
    · exact absurd h2.2 (by decide +kernel)
    · exact absurd h2.2 (by decide +kernel)
    · exact absurd h2.2 (by decide +kernel)
    · exact absurd h2.1.2 (by decide +kernel)
    · exact absurd h2.1.2 (by decide +kernel)
    · rw [← rsh_eq 64939 11 32 n 4 (by decide +kernel) (by decide +kernel) (by omega) (by omega) rfl b hb hn.1]; exact rs64939 n hn.1 _ b (fun _ => rfl) hb w
    · rw [← rsh_eq 64940 12 32 n 4 (by decide +kernel) (by decide +kernel) (by omega) (by omega) rfl b hb hn.1]; exact rs64940 n hn.1 _ b (fun _ => rfl) hb w
    · rw [← rsh_eq 64941 13 32 n 4 (by decide +kernel) (by decide +kernel) (by omega) (by omega) rfl b hb hn.1]; exact rs64941 n hn.1 _ b (fun _ => rfl) hb w
    · exact absurd h2.2 (by decide +kernel)
    · exact absurd h2.2 (by decide +kernel)
    · exact absurd h2.2 (by decide +kernel)
    · exact absurd h2.2 (by decide +kernel)
    · exact absurd h2.2 (by decide +kernel)
    · exact absurd h2.2 (by decide +kernel)
    · exact absurd h2.2 (by decide +kernel)
    · exact absurd h2.1.2 (by decide +kernel)
    · exact absurd h2.1.2 (by decide +kernel)
    · rw [← rsh_eq 64971 11 64 n 2 (by decide +kernel) (by decide +kernel) (by omega) (by omega) rfl b hb hn.1]; exact rs64971 n hn.1 _ b (fun _ => rfl) hb w
    · rw [← rsh_eq 64972 12 64 n 2 (by decide +kernel) (by decide +kernel) (by omega) (by omega) rfl b hb hn.1]; exact rs64972 n hn.1 _ b (fun _ => rfl) hb w
    · rw [← rsh_eq 64973 13 64 n 2 (by decide +kernel) (by decide +kernel) (by omega) (by omega) rfl b hb hn.1]; exact rs64973 n hn.1 _ b (fun _ => rfl) hb w
    · exact absurd h2.2 (by decide +kernel)
    · exact absurd h2.2 (by decide +kernel)
    · exact absurd h2.2 (by decide +kernel)
  · have e : shV op b n = zV := by unfold shV; rw [if_neg h]; rfl
    rw [if_neg h, e]
    unfold shOk at h
    simp only [Bool.and_eq_true, bne_iff_ne, ne_eq, decide_eq_true_eq, not_and] at h
    by_cases h1 : (if aW op = 0 then -1 else aK op) < 11
    · exact rsn0 op n h1 b hb w
    · refine rsn1 op n ⟨h1, ?_⟩ b hb w
      split at h1
      · omega
      · rw [if_neg (by assumption)]
        have := h ⟨by assumption, by omega⟩
        omega
end Ar
end Go.Proofs.Ytalnkkmbjaollaa
