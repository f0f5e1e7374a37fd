/-
  The reference's Cmp of layer 6, for all opcodes and vectors. Conditions: bytes, 64 bits.
-/
import Derived.Test.YtdclbagfnabmkaaEvL
import Derived.Test.YtdclbagfnabmkaaCpAw
import Derived.Test.YtdclbagfnabmkaaRefG2
namespace Go.Proofs.Ytdclbagfnabmkaa
open Go.RowKit VecM Ev
namespace Cp
def zV : Nat → Int := fun _ => 0
noncomputable def sumG (f : FuncId) (args : List Value) : Option (List (List Value) × (List (Nat → Int) → Value × List Bool)) :=
  match Nat.beq f 30 with
  | true => match args with
    | [.agg ⟨c⟩, .int .i64 v, .int .i64 i] => some ([c], fun fs => (.int .u64 (getI (Ev.hd1 fs) v i), []))
    | _ => none
  | false => match Nat.beq f 29 with
    | true => match args with
      | [.agg ⟨c⟩, .int .i64 v, .int .i64 i] => some ([c], fun fs => (.int .i64 (sgnI (Ev.hd1 fs) v i), []))
      | _ => none
    | false => none
theorem sumG_ok' (P : Env) (hP : P.sum = sumG) (hK : ∀ x ∈ P.known, Byt x) : SumOk P := by
  intro f args cs mk h fs hcs hfs hp w
  rw [hP] at h
  unfold sumG at h
  split at h
  · rename_i hf
    obtain rfl := Nat.eq_of_beq_eq_true hf
    split at h
    · cases h
      obtain ⟨x, rfl, rfl⟩ := Ev.one_fs hcs
      exact rget_any x (hK x (hfs x (List.mem_cons_self ..))) _ _ w
    · cases h
  split at h
  · rename_i hf
    obtain rfl := Nat.eq_of_beq_eq_true hf
    split at h
    · cases h
      obtain ⟨x, rfl, rfl⟩ := Ev.one_fs hcs
      exact rsigned_any x (hK x (hfs x (List.mem_cons_self ..))) _ _ w
    · cases h
  · cases h
noncomputable def envG (K : List (Nat → Int)) : Env := { P := Try.prog, known := K, sum := sumG }
theorem sumG_ok (K : List (Nat → Int)) (hK : ∀ x ∈ K, Byt x) : SumOk (envG K) := sumG_ok' (envG K) rfl hK
/-! ### the loop that writes a lane -/
noncomputable def wBlk : Code := blkIn 12 6
def wHav : List Nat := [20] ++ (List.range 16).map (· + 167)
def wNeed (w : Int) (bo : Nat) (i : Int) (y : Bool) : List (Nat × Value) := [(9, .int .i64 w), (13, pt bo), (14, .int .i64 i), (19, .bool y), (20, .int .i64 0)]
noncomputable def wPath (w : Int) (i i' : Int) (y : Bool) (o : Nat → Int) (bo : Nat) (r1 r2 r3 : Rw) (o1 : Nat → Int) (g : Nat → Value) (β : Nat → Fr) : Out :=
  evCode (envG []) (envG []) 60 wBlk (valsOf (wNeed w bo i y) g 184) (valsOf (wNeed w 1001 i' y) (fun _ => undef) 184) [vrow bo o, r1, r2, r3] [vrow 1001 zV, vrow 1002 zV, vrow 1003 zV, vrow 1004 zV] .normal ([] ++ keepOf (wNeed w bo i y) g 184 wHav) [vrow bo o1, r1, r2, r3] β
def WRun (w i : Int) (y : Bool) (o o1 : Nat → Int) : Prop := ∀ (bo : Nat) (r1 r2 r3 : Rw), Runs wBlk 184 (wNeed w bo i y) [vrow bo o, r1, r2, r3] .normal [] wHav [vrow bo o1, r1, r2, r3]
--EVTS w8_0Ts | fun (o : Nat → Int) (bo : Nat) (r1 r2 r3 : Rw) (g : Nat → Value) (β : Nat → Fr) => (wPath 8 0 0 true o bo r1 r2 r3 (setI o 8 0 18446744073709551615) g β, ([] : List (Bool × Bool)))
def w8_0Ts : List Nat := [0, 0, 0, 0, 0, 0]
theorem w8_0 (o : Nat → Int) : WRun 8 0 true o (setI o 8 0 18446744073709551615) :=
  fun bo r1 r2 r3 => runs_code (E := envG []) (E' := envG []) rfl (sumG_ok _ (fun x hx => by cases hx)) (fuel := 60) (need' := wNeed 8 1001 0 true) (M' := [vrow 1001 zV, vrow 1002 zV, vrow 1003 zV, vrow 1004 zV]) rfl [] w8_0Ts (fun p hp => by cases hp) (fun g β => by kernel_rfl)
--EVTS w8_1Ts | fun (o : Nat → Int) (bo : Nat) (r1 r2 r3 : Rw) (g : Nat → Value) (β : Nat → Fr) => (wPath 8 1 1 true o bo r1 r2 r3 (setI o 8 1 18446744073709551615) g β, ([] : List (Bool × Bool)))
def w8_1Ts : List Nat := [0, 0, 0, 0, 0, 0]
theorem w8_1 (o : Nat → Int) : WRun 8 1 true o (setI o 8 1 18446744073709551615) :=
  fun bo r1 r2 r3 => runs_code (E := envG []) (E' := envG []) rfl (sumG_ok _ (fun x hx => by cases hx)) (fuel := 60) (need' := wNeed 8 1001 1 true) (M' := [vrow 1001 zV, vrow 1002 zV, vrow 1003 zV, vrow 1004 zV]) rfl [] w8_1Ts (fun p hp => by cases hp) (fun g β => by kernel_rfl)
--EVTS w8_2Ts | fun (o : Nat → Int) (bo : Nat) (r1 r2 r3 : Rw) (g : Nat → Value) (β : Nat → Fr) => (wPath 8 2 2 true o bo r1 r2 r3 (setI o 8 2 18446744073709551615) g β, ([] : List (Bool × Bool)))
def w8_2Ts : List Nat := [0, 0, 0, 0, 0, 0]
theorem w8_2 (o : Nat → Int) : WRun 8 2 true o (setI o 8 2 18446744073709551615) :=
  fun bo r1 r2 r3 => runs_code (E := envG []) (E' := envG []) rfl (sumG_ok _ (fun x hx => by cases hx)) (fuel := 60) (need' := wNeed 8 1001 2 true) (M' := [vrow 1001 zV, vrow 1002 zV, vrow 1003 zV, vrow 1004 zV]) rfl [] w8_2Ts (fun p hp => by cases hp) (fun g β => by kernel_rfl)
--EVTS w8_3Ts | fun (o : Nat → Int) (bo : Nat) (r1 r2 r3 : Rw) (g : Nat → Value) (β : Nat → Fr) => (wPath 8 3 3 true o bo r1 r2 r3 (setI o 8 3 18446744073709551615) g β, ([] : List (Bool × Bool)))
def w8_3Ts : List Nat := [0, 0, 0, 0, 0, 0]
theorem w8_3 (o : Nat → Int) : WRun 8 3 true o (setI o 8 3 18446744073709551615) :=
  fun bo r1 r2 r3 => runs_code (E := envG []) (E' := envG []) rfl (sumG_ok _ (fun x hx => by cases hx)) (fuel := 60) (need' := wNeed 8 1001 3 true) (M' := [vrow 1001 zV, vrow 1002 zV, vrow 1003 zV, vrow 1004 zV]) rfl [] w8_3Ts (fun p hp => by cases hp) (fun g β => by kernel_rfl)
--EVTS w8_4Ts | fun (o : Nat → Int) (bo : Nat) (r1 r2 r3 : Rw) (g : Nat → Value) (β : Nat → Fr) => (wPath 8 4 4 true o bo r1 r2 r3 (setI o 8 4 18446744073709551615) g β, ([] : List (Bool × Bool)))
def w8_4Ts : List Nat := [0, 0, 0, 0, 0, 0]
theorem w8_4 (o : Nat → Int) : WRun 8 4 true o (setI o 8 4 18446744073709551615) :=
  fun bo r1 r2 r3 => runs_code (E := envG []) (E' := envG []) rfl (sumG_ok _ (fun x hx => by cases hx)) (fuel := 60) (need' := wNeed 8 1001 4 true) (M' := [vrow 1001 zV, vrow 1002 zV, vrow 1003 zV, vrow 1004 zV]) rfl [] w8_4Ts (fun p hp => by cases hp) (fun g β => by kernel_rfl)
--EVTS w8_5Ts | fun (o : Nat → Int) (bo : Nat) (r1 r2 r3 : Rw) (g : Nat → Value) (β : Nat → Fr) => (wPath 8 5 5 true o bo r1 r2 r3 (setI o 8 5 18446744073709551615) g β, ([] : List (Bool × Bool)))
def w8_5Ts : List Nat := [0, 0, 0, 0, 0, 0]
theorem w8_5 (o : Nat → Int) : WRun 8 5 true o (setI o 8 5 18446744073709551615) :=
  fun bo r1 r2 r3 => runs_code (E := envG []) (E' := envG []) rfl (sumG_ok _ (fun x hx => by cases hx)) (fuel := 60) (need' := wNeed 8 1001 5 true) (M' := [vrow 1001 zV, vrow 1002 zV, vrow 1003 zV, vrow 1004 zV]) rfl [] w8_5Ts (fun p hp => by cases hp) (fun g β => by kernel_rfl)
--EVTS w8_6Ts | fun (o : Nat → Int) (bo : Nat) (r1 r2 r3 : Rw) (g : Nat → Value) (β : Nat → Fr) => (wPath 8 6 6 true o bo r1 r2 r3 (setI o 8 6 18446744073709551615) g β, ([] : List (Bool × Bool)))
def w8_6Ts : List Nat := [0, 0, 0, 0, 0, 0]
theorem w8_6 (o : Nat → Int) : WRun 8 6 true o (setI o 8 6 18446744073709551615) :=
  fun bo r1 r2 r3 => runs_code (E := envG []) (E' := envG []) rfl (sumG_ok _ (fun x hx => by cases hx)) (fuel := 60) (need' := wNeed 8 1001 6 true) (M' := [vrow 1001 zV, vrow 1002 zV, vrow 1003 zV, vrow 1004 zV]) rfl [] w8_6Ts (fun p hp => by cases hp) (fun g β => by kernel_rfl)
--EVTS w8_7Ts | fun (o : Nat → Int) (bo : Nat) (r1 r2 r3 : Rw) (g : Nat → Value) (β : Nat → Fr) => (wPath 8 7 7 true o bo r1 r2 r3 (setI o 8 7 18446744073709551615) g β, ([] : List (Bool × Bool)))
def w8_7Ts : List Nat := [0, 0, 0, 0, 0, 0]
theorem w8_7 (o : Nat → Int) : WRun 8 7 true o (setI o 8 7 18446744073709551615) :=
  fun bo r1 r2 r3 => runs_code (E := envG []) (E' := envG []) rfl (sumG_ok _ (fun x hx => by cases hx)) (fuel := 60) (need' := wNeed 8 1001 7 true) (M' := [vrow 1001 zV, vrow 1002 zV, vrow 1003 zV, vrow 1004 zV]) rfl [] w8_7Ts (fun p hp => by cases hp) (fun g β => by kernel_rfl)
--EVTS w8_8Ts | fun (o : Nat → Int) (bo : Nat) (r1 r2 r3 : Rw) (g : Nat → Value) (β : Nat → Fr) => (wPath 8 8 8 true o bo r1 r2 r3 (setI o 8 8 18446744073709551615) g β, ([] : List (Bool × Bool)))
def w8_8Ts : List Nat := [0, 0, 0, 0, 0, 0]
theorem w8_8 (o : Nat → Int) : WRun 8 8 true o (setI o 8 8 18446744073709551615) :=
  fun bo r1 r2 r3 => runs_code (E := envG []) (E' := envG []) rfl (sumG_ok _ (fun x hx => by cases hx)) (fuel := 60) (need' := wNeed 8 1001 8 true) (M' := [vrow 1001 zV, vrow 1002 zV, vrow 1003 zV, vrow 1004 zV]) rfl [] w8_8Ts (fun p hp => by cases hp) (fun g β => by kernel_rfl)
--EVTS w8_9Ts | fun (o : Nat → Int) (bo : Nat) (r1 r2 r3 : Rw) (g : Nat → Value) (β : Nat → Fr) => (wPath 8 9 9 true o bo r1 r2 r3 (setI o 8 9 18446744073709551615) g β, ([] : List (Bool × Bool)))
def w8_9Ts : List Nat := [0, 0, 0, 0, 0, 0]
theorem w8_9 (o : Nat → Int) : WRun 8 9 true o (setI o 8 9 18446744073709551615) :=
  fun bo r1 r2 r3 => runs_code (E := envG []) (E' := envG []) rfl (sumG_ok _ (fun x hx => by cases hx)) (fuel := 60) (need' := wNeed 8 1001 9 true) (M' := [vrow 1001 zV, vrow 1002 zV, vrow 1003 zV, vrow 1004 zV]) rfl [] w8_9Ts (fun p hp => by cases hp) (fun g β => by kernel_rfl)
--EVTS w8_10Ts | fun (o : Nat → Int) (bo : Nat) (r1 r2 r3 : Rw) (g : Nat → Value) (β : Nat → Fr) => (wPath 8 10 10 true o bo r1 r2 r3 (setI o 8 10 18446744073709551615) g β, ([] : List (Bool × Bool)))
def w8_10Ts : List Nat := [0, 0, 0, 0, 0, 0]
theorem w8_10 (o : Nat → Int) : WRun 8 10 true o (setI o 8 10 18446744073709551615) :=
  fun bo r1 r2 r3 => runs_code (E := envG []) (E' := envG []) rfl (sumG_ok _ (fun x hx => by cases hx)) (fuel := 60) (need' := wNeed 8 1001 10 true) (M' := [vrow 1001 zV, vrow 1002 zV, vrow 1003 zV, vrow 1004 zV]) rfl [] w8_10Ts (fun p hp => by cases hp) (fun g β => by kernel_rfl)
--EVTS w8_11Ts | fun (o : Nat → Int) (bo : Nat) (r1 r2 r3 : Rw) (g : Nat → Value) (β : Nat → Fr) => (wPath 8 11 11 true o bo r1 r2 r3 (setI o 8 11 18446744073709551615) g β, ([] : List (Bool × Bool)))
def w8_11Ts : List Nat := [0, 0, 0, 0, 0, 0]
theorem w8_11 (o : Nat → Int) : WRun 8 11 true o (setI o 8 11 18446744073709551615) :=
  fun bo r1 r2 r3 => runs_code (E := envG []) (E' := envG []) rfl (sumG_ok _ (fun x hx => by cases hx)) (fuel := 60) (need' := wNeed 8 1001 11 true) (M' := [vrow 1001 zV, vrow 1002 zV, vrow 1003 zV, vrow 1004 zV]) rfl [] w8_11Ts (fun p hp => by cases hp) (fun g β => by kernel_rfl)
--EVTS w8_12Ts | fun (o : Nat → Int) (bo : Nat) (r1 r2 r3 : Rw) (g : Nat → Value) (β : Nat → Fr) => (wPath 8 12 12 true o bo r1 r2 r3 (setI o 8 12 18446744073709551615) g β, ([] : List (Bool × Bool)))
def w8_12Ts : List Nat := [0, 0, 0, 0, 0, 0]
theorem w8_12 (o : Nat → Int) : WRun 8 12 true o (setI o 8 12 18446744073709551615) :=
  fun bo r1 r2 r3 => runs_code (E := envG []) (E' := envG []) rfl (sumG_ok _ (fun x hx => by cases hx)) (fuel := 60) (need' := wNeed 8 1001 12 true) (M' := [vrow 1001 zV, vrow 1002 zV, vrow 1003 zV, vrow 1004 zV]) rfl [] w8_12Ts (fun p hp => by cases hp) (fun g β => by kernel_rfl)
--EVTS w8_13Ts | fun (o : Nat → Int) (bo : Nat) (r1 r2 r3 : Rw) (g : Nat → Value) (β : Nat → Fr) => (wPath 8 13 13 true o bo r1 r2 r3 (setI o 8 13 18446744073709551615) g β, ([] : List (Bool × Bool)))
def w8_13Ts : List Nat := [0, 0, 0, 0, 0, 0]
theorem w8_13 (o : Nat → Int) : WRun 8 13 true o (setI o 8 13 18446744073709551615) :=
  fun bo r1 r2 r3 => runs_code (E := envG []) (E' := envG []) rfl (sumG_ok _ (fun x hx => by cases hx)) (fuel := 60) (need' := wNeed 8 1001 13 true) (M' := [vrow 1001 zV, vrow 1002 zV, vrow 1003 zV, vrow 1004 zV]) rfl [] w8_13Ts (fun p hp => by cases hp) (fun g β => by kernel_rfl)
--EVTS w8_14Ts | fun (o : Nat → Int) (bo : Nat) (r1 r2 r3 : Rw) (g : Nat → Value) (β : Nat → Fr) => (wPath 8 14 14 true o bo r1 r2 r3 (setI o 8 14 18446744073709551615) g β, ([] : List (Bool × Bool)))
def w8_14Ts : List Nat := [0, 0, 0, 0, 0, 0]
theorem w8_14 (o : Nat → Int) : WRun 8 14 true o (setI o 8 14 18446744073709551615) :=
  fun bo r1 r2 r3 => runs_code (E := envG []) (E' := envG []) rfl (sumG_ok _ (fun x hx => by cases hx)) (fuel := 60) (need' := wNeed 8 1001 14 true) (M' := [vrow 1001 zV, vrow 1002 zV, vrow 1003 zV, vrow 1004 zV]) rfl [] w8_14Ts (fun p hp => by cases hp) (fun g β => by kernel_rfl)
--EVTS w8_15Ts | fun (o : Nat → Int) (bo : Nat) (r1 r2 r3 : Rw) (g : Nat → Value) (β : Nat → Fr) => (wPath 8 15 15 true o bo r1 r2 r3 (setI o 8 15 18446744073709551615) g β, ([] : List (Bool × Bool)))
def w8_15Ts : List Nat := [0, 0, 0, 0, 0, 0]
theorem w8_15 (o : Nat → Int) : WRun 8 15 true o (setI o 8 15 18446744073709551615) :=
  fun bo r1 r2 r3 => runs_code (E := envG []) (E' := envG []) rfl (sumG_ok _ (fun x hx => by cases hx)) (fuel := 60) (need' := wNeed 8 1001 15 true) (M' := [vrow 1001 zV, vrow 1002 zV, vrow 1003 zV, vrow 1004 zV]) rfl [] w8_15Ts (fun p hp => by cases hp) (fun g β => by kernel_rfl)
--EVTS w8nTs | fun (i : Int) (o : Nat → Int) (bo : Nat) (r1 r2 r3 : Rw) (g : Nat → Value) (β : Nat → Fr) => (wPath 8 i 0 false o bo r1 r2 r3 o g β, ([] : List (Bool × Bool)))
def w8nTs : List Nat := [0, 0, 0]
theorem w8n (i : Int) (o : Nat → Int) : WRun 8 i false o o :=
  fun bo r1 r2 r3 => runs_code (E := envG []) (E' := envG []) rfl (sumG_ok _ (fun x hx => by cases hx)) (fuel := 60) (need' := wNeed 8 1001 0 false) (M' := [vrow 1001 zV, vrow 1002 zV, vrow 1003 zV, vrow 1004 zV]) rfl [] w8nTs (fun p hp => by cases hp) (fun g β => by kernel_rfl)
--EVTS w16_0Ts | fun (o : Nat → Int) (bo : Nat) (r1 r2 r3 : Rw) (g : Nat → Value) (β : Nat → Fr) => (wPath 16 0 0 true o bo r1 r2 r3 (setI o 16 0 18446744073709551615) g β, ([] : List (Bool × Bool)))
def w16_0Ts : List Nat := [0, 0, 0, 0, 0, 0, 0, 0, 0]
theorem w16_0 (o : Nat → Int) : WRun 16 0 true o (setI o 16 0 18446744073709551615) :=
  fun bo r1 r2 r3 => runs_code (E := envG []) (E' := envG []) rfl (sumG_ok _ (fun x hx => by cases hx)) (fuel := 60) (need' := wNeed 16 1001 0 true) (M' := [vrow 1001 zV, vrow 1002 zV, vrow 1003 zV, vrow 1004 zV]) rfl [] w16_0Ts (fun p hp => by cases hp) (fun g β => by kernel_rfl)
--EVTS w16_1Ts | fun (o : Nat → Int) (bo : Nat) (r1 r2 r3 : Rw) (g : Nat → Value) (β : Nat → Fr) => (wPath 16 1 1 true o bo r1 r2 r3 (setI o 16 1 18446744073709551615) g β, ([] : List (Bool × Bool)))
def w16_1Ts : List Nat := [0, 0, 0, 0, 0, 0, 0, 0, 0]
theorem w16_1 (o : Nat → Int) : WRun 16 1 true o (setI o 16 1 18446744073709551615) :=
  fun bo r1 r2 r3 => runs_code (E := envG []) (E' := envG []) rfl (sumG_ok _ (fun x hx => by cases hx)) (fuel := 60) (need' := wNeed 16 1001 1 true) (M' := [vrow 1001 zV, vrow 1002 zV, vrow 1003 zV, vrow 1004 zV]) rfl [] w16_1Ts (fun p hp => by cases hp) (fun g β => by kernel_rfl)
--EVTS w16_2Ts | fun (o : Nat → Int) (bo : Nat) (r1 r2 r3 : Rw) (g : Nat → Value) (β : Nat → Fr) => (wPath 16 2 2 true o bo r1 r2 r3 (setI o 16 2 18446744073709551615) g β, ([] : List (Bool × Bool)))
def w16_2Ts : List Nat := [0, 0, 0, 0, 0, 0, 0, 0, 0]
theorem w16_2 (o : Nat → Int) : WRun 16 2 true o (setI o 16 2 18446744073709551615) :=
  fun bo r1 r2 r3 => runs_code (E := envG []) (E' := envG []) rfl (sumG_ok _ (fun x hx => by cases hx)) (fuel := 60) (need' := wNeed 16 1001 2 true) (M' := [vrow 1001 zV, vrow 1002 zV, vrow 1003 zV, vrow 1004 zV]) rfl [] w16_2Ts (fun p hp => by cases hp) (fun g β => by kernel_rfl)
--EVTS w16_3Ts | fun (o : Nat → Int) (bo : Nat) (r1 r2 r3 : Rw) (g : Nat → Value) (β : Nat → Fr) => (wPath 16 3 3 true o bo r1 r2 r3 (setI o 16 3 18446744073709551615) g β, ([] : List (Bool × Bool)))
def w16_3Ts : List Nat := [0, 0, 0, 0, 0, 0, 0, 0, 0]
theorem w16_3 (o : Nat → Int) : WRun 16 3 true o (setI o 16 3 18446744073709551615) :=
  fun bo r1 r2 r3 => runs_code (E := envG []) (E' := envG []) rfl (sumG_ok _ (fun x hx => by cases hx)) (fuel := 60) (need' := wNeed 16 1001 3 true) (M' := [vrow 1001 zV, vrow 1002 zV, vrow 1003 zV, vrow 1004 zV]) rfl [] w16_3Ts (fun p hp => by cases hp) (fun g β => by kernel_rfl)
--EVTS w16_4Ts | fun (o : Nat → Int) (bo : Nat) (r1 r2 r3 : Rw) (g : Nat → Value) (β : Nat → Fr) => (wPath 16 4 4 true o bo r1 r2 r3 (setI o 16 4 18446744073709551615) g β, ([] : List (Bool × Bool)))
def w16_4Ts : List Nat := [0, 0, 0, 0, 0, 0, 0, 0, 0]
theorem w16_4 (o : Nat → Int) : WRun 16 4 true o (setI o 16 4 18446744073709551615) :=
  fun bo r1 r2 r3 => runs_code (E := envG []) (E' := envG []) rfl (sumG_ok _ (fun x hx => by cases hx)) (fuel := 60) (need' := wNeed 16 1001 4 true) (M' := [vrow 1001 zV, vrow 1002 zV, vrow 1003 zV, vrow 1004 zV]) rfl [] w16_4Ts (fun p hp => by cases hp) (fun g β => by kernel_rfl)
--EVTS w16_5Ts | fun (o : Nat → Int) (bo : Nat) (r1 r2 r3 : Rw) (g : Nat → Value) (β : Nat → Fr) => (wPath 16 5 5 true o bo r1 r2 r3 (setI o 16 5 18446744073709551615) g β, ([] : List (Bool × Bool)))
def w16_5Ts : List Nat := [0, 0, 0, 0, 0, 0, 0, 0, 0]
theorem w16_5 (o : Nat → Int) : WRun 16 5 true o (setI o 16 5 18446744073709551615) :=
  fun bo r1 r2 r3 => runs_code (E := envG []) (E' := envG []) rfl (sumG_ok _ (fun x hx => by cases hx)) (fuel := 60) (need' := wNeed 16 1001 5 true) (M' := [vrow 1001 zV, vrow 1002 zV, vrow 1003 zV, vrow 1004 zV]) rfl [] w16_5Ts (fun p hp => by cases hp) (fun g β => by kernel_rfl)
--EVTS w16_6Ts | fun (o : Nat → Int) (bo : Nat) (r1 r2 r3 : Rw) (g : Nat → Value) (β : Nat → Fr) => (wPath 16 6 6 true o bo r1 r2 r3 (setI o 16 6 18446744073709551615) g β, ([] : List (Bool × Bool)))
def w16_6Ts : List Nat := [0, 0, 0, 0, 0, 0, 0, 0, 0]
theorem w16_6 (o : Nat → Int) : WRun 16 6 true o (setI o 16 6 18446744073709551615) :=
  fun bo r1 r2 r3 => runs_code (E := envG []) (E' := envG []) rfl (sumG_ok _ (fun x hx => by cases hx)) (fuel := 60) (need' := wNeed 16 1001 6 true) (M' := [vrow 1001 zV, vrow 1002 zV, vrow 1003 zV, vrow 1004 zV]) rfl [] w16_6Ts (fun p hp => by cases hp) (fun g β => by kernel_rfl)
--EVTS w16_7Ts | fun (o : Nat → Int) (bo : Nat) (r1 r2 r3 : Rw) (g : Nat → Value) (β : Nat → Fr) => (wPath 16 7 7 true o bo r1 r2 r3 (setI o 16 7 18446744073709551615) g β, ([] : List (Bool × Bool)))
def w16_7Ts : List Nat := [0, 0, 0, 0, 0, 0, 0, 0, 0]
theorem w16_7 (o : Nat → Int) : WRun 16 7 true o (setI o 16 7 18446744073709551615) :=
  fun bo r1 r2 r3 => runs_code (E := envG []) (E' := envG []) rfl (sumG_ok _ (fun x hx => by cases hx)) (fuel := 60) (need' := wNeed 16 1001 7 true) (M' := [vrow 1001 zV, vrow 1002 zV, vrow 1003 zV, vrow 1004 zV]) rfl [] w16_7Ts (fun p hp => by cases hp) (fun g β => by kernel_rfl)
--EVTS w16nTs | fun (i : Int) (o : Nat → Int) (bo : Nat) (r1 r2 r3 : Rw) (g : Nat → Value) (β : Nat → Fr) => (wPath 16 i 0 false o bo r1 r2 r3 o g β, ([] : List (Bool × Bool)))
def w16nTs : List Nat := [0, 0, 0]
theorem w16n (i : Int) (o : Nat → Int) : WRun 16 i false o o :=
  fun bo r1 r2 r3 => runs_code (E := envG []) (E' := envG []) rfl (sumG_ok _ (fun x hx => by cases hx)) (fuel := 60) (need' := wNeed 16 1001 0 false) (M' := [vrow 1001 zV, vrow 1002 zV, vrow 1003 zV, vrow 1004 zV]) rfl [] w16nTs (fun p hp => by cases hp) (fun g β => by kernel_rfl)
--EVTS w32_0Ts | fun (o : Nat → Int) (bo : Nat) (r1 r2 r3 : Rw) (g : Nat → Value) (β : Nat → Fr) => (wPath 32 0 0 true o bo r1 r2 r3 (setI o 32 0 18446744073709551615) g β, ([] : List (Bool × Bool)))
def w32_0Ts : List Nat := [0, 0, 0, 0, 0, 0, 0, 0, 0, 0, 0, 0, 0, 0, 0]
theorem w32_0 (o : Nat → Int) : WRun 32 0 true o (setI o 32 0 18446744073709551615) :=
  fun bo r1 r2 r3 => runs_code (E := envG []) (E' := envG []) rfl (sumG_ok _ (fun x hx => by cases hx)) (fuel := 60) (need' := wNeed 32 1001 0 true) (M' := [vrow 1001 zV, vrow 1002 zV, vrow 1003 zV, vrow 1004 zV]) rfl [] w32_0Ts (fun p hp => by cases hp) (fun g β => by kernel_rfl)
--EVTS w32_1Ts | fun (o : Nat → Int) (bo : Nat) (r1 r2 r3 : Rw) (g : Nat → Value) (β : Nat → Fr) => (wPath 32 1 1 true o bo r1 r2 r3 (setI o 32 1 18446744073709551615) g β, ([] : List (Bool × Bool)))
def w32_1Ts : List Nat := [0, 0, 0, 0, 0, 0, 0, 0, 0, 0, 0, 0, 0, 0, 0]
theorem w32_1 (o : Nat → Int) : WRun 32 1 true o (setI o 32 1 18446744073709551615) :=
  fun bo r1 r2 r3 => runs_code (E := envG []) (E' := envG []) rfl (sumG_ok _ (fun x hx => by cases hx)) (fuel := 60) (need' := wNeed 32 1001 1 true) (M' := [vrow 1001 zV, vrow 1002 zV, vrow 1003 zV, vrow 1004 zV]) rfl [] w32_1Ts (fun p hp => by cases hp) (fun g β => by kernel_rfl)
--EVTS w32_2Ts | fun (o : Nat → Int) (bo : Nat) (r1 r2 r3 : Rw) (g : Nat → Value) (β : Nat → Fr) => (wPath 32 2 2 true o bo r1 r2 r3 (setI o 32 2 18446744073709551615) g β, ([] : List (Bool × Bool)))
def w32_2Ts : List Nat := [0, 0, 0, 0, 0, 0, 0, 0, 0, 0, 0, 0, 0, 0, 0]
theorem w32_2 (o : Nat → Int) : WRun 32 2 true o (setI o 32 2 18446744073709551615) :=
  fun bo r1 r2 r3 => runs_code (E := envG []) (E' := envG []) rfl (sumG_ok _ (fun x hx => by cases hx)) (fuel := 60) (need' := wNeed 32 1001 2 true) (M' := [vrow 1001 zV, vrow 1002 zV, vrow 1003 zV, vrow 1004 zV]) rfl [] w32_2Ts (fun p hp => by cases hp) (fun g β => by kernel_rfl)
--EVTS w32_3Ts | fun (o : Nat → Int) (bo : Nat) (r1 r2 r3 : Rw) (g : Nat → Value) (β : Nat → Fr) => (wPath 32 3 3 true o bo r1 r2 r3 (setI o 32 3 18446744073709551615) g β, ([] : List (Bool × Bool)))
def w32_3Ts : List Nat := [0, 0, 0, 0, 0, 0, 0, 0, 0, 0, 0, 0, 0, 0, 0]
theorem w32_3 (o : Nat → Int) : WRun 32 3 true o (setI o 32 3 18446744073709551615) :=
  fun bo r1 r2 r3 => runs_code (E := envG []) (E' := envG []) rfl (sumG_ok _ (fun x hx => by cases hx)) (fuel := 60) (need' := wNeed 32 1001 3 true) (M' := [vrow 1001 zV, vrow 1002 zV, vrow 1003 zV, vrow 1004 zV]) rfl [] w32_3Ts (fun p hp => by cases hp) (fun g β => by kernel_rfl)
--EVTS w32nTs | fun (i : Int) (o : Nat → Int) (bo : Nat) (r1 r2 r3 : Rw) (g : Nat → Value) (β : Nat → Fr) => (wPath 32 i 0 false o bo r1 r2 r3 o g β, ([] : List (Bool × Bool)))
def w32nTs : List Nat := [0, 0, 0]
theorem w32n (i : Int) (o : Nat → Int) : WRun 32 i false o o :=
  fun bo r1 r2 r3 => runs_code (E := envG []) (E' := envG []) rfl (sumG_ok _ (fun x hx => by cases hx)) (fuel := 60) (need' := wNeed 32 1001 0 false) (M' := [vrow 1001 zV, vrow 1002 zV, vrow 1003 zV, vrow 1004 zV]) rfl [] w32nTs (fun p hp => by cases hp) (fun g β => by kernel_rfl)
--EVTS w64_0Ts | fun (o : Nat → Int) (bo : Nat) (r1 r2 r3 : Rw) (g : Nat → Value) (β : Nat → Fr) => (wPath 64 0 0 true o bo r1 r2 r3 (setI o 64 0 18446744073709551615) g β, ([] : List (Bool × Bool)))
def w64_0Ts : List Nat := [0, 0, 0, 0, 0, 0, 0, 0, 0, 0, 0, 0, 0, 0, 0, 0, 0, 0, 0, 0, 0, 0, 0, 0, 0, 0, 0]
theorem w64_0 (o : Nat → Int) : WRun 64 0 true o (setI o 64 0 18446744073709551615) :=
  fun bo r1 r2 r3 => runs_code (E := envG []) (E' := envG []) rfl (sumG_ok _ (fun x hx => by cases hx)) (fuel := 60) (need' := wNeed 64 1001 0 true) (M' := [vrow 1001 zV, vrow 1002 zV, vrow 1003 zV, vrow 1004 zV]) rfl [] w64_0Ts (fun p hp => by cases hp) (fun g β => by kernel_rfl)
--EVTS w64_1Ts | fun (o : Nat → Int) (bo : Nat) (r1 r2 r3 : Rw) (g : Nat → Value) (β : Nat → Fr) => (wPath 64 1 1 true o bo r1 r2 r3 (setI o 64 1 18446744073709551615) g β, ([] : List (Bool × Bool)))
def w64_1Ts : List Nat := [0, 0, 0, 0, 0, 0, 0, 0, 0, 0, 0, 0, 0, 0, 0, 0, 0, 0, 0, 0, 0, 0, 0, 0, 0, 0, 0]
theorem w64_1 (o : Nat → Int) : WRun 64 1 true o (setI o 64 1 18446744073709551615) :=
  fun bo r1 r2 r3 => runs_code (E := envG []) (E' := envG []) rfl (sumG_ok _ (fun x hx => by cases hx)) (fuel := 60) (need' := wNeed 64 1001 1 true) (M' := [vrow 1001 zV, vrow 1002 zV, vrow 1003 zV, vrow 1004 zV]) rfl [] w64_1Ts (fun p hp => by cases hp) (fun g β => by kernel_rfl)
--EVTS w64nTs | fun (i : Int) (o : Nat → Int) (bo : Nat) (r1 r2 r3 : Rw) (g : Nat → Value) (β : Nat → Fr) => (wPath 64 i 0 false o bo r1 r2 r3 o g β, ([] : List (Bool × Bool)))
def w64nTs : List Nat := [0, 0, 0]
theorem w64n (i : Int) (o : Nat → Int) : WRun 64 i false o o :=
  fun bo r1 r2 r3 => runs_code (E := envG []) (E' := envG []) rfl (sumG_ok _ (fun x hx => by cases hx)) (fuel := 60) (need' := wNeed 64 1001 0 false) (M' := [vrow 1001 zV, vrow 1002 zV, vrow 1003 zV, vrow 1004 zV]) rfl [] w64nTs (fun p hp => by cases hp) (fun g β => by kernel_rfl)
def stp (w i : Int) (y : Bool) (o : Nat → Int) : Nat → Int := match y with | true => setI o w i 18446744073709551615 | false => o
theorem w_any (w i : Int) (hw : w = 8 ∨ w = 16 ∨ w = 32 ∨ w = 64) (h0 : 0 ≤ i) (h1 : i < lanesI w) (y : Bool) (o : Nat → Int) : WRun w i y o (stp w i y o) := by
  cases y with
  | false => rcases hw with rfl | rfl | rfl | rfl
             · exact w8n i o
             · exact w16n i o
             · exact w32n i o
             · exact w64n i o
  | true =>
    rcases hw with rfl | rfl | rfl | rfl
    · have h2 : i = 0 ∨ i = 1 ∨ i = 2 ∨ i = 3 ∨ i = 4 ∨ i = 5 ∨ i = 6 ∨ i = 7 ∨ i = 8 ∨ i = 9 ∨ i = 10 ∨ i = 11 ∨ i = 12 ∨ i = 13 ∨ i = 14 ∨ i = 15 := by
        rw [show lanesI 8 = 16 by decide] at h1
        omega
      rcases h2 with rfl | rfl | rfl | rfl | rfl | rfl | rfl | rfl | rfl | rfl | rfl | rfl | rfl | rfl | rfl | rfl
      · exact w8_0 o
      · exact w8_1 o
      · exact w8_2 o
      · exact w8_3 o
      · exact w8_4 o
      · exact w8_5 o
      · exact w8_6 o
      · exact w8_7 o
      · exact w8_8 o
      · exact w8_9 o
      · exact w8_10 o
      · exact w8_11 o
      · exact w8_12 o
      · exact w8_13 o
      · exact w8_14 o
      · exact w8_15 o
    · have h2 : i = 0 ∨ i = 1 ∨ i = 2 ∨ i = 3 ∨ i = 4 ∨ i = 5 ∨ i = 6 ∨ i = 7 := by
        rw [show lanesI 16 = 8 by decide] at h1
        omega
      rcases h2 with rfl | rfl | rfl | rfl | rfl | rfl | rfl | rfl
      · exact w16_0 o
      · exact w16_1 o
      · exact w16_2 o
      · exact w16_3 o
      · exact w16_4 o
      · exact w16_5 o
      · exact w16_6 o
      · exact w16_7 o
    · have h2 : i = 0 ∨ i = 1 ∨ i = 2 ∨ i = 3 := by
        rw [show lanesI 32 = 4 by decide] at h1
        omega
      rcases h2 with rfl | rfl | rfl | rfl
      · exact w32_0 o
      · exact w32_1 o
      · exact w32_2 o
      · exact w32_3 o
    · have h2 : i = 0 ∨ i = 1 := by
        rw [show lanesI 64 = 2 by decide] at h1
        omega
      rcases h2 with rfl | rfl
      · exact w64_0 o
      · exact w64_1 o
noncomputable def wHole (o : Nat → Int) (id : Nat) (_ : Code) (T : Tm) (M : List Rw) : Option Hole :=
  match Nat.beq id 6 with
  | false => none
  | true => match tget T 9, tget T 14, tget T 19 with
    | .int .i64 w, .int .i64 i, .bool y => match M with
      | [ro, r1, r2, r3] => some (mkHole wBlk 184 (wNeed w ro.b i y) [vrow ro.b o, r1, r2, r3] [decide (w = 8 ∨ w = 16 ∨ w = 32 ∨ w = 64), decide (0 ≤ i), decide (i < lanesI w)] .normal [] wHav [vrow ro.b (stp w i y o), r1, r2, r3])
      | _ => none
    | _, _, _ => none
noncomputable def envW (o : Nat → Int) (K : List (Nat → Int)) : Env := { P := Try.prog, known := K, sum := sumG, hole := wHole o }
theorem w_holes (o : Nat → Int) (K : List (Nat → Int)) : HolesOk (envW o K) := by
  intro id body T M H hq hn hneed hrows hpre w0 w1 Q hS hQ
  replace hq : wHole o id body T M = some H := hq
  unfold wHole at hq
  split at hq
  · cases hq
  split at hq
  · split at hq
    · cases hq
      have h0 := hpre _ (List.mem_cons_self ..)
      have h1 := hpre _ (List.mem_cons_of_mem _ (List.mem_cons_self ..))
      have h2 := hpre _ (List.mem_cons_of_mem _ (List.mem_cons_of_mem _ (List.mem_cons_self ..)))
      simp only [decide_eq_true_eq] at h0 h1 h2
      exact mkHole_ok (w_any _ _ h0 h1 h2 _ o _ _ _ _) (fun p hp => by cases hp) hn hneed (by rw [hrows] at hS; exact hS) fun ξ w' h => hQ ξ w' h
    · cases hq
  · cases hq
/-! ### a lane's round -/
noncomputable def cBlk : Code := blkIn 12 5
def cHav : List Nat := [15, 16, 17, 18, 19, 20] ++ (List.range 109).map (· + 74)
def cNeed (w k : Int) (ba bb bo : Nat) (i : Int) : List (Nat × Value) := [(4, pt ba), (5, pt bb), (9, .int .i64 w), (10, .int .i64 k), (13, pt bo), (14, .int .i64 i)]
noncomputable def cPath (w k : Int) (r6 : Rw) (ba bb bo : Nat) (a b o a' b' : Nat → Int) (i : Int) (y : Bool) (g : Nat → Value) (β : Nat → Fr) : Out :=
  evCode (envW o [a, b]) (envW zV [a', b']) 60 cBlk (valsOf (cNeed w k ba bb bo i) g 184) (valsOf (cNeed 8 k 1001 1004 1002 0) (fun _ => undef) 184)
    [vrow bo o, r6, vrow bb b, vrow ba a] [vrow 1002 zV, vrow 1003 zV, vrow 1004 b', vrow 1001 a'] .normal ([] ++ keepOf (cNeed w k ba bb bo i) g 184 cHav) [vrow bo (stp w i y o), r6, vrow bb b, vrow ba a] β
def cD (p q c d : Bool) (w i : Int) : List (Bool × Bool) := [(p, c), (q, d), (decide (w = 8 ∨ w = 16 ∨ w = 32 ∨ w = 64), true), (decide (0 ≤ i), true), (decide (i < lanesI w), true)]
theorem cD_ok {p q c d : Bool} {w i : Int} (h1 : p = c) (h2 : q = d) (hw : w = 8 ∨ w = 16 ∨ w = 32 ∨ w = 64) (h3 : 0 ≤ i) (h4 : i < lanesI w) : ∀ x ∈ cD p q c d w i, x.1 = x.2 := by
  intro x hx
  simp only [cD, List.mem_cons, List.not_mem_nil, or_false] at hx
  rcases hx with rfl | rfl | rfl | rfl | rfl
  · exact h1
  · exact h2
  · exact decide_eq_true hw
  · exact decide_eq_true h3
  · exact decide_eq_true h4
def CRun (w k : Int) (a b o : Nat → Int) (i : Int) (y : Bool) : Prop := ∀ (r6 : Rw) (ba bb bo : Nat), Runs cBlk 184 (cNeed w k ba bb bo i) [vrow bo o, r6, vrow bb b, vrow ba a] .normal [] cHav [vrow bo (stp w i y o), r6, vrow bb b, vrow ba a]
--EVTS c0lTs | fun (w : Int) (r6 : Rw) (ba bb bo : Nat) (a b o : Nat → Int) (i : Int) (g : Nat → Value) (β : Nat → Fr) => (cPath w 0 r6 ba bb bo a b o (smp [3, 1, 1, 1, 1, 1, 1, 1, 9, 1, 1, 1, 1, 1, 1, 1]) (smp [7, 7, 7, 7, 7, 7, 7, 7, 9, 1, 1, 1, 1, 1, 1, 1]) i false g β, cD (!decide (sgnI a w i < sgnI b w i)) (!decide (sgnI a w i > sgnI b w i)) false true w i)
def c0lTs : List Nat := [0, 5, 4, 3, 0, 0, 0, 0, 0, 0, 0, 0, 0, 0, 0, 0, 0, 0, 0, 0, 0, 0, 0, 0, 0, 0, 0, 0, 0, 0, 0, 0, 0, 0, 0, 0, 0, 0, 0, 0, 0, 0, 0, 0, 0, 0, 0, 1, 1, 1, 0, 0, 0, 0, 0, 0, 0, 0]
theorem c0l (w i : Int) (hw : w = 8 ∨ w = 16 ∨ w = 32 ∨ w = 64) (h3 : 0 ≤ i) (h4 : i < lanesI w) (a b o : Nat → Int) (ha : Byt a) (hb : Byt b) (h1 : decide (sgnI a w i < sgnI b w i) = true) (h2 : decide (sgnI a w i > sgnI b w i) = false) : CRun w 0 a b o i false :=
  fun r6 ba bb bo => runs_code (E := envW o [a, b]) (E' := envW zV [smp [3, 1, 1, 1, 1, 1, 1, 1, 9, 1, 1, 1, 1, 1, 1, 1], smp [7, 7, 7, 7, 7, 7, 7, 7, 9, 1, 1, 1, 1, 1, 1, 1]]) rfl (sumG_ok' (envW o _) rfl (byt_two ha hb)) (fuel := 60) (need' := cNeed 8 0 1001 1004 1002 0) (M' := [vrow 1002 zV, vrow 1003 zV, vrow 1004 (smp [7, 7, 7, 7, 7, 7, 7, 7, 9, 1, 1, 1, 1, 1, 1, 1]), vrow 1001 (smp [3, 1, 1, 1, 1, 1, 1, 1, 9, 1, 1, 1, 1, 1, 1, 1])]) rfl (cD (!decide (sgnI a w i < sgnI b w i)) (!decide (sgnI a w i > sgnI b w i)) false true w i) c0lTs (cD_ok (by rw [h1]; rfl) (by rw [h2]; rfl) hw h3 h4) (fun g β => by kernel_rfl) (w_holes o _)
--EVTS c0mTs | fun (w : Int) (r6 : Rw) (ba bb bo : Nat) (a b o : Nat → Int) (i : Int) (g : Nat → Value) (β : Nat → Fr) => (cPath w 0 r6 ba bb bo a b o (smp [7, 7, 7, 7, 7, 7, 7, 7, 9, 1, 1, 1, 1, 1, 1, 1]) (smp [3, 1, 1, 1, 1, 1, 1, 1, 9, 1, 1, 1, 1, 1, 1, 1]) i false g β, cD (!decide (sgnI a w i < sgnI b w i)) (!decide (sgnI a w i > sgnI b w i)) true false w i)
def c0mTs : List Nat := [0, 5, 4, 3, 0, 0, 0, 0, 0, 0, 0, 0, 0, 0, 0, 0, 0, 0, 0, 0, 0, 0, 0, 0, 0, 0, 0, 0, 0, 0, 0, 0, 0, 0, 0, 0, 0, 0, 2, 0, 2, 0, 0, 0, 2, 2, 2, 1, 1, 1, 0, 0, 0, 0, 0, 0, 0, 0]
theorem c0m (w i : Int) (hw : w = 8 ∨ w = 16 ∨ w = 32 ∨ w = 64) (h3 : 0 ≤ i) (h4 : i < lanesI w) (a b o : Nat → Int) (ha : Byt a) (hb : Byt b) (h1 : decide (sgnI a w i < sgnI b w i) = false) (h2 : decide (sgnI a w i > sgnI b w i) = true) : CRun w 0 a b o i false :=
  fun r6 ba bb bo => runs_code (E := envW o [a, b]) (E' := envW zV [smp [7, 7, 7, 7, 7, 7, 7, 7, 9, 1, 1, 1, 1, 1, 1, 1], smp [3, 1, 1, 1, 1, 1, 1, 1, 9, 1, 1, 1, 1, 1, 1, 1]]) rfl (sumG_ok' (envW o _) rfl (byt_two ha hb)) (fuel := 60) (need' := cNeed 8 0 1001 1004 1002 0) (M' := [vrow 1002 zV, vrow 1003 zV, vrow 1004 (smp [3, 1, 1, 1, 1, 1, 1, 1, 9, 1, 1, 1, 1, 1, 1, 1]), vrow 1001 (smp [7, 7, 7, 7, 7, 7, 7, 7, 9, 1, 1, 1, 1, 1, 1, 1])]) rfl (cD (!decide (sgnI a w i < sgnI b w i)) (!decide (sgnI a w i > sgnI b w i)) true false w i) c0mTs (cD_ok (by rw [h1]; rfl) (by rw [h2]; rfl) hw h3 h4) (fun g β => by kernel_rfl) (w_holes o _)
--EVTS c0eTs | fun (w : Int) (r6 : Rw) (ba bb bo : Nat) (a b o : Nat → Int) (i : Int) (g : Nat → Value) (β : Nat → Fr) => (cPath w 0 r6 ba bb bo a b o (smp [3, 1, 1, 1, 1, 1, 1, 1, 9, 1, 1, 1, 1, 1, 1, 1]) (smp [3, 1, 1, 1, 1, 1, 1, 1, 8, 1, 1, 1, 1, 1, 1, 1]) i true g β, cD (!decide (sgnI a w i < sgnI b w i)) (!decide (sgnI a w i > sgnI b w i)) true true w i)
def c0eTs : List Nat := [0, 5, 4, 3, 0, 0, 0, 0, 0, 0, 0, 0, 0, 0, 0, 0, 0, 0, 0, 0, 0, 0, 0, 0, 0, 0, 0, 0, 2, 2, 2, 2, 2, 1, 1, 1, 0, 0, 0, 0, 0, 0, 0, 0]
theorem c0e (w i : Int) (hw : w = 8 ∨ w = 16 ∨ w = 32 ∨ w = 64) (h3 : 0 ≤ i) (h4 : i < lanesI w) (a b o : Nat → Int) (ha : Byt a) (hb : Byt b) (h1 : decide (sgnI a w i < sgnI b w i) = false) (h2 : decide (sgnI a w i > sgnI b w i) = false) : CRun w 0 a b o i true :=
  fun r6 ba bb bo => runs_code (E := envW o [a, b]) (E' := envW zV [smp [3, 1, 1, 1, 1, 1, 1, 1, 9, 1, 1, 1, 1, 1, 1, 1], smp [3, 1, 1, 1, 1, 1, 1, 1, 8, 1, 1, 1, 1, 1, 1, 1]]) rfl (sumG_ok' (envW o _) rfl (byt_two ha hb)) (fuel := 60) (need' := cNeed 8 0 1001 1004 1002 0) (M' := [vrow 1002 zV, vrow 1003 zV, vrow 1004 (smp [3, 1, 1, 1, 1, 1, 1, 1, 8, 1, 1, 1, 1, 1, 1, 1]), vrow 1001 (smp [3, 1, 1, 1, 1, 1, 1, 1, 9, 1, 1, 1, 1, 1, 1, 1])]) rfl (cD (!decide (sgnI a w i < sgnI b w i)) (!decide (sgnI a w i > sgnI b w i)) true true w i) c0eTs (cD_ok (by rw [h1]; rfl) (by rw [h2]; rfl) hw h3 h4) (fun g β => by kernel_rfl) (w_holes o _)
--EVTS c1lTs | fun (w : Int) (r6 : Rw) (ba bb bo : Nat) (a b o : Nat → Int) (i : Int) (g : Nat → Value) (β : Nat → Fr) => (cPath w 1 r6 ba bb bo a b o (smp [3, 1, 1, 1, 1, 1, 1, 1, 9, 1, 1, 1, 1, 1, 1, 1]) (smp [7, 7, 7, 7, 7, 7, 7, 7, 9, 1, 1, 1, 1, 1, 1, 1]) i true g β, cD (decide (sgnI a w i < sgnI b w i)) (decide (sgnI a w i > sgnI b w i)) true false w i)
def c1lTs : List Nat := [0, 5, 4, 3, 0, 0, 0, 0, 0, 0, 0, 0, 0, 0, 0, 0, 0, 0, 0, 0, 0, 0, 0, 0, 0, 0, 0, 0, 0, 0, 0, 1, 0, 1, 0, 0, 0, 0, 0, 0, 0, 0, 0, 0, 0, 0, 0, 0, 0, 0]
theorem c1l (w i : Int) (hw : w = 8 ∨ w = 16 ∨ w = 32 ∨ w = 64) (h3 : 0 ≤ i) (h4 : i < lanesI w) (a b o : Nat → Int) (ha : Byt a) (hb : Byt b) (h1 : decide (sgnI a w i < sgnI b w i) = true) (h2 : decide (sgnI a w i > sgnI b w i) = false) : CRun w 1 a b o i true :=
  fun r6 ba bb bo => runs_code (E := envW o [a, b]) (E' := envW zV [smp [3, 1, 1, 1, 1, 1, 1, 1, 9, 1, 1, 1, 1, 1, 1, 1], smp [7, 7, 7, 7, 7, 7, 7, 7, 9, 1, 1, 1, 1, 1, 1, 1]]) rfl (sumG_ok' (envW o _) rfl (byt_two ha hb)) (fuel := 60) (need' := cNeed 8 1 1001 1004 1002 0) (M' := [vrow 1002 zV, vrow 1003 zV, vrow 1004 (smp [7, 7, 7, 7, 7, 7, 7, 7, 9, 1, 1, 1, 1, 1, 1, 1]), vrow 1001 (smp [3, 1, 1, 1, 1, 1, 1, 1, 9, 1, 1, 1, 1, 1, 1, 1])]) rfl (cD (decide (sgnI a w i < sgnI b w i)) (decide (sgnI a w i > sgnI b w i)) true false w i) c1lTs (cD_ok h1 h2 hw h3 h4) (fun g β => by kernel_rfl) (w_holes o _)
--EVTS c1mTs | fun (w : Int) (r6 : Rw) (ba bb bo : Nat) (a b o : Nat → Int) (i : Int) (g : Nat → Value) (β : Nat → Fr) => (cPath w 1 r6 ba bb bo a b o (smp [7, 7, 7, 7, 7, 7, 7, 7, 9, 1, 1, 1, 1, 1, 1, 1]) (smp [3, 1, 1, 1, 1, 1, 1, 1, 9, 1, 1, 1, 1, 1, 1, 1]) i true g β, cD (decide (sgnI a w i < sgnI b w i)) (decide (sgnI a w i > sgnI b w i)) false true w i)
def c1mTs : List Nat := [0, 5, 4, 3, 0, 0, 0, 0, 0, 0, 0, 0, 0, 0, 0, 0, 0, 0, 0, 0, 0, 0, 2, 2, 2, 2, 2, 2, 0, 0, 0, 1, 0, 1, 0, 0, 0, 0, 0, 0, 0, 0, 0, 0, 0, 0, 0, 0, 0, 0]
theorem c1m (w i : Int) (hw : w = 8 ∨ w = 16 ∨ w = 32 ∨ w = 64) (h3 : 0 ≤ i) (h4 : i < lanesI w) (a b o : Nat → Int) (ha : Byt a) (hb : Byt b) (h1 : decide (sgnI a w i < sgnI b w i) = false) (h2 : decide (sgnI a w i > sgnI b w i) = true) : CRun w 1 a b o i true :=
  fun r6 ba bb bo => runs_code (E := envW o [a, b]) (E' := envW zV [smp [7, 7, 7, 7, 7, 7, 7, 7, 9, 1, 1, 1, 1, 1, 1, 1], smp [3, 1, 1, 1, 1, 1, 1, 1, 9, 1, 1, 1, 1, 1, 1, 1]]) rfl (sumG_ok' (envW o _) rfl (byt_two ha hb)) (fuel := 60) (need' := cNeed 8 1 1001 1004 1002 0) (M' := [vrow 1002 zV, vrow 1003 zV, vrow 1004 (smp [3, 1, 1, 1, 1, 1, 1, 1, 9, 1, 1, 1, 1, 1, 1, 1]), vrow 1001 (smp [7, 7, 7, 7, 7, 7, 7, 7, 9, 1, 1, 1, 1, 1, 1, 1])]) rfl (cD (decide (sgnI a w i < sgnI b w i)) (decide (sgnI a w i > sgnI b w i)) false true w i) c1mTs (cD_ok h1 h2 hw h3 h4) (fun g β => by kernel_rfl) (w_holes o _)
--EVTS c1eTs | fun (w : Int) (r6 : Rw) (ba bb bo : Nat) (a b o : Nat → Int) (i : Int) (g : Nat → Value) (β : Nat → Fr) => (cPath w 1 r6 ba bb bo a b o (smp [3, 1, 1, 1, 1, 1, 1, 1, 9, 1, 1, 1, 1, 1, 1, 1]) (smp [3, 1, 1, 1, 1, 1, 1, 1, 8, 1, 1, 1, 1, 1, 1, 1]) i false g β, cD (decide (sgnI a w i < sgnI b w i)) (decide (sgnI a w i > sgnI b w i)) false false w i)
def c1eTs : List Nat := [0, 5, 4, 3, 0, 0, 0, 0, 0, 0, 0, 0, 0, 0, 0, 0, 0, 0, 0, 0, 0, 0, 0, 0, 0, 0, 0, 0, 0, 0, 2, 0, 2, 0, 2, 2, 2, 2, 0, 0, 0, 1, 0, 1, 0, 0, 0, 0, 0, 0, 0, 0, 0, 0, 0, 0, 0, 0, 0, 0]
theorem c1e (w i : Int) (hw : w = 8 ∨ w = 16 ∨ w = 32 ∨ w = 64) (h3 : 0 ≤ i) (h4 : i < lanesI w) (a b o : Nat → Int) (ha : Byt a) (hb : Byt b) (h1 : decide (sgnI a w i < sgnI b w i) = false) (h2 : decide (sgnI a w i > sgnI b w i) = false) : CRun w 1 a b o i false :=
  fun r6 ba bb bo => runs_code (E := envW o [a, b]) (E' := envW zV [smp [3, 1, 1, 1, 1, 1, 1, 1, 9, 1, 1, 1, 1, 1, 1, 1], smp [3, 1, 1, 1, 1, 1, 1, 1, 8, 1, 1, 1, 1, 1, 1, 1]]) rfl (sumG_ok' (envW o _) rfl (byt_two ha hb)) (fuel := 60) (need' := cNeed 8 1 1001 1004 1002 0) (M' := [vrow 1002 zV, vrow 1003 zV, vrow 1004 (smp [3, 1, 1, 1, 1, 1, 1, 1, 8, 1, 1, 1, 1, 1, 1, 1]), vrow 1001 (smp [3, 1, 1, 1, 1, 1, 1, 1, 9, 1, 1, 1, 1, 1, 1, 1])]) rfl (cD (decide (sgnI a w i < sgnI b w i)) (decide (sgnI a w i > sgnI b w i)) false false w i) c1eTs (cD_ok h1 h2 hw h3 h4) (fun g β => by kernel_rfl) (w_holes o _)
--EVTS c2lTs | fun (w : Int) (r6 : Rw) (ba bb bo : Nat) (a b o : Nat → Int) (i : Int) (g : Nat → Value) (β : Nat → Fr) => (cPath w 2 r6 ba bb bo a b o (smp [3, 1, 1, 1, 1, 1, 1, 1, 9, 1, 1, 1, 1, 1, 1, 1]) (smp [7, 7, 7, 7, 7, 7, 7, 7, 9, 1, 1, 1, 1, 1, 1, 1]) i true g β, cD (decide (sgnI a w i < sgnI b w i)) (true) true true w i)
def c2lTs : List Nat := [0, 5, 4, 3, 0, 0, 0, 0, 0, 0, 0, 0, 0, 0, 0, 0, 1, 1, 1, 1, 1, 1, 0, 0, 0, 0, 0, 0, 0, 0, 0, 0, 0, 0, 0, 0, 0, 0, 0, 0, 0, 0, 0, 0, 0, 0, 0, 0, 0, 0]
theorem c2l (w i : Int) (hw : w = 8 ∨ w = 16 ∨ w = 32 ∨ w = 64) (h3 : 0 ≤ i) (h4 : i < lanesI w) (a b o : Nat → Int) (ha : Byt a) (hb : Byt b) (h1 : decide (sgnI a w i < sgnI b w i) = true) (h2 : decide (sgnI a w i > sgnI b w i) = false) : CRun w 2 a b o i true :=
  fun r6 ba bb bo => runs_code (E := envW o [a, b]) (E' := envW zV [smp [3, 1, 1, 1, 1, 1, 1, 1, 9, 1, 1, 1, 1, 1, 1, 1], smp [7, 7, 7, 7, 7, 7, 7, 7, 9, 1, 1, 1, 1, 1, 1, 1]]) rfl (sumG_ok' (envW o _) rfl (byt_two ha hb)) (fuel := 60) (need' := cNeed 8 2 1001 1004 1002 0) (M' := [vrow 1002 zV, vrow 1003 zV, vrow 1004 (smp [7, 7, 7, 7, 7, 7, 7, 7, 9, 1, 1, 1, 1, 1, 1, 1]), vrow 1001 (smp [3, 1, 1, 1, 1, 1, 1, 1, 9, 1, 1, 1, 1, 1, 1, 1])]) rfl (cD (decide (sgnI a w i < sgnI b w i)) (true) true true w i) c2lTs (cD_ok h1 rfl hw h3 h4) (fun g β => by kernel_rfl) (w_holes o _)
--EVTS c2mTs | fun (w : Int) (r6 : Rw) (ba bb bo : Nat) (a b o : Nat → Int) (i : Int) (g : Nat → Value) (β : Nat → Fr) => (cPath w 2 r6 ba bb bo a b o (smp [7, 7, 7, 7, 7, 7, 7, 7, 9, 1, 1, 1, 1, 1, 1, 1]) (smp [3, 1, 1, 1, 1, 1, 1, 1, 9, 1, 1, 1, 1, 1, 1, 1]) i false g β, cD (decide (sgnI a w i < sgnI b w i)) (true) false true w i)
def c2mTs : List Nat := [0, 5, 4, 3, 0, 0, 0, 0, 0, 0, 0, 0, 0, 0, 0, 0, 0, 0, 0, 0, 0, 0, 1, 0, 1, 0, 1, 1, 1, 1, 0, 0, 0, 0, 0, 0, 0, 0, 0, 0, 0, 0, 0, 0, 0, 0, 0, 0, 0, 0, 0, 0, 0, 0, 0, 0, 0, 0]
theorem c2m (w i : Int) (hw : w = 8 ∨ w = 16 ∨ w = 32 ∨ w = 64) (h3 : 0 ≤ i) (h4 : i < lanesI w) (a b o : Nat → Int) (ha : Byt a) (hb : Byt b) (h1 : decide (sgnI a w i < sgnI b w i) = false) (h2 : decide (sgnI a w i > sgnI b w i) = true) : CRun w 2 a b o i false :=
  fun r6 ba bb bo => runs_code (E := envW o [a, b]) (E' := envW zV [smp [7, 7, 7, 7, 7, 7, 7, 7, 9, 1, 1, 1, 1, 1, 1, 1], smp [3, 1, 1, 1, 1, 1, 1, 1, 9, 1, 1, 1, 1, 1, 1, 1]]) rfl (sumG_ok' (envW o _) rfl (byt_two ha hb)) (fuel := 60) (need' := cNeed 8 2 1001 1004 1002 0) (M' := [vrow 1002 zV, vrow 1003 zV, vrow 1004 (smp [3, 1, 1, 1, 1, 1, 1, 1, 9, 1, 1, 1, 1, 1, 1, 1]), vrow 1001 (smp [7, 7, 7, 7, 7, 7, 7, 7, 9, 1, 1, 1, 1, 1, 1, 1])]) rfl (cD (decide (sgnI a w i < sgnI b w i)) (true) false true w i) c2mTs (cD_ok h1 rfl hw h3 h4) (fun g β => by kernel_rfl) (w_holes o _)
--EVTS c2eTs | fun (w : Int) (r6 : Rw) (ba bb bo : Nat) (a b o : Nat → Int) (i : Int) (g : Nat → Value) (β : Nat → Fr) => (cPath w 2 r6 ba bb bo a b o (smp [3, 1, 1, 1, 1, 1, 1, 1, 9, 1, 1, 1, 1, 1, 1, 1]) (smp [3, 1, 1, 1, 1, 1, 1, 1, 8, 1, 1, 1, 1, 1, 1, 1]) i false g β, cD (decide (sgnI a w i < sgnI b w i)) (true) false true w i)
def c2eTs : List Nat := [0, 5, 4, 3, 0, 0, 0, 0, 0, 0, 0, 0, 0, 0, 0, 0, 0, 0, 0, 0, 0, 0, 1, 0, 1, 0, 1, 1, 1, 1, 0, 0, 0, 0, 0, 0, 0, 0, 0, 0, 0, 0, 0, 0, 0, 0, 0, 0, 0, 0, 0, 0, 0, 0, 0, 0, 0, 0]
theorem c2e (w i : Int) (hw : w = 8 ∨ w = 16 ∨ w = 32 ∨ w = 64) (h3 : 0 ≤ i) (h4 : i < lanesI w) (a b o : Nat → Int) (ha : Byt a) (hb : Byt b) (h1 : decide (sgnI a w i < sgnI b w i) = false) (h2 : decide (sgnI a w i > sgnI b w i) = false) : CRun w 2 a b o i false :=
  fun r6 ba bb bo => runs_code (E := envW o [a, b]) (E' := envW zV [smp [3, 1, 1, 1, 1, 1, 1, 1, 9, 1, 1, 1, 1, 1, 1, 1], smp [3, 1, 1, 1, 1, 1, 1, 1, 8, 1, 1, 1, 1, 1, 1, 1]]) rfl (sumG_ok' (envW o _) rfl (byt_two ha hb)) (fuel := 60) (need' := cNeed 8 2 1001 1004 1002 0) (M' := [vrow 1002 zV, vrow 1003 zV, vrow 1004 (smp [3, 1, 1, 1, 1, 1, 1, 1, 8, 1, 1, 1, 1, 1, 1, 1]), vrow 1001 (smp [3, 1, 1, 1, 1, 1, 1, 1, 9, 1, 1, 1, 1, 1, 1, 1])]) rfl (cD (decide (sgnI a w i < sgnI b w i)) (true) false true w i) c2eTs (cD_ok h1 rfl hw h3 h4) (fun g β => by kernel_rfl) (w_holes o _)
--EVTS c3lTs | fun (w : Int) (r6 : Rw) (ba bb bo : Nat) (a b o : Nat → Int) (i : Int) (g : Nat → Value) (β : Nat → Fr) => (cPath w 3 r6 ba bb bo a b o (smp [3, 1, 1, 1, 1, 1, 1, 1, 9, 1, 1, 1, 1, 1, 1, 1]) (smp [7, 7, 7, 7, 7, 7, 7, 7, 9, 1, 1, 1, 1, 1, 1, 1]) i true g β, cD (decide (getI a w i < getI b w i)) (true) true true w i)
def c3lTs : List Nat := [0, 5, 4, 3, 0, 0, 0, 0, 0, 0, 0, 0, 0, 0, 0, 0, 1, 1, 1, 1, 1, 1, 0, 0, 0, 0, 0, 0, 0, 0, 0, 0, 0, 0, 0, 0, 0, 0, 0, 0, 0, 0, 0, 0, 0, 0, 0, 0, 0, 0]
theorem c3l (w i : Int) (hw : w = 8 ∨ w = 16 ∨ w = 32 ∨ w = 64) (h3 : 0 ≤ i) (h4 : i < lanesI w) (a b o : Nat → Int) (ha : Byt a) (hb : Byt b) (h1 : decide (getI a w i < getI b w i) = true) (h2 : decide (getI a w i > getI b w i) = false) : CRun w 3 a b o i true :=
  fun r6 ba bb bo => runs_code (E := envW o [a, b]) (E' := envW zV [smp [3, 1, 1, 1, 1, 1, 1, 1, 9, 1, 1, 1, 1, 1, 1, 1], smp [7, 7, 7, 7, 7, 7, 7, 7, 9, 1, 1, 1, 1, 1, 1, 1]]) rfl (sumG_ok' (envW o _) rfl (byt_two ha hb)) (fuel := 60) (need' := cNeed 8 3 1001 1004 1002 0) (M' := [vrow 1002 zV, vrow 1003 zV, vrow 1004 (smp [7, 7, 7, 7, 7, 7, 7, 7, 9, 1, 1, 1, 1, 1, 1, 1]), vrow 1001 (smp [3, 1, 1, 1, 1, 1, 1, 1, 9, 1, 1, 1, 1, 1, 1, 1])]) rfl (cD (decide (getI a w i < getI b w i)) (true) true true w i) c3lTs (cD_ok h1 rfl hw h3 h4) (fun g β => by kernel_rfl) (w_holes o _)
--EVTS c3mTs | fun (w : Int) (r6 : Rw) (ba bb bo : Nat) (a b o : Nat → Int) (i : Int) (g : Nat → Value) (β : Nat → Fr) => (cPath w 3 r6 ba bb bo a b o (smp [7, 7, 7, 7, 7, 7, 7, 7, 9, 1, 1, 1, 1, 1, 1, 1]) (smp [3, 1, 1, 1, 1, 1, 1, 1, 9, 1, 1, 1, 1, 1, 1, 1]) i false g β, cD (decide (getI a w i < getI b w i)) (true) false true w i)
def c3mTs : List Nat := [0, 5, 4, 3, 0, 0, 0, 0, 0, 0, 0, 0, 0, 0, 0, 0, 0, 0, 0, 0, 0, 0, 1, 0, 1, 0, 1, 1, 1, 1, 0, 0, 0, 0, 0, 0, 0, 0, 0, 0, 0, 0, 0, 0, 0, 0, 0, 0, 0, 0, 0, 0, 0, 0, 0, 0, 0, 0]
theorem c3m (w i : Int) (hw : w = 8 ∨ w = 16 ∨ w = 32 ∨ w = 64) (h3 : 0 ≤ i) (h4 : i < lanesI w) (a b o : Nat → Int) (ha : Byt a) (hb : Byt b) (h1 : decide (getI a w i < getI b w i) = false) (h2 : decide (getI a w i > getI b w i) = true) : CRun w 3 a b o i false :=
  fun r6 ba bb bo => runs_code (E := envW o [a, b]) (E' := envW zV [smp [7, 7, 7, 7, 7, 7, 7, 7, 9, 1, 1, 1, 1, 1, 1, 1], smp [3, 1, 1, 1, 1, 1, 1, 1, 9, 1, 1, 1, 1, 1, 1, 1]]) rfl (sumG_ok' (envW o _) rfl (byt_two ha hb)) (fuel := 60) (need' := cNeed 8 3 1001 1004 1002 0) (M' := [vrow 1002 zV, vrow 1003 zV, vrow 1004 (smp [3, 1, 1, 1, 1, 1, 1, 1, 9, 1, 1, 1, 1, 1, 1, 1]), vrow 1001 (smp [7, 7, 7, 7, 7, 7, 7, 7, 9, 1, 1, 1, 1, 1, 1, 1])]) rfl (cD (decide (getI a w i < getI b w i)) (true) false true w i) c3mTs (cD_ok h1 rfl hw h3 h4) (fun g β => by kernel_rfl) (w_holes o _)
--EVTS c3eTs | fun (w : Int) (r6 : Rw) (ba bb bo : Nat) (a b o : Nat → Int) (i : Int) (g : Nat → Value) (β : Nat → Fr) => (cPath w 3 r6 ba bb bo a b o (smp [3, 1, 1, 1, 1, 1, 1, 1, 9, 1, 1, 1, 1, 1, 1, 1]) (smp [3, 1, 1, 1, 1, 1, 1, 1, 8, 1, 1, 1, 1, 1, 1, 1]) i false g β, cD (decide (getI a w i < getI b w i)) (true) false true w i)
def c3eTs : List Nat := [0, 5, 4, 3, 0, 0, 0, 0, 0, 0, 0, 0, 0, 0, 0, 0, 0, 0, 0, 0, 0, 0, 1, 0, 1, 0, 1, 1, 1, 1, 0, 0, 0, 0, 0, 0, 0, 0, 0, 0, 0, 0, 0, 0, 0, 0, 0, 0, 0, 0, 0, 0, 0, 0, 0, 0, 0, 0]
theorem c3e (w i : Int) (hw : w = 8 ∨ w = 16 ∨ w = 32 ∨ w = 64) (h3 : 0 ≤ i) (h4 : i < lanesI w) (a b o : Nat → Int) (ha : Byt a) (hb : Byt b) (h1 : decide (getI a w i < getI b w i) = false) (h2 : decide (getI a w i > getI b w i) = false) : CRun w 3 a b o i false :=
  fun r6 ba bb bo => runs_code (E := envW o [a, b]) (E' := envW zV [smp [3, 1, 1, 1, 1, 1, 1, 1, 9, 1, 1, 1, 1, 1, 1, 1], smp [3, 1, 1, 1, 1, 1, 1, 1, 8, 1, 1, 1, 1, 1, 1, 1]]) rfl (sumG_ok' (envW o _) rfl (byt_two ha hb)) (fuel := 60) (need' := cNeed 8 3 1001 1004 1002 0) (M' := [vrow 1002 zV, vrow 1003 zV, vrow 1004 (smp [3, 1, 1, 1, 1, 1, 1, 1, 8, 1, 1, 1, 1, 1, 1, 1]), vrow 1001 (smp [3, 1, 1, 1, 1, 1, 1, 1, 9, 1, 1, 1, 1, 1, 1, 1])]) rfl (cD (decide (getI a w i < getI b w i)) (true) false true w i) c3eTs (cD_ok h1 rfl hw h3 h4) (fun g β => by kernel_rfl) (w_holes o _)
--EVTS c4lTs | fun (w : Int) (r6 : Rw) (ba bb bo : Nat) (a b o : Nat → Int) (i : Int) (g : Nat → Value) (β : Nat → Fr) => (cPath w 4 r6 ba bb bo a b o (smp [3, 1, 1, 1, 1, 1, 1, 1, 9, 1, 1, 1, 1, 1, 1, 1]) (smp [7, 7, 7, 7, 7, 7, 7, 7, 9, 1, 1, 1, 1, 1, 1, 1]) i false g β, cD (decide (sgnI a w i > sgnI b w i)) (true) false true w i)
def c4lTs : List Nat := [0, 5, 4, 3, 0, 0, 0, 0, 0, 0, 0, 0, 0, 1, 0, 1, 0, 0, 1, 1, 1, 1, 0, 0, 0, 0, 0, 0, 0, 0, 0, 0, 0, 0, 0, 0, 0, 0, 0, 0, 0, 0, 0, 0, 0, 0, 0, 0, 0, 0, 0, 0, 0, 0, 0, 0, 0, 0]
theorem c4l (w i : Int) (hw : w = 8 ∨ w = 16 ∨ w = 32 ∨ w = 64) (h3 : 0 ≤ i) (h4 : i < lanesI w) (a b o : Nat → Int) (ha : Byt a) (hb : Byt b) (h1 : decide (sgnI a w i < sgnI b w i) = true) (h2 : decide (sgnI a w i > sgnI b w i) = false) : CRun w 4 a b o i false :=
  fun r6 ba bb bo => runs_code (E := envW o [a, b]) (E' := envW zV [smp [3, 1, 1, 1, 1, 1, 1, 1, 9, 1, 1, 1, 1, 1, 1, 1], smp [7, 7, 7, 7, 7, 7, 7, 7, 9, 1, 1, 1, 1, 1, 1, 1]]) rfl (sumG_ok' (envW o _) rfl (byt_two ha hb)) (fuel := 60) (need' := cNeed 8 4 1001 1004 1002 0) (M' := [vrow 1002 zV, vrow 1003 zV, vrow 1004 (smp [7, 7, 7, 7, 7, 7, 7, 7, 9, 1, 1, 1, 1, 1, 1, 1]), vrow 1001 (smp [3, 1, 1, 1, 1, 1, 1, 1, 9, 1, 1, 1, 1, 1, 1, 1])]) rfl (cD (decide (sgnI a w i > sgnI b w i)) (true) false true w i) c4lTs (cD_ok h2 rfl hw h3 h4) (fun g β => by kernel_rfl) (w_holes o _)
--EVTS c4mTs | fun (w : Int) (r6 : Rw) (ba bb bo : Nat) (a b o : Nat → Int) (i : Int) (g : Nat → Value) (β : Nat → Fr) => (cPath w 4 r6 ba bb bo a b o (smp [7, 7, 7, 7, 7, 7, 7, 7, 9, 1, 1, 1, 1, 1, 1, 1]) (smp [3, 1, 1, 1, 1, 1, 1, 1, 9, 1, 1, 1, 1, 1, 1, 1]) i true g β, cD (decide (sgnI a w i > sgnI b w i)) (true) true true w i)
def c4mTs : List Nat := [0, 5, 4, 3, 0, 0, 0, 0, 0, 0, 1, 1, 1, 1, 1, 1, 0, 0, 0, 0, 0, 0, 0, 0, 0, 0, 0, 0, 0, 0, 0, 0, 0, 0, 0, 0, 0, 0, 0, 0, 0, 0, 0, 0, 0, 0, 0, 0, 0, 0, 0, 0]
theorem c4m (w i : Int) (hw : w = 8 ∨ w = 16 ∨ w = 32 ∨ w = 64) (h3 : 0 ≤ i) (h4 : i < lanesI w) (a b o : Nat → Int) (ha : Byt a) (hb : Byt b) (h1 : decide (sgnI a w i < sgnI b w i) = false) (h2 : decide (sgnI a w i > sgnI b w i) = true) : CRun w 4 a b o i true :=
  fun r6 ba bb bo => runs_code (E := envW o [a, b]) (E' := envW zV [smp [7, 7, 7, 7, 7, 7, 7, 7, 9, 1, 1, 1, 1, 1, 1, 1], smp [3, 1, 1, 1, 1, 1, 1, 1, 9, 1, 1, 1, 1, 1, 1, 1]]) rfl (sumG_ok' (envW o _) rfl (byt_two ha hb)) (fuel := 60) (need' := cNeed 8 4 1001 1004 1002 0) (M' := [vrow 1002 zV, vrow 1003 zV, vrow 1004 (smp [3, 1, 1, 1, 1, 1, 1, 1, 9, 1, 1, 1, 1, 1, 1, 1]), vrow 1001 (smp [7, 7, 7, 7, 7, 7, 7, 7, 9, 1, 1, 1, 1, 1, 1, 1])]) rfl (cD (decide (sgnI a w i > sgnI b w i)) (true) true true w i) c4mTs (cD_ok h2 rfl hw h3 h4) (fun g β => by kernel_rfl) (w_holes o _)
--EVTS c4eTs | fun (w : Int) (r6 : Rw) (ba bb bo : Nat) (a b o : Nat → Int) (i : Int) (g : Nat → Value) (β : Nat → Fr) => (cPath w 4 r6 ba bb bo a b o (smp [3, 1, 1, 1, 1, 1, 1, 1, 9, 1, 1, 1, 1, 1, 1, 1]) (smp [3, 1, 1, 1, 1, 1, 1, 1, 8, 1, 1, 1, 1, 1, 1, 1]) i false g β, cD (decide (sgnI a w i > sgnI b w i)) (true) false true w i)
def c4eTs : List Nat := [0, 5, 4, 3, 0, 0, 0, 0, 0, 0, 0, 0, 0, 1, 0, 1, 0, 0, 1, 1, 1, 1, 0, 0, 0, 0, 0, 0, 0, 0, 0, 0, 0, 0, 0, 0, 0, 0, 0, 0, 0, 0, 0, 0, 0, 0, 0, 0, 0, 0, 0, 0, 0, 0, 0, 0, 0, 0]
theorem c4e (w i : Int) (hw : w = 8 ∨ w = 16 ∨ w = 32 ∨ w = 64) (h3 : 0 ≤ i) (h4 : i < lanesI w) (a b o : Nat → Int) (ha : Byt a) (hb : Byt b) (h1 : decide (sgnI a w i < sgnI b w i) = false) (h2 : decide (sgnI a w i > sgnI b w i) = false) : CRun w 4 a b o i false :=
  fun r6 ba bb bo => runs_code (E := envW o [a, b]) (E' := envW zV [smp [3, 1, 1, 1, 1, 1, 1, 1, 9, 1, 1, 1, 1, 1, 1, 1], smp [3, 1, 1, 1, 1, 1, 1, 1, 8, 1, 1, 1, 1, 1, 1, 1]]) rfl (sumG_ok' (envW o _) rfl (byt_two ha hb)) (fuel := 60) (need' := cNeed 8 4 1001 1004 1002 0) (M' := [vrow 1002 zV, vrow 1003 zV, vrow 1004 (smp [3, 1, 1, 1, 1, 1, 1, 1, 8, 1, 1, 1, 1, 1, 1, 1]), vrow 1001 (smp [3, 1, 1, 1, 1, 1, 1, 1, 9, 1, 1, 1, 1, 1, 1, 1])]) rfl (cD (decide (sgnI a w i > sgnI b w i)) (true) false true w i) c4eTs (cD_ok h2 rfl hw h3 h4) (fun g β => by kernel_rfl) (w_holes o _)
--EVTS c5lTs | fun (w : Int) (r6 : Rw) (ba bb bo : Nat) (a b o : Nat → Int) (i : Int) (g : Nat → Value) (β : Nat → Fr) => (cPath w 5 r6 ba bb bo a b o (smp [3, 1, 1, 1, 1, 1, 1, 1, 9, 1, 1, 1, 1, 1, 1, 1]) (smp [7, 7, 7, 7, 7, 7, 7, 7, 9, 1, 1, 1, 1, 1, 1, 1]) i false g β, cD (decide (getI a w i > getI b w i)) (true) false true w i)
def c5lTs : List Nat := [0, 5, 4, 3, 0, 0, 0, 0, 0, 0, 0, 0, 0, 1, 0, 1, 0, 0, 1, 1, 1, 1, 0, 0, 0, 0, 0, 0, 0, 0, 0, 0, 0, 0, 0, 0, 0, 0, 0, 0, 0, 0, 0, 0, 0, 0, 0, 0, 0, 0, 0, 0, 0, 0, 0, 0, 0, 0]
theorem c5l (w i : Int) (hw : w = 8 ∨ w = 16 ∨ w = 32 ∨ w = 64) (h3 : 0 ≤ i) (h4 : i < lanesI w) (a b o : Nat → Int) (ha : Byt a) (hb : Byt b) (h1 : decide (getI a w i < getI b w i) = true) (h2 : decide (getI a w i > getI b w i) = false) : CRun w 5 a b o i false :=
  fun r6 ba bb bo => runs_code (E := envW o [a, b]) (E' := envW zV [smp [3, 1, 1, 1, 1, 1, 1, 1, 9, 1, 1, 1, 1, 1, 1, 1], smp [7, 7, 7, 7, 7, 7, 7, 7, 9, 1, 1, 1, 1, 1, 1, 1]]) rfl (sumG_ok' (envW o _) rfl (byt_two ha hb)) (fuel := 60) (need' := cNeed 8 5 1001 1004 1002 0) (M' := [vrow 1002 zV, vrow 1003 zV, vrow 1004 (smp [7, 7, 7, 7, 7, 7, 7, 7, 9, 1, 1, 1, 1, 1, 1, 1]), vrow 1001 (smp [3, 1, 1, 1, 1, 1, 1, 1, 9, 1, 1, 1, 1, 1, 1, 1])]) rfl (cD (decide (getI a w i > getI b w i)) (true) false true w i) c5lTs (cD_ok h2 rfl hw h3 h4) (fun g β => by kernel_rfl) (w_holes o _)
--EVTS c5mTs | fun (w : Int) (r6 : Rw) (ba bb bo : Nat) (a b o : Nat → Int) (i : Int) (g : Nat → Value) (β : Nat → Fr) => (cPath w 5 r6 ba bb bo a b o (smp [7, 7, 7, 7, 7, 7, 7, 7, 9, 1, 1, 1, 1, 1, 1, 1]) (smp [3, 1, 1, 1, 1, 1, 1, 1, 9, 1, 1, 1, 1, 1, 1, 1]) i true g β, cD (decide (getI a w i > getI b w i)) (true) true true w i)
def c5mTs : List Nat := [0, 5, 4, 3, 0, 0, 0, 0, 0, 0, 1, 1, 1, 1, 1, 1, 0, 0, 0, 0, 0, 0, 0, 0, 0, 0, 0, 0, 0, 0, 0, 0, 0, 0, 0, 0, 0, 0, 0, 0, 0, 0, 0, 0, 0, 0, 0, 0, 0, 0, 0, 0]
theorem c5m (w i : Int) (hw : w = 8 ∨ w = 16 ∨ w = 32 ∨ w = 64) (h3 : 0 ≤ i) (h4 : i < lanesI w) (a b o : Nat → Int) (ha : Byt a) (hb : Byt b) (h1 : decide (getI a w i < getI b w i) = false) (h2 : decide (getI a w i > getI b w i) = true) : CRun w 5 a b o i true :=
  fun r6 ba bb bo => runs_code (E := envW o [a, b]) (E' := envW zV [smp [7, 7, 7, 7, 7, 7, 7, 7, 9, 1, 1, 1, 1, 1, 1, 1], smp [3, 1, 1, 1, 1, 1, 1, 1, 9, 1, 1, 1, 1, 1, 1, 1]]) rfl (sumG_ok' (envW o _) rfl (byt_two ha hb)) (fuel := 60) (need' := cNeed 8 5 1001 1004 1002 0) (M' := [vrow 1002 zV, vrow 1003 zV, vrow 1004 (smp [3, 1, 1, 1, 1, 1, 1, 1, 9, 1, 1, 1, 1, 1, 1, 1]), vrow 1001 (smp [7, 7, 7, 7, 7, 7, 7, 7, 9, 1, 1, 1, 1, 1, 1, 1])]) rfl (cD (decide (getI a w i > getI b w i)) (true) true true w i) c5mTs (cD_ok h2 rfl hw h3 h4) (fun g β => by kernel_rfl) (w_holes o _)
--EVTS c5eTs | fun (w : Int) (r6 : Rw) (ba bb bo : Nat) (a b o : Nat → Int) (i : Int) (g : Nat → Value) (β : Nat → Fr) => (cPath w 5 r6 ba bb bo a b o (smp [3, 1, 1, 1, 1, 1, 1, 1, 9, 1, 1, 1, 1, 1, 1, 1]) (smp [3, 1, 1, 1, 1, 1, 1, 1, 8, 1, 1, 1, 1, 1, 1, 1]) i false g β, cD (decide (getI a w i > getI b w i)) (true) false true w i)
def c5eTs : List Nat := [0, 5, 4, 3, 0, 0, 0, 0, 0, 0, 0, 0, 0, 1, 0, 1, 0, 0, 1, 1, 1, 1, 0, 0, 0, 0, 0, 0, 0, 0, 0, 0, 0, 0, 0, 0, 0, 0, 0, 0, 0, 0, 0, 0, 0, 0, 0, 0, 0, 0, 0, 0, 0, 0, 0, 0, 0, 0]
theorem c5e (w i : Int) (hw : w = 8 ∨ w = 16 ∨ w = 32 ∨ w = 64) (h3 : 0 ≤ i) (h4 : i < lanesI w) (a b o : Nat → Int) (ha : Byt a) (hb : Byt b) (h1 : decide (getI a w i < getI b w i) = false) (h2 : decide (getI a w i > getI b w i) = false) : CRun w 5 a b o i false :=
  fun r6 ba bb bo => runs_code (E := envW o [a, b]) (E' := envW zV [smp [3, 1, 1, 1, 1, 1, 1, 1, 9, 1, 1, 1, 1, 1, 1, 1], smp [3, 1, 1, 1, 1, 1, 1, 1, 8, 1, 1, 1, 1, 1, 1, 1]]) rfl (sumG_ok' (envW o _) rfl (byt_two ha hb)) (fuel := 60) (need' := cNeed 8 5 1001 1004 1002 0) (M' := [vrow 1002 zV, vrow 1003 zV, vrow 1004 (smp [3, 1, 1, 1, 1, 1, 1, 1, 8, 1, 1, 1, 1, 1, 1, 1]), vrow 1001 (smp [3, 1, 1, 1, 1, 1, 1, 1, 9, 1, 1, 1, 1, 1, 1, 1])]) rfl (cD (decide (getI a w i > getI b w i)) (true) false true w i) c5eTs (cD_ok h2 rfl hw h3 h4) (fun g β => by kernel_rfl) (w_holes o _)
--EVTS c6lTs | fun (w : Int) (r6 : Rw) (ba bb bo : Nat) (a b o : Nat → Int) (i : Int) (g : Nat → Value) (β : Nat → Fr) => (cPath w 6 r6 ba bb bo a b o (smp [3, 1, 1, 1, 1, 1, 1, 1, 9, 1, 1, 1, 1, 1, 1, 1]) (smp [7, 7, 7, 7, 7, 7, 7, 7, 9, 1, 1, 1, 1, 1, 1, 1]) i true g β, cD (!decide (sgnI a w i > sgnI b w i)) (true) true true w i)
def c6lTs : List Nat := [0, 5, 4, 3, 1, 1, 1, 1, 1, 1, 0, 0, 0, 0, 0, 0, 0, 0, 0, 0, 0, 0, 0, 0, 0, 0, 0, 0, 0, 0, 0, 0, 0, 0, 0, 0, 0, 0, 0, 0, 0, 0, 0, 0, 0, 0, 0, 0, 0, 0, 0, 0, 0, 0, 0]
theorem c6l (w i : Int) (hw : w = 8 ∨ w = 16 ∨ w = 32 ∨ w = 64) (h3 : 0 ≤ i) (h4 : i < lanesI w) (a b o : Nat → Int) (ha : Byt a) (hb : Byt b) (h1 : decide (sgnI a w i < sgnI b w i) = true) (h2 : decide (sgnI a w i > sgnI b w i) = false) : CRun w 6 a b o i true :=
  fun r6 ba bb bo => runs_code (E := envW o [a, b]) (E' := envW zV [smp [3, 1, 1, 1, 1, 1, 1, 1, 9, 1, 1, 1, 1, 1, 1, 1], smp [7, 7, 7, 7, 7, 7, 7, 7, 9, 1, 1, 1, 1, 1, 1, 1]]) rfl (sumG_ok' (envW o _) rfl (byt_two ha hb)) (fuel := 60) (need' := cNeed 8 6 1001 1004 1002 0) (M' := [vrow 1002 zV, vrow 1003 zV, vrow 1004 (smp [7, 7, 7, 7, 7, 7, 7, 7, 9, 1, 1, 1, 1, 1, 1, 1]), vrow 1001 (smp [3, 1, 1, 1, 1, 1, 1, 1, 9, 1, 1, 1, 1, 1, 1, 1])]) rfl (cD (!decide (sgnI a w i > sgnI b w i)) (true) true true w i) c6lTs (cD_ok (by rw [h2]; rfl) rfl hw h3 h4) (fun g β => by kernel_rfl) (w_holes o _)
--EVTS c6mTs | fun (w : Int) (r6 : Rw) (ba bb bo : Nat) (a b o : Nat → Int) (i : Int) (g : Nat → Value) (β : Nat → Fr) => (cPath w 6 r6 ba bb bo a b o (smp [7, 7, 7, 7, 7, 7, 7, 7, 9, 1, 1, 1, 1, 1, 1, 1]) (smp [3, 1, 1, 1, 1, 1, 1, 1, 9, 1, 1, 1, 1, 1, 1, 1]) i false g β, cD (!decide (sgnI a w i > sgnI b w i)) (true) false true w i)
def c6mTs : List Nat := [0, 5, 4, 3, 1, 0, 1, 0, 0, 1, 1, 1, 1, 0, 0, 0, 0, 0, 0, 0, 0, 0, 0, 0, 0, 0, 0, 0, 0, 0, 0, 0, 0, 0, 0, 0, 0, 0, 0, 0, 0, 0, 0, 0, 0, 0, 0, 0, 0, 0, 0, 0, 0, 0, 0, 0, 0, 0]
theorem c6m (w i : Int) (hw : w = 8 ∨ w = 16 ∨ w = 32 ∨ w = 64) (h3 : 0 ≤ i) (h4 : i < lanesI w) (a b o : Nat → Int) (ha : Byt a) (hb : Byt b) (h1 : decide (sgnI a w i < sgnI b w i) = false) (h2 : decide (sgnI a w i > sgnI b w i) = true) : CRun w 6 a b o i false :=
  fun r6 ba bb bo => runs_code (E := envW o [a, b]) (E' := envW zV [smp [7, 7, 7, 7, 7, 7, 7, 7, 9, 1, 1, 1, 1, 1, 1, 1], smp [3, 1, 1, 1, 1, 1, 1, 1, 9, 1, 1, 1, 1, 1, 1, 1]]) rfl (sumG_ok' (envW o _) rfl (byt_two ha hb)) (fuel := 60) (need' := cNeed 8 6 1001 1004 1002 0) (M' := [vrow 1002 zV, vrow 1003 zV, vrow 1004 (smp [3, 1, 1, 1, 1, 1, 1, 1, 9, 1, 1, 1, 1, 1, 1, 1]), vrow 1001 (smp [7, 7, 7, 7, 7, 7, 7, 7, 9, 1, 1, 1, 1, 1, 1, 1])]) rfl (cD (!decide (sgnI a w i > sgnI b w i)) (true) false true w i) c6mTs (cD_ok (by rw [h2]; rfl) rfl hw h3 h4) (fun g β => by kernel_rfl) (w_holes o _)
--EVTS c6eTs | fun (w : Int) (r6 : Rw) (ba bb bo : Nat) (a b o : Nat → Int) (i : Int) (g : Nat → Value) (β : Nat → Fr) => (cPath w 6 r6 ba bb bo a b o (smp [3, 1, 1, 1, 1, 1, 1, 1, 9, 1, 1, 1, 1, 1, 1, 1]) (smp [3, 1, 1, 1, 1, 1, 1, 1, 8, 1, 1, 1, 1, 1, 1, 1]) i true g β, cD (!decide (sgnI a w i > sgnI b w i)) (true) true true w i)
def c6eTs : List Nat := [0, 5, 4, 3, 1, 1, 1, 1, 1, 1, 0, 0, 0, 0, 0, 0, 0, 0, 0, 0, 0, 0, 0, 0, 0, 0, 0, 0, 0, 0, 0, 0, 0, 0, 0, 0, 0, 0, 0, 0, 0, 0, 0, 0, 0, 0, 0, 0, 0, 0, 0, 0, 0, 0, 0]
theorem c6e (w i : Int) (hw : w = 8 ∨ w = 16 ∨ w = 32 ∨ w = 64) (h3 : 0 ≤ i) (h4 : i < lanesI w) (a b o : Nat → Int) (ha : Byt a) (hb : Byt b) (h1 : decide (sgnI a w i < sgnI b w i) = false) (h2 : decide (sgnI a w i > sgnI b w i) = false) : CRun w 6 a b o i true :=
  fun r6 ba bb bo => runs_code (E := envW o [a, b]) (E' := envW zV [smp [3, 1, 1, 1, 1, 1, 1, 1, 9, 1, 1, 1, 1, 1, 1, 1], smp [3, 1, 1, 1, 1, 1, 1, 1, 8, 1, 1, 1, 1, 1, 1, 1]]) rfl (sumG_ok' (envW o _) rfl (byt_two ha hb)) (fuel := 60) (need' := cNeed 8 6 1001 1004 1002 0) (M' := [vrow 1002 zV, vrow 1003 zV, vrow 1004 (smp [3, 1, 1, 1, 1, 1, 1, 1, 8, 1, 1, 1, 1, 1, 1, 1]), vrow 1001 (smp [3, 1, 1, 1, 1, 1, 1, 1, 9, 1, 1, 1, 1, 1, 1, 1])]) rfl (cD (!decide (sgnI a w i > sgnI b w i)) (true) true true w i) c6eTs (cD_ok (by rw [h2]; rfl) rfl hw h3 h4) (fun g β => by kernel_rfl) (w_holes o _)
--EVTS c7lTs | fun (w : Int) (r6 : Rw) (ba bb bo : Nat) (a b o : Nat → Int) (i : Int) (g : Nat → Value) (β : Nat → Fr) => (cPath w 7 r6 ba bb bo a b o (smp [3, 1, 1, 1, 1, 1, 1, 1, 9, 1, 1, 1, 1, 1, 1, 1]) (smp [7, 7, 7, 7, 7, 7, 7, 7, 9, 1, 1, 1, 1, 1, 1, 1]) i true g β, cD (!decide (getI a w i > getI b w i)) (true) true true w i)
def c7lTs : List Nat := [0, 5, 4, 3, 1, 1, 1, 1, 1, 1, 0, 0, 0, 0, 0, 0, 0, 0, 0, 0, 0, 0, 0, 0, 0, 0, 0, 0, 0, 0, 0, 0, 0, 0, 0, 0, 0, 0, 0, 0, 0, 0, 0, 0, 0, 0, 0, 0, 0, 0, 0, 0, 0, 0, 0]
theorem c7l (w i : Int) (hw : w = 8 ∨ w = 16 ∨ w = 32 ∨ w = 64) (h3 : 0 ≤ i) (h4 : i < lanesI w) (a b o : Nat → Int) (ha : Byt a) (hb : Byt b) (h1 : decide (getI a w i < getI b w i) = true) (h2 : decide (getI a w i > getI b w i) = false) : CRun w 7 a b o i true :=
  fun r6 ba bb bo => runs_code (E := envW o [a, b]) (E' := envW zV [smp [3, 1, 1, 1, 1, 1, 1, 1, 9, 1, 1, 1, 1, 1, 1, 1], smp [7, 7, 7, 7, 7, 7, 7, 7, 9, 1, 1, 1, 1, 1, 1, 1]]) rfl (sumG_ok' (envW o _) rfl (byt_two ha hb)) (fuel := 60) (need' := cNeed 8 7 1001 1004 1002 0) (M' := [vrow 1002 zV, vrow 1003 zV, vrow 1004 (smp [7, 7, 7, 7, 7, 7, 7, 7, 9, 1, 1, 1, 1, 1, 1, 1]), vrow 1001 (smp [3, 1, 1, 1, 1, 1, 1, 1, 9, 1, 1, 1, 1, 1, 1, 1])]) rfl (cD (!decide (getI a w i > getI b w i)) (true) true true w i) c7lTs (cD_ok (by rw [h2]; rfl) rfl hw h3 h4) (fun g β => by kernel_rfl) (w_holes o _)
--EVTS c7mTs | fun (w : Int) (r6 : Rw) (ba bb bo : Nat) (a b o : Nat → Int) (i : Int) (g : Nat → Value) (β : Nat → Fr) => (cPath w 7 r6 ba bb bo a b o (smp [7, 7, 7, 7, 7, 7, 7, 7, 9, 1, 1, 1, 1, 1, 1, 1]) (smp [3, 1, 1, 1, 1, 1, 1, 1, 9, 1, 1, 1, 1, 1, 1, 1]) i false g β, cD (!decide (getI a w i > getI b w i)) (true) false true w i)
def c7mTs : List Nat := [0, 5, 4, 3, 1, 0, 1, 0, 0, 1, 1, 1, 1, 0, 0, 0, 0, 0, 0, 0, 0, 0, 0, 0, 0, 0, 0, 0, 0, 0, 0, 0, 0, 0, 0, 0, 0, 0, 0, 0, 0, 0, 0, 0, 0, 0, 0, 0, 0, 0, 0, 0, 0, 0, 0, 0, 0, 0]
theorem c7m (w i : Int) (hw : w = 8 ∨ w = 16 ∨ w = 32 ∨ w = 64) (h3 : 0 ≤ i) (h4 : i < lanesI w) (a b o : Nat → Int) (ha : Byt a) (hb : Byt b) (h1 : decide (getI a w i < getI b w i) = false) (h2 : decide (getI a w i > getI b w i) = true) : CRun w 7 a b o i false :=
  fun r6 ba bb bo => runs_code (E := envW o [a, b]) (E' := envW zV [smp [7, 7, 7, 7, 7, 7, 7, 7, 9, 1, 1, 1, 1, 1, 1, 1], smp [3, 1, 1, 1, 1, 1, 1, 1, 9, 1, 1, 1, 1, 1, 1, 1]]) rfl (sumG_ok' (envW o _) rfl (byt_two ha hb)) (fuel := 60) (need' := cNeed 8 7 1001 1004 1002 0) (M' := [vrow 1002 zV, vrow 1003 zV, vrow 1004 (smp [3, 1, 1, 1, 1, 1, 1, 1, 9, 1, 1, 1, 1, 1, 1, 1]), vrow 1001 (smp [7, 7, 7, 7, 7, 7, 7, 7, 9, 1, 1, 1, 1, 1, 1, 1])]) rfl (cD (!decide (getI a w i > getI b w i)) (true) false true w i) c7mTs (cD_ok (by rw [h2]; rfl) rfl hw h3 h4) (fun g β => by kernel_rfl) (w_holes o _)
--EVTS c7eTs | fun (w : Int) (r6 : Rw) (ba bb bo : Nat) (a b o : Nat → Int) (i : Int) (g : Nat → Value) (β : Nat → Fr) => (cPath w 7 r6 ba bb bo a b o (smp [3, 1, 1, 1, 1, 1, 1, 1, 9, 1, 1, 1, 1, 1, 1, 1]) (smp [3, 1, 1, 1, 1, 1, 1, 1, 8, 1, 1, 1, 1, 1, 1, 1]) i true g β, cD (!decide (getI a w i > getI b w i)) (true) true true w i)
def c7eTs : List Nat := [0, 5, 4, 3, 1, 1, 1, 1, 1, 1, 0, 0, 0, 0, 0, 0, 0, 0, 0, 0, 0, 0, 0, 0, 0, 0, 0, 0, 0, 0, 0, 0, 0, 0, 0, 0, 0, 0, 0, 0, 0, 0, 0, 0, 0, 0, 0, 0, 0, 0, 0, 0, 0, 0, 0]
theorem c7e (w i : Int) (hw : w = 8 ∨ w = 16 ∨ w = 32 ∨ w = 64) (h3 : 0 ≤ i) (h4 : i < lanesI w) (a b o : Nat → Int) (ha : Byt a) (hb : Byt b) (h1 : decide (getI a w i < getI b w i) = false) (h2 : decide (getI a w i > getI b w i) = false) : CRun w 7 a b o i true :=
  fun r6 ba bb bo => runs_code (E := envW o [a, b]) (E' := envW zV [smp [3, 1, 1, 1, 1, 1, 1, 1, 9, 1, 1, 1, 1, 1, 1, 1], smp [3, 1, 1, 1, 1, 1, 1, 1, 8, 1, 1, 1, 1, 1, 1, 1]]) rfl (sumG_ok' (envW o _) rfl (byt_two ha hb)) (fuel := 60) (need' := cNeed 8 7 1001 1004 1002 0) (M' := [vrow 1002 zV, vrow 1003 zV, vrow 1004 (smp [3, 1, 1, 1, 1, 1, 1, 1, 8, 1, 1, 1, 1, 1, 1, 1]), vrow 1001 (smp [3, 1, 1, 1, 1, 1, 1, 1, 9, 1, 1, 1, 1, 1, 1, 1])]) rfl (cD (!decide (getI a w i > getI b w i)) (true) true true w i) c7eTs (cD_ok (by rw [h2]; rfl) rfl hw h3 h4) (fun g β => by kernel_rfl) (w_holes o _)
--EVTS c8Ts | fun (w : Int) (r6 : Rw) (ba bb bo : Nat) (a b o : Nat → Int) (i : Int) (g : Nat → Value) (β : Nat → Fr) => (cPath w 8 r6 ba bb bo a b o (smp [3, 1, 1, 1, 1, 1, 1, 1, 9, 1, 1, 1, 1, 1, 1, 1]) (smp [7, 7, 7, 7, 7, 7, 7, 7, 9, 1, 1, 1, 1, 1, 1, 1]) i (!decide (sgnI a w i < sgnI b w i)) g β, cD true true true true w i)
def c8Ts : List Nat := [0, 5, 4, 3, 0, 0, 0, 0, 0, 0, 0, 0, 0, 0, 0, 0, 0, 0, 0, 0, 0, 0, 0, 0, 0, 0, 0, 0, 0, 0, 0, 0, 0, 0, 0, 0, 0, 0, 0, 0, 0, 0, 0, 0, 0, 0, 0, 0, 0, 0, 0, 0, 0, 0, 0, 0, 0, 0]
theorem c8 (w i : Int) (hw : w = 8 ∨ w = 16 ∨ w = 32 ∨ w = 64) (h3 : 0 ≤ i) (h4 : i < lanesI w) (a b o : Nat → Int) (ha : Byt a) (hb : Byt b) : CRun w 8 a b o i (!decide (sgnI a w i < sgnI b w i)) :=
  fun r6 ba bb bo => runs_code (E := envW o [a, b]) (E' := envW zV [smp [3, 1, 1, 1, 1, 1, 1, 1, 9, 1, 1, 1, 1, 1, 1, 1], smp [7, 7, 7, 7, 7, 7, 7, 7, 9, 1, 1, 1, 1, 1, 1, 1]]) rfl (sumG_ok' (envW o _) rfl (byt_two ha hb)) (fuel := 60) (need' := cNeed 8 8 1001 1004 1002 0) (M' := [vrow 1002 zV, vrow 1003 zV, vrow 1004 (smp [7, 7, 7, 7, 7, 7, 7, 7, 9, 1, 1, 1, 1, 1, 1, 1]), vrow 1001 (smp [3, 1, 1, 1, 1, 1, 1, 1, 9, 1, 1, 1, 1, 1, 1, 1])]) rfl (cD true true true true w i) c8Ts (cD_ok rfl rfl hw h3 h4) (fun g β => by kernel_rfl) (w_holes o _)
--EVTS c9Ts | fun (w : Int) (r6 : Rw) (ba bb bo : Nat) (a b o : Nat → Int) (i : Int) (g : Nat → Value) (β : Nat → Fr) => (cPath w 9 r6 ba bb bo a b o (smp [3, 1, 1, 1, 1, 1, 1, 1, 9, 1, 1, 1, 1, 1, 1, 1]) (smp [7, 7, 7, 7, 7, 7, 7, 7, 9, 1, 1, 1, 1, 1, 1, 1]) i (!decide (getI a w i < getI b w i)) g β, cD true true true true w i)
def c9Ts : List Nat := [0, 5, 4, 3, 0, 0, 0, 0, 0, 0, 0, 0, 0, 0, 0, 0, 0, 0, 0, 0, 0, 0, 0, 0, 0, 0, 0, 0, 0, 0, 0, 0, 0, 0, 0, 0, 0, 0, 0, 0, 0, 0, 0, 0, 0, 0, 0, 0, 0, 0, 0, 0, 0, 0, 0, 0, 0, 0]
theorem c9 (w i : Int) (hw : w = 8 ∨ w = 16 ∨ w = 32 ∨ w = 64) (h3 : 0 ≤ i) (h4 : i < lanesI w) (a b o : Nat → Int) (ha : Byt a) (hb : Byt b) : CRun w 9 a b o i (!decide (getI a w i < getI b w i)) :=
  fun r6 ba bb bo => runs_code (E := envW o [a, b]) (E' := envW zV [smp [3, 1, 1, 1, 1, 1, 1, 1, 9, 1, 1, 1, 1, 1, 1, 1], smp [7, 7, 7, 7, 7, 7, 7, 7, 9, 1, 1, 1, 1, 1, 1, 1]]) rfl (sumG_ok' (envW o _) rfl (byt_two ha hb)) (fuel := 60) (need' := cNeed 8 9 1001 1004 1002 0) (M' := [vrow 1002 zV, vrow 1003 zV, vrow 1004 (smp [7, 7, 7, 7, 7, 7, 7, 7, 9, 1, 1, 1, 1, 1, 1, 1]), vrow 1001 (smp [3, 1, 1, 1, 1, 1, 1, 1, 9, 1, 1, 1, 1, 1, 1, 1])]) rfl (cD true true true true w i) c9Ts (cD_ok rfl rfl hw h3 h4) (fun g β => by kernel_rfl) (w_holes o _)
end Cp
end Go.Proofs.Ytdclbagfnabmkaa
