/-
  WidenNarrows: a lane's round. Conditions: bytes.
-/
import Derived.Test.YtkccaaieadgdbaaWdExt
namespace Go.Proofs.Ytkccaaieadgdbaa
open Go.RowKit VecM Ev
namespace Wd
/-- the block of that number in a function's code -/
def blkAt (id : Nat) : Code → Option Code
  | .block j c => match Nat.beq j id with
    | true => some (.block j c)
    | false => blkAt id c
  | .seq a b => match blkAt id a with
    | some c => some c
    | none => blkAt id b
  | .cond _ a b => match blkAt id a with
    | some c => some c
    | none => blkAt id b
  | .loop c => blkAt id c
  | _ => none
noncomputable def nwBlk : Code := ((Try.prog.funcs[6]?.bind (·.body)).bind (blkAt 3)).getD .skip
def nwHav : List Nat := [12, 13, 14] ++ (List.range 102).map (· + 45)
def pt (b : Nat) : Value := .pointer (some ⟨b, 0, none⟩)
def nwNeed (i w n mo : Int) (ba bb bs' bu : Nat) : List (Nat × Value) := [(2, pt ba), (3, pt bb), (6, .int .i64 w), (7, .int .i64 n), (8, pt bs'), (9, pt bu), (10, .int .i64 mo), (11, .int .i64 i)]
def vrow (b : Nat) (f : Nat → Int) : Rw := ⟨b, (bs f).toList, 23, true⟩
noncomputable def nwPath (b1 b2 b3 b4 : Nat) (a b s u a' b' s' u' : Nat → Int) (g : Nat → Value) (i w n mo : Int) (i' : Int) (R R' : List Rw) (β : Nat → Fr) : Out :=
  evCode (envW [a, b, s, u]) (envW [a', b', s', u']) 40 nwBlk (valsOf (nwNeed i w n mo b1 b2 b3 b4) g 181) (valsOf (nwNeed i' w n mo 1001 1002 1003 1004) (fun _ => undef) 181)
    (vrow b4 u :: vrow b3 s :: (R ++ [vrow b2 b, vrow b1 a])) (vrow 1004 u' :: vrow 1003 s' :: (R' ++ [vrow 1002 b', vrow 1001 a'])) .normal (keepOf (nwNeed i w n mo b1 b2 b3 b4) g 181 nwHav) (vrow b4 u :: vrow b3 s :: (R ++ [vrow b2 b, vrow b1 a])) β
def lo (mo : Int) : Int := IntKind.i64.wrap (Int.tdiv (IntKind.i64.wrap (-mo)) 2)
def hi (mo : Int) : Int := IntKind.i64.wrap (Int.tdiv mo 2)
def nw00c0D (a b s u : Nat → Int) (i : Int) : List (Bool × Bool) := (decide (i ≥ 8), false) :: [(decide (sgnI a 16 (Int.tmod i 8) ≥ lo 256), false), (decide (sgnI a 16 (Int.tmod i 8) < lo 256), true), (sgnI s 8 i != lo 256, false), (decide (sgnI a 16 (Int.tmod i 8) ≥ hi 256), false), (decide (sgnI a 16 (Int.tmod i 8) ≥ 0), false), (decide (sgnI a 16 (Int.tmod i 8) < 0), true), (IntKind.i64.wrap (getI u 8 i) != 0, false), (decide (sgnI a 16 (Int.tmod i 8) ≥ 256), false)]
def nw00c0X : Nat → Int := setI (setI (fun _ => 0) 8 15 1) 16 0 (65336)
def nw00c0Y : Nat → Int := setI (setI (fun _ => 0) 8 15 2) 16 0 (65336)
def nw00c0S : Nat → Int := setI (setI (fun _ => 0) 8 15 3) 8 0 (128)
def nw00c0U : Nat → Int := setI (setI (fun _ => 0) 8 15 4) 8 0 (0)
--EVTS nw00c0Ts | fun (r1 r2 : Rw) (b1 b2 b3 b4 : Nat) (a b s u : Nat → Int) (g : Nat → Value) (i : Int) (β : Nat → Fr) => (nwPath b1 b2 b3 b4 a b s u nw00c0X nw00c0Y nw00c0S nw00c0U g i 8 8 256 0 [] [] β, nw00c0D a b s u i)
def nw00c0Ts : List Nat := [0, 8, 9, 8, 9, 9, 9, 9, 8, 8, 8, 8, 0, 7, 0, 7, 7, 0, 0, 0, 0, 0, 0, 0, 6, 6, 6, 6, 0, 4, 5, 4, 5, 5, 5, 5, 5, 4, 4, 4, 4, 4, 0, 3, 0, 3, 3, 3, 3, 3, 0, 0, 0, 0, 0, 0, 0, 0, 0, 0, 2, 2, 2, 2, 2, 1]
theorem nw00c0D_ok (a b s u : Nat → Int) (i xx : Int) (hi' : i < 8) (hX : sgnI a 16 (Int.tmod i 8) = xx) (hc : xx < -128) (hP : sgnI s 8 i = -128) (hQ : IntKind.i64.wrap (getI u 8 i) = 0) : ∀ p ∈ nw00c0D a b s u i, p.1 = p.2 := by
  have e1 : lo 256 = -128 := by decide
  have e2 : hi 256 = 128 := by decide
  have e3 : IntKind.i64.wrap (128 - 1) = 127 := by decide
  have e4 : IntKind.i64.wrap (256 - 1) = 255 := by decide
  intro p hp
  unfold nw00c0D at hp
  simp only [List.mem_cons, List.not_mem_nil, or_false, e1, e2, e3, e4, hX, hP, hQ] at hp
  rcases hp with rfl | rfl | rfl | rfl | rfl | rfl | rfl | rfl | rfl <;> (first | rfl | (simp; done) | (simp; omega))
def nw00c1D (a b s u : Nat → Int) (i : Int) : List (Bool × Bool) := (decide (i ≥ 8), false) :: [(decide (sgnI a 16 (Int.tmod i 8) ≥ lo 256), true), (decide (sgnI a 16 (Int.tmod i 8) < hi 256), true), (sgnI s 8 i != sgnI a 16 (Int.tmod i 8), false), (decide (sgnI a 16 (Int.tmod i 8) < lo 256), false), (decide (sgnI a 16 (Int.tmod i 8) ≥ hi 256), false), (decide (sgnI a 16 (Int.tmod i 8) ≥ 0), false), (decide (sgnI a 16 (Int.tmod i 8) < 0), true), (IntKind.i64.wrap (getI u 8 i) != 0, false), (decide (sgnI a 16 (Int.tmod i 8) ≥ 256), false)]
def nw00c1X : Nat → Int := setI (setI (fun _ => 0) 8 15 1) 16 0 (65531)
def nw00c1Y : Nat → Int := setI (setI (fun _ => 0) 8 15 2) 16 0 (65531)
def nw00c1S : Nat → Int := setI (setI (fun _ => 0) 8 15 3) 8 0 (251)
def nw00c1U : Nat → Int := setI (setI (fun _ => 0) 8 15 4) 8 0 (0)
--EVTS nw00c1Ts | fun (r1 r2 : Rw) (b1 b2 b3 b4 : Nat) (a b s u : Nat → Int) (g : Nat → Value) (i : Int) (β : Nat → Fr) => (nwPath b1 b2 b3 b4 a b s u nw00c1X nw00c1Y nw00c1S nw00c1U g i 8 8 256 0 [] [] β, nw00c1D a b s u i)
def nw00c1Ts : List Nat := [0, 9, 10, 9, 10, 10, 10, 10, 9, 9, 9, 9, 0, 8, 0, 8, 8, 0, 0, 0, 0, 0, 0, 0, 7, 7, 7, 7, 0, 0, 6, 0, 6, 6, 6, 6, 6, 0, 0, 0, 0, 0, 4, 5, 4, 5, 5, 5, 5, 5, 4, 4, 4, 4, 4, 4, 3, 3, 3, 3, 2, 2, 2, 2, 2, 1]
theorem nw00c1D_ok (a b s u : Nat → Int) (i xx : Int) (hi' : i < 8) (hX : sgnI a 16 (Int.tmod i 8) = xx) (hc : -128 ≤ xx ∧ xx < 0) (hP : sgnI s 8 i = xx) (hQ : IntKind.i64.wrap (getI u 8 i) = 0) : ∀ p ∈ nw00c1D a b s u i, p.1 = p.2 := by
  have e1 : lo 256 = -128 := by decide
  have e2 : hi 256 = 128 := by decide
  have e3 : IntKind.i64.wrap (128 - 1) = 127 := by decide
  have e4 : IntKind.i64.wrap (256 - 1) = 255 := by decide
  intro p hp
  unfold nw00c1D at hp
  simp only [List.mem_cons, List.not_mem_nil, or_false, e1, e2, e3, e4, hX, hP, hQ] at hp
  rcases hp with rfl | rfl | rfl | rfl | rfl | rfl | rfl | rfl | rfl | rfl <;> (first | rfl | (simp; done) | (simp; omega))
def nw00c2D (a b s u : Nat → Int) (i : Int) : List (Bool × Bool) := (decide (i ≥ 8), false) :: [(decide (sgnI a 16 (Int.tmod i 8) ≥ lo 256), true), (decide (sgnI a 16 (Int.tmod i 8) < hi 256), true), (sgnI s 8 i != sgnI a 16 (Int.tmod i 8), false), (decide (sgnI a 16 (Int.tmod i 8) < lo 256), false), (decide (sgnI a 16 (Int.tmod i 8) ≥ hi 256), false), (decide (sgnI a 16 (Int.tmod i 8) ≥ 0), true), (decide (sgnI a 16 (Int.tmod i 8) < 256), true), (IntKind.i64.wrap (getI u 8 i) != sgnI a 16 (Int.tmod i 8), false), (decide (sgnI a 16 (Int.tmod i 8) < 0), false), (decide (sgnI a 16 (Int.tmod i 8) ≥ 256), false)]
def nw00c2X : Nat → Int := setI (setI (fun _ => 0) 8 15 1) 16 0 (5)
def nw00c2Y : Nat → Int := setI (setI (fun _ => 0) 8 15 2) 16 0 (5)
def nw00c2S : Nat → Int := setI (setI (fun _ => 0) 8 15 3) 8 0 (5)
def nw00c2U : Nat → Int := setI (setI (fun _ => 0) 8 15 4) 8 0 (5)
--EVTS nw00c2Ts | fun (r1 r2 : Rw) (b1 b2 b3 b4 : Nat) (a b s u : Nat → Int) (g : Nat → Value) (i : Int) (β : Nat → Fr) => (nwPath b1 b2 b3 b4 a b s u nw00c2X nw00c2Y nw00c2S nw00c2U g i 8 8 256 0 [] [] β, nw00c2D a b s u i)
def nw00c2Ts : List Nat := [0, 0, 11, 0, 11, 11, 11, 11, 0, 0, 0, 0, 9, 10, 9, 10, 10, 9, 9, 9, 8, 8, 8, 8, 7, 7, 7, 7, 0, 0, 6, 0, 6, 6, 6, 6, 6, 0, 0, 0, 0, 0, 4, 5, 4, 5, 5, 5, 5, 5, 4, 4, 4, 4, 4, 4, 3, 3, 3, 3, 2, 2, 2, 2, 2, 1]
theorem nw00c2D_ok (a b s u : Nat → Int) (i xx : Int) (hi' : i < 8) (hX : sgnI a 16 (Int.tmod i 8) = xx) (hc : 0 ≤ xx ∧ xx < 128) (hP : sgnI s 8 i = xx) (hQ : IntKind.i64.wrap (getI u 8 i) = xx) : ∀ p ∈ nw00c2D a b s u i, p.1 = p.2 := by
  have e1 : lo 256 = -128 := by decide
  have e2 : hi 256 = 128 := by decide
  have e3 : IntKind.i64.wrap (128 - 1) = 127 := by decide
  have e4 : IntKind.i64.wrap (256 - 1) = 255 := by decide
  intro p hp
  unfold nw00c2D at hp
  simp only [List.mem_cons, List.not_mem_nil, or_false, e1, e2, e3, e4, hX, hP, hQ] at hp
  rcases hp with rfl | rfl | rfl | rfl | rfl | rfl | rfl | rfl | rfl | rfl | rfl <;> (first | rfl | (simp; done) | (simp; omega))
def nw00c3D (a b s u : Nat → Int) (i : Int) : List (Bool × Bool) := (decide (i ≥ 8), false) :: [(decide (sgnI a 16 (Int.tmod i 8) ≥ lo 256), true), (decide (sgnI a 16 (Int.tmod i 8) < hi 256), false), (decide (sgnI a 16 (Int.tmod i 8) < lo 256), false), (decide (sgnI a 16 (Int.tmod i 8) ≥ hi 256), true), (sgnI s 8 i != IntKind.i64.wrap (hi 256 - 1), false), (decide (sgnI a 16 (Int.tmod i 8) ≥ 0), true), (decide (sgnI a 16 (Int.tmod i 8) < 256), true), (IntKind.i64.wrap (getI u 8 i) != sgnI a 16 (Int.tmod i 8), false), (decide (sgnI a 16 (Int.tmod i 8) < 0), false), (decide (sgnI a 16 (Int.tmod i 8) ≥ 256), false)]
def nw00c3X : Nat → Int := setI (setI (fun _ => 0) 8 15 1) 16 0 (200)
def nw00c3Y : Nat → Int := setI (setI (fun _ => 0) 8 15 2) 16 0 (200)
def nw00c3S : Nat → Int := setI (setI (fun _ => 0) 8 15 3) 8 0 (127)
def nw00c3U : Nat → Int := setI (setI (fun _ => 0) 8 15 4) 8 0 (200)
--EVTS nw00c3Ts | fun (r1 r2 : Rw) (b1 b2 b3 b4 : Nat) (a b s u : Nat → Int) (g : Nat → Value) (i : Int) (β : Nat → Fr) => (nwPath b1 b2 b3 b4 a b s u nw00c3X nw00c3Y nw00c3S nw00c3U g i 8 8 256 0 [] [] β, nw00c3D a b s u i)
def nw00c3Ts : List Nat := [0, 0, 11, 0, 11, 11, 11, 11, 0, 0, 0, 0, 9, 10, 9, 10, 10, 9, 9, 9, 8, 8, 8, 8, 7, 7, 7, 7, 6, 0, 5, 0, 5, 5, 5, 5, 5, 0, 0, 0, 0, 0, 0, 4, 0, 4, 4, 4, 4, 4, 0, 0, 0, 0, 0, 0, 3, 3, 3, 3, 2, 2, 2, 2, 2, 1]
theorem nw00c3D_ok (a b s u : Nat → Int) (i xx : Int) (hi' : i < 8) (hX : sgnI a 16 (Int.tmod i 8) = xx) (hc : 128 ≤ xx ∧ xx < 256) (hP : sgnI s 8 i = 127) (hQ : IntKind.i64.wrap (getI u 8 i) = xx) : ∀ p ∈ nw00c3D a b s u i, p.1 = p.2 := by
  have e1 : lo 256 = -128 := by decide
  have e2 : hi 256 = 128 := by decide
  have e3 : IntKind.i64.wrap (128 - 1) = 127 := by decide
  have e4 : IntKind.i64.wrap (256 - 1) = 255 := by decide
  intro p hp
  unfold nw00c3D at hp
  simp only [List.mem_cons, List.not_mem_nil, or_false, e1, e2, e3, e4, hX, hP, hQ] at hp
  rcases hp with rfl | rfl | rfl | rfl | rfl | rfl | rfl | rfl | rfl | rfl | rfl <;> (first | rfl | (simp; done) | (simp; omega))
def nw00c4D (a b s u : Nat → Int) (i : Int) : List (Bool × Bool) := (decide (i ≥ 8), false) :: [(decide (sgnI a 16 (Int.tmod i 8) ≥ lo 256), true), (decide (sgnI a 16 (Int.tmod i 8) < hi 256), false), (decide (sgnI a 16 (Int.tmod i 8) < lo 256), false), (decide (sgnI a 16 (Int.tmod i 8) ≥ hi 256), true), (sgnI s 8 i != IntKind.i64.wrap (hi 256 - 1), false), (decide (sgnI a 16 (Int.tmod i 8) ≥ 0), true), (decide (sgnI a 16 (Int.tmod i 8) < 256), false), (decide (sgnI a 16 (Int.tmod i 8) < 0), false), (decide (sgnI a 16 (Int.tmod i 8) ≥ 256), true), (IntKind.i64.wrap (getI u 8 i) != IntKind.i64.wrap (256 - 1), false)]
def nw00c4X : Nat → Int := setI (setI (fun _ => 0) 8 15 1) 16 0 (300)
def nw00c4Y : Nat → Int := setI (setI (fun _ => 0) 8 15 2) 16 0 (300)
def nw00c4S : Nat → Int := setI (setI (fun _ => 0) 8 15 3) 8 0 (127)
def nw00c4U : Nat → Int := setI (setI (fun _ => 0) 8 15 4) 8 0 (255)
--EVTS nw00c4Ts | fun (r1 r2 : Rw) (b1 b2 b3 b4 : Nat) (a b s u : Nat → Int) (g : Nat → Value) (i : Int) (β : Nat → Fr) => (nwPath b1 b2 b3 b4 a b s u nw00c4X nw00c4Y nw00c4S nw00c4U g i 8 8 256 0 [] [] β, nw00c4D a b s u i)
def nw00c4Ts : List Nat := [11, 0, 10, 0, 10, 10, 10, 10, 0, 0, 0, 0, 0, 9, 0, 9, 9, 0, 0, 0, 8, 8, 8, 8, 7, 7, 7, 7, 6, 0, 5, 0, 5, 5, 5, 5, 5, 0, 0, 0, 0, 0, 0, 4, 0, 4, 4, 4, 4, 4, 0, 0, 0, 0, 0, 0, 3, 3, 3, 3, 2, 2, 2, 2, 2, 1]
theorem nw00c4D_ok (a b s u : Nat → Int) (i xx : Int) (hi' : i < 8) (hX : sgnI a 16 (Int.tmod i 8) = xx) (hc : 256 ≤ xx) (hP : sgnI s 8 i = 127) (hQ : IntKind.i64.wrap (getI u 8 i) = 255) : ∀ p ∈ nw00c4D a b s u i, p.1 = p.2 := by
  have e1 : lo 256 = -128 := by decide
  have e2 : hi 256 = 128 := by decide
  have e3 : IntKind.i64.wrap (128 - 1) = 127 := by decide
  have e4 : IntKind.i64.wrap (256 - 1) = 255 := by decide
  intro p hp
  unfold nw00c4D at hp
  simp only [List.mem_cons, List.not_mem_nil, or_false, e1, e2, e3, e4, hX, hP, hQ] at hp
  rcases hp with rfl | rfl | rfl | rfl | rfl | rfl | rfl | rfl | rfl | rfl | rfl <;> (first | rfl | (simp; done) | (simp; omega))
def nw01c0D (a b s u : Nat → Int) (i : Int) : List (Bool × Bool) := (decide (i ≥ 8), true) :: [(decide (sgnI b 16 (IntKind.i64.wrap (i - 8)) ≥ lo 256), false), (decide (sgnI b 16 (IntKind.i64.wrap (i - 8)) < lo 256), true), (sgnI s 8 i != lo 256, false), (decide (sgnI b 16 (IntKind.i64.wrap (i - 8)) ≥ hi 256), false), (decide (sgnI b 16 (IntKind.i64.wrap (i - 8)) ≥ 0), false), (decide (sgnI b 16 (IntKind.i64.wrap (i - 8)) < 0), true), (IntKind.i64.wrap (getI u 8 i) != 0, false), (decide (sgnI b 16 (IntKind.i64.wrap (i - 8)) ≥ 256), false)]
def nw01c0X : Nat → Int := setI (setI (fun _ => 0) 8 15 1) 16 0 (65336)
def nw01c0Y : Nat → Int := setI (setI (fun _ => 0) 8 15 2) 16 0 (65336)
def nw01c0S : Nat → Int := setI (setI (fun _ => 0) 8 15 3) 8 8 (128)
def nw01c0U : Nat → Int := setI (setI (fun _ => 0) 8 15 4) 8 8 (0)
--EVTS nw01c0Ts | fun (r1 r2 : Rw) (b1 b2 b3 b4 : Nat) (a b s u : Nat → Int) (g : Nat → Value) (i : Int) (β : Nat → Fr) => (nwPath b1 b2 b3 b4 a b s u nw01c0X nw01c0Y nw01c0S nw01c0U g i 8 8 256 8 [] [] β, nw01c0D a b s u i)
def nw01c0Ts : List Nat := [0, 8, 9, 8, 9, 9, 9, 9, 8, 8, 8, 8, 0, 7, 0, 7, 7, 0, 0, 0, 0, 0, 0, 0, 6, 6, 6, 6, 0, 4, 5, 4, 5, 5, 5, 5, 5, 4, 4, 4, 4, 4, 0, 3, 0, 3, 3, 3, 3, 3, 0, 0, 0, 0, 0, 0, 0, 0, 0, 0, 2, 2, 2, 2, 2, 1]
theorem nw01c0D_ok (a b s u : Nat → Int) (i xx : Int) (hi' : 8 ≤ i) (hX : sgnI b 16 (IntKind.i64.wrap (i - 8)) = xx) (hc : xx < -128) (hP : sgnI s 8 i = -128) (hQ : IntKind.i64.wrap (getI u 8 i) = 0) : ∀ p ∈ nw01c0D a b s u i, p.1 = p.2 := by
  have e1 : lo 256 = -128 := by decide
  have e2 : hi 256 = 128 := by decide
  have e3 : IntKind.i64.wrap (128 - 1) = 127 := by decide
  have e4 : IntKind.i64.wrap (256 - 1) = 255 := by decide
  intro p hp
  unfold nw01c0D at hp
  simp only [List.mem_cons, List.not_mem_nil, or_false, e1, e2, e3, e4, hX, hP, hQ] at hp
  rcases hp with rfl | rfl | rfl | rfl | rfl | rfl | rfl | rfl | rfl <;> (first | rfl | (simp; done) | (simp; omega))
def nw01c1D (a b s u : Nat → Int) (i : Int) : List (Bool × Bool) := (decide (i ≥ 8), true) :: [(decide (sgnI b 16 (IntKind.i64.wrap (i - 8)) ≥ lo 256), true), (decide (sgnI b 16 (IntKind.i64.wrap (i - 8)) < hi 256), true), (sgnI s 8 i != sgnI b 16 (IntKind.i64.wrap (i - 8)), false), (decide (sgnI b 16 (IntKind.i64.wrap (i - 8)) < lo 256), false), (decide (sgnI b 16 (IntKind.i64.wrap (i - 8)) ≥ hi 256), false), (decide (sgnI b 16 (IntKind.i64.wrap (i - 8)) ≥ 0), false), (decide (sgnI b 16 (IntKind.i64.wrap (i - 8)) < 0), true), (IntKind.i64.wrap (getI u 8 i) != 0, false), (decide (sgnI b 16 (IntKind.i64.wrap (i - 8)) ≥ 256), false)]
def nw01c1X : Nat → Int := setI (setI (fun _ => 0) 8 15 1) 16 0 (65531)
def nw01c1Y : Nat → Int := setI (setI (fun _ => 0) 8 15 2) 16 0 (65531)
def nw01c1S : Nat → Int := setI (setI (fun _ => 0) 8 15 3) 8 8 (251)
def nw01c1U : Nat → Int := setI (setI (fun _ => 0) 8 15 4) 8 8 (0)
--EVTS nw01c1Ts | fun (r1 r2 : Rw) (b1 b2 b3 b4 : Nat) (a b s u : Nat → Int) (g : Nat → Value) (i : Int) (β : Nat → Fr) => (nwPath b1 b2 b3 b4 a b s u nw01c1X nw01c1Y nw01c1S nw01c1U g i 8 8 256 8 [] [] β, nw01c1D a b s u i)
def nw01c1Ts : List Nat := [0, 9, 10, 9, 10, 10, 10, 10, 9, 9, 9, 9, 0, 8, 0, 8, 8, 0, 0, 0, 0, 0, 0, 0, 7, 7, 7, 7, 0, 0, 6, 0, 6, 6, 6, 6, 6, 0, 0, 0, 0, 0, 4, 5, 4, 5, 5, 5, 5, 5, 4, 4, 4, 4, 4, 4, 3, 3, 3, 3, 2, 2, 2, 2, 2, 1]
theorem nw01c1D_ok (a b s u : Nat → Int) (i xx : Int) (hi' : 8 ≤ i) (hX : sgnI b 16 (IntKind.i64.wrap (i - 8)) = xx) (hc : -128 ≤ xx ∧ xx < 0) (hP : sgnI s 8 i = xx) (hQ : IntKind.i64.wrap (getI u 8 i) = 0) : ∀ p ∈ nw01c1D a b s u i, p.1 = p.2 := by
  have e1 : lo 256 = -128 := by decide
  have e2 : hi 256 = 128 := by decide
  have e3 : IntKind.i64.wrap (128 - 1) = 127 := by decide
  have e4 : IntKind.i64.wrap (256 - 1) = 255 := by decide
  intro p hp
  unfold nw01c1D at hp
  simp only [List.mem_cons, List.not_mem_nil, or_false, e1, e2, e3, e4, hX, hP, hQ] at hp
  rcases hp with rfl | rfl | rfl | rfl | rfl | rfl | rfl | rfl | rfl | rfl <;> (first | rfl | (simp; done) | (simp; omega))
def nw01c2D (a b s u : Nat → Int) (i : Int) : List (Bool × Bool) := (decide (i ≥ 8), true) :: [(decide (sgnI b 16 (IntKind.i64.wrap (i - 8)) ≥ lo 256), true), (decide (sgnI b 16 (IntKind.i64.wrap (i - 8)) < hi 256), true), (sgnI s 8 i != sgnI b 16 (IntKind.i64.wrap (i - 8)), false), (decide (sgnI b 16 (IntKind.i64.wrap (i - 8)) < lo 256), false), (decide (sgnI b 16 (IntKind.i64.wrap (i - 8)) ≥ hi 256), false), (decide (sgnI b 16 (IntKind.i64.wrap (i - 8)) ≥ 0), true), (decide (sgnI b 16 (IntKind.i64.wrap (i - 8)) < 256), true), (IntKind.i64.wrap (getI u 8 i) != sgnI b 16 (IntKind.i64.wrap (i - 8)), false), (decide (sgnI b 16 (IntKind.i64.wrap (i - 8)) < 0), false), (decide (sgnI b 16 (IntKind.i64.wrap (i - 8)) ≥ 256), false)]
def nw01c2X : Nat → Int := setI (setI (fun _ => 0) 8 15 1) 16 0 (5)
def nw01c2Y : Nat → Int := setI (setI (fun _ => 0) 8 15 2) 16 0 (5)
def nw01c2S : Nat → Int := setI (setI (fun _ => 0) 8 15 3) 8 8 (5)
def nw01c2U : Nat → Int := setI (setI (fun _ => 0) 8 15 4) 8 8 (5)
--EVTS nw01c2Ts | fun (r1 r2 : Rw) (b1 b2 b3 b4 : Nat) (a b s u : Nat → Int) (g : Nat → Value) (i : Int) (β : Nat → Fr) => (nwPath b1 b2 b3 b4 a b s u nw01c2X nw01c2Y nw01c2S nw01c2U g i 8 8 256 8 [] [] β, nw01c2D a b s u i)
def nw01c2Ts : List Nat := [0, 0, 11, 0, 11, 11, 11, 11, 0, 0, 0, 0, 9, 10, 9, 10, 10, 9, 9, 9, 8, 8, 8, 8, 7, 7, 7, 7, 0, 0, 6, 0, 6, 6, 6, 6, 6, 0, 0, 0, 0, 0, 4, 5, 4, 5, 5, 5, 5, 5, 4, 4, 4, 4, 4, 4, 3, 3, 3, 3, 2, 2, 2, 2, 2, 1]
theorem nw01c2D_ok (a b s u : Nat → Int) (i xx : Int) (hi' : 8 ≤ i) (hX : sgnI b 16 (IntKind.i64.wrap (i - 8)) = xx) (hc : 0 ≤ xx ∧ xx < 128) (hP : sgnI s 8 i = xx) (hQ : IntKind.i64.wrap (getI u 8 i) = xx) : ∀ p ∈ nw01c2D a b s u i, p.1 = p.2 := by
  have e1 : lo 256 = -128 := by decide
  have e2 : hi 256 = 128 := by decide
  have e3 : IntKind.i64.wrap (128 - 1) = 127 := by decide
  have e4 : IntKind.i64.wrap (256 - 1) = 255 := by decide
  intro p hp
  unfold nw01c2D at hp
  simp only [List.mem_cons, List.not_mem_nil, or_false, e1, e2, e3, e4, hX, hP, hQ] at hp
  rcases hp with rfl | rfl | rfl | rfl | rfl | rfl | rfl | rfl | rfl | rfl | rfl <;> (first | rfl | (simp; done) | (simp; omega))
def nw01c3D (a b s u : Nat → Int) (i : Int) : List (Bool × Bool) := (decide (i ≥ 8), true) :: [(decide (sgnI b 16 (IntKind.i64.wrap (i - 8)) ≥ lo 256), true), (decide (sgnI b 16 (IntKind.i64.wrap (i - 8)) < hi 256), false), (decide (sgnI b 16 (IntKind.i64.wrap (i - 8)) < lo 256), false), (decide (sgnI b 16 (IntKind.i64.wrap (i - 8)) ≥ hi 256), true), (sgnI s 8 i != IntKind.i64.wrap (hi 256 - 1), false), (decide (sgnI b 16 (IntKind.i64.wrap (i - 8)) ≥ 0), true), (decide (sgnI b 16 (IntKind.i64.wrap (i - 8)) < 256), true), (IntKind.i64.wrap (getI u 8 i) != sgnI b 16 (IntKind.i64.wrap (i - 8)), false), (decide (sgnI b 16 (IntKind.i64.wrap (i - 8)) < 0), false), (decide (sgnI b 16 (IntKind.i64.wrap (i - 8)) ≥ 256), false)]
def nw01c3X : Nat → Int := setI (setI (fun _ => 0) 8 15 1) 16 0 (200)
def nw01c3Y : Nat → Int := setI (setI (fun _ => 0) 8 15 2) 16 0 (200)
def nw01c3S : Nat → Int := setI (setI (fun _ => 0) 8 15 3) 8 8 (127)
def nw01c3U : Nat → Int := setI (setI (fun _ => 0) 8 15 4) 8 8 (200)
--EVTS nw01c3Ts | fun (r1 r2 : Rw) (b1 b2 b3 b4 : Nat) (a b s u : Nat → Int) (g : Nat → Value) (i : Int) (β : Nat → Fr) => (nwPath b1 b2 b3 b4 a b s u nw01c3X nw01c3Y nw01c3S nw01c3U g i 8 8 256 8 [] [] β, nw01c3D a b s u i)
def nw01c3Ts : List Nat := [0, 0, 11, 0, 11, 11, 11, 11, 0, 0, 0, 0, 9, 10, 9, 10, 10, 9, 9, 9, 8, 8, 8, 8, 7, 7, 7, 7, 6, 0, 5, 0, 5, 5, 5, 5, 5, 0, 0, 0, 0, 0, 0, 4, 0, 4, 4, 4, 4, 4, 0, 0, 0, 0, 0, 0, 3, 3, 3, 3, 2, 2, 2, 2, 2, 1]
theorem nw01c3D_ok (a b s u : Nat → Int) (i xx : Int) (hi' : 8 ≤ i) (hX : sgnI b 16 (IntKind.i64.wrap (i - 8)) = xx) (hc : 128 ≤ xx ∧ xx < 256) (hP : sgnI s 8 i = 127) (hQ : IntKind.i64.wrap (getI u 8 i) = xx) : ∀ p ∈ nw01c3D a b s u i, p.1 = p.2 := by
  have e1 : lo 256 = -128 := by decide
  have e2 : hi 256 = 128 := by decide
  have e3 : IntKind.i64.wrap (128 - 1) = 127 := by decide
  have e4 : IntKind.i64.wrap (256 - 1) = 255 := by decide
  intro p hp
  unfold nw01c3D at hp
  simp only [List.mem_cons, List.not_mem_nil, or_false, e1, e2, e3, e4, hX, hP, hQ] at hp
  rcases hp with rfl | rfl | rfl | rfl | rfl | rfl | rfl | rfl | rfl | rfl | rfl <;> (first | rfl | (simp; done) | (simp; omega))
def nw01c4D (a b s u : Nat → Int) (i : Int) : List (Bool × Bool) := (decide (i ≥ 8), true) :: [(decide (sgnI b 16 (IntKind.i64.wrap (i - 8)) ≥ lo 256), true), (decide (sgnI b 16 (IntKind.i64.wrap (i - 8)) < hi 256), false), (decide (sgnI b 16 (IntKind.i64.wrap (i - 8)) < lo 256), false), (decide (sgnI b 16 (IntKind.i64.wrap (i - 8)) ≥ hi 256), true), (sgnI s 8 i != IntKind.i64.wrap (hi 256 - 1), false), (decide (sgnI b 16 (IntKind.i64.wrap (i - 8)) ≥ 0), true), (decide (sgnI b 16 (IntKind.i64.wrap (i - 8)) < 256), false), (decide (sgnI b 16 (IntKind.i64.wrap (i - 8)) < 0), false), (decide (sgnI b 16 (IntKind.i64.wrap (i - 8)) ≥ 256), true), (IntKind.i64.wrap (getI u 8 i) != IntKind.i64.wrap (256 - 1), false)]
def nw01c4X : Nat → Int := setI (setI (fun _ => 0) 8 15 1) 16 0 (300)
def nw01c4Y : Nat → Int := setI (setI (fun _ => 0) 8 15 2) 16 0 (300)
def nw01c4S : Nat → Int := setI (setI (fun _ => 0) 8 15 3) 8 8 (127)
def nw01c4U : Nat → Int := setI (setI (fun _ => 0) 8 15 4) 8 8 (255)
--EVTS nw01c4Ts | fun (r1 r2 : Rw) (b1 b2 b3 b4 : Nat) (a b s u : Nat → Int) (g : Nat → Value) (i : Int) (β : Nat → Fr) => (nwPath b1 b2 b3 b4 a b s u nw01c4X nw01c4Y nw01c4S nw01c4U g i 8 8 256 8 [] [] β, nw01c4D a b s u i)
def nw01c4Ts : List Nat := [11, 0, 10, 0, 10, 10, 10, 10, 0, 0, 0, 0, 0, 9, 0, 9, 9, 0, 0, 0, 8, 8, 8, 8, 7, 7, 7, 7, 6, 0, 5, 0, 5, 5, 5, 5, 5, 0, 0, 0, 0, 0, 0, 4, 0, 4, 4, 4, 4, 4, 0, 0, 0, 0, 0, 0, 3, 3, 3, 3, 2, 2, 2, 2, 2, 1]
theorem nw01c4D_ok (a b s u : Nat → Int) (i xx : Int) (hi' : 8 ≤ i) (hX : sgnI b 16 (IntKind.i64.wrap (i - 8)) = xx) (hc : 256 ≤ xx) (hP : sgnI s 8 i = 127) (hQ : IntKind.i64.wrap (getI u 8 i) = 255) : ∀ p ∈ nw01c4D a b s u i, p.1 = p.2 := by
  have e1 : lo 256 = -128 := by decide
  have e2 : hi 256 = 128 := by decide
  have e3 : IntKind.i64.wrap (128 - 1) = 127 := by decide
  have e4 : IntKind.i64.wrap (256 - 1) = 255 := by decide
  intro p hp
  unfold nw01c4D at hp
  simp only [List.mem_cons, List.not_mem_nil, or_false, e1, e2, e3, e4, hX, hP, hQ] at hp
  rcases hp with rfl | rfl | rfl | rfl | rfl | rfl | rfl | rfl | rfl | rfl | rfl <;> (first | rfl | (simp; done) | (simp; omega))
def nw10c0D (a b s u : Nat → Int) (i : Int) : List (Bool × Bool) := (decide (i ≥ 4), false) :: [(decide (sgnI a 32 (Int.tmod i 4) ≥ lo 65536), false), (decide (sgnI a 32 (Int.tmod i 4) < lo 65536), true), (sgnI s 16 i != lo 65536, false), (decide (sgnI a 32 (Int.tmod i 4) ≥ hi 65536), false), (decide (sgnI a 32 (Int.tmod i 4) ≥ 0), false), (decide (sgnI a 32 (Int.tmod i 4) < 0), true), (IntKind.i64.wrap (getI u 16 i) != 0, false), (decide (sgnI a 32 (Int.tmod i 4) ≥ 65536), false)]
def nw10c0X : Nat → Int := setI (setI (fun _ => 0) 8 15 1) 32 0 (4294927296)
def nw10c0Y : Nat → Int := setI (setI (fun _ => 0) 8 15 2) 32 0 (4294927296)
def nw10c0S : Nat → Int := setI (setI (fun _ => 0) 8 15 3) 16 0 (32768)
def nw10c0U : Nat → Int := setI (setI (fun _ => 0) 8 15 4) 16 0 (0)
--EVTS nw10c0Ts | fun (r1 r2 : Rw) (b1 b2 b3 b4 : Nat) (a b s u : Nat → Int) (g : Nat → Value) (i : Int) (β : Nat → Fr) => (nwPath b1 b2 b3 b4 a b s u nw10c0X nw10c0Y nw10c0S nw10c0U g i 16 4 65536 0 [r1, r2] [vrow 1006 fun _ => 0, vrow 1005 fun _ => 0] β, nw10c0D a b s u i)
def nw10c0Ts : List Nat := [0, 8, 9, 8, 9, 9, 9, 9, 8, 8, 8, 8, 0, 7, 0, 7, 7, 0, 0, 0, 0, 0, 0, 0, 6, 6, 6, 6, 0, 4, 5, 4, 5, 5, 5, 5, 5, 4, 4, 4, 4, 4, 0, 3, 0, 3, 3, 3, 3, 3, 0, 0, 0, 0, 0, 0, 0, 0, 0, 0, 2, 2, 2, 2, 2, 1]
theorem nw10c0D_ok (a b s u : Nat → Int) (i xx : Int) (hi' : i < 4) (hX : sgnI a 32 (Int.tmod i 4) = xx) (hc : xx < -32768) (hP : sgnI s 16 i = -32768) (hQ : IntKind.i64.wrap (getI u 16 i) = 0) : ∀ p ∈ nw10c0D a b s u i, p.1 = p.2 := by
  have e1 : lo 65536 = -32768 := by decide
  have e2 : hi 65536 = 32768 := by decide
  have e3 : IntKind.i64.wrap (32768 - 1) = 32767 := by decide
  have e4 : IntKind.i64.wrap (65536 - 1) = 65535 := by decide
  intro p hp
  unfold nw10c0D at hp
  simp only [List.mem_cons, List.not_mem_nil, or_false, e1, e2, e3, e4, hX, hP, hQ] at hp
  rcases hp with rfl | rfl | rfl | rfl | rfl | rfl | rfl | rfl | rfl <;> (first | rfl | (simp; done) | (simp; omega))
def nw10c1D (a b s u : Nat → Int) (i : Int) : List (Bool × Bool) := (decide (i ≥ 4), false) :: [(decide (sgnI a 32 (Int.tmod i 4) ≥ lo 65536), true), (decide (sgnI a 32 (Int.tmod i 4) < hi 65536), true), (sgnI s 16 i != sgnI a 32 (Int.tmod i 4), false), (decide (sgnI a 32 (Int.tmod i 4) < lo 65536), false), (decide (sgnI a 32 (Int.tmod i 4) ≥ hi 65536), false), (decide (sgnI a 32 (Int.tmod i 4) ≥ 0), false), (decide (sgnI a 32 (Int.tmod i 4) < 0), true), (IntKind.i64.wrap (getI u 16 i) != 0, false), (decide (sgnI a 32 (Int.tmod i 4) ≥ 65536), false)]
def nw10c1X : Nat → Int := setI (setI (fun _ => 0) 8 15 1) 32 0 (4294967291)
def nw10c1Y : Nat → Int := setI (setI (fun _ => 0) 8 15 2) 32 0 (4294967291)
def nw10c1S : Nat → Int := setI (setI (fun _ => 0) 8 15 3) 16 0 (65531)
def nw10c1U : Nat → Int := setI (setI (fun _ => 0) 8 15 4) 16 0 (0)
--EVTS nw10c1Ts | fun (r1 r2 : Rw) (b1 b2 b3 b4 : Nat) (a b s u : Nat → Int) (g : Nat → Value) (i : Int) (β : Nat → Fr) => (nwPath b1 b2 b3 b4 a b s u nw10c1X nw10c1Y nw10c1S nw10c1U g i 16 4 65536 0 [r1, r2] [vrow 1006 fun _ => 0, vrow 1005 fun _ => 0] β, nw10c1D a b s u i)
def nw10c1Ts : List Nat := [0, 9, 10, 9, 10, 10, 10, 10, 9, 9, 9, 9, 0, 8, 0, 8, 8, 0, 0, 0, 0, 0, 0, 0, 7, 7, 7, 7, 0, 0, 6, 0, 6, 6, 6, 6, 6, 0, 0, 0, 0, 0, 4, 5, 4, 5, 5, 5, 5, 5, 4, 4, 4, 4, 4, 4, 3, 3, 3, 3, 2, 2, 2, 2, 2, 1]
theorem nw10c1D_ok (a b s u : Nat → Int) (i xx : Int) (hi' : i < 4) (hX : sgnI a 32 (Int.tmod i 4) = xx) (hc : -32768 ≤ xx ∧ xx < 0) (hP : sgnI s 16 i = xx) (hQ : IntKind.i64.wrap (getI u 16 i) = 0) : ∀ p ∈ nw10c1D a b s u i, p.1 = p.2 := by
  have e1 : lo 65536 = -32768 := by decide
  have e2 : hi 65536 = 32768 := by decide
  have e3 : IntKind.i64.wrap (32768 - 1) = 32767 := by decide
  have e4 : IntKind.i64.wrap (65536 - 1) = 65535 := by decide
  intro p hp
  unfold nw10c1D at hp
  simp only [List.mem_cons, List.not_mem_nil, or_false, e1, e2, e3, e4, hX, hP, hQ] at hp
  rcases hp with rfl | rfl | rfl | rfl | rfl | rfl | rfl | rfl | rfl | rfl <;> (first | rfl | (simp; done) | (simp; omega))
def nw10c2D (a b s u : Nat → Int) (i : Int) : List (Bool × Bool) := (decide (i ≥ 4), false) :: [(decide (sgnI a 32 (Int.tmod i 4) ≥ lo 65536), true), (decide (sgnI a 32 (Int.tmod i 4) < hi 65536), true), (sgnI s 16 i != sgnI a 32 (Int.tmod i 4), false), (decide (sgnI a 32 (Int.tmod i 4) < lo 65536), false), (decide (sgnI a 32 (Int.tmod i 4) ≥ hi 65536), false), (decide (sgnI a 32 (Int.tmod i 4) ≥ 0), true), (decide (sgnI a 32 (Int.tmod i 4) < 65536), true), (IntKind.i64.wrap (getI u 16 i) != sgnI a 32 (Int.tmod i 4), false), (decide (sgnI a 32 (Int.tmod i 4) < 0), false), (decide (sgnI a 32 (Int.tmod i 4) ≥ 65536), false)]
def nw10c2X : Nat → Int := setI (setI (fun _ => 0) 8 15 1) 32 0 (5)
def nw10c2Y : Nat → Int := setI (setI (fun _ => 0) 8 15 2) 32 0 (5)
def nw10c2S : Nat → Int := setI (setI (fun _ => 0) 8 15 3) 16 0 (5)
def nw10c2U : Nat → Int := setI (setI (fun _ => 0) 8 15 4) 16 0 (5)
--EVTS nw10c2Ts | fun (r1 r2 : Rw) (b1 b2 b3 b4 : Nat) (a b s u : Nat → Int) (g : Nat → Value) (i : Int) (β : Nat → Fr) => (nwPath b1 b2 b3 b4 a b s u nw10c2X nw10c2Y nw10c2S nw10c2U g i 16 4 65536 0 [r1, r2] [vrow 1006 fun _ => 0, vrow 1005 fun _ => 0] β, nw10c2D a b s u i)
def nw10c2Ts : List Nat := [0, 0, 11, 0, 11, 11, 11, 11, 0, 0, 0, 0, 9, 10, 9, 10, 10, 9, 9, 9, 8, 8, 8, 8, 7, 7, 7, 7, 0, 0, 6, 0, 6, 6, 6, 6, 6, 0, 0, 0, 0, 0, 4, 5, 4, 5, 5, 5, 5, 5, 4, 4, 4, 4, 4, 4, 3, 3, 3, 3, 2, 2, 2, 2, 2, 1]
theorem nw10c2D_ok (a b s u : Nat → Int) (i xx : Int) (hi' : i < 4) (hX : sgnI a 32 (Int.tmod i 4) = xx) (hc : 0 ≤ xx ∧ xx < 32768) (hP : sgnI s 16 i = xx) (hQ : IntKind.i64.wrap (getI u 16 i) = xx) : ∀ p ∈ nw10c2D a b s u i, p.1 = p.2 := by
  have e1 : lo 65536 = -32768 := by decide
  have e2 : hi 65536 = 32768 := by decide
  have e3 : IntKind.i64.wrap (32768 - 1) = 32767 := by decide
  have e4 : IntKind.i64.wrap (65536 - 1) = 65535 := by decide
  intro p hp
  unfold nw10c2D at hp
  simp only [List.mem_cons, List.not_mem_nil, or_false, e1, e2, e3, e4, hX, hP, hQ] at hp
  rcases hp with rfl | rfl | rfl | rfl | rfl | rfl | rfl | rfl | rfl | rfl | rfl <;> (first | rfl | (simp; done) | (simp; omega))
def nw10c3D (a b s u : Nat → Int) (i : Int) : List (Bool × Bool) := (decide (i ≥ 4), false) :: [(decide (sgnI a 32 (Int.tmod i 4) ≥ lo 65536), true), (decide (sgnI a 32 (Int.tmod i 4) < hi 65536), false), (decide (sgnI a 32 (Int.tmod i 4) < lo 65536), false), (decide (sgnI a 32 (Int.tmod i 4) ≥ hi 65536), true), (sgnI s 16 i != IntKind.i64.wrap (hi 65536 - 1), false), (decide (sgnI a 32 (Int.tmod i 4) ≥ 0), true), (decide (sgnI a 32 (Int.tmod i 4) < 65536), true), (IntKind.i64.wrap (getI u 16 i) != sgnI a 32 (Int.tmod i 4), false), (decide (sgnI a 32 (Int.tmod i 4) < 0), false), (decide (sgnI a 32 (Int.tmod i 4) ≥ 65536), false)]
def nw10c3X : Nat → Int := setI (setI (fun _ => 0) 8 15 1) 32 0 (40000)
def nw10c3Y : Nat → Int := setI (setI (fun _ => 0) 8 15 2) 32 0 (40000)
def nw10c3S : Nat → Int := setI (setI (fun _ => 0) 8 15 3) 16 0 (32767)
def nw10c3U : Nat → Int := setI (setI (fun _ => 0) 8 15 4) 16 0 (40000)
--EVTS nw10c3Ts | fun (r1 r2 : Rw) (b1 b2 b3 b4 : Nat) (a b s u : Nat → Int) (g : Nat → Value) (i : Int) (β : Nat → Fr) => (nwPath b1 b2 b3 b4 a b s u nw10c3X nw10c3Y nw10c3S nw10c3U g i 16 4 65536 0 [r1, r2] [vrow 1006 fun _ => 0, vrow 1005 fun _ => 0] β, nw10c3D a b s u i)
def nw10c3Ts : List Nat := [0, 0, 11, 0, 11, 11, 11, 11, 0, 0, 0, 0, 9, 10, 9, 10, 10, 9, 9, 9, 8, 8, 8, 8, 7, 7, 7, 7, 6, 0, 5, 0, 5, 5, 5, 5, 5, 0, 0, 0, 0, 0, 0, 4, 0, 4, 4, 4, 4, 4, 0, 0, 0, 0, 0, 0, 3, 3, 3, 3, 2, 2, 2, 2, 2, 1]
theorem nw10c3D_ok (a b s u : Nat → Int) (i xx : Int) (hi' : i < 4) (hX : sgnI a 32 (Int.tmod i 4) = xx) (hc : 32768 ≤ xx ∧ xx < 65536) (hP : sgnI s 16 i = 32767) (hQ : IntKind.i64.wrap (getI u 16 i) = xx) : ∀ p ∈ nw10c3D a b s u i, p.1 = p.2 := by
  have e1 : lo 65536 = -32768 := by decide
  have e2 : hi 65536 = 32768 := by decide
  have e3 : IntKind.i64.wrap (32768 - 1) = 32767 := by decide
  have e4 : IntKind.i64.wrap (65536 - 1) = 65535 := by decide
  intro p hp
  unfold nw10c3D at hp
  simp only [List.mem_cons, List.not_mem_nil, or_false, e1, e2, e3, e4, hX, hP, hQ] at hp
  rcases hp with rfl | rfl | rfl | rfl | rfl | rfl | rfl | rfl | rfl | rfl | rfl <;> (first | rfl | (simp; done) | (simp; omega))
def nw10c4D (a b s u : Nat → Int) (i : Int) : List (Bool × Bool) := (decide (i ≥ 4), false) :: [(decide (sgnI a 32 (Int.tmod i 4) ≥ lo 65536), true), (decide (sgnI a 32 (Int.tmod i 4) < hi 65536), false), (decide (sgnI a 32 (Int.tmod i 4) < lo 65536), false), (decide (sgnI a 32 (Int.tmod i 4) ≥ hi 65536), true), (sgnI s 16 i != IntKind.i64.wrap (hi 65536 - 1), false), (decide (sgnI a 32 (Int.tmod i 4) ≥ 0), true), (decide (sgnI a 32 (Int.tmod i 4) < 65536), false), (decide (sgnI a 32 (Int.tmod i 4) < 0), false), (decide (sgnI a 32 (Int.tmod i 4) ≥ 65536), true), (IntKind.i64.wrap (getI u 16 i) != IntKind.i64.wrap (65536 - 1), false)]
def nw10c4X : Nat → Int := setI (setI (fun _ => 0) 8 15 1) 32 0 (70000)
def nw10c4Y : Nat → Int := setI (setI (fun _ => 0) 8 15 2) 32 0 (70000)
def nw10c4S : Nat → Int := setI (setI (fun _ => 0) 8 15 3) 16 0 (32767)
def nw10c4U : Nat → Int := setI (setI (fun _ => 0) 8 15 4) 16 0 (65535)
--EVTS nw10c4Ts | fun (r1 r2 : Rw) (b1 b2 b3 b4 : Nat) (a b s u : Nat → Int) (g : Nat → Value) (i : Int) (β : Nat → Fr) => (nwPath b1 b2 b3 b4 a b s u nw10c4X nw10c4Y nw10c4S nw10c4U g i 16 4 65536 0 [r1, r2] [vrow 1006 fun _ => 0, vrow 1005 fun _ => 0] β, nw10c4D a b s u i)
def nw10c4Ts : List Nat := [11, 0, 10, 0, 10, 10, 10, 10, 0, 0, 0, 0, 0, 9, 0, 9, 9, 0, 0, 0, 8, 8, 8, 8, 7, 7, 7, 7, 6, 0, 5, 0, 5, 5, 5, 5, 5, 0, 0, 0, 0, 0, 0, 4, 0, 4, 4, 4, 4, 4, 0, 0, 0, 0, 0, 0, 3, 3, 3, 3, 2, 2, 2, 2, 2, 1]
theorem nw10c4D_ok (a b s u : Nat → Int) (i xx : Int) (hi' : i < 4) (hX : sgnI a 32 (Int.tmod i 4) = xx) (hc : 65536 ≤ xx) (hP : sgnI s 16 i = 32767) (hQ : IntKind.i64.wrap (getI u 16 i) = 65535) : ∀ p ∈ nw10c4D a b s u i, p.1 = p.2 := by
  have e1 : lo 65536 = -32768 := by decide
  have e2 : hi 65536 = 32768 := by decide
  have e3 : IntKind.i64.wrap (32768 - 1) = 32767 := by decide
  have e4 : IntKind.i64.wrap (65536 - 1) = 65535 := by decide
  intro p hp
  unfold nw10c4D at hp
  simp only [List.mem_cons, List.not_mem_nil, or_false, e1, e2, e3, e4, hX, hP, hQ] at hp
  rcases hp with rfl | rfl | rfl | rfl | rfl | rfl | rfl | rfl | rfl | rfl | rfl <;> (first | rfl | (simp; done) | (simp; omega))
def nw11c0D (a b s u : Nat → Int) (i : Int) : List (Bool × Bool) := (decide (i ≥ 4), true) :: [(decide (sgnI b 32 (IntKind.i64.wrap (i - 4)) ≥ lo 65536), false), (decide (sgnI b 32 (IntKind.i64.wrap (i - 4)) < lo 65536), true), (sgnI s 16 i != lo 65536, false), (decide (sgnI b 32 (IntKind.i64.wrap (i - 4)) ≥ hi 65536), false), (decide (sgnI b 32 (IntKind.i64.wrap (i - 4)) ≥ 0), false), (decide (sgnI b 32 (IntKind.i64.wrap (i - 4)) < 0), true), (IntKind.i64.wrap (getI u 16 i) != 0, false), (decide (sgnI b 32 (IntKind.i64.wrap (i - 4)) ≥ 65536), false)]
def nw11c0X : Nat → Int := setI (setI (fun _ => 0) 8 15 1) 32 0 (4294927296)
def nw11c0Y : Nat → Int := setI (setI (fun _ => 0) 8 15 2) 32 0 (4294927296)
def nw11c0S : Nat → Int := setI (setI (fun _ => 0) 8 15 3) 16 4 (32768)
def nw11c0U : Nat → Int := setI (setI (fun _ => 0) 8 15 4) 16 4 (0)
--EVTS nw11c0Ts | fun (r1 r2 : Rw) (b1 b2 b3 b4 : Nat) (a b s u : Nat → Int) (g : Nat → Value) (i : Int) (β : Nat → Fr) => (nwPath b1 b2 b3 b4 a b s u nw11c0X nw11c0Y nw11c0S nw11c0U g i 16 4 65536 4 [r1, r2] [vrow 1006 fun _ => 0, vrow 1005 fun _ => 0] β, nw11c0D a b s u i)
def nw11c0Ts : List Nat := [0, 8, 9, 8, 9, 9, 9, 9, 8, 8, 8, 8, 0, 7, 0, 7, 7, 0, 0, 0, 0, 0, 0, 0, 6, 6, 6, 6, 0, 4, 5, 4, 5, 5, 5, 5, 5, 4, 4, 4, 4, 4, 0, 3, 0, 3, 3, 3, 3, 3, 0, 0, 0, 0, 0, 0, 0, 0, 0, 0, 2, 2, 2, 2, 2, 1]
theorem nw11c0D_ok (a b s u : Nat → Int) (i xx : Int) (hi' : 4 ≤ i) (hX : sgnI b 32 (IntKind.i64.wrap (i - 4)) = xx) (hc : xx < -32768) (hP : sgnI s 16 i = -32768) (hQ : IntKind.i64.wrap (getI u 16 i) = 0) : ∀ p ∈ nw11c0D a b s u i, p.1 = p.2 := by
  have e1 : lo 65536 = -32768 := by decide
  have e2 : hi 65536 = 32768 := by decide
  have e3 : IntKind.i64.wrap (32768 - 1) = 32767 := by decide
  have e4 : IntKind.i64.wrap (65536 - 1) = 65535 := by decide
  intro p hp
  unfold nw11c0D at hp
  simp only [List.mem_cons, List.not_mem_nil, or_false, e1, e2, e3, e4, hX, hP, hQ] at hp
  rcases hp with rfl | rfl | rfl | rfl | rfl | rfl | rfl | rfl | rfl <;> (first | rfl | (simp; done) | (simp; omega))
def nw11c1D (a b s u : Nat → Int) (i : Int) : List (Bool × Bool) := (decide (i ≥ 4), true) :: [(decide (sgnI b 32 (IntKind.i64.wrap (i - 4)) ≥ lo 65536), true), (decide (sgnI b 32 (IntKind.i64.wrap (i - 4)) < hi 65536), true), (sgnI s 16 i != sgnI b 32 (IntKind.i64.wrap (i - 4)), false), (decide (sgnI b 32 (IntKind.i64.wrap (i - 4)) < lo 65536), false), (decide (sgnI b 32 (IntKind.i64.wrap (i - 4)) ≥ hi 65536), false), (decide (sgnI b 32 (IntKind.i64.wrap (i - 4)) ≥ 0), false), (decide (sgnI b 32 (IntKind.i64.wrap (i - 4)) < 0), true), (IntKind.i64.wrap (getI u 16 i) != 0, false), (decide (sgnI b 32 (IntKind.i64.wrap (i - 4)) ≥ 65536), false)]
def nw11c1X : Nat → Int := setI (setI (fun _ => 0) 8 15 1) 32 0 (4294967291)
def nw11c1Y : Nat → Int := setI (setI (fun _ => 0) 8 15 2) 32 0 (4294967291)
def nw11c1S : Nat → Int := setI (setI (fun _ => 0) 8 15 3) 16 4 (65531)
def nw11c1U : Nat → Int := setI (setI (fun _ => 0) 8 15 4) 16 4 (0)
--EVTS nw11c1Ts | fun (r1 r2 : Rw) (b1 b2 b3 b4 : Nat) (a b s u : Nat → Int) (g : Nat → Value) (i : Int) (β : Nat → Fr) => (nwPath b1 b2 b3 b4 a b s u nw11c1X nw11c1Y nw11c1S nw11c1U g i 16 4 65536 4 [r1, r2] [vrow 1006 fun _ => 0, vrow 1005 fun _ => 0] β, nw11c1D a b s u i)
def nw11c1Ts : List Nat := [0, 9, 10, 9, 10, 10, 10, 10, 9, 9, 9, 9, 0, 8, 0, 8, 8, 0, 0, 0, 0, 0, 0, 0, 7, 7, 7, 7, 0, 0, 6, 0, 6, 6, 6, 6, 6, 0, 0, 0, 0, 0, 4, 5, 4, 5, 5, 5, 5, 5, 4, 4, 4, 4, 4, 4, 3, 3, 3, 3, 2, 2, 2, 2, 2, 1]
theorem nw11c1D_ok (a b s u : Nat → Int) (i xx : Int) (hi' : 4 ≤ i) (hX : sgnI b 32 (IntKind.i64.wrap (i - 4)) = xx) (hc : -32768 ≤ xx ∧ xx < 0) (hP : sgnI s 16 i = xx) (hQ : IntKind.i64.wrap (getI u 16 i) = 0) : ∀ p ∈ nw11c1D a b s u i, p.1 = p.2 := by
  have e1 : lo 65536 = -32768 := by decide
  have e2 : hi 65536 = 32768 := by decide
  have e3 : IntKind.i64.wrap (32768 - 1) = 32767 := by decide
  have e4 : IntKind.i64.wrap (65536 - 1) = 65535 := by decide
  intro p hp
  unfold nw11c1D at hp
  simp only [List.mem_cons, List.not_mem_nil, or_false, e1, e2, e3, e4, hX, hP, hQ] at hp
  rcases hp with rfl | rfl | rfl | rfl | rfl | rfl | rfl | rfl | rfl | rfl <;> (first | rfl | (simp; done) | (simp; omega))
def nw11c2D (a b s u : Nat → Int) (i : Int) : List (Bool × Bool) := (decide (i ≥ 4), true) :: [(decide (sgnI b 32 (IntKind.i64.wrap (i - 4)) ≥ lo 65536), true), (decide (sgnI b 32 (IntKind.i64.wrap (i - 4)) < hi 65536), true), (sgnI s 16 i != sgnI b 32 (IntKind.i64.wrap (i - 4)), false), (decide (sgnI b 32 (IntKind.i64.wrap (i - 4)) < lo 65536), false), (decide (sgnI b 32 (IntKind.i64.wrap (i - 4)) ≥ hi 65536), false), (decide (sgnI b 32 (IntKind.i64.wrap (i - 4)) ≥ 0), true), (decide (sgnI b 32 (IntKind.i64.wrap (i - 4)) < 65536), true), (IntKind.i64.wrap (getI u 16 i) != sgnI b 32 (IntKind.i64.wrap (i - 4)), false), (decide (sgnI b 32 (IntKind.i64.wrap (i - 4)) < 0), false), (decide (sgnI b 32 (IntKind.i64.wrap (i - 4)) ≥ 65536), false)]
def nw11c2X : Nat → Int := setI (setI (fun _ => 0) 8 15 1) 32 0 (5)
def nw11c2Y : Nat → Int := setI (setI (fun _ => 0) 8 15 2) 32 0 (5)
def nw11c2S : Nat → Int := setI (setI (fun _ => 0) 8 15 3) 16 4 (5)
def nw11c2U : Nat → Int := setI (setI (fun _ => 0) 8 15 4) 16 4 (5)
--EVTS nw11c2Ts | fun (r1 r2 : Rw) (b1 b2 b3 b4 : Nat) (a b s u : Nat → Int) (g : Nat → Value) (i : Int) (β : Nat → Fr) => (nwPath b1 b2 b3 b4 a b s u nw11c2X nw11c2Y nw11c2S nw11c2U g i 16 4 65536 4 [r1, r2] [vrow 1006 fun _ => 0, vrow 1005 fun _ => 0] β, nw11c2D a b s u i)
def nw11c2Ts : List Nat := [0, 0, 11, 0, 11, 11, 11, 11, 0, 0, 0, 0, 9, 10, 9, 10, 10, 9, 9, 9, 8, 8, 8, 8, 7, 7, 7, 7, 0, 0, 6, 0, 6, 6, 6, 6, 6, 0, 0, 0, 0, 0, 4, 5, 4, 5, 5, 5, 5, 5, 4, 4, 4, 4, 4, 4, 3, 3, 3, 3, 2, 2, 2, 2, 2, 1]
theorem nw11c2D_ok (a b s u : Nat → Int) (i xx : Int) (hi' : 4 ≤ i) (hX : sgnI b 32 (IntKind.i64.wrap (i - 4)) = xx) (hc : 0 ≤ xx ∧ xx < 32768) (hP : sgnI s 16 i = xx) (hQ : IntKind.i64.wrap (getI u 16 i) = xx) : ∀ p ∈ nw11c2D a b s u i, p.1 = p.2 := by
  have e1 : lo 65536 = -32768 := by decide
  have e2 : hi 65536 = 32768 := by decide
  have e3 : IntKind.i64.wrap (32768 - 1) = 32767 := by decide
  have e4 : IntKind.i64.wrap (65536 - 1) = 65535 := by decide
  intro p hp
  unfold nw11c2D at hp
  simp only [List.mem_cons, List.not_mem_nil, or_false, e1, e2, e3, e4, hX, hP, hQ] at hp
  rcases hp with rfl | rfl | rfl | rfl | rfl | rfl | rfl | rfl | rfl | rfl | rfl <;> (first | rfl | (simp; done) | (simp; omega))
def nw11c3D (a b s u : Nat → Int) (i : Int) : List (Bool × Bool) := (decide (i ≥ 4), true) :: [(decide (sgnI b 32 (IntKind.i64.wrap (i - 4)) ≥ lo 65536), true), (decide (sgnI b 32 (IntKind.i64.wrap (i - 4)) < hi 65536), false), (decide (sgnI b 32 (IntKind.i64.wrap (i - 4)) < lo 65536), false), (decide (sgnI b 32 (IntKind.i64.wrap (i - 4)) ≥ hi 65536), true), (sgnI s 16 i != IntKind.i64.wrap (hi 65536 - 1), false), (decide (sgnI b 32 (IntKind.i64.wrap (i - 4)) ≥ 0), true), (decide (sgnI b 32 (IntKind.i64.wrap (i - 4)) < 65536), true), (IntKind.i64.wrap (getI u 16 i) != sgnI b 32 (IntKind.i64.wrap (i - 4)), false), (decide (sgnI b 32 (IntKind.i64.wrap (i - 4)) < 0), false), (decide (sgnI b 32 (IntKind.i64.wrap (i - 4)) ≥ 65536), false)]
def nw11c3X : Nat → Int := setI (setI (fun _ => 0) 8 15 1) 32 0 (40000)
def nw11c3Y : Nat → Int := setI (setI (fun _ => 0) 8 15 2) 32 0 (40000)
def nw11c3S : Nat → Int := setI (setI (fun _ => 0) 8 15 3) 16 4 (32767)
def nw11c3U : Nat → Int := setI (setI (fun _ => 0) 8 15 4) 16 4 (40000)
--EVTS nw11c3Ts | fun (r1 r2 : Rw) (b1 b2 b3 b4 : Nat) (a b s u : Nat → Int) (g : Nat → Value) (i : Int) (β : Nat → Fr) => (nwPath b1 b2 b3 b4 a b s u nw11c3X nw11c3Y nw11c3S nw11c3U g i 16 4 65536 4 [r1, r2] [vrow 1006 fun _ => 0, vrow 1005 fun _ => 0] β, nw11c3D a b s u i)
def nw11c3Ts : List Nat := [0, 0, 11, 0, 11, 11, 11, 11, 0, 0, 0, 0, 9, 10, 9, 10, 10, 9, 9, 9, 8, 8, 8, 8, 7, 7, 7, 7, 6, 0, 5, 0, 5, 5, 5, 5, 5, 0, 0, 0, 0, 0, 0, 4, 0, 4, 4, 4, 4, 4, 0, 0, 0, 0, 0, 0, 3, 3, 3, 3, 2, 2, 2, 2, 2, 1]
theorem nw11c3D_ok (a b s u : Nat → Int) (i xx : Int) (hi' : 4 ≤ i) (hX : sgnI b 32 (IntKind.i64.wrap (i - 4)) = xx) (hc : 32768 ≤ xx ∧ xx < 65536) (hP : sgnI s 16 i = 32767) (hQ : IntKind.i64.wrap (getI u 16 i) = xx) : ∀ p ∈ nw11c3D a b s u i, p.1 = p.2 := by
  have e1 : lo 65536 = -32768 := by decide
  have e2 : hi 65536 = 32768 := by decide
  have e3 : IntKind.i64.wrap (32768 - 1) = 32767 := by decide
  have e4 : IntKind.i64.wrap (65536 - 1) = 65535 := by decide
  intro p hp
  unfold nw11c3D at hp
  simp only [List.mem_cons, List.not_mem_nil, or_false, e1, e2, e3, e4, hX, hP, hQ] at hp
  rcases hp with rfl | rfl | rfl | rfl | rfl | rfl | rfl | rfl | rfl | rfl | rfl <;> (first | rfl | (simp; done) | (simp; omega))
def nw11c4D (a b s u : Nat → Int) (i : Int) : List (Bool × Bool) := (decide (i ≥ 4), true) :: [(decide (sgnI b 32 (IntKind.i64.wrap (i - 4)) ≥ lo 65536), true), (decide (sgnI b 32 (IntKind.i64.wrap (i - 4)) < hi 65536), false), (decide (sgnI b 32 (IntKind.i64.wrap (i - 4)) < lo 65536), false), (decide (sgnI b 32 (IntKind.i64.wrap (i - 4)) ≥ hi 65536), true), (sgnI s 16 i != IntKind.i64.wrap (hi 65536 - 1), false), (decide (sgnI b 32 (IntKind.i64.wrap (i - 4)) ≥ 0), true), (decide (sgnI b 32 (IntKind.i64.wrap (i - 4)) < 65536), false), (decide (sgnI b 32 (IntKind.i64.wrap (i - 4)) < 0), false), (decide (sgnI b 32 (IntKind.i64.wrap (i - 4)) ≥ 65536), true), (IntKind.i64.wrap (getI u 16 i) != IntKind.i64.wrap (65536 - 1), false)]
def nw11c4X : Nat → Int := setI (setI (fun _ => 0) 8 15 1) 32 0 (70000)
def nw11c4Y : Nat → Int := setI (setI (fun _ => 0) 8 15 2) 32 0 (70000)
def nw11c4S : Nat → Int := setI (setI (fun _ => 0) 8 15 3) 16 4 (32767)
def nw11c4U : Nat → Int := setI (setI (fun _ => 0) 8 15 4) 16 4 (65535)
--EVTS nw11c4Ts | fun (r1 r2 : Rw) (b1 b2 b3 b4 : Nat) (a b s u : Nat → Int) (g : Nat → Value) (i : Int) (β : Nat → Fr) => (nwPath b1 b2 b3 b4 a b s u nw11c4X nw11c4Y nw11c4S nw11c4U g i 16 4 65536 4 [r1, r2] [vrow 1006 fun _ => 0, vrow 1005 fun _ => 0] β, nw11c4D a b s u i)
def nw11c4Ts : List Nat := [11, 0, 10, 0, 10, 10, 10, 10, 0, 0, 0, 0, 0, 9, 0, 9, 9, 0, 0, 0, 8, 8, 8, 8, 7, 7, 7, 7, 6, 0, 5, 0, 5, 5, 5, 5, 5, 0, 0, 0, 0, 0, 0, 4, 0, 4, 4, 4, 4, 4, 0, 0, 0, 0, 0, 0, 3, 3, 3, 3, 2, 2, 2, 2, 2, 1]
theorem nw11c4D_ok (a b s u : Nat → Int) (i xx : Int) (hi' : 4 ≤ i) (hX : sgnI b 32 (IntKind.i64.wrap (i - 4)) = xx) (hc : 65536 ≤ xx) (hP : sgnI s 16 i = 32767) (hQ : IntKind.i64.wrap (getI u 16 i) = 65535) : ∀ p ∈ nw11c4D a b s u i, p.1 = p.2 := by
  have e1 : lo 65536 = -32768 := by decide
  have e2 : hi 65536 = 32768 := by decide
  have e3 : IntKind.i64.wrap (32768 - 1) = 32767 := by decide
  have e4 : IntKind.i64.wrap (65536 - 1) = 65535 := by decide
  intro p hp
  unfold nw11c4D at hp
  simp only [List.mem_cons, List.not_mem_nil, or_false, e1, e2, e3, e4, hX, hP, hQ] at hp
  rcases hp with rfl | rfl | rfl | rfl | rfl | rfl | rfl | rfl | rfl | rfl | rfl <;> (first | rfl | (simp; done) | (simp; omega))
theorem nwR00 (r1 r2 : Rw) (b1 b2 b3 b4 : Nat) (a b s u : Nat → Int) (hb : ∀ x ∈ [a, b, s, u], Byt x) (g : Nat → Value) (i xx : Int) (hi' : i < 8) (hX : sgnI a 16 (Int.tmod i 8) = xx) (hP : sgnI s 8 i = holdI xx (-128) 127) (hQ : IntKind.i64.wrap (getI u 8 i) = holdI xx 0 255) {w0 w : World}
    (hS : SG w0 (vrow b4 u :: vrow b3 s :: ([] ++ [vrow b2 b, vrow b1 a])) w) {Q : Exit → Act → World → Prop}
    (hq : ∀ (T' : Tm) w', T'.n = 181 → (∀ p ∈ keepOf (nwNeed i 8 8 256 b1 b2 b3 b4) g 181 nwHav, tget T' p.1 = p.2) → SG w0 (vrow b4 u :: vrow b3 s :: ([] ++ [vrow b2 b, vrow b1 a])) w' → Q .normal ⟨T'.toArray, []⟩ w') :
    wpX Try.prog nwBlk Q ⟨(valsOf (nwNeed i 8 8 256 b1 b2 b3 b4) g 181).toArray, []⟩ w := by
  unfold holdI at hP hQ
  have hc : xx < -128 ∨ (-128 ≤ xx ∧ xx < 0) ∨ (0 ≤ xx ∧ xx < 128) ∨ (128 ≤ xx ∧ xx < 256) ∨ 256 ≤ xx := by omega
  rcases hc with hc | hc | hc | hc | hc
  · exact ev_code (E := envW [a, b, s, u]) (E' := envW [nw00c0X, nw00c0Y, nw00c0S, nw00c0U]) rfl (sumW_ok _ hb) (fuel := 40) (c := nwBlk) (vals' := valsOf (nwNeed 0 8 8 256 1001 1002 1003 1004) (fun _ => undef) 181) (M' := vrow 1004 nw00c0U :: vrow 1003 nw00c0S :: ([] ++ [vrow 1002 nw00c0Y, vrow 1001 nw00c0X])) (ex := .normal)
      (keep := keepOf (nwNeed i 8 8 256 b1 b2 b3 b4) g 181 nwHav) (M1 := vrow b4 u :: vrow b3 s :: ([] ++ [vrow b2 b, vrow b1 a])) rfl (nw00c0D a b s u i) nw00c0Ts (nw00c0D_ok a b s u i xx hi' hX hc (by rw [hP]; repeat' (first | rfl | omega | split)) (by rw [hQ]; repeat' (first | rfl | omega | split))) (fun β => by kernel_rfl) hS hq
  · exact ev_code (E := envW [a, b, s, u]) (E' := envW [nw00c1X, nw00c1Y, nw00c1S, nw00c1U]) rfl (sumW_ok _ hb) (fuel := 40) (c := nwBlk) (vals' := valsOf (nwNeed 0 8 8 256 1001 1002 1003 1004) (fun _ => undef) 181) (M' := vrow 1004 nw00c1U :: vrow 1003 nw00c1S :: ([] ++ [vrow 1002 nw00c1Y, vrow 1001 nw00c1X])) (ex := .normal)
      (keep := keepOf (nwNeed i 8 8 256 b1 b2 b3 b4) g 181 nwHav) (M1 := vrow b4 u :: vrow b3 s :: ([] ++ [vrow b2 b, vrow b1 a])) rfl (nw00c1D a b s u i) nw00c1Ts (nw00c1D_ok a b s u i xx hi' hX hc (by rw [hP]; repeat' (first | rfl | omega | split)) (by rw [hQ]; repeat' (first | rfl | omega | split))) (fun β => by kernel_rfl) hS hq
  · exact ev_code (E := envW [a, b, s, u]) (E' := envW [nw00c2X, nw00c2Y, nw00c2S, nw00c2U]) rfl (sumW_ok _ hb) (fuel := 40) (c := nwBlk) (vals' := valsOf (nwNeed 0 8 8 256 1001 1002 1003 1004) (fun _ => undef) 181) (M' := vrow 1004 nw00c2U :: vrow 1003 nw00c2S :: ([] ++ [vrow 1002 nw00c2Y, vrow 1001 nw00c2X])) (ex := .normal)
      (keep := keepOf (nwNeed i 8 8 256 b1 b2 b3 b4) g 181 nwHav) (M1 := vrow b4 u :: vrow b3 s :: ([] ++ [vrow b2 b, vrow b1 a])) rfl (nw00c2D a b s u i) nw00c2Ts (nw00c2D_ok a b s u i xx hi' hX hc (by rw [hP]; repeat' (first | rfl | omega | split)) (by rw [hQ]; repeat' (first | rfl | omega | split))) (fun β => by kernel_rfl) hS hq
  · exact ev_code (E := envW [a, b, s, u]) (E' := envW [nw00c3X, nw00c3Y, nw00c3S, nw00c3U]) rfl (sumW_ok _ hb) (fuel := 40) (c := nwBlk) (vals' := valsOf (nwNeed 0 8 8 256 1001 1002 1003 1004) (fun _ => undef) 181) (M' := vrow 1004 nw00c3U :: vrow 1003 nw00c3S :: ([] ++ [vrow 1002 nw00c3Y, vrow 1001 nw00c3X])) (ex := .normal)
      (keep := keepOf (nwNeed i 8 8 256 b1 b2 b3 b4) g 181 nwHav) (M1 := vrow b4 u :: vrow b3 s :: ([] ++ [vrow b2 b, vrow b1 a])) rfl (nw00c3D a b s u i) nw00c3Ts (nw00c3D_ok a b s u i xx hi' hX hc (by rw [hP]; repeat' (first | rfl | omega | split)) (by rw [hQ]; repeat' (first | rfl | omega | split))) (fun β => by kernel_rfl) hS hq
  · exact ev_code (E := envW [a, b, s, u]) (E' := envW [nw00c4X, nw00c4Y, nw00c4S, nw00c4U]) rfl (sumW_ok _ hb) (fuel := 40) (c := nwBlk) (vals' := valsOf (nwNeed 0 8 8 256 1001 1002 1003 1004) (fun _ => undef) 181) (M' := vrow 1004 nw00c4U :: vrow 1003 nw00c4S :: ([] ++ [vrow 1002 nw00c4Y, vrow 1001 nw00c4X])) (ex := .normal)
      (keep := keepOf (nwNeed i 8 8 256 b1 b2 b3 b4) g 181 nwHav) (M1 := vrow b4 u :: vrow b3 s :: ([] ++ [vrow b2 b, vrow b1 a])) rfl (nw00c4D a b s u i) nw00c4Ts (nw00c4D_ok a b s u i xx hi' hX hc (by rw [hP]; repeat' (first | rfl | omega | split)) (by rw [hQ]; repeat' (first | rfl | omega | split))) (fun β => by kernel_rfl) hS hq
theorem nwR01 (r1 r2 : Rw) (b1 b2 b3 b4 : Nat) (a b s u : Nat → Int) (hb : ∀ x ∈ [a, b, s, u], Byt x) (g : Nat → Value) (i xx : Int) (hi' : 8 ≤ i) (hX : sgnI b 16 (IntKind.i64.wrap (i - 8)) = xx) (hP : sgnI s 8 i = holdI xx (-128) 127) (hQ : IntKind.i64.wrap (getI u 8 i) = holdI xx 0 255) {w0 w : World}
    (hS : SG w0 (vrow b4 u :: vrow b3 s :: ([] ++ [vrow b2 b, vrow b1 a])) w) {Q : Exit → Act → World → Prop}
    (hq : ∀ (T' : Tm) w', T'.n = 181 → (∀ p ∈ keepOf (nwNeed i 8 8 256 b1 b2 b3 b4) g 181 nwHav, tget T' p.1 = p.2) → SG w0 (vrow b4 u :: vrow b3 s :: ([] ++ [vrow b2 b, vrow b1 a])) w' → Q .normal ⟨T'.toArray, []⟩ w') :
    wpX Try.prog nwBlk Q ⟨(valsOf (nwNeed i 8 8 256 b1 b2 b3 b4) g 181).toArray, []⟩ w := by
  unfold holdI at hP hQ
  have hc : xx < -128 ∨ (-128 ≤ xx ∧ xx < 0) ∨ (0 ≤ xx ∧ xx < 128) ∨ (128 ≤ xx ∧ xx < 256) ∨ 256 ≤ xx := by omega
  rcases hc with hc | hc | hc | hc | hc
  · exact ev_code (E := envW [a, b, s, u]) (E' := envW [nw01c0X, nw01c0Y, nw01c0S, nw01c0U]) rfl (sumW_ok _ hb) (fuel := 40) (c := nwBlk) (vals' := valsOf (nwNeed 8 8 8 256 1001 1002 1003 1004) (fun _ => undef) 181) (M' := vrow 1004 nw01c0U :: vrow 1003 nw01c0S :: ([] ++ [vrow 1002 nw01c0Y, vrow 1001 nw01c0X])) (ex := .normal)
      (keep := keepOf (nwNeed i 8 8 256 b1 b2 b3 b4) g 181 nwHav) (M1 := vrow b4 u :: vrow b3 s :: ([] ++ [vrow b2 b, vrow b1 a])) rfl (nw01c0D a b s u i) nw01c0Ts (nw01c0D_ok a b s u i xx hi' hX hc (by rw [hP]; repeat' (first | rfl | omega | split)) (by rw [hQ]; repeat' (first | rfl | omega | split))) (fun β => by kernel_rfl) hS hq
  · exact ev_code (E := envW [a, b, s, u]) (E' := envW [nw01c1X, nw01c1Y, nw01c1S, nw01c1U]) rfl (sumW_ok _ hb) (fuel := 40) (c := nwBlk) (vals' := valsOf (nwNeed 8 8 8 256 1001 1002 1003 1004) (fun _ => undef) 181) (M' := vrow 1004 nw01c1U :: vrow 1003 nw01c1S :: ([] ++ [vrow 1002 nw01c1Y, vrow 1001 nw01c1X])) (ex := .normal)
      (keep := keepOf (nwNeed i 8 8 256 b1 b2 b3 b4) g 181 nwHav) (M1 := vrow b4 u :: vrow b3 s :: ([] ++ [vrow b2 b, vrow b1 a])) rfl (nw01c1D a b s u i) nw01c1Ts (nw01c1D_ok a b s u i xx hi' hX hc (by rw [hP]; repeat' (first | rfl | omega | split)) (by rw [hQ]; repeat' (first | rfl | omega | split))) (fun β => by kernel_rfl) hS hq
  · exact ev_code (E := envW [a, b, s, u]) (E' := envW [nw01c2X, nw01c2Y, nw01c2S, nw01c2U]) rfl (sumW_ok _ hb) (fuel := 40) (c := nwBlk) (vals' := valsOf (nwNeed 8 8 8 256 1001 1002 1003 1004) (fun _ => undef) 181) (M' := vrow 1004 nw01c2U :: vrow 1003 nw01c2S :: ([] ++ [vrow 1002 nw01c2Y, vrow 1001 nw01c2X])) (ex := .normal)
      (keep := keepOf (nwNeed i 8 8 256 b1 b2 b3 b4) g 181 nwHav) (M1 := vrow b4 u :: vrow b3 s :: ([] ++ [vrow b2 b, vrow b1 a])) rfl (nw01c2D a b s u i) nw01c2Ts (nw01c2D_ok a b s u i xx hi' hX hc (by rw [hP]; repeat' (first | rfl | omega | split)) (by rw [hQ]; repeat' (first | rfl | omega | split))) (fun β => by kernel_rfl) hS hq
  · exact ev_code (E := envW [a, b, s, u]) (E' := envW [nw01c3X, nw01c3Y, nw01c3S, nw01c3U]) rfl (sumW_ok _ hb) (fuel := 40) (c := nwBlk) (vals' := valsOf (nwNeed 8 8 8 256 1001 1002 1003 1004) (fun _ => undef) 181) (M' := vrow 1004 nw01c3U :: vrow 1003 nw01c3S :: ([] ++ [vrow 1002 nw01c3Y, vrow 1001 nw01c3X])) (ex := .normal)
      (keep := keepOf (nwNeed i 8 8 256 b1 b2 b3 b4) g 181 nwHav) (M1 := vrow b4 u :: vrow b3 s :: ([] ++ [vrow b2 b, vrow b1 a])) rfl (nw01c3D a b s u i) nw01c3Ts (nw01c3D_ok a b s u i xx hi' hX hc (by rw [hP]; repeat' (first | rfl | omega | split)) (by rw [hQ]; repeat' (first | rfl | omega | split))) (fun β => by kernel_rfl) hS hq
  · exact ev_code (E := envW [a, b, s, u]) (E' := envW [nw01c4X, nw01c4Y, nw01c4S, nw01c4U]) rfl (sumW_ok _ hb) (fuel := 40) (c := nwBlk) (vals' := valsOf (nwNeed 8 8 8 256 1001 1002 1003 1004) (fun _ => undef) 181) (M' := vrow 1004 nw01c4U :: vrow 1003 nw01c4S :: ([] ++ [vrow 1002 nw01c4Y, vrow 1001 nw01c4X])) (ex := .normal)
      (keep := keepOf (nwNeed i 8 8 256 b1 b2 b3 b4) g 181 nwHav) (M1 := vrow b4 u :: vrow b3 s :: ([] ++ [vrow b2 b, vrow b1 a])) rfl (nw01c4D a b s u i) nw01c4Ts (nw01c4D_ok a b s u i xx hi' hX hc (by rw [hP]; repeat' (first | rfl | omega | split)) (by rw [hQ]; repeat' (first | rfl | omega | split))) (fun β => by kernel_rfl) hS hq
theorem nwR10 (r1 r2 : Rw) (b1 b2 b3 b4 : Nat) (a b s u : Nat → Int) (hb : ∀ x ∈ [a, b, s, u], Byt x) (g : Nat → Value) (i xx : Int) (hi' : i < 4) (hX : sgnI a 32 (Int.tmod i 4) = xx) (hP : sgnI s 16 i = holdI xx (-32768) 32767) (hQ : IntKind.i64.wrap (getI u 16 i) = holdI xx 0 65535) {w0 w : World}
    (hS : SG w0 (vrow b4 u :: vrow b3 s :: ([r1, r2] ++ [vrow b2 b, vrow b1 a])) w) {Q : Exit → Act → World → Prop}
    (hq : ∀ (T' : Tm) w', T'.n = 181 → (∀ p ∈ keepOf (nwNeed i 16 4 65536 b1 b2 b3 b4) g 181 nwHav, tget T' p.1 = p.2) → SG w0 (vrow b4 u :: vrow b3 s :: ([r1, r2] ++ [vrow b2 b, vrow b1 a])) w' → Q .normal ⟨T'.toArray, []⟩ w') :
    wpX Try.prog nwBlk Q ⟨(valsOf (nwNeed i 16 4 65536 b1 b2 b3 b4) g 181).toArray, []⟩ w := by
  unfold holdI at hP hQ
  have hc : xx < -32768 ∨ (-32768 ≤ xx ∧ xx < 0) ∨ (0 ≤ xx ∧ xx < 32768) ∨ (32768 ≤ xx ∧ xx < 65536) ∨ 65536 ≤ xx := by omega
  rcases hc with hc | hc | hc | hc | hc
  · exact ev_code (E := envW [a, b, s, u]) (E' := envW [nw10c0X, nw10c0Y, nw10c0S, nw10c0U]) rfl (sumW_ok _ hb) (fuel := 40) (c := nwBlk) (vals' := valsOf (nwNeed 0 16 4 65536 1001 1002 1003 1004) (fun _ => undef) 181) (M' := vrow 1004 nw10c0U :: vrow 1003 nw10c0S :: ([vrow 1006 fun _ => 0, vrow 1005 fun _ => 0] ++ [vrow 1002 nw10c0Y, vrow 1001 nw10c0X])) (ex := .normal)
      (keep := keepOf (nwNeed i 16 4 65536 b1 b2 b3 b4) g 181 nwHav) (M1 := vrow b4 u :: vrow b3 s :: ([r1, r2] ++ [vrow b2 b, vrow b1 a])) rfl (nw10c0D a b s u i) nw10c0Ts (nw10c0D_ok a b s u i xx hi' hX hc (by rw [hP]; repeat' (first | rfl | omega | split)) (by rw [hQ]; repeat' (first | rfl | omega | split))) (fun β => by kernel_rfl) hS hq
  · exact ev_code (E := envW [a, b, s, u]) (E' := envW [nw10c1X, nw10c1Y, nw10c1S, nw10c1U]) rfl (sumW_ok _ hb) (fuel := 40) (c := nwBlk) (vals' := valsOf (nwNeed 0 16 4 65536 1001 1002 1003 1004) (fun _ => undef) 181) (M' := vrow 1004 nw10c1U :: vrow 1003 nw10c1S :: ([vrow 1006 fun _ => 0, vrow 1005 fun _ => 0] ++ [vrow 1002 nw10c1Y, vrow 1001 nw10c1X])) (ex := .normal)
      (keep := keepOf (nwNeed i 16 4 65536 b1 b2 b3 b4) g 181 nwHav) (M1 := vrow b4 u :: vrow b3 s :: ([r1, r2] ++ [vrow b2 b, vrow b1 a])) rfl (nw10c1D a b s u i) nw10c1Ts (nw10c1D_ok a b s u i xx hi' hX hc (by rw [hP]; repeat' (first | rfl | omega | split)) (by rw [hQ]; repeat' (first | rfl | omega | split))) (fun β => by kernel_rfl) hS hq
  · exact ev_code (E := envW [a, b, s, u]) (E' := envW [nw10c2X, nw10c2Y, nw10c2S, nw10c2U]) rfl (sumW_ok _ hb) (fuel := 40) (c := nwBlk) (vals' := valsOf (nwNeed 0 16 4 65536 1001 1002 1003 1004) (fun _ => undef) 181) (M' := vrow 1004 nw10c2U :: vrow 1003 nw10c2S :: ([vrow 1006 fun _ => 0, vrow 1005 fun _ => 0] ++ [vrow 1002 nw10c2Y, vrow 1001 nw10c2X])) (ex := .normal)
      (keep := keepOf (nwNeed i 16 4 65536 b1 b2 b3 b4) g 181 nwHav) (M1 := vrow b4 u :: vrow b3 s :: ([r1, r2] ++ [vrow b2 b, vrow b1 a])) rfl (nw10c2D a b s u i) nw10c2Ts (nw10c2D_ok a b s u i xx hi' hX hc (by rw [hP]; repeat' (first | rfl | omega | split)) (by rw [hQ]; repeat' (first | rfl | omega | split))) (fun β => by kernel_rfl) hS hq
  · exact ev_code (E := envW [a, b, s, u]) (E' := envW [nw10c3X, nw10c3Y, nw10c3S, nw10c3U]) rfl (sumW_ok _ hb) (fuel := 40) (c := nwBlk) (vals' := valsOf (nwNeed 0 16 4 65536 1001 1002 1003 1004) (fun _ => undef) 181) (M' := vrow 1004 nw10c3U :: vrow 1003 nw10c3S :: ([vrow 1006 fun _ => 0, vrow 1005 fun _ => 0] ++ [vrow 1002 nw10c3Y, vrow 1001 nw10c3X])) (ex := .normal)
      (keep := keepOf (nwNeed i 16 4 65536 b1 b2 b3 b4) g 181 nwHav) (M1 := vrow b4 u :: vrow b3 s :: ([r1, r2] ++ [vrow b2 b, vrow b1 a])) rfl (nw10c3D a b s u i) nw10c3Ts (nw10c3D_ok a b s u i xx hi' hX hc (by rw [hP]; repeat' (first | rfl | omega | split)) (by rw [hQ]; repeat' (first | rfl | omega | split))) (fun β => by kernel_rfl) hS hq
  · exact ev_code (E := envW [a, b, s, u]) (E' := envW [nw10c4X, nw10c4Y, nw10c4S, nw10c4U]) rfl (sumW_ok _ hb) (fuel := 40) (c := nwBlk) (vals' := valsOf (nwNeed 0 16 4 65536 1001 1002 1003 1004) (fun _ => undef) 181) (M' := vrow 1004 nw10c4U :: vrow 1003 nw10c4S :: ([vrow 1006 fun _ => 0, vrow 1005 fun _ => 0] ++ [vrow 1002 nw10c4Y, vrow 1001 nw10c4X])) (ex := .normal)
      (keep := keepOf (nwNeed i 16 4 65536 b1 b2 b3 b4) g 181 nwHav) (M1 := vrow b4 u :: vrow b3 s :: ([r1, r2] ++ [vrow b2 b, vrow b1 a])) rfl (nw10c4D a b s u i) nw10c4Ts (nw10c4D_ok a b s u i xx hi' hX hc (by rw [hP]; repeat' (first | rfl | omega | split)) (by rw [hQ]; repeat' (first | rfl | omega | split))) (fun β => by kernel_rfl) hS hq
theorem nwR11 (r1 r2 : Rw) (b1 b2 b3 b4 : Nat) (a b s u : Nat → Int) (hb : ∀ x ∈ [a, b, s, u], Byt x) (g : Nat → Value) (i xx : Int) (hi' : 4 ≤ i) (hX : sgnI b 32 (IntKind.i64.wrap (i - 4)) = xx) (hP : sgnI s 16 i = holdI xx (-32768) 32767) (hQ : IntKind.i64.wrap (getI u 16 i) = holdI xx 0 65535) {w0 w : World}
    (hS : SG w0 (vrow b4 u :: vrow b3 s :: ([r1, r2] ++ [vrow b2 b, vrow b1 a])) w) {Q : Exit → Act → World → Prop}
    (hq : ∀ (T' : Tm) w', T'.n = 181 → (∀ p ∈ keepOf (nwNeed i 16 4 65536 b1 b2 b3 b4) g 181 nwHav, tget T' p.1 = p.2) → SG w0 (vrow b4 u :: vrow b3 s :: ([r1, r2] ++ [vrow b2 b, vrow b1 a])) w' → Q .normal ⟨T'.toArray, []⟩ w') :
    wpX Try.prog nwBlk Q ⟨(valsOf (nwNeed i 16 4 65536 b1 b2 b3 b4) g 181).toArray, []⟩ w := by
  unfold holdI at hP hQ
  have hc : xx < -32768 ∨ (-32768 ≤ xx ∧ xx < 0) ∨ (0 ≤ xx ∧ xx < 32768) ∨ (32768 ≤ xx ∧ xx < 65536) ∨ 65536 ≤ xx := by omega
  rcases hc with hc | hc | hc | hc | hc
  · exact ev_code (E := envW [a, b, s, u]) (E' := envW [nw11c0X, nw11c0Y, nw11c0S, nw11c0U]) rfl (sumW_ok _ hb) (fuel := 40) (c := nwBlk) (vals' := valsOf (nwNeed 4 16 4 65536 1001 1002 1003 1004) (fun _ => undef) 181) (M' := vrow 1004 nw11c0U :: vrow 1003 nw11c0S :: ([vrow 1006 fun _ => 0, vrow 1005 fun _ => 0] ++ [vrow 1002 nw11c0Y, vrow 1001 nw11c0X])) (ex := .normal)
      (keep := keepOf (nwNeed i 16 4 65536 b1 b2 b3 b4) g 181 nwHav) (M1 := vrow b4 u :: vrow b3 s :: ([r1, r2] ++ [vrow b2 b, vrow b1 a])) rfl (nw11c0D a b s u i) nw11c0Ts (nw11c0D_ok a b s u i xx hi' hX hc (by rw [hP]; repeat' (first | rfl | omega | split)) (by rw [hQ]; repeat' (first | rfl | omega | split))) (fun β => by kernel_rfl) hS hq
  · exact ev_code (E := envW [a, b, s, u]) (E' := envW [nw11c1X, nw11c1Y, nw11c1S, nw11c1U]) rfl (sumW_ok _ hb) (fuel := 40) (c := nwBlk) (vals' := valsOf (nwNeed 4 16 4 65536 1001 1002 1003 1004) (fun _ => undef) 181) (M' := vrow 1004 nw11c1U :: vrow 1003 nw11c1S :: ([vrow 1006 fun _ => 0, vrow 1005 fun _ => 0] ++ [vrow 1002 nw11c1Y, vrow 1001 nw11c1X])) (ex := .normal)
      (keep := keepOf (nwNeed i 16 4 65536 b1 b2 b3 b4) g 181 nwHav) (M1 := vrow b4 u :: vrow b3 s :: ([r1, r2] ++ [vrow b2 b, vrow b1 a])) rfl (nw11c1D a b s u i) nw11c1Ts (nw11c1D_ok a b s u i xx hi' hX hc (by rw [hP]; repeat' (first | rfl | omega | split)) (by rw [hQ]; repeat' (first | rfl | omega | split))) (fun β => by kernel_rfl) hS hq
  · exact ev_code (E := envW [a, b, s, u]) (E' := envW [nw11c2X, nw11c2Y, nw11c2S, nw11c2U]) rfl (sumW_ok _ hb) (fuel := 40) (c := nwBlk) (vals' := valsOf (nwNeed 4 16 4 65536 1001 1002 1003 1004) (fun _ => undef) 181) (M' := vrow 1004 nw11c2U :: vrow 1003 nw11c2S :: ([vrow 1006 fun _ => 0, vrow 1005 fun _ => 0] ++ [vrow 1002 nw11c2Y, vrow 1001 nw11c2X])) (ex := .normal)
      (keep := keepOf (nwNeed i 16 4 65536 b1 b2 b3 b4) g 181 nwHav) (M1 := vrow b4 u :: vrow b3 s :: ([r1, r2] ++ [vrow b2 b, vrow b1 a])) rfl (nw11c2D a b s u i) nw11c2Ts (nw11c2D_ok a b s u i xx hi' hX hc (by rw [hP]; repeat' (first | rfl | omega | split)) (by rw [hQ]; repeat' (first | rfl | omega | split))) (fun β => by kernel_rfl) hS hq
  · exact ev_code (E := envW [a, b, s, u]) (E' := envW [nw11c3X, nw11c3Y, nw11c3S, nw11c3U]) rfl (sumW_ok _ hb) (fuel := 40) (c := nwBlk) (vals' := valsOf (nwNeed 4 16 4 65536 1001 1002 1003 1004) (fun _ => undef) 181) (M' := vrow 1004 nw11c3U :: vrow 1003 nw11c3S :: ([vrow 1006 fun _ => 0, vrow 1005 fun _ => 0] ++ [vrow 1002 nw11c3Y, vrow 1001 nw11c3X])) (ex := .normal)
      (keep := keepOf (nwNeed i 16 4 65536 b1 b2 b3 b4) g 181 nwHav) (M1 := vrow b4 u :: vrow b3 s :: ([r1, r2] ++ [vrow b2 b, vrow b1 a])) rfl (nw11c3D a b s u i) nw11c3Ts (nw11c3D_ok a b s u i xx hi' hX hc (by rw [hP]; repeat' (first | rfl | omega | split)) (by rw [hQ]; repeat' (first | rfl | omega | split))) (fun β => by kernel_rfl) hS hq
  · exact ev_code (E := envW [a, b, s, u]) (E' := envW [nw11c4X, nw11c4Y, nw11c4S, nw11c4U]) rfl (sumW_ok _ hb) (fuel := 40) (c := nwBlk) (vals' := valsOf (nwNeed 4 16 4 65536 1001 1002 1003 1004) (fun _ => undef) 181) (M' := vrow 1004 nw11c4U :: vrow 1003 nw11c4S :: ([vrow 1006 fun _ => 0, vrow 1005 fun _ => 0] ++ [vrow 1002 nw11c4Y, vrow 1001 nw11c4X])) (ex := .normal)
      (keep := keepOf (nwNeed i 16 4 65536 b1 b2 b3 b4) g 181 nwHav) (M1 := vrow b4 u :: vrow b3 s :: ([r1, r2] ++ [vrow b2 b, vrow b1 a])) rfl (nw11c4D a b s u i) nw11c4Ts (nw11c4D_ok a b s u i xx hi' hX hc (by rw [hP]; repeat' (first | rfl | omega | split)) (by rw [hQ]; repeat' (first | rfl | omega | split))) (fun β => by kernel_rfl) hS hq
end Wd
end Go.Proofs.Ytkccaaieadgdbaa
