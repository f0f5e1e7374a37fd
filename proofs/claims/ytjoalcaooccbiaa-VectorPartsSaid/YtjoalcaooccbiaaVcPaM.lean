/-
 Of layer 9: what the runs of VectorParts stand on: compare.Bits refused; which call of vector.Do it is, by the halves that are laid; a vector and its halves. Conditions: bytes.
-/
import Derived.Test.YtjoalcaooccbiaaVcOpM
namespace Go.Proofs.Ytjoalcaooccbiaa
open Go.RowKit VecM Ev
namespace Vc
/-- how many vectors compare.Bits takes isn't how many there are -/
def bitsNo (op : Int) (n : Nat) : Bool := bitN op == 0 || bitN op != (n : Int)
noncomputable def envB : Env := { P := Try.prog, known := [], sum := sumD }
noncomputable def bnPath (op op' : Int) (x : Option Addr) (n c n' : Nat) (β : Nat → Fr) : Out :=
 evPathM envB envB 60 14 [.int .i64 op, .slice x n c] [.int .i64 op', .slice none n' n'] [] [] (.tuple #[.agg (bs fun _ => 0), .int .i64 1]) β
def t_bn0 : List Nat := [0,1,1,1,1,1]
def t_bn1 : List Nat := [2,1,1,1,1,1]
theorem bits_no (op : Int) (x : Option Addr) (n c : Nat) (h : bitsNo op n = true) (w : World) : Calls Try.prog 14 #[.int .i64 op, .slice x n c] w fun e w' => e = .returned (.tuple #[.agg (bs fun _ => 0), .int .i64 1]) ∧ Gr w w' := by
 have hS : SG w [] w := ⟨St.start w, fun r hr => by cases hr⟩
 cases h0 : (bitN op == 0) with
 | true => exact ev_pathM (E := envB) (E' := envB) rfl (sumD_ok rfl bnil) (fuel := 60) (args := [.int .i64 op, .slice x n c]) (args' := [.int .i64 5, .slice none 1 1]) (M := []) (M' := []) [(bitN op == 0, true)] t_bn0 (cons_d h0 nil_d) (fun β => by kernel_rfl) w hS
 | false =>
  have h1 : (bitN op != (n : Int)) = true := by unfold bitsNo at h; rw [h0] at h; exact h
  exact ev_pathM (E := envB) (E' := envB) rfl (sumD_ok rfl bnil) (fuel := 60) (args := [.int .i64 op, .slice x n c]) (args' := [.int .i64 64845, .slice none 2 2]) (M := []) (M' := []) [(bitN op == 0, false), (bitN op != (n : Int), true)] t_bn1 (cons_d h0 (cons_d h1 nil_d)) (fun β => by kernel_rfl) w hS
noncomputable def bitsR (op : Int) : CsF := fun f args M =>
 match Nat.beq f 14 with
 | false => none
 | true => match args with
  | [.int .i64 z, .slice _ n _] => some ⟨M, [decide (z = op), bitsNo op n], 0, fun _ => .tuple #[.agg (bs fun _ => 0), .int .i64 1], fun _ => []⟩
  | _ => none
theorem bitsR_ok (op : Int) : COk (bitsR op) := by
 intro f args M H hq hrows hpre w0 w hS
 unfold bitsR at hq
 split at hq
 ·cases hq
 ·rename_i hf
  obtain rfl := Nat.eq_of_beq_eq_true hf
  split at hq
  ·rename_i z x n c
   cases hq
   have p1 := of_decide_eq_true (hpre _ (List.mem_cons_self ..))
   have p2 := hpre _ (List.mem_cons_of_mem _ (List.mem_cons_self ..))
   subst p1
   exact (bits_no z x n c p2 w).mono fun e w' h => ⟨[], rfl, h.1, hS.grow h.2⟩
  ·cases hq
/-- of so many vectors it is taken, of others refused -/
noncomputable def bitsB (k : Nat) (op : Int) (vs : List (Nat → Int)) : CsF := fun f args M =>
 match args with
 | [_, .slice _ n _] => match Nat.beq n k with
  | true => bitsS 0 op vs f args M
  | false => bitsR op f args M
 | _ => none
theorem bitsB_ok (k : Nat) (op : Int) (vs : List (Nat → Int)) : COk (bitsB k op vs) := by
 intro f args M H hq
 unfold bitsB at hq
 split at hq
 ·split at hq
  ·exact bitsS_ok 0 op vs f _ M H hq
  ·exact bitsR_ok op f _ M H hq
 ·cases hq
/-- how many rows are of a type -/
def cntT (t : TypeId) : List Rw → Nat
 | [] => 0
 | [_] => 0
 | r :: M => match Nat.beq r.t t with | true => cntT t M + 1 | false => cntT t M
/-- one of some, by how many rows are of a type -/
noncomputable def selS (t : TypeId) (l : List CsF) : CsF := fun f args M => match l[cntT t M]? with | some c => c f args M | none => none
theorem selS_ok (t : TypeId) (l : List CsF) (h : ∀ c ∈ l, COk c) : COk (selS t l) := by
 intro f args M H hq
 unfold selS at hq
 split at hq
 ·rename_i c hc
  exact h c (List.mem_of_getElem? hc) f args M H hq
 ·cases hq
/-- by the instruction's first number -/
noncomputable def byA (c1 c0 : CsF) : CsF := fun f args M => match args with
 | [.agg ⟨[_, .int .i64 A, _, _, _, _]⟩, _] => match decide (A = 1) with
  | true => c1 f args M
  | false => c0 f args M
 | _ => none
theorem byA_ok {c1 c0 : CsF} (h1 : COk c1) (h0 : COk c0) : COk (byA c1 c0) := by
 intro f args M H hq
 unfold byA at hq
 split at hq
 ·split at hq
  ·exact h1 f _ M H hq
  ·exact h0 f _ M H hq
 ·cases hq
/-- a vector without bytes beyond it -/
def norm (a : Nat → Int) : Nat → Int := fun m => if m < 16 then a m else 0
theorem norm_byt {a : Nat → Int} (h : Byt a) : Byt (norm a) := fun m => by unfold norm; split; exact h m; exact ⟨Int.le_refl _, by decide⟩
theorem bs_norm (a : Nat → Int) : bs a = bs (norm a) := bs_congr fun m hm => by unfold norm; rw [if_pos hm]
end Vc
end Go.Proofs.Ytjoalcaooccbiaa
