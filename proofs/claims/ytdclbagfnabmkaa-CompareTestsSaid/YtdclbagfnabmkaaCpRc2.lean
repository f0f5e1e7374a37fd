/-
  The reference's Cmp of layer 6 is compare.Cmp's answer, for all opcodes and vectors. Conditions: bytes, 64 bits.
-/
import Derived.Test.YtdclbagfnabmkaaCpRc
namespace Go.Proofs.Ytdclbagfnabmkaa
open Go.RowKit VecM Ev
namespace Cp
theorem stp_true (w i : Int) (o : Nat → Int) : stp w i true o = setI o w i 18446744073709551615 := rfl
theorem sgn_eq {w : Int} {b c : Nat → Int} {j : Nat} (_hj : thereB w j = true) (h : getI b w j = getI c w j) : sgnI b w j = sgnI c w j := by unfold sgnI; rw [h]
theorem sg_inj {w x y : Int} (hw : w = 8 ∨ w = 16 ∨ w = 32 ∨ w = 64) (hx : 0 ≤ x ∧ x < 256 ^ wid w) (hy : 0 ≤ y ∧ y < 256 ^ wid w) (h : sg w x = sg w y) : x = y := by
  have key : ∀ W V : Int, 256 ^ wid w = W → 2 ^ w.toNat = W → 2 ^ (w.toNat - 1) = V → W = 2 * V → x = y := by
    intro W V h1 h2 h3 h4
    unfold sg at h
    rw [h2, h3] at h
    rw [h1] at hx hy
    split at h <;> split at h <;> omega
  rcases hw with rfl | rfl | rfl | rfl
  · exact key 256 128 (by decide) (by decide) (by decide) (by decide)
  · exact key 65536 32768 (by decide) (by decide) (by decide) (by decide)
  · exact key 4294967296 2147483648 (by decide) (by decide) (by decide) (by decide)
  · exact key 18446744073709551616 9223372036854775808 (by decide) (by decide) (by decide) (by decide)
def cP (w k : Int) (a b : Nat → Int) (j : Nat) : Bool := stB k (getI a w j) (getI b w j) (sgnI a w j) (sgnI b w j)
theorem c_round (w k : Int) (hw : w = 8 ∨ w = 16 ∨ w = 32 ∨ w = 64) (hk : 0 ≤ k ∧ k ≤ 9) (a b : Nat → Int) (ha : Byt a) (hb : Byt b) (n : Nat) (hn : (n : Int) < lanesI w) (o : Nat → Int) : CRun w k a b o n (cP w k a b n) := by
  have hj : thereB w (n : Int) = true := there_iff.2 ⟨by omega, hn⟩
  have eqv : sgnI a w n = sgnI b w n ↔ getI a w n = getI b w n := by
    constructor
    · intro h
      unfold sgnI at h
      rw [if_pos hj, if_pos hj] at h
      exact sg_inj hw (getI_bd ha w n) (getI_bd hb w n) h
    · exact sgn_eq hj
  have hk2 : k = 0 ∨ k = 1 ∨ k = 2 ∨ k = 3 ∨ k = 4 ∨ k = 5 ∨ k = 6 ∨ k = 7 ∨ k = 8 ∨ k = 9 := by omega
  have tri : ∀ X Y : Int, (X < Y ∧ ¬ X > Y) ∨ (¬ X < Y ∧ X > Y) ∨ (¬ X < Y ∧ ¬ X > Y) := fun X Y => by omega
  rcases hk2 with rfl | rfl | rfl | rfl | rfl | rfl | rfl | rfl | rfl | rfl
  · rcases tri (sgnI a w n) (sgnI b w n) with ⟨h1, h2⟩ | ⟨h1, h2⟩ | ⟨h1, h2⟩
    · have e : cP w 0 a b n = false := by
        unfold cP stB
        simp
        omega
      rw [e]
      exact c0l w n hw (by omega) hn a b o ha hb (by simp; omega) (by simp; omega)
    · have e : cP w 0 a b n = false := by
        unfold cP stB
        simp
        omega
      rw [e]
      exact c0m w n hw (by omega) hn a b o ha hb (by simp; omega) (by simp; omega)
    · have e : cP w 0 a b n = true := by
        unfold cP stB
        simp
        omega
      rw [e]
      exact c0e w n hw (by omega) hn a b o ha hb (by simp; omega) (by simp; omega)
  · rcases tri (sgnI a w n) (sgnI b w n) with ⟨h1, h2⟩ | ⟨h1, h2⟩ | ⟨h1, h2⟩
    · have e : cP w 1 a b n = true := by
        unfold cP stB
        simp
        omega
      rw [e]
      exact c1l w n hw (by omega) hn a b o ha hb (by simp; omega) (by simp; omega)
    · have e : cP w 1 a b n = true := by
        unfold cP stB
        simp
        omega
      rw [e]
      exact c1m w n hw (by omega) hn a b o ha hb (by simp; omega) (by simp; omega)
    · have e : cP w 1 a b n = false := by
        unfold cP stB
        simp
        omega
      rw [e]
      exact c1e w n hw (by omega) hn a b o ha hb (by simp; omega) (by simp; omega)
  · rcases tri (sgnI a w n) (sgnI b w n) with ⟨h1, h2⟩ | ⟨h1, h2⟩ | ⟨h1, h2⟩
    · have e : cP w 2 a b n = true := by
        unfold cP stB
        simp
        omega
      rw [e]
      exact c2l w n hw (by omega) hn a b o ha hb (by simp; omega) (by simp; omega)
    · have e : cP w 2 a b n = false := by
        unfold cP stB
        simp
        omega
      rw [e]
      exact c2m w n hw (by omega) hn a b o ha hb (by simp; omega) (by simp; omega)
    · have e : cP w 2 a b n = false := by
        unfold cP stB
        simp
        omega
      rw [e]
      exact c2e w n hw (by omega) hn a b o ha hb (by simp; omega) (by simp; omega)
  · rcases tri (getI a w n) (getI b w n) with ⟨h1, h2⟩ | ⟨h1, h2⟩ | ⟨h1, h2⟩
    · have e : cP w 3 a b n = true := by
        unfold cP stB
        simp
        omega
      rw [e]
      exact c3l w n hw (by omega) hn a b o ha hb (by simp; omega) (by simp; omega)
    · have e : cP w 3 a b n = false := by
        unfold cP stB
        simp
        omega
      rw [e]
      exact c3m w n hw (by omega) hn a b o ha hb (by simp; omega) (by simp; omega)
    · have e : cP w 3 a b n = false := by
        unfold cP stB
        simp
        omega
      rw [e]
      exact c3e w n hw (by omega) hn a b o ha hb (by simp; omega) (by simp; omega)
  · rcases tri (sgnI a w n) (sgnI b w n) with ⟨h1, h2⟩ | ⟨h1, h2⟩ | ⟨h1, h2⟩
    · have e : cP w 4 a b n = false := by
        unfold cP stB
        simp
        omega
      rw [e]
      exact c4l w n hw (by omega) hn a b o ha hb (by simp; omega) (by simp; omega)
    · have e : cP w 4 a b n = true := by
        unfold cP stB
        simp
        omega
      rw [e]
      exact c4m w n hw (by omega) hn a b o ha hb (by simp; omega) (by simp; omega)
    · have e : cP w 4 a b n = false := by
        unfold cP stB
        simp
        omega
      rw [e]
      exact c4e w n hw (by omega) hn a b o ha hb (by simp; omega) (by simp; omega)
  · rcases tri (getI a w n) (getI b w n) with ⟨h1, h2⟩ | ⟨h1, h2⟩ | ⟨h1, h2⟩
    · have e : cP w 5 a b n = false := by
        unfold cP stB
        simp
        omega
      rw [e]
      exact c5l w n hw (by omega) hn a b o ha hb (by simp; omega) (by simp; omega)
    · have e : cP w 5 a b n = true := by
        unfold cP stB
        simp
        omega
      rw [e]
      exact c5m w n hw (by omega) hn a b o ha hb (by simp; omega) (by simp; omega)
    · have e : cP w 5 a b n = false := by
        unfold cP stB
        simp
        omega
      rw [e]
      exact c5e w n hw (by omega) hn a b o ha hb (by simp; omega) (by simp; omega)
  · rcases tri (sgnI a w n) (sgnI b w n) with ⟨h1, h2⟩ | ⟨h1, h2⟩ | ⟨h1, h2⟩
    · have e : cP w 6 a b n = true := by
        unfold cP stB
        simp
        omega
      rw [e]
      exact c6l w n hw (by omega) hn a b o ha hb (by simp; omega) (by simp; omega)
    · have e : cP w 6 a b n = false := by
        unfold cP stB
        simp
        omega
      rw [e]
      exact c6m w n hw (by omega) hn a b o ha hb (by simp; omega) (by simp; omega)
    · have e : cP w 6 a b n = true := by
        unfold cP stB
        simp
        omega
      rw [e]
      exact c6e w n hw (by omega) hn a b o ha hb (by simp; omega) (by simp; omega)
  · rcases tri (getI a w n) (getI b w n) with ⟨h1, h2⟩ | ⟨h1, h2⟩ | ⟨h1, h2⟩
    · have e : cP w 7 a b n = true := by
        unfold cP stB
        simp
        omega
      rw [e]
      exact c7l w n hw (by omega) hn a b o ha hb (by simp; omega) (by simp; omega)
    · have e : cP w 7 a b n = false := by
        unfold cP stB
        simp
        omega
      rw [e]
      exact c7m w n hw (by omega) hn a b o ha hb (by simp; omega) (by simp; omega)
    · have e : cP w 7 a b n = true := by
        unfold cP stB
        simp
        omega
      rw [e]
      exact c7e w n hw (by omega) hn a b o ha hb (by simp; omega) (by simp; omega)
  · have e : cP w 8 a b n = !decide (sgnI a w n < sgnI b w n) := by
      unfold cP stB
      simp
      rw [← decide_not]
      exact decide_eq_decide.2 (by omega)
    rw [e]
    exact c8 w n hw (by omega) hn a b o ha hb
  · have e : cP w 9 a b n = !decide (getI a w n < getI b w n) := by
      unfold cP stB
      simp
      rw [← decide_not]
      exact decide_eq_decide.2 (by omega)
    rw [e]
    exact c9 w n hw (by omega) hn a b o ha hb
noncomputable def cHole (w k : Int) (a b : Nat → Int) (id : Nat) (_ : Code) (T : Tm) (M : List Rw) : Option Hole :=
  match Nat.beq id 5 with
  | false => none
  | true => match tget T 14 with
    | .int .i64 i => match M with
      | [ro, r6, rb, ra] => some (mkHole cBlk 184 (cNeed w k ra.b rb.b ro.b i) [vrow ro.b (msk w (cP w k a b) i.toNat), r6, vrow rb.b b, vrow ra.b a] [decide (0 ≤ i), decide (i < lanesI w)] .normal [] cHav [vrow ro.b (msk w (cP w k a b) (i.toNat + 1)), r6, vrow rb.b b, vrow ra.b a])
      | _ => none
    | _ => none
noncomputable def envC2 (w k : Int) (a b : Nat → Int) : Env := { P := Try.prog, known := [], sum := sumG, hole := cHole w k a b }
theorem c_holes (w k : Int) (hw : w = 8 ∨ w = 16 ∨ w = 32 ∨ w = 64) (hk : 0 ≤ k ∧ k ≤ 9) (a b : Nat → Int) (ha : Byt a) (hb : Byt b) : HolesOk (envC2 w k a b) := by
  intro id body T M H hq hn hneed hrows hpre w0 w1 Q hS hQ
  replace hq : cHole w k a b id body T M = some H := hq
  unfold cHole at hq
  split at hq
  · cases hq
  split at hq
  · rename_i i _
    split at hq
    · cases hq
      have h0 := hpre _ (List.mem_cons_self ..)
      have h1 := hpre _ (List.mem_cons_of_mem _ (List.mem_cons_self ..))
      simp only [decide_eq_true_eq] at h0 h1
      obtain ⟨n, rfl⟩ : ∃ n : Nat, i = n := ⟨i.toNat, by omega⟩
      have e : stp w n (cP w k a b n) (msk w (cP w k a b) n) = msk w (cP w k a b) (n + 1) := by
        rw [msk]
        cases cP w k a b n <;> rfl
      refine mkHole_ok (by simp only [Int.toNat_natCast]; rw [← e]; exact c_round w k hw hk a b ha hb n h1 _ _ _ _ _) (fun p hp => by cases hp) hn hneed (by rw [hrows] at hS; exact hS) fun ξ w' h => hQ ξ w' h
    · cases hq
  · cases hq
noncomputable def rcPath (op w k : Int) (L : Nat) (a b : Nat → Int) (β : Nat → Fr) : Out :=
  evPath (envC2 w k a b) (envC2 w k (smp [1]) zV) 60 12 [.int .i64 op, .agg (bs a), .agg (bs b)] [.int .i64 op, .agg (bs (smp [1])), .agg (bs zV)] (.tuple #[.agg (bs (msk w (cP w k a b) L)), .int .i64 0]) β
--EVTS rc64803Ts | fun (a b : Nat → Int) (β : Nat → Fr) => (rcPath 64803 8 0 16 a b β, ([] : List (Bool × Bool)))
def rc64803Ts : List Nat := [0, 0, 0, 0, 0, 0, 0, 0, 0, 0, 0, 0, 0, 0, 0, 0, 0, 0, 0, 0, 0, 0, 0, 0, 0, 0, 0, 0, 0, 0, 0, 0, 0, 0, 0, 0, 0, 0, 0, 0, 0, 0, 0, 0, 0, 0, 0, 0, 0, 0, 0, 0, 0, 0, 0, 0, 0, 0, 0, 0, 0, 0, 0, 0, 0, 0, 0, 0, 0, 0, 0, 0, 0, 0, 0, 0, 0, 0, 0, 0, 0, 0, 0, 0, 0, 0, 0, 0, 0, 0, 0, 0, 0, 0, 0, 0]
theorem rc64803 (a b : Nat → Int) (ha : Byt a) (hb : Byt b) (w : World) : Calls Try.prog 12 #[.int .i64 64803, .agg (bs a), .agg (bs b)] w fun e w' => e = .returned (.tuple #[.agg (bs (msk 8 (cP 8 0 a b) 16)), .int .i64 0]) ∧ Gr w w' :=
  ev_path (E := envC2 8 0 a b) (E' := envC2 8 0 (smp [1]) zV) rfl (sumG_ok' (envC2 8 0 a b) rfl (fun x hx => by cases hx)) (fuel := 60) (args' := [.int .i64 64803, .agg (bs (smp [1])), .agg (bs zV)]) [] rc64803Ts (fun p hp => by cases hp) (fun β => by kernel_rfl) w (c_holes 8 0 (by omega) (by omega) a b ha hb)
--EVTS rc64804Ts | fun (a b : Nat → Int) (β : Nat → Fr) => (rcPath 64804 8 1 16 a b β, ([] : List (Bool × Bool)))
def rc64804Ts : List Nat := [0, 0, 0, 0, 0, 0, 0, 0, 0, 0, 0, 0, 0, 0, 0, 0, 0, 0, 0, 0, 0, 0, 0, 0, 0, 0, 0, 0, 0, 0, 0, 0, 0, 0, 0, 0, 0, 0, 0, 0, 0, 0, 0, 0, 0, 0, 0, 0, 0, 0, 0, 0, 0, 0, 0, 0, 0, 0, 0, 0, 0, 0, 0, 0, 0, 0, 0, 0, 0, 0, 0, 0, 0, 0, 0, 0, 0, 0, 0, 0, 0, 0, 0, 0, 0, 0, 0, 0, 0, 0, 0, 0, 0, 0, 0, 0]
theorem rc64804 (a b : Nat → Int) (ha : Byt a) (hb : Byt b) (w : World) : Calls Try.prog 12 #[.int .i64 64804, .agg (bs a), .agg (bs b)] w fun e w' => e = .returned (.tuple #[.agg (bs (msk 8 (cP 8 1 a b) 16)), .int .i64 0]) ∧ Gr w w' :=
  ev_path (E := envC2 8 1 a b) (E' := envC2 8 1 (smp [1]) zV) rfl (sumG_ok' (envC2 8 1 a b) rfl (fun x hx => by cases hx)) (fuel := 60) (args' := [.int .i64 64804, .agg (bs (smp [1])), .agg (bs zV)]) [] rc64804Ts (fun p hp => by cases hp) (fun β => by kernel_rfl) w (c_holes 8 1 (by omega) (by omega) a b ha hb)
--EVTS rc64805Ts | fun (a b : Nat → Int) (β : Nat → Fr) => (rcPath 64805 8 2 16 a b β, ([] : List (Bool × Bool)))
def rc64805Ts : List Nat := [0, 0, 0, 0, 0, 0, 0, 0, 0, 0, 0, 0, 0, 0, 0, 0, 0, 0, 0, 0, 0, 0, 0, 0, 0, 0, 0, 0, 0, 0, 0, 0, 0, 0, 0, 0, 0, 0, 0, 0, 0, 0, 0, 0, 0, 0, 0, 0, 0, 0, 0, 0, 0, 0, 0, 0, 0, 0, 0, 0, 0, 0, 0, 0, 0, 0, 0, 0, 0, 0, 0, 0, 0, 0, 0, 0, 0, 0, 0, 0, 0, 0, 0, 0, 0, 0, 0, 0, 0, 0, 0, 0, 0, 0, 0, 0]
theorem rc64805 (a b : Nat → Int) (ha : Byt a) (hb : Byt b) (w : World) : Calls Try.prog 12 #[.int .i64 64805, .agg (bs a), .agg (bs b)] w fun e w' => e = .returned (.tuple #[.agg (bs (msk 8 (cP 8 2 a b) 16)), .int .i64 0]) ∧ Gr w w' :=
  ev_path (E := envC2 8 2 a b) (E' := envC2 8 2 (smp [1]) zV) rfl (sumG_ok' (envC2 8 2 a b) rfl (fun x hx => by cases hx)) (fuel := 60) (args' := [.int .i64 64805, .agg (bs (smp [1])), .agg (bs zV)]) [] rc64805Ts (fun p hp => by cases hp) (fun β => by kernel_rfl) w (c_holes 8 2 (by omega) (by omega) a b ha hb)
--EVTS rc64806Ts | fun (a b : Nat → Int) (β : Nat → Fr) => (rcPath 64806 8 3 16 a b β, ([] : List (Bool × Bool)))
def rc64806Ts : List Nat := [0, 0, 0, 0, 0, 0, 0, 0, 0, 0, 0, 0, 0, 0, 0, 0, 0, 0, 0, 0, 0, 0, 0, 0, 0, 0, 0, 0, 0, 0, 0, 0, 0, 0, 0, 0, 0, 0, 0, 0, 0, 0, 0, 0, 0, 0, 0, 0, 0, 0, 0, 0, 0, 0, 0, 0, 0, 0, 0, 0, 0, 0, 0, 0, 0, 0, 0, 0, 0, 0, 0, 0, 0, 0, 0, 0, 0, 0, 0, 0, 0, 0, 0, 0, 0, 0, 0, 0, 0, 0, 0, 0, 0, 0, 0, 0]
theorem rc64806 (a b : Nat → Int) (ha : Byt a) (hb : Byt b) (w : World) : Calls Try.prog 12 #[.int .i64 64806, .agg (bs a), .agg (bs b)] w fun e w' => e = .returned (.tuple #[.agg (bs (msk 8 (cP 8 3 a b) 16)), .int .i64 0]) ∧ Gr w w' :=
  ev_path (E := envC2 8 3 a b) (E' := envC2 8 3 (smp [1]) zV) rfl (sumG_ok' (envC2 8 3 a b) rfl (fun x hx => by cases hx)) (fuel := 60) (args' := [.int .i64 64806, .agg (bs (smp [1])), .agg (bs zV)]) [] rc64806Ts (fun p hp => by cases hp) (fun β => by kernel_rfl) w (c_holes 8 3 (by omega) (by omega) a b ha hb)
--EVTS rc64807Ts | fun (a b : Nat → Int) (β : Nat → Fr) => (rcPath 64807 8 4 16 a b β, ([] : List (Bool × Bool)))
def rc64807Ts : List Nat := [0, 0, 0, 0, 0, 0, 0, 0, 0, 0, 0, 0, 0, 0, 0, 0, 0, 0, 0, 0, 0, 0, 0, 0, 0, 0, 0, 0, 0, 0, 0, 0, 0, 0, 0, 0, 0, 0, 0, 0, 0, 0, 0, 0, 0, 0, 0, 0, 0, 0, 0, 0, 0, 0, 0, 0, 0, 0, 0, 0, 0, 0, 0, 0, 0, 0, 0, 0, 0, 0, 0, 0, 0, 0, 0, 0, 0, 0, 0, 0, 0, 0, 0, 0, 0, 0, 0, 0, 0, 0, 0, 0, 0, 0, 0, 0]
theorem rc64807 (a b : Nat → Int) (ha : Byt a) (hb : Byt b) (w : World) : Calls Try.prog 12 #[.int .i64 64807, .agg (bs a), .agg (bs b)] w fun e w' => e = .returned (.tuple #[.agg (bs (msk 8 (cP 8 4 a b) 16)), .int .i64 0]) ∧ Gr w w' :=
  ev_path (E := envC2 8 4 a b) (E' := envC2 8 4 (smp [1]) zV) rfl (sumG_ok' (envC2 8 4 a b) rfl (fun x hx => by cases hx)) (fuel := 60) (args' := [.int .i64 64807, .agg (bs (smp [1])), .agg (bs zV)]) [] rc64807Ts (fun p hp => by cases hp) (fun β => by kernel_rfl) w (c_holes 8 4 (by omega) (by omega) a b ha hb)
--EVTS rc64808Ts | fun (a b : Nat → Int) (β : Nat → Fr) => (rcPath 64808 8 5 16 a b β, ([] : List (Bool × Bool)))
def rc64808Ts : List Nat := [0, 0, 0, 0, 0, 0, 0, 0, 0, 0, 0, 0, 0, 0, 0, 0, 0, 0, 0, 0, 0, 0, 0, 0, 0, 0, 0, 0, 0, 0, 0, 0, 0, 0, 0, 0, 0, 0, 0, 0, 0, 0, 0, 0, 0, 0, 0, 0, 0, 0, 0, 0, 0, 0, 0, 0, 0, 0, 0, 0, 0, 0, 0, 0, 0, 0, 0, 0, 0, 0, 0, 0, 0, 0, 0, 0, 0, 0, 0, 0, 0, 0, 0, 0, 0, 0, 0, 0, 0, 0, 0, 0, 0, 0, 0, 0]
theorem rc64808 (a b : Nat → Int) (ha : Byt a) (hb : Byt b) (w : World) : Calls Try.prog 12 #[.int .i64 64808, .agg (bs a), .agg (bs b)] w fun e w' => e = .returned (.tuple #[.agg (bs (msk 8 (cP 8 5 a b) 16)), .int .i64 0]) ∧ Gr w w' :=
  ev_path (E := envC2 8 5 a b) (E' := envC2 8 5 (smp [1]) zV) rfl (sumG_ok' (envC2 8 5 a b) rfl (fun x hx => by cases hx)) (fuel := 60) (args' := [.int .i64 64808, .agg (bs (smp [1])), .agg (bs zV)]) [] rc64808Ts (fun p hp => by cases hp) (fun β => by kernel_rfl) w (c_holes 8 5 (by omega) (by omega) a b ha hb)
--EVTS rc64809Ts | fun (a b : Nat → Int) (β : Nat → Fr) => (rcPath 64809 8 6 16 a b β, ([] : List (Bool × Bool)))
def rc64809Ts : List Nat := [0, 0, 0, 0, 0, 0, 0, 0, 0, 0, 0, 0, 0, 0, 0, 0, 0, 0, 0, 0, 0, 0, 0, 0, 0, 0, 0, 0, 0, 0, 0, 0, 0, 0, 0, 0, 0, 0, 0, 0, 0, 0, 0, 0, 0, 0, 0, 0, 0, 0, 0, 0, 0, 0, 0, 0, 0, 0, 0, 0, 0, 0, 0, 0, 0, 0, 0, 0, 0, 0, 0, 0, 0, 0, 0, 0, 0, 0, 0, 0, 0, 0, 0, 0, 0, 0, 0, 0, 0, 0, 0, 0, 0, 0, 0, 0]
theorem rc64809 (a b : Nat → Int) (ha : Byt a) (hb : Byt b) (w : World) : Calls Try.prog 12 #[.int .i64 64809, .agg (bs a), .agg (bs b)] w fun e w' => e = .returned (.tuple #[.agg (bs (msk 8 (cP 8 6 a b) 16)), .int .i64 0]) ∧ Gr w w' :=
  ev_path (E := envC2 8 6 a b) (E' := envC2 8 6 (smp [1]) zV) rfl (sumG_ok' (envC2 8 6 a b) rfl (fun x hx => by cases hx)) (fuel := 60) (args' := [.int .i64 64809, .agg (bs (smp [1])), .agg (bs zV)]) [] rc64809Ts (fun p hp => by cases hp) (fun β => by kernel_rfl) w (c_holes 8 6 (by omega) (by omega) a b ha hb)
--EVTS rc64810Ts | fun (a b : Nat → Int) (β : Nat → Fr) => (rcPath 64810 8 7 16 a b β, ([] : List (Bool × Bool)))
def rc64810Ts : List Nat := [0, 0, 0, 0, 0, 0, 0, 0, 0, 0, 0, 0, 0, 0, 0, 0, 0, 0, 0, 0, 0, 0, 0, 0, 0, 0, 0, 0, 0, 0, 0, 0, 0, 0, 0, 0, 0, 0, 0, 0, 0, 0, 0, 0, 0, 0, 0, 0, 0, 0, 0, 0, 0, 0, 0, 0, 0, 0, 0, 0, 0, 0, 0, 0, 0, 0, 0, 0, 0, 0, 0, 0, 0, 0, 0, 0, 0, 0, 0, 0, 0, 0, 0, 0, 0, 0, 0, 0, 0, 0, 0, 0, 0, 0, 0, 0]
theorem rc64810 (a b : Nat → Int) (ha : Byt a) (hb : Byt b) (w : World) : Calls Try.prog 12 #[.int .i64 64810, .agg (bs a), .agg (bs b)] w fun e w' => e = .returned (.tuple #[.agg (bs (msk 8 (cP 8 7 a b) 16)), .int .i64 0]) ∧ Gr w w' :=
  ev_path (E := envC2 8 7 a b) (E' := envC2 8 7 (smp [1]) zV) rfl (sumG_ok' (envC2 8 7 a b) rfl (fun x hx => by cases hx)) (fuel := 60) (args' := [.int .i64 64810, .agg (bs (smp [1])), .agg (bs zV)]) [] rc64810Ts (fun p hp => by cases hp) (fun β => by kernel_rfl) w (c_holes 8 7 (by omega) (by omega) a b ha hb)
--EVTS rc64811Ts | fun (a b : Nat → Int) (β : Nat → Fr) => (rcPath 64811 8 8 16 a b β, ([] : List (Bool × Bool)))
def rc64811Ts : List Nat := [0, 0, 0, 0, 0, 0, 0, 0, 0, 0, 0, 0, 0, 0, 0, 0, 0, 0, 0, 0, 0, 0, 0, 0, 0, 0, 0, 0, 0, 0, 0, 0, 0, 0, 0, 0, 0, 0, 0, 0, 0, 0, 0, 0, 0, 0, 0, 0, 0, 0, 0, 0, 0, 0, 0, 0, 0, 0, 0, 0, 0, 0, 0, 0, 0, 0, 0, 0, 0, 0, 0, 0, 0, 0, 0, 0, 0, 0, 0, 0, 0, 0, 0, 0, 0, 0, 0, 0, 0, 0, 0, 0, 0, 0, 0, 0]
theorem rc64811 (a b : Nat → Int) (ha : Byt a) (hb : Byt b) (w : World) : Calls Try.prog 12 #[.int .i64 64811, .agg (bs a), .agg (bs b)] w fun e w' => e = .returned (.tuple #[.agg (bs (msk 8 (cP 8 8 a b) 16)), .int .i64 0]) ∧ Gr w w' :=
  ev_path (E := envC2 8 8 a b) (E' := envC2 8 8 (smp [1]) zV) rfl (sumG_ok' (envC2 8 8 a b) rfl (fun x hx => by cases hx)) (fuel := 60) (args' := [.int .i64 64811, .agg (bs (smp [1])), .agg (bs zV)]) [] rc64811Ts (fun p hp => by cases hp) (fun β => by kernel_rfl) w (c_holes 8 8 (by omega) (by omega) a b ha hb)
--EVTS rc64812Ts | fun (a b : Nat → Int) (β : Nat → Fr) => (rcPath 64812 8 9 16 a b β, ([] : List (Bool × Bool)))
def rc64812Ts : List Nat := [0, 0, 0, 0, 0, 0, 0, 0, 0, 0, 0, 0, 0, 0, 0, 0, 0, 0, 0, 0, 0, 0, 0, 0, 0, 0, 0, 0, 0, 0, 0, 0, 0, 0, 0, 0, 0, 0, 0, 0, 0, 0, 0, 0, 0, 0, 0, 0, 0, 0, 0, 0, 0, 0, 0, 0, 0, 0, 0, 0, 0, 0, 0, 0, 0, 0, 0, 0, 0, 0, 0, 0, 0, 0, 0, 0, 0, 0, 0, 0, 0, 0, 0, 0, 0, 0, 0, 0, 0, 0, 0, 0, 0, 0, 0, 0]
theorem rc64812 (a b : Nat → Int) (ha : Byt a) (hb : Byt b) (w : World) : Calls Try.prog 12 #[.int .i64 64812, .agg (bs a), .agg (bs b)] w fun e w' => e = .returned (.tuple #[.agg (bs (msk 8 (cP 8 9 a b) 16)), .int .i64 0]) ∧ Gr w w' :=
  ev_path (E := envC2 8 9 a b) (E' := envC2 8 9 (smp [1]) zV) rfl (sumG_ok' (envC2 8 9 a b) rfl (fun x hx => by cases hx)) (fuel := 60) (args' := [.int .i64 64812, .agg (bs (smp [1])), .agg (bs zV)]) [] rc64812Ts (fun p hp => by cases hp) (fun β => by kernel_rfl) w (c_holes 8 9 (by omega) (by omega) a b ha hb)
--EVTS rc64813Ts | fun (a b : Nat → Int) (β : Nat → Fr) => (rcPath 64813 16 0 8 a b β, ([] : List (Bool × Bool)))
def rc64813Ts : List Nat := [0, 0, 0, 0, 0, 0, 0, 0, 0, 0, 0, 0, 0, 0, 0, 0, 0, 0, 0, 0, 0, 0, 0, 0, 0, 0, 0, 0, 0, 0, 0, 0, 0, 0, 0, 0, 0, 0, 0, 0, 0, 0, 0, 0, 0, 0, 0, 0, 0, 0, 0, 0, 0, 0, 0, 0, 0, 0, 0, 0, 0, 0, 0, 0, 0]
theorem rc64813 (a b : Nat → Int) (ha : Byt a) (hb : Byt b) (w : World) : Calls Try.prog 12 #[.int .i64 64813, .agg (bs a), .agg (bs b)] w fun e w' => e = .returned (.tuple #[.agg (bs (msk 16 (cP 16 0 a b) 8)), .int .i64 0]) ∧ Gr w w' :=
  ev_path (E := envC2 16 0 a b) (E' := envC2 16 0 (smp [1]) zV) rfl (sumG_ok' (envC2 16 0 a b) rfl (fun x hx => by cases hx)) (fuel := 60) (args' := [.int .i64 64813, .agg (bs (smp [1])), .agg (bs zV)]) [] rc64813Ts (fun p hp => by cases hp) (fun β => by kernel_rfl) w (c_holes 16 0 (by omega) (by omega) a b ha hb)
--EVTS rc64814Ts | fun (a b : Nat → Int) (β : Nat → Fr) => (rcPath 64814 16 1 8 a b β, ([] : List (Bool × Bool)))
def rc64814Ts : List Nat := [0, 0, 0, 0, 0, 0, 0, 0, 0, 0, 0, 0, 0, 0, 0, 0, 0, 0, 0, 0, 0, 0, 0, 0, 0, 0, 0, 0, 0, 0, 0, 0, 0, 0, 0, 0, 0, 0, 0, 0, 0, 0, 0, 0, 0, 0, 0, 0, 0, 0, 0, 0, 0, 0, 0, 0, 0, 0, 0, 0, 0, 0, 0, 0, 0]
theorem rc64814 (a b : Nat → Int) (ha : Byt a) (hb : Byt b) (w : World) : Calls Try.prog 12 #[.int .i64 64814, .agg (bs a), .agg (bs b)] w fun e w' => e = .returned (.tuple #[.agg (bs (msk 16 (cP 16 1 a b) 8)), .int .i64 0]) ∧ Gr w w' :=
  ev_path (E := envC2 16 1 a b) (E' := envC2 16 1 (smp [1]) zV) rfl (sumG_ok' (envC2 16 1 a b) rfl (fun x hx => by cases hx)) (fuel := 60) (args' := [.int .i64 64814, .agg (bs (smp [1])), .agg (bs zV)]) [] rc64814Ts (fun p hp => by cases hp) (fun β => by kernel_rfl) w (c_holes 16 1 (by omega) (by omega) a b ha hb)
--EVTS rc64815Ts | fun (a b : Nat → Int) (β : Nat → Fr) => (rcPath 64815 16 2 8 a b β, ([] : List (Bool × Bool)))
def rc64815Ts : List Nat := [0, 0, 0, 0, 0, 0, 0, 0, 0, 0, 0, 0, 0, 0, 0, 0, 0, 0, 0, 0, 0, 0, 0, 0, 0, 0, 0, 0, 0, 0, 0, 0, 0, 0, 0, 0, 0, 0, 0, 0, 0, 0, 0, 0, 0, 0, 0, 0, 0, 0, 0, 0, 0, 0, 0, 0, 0, 0, 0, 0, 0, 0, 0, 0, 0]
theorem rc64815 (a b : Nat → Int) (ha : Byt a) (hb : Byt b) (w : World) : Calls Try.prog 12 #[.int .i64 64815, .agg (bs a), .agg (bs b)] w fun e w' => e = .returned (.tuple #[.agg (bs (msk 16 (cP 16 2 a b) 8)), .int .i64 0]) ∧ Gr w w' :=
  ev_path (E := envC2 16 2 a b) (E' := envC2 16 2 (smp [1]) zV) rfl (sumG_ok' (envC2 16 2 a b) rfl (fun x hx => by cases hx)) (fuel := 60) (args' := [.int .i64 64815, .agg (bs (smp [1])), .agg (bs zV)]) [] rc64815Ts (fun p hp => by cases hp) (fun β => by kernel_rfl) w (c_holes 16 2 (by omega) (by omega) a b ha hb)
--EVTS rc64816Ts | fun (a b : Nat → Int) (β : Nat → Fr) => (rcPath 64816 16 3 8 a b β, ([] : List (Bool × Bool)))
def rc64816Ts : List Nat := [0, 0, 0, 0, 0, 0, 0, 0, 0, 0, 0, 0, 0, 0, 0, 0, 0, 0, 0, 0, 0, 0, 0, 0, 0, 0, 0, 0, 0, 0, 0, 0, 0, 0, 0, 0, 0, 0, 0, 0, 0, 0, 0, 0, 0, 0, 0, 0, 0, 0, 0, 0, 0, 0, 0, 0, 0, 0, 0, 0, 0, 0, 0, 0, 0]
theorem rc64816 (a b : Nat → Int) (ha : Byt a) (hb : Byt b) (w : World) : Calls Try.prog 12 #[.int .i64 64816, .agg (bs a), .agg (bs b)] w fun e w' => e = .returned (.tuple #[.agg (bs (msk 16 (cP 16 3 a b) 8)), .int .i64 0]) ∧ Gr w w' :=
  ev_path (E := envC2 16 3 a b) (E' := envC2 16 3 (smp [1]) zV) rfl (sumG_ok' (envC2 16 3 a b) rfl (fun x hx => by cases hx)) (fuel := 60) (args' := [.int .i64 64816, .agg (bs (smp [1])), .agg (bs zV)]) [] rc64816Ts (fun p hp => by cases hp) (fun β => by kernel_rfl) w (c_holes 16 3 (by omega) (by omega) a b ha hb)
--EVTS rc64817Ts | fun (a b : Nat → Int) (β : Nat → Fr) => (rcPath 64817 16 4 8 a b β, ([] : List (Bool × Bool)))
def rc64817Ts : List Nat := [0, 0, 0, 0, 0, 0, 0, 0, 0, 0, 0, 0, 0, 0, 0, 0, 0, 0, 0, 0, 0, 0, 0, 0, 0, 0, 0, 0, 0, 0, 0, 0, 0, 0, 0, 0, 0, 0, 0, 0, 0, 0, 0, 0, 0, 0, 0, 0, 0, 0, 0, 0, 0, 0, 0, 0, 0, 0, 0, 0, 0, 0, 0, 0, 0]
theorem rc64817 (a b : Nat → Int) (ha : Byt a) (hb : Byt b) (w : World) : Calls Try.prog 12 #[.int .i64 64817, .agg (bs a), .agg (bs b)] w fun e w' => e = .returned (.tuple #[.agg (bs (msk 16 (cP 16 4 a b) 8)), .int .i64 0]) ∧ Gr w w' :=
  ev_path (E := envC2 16 4 a b) (E' := envC2 16 4 (smp [1]) zV) rfl (sumG_ok' (envC2 16 4 a b) rfl (fun x hx => by cases hx)) (fuel := 60) (args' := [.int .i64 64817, .agg (bs (smp [1])), .agg (bs zV)]) [] rc64817Ts (fun p hp => by cases hp) (fun β => by kernel_rfl) w (c_holes 16 4 (by omega) (by omega) a b ha hb)
--EVTS rc64818Ts | fun (a b : Nat → Int) (β : Nat → Fr) => (rcPath 64818 16 5 8 a b β, ([] : List (Bool × Bool)))
def rc64818Ts : List Nat := [0, 0, 0, 0, 0, 0, 0, 0, 0, 0, 0, 0, 0, 0, 0, 0, 0, 0, 0, 0, 0, 0, 0, 0, 0, 0, 0, 0, 0, 0, 0, 0, 0, 0, 0, 0, 0, 0, 0, 0, 0, 0, 0, 0, 0, 0, 0, 0, 0, 0, 0, 0, 0, 0, 0, 0, 0, 0, 0, 0, 0, 0, 0, 0, 0]
theorem rc64818 (a b : Nat → Int) (ha : Byt a) (hb : Byt b) (w : World) : Calls Try.prog 12 #[.int .i64 64818, .agg (bs a), .agg (bs b)] w fun e w' => e = .returned (.tuple #[.agg (bs (msk 16 (cP 16 5 a b) 8)), .int .i64 0]) ∧ Gr w w' :=
  ev_path (E := envC2 16 5 a b) (E' := envC2 16 5 (smp [1]) zV) rfl (sumG_ok' (envC2 16 5 a b) rfl (fun x hx => by cases hx)) (fuel := 60) (args' := [.int .i64 64818, .agg (bs (smp [1])), .agg (bs zV)]) [] rc64818Ts (fun p hp => by cases hp) (fun β => by kernel_rfl) w (c_holes 16 5 (by omega) (by omega) a b ha hb)
--EVTS rc64819Ts | fun (a b : Nat → Int) (β : Nat → Fr) => (rcPath 64819 16 6 8 a b β, ([] : List (Bool × Bool)))
def rc64819Ts : List Nat := [0, 0, 0, 0, 0, 0, 0, 0, 0, 0, 0, 0, 0, 0, 0, 0, 0, 0, 0, 0, 0, 0, 0, 0, 0, 0, 0, 0, 0, 0, 0, 0, 0, 0, 0, 0, 0, 0, 0, 0, 0, 0, 0, 0, 0, 0, 0, 0, 0, 0, 0, 0, 0, 0, 0, 0, 0, 0, 0, 0, 0, 0, 0, 0, 0]
theorem rc64819 (a b : Nat → Int) (ha : Byt a) (hb : Byt b) (w : World) : Calls Try.prog 12 #[.int .i64 64819, .agg (bs a), .agg (bs b)] w fun e w' => e = .returned (.tuple #[.agg (bs (msk 16 (cP 16 6 a b) 8)), .int .i64 0]) ∧ Gr w w' :=
  ev_path (E := envC2 16 6 a b) (E' := envC2 16 6 (smp [1]) zV) rfl (sumG_ok' (envC2 16 6 a b) rfl (fun x hx => by cases hx)) (fuel := 60) (args' := [.int .i64 64819, .agg (bs (smp [1])), .agg (bs zV)]) [] rc64819Ts (fun p hp => by cases hp) (fun β => by kernel_rfl) w (c_holes 16 6 (by omega) (by omega) a b ha hb)
--EVTS rc64820Ts | fun (a b : Nat → Int) (β : Nat → Fr) => (rcPath 64820 16 7 8 a b β, ([] : List (Bool × Bool)))
def rc64820Ts : List Nat := [0, 0, 0, 0, 0, 0, 0, 0, 0, 0, 0, 0, 0, 0, 0, 0, 0, 0, 0, 0, 0, 0, 0, 0, 0, 0, 0, 0, 0, 0, 0, 0, 0, 0, 0, 0, 0, 0, 0, 0, 0, 0, 0, 0, 0, 0, 0, 0, 0, 0, 0, 0, 0, 0, 0, 0, 0, 0, 0, 0, 0, 0, 0, 0, 0]
theorem rc64820 (a b : Nat → Int) (ha : Byt a) (hb : Byt b) (w : World) : Calls Try.prog 12 #[.int .i64 64820, .agg (bs a), .agg (bs b)] w fun e w' => e = .returned (.tuple #[.agg (bs (msk 16 (cP 16 7 a b) 8)), .int .i64 0]) ∧ Gr w w' :=
  ev_path (E := envC2 16 7 a b) (E' := envC2 16 7 (smp [1]) zV) rfl (sumG_ok' (envC2 16 7 a b) rfl (fun x hx => by cases hx)) (fuel := 60) (args' := [.int .i64 64820, .agg (bs (smp [1])), .agg (bs zV)]) [] rc64820Ts (fun p hp => by cases hp) (fun β => by kernel_rfl) w (c_holes 16 7 (by omega) (by omega) a b ha hb)
--EVTS rc64821Ts | fun (a b : Nat → Int) (β : Nat → Fr) => (rcPath 64821 16 8 8 a b β, ([] : List (Bool × Bool)))
def rc64821Ts : List Nat := [0, 0, 0, 0, 0, 0, 0, 0, 0, 0, 0, 0, 0, 0, 0, 0, 0, 0, 0, 0, 0, 0, 0, 0, 0, 0, 0, 0, 0, 0, 0, 0, 0, 0, 0, 0, 0, 0, 0, 0, 0, 0, 0, 0, 0, 0, 0, 0, 0, 0, 0, 0, 0, 0, 0, 0, 0, 0, 0, 0, 0, 0, 0, 0, 0]
theorem rc64821 (a b : Nat → Int) (ha : Byt a) (hb : Byt b) (w : World) : Calls Try.prog 12 #[.int .i64 64821, .agg (bs a), .agg (bs b)] w fun e w' => e = .returned (.tuple #[.agg (bs (msk 16 (cP 16 8 a b) 8)), .int .i64 0]) ∧ Gr w w' :=
  ev_path (E := envC2 16 8 a b) (E' := envC2 16 8 (smp [1]) zV) rfl (sumG_ok' (envC2 16 8 a b) rfl (fun x hx => by cases hx)) (fuel := 60) (args' := [.int .i64 64821, .agg (bs (smp [1])), .agg (bs zV)]) [] rc64821Ts (fun p hp => by cases hp) (fun β => by kernel_rfl) w (c_holes 16 8 (by omega) (by omega) a b ha hb)
--EVTS rc64822Ts | fun (a b : Nat → Int) (β : Nat → Fr) => (rcPath 64822 16 9 8 a b β, ([] : List (Bool × Bool)))
def rc64822Ts : List Nat := [0, 0, 0, 0, 0, 0, 0, 0, 0, 0, 0, 0, 0, 0, 0, 0, 0, 0, 0, 0, 0, 0, 0, 0, 0, 0, 0, 0, 0, 0, 0, 0, 0, 0, 0, 0, 0, 0, 0, 0, 0, 0, 0, 0, 0, 0, 0, 0, 0, 0, 0, 0, 0, 0, 0, 0, 0, 0, 0, 0, 0, 0, 0, 0, 0]
theorem rc64822 (a b : Nat → Int) (ha : Byt a) (hb : Byt b) (w : World) : Calls Try.prog 12 #[.int .i64 64822, .agg (bs a), .agg (bs b)] w fun e w' => e = .returned (.tuple #[.agg (bs (msk 16 (cP 16 9 a b) 8)), .int .i64 0]) ∧ Gr w w' :=
  ev_path (E := envC2 16 9 a b) (E' := envC2 16 9 (smp [1]) zV) rfl (sumG_ok' (envC2 16 9 a b) rfl (fun x hx => by cases hx)) (fuel := 60) (args' := [.int .i64 64822, .agg (bs (smp [1])), .agg (bs zV)]) [] rc64822Ts (fun p hp => by cases hp) (fun β => by kernel_rfl) w (c_holes 16 9 (by omega) (by omega) a b ha hb)
--EVTS rc64823Ts | fun (a b : Nat → Int) (β : Nat → Fr) => (rcPath 64823 32 0 4 a b β, ([] : List (Bool × Bool)))
def rc64823Ts : List Nat := [0, 0, 0, 0, 0, 0, 0, 0, 0, 0, 0, 0, 0, 0, 0, 0, 0, 0, 0, 0, 0, 0, 0, 0, 0, 0, 0, 0, 0, 0, 0, 0, 0, 0, 0, 0, 0, 0, 0, 0, 0, 0, 0, 0, 0, 0, 0, 0, 0, 0]
theorem rc64823 (a b : Nat → Int) (ha : Byt a) (hb : Byt b) (w : World) : Calls Try.prog 12 #[.int .i64 64823, .agg (bs a), .agg (bs b)] w fun e w' => e = .returned (.tuple #[.agg (bs (msk 32 (cP 32 0 a b) 4)), .int .i64 0]) ∧ Gr w w' :=
  ev_path (E := envC2 32 0 a b) (E' := envC2 32 0 (smp [1]) zV) rfl (sumG_ok' (envC2 32 0 a b) rfl (fun x hx => by cases hx)) (fuel := 60) (args' := [.int .i64 64823, .agg (bs (smp [1])), .agg (bs zV)]) [] rc64823Ts (fun p hp => by cases hp) (fun β => by kernel_rfl) w (c_holes 32 0 (by omega) (by omega) a b ha hb)
--EVTS rc64824Ts | fun (a b : Nat → Int) (β : Nat → Fr) => (rcPath 64824 32 1 4 a b β, ([] : List (Bool × Bool)))
def rc64824Ts : List Nat := [0, 0, 0, 0, 0, 0, 0, 0, 0, 0, 0, 0, 0, 0, 0, 0, 0, 0, 0, 0, 0, 0, 0, 0, 0, 0, 0, 0, 0, 0, 0, 0, 0, 0, 0, 0, 0, 0, 0, 0, 0, 0, 0, 0, 0, 0, 0, 0, 0, 0]
theorem rc64824 (a b : Nat → Int) (ha : Byt a) (hb : Byt b) (w : World) : Calls Try.prog 12 #[.int .i64 64824, .agg (bs a), .agg (bs b)] w fun e w' => e = .returned (.tuple #[.agg (bs (msk 32 (cP 32 1 a b) 4)), .int .i64 0]) ∧ Gr w w' :=
  ev_path (E := envC2 32 1 a b) (E' := envC2 32 1 (smp [1]) zV) rfl (sumG_ok' (envC2 32 1 a b) rfl (fun x hx => by cases hx)) (fuel := 60) (args' := [.int .i64 64824, .agg (bs (smp [1])), .agg (bs zV)]) [] rc64824Ts (fun p hp => by cases hp) (fun β => by kernel_rfl) w (c_holes 32 1 (by omega) (by omega) a b ha hb)
--EVTS rc64825Ts | fun (a b : Nat → Int) (β : Nat → Fr) => (rcPath 64825 32 2 4 a b β, ([] : List (Bool × Bool)))
def rc64825Ts : List Nat := [0, 0, 0, 0, 0, 0, 0, 0, 0, 0, 0, 0, 0, 0, 0, 0, 0, 0, 0, 0, 0, 0, 0, 0, 0, 0, 0, 0, 0, 0, 0, 0, 0, 0, 0, 0, 0, 0, 0, 0, 0, 0, 0, 0, 0, 0, 0, 0, 0, 0]
theorem rc64825 (a b : Nat → Int) (ha : Byt a) (hb : Byt b) (w : World) : Calls Try.prog 12 #[.int .i64 64825, .agg (bs a), .agg (bs b)] w fun e w' => e = .returned (.tuple #[.agg (bs (msk 32 (cP 32 2 a b) 4)), .int .i64 0]) ∧ Gr w w' :=
  ev_path (E := envC2 32 2 a b) (E' := envC2 32 2 (smp [1]) zV) rfl (sumG_ok' (envC2 32 2 a b) rfl (fun x hx => by cases hx)) (fuel := 60) (args' := [.int .i64 64825, .agg (bs (smp [1])), .agg (bs zV)]) [] rc64825Ts (fun p hp => by cases hp) (fun β => by kernel_rfl) w (c_holes 32 2 (by omega) (by omega) a b ha hb)
--EVTS rc64826Ts | fun (a b : Nat → Int) (β : Nat → Fr) => (rcPath 64826 32 3 4 a b β, ([] : List (Bool × Bool)))
def rc64826Ts : List Nat := [0, 0, 0, 0, 0, 0, 0, 0, 0, 0, 0, 0, 0, 0, 0, 0, 0, 0, 0, 0, 0, 0, 0, 0, 0, 0, 0, 0, 0, 0, 0, 0, 0, 0, 0, 0, 0, 0, 0, 0, 0, 0, 0, 0, 0, 0, 0, 0, 0, 0]
theorem rc64826 (a b : Nat → Int) (ha : Byt a) (hb : Byt b) (w : World) : Calls Try.prog 12 #[.int .i64 64826, .agg (bs a), .agg (bs b)] w fun e w' => e = .returned (.tuple #[.agg (bs (msk 32 (cP 32 3 a b) 4)), .int .i64 0]) ∧ Gr w w' :=
  ev_path (E := envC2 32 3 a b) (E' := envC2 32 3 (smp [1]) zV) rfl (sumG_ok' (envC2 32 3 a b) rfl (fun x hx => by cases hx)) (fuel := 60) (args' := [.int .i64 64826, .agg (bs (smp [1])), .agg (bs zV)]) [] rc64826Ts (fun p hp => by cases hp) (fun β => by kernel_rfl) w (c_holes 32 3 (by omega) (by omega) a b ha hb)
--EVTS rc64827Ts | fun (a b : Nat → Int) (β : Nat → Fr) => (rcPath 64827 32 4 4 a b β, ([] : List (Bool × Bool)))
def rc64827Ts : List Nat := [0, 0, 0, 0, 0, 0, 0, 0, 0, 0, 0, 0, 0, 0, 0, 0, 0, 0, 0, 0, 0, 0, 0, 0, 0, 0, 0, 0, 0, 0, 0, 0, 0, 0, 0, 0, 0, 0, 0, 0, 0, 0, 0, 0, 0, 0, 0, 0, 0, 0]
theorem rc64827 (a b : Nat → Int) (ha : Byt a) (hb : Byt b) (w : World) : Calls Try.prog 12 #[.int .i64 64827, .agg (bs a), .agg (bs b)] w fun e w' => e = .returned (.tuple #[.agg (bs (msk 32 (cP 32 4 a b) 4)), .int .i64 0]) ∧ Gr w w' :=
  ev_path (E := envC2 32 4 a b) (E' := envC2 32 4 (smp [1]) zV) rfl (sumG_ok' (envC2 32 4 a b) rfl (fun x hx => by cases hx)) (fuel := 60) (args' := [.int .i64 64827, .agg (bs (smp [1])), .agg (bs zV)]) [] rc64827Ts (fun p hp => by cases hp) (fun β => by kernel_rfl) w (c_holes 32 4 (by omega) (by omega) a b ha hb)
--EVTS rc64828Ts | fun (a b : Nat → Int) (β : Nat → Fr) => (rcPath 64828 32 5 4 a b β, ([] : List (Bool × Bool)))
def rc64828Ts : List Nat := [0, 0, 0, 0, 0, 0, 0, 0, 0, 0, 0, 0, 0, 0, 0, 0, 0, 0, 0, 0, 0, 0, 0, 0, 0, 0, 0, 0, 0, 0, 0, 0, 0, 0, 0, 0, 0, 0, 0, 0, 0, 0, 0, 0, 0, 0, 0, 0, 0, 0]
theorem rc64828 (a b : Nat → Int) (ha : Byt a) (hb : Byt b) (w : World) : Calls Try.prog 12 #[.int .i64 64828, .agg (bs a), .agg (bs b)] w fun e w' => e = .returned (.tuple #[.agg (bs (msk 32 (cP 32 5 a b) 4)), .int .i64 0]) ∧ Gr w w' :=
  ev_path (E := envC2 32 5 a b) (E' := envC2 32 5 (smp [1]) zV) rfl (sumG_ok' (envC2 32 5 a b) rfl (fun x hx => by cases hx)) (fuel := 60) (args' := [.int .i64 64828, .agg (bs (smp [1])), .agg (bs zV)]) [] rc64828Ts (fun p hp => by cases hp) (fun β => by kernel_rfl) w (c_holes 32 5 (by omega) (by omega) a b ha hb)
--EVTS rc64829Ts | fun (a b : Nat → Int) (β : Nat → Fr) => (rcPath 64829 32 6 4 a b β, ([] : List (Bool × Bool)))
def rc64829Ts : List Nat := [0, 0, 0, 0, 0, 0, 0, 0, 0, 0, 0, 0, 0, 0, 0, 0, 0, 0, 0, 0, 0, 0, 0, 0, 0, 0, 0, 0, 0, 0, 0, 0, 0, 0, 0, 0, 0, 0, 0, 0, 0, 0, 0, 0, 0, 0, 0, 0, 0, 0]
theorem rc64829 (a b : Nat → Int) (ha : Byt a) (hb : Byt b) (w : World) : Calls Try.prog 12 #[.int .i64 64829, .agg (bs a), .agg (bs b)] w fun e w' => e = .returned (.tuple #[.agg (bs (msk 32 (cP 32 6 a b) 4)), .int .i64 0]) ∧ Gr w w' :=
  ev_path (E := envC2 32 6 a b) (E' := envC2 32 6 (smp [1]) zV) rfl (sumG_ok' (envC2 32 6 a b) rfl (fun x hx => by cases hx)) (fuel := 60) (args' := [.int .i64 64829, .agg (bs (smp [1])), .agg (bs zV)]) [] rc64829Ts (fun p hp => by cases hp) (fun β => by kernel_rfl) w (c_holes 32 6 (by omega) (by omega) a b ha hb)
--EVTS rc64830Ts | fun (a b : Nat → Int) (β : Nat → Fr) => (rcPath 64830 32 7 4 a b β, ([] : List (Bool × Bool)))
def rc64830Ts : List Nat := [0, 0, 0, 0, 0, 0, 0, 0, 0, 0, 0, 0, 0, 0, 0, 0, 0, 0, 0, 0, 0, 0, 0, 0, 0, 0, 0, 0, 0, 0, 0, 0, 0, 0, 0, 0, 0, 0, 0, 0, 0, 0, 0, 0, 0, 0, 0, 0, 0, 0]
theorem rc64830 (a b : Nat → Int) (ha : Byt a) (hb : Byt b) (w : World) : Calls Try.prog 12 #[.int .i64 64830, .agg (bs a), .agg (bs b)] w fun e w' => e = .returned (.tuple #[.agg (bs (msk 32 (cP 32 7 a b) 4)), .int .i64 0]) ∧ Gr w w' :=
  ev_path (E := envC2 32 7 a b) (E' := envC2 32 7 (smp [1]) zV) rfl (sumG_ok' (envC2 32 7 a b) rfl (fun x hx => by cases hx)) (fuel := 60) (args' := [.int .i64 64830, .agg (bs (smp [1])), .agg (bs zV)]) [] rc64830Ts (fun p hp => by cases hp) (fun β => by kernel_rfl) w (c_holes 32 7 (by omega) (by omega) a b ha hb)
--EVTS rc64831Ts | fun (a b : Nat → Int) (β : Nat → Fr) => (rcPath 64831 32 8 4 a b β, ([] : List (Bool × Bool)))
def rc64831Ts : List Nat := [0, 0, 0, 0, 0, 0, 0, 0, 0, 0, 0, 0, 0, 0, 0, 0, 0, 0, 0, 0, 0, 0, 0, 0, 0, 0, 0, 0, 0, 0, 0, 0, 0, 0, 0, 0, 0, 0, 0, 0, 0, 0, 0, 0, 0, 0, 0, 0, 0, 0]
theorem rc64831 (a b : Nat → Int) (ha : Byt a) (hb : Byt b) (w : World) : Calls Try.prog 12 #[.int .i64 64831, .agg (bs a), .agg (bs b)] w fun e w' => e = .returned (.tuple #[.agg (bs (msk 32 (cP 32 8 a b) 4)), .int .i64 0]) ∧ Gr w w' :=
  ev_path (E := envC2 32 8 a b) (E' := envC2 32 8 (smp [1]) zV) rfl (sumG_ok' (envC2 32 8 a b) rfl (fun x hx => by cases hx)) (fuel := 60) (args' := [.int .i64 64831, .agg (bs (smp [1])), .agg (bs zV)]) [] rc64831Ts (fun p hp => by cases hp) (fun β => by kernel_rfl) w (c_holes 32 8 (by omega) (by omega) a b ha hb)
--EVTS rc64832Ts | fun (a b : Nat → Int) (β : Nat → Fr) => (rcPath 64832 32 9 4 a b β, ([] : List (Bool × Bool)))
def rc64832Ts : List Nat := [0, 0, 0, 0, 0, 0, 0, 0, 0, 0, 0, 0, 0, 0, 0, 0, 0, 0, 0, 0, 0, 0, 0, 0, 0, 0, 0, 0, 0, 0, 0, 0, 0, 0, 0, 0, 0, 0, 0, 0, 0, 0, 0, 0, 0, 0, 0, 0, 0, 0]
theorem rc64832 (a b : Nat → Int) (ha : Byt a) (hb : Byt b) (w : World) : Calls Try.prog 12 #[.int .i64 64832, .agg (bs a), .agg (bs b)] w fun e w' => e = .returned (.tuple #[.agg (bs (msk 32 (cP 32 9 a b) 4)), .int .i64 0]) ∧ Gr w w' :=
  ev_path (E := envC2 32 9 a b) (E' := envC2 32 9 (smp [1]) zV) rfl (sumG_ok' (envC2 32 9 a b) rfl (fun x hx => by cases hx)) (fuel := 60) (args' := [.int .i64 64832, .agg (bs (smp [1])), .agg (bs zV)]) [] rc64832Ts (fun p hp => by cases hp) (fun β => by kernel_rfl) w (c_holes 32 9 (by omega) (by omega) a b ha hb)
--EVTS rc64982Ts | fun (a b : Nat → Int) (β : Nat → Fr) => (rcPath 64982 64 0 2 a b β, ([] : List (Bool × Bool)))
def rc64982Ts : List Nat := [0, 0, 0, 0, 0, 0, 0, 0, 0, 0, 0, 0, 0, 0, 0, 0, 0, 0, 0, 0, 0, 0, 0, 0, 0, 0, 0, 0, 0, 0, 0, 0, 0, 0, 0, 0, 0, 0, 0, 0]
theorem rc64982 (a b : Nat → Int) (ha : Byt a) (hb : Byt b) (w : World) : Calls Try.prog 12 #[.int .i64 64982, .agg (bs a), .agg (bs b)] w fun e w' => e = .returned (.tuple #[.agg (bs (msk 64 (cP 64 0 a b) 2)), .int .i64 0]) ∧ Gr w w' :=
  ev_path (E := envC2 64 0 a b) (E' := envC2 64 0 (smp [1]) zV) rfl (sumG_ok' (envC2 64 0 a b) rfl (fun x hx => by cases hx)) (fuel := 60) (args' := [.int .i64 64982, .agg (bs (smp [1])), .agg (bs zV)]) [] rc64982Ts (fun p hp => by cases hp) (fun β => by kernel_rfl) w (c_holes 64 0 (by omega) (by omega) a b ha hb)
--EVTS rc64983Ts | fun (a b : Nat → Int) (β : Nat → Fr) => (rcPath 64983 64 1 2 a b β, ([] : List (Bool × Bool)))
def rc64983Ts : List Nat := [0, 0, 0, 0, 0, 0, 0, 0, 0, 0, 0, 0, 0, 0, 0, 0, 0, 0, 0, 0, 0, 0, 0, 0, 0, 0, 0, 0, 0, 0, 0, 0, 0, 0, 0, 0, 0, 0, 0, 0]
theorem rc64983 (a b : Nat → Int) (ha : Byt a) (hb : Byt b) (w : World) : Calls Try.prog 12 #[.int .i64 64983, .agg (bs a), .agg (bs b)] w fun e w' => e = .returned (.tuple #[.agg (bs (msk 64 (cP 64 1 a b) 2)), .int .i64 0]) ∧ Gr w w' :=
  ev_path (E := envC2 64 1 a b) (E' := envC2 64 1 (smp [1]) zV) rfl (sumG_ok' (envC2 64 1 a b) rfl (fun x hx => by cases hx)) (fuel := 60) (args' := [.int .i64 64983, .agg (bs (smp [1])), .agg (bs zV)]) [] rc64983Ts (fun p hp => by cases hp) (fun β => by kernel_rfl) w (c_holes 64 1 (by omega) (by omega) a b ha hb)
--EVTS rc64984Ts | fun (a b : Nat → Int) (β : Nat → Fr) => (rcPath 64984 64 2 2 a b β, ([] : List (Bool × Bool)))
def rc64984Ts : List Nat := [0, 0, 0, 0, 0, 0, 0, 0, 0, 0, 0, 0, 0, 0, 0, 0, 0, 0, 0, 0, 0, 0, 0, 0, 0, 0, 0, 0, 0, 0, 0, 0, 0, 0, 0, 0, 0, 0, 0, 0]
theorem rc64984 (a b : Nat → Int) (ha : Byt a) (hb : Byt b) (w : World) : Calls Try.prog 12 #[.int .i64 64984, .agg (bs a), .agg (bs b)] w fun e w' => e = .returned (.tuple #[.agg (bs (msk 64 (cP 64 2 a b) 2)), .int .i64 0]) ∧ Gr w w' :=
  ev_path (E := envC2 64 2 a b) (E' := envC2 64 2 (smp [1]) zV) rfl (sumG_ok' (envC2 64 2 a b) rfl (fun x hx => by cases hx)) (fuel := 60) (args' := [.int .i64 64984, .agg (bs (smp [1])), .agg (bs zV)]) [] rc64984Ts (fun p hp => by cases hp) (fun β => by kernel_rfl) w (c_holes 64 2 (by omega) (by omega) a b ha hb)
--EVTS rc64985Ts | fun (a b : Nat → Int) (β : Nat → Fr) => (rcPath 64985 64 4 2 a b β, ([] : List (Bool × Bool)))
def rc64985Ts : List Nat := [0, 0, 0, 0, 0, 0, 0, 0, 0, 0, 0, 0, 0, 0, 0, 0, 0, 0, 0, 0, 0, 0, 0, 0, 0, 0, 0, 0, 0, 0, 0, 0, 0, 0, 0, 0, 0, 0, 0, 0]
theorem rc64985 (a b : Nat → Int) (ha : Byt a) (hb : Byt b) (w : World) : Calls Try.prog 12 #[.int .i64 64985, .agg (bs a), .agg (bs b)] w fun e w' => e = .returned (.tuple #[.agg (bs (msk 64 (cP 64 4 a b) 2)), .int .i64 0]) ∧ Gr w w' :=
  ev_path (E := envC2 64 4 a b) (E' := envC2 64 4 (smp [1]) zV) rfl (sumG_ok' (envC2 64 4 a b) rfl (fun x hx => by cases hx)) (fuel := 60) (args' := [.int .i64 64985, .agg (bs (smp [1])), .agg (bs zV)]) [] rc64985Ts (fun p hp => by cases hp) (fun β => by kernel_rfl) w (c_holes 64 4 (by omega) (by omega) a b ha hb)
--EVTS rc64986Ts | fun (a b : Nat → Int) (β : Nat → Fr) => (rcPath 64986 64 6 2 a b β, ([] : List (Bool × Bool)))
def rc64986Ts : List Nat := [0, 0, 0, 0, 0, 0, 0, 0, 0, 0, 0, 0, 0, 0, 0, 0, 0, 0, 0, 0, 0, 0, 0, 0, 0, 0, 0, 0, 0, 0, 0, 0, 0, 0, 0, 0, 0, 0, 0, 0]
theorem rc64986 (a b : Nat → Int) (ha : Byt a) (hb : Byt b) (w : World) : Calls Try.prog 12 #[.int .i64 64986, .agg (bs a), .agg (bs b)] w fun e w' => e = .returned (.tuple #[.agg (bs (msk 64 (cP 64 6 a b) 2)), .int .i64 0]) ∧ Gr w w' :=
  ev_path (E := envC2 64 6 a b) (E' := envC2 64 6 (smp [1]) zV) rfl (sumG_ok' (envC2 64 6 a b) rfl (fun x hx => by cases hx)) (fuel := 60) (args' := [.int .i64 64986, .agg (bs (smp [1])), .agg (bs zV)]) [] rc64986Ts (fun p hp => by cases hp) (fun β => by kernel_rfl) w (c_holes 64 6 (by omega) (by omega) a b ha hb)
--EVTS rc64987Ts | fun (a b : Nat → Int) (β : Nat → Fr) => (rcPath 64987 64 8 2 a b β, ([] : List (Bool × Bool)))
def rc64987Ts : List Nat := [0, 0, 0, 0, 0, 0, 0, 0, 0, 0, 0, 0, 0, 0, 0, 0, 0, 0, 0, 0, 0, 0, 0, 0, 0, 0, 0, 0, 0, 0, 0, 0, 0, 0, 0, 0, 0, 0, 0, 0]
theorem rc64987 (a b : Nat → Int) (ha : Byt a) (hb : Byt b) (w : World) : Calls Try.prog 12 #[.int .i64 64987, .agg (bs a), .agg (bs b)] w fun e w' => e = .returned (.tuple #[.agg (bs (msk 64 (cP 64 8 a b) 2)), .int .i64 0]) ∧ Gr w w' :=
  ev_path (E := envC2 64 8 a b) (E' := envC2 64 8 (smp [1]) zV) rfl (sumG_ok' (envC2 64 8 a b) rfl (fun x hx => by cases hx)) (fuel := 60) (args' := [.int .i64 64987, .agg (bs (smp [1])), .agg (bs zV)]) [] rc64987Ts (fun p hp => by cases hp) (fun β => by kernel_rfl) w (c_holes 64 8 (by omega) (by omega) a b ha hb)
def rnD (k t : Int) : List (Bool × Bool) := ([35, 45, 55].flatMap fun c => [(decide (k ≥ c), decide (t ≥ c)), (decide (k < c + 10), decide (t < c + 10))]) ++ [(decide (k ≥ 214), decide (t ≥ 214)), (decide (k ≤ 219), decide (t ≤ 219))]
theorem rnD_ok {k t : Int} (h : (k ≥ 35 ↔ t ≥ 35) ∧ (k ≥ 45 ↔ t ≥ 45) ∧ (k ≥ 55 ↔ t ≥ 55) ∧ (k ≥ 65 ↔ t ≥ 65) ∧ (k ≥ 214 ↔ t ≥ 214) ∧ (k ≥ 220 ↔ t ≥ 220)) : ∀ p ∈ rnD k t, p.1 = p.2 := by
  intro p hp
  simp only [rnD, List.mem_append, List.mem_flatMap, List.mem_cons, List.not_mem_nil, or_false, exists_eq_or_imp, exists_eq_left] at hp
  rcases hp with ((rfl | rfl) | (rfl | rfl) | (rfl | rfl)) | rfl | rfl <;> (refine decide_eq_decide.2 ?_; omega)
noncomputable def rnPath (op t : Int) (a b : Nat → Int) (β : Nat → Fr) : Out :=
  evPath (envG []) (envG []) 60 12 [.int .i64 op, .agg (bs a), .agg (bs b)] [.int .i64 (t + 64768), .agg (bs zV), .agg (bs zV)] (.tuple #[.agg (bs zV), .int .i64 1]) β
--EVTS rn0Ts | fun (op : Int) (a b : Nat → Int) (β : Nat → Fr) => (rnPath op 0 a b β, rnD (IntKind.i64.wrap (op - 64768)) 0)
def rn0Ts : List Nat := [0, 0, 7, 7, 7, 0, 0, 5, 5, 5, 5, 5, 5, 0, 0, 3, 3, 3, 3, 3, 3, 0, 0, 1, 1, 1, 1, 1, 1, 0]
theorem rn_0 (op k : Int) (hk : IntKind.i64.wrap (op - 64768) = k) (h : k < 35) (a b : Nat → Int) (w : World) : Calls Try.prog 12 #[.int .i64 op, .agg (bs a), .agg (bs b)] w fun e w' => e = .returned (.tuple #[.agg (bs zV), .int .i64 1]) ∧ Gr w w' :=
  ev_path (E := envG []) (E' := envG []) rfl (sumG_ok _ (fun x hx => by cases hx)) (fuel := 60) (args' := [.int .i64 (0 + 64768), .agg (bs zV), .agg (bs zV)]) (rnD (IntKind.i64.wrap (op - 64768)) 0) rn0Ts (by rw [hk]; exact rnD_ok (by omega)) (fun β => by kernel_rfl) w
--EVTS rn1Ts | fun (op : Int) (a b : Nat → Int) (β : Nat → Fr) => (rnPath op 100 a b β, rnD (IntKind.i64.wrap (op - 64768)) 100)
def rn1Ts : List Nat := [0, 0, 7, 7, 7, 0, 6, 5, 5, 5, 5, 5, 5, 0, 4, 3, 3, 3, 3, 3, 3, 0, 2, 1, 1, 1, 1, 1, 1, 0]
theorem rn_1 (op k : Int) (hk : IntKind.i64.wrap (op - 64768) = k) (h : 65 ≤ k ∧ k < 214) (a b : Nat → Int) (w : World) : Calls Try.prog 12 #[.int .i64 op, .agg (bs a), .agg (bs b)] w fun e w' => e = .returned (.tuple #[.agg (bs zV), .int .i64 1]) ∧ Gr w w' :=
  ev_path (E := envG []) (E' := envG []) rfl (sumG_ok _ (fun x hx => by cases hx)) (fuel := 60) (args' := [.int .i64 (100 + 64768), .agg (bs zV), .agg (bs zV)]) (rnD (IntKind.i64.wrap (op - 64768)) 100) rn1Ts (by rw [hk]; exact rnD_ok (by omega)) (fun β => by kernel_rfl) w
--EVTS rn2Ts | fun (op : Int) (a b : Nat → Int) (β : Nat → Fr) => (rnPath op 300 a b β, rnD (IntKind.i64.wrap (op - 64768)) 300)
def rn2Ts : List Nat := [0, 8, 7, 7, 7, 0, 6, 5, 5, 5, 5, 5, 5, 0, 4, 3, 3, 3, 3, 3, 3, 0, 2, 1, 1, 1, 1, 1, 1, 0]
theorem rn_2 (op k : Int) (hk : IntKind.i64.wrap (op - 64768) = k) (h : 220 ≤ k) (a b : Nat → Int) (w : World) : Calls Try.prog 12 #[.int .i64 op, .agg (bs a), .agg (bs b)] w fun e w' => e = .returned (.tuple #[.agg (bs zV), .int .i64 1]) ∧ Gr w w' :=
  ev_path (E := envG []) (E' := envG []) rfl (sumG_ok _ (fun x hx => by cases hx)) (fuel := 60) (args' := [.int .i64 (300 + 64768), .agg (bs zV), .agg (bs zV)]) (rnD (IntKind.i64.wrap (op - 64768)) 300) rn2Ts (by rw [hk]; exact rnD_ok (by omega)) (fun β => by kernel_rfl) w
theorem cpV_eq {op w k : Int} {L : Nat} (h1 : cW op = w) (h2 : cK op = k) (h3 : (lanesI w).toNat = L) (a b : Nat → Int) : cpV op a b = msk w (cP w k a b) L := by unfold cpV; rw [h1, h2, h3]; rfl
theorem rcmp_any (op : Int) (ho : -9223372036854775808 ≤ op ∧ op ≤ 9223372036854775807) (a b : Nat → Int) (ha : Byt a) (hb : Byt b) (w : World) :
    Calls Try.prog 12 #[.int .i64 op, .agg (bs a), .agg (bs b)] w fun e w' => e = .returned (.tuple #[.agg (bs (cpV op a b)), .int .i64 (if cW op = 0 then 1 else 0)]) ∧ Gr w w' := by
  by_cases h : 64803 ≤ op ∧ op < 64833 ∨ 64982 ≤ op ∧ op < 64988
  · have h2 : op = 64803 ∨ op = 64804 ∨ op = 64805 ∨ op = 64806 ∨ op = 64807 ∨ op = 64808 ∨ op = 64809 ∨ op = 64810 ∨ op = 64811 ∨ op = 64812 ∨ op = 64813 ∨ op = 64814 ∨ op = 64815 ∨ op = 64816 ∨ op = 64817 ∨ op = 64818 ∨ op = 64819 ∨ op = 64820 ∨ op = 64821 ∨ op = 64822 ∨ op = 64823 ∨ op = 64824 ∨ op = 64825 ∨ op = 64826 ∨ op = 64827 ∨ op = 64828 ∨ op = 64829 ∨ op = 64830 ∨ op = 64831 ∨ op = 64832 ∨ op = 64982 ∨ op = 64983 ∨ op = 64984 ∨ op = 64985 ∨ op = 64986 ∨ op = 64987 := by omega
    rcases h2 with rfl | rfl | rfl | rfl | rfl | rfl | rfl | rfl | rfl | rfl | rfl | rfl | rfl | rfl | rfl | rfl | rfl | rfl | rfl | rfl | rfl | rfl | rfl | rfl | rfl | rfl | rfl | rfl | rfl | rfl | rfl | rfl | rfl | rfl | rfl | rfl
    · rw [cpV_eq (show cW 64803 = 8 by decide +kernel) (show cK 64803 = 0 by decide +kernel) (show (lanesI 8).toNat = 16 by decide), show (if cW 64803 = 0 then (1 : Int) else 0) = 0 by decide +kernel]; exact rc64803 a b ha hb w
    · rw [cpV_eq (show cW 64804 = 8 by decide +kernel) (show cK 64804 = 1 by decide +kernel) (show (lanesI 8).toNat = 16 by decide), show (if cW 64804 = 0 then (1 : Int) else 0) = 0 by decide +kernel]; exact rc64804 a b ha hb w
    · rw [cpV_eq (show cW 64805 = 8 by decide +kernel) (show cK 64805 = 2 by decide +kernel) (show (lanesI 8).toNat = 16 by decide), show (if cW 64805 = 0 then (1 : Int) else 0) = 0 by decide +kernel]; exact rc64805 a b ha hb w
    · rw [cpV_eq (show cW 64806 = 8 by decide +kernel) (show cK 64806 = 3 by decide +kernel) (show (lanesI 8).toNat = 16 by decide), show (if cW 64806 = 0 then (1 : Int) else 0) = 0 by decide +kernel]; exact rc64806 a b ha hb w
    · rw [cpV_eq (show cW 64807 = 8 by decide +kernel) (show cK 64807 = 4 by decide +kernel) (show (lanesI 8).toNat = 16 by decide), show (if cW 64807 = 0 then (1 : Int) else 0) = 0 by decide +kernel]; exact rc64807 a b ha hb w
    · rw [cpV_eq (show cW 64808 = 8 by decide +kernel) (show cK 64808 = 5 by decide +kernel) (show (lanesI 8).toNat = 16 by decide), show (if cW 64808 = 0 then (1 : Int) else 0) = 0 by decide +kernel]; exact rc64808 a b ha hb w
    · rw [cpV_eq (show cW 64809 = 8 by decide +kernel) (show cK 64809 = 6 by decide +kernel) (show (lanesI 8).toNat = 16 by decide), show (if cW 64809 = 0 then (1 : Int) else 0) = 0 by decide +kernel]; exact rc64809 a b ha hb w
    · rw [cpV_eq (show cW 64810 = 8 by decide +kernel) (show cK 64810 = 7 by decide +kernel) (show (lanesI 8).toNat = 16 by decide), show (if cW 64810 = 0 then (1 : Int) else 0) = 0 by decide +kernel]; exact rc64810 a b ha hb w
    · rw [cpV_eq (show cW 64811 = 8 by decide +kernel) (show cK 64811 = 8 by decide +kernel) (show (lanesI 8).toNat = 16 by decide), show (if cW 64811 = 0 then (1 : Int) else 0) = 0 by decide +kernel]; exact rc64811 a b ha hb w
    · rw [cpV_eq (show cW 64812 = 8 by decide +kernel) (show cK 64812 = 9 by decide +kernel) (show (lanesI 8).toNat = 16 by decide), show (if cW 64812 = 0 then (1 : Int) else 0) = 0 by decide +kernel]; exact rc64812 a b ha hb w
    · rw [cpV_eq (show cW 64813 = 16 by decide +kernel) (show cK 64813 = 0 by decide +kernel) (show (lanesI 16).toNat = 8 by decide), show (if cW 64813 = 0 then (1 : Int) else 0) = 0 by decide +kernel]; exact rc64813 a b ha hb w
    · rw [cpV_eq (show cW 64814 = 16 by decide +kernel) (show cK 64814 = 1 by decide +kernel) (show (lanesI 16).toNat = 8 by decide), show (if cW 64814 = 0 then (1 : Int) else 0) = 0 by decide +kernel]; exact rc64814 a b ha hb w
    · rw [cpV_eq (show cW 64815 = 16 by decide +kernel) (show cK 64815 = 2 by decide +kernel) (show (lanesI 16).toNat = 8 by decide), show (if cW 64815 = 0 then (1 : Int) else 0) = 0 by decide +kernel]; exact rc64815 a b ha hb w
    · rw [cpV_eq (show cW 64816 = 16 by decide +kernel) (show cK 64816 = 3 by decide +kernel) (show (lanesI 16).toNat = 8 by decide), show (if cW 64816 = 0 then (1 : Int) else 0) = 0 by decide +kernel]; exact rc64816 a b ha hb w
    · rw [cpV_eq (show cW 64817 = 16 by decide +kernel) (show cK 64817 = 4 by decide +kernel) (show (lanesI 16).toNat = 8 by decide), show (if cW 64817 = 0 then (1 : Int) else 0) = 0 by decide +kernel]; exact rc64817 a b ha hb w
    · rw [cpV_eq (show cW 64818 = 16 by decide +kernel) (show cK 64818 = 5 by decide +kernel) (show (lanesI 16).toNat = 8 by decide), show (if cW 64818 = 0 then (1 : Int) else 0) = 0 by decide +kernel]; exact rc64818 a b ha hb w
    · rw [cpV_eq (show cW 64819 = 16 by decide +kernel) (show cK 64819 = 6 by decide +kernel) (show (lanesI 16).toNat = 8 by decide), show (if cW 64819 = 0 then (1 : Int) else 0) = 0 by decide +kernel]; exact rc64819 a b ha hb w
    · rw [cpV_eq (show cW 64820 = 16 by decide +kernel) (show cK 64820 = 7 by decide +kernel) (show (lanesI 16).toNat = 8 by decide), show (if cW 64820 = 0 then (1 : Int) else 0) = 0 by decide +kernel]; exact rc64820 a b ha hb w
    · rw [cpV_eq (show cW 64821 = 16 by decide +kernel) (show cK 64821 = 8 by decide +kernel) (show (lanesI 16).toNat = 8 by decide), show (if cW 64821 = 0 then (1 : Int) else 0) = 0 by decide +kernel]; exact rc64821 a b ha hb w
    · rw [cpV_eq (show cW 64822 = 16 by decide +kernel) (show cK 64822 = 9 by decide +kernel) (show (lanesI 16).toNat = 8 by decide), show (if cW 64822 = 0 then (1 : Int) else 0) = 0 by decide +kernel]; exact rc64822 a b ha hb w
    · rw [cpV_eq (show cW 64823 = 32 by decide +kernel) (show cK 64823 = 0 by decide +kernel) (show (lanesI 32).toNat = 4 by decide), show (if cW 64823 = 0 then (1 : Int) else 0) = 0 by decide +kernel]; exact rc64823 a b ha hb w
    · rw [cpV_eq (show cW 64824 = 32 by decide +kernel) (show cK 64824 = 1 by decide +kernel) (show (lanesI 32).toNat = 4 by decide), show (if cW 64824 = 0 then (1 : Int) else 0) = 0 by decide +kernel]; exact rc64824 a b ha hb w
    · rw [cpV_eq (show cW 64825 = 32 by decide +kernel) (show cK 64825 = 2 by decide +kernel) (show (lanesI 32).toNat = 4 by decide), show (if cW 64825 = 0 then (1 : Int) else 0) = 0 by decide +kernel]; exact rc64825 a b ha hb w
    · rw [cpV_eq (show cW 64826 = 32 by decide +kernel) (show cK 64826 = 3 by decide +kernel) (show (lanesI 32).toNat = 4 by decide), show (if cW 64826 = 0 then (1 : Int) else 0) = 0 by decide +kernel]; exact rc64826 a b ha hb w
    · rw [cpV_eq (show cW 64827 = 32 by decide +kernel) (show cK 64827 = 4 by decide +kernel) (show (lanesI 32).toNat = 4 by decide), show (if cW 64827 = 0 then (1 : Int) else 0) = 0 by decide +kernel]; exact rc64827 a b ha hb w
    · rw [cpV_eq (show cW 64828 = 32 by decide +kernel) (show cK 64828 = 5 by decide +kernel) (show (lanesI 32).toNat = 4 by decide), show (if cW 64828 = 0 then (1 : Int) else 0) = 0 by decide +kernel]; exact rc64828 a b ha hb w
    · rw [cpV_eq (show cW 64829 = 32 by decide +kernel) (show cK 64829 = 6 by decide +kernel) (show (lanesI 32).toNat = 4 by decide), show (if cW 64829 = 0 then (1 : Int) else 0) = 0 by decide +kernel]; exact rc64829 a b ha hb w
    · rw [cpV_eq (show cW 64830 = 32 by decide +kernel) (show cK 64830 = 7 by decide +kernel) (show (lanesI 32).toNat = 4 by decide), show (if cW 64830 = 0 then (1 : Int) else 0) = 0 by decide +kernel]; exact rc64830 a b ha hb w
    · rw [cpV_eq (show cW 64831 = 32 by decide +kernel) (show cK 64831 = 8 by decide +kernel) (show (lanesI 32).toNat = 4 by decide), show (if cW 64831 = 0 then (1 : Int) else 0) = 0 by decide +kernel]; exact rc64831 a b ha hb w
    · rw [cpV_eq (show cW 64832 = 32 by decide +kernel) (show cK 64832 = 9 by decide +kernel) (show (lanesI 32).toNat = 4 by decide), show (if cW 64832 = 0 then (1 : Int) else 0) = 0 by decide +kernel]; exact rc64832 a b ha hb w
    · rw [cpV_eq (show cW 64982 = 64 by decide +kernel) (show cK 64982 = 0 by decide +kernel) (show (lanesI 64).toNat = 2 by decide), show (if cW 64982 = 0 then (1 : Int) else 0) = 0 by decide +kernel]; exact rc64982 a b ha hb w
    · rw [cpV_eq (show cW 64983 = 64 by decide +kernel) (show cK 64983 = 1 by decide +kernel) (show (lanesI 64).toNat = 2 by decide), show (if cW 64983 = 0 then (1 : Int) else 0) = 0 by decide +kernel]; exact rc64983 a b ha hb w
    · rw [cpV_eq (show cW 64984 = 64 by decide +kernel) (show cK 64984 = 2 by decide +kernel) (show (lanesI 64).toNat = 2 by decide), show (if cW 64984 = 0 then (1 : Int) else 0) = 0 by decide +kernel]; exact rc64984 a b ha hb w
    · rw [cpV_eq (show cW 64985 = 64 by decide +kernel) (show cK 64985 = 4 by decide +kernel) (show (lanesI 64).toNat = 2 by decide), show (if cW 64985 = 0 then (1 : Int) else 0) = 0 by decide +kernel]; exact rc64985 a b ha hb w
    · rw [cpV_eq (show cW 64986 = 64 by decide +kernel) (show cK 64986 = 6 by decide +kernel) (show (lanesI 64).toNat = 2 by decide), show (if cW 64986 = 0 then (1 : Int) else 0) = 0 by decide +kernel]; exact rc64986 a b ha hb w
    · rw [cpV_eq (show cW 64987 = 64 by decide +kernel) (show cK 64987 = 8 by decide +kernel) (show (lanesI 64).toNat = 2 by decide), show (if cW 64987 = 0 then (1 : Int) else 0) = 0 by decide +kernel]; exact rc64987 a b ha hb w
  · have e1 : cW op = 0 := by unfold cW; rw [if_neg (by omega), if_neg (by omega)]
    have e2 : cpV op a b = zV := by unfold cpV; rw [e1]; rfl
    rw [e1, e2, if_pos rfl]
    obtain ⟨k, hk⟩ : ∃ k, IntKind.i64.wrap (op - 64768) = k := ⟨_, rfl⟩
    have hk2 : k = op - 64768 ∨ k ≥ 1000000 := by
      by_cases hq : -9223372036854711040 ≤ op
      · left; rw [← hk]; exact IntWalk.i64_in _ (by omega)
      · right; rw [← hk]; unfold IntKind.wrap; simp [IntKind.signed, IntKind.bits]; omega
    have hc : k < 35 ∨ (65 ≤ k ∧ k < 214) ∨ 220 ≤ k := by omega
    rcases hc with hc | hc | hc
    · exact rn_0 op k hk hc a b w
    · exact rn_1 op k hk hc a b w
    · exact rn_2 op k hk hc a b w
end Cp
end Go.Proofs.Ytdclbagfnabmkaa
