/-
  Bytes of a row, as numbers: what Store leaves and Load gathers. Of layer 10.
-/
import Derived.Test.YtmgkejpjljkfdaaMmAw
namespace Go.Proofs.Ytmgkejpjljkfdaa
open Go.RowKit VecM Ev
namespace Mm
theorem gB_set (c : List Value) (j : Nat) (y : Int) (hj : j < c.length) (i : Nat) : gB (c.set j (.int .u8 y)) i = upd (gB c) j y i := by
  unfold gB upd
  by_cases h : i = j
  · subst h
    rw [List.getElem?_set_self hj, if_pos rfl]
  · rw [List.getElem?_set_ne (fun e => h e.symm), if_neg h]
theorem byte_val (x : Int) (k : Nat) (hk : k < 8) : IntKind.u8.wrap (x.fdiv (2 ^ (min (Int.toNat (IntKind.i64.wrap (8 * (k : Int)))) 64))) = x / 256 ^ k % 256 := by
  have e1 : IntKind.i64.wrap (8 * (k : Int)) = 8 * k := wi (by omega) (by omega)
  have e2 : min (Int.toNat (8 * (k : Int))) 64 = 8 * k := by omega
  rw [e1, e2, pow8, IntKind.wrap_u8, Int.fdiv_eq_ediv_of_nonneg _ (Int.le_of_lt (pow_pos' k))]
theorem stX_gB {c : List Value} {N : Nat} {a : Int} (x : Int) (h0 : 0 ≤ a) (hN : N ≤ c.length) (hb : N ≤ 70368744177664) : ∀ (n : Nat), n ≤ 8 → a + n ≤ (N : Int) → ∀ i, gB (stX c a x n) i = setN (gB c) a.toNat x n i := by
  intro n
  induction n with
  | zero => intro _ _ i; rw [setN_zero]; rfl
  | succ n ih =>
    intro hn h i
    have e := wk (k := n) (N := N) h0 (by omega) (by omega)
    rw [stX, e, byte_val x n (by omega), setN_succ, gB_set _ _ _ (by rw [stX_len]; omega)]
    have e2 : 0 + (a + (n : Int)).toNat = a.toNat + n := by omega
    rw [e2]
    unfold upd
    split
    · rfl
    · exact ih (by omega) (by omega) i
theorem stX_ok {c : List Value} {N : Nat} {a : Int} (x : Int) (ok : OkB c N) (h0 : 0 ≤ a) (hb : N ≤ 70368744177664) : ∀ (n : Nat), n ≤ 8 → a + n ≤ (N : Int) → OkB (stX c a x n) N := by
  intro n
  induction n with
  | zero => intro _ _; exact ok
  | succ n ih =>
    intro hn h
    obtain ⟨h1, h2⟩ := ih (by omega) (by omega)
    have e := wk (k := n) (N := N) h0 (by omega) (by omega)
    refine ⟨by rw [stX_len]; exact ok.1, fun i hi => ?_⟩
    rw [stX, e, byte_val x n (by omega)]
    by_cases hj : i = 0 + (a + (n : Int)).toNat
    · rw [← hj, List.getElem?_set_self (by rw [stX_len]; have := ok.1; omega)]
      exact ⟨_, rfl, by omega, by omega⟩
    · rw [List.getElem?_set_ne (fun e => hj e.symm)]
      exact h2 i hi
/-- the bytes within, zeros beyond -/
def fB (c : List Value) (N : Nat) : Nat → Int := fun i => if i < N then gB c i else 0
theorem fB_byt {c : List Value} {N : Nat} (ok : OkB c N) : Byt (fB c N) := fun m => by
  unfold fB
  split
  · exact ok.bd (by assumption)
  · exact ⟨by decide, by decide⟩
theorem ldX_get {c : List Value} {N : Nat} (ok : OkB c N) {a : Nat} : ∀ n : Nat, n ≤ 8 → a + n ≤ N → ldX c a n = getP (fB c N) a n := by
  intro n
  induction n with
  | zero => intro _ _; rfl
  | succ n ih =>
    intro hn h
    have hb := ok.bd (i := a + n) (by omega)
    have e1 : IntKind.i64.wrap (8 * (n : Int)) = 8 * n := wi (by omega) (by omega)
    have e2 : min (Int.toNat (8 * (n : Int))) 64 = 8 * n := by omega
    have e3 : fB c N (a + n) = gB c (a + n) := if_pos (by omega)
    rw [ldX, getP, ih (by omega) (by omega), e1, e2, e3, wu hb.1 (by omega)]
theorem ldX_sum {c : List Value} {N : Nat} (ok : OkB c N) {a n : Nat} (hn : n ≤ 8) (h : a + n ≤ N) : ldX c a n = sumN (gB c) a n := by
  rw [ldX_get ok n hn h, getP_sum (fB_byt ok) a n hn]
  exact sum_congr fun m _ h2 => if_pos (by omega)
theorem zC_ok {n N : Nat} (h : N ≤ n) : OkB (zC n) N := ⟨by rw [zC_len]; exact h, fun i hi => ⟨0, by unfold zC; rw [List.getElem?_replicate, if_pos (by omega)], by decide, by decide⟩⟩
theorem zC_gB {n i : Nat} : gB (zC n) i = 0 := by
  unfold gB zC
  rw [List.getElem?_replicate]
  split
  · rename_i h
    split at h
    · simp only [Option.some.injEq, Value.int.injEq, true_and] at h; exact h.symm
    · cases h
  · rfl
theorem stV_ok {c : List Value} {N cap : Nat} {a : Int} (F : Fit c N cap a) (n x : Int) : OkB (stV c N a n x) N := by
  unfold stV
  split
  · rename_i he
    obtain ⟨hn, hf⟩ := er_zero he
    exact stX_ok x F.ok F.lo F.bd n.toNat (by omega) (by omega)
  · exact F.ok
theorem stV_gB {c : List Value} {N cap : Nat} {a : Int} (F : Fit c N cap a) {n x : Int} (he : erV N a n = 0) (i : Nat) : gB (stV c N a n x) i = setN (gB c) a.toNat x n.toNat i := by
  unfold stV
  rw [if_pos he]
  obtain ⟨hn, hf⟩ := er_zero he
  exact stX_gB x F.lo F.ok.1 F.bd n.toNat (by omega) (by omega) i
theorem stV_len (c : List Value) (N : Nat) (a n x : Int) : (stV c N a n x).length = c.length := by
  unfold stV
  split
  · exact stX_len c a x _
  · rfl
theorem ldV_sum {c : List Value} {N cap : Nat} {a : Int} (F : Fit c N cap a) {n : Int} (he : erV N a n = 0) : ldV c N a n = sumN (gB c) a.toNat n.toNat := by
  unfold ldV
  rw [if_pos he]
  obtain ⟨hn, hf⟩ := er_zero he
  have := F.lo
  exact ldX_sum F.ok (by omega) (by omega)
theorem Fit.at {c : List Value} {N cap : Nat} {a : Int} (F : Fit c N cap a) {b : Int} (h0 : 0 ≤ b) (h1 : b < 18446744073709551616) : Fit c N cap b := ⟨F.ok, F.cap, F.bd, h0, h1⟩
theorem Fit.st {c : List Value} {N cap : Nat} {a : Int} (F : Fit c N cap a) (n x : Int) : Fit (stV c N a n x) N cap a := ⟨stV_ok F n x, F.cap, F.bd, F.lo, F.hi⟩
theorem tkV_ok {c : List Value} {N : Nat} (ok : OkB c N) (t : List Value) : OkB (tkV c N t) N := by
  refine ⟨?_, fun i hi => ?_⟩
  · unfold tkV; rw [List.length_append, List.length_take]; have := ok.1; omega
  · unfold tkV; rw [List.getElem?_append_left (by rw [List.length_take]; have := ok.1; omega), List.getElem?_take_of_lt hi]; exact ok.2 i hi
theorem tkV_gB {c : List Value} {N : Nat} (ok : OkB c N) (t : List Value) {i : Nat} (hi : i < N) : gB (tkV c N t) i = gB c i := by
  unfold tkV gB
  rw [List.getElem?_append_left (by rw [List.length_take]; have := ok.1; omega), List.getElem?_take_of_lt hi]
end Mm
end Go.Proofs.Ytmgkejpjljkfdaa
