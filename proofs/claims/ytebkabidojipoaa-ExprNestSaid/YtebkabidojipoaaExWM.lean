/-
  Of layer 12, plain: blocks within one another. Of no program.
-/
import Derived.Test.YtebkabidojipoaaMe19
import Derived.Test.YtebkabidojipoaaMe8
namespace Go.Proofs.Ytebkabidojipoaa
open Go.RowKit VecM LebM
namespace Ex
def opI (kd : Int) : In := ⟨kd, -64, 0, 0, 0, []⟩
def clI : In := ⟨11, 0, 0, 0, 0, []⟩
def Kd (kd : Int) : Prop := kd = 2 ∨ kd = 3 ∨ kd = 4
theorem fm_kd {kd : Int} (h : Kd kd) : fm kd = 2 := by
  rcases h with rfl | rfl | rfl <;> kernel_rfl
theorem fm_cl : fm 11 = 1 := by kernel_rfl
theorem step_kd {kd : Int} (N : List Int) : stepN kd 2 N false = (true, N ++ [kd], false) := by
  unfold stepN; rw [if_neg (by decide), if_pos rfl]
theorem good_kd {kd : Int} (h : Kd kd) (N : List Int) : goodB (opI kd) N false = decide (N.length ≠ 128) := by
  unfold goodB opI
  dsimp only
  rw [fm_kd h, step_kd]
  have e : fitB ⟨kd, -64, 0, 0, 0, []⟩ 2 = true := by
    unfold fitB; rw [if_pos rfl]; rfl
  rw [e]
  by_cases hn : N.length = 128
  · rw [hn]; rfl
  · have h2 : ((N.length : Int) == 128) = false := by
      apply Bool.eq_false_iff.2; intro h; exact hn (by have := beq_iff_eq.1 h; omega)
    rw [h2, decide_eq_true hn]; rfl
theorem step_cl (N : List Int) : stepN 11 1 N false = if N = [] then (true, N, true) else (true, N.dropLast, false) := by
  unfold stepN; rw [if_neg (by decide), if_neg (by decide), if_neg (by decide), if_pos rfl]
theorem good_cl (N : List Int) : goodB clI N false = true := by
  unfold goodB clI
  dsimp only
  rw [fm_cl, step_cl]
  split <;> rfl
theorem rep_snoc {α : Type} (n : Nat) (x : α) (A : List α) : A ++ List.replicate (n + 1) x = (A ++ [x]) ++ List.replicate n x := by
  rw [List.replicate_succ, List.append_assoc]; rfl
theorem okB_opens {kd : Int} (h : Kd kd) (X : List In) : ∀ (n : Nat) (N : List Int), N.length + n ≤ 128 → okB (List.replicate n (opI kd) ++ X) N false = okB X (N ++ List.replicate n kd) false
  | 0, N, _ => by simp
  | n + 1, N, hn => by
    rw [List.replicate_succ, List.cons_append, okB, good_kd h, decide_eq_true (by omega), Bool.true_and]
    have e : stepN (opI kd).op (fm (opI kd).op) N false = (true, N ++ [kd], false) := by
      show stepN kd (fm kd) N false = _
      rw [fm_kd h, step_kd]
    rw [e]
    dsimp only
    rw [okB_opens h X n (N ++ [kd]) (by simp; omega), rep_snoc]
theorem okB_many {kd : Int} (h : Kd kd) (X : List In) : ∀ (n : Nat) (N : List Int), N.length ≤ 128 → 128 < N.length + n → okB (List.replicate n (opI kd) ++ X) N false = false
  | 0, N, h1, h2 => by omega
  | n + 1, N, h1, h2 => by
    rw [List.replicate_succ, List.cons_append, okB, good_kd h]
    by_cases hn : N.length = 128
    · rw [decide_eq_false (by omega)]; rfl
    · rw [decide_eq_true hn, Bool.true_and]
      have e : stepN (opI kd).op (fm (opI kd).op) N false = (true, N ++ [kd], false) := by
        show stepN kd (fm kd) N false = _
        rw [fm_kd h, step_kd]
      rw [e]
      exact okB_many h X n (N ++ [kd]) (by simp; omega) (by simp; omega)
theorem okB_closes : ∀ (n : Nat) (N : List Int), N.length = n → okB (List.replicate (n + 1) clI) N false = true
  | 0, N, hn => by
    obtain rfl := List.eq_nil_of_length_eq_zero hn
    rw [List.replicate_succ, okB, good_cl, Bool.true_and]
    show okB [] (stepN 11 (fm 11) [] false).2.1 (stepN 11 (fm 11) [] false).2.2 = true
    rw [fm_cl, step_cl, if_pos rfl]; rfl
  | n + 1, N, hn => by
    rw [List.replicate_succ, okB, good_cl, Bool.true_and]
    show okB (List.replicate (n + 1) clI) (stepN 11 (fm 11) N false).2.1 (stepN 11 (fm 11) N false).2.2 = true
    rw [fm_cl, step_cl, if_neg (fun e => by subst e; simp at hn)]
    exact okB_closes n N.dropLast (by simp [hn])
def ops (kd : Int) (n : Nat) : List In := List.replicate n (opI kd)
def cls (n : Nat) : List In := List.replicate n clI
theorem ok_open {kd : Int} (h : Kd kd) (n : Nat) : okB (ops kd n) [] false = false := by
  by_cases hn : n ≤ 128
  · have := okB_opens h [] n [] (by simpa using hn)
    rw [List.append_nil] at this
    unfold ops
    rw [this]; rfl
  · have := okB_many h [] n [] (by simp) (by simp; omega)
    rw [List.append_nil] at this
    exact this
theorem ok_nest {kd : Int} (h : Kd kd) {n : Nat} (hn : n ≤ 128) : okB (ops kd n ++ cls (n + 1)) [] false = true := by
  unfold ops cls
  rw [okB_opens h _ n [] (by simpa using hn)]
  exact okB_closes n _ (by simp)
theorem ok_deep {kd : Int} (h : Kd kd) {n : Nat} (hn : 128 < n) (X : List In) : okB (ops kd n ++ X) [] false = false := okB_many h X n [] (by simp) (by simp; omega)
theorem insB_op {kd : Int} (h : Kd kd) : insB (opI kd) = [kd, 64] := by
  unfold insB
  show opcL kd ++ fldL (opI kd) (fm kd) = _
  rw [fm_kd h]
  rcases h with rfl | rfl | rfl <;> rfl
theorem insB_cl : insB clI = [11] := by
  unfold insB
  show opcL 11 ++ fldL clI (fm 11) = _
  rw [fm_cl]; rfl
theorem insF_app (A B : List In) : insF (A ++ B) = insF A ++ insF B := by unfold insF; rw [List.flatMap_append]
theorem insF_ops {kd : Int} (h : Kd kd) (n : Nat) : insF (ops kd (n + 1)) = insF (ops kd n) ++ [kd, 64] := by
  unfold ops
  rw [List.replicate_succ', insF_app, insF_cons, insB_op h]; rfl
theorem insF_cls (A : List In) (n : Nat) : insF (A ++ cls (n + 1)) = insF (A ++ cls n) ++ [11] := by
  unfold cls
  rw [List.replicate_succ', ← List.append_assoc, insF_app, insF_cons, insB_cl]; rfl
theorem ops_len {kd : Int} (h : Kd kd) : ∀ n, (insF (ops kd n)).length = 2 * n
  | 0 => rfl
  | n + 1 => by rw [insF_ops h, List.length_append, ops_len h n]; simp; omega
theorem inB_op {kd : Int} (h : Kd kd) : InB (opI kd) := by
  rcases h with rfl | rfl | rfl <;> exact ⟨⟨by decide, by decide, by decide, by decide, by decide⟩, by decide⟩
theorem inB_cl : InB clI := ⟨⟨by decide, by decide, by decide, by decide, by decide⟩, by decide⟩
theorem inB_all {kd : Int} (h : Kd kd) (n m : Nat) : ∀ d ∈ ops kd n ++ cls m, InB d := fun d hd => by
  rcases List.mem_append.1 hd with hd | hd
  · rw [(List.mem_replicate.1 hd).2]; exact inB_op h
  · rw [(List.mem_replicate.1 hd).2]; exact inB_cl
theorem rd_opens {kd : Int} (h : Kd kd) {g : Nat → Int} {len : Nat} : ∀ (n p k : Nat) (N : List Int) (acc : List In), N.length + n ≤ 128 → At g len p (insF (ops kd n)) → ∃ acc', rdS g len (k + n) ⟨p, 0⟩ N false acc = rdS g len k ⟨((p + 2 * n : Nat) : Int), 0⟩ (N ++ List.replicate n kd) false acc'
  | 0, p, k, N, acc, _, _ => ⟨acc, by simp⟩
  | n + 1, p, k, N, acc, hn, hat => by
    have e0 : insF (ops kd (n + 1)) = insB (opI kd) ++ insF (ops kd n) := by unfold ops; rw [List.replicate_succ, insF_cons]
    rw [e0] at hat
    have h1 := ins_at (N := N) (by rw [good_kd h]; exact decide_eq_true (by omega)) (inB_op h) hat.left
    have h2 := hat.right
    rw [insB_op h] at h1 h2
    obtain ⟨acc', h3⟩ := rd_opens h n (p + 2) k (N ++ [kd]) (acc ++ [opI kd]) (by simp; omega) h2
    refine ⟨acc', ?_⟩
    rw [← Nat.add_assoc, rdS, if_neg (by decide), h1]
    dsimp only
    rw [if_neg (by decide)]
    have e : stepN (opI kd).op (fm (opI kd).op) N false = (true, N ++ [kd], false) := by
      show stepN kd (fm kd) N false = _
      rw [fm_kd h, step_kd]
    rw [e]
    dsimp only
    rw [rep_snoc]
    have e4 : p + 2 * (n + 1) = p + 2 + 2 * n := by omega
    rw [e4]
    exact h3
theorem rd_end {g : Nat → Int} {len k : Nat} {N : List Int} {acc : List In} : rdS g len (k + 1) ⟨(len : Int), 0⟩ N false acc = ([], 0, 10) := by
  have h1 : octS g len ⟨(len : Int), 0⟩ = (0, ⟨(len : Int), 10⟩) := by
    unfold octS; rw [if_pos (.inr (Int.le_refl _))]; rfl
  have h2 : opcS g len ⟨(len : Int), 0⟩ = (0, ⟨(len : Int), 10⟩) := by
    unfold opcS; rw [h1]; rfl
  have h3 : insS g len ⟨(len : Int), 0⟩ N false = (⟨0, 0, 0, 0, 0, []⟩, ⟨(len : Int), 10⟩, N, false) := by
    unfold insS; rw [h2]; rfl
  rw [rdS, if_neg (by decide), h3]
  rfl
theorem rd_full {kd : Int} (h : Kd kd) {g : Nat → Int} {len p k : Nat} {N : List Int} {acc : List In} (hN : N.length = 128) (hat : At g len p (insB (opI kd))) : rdS g len (k + 1) ⟨p, 0⟩ N false acc = ([], 0, 3) := by
  have hf : fm kd ≠ 0 := by rw [fm_kd h]; decide
  unfold insB at hat
  have e1 : opcS g len ⟨p, 0⟩ = (kd, ⟨((p + (opcL kd).length : Nat) : Int), 0⟩) := opc_at hat.left hf
  have e2 : fldS g len (fm kd) kd ⟨((p + (opcL kd).length : Nat) : Int), 0⟩ = _ := fld_at (d := opI kd) (form := fm kd) (by rw [fm_kd h]; decide) (by rw [fm_kd h]; rfl) (inB_op h).1 (inB_op h).2 hat.right
  have e3 : opSt kd ⟨((p + (opcL kd).length : Nat) : Int), 0⟩ = ⟨((p + (opcL kd).length : Nat) : Int), 0⟩ := by
    unfold opSt; rw [(fm_float (by rcases h with rfl | rfl | rfl <;> decide) hf).1, if_neg (by decide), if_neg hf]
  have h3 : (insS g len ⟨p, 0⟩ N false).2.1.e = 3 := by
    unfold insS
    rw [e1]
    dsimp only
    rw [if_neg (by decide), e3, e2]
    dsimp only
    rw [if_neg (by decide), if_pos ⟨fm_kd h, hN⟩]
    rfl
  rw [rdS, if_neg (by decide), if_pos (by rw [h3]; decide), h3]
theorem read_open {kd : Int} (h : Kd kd) {n : Nat} (hn : n ≤ 128) : readS (lst (insF (ops kd n))) (insF (ops kd n)).length 0 = ([], 0, 10) := by
  have hat : At (lst (insF (ops kd n))) (insF (ops kd n)).length 0 (insF (ops kd n)) := ⟨fun j _ => by rw [Nat.zero_add]; rfl, by omega⟩
  obtain ⟨acc', h1⟩ := rd_opens h n 0 (n + 2) [] [] (by simpa using hn) hat
  unfold readS
  rw [if_neg (by omega)]
  have hl := ops_len h n
  have e : (insF (ops kd n)).length + 2 = n + 2 + n := by omega
  rw [e]
  have h1' : rdS (lst (insF (ops kd n))) (insF (ops kd n)).length (n + 2 + n) ⟨0, 0⟩ [] false [] = _ := h1
  rw [h1', Nat.zero_add, ← hl]
  exact rd_end (k := n + 1)
theorem read_deep {kd : Int} (h : Kd kd) {n : Nat} (hn : 128 < n) (X : List In) : readS (lst (insF (ops kd n ++ X))) (insF (ops kd n ++ X)).length 0 = ([], 0, 3) := by
  have e0 : ops kd n = ops kd 128 ++ (opI kd :: ops kd (n - 129)) := by
    unfold ops
    rw [← List.replicate_succ, List.replicate_append_replicate]
    congr 1; omega
  have hat : At (lst (insF (ops kd n ++ X))) (insF (ops kd n ++ X)).length 0 (insF (ops kd n ++ X)) := ⟨fun j _ => by rw [Nat.zero_add]; rfl, by omega⟩
  generalize hg : lst (insF (ops kd n ++ X)) = g at *
  have hlen : 2 * n ≤ (insF (ops kd n ++ X)).length := by rw [insF_app, List.length_append, ops_len h]; omega
  generalize hL : (insF (ops kd n ++ X)).length = len at *
  have e1 : insF (ops kd n ++ X) = insF (ops kd 128) ++ (insB (opI kd) ++ (insF (ops kd (n - 129)) ++ insF X)) := by
    rw [e0, List.append_assoc, insF_app, List.cons_append, insF_cons, insF_app]
  rw [e1] at hat
  obtain ⟨acc', h1⟩ := rd_opens h 128 0 (len + 2 - 128) [] [] (by simp) hat.left
  unfold readS
  rw [if_neg (by omega)]
  have h1' : rdS g len (len + 2 - 128 + 128) ⟨0, 0⟩ [] false [] = _ := h1
  rw [show len + 2 = len + 2 - 128 + 128 by omega, h1', show len + 2 - 128 = (len + 2 - 129) + 1 by omega]
  have h2 := hat.right.left
  rw [ops_len h] at h2
  exact rd_full h (by simp) h2
end Ex
end Go.Proofs.Ytebkabidojipoaa
