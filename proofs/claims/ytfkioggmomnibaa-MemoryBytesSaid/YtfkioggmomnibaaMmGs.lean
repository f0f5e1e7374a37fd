/-
  Of layer 10: MemoryGrows: its loops, as blocks whose runs are known.
-/
import Derived.Test.YtfkioggmomnibaaMmGr
namespace Go.Proofs.Ytfkioggmomnibaa
open Go.RowKit VecM Ev
namespace Mm
theorem blk0 : blkIn 6 0 = .block 0 (.loop (loopIn 6 0)) := by kernel_rfl
theorem blk2 : blkIn 6 2 = .block 2 (.loop (loopIn 6 2)) := by kernel_rfl
theorem blk4 : blkIn 6 4 = .block 4 (.loop (loopIn 6 4)) := by kernel_rfl
theorem noloop0 : ∀ b, loopIn 6 0 ≠ .loop b := by
  intro b h
  have : (match loopIn 6 0 with | .loop _ => true | _ => false) = false := by kernel_rfl
  rw [h] at this
  cases this
theorem noloop2 : ∀ b, loopIn 6 2 ≠ .loop b := by
  intro b h
  have : (match loopIn 6 2 with | .loop _ => true | _ => false) = false := by kernel_rfl
  rw [h] at this
  cases this
theorem noloop4 : ∀ b, loopIn 6 4 ≠ .loop b := by
  intro b h
  have : (match loopIn 6 4 with | .loop _ => true | _ => false) = false := by kernel_rfl
  rw [h] at this
  cases this
/-- fewer slots told -/
theorem Runs.less {c : Code} {n : Nat} {need give : List (Nat × Value)} {R R1 : List Rw} {ex : Exit} {hav : List Nat} (h : Runs c n need R ex give hav R1) : Runs c n need R ex [] hav R1 :=
  fun w0 w T Q hn hneed hS hQ => h w0 w T Q hn hneed hS fun T' w' e1 _ e3 e4 => hQ T' w' e1 (fun _ hp => by cases hp) e3 e4
structure H1 (c : List Value) (N cap : Nat) (l : Int) : Prop where
  lo : 0 ≤ l
  hi : l ≤ 16
  n : N = 65536 * l.toNat
  ok : OkB c N
  cap : N ≤ cap
structure H2 (c : List Value) (N cap : Nat) (l : Int) : Prop where
  lo : 0 ≤ l
  hi : l ≤ 16
  n : 65536 * l.toNat ≤ N
  bd : N ≤ 1048576
  ok : OkB c N
  cap : N ≤ cap
  eq : ∀ k : Nat, k < l.toNat → gB c (65537 * k) = k + 1
structure H3 (c : List Value) (N cap : Nat) (l : Int) : Prop where
  lo : 0 ≤ l
  hi : l ≤ N / 65536
  n : N = 65536 * (N / 65536)
  bd : N ≤ 1048576
  ok : OkB c N
  cap : N ≤ cap
  eq : ∀ i, 65536 * l.toNat ≤ i → i < N → gB c i = 0
theorem a1_eq {k : Nat} (h : k ≤ 16) : a1 k = 65537 * k := by
  unfold a1
  rw [iy_eq (by omega) (by omega) k (by omega), wi (x := (0 + (k : Int)) * 65536) (by omega) (by omega), wi (by omega) (by omega), wu (by omega) (by omega)]
  omega
theorem x1_eq {k : Nat} (h : k ≤ 16) : x1 k = k + 1 := by
  unfold x1
  rw [iy_eq (by omega) (by omega) k (by omega), wi (by omega) (by omega), wu (by omega) (by omega)]
  omega
theorem g1S_ok {c : List Value} {N cap : Nat} {l : Int} (H : H1 c N cap l) : ∀ p : Nat, p ≤ l.toNat → OkB (g1S gaR c N p) N ∧ (g1S gaR c N p).length = c.length ∧ ∀ k : Nat, k < p → gB (g1S gaR c N p) (65537 * k) = k + 1 := by
  obtain ⟨h0, h1, hN, ok, hc⟩ := H
  intro p
  induction p with
  | zero => exact fun _ => ⟨ok, rfl, fun k hk => by omega⟩
  | succ p ih =>
    intro hp
    obtain ⟨i1, i2, i3⟩ := ih (by omega)
    have ea := a1_eq (k := p) (by omega)
    have ex := x1_eq (k := p) (by omega)
    have F : Fit (g1S gaR c N p) N cap (65537 * (p : Int)) := ⟨i1, hc, by omega, by omega, by omega⟩
    have he : erV N (65537 * (p : Int)) 1 = 0 := by unfold erV; rw [if_neg (by omega), if_pos (by omega)]
    have e : g1S gaR c N (p + 1) = stV (g1S gaR c N p) N (65537 * (p : Int)) 1 (p + 1) := by
      show stV (g1S gaR c N p) N (a1 p) 1 (x1 p) = _
      rw [ea, ex]
    rw [e]
    refine ⟨stV_ok F _ _, by rw [stV_len, i2], fun k hk => ?_⟩
    rw [stV_gB F he]
    have t1 : Int.toNat 1 = 1 := rfl
    have t2 : (65537 * (p : Int)).toNat = 65537 * p := by omega
    rw [t1, t2]
    by_cases hkp : k = p
    · subst hkp
      unfold setN
      rw [if_pos (by omega), Nat.sub_self, Int.pow_zero, Int.ediv_one]
      omega
    · unfold setN
      rw [if_neg (by omega)]
      exact i3 k (by omega)
theorem memv (s : Nat) (z : Int) : ∀ p ∈ nv s z, p = (s, .int .i64 z) := fun p hp => List.mem_singleton.1 hp
theorem loop1 {c : List Value} {N cap : Nat} {l : Int} (H : H1 c N cap l) (mb b1 : Nat) (most : Int) : Runs (blkIn 6 0) 178 (nc0 l mb ++ nv 9 0) (gR mb b1 N cap most c) .normal [] hav1 (gR mb b1 N cap most (g1S gaR c N l.toNat)) := by
  rw [blk0]
  refine Runs.less (runs_loop (id := 0) (n := 178) (m := l.toNat) (nc := nc0 l mb) (nv := fun p => nv 9 (iy 0 p)) (hav := hav1) (R := fun p => gR mb b1 N cap most (g1S gaR c N p)) noloop0 (fun p hp => ?_) (fun p hp => ?_) ?_)
  · simp only [nc0, List.mem_cons, List.not_mem_nil, or_false] at hp
    rcases hp with rfl | rfl
    · exact ⟨show (0 : Nat) < 178 by decide, show memN hav1 0 = false by decide⟩
    · exact ⟨show (7 : Nat) < 178 by decide, show memN hav1 7 = false by decide⟩
  · obtain ⟨i1, _, _⟩ := g1S_ok H p (by omega)
    obtain ⟨h0, h1, hN, ok, hc⟩ := H
    refine R_l1r mb b1 N cap most l (g1S gaR c N p) p (one_d (decide_eq_true ?_) (one_d (okD ?_) nil_d))
    · rw [iy_eq (by omega) (by omega) p (by omega)]; omega
    · rw [a1_eq (by omega)]; exact ⟨i1, hc, by omega, by omega, by omega⟩
  · obtain ⟨h0, h1, hN, ok, hc⟩ := H
    refine R_l1e mb b1 N cap most l (g1S gaR c N l.toNat) l.toNat (one_d (decide_eq_false ?_) nil_d)
    rw [iy_eq (by omega) (by omega) _ (by omega)]; omega
theorem loop2 {c : List Value} {N cap : Nat} {l : Int} (H : H2 c N cap l) (mb b1 : Nat) (most : Int) : Runs (blkIn 6 2) 178 (nc0 l mb ++ nv 12 0) (gR2 mb b1 N cap most c) .normal [] hav2 (gR2 mb b1 N cap most c) := by
  rw [blk2]
  refine Runs.less (runs_loop (id := 2) (n := 178) (m := l.toNat) (nc := nc0 l mb) (nv := fun p => nv 12 (iy 0 p)) (hav := hav2) (R := fun _ => gR2 mb b1 N cap most c) noloop2 (fun p hp => ?_) (fun p hp => ?_) ?_)
  · simp only [nc0, List.mem_cons, List.not_mem_nil, or_false] at hp
    rcases hp with rfl | rfl
    · exact ⟨show (0 : Nat) < 178 by decide, show memN hav2 0 = false by decide⟩
    · exact ⟨show (7 : Nat) < 178 by decide, show memN hav2 7 = false by decide⟩
  · obtain ⟨h0, h1, hN, hb, ok, hc, he⟩ := H
    have ea := a1_eq (k := p) (by omega)
    have F : Fit c N cap (65537 * (p : Int)) := ⟨ok, hc, by omega, by omega, by omega⟩
    have h3 : erV N (65537 * (p : Int)) 1 = 0 := by unfold erV; rw [if_neg (by omega), if_pos (by omega)]
    refine R_l2r mb b1 N cap most l c p (one_d (decide_eq_true ?_) (one_d (okD ?_) (one_d (ne_f ?_) (one_d (ne_f ?_) nil_d))))
    · rw [iy_eq (by omega) (by omega) p (by omega)]; omega
    · rw [ea]; exact F
    · show erV N (a1 p) 1 = 0
      rw [ea]; exact h3
    · show ldV c N (a1 p) 1 = x1 p
      rw [ea, x1_eq (by omega), ldV_sum F h3]
      show sumN (gB c) (65537 * (p : Int)).toNat 1 = _
      have t2 : (65537 * (p : Int)).toNat = 65537 * p := by omega
      rw [t2]
      simp only [sumN, Nat.add_zero, Int.pow_zero, Int.mul_one, Int.zero_add]
      exact he p (by omega)
  · obtain ⟨h0, h1, hN, hb, ok, hc, he⟩ := H
    refine R_l2e mb b1 N cap most l c l.toNat (one_d (decide_eq_false ?_) nil_d)
    rw [iy_eq (by omega) (by omega) _ (by omega)]; omega
theorem pg_eq {N : Nat} (h : N = 65536 * (N / 65536)) (hb : N ≤ 1048576) : pg N = ((N / 65536 : Nat) : Int) := by
  unfold pg
  have e : (N : Int).tdiv 65536 = ((N / 65536 : Nat) : Int) := by
    conv => lhs; rw [h]
    rw [show ((65536 * (N / 65536) : Nat) : Int) = 65536 * ((N / 65536 : Nat) : Int) by omega]
    exact Int.mul_tdiv_cancel_left _ (by decide)
  rw [e, wi (by omega) (by omega)]
theorem sum_zero {b : Nat → Int} {base n : Nat} (h : ∀ m, base ≤ m → m < base + n → b m = 0) : sumN b base n = 0 := by
  induction n with
  | zero => rfl
  | succ n ih => rw [sumN, ih (fun m h1 h2 => h m h1 (by omega)), h _ (by omega) (by omega)]; simp
theorem loop4 {c : List Value} {N cap : Nat} {l : Int} (H : H3 c N cap l) (mb b1 : Nat) (most : Int) : Runs (blkIn 6 4) 178 (nc4 mb ++ nv 15 l) (gR2 mb b1 N cap most c) .normal [] hav4 (gR2 mb b1 N cap most c) := by
  obtain ⟨h0, h1, hN, hb, ok, hc, he⟩ := H
  have hp := pg_eq hN hb
  rw [blk4]
  refine Runs.less (runs_loop (id := 4) (n := 178) (m := N / 65536 - l.toNat) (nc := nc4 mb) (nv := fun p => nv 15 (iy l p)) (hav := hav4) (R := fun _ => gR2 mb b1 N cap most c) noloop4 (fun p hp => ?_) (fun p hp2 => ?_) ?_)
  · simp only [nc4, List.mem_cons, List.not_mem_nil, or_false] at hp
    rcases hp with rfl
    exact ⟨show (7 : Nat) < 178 by decide, show memN hav4 7 = false by decide⟩
  · have ey := iy_eq (l := l) (by omega) (by omega) p (by omega)
    refine R_l4r mb b1 N cap most l c p (app_d (one_d (decide_eq_true ?_) nil_d) fun q hq => ?_)
    · rw [hp, ey]; omega
    · simp only [List.mem_flatten, List.mem_map, List.mem_range] at hq
      obtain ⟨L, ⟨j, hj, rfl⟩, hq⟩ := hq
      have ea : a3 l p j = 65536 * (l + p) + 8192 * j := by
        unfold a3
        rw [ey, wi (x := (l + (p : Int)) * 65536) (by omega) (by omega), wi (by omega) (by omega), wu (by omega) (by omega)]
        omega
      have F : Fit c N cap (65536 * (l + p) + 8192 * (j : Int)) := ⟨ok, hc, by omega, by omega, by omega⟩
      have h3 : erV N (65536 * (l + p) + 8192 * (j : Int)) 8 = 0 := by unfold erV; rw [if_neg (by omega), if_pos (by omega)]
      rw [ea] at hq
      simp only [List.mem_cons, List.not_mem_nil, or_false] at hq
      rcases hq with rfl | rfl | rfl
      · exact okD F
      · exact ne_f h3
      · refine ne_f ?_
        show ldV c N (65536 * (l + p) + 8192 * (j : Int)) 8 = 0
        rw [ldV_sum F h3]
        have t8 : Int.toNat 8 = 8 := rfl
        rw [t8]
        exact sum_zero fun m h4 h5 => he m (by omega) (by omega)
  · refine R_l4e mb b1 N cap most l c _ (one_d (decide_eq_false ?_) nil_d)
    rw [hp, iy_eq (by omega) (by omega) _ (by omega)]; omega
structure Gb where
  h1 : List Value → Nat → Nat → Int → Bool
  h2 : List Value → Nat → Nat → Int → Bool
  h3 : List Value → Nat → Nat → Int → Bool
  g1 : List Value → Nat → Int → List Value
noncomputable def gbR : Gb := ⟨fun c N cap l => @decide (H1 c N cap l) (Classical.propDecidable _), fun c N cap l => @decide (H2 c N cap l) (Classical.propDecidable _), fun c N cap l => @decide (H3 c N cap l) (Classical.propDecidable _), fun c N l => g1S gaR c N l.toNat⟩
def gbS : Gb := ⟨fun _ _ _ _ => true, fun _ _ _ _ => true, fun _ _ _ _ => true, fun c _ _ => c⟩
theorem h1_iff {c : List Value} {N cap : Nat} {l : Int} : gbR.h1 c N cap l = true ↔ H1 c N cap l := @decide_eq_true_iff _ (Classical.propDecidable _)
theorem h2_iff {c : List Value} {N cap : Nat} {l : Int} : gbR.h2 c N cap l = true ↔ H2 c N cap l := @decide_eq_true_iff _ (Classical.propDecidable _)
theorem h3_iff {c : List Value} {N cap : Nat} {l : Int} : gbR.h3 c N cap l = true ↔ H3 c N cap l := @decide_eq_true_iff _ (Classical.propDecidable _)
noncomputable def grHole (B : Gb) (id : Nat) (_ : Code) (T : Tm) (M : List Rw) : Option Hole :=
  match Nat.beq id 0 with
  | true => match M with
    | [⟨mb, [.slice (some ⟨_, 0, none⟩) N cap, .int .i64 most], _, _⟩, ⟨b1, c, _, _⟩] => match tget T 0 with
      | .int .i64 l => some (mkHole (blkIn 6 0) 178 (nc0 l mb ++ nv 9 0) (gR mb b1 N cap most c) [B.h1 c N cap l] .normal [] hav1 (gR mb b1 N cap most (B.g1 c N l)))
      | _ => none
    | _ => none
  | false => match M with
    | [⟨b1, c, _, _⟩, ⟨mb, [.slice (some ⟨_, 0, none⟩) N cap, .int .i64 most], _, _⟩] => match Nat.beq id 2 with
      | true => match tget T 0 with
        | .int .i64 l => some (mkHole (blkIn 6 2) 178 (nc0 l mb ++ nv 12 0) (gR2 mb b1 N cap most c) [B.h2 c N cap l] .normal [] hav2 (gR2 mb b1 N cap most c))
        | _ => none
      | false => match Nat.beq id 4 with
        | true => match tget T 15 with
          | .int .i64 l => some (mkHole (blkIn 6 4) 178 (nc4 mb ++ nv 15 l) (gR2 mb b1 N cap most c) [B.h3 c N cap l] .normal [] hav4 (gR2 mb b1 N cap most c))
          | _ => none
        | false => none
    | _ => none
noncomputable def envGr (G : Ga) (B : Gb) (nw : Nat → Int) (gd : Nat → Nat → Int → Int → Bool) : Env :=
  { P := Try.prog, known := [], sum := fun _ _ => none, csum := awC, hole := grHole B, msum := orM [(9, nwM G nw), (18, ldM G), (17, stM G), (11, clM G), (20, grM G gd), (19, saS G)] }
theorem envGr_ok (nw : Nat → Int) (gd : Nat → Nat → Int → Int → Bool) : OphOk (envGr gaR gbR nw gd) := ⟨awC_ok, fun _ _ _ _ hq => (by cases hq), envL_ms nw gd awC, no_aop rfl⟩
theorem envGr_holes (G : Ga) (nw : Nat → Int) (gd : Nat → Nat → Int → Int → Bool) : HolesOk (envGr G gbR nw gd) := by
  intro id body T M H hq hn hneed hrows hpre w0 w1 Q hS hQ
  replace hq : grHole gbR id body T M = some H := hq
  unfold grHole at hq
  split at hq
  · split at hq
    · split at hq
      · cases hq
        have h := h1_iff.1 (hpre _ (List.mem_cons_self ..))
        exact mkHole_ok (loop1 h _ _ _) (fun p hp => by cases hp) hn hneed (by rw [hrows] at hS; exact hS) fun ξ w' h => hQ ξ w' h
      · cases hq
    · cases hq
  · split at hq
    · split at hq
      · split at hq
        · cases hq
          have h := h2_iff.1 (hpre _ (List.mem_cons_self ..))
          exact mkHole_ok (loop2 h _ _ _) (fun p hp => by cases hp) hn hneed (by rw [hrows] at hS; exact hS) fun ξ w' h => hQ ξ w' h
        · cases hq
      · split at hq
        · split at hq
          · cases hq
            have h := h3_iff.1 (hpre _ (List.mem_cons_self ..))
            exact mkHole_ok (loop4 h _ _ _) (fun p hp => by cases hp) hn hneed (by rw [hrows] at hS; exact hS) fun ξ w' h => hQ ξ w' h
          · cases hq
        · cases hq
    · cases hq
end Mm
end Go.Proofs.Ytfkioggmomnibaa
