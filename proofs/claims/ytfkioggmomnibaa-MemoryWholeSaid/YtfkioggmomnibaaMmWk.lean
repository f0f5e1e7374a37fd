/-
  Of layer 10: MemoryWhole: for every place, number of bytes and number the law returns true. (gen_mmwk.py)
-/
import Derived.Test.YtfkioggmomnibaaMmWh
namespace Go.Proofs.Ytfkioggmomnibaa
open Go.RowKit VecM Ev
namespace Mm
theorem gaR_st : gaR.st = stV := rfl
theorem whS_succ (G : Ga) (k : Nat) : whS G (k + 1) = G.st (whS G k) (pN 1) ((4096 * k : Nat) : Int) 8 1234605616436508552 := rfl
set_option maxRecDepth 100000 in
theorem whS_ok : ∀ k, k ≤ 16 → OkB (whS gaR k) 65536 ∧ (whS gaR k).length = 65536 := by
  intro k
  induction k with
  | zero =>
    have e : whS gaR 0 = zC 65536 := congrArg zC pN1
    have h := zC_ok (n := 65536) (N := 65536) (Nat.le_refl _)
    have hl := zC_len 65536
    exact fun _ => ⟨e ▸ h, (congrArg List.length e).trans hl⟩
  | succ k ih =>
    intro hk
    obtain ⟨h1, h2⟩ := ih (by omega)
    have F : Fit (whS gaR k) 65536 65536 ((4096 * k : Nat) : Int) := ⟨h1, Nat.le_refl _, by omega, by omega, by omega⟩
    have e : whS gaR (k + 1) = stV (whS gaR k) 65536 ((4096 * k : Nat) : Int) 8 1234605616436508552 := by
      rw [whS_succ, pN1]
      exact congrFun (congrFun (congrFun (congrFun (congrFun gaR_st _) _) _) _) _
    exact ⟨e ▸ stV_ok F _ _, e ▸ (stV_len _ _ _ _ _).trans h2⟩
set_option maxRecDepth 100000 in
theorem whT_ok : OkB (whT gaR) 65536 ∧ (whT gaR).length = 65536 := by
  obtain ⟨h1, h2⟩ := whS_ok 16 (Nat.le_refl _)
  have F : Fit (whS gaR 16) 65536 65536 65528 := ⟨h1, Nat.le_refl _, by omega, by omega, by omega⟩
  refine ⟨?_, ?_⟩
  · show OkB (stV (whS gaR 16) (pN 1) 65528 8 11647051513882650536) 65536
    rw [pN1]; exact stV_ok F _ _
  · show (stV (whS gaR 16) (pN 1) 65528 8 11647051513882650536).length = 65536
    rw [stV_len]; exact h2
theorem whT_fit {a : Int} (h0 : 0 ≤ a) (h1 : a < 18446744073709551616) : Fit (whT gaR) 65536 65536 a := ⟨whT_ok.1, Nat.le_refl _, by omega, h0, h1⟩
set_option maxRecDepth 100000 in
theorem whU_eq (a n x : Int) : whU gaR a n x = stV (whT gaR) 65536 a n x := by unfold whU; rw [pN1]; rfl
set_option maxRecDepth 100000 in
theorem whK_eq (β : Nat → Fr) : whK gaR β = tkV (whT gaR) 65536 (β 2).t := by unfold whK; rw [pN1]; rfl
theorem app_d {D D' : List (Bool × Bool)} (h : ∀ p ∈ D, p.1 = p.2) (h' : ∀ p ∈ D', p.1 = p.2) : ∀ p ∈ D ++ D', p.1 = p.2 := fun p hp => by
  rcases List.mem_append.1 hp with hp | hp
  · exact h p hp
  · exact h' p hp
theorem okD {c : List Value} {N cap : Nat} {a : Int} (F : Fit c N cap a) : gaR.ok c N cap a = true := okB_iff.2 F
set_option maxRecDepth 100000 in
theorem wh0_ok {a : Int} (h0 : 0 ≤ a) (h1 : a < 18446744073709551616) (n x : Int) : ∀ p ∈ wh0 gaR a n x, p.1 = p.2 := by
  unfold wh0
  rw [pN1]
  refine app_d (app_d (one_d (show nqB 1 1 0 = true by decide) nil_d) fun p hp => ?_) (one_d (okD ?_) (one_d (okD (whT_fit (by omega) (by omega))) (one_d (okD (whT_fit h0 h1)) (one_d (okD ?_) nil_d))))
  · simp only [List.mem_map, List.mem_range] at hp
    obtain ⟨k, hk, rfl⟩ := hp
    exact okD ⟨(whS_ok k (by omega)).1, Nat.le_refl _, by omega, by omega, by omega⟩
  · exact ⟨(whS_ok 16 (Nat.le_refl _)).1, Nat.le_refl _, by omega, by omega, by omega⟩
  · rw [whU_eq]; exact (whT_fit h0 h1).st n x
set_option maxRecDepth 100000 in
theorem whK_ok (β : Nat → Fr) : OkB (whK gaR β) 65536 := by rw [whK_eq]; exact tkV_ok whT_ok.1 _
set_option maxRecDepth 100000 in
theorem whK_gB (β : Nat → Fr) {i : Nat} (hi : i < 65536) : gB (whK gaR β) i = gB (whT gaR) i := by rw [whK_eq]; exact tkV_gB whT_ok.1 _ hi
set_option maxRecDepth 100000 in
theorem whK_same {c : List Value} (β : Nat → Fr) (ok : OkB c 65536) (h : ∀ i, i < 65536 → gB c i = gB (whT gaR) i) : smB c (whK gaR β) (pN 1) (pN 1) (pN 1) (gaR.ln (whK gaR β)) = true := by
  rw [pN1]
  exact smB_iff.2 ⟨rfl, rfl, ok, whK_ok β, Nat.le_refl _, (whK_ok β).1, fun i hi => by rw [whK_gB β hi, h i hi]⟩
theorem eqb_t {a b : Int} (h : a = b) : (a == b) = true := by simpa using h
set_option maxRecDepth 100000 in
theorem whU_no {a n : Int} (h : erV 65536 a n ≠ 0) (x : Int) : whU gaR a n x = whT gaR := by rw [whU_eq]; unfold stV; rw [if_neg h]
set_option maxRecDepth 100000 in
theorem whLd_no {a n : Int} (h : erV 65536 a n ≠ 0) (c : List Value) : ldV c 65536 a n = 0 := by unfold ldV; rw [if_neg h]
noncomputable def whRun (G : Ga) (ld er : Int) (a n x a' n' x' : Int) (D : (Nat → Fr) → List (Bool × Bool)) (ts : List Nat) : Prop := ∀ β, tagOL (D β) ts (whPath G ld er a n x a' n' x' β) = tagOR (D β) ts (whPath G ld er a n x a' n' x' β)
theorem wh_run (G : Ga) (hG : G = gaR) (ld er : Int) (a n x a' n' x' : Int) (D : (Nat → Fr) → List (Bool × Bool)) (ts : List Nat) (hD : ∀ β, ∀ p ∈ D β, p.1 = p.2) (hr : whRun G ld er a n x a' n' x' D ts) (w : World) :
    Calls Try.prog 5 #[.int .u64 a, .int .i64 n, .int .u64 x] w fun e w' => e = .returned (.bool true) ∧ Gr w w' :=
  (ev_callB (E := envL G (fun _ => 0) gdR awC) (E' := envL (gaS ld er) (fun _ => 0) gdR awC) rfl (nosum_ok _ rfl) (fuel := 4000) (args := [.int .u64 a, .int .i64 n, .int .u64 x]) (args' := [.int .u64 a', .int .i64 n', .int .u64 x']) (M := []) (M' := [])
    (v := fun _ => .bool true) (k := 100) (M1 := fun _ => []) D ts hD hr w w ⟨St.start w, fun _ h => by cases h⟩ (ho := by rw [hG]; exact envL_ok _ _ awC_ok)).mono fun _ _ ⟨_, h1, h2⟩ => ⟨h1, h2.gr⟩
def whDA (G : Ga) (a n x : Int) (β : Nat → Fr) : List (Bool × Bool) := wh0 G a n x ++ [(n != 1, true), (n != 2, true), (n != 4, true), (n != 8, true), (G.er (pN 1) a n == 1, true), (G.ld (whU G a n x) (pN 1) a n == 0, true), (G.sm (whU G a n x) (whK G β) (pN 1) (pN 1) (pN 1) (G.ln (whK G β)), true)]
theorem whA_run (G : Ga) (a n x : Int) : whRun G 0 1 a n x 5 3 0 (whDA G a n x) t_whA := fun β => by kernel_rfl
set_option maxRecDepth 100000 in
theorem whA_ok {a n : Int} (x : Int) (h0 : 0 ≤ a) (h1 : a < 18446744073709551616) (hn : n ≠ 1 ∧ n ≠ 2 ∧ n ≠ 4 ∧ n ≠ 8) (w : World) : Calls Try.prog 5 #[.int .u64 a, .int .i64 n, .int .u64 x] w fun e w' => e = .returned (.bool true) ∧ Gr w w' := by
  have he : erV 65536 a n = 1 := by unfold erV; rw [if_pos hn]
  have hne : erV 65536 a n ≠ 0 := by rw [he]; decide
  refine wh_run gaR rfl 0 1 a n x 5 3 0 (whDA gaR a n x) t_whA (fun β => ?_) (whA_run gaR a n x) w
  refine app_d (wh0_ok h0 h1 n x) (one_d (ne_t hn.1) (one_d (ne_t hn.2.1) (one_d (ne_t hn.2.2.1) (one_d (ne_t hn.2.2.2) (one_d ?_ (one_d ?_ (one_d ?_ nil_d)))))))
  · exact eqb_t (show erV (pN 1) a n = 1 by rw [pN1]; exact he)
  · exact eqb_t (show ldV _ (pN 1) a n = 0 by rw [pN1]; exact whLd_no hne _)
  · rw [whU_no hne]; exact whK_same β whT_ok.1 fun _ _ => rfl
theorem gt_t {a n : Int} (hn : 0 ≤ n ∧ n ≤ 8) (h : ¬ a + n ≤ 65536) : decide (a > IntKind.u64.wrap (65536 - IntKind.u64.wrap n)) = true := by
  rw [wu hn.1 (by omega), wu (by omega) (by omega)]; exact decide_eq_true (by omega)
theorem gt_f {a n : Int} (hn : 0 ≤ n ∧ n ≤ 8) (h : a + n ≤ 65536) : decide (a > IntKind.u64.wrap (65536 - IntKind.u64.wrap n)) = false := by
  rw [wu hn.1 (by omega), wu (by omega) (by omega)]; exact decide_eq_false (by omega)
set_option maxRecDepth 100000 in
theorem whF_ok {a n : Int} (x : Int) (hn : n = 1 ∨ n = 2 ∨ n = 4 ∨ n = 8) (h : ¬ a + n ≤ 65536) (β : Nat → Fr) : ∀ p ∈ whF gaR a n x β, p.1 = p.2 := by
  have he : erV 65536 a n = 23 := by unfold erV; rw [if_neg (by omega), if_neg (by omega)]
  have hne : erV 65536 a n ≠ 0 := by rw [he]; decide
  refine one_d (gt_t (by omega) h) (one_d ?_ (one_d ?_ (one_d ?_ nil_d)))
  · exact eqb_t (show erV (pN 1) a n = 23 by rw [pN1]; exact he)
  · exact eqb_t (show ldV _ (pN 1) a n = 0 by rw [pN1]; exact whLd_no hne _)
  · rw [whU_no hne]; exact whK_same β whT_ok.1 fun _ _ => rfl
def whDB0 (G : Ga) (a n x : Int) (β : Nat → Fr) : List (Bool × Bool) := wh0 G a n x ++ eqD n 0 ++ whF G a n x β
theorem whB0_run (G : Ga) (a n x : Int) : whRun G 0 23 a n x 70000 1 0 (whDB0 G a n x) t_whB0 := fun β => by kernel_rfl
theorem whB0_ok {a n : Int} (x : Int) (h0 : 0 ≤ a) (h1 : a < 18446744073709551616) (hn : n = 1) (h : ¬ a + n ≤ 65536) (w : World) : Calls Try.prog 5 #[.int .u64 a, .int .i64 n, .int .u64 x] w fun e w' => e = .returned (.bool true) ∧ Gr w w' :=
  wh_run gaR rfl 0 23 a n x 70000 1 0 (whDB0 gaR a n x) t_whB0 (fun β => app_d (app_d (wh0_ok h0 h1 n x) (one_d (ne_f hn) nil_d)) (whF_ok x (by omega) h β)) (whB0_run gaR a n x) w
def whDB1 (G : Ga) (a n x : Int) (β : Nat → Fr) : List (Bool × Bool) := wh0 G a n x ++ eqD n 1 ++ whF G a n x β
theorem whB1_run (G : Ga) (a n x : Int) : whRun G 0 23 a n x 70000 2 0 (whDB1 G a n x) t_whB1 := fun β => by kernel_rfl
theorem whB1_ok {a n : Int} (x : Int) (h0 : 0 ≤ a) (h1 : a < 18446744073709551616) (hn : n = 2) (h : ¬ a + n ≤ 65536) (w : World) : Calls Try.prog 5 #[.int .u64 a, .int .i64 n, .int .u64 x] w fun e w' => e = .returned (.bool true) ∧ Gr w w' :=
  wh_run gaR rfl 0 23 a n x 70000 2 0 (whDB1 gaR a n x) t_whB1 (fun β => app_d (app_d (wh0_ok h0 h1 n x) (one_d (ne_t (by omega)) (one_d (ne_f hn) nil_d))) (whF_ok x (by omega) h β)) (whB1_run gaR a n x) w
def whDB2 (G : Ga) (a n x : Int) (β : Nat → Fr) : List (Bool × Bool) := wh0 G a n x ++ eqD n 2 ++ whF G a n x β
theorem whB2_run (G : Ga) (a n x : Int) : whRun G 0 23 a n x 70000 4 0 (whDB2 G a n x) t_whB2 := fun β => by kernel_rfl
theorem whB2_ok {a n : Int} (x : Int) (h0 : 0 ≤ a) (h1 : a < 18446744073709551616) (hn : n = 4) (h : ¬ a + n ≤ 65536) (w : World) : Calls Try.prog 5 #[.int .u64 a, .int .i64 n, .int .u64 x] w fun e w' => e = .returned (.bool true) ∧ Gr w w' :=
  wh_run gaR rfl 0 23 a n x 70000 4 0 (whDB2 gaR a n x) t_whB2 (fun β => app_d (app_d (wh0_ok h0 h1 n x) (one_d (ne_t (by omega)) (one_d (ne_t (by omega)) (one_d (ne_f hn) nil_d)))) (whF_ok x (by omega) h β)) (whB2_run gaR a n x) w
def whDB3 (G : Ga) (a n x : Int) (β : Nat → Fr) : List (Bool × Bool) := wh0 G a n x ++ eqD n 3 ++ whF G a n x β
theorem whB3_run (G : Ga) (a n x : Int) : whRun G 0 23 a n x 70000 8 0 (whDB3 G a n x) t_whB3 := fun β => by kernel_rfl
theorem whB3_ok {a n : Int} (x : Int) (h0 : 0 ≤ a) (h1 : a < 18446744073709551616) (hn : n = 8) (h : ¬ a + n ≤ 65536) (w : World) : Calls Try.prog 5 #[.int .u64 a, .int .i64 n, .int .u64 x] w fun e w' => e = .returned (.bool true) ∧ Gr w w' :=
  wh_run gaR rfl 0 23 a n x 70000 8 0 (whDB3 gaR a n x) t_whB3 (fun β => app_d (app_d (wh0_ok h0 h1 n x) (one_d (ne_t (by omega)) (one_d (ne_t (by omega)) (one_d (ne_t (by omega)) (one_d (ne_f hn) nil_d))))) (whF_ok x (by omega) h β)) (whB3_run gaR a n x) w
theorem whA_eq {a : Int} {i : Nat} (h0 : 0 ≤ a) (h : a + i < 65536) : whA a i = a + i := by
  unfold whA
  rw [wu (by omega : (0 : Int) ≤ (i : Int)) (by omega), wu (by omega) (by omega)]
set_option maxRecDepth 100000 in
theorem er_one {a : Int} (h : a + 1 ≤ 65536) : erV 65536 a 1 = 0 := by unfold erV; rw [if_neg (by omega), if_pos (by omega)]
set_option maxRecDepth 100000 in
theorem ld_one {c : List Value} {cap : Nat} {a : Int} (F : Fit c 65536 cap a) (h : a + 1 ≤ 65536) : ldV c 65536 a 1 = gB c a.toNat := by
  rw [ldV_sum F (er_one h)]
  show sumN _ _ 1 = _
  simp [sumN]
theorem setN_in {b : Nat → Int} {base n m : Nat} {x : Int} (h : base ≤ m ∧ m < base + n) : setN b base x n m = x / 256 ^ (m - base) % 256 := if_pos h
theorem setN_out {b : Nat → Int} {base n m : Nat} {x : Int} (h : ¬ (base ≤ m ∧ m < base + n)) : setN b base x n m = b m := if_neg h
set_option maxRecDepth 100000 in
/-- behind i rounds -/
theorem whL_ok {a n : Int} (x : Int) (h0 : 0 ≤ a) (hn : n = 1 ∨ n = 2 ∨ n = 4 ∨ n = 8) (h : a + n ≤ 65536) (β : Nat → Fr) : ∀ i : Nat, (i : Int) ≤ n → OkB (whL gaR a n x β i) 65536 ∧
    ∀ j, j < 65536 → gB (whL gaR a n x β i) j = if a.toNat ≤ j ∧ j < a.toNat + i then gB (whT gaR) j else setN (gB (whT gaR)) a.toNat x n.toNat j := by
  have he : erV 65536 a n = 0 := by unfold erV; rw [if_neg (by omega), if_pos (by omega)]
  have FT := whT_fit h0 (by omega : a < 18446744073709551616)
  intro i
  induction i with
  | zero =>
    intro _
    refine ⟨?_, fun j hj => ?_⟩
    · show OkB (whU gaR a n x) 65536
      rw [whU_eq]; exact stV_ok FT n x
    · show gB (whU gaR a n x) j = _
      rw [whU_eq, stV_gB FT he, if_neg (by omega)]
  | succ i ih =>
    intro hi
    obtain ⟨h1, h2⟩ := ih (by omega)
    have ea := whA_eq (i := i) h0 (by omega)
    have F : Fit (whL gaR a n x β i) 65536 65536 (a + i) := ⟨h1, Nat.le_refl _, by omega, by omega, by omega⟩
    have FK : Fit (whK gaR β) 65536 (whK gaR β).length (a + i) := ⟨whK_ok β, (whK_ok β).1, by omega, by omega, by omega⟩
    have e1 := er_one (a := a + i) (by omega)
    have e : whL gaR a n x β (i + 1) = stV (whL gaR a n x β i) 65536 (a + i) 1 (gB (whT gaR) (a + i).toNat) := by
      show stV (whL gaR a n x β i) (pN 1) (whA a i) 1 (ldV (whK gaR β) (pN 1) (whA a i) 1) = _
      rw [pN1, ea, ld_one FK (by omega), whK_gB β (by omega)]
    rw [e]
    refine ⟨stV_ok F _ _, fun j hj => ?_⟩
    rw [stV_gB F e1]
    have hb := whT_ok.1.bd (i := (a + (i : Int)).toNat) (by omega)
    have t1 : Int.toNat 1 = 1 := rfl
    rw [t1]
    by_cases hj2 : j = (a + (i : Int)).toNat
    · rw [hj2, setN_in (by omega), Nat.sub_self, Int.pow_zero, Int.ediv_one, if_pos (by omega)]
      omega
    · rw [setN_out (by omega), h2 j hj]
      by_cases hj3 : a.toNat ≤ j ∧ j < a.toNat + i
      · rw [if_pos hj3, if_pos (by omega)]
      · rw [if_neg hj3, if_neg (by omega)]
theorem whR_eq (x : Int) {n : Int} (hn : n = 1 ∨ n = 2 ∨ n = 4 ∨ n = 8) : whR n x = x % 256 ^ n.toNat := by
  unfold whR
  rcases hn with rfl | rfl | rfl | rfl
  · rw [show (2 : Int) ^ (min (Int.toNat (64 - 8 * 1)) 64) = 72057594037927936 by decide, IntKind.wrap_u64, Int.fdiv_eq_ediv_of_nonneg _ (by decide), show (256 : Int) ^ (Int.toNat 1) = 256 by decide]; omega
  · rw [show (2 : Int) ^ (min (Int.toNat (64 - 8 * 2)) 64) = 281474976710656 by decide, IntKind.wrap_u64, Int.fdiv_eq_ediv_of_nonneg _ (by decide), show (256 : Int) ^ (Int.toNat 2) = 65536 by decide]; omega
  · rw [show (2 : Int) ^ (min (Int.toNat (64 - 8 * 4)) 64) = 4294967296 by decide, IntKind.wrap_u64, Int.fdiv_eq_ediv_of_nonneg _ (by decide), show (256 : Int) ^ (Int.toNat 4) = 4294967296 by decide]; omega
  · rw [show (2 : Int) ^ (min (Int.toNat (64 - 8 * 8)) 64) = 1 by decide, IntKind.wrap_u64, Int.fdiv_eq_ediv_of_nonneg _ (by decide), show (256 : Int) ^ (Int.toNat 8) = 18446744073709551616 by decide]; omega
theorem whY_eq (x : Int) {i : Nat} (hi : i < 8) : whY x i = x / 256 ^ i % 256 := by
  have h := byte_val x i hi
  rw [wi (by omega) (by omega)] at h
  unfold whY
  rw [h, wu (by omega) (by omega)]
set_option maxRecDepth 100000 in
theorem wh1_ok {a n : Int} (x : Int) (h0 : 0 ≤ a) (hn : n = 1 ∨ n = 2 ∨ n = 4 ∨ n = 8) (h : a + n ≤ 65536) (β : Nat → Fr) : ∀ p ∈ wh1 gaR a n x β, p.1 = p.2 := by
  have he : erV 65536 a n = 0 := by unfold erV; rw [if_neg (by omega), if_pos (by omega)]
  have FT := whT_fit h0 (by omega : a < 18446744073709551616)
  have hL := whL_ok x h0 hn h β
  have e0 : (gaR.er (pN 1) a n != 0) = false := ne_f (show erV (pN 1) a n = 0 by rw [pN1]; exact he)
  refine app_d (app_d (one_d (gt_f (by omega) h) (one_d e0 (one_d e0 (one_d (ne_f ?_) nil_d)))) fun p hp => ?_) (one_d ?_ nil_d)
  · show ldV (whU gaR a n x) (pN 1) a n = whR n x
    rw [pN1, whU_eq, ldV_sum (FT.st n x) he, whR_eq x hn, sum_congr (c := setN (gB (whT gaR)) a.toNat x n.toNat) (fun m _ _ => stV_gB FT he m), sum_set _ _ _ _ _ (Nat.le_refl _)]
  · simp only [List.mem_flatten, List.mem_map, List.mem_range] at hp
    obtain ⟨l, ⟨i, hi, rfl⟩, hp⟩ := hp
    obtain ⟨h1, h2⟩ := hL i (by omega)
    have ea := whA_eq (i := i) h0 (by omega)
    have F : Fit (whL gaR a n x β i) 65536 65536 (a + i) := ⟨h1, Nat.le_refl _, by omega, by omega, by omega⟩
    have FK : Fit (whK gaR β) 65536 (whK gaR β).length (a + i) := ⟨whK_ok β, (whK_ok β).1, by omega, by omega, by omega⟩
    rw [pN1, ea] at hp
    simp only [List.mem_cons, List.not_mem_nil, or_false] at hp
    rcases hp with rfl | rfl | rfl | rfl | rfl
    · exact okD F
    · exact okD FK
    · exact ne_f (er_one (by omega))
    · refine ne_f ?_
      show ldV (whL gaR a n x β i) 65536 (a + i) 1 = whY x i
      rw [ld_one F (by omega), h2 _ (by omega), if_neg (by omega), whY_eq x (by omega)]
      unfold setN
      rw [if_pos (by omega), show (a + (i : Int)).toNat - a.toNat = i by omega]
    · exact okD F
  · obtain ⟨h1, h2⟩ := hL n.toNat (by omega)
    refine whK_same β h1 fun j hj => ?_
    rw [h2 j hj]
    split
    · rfl
    · unfold setN
      rw [if_neg (by omega)]
def whDC1 (G : Ga) (a x : Int) (β : Nat → Fr) : List (Bool × Bool) := wh0 G a 1 x ++ wh1 G a 1 x β
theorem whC1_run (G : Ga) (a x : Int) : whRun G 0 0 a 1 x 0 1 0 (whDC1 G a x) t_whC1 := fun β => by kernel_rfl
def whDC2 (G : Ga) (a x : Int) (β : Nat → Fr) : List (Bool × Bool) := wh0 G a 2 x ++ wh1 G a 2 x β
theorem whC2_run (G : Ga) (a x : Int) : whRun G 0 0 a 2 x 0 2 0 (whDC2 G a x) t_whC2 := fun β => by kernel_rfl
def whDC4 (G : Ga) (a x : Int) (β : Nat → Fr) : List (Bool × Bool) := wh0 G a 4 x ++ wh1 G a 4 x β
theorem whC4_run (G : Ga) (a x : Int) : whRun G 0 0 a 4 x 0 4 0 (whDC4 G a x) t_whC4 := fun β => by kernel_rfl
def whDC8 (G : Ga) (a x : Int) (β : Nat → Fr) : List (Bool × Bool) := wh0 G a 8 x ++ wh1 G a 8 x β
theorem whC8_run (G : Ga) (a x : Int) : whRun G 0 0 a 8 x 0 8 0 (whDC8 G a x) t_whC8 := fun β => by kernel_rfl
set_option maxRecDepth 100000 in
/-- MemoryWhole -/
theorem whole_any {a n : Int} (x : Int) (h0 : 0 ≤ a) (h1 : a < 18446744073709551616) (w : World) : Calls Try.prog 5 #[.int .u64 a, .int .i64 n, .int .u64 x] w fun e w' => e = .returned (.bool true) ∧ Gr w w' := by
  by_cases hn : n = 1 ∨ n = 2 ∨ n = 4 ∨ n = 8
  · by_cases h : a + n ≤ 65536
    · have hD := fun β => app_d (wh0_ok h0 h1 n x) (wh1_ok x h0 hn h β)
      rcases hn with rfl | rfl | rfl | rfl
      · exact wh_run gaR rfl 0 0 a 1 x 0 1 0 (whDC1 gaR a x) t_whC1 hD (whC1_run gaR a x) w
      · exact wh_run gaR rfl 0 0 a 2 x 0 2 0 (whDC2 gaR a x) t_whC2 hD (whC2_run gaR a x) w
      · exact wh_run gaR rfl 0 0 a 4 x 0 4 0 (whDC4 gaR a x) t_whC4 hD (whC4_run gaR a x) w
      · exact wh_run gaR rfl 0 0 a 8 x 0 8 0 (whDC8 gaR a x) t_whC8 hD (whC8_run gaR a x) w
    · rcases hn with hn | hn | hn | hn
      · exact whB0_ok x h0 h1 hn h w
      · exact whB1_ok x h0 h1 hn h w
      · exact whB2_ok x h0 h1 hn h w
      · exact whB3_ok x h0 h1 hn h w
  · exact whA_ok x h0 h1 (by omega) w
set_option maxRecDepth 100000 in
theorem whole_all (a n x : Int) (h : 0 ≤ a ∧ a < 18446744073709551616) (w : World) : Calls Try.prog 5 #[.int .u64 a, .int .i64 n, .int .u64 x] w fun e w' => e = .returned (.bool true) ∧ Gr w w' := whole_any x h.1 h.2 w
end Mm
end Go.Proofs.Ytfkioggmomnibaa
