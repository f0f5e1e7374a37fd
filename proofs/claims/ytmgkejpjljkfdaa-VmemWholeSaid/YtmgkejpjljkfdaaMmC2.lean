/-
  memory's Load and Store: every number of bytes, every place; whatever other rows there are. Of layer 10. (gen_mmc.py)
-/
import Derived.Test.YtmgkejpjljkfdaaMmC
namespace Go.Proofs.Ytmgkejpjljkfdaa
open Go.RowKit VecM Ev
namespace Mm
theorem sg_two {w0 w : World} {M : List Rw} (hS : SG w0 M w) {j0 j1 : Nat} {r0 r1 : Rw} (h0 : M[j0]? = some r0) (h1 : M[j1]? = some r1) (hne : r0 ≠ r1) : SG w [thaw r0, thaw r1] w := by
  obtain ⟨C, hC, _⟩ := perm_two h0 h1 hne
  have h := hS.thaw.perm (hC.map thaw)
  exact h.sub (by simp only [List.map_cons]; exact List.Sublist.cons_cons _ (List.Sublist.cons_cons _ (List.nil_sublist _)))
theorem er_run (fn : FuncId) (b0 b1 N cap : Nat) (most : Int) (c : List Value) (a n n' : Int) (N' : Nat) (x x' : List Value) (v : Value) (D : List (Bool × Bool)) (ts : List Nat) (hD : ∀ p ∈ D, p.1 = p.2)
    (hr : ∀ β, tagOL D ts (erPath fn b0 b1 N cap most c a n n' N' x x' v β) = tagOR D ts (erPath fn b0 b1 N cap most c a n n' N' x x' v β)) (w : World) (hS : SG w [⟨b0, hdr b1 N cap most, tM, false⟩, ⟨b1, c, tB, false⟩] w) (Z : Array Value) (hZ : ([Value.pointer (some ⟨b0, 0, none⟩), .int .u64 a, .int .i64 n] ++ x).toArray = Z) :
    Calls Try.prog fn Z w fun e w' => e = .returned v ∧ Gr w w' :=
  hZ ▸ ev_pathM (E := envM 1 0 0) (E' := envM 1 0 0) rfl (nosum_ok _ rfl) (fuel := 400) D ts hD hr w hS (ho := envM_ok _ _ _)
theorem ne_t {n k : Int} (h : n ≠ k) : (n != k) = true := by simpa using h
theorem ne_f {n k : Int} (h : n = k) : (n != k) = false := by simpa using h
theorem one_d {a b : Bool} (h : a = b) {D : List (Bool × Bool)} (hD : ∀ p ∈ D, p.1 = p.2) : ∀ p ∈ (a, b) :: D, p.1 = p.2 := fun p hp => by
  rcases List.mem_cons.1 hp with rfl | hp
  · exact h
  · exact hD p hp
theorem nil_d : ∀ p ∈ ([] : List (Bool × Bool)), p.1 = p.2 := fun p hp => by cases hp
theorem far_t {c : List Value} {N cap : Nat} {a n : Int} (F : Fit c N cap a) (h0 : 0 ≤ n) (h1 : n ≤ (N : Int)) (h : ¬ a + n ≤ (N : Int)) : (!decide (a ≤ IntKind.u64.wrap (IntKind.i64.wrap ((N : Int) - n)))) = true := by
  obtain ⟨ok, hc, hb, h2, h3⟩ := F
  have e1 : IntKind.i64.wrap ((N : Int) - n) = (N : Int) - n := wi (by omega) (by omega)
  have e2 : IntKind.u64.wrap ((N : Int) - n) = (N : Int) - n := wu (by omega) (by omega)
  rw [e1, e2, decide_eq_false (by omega)]; rfl
theorem ld_er {b0 b1 N cap : Nat} {most : Int} {c : List Value} {a n : Int} (F : Fit c N cap a) (x : Int) (h : erV N a n ≠ 0) (w : World) (hS : SG w [⟨b0, hdr b1 N cap most, tM, false⟩, ⟨b1, c, tB, false⟩] w) :
    Calls Try.prog 24 #[.pointer (some ⟨b0, 0, none⟩), .int .u64 a, .int .i64 n] w fun e w' => e = .returned (.tuple #[.int .u64 0, .int .i64 (erV N a n)]) ∧ Gr w w' := by
  unfold erV at h ⊢
  split at h
  · rename_i hn
    rw [if_pos hn]
    exact er_run 24 b0 b1 N cap most c a n 3 16 [] [] (.tuple #[.int .u64 0, .int .i64 1]) (neD n) t_ldn (one_d (ne_t hn.1) (one_d (ne_t hn.2.1) (one_d (ne_t hn.2.2.1) (one_d (ne_t hn.2.2.2) nil_d)))) (fun β => by kernel_rfl) w hS _ rfl
  · rename_i hn
    split at h
    · exact absurd rfl h
    · rename_i hf
      rw [if_neg hn, if_neg hf]
      by_cases hN : n ≤ (N : Int)
      · rcases (by omega : n = 1 ∨ n = 2 ∨ n = 4 ∨ n = 8) with rfl | rfl | rfl | rfl
        · exact er_run 24 b0 b1 N cap most c a 1 1 16 [] [] (.tuple #[.int .u64 0, .int .i64 23]) (eqD 1 0 ++ [(decide (((1 : Int)) ≤ (N : Int)), true), (!decide (a ≤ IntKind.u64.wrap (IntKind.i64.wrap ((N : Int) - 1))), true)]) t_ldb0 (one_d (ne_f rfl) (one_d (decide_eq_true hN) (one_d (far_t F (by decide) hN hf) nil_d))) (fun β => by kernel_rfl) w hS _ rfl
        · exact er_run 24 b0 b1 N cap most c a 2 2 16 [] [] (.tuple #[.int .u64 0, .int .i64 23]) (eqD 2 1 ++ [(decide (((2 : Int)) ≤ (N : Int)), true), (!decide (a ≤ IntKind.u64.wrap (IntKind.i64.wrap ((N : Int) - 2))), true)]) t_ldb1 (one_d (ne_t (by decide)) (one_d (ne_f rfl) (one_d (decide_eq_true hN) (one_d (far_t F (by decide) hN hf) nil_d)))) (fun β => by kernel_rfl) w hS _ rfl
        · exact er_run 24 b0 b1 N cap most c a 4 4 16 [] [] (.tuple #[.int .u64 0, .int .i64 23]) (eqD 4 2 ++ [(decide (((4 : Int)) ≤ (N : Int)), true), (!decide (a ≤ IntKind.u64.wrap (IntKind.i64.wrap ((N : Int) - 4))), true)]) t_ldb2 (one_d (ne_t (by decide)) (one_d (ne_t (by decide)) (one_d (ne_f rfl) (one_d (decide_eq_true hN) (one_d (far_t F (by decide) hN hf) nil_d))))) (fun β => by kernel_rfl) w hS _ rfl
        · exact er_run 24 b0 b1 N cap most c a 8 8 16 [] [] (.tuple #[.int .u64 0, .int .i64 23]) (eqD 8 3 ++ [(decide (((8 : Int)) ≤ (N : Int)), true), (!decide (a ≤ IntKind.u64.wrap (IntKind.i64.wrap ((N : Int) - 8))), true)]) t_ldb3 (one_d (ne_t (by decide)) (one_d (ne_t (by decide)) (one_d (ne_t (by decide)) (one_d (ne_f rfl) (one_d (decide_eq_true hN) (one_d (far_t F (by decide) hN hf) nil_d)))))) (fun β => by kernel_rfl) w hS _ rfl
      · rcases (by omega : n = 1 ∨ n = 2 ∨ n = 4 ∨ n = 8) with rfl | rfl | rfl | rfl
        · exact er_run 24 b0 b1 N cap most c a 1 1 0 [] [] (.tuple #[.int .u64 0, .int .i64 23]) (eqD 1 0 ++ [(decide (((1 : Int)) ≤ (N : Int)), false)]) t_lda0 (one_d (ne_f rfl) (one_d (decide_eq_false hN) nil_d)) (fun β => by kernel_rfl) w hS _ rfl
        · exact er_run 24 b0 b1 N cap most c a 2 2 0 [] [] (.tuple #[.int .u64 0, .int .i64 23]) (eqD 2 1 ++ [(decide (((2 : Int)) ≤ (N : Int)), false)]) t_lda1 (one_d (ne_t (by decide)) (one_d (ne_f rfl) (one_d (decide_eq_false hN) nil_d))) (fun β => by kernel_rfl) w hS _ rfl
        · exact er_run 24 b0 b1 N cap most c a 4 4 0 [] [] (.tuple #[.int .u64 0, .int .i64 23]) (eqD 4 2 ++ [(decide (((4 : Int)) ≤ (N : Int)), false)]) t_lda2 (one_d (ne_t (by decide)) (one_d (ne_t (by decide)) (one_d (ne_f rfl) (one_d (decide_eq_false hN) nil_d)))) (fun β => by kernel_rfl) w hS _ rfl
        · exact er_run 24 b0 b1 N cap most c a 8 8 0 [] [] (.tuple #[.int .u64 0, .int .i64 23]) (eqD 8 3 ++ [(decide (((8 : Int)) ≤ (N : Int)), false)]) t_lda3 (one_d (ne_t (by decide)) (one_d (ne_t (by decide)) (one_d (ne_t (by decide)) (one_d (ne_f rfl) (one_d (decide_eq_false hN) nil_d))))) (fun β => by kernel_rfl) w hS _ rfl
theorem st_er {b0 b1 N cap : Nat} {most : Int} {c : List Value} {a n : Int} (F : Fit c N cap a) (x : Int) (h : erV N a n ≠ 0) (w : World) (hS : SG w [⟨b0, hdr b1 N cap most, tM, false⟩, ⟨b1, c, tB, false⟩] w) :
    Calls Try.prog 38 #[.pointer (some ⟨b0, 0, none⟩), .int .u64 a, .int .i64 n, .int .u64 x] w fun e w' => e = .returned (.int .i64 (erV N a n)) ∧ Gr w w' := by
  unfold erV at h ⊢
  split at h
  · rename_i hn
    rw [if_pos hn]
    exact er_run 38 b0 b1 N cap most c a n 3 16 [.int .u64 x] [.int .u64 5] (.int .i64 1) (neD n) t_stn (one_d (ne_t hn.1) (one_d (ne_t hn.2.1) (one_d (ne_t hn.2.2.1) (one_d (ne_t hn.2.2.2) nil_d)))) (fun β => by kernel_rfl) w hS _ rfl
  · rename_i hn
    split at h
    · exact absurd rfl h
    · rename_i hf
      rw [if_neg hn, if_neg hf]
      by_cases hN : n ≤ (N : Int)
      · rcases (by omega : n = 1 ∨ n = 2 ∨ n = 4 ∨ n = 8) with rfl | rfl | rfl | rfl
        · exact er_run 38 b0 b1 N cap most c a 1 1 16 [.int .u64 x] [.int .u64 5] (.int .i64 23) (eqD 1 0 ++ [(decide (((1 : Int)) ≤ (N : Int)), true), (!decide (a ≤ IntKind.u64.wrap (IntKind.i64.wrap ((N : Int) - 1))), true)]) t_stb0 (one_d (ne_f rfl) (one_d (decide_eq_true hN) (one_d (far_t F (by decide) hN hf) nil_d))) (fun β => by kernel_rfl) w hS _ rfl
        · exact er_run 38 b0 b1 N cap most c a 2 2 16 [.int .u64 x] [.int .u64 5] (.int .i64 23) (eqD 2 1 ++ [(decide (((2 : Int)) ≤ (N : Int)), true), (!decide (a ≤ IntKind.u64.wrap (IntKind.i64.wrap ((N : Int) - 2))), true)]) t_stb1 (one_d (ne_t (by decide)) (one_d (ne_f rfl) (one_d (decide_eq_true hN) (one_d (far_t F (by decide) hN hf) nil_d)))) (fun β => by kernel_rfl) w hS _ rfl
        · exact er_run 38 b0 b1 N cap most c a 4 4 16 [.int .u64 x] [.int .u64 5] (.int .i64 23) (eqD 4 2 ++ [(decide (((4 : Int)) ≤ (N : Int)), true), (!decide (a ≤ IntKind.u64.wrap (IntKind.i64.wrap ((N : Int) - 4))), true)]) t_stb2 (one_d (ne_t (by decide)) (one_d (ne_t (by decide)) (one_d (ne_f rfl) (one_d (decide_eq_true hN) (one_d (far_t F (by decide) hN hf) nil_d))))) (fun β => by kernel_rfl) w hS _ rfl
        · exact er_run 38 b0 b1 N cap most c a 8 8 16 [.int .u64 x] [.int .u64 5] (.int .i64 23) (eqD 8 3 ++ [(decide (((8 : Int)) ≤ (N : Int)), true), (!decide (a ≤ IntKind.u64.wrap (IntKind.i64.wrap ((N : Int) - 8))), true)]) t_stb3 (one_d (ne_t (by decide)) (one_d (ne_t (by decide)) (one_d (ne_t (by decide)) (one_d (ne_f rfl) (one_d (decide_eq_true hN) (one_d (far_t F (by decide) hN hf) nil_d)))))) (fun β => by kernel_rfl) w hS _ rfl
      · rcases (by omega : n = 1 ∨ n = 2 ∨ n = 4 ∨ n = 8) with rfl | rfl | rfl | rfl
        · exact er_run 38 b0 b1 N cap most c a 1 1 0 [.int .u64 x] [.int .u64 5] (.int .i64 23) (eqD 1 0 ++ [(decide (((1 : Int)) ≤ (N : Int)), false)]) t_sta0 (one_d (ne_f rfl) (one_d (decide_eq_false hN) nil_d)) (fun β => by kernel_rfl) w hS _ rfl
        · exact er_run 38 b0 b1 N cap most c a 2 2 0 [.int .u64 x] [.int .u64 5] (.int .i64 23) (eqD 2 1 ++ [(decide (((2 : Int)) ≤ (N : Int)), false)]) t_sta1 (one_d (ne_t (by decide)) (one_d (ne_f rfl) (one_d (decide_eq_false hN) nil_d))) (fun β => by kernel_rfl) w hS _ rfl
        · exact er_run 38 b0 b1 N cap most c a 4 4 0 [.int .u64 x] [.int .u64 5] (.int .i64 23) (eqD 4 2 ++ [(decide (((4 : Int)) ≤ (N : Int)), false)]) t_sta2 (one_d (ne_t (by decide)) (one_d (ne_t (by decide)) (one_d (ne_f rfl) (one_d (decide_eq_false hN) nil_d)))) (fun β => by kernel_rfl) w hS _ rfl
        · exact er_run 38 b0 b1 N cap most c a 8 8 0 [.int .u64 x] [.int .u64 5] (.int .i64 23) (eqD 8 3 ++ [(decide (((8 : Int)) ≤ (N : Int)), false)]) t_sta3 (one_d (ne_t (by decide)) (one_d (ne_t (by decide)) (one_d (ne_t (by decide)) (one_d (ne_f rfl) (one_d (decide_eq_false hN) nil_d))))) (fun β => by kernel_rfl) w hS _ rfl
theorem er_zero {N : Nat} {a n : Int} (h : erV N a n = 0) : (n = 1 ∨ n = 2 ∨ n = 4 ∨ n = 8) ∧ a + n ≤ (N : Int) := by
  unfold erV at h
  split at h
  · cases h
  · split at h
    · exact ⟨by omega, by assumption⟩
    · cases h
theorem ld_any {w0 w : World} {M : List Rw} (hS : SG w0 M w) {j0 j1 b0 b1 N cap : Nat} {most : Int} {c : List Value} {a n : Int} (F : Fit c N cap a) (h0 : M[j0]? = some ⟨b0, hdr b1 N cap most, tM, true⟩) (h1 : M[j1]? = some ⟨b1, c, tB, true⟩) :
    Calls Try.prog 24 #[.pointer (some ⟨b0, 0, none⟩), .int .u64 a, .int .i64 n] w fun e w' => e = .returned (.tuple #[.int .u64 (ldV c N a n), .int .i64 (erV N a n)]) ∧ SG w0 M w' := by
  have h2 := sg_two hS h0 h1 (fun e => by injection e with _ _ e; exact absurd e (by decide))
  unfold ldV
  by_cases he : erV N a n = 0
  · rw [if_pos he, he]
    obtain ⟨hn, hf⟩ := er_zero he
    obtain ⟨k, rfl⟩ : ∃ k : Nat, n = k := ⟨n.toNat, by omega⟩
    exact (ld_run F (by omega) hf w h2).mono fun e w' ⟨h3, h4⟩ => ⟨by rw [h3, Int.toNat_natCast], hS.grow h4⟩
  · rw [if_neg he]
    exact (ld_er F 0 he w h2).mono fun e w' ⟨h3, h4⟩ => ⟨h3, hS.grow h4⟩
theorem st_run {b0 b1 N cap : Nat} {most : Int} {c : List Value} {M : List Rw} {a : Int} (F : Fit c N cap a) (x : Int) {n : Nat} (hn : n = 1 ∨ n = 2 ∨ n = 4 ∨ n = 8) (h : a + n ≤ (N : Int)) (w0 w : World) (hS : SG w0 (⟨b0, hdr b1 N cap most, tM, true⟩ :: ⟨b1, c, tB, true⟩ :: M) w) :
    Calls Try.prog 38 #[.pointer (some ⟨b0, 0, none⟩), .int .u64 a, .int .i64 n, .int .u64 x] w fun e w' => e = .returned (.int .i64 0) ∧ SG w0 (⟨b0, hdr b1 N cap most, tM, true⟩ :: ⟨b1, stX c a x n, tB, true⟩ :: M) w' := by
  rcases hn with rfl | rfl | rfl | rfl
  · exact (ev_callR (E := envM 1 a.toNat 1) (E' := envM 1 0 1) rfl (nosum_ok _ rfl) (fuel := 400) (args := [.pointer (some ⟨b0, 0, none⟩), .int .u64 a, .int .i64 (1 : Nat), .int .u64 x]) (v := fun _ => .int .i64 0) (k := 0) (M1 := fun _ => ⟨b0, hdr b1 N cap most, tM, true⟩ :: ⟨b1, stX c a x 1, tB, true⟩ :: M) (stD b1 N c a x 1) t_st1 (stD_ok F x h) (fun β => (by kernel_rfl : tagOL (stD b1 N c a x 1) t_st1 (stPath b0 b1 N cap most c M a x 1 β) = tagOR (stD b1 N c a x 1) t_st1 (stPath b0 b1 N cap most c M a x 1 β))) w0 w hS (ho := envM_ok _ _ _)).mono fun e w' ⟨_, h1, h2⟩ => ⟨h1, h2⟩
  · exact (ev_callR (E := envM 1 a.toNat 2) (E' := envM 1 0 2) rfl (nosum_ok _ rfl) (fuel := 400) (args := [.pointer (some ⟨b0, 0, none⟩), .int .u64 a, .int .i64 (2 : Nat), .int .u64 x]) (v := fun _ => .int .i64 0) (k := 0) (M1 := fun _ => ⟨b0, hdr b1 N cap most, tM, true⟩ :: ⟨b1, stX c a x 2, tB, true⟩ :: M) (stD b1 N c a x 2) t_st2 (stD_ok F x h) (fun β => (by kernel_rfl : tagOL (stD b1 N c a x 2) t_st2 (stPath b0 b1 N cap most c M a x 2 β) = tagOR (stD b1 N c a x 2) t_st2 (stPath b0 b1 N cap most c M a x 2 β))) w0 w hS (ho := envM_ok _ _ _)).mono fun e w' ⟨_, h1, h2⟩ => ⟨h1, h2⟩
  · exact (ev_callR (E := envM 1 a.toNat 4) (E' := envM 1 0 4) rfl (nosum_ok _ rfl) (fuel := 400) (args := [.pointer (some ⟨b0, 0, none⟩), .int .u64 a, .int .i64 (4 : Nat), .int .u64 x]) (v := fun _ => .int .i64 0) (k := 0) (M1 := fun _ => ⟨b0, hdr b1 N cap most, tM, true⟩ :: ⟨b1, stX c a x 4, tB, true⟩ :: M) (stD b1 N c a x 4) t_st4 (stD_ok F x h) (fun β => (by kernel_rfl : tagOL (stD b1 N c a x 4) t_st4 (stPath b0 b1 N cap most c M a x 4 β) = tagOR (stD b1 N c a x 4) t_st4 (stPath b0 b1 N cap most c M a x 4 β))) w0 w hS (ho := envM_ok _ _ _)).mono fun e w' ⟨_, h1, h2⟩ => ⟨h1, h2⟩
  · exact (ev_callR (E := envM 1 a.toNat 8) (E' := envM 1 0 8) rfl (nosum_ok _ rfl) (fuel := 400) (args := [.pointer (some ⟨b0, 0, none⟩), .int .u64 a, .int .i64 (8 : Nat), .int .u64 x]) (v := fun _ => .int .i64 0) (k := 0) (M1 := fun _ => ⟨b0, hdr b1 N cap most, tM, true⟩ :: ⟨b1, stX c a x 8, tB, true⟩ :: M) (stD b1 N c a x 8) t_st8 (stD_ok F x h) (fun β => (by kernel_rfl : tagOL (stD b1 N c a x 8) t_st8 (stPath b0 b1 N cap most c M a x 8 β) = tagOR (stD b1 N c a x 8) t_st8 (stPath b0 b1 N cap most c M a x 8 β))) w0 w hS (ho := envM_ok _ _ _)).mono fun e w' ⟨_, h1, h2⟩ => ⟨h1, h2⟩
theorem st_any {w0 w : World} {M : List Rw} (hS : SG w0 M w) {j0 j1 b0 b1 N cap : Nat} {most : Int} {c : List Value} {a n : Int} (F : Fit c N cap a) (x : Int) (h0 : M[j0]? = some ⟨b0, hdr b1 N cap most, tM, true⟩) (h1 : M[j1]? = some ⟨b1, c, tB, true⟩) :
    Calls Try.prog 38 #[.pointer (some ⟨b0, 0, none⟩), .int .u64 a, .int .i64 n, .int .u64 x] w fun e w' => e = .returned (.int .i64 (erV N a n)) ∧ SG w0 (M.set j1 ⟨b1, stV c N a n x, tB, true⟩) w' := by
  have hne : (⟨b0, hdr b1 N cap most, tM, true⟩ : Rw) ≠ ⟨b1, c, tB, true⟩ := fun e => by injection e with _ _ e; exact absurd e (by decide)
  unfold stV
  by_cases he : erV N a n = 0
  · rw [if_pos he, he]
    obtain ⟨hn, hf⟩ := er_zero he
    obtain ⟨k, rfl⟩ : ∃ k : Nat, n = k := ⟨n.toNat, by omega⟩
    obtain ⟨C, hC, hC2⟩ := perm_two h0 h1 hne
    exact (st_run F x (by omega) hf w0 w (hS.perm hC)).mono fun e w' ⟨h3, h4⟩ => ⟨h3, h4.perm (by rw [Int.toNat_natCast]; exact (hC2 _).symm)⟩
  · rw [if_neg he]
    have h2 := sg_two hS h0 h1 hne
    have e1 : M.set j1 ⟨b1, c, tB, true⟩ = M := by
      obtain ⟨hl, hv⟩ := List.getElem?_eq_some_iff.1 h1
      rw [← hv, List.set_getElem_self]
    rw [e1]
    exact (st_er F x he w h2).mono fun e w' ⟨h3, h4⟩ => ⟨h3, hS.grow h4⟩
end Mm
end Go.Proofs.Ytmgkejpjljkfdaa
