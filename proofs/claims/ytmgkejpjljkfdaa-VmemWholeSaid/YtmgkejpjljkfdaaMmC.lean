/-
  memory's Load and Store, of any number of bytes at any place: what they answer and leave. Of layer 10.
-/
import Derived.Test.YtmgkejpjljkfdaaMmLd
namespace Go.Proofs.Ytmgkejpjljkfdaa
open Go.RowKit VecM Ev
namespace Mm
/-- the first N cells are bytes -/
def OkB (c : List Value) (N : Nat) : Prop := N ≤ c.length ∧ ∀ i, i < N → ∃ x, c[i]? = some (.int .u8 x) ∧ 0 ≤ x ∧ x ≤ 255
theorem OkB.is {c : List Value} {N : Nat} (h : OkB c N) {i : Nat} (hi : i < N) : isB c[i]? = true := by
  obtain ⟨x, hx, _⟩ := h.2 i hi
  rw [hx]; rfl
theorem OkB.bd {c : List Value} {N : Nat} (h : OkB c N) {i : Nat} (hi : i < N) : 0 ≤ gB c i ∧ gB c i ≤ 255 := by
  obtain ⟨x, hx, h1, h2⟩ := h.2 i hi
  unfold gB; rw [hx]; exact ⟨h1, h2⟩
theorem wu {x : Int} (h : 0 ≤ x) (h2 : x < 18446744073709551616) : IntKind.u64.wrap x = x := by rw [IntKind.wrap_u64]; omega
theorem wi {x : Int} (h : -9223372036854775808 ≤ x) (h2 : x < 9223372036854775808) : IntKind.i64.wrap x = x := by rw [IntKind.wrap_i64]; omega
/-- what is wrong with an access -/
def erV (N : Nat) (a n : Int) : Int := if n ≠ 1 ∧ n ≠ 2 ∧ n ≠ 4 ∧ n ≠ 8 then 1 else if a + n ≤ (N : Int) then 0 else 23
def ldV (c : List Value) (N : Nat) (a n : Int) : Int := if erV N a n = 0 then ldX c a.toNat n.toNat else 0
def stV (c : List Value) (N : Nat) (a n x : Int) : List Value := if erV N a n = 0 then stX c a x n.toNat else c
/-- a memory within its bounds, and a number of 64 bits -/
structure Fit (c : List Value) (N cap : Nat) (a : Int) : Prop where
  ok : OkB c N
  cap : N ≤ cap
  bd : N ≤ 70368744177664
  lo : 0 ≤ a
  hi : a < 18446744073709551616
theorem ldD_ok {c : List Value} {N cap : Nat} {a : Int} (F : Fit c N cap a) {n : Nat} (hn : n ≤ 8) (h : a + n ≤ (N : Int)) : ∀ p ∈ ldD N cap c a n, p.1 = p.2 := by
  obtain ⟨ok, hc, hb, h0, h1⟩ := F
  intro p hp
  simp only [ldD, List.cons_append, List.nil_append, List.mem_cons, List.mem_map, List.mem_range] at hp
  have e1 : IntKind.i64.wrap ((N : Int) - (n : Int)) = (N : Int) - n := wi (by omega) (by omega)
  have e2 : IntKind.u64.wrap ((N : Int) - (n : Int)) = (N : Int) - n := wu (by omega) (by omega)
  have e3 : IntKind.u64.wrap (n : Int) = n := wu (by omega) (by omega)
  have e4 : IntKind.u64.wrap (a + (n : Int)) = a + n := wu (by omega) (by omega)
  rcases hp with rfl | rfl | rfl | rfl | rfl | ⟨k, hk, rfl⟩
  · exact decide_eq_true (by omega)
  · show (!decide (a ≤ IntKind.u64.wrap (IntKind.i64.wrap ((N : Int) - (n : Int))))) = false
    rw [e1, e2, decide_eq_true (by omega : a ≤ (N : Int) - n)]; rfl
  · exact decide_eq_true (by omega)
  · show decide (IntKind.u64.wrap (a + IntKind.u64.wrap (n : Int)) = ((a.toNat + n : Nat) : Int)) = true
    rw [e3, e4]; exact decide_eq_true (by omega)
  · exact decide_eq_true (by omega)
  · exact ok.is (by omega)
theorem stX_len (c : List Value) (a x : Int) : ∀ k, (stX c a x k).length = c.length := by
  intro k
  induction k with
  | zero => rfl
  | succ k ih => rw [stX, List.length_set, ih]
theorem stN_eq (b1 : Nat) (c : List Value) (a x : Int) (k : Nat) : stN b1 c a x k = c.length := by
  cases k with
  | zero => rfl
  | succ k => exact stX_len c a x (k + 1)
theorem wk {a : Int} {k N : Nat} (h0 : 0 ≤ a) (h : a + (k : Int) ≤ (N : Int)) (hb : N ≤ 1152921504606846976) : IntKind.u64.wrap (a + IntKind.u64.wrap (k : Int)) = a + k := by
  rw [wu (by omega : (0 : Int) ≤ (k : Int)) (by omega), wu (by omega) (by omega)]
theorem stD_ok {b1 : Nat} {c : List Value} {N cap : Nat} {a : Int} (F : Fit c N cap a) (x : Int) {n : Nat} (h : a + n ≤ (N : Int)) : ∀ p ∈ stD b1 N c a x n, p.1 = p.2 := by
  obtain ⟨ok, hc, hb, h0, h1⟩ := F
  have hl := ok.1
  intro p hp
  simp only [stD, List.cons_append, List.nil_append, List.mem_cons, List.mem_flatten, List.mem_map, List.mem_range] at hp
  have e1 : IntKind.i64.wrap ((N : Int) - (n : Int)) = (N : Int) - n := wi (by omega) (by omega)
  have e2 : IntKind.u64.wrap ((N : Int) - (n : Int)) = (N : Int) - n := wu (by omega) (by omega)
  rcases hp with rfl | rfl | ⟨l, ⟨k, hk, rfl⟩, hp⟩
  · exact decide_eq_true (by omega)
  · show (!decide (a ≤ IntKind.u64.wrap (IntKind.i64.wrap ((N : Int) - (n : Int))))) = false
    rw [e1, e2, decide_eq_true (by omega : a ≤ (N : Int) - n)]; rfl
  · have e := wk (k := k) (N := N) h0 (by omega) (by omega)
    simp only [List.mem_cons, List.not_mem_nil, or_false] at hp
    rw [e, stN_eq] at hp
    rcases hp with rfl | rfl | rfl
    · exact decide_eq_true (by omega)
    · exact decide_eq_true (by omega)
    · exact decide_eq_true (by omega)
theorem ld_run {b0 b1 N cap : Nat} {most : Int} {c : List Value} {a : Int} (F : Fit c N cap a) {n : Nat} (hn : n = 1 ∨ n = 2 ∨ n = 4 ∨ n = 8) (h : a + n ≤ (N : Int)) (w : World) (hS : SG w [⟨b0, hdr b1 N cap most, tM, false⟩, ⟨b1, c, tB, false⟩] w) :
    Calls Try.prog 24 #[.pointer (some ⟨b0, 0, none⟩), .int .u64 a, .int .i64 n] w fun e w' => e = .returned (.tuple #[.int .u64 (ldX c a.toNat n), .int .i64 0]) ∧ Gr w w' := by
  rcases hn with rfl | rfl | rfl | rfl
  · exact ev_pathM (E := envM 1 a.toNat 1) (E' := envM 1 0 1) rfl (nosum_ok _ rfl) (fuel := 400) (args := [.pointer (some ⟨b0, 0, none⟩), .int .u64 a, .int .i64 (1 : Nat)]) (ldD N cap c a 1) t_ld1 (ldD_ok F (by decide) h) (fun β => (by kernel_rfl : tagOL (ldD N cap c a 1) t_ld1 (ldPath b0 b1 N cap most c a 1 β) = tagOR (ldD N cap c a 1) t_ld1 (ldPath b0 b1 N cap most c a 1 β))) w hS (ho := envM_ok _ _ _)
  · exact ev_pathM (E := envM 1 a.toNat 2) (E' := envM 1 0 2) rfl (nosum_ok _ rfl) (fuel := 400) (args := [.pointer (some ⟨b0, 0, none⟩), .int .u64 a, .int .i64 (2 : Nat)]) (ldD N cap c a 2) t_ld2 (ldD_ok F (by decide) h) (fun β => (by kernel_rfl : tagOL (ldD N cap c a 2) t_ld2 (ldPath b0 b1 N cap most c a 2 β) = tagOR (ldD N cap c a 2) t_ld2 (ldPath b0 b1 N cap most c a 2 β))) w hS (ho := envM_ok _ _ _)
  · exact ev_pathM (E := envM 1 a.toNat 4) (E' := envM 1 0 4) rfl (nosum_ok _ rfl) (fuel := 400) (args := [.pointer (some ⟨b0, 0, none⟩), .int .u64 a, .int .i64 (4 : Nat)]) (ldD N cap c a 4) t_ld4 (ldD_ok F (by decide) h) (fun β => (by kernel_rfl : tagOL (ldD N cap c a 4) t_ld4 (ldPath b0 b1 N cap most c a 4 β) = tagOR (ldD N cap c a 4) t_ld4 (ldPath b0 b1 N cap most c a 4 β))) w hS (ho := envM_ok _ _ _)
  · exact ev_pathM (E := envM 1 a.toNat 8) (E' := envM 1 0 8) rfl (nosum_ok _ rfl) (fuel := 400) (args := [.pointer (some ⟨b0, 0, none⟩), .int .u64 a, .int .i64 (8 : Nat)]) (ldD N cap c a 8) t_ld8 (ldD_ok F (by decide) h) (fun β => (by kernel_rfl : tagOL (ldD N cap c a 8) t_ld8 (ldPath b0 b1 N cap most c a 8 β) = tagOR (ldD N cap c a 8) t_ld8 (ldPath b0 b1 N cap most c a 8 β))) w hS (ho := envM_ok _ _ _)
end Mm
end Go.Proofs.Ytmgkejpjljkfdaa
