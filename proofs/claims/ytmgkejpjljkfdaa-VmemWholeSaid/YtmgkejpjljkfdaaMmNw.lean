/-
  memory's New, Grow, and slices.Clone. Of layer 10. (gen_mmnw.py)
-/
import Derived.Test.YtmgkejpjljkfdaaMmC2
import Derived.Test.YtmgkejpjljkfdaaMmA
namespace Go.Proofs.Ytmgkejpjljkfdaa
open Go.RowKit VecM Ev
namespace Mm
noncomputable def envA (jd js : Nat) : Env := { P := Try.prog, known := [], sum := fun _ _ => none, aop := apOp jd js }
theorem envA_ok (jd js : Nat) : OphOk (envA jd js) := msum_of rfl rfl (no_ms rfl) (apOp_ok jd js)
noncomputable def nwPath (least most : Int) (l' m' : Int) (M : List Rw) (v : Value) (M1 : List Rw) (β : Nat → Fr) : Out :=
  evPathR (envA 0 0) (envA 0 0) 400 8 [.int .i64 least, .int .i64 most] [.int .i64 l', .int .i64 m'] M [] v 0 M1 β
def pN (least : Int) : Nat := (IntKind.i64.wrap (least * 65536)).toNat
def nwV (β : Nat → Fr) : Value := .tuple #[.pointer (some ⟨(β 1).b, 0, none⟩), .int .i64 0]
def nwR (least most : Int) (M : List Rw) (β : Nat → Fr) : List Rw := ⟨(β 1).b, hdr (β 0).b (pN least) (pN least) most, tM, true⟩ :: ⟨(β 0).b, zC (pN least), tB, true⟩ :: M
def nwX (e : Int) : Value := .tuple #[.pointer none, .int .i64 e]
def dA (least : Int) (b : Bool) : Bool × Bool := (decide (least < 0), b)
def dB (most : Int) (b : Bool) : Bool × Bool := (decide (most < -1), b)
def dC (most : Int) (b : Bool) : Bool × Bool := (decide (most ≥ 0), b)
def dD (least most : Int) (b : Bool) : Bool × Bool := (decide (most < least), b)
def dE (least : Int) (b : Bool) : Bool × Bool := (decide (least > 16), b)
def dF (least : Int) : Bool × Bool := (decide (0 ≤ IntKind.i64.wrap (least * 65536)), true)
def dG (least : Int) : Bool × Bool := (decide (IntKind.i64.wrap (least * 65536) ≤ 140737488355328), true)
--EVTS t_nw1 | fun (least most : Int) (M : List Rw) (β : Nat → Fr) => (nwPath least most (-1) (0) M (nwX 1) M β, [dA least true])
def t_nw1 : List Nat := [0, 0, 0, 0, 0, 0, 1, 1, 1]
--EVTS t_nw2 | fun (least most : Int) (M : List Rw) (β : Nat → Fr) => (nwPath least most (1) (-2) M (nwX 1) M β, [dA least false, dB most true])
def t_nw2 : List Nat := [0, 2, 2, 2, 2, 2, 1, 1, 1]
--EVTS t_nw3 | fun (least most : Int) (M : List Rw) (β : Nat → Fr) => (nwPath least most (3) (1) M (nwX 1) M β, [dA least false, dB most false, dC most true, dD least most true])
def t_nw3 : List Nat := [4, 2, 3, 2, 3, 3, 3, 2, 2, 2, 1, 1, 1]
--EVTS t_nw4 | fun (least most : Int) (M : List Rw) (β : Nat → Fr) => (nwPath least most (17) (18) M (nwX 3) M β, [dA least false, dB most false, dC most true, dD least most false, dE least true])
def t_nw4 : List Nat := [5, 4, 2, 3, 2, 3, 3, 3, 2, 2, 2, 1, 1, 1]
--EVTS t_nw5 | fun (least most : Int) (M : List Rw) (β : Nat → Fr) => (nwPath least most (17) (-1) M (nwX 3) M β, [dA least false, dB most false, dC most false, dE least true])
def t_nw5 : List Nat := [4, 0, 2, 3, 2, 3, 3, 3, 2, 2, 2, 1, 1, 1]
--EVTS t_nw6 | fun (least most : Int) (M : List Rw) (β : Nat → Fr) => (nwPath least most (2) (3) M (nwV β) (nwR least most M β) β, [dA least false, dB most false, dC most true, dD least most false, dE least false, dF least, dG least])
def t_nw6 : List Nat := [7, 6, 5, 4, 2, 3, 2, 3, 3, 3, 2, 2, 2, 1, 1, 1]
--EVTS t_nw7 | fun (least most : Int) (M : List Rw) (β : Nat → Fr) => (nwPath least most (2) (-1) M (nwV β) (nwR least most M β) β, [dA least false, dB most false, dC most false, dE least false, dF least, dG least])
def t_nw7 : List Nat := [6, 5, 4, 0, 2, 3, 2, 3, 3, 3, 2, 2, 2, 1, 1, 1]
theorem nw_run (least most l' m' : Int) (M : List Rw) (v : (Nat → Fr) → Value) (M1 : (Nat → Fr) → List Rw) (D : List (Bool × Bool)) (ts : List Nat) (hD : ∀ p ∈ D, p.1 = p.2)
    (hr : ∀ β, tagOL D ts (nwPath least most l' m' M (v β) (M1 β) β) = tagOR D ts (nwPath least most l' m' M (v β) (M1 β) β)) (w0 w : World) (hS : SG w0 M w) :
    Calls Try.prog 8 #[.int .i64 least, .int .i64 most] w fun e w' => ∃ β : Nat → Fr, e = .returned (v β) ∧ SG w0 (M1 β) w' :=
  ev_callR (E := envA 0 0) (E' := envA 0 0) rfl (nosum_ok _ rfl) (fuel := 400) (args := [.int .i64 least, .int .i64 most]) D ts hD hr w0 w hS (ho := envA_ok _ _)
/-- what New answers -/
def nwE (least most : Int) : Int := if least < 0 ∨ most < -1 ∨ (0 ≤ most ∧ most < least) then 1 else if 16 < least then 3 else 0
theorem new_no {least most : Int} (h : nwE least most ≠ 0) {w0 w : World} {M : List Rw} (hS : SG w0 M w) : Calls Try.prog 8 #[.int .i64 least, .int .i64 most] w fun e w' => e = .returned (nwX (nwE least most)) ∧ SG w0 M w' := by
  unfold nwE at h ⊢
  split
  · rename_i hb
    by_cases h1 : least < 0
    · exact (nw_run least most (-1) 0 M (fun _ => nwX 1) (fun _ => M) [dA least true] t_nw1 (one_d (decide_eq_true (by omega)) (nil_d)) (fun β => by kernel_rfl) w0 w hS).mono fun e w' ⟨_, h2, h3⟩ => ⟨h2, h3⟩
    by_cases h2 : most < -1
    · exact (nw_run least most 1 (-2) M (fun _ => nwX 1) (fun _ => M) [dA least false, dB most true] t_nw2 (one_d (decide_eq_false (by omega)) (one_d (decide_eq_true (by omega)) (nil_d))) (fun β => by kernel_rfl) w0 w hS).mono fun e w' ⟨_, h2, h3⟩ => ⟨h2, h3⟩
    · exact (nw_run least most 3 1 M (fun _ => nwX 1) (fun _ => M) [dA least false, dB most false, dC most true, dD least most true] t_nw3 (one_d (decide_eq_false (by omega)) (one_d (decide_eq_false (by omega)) (one_d (decide_eq_true (by omega)) (one_d (decide_eq_true (by omega)) (nil_d))))) (fun β => by kernel_rfl) w0 w hS).mono fun e w' ⟨_, h2, h3⟩ => ⟨h2, h3⟩
  · rename_i hb
    rw [if_neg hb] at h
    split
    · rename_i h1
      by_cases h2 : 0 ≤ most
      · exact (nw_run least most 17 18 M (fun _ => nwX 3) (fun _ => M) [dA least false, dB most false, dC most true, dD least most false, dE least true] t_nw4 (one_d (decide_eq_false (by omega)) (one_d (decide_eq_false (by omega)) (one_d (decide_eq_true (by omega)) (one_d (decide_eq_false (by omega)) (one_d (decide_eq_true (by omega)) (nil_d)))))) (fun β => by kernel_rfl) w0 w hS).mono fun e w' ⟨_, h2, h3⟩ => ⟨h2, h3⟩
      · exact (nw_run least most 17 (-1) M (fun _ => nwX 3) (fun _ => M) [dA least false, dB most false, dC most false, dE least true] t_nw5 (one_d (decide_eq_false (by omega)) (one_d (decide_eq_false (by omega)) (one_d (decide_eq_false (by omega)) (one_d (decide_eq_true (by omega)) (nil_d))))) (fun β => by kernel_rfl) w0 w hS).mono fun e w' ⟨_, h2, h3⟩ => ⟨h2, h3⟩
    · rename_i h1
      rw [if_neg h1] at h
      exact absurd rfl h
theorem new_ok {least most : Int} (h : nwE least most = 0) {w0 w : World} {M : List Rw} (hS : SG w0 M w) : Calls Try.prog 8 #[.int .i64 least, .int .i64 most] w fun e w' => ∃ β : Nat → Fr, e = .returned (nwV β) ∧ SG w0 (nwR least most M β) w' := by
  unfold nwE at h
  split at h
  · cases h
  rename_i hb
  split at h
  · cases h
  rename_i h1
  have e1 : IntKind.i64.wrap (least * 65536) = least * 65536 := wi (by omega) (by omega)
  have f1 : decide (0 ≤ IntKind.i64.wrap (least * 65536)) = true := decide_eq_true (by rw [e1]; omega)
  have f2 : decide (IntKind.i64.wrap (least * 65536) ≤ 140737488355328) = true := decide_eq_true (by rw [e1]; omega)
  by_cases h2 : 0 ≤ most
  · exact nw_run least most 2 3 M nwV (nwR least most M) [dA least false, dB most false, dC most true, dD least most false, dE least false, dF least, dG least] t_nw6 (one_d (decide_eq_false (by omega)) (one_d (decide_eq_false (by omega)) (one_d (decide_eq_true (by omega)) (one_d (decide_eq_false (by omega)) (one_d (decide_eq_false (by omega)) (one_d f1 (one_d f2 nil_d))))))) (fun β => by kernel_rfl) w0 w hS
  · exact nw_run least most 2 (-1) M nwV (nwR least most M) [dA least false, dB most false, dC most false, dE least false, dF least, dG least] t_nw7 (one_d (decide_eq_false (by omega)) (one_d (decide_eq_false (by omega)) (one_d (decide_eq_false (by omega)) (one_d (decide_eq_false (by omega)) (one_d f1 (one_d f2 nil_d)))))) (fun β => by kernel_rfl) w0 w hS
def zX (x : Int) : Int := IntKind.i64.wrap (IntKind.i64.wrap x * 65536)
def grR (b0 N : Nat) (most x : Int) (c : List Value) (M : List Rw) (β : Nat → Fr) : List Rw :=
  ⟨(β 0).b, c.take N ++ (zC (zX x).toNat ++ (β 0).t), tB, true⟩ :: ⟨b0, hdr (β 0).b (N + (zX x).toNat) (c.take N ++ (zC (zX x).toNat ++ (β 0).t)).length most, tM, true⟩ :: M
def grV (N : Nat) : Value := .int .u32 (IntKind.u32.wrap (IntKind.i64.wrap ((N : Int).tdiv 65536)))
def gS (N : Nat) (x : Int) : Int := IntKind.u64.wrap (IntKind.u64.wrap (IntKind.i64.wrap ((N : Int).tdiv 65536)) + IntKind.u64.wrap x)
def gM (most : Int) (b : Bool) : Bool × Bool := (decide (most < 0), b)
def gH (N : Nat) (most x : Int) (b : Bool) : Bool × Bool := (decide (IntKind.u64.wrap (IntKind.u64.wrap (IntKind.i64.wrap ((N : Int).tdiv 65536)) + IntKind.u64.wrap x) > IntKind.u64.wrap (if 16 < most then 16 else most)), b)
def gN (N : Nat) (x : Int) (b : Bool) : Bool × Bool := (decide (IntKind.u64.wrap (IntKind.u64.wrap (IntKind.i64.wrap ((N : Int).tdiv 65536)) + IntKind.u64.wrap x) > IntKind.u64.wrap 16), b)
def gZ (N cap b1 : Nat) (c : List Value) (x : Int) : Bool × Bool := (apZ N cap (Rw.mk b1 c tB true).c (IntKind.i64.wrap (IntKind.i64.wrap x * 65536)), true)
def t_gr1 : List Nat := [2, 0, 0, 0, 1, 0, 0, 0, 0, 0, 0, 0, 0, 0]
def t_gr2 : List Nat := [2, 0, 0, 0, 1, 0, 0, 0, 0, 0, 0, 0, 0, 0]
def t_gr3 : List Nat := [3, 0, 0, 0, 2, 0, 0, 0, 1, 0, 0, 0, 0, 0, 0, 0, 0, 0]
def t_gr4 : List Nat := [3, 0, 0, 0, 2, 0, 0, 0, 1, 0, 0, 0, 0, 0, 0, 0, 0, 0]
/-- may it grow? -/
def grB (p : Nat) (most x : Int) : Bool := decide ((p : Int) + x ≤ if most < 0 then 16 else min most 16)
theorem gr_s {p : Nat} {x : Int} (hp : p ≤ 16) (h0 : 0 ≤ x) (h1 : x < 4294967296) : IntKind.u64.wrap (IntKind.u64.wrap (IntKind.i64.wrap (((65536 * p : Nat) : Int).tdiv 65536)) + IntKind.u64.wrap x) = p + x := by
  have e1 : (((65536 * p : Nat) : Int).tdiv 65536) = p := by
    rw [show ((65536 * p : Nat) : Int) = 65536 * (p : Int) by omega]
    exact Int.mul_tdiv_cancel_left _ (by decide)
  rw [e1, wi (by omega) (by omega), wu (by omega : (0 : Int) ≤ p) (by omega), wu h0 (by omega), wu (by omega) (by omega)]
theorem gr_v {p : Nat} (hp : p ≤ 16) : grV (65536 * p) = .int .u32 p := by
  have e1 : (((65536 * p : Nat) : Int).tdiv 65536) = p := by
    rw [show ((65536 * p : Nat) : Int) = 65536 * (p : Int) by omega]
    exact Int.mul_tdiv_cancel_left _ (by decide)
  unfold grV
  rw [e1, wi (by omega) (by omega), IntKind.wrap_u32]
  congr 1
  omega
theorem if_min (m : Int) : (if 16 < m then 16 else m) = min m 16 := by omega
theorem zX_eq {x : Int} (h0 : 0 ≤ x) (h1 : x ≤ 16) : zX x = 65536 * x := by
  unfold zX
  rw [wi (by omega : -9223372036854775808 ≤ x) (by omega), wi (by omega) (by omega)]
  omega
noncomputable def scPath (b off m c2 : Nat) (s : List Value) (β : Nat → Fr) : Out :=
  evPathR (envA 0 1) (envA 0 1) 400 42 [.slice (some ⟨b, off, none⟩) m c2] [.slice (some ⟨1, 0, none⟩) 1 1] [⟨b, s, tB, false⟩] [⟨1, [.int .u8 0], tB, false⟩]
    (.slice (some ⟨(β 1).b, 0, none⟩) (0 + m) (List.take 0 [] ++ ((s.drop off).take m ++ (β 1).t)).length) 0 [⟨(β 1).b, List.take 0 [] ++ ((s.drop off).take m ++ (β 1).t), tB, true⟩, ⟨b, s, tB, false⟩] β
--EVTS t_sc | fun (b off m c2 : Nat) (s : List Value) (β : Nat → Fr) => (scPath b off m c2 s β, [(apF 0 0 (Rw.mk (β 0).b [] tB true).c off m (Rw.mk b s tB false).c, true)])
def t_sc : List Nat := [1, 0, 0, 0]
theorem sc_run (b off m c2 : Nat) (s : List Value) (D : List (Bool × Bool)) (hD : ∀ p ∈ D, p.1 = p.2) (hr : ∀ β, tagOL D t_sc (scPath b off m c2 s β) = tagOR D t_sc (scPath b off m c2 s β)) (w : World) (hS : SG w [⟨b, s, tB, false⟩] w) :
    Calls Try.prog 42 #[.slice (some ⟨b, off, none⟩) m c2] w fun e w' => ∃ β : Nat → Fr, e = .returned (.slice (some ⟨(β 1).b, 0, none⟩) (0 + m) (List.take 0 [] ++ ((s.drop off).take m ++ (β 1).t)).length) ∧ SG w [⟨(β 1).b, List.take 0 [] ++ ((s.drop off).take m ++ (β 1).t), tB, true⟩, ⟨b, s, tB, false⟩] w' :=
  ev_callR (E := envA 0 1) (E' := envA 0 1) rfl (nosum_ok _ rfl) (fuel := 400) (args := [.slice (some ⟨b, off, none⟩) m c2]) D t_sc hD hr w w hS (ho := envA_ok _ _)
theorem sc_ok {b off m c2 : Nat} {s : List Value} (h : apF 0 0 [] off m s = true) (w : World) (hS : SG w [⟨b, s, tB, false⟩] w) :
    Calls Try.prog 42 #[.slice (some ⟨b, off, none⟩) m c2] w fun e w' => ∃ z : Fr, e = .returned (.slice (some ⟨z.b, 0, none⟩) m ((s.drop off).take m ++ z.t).length) ∧ SG w [⟨z.b, (s.drop off).take m ++ z.t, tB, true⟩] w' :=
  (sc_run b off m c2 s [(apF 0 0 [] off m s, true)] (one_d h nil_d) (fun β => by kernel_rfl) w hS).mono fun e w' ⟨β, h1, h2⟩ =>
    ⟨β 1, by rw [h1, Nat.zero_add]; rfl, h2.sub (List.Sublist.cons_cons _ (List.nil_sublist _))⟩
end Mm
end Go.Proofs.Ytmgkejpjljkfdaa
