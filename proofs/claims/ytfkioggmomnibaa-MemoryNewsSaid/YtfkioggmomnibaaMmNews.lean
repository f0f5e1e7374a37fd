/-
  Of layer 10: MemoryNews: for every least and most the law returns true. (gen_mmnews.py)
-/
import Derived.Test.YtfkioggmomnibaaMmAk
namespace Go.Proofs.Ytfkioggmomnibaa
open Go.RowKit VecM Ev
namespace Mm
noncomputable def envN (cs : CsF) : Env := { P := Try.prog, known := [], sum := fun _ _ => none, csum := cs, aop := apOp 0 0 }
theorem envN_ok {cs : CsF} (h : CsOk cs) : OphOk (envN cs) := ⟨h, fun _ _ _ _ hq => (by cases hq), no_ms rfl, apOp_ok 0 0⟩
noncomputable def nePath (v : Value) (l m l' m' : Int) (β : Nat → Fr) : Out :=
  evPathM (envN awC) (envN awC) 4000 4 [.int .i64 l, .int .i64 m] [.int .i64 l', .int .i64 m'] [] [] v β
def dN (most : Int) (b : Bool) : Bool × Bool := (most != -1, b)
def dP (l : Int) : Value := .bool (IntKind.i64.wrap (((pN l : Nat) : Int).tdiv 65536) == IntKind.i64.wrap (((pN l : Nat) : Int).tdiv 65536))
theorem ne_run (v : Value) (hv : v = .bool true) (l m l' m' : Int) (D : List (Bool × Bool)) (ts : List Nat) (hD : ∀ p ∈ D, p.1 = p.2) (hr : ∀ β, tagOL D ts (nePath v l m l' m' β) = tagOR D ts (nePath v l m l' m' β)) (w : World) :
    Calls Try.prog 4 #[.int .i64 l, .int .i64 m] w fun e w' => e = .returned (.bool true) ∧ Gr w w' :=
  hv ▸ ev_pathM (E := envN awC) (E' := envN awC) rfl (nosum_ok _ rfl) (fuel := 4000) (args := [.int .i64 l, .int .i64 m]) D ts hD hr w ⟨St.start w, fun _ h => by cases h⟩ (ho := envN_ok awC_ok)
--EVTS t_ne1 | fun (l m : Int) (β : Nat → Fr) => (nePath (.bool true) l m (-1) (0) β, [dA l true, dA l true])
def t_ne1 : List Nat := [0, 0, 0, 0, 0, 0, 0, 0, 0, 0, 0, 0, 0, 0, 0, 0, 0, 0, 0, 0, 1, 1, 1, 0, 0, 0, 0, 0, 0, 1, 1, 1, 0]
--EVTS t_ne2 | fun (l m : Int) (β : Nat → Fr) => (nePath (.bool true) l m (1) (-2) β, [dA l false, dB m true, dA l false, dB m true])
def t_ne2 : List Nat := [0, 0, 0, 0, 0, 0, 0, 0, 0, 0, 0, 0, 0, 0, 0, 2, 2, 2, 2, 2, 1, 1, 1, 0, 2, 2, 2, 2, 2, 1, 1, 1, 0]
--EVTS t_ne3 | fun (l m : Int) (β : Nat → Fr) => (nePath (.bool true) l m (3) (1) β, [dA l false, dB m false, dC m true, dD l m true, dA l false, dB m false, dN m true, dD l m true])
def t_ne3 : List Nat := [0, 0, 0, 0, 0, 0, 0, 0, 0, 0, 0, 0, 0, 0, 4, 2, 7, 2, 7, 7, 7, 2, 2, 2, 1, 1, 1, 4, 2, 3, 2, 3, 3, 3, 2, 2, 2, 1, 1, 1, 0]
--EVTS t_ne4 | fun (l m : Int) (β : Nat → Fr) => (nePath (.bool true) l m (17) (18) β, [dA l false, dB m false, dC m true, dD l m false, dE l true, dA l false, dB m false, dN m true, dD l m false, dE l true])
def t_ne4 : List Nat := [0, 0, 0, 0, 0, 0, 0, 0, 0, 0, 0, 0, 0, 0, 5, 4, 2, 8, 2, 8, 8, 8, 2, 2, 2, 1, 1, 1, 5, 4, 2, 3, 2, 3, 3, 3, 2, 2, 2, 1, 1, 1, 0]
--EVTS t_ne5 | fun (l m : Int) (β : Nat → Fr) => (nePath (.bool true) l m (17) (-1) β, [dA l false, dB m false, dC m false, dE l true, dA l false, dB m false, dN m false, dE l true])
def t_ne5 : List Nat := [0, 0, 0, 0, 0, 0, 0, 0, 0, 0, 0, 0, 0, 0, 4, 0, 2, 7, 2, 7, 7, 7, 2, 2, 2, 1, 1, 1, 4, 0, 2, 3, 2, 3, 3, 3, 2, 2, 2, 1, 1, 1, 0]
--EVTS t_ne6 | fun (l m : Int) (β : Nat → Fr) => (nePath (dP l) l m (2) (3) β, [dA l false, dB m false, dC m true, dD l m false, dE l false, dF l, dG l, dA l false, dB m false, dN m true, dD l m false, dE l false, dF l, dG l])
def t_ne6 : List Nat := [0, 0, 0, 0, 0, 0, 0, 0, 0, 0, 0, 0, 0, 0, 7, 6, 5, 4, 2, 10, 2, 10, 10, 10, 2, 2, 2, 1, 1, 1, 7, 6, 5, 4, 2, 3, 2, 3, 3, 3, 2, 2, 2, 1, 1, 1, 0]
--EVTS t_ne7 | fun (l m : Int) (β : Nat → Fr) => (nePath (dP l) l m (2) (-1) β, [dA l false, dB m false, dC m false, dE l false, dF l, dG l, dA l false, dB m false, dN m false, dE l false, dF l, dG l])
def t_ne7 : List Nat := [0, 0, 0, 0, 0, 0, 0, 0, 0, 0, 0, 0, 0, 0, 6, 5, 4, 0, 2, 9, 2, 9, 9, 9, 2, 2, 2, 1, 1, 1, 6, 5, 4, 0, 2, 3, 2, 3, 3, 3, 2, 2, 2, 1, 1, 1, 0]
set_option maxRecDepth 100000 in
theorem news_all (l m : Int) (_hl : -9223372036854775808 ≤ l ∧ l ≤ 9223372036854775807) (_hm : -9223372036854775808 ≤ m ∧ m ≤ 9223372036854775807) (w : World) : Calls Try.prog 4 #[.int .i64 l, .int .i64 m] w fun e w' => e = .returned (.bool true) ∧ Gr w w' := by
  by_cases h1 : l < 0
  · exact ne_run (.bool true) rfl l m (-1) (0) [dA l true, dA l true] t_ne1 (one_d (decide_eq_true (by omega)) (one_d (decide_eq_true (by omega)) (nil_d))) (fun β => by kernel_rfl) w
  by_cases h2 : m < -1
  · exact ne_run (.bool true) rfl l m (1) (-2) [dA l false, dB m true, dA l false, dB m true] t_ne2 (one_d (decide_eq_false (by omega)) (one_d (decide_eq_true (by omega)) (one_d (decide_eq_false (by omega)) (one_d (decide_eq_true (by omega)) (nil_d))))) (fun β => by kernel_rfl) w
  by_cases h3 : 0 ≤ m
  · by_cases h4 : m < l
    · exact ne_run (.bool true) rfl l m (3) (1) [dA l false, dB m false, dC m true, dD l m true, dA l false, dB m false, dN m true, dD l m true] t_ne3 (one_d (decide_eq_false (by omega)) (one_d (decide_eq_false (by omega)) (one_d (decide_eq_true (by omega)) (one_d (decide_eq_true (by omega)) (one_d (decide_eq_false (by omega)) (one_d (decide_eq_false (by omega)) (one_d (ne_t (by omega)) (one_d (decide_eq_true (by omega)) (nil_d))))))))) (fun β => by kernel_rfl) w
    by_cases h5 : 16 < l
    · exact ne_run (.bool true) rfl l m (17) (18) [dA l false, dB m false, dC m true, dD l m false, dE l true, dA l false, dB m false, dN m true, dD l m false, dE l true] t_ne4 (one_d (decide_eq_false (by omega)) (one_d (decide_eq_false (by omega)) (one_d (decide_eq_true (by omega)) (one_d (decide_eq_false (by omega)) (one_d (decide_eq_true (by omega)) (one_d (decide_eq_false (by omega)) (one_d (decide_eq_false (by omega)) (one_d (ne_t (by omega)) (one_d (decide_eq_false (by omega)) (one_d (decide_eq_true (by omega)) (nil_d))))))))))) (fun β => by kernel_rfl) w
    have e1 : IntKind.i64.wrap (l * 65536) = l * 65536 := wi (by omega) (by omega)
    have f1 : decide (0 ≤ IntKind.i64.wrap (l * 65536)) = true := decide_eq_true (by rw [e1]; omega)
    have f2 : decide (IntKind.i64.wrap (l * 65536) ≤ 140737488355328) = true := decide_eq_true (by rw [e1]; omega)
    exact ne_run (dP l) (congrArg Value.bool (beq_self_eq_true _)) l m (2) (3) [dA l false, dB m false, dC m true, dD l m false, dE l false, dF l, dG l, dA l false, dB m false, dN m true, dD l m false, dE l false, dF l, dG l] t_ne6 (one_d (decide_eq_false (by omega)) (one_d (decide_eq_false (by omega)) (one_d (decide_eq_true (by omega)) (one_d (decide_eq_false (by omega)) (one_d (decide_eq_false (by omega)) (one_d f1 (one_d f2 (one_d (decide_eq_false (by omega)) (one_d (decide_eq_false (by omega)) (one_d (ne_t (by omega)) (one_d (decide_eq_false (by omega)) (one_d (decide_eq_false (by omega)) (one_d f1 (one_d f2 (nil_d))))))))))))))) (fun β => by kernel_rfl) w
  · by_cases h5 : 16 < l
    · exact ne_run (.bool true) rfl l m (17) (-1) [dA l false, dB m false, dC m false, dE l true, dA l false, dB m false, dN m false, dE l true] t_ne5 (one_d (decide_eq_false (by omega)) (one_d (decide_eq_false (by omega)) (one_d (decide_eq_false (by omega)) (one_d (decide_eq_true (by omega)) (one_d (decide_eq_false (by omega)) (one_d (decide_eq_false (by omega)) (one_d (ne_f (by omega)) (one_d (decide_eq_true (by omega)) (nil_d))))))))) (fun β => by kernel_rfl) w
    have e1 : IntKind.i64.wrap (l * 65536) = l * 65536 := wi (by omega) (by omega)
    have f1 : decide (0 ≤ IntKind.i64.wrap (l * 65536)) = true := decide_eq_true (by rw [e1]; omega)
    have f2 : decide (IntKind.i64.wrap (l * 65536) ≤ 140737488355328) = true := decide_eq_true (by rw [e1]; omega)
    exact ne_run (dP l) (congrArg Value.bool (beq_self_eq_true _)) l m (2) (-1) [dA l false, dB m false, dC m false, dE l false, dF l, dG l, dA l false, dB m false, dN m false, dE l false, dF l, dG l] t_ne7 (one_d (decide_eq_false (by omega)) (one_d (decide_eq_false (by omega)) (one_d (decide_eq_false (by omega)) (one_d (decide_eq_false (by omega)) (one_d f1 (one_d f2 (one_d (decide_eq_false (by omega)) (one_d (decide_eq_false (by omega)) (one_d (ne_f (by omega)) (one_d (decide_eq_false (by omega)) (one_d f1 (one_d f2 (nil_d))))))))))))) (fun β => by kernel_rfl) w
end Mm
end Go.Proofs.Ytfkioggmomnibaa
