/-
  memory's Load and Store of one, two, four and eight bytes, within the row. Of layer 10.
-/
import Derived.Test.YtmgkejpjljkfdaaMmE
namespace Go.Proofs.Ytmgkejpjljkfdaa
open Go.RowKit VecM Ev
namespace Mm
def tM : TypeId := 68
def tB : TypeId := 5
/-- what Load gathers of n bytes, as it gathers it -/
def ldX (c : List Value) (a : Nat) : Nat → Int
  | 0 => 0
  | k + 1 => bits .or .u64 (ldX c a k) (IntKind.u64.wrap (IntKind.u64.wrap (gB c (a + k)) * 2 ^ (min (Int.toNat (IntKind.i64.wrap (8 * k))) 64)))
noncomputable def envM (j A n : Nat) : Env := { P := Try.prog, known := [], sum := fun _ _ => none, oph := byOph j A n }
theorem envM_ok (j A n : Nat) : OphOk (envM j A n) := oph_of rfl (byOph_ok j A n)
theorem nosum_ok (E : Env) (h : E.sum = fun _ _ => none) : SumOk E := fun f args cs mk hq => by rw [h] at hq; cases hq
def hdr (b1 N cap : Nat) (most : Int) : List Value := [.slice (some ⟨b1, 0, none⟩) N cap, .int .i64 most]
noncomputable def ldPath (b0 b1 N cap : Nat) (most : Int) (c : List Value) (at_ : Int) (n : Nat) (β : Nat → Fr) : Out :=
  evPathM (envM 1 at_.toNat n) (envM 1 0 n) 400 24 [.pointer (some ⟨b0, 0, none⟩), .int .u64 at_, .int .i64 n] [.pointer (some ⟨1, 0, none⟩), .int .u64 0, .int .i64 n]
    [⟨b0, hdr b1 N cap most, tM, false⟩, ⟨b1, c, tB, false⟩] [⟨1, hdr 2 16 16 0, tM, false⟩, ⟨2, List.replicate 16 (.int .u8 0), tB, false⟩] (.tuple #[.int .u64 (ldX c at_.toNat n), .int .i64 0]) β
def ldD (N cap : Nat) (c : List Value) (at_ : Int) (n : Nat) : List (Bool × Bool) :=
  [(decide ((n : Int) ≤ (N : Int)), true), (!decide (at_ ≤ IntKind.u64.wrap (IntKind.i64.wrap ((N : Int) - (n : Int)))), false), (decide (at_ = (at_.toNat : Int)), true), (decide (IntKind.u64.wrap (at_ + IntKind.u64.wrap (n : Int)) = ((at_.toNat + n : Nat) : Int)), true), (decide (at_.toNat + n ≤ cap), true)] ++ (List.range n).map fun k => (isB c[at_.toNat + k]?, true)
--EVTS t_ld1 | fun (b0 b1 N cap : Nat) (most : Int) (c : List Value) (at_ : Int) (β : Nat → Fr) => (ldPath b0 b1 N cap most c at_ 1 β, ldD N cap c at_ 1)
def t_ld1 : List Nat := [0, 6, 0, 0, 0, 0, 5, 4, 3, 0, 2, 1, 1, 1, 1, 1, 1, 1, 1, 1, 1, 1, 0, 0, 0, 0, 0, 0, 0, 0, 0, 0, 0]
--EVTS t_ld2 | fun (b0 b1 N cap : Nat) (most : Int) (c : List Value) (at_ : Int) (β : Nat → Fr) => (ldPath b0 b1 N cap most c at_ 2 β, ldD N cap c at_ 2)
def t_ld2 : List Nat := [0, 7, 0, 0, 0, 6, 0, 0, 0, 0, 5, 4, 3, 0, 2, 1, 1, 1, 1, 1, 1, 1, 1, 1, 1, 1, 0, 0, 0, 0, 0, 0, 0, 0, 0, 0, 0]
--EVTS t_ld4 | fun (b0 b1 N cap : Nat) (most : Int) (c : List Value) (at_ : Int) (β : Nat → Fr) => (ldPath b0 b1 N cap most c at_ 4 β, ldD N cap c at_ 4)
def t_ld4 : List Nat := [0, 9, 0, 0, 0, 8, 0, 0, 0, 7, 0, 0, 0, 6, 0, 0, 0, 0, 5, 4, 3, 0, 2, 1, 1, 1, 1, 1, 1, 1, 1, 1, 1, 1, 0, 0, 0, 0, 0, 0, 0, 0, 0, 0, 0]
--EVTS t_ld8 | fun (b0 b1 N cap : Nat) (most : Int) (c : List Value) (at_ : Int) (β : Nat → Fr) => (ldPath b0 b1 N cap most c at_ 8 β, ldD N cap c at_ 8)
def t_ld8 : List Nat := [0, 13, 0, 0, 0, 12, 0, 0, 0, 11, 0, 0, 0, 10, 0, 0, 0, 9, 0, 0, 0, 8, 0, 0, 0, 7, 0, 0, 0, 6, 0, 0, 0, 0, 5, 4, 3, 0, 2, 1, 1, 1, 1, 1, 1, 1, 1, 1, 1, 1, 0, 0, 0, 0, 0, 0, 0, 0, 0, 0, 0]
/-- what Store leaves, as it writes it -/
def stX (c : List Value) (a : Int) (x : Int) : Nat → List Value
  | 0 => c
  | k + 1 => (stX c a x k).set (0 + (IntKind.u64.wrap (a + IntKind.u64.wrap (k : Int))).toNat) (.int .u8 (IntKind.u8.wrap (x.fdiv (2 ^ (min (Int.toNat (IntKind.i64.wrap (8 * k))) 64)))))
def stN (b1 : Nat) (c : List Value) (a x : Int) : Nat → Nat
  | 0 => (Rw.mk b1 c tB true).c.length
  | k + 1 => (stX c a x (k + 1)).length
def stD (b1 N : Nat) (c : List Value) (at_ x : Int) (n : Nat) : List (Bool × Bool) :=
  [(decide ((n : Int) ≤ (N : Int)), true), (!decide (at_ ≤ IntKind.u64.wrap (IntKind.i64.wrap ((N : Int) - (n : Int)))), false)] ++ ((List.range n).map fun (k : Nat) =>
    [(decide (0 ≤ IntKind.u64.wrap (at_ + IntKind.u64.wrap (k : Int))), true), (decide (IntKind.u64.wrap (at_ + IntKind.u64.wrap (k : Int)) < (N : Int)), true), (decide (0 + (IntKind.u64.wrap (at_ + IntKind.u64.wrap (k : Int))).toNat < stN b1 c at_ x k), true)]).flatten
noncomputable def stPath (b0 b1 N cap : Nat) (most : Int) (c : List Value) (M : List Rw) (at_ x : Int) (n : Nat) (β : Nat → Fr) : Out :=
  evPathR (envM 1 at_.toNat n) (envM 1 0 n) 400 38 [.pointer (some ⟨b0, 0, none⟩), .int .u64 at_, .int .i64 n, .int .u64 x] [.pointer (some ⟨1, 0, none⟩), .int .u64 0, .int .i64 n, .int .u64 5]
    (⟨b0, hdr b1 N cap most, tM, true⟩ :: ⟨b1, c, tB, true⟩ :: M) [⟨1, hdr 2 16 16 0, tM, true⟩, ⟨2, List.replicate 16 (.int .u8 0), tB, true⟩] (.int .i64 0) 0 (⟨b0, hdr b1 N cap most, tM, true⟩ :: ⟨b1, stX c at_ x n, tB, true⟩ :: M) β
--EVTS t_st1 | fun (b0 b1 N cap : Nat) (most : Int) (c : List Value) (M : List Rw) (at_ x : Int) (β : Nat → Fr) => (stPath b0 b1 N cap most c M at_ x 1 β, stD b1 N c at_ x 1)
def t_st1 : List Nat := [0, 5, 4, 3, 0, 0, 2, 1, 1, 1, 1, 1, 1, 1, 1, 1, 1, 1, 0, 0, 0, 0, 0, 0, 0, 0, 0, 0, 0]
--EVTS t_st2 | fun (b0 b1 N cap : Nat) (most : Int) (c : List Value) (M : List Rw) (at_ x : Int) (β : Nat → Fr) => (stPath b0 b1 N cap most c M at_ x 2 β, stD b1 N c at_ x 2)
def t_st2 : List Nat := [0, 8, 7, 6, 0, 5, 4, 3, 0, 0, 2, 1, 1, 1, 1, 1, 1, 1, 1, 1, 1, 1, 0, 0, 0, 0, 0, 0, 0, 0, 0, 0, 0]
--EVTS t_st4 | fun (b0 b1 N cap : Nat) (most : Int) (c : List Value) (M : List Rw) (at_ x : Int) (β : Nat → Fr) => (stPath b0 b1 N cap most c M at_ x 4 β, stD b1 N c at_ x 4)
def t_st4 : List Nat := [0, 14, 13, 12, 0, 11, 10, 9, 0, 8, 7, 6, 0, 5, 4, 3, 0, 0, 2, 1, 1, 1, 1, 1, 1, 1, 1, 1, 1, 1, 0, 0, 0, 0, 0, 0, 0, 0, 0, 0, 0]
--EVTS t_st8 | fun (b0 b1 N cap : Nat) (most : Int) (c : List Value) (M : List Rw) (at_ x : Int) (β : Nat → Fr) => (stPath b0 b1 N cap most c M at_ x 8 β, stD b1 N c at_ x 8)
def t_st8 : List Nat := [0, 26, 25, 24, 0, 23, 22, 21, 0, 20, 19, 18, 0, 17, 16, 15, 0, 14, 13, 12, 0, 11, 10, 9, 0, 8, 7, 6, 0, 5, 4, 3, 0, 0, 2, 1, 1, 1, 1, 1, 1, 1, 1, 1, 1, 1, 0, 0, 0, 0, 0, 0, 0, 0, 0, 0, 0]
/-- what is wrong with an access: the number is none of these; or it lies not within -/
noncomputable def erPath (fn : FuncId) (b0 b1 N cap : Nat) (most : Int) (c : List Value) (at_ n n' : Int) (N' : Nat) (x : List Value) (x' : List Value) (v : Value) (β : Nat → Fr) : Out :=
  evPathM (envM 1 0 0) (envM 1 0 0) 400 fn ([.pointer (some ⟨b0, 0, none⟩), .int .u64 at_, .int .i64 n] ++ x) ([.pointer (some ⟨1, 0, none⟩), .int .u64 99, .int .i64 n'] ++ x')
    [⟨b0, hdr b1 N cap most, tM, false⟩, ⟨b1, c, tB, false⟩] [⟨1, hdr 2 N' 16 0, tM, false⟩, ⟨2, List.replicate 16 (.int .u8 0), tB, false⟩] v β
def neD (n : Int) : List (Bool × Bool) := [(n != 1, true), (n != 2, true), (n != 4, true), (n != 8, true)]
def eqD (n : Int) (k : Nat) : List (Bool × Bool) := match k with
  | 0 => [(n != 1, false)]
  | 1 => [(n != 1, true), (n != 2, false)]
  | 2 => [(n != 1, true), (n != 2, true), (n != 4, false)]
  | _ => [(n != 1, true), (n != 2, true), (n != 4, true), (n != 8, false)]
--EVTS t_ldn | fun (b0 b1 N cap : Nat) (most : Int) (c : List Value) (at_ n x : Int) (β : Nat → Fr) => (erPath 24 b0 b1 N cap most c at_ n 3 16 [] [] (.tuple #[.int .u64 0, .int .i64 1]) β, neD n)
def t_ldn : List Nat := [0, 4, 3, 3, 3, 2, 2, 2, 1, 1, 1, 0]
--EVTS t_lda0 | fun (b0 b1 N cap : Nat) (most : Int) (c : List Value) (at_ n x : Int) (β : Nat → Fr) => (erPath 24 b0 b1 N cap most c at_ n 1 0 [] [] (.tuple #[.int .u64 0, .int .i64 23]) β, eqD n 0 ++ [(decide (n ≤ (N : Int)), false)])
def t_lda0 : List Nat := [0, 0, 2, 2, 2, 2, 2, 2, 2, 2, 2, 2, 2, 0, 0, 0, 0, 0, 0, 0, 1, 1, 1, 0]
--EVTS t_ldb0 | fun (b0 b1 N cap : Nat) (most : Int) (c : List Value) (at_ n x : Int) (β : Nat → Fr) => (erPath 24 b0 b1 N cap most c at_ n 1 16 [] [] (.tuple #[.int .u64 0, .int .i64 23]) β, eqD n 0 ++ [(decide (n ≤ (N : Int)), true), (!decide (at_ ≤ IntKind.u64.wrap (IntKind.i64.wrap ((N : Int) - n))), true)])
def t_ldb0 : List Nat := [0, 3, 2, 2, 2, 2, 2, 2, 2, 2, 2, 2, 2, 0, 0, 0, 0, 0, 0, 0, 1, 1, 1, 0]
--EVTS t_lda1 | fun (b0 b1 N cap : Nat) (most : Int) (c : List Value) (at_ n x : Int) (β : Nat → Fr) => (erPath 24 b0 b1 N cap most c at_ n 2 0 [] [] (.tuple #[.int .u64 0, .int .i64 23]) β, eqD n 1 ++ [(decide (n ≤ (N : Int)), false)])
def t_lda1 : List Nat := [0, 0, 3, 3, 3, 3, 3, 3, 3, 3, 3, 3, 3, 0, 0, 0, 0, 2, 2, 2, 1, 1, 1, 0]
--EVTS t_ldb1 | fun (b0 b1 N cap : Nat) (most : Int) (c : List Value) (at_ n x : Int) (β : Nat → Fr) => (erPath 24 b0 b1 N cap most c at_ n 2 16 [] [] (.tuple #[.int .u64 0, .int .i64 23]) β, eqD n 1 ++ [(decide (n ≤ (N : Int)), true), (!decide (at_ ≤ IntKind.u64.wrap (IntKind.i64.wrap ((N : Int) - n))), true)])
def t_ldb1 : List Nat := [0, 4, 3, 3, 3, 3, 3, 3, 3, 3, 3, 3, 3, 0, 0, 0, 0, 2, 2, 2, 1, 1, 1, 0]
--EVTS t_lda2 | fun (b0 b1 N cap : Nat) (most : Int) (c : List Value) (at_ n x : Int) (β : Nat → Fr) => (erPath 24 b0 b1 N cap most c at_ n 4 0 [] [] (.tuple #[.int .u64 0, .int .i64 23]) β, eqD n 2 ++ [(decide (n ≤ (N : Int)), false)])
def t_lda2 : List Nat := [0, 0, 4, 4, 4, 4, 4, 4, 4, 4, 4, 4, 4, 0, 3, 3, 3, 2, 2, 2, 1, 1, 1, 0]
--EVTS t_ldb2 | fun (b0 b1 N cap : Nat) (most : Int) (c : List Value) (at_ n x : Int) (β : Nat → Fr) => (erPath 24 b0 b1 N cap most c at_ n 4 16 [] [] (.tuple #[.int .u64 0, .int .i64 23]) β, eqD n 2 ++ [(decide (n ≤ (N : Int)), true), (!decide (at_ ≤ IntKind.u64.wrap (IntKind.i64.wrap ((N : Int) - n))), true)])
def t_ldb2 : List Nat := [0, 5, 4, 4, 4, 4, 4, 4, 4, 4, 4, 4, 4, 0, 3, 3, 3, 2, 2, 2, 1, 1, 1, 0]
--EVTS t_lda3 | fun (b0 b1 N cap : Nat) (most : Int) (c : List Value) (at_ n x : Int) (β : Nat → Fr) => (erPath 24 b0 b1 N cap most c at_ n 8 0 [] [] (.tuple #[.int .u64 0, .int .i64 23]) β, eqD n 3 ++ [(decide (n ≤ (N : Int)), false)])
def t_lda3 : List Nat := [0, 0, 5, 5, 5, 5, 5, 5, 5, 5, 5, 5, 5, 4, 3, 3, 3, 2, 2, 2, 1, 1, 1, 0]
--EVTS t_ldb3 | fun (b0 b1 N cap : Nat) (most : Int) (c : List Value) (at_ n x : Int) (β : Nat → Fr) => (erPath 24 b0 b1 N cap most c at_ n 8 16 [] [] (.tuple #[.int .u64 0, .int .i64 23]) β, eqD n 3 ++ [(decide (n ≤ (N : Int)), true), (!decide (at_ ≤ IntKind.u64.wrap (IntKind.i64.wrap ((N : Int) - n))), true)])
def t_ldb3 : List Nat := [0, 6, 5, 5, 5, 5, 5, 5, 5, 5, 5, 5, 5, 4, 3, 3, 3, 2, 2, 2, 1, 1, 1, 0]
--EVTS t_stn | fun (b0 b1 N cap : Nat) (most : Int) (c : List Value) (at_ n x : Int) (β : Nat → Fr) => (erPath 38 b0 b1 N cap most c at_ n 3 16 [.int .u64 x] [.int .u64 5] (.int .i64 1) β, neD n)
def t_stn : List Nat := [0, 4, 3, 3, 3, 2, 2, 2, 1, 1, 1, 0]
--EVTS t_sta0 | fun (b0 b1 N cap : Nat) (most : Int) (c : List Value) (at_ n x : Int) (β : Nat → Fr) => (erPath 38 b0 b1 N cap most c at_ n 1 0 [.int .u64 x] [.int .u64 5] (.int .i64 23) β, eqD n 0 ++ [(decide (n ≤ (N : Int)), false)])
def t_sta0 : List Nat := [0, 0, 2, 2, 2, 2, 2, 2, 2, 2, 2, 2, 2, 0, 0, 0, 0, 0, 0, 0, 1, 1, 1, 0]
--EVTS t_stb0 | fun (b0 b1 N cap : Nat) (most : Int) (c : List Value) (at_ n x : Int) (β : Nat → Fr) => (erPath 38 b0 b1 N cap most c at_ n 1 16 [.int .u64 x] [.int .u64 5] (.int .i64 23) β, eqD n 0 ++ [(decide (n ≤ (N : Int)), true), (!decide (at_ ≤ IntKind.u64.wrap (IntKind.i64.wrap ((N : Int) - n))), true)])
def t_stb0 : List Nat := [0, 3, 2, 2, 2, 2, 2, 2, 2, 2, 2, 2, 2, 0, 0, 0, 0, 0, 0, 0, 1, 1, 1, 0]
--EVTS t_sta1 | fun (b0 b1 N cap : Nat) (most : Int) (c : List Value) (at_ n x : Int) (β : Nat → Fr) => (erPath 38 b0 b1 N cap most c at_ n 2 0 [.int .u64 x] [.int .u64 5] (.int .i64 23) β, eqD n 1 ++ [(decide (n ≤ (N : Int)), false)])
def t_sta1 : List Nat := [0, 0, 3, 3, 3, 3, 3, 3, 3, 3, 3, 3, 3, 0, 0, 0, 0, 2, 2, 2, 1, 1, 1, 0]
--EVTS t_stb1 | fun (b0 b1 N cap : Nat) (most : Int) (c : List Value) (at_ n x : Int) (β : Nat → Fr) => (erPath 38 b0 b1 N cap most c at_ n 2 16 [.int .u64 x] [.int .u64 5] (.int .i64 23) β, eqD n 1 ++ [(decide (n ≤ (N : Int)), true), (!decide (at_ ≤ IntKind.u64.wrap (IntKind.i64.wrap ((N : Int) - n))), true)])
def t_stb1 : List Nat := [0, 4, 3, 3, 3, 3, 3, 3, 3, 3, 3, 3, 3, 0, 0, 0, 0, 2, 2, 2, 1, 1, 1, 0]
--EVTS t_sta2 | fun (b0 b1 N cap : Nat) (most : Int) (c : List Value) (at_ n x : Int) (β : Nat → Fr) => (erPath 38 b0 b1 N cap most c at_ n 4 0 [.int .u64 x] [.int .u64 5] (.int .i64 23) β, eqD n 2 ++ [(decide (n ≤ (N : Int)), false)])
def t_sta2 : List Nat := [0, 0, 4, 4, 4, 4, 4, 4, 4, 4, 4, 4, 4, 0, 3, 3, 3, 2, 2, 2, 1, 1, 1, 0]
--EVTS t_stb2 | fun (b0 b1 N cap : Nat) (most : Int) (c : List Value) (at_ n x : Int) (β : Nat → Fr) => (erPath 38 b0 b1 N cap most c at_ n 4 16 [.int .u64 x] [.int .u64 5] (.int .i64 23) β, eqD n 2 ++ [(decide (n ≤ (N : Int)), true), (!decide (at_ ≤ IntKind.u64.wrap (IntKind.i64.wrap ((N : Int) - n))), true)])
def t_stb2 : List Nat := [0, 5, 4, 4, 4, 4, 4, 4, 4, 4, 4, 4, 4, 0, 3, 3, 3, 2, 2, 2, 1, 1, 1, 0]
--EVTS t_sta3 | fun (b0 b1 N cap : Nat) (most : Int) (c : List Value) (at_ n x : Int) (β : Nat → Fr) => (erPath 38 b0 b1 N cap most c at_ n 8 0 [.int .u64 x] [.int .u64 5] (.int .i64 23) β, eqD n 3 ++ [(decide (n ≤ (N : Int)), false)])
def t_sta3 : List Nat := [0, 0, 5, 5, 5, 5, 5, 5, 5, 5, 5, 5, 5, 4, 3, 3, 3, 2, 2, 2, 1, 1, 1, 0]
--EVTS t_stb3 | fun (b0 b1 N cap : Nat) (most : Int) (c : List Value) (at_ n x : Int) (β : Nat → Fr) => (erPath 38 b0 b1 N cap most c at_ n 8 16 [.int .u64 x] [.int .u64 5] (.int .i64 23) β, eqD n 3 ++ [(decide (n ≤ (N : Int)), true), (!decide (at_ ≤ IntKind.u64.wrap (IntKind.i64.wrap ((N : Int) - n))), true)])
def t_stb3 : List Nat := [0, 6, 5, 5, 5, 5, 5, 5, 5, 5, 5, 5, 5, 4, 3, 3, 3, 2, 2, 2, 1, 1, 1, 0]
end Mm
end Go.Proofs.Ytmgkejpjljkfdaa
