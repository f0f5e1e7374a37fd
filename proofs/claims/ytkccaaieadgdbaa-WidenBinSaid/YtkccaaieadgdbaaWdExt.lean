/-
  WidenExact: for all vectors the law returns true. Condition: bytes.
-/
import Derived.Test.YtkccaaieadgdbaaWdSum
import Derived.Test.YtkccaaieadgdbaaWdQ15
namespace Go.Proofs.Ytkccaaieadgdbaa
open Go.RowKit VecM Ev
namespace Wd
def exK (a b : Nat → Int) : List (Nat → Int) := [a, b, 
 unV 64903 a, unV 64904 a, unV 64905 a, unV 64906 a, biV 64924 a b, biV 64925 a b, biV 64926 a b, biV 64927 a b, unV 64892 a, unV 64893 a,
 unV 64935 a, unV 64936 a, unV 64937 a, unV 64938 a, biV 64956 a b, biV 64957 a b, biV 64958 a b, biV 64959 a b, unV 64894 a, unV 64895 a,
 unV 64967 a, unV 64968 a, unV 64969 a, unV 64970 a, biV 64988 a b, biV 64989 a b, biV 64990 a b, biV 64991 a b, biV 64954 a b]
noncomputable def exPath (a b : Nat → Int) (β : Nat → Fr) : Out := evPath (envW (exK a b)) (envW (exK sA sB)) 80 5 [.agg (bs a), .agg (bs b)] [.agg (bs sA), .agg (bs sB)] (.bool true) β
/-- the facts: of lane i of w bits in the h-th half, and of the pair i -/
def exL (a b : Nat → Int) (k w v i m h : Int) : List (Bool × Bool) :=
  [(sgnI (unV (64903 + k + h) a) v i != sgnI a w m, false), (getI (unV (64905 + k + h) a) v i != getI a w m, false),
   (sgnI (biV (64924 + k + h) a b) v i != IntKind.i64.wrap (sgnI a w m * sgnI b w m), false), (getI (biV (64926 + k + h) a b) v i != IntKind.u64.wrap (getI a w m * getI b w m), false)]
def exP (a : Nat → Int) (k w v i : Int) : List (Bool × Bool) :=
  [(sgnI (unV (64892 + k) a) v i != IntKind.i64.wrap (sgnI a w (2 * i) + sgnI a w (2 * i + 1)), false), (getI (unV (64893 + k) a) v i != IntKind.u64.wrap (getI a w (2 * i) + getI a w (2 * i + 1)), false)]
def exD (a b : Nat → Int) : List (Bool × Bool) :=
  ((List.range 8).flatMap fun (i : Nat) => exL a b 0 8 16 (i : Int) (i : Int) 0 ++ exL a b 0 8 16 (i : Int) (8 + (i : Int)) 1 ++ exP a 0 8 16 (i : Int)) ++
  ((List.range 4).flatMap fun (i : Nat) => exL a b 32 16 32 (i : Int) (i : Int) 0 ++ exL a b 32 16 32 (i : Int) (4 + (i : Int)) 1 ++ exP a 2 16 32 (i : Int)) ++
  ((List.range 2).flatMap fun (i : Nat) => exL a b 64 32 64 (i : Int) (i : Int) 0 ++ exL a b 64 32 64 (i : Int) (2 + (i : Int)) 1) ++
  ((List.range 4).map fun (i : Nat) => (getI (biV 64954 a b) 32 (i : Int) != (IntKind.u64.wrap (IntKind.i64.wrap (IntKind.i64.wrap (sgnI a 16 (2 * (i : Int)) * sgnI b 16 (2 * (i : Int))) + IntKind.i64.wrap (sgnI a 16 (2 * (i : Int) + 1) * sgnI b 16 (2 * (i : Int) + 1))))).tmod 4294967296, false))
--EVTS exTs | fun (a b : Nat → Int) (β : Nat → Fr) => (exPath a b β, exD a b)
def exTs : List Nat := [0, 140, 0, 139, 0, 138, 0, 137, 0, 0, 0, 0, 0, 0, 0, 0, 0, 0, 0, 0, 0, 0, 0, 0, 0, 0, 0, 0, 0, 0, 0, 0, 0, 0, 0, 0, 0, 0, 0, 0, 136, 135, 135, 135, 135, 135, 135, 135, 135, 135, 0, 0, 135, 135, 135, 135, 135, 135, 135, 135, 134, 134, 134, 134, 134, 134, 134, 134, 134, 0, 0, 134, 134, 134, 134, 134, 134, 134, 134, 133, 133, 133, 133, 133, 133, 133, 0, 0, 133, 133, 133, 133, 133, 133, 133, 0, 0, 0, 132, 131, 131, 131, 131, 131, 131, 131, 131, 131, 0, 0, 131, 131, 131, 131, 131, 131, 131, 131, 130, 130, 130, 130, 130, 130, 130, 130, 130, 0, 0, 130, 130, 130, 130, 130, 130, 130, 130, 129, 129, 129, 129, 129, 129, 129, 0, 0, 129, 129, 129, 129, 129, 129, 129, 0, 0, 0, 0, 0, 0, 0, 0, 0, 0, 0, 0, 0, 0, 0, 0, 0, 0, 0, 0, 0, 0, 0, 0, 0, 0, 0, 0, 0, 0, 0, 128, 127, 127, 127, 127, 127, 127, 127, 127, 127, 0, 0, 127, 127, 127, 127, 127, 127, 127, 127, 126, 126, 126, 126, 126, 126, 126, 126, 126, 0, 0, 126, 126, 126, 126, 126, 126, 126, 126, 125, 125, 125, 125, 125, 125, 125, 0, 0, 125, 125, 125, 125, 125, 125, 125, 0, 0, 0, 124, 123, 123, 123, 123, 123, 123, 123, 123, 123, 0, 0, 123, 123, 123, 123, 123, 123, 123, 123, 122, 122, 122, 122, 122, 122, 122, 122, 122, 0, 0, 122, 122, 122, 122, 122, 122, 122, 122, 121, 121, 121, 121, 121, 121, 121, 0, 0, 121, 121, 121, 121, 121, 121, 121, 0, 0, 0, 0, 0, 0, 120, 0, 119, 0, 119, 119, 119, 119, 119, 119, 119, 119, 119, 119, 119, 119, 119, 119, 119, 119, 119, 0, 0, 119, 119, 119, 119, 119, 0, 0, 0, 0, 0, 0, 0, 0, 0, 0, 0, 0, 0, 0, 0, 0, 0, 0, 0, 0, 0, 0, 0, 0, 0, 0, 118, 117, 117, 117, 117, 117, 117, 117, 117, 117, 0, 0, 117, 117, 117, 117, 117, 117, 117, 117, 116, 116, 116, 116, 116, 116, 116, 116, 116, 0, 0, 116, 116, 116, 116, 116, 116, 116, 116, 115, 115, 115, 115, 115, 115, 115, 0, 0, 115, 115, 115, 115, 115, 115, 115, 0, 0, 0, 114, 113, 113, 113, 113, 113, 113, 113, 113, 113, 0, 0, 113, 113, 113, 113, 113, 113, 113, 113, 112, 112, 112, 112, 112, 112, 112, 112, 112, 0, 0, 112, 112, 112, 112, 112, 112, 112, 112, 111, 111, 111, 111, 111, 111, 111, 0, 0, 111, 111, 111, 111, 111, 111, 111, 0, 0, 0, 0, 110, 0, 109, 0, 109, 109, 109, 109, 109, 109, 109, 109, 109, 109, 109, 109, 109, 109, 109, 109, 109, 0, 0, 109, 109, 109, 109, 109, 0, 0, 0, 0, 0, 0, 0, 0, 0, 0, 0, 0, 0, 0, 0, 0, 0, 0, 0, 0, 0, 0, 0, 0, 0, 0, 108, 107, 107, 107, 107, 107, 107, 107, 107, 107, 0, 0, 107, 107, 107, 107, 107, 107, 107, 107, 106, 106, 106, 106, 106, 106, 106, 106, 106, 0, 0, 106, 106, 106, 106, 106, 106, 106, 106, 105, 105, 105, 105, 105, 105, 105, 0, 0, 105, 105, 105, 105, 105, 105, 105, 0, 0, 0, 104, 103, 103, 103, 103, 103, 103, 103, 103, 103, 0, 0, 103, 103, 103, 103, 103, 103, 103, 103, 102, 102, 102, 102, 102, 102, 102, 102, 102, 0, 0, 102, 102, 102, 102, 102, 102, 102, 102, 101, 101, 101, 101, 101, 101, 101, 0, 0, 101, 101, 101, 101, 101, 101, 101, 0, 0, 0, 0, 100, 0, 99, 0, 99, 99, 99, 99, 99, 99, 99, 99, 99, 99, 99, 99, 99, 99, 99, 99, 99, 0, 0, 99, 99, 99, 99, 99, 0, 0, 0, 0, 0, 0, 0, 0, 0, 0, 0, 0, 0, 0, 0, 0, 0, 0, 0, 0, 0, 0, 0, 0, 0, 0, 98, 97, 97, 97, 97, 97, 97, 97, 97, 97, 0, 0, 97, 97, 97, 97, 97, 97, 97, 97, 96, 96, 96, 96, 96, 96, 96, 96, 96, 0, 0, 96, 96, 96, 96, 96, 96, 96, 96, 95, 95, 95, 95, 95, 95, 95, 0, 0, 95, 95, 95, 95, 95, 95, 95, 0, 0, 0, 94, 93, 93, 93, 93, 93, 93, 93, 93, 93, 0, 0, 93, 93, 93, 93, 93, 93, 93, 93, 92, 92, 92, 92, 92, 92, 92, 92, 92, 0, 0, 92, 92, 92, 92, 92, 92, 92, 92, 91, 91, 91, 91, 91, 91, 91, 0, 0, 91, 91, 91, 91, 91, 91, 91, 0, 0, 0, 0, 90, 0, 89, 0, 89, 89, 89, 89, 89, 89, 89, 89, 89, 89, 89, 89, 89, 89, 89, 89, 89, 0, 0, 89, 89, 89, 89, 89, 0, 0, 0, 0, 0, 0, 0, 0, 0, 0, 0, 0, 0, 0, 0, 0, 0, 0, 0, 0, 0, 0, 0, 0, 0, 0, 88, 87, 87, 87, 87, 87, 87, 87, 87, 87, 0, 0, 87, 87, 87, 87, 87, 87, 87, 87, 86, 86, 86, 86, 86, 86, 86, 86, 86, 0, 0, 86, 86, 86, 86, 86, 86, 86, 86, 85, 85, 85, 85, 85, 85, 85, 0, 0, 85, 85, 85, 85, 85, 85, 85, 0, 0, 0, 84, 83, 83, 83, 83, 83, 83, 83, 83, 83, 0, 0, 83, 83, 83, 83, 83, 83, 83, 83, 82, 82, 82, 82, 82, 82, 82, 82, 82, 0, 0, 82, 82, 82, 82, 82, 82, 82, 82, 81, 81, 81, 81, 81, 81, 81, 0, 0, 81, 81, 81, 81, 81, 81, 81, 0, 0, 0, 0, 0, 0, 80, 0, 79, 0, 79, 79, 79, 79, 79, 79, 79, 79, 79, 79, 79, 79, 79, 79, 79, 79, 79, 0, 0, 79, 79, 79, 79, 79, 0, 0, 0, 0, 0, 0, 0, 0, 0, 0, 0, 0, 0, 0, 0, 0, 0, 0, 0, 0, 0, 0, 0, 0, 0, 0, 78, 77, 77, 77, 77, 77, 77, 77, 77, 77, 0, 0, 77, 77, 77, 77, 77, 77, 77, 77, 76, 76, 76, 76, 76, 76, 76, 76, 76, 0, 0, 76, 76, 76, 76, 76, 76, 76, 76, 75, 75, 75, 75, 75, 75, 75, 0, 0, 75, 75, 75, 75, 75, 75, 75, 0, 0, 0, 74, 73, 73, 73, 73, 73, 73, 73, 73, 73, 0, 0, 73, 73, 73, 73, 73, 73, 73, 73, 72, 72, 72, 72, 72, 72, 72, 72, 72, 0, 0, 72, 72, 72, 72, 72, 72, 72, 72, 71, 71, 71, 71, 71, 71, 71, 0, 0, 71, 71, 71, 71, 71, 71, 71, 0, 0, 0, 0, 70, 0, 69, 0, 69, 69, 69, 69, 69, 69, 69, 69, 69, 69, 69, 69, 69, 69, 69, 69, 69, 0, 0, 69, 69, 69, 69, 69, 0, 0, 0, 0, 0, 0, 0, 0, 0, 0, 0, 0, 0, 0, 0, 0, 0, 0, 0, 0, 0, 0, 0, 0, 0, 0, 68, 67, 67, 67, 67, 67, 67, 67, 67, 67, 0, 0, 67, 67, 67, 67, 67, 67, 67, 67, 66, 66, 66, 66, 66, 66, 66, 66, 66, 0, 0, 66, 66, 66, 66, 66, 66, 66, 66, 65, 65, 65, 65, 65, 65, 65, 0, 0, 65, 65, 65, 65, 65, 65, 65, 0, 0, 0, 64, 63, 63, 63, 63, 63, 63, 63, 63, 63, 0, 0, 63, 63, 63, 63, 63, 63, 63, 63, 62, 62, 62, 62, 62, 62, 62, 62, 62, 0, 0, 62, 62, 62, 62, 62, 62, 62, 62, 61, 61, 61, 61, 61, 61, 61, 0, 0, 61, 61, 61, 61, 61, 61, 61, 0, 0, 0, 0, 60, 0, 59, 0, 59, 59, 59, 59, 59, 59, 59, 59, 59, 59, 59, 59, 59, 59, 59, 59, 59, 0, 0, 59, 59, 59, 59, 59, 0, 0, 0, 0, 0, 0, 0, 0, 0, 0, 0, 0, 0, 0, 0, 0, 0, 0, 0, 0, 0, 0, 0, 0, 0, 0, 58, 57, 57, 57, 57, 57, 57, 57, 57, 57, 0, 0, 57, 57, 57, 57, 57, 57, 57, 57, 56, 56, 56, 56, 56, 56, 56, 56, 56, 0, 0, 56, 56, 56, 56, 56, 56, 56, 56, 55, 55, 55, 55, 55, 55, 55, 0, 0, 55, 55, 55, 55, 55, 55, 55, 0, 0, 0, 54, 53, 53, 53, 53, 53, 53, 53, 53, 53, 0, 0, 53, 53, 53, 53, 53, 53, 53, 53, 52, 52, 52, 52, 52, 52, 52, 52, 52, 0, 0, 52, 52, 52, 52, 52, 52, 52, 52, 51, 51, 51, 51, 51, 51, 51, 0, 0, 51, 51, 51, 51, 51, 51, 51, 0, 0, 0, 0, 50, 0, 49, 0, 49, 49, 49, 49, 49, 49, 49, 49, 49, 49, 49, 49, 49, 49, 49, 49, 49, 0, 0, 49, 49, 49, 49, 49, 0, 0, 0, 0, 0, 0, 0, 0, 0, 0, 0, 0, 0, 0, 0, 0, 0, 0, 0, 0, 0, 0, 0, 0, 0, 0, 48, 47, 47, 47, 47, 47, 47, 47, 47, 47, 0, 0, 47, 47, 47, 47, 47, 47, 47, 47, 46, 46, 46, 46, 46, 46, 46, 46, 46, 0, 0, 46, 46, 46, 46, 46, 46, 46, 46, 45, 45, 45, 45, 45, 45, 45, 0, 0, 45, 45, 45, 45, 45, 45, 45, 0, 0, 0, 44, 43, 43, 43, 43, 43, 43, 43, 43, 43, 0, 0, 43, 43, 43, 43, 43, 43, 43, 43, 42, 42, 42, 42, 42, 42, 42, 42, 42, 0, 0, 42, 42, 42, 42, 42, 42, 42, 42, 41, 41, 41, 41, 41, 41, 41, 0, 0, 41, 41, 41, 41, 41, 41, 41, 0, 0, 0, 0, 40, 0, 39, 0, 39, 39, 39, 39, 39, 39, 39, 39, 39, 39, 39, 39, 39, 39, 39, 39, 39, 0, 0, 39, 39, 39, 39, 39, 0, 0, 0, 0, 0, 0, 0, 0, 0, 0, 0, 0, 0, 0, 0, 0, 0, 0, 0, 0, 0, 0, 0, 0, 0, 0, 38, 37, 37, 37, 37, 37, 37, 37, 37, 37, 0, 0, 37, 37, 37, 37, 37, 37, 37, 37, 36, 36, 36, 36, 36, 36, 36, 36, 36, 0, 0, 36, 36, 36, 36, 36, 36, 36, 36, 35, 35, 35, 35, 35, 35, 35, 0, 0, 35, 35, 35, 35, 35, 35, 35, 0, 0, 0, 34, 33, 33, 33, 33, 33, 33, 33, 33, 33, 0, 0, 33, 33, 33, 33, 33, 33, 33, 33, 32, 32, 32, 32, 32, 32, 32, 32, 32, 0, 0, 32, 32, 32, 32, 32, 32, 32, 32, 31, 31, 31, 31, 31, 31, 31, 0, 0, 31, 31, 31, 31, 31, 31, 31, 0, 0, 0, 0, 30, 0, 29, 0, 29, 29, 29, 29, 29, 29, 29, 29, 29, 29, 29, 29, 29, 29, 29, 29, 29, 0, 0, 29, 29, 29, 29, 29, 0, 0, 0, 0, 0, 0, 0, 0, 0, 0, 0, 0, 0, 0, 0, 0, 0, 0, 0, 0, 0, 0, 0, 0, 0, 0, 28, 27, 27, 27, 27, 27, 27, 27, 27, 27, 0, 0, 27, 27, 27, 27, 27, 27, 27, 27, 26, 26, 26, 26, 26, 26, 26, 26, 26, 0, 0, 26, 26, 26, 26, 26, 26, 26, 26, 25, 25, 25, 25, 25, 25, 25, 0, 0, 25, 25, 25, 25, 25, 25, 25, 0, 0, 0, 24, 23, 23, 23, 23, 23, 23, 23, 23, 23, 0, 0, 23, 23, 23, 23, 23, 23, 23, 23, 22, 22, 22, 22, 22, 22, 22, 22, 22, 0, 0, 22, 22, 22, 22, 22, 22, 22, 22, 21, 21, 21, 21, 21, 21, 21, 0, 0, 21, 21, 21, 21, 21, 21, 21, 0, 0, 0, 0, 20, 0, 19, 0, 19, 19, 19, 19, 19, 19, 19, 19, 19, 19, 19, 19, 19, 19, 19, 19, 19, 0, 0, 19, 19, 19, 19, 19, 0, 0, 0, 0, 0, 0, 0, 0, 0, 0, 0, 0, 0, 0, 0, 0, 0, 0, 0, 0, 0, 0, 0, 0, 0, 0, 18, 17, 17, 17, 17, 17, 17, 17, 17, 17, 0, 0, 17, 17, 17, 17, 17, 17, 17, 17, 16, 16, 16, 16, 16, 16, 16, 16, 16, 0, 0, 16, 16, 16, 16, 16, 16, 16, 16, 15, 15, 15, 15, 15, 15, 15, 0, 0, 15, 15, 15, 15, 15, 15, 15, 0, 0, 0, 14, 13, 13, 13, 13, 13, 13, 13, 13, 13, 0, 0, 13, 13, 13, 13, 13, 13, 13, 13, 12, 12, 12, 12, 12, 12, 12, 12, 12, 0, 0, 12, 12, 12, 12, 12, 12, 12, 12, 11, 11, 11, 11, 11, 11, 11, 0, 0, 11, 11, 11, 11, 11, 11, 11, 0, 0, 0, 0, 10, 0, 9, 0, 9, 9, 9, 9, 9, 9, 9, 9, 9, 9, 9, 9, 9, 9, 9, 9, 9, 0, 0, 9, 9, 9, 9, 9, 0, 0, 0, 0, 0, 0, 0, 0, 0, 0, 0, 0, 0, 0, 0, 0, 0, 0, 0, 0, 0, 0, 0, 0, 0, 0, 8, 7, 7, 7, 7, 7, 7, 7, 7, 7, 0, 0, 7, 7, 7, 7, 7, 7, 7, 7, 6, 6, 6, 6, 6, 6, 6, 6, 6, 0, 0, 6, 6, 6, 6, 6, 6, 6, 6, 5, 5, 5, 5, 5, 5, 5, 0, 0, 5, 5, 5, 5, 5, 5, 5, 0, 0, 0, 4, 3, 3, 3, 3, 3, 3, 3, 3, 3, 0, 0, 3, 3, 3, 3, 3, 3, 3, 3, 2, 2, 2, 2, 2, 2, 2, 2, 2, 0, 0, 2, 2, 2, 2, 2, 2, 2, 2, 1, 1, 1, 1, 1, 1, 1, 0, 0, 1, 1, 1, 1, 1, 1, 1, 0, 0, 0, 0, 0, 0]
/-! ### lanes of wide vectors -/
theorem lane_at (v V : Int) (L : Nat) (hv : v = 16 ∧ V = 65536 ∧ L = 8 ∨ v = 32 ∧ V = 4294967296 ∧ L = 4 ∨ v = 64 ∧ V = 18446744073709551616 ∧ L = 2) (z f : Nat → Int) (i : Nat) (hi : i < L) (q : Int) (hf : f i % V = q % V) :
    getI (ofK z v f L) v i = q % V ∧ thereB v i = true := by
  have ht : thereB v i = true := there_iff.2 ⟨by omega, by rcases hv with ⟨rfl, _, rfl⟩ | ⟨rfl, _, rfl⟩ | ⟨rfl, _, rfl⟩ <;> (unfold lanesI; simp; omega)⟩
  refine ⟨?_, ht⟩
  rw [get_ofK z v f i ht L, if_pos hi, ← hf]
  rcases hv with ⟨rfl, rfl, _⟩ | ⟨rfl, rfl, _⟩ | ⟨rfl, rfl, _⟩ <;> rfl
theorem get_at (v V : Int) (L : Nat) (hv : v = 16 ∧ V = 65536 ∧ L = 8 ∨ v = 32 ∧ V = 4294967296 ∧ L = 4 ∨ v = 64 ∧ V = 18446744073709551616 ∧ L = 2) (z f : Nat → Int) (i : Nat) (hi : i < L) (q : Int) (hf : f i % V = q % V) (h0 : 0 ≤ q) (h1 : q < V) :
    getI (ofK z v f L) v i = q := by
  rw [(lane_at v V L hv z f i hi q hf).1]; exact Int.emod_eq_of_lt h0 h1
theorem sgn_at (v V : Int) (L : Nat) (hv : v = 16 ∧ V = 65536 ∧ L = 8 ∨ v = 32 ∧ V = 4294967296 ∧ L = 4 ∨ v = 64 ∧ V = 18446744073709551616 ∧ L = 2) (z f : Nat → Int) (i : Nat) (hi : i < L) (q : Int) (hf : f i % V = q % V) (h0 : -V ≤ 2 * q) (h1 : 2 * q < V) :
    sgnI (ofK z v f L) v i = q := by
  obtain ⟨hg, ht⟩ := lane_at v V L hv z f i hi q hf
  unfold sgnI
  rw [if_pos ht, hg]
  unfold sg
  rcases hv with ⟨rfl, rfl, _⟩ | ⟨rfl, rfl, _⟩ | ⟨rfl, rfl, _⟩
  · rw [show ((2 : Int) ^ (((16 : Int)).toNat - 1)) = 32768 by decide, show ((2 : Int) ^ ((16 : Int)).toNat) = 65536 by decide]
    split <;> omega
  · rw [show ((2 : Int) ^ (((32 : Int)).toNat - 1)) = 2147483648 by decide, show ((2 : Int) ^ ((32 : Int)).toNat) = 4294967296 by decide]
    split <;> omega
  · rw [show ((2 : Int) ^ (((64 : Int)).toNat - 1)) = 9223372036854775808 by decide, show ((2 : Int) ^ ((64 : Int)).toNat) = 18446744073709551616 by decide]
    split <;> omega
theorem get_bd {b : Nat → Int} (hb : Byt b) (w W : Int) (hw : w = 8 ∧ W = 256 ∨ w = 16 ∧ W = 65536 ∨ w = 32 ∧ W = 4294967296) (m : Int) : 0 ≤ getI b w m ∧ getI b w m < W := by
  have := getI_bd hb w m
  rcases hw with ⟨rfl, rfl⟩ | ⟨rfl, rfl⟩ | ⟨rfl, rfl⟩ <;> exact this
theorem sgn_bd {b : Nat → Int} (hb : Byt b) (w W : Int) (hw : w = 8 ∧ W = 256 ∨ w = 16 ∧ W = 65536 ∨ w = 32 ∧ W = 4294967296) (m : Int) : -W ≤ 2 * sgnI b w m ∧ 2 * sgnI b w m < W := by
  have hg := get_bd hb w W hw m
  unfold sgnI
  split
  · unfold sg
    rcases hw with ⟨rfl, rfl⟩ | ⟨rfl, rfl⟩ | ⟨rfl, rfl⟩
    · rw [show ((2 : Int) ^ (((8 : Int)).toNat - 1)) = 128 by decide, show ((2 : Int) ^ ((8 : Int)).toNat) = 256 by decide]
      split <;> omega
    · rw [show ((2 : Int) ^ (((16 : Int)).toNat - 1)) = 32768 by decide, show ((2 : Int) ^ ((16 : Int)).toNat) = 65536 by decide]
      split <;> omega
    · rw [show ((2 : Int) ^ (((32 : Int)).toNat - 1)) = 2147483648 by decide, show ((2 : Int) ^ ((32 : Int)).toNat) = 4294967296 by decide]
      split <;> omega
  · rcases hw with ⟨rfl, rfl⟩ | ⟨rfl, rfl⟩ | ⟨rfl, rfl⟩ <;> decide
theorem mul_in (H s t : Int) (h1 : -H ≤ s) (h2 : s ≤ H) (h3 : -H ≤ t) (h4 : t ≤ H) : -(H * H) ≤ s * t ∧ s * t ≤ H * H := by
  have e1 : 0 ≤ (H - s) * (H - t) := Int.mul_nonneg (by omega) (by omega)
  have e2 : 0 ≤ (H + s) * (H + t) := Int.mul_nonneg (by omega) (by omega)
  have e3 : 0 ≤ (H - s) * (H + t) := Int.mul_nonneg (by omega) (by omega)
  have e4 : 0 ≤ (H + s) * (H - t) := Int.mul_nonneg (by omega) (by omega)
  simp only [Int.sub_mul, Int.add_mul, Int.mul_sub, Int.mul_add, Int.mul_comm s H] at e1 e2 e3 e4
  constructor <;> omega
theorem mul_up (W s t : Int) (h1 : 0 ≤ s) (h2 : s < W) (h3 : 0 ≤ t) (h4 : t < W) : 0 ≤ s * t ∧ s * t ≤ (W - 1) * (W - 1) :=
  ⟨Int.mul_nonneg h1 h3, Int.mul_le_mul (by omega) (by omega) h3 (by omega)⟩
theorem mod_prod (V s t : Int) (hV : V ∣ 18446744073709551616) : IntKind.u64.wrap ((IntKind.u64.wrap s % V) * (IntKind.u64.wrap t % V)) % V = s * t % V := by
  simp only [IntKind.wrap_u64, Int.emod_emod_of_dvd _ hV]
  exact (Int.mul_emod s t V).symm
theorem un_64903 (a : Nat → Int) : unV 64903 a = ofK (fun _ => 0) 16 (fun i => IntKind.u64.wrap (sgnI a 8 (i : Int))) 8 := by kernel_rfl
theorem un_64905 (a : Nat → Int) : unV 64905 a = ofK (fun _ => 0) 16 (fun i => getI a 8 (i : Int)) 8 := by kernel_rfl
theorem bi_64924 (a b : Nat → Int) : biV 64924 a b = ofK (unV 64903 a) 16 (fun i => IntKind.u64.wrap (getI (unV 64903 a) 16 i * getI (unV 64903 b) 16 i)) 8 := by kernel_rfl
theorem bi_64926 (a b : Nat → Int) : biV 64926 a b = ofK (unV 64905 a) 16 (fun i => IntKind.u64.wrap (getI (unV 64905 a) 16 i * getI (unV 64905 b) 16 i)) 8 := by kernel_rfl
theorem un_64904 (a : Nat → Int) : unV 64904 a = ofK (fun _ => 0) 16 (fun i => IntKind.u64.wrap (sgnI a 8 (8 + (i : Int)))) 8 := by kernel_rfl
theorem un_64906 (a : Nat → Int) : unV 64906 a = ofK (fun _ => 0) 16 (fun i => getI a 8 (8 + (i : Int))) 8 := by kernel_rfl
theorem bi_64925 (a b : Nat → Int) : biV 64925 a b = ofK (unV 64904 a) 16 (fun i => IntKind.u64.wrap (getI (unV 64904 a) 16 i * getI (unV 64904 b) 16 i)) 8 := by kernel_rfl
theorem bi_64927 (a b : Nat → Int) : biV 64927 a b = ofK (unV 64906 a) 16 (fun i => IntKind.u64.wrap (getI (unV 64906 a) 16 i * getI (unV 64906 b) 16 i)) 8 := by kernel_rfl
theorem un_64935 (a : Nat → Int) : unV 64935 a = ofK (fun _ => 0) 32 (fun i => IntKind.u64.wrap (sgnI a 16 (i : Int))) 4 := by kernel_rfl
theorem un_64937 (a : Nat → Int) : unV 64937 a = ofK (fun _ => 0) 32 (fun i => getI a 16 (i : Int)) 4 := by kernel_rfl
theorem bi_64956 (a b : Nat → Int) : biV 64956 a b = ofK (unV 64935 a) 32 (fun i => IntKind.u64.wrap (getI (unV 64935 a) 32 i * getI (unV 64935 b) 32 i)) 4 := by kernel_rfl
theorem bi_64958 (a b : Nat → Int) : biV 64958 a b = ofK (unV 64937 a) 32 (fun i => IntKind.u64.wrap (getI (unV 64937 a) 32 i * getI (unV 64937 b) 32 i)) 4 := by kernel_rfl
theorem un_64936 (a : Nat → Int) : unV 64936 a = ofK (fun _ => 0) 32 (fun i => IntKind.u64.wrap (sgnI a 16 (4 + (i : Int)))) 4 := by kernel_rfl
theorem un_64938 (a : Nat → Int) : unV 64938 a = ofK (fun _ => 0) 32 (fun i => getI a 16 (4 + (i : Int))) 4 := by kernel_rfl
theorem bi_64957 (a b : Nat → Int) : biV 64957 a b = ofK (unV 64936 a) 32 (fun i => IntKind.u64.wrap (getI (unV 64936 a) 32 i * getI (unV 64936 b) 32 i)) 4 := by kernel_rfl
theorem bi_64959 (a b : Nat → Int) : biV 64959 a b = ofK (unV 64938 a) 32 (fun i => IntKind.u64.wrap (getI (unV 64938 a) 32 i * getI (unV 64938 b) 32 i)) 4 := by kernel_rfl
theorem un_64967 (a : Nat → Int) : unV 64967 a = ofK (fun _ => 0) 64 (fun i => IntKind.u64.wrap (sgnI a 32 (i : Int))) 2 := by kernel_rfl
theorem un_64969 (a : Nat → Int) : unV 64969 a = ofK (fun _ => 0) 64 (fun i => getI a 32 (i : Int)) 2 := by kernel_rfl
theorem bi_64988 (a b : Nat → Int) : biV 64988 a b = ofK (unV 64967 a) 64 (fun i => IntKind.u64.wrap (getI (unV 64967 a) 64 i * getI (unV 64967 b) 64 i)) 2 := by kernel_rfl
theorem bi_64990 (a b : Nat → Int) : biV 64990 a b = ofK (unV 64969 a) 64 (fun i => IntKind.u64.wrap (getI (unV 64969 a) 64 i * getI (unV 64969 b) 64 i)) 2 := by kernel_rfl
theorem un_64968 (a : Nat → Int) : unV 64968 a = ofK (fun _ => 0) 64 (fun i => IntKind.u64.wrap (sgnI a 32 (2 + (i : Int)))) 2 := by kernel_rfl
theorem un_64970 (a : Nat → Int) : unV 64970 a = ofK (fun _ => 0) 64 (fun i => getI a 32 (2 + (i : Int))) 2 := by kernel_rfl
theorem bi_64989 (a b : Nat → Int) : biV 64989 a b = ofK (unV 64968 a) 64 (fun i => IntKind.u64.wrap (getI (unV 64968 a) 64 i * getI (unV 64968 b) 64 i)) 2 := by kernel_rfl
theorem bi_64991 (a b : Nat → Int) : biV 64991 a b = ofK (unV 64970 a) 64 (fun i => IntKind.u64.wrap (getI (unV 64970 a) 64 i * getI (unV 64970 b) 64 i)) 2 := by kernel_rfl
theorem un_64892 (a : Nat → Int) : unV 64892 a = ofK (fun _ => 0) 16 (fun i => IntKind.u64.wrap (IntKind.u64.wrap (sgnI a 8 (2 * (i : Int))) + IntKind.u64.wrap (sgnI a 8 (2 * (i : Int) + 1)))) 8 := by kernel_rfl
theorem un_64893 (a : Nat → Int) : unV 64893 a = ofK (fun _ => 0) 16 (fun i => IntKind.u64.wrap (getI a 8 (2 * (i : Int)) + getI a 8 (2 * (i : Int) + 1))) 8 := by kernel_rfl
theorem un_64894 (a : Nat → Int) : unV 64894 a = ofK (fun _ => 0) 32 (fun i => IntKind.u64.wrap (IntKind.u64.wrap (sgnI a 16 (2 * (i : Int))) + IntKind.u64.wrap (sgnI a 16 (2 * (i : Int) + 1)))) 4 := by kernel_rfl
theorem un_64895 (a : Nat → Int) : unV 64895 a = ofK (fun _ => 0) 32 (fun i => IntKind.u64.wrap (getI a 16 (2 * (i : Int)) + getI a 16 (2 * (i : Int) + 1))) 4 := by kernel_rfl
theorem bi_64954 (a b : Nat → Int) : biV 64954 a b = prV a b := by kernel_rfl
theorem wrap_mod (V q : Int) (hV : V ∣ 18446744073709551616) : IntKind.u64.wrap q % V = q % V := by rw [IntKind.wrap_u64, Int.emod_emod_of_dvd _ hV]
theorem wrap_add (V p q : Int) (hV : V ∣ 18446744073709551616) : IntKind.u64.wrap (IntKind.u64.wrap p + IntKind.u64.wrap q) % V = (p + q) % V := by
  rw [wrap_mod V _ hV, Int.add_emod, wrap_mod V p hV, wrap_mod V q hV, ← Int.add_emod]
theorem ne_false {x y : Int} (h : x = y) : (x != y) = false := by simp [h]
theorem exL_0_0 (a b : Nat → Int) (ha : Byt a) (hb : Byt b) (i : Nat) (hi : i < 8) : ∀ p ∈ exL a b 0 8 16 (i : Int) (i : Int) 0, p.1 = p.2 := by
  have hV : (65536 : Int) ∣ 18446744073709551616 := by decide
  have hs := sgn_bd ha 8 256 (.inl ⟨rfl, rfl⟩) (i : Int)
  have ht := sgn_bd hb 8 256 (.inl ⟨rfl, rfl⟩) (i : Int)
  have hx := get_bd ha 8 256 (.inl ⟨rfl, rfl⟩) (i : Int)
  have hy := get_bd hb 8 256 (.inl ⟨rfl, rfl⟩) (i : Int)
  have hm := mul_in 128 (sgnI a 8 (i : Int)) (sgnI b 8 (i : Int)) (by omega) (by omega) (by omega) (by omega)
  have hu := mul_up 256 (getI a 8 (i : Int)) (getI b 8 (i : Int)) hx.1 hx.2 hy.1 hy.2
  have S : ∀ c, getI (unV 64903 c) 16 i = IntKind.u64.wrap (sgnI c 8 (i : Int)) % 65536 := fun c => by rw [un_64903]; exact (lane_at 16 65536 8 (.inl ⟨rfl, rfl, rfl⟩) _ _ i hi _ rfl).1
  have U : ∀ c, Byt c → getI (unV 64905 c) 16 i = getI c 8 (i : Int) := fun c hc => by rw [un_64905]; exact get_at 16 65536 8 (.inl ⟨rfl, rfl, rfl⟩) _ _ i hi _ rfl (get_bd hc 8 256 (.inl ⟨rfl, rfl⟩) _).1 (by have := (get_bd hc 8 256 (.inl ⟨rfl, rfl⟩) (i : Int)).2; omega)
  intro p hp
  unfold exL at hp
  simp only [List.mem_cons, List.not_mem_nil, or_false] at hp
  rcases hp with rfl | rfl | rfl | rfl
  · refine ne_false ?_
    show sgnI (unV 64903 a) 16 i = _
    rw [un_64903]
    exact sgn_at 16 65536 8 (.inl ⟨rfl, rfl, rfl⟩) _ _ i hi _ (wrap_mod _ _ hV) (by omega) (by omega)
  · exact ne_false (U a ha)
  · refine ne_false ?_
    show sgnI (biV 64924 a b) 16 i = _
    rw [IntWalk.i64_in _ (by omega), bi_64924]
    refine sgn_at 16 65536 8 (.inl ⟨rfl, rfl, rfl⟩) _ _ i hi _ ?_ (by omega) (by omega)
    show IntKind.u64.wrap (getI (unV 64903 a) 16 i * getI (unV 64903 b) 16 i) % 65536 = _
    rw [S, S]
    exact mod_prod 65536 _ _ hV
  · refine ne_false ?_
    show getI (biV 64926 a b) 16 i = _
    rw [IntWalk.u64_in _ (by omega), bi_64926]
    refine get_at 16 65536 8 (.inl ⟨rfl, rfl, rfl⟩) _ _ i hi _ ?_ hu.1 (by omega)
    show IntKind.u64.wrap (getI (unV 64905 a) 16 i * getI (unV 64905 b) 16 i) % 65536 = _
    rw [U a ha, U b hb]
    exact wrap_mod _ _ hV
theorem exL_0_1 (a b : Nat → Int) (ha : Byt a) (hb : Byt b) (i : Nat) (hi : i < 8) : ∀ p ∈ exL a b 0 8 16 (i : Int) (8 + (i : Int)) 1, p.1 = p.2 := by
  have hV : (65536 : Int) ∣ 18446744073709551616 := by decide
  have hs := sgn_bd ha 8 256 (.inl ⟨rfl, rfl⟩) (8 + (i : Int))
  have ht := sgn_bd hb 8 256 (.inl ⟨rfl, rfl⟩) (8 + (i : Int))
  have hx := get_bd ha 8 256 (.inl ⟨rfl, rfl⟩) (8 + (i : Int))
  have hy := get_bd hb 8 256 (.inl ⟨rfl, rfl⟩) (8 + (i : Int))
  have hm := mul_in 128 (sgnI a 8 (8 + (i : Int))) (sgnI b 8 (8 + (i : Int))) (by omega) (by omega) (by omega) (by omega)
  have hu := mul_up 256 (getI a 8 (8 + (i : Int))) (getI b 8 (8 + (i : Int))) hx.1 hx.2 hy.1 hy.2
  have S : ∀ c, getI (unV 64904 c) 16 i = IntKind.u64.wrap (sgnI c 8 (8 + (i : Int))) % 65536 := fun c => by rw [un_64904]; exact (lane_at 16 65536 8 (.inl ⟨rfl, rfl, rfl⟩) _ _ i hi _ rfl).1
  have U : ∀ c, Byt c → getI (unV 64906 c) 16 i = getI c 8 (8 + (i : Int)) := fun c hc => by rw [un_64906]; exact get_at 16 65536 8 (.inl ⟨rfl, rfl, rfl⟩) _ _ i hi _ rfl (get_bd hc 8 256 (.inl ⟨rfl, rfl⟩) _).1 (by have := (get_bd hc 8 256 (.inl ⟨rfl, rfl⟩) (8 + (i : Int))).2; omega)
  intro p hp
  unfold exL at hp
  simp only [List.mem_cons, List.not_mem_nil, or_false] at hp
  rcases hp with rfl | rfl | rfl | rfl
  · refine ne_false ?_
    show sgnI (unV 64904 a) 16 i = _
    rw [un_64904]
    exact sgn_at 16 65536 8 (.inl ⟨rfl, rfl, rfl⟩) _ _ i hi _ (wrap_mod _ _ hV) (by omega) (by omega)
  · exact ne_false (U a ha)
  · refine ne_false ?_
    show sgnI (biV 64925 a b) 16 i = _
    rw [IntWalk.i64_in _ (by omega), bi_64925]
    refine sgn_at 16 65536 8 (.inl ⟨rfl, rfl, rfl⟩) _ _ i hi _ ?_ (by omega) (by omega)
    show IntKind.u64.wrap (getI (unV 64904 a) 16 i * getI (unV 64904 b) 16 i) % 65536 = _
    rw [S, S]
    exact mod_prod 65536 _ _ hV
  · refine ne_false ?_
    show getI (biV 64927 a b) 16 i = _
    rw [IntWalk.u64_in _ (by omega), bi_64927]
    refine get_at 16 65536 8 (.inl ⟨rfl, rfl, rfl⟩) _ _ i hi _ ?_ hu.1 (by omega)
    show IntKind.u64.wrap (getI (unV 64906 a) 16 i * getI (unV 64906 b) 16 i) % 65536 = _
    rw [U a ha, U b hb]
    exact wrap_mod _ _ hV
theorem exL_32_0 (a b : Nat → Int) (ha : Byt a) (hb : Byt b) (i : Nat) (hi : i < 4) : ∀ p ∈ exL a b 32 16 32 (i : Int) (i : Int) 0, p.1 = p.2 := by
  have hV : (4294967296 : Int) ∣ 18446744073709551616 := by decide
  have hs := sgn_bd ha 16 65536 (.inr (.inl ⟨rfl, rfl⟩)) (i : Int)
  have ht := sgn_bd hb 16 65536 (.inr (.inl ⟨rfl, rfl⟩)) (i : Int)
  have hx := get_bd ha 16 65536 (.inr (.inl ⟨rfl, rfl⟩)) (i : Int)
  have hy := get_bd hb 16 65536 (.inr (.inl ⟨rfl, rfl⟩)) (i : Int)
  have hm := mul_in 32768 (sgnI a 16 (i : Int)) (sgnI b 16 (i : Int)) (by omega) (by omega) (by omega) (by omega)
  have hu := mul_up 65536 (getI a 16 (i : Int)) (getI b 16 (i : Int)) hx.1 hx.2 hy.1 hy.2
  have S : ∀ c, getI (unV 64935 c) 32 i = IntKind.u64.wrap (sgnI c 16 (i : Int)) % 4294967296 := fun c => by rw [un_64935]; exact (lane_at 32 4294967296 4 (.inr (.inl ⟨rfl, rfl, rfl⟩)) _ _ i hi _ rfl).1
  have U : ∀ c, Byt c → getI (unV 64937 c) 32 i = getI c 16 (i : Int) := fun c hc => by rw [un_64937]; exact get_at 32 4294967296 4 (.inr (.inl ⟨rfl, rfl, rfl⟩)) _ _ i hi _ rfl (get_bd hc 16 65536 (.inr (.inl ⟨rfl, rfl⟩)) _).1 (by have := (get_bd hc 16 65536 (.inr (.inl ⟨rfl, rfl⟩)) (i : Int)).2; omega)
  intro p hp
  unfold exL at hp
  simp only [List.mem_cons, List.not_mem_nil, or_false] at hp
  rcases hp with rfl | rfl | rfl | rfl
  · refine ne_false ?_
    show sgnI (unV 64935 a) 32 i = _
    rw [un_64935]
    exact sgn_at 32 4294967296 4 (.inr (.inl ⟨rfl, rfl, rfl⟩)) _ _ i hi _ (wrap_mod _ _ hV) (by omega) (by omega)
  · exact ne_false (U a ha)
  · refine ne_false ?_
    show sgnI (biV 64956 a b) 32 i = _
    rw [IntWalk.i64_in _ (by omega), bi_64956]
    refine sgn_at 32 4294967296 4 (.inr (.inl ⟨rfl, rfl, rfl⟩)) _ _ i hi _ ?_ (by omega) (by omega)
    show IntKind.u64.wrap (getI (unV 64935 a) 32 i * getI (unV 64935 b) 32 i) % 4294967296 = _
    rw [S, S]
    exact mod_prod 4294967296 _ _ hV
  · refine ne_false ?_
    show getI (biV 64958 a b) 32 i = _
    rw [IntWalk.u64_in _ (by omega), bi_64958]
    refine get_at 32 4294967296 4 (.inr (.inl ⟨rfl, rfl, rfl⟩)) _ _ i hi _ ?_ hu.1 (by omega)
    show IntKind.u64.wrap (getI (unV 64937 a) 32 i * getI (unV 64937 b) 32 i) % 4294967296 = _
    rw [U a ha, U b hb]
    exact wrap_mod _ _ hV
theorem exL_32_1 (a b : Nat → Int) (ha : Byt a) (hb : Byt b) (i : Nat) (hi : i < 4) : ∀ p ∈ exL a b 32 16 32 (i : Int) (4 + (i : Int)) 1, p.1 = p.2 := by
  have hV : (4294967296 : Int) ∣ 18446744073709551616 := by decide
  have hs := sgn_bd ha 16 65536 (.inr (.inl ⟨rfl, rfl⟩)) (4 + (i : Int))
  have ht := sgn_bd hb 16 65536 (.inr (.inl ⟨rfl, rfl⟩)) (4 + (i : Int))
  have hx := get_bd ha 16 65536 (.inr (.inl ⟨rfl, rfl⟩)) (4 + (i : Int))
  have hy := get_bd hb 16 65536 (.inr (.inl ⟨rfl, rfl⟩)) (4 + (i : Int))
  have hm := mul_in 32768 (sgnI a 16 (4 + (i : Int))) (sgnI b 16 (4 + (i : Int))) (by omega) (by omega) (by omega) (by omega)
  have hu := mul_up 65536 (getI a 16 (4 + (i : Int))) (getI b 16 (4 + (i : Int))) hx.1 hx.2 hy.1 hy.2
  have S : ∀ c, getI (unV 64936 c) 32 i = IntKind.u64.wrap (sgnI c 16 (4 + (i : Int))) % 4294967296 := fun c => by rw [un_64936]; exact (lane_at 32 4294967296 4 (.inr (.inl ⟨rfl, rfl, rfl⟩)) _ _ i hi _ rfl).1
  have U : ∀ c, Byt c → getI (unV 64938 c) 32 i = getI c 16 (4 + (i : Int)) := fun c hc => by rw [un_64938]; exact get_at 32 4294967296 4 (.inr (.inl ⟨rfl, rfl, rfl⟩)) _ _ i hi _ rfl (get_bd hc 16 65536 (.inr (.inl ⟨rfl, rfl⟩)) _).1 (by have := (get_bd hc 16 65536 (.inr (.inl ⟨rfl, rfl⟩)) (4 + (i : Int))).2; omega)
  intro p hp
  unfold exL at hp
  simp only [List.mem_cons, List.not_mem_nil, or_false] at hp
  rcases hp with rfl | rfl | rfl | rfl
  · refine ne_false ?_
    show sgnI (unV 64936 a) 32 i = _
    rw [un_64936]
    exact sgn_at 32 4294967296 4 (.inr (.inl ⟨rfl, rfl, rfl⟩)) _ _ i hi _ (wrap_mod _ _ hV) (by omega) (by omega)
  · exact ne_false (U a ha)
  · refine ne_false ?_
    show sgnI (biV 64957 a b) 32 i = _
    rw [IntWalk.i64_in _ (by omega), bi_64957]
    refine sgn_at 32 4294967296 4 (.inr (.inl ⟨rfl, rfl, rfl⟩)) _ _ i hi _ ?_ (by omega) (by omega)
    show IntKind.u64.wrap (getI (unV 64936 a) 32 i * getI (unV 64936 b) 32 i) % 4294967296 = _
    rw [S, S]
    exact mod_prod 4294967296 _ _ hV
  · refine ne_false ?_
    show getI (biV 64959 a b) 32 i = _
    rw [IntWalk.u64_in _ (by omega), bi_64959]
    refine get_at 32 4294967296 4 (.inr (.inl ⟨rfl, rfl, rfl⟩)) _ _ i hi _ ?_ hu.1 (by omega)
    show IntKind.u64.wrap (getI (unV 64938 a) 32 i * getI (unV 64938 b) 32 i) % 4294967296 = _
    rw [U a ha, U b hb]
    exact wrap_mod _ _ hV
theorem exL_64_0 (a b : Nat → Int) (ha : Byt a) (hb : Byt b) (i : Nat) (hi : i < 2) : ∀ p ∈ exL a b 64 32 64 (i : Int) (i : Int) 0, p.1 = p.2 := by
  have hV : (18446744073709551616 : Int) ∣ 18446744073709551616 := by decide
  have hs := sgn_bd ha 32 4294967296 (.inr (.inr ⟨rfl, rfl⟩)) (i : Int)
  have ht := sgn_bd hb 32 4294967296 (.inr (.inr ⟨rfl, rfl⟩)) (i : Int)
  have hx := get_bd ha 32 4294967296 (.inr (.inr ⟨rfl, rfl⟩)) (i : Int)
  have hy := get_bd hb 32 4294967296 (.inr (.inr ⟨rfl, rfl⟩)) (i : Int)
  have hm := mul_in 2147483648 (sgnI a 32 (i : Int)) (sgnI b 32 (i : Int)) (by omega) (by omega) (by omega) (by omega)
  have hu := mul_up 4294967296 (getI a 32 (i : Int)) (getI b 32 (i : Int)) hx.1 hx.2 hy.1 hy.2
  have S : ∀ c, getI (unV 64967 c) 64 i = IntKind.u64.wrap (sgnI c 32 (i : Int)) % 18446744073709551616 := fun c => by rw [un_64967]; exact (lane_at 64 18446744073709551616 2 (.inr (.inr ⟨rfl, rfl, rfl⟩)) _ _ i hi _ rfl).1
  have U : ∀ c, Byt c → getI (unV 64969 c) 64 i = getI c 32 (i : Int) := fun c hc => by rw [un_64969]; exact get_at 64 18446744073709551616 2 (.inr (.inr ⟨rfl, rfl, rfl⟩)) _ _ i hi _ rfl (get_bd hc 32 4294967296 (.inr (.inr ⟨rfl, rfl⟩)) _).1 (by have := (get_bd hc 32 4294967296 (.inr (.inr ⟨rfl, rfl⟩)) (i : Int)).2; omega)
  intro p hp
  unfold exL at hp
  simp only [List.mem_cons, List.not_mem_nil, or_false] at hp
  rcases hp with rfl | rfl | rfl | rfl
  · refine ne_false ?_
    show sgnI (unV 64967 a) 64 i = _
    rw [un_64967]
    exact sgn_at 64 18446744073709551616 2 (.inr (.inr ⟨rfl, rfl, rfl⟩)) _ _ i hi _ (wrap_mod _ _ hV) (by omega) (by omega)
  · exact ne_false (U a ha)
  · refine ne_false ?_
    show sgnI (biV 64988 a b) 64 i = _
    rw [IntWalk.i64_in _ (by omega), bi_64988]
    refine sgn_at 64 18446744073709551616 2 (.inr (.inr ⟨rfl, rfl, rfl⟩)) _ _ i hi _ ?_ (by omega) (by omega)
    show IntKind.u64.wrap (getI (unV 64967 a) 64 i * getI (unV 64967 b) 64 i) % 18446744073709551616 = _
    rw [S, S]
    exact mod_prod 18446744073709551616 _ _ hV
  · refine ne_false ?_
    show getI (biV 64990 a b) 64 i = _
    rw [IntWalk.u64_in _ (by omega), bi_64990]
    refine get_at 64 18446744073709551616 2 (.inr (.inr ⟨rfl, rfl, rfl⟩)) _ _ i hi _ ?_ hu.1 (by omega)
    show IntKind.u64.wrap (getI (unV 64969 a) 64 i * getI (unV 64969 b) 64 i) % 18446744073709551616 = _
    rw [U a ha, U b hb]
    exact wrap_mod _ _ hV
theorem exL_64_1 (a b : Nat → Int) (ha : Byt a) (hb : Byt b) (i : Nat) (hi : i < 2) : ∀ p ∈ exL a b 64 32 64 (i : Int) (2 + (i : Int)) 1, p.1 = p.2 := by
  have hV : (18446744073709551616 : Int) ∣ 18446744073709551616 := by decide
  have hs := sgn_bd ha 32 4294967296 (.inr (.inr ⟨rfl, rfl⟩)) (2 + (i : Int))
  have ht := sgn_bd hb 32 4294967296 (.inr (.inr ⟨rfl, rfl⟩)) (2 + (i : Int))
  have hx := get_bd ha 32 4294967296 (.inr (.inr ⟨rfl, rfl⟩)) (2 + (i : Int))
  have hy := get_bd hb 32 4294967296 (.inr (.inr ⟨rfl, rfl⟩)) (2 + (i : Int))
  have hm := mul_in 2147483648 (sgnI a 32 (2 + (i : Int))) (sgnI b 32 (2 + (i : Int))) (by omega) (by omega) (by omega) (by omega)
  have hu := mul_up 4294967296 (getI a 32 (2 + (i : Int))) (getI b 32 (2 + (i : Int))) hx.1 hx.2 hy.1 hy.2
  have S : ∀ c, getI (unV 64968 c) 64 i = IntKind.u64.wrap (sgnI c 32 (2 + (i : Int))) % 18446744073709551616 := fun c => by rw [un_64968]; exact (lane_at 64 18446744073709551616 2 (.inr (.inr ⟨rfl, rfl, rfl⟩)) _ _ i hi _ rfl).1
  have U : ∀ c, Byt c → getI (unV 64970 c) 64 i = getI c 32 (2 + (i : Int)) := fun c hc => by rw [un_64970]; exact get_at 64 18446744073709551616 2 (.inr (.inr ⟨rfl, rfl, rfl⟩)) _ _ i hi _ rfl (get_bd hc 32 4294967296 (.inr (.inr ⟨rfl, rfl⟩)) _).1 (by have := (get_bd hc 32 4294967296 (.inr (.inr ⟨rfl, rfl⟩)) (2 + (i : Int))).2; omega)
  intro p hp
  unfold exL at hp
  simp only [List.mem_cons, List.not_mem_nil, or_false] at hp
  rcases hp with rfl | rfl | rfl | rfl
  · refine ne_false ?_
    show sgnI (unV 64968 a) 64 i = _
    rw [un_64968]
    exact sgn_at 64 18446744073709551616 2 (.inr (.inr ⟨rfl, rfl, rfl⟩)) _ _ i hi _ (wrap_mod _ _ hV) (by omega) (by omega)
  · exact ne_false (U a ha)
  · refine ne_false ?_
    show sgnI (biV 64989 a b) 64 i = _
    rw [IntWalk.i64_in _ (by omega), bi_64989]
    refine sgn_at 64 18446744073709551616 2 (.inr (.inr ⟨rfl, rfl, rfl⟩)) _ _ i hi _ ?_ (by omega) (by omega)
    show IntKind.u64.wrap (getI (unV 64968 a) 64 i * getI (unV 64968 b) 64 i) % 18446744073709551616 = _
    rw [S, S]
    exact mod_prod 18446744073709551616 _ _ hV
  · refine ne_false ?_
    show getI (biV 64991 a b) 64 i = _
    rw [IntWalk.u64_in _ (by omega), bi_64991]
    refine get_at 64 18446744073709551616 2 (.inr (.inr ⟨rfl, rfl, rfl⟩)) _ _ i hi _ ?_ hu.1 (by omega)
    show IntKind.u64.wrap (getI (unV 64970 a) 64 i * getI (unV 64970 b) 64 i) % 18446744073709551616 = _
    rw [U a ha, U b hb]
    exact wrap_mod _ _ hV
theorem exP_0 (a : Nat → Int) (ha : Byt a) (i : Nat) (hi : i < 8) : ∀ p ∈ exP a 0 8 16 (i : Int), p.1 = p.2 := by
  have hV : (65536 : Int) ∣ 18446744073709551616 := by decide
  have hs := sgn_bd ha 8 256 (.inl ⟨rfl, rfl⟩) (2 * (i : Int))
  have ht := sgn_bd ha 8 256 (.inl ⟨rfl, rfl⟩) (2 * (i : Int) + 1)
  have hx := get_bd ha 8 256 (.inl ⟨rfl, rfl⟩) (2 * (i : Int))
  have hy := get_bd ha 8 256 (.inl ⟨rfl, rfl⟩) (2 * (i : Int) + 1)
  intro p hp
  unfold exP at hp
  simp only [List.mem_cons, List.not_mem_nil, or_false] at hp
  rcases hp with rfl | rfl
  · refine ne_false ?_
    show sgnI (unV 64892 a) 16 i = _
    rw [IntWalk.i64_in _ (by omega), un_64892]
    exact sgn_at 16 65536 8 (.inl ⟨rfl, rfl, rfl⟩) _ _ i hi _ (wrap_add _ _ _ hV) (by omega) (by omega)
  · refine ne_false ?_
    show getI (unV 64893 a) 16 i = _
    rw [IntWalk.u64_in _ (by omega), un_64893]
    exact get_at 16 65536 8 (.inl ⟨rfl, rfl, rfl⟩) _ _ i hi _ (wrap_mod _ _ hV) (by omega) (by omega)
theorem exP_2 (a : Nat → Int) (ha : Byt a) (i : Nat) (hi : i < 4) : ∀ p ∈ exP a 2 16 32 (i : Int), p.1 = p.2 := by
  have hV : (4294967296 : Int) ∣ 18446744073709551616 := by decide
  have hs := sgn_bd ha 16 65536 (.inr (.inl ⟨rfl, rfl⟩)) (2 * (i : Int))
  have ht := sgn_bd ha 16 65536 (.inr (.inl ⟨rfl, rfl⟩)) (2 * (i : Int) + 1)
  have hx := get_bd ha 16 65536 (.inr (.inl ⟨rfl, rfl⟩)) (2 * (i : Int))
  have hy := get_bd ha 16 65536 (.inr (.inl ⟨rfl, rfl⟩)) (2 * (i : Int) + 1)
  intro p hp
  unfold exP at hp
  simp only [List.mem_cons, List.not_mem_nil, or_false] at hp
  rcases hp with rfl | rfl
  · refine ne_false ?_
    show sgnI (unV 64894 a) 32 i = _
    rw [IntWalk.i64_in _ (by omega), un_64894]
    exact sgn_at 32 4294967296 4 (.inr (.inl ⟨rfl, rfl, rfl⟩)) _ _ i hi _ (wrap_add _ _ _ hV) (by omega) (by omega)
  · refine ne_false ?_
    show getI (unV 64895 a) 32 i = _
    rw [IntWalk.u64_in _ (by omega), un_64895]
    exact get_at 32 4294967296 4 (.inr (.inl ⟨rfl, rfl, rfl⟩)) _ _ i hi _ (wrap_mod _ _ hV) (by omega) (by omega)
theorem ex_dot (a b : Nat → Int) (i : Nat) (hi : i < 4) (q : Int) (hq : q = IntKind.u64.wrap (IntKind.i64.wrap (IntKind.i64.wrap (sgnI a 16 (2 * (i : Int)) * sgnI b 16 (2 * (i : Int))) + IntKind.i64.wrap (sgnI a 16 (2 * (i : Int) + 1) * sgnI b 16 (2 * (i : Int) + 1))))) :
    (getI (biV 64954 a b) 32 (i : Int) != q.tmod 4294967296) = false := by
  refine ne_false ?_
  have h0 : 0 ≤ q := by rw [hq, IntKind.wrap_u64]; omega
  rw [Int.tmod_eq_emod_of_nonneg h0, bi_64954, hq]
  exact (lane_at 32 4294967296 4 (.inr (.inl ⟨rfl, rfl, rfl⟩)) _ _ i hi _ rfl).1
theorem exD_ok (a b : Nat → Int) (ha : Byt a) (hb : Byt b) : ∀ p ∈ exD a b, p.1 = p.2 := by
  intro p hp
  unfold exD at hp
  simp only [List.mem_append, List.mem_flatMap, List.mem_map, List.mem_range] at hp
  rcases hp with ((⟨i, hi, (h | h) | h⟩ | ⟨i, hi, (h | h) | h⟩) | ⟨i, hi, h | h⟩) | ⟨i, hi, rfl⟩
  · exact exL_0_0 a b ha hb i hi p h
  · exact exL_0_1 a b ha hb i hi p h
  · exact exP_0 a ha i hi p h
  · exact exL_32_0 a b ha hb i hi p h
  · exact exL_32_1 a b ha hb i hi p h
  · exact exP_2 a ha i hi p h
  · exact exL_64_0 a b ha hb i hi p h
  · exact exL_64_1 a b ha hb i hi p h
  · exact ex_dot a b i hi _ rfl
theorem exK_byt (a b : Nat → Int) (ha : Byt a) (hb : Byt b) : ∀ x ∈ exK a b, Byt x := by
  intro x hx
  unfold exK at hx
  simp only [List.mem_cons, List.not_mem_nil, or_false] at hx
  repeat' (first | (rcases hx with rfl | hx) | subst hx)
  all_goals first | exact ha | exact hb | exact un_byt _ ha | exact bi_byt _ ha
theorem exact_walk (a b : Nat → Int) (ha : Byt a) (hb : Byt b) (w : World) : Calls Try.prog 5 #[.agg (bs a), .agg (bs b)] w fun e w' => e = .returned (.bool true) ∧ Gr w w' :=
  ev_path (E := envW (exK a b)) (E' := envW (exK sA sB)) rfl (sumW_ok _ (exK_byt a b ha hb)) (fuel := 80) (args' := [.agg (bs sA), .agg (bs sB)]) (exD a b) exTs (exD_ok a b ha hb) (fun β => by kernel_rfl) w
end Wd
end Go.Proofs.Ytkccaaieadgdbaa
