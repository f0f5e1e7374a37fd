/-
  MovePuts where the lane is 0 to 3, modulo 16. Conditions: bytes, 64 bits.
-/
import Derived.Test.YtaahkpjdffgagaaMvPut2
namespace Go.Proofs.Ytaahkpjdffgagaa
open Go.RowKit VecM Ev
namespace Mv
theorem pu_0 (v : Nat → Int) (hv : Byt v) (lane x : Int) (hx : 0 ≤ x ∧ x < 18446744073709551616) (hl : IntKind.u64.wrap lane % 16 = ((0 : Nat) : Int)) (w : World) : Calls Try.prog 7 #[.agg (bs v), .int .i64 lane, .int .u64 x] w fun e w' => e = .returned (.bool true) ∧ Gr w w' :=
  ev_path (E := envP (puK 0 v x)) (E' := envP (puK 0 sA sX)) rfl (envP_ok _ (puK_byt 0 v hv x)) (fuel := 80) (args' := [.agg (bs sA), .int .i64 (0 : Nat), .int .u64 sX]) (puD 0 v lane x) puTs (puD_ok 0 v hv lane x hx hl) (fun β => by kernel_rfl) w
theorem pu_1 (v : Nat → Int) (hv : Byt v) (lane x : Int) (hx : 0 ≤ x ∧ x < 18446744073709551616) (hl : IntKind.u64.wrap lane % 16 = ((1 : Nat) : Int)) (w : World) : Calls Try.prog 7 #[.agg (bs v), .int .i64 lane, .int .u64 x] w fun e w' => e = .returned (.bool true) ∧ Gr w w' :=
  ev_path (E := envP (puK 1 v x)) (E' := envP (puK 1 sA sX)) rfl (envP_ok _ (puK_byt 1 v hv x)) (fuel := 80) (args' := [.agg (bs sA), .int .i64 (1 : Nat), .int .u64 sX]) (puD 1 v lane x) puTs (puD_ok 1 v hv lane x hx hl) (fun β => by kernel_rfl) w
theorem pu_2 (v : Nat → Int) (hv : Byt v) (lane x : Int) (hx : 0 ≤ x ∧ x < 18446744073709551616) (hl : IntKind.u64.wrap lane % 16 = ((2 : Nat) : Int)) (w : World) : Calls Try.prog 7 #[.agg (bs v), .int .i64 lane, .int .u64 x] w fun e w' => e = .returned (.bool true) ∧ Gr w w' :=
  ev_path (E := envP (puK 2 v x)) (E' := envP (puK 2 sA sX)) rfl (envP_ok _ (puK_byt 2 v hv x)) (fuel := 80) (args' := [.agg (bs sA), .int .i64 (2 : Nat), .int .u64 sX]) (puD 2 v lane x) puTs (puD_ok 2 v hv lane x hx hl) (fun β => by kernel_rfl) w
theorem pu_3 (v : Nat → Int) (hv : Byt v) (lane x : Int) (hx : 0 ≤ x ∧ x < 18446744073709551616) (hl : IntKind.u64.wrap lane % 16 = ((3 : Nat) : Int)) (w : World) : Calls Try.prog 7 #[.agg (bs v), .int .i64 lane, .int .u64 x] w fun e w' => e = .returned (.bool true) ∧ Gr w w' :=
  ev_path (E := envP (puK 3 v x)) (E' := envP (puK 3 sA sX)) rfl (envP_ok _ (puK_byt 3 v hv x)) (fuel := 80) (args' := [.agg (bs sA), .int .i64 (3 : Nat), .int .u64 sX]) (puD 3 v lane x) puTs (puD_ok 3 v hv lane x hx hl) (fun β => by kernel_rfl) w
end Mv
end Go.Proofs.Ytaahkpjdffgagaa
