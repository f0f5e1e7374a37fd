/-
  MovePuts where the lane is 4 to 7, modulo 16. Conditions: bytes, 64 bits.
-/
import Derived.Test.YtaahkpjdffgagaaMvPut2
namespace Go.Proofs.Ytaahkpjdffgagaa
open Go.RowKit VecM Ev
namespace Mv
theorem pu_4 (v : Nat → Int) (hv : Byt v) (lane x : Int) (hx : 0 ≤ x ∧ x < 18446744073709551616) (hl : IntKind.u64.wrap lane % 16 = ((4 : Nat) : Int)) (w : World) : Calls Try.prog 7 #[.agg (bs v), .int .i64 lane, .int .u64 x] w fun e w' => e = .returned (.bool true) ∧ Gr w w' :=
  ev_path (E := envP (puK 4 v x)) (E' := envP (puK 4 sA sX)) rfl (envP_ok _ (puK_byt 4 v hv x)) (fuel := 80) (args' := [.agg (bs sA), .int .i64 (4 : Nat), .int .u64 sX]) (puD 4 v lane x) puTs (puD_ok 4 v hv lane x hx hl) (fun β => by kernel_rfl) w
theorem pu_5 (v : Nat → Int) (hv : Byt v) (lane x : Int) (hx : 0 ≤ x ∧ x < 18446744073709551616) (hl : IntKind.u64.wrap lane % 16 = ((5 : Nat) : Int)) (w : World) : Calls Try.prog 7 #[.agg (bs v), .int .i64 lane, .int .u64 x] w fun e w' => e = .returned (.bool true) ∧ Gr w w' :=
  ev_path (E := envP (puK 5 v x)) (E' := envP (puK 5 sA sX)) rfl (envP_ok _ (puK_byt 5 v hv x)) (fuel := 80) (args' := [.agg (bs sA), .int .i64 (5 : Nat), .int .u64 sX]) (puD 5 v lane x) puTs (puD_ok 5 v hv lane x hx hl) (fun β => by kernel_rfl) w
theorem pu_6 (v : Nat → Int) (hv : Byt v) (lane x : Int) (hx : 0 ≤ x ∧ x < 18446744073709551616) (hl : IntKind.u64.wrap lane % 16 = ((6 : Nat) : Int)) (w : World) : Calls Try.prog 7 #[.agg (bs v), .int .i64 lane, .int .u64 x] w fun e w' => e = .returned (.bool true) ∧ Gr w w' :=
  ev_path (E := envP (puK 6 v x)) (E' := envP (puK 6 sA sX)) rfl (envP_ok _ (puK_byt 6 v hv x)) (fuel := 80) (args' := [.agg (bs sA), .int .i64 (6 : Nat), .int .u64 sX]) (puD 6 v lane x) puTs (puD_ok 6 v hv lane x hx hl) (fun β => by kernel_rfl) w
theorem pu_7 (v : Nat → Int) (hv : Byt v) (lane x : Int) (hx : 0 ≤ x ∧ x < 18446744073709551616) (hl : IntKind.u64.wrap lane % 16 = ((7 : Nat) : Int)) (w : World) : Calls Try.prog 7 #[.agg (bs v), .int .i64 lane, .int .u64 x] w fun e w' => e = .returned (.bool true) ∧ Gr w w' :=
  ev_path (E := envP (puK 7 v x)) (E' := envP (puK 7 sA sX)) rfl (envP_ok _ (puK_byt 7 v hv x)) (fuel := 80) (args' := [.agg (bs sA), .int .i64 (7 : Nat), .int .u64 sX]) (puD 7 v lane x) puTs (puD_ok 7 v hv lane x hx hl) (fun β => by kernel_rfl) w
end Mv
end Go.Proofs.Ytaahkpjdffgagaa
