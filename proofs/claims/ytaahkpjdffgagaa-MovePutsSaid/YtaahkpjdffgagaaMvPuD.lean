/-
  MovePuts where the lane is 12 to 15, modulo 16. Conditions: bytes, 64 bits.
-/
import Derived.Test.YtaahkpjdffgagaaMvPut2
namespace Go.Proofs.Ytaahkpjdffgagaa
open Go.RowKit VecM Ev
namespace Mv
theorem pu_12 (v : Nat → Int) (hv : Byt v) (lane x : Int) (hx : 0 ≤ x ∧ x < 18446744073709551616) (hl : IntKind.u64.wrap lane % 16 = ((12 : Nat) : Int)) (w : World) : Calls Try.prog 7 #[.agg (bs v), .int .i64 lane, .int .u64 x] w fun e w' => e = .returned (.bool true) ∧ Gr w w' :=
  ev_path (E := envP (puK 12 v x)) (E' := envP (puK 12 sA sX)) rfl (envP_ok _ (puK_byt 12 v hv x)) (fuel := 80) (args' := [.agg (bs sA), .int .i64 (12 : Nat), .int .u64 sX]) (puD 12 v lane x) puTs (puD_ok 12 v hv lane x hx hl) (fun β => by kernel_rfl) w
theorem pu_13 (v : Nat → Int) (hv : Byt v) (lane x : Int) (hx : 0 ≤ x ∧ x < 18446744073709551616) (hl : IntKind.u64.wrap lane % 16 = ((13 : Nat) : Int)) (w : World) : Calls Try.prog 7 #[.agg (bs v), .int .i64 lane, .int .u64 x] w fun e w' => e = .returned (.bool true) ∧ Gr w w' :=
  ev_path (E := envP (puK 13 v x)) (E' := envP (puK 13 sA sX)) rfl (envP_ok _ (puK_byt 13 v hv x)) (fuel := 80) (args' := [.agg (bs sA), .int .i64 (13 : Nat), .int .u64 sX]) (puD 13 v lane x) puTs (puD_ok 13 v hv lane x hx hl) (fun β => by kernel_rfl) w
theorem pu_14 (v : Nat → Int) (hv : Byt v) (lane x : Int) (hx : 0 ≤ x ∧ x < 18446744073709551616) (hl : IntKind.u64.wrap lane % 16 = ((14 : Nat) : Int)) (w : World) : Calls Try.prog 7 #[.agg (bs v), .int .i64 lane, .int .u64 x] w fun e w' => e = .returned (.bool true) ∧ Gr w w' :=
  ev_path (E := envP (puK 14 v x)) (E' := envP (puK 14 sA sX)) rfl (envP_ok _ (puK_byt 14 v hv x)) (fuel := 80) (args' := [.agg (bs sA), .int .i64 (14 : Nat), .int .u64 sX]) (puD 14 v lane x) puTs (puD_ok 14 v hv lane x hx hl) (fun β => by kernel_rfl) w
theorem pu_15 (v : Nat → Int) (hv : Byt v) (lane x : Int) (hx : 0 ≤ x ∧ x < 18446744073709551616) (hl : IntKind.u64.wrap lane % 16 = ((15 : Nat) : Int)) (w : World) : Calls Try.prog 7 #[.agg (bs v), .int .i64 lane, .int .u64 x] w fun e w' => e = .returned (.bool true) ∧ Gr w w' :=
  ev_path (E := envP (puK 15 v x)) (E' := envP (puK 15 sA sX)) rfl (envP_ok _ (puK_byt 15 v hv x)) (fuel := 80) (args' := [.agg (bs sA), .int .i64 (15 : Nat), .int .u64 sX]) (puD 15 v lane x) puTs (puD_ok 15 v hv lane x hx hl) (fun β => by kernel_rfl) w
end Mv
end Go.Proofs.Ytaahkpjdffgagaa
