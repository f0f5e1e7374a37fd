/-
  MovePuts where the lane is 8 to 11, modulo 16. Conditions: bytes, 64 bits.
-/
import Derived.Test.YtaahkpjdffgagaaMvPut2
namespace Go.Proofs.Ytaahkpjdffgagaa
open Go.RowKit VecM Ev
namespace Mv
theorem pu_8 (v : Nat → Int) (hv : Byt v) (lane x : Int) (hx : 0 ≤ x ∧ x < 18446744073709551616) (hl : IntKind.u64.wrap lane % 16 = ((8 : Nat) : Int)) (w : World) : Calls Try.prog 7 #[.agg (bs v), .int .i64 lane, .int .u64 x] w fun e w' => e = .returned (.bool true) ∧ Gr w w' :=
  ev_path (E := envP (puK 8 v x)) (E' := envP (puK 8 sA sX)) rfl (envP_ok _ (puK_byt 8 v hv x)) (fuel := 80) (args' := [.agg (bs sA), .int .i64 (8 : Nat), .int .u64 sX]) (puD 8 v lane x) puTs (puD_ok 8 v hv lane x hx hl) (fun β => by kernel_rfl) w
theorem pu_9 (v : Nat → Int) (hv : Byt v) (lane x : Int) (hx : 0 ≤ x ∧ x < 18446744073709551616) (hl : IntKind.u64.wrap lane % 16 = ((9 : Nat) : Int)) (w : World) : Calls Try.prog 7 #[.agg (bs v), .int .i64 lane, .int .u64 x] w fun e w' => e = .returned (.bool true) ∧ Gr w w' :=
  ev_path (E := envP (puK 9 v x)) (E' := envP (puK 9 sA sX)) rfl (envP_ok _ (puK_byt 9 v hv x)) (fuel := 80) (args' := [.agg (bs sA), .int .i64 (9 : Nat), .int .u64 sX]) (puD 9 v lane x) puTs (puD_ok 9 v hv lane x hx hl) (fun β => by kernel_rfl) w
theorem pu_10 (v : Nat → Int) (hv : Byt v) (lane x : Int) (hx : 0 ≤ x ∧ x < 18446744073709551616) (hl : IntKind.u64.wrap lane % 16 = ((10 : Nat) : Int)) (w : World) : Calls Try.prog 7 #[.agg (bs v), .int .i64 lane, .int .u64 x] w fun e w' => e = .returned (.bool true) ∧ Gr w w' :=
  ev_path (E := envP (puK 10 v x)) (E' := envP (puK 10 sA sX)) rfl (envP_ok _ (puK_byt 10 v hv x)) (fuel := 80) (args' := [.agg (bs sA), .int .i64 (10 : Nat), .int .u64 sX]) (puD 10 v lane x) puTs (puD_ok 10 v hv lane x hx hl) (fun β => by kernel_rfl) w
theorem pu_11 (v : Nat → Int) (hv : Byt v) (lane x : Int) (hx : 0 ≤ x ∧ x < 18446744073709551616) (hl : IntKind.u64.wrap lane % 16 = ((11 : Nat) : Int)) (w : World) : Calls Try.prog 7 #[.agg (bs v), .int .i64 lane, .int .u64 x] w fun e w' => e = .returned (.bool true) ∧ Gr w w' :=
  ev_path (E := envP (puK 11 v x)) (E' := envP (puK 11 sA sX)) rfl (envP_ok _ (puK_byt 11 v hv x)) (fuel := 80) (args' := [.agg (bs sA), .int .i64 (11 : Nat), .int .u64 sX]) (puD 11 v lane x) puTs (puD_ok 11 v hv lane x hx hl) (fun β => by kernel_rfl) w
end Mv
end Go.Proofs.Ytaahkpjdffgagaa
