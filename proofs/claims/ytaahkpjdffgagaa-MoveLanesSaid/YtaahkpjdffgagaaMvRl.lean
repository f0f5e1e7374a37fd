/-
  The reference's Splat, Extract and Replace of layer 7 are move's, for all opcodes, lanes and vectors. Conditions: bytes, 64 bits.
-/
import Derived.Test.YtaahkpjdffgagaaMvSum
import Derived.Test.YtaahkpjdffgagaaRefS2
namespace Go.Proofs.Ytaahkpjdffgagaa
open Go.RowKit VecM Ev
namespace Mv
noncomputable def sumR (f : FuncId) (args : List Value) : Option (List (List Value) × (List (Nat → Int) → Value × List Bool)) :=
  match Nat.beq f 31 with
  | true => match args with
    | [.agg ⟨c⟩, .int .i64 v, .int .i64 i] => some ([c], fun fs => (.int .i64 (sgnI (hd1 fs) v i), []))
    | _ => none
  | false => match Nat.beq f 32 with
    | true => match args with
      | [.agg ⟨c⟩, .int .i64 v, .int .i64 i] => some ([c], fun fs => (.int .u64 (getI (hd1 fs) v i), []))
      | _ => none
    | false => match Nat.beq f 34 with
      | true => match args with
        | [.agg ⟨c⟩, .int .i64 v, .int .i64 i, .int .u64 x] => some ([c], fun fs => (.agg (bs (setI (hd1 fs) v i x)), [decide (0 ≤ x), decide (x < 18446744073709551616)]))
        | _ => none
      | false => none
noncomputable def envR (K : List (Nat → Int)) : Env := { P := Try.prog, known := K, sum := sumR }
theorem sumR_ok (K : List (Nat → Int)) (hK : ∀ x ∈ K, Byt x) : SumOk (envR K) := by
  intro f args cs mk h fs hcs hfs hp w
  replace h : sumR f args = some (cs, mk) := h
  unfold sumR at h
  split at h
  · rename_i hf
    obtain rfl := Nat.eq_of_beq_eq_true hf
    split at h
    · cases h
      obtain ⟨x, rfl, rfl⟩ := one_fs hcs
      exact rsigned_any x (hK x (hfs x (List.mem_cons_self ..))) _ _ w
    · cases h
  · split at h
    · rename_i hf
      obtain rfl := Nat.eq_of_beq_eq_true hf
      split at h
      · cases h
        obtain ⟨x, rfl, rfl⟩ := one_fs hcs
        exact rget_any x (hK x (hfs x (List.mem_cons_self ..))) _ _ w
      · cases h
    · split at h
      · rename_i hf
        obtain rfl := Nat.eq_of_beq_eq_true hf
        split at h
        · cases h
          obtain ⟨x, rfl, rfl⟩ := one_fs hcs
          have h1 := hp _ (List.mem_cons_self ..)
          have h2 := hp _ (List.mem_cons_of_mem _ (List.mem_cons_self ..))
          simp only [decide_eq_true_eq] at h1 h2
          exact rset_any x _ _ _ h1 h2 w
        · cases h
      · cases h
def laD (lane n t : Int) : List (Bool × Bool) := [(decide (lane < 0), decide (t < 0)), (decide (lane ≥ n), decide (t ≥ n))]
noncomputable def xtPath (op lane t : Int) (b : Nat → Int) (v : Value) (β : Nat → Nat) : Out :=
  evPath (envR [b]) (envR [sA]) 60 13 [.int .i64 op, .int .i64 lane, .agg (bs b)] [.int .i64 op, .int .i64 t, .agg (bs sA)] v β
noncomputable def rpPath (op lane t x : Int) (b : Nat → Int) (v : Value) (β : Nat → Nat) : Out :=
  evPath (envR [b]) (envR [sA]) 60 15 [.int .i64 op, .int .i64 lane, .agg (bs b), .int .u64 x] [.int .i64 op, .int .i64 t, .agg (bs sA), .int .u64 sX] v β
noncomputable def spPath (op x : Int) (v : Value) (β : Nat → Nat) : Out :=
  evPath (envR []) (envR []) 60 11 [.int .i64 op, .int .u64 x] [.int .i64 op, .int .u64 sX] v β
theorem laD_ok {lane n t : Int} (h1 : (lane < 0 ↔ t < 0)) (h2 : (lane ≥ n ↔ t ≥ n)) : ∀ p ∈ laD lane n t, p.1 = p.2 := by
  intro p hp
  unfold laD at hp
  simp only [List.mem_cons, List.not_mem_nil, or_false] at hp
  rcases hp with rfl | rfl
  · exact decide_eq_decide.2 h1
  · exact decide_eq_decide.2 h2
theorem one_byt {b : Nat → Int} (hb : Byt b) : ∀ x ∈ [b], Byt x := fun x hx => by rw [List.mem_singleton.1 hx]; exact hb
--EVTS xt64789nTs | fun (lane : Int) (b : Nat → Int) (β : Nat → Nat) => (xtPath 64789 lane (-1) b (.tuple #[.int .u64 0, .int .i64 1]) β, laD lane 16 (-1))
def xt64789nTs : List Nat := [0, 1, 1, 1, 1, 1, 1, 0, 0, 0, 0, 0, 0, 0, 0, 0]
theorem xt64789n (lane : Int) (b : Nat → Int) (h : lane < 0) (hb : Byt b) (w : World) : Calls Try.prog 13 #[.int .i64 64789, .int .i64 lane, .agg (bs b)] w fun e w' => e = .returned (.tuple #[.int .u64 0, .int .i64 1]) ∧ Gr w w' :=
  ev_path (E := envR [b]) (E' := envR [sA]) rfl (sumR_ok _ (one_byt hb)) (fuel := 60) (args' := [.int .i64 64789, .int .i64 (-1), .agg (bs sA)]) (laD lane 16 (-1)) xt64789nTs (laD_ok (by omega) (by omega)) (fun β => by kernel_rfl) w
--EVTS xt64789iTs | fun (lane : Int) (b : Nat → Int) (β : Nat → Nat) => (xtPath 64789 lane (0) b (.tuple #[.int .u64 (Int.tmod (IntKind.u64.wrap (sgnI b 8 lane)) 4294967296), .int .i64 0]) β, laD lane 16 (0))
def xt64789iTs : List Nat := [0, 0, 2, 1, 1, 1, 0, 1, 1, 1, 0, 0, 0, 0, 0, 0, 0, 0, 0]
theorem xt64789i (lane : Int) (b : Nat → Int) (h : 0 ≤ lane ∧ lane < 16) (hb : Byt b) (w : World) : Calls Try.prog 13 #[.int .i64 64789, .int .i64 lane, .agg (bs b)] w fun e w' => e = .returned (.tuple #[.int .u64 (Int.tmod (IntKind.u64.wrap (sgnI b 8 lane)) 4294967296), .int .i64 0]) ∧ Gr w w' :=
  ev_path (E := envR [b]) (E' := envR [sA]) rfl (sumR_ok _ (one_byt hb)) (fuel := 60) (args' := [.int .i64 64789, .int .i64 (0), .agg (bs sA)]) (laD lane 16 (0)) xt64789iTs (laD_ok (by omega) (by omega)) (fun β => by kernel_rfl) w
--EVTS xt64789oTs | fun (lane : Int) (b : Nat → Int) (β : Nat → Nat) => (xtPath 64789 lane (16) b (.tuple #[.int .u64 0, .int .i64 1]) β, laD lane 16 (16))
def xt64789oTs : List Nat := [2, 1, 1, 1, 0, 1, 1, 1, 0, 0, 0, 0, 0, 0, 0, 0, 0]
theorem xt64789o (lane : Int) (b : Nat → Int) (h : 16 ≤ lane) (hb : Byt b) (w : World) : Calls Try.prog 13 #[.int .i64 64789, .int .i64 lane, .agg (bs b)] w fun e w' => e = .returned (.tuple #[.int .u64 0, .int .i64 1]) ∧ Gr w w' :=
  ev_path (E := envR [b]) (E' := envR [sA]) rfl (sumR_ok _ (one_byt hb)) (fuel := 60) (args' := [.int .i64 64789, .int .i64 (16), .agg (bs sA)]) (laD lane 16 (16)) xt64789oTs (laD_ok (by omega) (by omega)) (fun β => by kernel_rfl) w
--EVTS xt64790nTs | fun (lane : Int) (b : Nat → Int) (β : Nat → Nat) => (xtPath 64790 lane (-1) b (.tuple #[.int .u64 0, .int .i64 1]) β, laD lane 16 (-1))
def xt64790nTs : List Nat := [0, 1, 1, 1, 1, 1, 1, 0, 0, 0, 0, 0, 0, 0, 0, 0, 0, 0, 0, 0, 0, 0, 0, 0, 0]
theorem xt64790n (lane : Int) (b : Nat → Int) (h : lane < 0) (hb : Byt b) (w : World) : Calls Try.prog 13 #[.int .i64 64790, .int .i64 lane, .agg (bs b)] w fun e w' => e = .returned (.tuple #[.int .u64 0, .int .i64 1]) ∧ Gr w w' :=
  ev_path (E := envR [b]) (E' := envR [sA]) rfl (sumR_ok _ (one_byt hb)) (fuel := 60) (args' := [.int .i64 64790, .int .i64 (-1), .agg (bs sA)]) (laD lane 16 (-1)) xt64790nTs (laD_ok (by omega) (by omega)) (fun β => by kernel_rfl) w
--EVTS xt64790iTs | fun (lane : Int) (b : Nat → Int) (β : Nat → Nat) => (xtPath 64790 lane (0) b (.tuple #[.int .u64 (getI b 8 lane), .int .i64 0]) β, laD lane 16 (0))
def xt64790iTs : List Nat := [0, 0, 2, 1, 1, 1, 0, 1, 1, 1, 0, 0, 0, 0, 0, 0, 0, 0, 0, 0, 0, 0, 0, 0, 0, 0, 0, 0]
theorem xt64790i (lane : Int) (b : Nat → Int) (h : 0 ≤ lane ∧ lane < 16) (hb : Byt b) (w : World) : Calls Try.prog 13 #[.int .i64 64790, .int .i64 lane, .agg (bs b)] w fun e w' => e = .returned (.tuple #[.int .u64 (getI b 8 lane), .int .i64 0]) ∧ Gr w w' :=
  ev_path (E := envR [b]) (E' := envR [sA]) rfl (sumR_ok _ (one_byt hb)) (fuel := 60) (args' := [.int .i64 64790, .int .i64 (0), .agg (bs sA)]) (laD lane 16 (0)) xt64790iTs (laD_ok (by omega) (by omega)) (fun β => by kernel_rfl) w
--EVTS xt64790oTs | fun (lane : Int) (b : Nat → Int) (β : Nat → Nat) => (xtPath 64790 lane (16) b (.tuple #[.int .u64 0, .int .i64 1]) β, laD lane 16 (16))
def xt64790oTs : List Nat := [2, 1, 1, 1, 0, 1, 1, 1, 0, 0, 0, 0, 0, 0, 0, 0, 0, 0, 0, 0, 0, 0, 0, 0, 0, 0]
theorem xt64790o (lane : Int) (b : Nat → Int) (h : 16 ≤ lane) (hb : Byt b) (w : World) : Calls Try.prog 13 #[.int .i64 64790, .int .i64 lane, .agg (bs b)] w fun e w' => e = .returned (.tuple #[.int .u64 0, .int .i64 1]) ∧ Gr w w' :=
  ev_path (E := envR [b]) (E' := envR [sA]) rfl (sumR_ok _ (one_byt hb)) (fuel := 60) (args' := [.int .i64 64790, .int .i64 (16), .agg (bs sA)]) (laD lane 16 (16)) xt64790oTs (laD_ok (by omega) (by omega)) (fun β => by kernel_rfl) w
--EVTS xt64792nTs | fun (lane : Int) (b : Nat → Int) (β : Nat → Nat) => (xtPath 64792 lane (-1) b (.tuple #[.int .u64 0, .int .i64 1]) β, laD lane 8 (-1))
def xt64792nTs : List Nat := [0, 1, 1, 1, 1, 1, 1, 0, 0, 0, 0, 0, 0, 0, 0, 0, 0, 0]
theorem xt64792n (lane : Int) (b : Nat → Int) (h : lane < 0) (hb : Byt b) (w : World) : Calls Try.prog 13 #[.int .i64 64792, .int .i64 lane, .agg (bs b)] w fun e w' => e = .returned (.tuple #[.int .u64 0, .int .i64 1]) ∧ Gr w w' :=
  ev_path (E := envR [b]) (E' := envR [sA]) rfl (sumR_ok _ (one_byt hb)) (fuel := 60) (args' := [.int .i64 64792, .int .i64 (-1), .agg (bs sA)]) (laD lane 8 (-1)) xt64792nTs (laD_ok (by omega) (by omega)) (fun β => by kernel_rfl) w
--EVTS xt64792iTs | fun (lane : Int) (b : Nat → Int) (β : Nat → Nat) => (xtPath 64792 lane (0) b (.tuple #[.int .u64 (Int.tmod (IntKind.u64.wrap (sgnI b 16 lane)) 4294967296), .int .i64 0]) β, laD lane 8 (0))
def xt64792iTs : List Nat := [0, 0, 0, 2, 1, 1, 1, 0, 0, 1, 1, 1, 0, 0, 0, 0, 0, 0, 0, 0, 0, 0, 0]
theorem xt64792i (lane : Int) (b : Nat → Int) (h : 0 ≤ lane ∧ lane < 8) (hb : Byt b) (w : World) : Calls Try.prog 13 #[.int .i64 64792, .int .i64 lane, .agg (bs b)] w fun e w' => e = .returned (.tuple #[.int .u64 (Int.tmod (IntKind.u64.wrap (sgnI b 16 lane)) 4294967296), .int .i64 0]) ∧ Gr w w' :=
  ev_path (E := envR [b]) (E' := envR [sA]) rfl (sumR_ok _ (one_byt hb)) (fuel := 60) (args' := [.int .i64 64792, .int .i64 (0), .agg (bs sA)]) (laD lane 8 (0)) xt64792iTs (laD_ok (by omega) (by omega)) (fun β => by kernel_rfl) w
--EVTS xt64792oTs | fun (lane : Int) (b : Nat → Int) (β : Nat → Nat) => (xtPath 64792 lane (8) b (.tuple #[.int .u64 0, .int .i64 1]) β, laD lane 8 (8))
def xt64792oTs : List Nat := [2, 1, 1, 1, 0, 0, 1, 1, 1, 0, 0, 0, 0, 0, 0, 0, 0, 0, 0, 0]
theorem xt64792o (lane : Int) (b : Nat → Int) (h : 8 ≤ lane) (hb : Byt b) (w : World) : Calls Try.prog 13 #[.int .i64 64792, .int .i64 lane, .agg (bs b)] w fun e w' => e = .returned (.tuple #[.int .u64 0, .int .i64 1]) ∧ Gr w w' :=
  ev_path (E := envR [b]) (E' := envR [sA]) rfl (sumR_ok _ (one_byt hb)) (fuel := 60) (args' := [.int .i64 64792, .int .i64 (8), .agg (bs sA)]) (laD lane 8 (8)) xt64792oTs (laD_ok (by omega) (by omega)) (fun β => by kernel_rfl) w
--EVTS xt64793nTs | fun (lane : Int) (b : Nat → Int) (β : Nat → Nat) => (xtPath 64793 lane (-1) b (.tuple #[.int .u64 0, .int .i64 1]) β, laD lane 8 (-1))
def xt64793nTs : List Nat := [0, 1, 1, 1, 1, 1, 1, 0, 0, 0, 0, 0, 0, 0, 0, 0, 0, 0, 0, 0, 0, 0, 0, 0, 0, 0, 0]
theorem xt64793n (lane : Int) (b : Nat → Int) (h : lane < 0) (hb : Byt b) (w : World) : Calls Try.prog 13 #[.int .i64 64793, .int .i64 lane, .agg (bs b)] w fun e w' => e = .returned (.tuple #[.int .u64 0, .int .i64 1]) ∧ Gr w w' :=
  ev_path (E := envR [b]) (E' := envR [sA]) rfl (sumR_ok _ (one_byt hb)) (fuel := 60) (args' := [.int .i64 64793, .int .i64 (-1), .agg (bs sA)]) (laD lane 8 (-1)) xt64793nTs (laD_ok (by omega) (by omega)) (fun β => by kernel_rfl) w
--EVTS xt64793iTs | fun (lane : Int) (b : Nat → Int) (β : Nat → Nat) => (xtPath 64793 lane (0) b (.tuple #[.int .u64 (getI b 16 lane), .int .i64 0]) β, laD lane 8 (0))
def xt64793iTs : List Nat := [0, 0, 0, 2, 1, 1, 1, 0, 0, 1, 1, 1, 0, 0, 0, 0, 0, 0, 0, 0, 0, 0, 0, 0, 0, 0, 0, 0, 0, 0, 0, 0]
theorem xt64793i (lane : Int) (b : Nat → Int) (h : 0 ≤ lane ∧ lane < 8) (hb : Byt b) (w : World) : Calls Try.prog 13 #[.int .i64 64793, .int .i64 lane, .agg (bs b)] w fun e w' => e = .returned (.tuple #[.int .u64 (getI b 16 lane), .int .i64 0]) ∧ Gr w w' :=
  ev_path (E := envR [b]) (E' := envR [sA]) rfl (sumR_ok _ (one_byt hb)) (fuel := 60) (args' := [.int .i64 64793, .int .i64 (0), .agg (bs sA)]) (laD lane 8 (0)) xt64793iTs (laD_ok (by omega) (by omega)) (fun β => by kernel_rfl) w
--EVTS xt64793oTs | fun (lane : Int) (b : Nat → Int) (β : Nat → Nat) => (xtPath 64793 lane (8) b (.tuple #[.int .u64 0, .int .i64 1]) β, laD lane 8 (8))
def xt64793oTs : List Nat := [2, 1, 1, 1, 0, 0, 1, 1, 1, 0, 0, 0, 0, 0, 0, 0, 0, 0, 0, 0, 0, 0, 0, 0, 0, 0, 0, 0, 0]
theorem xt64793o (lane : Int) (b : Nat → Int) (h : 8 ≤ lane) (hb : Byt b) (w : World) : Calls Try.prog 13 #[.int .i64 64793, .int .i64 lane, .agg (bs b)] w fun e w' => e = .returned (.tuple #[.int .u64 0, .int .i64 1]) ∧ Gr w w' :=
  ev_path (E := envR [b]) (E' := envR [sA]) rfl (sumR_ok _ (one_byt hb)) (fuel := 60) (args' := [.int .i64 64793, .int .i64 (8), .agg (bs sA)]) (laD lane 8 (8)) xt64793oTs (laD_ok (by omega) (by omega)) (fun β => by kernel_rfl) w
--EVTS xt64795nTs | fun (lane : Int) (b : Nat → Int) (β : Nat → Nat) => (xtPath 64795 lane (-1) b (.tuple #[.int .u64 0, .int .i64 1]) β, laD lane 4 (-1))
def xt64795nTs : List Nat := [0, 1, 1, 1, 1, 1, 1, 0, 0, 0, 0, 0, 0, 0, 0, 0, 0, 0, 0, 0]
theorem xt64795n (lane : Int) (b : Nat → Int) (h : lane < 0) (hb : Byt b) (w : World) : Calls Try.prog 13 #[.int .i64 64795, .int .i64 lane, .agg (bs b)] w fun e w' => e = .returned (.tuple #[.int .u64 0, .int .i64 1]) ∧ Gr w w' :=
  ev_path (E := envR [b]) (E' := envR [sA]) rfl (sumR_ok _ (one_byt hb)) (fuel := 60) (args' := [.int .i64 64795, .int .i64 (-1), .agg (bs sA)]) (laD lane 4 (-1)) xt64795nTs (laD_ok (by omega) (by omega)) (fun β => by kernel_rfl) w
--EVTS xt64795iTs | fun (lane : Int) (b : Nat → Int) (β : Nat → Nat) => (xtPath 64795 lane (0) b (.tuple #[.int .u64 (getI b 32 lane), .int .i64 0]) β, laD lane 4 (0))
def xt64795iTs : List Nat := [0, 0, 0, 0, 2, 1, 1, 1, 0, 0, 0, 1, 1, 1, 0, 0, 0, 0, 0, 0, 0, 0, 0, 0, 0, 0, 0]
theorem xt64795i (lane : Int) (b : Nat → Int) (h : 0 ≤ lane ∧ lane < 4) (hb : Byt b) (w : World) : Calls Try.prog 13 #[.int .i64 64795, .int .i64 lane, .agg (bs b)] w fun e w' => e = .returned (.tuple #[.int .u64 (getI b 32 lane), .int .i64 0]) ∧ Gr w w' :=
  ev_path (E := envR [b]) (E' := envR [sA]) rfl (sumR_ok _ (one_byt hb)) (fuel := 60) (args' := [.int .i64 64795, .int .i64 (0), .agg (bs sA)]) (laD lane 4 (0)) xt64795iTs (laD_ok (by omega) (by omega)) (fun β => by kernel_rfl) w
--EVTS xt64795oTs | fun (lane : Int) (b : Nat → Int) (β : Nat → Nat) => (xtPath 64795 lane (4) b (.tuple #[.int .u64 0, .int .i64 1]) β, laD lane 4 (4))
def xt64795oTs : List Nat := [2, 1, 1, 1, 0, 0, 0, 1, 1, 1, 0, 0, 0, 0, 0, 0, 0, 0, 0, 0, 0, 0, 0]
theorem xt64795o (lane : Int) (b : Nat → Int) (h : 4 ≤ lane) (hb : Byt b) (w : World) : Calls Try.prog 13 #[.int .i64 64795, .int .i64 lane, .agg (bs b)] w fun e w' => e = .returned (.tuple #[.int .u64 0, .int .i64 1]) ∧ Gr w w' :=
  ev_path (E := envR [b]) (E' := envR [sA]) rfl (sumR_ok _ (one_byt hb)) (fuel := 60) (args' := [.int .i64 64795, .int .i64 (4), .agg (bs sA)]) (laD lane 4 (4)) xt64795oTs (laD_ok (by omega) (by omega)) (fun β => by kernel_rfl) w
--EVTS xt64797nTs | fun (lane : Int) (b : Nat → Int) (β : Nat → Nat) => (xtPath 64797 lane (-1) b (.tuple #[.int .u64 0, .int .i64 1]) β, laD lane 2 (-1))
def xt64797nTs : List Nat := [0, 1, 1, 1, 1, 1, 1, 0, 0, 0, 0, 0, 0, 0, 0, 0, 0, 0, 0, 0, 0, 0]
theorem xt64797n (lane : Int) (b : Nat → Int) (h : lane < 0) (hb : Byt b) (w : World) : Calls Try.prog 13 #[.int .i64 64797, .int .i64 lane, .agg (bs b)] w fun e w' => e = .returned (.tuple #[.int .u64 0, .int .i64 1]) ∧ Gr w w' :=
  ev_path (E := envR [b]) (E' := envR [sA]) rfl (sumR_ok _ (one_byt hb)) (fuel := 60) (args' := [.int .i64 64797, .int .i64 (-1), .agg (bs sA)]) (laD lane 2 (-1)) xt64797nTs (laD_ok (by omega) (by omega)) (fun β => by kernel_rfl) w
--EVTS xt64797iTs | fun (lane : Int) (b : Nat → Int) (β : Nat → Nat) => (xtPath 64797 lane (0) b (.tuple #[.int .u64 (getI b 64 lane), .int .i64 0]) β, laD lane 2 (0))
def xt64797iTs : List Nat := [0, 0, 0, 0, 0, 2, 1, 1, 1, 0, 0, 0, 0, 1, 1, 1, 0, 0, 0, 0, 0, 0, 0, 0, 0, 0, 0, 0, 0, 0, 0]
theorem xt64797i (lane : Int) (b : Nat → Int) (h : 0 ≤ lane ∧ lane < 2) (hb : Byt b) (w : World) : Calls Try.prog 13 #[.int .i64 64797, .int .i64 lane, .agg (bs b)] w fun e w' => e = .returned (.tuple #[.int .u64 (getI b 64 lane), .int .i64 0]) ∧ Gr w w' :=
  ev_path (E := envR [b]) (E' := envR [sA]) rfl (sumR_ok _ (one_byt hb)) (fuel := 60) (args' := [.int .i64 64797, .int .i64 (0), .agg (bs sA)]) (laD lane 2 (0)) xt64797iTs (laD_ok (by omega) (by omega)) (fun β => by kernel_rfl) w
--EVTS xt64797oTs | fun (lane : Int) (b : Nat → Int) (β : Nat → Nat) => (xtPath 64797 lane (2) b (.tuple #[.int .u64 0, .int .i64 1]) β, laD lane 2 (2))
def xt64797oTs : List Nat := [2, 1, 1, 1, 0, 0, 0, 0, 1, 1, 1, 0, 0, 0, 0, 0, 0, 0, 0, 0, 0, 0, 0, 0, 0, 0]
theorem xt64797o (lane : Int) (b : Nat → Int) (h : 2 ≤ lane) (hb : Byt b) (w : World) : Calls Try.prog 13 #[.int .i64 64797, .int .i64 lane, .agg (bs b)] w fun e w' => e = .returned (.tuple #[.int .u64 0, .int .i64 1]) ∧ Gr w w' :=
  ev_path (E := envR [b]) (E' := envR [sA]) rfl (sumR_ok _ (one_byt hb)) (fuel := 60) (args' := [.int .i64 64797, .int .i64 (2), .agg (bs sA)]) (laD lane 2 (2)) xt64797oTs (laD_ok (by omega) (by omega)) (fun β => by kernel_rfl) w
theorem reD_ok {D : List (Bool × Bool)} (h : ∀ p ∈ D, p.1 = p.2) {x : Int} (hx : 0 ≤ x ∧ x < 18446744073709551616) : ∀ p ∈ D ++ [(decide (0 ≤ x), true), (decide (x < 18446744073709551616), true)], p.1 = p.2 := by
  intro p hp
  rcases List.mem_append.1 hp with hp | hp
  · exact h p hp
  · simp only [List.mem_cons, List.not_mem_nil, or_false] at hp
    rcases hp with rfl | rfl <;> (simp; omega)
--EVTS rp64791nTs | fun (lane x : Int) (b : Nat → Int) (β : Nat → Nat) => (rpPath 64791 lane (-1) x b (.tuple #[.agg (bs fun _ => 0), .int .i64 1]) β, laD lane 16 (-1) ++ [(decide (0 ≤ x), true), (decide (x < 18446744073709551616), true)])
def rp64791nTs : List Nat := [0, 1, 1, 1, 1, 1, 1, 0, 0, 0, 0, 0]
theorem rp64791n (lane x : Int) (b : Nat → Int) (h : lane < 0) (hx : 0 ≤ x ∧ x < 18446744073709551616) (hb : Byt b) (w : World) : Calls Try.prog 15 #[.int .i64 64791, .int .i64 lane, .agg (bs b), .int .u64 x] w fun e w' => e = .returned (.tuple #[.agg (bs fun _ => 0), .int .i64 1]) ∧ Gr w w' :=
  ev_path (E := envR [b]) (E' := envR [sA]) rfl (sumR_ok _ (one_byt hb)) (fuel := 60) (args' := [.int .i64 64791, .int .i64 (-1), .agg (bs sA), .int .u64 sX]) (laD lane 16 (-1) ++ [(decide (0 ≤ x), true), (decide (x < 18446744073709551616), true)]) rp64791nTs (reD_ok (laD_ok (by omega) (by omega)) hx) (fun β => by kernel_rfl) w
--EVTS rp64791iTs | fun (lane x : Int) (b : Nat → Int) (β : Nat → Nat) => (rpPath 64791 lane (0) x b (.tuple #[.agg (bs (setI b 8 lane x)), .int .i64 0]) β, laD lane 16 (0) ++ [(decide (0 ≤ x), true), (decide (x < 18446744073709551616), true)])
def rp64791iTs : List Nat := [4, 3, 0, 2, 1, 1, 1, 0, 1, 1, 1, 0, 0, 0, 0, 0]
theorem rp64791i (lane x : Int) (b : Nat → Int) (h : 0 ≤ lane ∧ lane < 16) (hx : 0 ≤ x ∧ x < 18446744073709551616) (hb : Byt b) (w : World) : Calls Try.prog 15 #[.int .i64 64791, .int .i64 lane, .agg (bs b), .int .u64 x] w fun e w' => e = .returned (.tuple #[.agg (bs (setI b 8 lane x)), .int .i64 0]) ∧ Gr w w' :=
  ev_path (E := envR [b]) (E' := envR [sA]) rfl (sumR_ok _ (one_byt hb)) (fuel := 60) (args' := [.int .i64 64791, .int .i64 (0), .agg (bs sA), .int .u64 sX]) (laD lane 16 (0) ++ [(decide (0 ≤ x), true), (decide (x < 18446744073709551616), true)]) rp64791iTs (reD_ok (laD_ok (by omega) (by omega)) hx) (fun β => by kernel_rfl) w
--EVTS rp64791oTs | fun (lane x : Int) (b : Nat → Int) (β : Nat → Nat) => (rpPath 64791 lane (16) x b (.tuple #[.agg (bs fun _ => 0), .int .i64 1]) β, laD lane 16 (16) ++ [(decide (0 ≤ x), true), (decide (x < 18446744073709551616), true)])
def rp64791oTs : List Nat := [2, 1, 1, 1, 0, 1, 1, 1, 0, 0, 0, 0, 0]
theorem rp64791o (lane x : Int) (b : Nat → Int) (h : 16 ≤ lane) (hx : 0 ≤ x ∧ x < 18446744073709551616) (hb : Byt b) (w : World) : Calls Try.prog 15 #[.int .i64 64791, .int .i64 lane, .agg (bs b), .int .u64 x] w fun e w' => e = .returned (.tuple #[.agg (bs fun _ => 0), .int .i64 1]) ∧ Gr w w' :=
  ev_path (E := envR [b]) (E' := envR [sA]) rfl (sumR_ok _ (one_byt hb)) (fuel := 60) (args' := [.int .i64 64791, .int .i64 (16), .agg (bs sA), .int .u64 sX]) (laD lane 16 (16) ++ [(decide (0 ≤ x), true), (decide (x < 18446744073709551616), true)]) rp64791oTs (reD_ok (laD_ok (by omega) (by omega)) hx) (fun β => by kernel_rfl) w
--EVTS rp64794nTs | fun (lane x : Int) (b : Nat → Int) (β : Nat → Nat) => (rpPath 64794 lane (-1) x b (.tuple #[.agg (bs fun _ => 0), .int .i64 1]) β, laD lane 8 (-1) ++ [(decide (0 ≤ x), true), (decide (x < 18446744073709551616), true)])
def rp64794nTs : List Nat := [0, 1, 1, 1, 1, 1, 1, 0, 0, 0, 0, 0, 0, 0]
theorem rp64794n (lane x : Int) (b : Nat → Int) (h : lane < 0) (hx : 0 ≤ x ∧ x < 18446744073709551616) (hb : Byt b) (w : World) : Calls Try.prog 15 #[.int .i64 64794, .int .i64 lane, .agg (bs b), .int .u64 x] w fun e w' => e = .returned (.tuple #[.agg (bs fun _ => 0), .int .i64 1]) ∧ Gr w w' :=
  ev_path (E := envR [b]) (E' := envR [sA]) rfl (sumR_ok _ (one_byt hb)) (fuel := 60) (args' := [.int .i64 64794, .int .i64 (-1), .agg (bs sA), .int .u64 sX]) (laD lane 8 (-1) ++ [(decide (0 ≤ x), true), (decide (x < 18446744073709551616), true)]) rp64794nTs (reD_ok (laD_ok (by omega) (by omega)) hx) (fun β => by kernel_rfl) w
--EVTS rp64794iTs | fun (lane x : Int) (b : Nat → Int) (β : Nat → Nat) => (rpPath 64794 lane (0) x b (.tuple #[.agg (bs (setI b 16 lane x)), .int .i64 0]) β, laD lane 8 (0) ++ [(decide (0 ≤ x), true), (decide (x < 18446744073709551616), true)])
def rp64794iTs : List Nat := [4, 3, 0, 0, 2, 1, 1, 1, 0, 0, 1, 1, 1, 0, 0, 0, 0, 0, 0, 0]
theorem rp64794i (lane x : Int) (b : Nat → Int) (h : 0 ≤ lane ∧ lane < 8) (hx : 0 ≤ x ∧ x < 18446744073709551616) (hb : Byt b) (w : World) : Calls Try.prog 15 #[.int .i64 64794, .int .i64 lane, .agg (bs b), .int .u64 x] w fun e w' => e = .returned (.tuple #[.agg (bs (setI b 16 lane x)), .int .i64 0]) ∧ Gr w w' :=
  ev_path (E := envR [b]) (E' := envR [sA]) rfl (sumR_ok _ (one_byt hb)) (fuel := 60) (args' := [.int .i64 64794, .int .i64 (0), .agg (bs sA), .int .u64 sX]) (laD lane 8 (0) ++ [(decide (0 ≤ x), true), (decide (x < 18446744073709551616), true)]) rp64794iTs (reD_ok (laD_ok (by omega) (by omega)) hx) (fun β => by kernel_rfl) w
--EVTS rp64794oTs | fun (lane x : Int) (b : Nat → Int) (β : Nat → Nat) => (rpPath 64794 lane (8) x b (.tuple #[.agg (bs fun _ => 0), .int .i64 1]) β, laD lane 8 (8) ++ [(decide (0 ≤ x), true), (decide (x < 18446744073709551616), true)])
def rp64794oTs : List Nat := [2, 1, 1, 1, 0, 0, 1, 1, 1, 0, 0, 0, 0, 0, 0, 0]
theorem rp64794o (lane x : Int) (b : Nat → Int) (h : 8 ≤ lane) (hx : 0 ≤ x ∧ x < 18446744073709551616) (hb : Byt b) (w : World) : Calls Try.prog 15 #[.int .i64 64794, .int .i64 lane, .agg (bs b), .int .u64 x] w fun e w' => e = .returned (.tuple #[.agg (bs fun _ => 0), .int .i64 1]) ∧ Gr w w' :=
  ev_path (E := envR [b]) (E' := envR [sA]) rfl (sumR_ok _ (one_byt hb)) (fuel := 60) (args' := [.int .i64 64794, .int .i64 (8), .agg (bs sA), .int .u64 sX]) (laD lane 8 (8) ++ [(decide (0 ≤ x), true), (decide (x < 18446744073709551616), true)]) rp64794oTs (reD_ok (laD_ok (by omega) (by omega)) hx) (fun β => by kernel_rfl) w
--EVTS rp64796nTs | fun (lane x : Int) (b : Nat → Int) (β : Nat → Nat) => (rpPath 64796 lane (-1) x b (.tuple #[.agg (bs fun _ => 0), .int .i64 1]) β, laD lane 4 (-1) ++ [(decide (0 ≤ x), true), (decide (x < 18446744073709551616), true)])
def rp64796nTs : List Nat := [0, 1, 1, 1, 1, 1, 1, 0, 0, 0, 0, 0, 0, 0, 0, 0]
theorem rp64796n (lane x : Int) (b : Nat → Int) (h : lane < 0) (hx : 0 ≤ x ∧ x < 18446744073709551616) (hb : Byt b) (w : World) : Calls Try.prog 15 #[.int .i64 64796, .int .i64 lane, .agg (bs b), .int .u64 x] w fun e w' => e = .returned (.tuple #[.agg (bs fun _ => 0), .int .i64 1]) ∧ Gr w w' :=
  ev_path (E := envR [b]) (E' := envR [sA]) rfl (sumR_ok _ (one_byt hb)) (fuel := 60) (args' := [.int .i64 64796, .int .i64 (-1), .agg (bs sA), .int .u64 sX]) (laD lane 4 (-1) ++ [(decide (0 ≤ x), true), (decide (x < 18446744073709551616), true)]) rp64796nTs (reD_ok (laD_ok (by omega) (by omega)) hx) (fun β => by kernel_rfl) w
--EVTS rp64796iTs | fun (lane x : Int) (b : Nat → Int) (β : Nat → Nat) => (rpPath 64796 lane (0) x b (.tuple #[.agg (bs (setI b 32 lane x)), .int .i64 0]) β, laD lane 4 (0) ++ [(decide (0 ≤ x), true), (decide (x < 18446744073709551616), true)])
def rp64796iTs : List Nat := [4, 3, 0, 0, 0, 2, 1, 1, 1, 0, 0, 0, 1, 1, 1, 0, 0, 0, 0, 0, 0, 0, 0, 0]
theorem rp64796i (lane x : Int) (b : Nat → Int) (h : 0 ≤ lane ∧ lane < 4) (hx : 0 ≤ x ∧ x < 18446744073709551616) (hb : Byt b) (w : World) : Calls Try.prog 15 #[.int .i64 64796, .int .i64 lane, .agg (bs b), .int .u64 x] w fun e w' => e = .returned (.tuple #[.agg (bs (setI b 32 lane x)), .int .i64 0]) ∧ Gr w w' :=
  ev_path (E := envR [b]) (E' := envR [sA]) rfl (sumR_ok _ (one_byt hb)) (fuel := 60) (args' := [.int .i64 64796, .int .i64 (0), .agg (bs sA), .int .u64 sX]) (laD lane 4 (0) ++ [(decide (0 ≤ x), true), (decide (x < 18446744073709551616), true)]) rp64796iTs (reD_ok (laD_ok (by omega) (by omega)) hx) (fun β => by kernel_rfl) w
--EVTS rp64796oTs | fun (lane x : Int) (b : Nat → Int) (β : Nat → Nat) => (rpPath 64796 lane (4) x b (.tuple #[.agg (bs fun _ => 0), .int .i64 1]) β, laD lane 4 (4) ++ [(decide (0 ≤ x), true), (decide (x < 18446744073709551616), true)])
def rp64796oTs : List Nat := [2, 1, 1, 1, 0, 0, 0, 1, 1, 1, 0, 0, 0, 0, 0, 0, 0, 0, 0]
theorem rp64796o (lane x : Int) (b : Nat → Int) (h : 4 ≤ lane) (hx : 0 ≤ x ∧ x < 18446744073709551616) (hb : Byt b) (w : World) : Calls Try.prog 15 #[.int .i64 64796, .int .i64 lane, .agg (bs b), .int .u64 x] w fun e w' => e = .returned (.tuple #[.agg (bs fun _ => 0), .int .i64 1]) ∧ Gr w w' :=
  ev_path (E := envR [b]) (E' := envR [sA]) rfl (sumR_ok _ (one_byt hb)) (fuel := 60) (args' := [.int .i64 64796, .int .i64 (4), .agg (bs sA), .int .u64 sX]) (laD lane 4 (4) ++ [(decide (0 ≤ x), true), (decide (x < 18446744073709551616), true)]) rp64796oTs (reD_ok (laD_ok (by omega) (by omega)) hx) (fun β => by kernel_rfl) w
--EVTS rp64798nTs | fun (lane x : Int) (b : Nat → Int) (β : Nat → Nat) => (rpPath 64798 lane (-1) x b (.tuple #[.agg (bs fun _ => 0), .int .i64 1]) β, laD lane 2 (-1) ++ [(decide (0 ≤ x), true), (decide (x < 18446744073709551616), true)])
def rp64798nTs : List Nat := [0, 1, 1, 1, 1, 1, 1, 0, 0, 0, 0, 0, 0, 0, 0, 0, 0, 0]
theorem rp64798n (lane x : Int) (b : Nat → Int) (h : lane < 0) (hx : 0 ≤ x ∧ x < 18446744073709551616) (hb : Byt b) (w : World) : Calls Try.prog 15 #[.int .i64 64798, .int .i64 lane, .agg (bs b), .int .u64 x] w fun e w' => e = .returned (.tuple #[.agg (bs fun _ => 0), .int .i64 1]) ∧ Gr w w' :=
  ev_path (E := envR [b]) (E' := envR [sA]) rfl (sumR_ok _ (one_byt hb)) (fuel := 60) (args' := [.int .i64 64798, .int .i64 (-1), .agg (bs sA), .int .u64 sX]) (laD lane 2 (-1) ++ [(decide (0 ≤ x), true), (decide (x < 18446744073709551616), true)]) rp64798nTs (reD_ok (laD_ok (by omega) (by omega)) hx) (fun β => by kernel_rfl) w
--EVTS rp64798iTs | fun (lane x : Int) (b : Nat → Int) (β : Nat → Nat) => (rpPath 64798 lane (0) x b (.tuple #[.agg (bs (setI b 64 lane x)), .int .i64 0]) β, laD lane 2 (0) ++ [(decide (0 ≤ x), true), (decide (x < 18446744073709551616), true)])
def rp64798iTs : List Nat := [4, 3, 0, 0, 0, 0, 2, 1, 1, 1, 0, 0, 0, 0, 1, 1, 1, 0, 0, 0, 0, 0, 0, 0, 0, 0, 0, 0]
theorem rp64798i (lane x : Int) (b : Nat → Int) (h : 0 ≤ lane ∧ lane < 2) (hx : 0 ≤ x ∧ x < 18446744073709551616) (hb : Byt b) (w : World) : Calls Try.prog 15 #[.int .i64 64798, .int .i64 lane, .agg (bs b), .int .u64 x] w fun e w' => e = .returned (.tuple #[.agg (bs (setI b 64 lane x)), .int .i64 0]) ∧ Gr w w' :=
  ev_path (E := envR [b]) (E' := envR [sA]) rfl (sumR_ok _ (one_byt hb)) (fuel := 60) (args' := [.int .i64 64798, .int .i64 (0), .agg (bs sA), .int .u64 sX]) (laD lane 2 (0) ++ [(decide (0 ≤ x), true), (decide (x < 18446744073709551616), true)]) rp64798iTs (reD_ok (laD_ok (by omega) (by omega)) hx) (fun β => by kernel_rfl) w
--EVTS rp64798oTs | fun (lane x : Int) (b : Nat → Int) (β : Nat → Nat) => (rpPath 64798 lane (2) x b (.tuple #[.agg (bs fun _ => 0), .int .i64 1]) β, laD lane 2 (2) ++ [(decide (0 ≤ x), true), (decide (x < 18446744073709551616), true)])
def rp64798oTs : List Nat := [2, 1, 1, 1, 0, 0, 0, 0, 1, 1, 1, 0, 0, 0, 0, 0, 0, 0, 0, 0, 0, 0]
theorem rp64798o (lane x : Int) (b : Nat → Int) (h : 2 ≤ lane) (hx : 0 ≤ x ∧ x < 18446744073709551616) (hb : Byt b) (w : World) : Calls Try.prog 15 #[.int .i64 64798, .int .i64 lane, .agg (bs b), .int .u64 x] w fun e w' => e = .returned (.tuple #[.agg (bs fun _ => 0), .int .i64 1]) ∧ Gr w w' :=
  ev_path (E := envR [b]) (E' := envR [sA]) rfl (sumR_ok _ (one_byt hb)) (fuel := 60) (args' := [.int .i64 64798, .int .i64 (2), .agg (bs sA), .int .u64 sX]) (laD lane 2 (2) ++ [(decide (0 ≤ x), true), (decide (x < 18446744073709551616), true)]) rp64798oTs (reD_ok (laD_ok (by omega) (by omega)) hx) (fun β => by kernel_rfl) w
--EVTS sp64783Ts | fun (x : Int) (β : Nat → Nat) => (spPath 64783 x (.tuple #[.agg (bs fun m => IntKind.u8.wrap (Int.fdiv x (2 ^ (8 * m % 8)))), .int .i64 0]) β, ([] : List (Bool × Bool)))
def sp64783Ts : List Nat := [0, 0, 0, 0, 0, 0, 0, 0, 0, 0, 0, 0, 0, 0, 0, 0, 0, 0, 0, 0, 0, 0, 0, 0, 0, 0, 0, 0, 0, 0, 0, 0, 0, 0, 0, 0]
theorem sp64783 (x : Int)  (w : World) : Calls Try.prog 11 #[.int .i64 64783, .int .u64 x] w fun e w' => e = .returned (.tuple #[.agg (bs fun m => IntKind.u8.wrap (Int.fdiv x (2 ^ (8 * m % 8)))), .int .i64 0]) ∧ Gr w w' :=
  ev_path (E := envR []) (E' := envR []) rfl (sumR_ok _ (fun x hx => by cases hx)) (fuel := 60) (args' := [.int .i64 64783, .int .u64 sX]) (([] : List (Bool × Bool))) sp64783Ts (fun p hp => by cases hp) (fun β => by kernel_rfl) w
--EVTS sp64784Ts | fun (x : Int) (β : Nat → Nat) => (spPath 64784 x (.tuple #[.agg (bs fun m => IntKind.u8.wrap (Int.fdiv x (2 ^ (8 * m % 16)))), .int .i64 0]) β, ([] : List (Bool × Bool)))
def sp64784Ts : List Nat := [0, 0, 0, 0, 0, 0, 0, 0, 0, 0, 0, 0, 0, 0, 0, 0, 0, 0, 0, 0, 0, 0, 0, 0, 0, 0, 0, 0, 0, 0, 0, 0, 0, 0, 0, 0, 0, 0, 0, 0, 0, 0, 0, 0, 0, 0, 0, 0, 0, 0, 0, 0, 0, 0]
theorem sp64784 (x : Int)  (w : World) : Calls Try.prog 11 #[.int .i64 64784, .int .u64 x] w fun e w' => e = .returned (.tuple #[.agg (bs fun m => IntKind.u8.wrap (Int.fdiv x (2 ^ (8 * m % 16)))), .int .i64 0]) ∧ Gr w w' :=
  ev_path (E := envR []) (E' := envR []) rfl (sumR_ok _ (fun x hx => by cases hx)) (fuel := 60) (args' := [.int .i64 64784, .int .u64 sX]) (([] : List (Bool × Bool))) sp64784Ts (fun p hp => by cases hp) (fun β => by kernel_rfl) w
--EVTS sp64785Ts | fun (x : Int) (β : Nat → Nat) => (spPath 64785 x (.tuple #[.agg (bs fun m => IntKind.u8.wrap (Int.fdiv x (2 ^ (8 * m % 32)))), .int .i64 0]) β, ([] : List (Bool × Bool)))
def sp64785Ts : List Nat := [0, 0, 0, 0, 0, 0, 0, 0, 0, 0, 0, 0, 0, 0, 0, 0, 0, 0, 0, 0, 0, 0, 0, 0, 0, 0, 0, 0, 0, 0, 0, 0, 0, 0, 0, 0, 0, 0, 0, 0, 0, 0, 0, 0, 0, 0, 0, 0, 0, 0, 0, 0, 0, 0, 0, 0, 0, 0, 0, 0, 0, 0, 0, 0, 0, 0, 0, 0, 0, 0, 0, 0]
theorem sp64785 (x : Int)  (w : World) : Calls Try.prog 11 #[.int .i64 64785, .int .u64 x] w fun e w' => e = .returned (.tuple #[.agg (bs fun m => IntKind.u8.wrap (Int.fdiv x (2 ^ (8 * m % 32)))), .int .i64 0]) ∧ Gr w w' :=
  ev_path (E := envR []) (E' := envR []) rfl (sumR_ok _ (fun x hx => by cases hx)) (fuel := 60) (args' := [.int .i64 64785, .int .u64 sX]) (([] : List (Bool × Bool))) sp64785Ts (fun p hp => by cases hp) (fun β => by kernel_rfl) w
--EVTS sp64786Ts | fun (x : Int) (β : Nat → Nat) => (spPath 64786 x (.tuple #[.agg (bs fun m => IntKind.u8.wrap (Int.fdiv x (2 ^ (8 * m % 64)))), .int .i64 0]) β, ([] : List (Bool × Bool)))
def sp64786Ts : List Nat := [0, 0, 0, 0, 0, 0, 0, 0, 0, 0, 0, 0, 0, 0, 0, 0, 0, 0, 0, 0, 0, 0, 0, 0, 0, 0, 0, 0, 0, 0, 0, 0, 0, 0, 0, 0, 0, 0, 0, 0, 0, 0, 0, 0, 0, 0, 0, 0, 0, 0, 0, 0, 0, 0, 0, 0, 0, 0, 0, 0, 0, 0, 0, 0, 0, 0, 0, 0, 0, 0, 0, 0, 0, 0, 0, 0, 0, 0, 0, 0, 0, 0, 0, 0, 0, 0, 0, 0, 0, 0]
theorem sp64786 (x : Int)  (w : World) : Calls Try.prog 11 #[.int .i64 64786, .int .u64 x] w fun e w' => e = .returned (.tuple #[.agg (bs fun m => IntKind.u8.wrap (Int.fdiv x (2 ^ (8 * m % 64)))), .int .i64 0]) ∧ Gr w w' :=
  ev_path (E := envR []) (E' := envR []) rfl (sumR_ok _ (fun x hx => by cases hx)) (fuel := 60) (args' := [.int .i64 64786, .int .u64 sX]) (([] : List (Bool × Bool))) sp64786Ts (fun p hp => by cases hp) (fun β => by kernel_rfl) w
noncomputable def xnPath (op lane : Int) (b : Nat → Int) (v : Value) (β : Nat → Nat) : Out :=
  evPath (envR [b]) (envR [sA]) 60 13 [.int .i64 op, .int .i64 lane, .agg (bs b)] [.int .i64 0, .int .i64 0, .agg (bs sA)] v β
noncomputable def rnPath (op lane x : Int) (b : Nat → Int) (v : Value) (β : Nat → Nat) : Out :=
  evPath (envR [b]) (envR [sA]) 60 15 [.int .i64 op, .int .i64 lane, .agg (bs b), .int .u64 x] [.int .i64 0, .int .i64 0, .agg (bs sA), .int .u64 sX] v β
noncomputable def snPath (op x : Int) (v : Value) (β : Nat → Nat) : Out :=
  evPath (envR []) (envR []) 60 11 [.int .i64 op, .int .u64 x] [.int .i64 0, .int .u64 sX] v β
--EVTS xtNoTs | fun (op lane : Int) (b : Nat → Int) (β : Nat → Nat) => (xnPath op lane b (.tuple #[.int .u64 0, .int .i64 1]) β, [(op == 64789, false), (op == 64792, false), (op == 64795, false), (op == 64797, false), (op == 64790, false), (op == 64793, false)])
def xtNoTs : List Nat := [0, 0, 0, 0, 0, 0, 0, 0, 0, 0, 0, 4, 0, 3, 0, 6, 0, 5, 0, 0, 0, 0, 0, 0, 4, 0, 3, 0, 2, 0, 1, 0]
theorem xtNo (op lane : Int) (b : Nat → Int) (h : op ≠ 64789 ∧ op ≠ 64792 ∧ op ≠ 64795 ∧ op ≠ 64797 ∧ op ≠ 64790 ∧ op ≠ 64793) (hb : Byt b) (w : World) : Calls Try.prog 13 #[.int .i64 op, .int .i64 lane, .agg (bs b)] w fun e w' => e = .returned (.tuple #[.int .u64 0, .int .i64 1]) ∧ Gr w w' :=
  ev_path (E := envR [b]) (E' := envR [sA]) rfl (sumR_ok _ (one_byt hb)) (fuel := 60) (args' := [.int .i64 0, .int .i64 0, .agg (bs sA)]) ([(op == 64789, false), (op == 64792, false), (op == 64795, false), (op == 64797, false), (op == 64790, false), (op == 64793, false)]) xtNoTs (by intro p hp; simp only [List.mem_cons, List.not_mem_nil, or_false] at hp; rcases hp with rfl | rfl | rfl | rfl | rfl | rfl <;> (simp; omega)) (fun β => by kernel_rfl) w
--EVTS rpNoTs | fun (op lane x : Int) (b : Nat → Int) (β : Nat → Nat) => (rnPath op lane x b (.tuple #[.agg (bs fun _ => 0), .int .i64 1]) β, [(op == 64791, false), (op == 64794, false), (op == 64796, false), (op == 64798, false)])
def rpNoTs : List Nat := [0, 0, 0, 0, 0, 0, 0, 0, 0, 0, 0, 4, 0, 3, 0, 2, 0, 1, 0]
theorem rpNo (op lane x : Int) (b : Nat → Int) (h : op ≠ 64791 ∧ op ≠ 64794 ∧ op ≠ 64796 ∧ op ≠ 64798) (hb : Byt b) (w : World) : Calls Try.prog 15 #[.int .i64 op, .int .i64 lane, .agg (bs b), .int .u64 x] w fun e w' => e = .returned (.tuple #[.agg (bs fun _ => 0), .int .i64 1]) ∧ Gr w w' :=
  ev_path (E := envR [b]) (E' := envR [sA]) rfl (sumR_ok _ (one_byt hb)) (fuel := 60) (args' := [.int .i64 0, .int .i64 0, .agg (bs sA), .int .u64 sX]) ([(op == 64791, false), (op == 64794, false), (op == 64796, false), (op == 64798, false)]) rpNoTs (by intro p hp; simp only [List.mem_cons, List.not_mem_nil, or_false] at hp; rcases hp with rfl | rfl | rfl | rfl <;> (simp; omega)) (fun β => by kernel_rfl) w
--EVTS spNoTs | fun (op x : Int) (β : Nat → Nat) => (snPath op x (.tuple #[.agg (bs fun _ => 0), .int .i64 1]) β, [(op == 64783, false), (op == 64784, false), (op == 64785, false), (op == 64786, false)])
def spNoTs : List Nat := [0, 0, 4, 0, 3, 0, 2, 0, 1, 0]
theorem spNo (op x : Int) (h : op ≠ 64783 ∧ op ≠ 64784 ∧ op ≠ 64785 ∧ op ≠ 64786) (w : World) : Calls Try.prog 11 #[.int .i64 op, .int .u64 x] w fun e w' => e = .returned (.tuple #[.agg (bs fun _ => 0), .int .i64 1]) ∧ Gr w w' :=
  ev_path (E := envR []) (E' := envR []) rfl (sumR_ok _ (fun x hx => by cases hx)) (fuel := 60) (args' := [.int .i64 0, .int .u64 sX]) ([(op == 64783, false), (op == 64784, false), (op == 64785, false), (op == 64786, false)]) spNoTs (by intro p hp; simp only [List.mem_cons, List.not_mem_nil, or_false] at hp; rcases hp with rfl | rfl | rfl | rfl <;> (simp; omega)) (fun β => by kernel_rfl) w
theorem th_of {v n lane : Int} (hn : lanesI v = n) : (thereB v lane = true ↔ 0 ≤ lane ∧ lane < n) := by rw [there_iff, hn]
theorem th_no {v n lane : Int} (hn : lanesI v = n) (h : lane < 0 ∨ n ≤ lane) : thereB v lane = false := by
  cases hq : thereB v lane with
  | false => rfl
  | true => have := (th_of hn).1 hq; omega
theorem rextract_any (op lane : Int) (b : Nat → Int) (hb : Byt b) (w : World) : Calls Try.prog 13 #[.int .i64 op, .int .i64 lane, .agg (bs b)] w fun e w' => e = .returned (.tuple #[.int .u64 (exV op lane b), .int .i64 (if thereB (exW op) lane then 0 else 1)]) ∧ Gr w w' := by
  by_cases h : op = 64789 ∨ op = 64790 ∨ op = 64792 ∨ op = 64793 ∨ op = 64795 ∨ op = 64797
  · rcases h with rfl | rfl | rfl | rfl | rfl | rfl
    · have eW : exW 64789 = 8 := rfl
      have eS : exS 64789 = true := rfl
      have eL : lanesI 8 = 16 := rfl
      unfold exV
      rw [eW, eS]
      by_cases h1 : lane < 0
      · rw [th_no eL (.inl h1)]
        exact xt64789n lane b h1 hb w
      · by_cases h2 : lane < 16
        · rw [(th_of eL).2 ⟨by omega, h2⟩]
          have e : IntKind.u32.wrap (sgnI b 8 lane) = Int.tmod (IntKind.u64.wrap (sgnI b 8 lane)) 4294967296 := by
            have h0 : 0 ≤ IntKind.u64.wrap (sgnI b 8 lane) := by rw [IntKind.wrap_u64]; omega
            rw [Int.tmod_eq_emod_of_nonneg h0]
            simp only [IntKind.wrap_u64, IntKind.wrap_u32]
            omega
          simp only [if_true]
          rw [e]
          exact xt64789i lane b ⟨by omega, h2⟩ hb w
        · rw [th_no eL (.inr (by omega))]
          exact xt64789o lane b (by omega) hb w
    · have eW : exW 64790 = 8 := rfl
      have eS : exS 64790 = false := rfl
      have eL : lanesI 8 = 16 := rfl
      unfold exV
      rw [eW, eS]
      by_cases h1 : lane < 0
      · rw [th_no eL (.inl h1)]
        exact xt64790n lane b h1 hb w
      · by_cases h2 : lane < 16
        · rw [(th_of eL).2 ⟨by omega, h2⟩]
          simp only [Bool.false_eq_true, if_false, if_true]
          exact xt64790i lane b ⟨by omega, h2⟩ hb w
        · rw [th_no eL (.inr (by omega))]
          exact xt64790o lane b (by omega) hb w
    · have eW : exW 64792 = 16 := rfl
      have eS : exS 64792 = true := rfl
      have eL : lanesI 16 = 8 := rfl
      unfold exV
      rw [eW, eS]
      by_cases h1 : lane < 0
      · rw [th_no eL (.inl h1)]
        exact xt64792n lane b h1 hb w
      · by_cases h2 : lane < 8
        · rw [(th_of eL).2 ⟨by omega, h2⟩]
          have e : IntKind.u32.wrap (sgnI b 16 lane) = Int.tmod (IntKind.u64.wrap (sgnI b 16 lane)) 4294967296 := by
            have h0 : 0 ≤ IntKind.u64.wrap (sgnI b 16 lane) := by rw [IntKind.wrap_u64]; omega
            rw [Int.tmod_eq_emod_of_nonneg h0]
            simp only [IntKind.wrap_u64, IntKind.wrap_u32]
            omega
          simp only [if_true]
          rw [e]
          exact xt64792i lane b ⟨by omega, h2⟩ hb w
        · rw [th_no eL (.inr (by omega))]
          exact xt64792o lane b (by omega) hb w
    · have eW : exW 64793 = 16 := rfl
      have eS : exS 64793 = false := rfl
      have eL : lanesI 16 = 8 := rfl
      unfold exV
      rw [eW, eS]
      by_cases h1 : lane < 0
      · rw [th_no eL (.inl h1)]
        exact xt64793n lane b h1 hb w
      · by_cases h2 : lane < 8
        · rw [(th_of eL).2 ⟨by omega, h2⟩]
          simp only [Bool.false_eq_true, if_false, if_true]
          exact xt64793i lane b ⟨by omega, h2⟩ hb w
        · rw [th_no eL (.inr (by omega))]
          exact xt64793o lane b (by omega) hb w
    · have eW : exW 64795 = 32 := rfl
      have eS : exS 64795 = false := rfl
      have eL : lanesI 32 = 4 := rfl
      unfold exV
      rw [eW, eS]
      by_cases h1 : lane < 0
      · rw [th_no eL (.inl h1)]
        exact xt64795n lane b h1 hb w
      · by_cases h2 : lane < 4
        · rw [(th_of eL).2 ⟨by omega, h2⟩]
          simp only [Bool.false_eq_true, if_false, if_true]
          exact xt64795i lane b ⟨by omega, h2⟩ hb w
        · rw [th_no eL (.inr (by omega))]
          exact xt64795o lane b (by omega) hb w
    · have eW : exW 64797 = 64 := rfl
      have eS : exS 64797 = false := rfl
      have eL : lanesI 64 = 2 := rfl
      unfold exV
      rw [eW, eS]
      by_cases h1 : lane < 0
      · rw [th_no eL (.inl h1)]
        exact xt64797n lane b h1 hb w
      · by_cases h2 : lane < 2
        · rw [(th_of eL).2 ⟨by omega, h2⟩]
          simp only [Bool.false_eq_true, if_false, if_true]
          exact xt64797i lane b ⟨by omega, h2⟩ hb w
        · rw [th_no eL (.inr (by omega))]
          exact xt64797o lane b (by omega) hb w
  · have eW : exW op = 0 := by unfold exW; repeat (rw [if_neg (by omega)])
    have eL : lanesI 0 = 0 := rfl
    unfold exV
    rw [eW, th_no eL (by omega)]
    exact xtNo op lane b (by omega) hb w
theorem rreplace_any (op lane x : Int) (hx : 0 ≤ x ∧ x < 18446744073709551616) (b : Nat → Int) (hb : Byt b) (w : World) : Calls Try.prog 15 #[.int .i64 op, .int .i64 lane, .agg (bs b), .int .u64 x] w fun e w' => e = .returned (.tuple #[.agg (bs (reV op lane x b)), .int .i64 (if thereB (reW op) lane then 0 else 1)]) ∧ Gr w w' := by
  by_cases h : op = 64791 ∨ op = 64794 ∨ op = 64796 ∨ op = 64798
  · rcases h with rfl | rfl | rfl | rfl
    · have eW : reW 64791 = 8 := rfl
      have eL : lanesI 8 = 16 := rfl
      unfold reV
      rw [eW]
      by_cases h1 : lane < 0
      · rw [th_no eL (.inl h1)]
        exact rp64791n lane x b h1 hx hb w
      · by_cases h2 : lane < 16
        · rw [(th_of eL).2 ⟨by omega, h2⟩]
          exact rp64791i lane x b ⟨by omega, h2⟩ hx hb w
        · rw [th_no eL (.inr (by omega))]
          exact rp64791o lane x b (by omega) hx hb w
    · have eW : reW 64794 = 16 := rfl
      have eL : lanesI 16 = 8 := rfl
      unfold reV
      rw [eW]
      by_cases h1 : lane < 0
      · rw [th_no eL (.inl h1)]
        exact rp64794n lane x b h1 hx hb w
      · by_cases h2 : lane < 8
        · rw [(th_of eL).2 ⟨by omega, h2⟩]
          exact rp64794i lane x b ⟨by omega, h2⟩ hx hb w
        · rw [th_no eL (.inr (by omega))]
          exact rp64794o lane x b (by omega) hx hb w
    · have eW : reW 64796 = 32 := rfl
      have eL : lanesI 32 = 4 := rfl
      unfold reV
      rw [eW]
      by_cases h1 : lane < 0
      · rw [th_no eL (.inl h1)]
        exact rp64796n lane x b h1 hx hb w
      · by_cases h2 : lane < 4
        · rw [(th_of eL).2 ⟨by omega, h2⟩]
          exact rp64796i lane x b ⟨by omega, h2⟩ hx hb w
        · rw [th_no eL (.inr (by omega))]
          exact rp64796o lane x b (by omega) hx hb w
    · have eW : reW 64798 = 64 := rfl
      have eL : lanesI 64 = 2 := rfl
      unfold reV
      rw [eW]
      by_cases h1 : lane < 0
      · rw [th_no eL (.inl h1)]
        exact rp64798n lane x b h1 hx hb w
      · by_cases h2 : lane < 2
        · rw [(th_of eL).2 ⟨by omega, h2⟩]
          exact rp64798i lane x b ⟨by omega, h2⟩ hx hb w
        · rw [th_no eL (.inr (by omega))]
          exact rp64798o lane x b (by omega) hx hb w
  · have eW : reW op = 0 := by unfold reW; repeat (rw [if_neg (by omega)])
    have eL : lanesI 0 = 0 := rfl
    unfold reV
    rw [eW, th_no eL (by omega)]
    exact rpNo op lane x b (by omega) hb w
theorem spv_8 (x : Int) : bs (splV 8 x) = bs fun m => IntKind.u8.wrap (Int.fdiv x (2 ^ (8 * m % 8))) := by
  refine bs_congr fun m hm => ?_
  rw [IntKind.wrap_u8, Int.fdiv_eq_ediv_of_nonneg _ (Int.le_of_lt (Int.pow_pos (by decide)))]
  have h : m = 0 ∨ m = 1 ∨ m = 2 ∨ m = 3 ∨ m = 4 ∨ m = 5 ∨ m = 6 ∨ m = 7 ∨ m = 8 ∨ m = 9 ∨ m = 10 ∨ m = 11 ∨ m = 12 ∨ m = 13 ∨ m = 14 ∨ m = 15 := by omega
  rcases h with rfl | rfl | rfl | rfl | rfl | rfl | rfl | rfl | rfl | rfl | rfl | rfl | rfl | rfl | rfl | rfl
  · show x / 256 ^ 0 % 256 = x / 2 ^ 0 % 256; rfl
  · show x / 256 ^ 0 % 256 = x / 2 ^ 0 % 256; rfl
  · show x / 256 ^ 0 % 256 = x / 2 ^ 0 % 256; rfl
  · show x / 256 ^ 0 % 256 = x / 2 ^ 0 % 256; rfl
  · show x / 256 ^ 0 % 256 = x / 2 ^ 0 % 256; rfl
  · show x / 256 ^ 0 % 256 = x / 2 ^ 0 % 256; rfl
  · show x / 256 ^ 0 % 256 = x / 2 ^ 0 % 256; rfl
  · show x / 256 ^ 0 % 256 = x / 2 ^ 0 % 256; rfl
  · show x / 256 ^ 0 % 256 = x / 2 ^ 0 % 256; rfl
  · show x / 256 ^ 0 % 256 = x / 2 ^ 0 % 256; rfl
  · show x / 256 ^ 0 % 256 = x / 2 ^ 0 % 256; rfl
  · show x / 256 ^ 0 % 256 = x / 2 ^ 0 % 256; rfl
  · show x / 256 ^ 0 % 256 = x / 2 ^ 0 % 256; rfl
  · show x / 256 ^ 0 % 256 = x / 2 ^ 0 % 256; rfl
  · show x / 256 ^ 0 % 256 = x / 2 ^ 0 % 256; rfl
  · show x / 256 ^ 0 % 256 = x / 2 ^ 0 % 256; rfl
theorem spv_16 (x : Int) : bs (splV 16 x) = bs fun m => IntKind.u8.wrap (Int.fdiv x (2 ^ (8 * m % 16))) := by
  refine bs_congr fun m hm => ?_
  rw [IntKind.wrap_u8, Int.fdiv_eq_ediv_of_nonneg _ (Int.le_of_lt (Int.pow_pos (by decide)))]
  have h : m = 0 ∨ m = 1 ∨ m = 2 ∨ m = 3 ∨ m = 4 ∨ m = 5 ∨ m = 6 ∨ m = 7 ∨ m = 8 ∨ m = 9 ∨ m = 10 ∨ m = 11 ∨ m = 12 ∨ m = 13 ∨ m = 14 ∨ m = 15 := by omega
  rcases h with rfl | rfl | rfl | rfl | rfl | rfl | rfl | rfl | rfl | rfl | rfl | rfl | rfl | rfl | rfl | rfl
  · show x / 256 ^ 0 % 256 = x / 2 ^ 0 % 256; rfl
  · show x / 256 ^ 1 % 256 = x / 2 ^ 8 % 256; rfl
  · show x / 256 ^ 0 % 256 = x / 2 ^ 0 % 256; rfl
  · show x / 256 ^ 1 % 256 = x / 2 ^ 8 % 256; rfl
  · show x / 256 ^ 0 % 256 = x / 2 ^ 0 % 256; rfl
  · show x / 256 ^ 1 % 256 = x / 2 ^ 8 % 256; rfl
  · show x / 256 ^ 0 % 256 = x / 2 ^ 0 % 256; rfl
  · show x / 256 ^ 1 % 256 = x / 2 ^ 8 % 256; rfl
  · show x / 256 ^ 0 % 256 = x / 2 ^ 0 % 256; rfl
  · show x / 256 ^ 1 % 256 = x / 2 ^ 8 % 256; rfl
  · show x / 256 ^ 0 % 256 = x / 2 ^ 0 % 256; rfl
  · show x / 256 ^ 1 % 256 = x / 2 ^ 8 % 256; rfl
  · show x / 256 ^ 0 % 256 = x / 2 ^ 0 % 256; rfl
  · show x / 256 ^ 1 % 256 = x / 2 ^ 8 % 256; rfl
  · show x / 256 ^ 0 % 256 = x / 2 ^ 0 % 256; rfl
  · show x / 256 ^ 1 % 256 = x / 2 ^ 8 % 256; rfl
theorem spv_32 (x : Int) : bs (splV 32 x) = bs fun m => IntKind.u8.wrap (Int.fdiv x (2 ^ (8 * m % 32))) := by
  refine bs_congr fun m hm => ?_
  rw [IntKind.wrap_u8, Int.fdiv_eq_ediv_of_nonneg _ (Int.le_of_lt (Int.pow_pos (by decide)))]
  have h : m = 0 ∨ m = 1 ∨ m = 2 ∨ m = 3 ∨ m = 4 ∨ m = 5 ∨ m = 6 ∨ m = 7 ∨ m = 8 ∨ m = 9 ∨ m = 10 ∨ m = 11 ∨ m = 12 ∨ m = 13 ∨ m = 14 ∨ m = 15 := by omega
  rcases h with rfl | rfl | rfl | rfl | rfl | rfl | rfl | rfl | rfl | rfl | rfl | rfl | rfl | rfl | rfl | rfl
  · show x / 256 ^ 0 % 256 = x / 2 ^ 0 % 256; rfl
  · show x / 256 ^ 1 % 256 = x / 2 ^ 8 % 256; rfl
  · show x / 256 ^ 2 % 256 = x / 2 ^ 16 % 256; rfl
  · show x / 256 ^ 3 % 256 = x / 2 ^ 24 % 256; rfl
  · show x / 256 ^ 0 % 256 = x / 2 ^ 0 % 256; rfl
  · show x / 256 ^ 1 % 256 = x / 2 ^ 8 % 256; rfl
  · show x / 256 ^ 2 % 256 = x / 2 ^ 16 % 256; rfl
  · show x / 256 ^ 3 % 256 = x / 2 ^ 24 % 256; rfl
  · show x / 256 ^ 0 % 256 = x / 2 ^ 0 % 256; rfl
  · show x / 256 ^ 1 % 256 = x / 2 ^ 8 % 256; rfl
  · show x / 256 ^ 2 % 256 = x / 2 ^ 16 % 256; rfl
  · show x / 256 ^ 3 % 256 = x / 2 ^ 24 % 256; rfl
  · show x / 256 ^ 0 % 256 = x / 2 ^ 0 % 256; rfl
  · show x / 256 ^ 1 % 256 = x / 2 ^ 8 % 256; rfl
  · show x / 256 ^ 2 % 256 = x / 2 ^ 16 % 256; rfl
  · show x / 256 ^ 3 % 256 = x / 2 ^ 24 % 256; rfl
theorem spv_64 (x : Int) : bs (splV 64 x) = bs fun m => IntKind.u8.wrap (Int.fdiv x (2 ^ (8 * m % 64))) := by
  refine bs_congr fun m hm => ?_
  rw [IntKind.wrap_u8, Int.fdiv_eq_ediv_of_nonneg _ (Int.le_of_lt (Int.pow_pos (by decide)))]
  have h : m = 0 ∨ m = 1 ∨ m = 2 ∨ m = 3 ∨ m = 4 ∨ m = 5 ∨ m = 6 ∨ m = 7 ∨ m = 8 ∨ m = 9 ∨ m = 10 ∨ m = 11 ∨ m = 12 ∨ m = 13 ∨ m = 14 ∨ m = 15 := by omega
  rcases h with rfl | rfl | rfl | rfl | rfl | rfl | rfl | rfl | rfl | rfl | rfl | rfl | rfl | rfl | rfl | rfl
  · show x / 256 ^ 0 % 256 = x / 2 ^ 0 % 256; rfl
  · show x / 256 ^ 1 % 256 = x / 2 ^ 8 % 256; rfl
  · show x / 256 ^ 2 % 256 = x / 2 ^ 16 % 256; rfl
  · show x / 256 ^ 3 % 256 = x / 2 ^ 24 % 256; rfl
  · show x / 256 ^ 4 % 256 = x / 2 ^ 32 % 256; rfl
  · show x / 256 ^ 5 % 256 = x / 2 ^ 40 % 256; rfl
  · show x / 256 ^ 6 % 256 = x / 2 ^ 48 % 256; rfl
  · show x / 256 ^ 7 % 256 = x / 2 ^ 56 % 256; rfl
  · show x / 256 ^ 0 % 256 = x / 2 ^ 0 % 256; rfl
  · show x / 256 ^ 1 % 256 = x / 2 ^ 8 % 256; rfl
  · show x / 256 ^ 2 % 256 = x / 2 ^ 16 % 256; rfl
  · show x / 256 ^ 3 % 256 = x / 2 ^ 24 % 256; rfl
  · show x / 256 ^ 4 % 256 = x / 2 ^ 32 % 256; rfl
  · show x / 256 ^ 5 % 256 = x / 2 ^ 40 % 256; rfl
  · show x / 256 ^ 6 % 256 = x / 2 ^ 48 % 256; rfl
  · show x / 256 ^ 7 % 256 = x / 2 ^ 56 % 256; rfl
theorem rsplat_any (op x : Int) (w : World) : Calls Try.prog 11 #[.int .i64 op, .int .u64 x] w fun e w' => e = .returned (.tuple #[.agg (bs (splV (spW op) x)), .int .i64 (if spW op = 0 then 1 else 0)]) ∧ Gr w w' := by
  by_cases h : op = 64783 ∨ op = 64784 ∨ op = 64785 ∨ op = 64786
  · rcases h with rfl | rfl | rfl | rfl
    · have eW : spW 64783 = 8 := rfl
      rw [eW, spv_8]
      exact sp64783 x w
    · have eW : spW 64784 = 16 := rfl
      rw [eW, spv_16]
      exact sp64784 x w
    · have eW : spW 64785 = 32 := rfl
      rw [eW, spv_32]
      exact sp64785 x w
    · have eW : spW 64786 = 64 := rfl
      rw [eW, spv_64]
      exact sp64786 x w
  · have eW : spW op = 0 := by unfold spW; repeat (rw [if_neg (by omega)])
    rw [eW]
    have e : splV 0 x = fun _ => 0 := rfl
    rw [e]
    exact spNo op x (by omega) w
end Mv
end Go.Proofs.Ytaahkpjdffgagaa
