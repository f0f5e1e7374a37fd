/-
  The reference's Un of layer 8 is widen.Un, for all opcodes and vectors. Conditions: bytes.
-/
import Derived.Test.YtkccaaieadgdbaaWdSum
import Derived.Test.YtkccaaieadgdbaaRefS2
import Derived.Test.YtkccaaieadgdbaaWdExt
namespace Go.Proofs.Ytkccaaieadgdbaa
open Go.RowKit VecM Ev
namespace Wd
noncomputable def sumR (f : FuncId) (args : List Value) : Option (List (List Value) × (List (Nat → Int) → Value × List Bool)) :=
  match Nat.beq f 33 with
  | true => match args with
    | [.agg ⟨c⟩, .int .i64 v, .int .i64 i] => some ([c], fun fs => (.int .i64 (sgnI (hd1 fs) v i), []))
    | _ => none
  | false => match Nat.beq f 35 with
    | true => match args with
      | [.agg ⟨c⟩, .int .i64 v, .int .i64 i] => some ([c], fun fs => (.int .u64 (getI (hd1 fs) v i), []))
      | _ => none
    | false => match Nat.beq f 25 with
      | true => match args with
        | [.agg ⟨c⟩, .int .i64 v, .int .i64 i, .int .u64 x] => some ([c], fun fs => (.agg (bs (setI (hd1 fs) v i x)), [decide (0 ≤ x), decide (x < 18446744073709551616)]))
        | _ => none
      | false => none
noncomputable def envR (K : List (Nat → Int)) : Env := { P := Try.prog, known := K, sum := sumR }
theorem sumR_ok (K : List (Nat → Int)) (hK : ∀ x ∈ K, Byt x) : SumOk (envR K) := by
  intro f args cs mk h fs hcs hfs hp w
  replace h : sumR f args = some (cs, mk) := h
  unfold sumR at h
  split at h
  · rename_i hf
    obtain rfl := Nat.eq_of_beq_eq_true hf
    split at h
    · cases h
      obtain ⟨x, rfl, rfl⟩ := one_fs hcs
      exact rsigned_any x (hK x (hfs x (List.mem_cons_self ..))) _ _ w
    · cases h
  · split at h
    · rename_i hf
      obtain rfl := Nat.eq_of_beq_eq_true hf
      split at h
      · cases h
        obtain ⟨x, rfl, rfl⟩ := one_fs hcs
        exact rget_any x (hK x (hfs x (List.mem_cons_self ..))) _ _ w
      · cases h
    · split at h
      · rename_i hf
        obtain rfl := Nat.eq_of_beq_eq_true hf
        split at h
        · cases h
          obtain ⟨x, rfl, rfl⟩ := one_fs hcs
          have h1 := hp _ (List.mem_cons_self ..)
          have h2 := hp _ (List.mem_cons_of_mem _ (List.mem_cons_self ..))
          simp only [decide_eq_true_eq] at h1 h2
          exact rset_any x _ _ _ h1 h2 w
        · cases h
      · cases h
theorem ofK_cong {z : Nat → Int} {v : Int} {f g : Nat → Int} : ∀ {L : Nat}, (∀ i, i < L → f i = g i) → ofK z v f L = ofK z v g L
  | 0, _ => rfl
  | L + 1, h => by rw [ofK, ofK, ofK_cong fun i hi => h i (by omega), h L (by omega)]
/-- all vectors that are made lane by lane -/
def chain (z : Nat → Int) (v : Int) (f : Nat → Int) (L : Nat) : List (Nat → Int) := (List.range L).map fun (i : Nat) => ofK z v f (i + 1)
theorem chain_byt {z : Nat → Int} (hz : Byt z) (v : Int) (f : Nat → Int) (L : Nat) : ∀ x ∈ chain z v f L, Byt x := by
  intro x hx
  obtain ⟨i, _, rfl⟩ := List.mem_map.1 hx
  exact ofK_byt hz _ _ _
def rgD (f : Nat → Int) (L : Nat) : List (Bool × Bool) := (List.range L).flatMap fun (i : Nat) => [(decide (0 ≤ f i), true), (decide (f i < 18446744073709551616), true)]
theorem rgD_ok {f g : Nat → Int} {L : Nat} (h : ∀ i, f i = IntKind.u64.wrap (g i)) : ∀ p ∈ rgD f L, p.1 = p.2 := by
  intro p hp
  unfold rgD at hp
  simp only [List.mem_flatMap, List.mem_range, List.mem_cons, List.not_mem_nil, or_false] at hp
  obtain ⟨i, _, rfl | rfl⟩ := hp <;> (have := h i; rw [IntKind.wrap_u64] at this; simp; omega)
def rL (sg : Bool) (b : Nat → Int) (w m : Int) : Int := match sg with | true => sgnI b w m | false => IntKind.i64.wrap (getI b w m)
def exF (sg : Bool) (w o : Int) (b : Nat → Int) : Nat → Int := fun i => IntKind.u64.wrap (rL sg b w (o + i))
def pwF (sg : Bool) (w : Int) (b : Nat → Int) : Nat → Int := fun i => IntKind.u64.wrap (IntKind.i64.wrap (rL sg b w (2 * i) + rL sg b w (2 * i + 1)))
noncomputable def ruPath (op : Int) (f : (Nat → Int) → Nat → Int) (v : Int) (L : Nat) (b : Nat → Int) (β : Nat → Fr) : Out :=
  evPath (envR (b :: (fun _ => 0) :: chain (fun _ => 0) v (f b) L)) (envR (sA :: (fun _ => 0) :: chain (fun _ => 0) v (f sA) L)) 60 11 [.int .i64 op, .agg (bs b)] [.int .i64 op, .agg (bs sA)] (.tuple #[.agg (bs (ofK (fun _ => 0) v (f b) L)), .int .i64 0]) β
theorem chainK_byt {b : Nat → Int} (hb : Byt b) (v : Int) (f : Nat → Int) (L : Nat) : ∀ x ∈ b :: (fun _ => 0) :: chain (fun _ => 0) v f L, Byt x := by
  intro x hx
  rcases List.mem_cons.1 hx with rfl | hx
  · exact hb
  · rcases List.mem_cons.1 hx with rfl | hx
    · exact byt0
    · exact chain_byt byt0 _ _ _ x hx
--EVTS ruTs64903 | fun (b : Nat → Int) (β : Nat → Fr) => (ruPath 64903 (exF true 8 0) 16 8 b β, rgD ((exF true 8 0) b) 8)
def ruTs64903 : List Nat := [0, 16, 15, 0, 0, 0, 14, 13, 0, 0, 0, 12, 11, 0, 0, 0, 10, 9, 0, 0, 0, 8, 7, 0, 0, 0, 6, 5, 0, 0, 0, 4, 3, 0, 0, 0, 2, 1, 0, 0, 0, 0, 0, 0, 0, 0, 0, 0]
theorem ru_64903 (b : Nat → Int) (hb : Byt b) (w : World) : Calls Try.prog 11 #[.int .i64 64903, .agg (bs b)] w fun e w' => e = .returned (.tuple #[.agg (bs (ofK (fun _ => 0) 16 ((exF true 8 0) b) 8)), .int .i64 0]) ∧ Gr w w' :=
  ev_path (E := envR (b :: (fun _ => 0) :: chain (fun _ => 0) 16 ((exF true 8 0) b) 8)) (E' := envR (sA :: (fun _ => 0) :: chain (fun _ => 0) 16 ((exF true 8 0) sA) 8)) rfl (sumR_ok _ (chainK_byt hb _ _ _)) (fuel := 60) (args' := [.int .i64 64903, .agg (bs sA)]) (rgD ((exF true 8 0) b) 8) ruTs64903 (rgD_ok fun _ => rfl) (fun β => by kernel_rfl) w
--EVTS ruTs64905 | fun (b : Nat → Int) (β : Nat → Fr) => (ruPath 64905 (exF false 8 0) 16 8 b β, rgD ((exF false 8 0) b) 8)
def ruTs64905 : List Nat := [0, 16, 15, 0, 0, 0, 14, 13, 0, 0, 0, 12, 11, 0, 0, 0, 10, 9, 0, 0, 0, 8, 7, 0, 0, 0, 6, 5, 0, 0, 0, 4, 3, 0, 0, 0, 2, 1, 0, 0, 0, 0, 0, 0, 0, 0, 0, 0]
theorem ru_64905 (b : Nat → Int) (hb : Byt b) (w : World) : Calls Try.prog 11 #[.int .i64 64905, .agg (bs b)] w fun e w' => e = .returned (.tuple #[.agg (bs (ofK (fun _ => 0) 16 ((exF false 8 0) b) 8)), .int .i64 0]) ∧ Gr w w' :=
  ev_path (E := envR (b :: (fun _ => 0) :: chain (fun _ => 0) 16 ((exF false 8 0) b) 8)) (E' := envR (sA :: (fun _ => 0) :: chain (fun _ => 0) 16 ((exF false 8 0) sA) 8)) rfl (sumR_ok _ (chainK_byt hb _ _ _)) (fuel := 60) (args' := [.int .i64 64905, .agg (bs sA)]) (rgD ((exF false 8 0) b) 8) ruTs64905 (rgD_ok fun _ => rfl) (fun β => by kernel_rfl) w
--EVTS ruTs64904 | fun (b : Nat → Int) (β : Nat → Fr) => (ruPath 64904 (exF true 8 8) 16 8 b β, rgD ((exF true 8 8) b) 8)
def ruTs64904 : List Nat := [0, 16, 15, 0, 0, 0, 14, 13, 0, 0, 0, 12, 11, 0, 0, 0, 10, 9, 0, 0, 0, 8, 7, 0, 0, 0, 6, 5, 0, 0, 0, 4, 3, 0, 0, 0, 2, 1, 0, 0, 0, 0, 0, 0, 0, 0, 0, 0]
theorem ru_64904 (b : Nat → Int) (hb : Byt b) (w : World) : Calls Try.prog 11 #[.int .i64 64904, .agg (bs b)] w fun e w' => e = .returned (.tuple #[.agg (bs (ofK (fun _ => 0) 16 ((exF true 8 8) b) 8)), .int .i64 0]) ∧ Gr w w' :=
  ev_path (E := envR (b :: (fun _ => 0) :: chain (fun _ => 0) 16 ((exF true 8 8) b) 8)) (E' := envR (sA :: (fun _ => 0) :: chain (fun _ => 0) 16 ((exF true 8 8) sA) 8)) rfl (sumR_ok _ (chainK_byt hb _ _ _)) (fuel := 60) (args' := [.int .i64 64904, .agg (bs sA)]) (rgD ((exF true 8 8) b) 8) ruTs64904 (rgD_ok fun _ => rfl) (fun β => by kernel_rfl) w
--EVTS ruTs64906 | fun (b : Nat → Int) (β : Nat → Fr) => (ruPath 64906 (exF false 8 8) 16 8 b β, rgD ((exF false 8 8) b) 8)
def ruTs64906 : List Nat := [0, 16, 15, 0, 0, 0, 14, 13, 0, 0, 0, 12, 11, 0, 0, 0, 10, 9, 0, 0, 0, 8, 7, 0, 0, 0, 6, 5, 0, 0, 0, 4, 3, 0, 0, 0, 2, 1, 0, 0, 0, 0, 0, 0, 0, 0, 0, 0]
theorem ru_64906 (b : Nat → Int) (hb : Byt b) (w : World) : Calls Try.prog 11 #[.int .i64 64906, .agg (bs b)] w fun e w' => e = .returned (.tuple #[.agg (bs (ofK (fun _ => 0) 16 ((exF false 8 8) b) 8)), .int .i64 0]) ∧ Gr w w' :=
  ev_path (E := envR (b :: (fun _ => 0) :: chain (fun _ => 0) 16 ((exF false 8 8) b) 8)) (E' := envR (sA :: (fun _ => 0) :: chain (fun _ => 0) 16 ((exF false 8 8) sA) 8)) rfl (sumR_ok _ (chainK_byt hb _ _ _)) (fuel := 60) (args' := [.int .i64 64906, .agg (bs sA)]) (rgD ((exF false 8 8) b) 8) ruTs64906 (rgD_ok fun _ => rfl) (fun β => by kernel_rfl) w
--EVTS ruTs64935 | fun (b : Nat → Int) (β : Nat → Fr) => (ruPath 64935 (exF true 16 0) 32 4 b β, rgD ((exF true 16 0) b) 4)
def ruTs64935 : List Nat := [0, 8, 7, 0, 0, 0, 6, 5, 0, 0, 0, 4, 3, 0, 0, 0, 2, 1, 0, 0, 0, 0, 0, 0, 0, 0, 0, 0, 0, 0, 0, 0, 0, 0, 0]
theorem ru_64935 (b : Nat → Int) (hb : Byt b) (w : World) : Calls Try.prog 11 #[.int .i64 64935, .agg (bs b)] w fun e w' => e = .returned (.tuple #[.agg (bs (ofK (fun _ => 0) 32 ((exF true 16 0) b) 4)), .int .i64 0]) ∧ Gr w w' :=
  ev_path (E := envR (b :: (fun _ => 0) :: chain (fun _ => 0) 32 ((exF true 16 0) b) 4)) (E' := envR (sA :: (fun _ => 0) :: chain (fun _ => 0) 32 ((exF true 16 0) sA) 4)) rfl (sumR_ok _ (chainK_byt hb _ _ _)) (fuel := 60) (args' := [.int .i64 64935, .agg (bs sA)]) (rgD ((exF true 16 0) b) 4) ruTs64935 (rgD_ok fun _ => rfl) (fun β => by kernel_rfl) w
--EVTS ruTs64937 | fun (b : Nat → Int) (β : Nat → Fr) => (ruPath 64937 (exF false 16 0) 32 4 b β, rgD ((exF false 16 0) b) 4)
def ruTs64937 : List Nat := [0, 8, 7, 0, 0, 0, 6, 5, 0, 0, 0, 4, 3, 0, 0, 0, 2, 1, 0, 0, 0, 0, 0, 0, 0, 0, 0, 0, 0, 0, 0, 0, 0, 0, 0]
theorem ru_64937 (b : Nat → Int) (hb : Byt b) (w : World) : Calls Try.prog 11 #[.int .i64 64937, .agg (bs b)] w fun e w' => e = .returned (.tuple #[.agg (bs (ofK (fun _ => 0) 32 ((exF false 16 0) b) 4)), .int .i64 0]) ∧ Gr w w' :=
  ev_path (E := envR (b :: (fun _ => 0) :: chain (fun _ => 0) 32 ((exF false 16 0) b) 4)) (E' := envR (sA :: (fun _ => 0) :: chain (fun _ => 0) 32 ((exF false 16 0) sA) 4)) rfl (sumR_ok _ (chainK_byt hb _ _ _)) (fuel := 60) (args' := [.int .i64 64937, .agg (bs sA)]) (rgD ((exF false 16 0) b) 4) ruTs64937 (rgD_ok fun _ => rfl) (fun β => by kernel_rfl) w
--EVTS ruTs64936 | fun (b : Nat → Int) (β : Nat → Fr) => (ruPath 64936 (exF true 16 4) 32 4 b β, rgD ((exF true 16 4) b) 4)
def ruTs64936 : List Nat := [0, 8, 7, 0, 0, 0, 6, 5, 0, 0, 0, 4, 3, 0, 0, 0, 2, 1, 0, 0, 0, 0, 0, 0, 0, 0, 0, 0, 0, 0, 0, 0, 0, 0, 0]
theorem ru_64936 (b : Nat → Int) (hb : Byt b) (w : World) : Calls Try.prog 11 #[.int .i64 64936, .agg (bs b)] w fun e w' => e = .returned (.tuple #[.agg (bs (ofK (fun _ => 0) 32 ((exF true 16 4) b) 4)), .int .i64 0]) ∧ Gr w w' :=
  ev_path (E := envR (b :: (fun _ => 0) :: chain (fun _ => 0) 32 ((exF true 16 4) b) 4)) (E' := envR (sA :: (fun _ => 0) :: chain (fun _ => 0) 32 ((exF true 16 4) sA) 4)) rfl (sumR_ok _ (chainK_byt hb _ _ _)) (fuel := 60) (args' := [.int .i64 64936, .agg (bs sA)]) (rgD ((exF true 16 4) b) 4) ruTs64936 (rgD_ok fun _ => rfl) (fun β => by kernel_rfl) w
--EVTS ruTs64938 | fun (b : Nat → Int) (β : Nat → Fr) => (ruPath 64938 (exF false 16 4) 32 4 b β, rgD ((exF false 16 4) b) 4)
def ruTs64938 : List Nat := [0, 8, 7, 0, 0, 0, 6, 5, 0, 0, 0, 4, 3, 0, 0, 0, 2, 1, 0, 0, 0, 0, 0, 0, 0, 0, 0, 0, 0, 0, 0, 0, 0, 0, 0]
theorem ru_64938 (b : Nat → Int) (hb : Byt b) (w : World) : Calls Try.prog 11 #[.int .i64 64938, .agg (bs b)] w fun e w' => e = .returned (.tuple #[.agg (bs (ofK (fun _ => 0) 32 ((exF false 16 4) b) 4)), .int .i64 0]) ∧ Gr w w' :=
  ev_path (E := envR (b :: (fun _ => 0) :: chain (fun _ => 0) 32 ((exF false 16 4) b) 4)) (E' := envR (sA :: (fun _ => 0) :: chain (fun _ => 0) 32 ((exF false 16 4) sA) 4)) rfl (sumR_ok _ (chainK_byt hb _ _ _)) (fuel := 60) (args' := [.int .i64 64938, .agg (bs sA)]) (rgD ((exF false 16 4) b) 4) ruTs64938 (rgD_ok fun _ => rfl) (fun β => by kernel_rfl) w
--EVTS ruTs64967 | fun (b : Nat → Int) (β : Nat → Fr) => (ruPath 64967 (exF true 32 0) 64 2 b β, rgD ((exF true 32 0) b) 2)
def ruTs64967 : List Nat := [0, 4, 3, 0, 0, 0, 2, 1, 0, 0, 0, 0, 0, 0, 0, 0, 0, 0, 0, 0, 0, 0, 0, 0, 0, 0, 0, 0, 0, 0, 0, 0]
theorem ru_64967 (b : Nat → Int) (hb : Byt b) (w : World) : Calls Try.prog 11 #[.int .i64 64967, .agg (bs b)] w fun e w' => e = .returned (.tuple #[.agg (bs (ofK (fun _ => 0) 64 ((exF true 32 0) b) 2)), .int .i64 0]) ∧ Gr w w' :=
  ev_path (E := envR (b :: (fun _ => 0) :: chain (fun _ => 0) 64 ((exF true 32 0) b) 2)) (E' := envR (sA :: (fun _ => 0) :: chain (fun _ => 0) 64 ((exF true 32 0) sA) 2)) rfl (sumR_ok _ (chainK_byt hb _ _ _)) (fuel := 60) (args' := [.int .i64 64967, .agg (bs sA)]) (rgD ((exF true 32 0) b) 2) ruTs64967 (rgD_ok fun _ => rfl) (fun β => by kernel_rfl) w
--EVTS ruTs64969 | fun (b : Nat → Int) (β : Nat → Fr) => (ruPath 64969 (exF false 32 0) 64 2 b β, rgD ((exF false 32 0) b) 2)
def ruTs64969 : List Nat := [0, 4, 3, 0, 0, 0, 2, 1, 0, 0, 0, 0, 0, 0, 0, 0, 0, 0, 0, 0, 0, 0, 0, 0, 0, 0, 0, 0, 0, 0, 0, 0]
theorem ru_64969 (b : Nat → Int) (hb : Byt b) (w : World) : Calls Try.prog 11 #[.int .i64 64969, .agg (bs b)] w fun e w' => e = .returned (.tuple #[.agg (bs (ofK (fun _ => 0) 64 ((exF false 32 0) b) 2)), .int .i64 0]) ∧ Gr w w' :=
  ev_path (E := envR (b :: (fun _ => 0) :: chain (fun _ => 0) 64 ((exF false 32 0) b) 2)) (E' := envR (sA :: (fun _ => 0) :: chain (fun _ => 0) 64 ((exF false 32 0) sA) 2)) rfl (sumR_ok _ (chainK_byt hb _ _ _)) (fuel := 60) (args' := [.int .i64 64969, .agg (bs sA)]) (rgD ((exF false 32 0) b) 2) ruTs64969 (rgD_ok fun _ => rfl) (fun β => by kernel_rfl) w
--EVTS ruTs64968 | fun (b : Nat → Int) (β : Nat → Fr) => (ruPath 64968 (exF true 32 2) 64 2 b β, rgD ((exF true 32 2) b) 2)
def ruTs64968 : List Nat := [0, 4, 3, 0, 0, 0, 2, 1, 0, 0, 0, 0, 0, 0, 0, 0, 0, 0, 0, 0, 0, 0, 0, 0, 0, 0, 0, 0, 0, 0, 0, 0]
theorem ru_64968 (b : Nat → Int) (hb : Byt b) (w : World) : Calls Try.prog 11 #[.int .i64 64968, .agg (bs b)] w fun e w' => e = .returned (.tuple #[.agg (bs (ofK (fun _ => 0) 64 ((exF true 32 2) b) 2)), .int .i64 0]) ∧ Gr w w' :=
  ev_path (E := envR (b :: (fun _ => 0) :: chain (fun _ => 0) 64 ((exF true 32 2) b) 2)) (E' := envR (sA :: (fun _ => 0) :: chain (fun _ => 0) 64 ((exF true 32 2) sA) 2)) rfl (sumR_ok _ (chainK_byt hb _ _ _)) (fuel := 60) (args' := [.int .i64 64968, .agg (bs sA)]) (rgD ((exF true 32 2) b) 2) ruTs64968 (rgD_ok fun _ => rfl) (fun β => by kernel_rfl) w
--EVTS ruTs64970 | fun (b : Nat → Int) (β : Nat → Fr) => (ruPath 64970 (exF false 32 2) 64 2 b β, rgD ((exF false 32 2) b) 2)
def ruTs64970 : List Nat := [0, 4, 3, 0, 0, 0, 2, 1, 0, 0, 0, 0, 0, 0, 0, 0, 0, 0, 0, 0, 0, 0, 0, 0, 0, 0, 0, 0, 0, 0, 0, 0]
theorem ru_64970 (b : Nat → Int) (hb : Byt b) (w : World) : Calls Try.prog 11 #[.int .i64 64970, .agg (bs b)] w fun e w' => e = .returned (.tuple #[.agg (bs (ofK (fun _ => 0) 64 ((exF false 32 2) b) 2)), .int .i64 0]) ∧ Gr w w' :=
  ev_path (E := envR (b :: (fun _ => 0) :: chain (fun _ => 0) 64 ((exF false 32 2) b) 2)) (E' := envR (sA :: (fun _ => 0) :: chain (fun _ => 0) 64 ((exF false 32 2) sA) 2)) rfl (sumR_ok _ (chainK_byt hb _ _ _)) (fuel := 60) (args' := [.int .i64 64970, .agg (bs sA)]) (rgD ((exF false 32 2) b) 2) ruTs64970 (rgD_ok fun _ => rfl) (fun β => by kernel_rfl) w
--EVTS ruTs64892 | fun (b : Nat → Int) (β : Nat → Fr) => (ruPath 64892 (pwF true 8) 16 8 b β, rgD ((pwF true 8) b) 8)
def ruTs64892 : List Nat := [0, 16, 15, 0, 0, 0, 14, 13, 0, 0, 0, 12, 11, 0, 0, 0, 10, 9, 0, 0, 0, 8, 7, 0, 0, 0, 6, 5, 0, 0, 0, 4, 3, 0, 0, 0, 2, 1, 0, 0, 0, 0, 0, 0, 0, 0, 0, 0, 0, 0, 0, 0, 0, 0, 0, 0, 0, 0, 0, 0, 0, 0, 0, 0, 0]
theorem ru_64892 (b : Nat → Int) (hb : Byt b) (w : World) : Calls Try.prog 11 #[.int .i64 64892, .agg (bs b)] w fun e w' => e = .returned (.tuple #[.agg (bs (ofK (fun _ => 0) 16 ((pwF true 8) b) 8)), .int .i64 0]) ∧ Gr w w' :=
  ev_path (E := envR (b :: (fun _ => 0) :: chain (fun _ => 0) 16 ((pwF true 8) b) 8)) (E' := envR (sA :: (fun _ => 0) :: chain (fun _ => 0) 16 ((pwF true 8) sA) 8)) rfl (sumR_ok _ (chainK_byt hb _ _ _)) (fuel := 60) (args' := [.int .i64 64892, .agg (bs sA)]) (rgD ((pwF true 8) b) 8) ruTs64892 (rgD_ok fun _ => rfl) (fun β => by kernel_rfl) w
--EVTS ruTs64893 | fun (b : Nat → Int) (β : Nat → Fr) => (ruPath 64893 (pwF false 8) 16 8 b β, rgD ((pwF false 8) b) 8)
def ruTs64893 : List Nat := [0, 16, 15, 0, 0, 0, 14, 13, 0, 0, 0, 12, 11, 0, 0, 0, 10, 9, 0, 0, 0, 8, 7, 0, 0, 0, 6, 5, 0, 0, 0, 4, 3, 0, 0, 0, 2, 1, 0, 0, 0, 0, 0, 0, 0, 0, 0, 0, 0, 0, 0, 0, 0, 0, 0, 0, 0, 0, 0, 0, 0, 0, 0, 0, 0, 0, 0]
theorem ru_64893 (b : Nat → Int) (hb : Byt b) (w : World) : Calls Try.prog 11 #[.int .i64 64893, .agg (bs b)] w fun e w' => e = .returned (.tuple #[.agg (bs (ofK (fun _ => 0) 16 ((pwF false 8) b) 8)), .int .i64 0]) ∧ Gr w w' :=
  ev_path (E := envR (b :: (fun _ => 0) :: chain (fun _ => 0) 16 ((pwF false 8) b) 8)) (E' := envR (sA :: (fun _ => 0) :: chain (fun _ => 0) 16 ((pwF false 8) sA) 8)) rfl (sumR_ok _ (chainK_byt hb _ _ _)) (fuel := 60) (args' := [.int .i64 64893, .agg (bs sA)]) (rgD ((pwF false 8) b) 8) ruTs64893 (rgD_ok fun _ => rfl) (fun β => by kernel_rfl) w
--EVTS ruTs64894 | fun (b : Nat → Int) (β : Nat → Fr) => (ruPath 64894 (pwF true 16) 32 4 b β, rgD ((pwF true 16) b) 4)
def ruTs64894 : List Nat := [0, 8, 7, 0, 0, 0, 6, 5, 0, 0, 0, 4, 3, 0, 0, 0, 2, 1, 0, 0, 0, 0, 0, 0, 0, 0, 0, 0, 0, 0, 0, 0, 0, 0, 0, 0, 0, 0, 0, 0, 0, 0, 0, 0, 0, 0, 0, 0, 0]
theorem ru_64894 (b : Nat → Int) (hb : Byt b) (w : World) : Calls Try.prog 11 #[.int .i64 64894, .agg (bs b)] w fun e w' => e = .returned (.tuple #[.agg (bs (ofK (fun _ => 0) 32 ((pwF true 16) b) 4)), .int .i64 0]) ∧ Gr w w' :=
  ev_path (E := envR (b :: (fun _ => 0) :: chain (fun _ => 0) 32 ((pwF true 16) b) 4)) (E' := envR (sA :: (fun _ => 0) :: chain (fun _ => 0) 32 ((pwF true 16) sA) 4)) rfl (sumR_ok _ (chainK_byt hb _ _ _)) (fuel := 60) (args' := [.int .i64 64894, .agg (bs sA)]) (rgD ((pwF true 16) b) 4) ruTs64894 (rgD_ok fun _ => rfl) (fun β => by kernel_rfl) w
--EVTS ruTs64895 | fun (b : Nat → Int) (β : Nat → Fr) => (ruPath 64895 (pwF false 16) 32 4 b β, rgD ((pwF false 16) b) 4)
def ruTs64895 : List Nat := [0, 8, 7, 0, 0, 0, 6, 5, 0, 0, 0, 4, 3, 0, 0, 0, 2, 1, 0, 0, 0, 0, 0, 0, 0, 0, 0, 0, 0, 0, 0, 0, 0, 0, 0, 0, 0, 0, 0, 0, 0, 0, 0, 0, 0, 0, 0, 0, 0, 0, 0]
theorem ru_64895 (b : Nat → Int) (hb : Byt b) (w : World) : Calls Try.prog 11 #[.int .i64 64895, .agg (bs b)] w fun e w' => e = .returned (.tuple #[.agg (bs (ofK (fun _ => 0) 32 ((pwF false 16) b) 4)), .int .i64 0]) ∧ Gr w w' :=
  ev_path (E := envR (b :: (fun _ => 0) :: chain (fun _ => 0) 32 ((pwF false 16) b) 4)) (E' := envR (sA :: (fun _ => 0) :: chain (fun _ => 0) 32 ((pwF false 16) sA) 4)) rfl (sumR_ok _ (chainK_byt hb _ _ _)) (fuel := 60) (args' := [.int .i64 64895, .agg (bs sA)]) (rgD ((pwF false 16) b) 4) ruTs64895 (rgD_ok fun _ => rfl) (fun β => by kernel_rfl) w
/-! ### no opcode -/
def noD (op t : Int) : List (Bool × Bool) := ([64903, 64935, 64967].flatMap fun b => [(decide (op ≥ b), decide (t ≥ b)), (decide (op < b + 4), decide (t < b + 4))]) ++ [64892, 64893, 64894, 64895].map fun b => (op == b, false)
noncomputable def noPath (op t : Int) (b : Nat → Int) (β : Nat → Fr) : Out :=
  evPath (envR [b]) (envR [sA]) 60 11 [.int .i64 op, .agg (bs b)] [.int .i64 t, .agg (bs sA)] (.tuple #[.agg (bs fun _ => 0), .int .i64 1]) β
--EVTS noTs0 | fun (op : Int) (b : Nat → Int) (β : Nat → Fr) => (noPath op 0 b β, noD op 0)
def noTs0 : List Nat := [0, 10, 0, 9, 0, 8, 0, 7, 0, 0, 0, 5, 5, 5, 5, 5, 0, 0, 3, 3, 3, 3, 3, 0, 0, 1, 1, 1, 1, 1, 0]
theorem no_0 (op : Int) (ho : op ≤ 64891) (b : Nat → Int) (hb : Byt b) (w : World) : Calls Try.prog 11 #[.int .i64 op, .agg (bs b)] w fun e w' => e = .returned (.tuple #[.agg (bs fun _ => 0), .int .i64 1]) ∧ Gr w w' :=
  ev_path (E := envR [b]) (E' := envR [sA]) rfl (sumR_ok _ (fun x hx => by rw [List.mem_singleton.1 hx]; exact hb)) (fuel := 60) (args' := [.int .i64 0, .agg (bs sA)]) (noD op 0) noTs0 (by
    intro p hp
    unfold noD at hp
    simp only [List.mem_append, List.mem_flatMap, List.mem_map, List.mem_cons, List.not_mem_nil, or_false, exists_eq_or_imp, exists_eq_left] at hp
    rcases hp with ((rfl | rfl) | (rfl | rfl) | (rfl | rfl)) | (rfl | rfl | rfl | rfl) <;> simp <;> omega) (fun β => by kernel_rfl) w
--EVTS noTs1 | fun (op : Int) (b : Nat → Int) (β : Nat → Fr) => (noPath op 64900 b β, noD op 64900)
def noTs1 : List Nat := [0, 10, 0, 9, 0, 8, 0, 7, 0, 0, 0, 5, 5, 5, 5, 5, 0, 0, 3, 3, 3, 3, 3, 0, 0, 1, 1, 1, 1, 1, 0]
theorem no_1 (op : Int) (ho : 64896 ≤ op ∧ op ≤ 64902) (b : Nat → Int) (hb : Byt b) (w : World) : Calls Try.prog 11 #[.int .i64 op, .agg (bs b)] w fun e w' => e = .returned (.tuple #[.agg (bs fun _ => 0), .int .i64 1]) ∧ Gr w w' :=
  ev_path (E := envR [b]) (E' := envR [sA]) rfl (sumR_ok _ (fun x hx => by rw [List.mem_singleton.1 hx]; exact hb)) (fuel := 60) (args' := [.int .i64 64900, .agg (bs sA)]) (noD op 64900) noTs1 (by
    intro p hp
    unfold noD at hp
    simp only [List.mem_append, List.mem_flatMap, List.mem_map, List.mem_cons, List.not_mem_nil, or_false, exists_eq_or_imp, exists_eq_left] at hp
    rcases hp with ((rfl | rfl) | (rfl | rfl) | (rfl | rfl)) | (rfl | rfl | rfl | rfl) <;> simp <;> omega) (fun β => by kernel_rfl) w
--EVTS noTs2 | fun (op : Int) (b : Nat → Int) (β : Nat → Fr) => (noPath op 64910 b β, noD op 64910)
def noTs2 : List Nat := [0, 10, 0, 9, 0, 8, 0, 7, 0, 0, 0, 5, 5, 5, 5, 5, 0, 0, 3, 3, 3, 3, 3, 0, 2, 1, 1, 1, 1, 1, 0]
theorem no_2 (op : Int) (ho : 64907 ≤ op ∧ op ≤ 64934) (b : Nat → Int) (hb : Byt b) (w : World) : Calls Try.prog 11 #[.int .i64 op, .agg (bs b)] w fun e w' => e = .returned (.tuple #[.agg (bs fun _ => 0), .int .i64 1]) ∧ Gr w w' :=
  ev_path (E := envR [b]) (E' := envR [sA]) rfl (sumR_ok _ (fun x hx => by rw [List.mem_singleton.1 hx]; exact hb)) (fuel := 60) (args' := [.int .i64 64910, .agg (bs sA)]) (noD op 64910) noTs2 (by
    intro p hp
    unfold noD at hp
    simp only [List.mem_append, List.mem_flatMap, List.mem_map, List.mem_cons, List.not_mem_nil, or_false, exists_eq_or_imp, exists_eq_left] at hp
    rcases hp with ((rfl | rfl) | (rfl | rfl) | (rfl | rfl)) | (rfl | rfl | rfl | rfl) <;> simp <;> omega) (fun β => by kernel_rfl) w
--EVTS noTs3 | fun (op : Int) (b : Nat → Int) (β : Nat → Fr) => (noPath op 64940 b β, noD op 64940)
def noTs3 : List Nat := [0, 10, 0, 9, 0, 8, 0, 7, 0, 0, 0, 5, 5, 5, 5, 5, 0, 4, 3, 3, 3, 3, 3, 0, 2, 1, 1, 1, 1, 1, 0]
theorem no_3 (op : Int) (ho : 64939 ≤ op ∧ op ≤ 64966) (b : Nat → Int) (hb : Byt b) (w : World) : Calls Try.prog 11 #[.int .i64 op, .agg (bs b)] w fun e w' => e = .returned (.tuple #[.agg (bs fun _ => 0), .int .i64 1]) ∧ Gr w w' :=
  ev_path (E := envR [b]) (E' := envR [sA]) rfl (sumR_ok _ (fun x hx => by rw [List.mem_singleton.1 hx]; exact hb)) (fuel := 60) (args' := [.int .i64 64940, .agg (bs sA)]) (noD op 64940) noTs3 (by
    intro p hp
    unfold noD at hp
    simp only [List.mem_append, List.mem_flatMap, List.mem_map, List.mem_cons, List.not_mem_nil, or_false, exists_eq_or_imp, exists_eq_left] at hp
    rcases hp with ((rfl | rfl) | (rfl | rfl) | (rfl | rfl)) | (rfl | rfl | rfl | rfl) <;> simp <;> omega) (fun β => by kernel_rfl) w
--EVTS noTs4 | fun (op : Int) (b : Nat → Int) (β : Nat → Fr) => (noPath op 65000 b β, noD op 65000)
def noTs4 : List Nat := [0, 10, 0, 9, 0, 8, 0, 7, 0, 0, 6, 5, 5, 5, 5, 5, 0, 4, 3, 3, 3, 3, 3, 0, 2, 1, 1, 1, 1, 1, 0]
theorem no_4 (op : Int) (ho : 64971 ≤ op) (b : Nat → Int) (hb : Byt b) (w : World) : Calls Try.prog 11 #[.int .i64 op, .agg (bs b)] w fun e w' => e = .returned (.tuple #[.agg (bs fun _ => 0), .int .i64 1]) ∧ Gr w w' :=
  ev_path (E := envR [b]) (E' := envR [sA]) rfl (sumR_ok _ (fun x hx => by rw [List.mem_singleton.1 hx]; exact hb)) (fuel := 60) (args' := [.int .i64 65000, .agg (bs sA)]) (noD op 65000) noTs4 (by
    intro p hp
    unfold noD at hp
    simp only [List.mem_append, List.mem_flatMap, List.mem_map, List.mem_cons, List.not_mem_nil, or_false, exists_eq_or_imp, exists_eq_left] at hp
    rcases hp with ((rfl | rfl) | (rfl | rfl) | (rfl | rfl)) | (rfl | rfl | rfl | rfl) <;> simp <;> omega) (fun β => by kernel_rfl) w
theorem rl_bd {b : Nat → Int} (hb : Byt b) (w W : Int) (hw : w = 8 ∧ W = 256 ∨ w = 16 ∧ W = 65536 ∨ w = 32 ∧ W = 4294967296) (m : Int) : IntKind.i64.wrap (getI b w m) = getI b w m := by
  have := get_bd hb w W hw m
  exact IntWalk.i64_in _ (by omega)
theorem rv_64903 (b : Nat → Int) (_hb : Byt b) : ofK (fun _ => 0) 16 ((exF true 8 0) b) 8 = unV 64903 b := by
  rw [un_64903]
  refine ofK_cong fun i hi => ?_
  show IntKind.u64.wrap (sgnI b 8 (0 + (i : Int))) = _; rw [Int.zero_add]
theorem rv_64905 (b : Nat → Int) (hb : Byt b) : ofK (fun _ => 0) 16 ((exF false 8 0) b) 8 = unV 64905 b := by
  rw [un_64905]
  refine ofK_cong fun i hi => ?_
  show IntKind.u64.wrap (IntKind.i64.wrap (getI b 8 (0 + (i : Int)))) = _; rw [rl_bd hb 8 256 (.inl ⟨rfl, rfl⟩)]; have := get_bd hb 8 256 (.inl ⟨rfl, rfl⟩) (0 + (i : Int)); rw [IntWalk.u64_in _ (by omega)]; rw [Int.zero_add]
theorem rv_64904 (b : Nat → Int) (_hb : Byt b) : ofK (fun _ => 0) 16 ((exF true 8 8) b) 8 = unV 64904 b := by
  rw [un_64904]
  refine ofK_cong fun i hi => ?_
  show IntKind.u64.wrap (sgnI b 8 (8 + (i : Int))) = _; rfl
theorem rv_64906 (b : Nat → Int) (hb : Byt b) : ofK (fun _ => 0) 16 ((exF false 8 8) b) 8 = unV 64906 b := by
  rw [un_64906]
  refine ofK_cong fun i hi => ?_
  show IntKind.u64.wrap (IntKind.i64.wrap (getI b 8 (8 + (i : Int)))) = _; rw [rl_bd hb 8 256 (.inl ⟨rfl, rfl⟩)]; have := get_bd hb 8 256 (.inl ⟨rfl, rfl⟩) (8 + (i : Int)); rw [IntWalk.u64_in _ (by omega)]
theorem rv_64935 (b : Nat → Int) (_hb : Byt b) : ofK (fun _ => 0) 32 ((exF true 16 0) b) 4 = unV 64935 b := by
  rw [un_64935]
  refine ofK_cong fun i hi => ?_
  show IntKind.u64.wrap (sgnI b 16 (0 + (i : Int))) = _; rw [Int.zero_add]
theorem rv_64937 (b : Nat → Int) (hb : Byt b) : ofK (fun _ => 0) 32 ((exF false 16 0) b) 4 = unV 64937 b := by
  rw [un_64937]
  refine ofK_cong fun i hi => ?_
  show IntKind.u64.wrap (IntKind.i64.wrap (getI b 16 (0 + (i : Int)))) = _; rw [rl_bd hb 16 65536 (.inr (.inl ⟨rfl, rfl⟩))]; have := get_bd hb 16 65536 (.inr (.inl ⟨rfl, rfl⟩)) (0 + (i : Int)); rw [IntWalk.u64_in _ (by omega)]; rw [Int.zero_add]
theorem rv_64936 (b : Nat → Int) (_hb : Byt b) : ofK (fun _ => 0) 32 ((exF true 16 4) b) 4 = unV 64936 b := by
  rw [un_64936]
  refine ofK_cong fun i hi => ?_
  show IntKind.u64.wrap (sgnI b 16 (4 + (i : Int))) = _; rfl
theorem rv_64938 (b : Nat → Int) (hb : Byt b) : ofK (fun _ => 0) 32 ((exF false 16 4) b) 4 = unV 64938 b := by
  rw [un_64938]
  refine ofK_cong fun i hi => ?_
  show IntKind.u64.wrap (IntKind.i64.wrap (getI b 16 (4 + (i : Int)))) = _; rw [rl_bd hb 16 65536 (.inr (.inl ⟨rfl, rfl⟩))]; have := get_bd hb 16 65536 (.inr (.inl ⟨rfl, rfl⟩)) (4 + (i : Int)); rw [IntWalk.u64_in _ (by omega)]
theorem rv_64967 (b : Nat → Int) (_hb : Byt b) : ofK (fun _ => 0) 64 ((exF true 32 0) b) 2 = unV 64967 b := by
  rw [un_64967]
  refine ofK_cong fun i hi => ?_
  show IntKind.u64.wrap (sgnI b 32 (0 + (i : Int))) = _; rw [Int.zero_add]
theorem rv_64969 (b : Nat → Int) (hb : Byt b) : ofK (fun _ => 0) 64 ((exF false 32 0) b) 2 = unV 64969 b := by
  rw [un_64969]
  refine ofK_cong fun i hi => ?_
  show IntKind.u64.wrap (IntKind.i64.wrap (getI b 32 (0 + (i : Int)))) = _; rw [rl_bd hb 32 4294967296 (.inr (.inr ⟨rfl, rfl⟩))]; have := get_bd hb 32 4294967296 (.inr (.inr ⟨rfl, rfl⟩)) (0 + (i : Int)); rw [IntWalk.u64_in _ (by omega)]; rw [Int.zero_add]
theorem rv_64968 (b : Nat → Int) (_hb : Byt b) : ofK (fun _ => 0) 64 ((exF true 32 2) b) 2 = unV 64968 b := by
  rw [un_64968]
  refine ofK_cong fun i hi => ?_
  show IntKind.u64.wrap (sgnI b 32 (2 + (i : Int))) = _; rfl
theorem rv_64970 (b : Nat → Int) (hb : Byt b) : ofK (fun _ => 0) 64 ((exF false 32 2) b) 2 = unV 64970 b := by
  rw [un_64970]
  refine ofK_cong fun i hi => ?_
  show IntKind.u64.wrap (IntKind.i64.wrap (getI b 32 (2 + (i : Int)))) = _; rw [rl_bd hb 32 4294967296 (.inr (.inr ⟨rfl, rfl⟩))]; have := get_bd hb 32 4294967296 (.inr (.inr ⟨rfl, rfl⟩)) (2 + (i : Int)); rw [IntWalk.u64_in _ (by omega)]
theorem rv_64892 (b : Nat → Int) (hb : Byt b) : ofK (fun _ => 0) 16 ((pwF true 8) b) 8 = unV 64892 b := by
  rw [un_64892]
  refine ofK_cong fun i hi => ?_
  show IntKind.u64.wrap (IntKind.i64.wrap (sgnI b 8 _ + sgnI b 8 _)) = IntKind.u64.wrap (IntKind.u64.wrap (sgnI b 8 _) + IntKind.u64.wrap (sgnI b 8 _)); have h1 := sgn_bd hb 8 256 (.inl ⟨rfl, rfl⟩) (2 * (i : Int)); have h2 := sgn_bd hb 8 256 (.inl ⟨rfl, rfl⟩) (2 * (i : Int) + 1); rw [IntWalk.i64_in _ (by omega)]; simp only [IntKind.wrap_u64]; omega
theorem rv_64893 (b : Nat → Int) (hb : Byt b) : ofK (fun _ => 0) 16 ((pwF false 8) b) 8 = unV 64893 b := by
  rw [un_64893]
  refine ofK_cong fun i hi => ?_
  show IntKind.u64.wrap (IntKind.i64.wrap (IntKind.i64.wrap (getI b 8 _) + IntKind.i64.wrap (getI b 8 _))) = IntKind.u64.wrap (getI b 8 _ + getI b 8 _); rw [rl_bd hb 8 256 (.inl ⟨rfl, rfl⟩), rl_bd hb 8 256 (.inl ⟨rfl, rfl⟩)]; have h1 := get_bd hb 8 256 (.inl ⟨rfl, rfl⟩) (2 * (i : Int)); have h2 := get_bd hb 8 256 (.inl ⟨rfl, rfl⟩) (2 * (i : Int) + 1); rw [IntWalk.i64_in _ (by omega)]
theorem rv_64894 (b : Nat → Int) (hb : Byt b) : ofK (fun _ => 0) 32 ((pwF true 16) b) 4 = unV 64894 b := by
  rw [un_64894]
  refine ofK_cong fun i hi => ?_
  show IntKind.u64.wrap (IntKind.i64.wrap (sgnI b 16 _ + sgnI b 16 _)) = IntKind.u64.wrap (IntKind.u64.wrap (sgnI b 16 _) + IntKind.u64.wrap (sgnI b 16 _)); have h1 := sgn_bd hb 16 65536 (.inr (.inl ⟨rfl, rfl⟩)) (2 * (i : Int)); have h2 := sgn_bd hb 16 65536 (.inr (.inl ⟨rfl, rfl⟩)) (2 * (i : Int) + 1); rw [IntWalk.i64_in _ (by omega)]; simp only [IntKind.wrap_u64]; omega
theorem rv_64895 (b : Nat → Int) (hb : Byt b) : ofK (fun _ => 0) 32 ((pwF false 16) b) 4 = unV 64895 b := by
  rw [un_64895]
  refine ofK_cong fun i hi => ?_
  show IntKind.u64.wrap (IntKind.i64.wrap (IntKind.i64.wrap (getI b 16 _) + IntKind.i64.wrap (getI b 16 _))) = IntKind.u64.wrap (getI b 16 _ + getI b 16 _); rw [rl_bd hb 16 65536 (.inr (.inl ⟨rfl, rfl⟩)), rl_bd hb 16 65536 (.inr (.inl ⟨rfl, rfl⟩))]; have h1 := get_bd hb 16 65536 (.inr (.inl ⟨rfl, rfl⟩)) (2 * (i : Int)); have h2 := get_bd hb 16 65536 (.inr (.inl ⟨rfl, rfl⟩)) (2 * (i : Int) + 1); rw [IntWalk.i64_in _ (by omega)]
theorem un_none (op : Int) (h : ¬ (64892 ≤ op ∧ op ≤ 64895 ∨ 64903 ≤ op ∧ op ≤ 64906 ∨ 64935 ≤ op ∧ op ≤ 64938 ∨ 64967 ≤ op ∧ op ≤ 64970)) (b : Nat → Int) : unV op b = (fun _ => 0) ∧ unE op = 1 := by
  have h1 : xW 64903 op = 0 := by unfold xW inR; simp; omega
  have h2 : pwsW op = 0 := by unfold pwsW inR; simp; omega
  unfold unV unE
  simp [h1, h2]
theorem run_any (op : Int) (b : Nat → Int) (hb : Byt b) (w : World) : Calls Try.prog 11 #[.int .i64 op, .agg (bs b)] w fun e w' => e = .returned (.tuple #[.agg (bs (unV op b)), .int .i64 (unE op)]) ∧ Gr w w' := by
  by_cases h : 64892 ≤ op ∧ op ≤ 64895 ∨ 64903 ≤ op ∧ op ≤ 64906 ∨ 64935 ≤ op ∧ op ≤ 64938 ∨ 64967 ≤ op ∧ op ≤ 64970
  · have h2 : op = 64903 ∨ op = 64905 ∨ op = 64904 ∨ op = 64906 ∨ op = 64935 ∨ op = 64937 ∨ op = 64936 ∨ op = 64938 ∨ op = 64967 ∨ op = 64969 ∨ op = 64968 ∨ op = 64970 ∨ op = 64892 ∨ op = 64893 ∨ op = 64894 ∨ op = 64895 := by omega
    rcases h2 with rfl | rfl | rfl | rfl | rfl | rfl | rfl | rfl | rfl | rfl | rfl | rfl | rfl | rfl | rfl | rfl
    · rw [← rv_64903 b hb]; exact ru_64903 b hb w
    · rw [← rv_64905 b hb]; exact ru_64905 b hb w
    · rw [← rv_64904 b hb]; exact ru_64904 b hb w
    · rw [← rv_64906 b hb]; exact ru_64906 b hb w
    · rw [← rv_64935 b hb]; exact ru_64935 b hb w
    · rw [← rv_64937 b hb]; exact ru_64937 b hb w
    · rw [← rv_64936 b hb]; exact ru_64936 b hb w
    · rw [← rv_64938 b hb]; exact ru_64938 b hb w
    · rw [← rv_64967 b hb]; exact ru_64967 b hb w
    · rw [← rv_64969 b hb]; exact ru_64969 b hb w
    · rw [← rv_64968 b hb]; exact ru_64968 b hb w
    · rw [← rv_64970 b hb]; exact ru_64970 b hb w
    · rw [← rv_64892 b hb]; exact ru_64892 b hb w
    · rw [← rv_64893 b hb]; exact ru_64893 b hb w
    · rw [← rv_64894 b hb]; exact ru_64894 b hb w
    · rw [← rv_64895 b hb]; exact ru_64895 b hb w
  · rw [(un_none op h b).1, (un_none op h b).2]
    have h2 : op ≤ 64891 ∨ (64896 ≤ op ∧ op ≤ 64902) ∨ (64907 ≤ op ∧ op ≤ 64934) ∨ (64939 ≤ op ∧ op ≤ 64966) ∨ 64971 ≤ op := by omega
    rcases h2 with h2 | h2 | h2 | h2 | h2
    · exact no_0 op h2 b hb w
    · exact no_1 op h2 b hb w
    · exact no_2 op h2 b hb w
    · exact no_3 op h2 b hb w
    · exact no_4 op h2 b hb w
end Wd
end Go.Proofs.Ytkccaaieadgdbaa
