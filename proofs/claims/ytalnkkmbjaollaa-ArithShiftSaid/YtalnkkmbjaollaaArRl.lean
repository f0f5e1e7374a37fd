/-
  ArithUn, ArithBin, ArithShift: for all opcodes, vectors and numbers of places the laws return true. Conditions: bytes, 64 and 32 bits.
-/
import Derived.Test.YtalnkkmbjaollaaArRb2
import Derived.Test.YtalnkkmbjaollaaArRs
namespace Go.Proofs.Ytalnkkmbjaollaa
open Go.RowKit VecM Ev
namespace Ar
noncomputable def sumL (f : FuncId) (args : List Value) : Option (List (List Value) × (List (Nat → Int) → Value × List Bool)) :=
  match Nat.beq f 23 with
  | true => match args with
    | [.int .i64 op, .agg ⟨c⟩] => some ([c], fun fs => (.tuple #[.agg (bs (unV op (hd1 fs))), .int .i64 (if unOk op then 0 else 1)], []))
    | _ => none
  | false => match Nat.beq f 29 with
    | true => match args with
      | [.int .i64 op, .agg ⟨c⟩] => some ([c], fun fs => (.tuple #[.agg (bs (unV op (hd1 fs))), .int .i64 (if unOk op then 0 else 1)], []))
      | _ => none
    | false => match Nat.beq f 22 with
      | true => match args with
        | [.int .i64 op, .agg ⟨c⟩, .agg ⟨d⟩] => some ([c, d], fun fs => (.tuple #[.agg (bs (biV op (hd1 fs) (hd2 fs))), .int .i64 (if biOk op then 0 else 1)], []))
        | _ => none
      | false => match Nat.beq f 31 with
        | true => match args with
          | [.int .i64 op, .agg ⟨c⟩, .agg ⟨d⟩] => some ([c, d], fun fs => (.tuple #[.agg (bs (biV op (hd1 fs) (hd2 fs))), .int .i64 (if biOk op then 0 else 1)], []))
          | _ => none
        | false => match Nat.beq f 14 with
          | true => match args with
            | [.int .i64 op, .agg ⟨c⟩, .int .u32 n] => some ([c], fun fs => (.tuple #[.agg (bs (shV op (hd1 fs) n)), .int .i64 (if shOk op then 0 else 1)], [decide (0 ≤ n), decide (n < 4294967296)]))
            | _ => none
          | false => match Nat.beq f 15 with
            | true => match args with
              | [.int .i64 op, .agg ⟨c⟩, .int .u32 n] => some ([c], fun fs => (.tuple #[.agg (bs (shV op (hd1 fs) n)), .int .i64 (if shOk op then 0 else 1)], [decide (0 ≤ n), decide (n < 4294967296)]))
              | _ => none
            | false => match Nat.beq f 21 with
              | true => match args with
                | [.int .i64 op] => some ([], fun _ => (.int .i64 (aW op), []))
                | _ => none
              | false => match Nat.beq f 30 with
                | true => match args with
                  | [.int .i64 op] => some ([], fun _ => (.int .i64 (aW op), []))
                  | _ => none
                | false => match Nat.beq f 11 with
                  | true => match args with
                    | [] => some ([], fun _ => (.bool true, []))
                    | _ => none
                  | false => none
theorem sumL_ok' (P : Env) (hP : P.sum = sumL) (hK : ∀ x ∈ P.known, Byt x) : SumOk P := by
  intro f args cs mk h fs hcs hfs hp w
  rw [hP] at h
  unfold sumL at h
  split at h
  · rename_i hf
    obtain rfl := Nat.eq_of_beq_eq_true hf
    split at h
    · cases h
      obtain ⟨x, rfl, rfl⟩ := one_fs hcs
      exact un_any _ x (hK x (hfs x (List.mem_cons_self ..))) w
    · cases h
  split at h
  · rename_i hf
    obtain rfl := Nat.eq_of_beq_eq_true hf
    split at h
    · cases h
      obtain ⟨x, rfl, rfl⟩ := one_fs hcs
      exact run_any _ x (hK x (hfs x (List.mem_cons_self ..))) w
    · cases h
  split at h
  · rename_i hf
    obtain rfl := Nat.eq_of_beq_eq_true hf
    split at h
    · cases h
      obtain ⟨x, y, rfl, rfl, rfl⟩ := two_fs hcs
      exact bin_any _ x y (hK x (hfs x (List.mem_cons_self ..))) (hK y (hfs y (List.mem_cons_of_mem _ (List.mem_cons_self ..)))) w
    · cases h
  split at h
  · rename_i hf
    obtain rfl := Nat.eq_of_beq_eq_true hf
    split at h
    · cases h
      obtain ⟨x, y, rfl, rfl, rfl⟩ := two_fs hcs
      exact rbin_any _ x y (hK x (hfs x (List.mem_cons_self ..))) (hK y (hfs y (List.mem_cons_of_mem _ (List.mem_cons_self ..)))) w
    · cases h
  split at h
  · rename_i hf
    obtain rfl := Nat.eq_of_beq_eq_true hf
    split at h
    · cases h
      obtain ⟨x, rfl, rfl⟩ := one_fs hcs
      have h1 := hp _ (List.mem_cons_self ..)
      have h2 := hp _ (List.mem_cons_of_mem _ (List.mem_cons_self ..))
      simp only [decide_eq_true_eq] at h1 h2
      exact sh_any _ x (hK x (hfs x (List.mem_cons_self ..))) _ ⟨h1, h2⟩ w
    · cases h
  split at h
  · rename_i hf
    obtain rfl := Nat.eq_of_beq_eq_true hf
    split at h
    · cases h
      obtain ⟨x, rfl, rfl⟩ := one_fs hcs
      have h1 := hp _ (List.mem_cons_self ..)
      have h2 := hp _ (List.mem_cons_of_mem _ (List.mem_cons_self ..))
      simp only [decide_eq_true_eq] at h1 h2
      exact rsh_any _ x (hK x (hfs x (List.mem_cons_self ..))) _ ⟨h1, h2⟩ w
    · cases h
  split at h
  · rename_i hf
    obtain rfl := Nat.eq_of_beq_eq_true hf
    split at h
    · cases h
      exact (width_any _ w).mono fun e w' hh => ⟨hh.1, hh.2 ▸ Gr.refl _⟩
    · cases h
  split at h
  · rename_i hf
    obtain rfl := Nat.eq_of_beq_eq_true hf
    split at h
    · cases h
      exact rwidth_any _ w
    · cases h
  split at h
  · rename_i hf
    obtain rfl := Nat.eq_of_beq_eq_true hf
    split at h
    · cases h
      exact awake w
    · cases h
  · cases h
noncomputable def envL (K : List (Nat → Int)) : Env := { P := Try.prog, known := K, sum := sumL }
theorem sumL_ok (K : List (Nat → Int)) (hK : ∀ x ∈ K, Byt x) : SumOk (envL K) := sumL_ok' (envL K) rfl hK
theorem eq16_self (x : Nat → Int) : eq16 x x = true := eq16_of fun _ _ => rfl
--EVTS luTs | fun (op : Int) (b : Nat → Int) (β : Nat → Fr) => (evPath (envL [b]) (envL [zV]) 60 12 [.int .i64 op, .agg (bs b)] [.int .i64 0, .agg (bs zV)] (.bool (aW op == aW op)) β, [(eq16 (unV op b) (unV op b), true), ((if unOk op then (0 : Int) else 1) == (if unOk op then 0 else 1), true), (aW op == aW op, true)])
def luTs : List Nat := [2, 2, 2, 2, 2, 2, 1, 1, 1, 1]
theorem un_law (op : Int) (b : Nat → Int) (hb : Byt b) (w : World) : Calls Try.prog 12 #[.int .i64 op, .agg (bs b)] w fun e w' => e = .returned (.bool true) ∧ Gr w w' := by
  have e : (aW op == aW op) = true := by simp
  rw [← e]
  exact ev_path (E := envL [b]) (E' := envL [zV]) rfl (sumL_ok _ (byt_one hb)) (fuel := 60) (args' := [.int .i64 0, .agg (bs zV)]) [(eq16 (unV op b) (unV op b), true), ((if unOk op then (0 : Int) else 1) == (if unOk op then 0 else 1), true), (aW op == aW op, true)] luTs (fun p hp => by
    simp only [List.mem_cons, List.not_mem_nil, or_false] at hp
    rcases hp with rfl | rfl | rfl
    · exact eq16_self _
    · simp
    · simp) (fun β => by kernel_rfl) w
--EVTS lbTs | fun (op : Int) (a b : Nat → Int) (β : Nat → Fr) => (evPath (envL [a, b]) (envL [smp [1], zV]) 60 13 [.int .i64 op, .agg (bs a), .agg (bs b)] [.int .i64 0, .agg (bs (smp [1])), .agg (bs zV)] (.bool ((if biOk op then (0 : Int) else 1) == (if biOk op then 0 else 1))) β, [(eq16 (biV op a b) (biV op a b), true), ((if biOk op then (0 : Int) else 1) == (if biOk op then 0 else 1), true)])
def lbTs : List Nat := [1, 1, 1, 1]
theorem bin_law (op : Int) (a b : Nat → Int) (ha : Byt a) (hb : Byt b) (w : World) : Calls Try.prog 13 #[.int .i64 op, .agg (bs a), .agg (bs b)] w fun e w' => e = .returned (.bool true) ∧ Gr w w' := by
  have e : ((if biOk op then (0 : Int) else 1) == (if biOk op then 0 else 1)) = true := by simp
  rw [← e]
  exact ev_path (E := envL [a, b]) (E' := envL [smp [1], zV]) rfl (sumL_ok _ (byt_two ha hb)) (fuel := 60) (args' := [.int .i64 0, .agg (bs (smp [1])), .agg (bs zV)]) [(eq16 (biV op a b) (biV op a b), true), ((if biOk op then (0 : Int) else 1) == (if biOk op then 0 else 1), true)] lbTs (fun p hp => by
    simp only [List.mem_cons, List.not_mem_nil, or_false] at hp
    rcases hp with rfl | rfl
    · exact eq16_self _
    · simp) (fun β => by kernel_rfl) w
noncomputable def sumM (f : FuncId) (args : List Value) : Option (List (List Value) × (List (Nat → Int) → Value × List Bool)) :=
  match Nat.beq f 12 with
  | true => match args with
    | [.int .i64 op, .agg ⟨c⟩] => some ([c], fun _ => (.bool true, []))
    | _ => none
  | false => match Nat.beq f 13 with
    | true => match args with
      | [.int .i64 op, .agg ⟨c⟩, .agg ⟨d⟩] => some ([c, d], fun _ => (.bool true, []))
      | _ => none
    | false => sumL f args
noncomputable def envM (K : List (Nat → Int)) : Env := { P := Try.prog, known := K, sum := sumM }
theorem sumM_ok (K : List (Nat → Int)) (hK : ∀ x ∈ K, Byt x) : SumOk (envM K) := by
  intro f args cs mk h fs hcs hfs hp w
  replace h : sumM f args = some (cs, mk) := h
  unfold sumM at h
  split at h
  · rename_i hf
    obtain rfl := Nat.eq_of_beq_eq_true hf
    split at h
    · cases h
      obtain ⟨x, rfl, rfl⟩ := one_fs hcs
      exact un_law _ x (hK x (hfs x (List.mem_cons_self ..))) w
    · cases h
  split at h
  · rename_i hf
    obtain rfl := Nat.eq_of_beq_eq_true hf
    split at h
    · cases h
      obtain ⟨x, y, rfl, rfl, rfl⟩ := two_fs hcs
      exact bin_law _ x y (hK x (hfs x (List.mem_cons_self ..))) (hK y (hfs y (List.mem_cons_of_mem _ (List.mem_cons_self ..)))) w
    · cases h
  · exact sumL_ok K hK f args cs mk h fs hcs hfs hp w
--EVTS auTs | fun (op : Int) (b : Nat → Int) (β : Nat → Fr) => (evPath (envM [b]) (envM [zV]) 300 3 [.int .i64 op, .agg (bs b)] [.int .i64 0, .agg (bs zV)] (.bool true) β, ([] : List (Bool × Bool)))
def auTs : List Nat := [0, 0, 0, 0, 0, 0, 0, 0, 0, 0, 0, 0, 0, 0, 0, 0, 0, 0, 0, 0, 0, 0, 0, 0, 0, 0, 0, 0, 0, 0, 0, 0, 0, 0, 0, 0, 0, 0, 0, 0, 0, 0, 0, 0, 0, 0, 0, 0, 0, 0, 0, 0, 0, 0, 0, 0, 0, 0, 0, 0, 0, 0, 0, 0, 0, 0, 0, 0, 0, 0, 0, 0, 0, 0, 0, 0, 0, 0, 0, 0, 0, 0, 0, 0, 0, 0, 0, 0, 0, 0, 0, 0, 0, 0, 0, 0, 0, 0, 0, 0, 0, 0, 0, 0, 0, 0, 0, 0, 0, 0, 0, 0, 0, 0, 0, 0, 0, 0, 0, 0, 0, 0, 0, 0, 0, 0, 0, 0, 0, 0, 0, 0, 0, 0, 0, 0, 0, 0, 0, 0, 0, 0, 0, 0, 0, 0, 0, 0, 0, 0, 0, 0, 0, 0, 0, 0, 0, 0, 0, 0, 0, 0, 0, 0, 0, 0, 0, 0, 0, 0, 0, 0, 0, 0, 0, 0, 0, 0, 0, 0, 0, 0, 0, 0, 0, 0, 0, 0, 0, 0, 0, 0, 0, 0, 0, 0, 0, 0, 0, 0, 0, 0, 0, 0, 0, 0, 0, 0, 0, 0, 0, 0, 0, 0, 0, 0, 0, 0, 0, 0, 0, 0, 0, 0, 0, 0, 0, 0, 0, 0, 0, 0, 0, 0, 0, 0, 0, 0, 0, 0, 0, 0, 0, 0, 0, 0, 0, 0, 0, 0, 0, 0, 0, 0, 0, 0, 0, 0, 0, 0, 0, 0, 0, 0, 0, 0, 0]
theorem aun_walk (op : Int) (b : Nat → Int) (hb : Byt b) (w : World) : Calls Try.prog 3 #[.int .i64 op, .agg (bs b)] w fun e w' => e = .returned (.bool true) ∧ Gr w w' :=
  ev_path (E := envM [b]) (E' := envM [zV]) rfl (sumM_ok _ (byt_one hb)) (fuel := 300) (args' := [.int .i64 0, .agg (bs zV)]) [] auTs (fun p hp => by cases hp) (fun β => by kernel_rfl) w
--EVTS abTs | fun (op : Int) (a b : Nat → Int) (β : Nat → Fr) => (evPath (envM [a, b]) (envM [smp [1], zV]) 300 4 [.int .i64 op, .agg (bs a), .agg (bs b)] [.int .i64 0, .agg (bs (smp [1])), .agg (bs zV)] (.bool true) β, ([] : List (Bool × Bool)))
def abTs : List Nat := [0, 0, 0, 0, 0, 0, 0, 0, 0, 0, 0, 0, 0, 0, 0, 0, 0, 0, 0, 0, 0, 0, 0, 0, 0, 0, 0, 0, 0, 0, 0, 0, 0, 0, 0, 0, 0, 0, 0, 0, 0, 0, 0, 0, 0, 0, 0, 0, 0, 0, 0, 0, 0, 0, 0, 0, 0, 0, 0, 0, 0, 0, 0, 0, 0, 0, 0, 0, 0, 0, 0, 0, 0, 0, 0, 0, 0, 0, 0, 0, 0, 0, 0, 0, 0, 0, 0, 0, 0, 0, 0, 0, 0, 0, 0, 0, 0, 0, 0, 0, 0, 0, 0, 0, 0, 0, 0, 0, 0, 0, 0, 0, 0, 0, 0, 0, 0, 0, 0, 0, 0, 0, 0, 0, 0, 0, 0, 0, 0, 0, 0, 0, 0, 0, 0, 0, 0, 0, 0, 0, 0, 0, 0, 0, 0, 0, 0, 0, 0, 0, 0, 0, 0, 0, 0, 0, 0, 0, 0, 0, 0, 0, 0, 0, 0, 0, 0, 0, 0, 0, 0, 0, 0, 0, 0, 0, 0, 0, 0, 0, 0, 0, 0, 0, 0, 0, 0, 0, 0, 0, 0, 0, 0, 0, 0, 0, 0, 0, 0, 0, 0, 0, 0, 0, 0, 0, 0, 0, 0, 0, 0, 0, 0, 0, 0, 0, 0, 0, 0, 0, 0, 0, 0, 0, 0, 0, 0, 0, 0, 0, 0, 0, 0, 0, 0, 0, 0, 0, 0, 0, 0, 0, 0, 0, 0, 0, 0, 0, 0, 0, 0, 0, 0, 0, 0, 0, 0, 0, 0, 0, 0, 0, 0, 0, 0, 0, 0, 0]
theorem abin_walk (op : Int) (a b : Nat → Int) (ha : Byt a) (hb : Byt b) (w : World) : Calls Try.prog 4 #[.int .i64 op, .agg (bs a), .agg (bs b)] w fun e w' => e = .returned (.bool true) ∧ Gr w w' :=
  ev_path (E := envM [a, b]) (E' := envM [smp [1], zV]) rfl (sumM_ok _ (byt_two ha hb)) (fuel := 300) (args' := [.int .i64 0, .agg (bs (smp [1])), .agg (bs zV)]) [] abTs (fun p hp => by cases hp) (fun β => by kernel_rfl) w
def asD (op n : Int) (b : Nat → Int) : List (Bool × Bool) := [(decide (0 ≤ n), true), (decide (n < 4294967296), true)] ++ ([64875, 64876, 64877, 64907, 64908, 64909, 64939, 64940, 64941, 64971, 64972, 64973].map fun k => (!(eq16 (shV k b n) (shV k b n)), false)) ++
  [(!(eq16 (shV op b n) (shV op b n)), false), ((if shOk op then (0 : Int) else 1) != (if shOk op then 0 else 1), false)]
--EVTS asTs | fun (op n : Int) (b : Nat → Int) (β : Nat → Fr) => (evPath (envL [b]) (envL [zV]) 300 5 [.int .i64 op, .agg (bs b), .int .u32 n] [.int .i64 0, .agg (bs zV), .int .u32 0] (.bool true) β, asD op n b)
def asTs : List Nat := [0, 16, 15, 15, 15, 15, 2, 1, 2, 1, 0, 0, 0, 0, 0, 0, 0, 2, 1, 2, 1, 0, 0, 0, 0, 0, 0, 0, 2, 1, 2, 1, 0, 0, 0, 0, 0, 0, 0, 2, 1, 2, 1, 0, 0, 0, 0, 0, 0, 0, 2, 1, 2, 1, 0, 0, 0, 0, 0, 0, 0, 2, 1, 2, 1, 0, 0, 0, 0, 0, 0, 0, 2, 1, 2, 1, 0, 0, 0, 0, 0, 0, 0, 2, 1, 2, 1, 0, 0, 0, 0, 0, 0, 0, 2, 1, 2, 1, 0, 0, 0, 0, 0, 0, 0, 2, 1, 2, 1, 0, 0, 0, 0, 0, 0, 0, 2, 1, 2, 1, 0, 0, 0, 0, 0, 0, 0, 2, 1, 2, 1, 0, 0, 0, 0, 0, 0, 0, 2, 1, 2, 1, 0, 0, 0, 0, 0, 0, 0, 2, 1, 2, 1, 0, 0, 0, 0, 0, 0, 0, 2, 1, 2, 1, 0, 0, 0, 0, 0, 0, 0, 2, 1, 2, 1, 0, 0, 0, 0, 0, 0, 0, 2, 1, 2, 1, 0, 0, 0, 0, 0, 0, 0, 2, 1, 2, 1, 0, 0, 0, 0, 0, 0, 0, 2, 1, 2, 1, 0, 0, 0, 0, 0, 0, 0, 2, 1, 2, 1, 0, 0, 0, 14, 14, 14, 14, 2, 1, 2, 1, 0, 0, 0, 13, 13, 13, 13, 2, 1, 2, 1, 0, 0, 0, 12, 12, 12, 12, 2, 1, 2, 1, 0, 0, 0, 0, 0, 0, 0, 2, 1, 2, 1, 0, 0, 0, 0, 0, 0, 0, 2, 1, 2, 1, 0, 0, 0, 0, 0, 0, 0, 2, 1, 2, 1, 0, 0, 0, 0, 0, 0, 0, 2, 1, 2, 1, 0, 0, 0, 0, 0, 0, 0, 2, 1, 2, 1, 0, 0, 0, 0, 0, 0, 0, 2, 1, 2, 1, 0, 0, 0, 0, 0, 0, 0, 2, 1, 2, 1, 0, 0, 0, 0, 0, 0, 0, 2, 1, 2, 1, 0, 0, 0, 0, 0, 0, 0, 2, 1, 2, 1, 0, 0, 0, 0, 0, 0, 0, 2, 1, 2, 1, 0, 0, 0, 0, 0, 0, 0, 2, 1, 2, 1, 0, 0, 0, 0, 0, 0, 0, 2, 1, 2, 1, 0, 0, 0, 0, 0, 0, 0, 2, 1, 2, 1, 0, 0, 0, 0, 0, 0, 0, 2, 1, 2, 1, 0, 0, 0, 0, 0, 0, 0, 2, 1, 2, 1, 0, 0, 0, 0, 0, 0, 0, 2, 1, 2, 1, 0, 0, 0, 0, 0, 0, 0, 2, 1, 2, 1, 0, 0, 0, 0, 0, 0, 0, 2, 1, 2, 1, 0, 0, 0, 0, 0, 0, 0, 2, 1, 2, 1, 0, 0, 0, 0, 0, 0, 0, 2, 1, 2, 1, 0, 0, 0, 0, 0, 0, 0, 2, 1, 2, 1, 0, 0, 0, 0, 0, 0, 0, 2, 1, 2, 1, 0, 0, 0, 0, 0, 0, 0, 2, 1, 2, 1, 0, 0, 0, 0, 0, 0, 0, 2, 1, 2, 1, 0, 0, 0, 0, 0, 0, 0, 2, 1, 2, 1, 0, 0, 0, 0, 0, 0, 0, 2, 1, 2, 1, 0, 0, 0, 0, 0, 0, 0, 2, 1, 2, 1, 0, 0, 0, 0, 0, 0, 0, 2, 1, 2, 1, 0, 0, 0, 0, 0, 0, 0, 2, 1, 2, 1, 0, 0, 0, 11, 11, 11, 11, 2, 1, 2, 1, 0, 0, 0, 10, 10, 10, 10, 2, 1, 2, 1, 0, 0, 0, 9, 9, 9, 9, 2, 1, 2, 1, 0, 0, 0, 0, 0, 0, 0, 2, 1, 2, 1, 0, 0, 0, 0, 0, 0, 0, 2, 1, 2, 1, 0, 0, 0, 0, 0, 0, 0, 2, 1, 2, 1, 0, 0, 0, 0, 0, 0, 0, 2, 1, 2, 1, 0, 0, 0, 0, 0, 0, 0, 2, 1, 2, 1, 0, 0, 0, 0, 0, 0, 0, 2, 1, 2, 1, 0, 0, 0, 0, 0, 0, 0, 2, 1, 2, 1, 0, 0, 0, 0, 0, 0, 0, 2, 1, 2, 1, 0, 0, 0, 0, 0, 0, 0, 2, 1, 2, 1, 0, 0, 0, 0, 0, 0, 0, 2, 1, 2, 1, 0, 0, 0, 0, 0, 0, 0, 2, 1, 2, 1, 0, 0, 0, 0, 0, 0, 0, 2, 1, 2, 1, 0, 0, 0, 0, 0, 0, 0, 2, 1, 2, 1, 0, 0, 0, 0, 0, 0, 0, 2, 1, 2, 1, 0, 0, 0, 0, 0, 0, 0, 2, 1, 2, 1, 0, 0, 0, 0, 0, 0, 0, 2, 1, 2, 1, 0, 0, 0, 0, 0, 0, 0, 2, 1, 2, 1, 0, 0, 0, 0, 0, 0, 0, 2, 1, 2, 1, 0, 0, 0, 0, 0, 0, 0, 2, 1, 2, 1, 0, 0, 0, 0, 0, 0, 0, 2, 1, 2, 1, 0, 0, 0, 0, 0, 0, 0, 2, 1, 2, 1, 0, 0, 0, 0, 0, 0, 0, 2, 1, 2, 1, 0, 0, 0, 0, 0, 0, 0, 2, 1, 2, 1, 0, 0, 0, 0, 0, 0, 0, 2, 1, 2, 1, 0, 0, 0, 0, 0, 0, 0, 2, 1, 2, 1, 0, 0, 0, 0, 0, 0, 0, 2, 1, 2, 1, 0, 0, 0, 0, 0, 0, 0, 2, 1, 2, 1, 0, 0, 0, 0, 0, 0, 0, 2, 1, 2, 1, 0, 0, 0, 0, 0, 0, 0, 2, 1, 2, 1, 0, 0, 0, 8, 8, 8, 8, 2, 1, 2, 1, 0, 0, 0, 7, 7, 7, 7, 2, 1, 2, 1, 0, 0, 0, 6, 6, 6, 6, 2, 1, 2, 1, 0, 0, 0, 0, 0, 0, 0, 2, 1, 2, 1, 0, 0, 0, 0, 0, 0, 0, 2, 1, 2, 1, 0, 0, 0, 0, 0, 0, 0, 2, 1, 2, 1, 0, 0, 0, 0, 0, 0, 0, 2, 1, 2, 1, 0, 0, 0, 0, 0, 0, 0, 2, 1, 2, 1, 0, 0, 0, 0, 0, 0, 0, 2, 1, 2, 1, 0, 0, 0, 0, 0, 0, 0, 2, 1, 2, 1, 0, 0, 0, 0, 0, 0, 0, 2, 1, 2, 1, 0, 0, 0, 0, 0, 0, 0, 2, 1, 2, 1, 0, 0, 0, 0, 0, 0, 0, 2, 1, 2, 1, 0, 0, 0, 0, 0, 0, 0, 2, 1, 2, 1, 0, 0, 0, 0, 0, 0, 0, 2, 1, 2, 1, 0, 0, 0, 0, 0, 0, 0, 2, 1, 2, 1, 0, 0, 0, 0, 0, 0, 0, 2, 1, 2, 1, 0, 0, 0, 0, 0, 0, 0, 2, 1, 2, 1, 0, 0, 0, 0, 0, 0, 0, 2, 1, 2, 1, 0, 0, 0, 0, 0, 0, 0, 2, 1, 2, 1, 0, 0, 0, 0, 0, 0, 0, 2, 1, 2, 1, 0, 0, 0, 0, 0, 0, 0, 2, 1, 2, 1, 0, 0, 0, 0, 0, 0, 0, 2, 1, 2, 1, 0, 0, 0, 0, 0, 0, 0, 2, 1, 2, 1, 0, 0, 0, 0, 0, 0, 0, 2, 1, 2, 1, 0, 0, 0, 0, 0, 0, 0, 2, 1, 2, 1, 0, 0, 0, 0, 0, 0, 0, 2, 1, 2, 1, 0, 0, 0, 0, 0, 0, 0, 2, 1, 2, 1, 0, 0, 0, 0, 0, 0, 0, 2, 1, 2, 1, 0, 0, 0, 0, 0, 0, 0, 2, 1, 2, 1, 0, 0, 0, 0, 0, 0, 0, 2, 1, 2, 1, 0, 0, 0, 0, 0, 0, 0, 2, 1, 2, 1, 0, 0, 0, 5, 5, 5, 5, 2, 1, 2, 1, 0, 0, 0, 4, 4, 4, 4, 2, 1, 2, 1, 0, 0, 0, 3, 3, 3, 3, 2, 1, 2, 1, 0, 0, 0, 0, 0, 0, 0, 2, 1, 2, 1, 0, 0, 0, 0, 0, 0, 0, 2, 1, 2, 1, 0, 0, 0, 0, 0, 0, 0, 2, 1, 2, 1, 0, 0, 0, 0, 0, 0, 0, 2, 1, 2, 1, 0, 0, 0, 0, 0, 0, 0, 2, 1, 2, 1, 0, 0, 0, 0, 0, 0, 0, 2, 1, 2, 1, 0, 0, 0, 0, 0, 0, 0, 2, 1, 2, 1, 0, 0, 0, 0, 0, 0, 0, 2, 1, 2, 1, 0, 0, 0, 0, 0, 0, 0, 2, 1, 2, 1, 0, 0, 0, 0, 0, 0, 0, 2, 1, 2, 1, 0, 0, 0, 0, 0, 0, 0, 2, 1, 2, 1, 0, 0, 0, 0, 0, 0, 0, 2, 1, 2, 1, 0, 0, 0]
theorem ash_walk (op n : Int) (hn : 0 ≤ n ∧ n < 4294967296) (b : Nat → Int) (hb : Byt b) (w : World) : Calls Try.prog 5 #[.int .i64 op, .agg (bs b), .int .u32 n] w fun e w' => e = .returned (.bool true) ∧ Gr w w' :=
  ev_path (E := envL [b]) (E' := envL [zV]) rfl (sumL_ok _ (byt_one hb)) (fuel := 300) (args' := [.int .i64 0, .agg (bs zV), .int .u32 0]) (asD op n b) asTs (fun p hp => by
    simp only [asD, List.mem_append, List.mem_map, List.mem_cons, List.not_mem_nil, or_false] at hp
    rcases hp with ((rfl | rfl) | ⟨k, _, rfl⟩) | rfl | rfl
    · exact decide_eq_true hn.1
    · exact decide_eq_true hn.2
    · rw [eq16_self]; rfl
    · rw [eq16_self]; rfl
    · simp) (fun β => by kernel_rfl) w
end Ar
end Go.Proofs.Ytalnkkmbjaollaa
