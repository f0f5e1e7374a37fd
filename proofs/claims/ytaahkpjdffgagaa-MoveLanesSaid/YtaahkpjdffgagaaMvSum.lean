/-
  Known answers of layer 7's laws, for checked runs. Conditions: the known vectors are bytes.
-/
import Derived.Test.YtaahkpjdffgagaaEvC
import Derived.Test.YtaahkpjdffgagaaMvAw
namespace Go.Proofs.Ytaahkpjdffgagaa
open Go.RowKit VecM Ev
namespace Mv
def hd1 : List (Nat → Int) → Nat → Int
  | f :: _ => f
  | [] => fun _ => 0
noncomputable def sumM (f : FuncId) (args : List Value) : Option (List (List Value) × (List (Nat → Int) → Value × List Bool)) :=
  match Nat.beq f 9 with
  | true => match args with
    | [] => some ([], fun _ => (.bool true, []))
    | _ => none
  | false => match Nat.beq f 12 with
    | true => match args with
      | [.int .i64 op, .int .i64 lane, .agg ⟨c⟩] => some ([c], fun fs => (.tuple #[.int .u64 (exV op lane (hd1 fs)), .int .i64 (if thereB (exW op) lane then 0 else 1)], [decide (-9223372036854775808 ≤ lane), decide (lane ≤ 9223372036854775807)]))
      | _ => none
    | false => match Nat.beq f 14 with
      | true => match args with
        | [.int .i64 op, .int .i64 lane, .agg ⟨c⟩, .int .u64 x] => some ([c], fun fs => (.tuple #[.agg (bs (reV op lane x (hd1 fs))), .int .i64 (if thereB (reW op) lane then 0 else 1)], [decide (-9223372036854775808 ≤ lane), decide (lane ≤ 9223372036854775807)]))
        | _ => none
      | false => match Nat.beq f 10 with
        | true => match args with
          | [.int .i64 op, .int .u64 x] => some ([], fun _ => (.tuple #[.agg (bs (splV (spW op) x)), .int .i64 (if spW op = 0 then 1 else 0)], [decide (-9223372036854775808 ≤ op), decide (op ≤ 9223372036854775807)]))
          | _ => none
        | false => none
theorem one_fs {c : List Value} {fs : List (Nat → Int)} (h : [c] = fs.map (fun x => (bs x).toList)) : ∃ x, fs = [x] ∧ c = (bs x).toList := by
  match fs, h with
  | [x], h => simp only [List.map_cons, List.map_nil, List.cons.injEq, and_true] at h; exact ⟨x, rfl, h⟩
noncomputable def envM (K : List (Nat → Int)) : Env := { P := Try.prog, known := K, sum := sumM }
theorem sumM_ok (K : List (Nat → Int)) (hK : ∀ x ∈ K, Byt x) : SumOk (envM K) := by
  intro f args cs mk h fs hcs hfs hp w
  replace h : sumM f args = some (cs, mk) := h
  unfold sumM at h
  split at h
  · rename_i hf
    obtain rfl := Nat.eq_of_beq_eq_true hf
    split at h
    · cases h
      exact awake w
    · cases h
  · split at h
    · rename_i hf
      obtain rfl := Nat.eq_of_beq_eq_true hf
      split at h
      · cases h
        obtain ⟨x, rfl, rfl⟩ := one_fs hcs
        have h1 := hp _ (List.mem_cons_self ..)
        have h2 := hp _ (List.mem_cons_of_mem _ (List.mem_cons_self ..))
        simp only [decide_eq_true_eq] at h1 h2
        exact extract_any _ _ ⟨h1, h2⟩ x (hK x (hfs x (List.mem_cons_self ..))) w
      · cases h
    · split at h
      · rename_i hf
        obtain rfl := Nat.eq_of_beq_eq_true hf
        split at h
        · cases h
          obtain ⟨x, rfl, rfl⟩ := one_fs hcs
          have h1 := hp _ (List.mem_cons_self ..)
          have h2 := hp _ (List.mem_cons_of_mem _ (List.mem_cons_self ..))
          simp only [decide_eq_true_eq] at h1 h2
          exact replace_any _ _ _ ⟨h1, h2⟩ x w
        · cases h
      · split at h
        · rename_i hf
          obtain rfl := Nat.eq_of_beq_eq_true hf
          split at h
          · cases h
            have h1 := hp _ (List.mem_cons_self ..)
            have h2 := hp _ (List.mem_cons_of_mem _ (List.mem_cons_self ..))
            simp only [decide_eq_true_eq] at h1 h2
            exact splat_any _ _ ⟨h1, h2⟩ w
          · cases h
        · cases h
/-- samples -/
def sA : Nat → Int := fun i => ([200, 17, 3, 255, 128, 90, 77, 161, 14, 222, 65, 130, 9, 250, 101, 188] : List Int).getD i 0
def sX : Int := 1311768467294899695
end Mv
end Go.Proofs.Ytaahkpjdffgagaa
