/-
  Known answers of layer 6's laws, for checked runs. Conditions: the known vectors are bytes.
-/
import Derived.Test.YtdclbagfnabmkaaEvC
import Derived.Test.YtdclbagfnabmkaaCpMskM
namespace Go.Proofs.Ytdclbagfnabmkaa
open Go.RowKit VecM Ev
namespace Cp
def hd1 : List (Nat → Int) → Nat → Int
  | f :: _ => f
  | [] => fun _ => 0
def hd2 : List (Nat → Int) → Nat → Int
  | _ :: f :: _ => f
  | _ => fun _ => 0
noncomputable def sumC (f : FuncId) (args : List Value) : Option (List (List Value) × (List (Nat → Int) → Value × List Bool)) :=
  match Nat.beq f 10 with
  | true => match args with
    | [] => some ([], fun _ => (.bool true, []))
    | _ => none
  | false => match Nat.beq f 13 with
    | true => match args with
      | [.int .i64 op, .agg ⟨c⟩] => some ([c], fun fs => (.tuple #[.int .u32 (tsV op (hd1 fs)), .int .i64 (tsOk op)], [decide (-9223372036854775808 ≤ op), decide (op ≤ 9223372036854775807)]))
      | _ => none
    | false => match Nat.beq f 18 with
      | true => match args with
        | [.int .i64 op, .agg ⟨c⟩, .agg ⟨d⟩] => some ([c, d], fun fs => (.agg (bs (cpV op (hd1 fs) (hd2 fs))), [decide (-9223372036854775808 ≤ op), decide (op ≤ 9223372036854775807)]))
        | _ => none
      | false => match Nat.beq f 20 with
        | true => match args with
          | [.agg ⟨c⟩, .int .i64 v, .int .i64 i] => some ([c], fun fs => (.int .i64 (sgnI (hd1 fs) v i), []))
          | _ => none
        | false => none
theorem one_fs {c : List Value} {fs : List (Nat → Int)} (h : [c] = fs.map (fun x => (bs x).toList)) : ∃ x, fs = [x] ∧ c = (bs x).toList := by
  match fs, h with
  | [x], h => simp only [List.map_cons, List.map_nil, List.cons.injEq, and_true] at h; exact ⟨x, rfl, h⟩
theorem two_fs {c d : List Value} {fs : List (Nat → Int)} (h : [c, d] = fs.map (fun x => (bs x).toList)) : ∃ x y, fs = [x, y] ∧ c = (bs x).toList ∧ d = (bs y).toList := by
  match fs, h with
  | [x, y], h => simp only [List.map_cons, List.map_nil, List.cons.injEq, and_true] at h; exact ⟨x, y, rfl, h.1, h.2⟩
noncomputable def envC (K : List (Nat → Int)) : Env := { P := Try.prog, known := K, sum := sumC }
theorem sumC_ok (K : List (Nat → Int)) (hK : ∀ x ∈ K, Byt x) : SumOk (envC K) := by
  intro f args cs mk h fs hcs hfs hp w
  replace h : sumC f args = some (cs, mk) := h
  unfold sumC at h
  split at h
  · rename_i hf
    obtain rfl := Nat.eq_of_beq_eq_true hf
    split at h
    · cases h
      exact awake w
    · cases h
  · split at h
    · rename_i hf
      obtain rfl := Nat.eq_of_beq_eq_true hf
      split at h
      · cases h
        obtain ⟨x, rfl, rfl⟩ := one_fs hcs
        have h1 := hp _ (List.mem_cons_self ..)
        have h2 := hp _ (List.mem_cons_of_mem _ (List.mem_cons_self ..))
        simp only [decide_eq_true_eq] at h1 h2
        exact test_any _ ⟨h1, h2⟩ x (hK x (hfs x (List.mem_cons_self ..))) w
      · cases h
    · split at h
      · rename_i hf
        obtain rfl := Nat.eq_of_beq_eq_true hf
        split at h
        · cases h
          obtain ⟨x, y, rfl, rfl, rfl⟩ := two_fs hcs
          have h1 := hp _ (List.mem_cons_self ..)
          have h2 := hp _ (List.mem_cons_of_mem _ (List.mem_cons_self ..))
          simp only [decide_eq_true_eq] at h1 h2
          exact cmpl_any _ ⟨h1, h2⟩ x y (hK x (hfs x (List.mem_cons_self ..))) (hK y (hfs y (List.mem_cons_of_mem _ (List.mem_cons_self ..)))) w
        · cases h
      · split at h
        · rename_i hf
          obtain rfl := Nat.eq_of_beq_eq_true hf
          split at h
          · cases h
            obtain ⟨x, rfl, rfl⟩ := one_fs hcs
            exact signed_any x (hK x (hfs x (List.mem_cons_self ..))) _ _ w
          · cases h
        · cases h
/-- a sample with lanes of all widths that are 0, and one below 0 -/
def sZ : Nat → Int := fun i => ([0, 0, 0, 0, 0, 0, 0, 0, 0, 0, 0, 0, 0, 0, 0, 200] : List Int).getD i 0
end Cp
end Go.Proofs.Ytdclbagfnabmkaa
