/-
  Known answers of layer 8's laws, for checked runs. Conditions: the known vectors are bytes.
-/
import Derived.Test.YtkccaaieadgdbaaEvC
import Derived.Test.YtkccaaieadgdbaaWdAw
namespace Go.Proofs.Ytkccaaieadgdbaa
open Go.RowKit VecM Ev
namespace Wd
def hd1 : List (Nat → Int) → Nat → Int
  | f :: _ => f
  | [] => fun _ => 0
def hd2 : List (Nat → Int) → Nat → Int
  | _ :: f :: _ => f
  | _ => fun _ => 0
noncomputable def sumW (f : FuncId) (args : List Value) : Option (List (List Value) × (List (Nat → Int) → Value × List Bool)) :=
  match Nat.beq f 9 with
  | true => match args with
    | [] => some ([], fun _ => (.bool true, []))
    | _ => none
  | false => match Nat.beq f 14 with
    | true => match args with
      | [.agg ⟨c⟩, .int .i64 v, .int .i64 i] => some ([c], fun fs => (.int .i64 (sgnI (hd1 fs) v i), []))
      | _ => none
    | false => match Nat.beq f 15 with
      | true => match args with
        | [.agg ⟨c⟩, .int .i64 v, .int .i64 i] => some ([c], fun fs => (.int .u64 (getI (hd1 fs) v i), []))
        | _ => none
      | false => match Nat.beq f 16 with
        | true => match args with
          | [.int .i64 k, .agg ⟨c⟩] => some ([c], fun fs => (.agg (bs (unV (64768 + k) (hd1 fs))), [decide (0 ≤ k), decide (k ≤ 1000)]))
          | _ => none
        | false => match Nat.beq f 17 with
          | true => match args with
            | [.int .i64 k, .agg ⟨c⟩, .agg ⟨d⟩] => some ([c, d], fun fs => (.agg (bs (biV (64768 + k) (hd1 fs) (hd2 fs))), [decide (0 ≤ k), decide (k ≤ 1000)]))
            | _ => none
          | false => none
theorem one_fs {c : List Value} {fs : List (Nat → Int)} (h : [c] = fs.map (fun x => (bs x).toList)) : ∃ x, fs = [x] ∧ c = (bs x).toList := by
  match fs, h with
  | [x], h => simp only [List.map_cons, List.map_nil, List.cons.injEq, and_true] at h; exact ⟨x, rfl, h⟩
theorem two_fs {c d : List Value} {fs : List (Nat → Int)} (h : [c, d] = fs.map (fun x => (bs x).toList)) : ∃ x y, fs = [x, y] ∧ c = (bs x).toList ∧ d = (bs y).toList := by
  match fs, h with
  | [x, y], h => simp only [List.map_cons, List.map_nil, List.cons.injEq, and_true] at h; exact ⟨x, y, rfl, h.1, h.2⟩
noncomputable def envW (K : List (Nat → Int)) : Env := { P := Try.prog, known := K, sum := sumW }
theorem sumW_ok (K : List (Nat → Int)) (hK : ∀ x ∈ K, Byt x) : SumOk (envW K) := by
  intro f args cs mk h fs hcs hfs hp w
  replace h : sumW f args = some (cs, mk) := h
  unfold sumW at h
  split at h
  · rename_i hf
    obtain rfl := Nat.eq_of_beq_eq_true hf
    split at h
    · cases h
      exact awake w
    · cases h
  · split at h
    · rename_i hf
      obtain rfl := Nat.eq_of_beq_eq_true hf
      split at h
      · cases h
        obtain ⟨x, rfl, rfl⟩ := one_fs hcs
        exact signed_any x (hK x (hfs x (List.mem_cons_self ..))) _ _ w
      · cases h
    · split at h
      · rename_i hf
        obtain rfl := Nat.eq_of_beq_eq_true hf
        split at h
        · cases h
          obtain ⟨x, rfl, rfl⟩ := one_fs hcs
          exact get_any x (hK x (hfs x (List.mem_cons_self ..))) _ _ w
        · cases h
      · split at h
        · rename_i hf
          obtain rfl := Nat.eq_of_beq_eq_true hf
          split at h
          · rename_i k c
            cases h
            obtain ⟨x, rfl, rfl⟩ := one_fs hcs
            have h1 := hp _ (List.mem_cons_self ..)
            have h2 := hp _ (List.mem_cons_of_mem _ (List.mem_cons_self ..))
            simp only [decide_eq_true_eq] at h1 h2
            exact un_k k _ ⟨h1, h2⟩ rfl x (hK x (hfs x (List.mem_cons_self ..))) w
          · cases h
        · split at h
          · rename_i hf
            obtain rfl := Nat.eq_of_beq_eq_true hf
            split at h
            · rename_i k c d
              cases h
              obtain ⟨x, y, rfl, rfl, rfl⟩ := two_fs hcs
              have h1 := hp _ (List.mem_cons_self ..)
              have h2 := hp _ (List.mem_cons_of_mem _ (List.mem_cons_self ..))
              simp only [decide_eq_true_eq] at h1 h2
              exact bin_k k _ ⟨h1, h2⟩ rfl x y (hK x (hfs x (List.mem_cons_self ..))) (hK y (hfs y (List.mem_cons_of_mem _ (List.mem_cons_self ..)))) w
            · cases h
          · cases h
theorem un_byt (op : Int) {b : Nat → Int} (hb : Byt b) : Byt (unV op b) := by
  unfold unV
  split
  · exact exO_byt _ _ (by assumption) hb
  · split
    · exact ofK_byt byt0 _ _ _
    · exact byt0
theorem naK_byt (v m n lo hi : Int) (a b : Nat → Int) : ∀ k, Byt (naK v m n lo hi a b k)
  | 0 => byt0
  | k + 1 => setI_byt (setI_byt (naK_byt v m n lo hi a b k) _ _ _) _ _ _
theorem bi_byt (op : Int) {a b : Nat → Int} (ha : Byt a) : Byt (biV op a b) := by
  unfold biV
  split
  · unfold naO
    split <;> split <;> exact naK_byt _ _ _ _ _ _ _ _
  · split
    · rename_i h
      exact ofK_byt (exO_byt _ _ h ha) _ _ _
    · split
      · exact ofK_byt byt0 _ _ _
      · split
        · exact ofK_byt byt0 _ _ _
        · exact byt0
/-- samples -/
def sA : Nat → Int := fun i => ([200, 17, 3, 255, 128, 90, 77, 161, 14, 222, 65, 130, 9, 250, 101, 188] : List Int).getD i 0
def sB : Nat → Int := fun i => ([33, 240, 129, 6, 71, 199, 2, 144, 213, 88, 27, 166, 95, 12, 231, 150] : List Int).getD i 0
end Wd
end Go.Proofs.Ytkccaaieadgdbaa
