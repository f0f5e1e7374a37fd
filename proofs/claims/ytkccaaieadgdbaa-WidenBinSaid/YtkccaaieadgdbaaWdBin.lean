/-
  WidenBin: for all opcodes and vectors the law returns true. Conditions: bytes, 64 bits.
-/
import Derived.Test.YtkccaaieadgdbaaWdRb2
namespace Go.Proofs.Ytkccaaieadgdbaa
open Go.RowKit VecM Ev
namespace Wd
noncomputable def sumWB (f : FuncId) (args : List Value) : Option (List (List Value) × (List (Nat → Int) → Value × List Bool)) :=
  match Nat.beq f 9 with
  | true => match args with
    | [] => some ([], fun _ => (.bool true, []))
    | _ => none
  | false => match Nat.beq f 12 with
    | true => match args with
      | [.int .i64 op, .agg ⟨c⟩, .agg ⟨d⟩] => some ([c, d], fun fs => (.tuple #[.agg (bs (biV op (hd1 fs) (hd2 fs))), .int .i64 (biE op)], [decide (-9223372036854775808 ≤ op), decide (op ≤ 9223372036854775807)]))
      | _ => none
    | false => match Nat.beq f 13 with
      | true => match args with
        | [.int .i64 op, .agg ⟨c⟩, .agg ⟨d⟩] => some ([c, d], fun fs => (.tuple #[.agg (bs (biV op (hd1 fs) (hd2 fs))), .int .i64 (biE op)], [decide (-9223372036854775808 ≤ op), decide (op ≤ 9223372036854775807)]))
        | _ => none
      | false => none
noncomputable def envWB (K : List (Nat → Int)) : Env := { P := Try.prog, known := K, sum := sumWB }
theorem sumWB_ok (K : List (Nat → Int)) (hK : ∀ x ∈ K, Byt x) : SumOk (envWB K) := by
  intro f args cs mk h fs hcs hfs hp w
  replace h : sumWB f args = some (cs, mk) := h
  unfold sumWB at h
  split at h
  · rename_i hf
    obtain rfl := Nat.eq_of_beq_eq_true hf
    split at h
    · cases h
      exact awake w
    · cases h
  · split at h
    · rename_i hf
      obtain rfl := Nat.eq_of_beq_eq_true hf
      split at h
      · cases h
        obtain ⟨x, y, rfl, rfl, rfl⟩ := two_fs hcs
        have h1 := hp _ (List.mem_cons_self ..)
        have h2 := hp _ (List.mem_cons_of_mem _ (List.mem_cons_self ..))
        simp only [decide_eq_true_eq] at h1 h2
        exact bin_any _ ⟨h1, h2⟩ x y (hK x (hfs x (List.mem_cons_self ..))) (hK y (hfs y (List.mem_cons_of_mem _ (List.mem_cons_self ..)))) w
      · cases h
    · split at h
      · rename_i hf
        obtain rfl := Nat.eq_of_beq_eq_true hf
        split at h
        · cases h
          obtain ⟨x, y, rfl, rfl, rfl⟩ := two_fs hcs
          have h1 := hp _ (List.mem_cons_self ..)
          have h2 := hp _ (List.mem_cons_of_mem _ (List.mem_cons_self ..))
          simp only [decide_eq_true_eq] at h1 h2
          exact rbin_any _ ⟨h1, h2⟩ x y (hK x (hfs x (List.mem_cons_self ..))) (hK y (hfs y (List.mem_cons_of_mem _ (List.mem_cons_self ..)))) w
        · cases h
      · cases h
noncomputable def wbPath (op : Int) (a b : Nat → Int) (β : Nat → Fr) : Out :=
  evPath (envWB [a, b]) (envWB [sA, sB]) 200 4 [.int .i64 op, .agg (bs a), .agg (bs b)] [.int .i64 0, .agg (bs sA), .agg (bs sB)] (.bool true) β
def wbD (op : Int) (a b : Nat → Int) : List (Bool × Bool) :=
  ([64869, 64870, 64898, 64901, 64902, 64924, 64925, 64926, 64927, 64954, 64956, 64957, 64958, 64959, 64988, 64989, 64990, 64991].map fun k => (!(eq16 (biV k a b) (biV k a b)), false)) ++
  [(decide (-9223372036854775808 ≤ op), true), (decide (op ≤ 9223372036854775807), true), (!(eq16 (biV op a b) (biV op a b)), false), (biE op != biE op, false)]
--EVTS wbTs | fun (op : Int) (a b : Nat → Int) (β : Nat → Fr) => (wbPath op a b β, wbD op a b)
def wbTs : List Nat := [0, 22, 21, 21, 21, 21, 20, 19, 20, 19, 0, 0, 0, 0, 0, 0, 0, 0, 0, 0, 0, 0, 0, 0, 18, 18, 18, 18, 0, 0, 0, 0, 0, 0, 0, 17, 17, 17, 17, 0, 0, 0, 0, 0, 0, 0, 16, 16, 16, 16, 0, 0, 0, 0, 0, 0, 0, 15, 15, 15, 15, 0, 0, 0, 0, 0, 0, 0, 0, 0, 0, 0, 0, 0, 0, 0, 0, 0, 0, 0, 0, 0, 0, 0, 0, 0, 0, 0, 0, 0, 0, 0, 0, 0, 0, 0, 0, 0, 0, 0, 0, 0, 0, 0, 0, 0, 0, 0, 0, 0, 0, 0, 0, 0, 0, 0, 0, 0, 0, 0, 0, 0, 0, 0, 0, 0, 0, 0, 0, 0, 0, 0, 0, 0, 0, 0, 0, 0, 0, 0, 0, 0, 0, 0, 0, 0, 0, 0, 0, 0, 0, 0, 0, 0, 0, 0, 0, 0, 0, 0, 0, 0, 0, 0, 0, 0, 0, 0, 0, 0, 0, 0, 0, 0, 0, 0, 0, 0, 0, 0, 0, 0, 0, 0, 0, 0, 0, 0, 0, 0, 0, 0, 0, 0, 0, 0, 0, 0, 0, 0, 0, 0, 0, 0, 0, 0, 0, 0, 0, 0, 0, 0, 0, 0, 0, 0, 0, 0, 0, 0, 0, 0, 0, 0, 0, 0, 0, 0, 0, 0, 0, 0, 0, 0, 0, 0, 0, 0, 0, 0, 0, 0, 0, 0, 0, 0, 0, 0, 0, 0, 0, 0, 0, 0, 0, 0, 0, 0, 0, 0, 0, 0, 0, 0, 0, 0, 0, 0, 0, 0, 0, 0, 0, 0, 0, 0, 0, 0, 0, 0, 0, 0, 0, 0, 0, 0, 0, 0, 0, 0, 0, 0, 0, 0, 0, 0, 0, 0, 0, 0, 0, 0, 0, 0, 0, 0, 0, 0, 0, 0, 0, 0, 0, 0, 0, 0, 0, 0, 0, 0, 0, 0, 0, 0, 0, 0, 0, 0, 0, 0, 0, 0, 0, 0, 0, 0, 0, 0, 0, 0, 0, 0, 0, 0, 0, 0, 0, 0, 0, 0, 0, 0, 0, 0, 0, 0, 0, 0, 0, 0, 0, 0, 0, 0, 0, 0, 0, 0, 0, 0, 0, 0, 0, 0, 0, 0, 14, 14, 14, 14, 0, 0, 0, 0, 0, 0, 0, 13, 13, 13, 13, 0, 0, 0, 0, 0, 0, 0, 12, 12, 12, 12, 0, 0, 0, 0, 0, 0, 0, 11, 11, 11, 11, 0, 0, 0, 0, 0, 0, 0, 0, 0, 0, 0, 0, 0, 0, 0, 0, 0, 0, 10, 10, 10, 10, 0, 0, 0, 0, 0, 0, 0, 0, 0, 0, 0, 0, 0, 0, 0, 0, 0, 0, 0, 0, 0, 0, 0, 0, 0, 0, 0, 0, 0, 0, 0, 0, 0, 0, 0, 0, 0, 0, 0, 0, 0, 0, 0, 0, 0, 0, 0, 0, 0, 0, 0, 0, 0, 0, 0, 0, 0, 0, 0, 0, 0, 0, 0, 0, 0, 0, 0, 0, 0, 0, 0, 0, 0, 0, 0, 0, 0, 0, 0, 0, 0, 0, 0, 0, 0, 0, 0, 0, 0, 0, 0, 0, 0, 0, 0, 0, 0, 0, 0, 0, 0, 0, 0, 0, 0, 0, 0, 0, 0, 0, 0, 0, 0, 0, 0, 0, 0, 0, 0, 0, 0, 0, 0, 0, 0, 0, 0, 0, 0, 0, 0, 0, 0, 0, 0, 0, 0, 0, 0, 0, 0, 0, 0, 0, 0, 0, 0, 0, 0, 0, 0, 0, 0, 0, 0, 0, 0, 0, 0, 0, 0, 0, 0, 0, 0, 0, 0, 0, 0, 0, 0, 0, 0, 0, 0, 0, 0, 0, 0, 0, 0, 0, 0, 0, 0, 0, 0, 0, 0, 0, 0, 0, 0, 0, 0, 0, 0, 0, 0, 0, 0, 0, 0, 0, 0, 0, 0, 0, 0, 0, 0, 0, 0, 0, 0, 0, 0, 0, 0, 0, 0, 0, 0, 0, 0, 0, 0, 0, 0, 0, 0, 0, 0, 0, 0, 0, 0, 0, 0, 0, 0, 0, 0, 0, 0, 0, 0, 0, 0, 0, 0, 0, 0, 0, 0, 0, 0, 0, 0, 0, 0, 0, 0, 0, 0, 0, 0, 0, 0, 0, 0, 0, 0, 0, 0, 0, 0, 0, 0, 0, 0, 0, 0, 0, 0, 0, 0, 0, 0, 0, 0, 0, 0, 9, 9, 9, 9, 0, 0, 0, 0, 0, 0, 0, 8, 8, 8, 8, 0, 0, 0, 0, 0, 0, 0, 7, 7, 7, 7, 0, 0, 0, 0, 0, 0, 0, 6, 6, 6, 6, 0, 0, 0, 0, 0, 0, 0, 0, 0, 0, 0, 0, 0, 0, 0, 0, 0, 0, 0, 0, 0, 0, 0, 0, 0, 0, 0, 0, 0, 0, 0, 0, 0, 0, 0, 0, 0, 0, 0, 0, 0, 0, 0, 0, 0, 0, 0, 0, 0, 0, 0, 0, 0, 0, 0, 0, 0, 0, 0, 0, 0, 0, 0, 0, 0, 0, 0, 0, 0, 0, 0, 0, 0, 0, 0, 0, 0, 0, 0, 0, 0, 0, 0, 0, 0, 0, 0, 0, 0, 0, 0, 0, 0, 0, 0, 0, 0, 0, 0, 0, 0, 0, 0, 0, 0, 0, 0, 0, 0, 0, 0, 0, 0, 0, 0, 0, 0, 0, 0, 0, 0, 0, 0, 0, 0, 0, 0, 0, 0, 0, 0, 0, 0, 0, 0, 0, 0, 0, 0, 0, 0, 0, 0, 0, 0, 0, 0, 0, 0, 0, 0, 0, 0, 0, 0, 0, 0, 0, 0, 0, 0, 0, 0, 0, 0, 0, 0, 0, 0, 0, 0, 0, 0, 0, 0, 0, 0, 0, 0, 0, 0, 0, 0, 0, 0, 0, 0, 0, 0, 0, 0, 0, 0, 0, 0, 0, 0, 0, 0, 0, 0, 0, 0, 0, 0, 0, 0, 0, 0, 0, 0, 0, 0, 0, 0, 0, 0, 0, 0, 0, 0, 0, 0, 0, 0, 0, 0, 0, 0, 0, 0, 0, 0, 0, 0, 0, 0, 0, 5, 5, 5, 5, 0, 0, 0, 0, 0, 0, 0, 4, 4, 4, 4, 0, 0, 0, 0, 0, 0, 0, 0, 0, 0, 0, 0, 0, 0, 0, 0, 0, 0, 0, 0, 0, 0, 0, 0, 0, 0, 0, 0, 0, 3, 3, 3, 3, 0, 0, 0, 0, 0, 0, 0, 0, 0, 0, 0, 0, 0, 0, 0, 0, 0, 0, 0, 0, 0, 0, 0, 0, 0, 0, 0, 0, 0, 0, 0, 0, 0, 0, 0, 0, 0, 0, 0, 0, 0, 0, 0, 0, 0, 0, 0, 0, 0, 0, 0, 0, 0, 0, 0, 0, 0, 0, 0, 0, 0, 0, 0, 0, 0, 0, 0, 0, 0, 0, 0, 0, 0, 0, 0, 0, 0, 0, 0, 0, 0, 0, 0, 0, 0, 0, 0, 0, 0, 0, 0, 0, 0, 0, 0, 0, 0, 0, 0, 0, 0, 0, 0, 0, 0, 0, 0, 0, 0, 0, 0, 0, 0, 0, 0, 0, 0, 0, 0, 0, 0, 0, 0, 0, 0, 0, 0, 0, 0, 0, 0, 0, 0, 0, 0, 0, 0, 0, 0, 0, 0, 0, 0, 0, 0, 0, 0, 0, 0, 0, 0, 0, 0, 0, 0, 0, 0, 0, 0, 0, 0, 0, 0, 0, 0, 0, 0, 0, 0, 0, 0, 0, 0, 0, 0, 0, 0, 0, 0, 0, 0, 0, 0, 0, 0, 0, 0, 0, 0, 0, 0, 0, 0, 0, 0, 0, 0, 0, 0, 0, 0, 0, 0, 0, 0, 0, 0, 0, 0, 0, 0, 0, 0, 0, 0, 0, 0, 0, 0, 0, 0, 0, 0, 0, 0, 0, 0, 0, 0, 0, 0, 0, 0, 0, 0, 0, 0, 0, 0, 0, 0, 0, 0, 0, 0, 0, 0, 0, 0, 0, 0, 0, 0, 0, 0, 0, 0, 0, 0, 0, 0, 0, 0, 0, 0, 0, 0, 0, 0, 0, 0, 0, 0, 0, 0, 0, 0, 0, 0, 0, 0, 0, 0, 0, 0, 0, 0, 0, 0, 0, 0, 0, 0, 0, 0, 0, 0, 0, 0, 0, 0, 0, 0, 0, 2, 2, 2, 2, 0, 0, 0, 0, 0, 0, 0, 1, 1, 1, 1, 0, 0, 0, 0, 0, 0, 0, 0, 0, 0, 0, 0, 0, 0, 0, 0, 0, 0]
theorem wbD_ok (op : Int) (ho : -9223372036854775808 ≤ op ∧ op ≤ 9223372036854775807) (a b : Nat → Int) : ∀ p ∈ wbD op a b, p.1 = p.2 := by
  have e : ∀ x, eq16 x x = true := fun x => eq16_of fun _ _ => rfl
  intro p hp
  unfold wbD at hp
  simp only [List.mem_append, List.mem_map, List.mem_cons, List.not_mem_nil, or_false] at hp
  rcases hp with ⟨k, _, rfl⟩ | rfl | rfl | rfl | rfl
  · rw [e]; rfl
  · simp; omega
  · simp; omega
  · rw [e]; rfl
  · simp
theorem wbin_walk (op : Int) (ho : -9223372036854775808 ≤ op ∧ op ≤ 9223372036854775807) (a b : Nat → Int) (ha : Byt a) (hb : Byt b) (w : World) : Calls Try.prog 4 #[.int .i64 op, .agg (bs a), .agg (bs b)] w fun e w' => e = .returned (.bool true) ∧ Gr w w' :=
  ev_path (E := envWB [a, b]) (E' := envWB [sA, sB]) rfl (sumWB_ok _ (two_byt ha hb)) (fuel := 200) (args' := [.int .i64 0, .agg (bs sA), .agg (bs sB)]) (wbD op a b) wbTs (wbD_ok op ho a b) (fun β => by kernel_rfl) w
end Wd
end Go.Proofs.Ytkccaaieadgdbaa
