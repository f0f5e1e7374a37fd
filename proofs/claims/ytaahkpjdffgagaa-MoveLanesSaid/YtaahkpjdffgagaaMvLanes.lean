/-
  MoveLanes: for all opcodes, lanes, numbers and vectors the law returns true. Conditions: bytes, 64 bits.
-/
import Derived.Test.YtaahkpjdffgagaaMvRl
namespace Go.Proofs.Ytaahkpjdffgagaa
open Go.RowKit VecM Ev
namespace Mv
noncomputable def sumL (f : FuncId) (args : List Value) : Option (List (List Value) × (List (Nat → Int) → Value × List Bool)) :=
  match Nat.beq f 13 with
  | true => match args with
    | [.int .i64 op, .int .i64 lane, .agg ⟨c⟩] => some ([c], fun fs => (.tuple #[.int .u64 (exV op lane (hd1 fs)), .int .i64 (if thereB (exW op) lane then 0 else 1)], []))
    | _ => none
  | false => match Nat.beq f 15 with
    | true => match args with
      | [.int .i64 op, .int .i64 lane, .agg ⟨c⟩, .int .u64 x] => some ([c], fun fs => (.tuple #[.agg (bs (reV op lane x (hd1 fs))), .int .i64 (if thereB (reW op) lane then 0 else 1)], [decide (0 ≤ x), decide (x < 18446744073709551616)]))
      | _ => none
    | false => match Nat.beq f 11 with
      | true => match args with
        | [.int .i64 op, .int .u64 x] => some ([], fun _ => (.tuple #[.agg (bs (splV (spW op) x)), .int .i64 (if spW op = 0 then 1 else 0)], []))
        | _ => none
      | false => sumM f args
noncomputable def envL (K : List (Nat → Int)) : Env := { P := Try.prog, known := K, sum := sumL }
theorem sumL_ok (K : List (Nat → Int)) (hK : ∀ x ∈ K, Byt x) : SumOk (envL K) := by
  intro f args cs mk h fs hcs hfs hp w
  replace h : sumL f args = some (cs, mk) := h
  unfold sumL at h
  split at h
  · rename_i hf
    obtain rfl := Nat.eq_of_beq_eq_true hf
    split at h
    · cases h
      obtain ⟨x, rfl, rfl⟩ := one_fs hcs
      exact rextract_any _ _ x (hK x (hfs x (List.mem_cons_self ..))) w
    · cases h
  · split at h
    · rename_i hf
      obtain rfl := Nat.eq_of_beq_eq_true hf
      split at h
      · cases h
        obtain ⟨x, rfl, rfl⟩ := one_fs hcs
        have h1 := hp _ (List.mem_cons_self ..)
        have h2 := hp _ (List.mem_cons_of_mem _ (List.mem_cons_self ..))
        simp only [decide_eq_true_eq] at h1 h2
        exact rreplace_any _ _ _ ⟨h1, h2⟩ x (hK x (hfs x (List.mem_cons_self ..))) w
      · cases h
    · split at h
      · rename_i hf
        obtain rfl := Nat.eq_of_beq_eq_true hf
        split at h
        · cases h
          exact rsplat_any _ _ w
        · cases h
      · exact sumM_ok K hK f args cs mk h fs hcs hfs hp w
noncomputable def mlPath (op lane x : Int) (v : Nat → Int) (β : Nat → Nat) : Out :=
  evPath (envL [v]) (envL [sA]) 80 3 [.agg ⟨[.int .i64 op, .int .i64 lane, .int .u64 x]⟩, .agg (bs v)] [.agg ⟨[.int .i64 0, .int .i64 1, .int .u64 sX]⟩, .agg (bs sA)] (.bool true) β
def mlF (op lane x : Int) (v : Nat → Int) : List (Bool × Bool) :=
  [(!(eq16 (splV (spW op) x) (splV (spW op) x)), false), ((if spW op = 0 then (1 : Int) else 0) != (if spW op = 0 then (1 : Int) else 0), false), (exV op lane v != exV op lane v, false), ((if thereB (exW op) lane then (0 : Int) else 1) != (if thereB (exW op) lane then (0 : Int) else 1), false),
   (!(eq16 (reV op lane x v) (reV op lane x v)), false), ((if thereB (reW op) lane then (0 : Int) else 1) != (if thereB (reW op) lane then (0 : Int) else 1), false)]
def mlD (op lane x : Int) (v : Nat → Int) : List (Bool × Bool) :=
  [(decide (-9223372036854775808 ≤ lane), true), (decide (lane ≤ 9223372036854775807), true), (decide (0 ≤ x), true), (decide (x < 18446744073709551616), true)] ++
  ((List.range 18).flatMap fun (k : Nat) => mlF (64782 + (k : Int)) lane x v) ++
  [(decide (-9223372036854775808 ≤ op), true), (decide (op ≤ 9223372036854775807), true)] ++ mlF op lane x v
--EVTS mlTs | fun (op lane x : Int) (v : Nat → Int) (β : Nat → Nat) => (mlPath op lane x v β, mlD op lane x v)
def mlTs : List Nat := [0, 120, 119, 119, 119, 119, 118, 118, 118, 118, 117, 117, 117, 117, 116, 116, 116, 116, 115, 115, 115, 115, 4, 3, 2, 1, 2, 1, 114, 113, 0, 0, 112, 111, 111, 111, 111, 110, 110, 110, 110, 109, 109, 109, 109, 0, 0, 0, 0, 0, 0, 0, 0, 4, 3, 2, 1, 2, 1, 0, 0, 0, 0, 106, 105, 105, 105, 105, 104, 104, 104, 104, 103, 103, 103, 103, 0, 0, 0, 0, 0, 0, 0, 0, 4, 3, 2, 1, 2, 1, 0, 0, 0, 0, 100, 99, 99, 99, 99, 98, 98, 98, 98, 97, 97, 97, 97, 0, 0, 0, 0, 0, 0, 0, 0, 4, 3, 2, 1, 2, 1, 0, 0, 0, 0, 94, 93, 93, 93, 93, 92, 92, 92, 92, 91, 91, 91, 91, 0, 0, 0, 0, 0, 0, 0, 0, 4, 3, 2, 1, 2, 1, 0, 0, 0, 0, 88, 87, 87, 87, 87, 86, 86, 86, 86, 85, 85, 85, 85, 0, 0, 0, 0, 0, 0, 0, 0, 4, 3, 2, 1, 2, 1, 0, 0, 0, 0, 82, 81, 81, 81, 81, 80, 80, 80, 80, 79, 79, 79, 79, 0, 0, 0, 0, 0, 0, 0, 0, 4, 3, 2, 1, 2, 1, 0, 0, 0, 0, 76, 75, 75, 75, 75, 74, 74, 74, 74, 73, 73, 73, 73, 0, 0, 0, 0, 0, 0, 0, 0, 4, 3, 2, 1, 2, 1, 0, 0, 0, 0, 70, 69, 69, 69, 69, 68, 68, 68, 68, 67, 67, 67, 67, 0, 0, 0, 0, 0, 0, 0, 0, 4, 3, 2, 1, 2, 1, 0, 0, 0, 0, 64, 63, 63, 63, 63, 62, 62, 62, 62, 61, 61, 61, 61, 0, 0, 0, 0, 0, 0, 0, 0, 4, 3, 2, 1, 2, 1, 0, 0, 0, 0, 58, 57, 57, 57, 57, 56, 56, 56, 56, 55, 55, 55, 55, 0, 0, 0, 0, 0, 0, 0, 0, 4, 3, 2, 1, 2, 1, 0, 0, 0, 0, 52, 51, 51, 51, 51, 50, 50, 50, 50, 49, 49, 49, 49, 0, 0, 0, 0, 0, 0, 0, 0, 4, 3, 2, 1, 2, 1, 0, 0, 0, 0, 46, 45, 45, 45, 45, 44, 44, 44, 44, 43, 43, 43, 43, 0, 0, 0, 0, 0, 0, 0, 0, 4, 3, 2, 1, 2, 1, 0, 0, 0, 0, 40, 39, 39, 39, 39, 38, 38, 38, 38, 37, 37, 37, 37, 0, 0, 0, 0, 0, 0, 0, 0, 4, 3, 2, 1, 2, 1, 0, 0, 0, 0, 34, 33, 33, 33, 33, 32, 32, 32, 32, 31, 31, 31, 31, 0, 0, 0, 0, 29, 29, 29, 29, 4, 3, 2, 1, 2, 1, 0, 0, 0, 0, 28, 27, 27, 27, 27, 26, 26, 26, 26, 25, 25, 25, 25, 0, 0, 0, 0, 23, 23, 23, 23, 4, 3, 2, 1, 2, 1, 0, 0, 0, 0, 22, 21, 21, 21, 21, 20, 20, 20, 20, 19, 19, 19, 19, 0, 0, 0, 0, 17, 17, 17, 17, 4, 3, 2, 1, 2, 1, 0, 0, 0, 0, 16, 15, 15, 15, 15, 14, 14, 14, 14, 13, 13, 13, 13, 0, 0, 0, 0, 11, 11, 11, 11, 4, 3, 2, 1, 2, 1, 0, 0, 0, 0, 10, 9, 9, 9, 9, 8, 8, 8, 8, 7, 7, 7, 7, 0, 0, 0, 0, 0, 0, 0, 0, 4, 3, 2, 1, 2, 1, 0, 0, 0, 0, 0]
theorem mlF_ok (op lane x : Int) (v : Nat → Int) : ∀ p ∈ mlF op lane x v, p.1 = p.2 := by
  have e : ∀ x, eq16 x x = true := fun x => eq16_of fun _ _ => rfl
  intro p hp
  unfold mlF at hp
  simp only [List.mem_cons, List.not_mem_nil, or_false] at hp
  rcases hp with rfl | rfl | rfl | rfl | rfl | rfl
  · rw [e]; rfl
  · exact bne_self_eq_false _
  · exact bne_self_eq_false _
  · exact bne_self_eq_false _
  · rw [e]; rfl
  · exact bne_self_eq_false _
theorem mlD_ok (op lane x : Int) (ho : -9223372036854775808 ≤ op ∧ op ≤ 9223372036854775807) (hl : -9223372036854775808 ≤ lane ∧ lane ≤ 9223372036854775807) (hx : 0 ≤ x ∧ x < 18446744073709551616) (v : Nat → Int) : ∀ p ∈ mlD op lane x v, p.1 = p.2 := by
  intro p hp
  unfold mlD at hp
  simp only [List.mem_append, List.mem_flatMap, List.mem_cons, List.not_mem_nil, or_false] at hp
  rcases hp with (((rfl | rfl | rfl | rfl) | ⟨k, _, h⟩) | (rfl | rfl)) | h
  · simp; omega
  · simp; omega
  · simp; omega
  · simp; omega
  · exact mlF_ok _ _ _ _ p h
  · simp; omega
  · simp; omega
  · exact mlF_ok _ _ _ _ p h
theorem lanes_walk (op lane x : Int) (ho : -9223372036854775808 ≤ op ∧ op ≤ 9223372036854775807) (hl : -9223372036854775808 ≤ lane ∧ lane ≤ 9223372036854775807) (hx : 0 ≤ x ∧ x < 18446744073709551616) (v : Nat → Int) (hv : Byt v) (w : World) :
    Calls Try.prog 3 #[.agg #[.int .i64 op, .int .i64 lane, .int .u64 x], .agg (bs v)] w fun e w' => e = .returned (.bool true) ∧ Gr w w' :=
  ev_path (E := envL [v]) (E' := envL [sA]) rfl (sumL_ok _ (one_byt hv)) (fuel := 80) (args := [.agg ⟨[.int .i64 op, .int .i64 lane, .int .u64 x]⟩, .agg (bs v)]) (args' := [.agg ⟨[.int .i64 0, .int .i64 1, .int .u64 sX]⟩, .agg (bs sA)]) (mlD op lane x v) mlTs (mlD_ok op lane x ho hl hx v) (fun β => by kernel_rfl) w
end Mv
end Go.Proofs.Ytaahkpjdffgagaa
