/-
  The reference of layer 5: hold, offset; the answers that are known. Conditions: bytes, 64 bits.
-/
import Derived.Test.YtalnkkmbjaollaaEvL
import Derived.Test.YtalnkkmbjaollaaArRw
import Derived.Test.YtalnkkmbjaollaaArW
import Derived.Test.YtalnkkmbjaollaaArB
import Derived.Test.YtalnkkmbjaollaaArAw
import Derived.Test.YtalnkkmbjaollaaRefS2
namespace Go.Proofs.Ytalnkkmbjaollaa
open Go.RowKit VecM Ev
namespace Ar
noncomputable def rhPath (n lo hi n' lo' hi' v : Int) (β : Nat → Fr) : Out := evPath envN envN 60 46 [.int .i64 n, .int .i64 lo, .int .i64 hi] [.int .i64 n', .int .i64 lo', .int .i64 hi'] (.int .u64 v) β
def rhD (n lo hi : Int) (c d : Bool) : List (Bool × Bool) := [(decide (n < lo), c), (decide (n > hi), d)]
theorem rhD_ok {n lo hi : Int} {c d : Bool} (h1 : decide (n < lo) = c) (h2 : decide (n > hi) = d) : ∀ p ∈ rhD n lo hi c d, p.1 = p.2 := by
  intro p hp
  simp only [rhD, List.mem_cons, List.not_mem_nil, or_false] at hp
  rcases hp with rfl | rfl
  · exact h1
  · exact h2
--EVTS rhlTs | fun (n lo hi : Int) (β : Nat → Fr) => (rhPath n lo hi 0 1 2 (IntKind.u64.wrap lo) β, rhD n lo hi true (decide (n > hi)))
def rhlTs : List Nat := [1]
theorem rh_l (n lo hi : Int) (h : n < lo) (w : World) : Calls Try.prog 46 #[.int .i64 n, .int .i64 lo, .int .i64 hi] w fun e w' => e = .returned (.int .u64 (IntKind.u64.wrap lo)) ∧ Gr w w' :=
  ev_path (E := envN) (E' := envN) rfl sumN_ok (fuel := 60) (args' := [.int .i64 0, .int .i64 1, .int .i64 2]) (rhD n lo hi true (decide (n > hi))) rhlTs (rhD_ok (decide_eq_true h) rfl) (fun β => by kernel_rfl) w
--EVTS rhhTs | fun (n lo hi : Int) (β : Nat → Fr) => (rhPath n lo hi 3 1 2 (IntKind.u64.wrap hi) β, rhD n lo hi false true)
def rhhTs : List Nat := [2, 1]
theorem rh_h (n lo hi : Int) (h : ¬ n < lo ∧ n > hi) (w : World) : Calls Try.prog 46 #[.int .i64 n, .int .i64 lo, .int .i64 hi] w fun e w' => e = .returned (.int .u64 (IntKind.u64.wrap hi)) ∧ Gr w w' :=
  ev_path (E := envN) (E' := envN) rfl sumN_ok (fuel := 60) (args' := [.int .i64 3, .int .i64 1, .int .i64 2]) (rhD n lo hi false true) rhhTs (rhD_ok (decide_eq_false h.1) (decide_eq_true h.2)) (fun β => by kernel_rfl) w
--EVTS rhmTs | fun (n lo hi : Int) (β : Nat → Fr) => (rhPath n lo hi 2 1 3 (IntKind.u64.wrap n) β, rhD n lo hi false false)
def rhmTs : List Nat := [2, 1]
theorem rh_m (n lo hi : Int) (h : ¬ n < lo ∧ ¬ n > hi) (w : World) : Calls Try.prog 46 #[.int .i64 n, .int .i64 lo, .int .i64 hi] w fun e w' => e = .returned (.int .u64 (IntKind.u64.wrap n)) ∧ Gr w w' :=
  ev_path (E := envN) (E' := envN) rfl sumN_ok (fuel := 60) (args' := [.int .i64 2, .int .i64 1, .int .i64 3]) (rhD n lo hi false false) rhmTs (rhD_ok (decide_eq_false h.1) (decide_eq_false h.2)) (fun β => by kernel_rfl) w
theorem rhold_any (n lo hi : Int) (w : World) : Calls Try.prog 46 #[.int .i64 n, .int .i64 lo, .int .i64 hi] w fun e w' => e = .returned (.int .u64 (IntKind.u64.wrap (holdI n lo hi))) ∧ Gr w w' := by
  unfold holdI
  by_cases h1 : n < lo
  · rw [if_pos h1]; exact rh_l n lo hi h1 w
  · rw [if_neg h1]
    by_cases h2 : hi < n
    · rw [if_pos h2]; exact rh_h n lo hi ⟨h1, h2⟩ w
    · rw [if_neg h2]; exact rh_m n lo hi ⟨h1, h2⟩ w
noncomputable def sumR (f : FuncId) (args : List Value) : Option (List (List Value) × (List (Nat → Int) → Value × List Bool)) :=
  match Nat.beq f 35 with
  | true => match args with
    | [.agg ⟨c⟩, .int .i64 v, .int .i64 i] => some ([c], fun fs => (.int .u64 (getI (hd1 fs) v i), []))
    | _ => none
  | false => match Nat.beq f 45 with
    | true => match args with
      | [.agg ⟨c⟩, .int .i64 v, .int .i64 i] => some ([c], fun fs => (.int .i64 (sgnI (hd1 fs) v i), []))
      | _ => none
    | false => match Nat.beq f 36 with
      | true => match args with
        | [.agg ⟨c⟩, .int .i64 v, .int .i64 i, .int .u64 x] => some ([c], fun fs => (.agg (bs (setI (hd1 fs) v i x)), [decide (0 ≤ x), decide (x < 18446744073709551616)]))
        | _ => none
      | false => match Nat.beq f 34 with
        | true => match args with
          | [.int .i64 v] => some ([], fun _ => (.int .i64 (lanesI v), []))
          | _ => none
        | false => match Nat.beq f 46 with
          | true => match args with
            | [.int .i64 n, .int .i64 lo, .int .i64 hi] => some ([], fun _ => (.int .u64 (IntKind.u64.wrap (holdI n lo hi)), []))
            | _ => none
          | false => match Nat.beq f 30 with
            | true => match args with
              | [.int .i64 op] => some ([], fun _ => (.int .i64 (aW op), []))
              | _ => none
            | false => none
theorem sumR_ok' (P : Env) (hP : P.sum = sumR) (hK : ∀ x ∈ P.known, Byt x) : SumOk P := by
  intro f args cs mk h fs hcs hfs hp w
  rw [hP] at h
  unfold sumR at h
  split at h
  · rename_i hf
    obtain rfl := Nat.eq_of_beq_eq_true hf
    split at h
    · cases h
      obtain ⟨x, rfl, rfl⟩ := one_fs hcs
      exact rget_any x (hK x (hfs x (List.mem_cons_self ..))) _ _ w
    · cases h
  · split at h
    · rename_i hf
      obtain rfl := Nat.eq_of_beq_eq_true hf
      split at h
      · cases h
        obtain ⟨x, rfl, rfl⟩ := one_fs hcs
        exact rsigned_any x (hK x (hfs x (List.mem_cons_self ..))) _ _ w
      · cases h
    · split at h
      · rename_i hf
        obtain rfl := Nat.eq_of_beq_eq_true hf
        split at h
        · cases h
          obtain ⟨x, rfl, rfl⟩ := one_fs hcs
          have h1 := hp _ (List.mem_cons_self ..)
          have h2 := hp _ (List.mem_cons_of_mem _ (List.mem_cons_self ..))
          simp only [decide_eq_true_eq] at h1 h2
          exact rset_any x _ _ _ h1 h2 w
        · cases h
      · split at h
        · rename_i hf
          obtain rfl := Nat.eq_of_beq_eq_true hf
          split at h
          · cases h
            exact (rlanes_any _ w).mono fun e w' hh => ⟨hh.1, hh.2 ▸ Gr.refl _⟩
          · cases h
        · split at h
          · rename_i hf
            obtain rfl := Nat.eq_of_beq_eq_true hf
            split at h
            · cases h
              exact rhold_any _ _ _ w
            · cases h
          · split at h
            · rename_i hf
              obtain rfl := Nat.eq_of_beq_eq_true hf
              split at h
              · cases h
                exact rwidth_any _ w
              · cases h
            · cases h
noncomputable def envR (K : List (Nat → Int)) : Env := { P := Try.prog, known := K, sum := sumR }
theorem sumR_ok (K : List (Nat → Int)) (hK : ∀ x ∈ K, Byt x) : SumOk (envR K) := sumR_ok' (envR K) rfl hK
--EVTS roTs | fun (op : Int) (β : Nat → Fr) => (evPath (envR []) (envR []) 60 33 [.int .i64 op] [.int .i64 0] (.int .i64 (-1)) β, [(aW op == 0, true)])
def roTs : List Nat := [1]
--EVTS riTs | fun (op : Int) (β : Nat → Fr) => (evPath (envR []) (envR []) 60 33 [.int .i64 op] [.int .i64 64864] (.int .i64 (Int.tmod (IntKind.i64.wrap (op - 64768)) 32)) β, [(aW op == 0, false)])
def riTs : List Nat := [1]
theorem roffset_any (op : Int) (w : World) : Calls Try.prog 33 #[.int .i64 op] w fun e w' => e = .returned (.int .i64 (if aW op = 0 then -1 else aK op)) ∧ Gr w w' := by
  by_cases h : aW op = 0
  · rw [if_pos h]
    exact ev_path (E := envR []) (E' := envR []) rfl (sumR_ok _ (fun x hx => by cases hx)) (fuel := 60) (args' := [.int .i64 0]) [(aW op == 0, true)] roTs (fun p hp => by rw [List.mem_singleton.1 hp]; exact beq_iff_eq.2 h) (fun β => by kernel_rfl) w
  · rw [if_neg h]
    have e : aK op = Int.tmod (IntKind.i64.wrap (op - 64768)) 32 := by
      have hi : inA op = true := by unfold aW at h; split at h <;> simp_all
      have hr : 64864 ≤ op ∧ op ≤ 64991 := by unfold inA at hi; simp only [Bool.and_eq_true, decide_eq_true_eq] at hi; exact ⟨hi.1.1, hi.1.2⟩
      unfold aK
      rw [if_pos hi, IntWalk.i64_in _ (by omega), Int.tmod_eq_emod_of_nonneg (by omega)]
      omega
    rw [e]
    exact ev_path (E := envR []) (E' := envR []) rfl (sumR_ok _ (fun x hx => by cases hx)) (fuel := 60) (args' := [.int .i64 64864]) [(aW op == 0, false)] riTs (fun p hp => by rw [List.mem_singleton.1 hp]; exact beq_eq_false_iff_ne.2 h) (fun β => by kernel_rfl) w
/-- with offset too -/
noncomputable def sumO (f : FuncId) (args : List Value) : Option (List (List Value) × (List (Nat → Int) → Value × List Bool)) :=
  match Nat.beq f 33 with
  | true => match args with
    | [.int .i64 op] => some ([], fun _ => (.int .i64 (if aW op = 0 then -1 else aK op), []))
    | _ => none
  | false => sumR f args
theorem sumO_ok' (P : Env) (hP : P.sum = sumO) (hK : ∀ x ∈ P.known, Byt x) : SumOk P := by
  intro f args cs mk h fs hcs hfs hp w
  rw [hP] at h
  unfold sumO at h
  split at h
  · rename_i hf
    obtain rfl := Nat.eq_of_beq_eq_true hf
    split at h
    · cases h
      exact roffset_any _ w
    · cases h
  · exact sumR_ok (P.known) hK f args cs mk h fs hcs hfs hp w
noncomputable def envO (K : List (Nat → Int)) : Env := { P := Try.prog, known := K, sum := sumO }
theorem sumO_ok (K : List (Nat → Int)) (hK : ∀ x ∈ K, Byt x) : SumOk (envO K) := sumO_ok' (envO K) rfl hK
def zV : Nat → Int := fun _ => 0
end Ar
end Go.Proofs.Ytalnkkmbjaollaa
