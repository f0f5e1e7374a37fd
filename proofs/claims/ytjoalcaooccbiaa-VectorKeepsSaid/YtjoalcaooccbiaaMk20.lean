/-
  Texts of this seat, joined: VcSu. Each says what it proves.
-/
import Derived.Test.YtjoalcaooccbiaaMk7
import Derived.Test.YtjoalcaooccbiaaMk16
import Derived.Test.YtjoalcaooccbiaaMk19
/- VcSu -/
namespace Go.Proofs.Ytjoalcaooccbiaa
open Go.RowKit VecM Ev
namespace Vc
def hd1 : List (Nat → Int) → Nat → Int
 | f :: _ => f
 | [] => fun _ => 0
noncomputable def sumV (f : FuncId) (args : List Value) : Option (List (List Value) × (List (Nat → Int) → Value × List Bool)) :=
 match Nat.beq f 35 with
 | true => match args with
  | [.agg ⟨c⟩, .int .i64 v, .int .i64 i] => some ([c], fun fs => (.int .u64 (getI (hd1 fs) v i), []))
  | _ => none
 | false => match Nat.beq f 11 with
  | true => match args with
   | [.agg ⟨c⟩] => some ([c], fun fs => (.agg #[.int .u64 (getI (hd1 fs) 64 0), .int .u64 (getI (hd1 fs) 64 1)], []))
   | _ => none
  | false => match Nat.beq f 20 with
   | true => match args with
    | [.int .i64 op, .int .u64 x] => some ([], fun _ => (.tuple #[.agg (bs (Mv.splV (Mv.spW op) x)), .int .i64 (if Mv.spW op = 0 then 1 else 0)], [decide (-9223372036854775808 ≤ op), decide (op ≤ 9223372036854775807)]))
    | _ => none
   | false => match Nat.beq f 21 with
    | true => match args with
     | [.int .i64 op, .int .i64 lane, .agg ⟨c⟩, .int .u64 x] => some ([c], fun fs => (.tuple #[.agg (bs (Mv.reV op lane x (hd1 fs))), .int .i64 (if thereB (Mv.reW op) lane then 0 else 1)], [decide (-9223372036854775808 ≤ lane), decide (lane ≤ 9223372036854775807)]))
     | _ => none
    | false => match Nat.beq f 19 with
     | true => match args with
      | [.int .i64 op, .agg ⟨c⟩, .int .u32 n] => some ([c], fun fs => (.tuple #[.agg (bs (Ar.shV op (hd1 fs) n)), .int .i64 (if Ar.shOk op then 0 else 1)], [decide (0 ≤ n), decide (n < 4294967296)]))
      | _ => none
     | false => none
theorem one_fs {c : List Value} {fs : List (Nat → Int)} (h : [c] = fs.map (fun x => (bs x).toList)) : ∃ x, fs = [x] ∧ c = (bs x).toList := by
 match fs, h with
 | [x], h => simp only [List.map_cons, List.map_nil, List.cons.injEq, and_true] at h; exact ⟨x, rfl, h⟩
theorem sumV_ok {E : Env} (hE : E.sum = sumV) (hK : ∀ x ∈ E.known, Byt x) : SumOk E := by
 intro f args cs mk h fs hcs hfs hp w
 rw [hE] at h
 unfold sumV at h
 split at h
 ·rename_i hf
  obtain rfl := Nat.eq_of_beq_eq_true hf
  split at h
  ·cases h
   obtain ⟨x, rfl, rfl⟩ := one_fs hcs
   exact get_any x (hK x (hfs x (List.mem_cons_self ..))) _ _ w
  ·cases h
 ·split at h
  ·rename_i hf
   obtain rfl := Nat.eq_of_beq_eq_true hf
   split at h
   ·cases h
    obtain ⟨x, rfl, rfl⟩ := one_fs hcs
    exact split_any x (hK x (hfs x (List.mem_cons_self ..))) w
   ·cases h
  ·split at h
   ·rename_i hf
    obtain rfl := Nat.eq_of_beq_eq_true hf
    split at h
    ·cases h
     exact Mv.splat_any _ _ ⟨of_decide_eq_true (hp _ (List.mem_cons_self ..)), of_decide_eq_true (hp _ (List.mem_cons_of_mem _ (List.mem_cons_self ..)))⟩ w
    ·cases h
   ·split at h
    ·rename_i hf
     obtain rfl := Nat.eq_of_beq_eq_true hf
     split at h
     ·cases h
      obtain ⟨x, rfl, rfl⟩ := one_fs hcs
      exact Mv.replace_any _ _ _ ⟨of_decide_eq_true (hp _ (List.mem_cons_self ..)), of_decide_eq_true (hp _ (List.mem_cons_of_mem _ (List.mem_cons_self ..)))⟩ x w
     ·cases h
    ·split at h
     ·rename_i hf
      obtain rfl := Nat.eq_of_beq_eq_true hf
      split at h
      ·cases h
       obtain ⟨x, rfl, rfl⟩ := one_fs hcs
       exact Ar.sh_any _ x (hK x (hfs x (List.mem_cons_self ..))) _ ⟨of_decide_eq_true (hp _ (List.mem_cons_self ..)), of_decide_eq_true (hp _ (List.mem_cons_of_mem _ (List.mem_cons_self ..)))⟩ w
      ·cases h
     ·cases h
noncomputable def cutC (m : Int) (t : Gt) (L : List Q) (lo : Int) (f : FuncId) (args : List Value) (M : List Rw) : Option CHole :=
 match prS lo f args M with
 | some H => some H
 | none => lawS m t L f args M
noncomputable def envK (m : Int) (t : Gt) (L : List Q) (lo : Int) (K : List (Nat → Int)) : Env := { P := Try.prog, known := K, sum := sumV, csum := cutC m t L lo, cc := fun op => match op with | .binOp .rem _ _ _ _ => true | _ => false }
theorem envK_ok (m : Int) (t : Gt) (L : List Q) (hL : ∀ q ∈ L, Known q) (lo : Int) (K : List (Nat → Int)) : OphOk (envK m t L lo K) := csum_of rfl fun f args M H hq => by
 replace hq : cutC m t L lo f args M = some H := hq
 unfold cutC at hq
 split at hq
 ·rename_i H' h
  cases hq
  exact prS_ok lo f args M H h
 ·exact lawS_ok m t L hL f args M H hq
end Vc
end Go.Proofs.Ytjoalcaooccbiaa
