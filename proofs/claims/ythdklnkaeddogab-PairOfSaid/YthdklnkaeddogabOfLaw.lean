/-
  PairOf: for every width and every list of lanes the law returns true. No condition.
-/
import Derived.Test.YthdklnkaeddogabAwake
namespace Go.Proofs.Ythdklnkaeddogab
open Go.RowKit VecM
theorem eq_same (b : Nat → Int) (w : World) : (Op.equalIn 10000 25 (.agg (bs b)) (.agg (bs b))).run Try.prog w = .ok true w := by rw [eq_vec, vecB_refl]
set_option maxHeartbeats 1000000 in
theorem of_walk (v : Int) (sv : Value) (len : Nat) (zs : Nat → Int) (hz : ∀ j, 0 ≤ zs j ∧ zs j < 18446744073709551616) (w : World) (h : U64s w sv len zs) :
    Calls Try.prog 4 #[.int .i64 v, sv] w fun e w' => e = .returned (.bool true) ∧ Gr w w' := by
  have CO := fun wx (hx : Gr w wx) => of_any v sv len zs wx (u64s_gr h hx)
  have CR := fun wx (hx : Gr w wx) => rof_any v sv len zs hz wx (u64s_gr h hx)
  have HO := Lib.hid CO
  have HR := Lib.hid CR
  have hq := eq_same (ofK (fun _ => 0) v zs (ofN v len))
  clear CO CR hz h
  generalize bs (ofK (fun _ => 0) v zs (ofN v len)) = B at *
  go_enter Try.func4, Try.ntmps4
  go_wp2_with fail
  refine (Aw.awake _).mono ?_
  rintro e w1 ⟨rfl, hg1⟩
  have HG1 := Lib.hid hg1
  clear hg1
  go_wp2_with fail
  refine (HO.out _ HG1.out).mono ?_
  rintro e w2 ⟨rfl, hg2⟩
  have HG2 := Lib.hid (gr_trans HG1.out hg2)
  clear hg2
  go_wp2_with fail
  refine (HR.out _ HG2.out).mono ?_
  rintro e w3 ⟨rfl, hg3⟩
  have HG3 := Lib.hid (gr_trans HG2.out hg3)
  clear hg3
  go_wp2
  go_ret
  exact ⟨rfl, HG3.out⟩
end Go.Proofs.Ythdklnkaeddogab
