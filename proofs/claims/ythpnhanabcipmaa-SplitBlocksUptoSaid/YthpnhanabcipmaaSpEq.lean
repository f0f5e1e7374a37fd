/-
  Of layer 21: lists of ints compared, by the reference and by the library.
-/
import Derived.Test.YthpnhanabcipmaaSpJn
namespace Go.Proofs.Ythpnhanabcipmaa
open Go.RowKit VecM
namespace Sp
/-- are these lists the same? -/
def eqD (z : Nat → Int) (n : Nat) (y : Nat → Int) (m : Nat) : Bool := decide (zl z n = zl y m)
theorem eqD_len {z y : Nat → Int} {n m : Nat} (h : ¬ n = m) : eqD z n y m = false := by
  refine decide_eq_false fun e => h ?_
  have := congrArg List.length e
  rw [zl_len, zl_len] at this
  exact this
theorem eqD_at {z y : Nat → Int} {n k : Nat} (hk : k < n) (h : ¬ z k = y k) : eqD z n y n = false := by
  refine decide_eq_false fun e => h ?_
  rw [← zl_get z hk, e, zl_get y hk]
theorem eqD_all {z y : Nat → Int} {n : Nat} (h : ∀ j, j < n → z j = y j) : eqD z n y n = true := by
  refine decide_eq_true ?_
  unfold zl
  exact List.map_congr_left fun j hj => h j (List.mem_range.1 hj)
set_option maxHeartbeats 2000000 in
theorem same_any2 (va vb : Value) (n m : Nat) (z y : Nat → Int) (w : World) (hn : n ≤ 1099511627776) (ha : I64s w va n z) (hb : I64s w vb m y) :
    Calls Try.prog 14 #[va, vb] w fun e w' => e = .returned (.bool (eqD z n y m)) ∧ Gr w w' := by
  obtain ⟨xa, ca, rfl⟩ := ls_slice ha
  obtain ⟨xb, cb, rfl⟩ := ls_slice hb
  by_cases hnm : n = m
  · subst hnm
    have HA := Lib.hid ha
    have HB := Lib.hid hb
    clear ha hb
    go_enter Try.func14, Try.ntmps14
    go_wp2_with fail
    go_loopw [5] (fun i wr => ∃ k : Nat, k ≤ n ∧ i = .int .i64 k ∧ (∀ j, j < k → z j = y j) ∧ Gr w wr) (fun i _ => n - (intOf i).toNat)
    case atStart => exact ⟨0, by omega, rfl, fun j hj => absurd hj (by omega), Gr.refl _⟩
    case round =>
      obtain ⟨k, hk, rfl, he, hg⟩ := hrel
      have HE := Lib.hid he
      have HG := Lib.hid hg
      clear hg he
      by_cases hlt : k < n
      · rcases HA.out with ⟨h, _⟩ | ⟨_, ba, oa, _, ha, hca⟩
        · exact absurd h (by omega)
        injection ha with ha1 _ ha2
        subst ha1 ha2
        rcases HB.out with ⟨h, _⟩ | ⟨_, bb, ob, _, hb, hcb⟩
        · exact absurd h (by omega)
        injection hb with hb1 _ hb2
        subst hb1 hb2
        have h1 := gr_cell HG.out (hca k hlt)
        have h2 := gr_cell HG.out (hcb k hlt)
        clear hca hcb
        by_cases e : z k = y k
        · have HE2 := Lib.hid (show ∀ j, j < k + 1 → z j = y j from fun j hj => by
            by_cases hjk : j < k
            · exact HE.out j hjk
            · obtain rfl : j = k := by omega
              exact e)
          rw [← e] at h2
          clear e
          go_wp2_with fail
          go_quiet (fail)
          go_wp2
          exact ⟨⟨k + 1, by omega, by go_num, HE2.out, HG.out.drewN _⟩, by simp [intOf]; omega⟩
        · have HF := Lib.hid (eqD_at hlt e)
          generalize z k = p at *
          generalize y k = q at *
          have e2 : (p == q) = false := by simpa using e
          go_wp2_with fail
          go_quiet (fail)
          go_wp2
          go_ret
          exact ⟨by rw [HF.out]; rfl, HG.out.drewN _⟩
      · obtain rfl : k = n := by omega
        have HF := Lib.hid (eqD_all HE.out)
        go_wp2
        go_ret
        exact ⟨by rw [HF.out]; rfl, HG.out⟩
  · have HF := Lib.hid (eqD_len (z := z) (y := y) hnm)
    clear ha hb
    have h2 : ¬ (n : Int) = (m : Int) := by omega
    have h3 : ((n : Int) == (m : Int)) = false := by simpa using h2
    go_enter Try.func14, Try.ntmps14
    go_wp2
    go_ret
    exact ⟨by rw [HF.out]; rfl, Gr.refl _⟩
set_option maxHeartbeats 2000000 in
theorem equal_any (va vb : Value) (n m : Nat) (z y : Nat → Int) (w : World) (hn : n ≤ 1099511627776) (ha : I64s w va n z) (hb : I64s w vb m y) :
    Calls Try.prog 33 #[va, vb] w fun e w' => e = .returned (.bool (eqD z n y m)) ∧ Gr w w' := by
  obtain ⟨xa, ca, rfl⟩ := ls_slice ha
  obtain ⟨xb, cb, rfl⟩ := ls_slice hb
  by_cases hnm : n = m
  · subst hnm
    have HA := Lib.hid ha
    have HB := Lib.hid hb
    clear ha hb
    go_enter Try.func33, Try.ntmps33
    go_wp2_with fail
    go_loopw [13] (fun i wr => ∃ k : Nat, k ≤ n ∧ i = .int .i64 k ∧ (∀ j, j < k → z j = y j) ∧ Gr w wr) (fun i _ => n - (intOf i).toNat)
    case atStart => exact ⟨0, by omega, rfl, fun j hj => absurd hj (by omega), Gr.refl _⟩
    case round =>
      obtain ⟨k, hk, rfl, he, hg⟩ := hrel
      have HE := Lib.hid he
      have HG := Lib.hid hg
      clear hg he
      by_cases hlt : k < n
      · rcases HA.out with ⟨h, _⟩ | ⟨_, ba, oa, _, ha, hca⟩
        · exact absurd h (by omega)
        injection ha with ha1 _ ha2
        subst ha1 ha2
        rcases HB.out with ⟨h, _⟩ | ⟨_, bb, ob, _, hb, hcb⟩
        · exact absurd h (by omega)
        injection hb with hb1 _ hb2
        subst hb1 hb2
        have h1 := gr_cell HG.out (hca k hlt)
        have h2 := gr_cell HG.out (hcb k hlt)
        clear hca hcb
        by_cases e : z k = y k
        · have HE2 := Lib.hid (show ∀ j, j < k + 1 → z j = y j from fun j hj => by
            by_cases hjk : j < k
            · exact HE.out j hjk
            · obtain rfl : j = k := by omega
              exact e)
          rw [← e] at h2
          clear e
          go_wp2_with fail
          go_quiet (fail)
          go_wp2
          exact ⟨⟨k + 1, by omega, by go_num, HE2.out, HG.out.drewN _⟩, by simp [intOf]; omega⟩
        · have HF := Lib.hid (eqD_at hlt e)
          generalize z k = p at *
          generalize y k = q at *
          have e2 : (p == q) = false := by simpa using e
          go_wp2_with fail
          go_quiet (fail)
          go_wp2
          go_ret
          exact ⟨by rw [HF.out]; rfl, HG.out.drewN _⟩
      · obtain rfl : k = n := by omega
        have HF := Lib.hid (eqD_all HE.out)
        go_wp2
        go_ret
        exact ⟨by rw [HF.out]; rfl, HG.out⟩
  · have HF := Lib.hid (eqD_len (z := z) (y := y) hnm)
    clear ha hb
    have h2 : ¬ (n : Int) = (m : Int) := by omega
    have h3 : ((n : Int) == (m : Int)) = false := by simpa using h2
    go_enter Try.func33, Try.ntmps33
    go_wp2
    go_ret
    exact ⟨by rw [HF.out]; rfl, Gr.refl _⟩
end Sp
end Go.Proofs.Ythpnhanabcipmaa
