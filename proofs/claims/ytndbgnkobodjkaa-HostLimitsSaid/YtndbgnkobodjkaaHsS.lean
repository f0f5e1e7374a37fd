/-
  Of layer 16: lists of numbers compared; rows written out; awake.
-/
import Derived.Test.YtndbgnkobodjkaaHsK
namespace Go.Proofs.Ytndbgnkobodjkaa
open Go.RowKit VecM
namespace Hs
theorem run_neqI {a b : Int} : (a != b) = !(decide (a = b)) := by
  by_cases h : a = b
  · simp [h]
  · simp [h]
theorem list_ne {la lb : List Int} {k : Nat} (h : la.getD k 0 ≠ lb.getD k 0) : la ≠ lb := fun e => h (by rw [e])
theorem list_eq {la lb : List Int} {n : Nat} (h1 : la.length = n) (h2 : lb.length = n) (h : ∀ j, j < n → la.getD j 0 = lb.getD j 0) : la = lb := by
  apply List.ext_getElem (by omega)
  intro j hj1 hj2
  have := h j (by omega)
  simpa [List.getD_eq_getElem?_getD, hj1, hj2] using this
set_option maxRecDepth 100000 in
set_option maxHeartbeats 2000000 in
theorem same_nums {w : World} {va vb : Value} {la lb : List Int} (ha : Us w va la) (hb : Us w vb lb) : Calls Try.prog 22 #[va, vb] w fun e w' => e = .returned (.bool (decide (la = lb))) ∧ Gr w w' := by
  obtain ⟨xa, ca, rfl⟩ := us_slice ha
  obtain ⟨xb, cb, rfl⟩ := us_slice hb
  by_cases hl : la.length = lb.length
  · have HLb := Lib.hid hl.symm
    have hl' := hl
    rw [← hl]
    have nz : ((la.length : Int) != (la.length : Int)) = false := by simp
    rcases ha with ⟨h0, _⟩ | ⟨hm, ba, oa, c1, _, e1, hca⟩
    · have he : la = lb := list_eq rfl hl.symm (fun j hj => absurd hj (by omega))
      subst he
      rw [h0] at nz ⊢
      clear hl hl' hb h0 HLb
      go_enter Try.func22, Try.ntmps22
      go_wp2_with fail
      refine wp_loop_rounds 1 ?_
      rw [rounds_succ]
      go_wp2
      go_ret
      exact ⟨by simp, Gr.refl _⟩
    injection e1 with e1 _ e1'
    subst e1 e1'
    rcases hb with ⟨h0, _⟩ | ⟨_, bb, ob, c2, _, e2, hcb⟩
    · have he : la = lb := list_eq rfl hl.symm (fun j hj => absurd hj (by omega))
      subst he
      rw [h0] at nz ⊢
      clear hl hl' h0 hca HLb hm
      go_enter Try.func22, Try.ntmps22
      go_wp2_with fail
      refine wp_loop_rounds 1 ?_
      rw [rounds_succ]
      go_wp2
      go_ret
      exact ⟨by simp, Gr.refl _⟩
    injection e2 with e2 _ e2'
    subst e2 e2'
    have HA := Lib.hid (fun j (hj : j < la.length) => hca j (by omega))
    have HB := Lib.hid (fun j (hj : j < la.length) => hcb j (by omega))
    clear hca hcb hl hl'
    go_enter Try.func22, Try.ntmps22
    go_wp2_with fail
    go_loopw [5] (fun i wr => ∃ k : Nat, k ≤ la.length ∧ i = .int .i64 k ∧ Gr w wr ∧ ∀ j, j < k → la.getD j 0 = lb.getD j 0) (fun i _ => la.length - (intOf i).toNat)
    case atStart => exact ⟨0, by omega, rfl, Gr.refl _, fun j hj => absurd hj (by omega)⟩
    case round =>
      obtain ⟨k, hk, rfl, hg, he⟩ := hrel
      have HG := Lib.hid hg
      have HE := Lib.hid he
      clear hg he
      by_cases hlt : k < la.length
      · have HCa := Lib.hid (HA.out k hlt)
        have HCb := Lib.hid (HB.out k hlt)
        have HS := Lib.hid (fun (hq : la.getD k 0 = lb.getD k 0) => show ∀ j, j < k + 1 → la.getD j 0 = lb.getD j 0 from fun j hj => by
          by_cases h : j < k
          · exact HE.out j h
          · obtain rfl : j = k := by omega
            exact hq)
        have HD := Lib.hid (fun (hq : la.getD k 0 ≠ lb.getD k 0) => show decide (la = lb) = false from decide_eq_false (list_ne hq))
        generalize la.getD k 0 = x at *
        generalize lb.getD k 0 = y at *
        have t1 : (k : Int) < (la.length : Int) := by omega
        go_upto_region 6 with (fail)
        refine wp_region_facs [0, 0, 3, 7, 0, 0, 48, 112, 255] [(fun wx => wx.cell? ⟨ba, oa + k, none⟩ = some (.int .u64 x), []), (fun wx => wx.cell? ⟨bb, ob + k, none⟩ = some (.int .u64 y), [])] (fun _ => []) (fun _ _ => False) (fun jφ v wn => match jφ with | 0 => v = .slice (some ⟨ba, oa, none⟩) la.length ca | 1 => v = .int .i64 (k : Int) | 2 => v = .pointer (some ⟨ba, oa + k, none⟩) | 3 => v = .int .u64 x | 4 => v = .slice (some ⟨bb, ob, none⟩) la.length cb | 5 => v = .int .i64 (k : Int) | 6 => v = .pointer (some ⟨bb, ob + k, none⟩) | 7 => v = .int .u64 y | 8 => v = .bool (x != y) | _ => True) (by kernel_rfl) (by kernel_rfl) (by kernel_rfl) ?_ ?_ ?_ ?_ ?_
        · exact ⟨(gr_cell HG.out HCa.out), (gr_cell HG.out HCb.out), trivial⟩
        · exact ⟨(fun k _ w1 w2 hs h => gr_cell (gr_of_sep hs) h), (fun k _ w1 w2 hs h => gr_cell (gr_of_sep hs) h), trivial⟩
        · intro j k hjk hb haf v w1 w2 hS h
          have hg := gr_of_sep hS
          match j, hjk, hb, haf, h with
          | 0, hjk, hb, haf, h => exact h
          | 1, hjk, hb, haf, h => exact h
          | 2, hjk, hb, haf, h => exact h
          | 3, hjk, hb, haf, h => exact h
          | 4, hjk, hb, haf, h => exact h
          | 5, hjk, hb, haf, h => exact h
          | 6, hjk, hb, haf, h => exact h
          | 7, hjk, hb, haf, h => exact h
          | 8, hjk, hb, haf, h => exact h
          | _ + 9, _, _, _, _ => trivial
        · refine ⟨?_, ?_, ?_, ?_, ?_, ?_, ?_, ?_, ?_, trivial⟩
          · refine FacStep.of rfl fun ρ wx hu => ?_
            have e0 : ρ (.tmp 0) = (.slice (some ⟨ba, oa, none⟩) la.length ca) := hu.slot 0 (by kernel_rfl)
            go_simp
            exact ⟨rfl, Sep.refl _⟩
          · refine FacStep.of rfl fun ρ wx hu => ?_
            have e5 : ρ (.tmp 5) = (.int .i64 (k : Int)) := hu.slot 5 (by kernel_rfl)
            go_simp
            exact ⟨rfl, Sep.refl _⟩
          · refine FacStep.of rfl fun ρ wx hu => ?_
            have e17 : ρ (.tmp 17) = (.slice (some ⟨ba, oa, none⟩) la.length ca) := hu.dep 0 17 (by kernel_rfl)
            have e18 : ρ (.tmp 18) = (.int .i64 (k : Int)) := hu.dep 1 18 (by kernel_rfl)
            go_simp
            exact ⟨rfl, Sep.refl _⟩
          · refine FacStep.of rfl fun ρ wx hu => ?_
            have e19 : ρ (.tmp 19) = (.pointer (some ⟨ba, oa + k, none⟩)) := hu.dep 2 19 (by kernel_rfl)
            have hc := hu.fac 0 _ _ rfl (by kernel_rfl)
            go_simp
            exact ⟨rfl, Sep.refl _⟩
          · refine FacStep.of rfl fun ρ wx hu => ?_
            have e1 : ρ (.tmp 1) = (.slice (some ⟨bb, ob, none⟩) la.length cb) := hu.slot 1 (by kernel_rfl)
            go_simp
            exact ⟨rfl, Sep.refl _⟩
          · refine FacStep.of rfl fun ρ wx hu => ?_
            have e5 : ρ (.tmp 5) = (.int .i64 (k : Int)) := hu.slot 5 (by kernel_rfl)
            go_simp
            exact ⟨rfl, Sep.refl _⟩
          · refine FacStep.of rfl fun ρ wx hu => ?_
            have e21 : ρ (.tmp 21) = (.slice (some ⟨bb, ob, none⟩) la.length cb) := hu.dep 4 21 (by kernel_rfl)
            have e22 : ρ (.tmp 22) = (.int .i64 (k : Int)) := hu.dep 5 22 (by kernel_rfl)
            go_simp
            exact ⟨rfl, Sep.refl _⟩
          · refine FacStep.of rfl fun ρ wx hu => ?_
            have e23 : ρ (.tmp 23) = (.pointer (some ⟨bb, ob + k, none⟩)) := hu.dep 6 23 (by kernel_rfl)
            have hc := hu.fac 1 _ _ rfl (by kernel_rfl)
            go_simp
            exact ⟨rfl, Sep.refl _⟩
          · refine FacStep.of rfl fun ρ wx hu => ?_
            have e20 : ρ (.tmp 20) = (.int .u64 x) := hu.dep 3 20 (by kernel_rfl)
            have e24 : ρ (.tmp 24) = (.int .u64 y) := hu.dep 7 24 (by kernel_rfl)
            go_simp
            exact ⟨rfl, Sep.refl _⟩
        · intro V wN hS hV hC
          have h8 : V 25 = .bool (x != y) := hV 8 _ rfl rfl
          have HGn := Lib.hid (gr_trans HG.out (gr_trans (Gr.drew (Gr.refl _)) (gr_of_sep (hS.mono fun q hq => hq.elim fun _ h => h))))
          clear hV hC hS
          simp only [putAll, Act.put, Option.map_some, Option.getD_some, List.setIfInBounds_toArray, List.set_cons_succ, List.set_cons_zero]
          rw [h8]
          by_cases hxy : x = y
          · have n1 : (x != y) = false := by simp [hxy]
            rw [n1]
            go_wp2
            exact ⟨⟨k + 1, by omega, by go_num, HGn.out, HS.out hxy⟩, by simp [intOf]; omega⟩
          · have n1 : (x != y) = true := by simp [hxy]
            rw [n1]
            go_wp2
            go_ret
            exact ⟨by rw [HD.out hxy]; rfl, HGn.out⟩
      · have hkn : k = la.length := by omega
        rw [hkn] at HE ⊢
        have HD := Lib.hid (show decide (la = lb) = true from decide_eq_true (list_eq rfl HLb.out HE.out))
        go_wp2
        go_ret
        exact ⟨by rw [HD.out]; rfl, HG.out⟩
  · have hd : decide (la = lb) = false := decide_eq_false fun e => hl (by rw [e])
    have n1 : (((la.length : Nat) : Int) != ((lb.length : Nat) : Int)) = true := by rw [bne_iff_ne]; omega
    rw [hd]
    clear ha hb hl hd
    go_enter Try.func22, Try.ntmps22
    go_wp2
    go_ret
    exact ⟨rfl, Gr.refl _⟩
end Hs
end Go.Proofs.Ytndbgnkobodjkaa
