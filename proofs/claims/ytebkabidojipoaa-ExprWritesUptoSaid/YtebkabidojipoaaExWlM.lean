/-
 Of layer 12: ExprWrites. Condition: the library's MaxLen reads as some number.
-/
import Derived.Test.YtebkabidojipoaaMw20
namespace Go.Proofs.Ytebkabidojipoaa
open Go.RowKit VecM LebM
namespace Ex
set_option maxRecDepth 100000 in
set_option maxHeartbeats 4000000 in
theorem writes_walk {v : Value} {P : List (In × Value)} {w : World} (hm : Ins.Mx w) (hP : CdR w v P) (hR : ∀ q ∈ P, InR q.1) (hz : szP (P.map (·.1)) ≤ 1048576) :
  Calls Try.prog 4 #[v] w fun e w' => e = .returned (.bool true) ∧ Gr w w' := by
 have hwz := mx_size hm
 have hmem := szP_mem' (P.map (·.1))
 have HW := Lib.hid (fun wx (hg : Gr w wx) => write_any (Ins.mx_gr hm hg) (cdR_gr hP hg) (fun p hp => ⟨(hR p hp).1, (hR p hp).2.1, (hR p hp).2.2.1, (hR p hp).2.2.2, by have := hmem p.1 (List.mem_map_of_mem hp); omega⟩) hz (Nat.lt_of_lt_of_le hwz hg.size))
 have HV := Lib.hid (fun wx (hg : Gr w wx) => rwrite_any (cdR_gr hP hg) hR hz)
 have HM := Lib.hid hm
 obtain ⟨x, c, rfl, _⟩ := hP.1
 generalize P.length = n at *
 generalize wrS (P.map (·.1)) [] false [] = R at *
 clear hP hR hz hwz hmem hm
 cases R with
 | none =>
  go_enter Try.func4, Try.ntmps4
  go_wp2_with fail
  refine (awake_any _ HM.out).mono ?_
  rintro e w1 ⟨rfl, hg1⟩
  have HG1 := Lib.hid hg1
  clear hg1
  go_wp2_with fail
  refine (HW.out _ HG1.out).mono ?_
  rintro e w2 ⟨rfl, hg2⟩
  have HG2 := Lib.hid (gr_trans HG1.out hg2)
  clear hg2
  go_wp2_with fail
  refine (HV.out _ HG2.out).mono ?_
  rintro e w3 ⟨rfl, hg3⟩
  have HG3 := Lib.hid (gr_trans HG2.out hg3)
  clear hg3
  have hstr := str_of_owns (l := []) (World.ownsRow_nil w3 0 5 1)
  unfold Str at hstr
  go_wp2
  go_ret
  exact ⟨rfl, HG3.out⟩
 | some L =>
  go_enter Try.func4, Try.ntmps4
  go_wp2_with fail
  refine (awake_any _ HM.out).mono ?_
  rintro e w1 ⟨rfl, hg1⟩
  have HG1 := Lib.hid hg1
  clear hg1
  go_wp2_with fail
  refine (HW.out _ HG1.out).mono ?_
  rintro e w2 ⟨sv, rfl, hg2, ho2⟩
  have HG2 := Lib.hid (gr_trans HG1.out hg2)
  have HO2 := Lib.hid ho2
  obtain ⟨x2, c2, rfl⟩ := own_slice ho2
  clear hg2 ho2
  go_wp2_with fail
  refine (HV.out _ HG2.out).mono ?_
  rintro e w3 ⟨sv, rfl, hg3, ho3⟩
  have HG3 := Lib.hid (gr_trans HG2.out hg3)
  have h1 := str_of_owns (own_gr HO2.out hg3)
  have h2 := str_of_owns ho3
  obtain ⟨x3, c3, rfl⟩ := own_slice ho3
  clear hg3 ho3
  unfold Str at h1 h2
  generalize strOfNums L = S at *
  generalize L.length = m at *
  go_wp2
  go_ret
  exact ⟨rfl, HG3.out⟩
end Ex
end Go.Proofs.Ytebkabidojipoaa
