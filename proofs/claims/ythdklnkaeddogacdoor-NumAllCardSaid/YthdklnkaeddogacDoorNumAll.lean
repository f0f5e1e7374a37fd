/-
  NumAll: for every op, x and y the law returns true, where the listed tables of math/bits lie in memory (the row's own premise, tied by the card). No other condition.
-/
import Derived.Test.YthdklnkaeddogacDoorNumB3
import Derived.Test.YthdklnkaeddogacDoorCnt
namespace Go.Proofs.YthdklnkaeddogacDoor
open Go.RowKit NumRM NumRef NumM Un Un2 NumAr NumUnR NumBinR NumB3
namespace NumAll
theorem rar (op r : Int) (h1 : isUn2 op → r = 1) (h2 : Two op → r = 2) (h0 : ¬ isUn2 op → ¬ Two op → r = 0) : AR op r := fun w => rar_any op r h1 h2 h0 w
theorem rar1 (op : Int) (h : isUn2 op) : AR op 1 := rar op 1 (fun _ => rfl) (fun t => absurd h (two_not op t)) (fun n => absurd h n)
theorem rar2 (op : Int) (h : Two op) : AR op 2 := rar op 2 (fun u => absurd u (two_not op h)) (fun _ => rfl) (fun _ n => absurd h n)
theorem rar0 (op : Int) (h : ¬ isUn2 op) (h2 : ¬ Two op) : AR op 0 := rar op 0 (fun u => absurd u h) (fun t => absurd t h2) (fun _ _ => rfl)
/-! ### Un of the reference -/
theorem run_one (op x : Int) (h : isUn2 op) (hx : U64 x) (w : World) : Calls Tryd.prog 20 #[.int .i64 op, .int .u64 x] w fun e w' => e = .returned (.tuple #[.int .u64 (unW op x), .int .i64 0]) ∧ Grown w w' := by
  have A := rar1 op h
  rcases h with (rfl | rfl | rfl | rfl | rfl | rfl | rfl | rfl | rfl | rfl | rfl | rfl | rfl) | rfl | rfl | rfl
  · exact un69 x hx w A
  · exact un80 x hx w A
  · exact un103 x hx w A
  · exact un104 x hx w A
  · exact un105 x hx w A
  · exact un167 x hx w A
  · exact un173 x hx w A
  · exact un172 x hx w A
  · exact un196 x hx w A
  · exact un192 x hx w A
  · exact un193 x hx w A
  · exact un194 x hx w A
  · exact un195 x hx w A
  · exact un121 x hx w A
  · exact un122 x hx w A
  · exact un123 x hx w A
set_option maxHeartbeats 1000000 in
theorem run_no (op x r : Int) (hr : (r != 1) = true) (hA : AR op r) (w : World) : Calls Tryd.prog 20 #[.int .i64 op, .int .u64 x] w fun e w' => e = .returned (.tuple #[.int .u64 0, .int .i64 1]) ∧ Grown w w' := by
  have HA := Lib.hid hA
  clear hA
  go_enter Tryd.func20, Tryd.ntmps20
  go_wp2_with fail
  refine (HA.out _).mono ?_
  rintro e w1 ⟨rfl, hg⟩
  go_wp2
  go_ret2
  exact ⟨ret_pair rfl rfl, hg⟩
/-! ### Bin of the reference, as the program's -/
theorem cut_eq (W z : Int) (hW : W = 32 ∨ W = 64) (hz : U64 z) : CUT z W (cutI z W) := fun w => cut_any z W hz (by omega) w
theorem rbin32 (k x y : Int) (h0 : 0 ≤ k) (h14 : k ≤ 14) (hx : U64 x) (hy : U64 y) (hA : AR (106 + k) 2) :
    BIN (106 + k) x y (workI k 32 (sh x) (sS x) (sh y) (sS y) % 4294967296) (workE k 32 (sS x) (sh y) (sS y)) := by
  have hW : (32 : Int) = 32 ∨ (32 : Int) = 64 := Or.inl rfl
  have cy : CUT y 32 (sh y) := cut_eq 32 y hW hy
  have cx : CUT x 32 (sh x) := cut_eq 32 x hW hx
  have ub := ug_bd 32 x hx
  have ub2 := ug_bd 32 y hy
  have zb : U64 (workI k 32 (sh x) (sS x) (sh y) (sS y)) := U64_workI _ _ _ _ _ _ ub ub2
  have cz : CUT (workI k 32 (sh x) (sS x) (sh y) (sS y)) 32 (workI k 32 (sh x) (sS x) (sh y) (sS y) % 4294967296) := cut_eq 32 _ hW zb
  have ar := fun hz w => arith_all k 32 x y h0 h14 hW hx hy hz w
  by_cases hk : 3 ≤ k ∧ k ≤ 6
  · have e1 : workE k 32 (sS x) (sh y) (sS y) = divE k 32 (sS x) (sh y) (sS y) := by unfold workE; rw [if_pos hk]
    by_cases hy0 : sh y = 0
    · have e2 : divE k 32 (sS x) (sh y) (sS y) = 21 := by unfold divE; rw [if_pos hy0]
      have e3 : workI k 32 (sh x) (sS x) (sh y) (sS y) = 0 := by
        unfold workI divI
        rw [if_neg (by omega), if_neg (by omega), if_neg (by omega), if_pos hk, if_pos (by rw [e2]; decide)]
      rw [e1, e2, e3]
      rw [hy0] at cy
      exact bin_z32 k x y (by omega) hA cy
    · have hb : (sh y == 0) = false := beq_eq_false_iff_ne.2 hy0
      by_cases ho : k = 3 ∧ sS x = leastI 32 ∧ sS y = -1
      · have e2 : divE k 32 (sS x) (sh y) (sS y) = 22 := by unfold divE; rw [if_neg hy0, if_pos ho]
        have e3 : workI k 32 (sh x) (sS x) (sh y) (sS y) = 0 := by
          unfold workI divI
          rw [if_neg (by omega), if_neg (by omega), if_neg (by omega), if_pos hk, if_pos (by rw [e2]; decide)]
        rw [e1, e2, e3]
        obtain ⟨rfl, o1, o2⟩ := ho
        have a1 : sh x = 2147483648 := by rw [show leastI 32 = -2147483648 from rfl] at o1; unfold sS wrap64 wrap32 at o1; unfold sh; omega
        have sg : SGN y 32 18446744073709551615 := by
          have h : signI y 32 = 18446744073709551615 := by rw [sg_mod 32 y hW hy, show Sg 32 y = sS y from rfl, o2]; decide
          intro w
          have C := sign_any y 32 hy (by omega) w
          rw [h] at C
          exact C
        rw [a1] at cx
        exact bin_v32 x y _ hA cy hb cx sg
      · have e2 : divE k 32 (sS x) (sh y) (sS y) = 0 := by unfold divE; rw [if_neg hy0, if_neg ho]
        rw [e1, e2]
        have R : ARI k x y 32 (workI k 32 (sh x) (sS x) (sh y) (sS y)) := fun w => ar (fun _ _ => ⟨hy0, e2⟩) w
        by_cases k3 : k = 3
        · subst k3
          by_cases a1 : sh x = 2147483648
          · have s1 : sS x = leastI 32 := by rw [show leastI 32 = -2147483648 from rfl]; unfold sS wrap64 wrap32; unfold sh at a1; omega
            have s2 : sS y ≠ -1 := fun h => ho ⟨rfl, s1, h⟩
            have sg : SGN y 32 (signI y 32) := fun w => sign_any y 32 hy (by omega) w
            have hs : (signI y 32 == 18446744073709551615) = false := beq_eq_false_iff_ne.2 (by
              rw [sg_mod 32 y hW hy, show Sg 32 y = sS y from rfl]
              have := sg_bd 32 y
              rw [show Sg 32 y = sS y from rfl] at this
              omega)
            rw [a1] at cx
            have R' := R
            rw [a1] at R' cz ⊢
            exact bin_m32 x y _ _ _ _ hA cy hb cx sg hs R' cz
          · exact bin_n32 x y _ _ _ _ hA cy hb cx (beq_eq_false_iff_ne.2 a1) R cz
        · exact bin_d32 k x y _ _ _ (by omega) hA cy hb R cz
  · have e1 : workE k 32 (sS x) (sh y) (sS y) = 0 := by unfold workE; rw [if_neg hk]
    rw [e1]
    exact bin_p32 k x y _ _ (by omega) hA (fun w => ar (fun a b => absurd ⟨a, b⟩ hk) w) cz
theorem rbin64 (k x y : Int) (h0 : 0 ≤ k) (h14 : k ≤ 14) (hx : U64 x) (hy : U64 y) (hA : AR (124 + k) 2) :
    BIN (124 + k) x y (workI k 64 x (sL x) y (sL y)) (workE k 64 (sL x) y (sL y)) := by
  have hW : (64 : Int) = 32 ∨ (64 : Int) = 64 := Or.inr rfl
  have hx0 := hx.1
  have hx1 := hx.2
  have hy0' := hy.1
  have hy1' := hy.2
  have cut64 : ∀ z, U64 z → CUT z 64 z := fun z hz => by
    have h := cut_eq 64 z hW hz
    rw [ug_cut 64 z hW hz] at h
    exact h
  have cy : CUT y 64 y := cut64 y hy
  have cx : CUT x 64 x := cut64 x hx
  have zb : U64 (workI k 64 x (sL x) y (sL y)) := U64_workI _ _ _ _ _ _ hx hy
  have cz := cut64 _ zb
  have ar := fun hz w => arith_all k 64 x y h0 h14 hW hx hy hz w
  by_cases hk : 3 ≤ k ∧ k ≤ 6
  · have e1 : workE k 64 (sL x) y (sL y) = divE k 64 (sL x) y (sL y) := by unfold workE; rw [if_pos hk]
    by_cases hy0 : y = 0
    · have e2 : divE k 64 (sL x) y (sL y) = 21 := by unfold divE; rw [if_pos hy0]
      have e3 : workI k 64 x (sL x) y (sL y) = 0 := by
        unfold workI divI
        rw [if_neg (by omega), if_neg (by omega), if_neg (by omega), if_pos hk, if_pos (by rw [e2]; decide)]
      rw [e1, e2, e3]
      refine bin_z64 k x y (by omega) hA ?_
      rw [hy0] at cy ⊢
      exact cy
    · have hb : (y == 0) = false := beq_eq_false_iff_ne.2 hy0
      by_cases ho : k = 3 ∧ sL x = leastI 64 ∧ sL y = -1
      · have e2 : divE k 64 (sL x) y (sL y) = 22 := by unfold divE; rw [if_neg hy0, if_pos ho]
        have e3 : workI k 64 x (sL x) y (sL y) = 0 := by
          unfold workI divI
          rw [if_neg (by omega), if_neg (by omega), if_neg (by omega), if_pos hk, if_pos (by rw [e2]; decide)]
        rw [e1, e2, e3]
        obtain ⟨rfl, o1, o2⟩ := ho
        have a1 : x = 9223372036854775808 := by rw [show leastI 64 = -9223372036854775808 from rfl] at o1; unfold sL wrap64 at o1; omega
        have sg : SGN y 64 18446744073709551615 := by
          have h : signI y 64 = 18446744073709551615 := by rw [sg_mod 64 y hW hy, show Sg 64 y = sL y from rfl, o2]; decide
          intro w
          have C := sign_any y 64 hy (by omega) w
          rw [h] at C
          exact C
        refine bin_v64 x y _ hA cy hb ?_ sg
        have h := cx
        rw [a1] at h ⊢
        exact h
      · have e2 : divE k 64 (sL x) y (sL y) = 0 := by unfold divE; rw [if_neg hy0, if_neg ho]
        rw [e1, e2]
        have R : ARI k x y 64 (workI k 64 x (sL x) y (sL y)) := fun w => ar (fun _ _ => ⟨hy0, e2⟩) w
        by_cases k3 : k = 3
        · subst k3
          by_cases a1 : x = 9223372036854775808
          · have s1 : sL x = leastI 64 := by rw [a1]; decide +kernel
            have s2 : sL y ≠ -1 := fun h => ho ⟨rfl, s1, h⟩
            have sg : SGN y 64 (signI y 64) := fun w => sign_any y 64 hy (by omega) w
            have hs : (signI y 64 == 18446744073709551615) = false := beq_eq_false_iff_ne.2 (by
              rw [sg_mod 64 y hW hy, show Sg 64 y = sL y from rfl]
              have := sg_bd 64 y
              rw [show Sg 64 y = sL y from rfl] at this
              omega)
            refine bin_m64 x y _ _ _ _ hA cy hb ?_ sg hs R cz
            have h := cx
            rw [a1] at h ⊢
            exact h
          · exact bin_n64 x y _ _ _ _ hA cy hb cx (beq_eq_false_iff_ne.2 a1) R cz
        · exact bin_d64 k x y _ _ _ (by omega) hA cy hb R cz
  · have e1 : workE k 64 (sL x) y (sL y) = 0 := by unfold workE; rw [if_neg hk]
    rw [e1]
    exact bin_p64 k x y _ _ (by omega) hA (fun w => ar (fun a b => absurd ⟨a, b⟩ hk) w) cz
/-- both Bins answer the same -/
def NBIN (op x y z f : Int) : Prop := ∀ w, Calls Tryd.prog 14 #[.int .i64 op, .int .u64 x, .int .u64 y] w fun e w' => e = .returned (.tuple #[.int .u64 z, .int .i64 f]) ∧ Grown w w'
theorem both (op x y : Int) (hx : U64 x) (hy : U64 y) : ∃ z f : Int, NBIN op x y z f ∧ BIN op x y z f := by
  have hy0' := hy.1
  have hy1' := hy.2
  by_cases t : Two op
  · have hA := rar2 op t
    rcases t with ⟨h0, h1⟩ | ⟨h0, h1⟩ | ⟨h0, h1⟩ | ⟨h0, h1⟩
    · refine ⟨_, _, fun w => bin_c32 op x y h0 h1 w, bin_o32 op x y (signI x 32) (signI y 32) _ h0 h1 hA (fun w => sign_any x 32 hx (by omega) w) (fun w => sign_any y 32 hy (by omega) w) (fun w => order32 (op - 70) x y (by omega) (by omega) hx hy w)⟩
    · exact ⟨_, _, fun w => bin_c64 op x y h0 h1 w, bin_o64 op x y _ h0 h1 hA (fun w => order_all (op - 81) x y (by omega) (by omega) hx hy w)⟩
    · obtain ⟨k, rfl⟩ : ∃ k, op = 106 + k := ⟨op - 106, by omega⟩
      have e : 106 + k - 106 = k := by omega
      have hcd : sh y ≠ 0 → sS y ≠ 0 := sg_ne 32 y (Or.inl rfl) hy
      have N := fun w => bin_w32 (106 + k) x y h0 h1 (by unfold sh; omega) hcd w
      rw [e] at N
      exact ⟨_, _, N, rbin32 k x y (by omega) (by omega) hx hy hA⟩
    · obtain ⟨k, rfl⟩ : ∃ k, op = 124 + k := ⟨op - 124, by omega⟩
      have e : 124 + k - 124 = k := by omega
      have hcd : y ≠ 0 → sL y ≠ 0 := sg_ne 64 y (Or.inr rfl) hy
      have N := fun w => bin_w64 (124 + k) x y h0 h1 hy0' hcd w
      rw [e] at N
      exact ⟨_, _, N, rbin64 k x y (by omega) (by omega) hx hy hA⟩
  · have t' := t
    unfold Two at t'
    have N := fun w => bin_none op x y (by omega) (by omega) (by omega) (by omega) w
    by_cases u : isUn2 op
    · exact ⟨_, _, N, bin_no op x y 1 (rar1 op u) (by decide)⟩
    · exact ⟨_, _, N, bin_no op x y 0 (rar0 op u t) (by decide)⟩
set_option maxHeartbeats 1000000 in
theorem one_core (op x y u f1 z f2 a : Int) (w : World)
    (hU : Calls Tryd.prog 18 #[.int .i64 op, .int .u64 x] w fun e w' => e = .returned (.tuple #[.int .u64 u, .int .i64 f1]) ∧ Grown w w')
    (hR : ∀ w, Calls Tryd.prog 20 #[.int .i64 op, .int .u64 x] w fun e w' => e = .returned (.tuple #[.int .u64 u, .int .i64 f1]) ∧ Grown w w')
    (hB : NBIN op x y z f2) (hC : BIN op x y z f2)
    (hA : ∀ w, Calls Tryd.prog 11 #[.int .i64 op] w fun e w' => e = .returned (.int .i64 a) ∧ w = w') (hD : AR op a) :
    Calls Tryd.prog 13 #[.int .i64 op, .int .u64 x, .int .u64 y] w fun e w' => e = .returned (.bool true) ∧ Grown w w' := by
  have HU := Lib.hid hU
  have HR := Lib.hid hR
  have HB := Lib.hid hB
  have HC := Lib.hid hC
  have HA := Lib.hid hA
  have HD := Lib.hid hD
  clear hU hR hB hC hA hD
  go_enter Tryd.func13, Tryd.ntmps13
  go_wp2_with fail
  refine HU.out.mono ?_
  rintro e w1 ⟨rfl, hg1⟩
  go_wp2_with fail
  refine (HR.out _).mono ?_
  rintro e w2 ⟨rfl, hg2⟩
  go_wp2_with fail
  refine (HB.out _).mono ?_
  rintro e w3 ⟨rfl, hg3⟩
  go_wp2_with fail
  refine (HC.out _).mono ?_
  rintro e w4 ⟨rfl, hg4⟩
  go_wp2_with fail
  refine (HA.out _).mono ?_
  rintro e w5 ⟨rfl, rfl⟩
  go_wp2_with fail
  refine (HD.out _).mono ?_
  rintro e w6 ⟨rfl, hg6⟩
  go_wp2
  go_ret
  exact ⟨rfl, grown_trans hg1 (grown_trans hg2 (grown_trans hg3 (grown_trans hg4 hg6)))⟩
theorem one_any (op x y : Int) (hx : U64 x) (hy : U64 y) (w : World) (hT : Tabs w) :
    Calls Tryd.prog 13 #[.int .i64 op, .int .u64 x, .int .u64 y] w fun e w' => e = .returned (.bool true) ∧ Grown w w' := by
  obtain ⟨z, f, hB, hC⟩ := both op x y hx hy
  by_cases u : isUn2 op
  · exact one_core op x y _ _ z f 1 w (Un_all op x u hx w hT) (fun w => run_one op x u hx w) hB hC (fun w => ar_one op u w) (rar1 op u)
  · by_cases t : Two op
    · exact one_core op x y _ _ z f 2 w (Un_no op x 2 (Or.inr rfl) w (fun w => ar_two op t w)) (fun w => run_no op x 2 (by decide) (rar2 op t) w) hB hC (fun w => ar_two op t w) (rar2 op t)
    · exact one_core op x y _ _ z f 0 w (Un_no op x 0 (Or.inl rfl) w (fun w => ar_none op u t w)) (fun w => run_no op x 0 (by decide) (rar0 op u t) w) hB hC (fun w => ar_none op u t w) (rar0 op u t)
theorem one_acc {w0 w : World} (op x y : Int) (hx : U64 x) (hy : U64 y) (hT : Tabs w0) (hg : Grown w0 w) :
    Calls Tryd.prog 13 #[.int .i64 op, .int .u64 x, .int .u64 y] w fun e w' => e = .returned (.bool true) ∧ Grown w0 w' :=
  (one_any op x y hx hy w (tabs_grown hg hT)).mono fun _ _ h => ⟨h.1, grown_trans hg h.2⟩
theorem arities (op : Int) : ∃ a : Int, (∀ w, Calls Tryd.prog 11 #[.int .i64 op] w fun e w' => e = .returned (.int .i64 a) ∧ w = w') ∧ AR op a := by
  by_cases u : isUn2 op
  · exact ⟨1, fun w => ar_one op u w, rar1 op u⟩
  · by_cases t : Two op
    · exact ⟨2, fun w => ar_two op t w, rar2 op t⟩
    · exact ⟨0, fun w => ar_none op u t w, rar0 op u t⟩
set_option maxHeartbeats 1000000 in
theorem all_any (op x y : Int) (hx : U64 x) (hy : U64 y) (w : World) (hT : Tabs w) :
    Calls Tryd.prog 3 #[.int .i64 op, .int .u64 x, .int .u64 y] w fun e w' => e = .returned (.bool true) ∧ Grown w w' := by
  obtain ⟨a, hA, hD⟩ := arities op
  have HA := Lib.hid hA
  have HD := Lib.hid hD
  have HT := Lib.hid hT
  have HX := Lib.hid hx
  have HY := Lib.hid hy
  clear hA hD hT hx hy
  go_enter Tryd.func3, Tryd.ntmps3
  go_wp2_with fail
  refine (Cu.awake_acc (Grown.refl w)).mono ?_
  rintro e w1 ⟨rfl, hg1⟩
  go_wp2_with fail
  refine (HA.out _).mono ?_
  rintro e w2 ⟨rfl, rfl⟩
  go_wp2_with fail
  refine (HD.out _).mono ?_
  rintro e w2 ⟨rfl, hg2⟩
  go_wp2_with fail
  have hg3 := grown_trans hg1 hg2
  clear hg1 hg2
  go_loopw [7] (fun i wr => ∃ k : Int, 69 ≤ k ∧ k ≤ 198 ∧ i = .int .i64 k ∧ Grown w wr) (fun i _ => (198 - intOf i).toNat)
  case atStart => exact ⟨69, by decide, by decide, rfl, hg3⟩
  case round =>
    obtain ⟨k, hk0, hk1, rfl, hgk⟩ := hrel
    clear hg3
    by_cases h : k ≤ 197
    · go_wp2_with (go_at_call 13; refine (one_acc _ _ _ HX.out HY.out HT.out hgk).mono ?_; rintro e w' ⟨rfl, hg⟩)
      exact ⟨⟨k + 1, by omega, by omega, rfl, by assumption⟩, by simp [intOf]; omega⟩
    · go_wp2_with (go_at_call 13; refine (one_acc _ _ _ HX.out HY.out HT.out hgk).mono ?_; rintro e w' ⟨rfl, hg⟩)
      go_ret
      exact ⟨rfl, by assumption⟩
end NumAll
end Go.Proofs.YthdklnkaeddogacDoor
