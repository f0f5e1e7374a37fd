/-
  Of layer 8: widen.hold, narrow, multiply, products, rounded. Conditions: bytes.
-/
import Derived.Test.YtkccaaieadgdbaaWdEx
namespace Go.Proofs.Ytkccaaieadgdbaa
open Go.RowKit VecM
namespace Wd
def holdI (n a b : Int) : Int := if n < a then a else if b < n then b else n
theorem holdI_bd (n : Int) {a b : Int} (h : a ≤ b) : a ≤ holdI n a b ∧ holdI n a b ≤ b := by
  unfold holdI
  repeat' split
  all_goals omega
theorem ret_u' {a b : Int} (h : a = b) : Ending.returned (.int .u64 a) = .returned (.int .u64 b) := by rw [h]
theorem ret_i' {a b : Int} (h : a = b) : Ending.returned (.int .i64 a) = .returned (.int .i64 b) := by rw [h]
theorem hold_any (n a b : Int) (h : a ≤ b) (w : World) : Calls Try.prog 43 #[.int .i64 n, .int .i64 a, .int .i64 b] w fun e w' => e = .returned (.int .i64 (holdI n a b)) ∧ w = w' := by
  by_cases h1 : n < a
  · have e : holdI n a b = a := if_pos h1
    have g1 : n ≤ a := by omega
    have g2 : ¬ a ≤ n := by omega
    have HE := Lib.hid e
    clear e h1
    go_enter Try.func43, Try.ntmps43
    go_wp2
    go_ret
    exact ⟨ret_i' HE.out.symm, rfl⟩
  · by_cases h2 : b < n
    · have e : holdI n a b = b := by unfold holdI; rw [if_neg h1, if_pos h2]
      have g1 : a ≤ n := by omega
      have g2 : ¬ n ≤ b := by omega
      have g3 : b ≤ n := by omega
      by_cases g4 : n ≤ a
      · omega
      · have HE := Lib.hid e
        clear e h1 h2
        go_enter Try.func43, Try.ntmps43
        go_wp2
        go_ret
        exact ⟨ret_i' HE.out.symm, rfl⟩
    · have e : holdI n a b = n := by unfold holdI; rw [if_neg h1, if_neg h2]
      have HE := Lib.hid e
      have g1 : a ≤ n := by omega
      have g2 : n ≤ b := by omega
      clear e h1 h2
      by_cases g4 : n ≤ a
      · obtain rfl : n = a := by omega
        go_enter Try.func43, Try.ntmps43
        go_wp2
        all_goals
          go_ret
          exact ⟨ret_i' HE.out.symm, rfl⟩
      · by_cases g5 : b ≤ n
        · obtain rfl : n = b := by omega
          go_enter Try.func43, Try.ntmps43
          go_wp2
          all_goals
            go_ret
            exact ⟨ret_i' HE.out.symm, rfl⟩
        · go_enter Try.func43, Try.ntmps43
          go_wp2
          go_ret
          exact ⟨ret_i' HE.out.symm, rfl⟩
def muV (v : Int) (L : Nat) (a b : Nat → Int) : Nat → Int := ofK a v (fun i => IntKind.u64.wrap (getI a v i * getI b v i)) L
section
variable {P : Program} {a : Act} {o : Oper}
theorem run_min {x y : Operand} {ts : Array TypeId} {k : IntKind} {m n z : Int} (ho : o.op = .call { callee := .builtin .min, args := #[x, y], argTypes := ts }) (hx : a.eval x = .int k m) (hy : a.eval y = .int k n) (hz : z = if m < n then m else n) (w : World) : (execOp a.eval o).run P w = .ok (.value (.int k z)) w := by
  unfold execOp
  subst hz
  have e : (if n < m then n else m) = if m < n then m else n := by
    by_cases h : n < m
    · rw [if_pos h, if_neg (by omega)]
    · rw [if_neg h]; by_cases h2 : m < n
      · rw [if_pos h2]
      · rw [if_neg h2]; omega
  simp [ho, hx, hy, resolve, invoke, builtin, Builtin.min_, Builtin.min2, Result.andThen, e]
end
set_option maxHeartbeats 2000000 in
theorem multiply_any (v : Int) (L : Nat) (hL : lanesI v = (L : Int)) (h16 : L ≤ 16) (a b : Nat → Int) (ha : Byt a) (hb : Byt b) (w : World) :
    Calls Try.prog 30 #[.int .i64 v, .agg (bs a), .agg (bs b)] w fun e w' => e = .returned (.agg (bs (muV v L a b))) ∧ Gr w w' := by
  have HA := Lib.hid ha
  have HB := Lib.hid hb
  have HL := Lib.hid hL
  have CL : ∀ w, Calls Try.prog 37 #[.int .i64 v] w fun e w' => e = .returned (.int .i64 (L : Int)) ∧ Gr w w' := fun w => by rw [← hL]; exact calls_gr (lanes_any v w)
  clear ha hb hL
  unfold muV
  have hS := St.start w
  have XCL := Lib.hid CL
  clear CL
  go_enter Try.func30, Try.ntmps30
  go_upto_region 0 with (fail)
  refine wp_region_lit ?_
  refine sl_box hS rfl _ 23 (box_vec rfl rfl) ?_
  clear hS
  intro p wk hS
  refine sl_box hS rfl _ 23 (box_vec rfl rfl) ?_
  clear hS
  intro q wk hS
  go_upto_region 1 with (first | (refine sl_load hS rfl 23 _ rfl rfl (by repeat (first | exact Has.hd | apply Has.tl)) Try.underlying23 rfl (by exact infoV) ?_) | (refine sl_store hS rfl 23 _ _ rfl rfl rfl (by repeat (first | exact Rep.hd | apply Rep.tl)) (by exact infoV) (by rfl) (bs_one _) ?_; clear hS; intro wk hS) | (refine sl_box hS rfl _ 23 (box_vec rfl rfl) ?_; clear hS; intro bk wk hS) | (refine sl_box hS rfl _ 23 (alloc_vec rfl) ?_; clear hS; intro r wk hS) | (refine onlyN_end ?_) | (refine onlyN_now ?_))
  try refine wp_region_lit ?_
  iterate 3 ((first | (refine sl_load hS rfl 23 _ rfl rfl (by repeat (first | exact Has.hd | apply Has.tl)) Try.underlying23 rfl (by exact infoV) ?_) | (refine sl_store hS rfl 23 _ _ rfl rfl rfl (by repeat (first | exact Rep.hd | apply Rep.tl)) (by exact infoV) (by rfl) (bs_one _) ?_; clear hS; intro wk hS) | (apply sl_val rfl; focus (intro w; go_simp; (try simp (disch := omega) only [IntWalk.i64_in, IntWalk.u64_in, IntWalk.u8_in, IntWalk.u32_in, IntWalk.i32_in]); first | exact rfl | rfl)) | (refine sl_step (fun K hK => .inl ⟨rfl, ?_⟩); unfold Oper.wp; go_simp; (first | with_reducible refine sl_call hS (XCL.out _) ?_); clear hS; intro wk hS; refine hK _ _ ?_; clear hK K) | (refine sl_skip rfl ?_)); go_simp)
  go_wp2_with fail
  go_loopw [10] (fun u wr => ∃ k : Nat, k ≤ L ∧ u = .int .i64 k ∧ St w [⟨r, bs (fun _ => 0), 23⟩, ⟨q, bs b, 23⟩, ⟨p, bs (ofK a v (fun i => IntKind.u64.wrap (getI a v i * getI b v i)) k), 23⟩] wr) (fun u _ => L - (intOf u).toNat)
  case atStart => exact ⟨0, by omega, rfl, hS⟩
  case round =>
    obtain ⟨k, hk, rfl, hS⟩ := hrel
    by_cases hlt : k < L
    · have ht : thereB v k = true := there_iff.2 ⟨by omega, by have := HL.out; omega⟩
      have g1 : getI (ofK a v (fun i => IntKind.u64.wrap (getI a v i * getI b v i)) k) v k = getI a v k := by rw [get_ofK a v _ k ht k, if_neg (by omega)]
      have C1 := fun w => get_any (ofK a v (fun i => IntKind.u64.wrap (getI a v i * getI b v i)) k) (ofK_byt HA.out _ _ _) v k w
      rw [g1] at C1
      have C3 := fun w => get_any b HB.out v k w
      have HM := Lib.hid (show ofK a v (fun i => IntKind.u64.wrap (getI a v i * getI b v i)) (k + 1) = setI (ofK a v (fun i => IntKind.u64.wrap (getI a v i * getI b v i)) k) v k (IntKind.u64.wrap (getI a v k * getI b v k)) from rfl)
      have C2 := fun w => set_any (ofK a v (fun i => IntKind.u64.wrap (getI a v i * getI b v i)) k) v k (IntKind.u64.wrap (getI a v k * getI b v k)) w
      have T1 : IntKind.i64.wrap ((k : Int) + 1) = (k : Int) + 1 := IntWalk.i64_in _ (by omega)
      have T2 : decide ((k : Int) < (L : Int)) = true := by simp; omega
      have X2 := Lib.hid hlt
      clear g1 ht
      generalize getI a v k = x at *
      generalize getI b v k = y at *
      obtain ⟨z, hz⟩ : ∃ z, IntKind.u64.wrap (x * y) = z := ⟨_, rfl⟩
      rw [hz] at C2 HM
      generalize hc0 : ofK a v (fun i => IntKind.u64.wrap (getI a v i * getI b v i)) k = c0 at *
      clear hc0 hlt hk
      have XC1 := Lib.hid C1
      clear C1
      have XC2 := Lib.hid C2
      clear C2
      have XC3 := Lib.hid C3
      clear C3
      go_upto_region 3 with (fail)
      try refine wp_region_lit ?_
      iterate 2 ((first | (refine sl_load hS rfl 23 _ rfl rfl (by repeat (first | exact Has.hd | apply Has.tl)) Try.underlying23 rfl (by exact infoV) ?_) | (refine sl_store hS rfl 23 _ _ rfl rfl rfl (by repeat (first | exact Rep.hd | apply Rep.tl)) (by exact infoV) (by rfl) (bs_one _) ?_; clear hS; intro wk hS) | (apply sl_val rfl; focus (intro w; go_simp; (try simp (disch := omega) only [IntWalk.i64_in, IntWalk.u64_in, IntWalk.u8_in, IntWalk.u32_in, IntWalk.i32_in]); first | exact rfl | rfl)) | (refine sl_skip rfl ?_)); go_simp)
      go_upto_region 4 with (fail)
      refine sm_tail 13 [] hS (by kernel_rfl) (by kernel_rfl) (fun β => ?_)
      simp only [List.take_succ_cons, List.take_zero, List.drop_succ_cons, List.drop_zero]
      iterate 13 (refine sm_step (fun K hK => ?_); (first | (refine sm_load rfl rfl 23 _ rfl rfl (by repeat (first | exact Has.hd | apply Has.tl)) Try.underlying23 rfl (by exact infoV) ?_) | (refine sm_lay rfl rfl (by intro w; go_simp) ?_) | (refine sm_build rfl rfl 23 _ rfl (bs fun _ => 0) (by kernel_rfl) ?_) | (apply sm_yes rfl rfl; focus (intro wx hx; go_simp; first | (apply sm_enter (by kernel_rfl); first | fail | with_reducible exact XC1.out wx | with_reducible exact XC3.out wx | with_reducible exact XC2.out wx) | exact ⟨rfl, Gr.refl _⟩)) | (refine sm_val rfl rfl (run_mul rfl rfl rfl hz) ?_) | (refine sm_no rfl rfl ?_)); go_simp; refine hK _ ?_; clear hK K)
      refine sm_nil ?_
      clear hS
      intro wk hS
      replace hS : St w [⟨r, bs (fun _ => 0), 23⟩, ⟨q, bs b, 23⟩, ⟨p, bs c0, 23⟩] wk := hS
      go_wp2_with (first | (refine sl_load hS rfl 23 _ rfl rfl (by repeat (first | exact Has.hd | apply Has.tl)) Try.underlying23 rfl (by exact infoV) ?_) | (refine sl_store hS rfl 23 _ _ rfl rfl rfl (by repeat (first | exact Rep.hd | apply Rep.tl)) (by exact infoV) (by rfl) (bs_one _) ?_; clear hS; intro wk hS) | (refine sl_box hS rfl _ 23 (box_vec rfl rfl) ?_; clear hS; intro bk wk hS) | (refine sl_box hS rfl _ 23 (alloc_vec rfl) ?_; clear hS; intro bk wk hS) | (refine onlyN_end ?_) | (refine onlyN_now ?_))
      have X4 := X2.out
      exact ⟨⟨k + 1, by omega, by go_num, by rw [HM.out]; exact hS⟩, by simp [intOf]; omega⟩
    · obtain rfl : k = L := by omega
      go_wp2_with (first | (refine sl_load hS rfl 23 _ rfl rfl (by repeat (first | exact Has.hd | apply Has.tl)) Try.underlying23 rfl (by exact infoV) ?_) | (refine sl_store hS rfl 23 _ _ rfl rfl rfl (by repeat (first | exact Rep.hd | apply Rep.tl)) (by exact infoV) (by rfl) (bs_one _) ?_; clear hS; intro wk hS) | (refine sl_box hS rfl _ 23 (box_vec rfl rfl) ?_; clear hS; intro bk wk hS) | (refine sl_box hS rfl _ 23 (alloc_vec rfl) ?_; clear hS; intro bk wk hS) | (refine onlyN_end ?_) | (refine onlyN_now ?_))
      refine sl_ret hS Try.results30 (by rfl) (by repeat (first | exact Has.hd | apply Has.tl)) Try.underlying23 rfl (by exact infoV) (by rfl) ?_
      exact ⟨rfl, hS.gr⟩
def prV (a b : Nat → Int) : Nat → Int := ofK (fun _ => 0) 32 (fun i => IntKind.u64.wrap (IntKind.i64.wrap (IntKind.i64.wrap (sgnI a 16 (2 * i) * sgnI b 16 (2 * i)) + IntKind.i64.wrap (sgnI a 16 (2 * i + 1) * sgnI b 16 (2 * i + 1))))) 4
set_option maxHeartbeats 2000000 in
theorem products_any (a b : Nat → Int) (ha : Byt a) (hb : Byt b) (w : World) :
    Calls Try.prog 31 #[.agg (bs a), .agg (bs b)] w fun e w' => e = .returned (.agg (bs (prV a b))) ∧ Gr w w' := by
  have HA := Lib.hid ha
  have HB := Lib.hid hb
  have CL : ∀ w, Calls Try.prog 37 #[.int .i64 32] w fun e w' => e = .returned (.int .i64 4) ∧ Gr w w' := fun w => calls_gr (lanes_any 32 w)
  clear ha hb
  unfold prV
  have hS := St.start w
  have XCL := Lib.hid CL
  clear CL
  go_enter Try.func31, Try.ntmps31
  go_upto_region 0 with (fail)
  refine wp_region_lit ?_
  refine sl_box hS rfl _ 23 (box_vec rfl rfl) ?_
  clear hS
  intro p wk hS
  refine sl_box hS rfl _ 23 (box_vec rfl rfl) ?_
  clear hS
  intro q wk hS
  refine sl_box hS rfl _ 23 (alloc_vec rfl) ?_
  clear hS
  intro r wk hS
  go_upto_region 1 with (fail)
  try refine wp_region_lit ?_
  iterate 1 ((first | (refine sl_load hS rfl 23 _ rfl rfl (by repeat (first | exact Has.hd | apply Has.tl)) Try.underlying23 rfl (by exact infoV) ?_) | (refine sl_store hS rfl 23 _ _ rfl rfl rfl (by repeat (first | exact Rep.hd | apply Rep.tl)) (by exact infoV) (by rfl) (bs_one _) ?_; clear hS; intro wk hS) | ((with_reducible show wpList _ _ _ (⟨_, .alloc 23 , _, _, _, _⟩ :: _) _ _); refine sl_box hS rfl _ 23 (alloc_vec rfl) ?_; clear hS; intro t wk hS) | (apply sl_val rfl; focus (intro w; go_simp; (try simp (disch := omega) only [IntWalk.i64_in, IntWalk.u64_in, IntWalk.u8_in, IntWalk.u32_in, IntWalk.i32_in]); first | exact rfl | rfl)) | (refine sl_step (fun K hK => .inl ⟨rfl, ?_⟩); unfold Oper.wp; go_simp; (first | with_reducible refine sl_call hS (XCL.out _) ?_); clear hS; intro wk hS; refine hK _ _ ?_; clear hK K) | (refine sl_skip rfl ?_)); go_simp)
  go_upto_region 2 with (fail)
  try refine wp_region_lit ?_
  iterate 2 ((first | (refine sl_load hS rfl 23 _ rfl rfl (by repeat (first | exact Has.hd | apply Has.tl)) Try.underlying23 rfl (by exact infoV) ?_) | (refine sl_store hS rfl 23 _ _ rfl rfl rfl (by repeat (first | exact Rep.hd | apply Rep.tl)) (by exact infoV) (by rfl) (bs_one _) ?_; clear hS; intro wk hS) | ((with_reducible show wpList _ _ _ (⟨_, .alloc 23 , _, _, _, _⟩ :: _) _ _); refine sl_box hS rfl _ 23 (alloc_vec rfl) ?_; clear hS; intro t wk hS) | (apply sl_val rfl; focus (intro w; go_simp; (try simp (disch := omega) only [IntWalk.i64_in, IntWalk.u64_in, IntWalk.u8_in, IntWalk.u32_in, IntWalk.i32_in]); first | exact rfl | rfl)) | (refine sl_step (fun K hK => .inl ⟨rfl, ?_⟩); unfold Oper.wp; go_simp; (first | with_reducible refine sl_call hS (XCL.out _) ?_); clear hS; intro wk hS; refine hK _ _ ?_; clear hK K) | (refine sl_skip rfl ?_)); go_simp)
  go_wp2_with fail
  go_loopw [10] (fun u wr => ∃ k : Nat, k ≤ 4 ∧ u = .int .i64 k ∧ St w [⟨t, bs (ofK (fun _ => 0) 32 (fun i => IntKind.u64.wrap (IntKind.i64.wrap (IntKind.i64.wrap (sgnI a 16 (2 * i) * sgnI b 16 (2 * i)) + IntKind.i64.wrap (sgnI a 16 (2 * i + 1) * sgnI b 16 (2 * i + 1))))) k), 23⟩, ⟨r, bs (fun _ => 0), 23⟩, ⟨q, bs b, 23⟩, ⟨p, bs a, 23⟩] wr) (fun u _ => 4 - (intOf u).toNat)
  case atStart => exact ⟨0, by omega, rfl, hS⟩
  case round =>
    obtain ⟨k, hk, rfl, hS⟩ := hrel
    by_cases hlt : k < 4
    · have C1 := fun w => signed_any a HA.out 16 (2 * k) w
      have C2 := fun w => signed_any b HB.out 16 (2 * k) w
      have C3 := fun w => signed_any a HA.out 16 (2 * k + 1) w
      have C4 := fun w => signed_any b HB.out 16 (2 * k + 1) w
      have HM := Lib.hid (show ofK (fun _ => 0) 32 (fun i => IntKind.u64.wrap (IntKind.i64.wrap (IntKind.i64.wrap (sgnI a 16 (2 * i) * sgnI b 16 (2 * i)) + IntKind.i64.wrap (sgnI a 16 (2 * i + 1) * sgnI b 16 (2 * i + 1))))) (k + 1) = setI (ofK (fun _ => 0) 32 (fun i => IntKind.u64.wrap (IntKind.i64.wrap (IntKind.i64.wrap (sgnI a 16 (2 * i) * sgnI b 16 (2 * i)) + IntKind.i64.wrap (sgnI a 16 (2 * i + 1) * sgnI b 16 (2 * i + 1))))) k) 32 k (IntKind.u64.wrap (IntKind.i64.wrap (IntKind.i64.wrap (sgnI a 16 (2 * k) * sgnI b 16 (2 * k)) + IntKind.i64.wrap (sgnI a 16 (2 * k + 1) * sgnI b 16 (2 * k + 1))))) from rfl)
      have C5 := fun w => set_any (ofK (fun _ => 0) 32 (fun i => IntKind.u64.wrap (IntKind.i64.wrap (IntKind.i64.wrap (sgnI a 16 (2 * i) * sgnI b 16 (2 * i)) + IntKind.i64.wrap (sgnI a 16 (2 * i + 1) * sgnI b 16 (2 * i + 1))))) k) 32 k (IntKind.u64.wrap (IntKind.i64.wrap (IntKind.i64.wrap (sgnI a 16 (2 * k) * sgnI b 16 (2 * k)) + IntKind.i64.wrap (sgnI a 16 (2 * k + 1) * sgnI b 16 (2 * k + 1))))) w
      have T1 : IntKind.i64.wrap ((k : Int) + 1) = (k : Int) + 1 := IntWalk.i64_in _ (by omega)
      have T2 : decide ((k : Int) < 4) = true := by simp; omega
      have X2 := Lib.hid hlt
      have T0 : IntKind.i64.wrap (2 * (k : Int)) = 2 * (k : Int) := IntWalk.i64_in _ (by omega)
      have T3 : IntKind.i64.wrap (2 * (k : Int) + 1) = 2 * (k : Int) + 1 := IntWalk.i64_in _ (by omega)
      generalize sgnI a 16 (2 * k) = x at *
      generalize sgnI b 16 (2 * k) = y at *
      generalize sgnI a 16 (2 * k + 1) = x' at *
      generalize sgnI b 16 (2 * k + 1) = y' at *
      obtain ⟨z1, hz1⟩ : ∃ z, IntKind.i64.wrap (x * y) = z := ⟨_, rfl⟩
      obtain ⟨z2, hz2⟩ : ∃ z, IntKind.i64.wrap (x' * y') = z := ⟨_, rfl⟩
      rw [hz1, hz2] at C5 HM
      obtain ⟨z3, hz3⟩ : ∃ z, IntKind.i64.wrap (z1 + z2) = z := ⟨_, rfl⟩
      rw [hz3] at C5 HM
      obtain ⟨z4, hz4⟩ : ∃ z, IntKind.u64.wrap z3 = z := ⟨_, rfl⟩
      rw [hz4] at C5 HM
      generalize hc0 : ofK (fun _ => 0) 32 (fun i => IntKind.u64.wrap (IntKind.i64.wrap (IntKind.i64.wrap (sgnI a 16 (2 * i) * sgnI b 16 (2 * i)) + IntKind.i64.wrap (sgnI a 16 (2 * i + 1) * sgnI b 16 (2 * i + 1))))) k = c0 at *
      clear hc0 hlt hk
      have XC1 := Lib.hid C1
      clear C1
      have XC2 := Lib.hid C2
      clear C2
      have XC3 := Lib.hid C3
      clear C3
      have XC4 := Lib.hid C4
      clear C4
      have XC5 := Lib.hid C5
      clear C5
      go_upto_region 4 with (fail)
      try refine wp_region_lit ?_
      iterate 2 ((first | (refine sl_load hS rfl 23 _ rfl rfl (by repeat (first | exact Has.hd | apply Has.tl)) Try.underlying23 rfl (by exact infoV) ?_) | (refine sl_store hS rfl 23 _ _ rfl rfl rfl (by repeat (first | exact Rep.hd | apply Rep.tl)) (by exact infoV) (by rfl) (bs_one _) ?_; clear hS; intro wk hS) | (apply sl_val rfl; focus (intro w; go_simp; (try simp (disch := omega) only [IntWalk.i64_in, IntWalk.u64_in, IntWalk.u8_in, IntWalk.u32_in, IntWalk.i32_in]); first | exact rfl | rfl)) | (refine sl_skip rfl ?_)); go_simp)
      go_upto_region 5 with (fail)
      refine sm_all [] hS (by kernel_rfl) (by kernel_rfl) (fun β => ?_)
      repeat (refine sm_step (fun K hK => ?_); (first | (refine sm_load rfl rfl 23 _ rfl rfl (by repeat (first | exact Has.hd | apply Has.tl)) Try.underlying23 rfl (by exact infoV) ?_) | (refine sm_lay rfl rfl (by intro w; go_simp) ?_) | (refine sm_build rfl rfl 23 _ rfl (bs fun _ => 0) (by kernel_rfl) ?_) | (apply sm_yes rfl rfl; focus (intro wx hx; go_simp; first | (apply sm_enter (by kernel_rfl); first | fail | with_reducible exact XC1.out wx | with_reducible exact XC2.out wx) | exact ⟨rfl, Gr.refl _⟩)) | (refine sm_val rfl rfl (run_mul rfl rfl rfl T0) ?_) | (refine sm_val rfl rfl (run_add rfl rfl rfl T3) ?_) | (refine sm_val rfl rfl (run_mul rfl rfl rfl hz1) ?_) | (refine sm_val rfl rfl (run_mul rfl rfl rfl hz2) ?_) | (refine sm_no rfl rfl ?_)); go_simp; refine hK _ ?_; clear hK K)
      refine sm_nil ?_
      clear hS
      intro wk hS
      replace hS : St w [⟨t, bs c0, 23⟩, ⟨r, bs (fun _ => 0), 23⟩, ⟨q, bs b, 23⟩, ⟨p, bs a, 23⟩] wk := hS
      go_upto_region 6 with (fail)
      refine sm_all [] hS (by kernel_rfl) (by kernel_rfl) (fun β => ?_)
      repeat (refine sm_step (fun K hK => ?_); (first | (refine sm_load rfl rfl 23 _ rfl rfl (by repeat (first | exact Has.hd | apply Has.tl)) Try.underlying23 rfl (by exact infoV) ?_) | (refine sm_lay rfl rfl (by intro w; go_simp) ?_) | (refine sm_build rfl rfl 23 _ rfl (bs fun _ => 0) (by kernel_rfl) ?_) | (apply sm_yes rfl rfl; focus (intro wx hx; go_simp; first | (apply sm_enter (by kernel_rfl); first | fail | with_reducible exact XC3.out wx | with_reducible exact XC4.out wx) | exact ⟨rfl, Gr.refl _⟩)) | (refine sm_val rfl rfl (run_mul rfl rfl rfl T0) ?_) | (refine sm_val rfl rfl (run_add rfl rfl rfl T3) ?_) | (refine sm_val rfl rfl (run_mul rfl rfl rfl hz1) ?_) | (refine sm_val rfl rfl (run_mul rfl rfl rfl hz2) ?_) | (refine sm_no rfl rfl ?_)); go_simp; refine hK _ ?_; clear hK K)
      refine sm_nil ?_
      clear hS
      intro wk hS
      replace hS : St w [⟨t, bs c0, 23⟩, ⟨r, bs (fun _ => 0), 23⟩, ⟨q, bs b, 23⟩, ⟨p, bs a, 23⟩] wk := hS
      go_upto_region 7 with (fail)
      try refine wp_region_lit ?_
      iterate 8 ((first | (refine sl_load hS rfl 23 _ rfl rfl (by repeat (first | exact Has.hd | apply Has.tl)) Try.underlying23 rfl (by exact infoV) ?_) | (refine sl_store hS rfl 23 _ _ rfl rfl rfl (by repeat (first | exact Rep.hd | apply Rep.tl)) (by exact infoV) (by rfl) (bs_one _) ?_; clear hS; intro wk hS) | (refine sl_val rfl (run_add rfl rfl rfl hz3) ?_) | (refine sl_val rfl (run_conv rfl rfl Try.underlying2 Try.underlying33 hz4) ?_) | (apply sl_val rfl; focus (intro w; go_simp; (try simp (disch := omega) only [IntWalk.i64_in, IntWalk.u64_in, IntWalk.u8_in, IntWalk.u32_in, IntWalk.i32_in]); first | exact rfl | rfl)) | (refine sl_step (fun K hK => .inl ⟨rfl, ?_⟩); unfold Oper.wp; go_simp; (first | with_reducible refine sl_call hS (XC5.out _) ?_); clear hS; intro wk hS; refine hK _ _ ?_; clear hK K) | (refine sl_skip rfl ?_)); go_simp)
      go_wp2_with (first | (refine sl_load hS rfl 23 _ rfl rfl (by repeat (first | exact Has.hd | apply Has.tl)) Try.underlying23 rfl (by exact infoV) ?_) | (refine sl_store hS rfl 23 _ _ rfl rfl rfl (by repeat (first | exact Rep.hd | apply Rep.tl)) (by exact infoV) (by rfl) (bs_one _) ?_; clear hS; intro wk hS) | (refine sl_box hS rfl _ 23 (box_vec rfl rfl) ?_; clear hS; intro bk wk hS) | (refine sl_box hS rfl _ 23 (alloc_vec rfl) ?_; clear hS; intro bk wk hS) | (refine onlyN_end ?_) | (refine onlyN_now ?_))
      have X4 := X2.out
      exact ⟨⟨k + 1, by omega, by go_num, by rw [HM.out]; exact hS⟩, by simp [intOf]; omega⟩
    · obtain rfl : k = 4 := by omega
      go_wp2_with (first | (refine sl_load hS rfl 23 _ rfl rfl (by repeat (first | exact Has.hd | apply Has.tl)) Try.underlying23 rfl (by exact infoV) ?_) | (refine sl_store hS rfl 23 _ _ rfl rfl rfl (by repeat (first | exact Rep.hd | apply Rep.tl)) (by exact infoV) (by rfl) (bs_one _) ?_; clear hS; intro wk hS) | (refine sl_box hS rfl _ 23 (box_vec rfl rfl) ?_; clear hS; intro bk wk hS) | (refine sl_box hS rfl _ 23 (alloc_vec rfl) ?_; clear hS; intro bk wk hS) | (refine onlyN_end ?_) | (refine onlyN_now ?_))
      refine sl_ret hS Try.results31 (by rfl) (by repeat (first | exact Has.hd | apply Has.tl)) Try.underlying23 rfl (by exact infoV) (by rfl) ?_
      exact ⟨rfl, hS.gr⟩
/-- a product of fractions of 2^15, rounded and held -/
def q15 (x : Int) : Int := if (x + 16384) / 32768 < 32767 then (x + 16384) / 32768 else 32767
def roV (a b : Nat → Int) : Nat → Int := ofK (fun _ => 0) 16 (fun i => IntKind.u64.wrap (q15 (sgnI a 16 i * sgnI b 16 i))) 8
theorem sg16_bd {b : Nat → Int} (hb : Byt b) (i : Nat) : -32768 ≤ sgnI b 16 i ∧ sgnI b 16 i ≤ 32767 := by
  unfold sgnI
  split
  · have hg := getI_bd hb 16 i
    rw [wid16] at hg
    unfold sg
    rw [show ((2 : Int) ^ (((16 : Int)).toNat - 1)) = 32768 by decide, show ((2 : Int) ^ ((16 : Int)).toNat) = 65536 by decide]
    split <;> omega
  · omega
theorem mul_bd (x y : Int) (h : -32768 ≤ x ∧ x ≤ 32767) (h' : -32768 ≤ y ∧ y ≤ 32767) : -1073741824 ≤ x * y ∧ x * y ≤ 1073741824 := by
  have e1 : (x + 32768) * (y + 32768) ≥ 0 := Int.mul_nonneg (by omega) (by omega)
  have e2 : (32768 - x) * (y + 32768) ≥ 0 := Int.mul_nonneg (by omega) (by omega)
  have e3 : (x + 32768) * (32768 - y) ≥ 0 := Int.mul_nonneg (by omega) (by omega)
  have e4 : (32768 - x) * (32768 - y) ≥ 0 := Int.mul_nonneg (by omega) (by omega)
  simp only [Int.add_mul, Int.sub_mul, Int.mul_add, Int.mul_sub] at e1 e2 e3 e4
  omega
set_option maxHeartbeats 2000000 in
theorem rounded_any (a b : Nat → Int) (ha : Byt a) (hb : Byt b) (w : World) :
    Calls Try.prog 32 #[.agg (bs a), .agg (bs b)] w fun e w' => e = .returned (.agg (bs (roV a b))) ∧ Gr w w' := by
  have HA := Lib.hid ha
  have HB := Lib.hid hb
  have CL : ∀ w, Calls Try.prog 37 #[.int .i64 16] w fun e w' => e = .returned (.int .i64 8) ∧ Gr w w' := fun w => calls_gr (lanes_any 16 w)
  clear ha hb
  unfold roV
  have hS := St.start w
  have XCL := Lib.hid CL
  clear CL
  go_enter Try.func32, Try.ntmps32
  go_upto_region 0 with (fail)
  refine wp_region_lit ?_
  refine sl_box hS rfl _ 23 (box_vec rfl rfl) ?_
  clear hS
  intro p wk hS
  refine sl_box hS rfl _ 23 (box_vec rfl rfl) ?_
  clear hS
  intro q wk hS
  refine sl_box hS rfl _ 23 (alloc_vec rfl) ?_
  clear hS
  intro r wk hS
  go_upto_region 1 with (fail)
  try refine wp_region_lit ?_
  iterate 1 ((first | (refine sl_load hS rfl 23 _ rfl rfl (by repeat (first | exact Has.hd | apply Has.tl)) Try.underlying23 rfl (by exact infoV) ?_) | (refine sl_store hS rfl 23 _ _ rfl rfl rfl (by repeat (first | exact Rep.hd | apply Rep.tl)) (by exact infoV) (by rfl) (bs_one _) ?_; clear hS; intro wk hS) | ((with_reducible show wpList _ _ _ (⟨_, .alloc 23 , _, _, _, _⟩ :: _) _ _); refine sl_box hS rfl _ 23 (alloc_vec rfl) ?_; clear hS; intro t wk hS) | (apply sl_val rfl; focus (intro w; go_simp; (try simp (disch := omega) only [IntWalk.i64_in, IntWalk.u64_in, IntWalk.u8_in, IntWalk.u32_in, IntWalk.i32_in]); first | exact rfl | rfl)) | (refine sl_step (fun K hK => .inl ⟨rfl, ?_⟩); unfold Oper.wp; go_simp; (first | with_reducible refine sl_call hS (XCL.out _) ?_); clear hS; intro wk hS; refine hK _ _ ?_; clear hK K) | (refine sl_skip rfl ?_)); go_simp)
  go_upto_region 2 with (fail)
  try refine wp_region_lit ?_
  iterate 2 ((first | (refine sl_load hS rfl 23 _ rfl rfl (by repeat (first | exact Has.hd | apply Has.tl)) Try.underlying23 rfl (by exact infoV) ?_) | (refine sl_store hS rfl 23 _ _ rfl rfl rfl (by repeat (first | exact Rep.hd | apply Rep.tl)) (by exact infoV) (by rfl) (bs_one _) ?_; clear hS; intro wk hS) | ((with_reducible show wpList _ _ _ (⟨_, .alloc 23 , _, _, _, _⟩ :: _) _ _); refine sl_box hS rfl _ 23 (alloc_vec rfl) ?_; clear hS; intro t wk hS) | (apply sl_val rfl; focus (intro w; go_simp; (try simp (disch := omega) only [IntWalk.i64_in, IntWalk.u64_in, IntWalk.u8_in, IntWalk.u32_in, IntWalk.i32_in]); first | exact rfl | rfl)) | (refine sl_step (fun K hK => .inl ⟨rfl, ?_⟩); unfold Oper.wp; go_simp; (first | with_reducible refine sl_call hS (XCL.out _) ?_); clear hS; intro wk hS; refine hK _ _ ?_; clear hK K) | (refine sl_skip rfl ?_)); go_simp)
  go_wp2_with fail
  go_loopw [9] (fun u wr => ∃ k : Nat, k ≤ 8 ∧ u = .int .i64 k ∧ St w [⟨t, bs (ofK (fun _ => 0) 16 (fun i => IntKind.u64.wrap (q15 (sgnI a 16 i * sgnI b 16 i))) k), 23⟩, ⟨r, bs (fun _ => 0), 23⟩, ⟨q, bs b, 23⟩, ⟨p, bs a, 23⟩] wr) (fun u _ => 8 - (intOf u).toNat)
  case atStart => exact ⟨0, by omega, rfl, hS⟩
  case round =>
    obtain ⟨k, hk, rfl, hS⟩ := hrel
    by_cases hlt : k < 8
    · have C1 := fun w => signed_any a HA.out 16 k w
      have C2 := fun w => signed_any b HB.out 16 k w
      have b1 := sg16_bd HA.out k
      have b2 := sg16_bd HB.out k
      have HM := Lib.hid (show ofK (fun _ => 0) 16 (fun i => IntKind.u64.wrap (q15 (sgnI a 16 i * sgnI b 16 i))) (k + 1) = setI (ofK (fun _ => 0) 16 (fun i => IntKind.u64.wrap (q15 (sgnI a 16 i * sgnI b 16 i))) k) 16 k (IntKind.u64.wrap (q15 (sgnI a 16 k * sgnI b 16 k))) from rfl)
      have C5 := fun w => set_any (ofK (fun _ => 0) 16 (fun i => IntKind.u64.wrap (q15 (sgnI a 16 i * sgnI b 16 i))) k) 16 k (IntKind.u64.wrap (q15 (sgnI a 16 k * sgnI b 16 k))) w
      have T1 : IntKind.i64.wrap ((k : Int) + 1) = (k : Int) + 1 := IntWalk.i64_in _ (by omega)
      have T2 : decide ((k : Int) < 8) = true := by simp; omega
      have X2 := Lib.hid hlt
      generalize sgnI a 16 k = x at *
      generalize sgnI b 16 k = y at *
      have hxy := mul_bd x y b1 b2
      have hz1 : IntKind.i64.wrap (x * y) = x * y := IntWalk.i64_in _ (by omega)
      have hz2 : IntKind.i64.wrap (x * y + 16384) = x * y + 16384 := IntWalk.i64_in _ (by omega)
      have hz3 : (x * y + 16384).fdiv (2 ^ (min (15 : Int).toNat IntKind.i64.bits)) = (x * y + 16384) / 32768 := by
        rw [show (2 : Int) ^ (min (15 : Int).toNat IntKind.i64.bits) = 32768 by decide, Int.fdiv_eq_ediv_of_nonneg _ (by decide)]
      obtain ⟨z4, hz4⟩ : ∃ z, IntKind.u64.wrap (q15 (x * y)) = z := ⟨_, rfl⟩
      rw [hz4] at C5 HM
      generalize hc0 : ofK (fun _ => 0) 16 (fun i => IntKind.u64.wrap (q15 (sgnI a 16 i * sgnI b 16 i))) k = c0 at *
      clear hc0 hlt hk b1 b2
      have hq : q15 (x * y) = if (x * y + 16384) / 32768 < 32767 then (x * y + 16384) / 32768 else 32767 := rfl
      obtain ⟨xy, hxy0⟩ : ∃ z, x * y = z := ⟨_, rfl⟩
      rw [hxy0] at hz1 hz2 hz3 hz4 hq hxy
      rw [← hxy0] at hz1
      have hz1' : IntKind.i64.wrap (x * y) = xy := hz1.trans hxy0
      generalize q15 xy = qq at *
      clear hz1 hxy0
      have Hq := Lib.hid hq
      clear hq
      generalize (xy + 16384) / 32768 = z0 at *
      clear hxy
      have XC1 := Lib.hid C1
      clear C1
      have XC2 := Lib.hid C2
      clear C2
      have XC5 := Lib.hid C5
      clear C5
      go_upto_region 4 with (fail)
      try refine wp_region_lit ?_
      iterate 2 ((first | (refine sl_load hS rfl 23 _ rfl rfl (by repeat (first | exact Has.hd | apply Has.tl)) Try.underlying23 rfl (by exact infoV) ?_) | (refine sl_store hS rfl 23 _ _ rfl rfl rfl (by repeat (first | exact Rep.hd | apply Rep.tl)) (by exact infoV) (by rfl) (bs_one _) ?_; clear hS; intro wk hS) | (apply sl_val rfl; focus (intro w; go_simp; (try simp (disch := omega) only [IntWalk.i64_in, IntWalk.u64_in, IntWalk.u8_in, IntWalk.u32_in, IntWalk.i32_in]); first | exact rfl | rfl)) | (refine sl_skip rfl ?_)); go_simp)
      go_upto_region 5 with (fail)
      refine sm_all [] hS (by kernel_rfl) (by kernel_rfl) (fun β => ?_)
      repeat (refine sm_step (fun K hK => ?_); (first | (refine sm_load rfl rfl 23 _ rfl rfl (by repeat (first | exact Has.hd | apply Has.tl)) Try.underlying23 rfl (by exact infoV) ?_) | (refine sm_lay rfl rfl (by intro w; go_simp) ?_) | (refine sm_build rfl rfl 23 _ rfl (bs fun _ => 0) (by kernel_rfl) ?_) | (apply sm_yes rfl rfl; focus (intro wx hx; go_simp; first | (apply sm_enter (by kernel_rfl); first | fail | with_reducible exact XC1.out wx | with_reducible exact XC2.out wx) | exact ⟨rfl, Gr.refl _⟩)) | (refine sm_val rfl rfl (run_mul rfl rfl rfl hz1') ?_) | (refine sm_no rfl rfl ?_)); go_simp; refine hK _ ?_; clear hK K)
      refine sm_nil ?_
      clear hS
      intro wk hS
      replace hS : St w [⟨t, bs c0, 23⟩, ⟨r, bs (fun _ => 0), 23⟩, ⟨q, bs b, 23⟩, ⟨p, bs a, 23⟩] wk := hS
      go_upto_region 6 with (fail)
      try refine wp_region_lit ?_
      iterate 9 ((first | (refine sl_load hS rfl 23 _ rfl rfl (by repeat (first | exact Has.hd | apply Has.tl)) Try.underlying23 rfl (by exact infoV) ?_) | (refine sl_store hS rfl 23 _ _ rfl rfl rfl (by repeat (first | exact Rep.hd | apply Rep.tl)) (by exact infoV) (by rfl) (bs_one _) ?_; clear hS; intro wk hS) | (refine sl_val rfl (run_add rfl rfl rfl hz2) ?_) | (refine sl_val rfl (run_shr rfl rfl rfl (by decide) hz3) ?_) | (refine sl_val rfl (run_min rfl rfl rfl Hq.out) ?_) | (refine sl_val rfl (run_conv rfl rfl Try.underlying2 Try.underlying33 hz4) ?_) | (apply sl_val rfl; focus (intro w; go_simp; (try simp (disch := omega) only [IntWalk.i64_in, IntWalk.u64_in, IntWalk.u8_in, IntWalk.u32_in, IntWalk.i32_in]); first | exact rfl | rfl)) | (refine sl_step (fun K hK => .inl ⟨rfl, ?_⟩); unfold Oper.wp; go_simp; (first | with_reducible refine sl_call hS (XC5.out _) ?_); clear hS; intro wk hS; refine hK _ _ ?_; clear hK K) | (refine sl_skip rfl ?_)); go_simp)
      go_wp2_with (first | (refine sl_load hS rfl 23 _ rfl rfl (by repeat (first | exact Has.hd | apply Has.tl)) Try.underlying23 rfl (by exact infoV) ?_) | (refine sl_store hS rfl 23 _ _ rfl rfl rfl (by repeat (first | exact Rep.hd | apply Rep.tl)) (by exact infoV) (by rfl) (bs_one _) ?_; clear hS; intro wk hS) | (refine sl_box hS rfl _ 23 (box_vec rfl rfl) ?_; clear hS; intro bk wk hS) | (refine sl_box hS rfl _ 23 (alloc_vec rfl) ?_; clear hS; intro bk wk hS) | (refine onlyN_end ?_) | (refine onlyN_now ?_))
      have X4 := X2.out
      exact ⟨⟨k + 1, by omega, by go_num, by rw [HM.out]; exact hS⟩, by simp [intOf]; omega⟩
    · obtain rfl : k = 8 := by omega
      go_wp2_with (first | (refine sl_load hS rfl 23 _ rfl rfl (by repeat (first | exact Has.hd | apply Has.tl)) Try.underlying23 rfl (by exact infoV) ?_) | (refine sl_store hS rfl 23 _ _ rfl rfl rfl (by repeat (first | exact Rep.hd | apply Rep.tl)) (by exact infoV) (by rfl) (bs_one _) ?_; clear hS; intro wk hS) | (refine sl_box hS rfl _ 23 (box_vec rfl rfl) ?_; clear hS; intro bk wk hS) | (refine sl_box hS rfl _ 23 (alloc_vec rfl) ?_; clear hS; intro bk wk hS) | (refine onlyN_end ?_) | (refine onlyN_now ?_))
      refine sl_ret hS Try.results32 (by rfl) (by repeat (first | exact Has.hd | apply Has.tl)) Try.underlying23 rfl (by exact infoV) (by rfl) ?_
      exact ⟨rfl, hS.gr⟩
/-- narrowed: k lanes of each vector -/
def naK (v m n lo hi : Int) (a b : Nat → Int) : Nat → (Nat → Int)
  | 0 => fun _ => 0
  | k + 1 => setI (setI (naK v m n lo hi a b k) v k (IntKind.u64.wrap (holdI (sgnI a m k) lo hi))) v (n + k) (IntKind.u64.wrap (holdI (sgnI b m k) lo hi))
set_option maxHeartbeats 2000000 in
theorem narrow_8_true (a b : Nat → Int) (ha : Byt a) (hb : Byt b) (w : World) :
    Calls Try.prog 28 #[.int .i64 8, .bool true, .agg (bs a), .agg (bs b)] w fun e w' => e = .returned (.agg (bs (naK 8 16 8 (-128) 127 a b 8))) ∧ Gr w w' := by
  have HA := Lib.hid ha
  have HB := Lib.hid hb
  have CL : ∀ w, Calls Try.prog 37 #[.int .i64 16] w fun e w' => e = .returned (.int .i64 8) ∧ Gr w w' := fun w => calls_gr (lanes_any 16 w)
  clear ha hb
  have hS := St.start w
  have XCL := Lib.hid CL
  clear CL
  go_enter Try.func28, Try.ntmps28
  go_upto_region 0 with (fail)
  refine wp_region_lit ?_
  refine sl_box hS rfl _ 23 (box_vec rfl rfl) ?_
  clear hS
  intro p wk hS
  refine sl_box hS rfl _ 23 (box_vec rfl rfl) ?_
  clear hS
  intro q wk hS
  refine sl_box hS rfl _ 23 (alloc_vec rfl) ?_
  clear hS
  intro r wk hS
  go_upto_region 1 with (fail)
  refine sm_allA [] hS (by kernel_rfl) (by kernel_rfl) (fun β => ?_)
  repeat (refine sm_step (fun K hK => ?_); (first | (refine sm_load rfl rfl 23 _ rfl rfl (by repeat (first | exact Has.hd | apply Has.tl)) Try.underlying23 rfl (by exact infoV) ?_) | (refine sm_lay rfl rfl (by intro w; go_simp) ?_) | (refine sm_build rfl rfl 23 _ rfl (bs fun _ => 0) (by kernel_rfl) ?_) | (refine sm_val rfl rfl (run_shl rfl rfl rfl (by decide) (z := 256) (by decide)) ?_) | (refine sm_val rfl rfl (run_sub rfl rfl rfl (z := 255) (by decide)) ?_) | (apply sm_yes rfl rfl; focus (intro wx hx; go_simp; first | (apply sm_enter (by kernel_rfl); first | fail) | exact ⟨rfl, Gr.refl _⟩)) | (refine sm_no rfl rfl ?_)); go_simp; refine hK _ ?_; clear hK K)
  refine sm_nil ?_
  clear hS
  intro wk hS
  replace hS : St w [⟨r, bs (fun _ => 0), 23⟩, ⟨q, bs b, 23⟩, ⟨p, bs a, 23⟩] wk := hS
  go_upto_region 3 with (fail)
  refine sm_allA [] hS (by kernel_rfl) (by kernel_rfl) (fun β => ?_)
  repeat (refine sm_step (fun K hK => ?_); (first | (refine sm_load rfl rfl 23 _ rfl rfl (by repeat (first | exact Has.hd | apply Has.tl)) Try.underlying23 rfl (by exact infoV) ?_) | (refine sm_lay rfl rfl (by intro w; go_simp) ?_) | (refine sm_build rfl rfl 23 _ rfl (bs fun _ => 0) (by kernel_rfl) ?_) | (refine sm_val rfl rfl (run_sub rfl rfl rfl (z := 7) (by decide)) ?_) | (refine sm_val rfl rfl (run_shl rfl rfl rfl (by decide) (z := (-128)) (by decide)) ?_) | (refine sm_val rfl rfl (run_shl rfl rfl rfl (by decide) (z := 128) (by decide)) ?_) | (refine sm_val rfl rfl (run_sub rfl rfl rfl (z := 127) (by decide)) ?_) | (apply sm_yes rfl rfl; focus (intro wx hx; go_simp; first | (apply sm_enter (by kernel_rfl); first | fail) | exact ⟨rfl, Gr.refl _⟩)) | (refine sm_no rfl rfl ?_)); go_simp; refine hK _ ?_; clear hK K)
  refine sm_nil ?_
  clear hS
  intro wk hS
  replace hS : St w [⟨r, bs (fun _ => 0), 23⟩, ⟨q, bs b, 23⟩, ⟨p, bs a, 23⟩] wk := hS
  go_upto_region 4 with (fail)
  try refine wp_region_lit ?_
  iterate 1 ((first | (refine sl_load hS rfl 23 _ rfl rfl (by repeat (first | exact Has.hd | apply Has.tl)) Try.underlying23 rfl (by exact infoV) ?_) | (refine sl_store hS rfl 23 _ _ rfl rfl rfl (by repeat (first | exact Rep.hd | apply Rep.tl)) (by exact infoV) (by rfl) (bs_one _) ?_; clear hS; intro wk hS) | ((with_reducible show wpList _ _ _ (⟨_, .alloc 23 , _, _, _, _⟩ :: _) _ _); refine sl_box hS rfl _ 23 (alloc_vec rfl) ?_; clear hS; intro t wk hS) | (refine sl_val rfl (run_mul rfl rfl rfl (z := 16) (by decide)) ?_) | (apply sl_val rfl; focus (intro w; go_simp; (try simp (disch := omega) only [IntWalk.i64_in, IntWalk.u64_in, IntWalk.u8_in, IntWalk.u32_in, IntWalk.i32_in]); first | exact rfl | rfl)) | (refine sl_step (fun K hK => .inl ⟨rfl, ?_⟩); unfold Oper.wp; go_simp; (first | with_reducible refine sl_call hS (XCL.out _) ?_); clear hS; intro wk hS; refine hK _ _ ?_; clear hK K) | (refine sl_skip rfl ?_)); go_simp)
  go_upto_region 5 with (fail)
  try refine wp_region_lit ?_
  iterate 4 ((first | (refine sl_load hS rfl 23 _ rfl rfl (by repeat (first | exact Has.hd | apply Has.tl)) Try.underlying23 rfl (by exact infoV) ?_) | (refine sl_store hS rfl 23 _ _ rfl rfl rfl (by repeat (first | exact Rep.hd | apply Rep.tl)) (by exact infoV) (by rfl) (bs_one _) ?_; clear hS; intro wk hS) | ((with_reducible show wpList _ _ _ (⟨_, .alloc 23 , _, _, _, _⟩ :: _) _ _); refine sl_box hS rfl _ 23 (alloc_vec rfl) ?_; clear hS; intro t wk hS) | (refine sl_val rfl (run_mul rfl rfl rfl (z := 16) (by decide)) ?_) | (apply sl_val rfl; focus (intro w; go_simp; (try simp (disch := omega) only [IntWalk.i64_in, IntWalk.u64_in, IntWalk.u8_in, IntWalk.u32_in, IntWalk.i32_in]); first | exact rfl | rfl)) | (refine sl_step (fun K hK => .inl ⟨rfl, ?_⟩); unfold Oper.wp; go_simp; (first | with_reducible refine sl_call hS (XCL.out _) ?_); clear hS; intro wk hS; refine hK _ _ ?_; clear hK K) | (refine sl_skip rfl ?_)); go_simp)
  go_upto_region 6 with (fail)
  try refine wp_region_lit ?_
  iterate 2 ((first | (refine sl_load hS rfl 23 _ rfl rfl (by repeat (first | exact Has.hd | apply Has.tl)) Try.underlying23 rfl (by exact infoV) ?_) | (refine sl_store hS rfl 23 _ _ rfl rfl rfl (by repeat (first | exact Rep.hd | apply Rep.tl)) (by exact infoV) (by rfl) (bs_one _) ?_; clear hS; intro wk hS) | ((with_reducible show wpList _ _ _ (⟨_, .alloc 23 , _, _, _, _⟩ :: _) _ _); refine sl_box hS rfl _ 23 (alloc_vec rfl) ?_; clear hS; intro t wk hS) | (refine sl_val rfl (run_mul rfl rfl rfl (z := 16) (by decide)) ?_) | (apply sl_val rfl; focus (intro w; go_simp; (try simp (disch := omega) only [IntWalk.i64_in, IntWalk.u64_in, IntWalk.u8_in, IntWalk.u32_in, IntWalk.i32_in]); first | exact rfl | rfl)) | (refine sl_step (fun K hK => .inl ⟨rfl, ?_⟩); unfold Oper.wp; go_simp; (first | with_reducible refine sl_call hS (XCL.out _) ?_); clear hS; intro wk hS; refine hK _ _ ?_; clear hK K) | (refine sl_skip rfl ?_)); go_simp)
  go_wp2_with fail
  go_loopw [29] (fun u wr => ∃ k : Nat, k ≤ 8 ∧ u = .int .i64 k ∧ St w [⟨t, bs (naK 8 16 8 (-128) 127 a b k), 23⟩, ⟨r, bs (fun _ => 0), 23⟩, ⟨q, bs b, 23⟩, ⟨p, bs a, 23⟩] wr) (fun u _ => 8 - (intOf u).toNat)
  case atStart => exact ⟨0, by omega, rfl, hS⟩
  case round =>
    obtain ⟨k, hk, rfl, hS⟩ := hrel
    by_cases hlt : k < 8
    · have C1 := fun w => signed_any a HA.out 16 k w
      have C2 := fun w => signed_any b HB.out 16 k w
      have HM := Lib.hid (show (naK 8 16 8 (-128) 127 a b (k + 1)) = setI (setI (naK 8 16 8 (-128) 127 a b k) 8 k (IntKind.u64.wrap (holdI (sgnI a 16 k) (-128) 127))) 8 (8 + k) (IntKind.u64.wrap (holdI (sgnI b 16 k) (-128) 127)) from rfl)
      have C3 := fun w => calls_gr (hold_any (sgnI a 16 k) (-128) 127 (by decide) w)
      have C4 := fun w => calls_gr (hold_any (sgnI b 16 k) (-128) 127 (by decide) w)
      have C5 := fun w => set_any (naK 8 16 8 (-128) 127 a b k) 8 k (IntKind.u64.wrap (holdI (sgnI a 16 k) (-128) 127)) w
      have C6 := fun w => set_any (setI (naK 8 16 8 (-128) 127 a b k) 8 k (IntKind.u64.wrap (holdI (sgnI a 16 k) (-128) 127))) 8 (8 + k) (IntKind.u64.wrap (holdI (sgnI b 16 k) (-128) 127)) w
      have T1 : IntKind.i64.wrap ((k : Int) + 1) = (k : Int) + 1 := IntWalk.i64_in _ (by omega)
      have T2 : decide ((k : Int) < 8) = true := by simp; omega
      have X2 := Lib.hid hlt
      have T3 : IntKind.i64.wrap ((8 : Int) + (k : Int)) = (8 : Int) + (k : Int) := IntWalk.i64_in _ (by omega)
      generalize holdI (sgnI a 16 k) (-128) 127 = z1 at *
      generalize holdI (sgnI b 16 k) (-128) 127 = z2 at *
      generalize sgnI a 16 k = x at *
      generalize sgnI b 16 k = y at *
      obtain ⟨y1, hz1⟩ : ∃ z, IntKind.u64.wrap z1 = z := ⟨_, rfl⟩
      obtain ⟨y2, hz2⟩ : ∃ z, IntKind.u64.wrap z2 = z := ⟨_, rfl⟩
      rw [hz1] at C5 C6 HM
      rw [hz2] at C6 HM
      generalize hc0 : (naK 8 16 8 (-128) 127 a b k) = c0 at *
      generalize setI c0 8 k y1 = c1 at *
      clear hc0 hlt hk
      have XC1 := Lib.hid C1
      clear C1
      have XC2 := Lib.hid C2
      clear C2
      have XC3 := Lib.hid C3
      clear C3
      have XC4 := Lib.hid C4
      clear C4
      have XC5 := Lib.hid C5
      clear C5
      have XC6 := Lib.hid C6
      clear C6
      go_upto_region 8 with (fail)
      try refine wp_region_lit ?_
      iterate 2 ((first | (refine sl_load hS rfl 23 _ rfl rfl (by repeat (first | exact Has.hd | apply Has.tl)) Try.underlying23 rfl (by exact infoV) ?_) | (refine sl_store hS rfl 23 _ _ rfl rfl rfl (by repeat (first | exact Rep.hd | apply Rep.tl)) (by exact infoV) (by rfl) (bs_one _) ?_; clear hS; intro wk hS) | (apply sl_val rfl; focus (intro w; go_simp; (try simp (disch := omega) only [IntWalk.i64_in, IntWalk.u64_in, IntWalk.u8_in, IntWalk.u32_in, IntWalk.i32_in]); first | exact rfl | rfl)) | (refine sl_skip rfl ?_)); go_simp)
      go_upto_region 9 with (fail)
      refine sm_tail 13 [] hS (by kernel_rfl) (by kernel_rfl) (fun β => ?_)
      simp only [List.take_succ_cons, List.take_zero, List.drop_succ_cons, List.drop_zero]
      iterate 13 (refine sm_step (fun K hK => ?_); (first | (refine sm_load rfl rfl 23 _ rfl rfl (by repeat (first | exact Has.hd | apply Has.tl)) Try.underlying23 rfl (by exact infoV) ?_) | (refine sm_lay rfl rfl (by intro w; go_simp) ?_) | (refine sm_build rfl rfl 23 _ rfl (bs fun _ => 0) (by kernel_rfl) ?_) | (refine sm_val rfl rfl (run_mul rfl rfl rfl (z := 16) (by decide)) ?_) | (refine sm_val rfl rfl (run_conv rfl rfl Try.underlying2 Try.underlying33 hz1) ?_) | (refine sm_val rfl rfl (run_conv rfl rfl Try.underlying2 Try.underlying33 hz2) ?_) | (refine sm_val rfl rfl (run_add rfl rfl rfl T3) ?_) | (apply sm_yes rfl rfl; focus (intro wx hx; go_simp; first | (apply sm_enter (by kernel_rfl); first | fail | with_reducible exact XC1.out wx | with_reducible exact XC2.out wx | with_reducible exact XC3.out wx | with_reducible exact XC4.out wx | with_reducible exact XC5.out wx | with_reducible exact XC6.out wx) | exact ⟨rfl, Gr.refl _⟩)) | (refine sm_no rfl rfl ?_)); go_simp; refine hK _ ?_; clear hK K)
      refine sm_nil ?_
      clear hS
      intro wk hS
      replace hS : St w [⟨t, bs c0, 23⟩, ⟨r, bs (fun _ => 0), 23⟩, ⟨q, bs b, 23⟩, ⟨p, bs a, 23⟩] wk := hS
      go_upto_region 10 with (first | (refine sl_load hS rfl 23 _ rfl rfl (by repeat (first | exact Has.hd | apply Has.tl)) Try.underlying23 rfl (by exact infoV) ?_) | (refine sl_store hS rfl 23 _ _ rfl rfl rfl (by repeat (first | exact Rep.hd | apply Rep.tl)) (by exact infoV) (by rfl) (bs_one _) ?_; clear hS; intro wk hS) | (refine sl_box hS rfl _ 23 (box_vec rfl rfl) ?_; clear hS; intro bk wk hS) | (refine sl_box hS rfl _ 23 (alloc_vec rfl) ?_; clear hS; intro bk wk hS) | (refine onlyN_end ?_) | (refine onlyN_now ?_))
      refine sm_tail 15 [] hS (by kernel_rfl) (by kernel_rfl) (fun β => ?_)
      simp only [List.take_succ_cons, List.take_zero, List.drop_succ_cons, List.drop_zero]
      iterate 15 (refine sm_step (fun K hK => ?_); (first | (refine sm_load rfl rfl 23 _ rfl rfl (by repeat (first | exact Has.hd | apply Has.tl)) Try.underlying23 rfl (by exact infoV) ?_) | (refine sm_lay rfl rfl (by intro w; go_simp) ?_) | (refine sm_build rfl rfl 23 _ rfl (bs fun _ => 0) (by kernel_rfl) ?_) | (refine sm_val rfl rfl (run_mul rfl rfl rfl (z := 16) (by decide)) ?_) | (refine sm_val rfl rfl (run_conv rfl rfl Try.underlying2 Try.underlying33 hz1) ?_) | (refine sm_val rfl rfl (run_conv rfl rfl Try.underlying2 Try.underlying33 hz2) ?_) | (refine sm_val rfl rfl (run_add rfl rfl rfl T3) ?_) | (apply sm_yes rfl rfl; focus (intro wx hx; go_simp; first | (apply sm_enter (by kernel_rfl); first | fail | with_reducible exact XC1.out wx | with_reducible exact XC2.out wx | with_reducible exact XC3.out wx | with_reducible exact XC4.out wx | with_reducible exact XC5.out wx | with_reducible exact XC6.out wx) | exact ⟨rfl, Gr.refl _⟩)) | (refine sm_no rfl rfl ?_)); go_simp; refine hK _ ?_; clear hK K)
      refine sm_nil ?_
      clear hS
      intro wk hS
      replace hS : St w [⟨t, bs c1, 23⟩, ⟨r, bs (fun _ => 0), 23⟩, ⟨q, bs b, 23⟩, ⟨p, bs a, 23⟩] wk := hS
      go_wp2_with (first | (refine sl_load hS rfl 23 _ rfl rfl (by repeat (first | exact Has.hd | apply Has.tl)) Try.underlying23 rfl (by exact infoV) ?_) | (refine sl_store hS rfl 23 _ _ rfl rfl rfl (by repeat (first | exact Rep.hd | apply Rep.tl)) (by exact infoV) (by rfl) (bs_one _) ?_; clear hS; intro wk hS) | (refine sl_box hS rfl _ 23 (box_vec rfl rfl) ?_; clear hS; intro bk wk hS) | (refine sl_box hS rfl _ 23 (alloc_vec rfl) ?_; clear hS; intro bk wk hS) | (refine onlyN_end ?_) | (refine onlyN_now ?_))
      have X4 := X2.out
      exact ⟨⟨k + 1, by omega, by go_num, by rw [HM.out]; exact hS⟩, by simp [intOf]; omega⟩
    · obtain rfl : k = 8 := by omega
      go_wp2_with (first | (refine sl_load hS rfl 23 _ rfl rfl (by repeat (first | exact Has.hd | apply Has.tl)) Try.underlying23 rfl (by exact infoV) ?_) | (refine sl_store hS rfl 23 _ _ rfl rfl rfl (by repeat (first | exact Rep.hd | apply Rep.tl)) (by exact infoV) (by rfl) (bs_one _) ?_; clear hS; intro wk hS) | (refine sl_box hS rfl _ 23 (box_vec rfl rfl) ?_; clear hS; intro bk wk hS) | (refine sl_box hS rfl _ 23 (alloc_vec rfl) ?_; clear hS; intro bk wk hS) | (refine onlyN_end ?_) | (refine onlyN_now ?_))
      refine sl_ret hS Try.results28 (by rfl) (by repeat (first | exact Has.hd | apply Has.tl)) Try.underlying23 rfl (by exact infoV) (by rfl) ?_
      exact ⟨rfl, hS.gr⟩
set_option maxHeartbeats 2000000 in
theorem narrow_8_false (a b : Nat → Int) (ha : Byt a) (hb : Byt b) (w : World) :
    Calls Try.prog 28 #[.int .i64 8, .bool false, .agg (bs a), .agg (bs b)] w fun e w' => e = .returned (.agg (bs (naK 8 16 8 (0) 255 a b 8))) ∧ Gr w w' := by
  have HA := Lib.hid ha
  have HB := Lib.hid hb
  have CL : ∀ w, Calls Try.prog 37 #[.int .i64 16] w fun e w' => e = .returned (.int .i64 8) ∧ Gr w w' := fun w => calls_gr (lanes_any 16 w)
  clear ha hb
  have hS := St.start w
  have XCL := Lib.hid CL
  clear CL
  go_enter Try.func28, Try.ntmps28
  go_upto_region 0 with (fail)
  refine wp_region_lit ?_
  refine sl_box hS rfl _ 23 (box_vec rfl rfl) ?_
  clear hS
  intro p wk hS
  refine sl_box hS rfl _ 23 (box_vec rfl rfl) ?_
  clear hS
  intro q wk hS
  refine sl_box hS rfl _ 23 (alloc_vec rfl) ?_
  clear hS
  intro r wk hS
  go_upto_region 1 with (fail)
  refine sm_allA [] hS (by kernel_rfl) (by kernel_rfl) (fun β => ?_)
  repeat (refine sm_step (fun K hK => ?_); (first | (refine sm_load rfl rfl 23 _ rfl rfl (by repeat (first | exact Has.hd | apply Has.tl)) Try.underlying23 rfl (by exact infoV) ?_) | (refine sm_lay rfl rfl (by intro w; go_simp) ?_) | (refine sm_build rfl rfl 23 _ rfl (bs fun _ => 0) (by kernel_rfl) ?_) | (refine sm_val rfl rfl (run_shl rfl rfl rfl (by decide) (z := 256) (by decide)) ?_) | (refine sm_val rfl rfl (run_sub rfl rfl rfl (z := 255) (by decide)) ?_) | (apply sm_yes rfl rfl; focus (intro wx hx; go_simp; first | (apply sm_enter (by kernel_rfl); first | fail) | exact ⟨rfl, Gr.refl _⟩)) | (refine sm_no rfl rfl ?_)); go_simp; refine hK _ ?_; clear hK K)
  refine sm_nil ?_
  clear hS
  intro wk hS
  replace hS : St w [⟨r, bs (fun _ => 0), 23⟩, ⟨q, bs b, 23⟩, ⟨p, bs a, 23⟩] wk := hS
  go_upto_region 4 with (fail)
  try refine wp_region_lit ?_
  iterate 1 ((first | (refine sl_load hS rfl 23 _ rfl rfl (by repeat (first | exact Has.hd | apply Has.tl)) Try.underlying23 rfl (by exact infoV) ?_) | (refine sl_store hS rfl 23 _ _ rfl rfl rfl (by repeat (first | exact Rep.hd | apply Rep.tl)) (by exact infoV) (by rfl) (bs_one _) ?_; clear hS; intro wk hS) | ((with_reducible show wpList _ _ _ (⟨_, .alloc 23 , _, _, _, _⟩ :: _) _ _); refine sl_box hS rfl _ 23 (alloc_vec rfl) ?_; clear hS; intro t wk hS) | (refine sl_val rfl (run_mul rfl rfl rfl (z := 16) (by decide)) ?_) | (apply sl_val rfl; focus (intro w; go_simp; (try simp (disch := omega) only [IntWalk.i64_in, IntWalk.u64_in, IntWalk.u8_in, IntWalk.u32_in, IntWalk.i32_in]); first | exact rfl | rfl)) | (refine sl_step (fun K hK => .inl ⟨rfl, ?_⟩); unfold Oper.wp; go_simp; (first | with_reducible refine sl_call hS (XCL.out _) ?_); clear hS; intro wk hS; refine hK _ _ ?_; clear hK K) | (refine sl_skip rfl ?_)); go_simp)
  go_upto_region 5 with (fail)
  try refine wp_region_lit ?_
  iterate 4 ((first | (refine sl_load hS rfl 23 _ rfl rfl (by repeat (first | exact Has.hd | apply Has.tl)) Try.underlying23 rfl (by exact infoV) ?_) | (refine sl_store hS rfl 23 _ _ rfl rfl rfl (by repeat (first | exact Rep.hd | apply Rep.tl)) (by exact infoV) (by rfl) (bs_one _) ?_; clear hS; intro wk hS) | ((with_reducible show wpList _ _ _ (⟨_, .alloc 23 , _, _, _, _⟩ :: _) _ _); refine sl_box hS rfl _ 23 (alloc_vec rfl) ?_; clear hS; intro t wk hS) | (refine sl_val rfl (run_mul rfl rfl rfl (z := 16) (by decide)) ?_) | (apply sl_val rfl; focus (intro w; go_simp; (try simp (disch := omega) only [IntWalk.i64_in, IntWalk.u64_in, IntWalk.u8_in, IntWalk.u32_in, IntWalk.i32_in]); first | exact rfl | rfl)) | (refine sl_step (fun K hK => .inl ⟨rfl, ?_⟩); unfold Oper.wp; go_simp; (first | with_reducible refine sl_call hS (XCL.out _) ?_); clear hS; intro wk hS; refine hK _ _ ?_; clear hK K) | (refine sl_skip rfl ?_)); go_simp)
  go_upto_region 6 with (fail)
  try refine wp_region_lit ?_
  iterate 2 ((first | (refine sl_load hS rfl 23 _ rfl rfl (by repeat (first | exact Has.hd | apply Has.tl)) Try.underlying23 rfl (by exact infoV) ?_) | (refine sl_store hS rfl 23 _ _ rfl rfl rfl (by repeat (first | exact Rep.hd | apply Rep.tl)) (by exact infoV) (by rfl) (bs_one _) ?_; clear hS; intro wk hS) | ((with_reducible show wpList _ _ _ (⟨_, .alloc 23 , _, _, _, _⟩ :: _) _ _); refine sl_box hS rfl _ 23 (alloc_vec rfl) ?_; clear hS; intro t wk hS) | (refine sl_val rfl (run_mul rfl rfl rfl (z := 16) (by decide)) ?_) | (apply sl_val rfl; focus (intro w; go_simp; (try simp (disch := omega) only [IntWalk.i64_in, IntWalk.u64_in, IntWalk.u8_in, IntWalk.u32_in, IntWalk.i32_in]); first | exact rfl | rfl)) | (refine sl_step (fun K hK => .inl ⟨rfl, ?_⟩); unfold Oper.wp; go_simp; (first | with_reducible refine sl_call hS (XCL.out _) ?_); clear hS; intro wk hS; refine hK _ _ ?_; clear hK K) | (refine sl_skip rfl ?_)); go_simp)
  go_wp2_with fail
  go_loopw [29] (fun u wr => ∃ k : Nat, k ≤ 8 ∧ u = .int .i64 k ∧ St w [⟨t, bs (naK 8 16 8 (0) 255 a b k), 23⟩, ⟨r, bs (fun _ => 0), 23⟩, ⟨q, bs b, 23⟩, ⟨p, bs a, 23⟩] wr) (fun u _ => 8 - (intOf u).toNat)
  case atStart => exact ⟨0, by omega, rfl, hS⟩
  case round =>
    obtain ⟨k, hk, rfl, hS⟩ := hrel
    by_cases hlt : k < 8
    · have C1 := fun w => signed_any a HA.out 16 k w
      have C2 := fun w => signed_any b HB.out 16 k w
      have HM := Lib.hid (show (naK 8 16 8 (0) 255 a b (k + 1)) = setI (setI (naK 8 16 8 (0) 255 a b k) 8 k (IntKind.u64.wrap (holdI (sgnI a 16 k) (0) 255))) 8 (8 + k) (IntKind.u64.wrap (holdI (sgnI b 16 k) (0) 255)) from rfl)
      have C3 := fun w => calls_gr (hold_any (sgnI a 16 k) (0) 255 (by decide) w)
      have C4 := fun w => calls_gr (hold_any (sgnI b 16 k) (0) 255 (by decide) w)
      have C5 := fun w => set_any (naK 8 16 8 (0) 255 a b k) 8 k (IntKind.u64.wrap (holdI (sgnI a 16 k) (0) 255)) w
      have C6 := fun w => set_any (setI (naK 8 16 8 (0) 255 a b k) 8 k (IntKind.u64.wrap (holdI (sgnI a 16 k) (0) 255))) 8 (8 + k) (IntKind.u64.wrap (holdI (sgnI b 16 k) (0) 255)) w
      have T1 : IntKind.i64.wrap ((k : Int) + 1) = (k : Int) + 1 := IntWalk.i64_in _ (by omega)
      have T2 : decide ((k : Int) < 8) = true := by simp; omega
      have X2 := Lib.hid hlt
      have T3 : IntKind.i64.wrap ((8 : Int) + (k : Int)) = (8 : Int) + (k : Int) := IntWalk.i64_in _ (by omega)
      generalize holdI (sgnI a 16 k) (0) 255 = z1 at *
      generalize holdI (sgnI b 16 k) (0) 255 = z2 at *
      generalize sgnI a 16 k = x at *
      generalize sgnI b 16 k = y at *
      obtain ⟨y1, hz1⟩ : ∃ z, IntKind.u64.wrap z1 = z := ⟨_, rfl⟩
      obtain ⟨y2, hz2⟩ : ∃ z, IntKind.u64.wrap z2 = z := ⟨_, rfl⟩
      rw [hz1] at C5 C6 HM
      rw [hz2] at C6 HM
      generalize hc0 : (naK 8 16 8 (0) 255 a b k) = c0 at *
      generalize setI c0 8 k y1 = c1 at *
      clear hc0 hlt hk
      have XC1 := Lib.hid C1
      clear C1
      have XC2 := Lib.hid C2
      clear C2
      have XC3 := Lib.hid C3
      clear C3
      have XC4 := Lib.hid C4
      clear C4
      have XC5 := Lib.hid C5
      clear C5
      have XC6 := Lib.hid C6
      clear C6
      go_upto_region 8 with (fail)
      try refine wp_region_lit ?_
      iterate 2 ((first | (refine sl_load hS rfl 23 _ rfl rfl (by repeat (first | exact Has.hd | apply Has.tl)) Try.underlying23 rfl (by exact infoV) ?_) | (refine sl_store hS rfl 23 _ _ rfl rfl rfl (by repeat (first | exact Rep.hd | apply Rep.tl)) (by exact infoV) (by rfl) (bs_one _) ?_; clear hS; intro wk hS) | (apply sl_val rfl; focus (intro w; go_simp; (try simp (disch := omega) only [IntWalk.i64_in, IntWalk.u64_in, IntWalk.u8_in, IntWalk.u32_in, IntWalk.i32_in]); first | exact rfl | rfl)) | (refine sl_skip rfl ?_)); go_simp)
      go_upto_region 9 with (fail)
      refine sm_tail 13 [] hS (by kernel_rfl) (by kernel_rfl) (fun β => ?_)
      simp only [List.take_succ_cons, List.take_zero, List.drop_succ_cons, List.drop_zero]
      iterate 13 (refine sm_step (fun K hK => ?_); (first | (refine sm_load rfl rfl 23 _ rfl rfl (by repeat (first | exact Has.hd | apply Has.tl)) Try.underlying23 rfl (by exact infoV) ?_) | (refine sm_lay rfl rfl (by intro w; go_simp) ?_) | (refine sm_build rfl rfl 23 _ rfl (bs fun _ => 0) (by kernel_rfl) ?_) | (refine sm_val rfl rfl (run_mul rfl rfl rfl (z := 16) (by decide)) ?_) | (refine sm_val rfl rfl (run_conv rfl rfl Try.underlying2 Try.underlying33 hz1) ?_) | (refine sm_val rfl rfl (run_conv rfl rfl Try.underlying2 Try.underlying33 hz2) ?_) | (refine sm_val rfl rfl (run_add rfl rfl rfl T3) ?_) | (apply sm_yes rfl rfl; focus (intro wx hx; go_simp; first | (apply sm_enter (by kernel_rfl); first | fail | with_reducible exact XC1.out wx | with_reducible exact XC2.out wx | with_reducible exact XC3.out wx | with_reducible exact XC4.out wx | with_reducible exact XC5.out wx | with_reducible exact XC6.out wx) | exact ⟨rfl, Gr.refl _⟩)) | (refine sm_no rfl rfl ?_)); go_simp; refine hK _ ?_; clear hK K)
      refine sm_nil ?_
      clear hS
      intro wk hS
      replace hS : St w [⟨t, bs c0, 23⟩, ⟨r, bs (fun _ => 0), 23⟩, ⟨q, bs b, 23⟩, ⟨p, bs a, 23⟩] wk := hS
      go_upto_region 10 with (first | (refine sl_load hS rfl 23 _ rfl rfl (by repeat (first | exact Has.hd | apply Has.tl)) Try.underlying23 rfl (by exact infoV) ?_) | (refine sl_store hS rfl 23 _ _ rfl rfl rfl (by repeat (first | exact Rep.hd | apply Rep.tl)) (by exact infoV) (by rfl) (bs_one _) ?_; clear hS; intro wk hS) | (refine sl_box hS rfl _ 23 (box_vec rfl rfl) ?_; clear hS; intro bk wk hS) | (refine sl_box hS rfl _ 23 (alloc_vec rfl) ?_; clear hS; intro bk wk hS) | (refine onlyN_end ?_) | (refine onlyN_now ?_))
      refine sm_tail 15 [] hS (by kernel_rfl) (by kernel_rfl) (fun β => ?_)
      simp only [List.take_succ_cons, List.take_zero, List.drop_succ_cons, List.drop_zero]
      iterate 15 (refine sm_step (fun K hK => ?_); (first | (refine sm_load rfl rfl 23 _ rfl rfl (by repeat (first | exact Has.hd | apply Has.tl)) Try.underlying23 rfl (by exact infoV) ?_) | (refine sm_lay rfl rfl (by intro w; go_simp) ?_) | (refine sm_build rfl rfl 23 _ rfl (bs fun _ => 0) (by kernel_rfl) ?_) | (refine sm_val rfl rfl (run_mul rfl rfl rfl (z := 16) (by decide)) ?_) | (refine sm_val rfl rfl (run_conv rfl rfl Try.underlying2 Try.underlying33 hz1) ?_) | (refine sm_val rfl rfl (run_conv rfl rfl Try.underlying2 Try.underlying33 hz2) ?_) | (refine sm_val rfl rfl (run_add rfl rfl rfl T3) ?_) | (apply sm_yes rfl rfl; focus (intro wx hx; go_simp; first | (apply sm_enter (by kernel_rfl); first | fail | with_reducible exact XC1.out wx | with_reducible exact XC2.out wx | with_reducible exact XC3.out wx | with_reducible exact XC4.out wx | with_reducible exact XC5.out wx | with_reducible exact XC6.out wx) | exact ⟨rfl, Gr.refl _⟩)) | (refine sm_no rfl rfl ?_)); go_simp; refine hK _ ?_; clear hK K)
      refine sm_nil ?_
      clear hS
      intro wk hS
      replace hS : St w [⟨t, bs c1, 23⟩, ⟨r, bs (fun _ => 0), 23⟩, ⟨q, bs b, 23⟩, ⟨p, bs a, 23⟩] wk := hS
      go_wp2_with (first | (refine sl_load hS rfl 23 _ rfl rfl (by repeat (first | exact Has.hd | apply Has.tl)) Try.underlying23 rfl (by exact infoV) ?_) | (refine sl_store hS rfl 23 _ _ rfl rfl rfl (by repeat (first | exact Rep.hd | apply Rep.tl)) (by exact infoV) (by rfl) (bs_one _) ?_; clear hS; intro wk hS) | (refine sl_box hS rfl _ 23 (box_vec rfl rfl) ?_; clear hS; intro bk wk hS) | (refine sl_box hS rfl _ 23 (alloc_vec rfl) ?_; clear hS; intro bk wk hS) | (refine onlyN_end ?_) | (refine onlyN_now ?_))
      have X4 := X2.out
      exact ⟨⟨k + 1, by omega, by go_num, by rw [HM.out]; exact hS⟩, by simp [intOf]; omega⟩
    · obtain rfl : k = 8 := by omega
      go_wp2_with (first | (refine sl_load hS rfl 23 _ rfl rfl (by repeat (first | exact Has.hd | apply Has.tl)) Try.underlying23 rfl (by exact infoV) ?_) | (refine sl_store hS rfl 23 _ _ rfl rfl rfl (by repeat (first | exact Rep.hd | apply Rep.tl)) (by exact infoV) (by rfl) (bs_one _) ?_; clear hS; intro wk hS) | (refine sl_box hS rfl _ 23 (box_vec rfl rfl) ?_; clear hS; intro bk wk hS) | (refine sl_box hS rfl _ 23 (alloc_vec rfl) ?_; clear hS; intro bk wk hS) | (refine onlyN_end ?_) | (refine onlyN_now ?_))
      refine sl_ret hS Try.results28 (by rfl) (by repeat (first | exact Has.hd | apply Has.tl)) Try.underlying23 rfl (by exact infoV) (by rfl) ?_
      exact ⟨rfl, hS.gr⟩
set_option maxHeartbeats 2000000 in
theorem narrow_16_true (a b : Nat → Int) (ha : Byt a) (hb : Byt b) (w : World) :
    Calls Try.prog 28 #[.int .i64 16, .bool true, .agg (bs a), .agg (bs b)] w fun e w' => e = .returned (.agg (bs (naK 16 32 4 (-32768) 32767 a b 4))) ∧ Gr w w' := by
  have HA := Lib.hid ha
  have HB := Lib.hid hb
  have CL : ∀ w, Calls Try.prog 37 #[.int .i64 32] w fun e w' => e = .returned (.int .i64 4) ∧ Gr w w' := fun w => calls_gr (lanes_any 32 w)
  clear ha hb
  have hS := St.start w
  have XCL := Lib.hid CL
  clear CL
  go_enter Try.func28, Try.ntmps28
  go_upto_region 0 with (fail)
  refine wp_region_lit ?_
  refine sl_box hS rfl _ 23 (box_vec rfl rfl) ?_
  clear hS
  intro p wk hS
  refine sl_box hS rfl _ 23 (box_vec rfl rfl) ?_
  clear hS
  intro q wk hS
  refine sl_box hS rfl _ 23 (alloc_vec rfl) ?_
  clear hS
  intro r wk hS
  go_upto_region 1 with (fail)
  refine sm_allA [] hS (by kernel_rfl) (by kernel_rfl) (fun β => ?_)
  repeat (refine sm_step (fun K hK => ?_); (first | (refine sm_load rfl rfl 23 _ rfl rfl (by repeat (first | exact Has.hd | apply Has.tl)) Try.underlying23 rfl (by exact infoV) ?_) | (refine sm_lay rfl rfl (by intro w; go_simp) ?_) | (refine sm_build rfl rfl 23 _ rfl (bs fun _ => 0) (by kernel_rfl) ?_) | (refine sm_val rfl rfl (run_shl rfl rfl rfl (by decide) (z := 65536) (by decide)) ?_) | (refine sm_val rfl rfl (run_sub rfl rfl rfl (z := 65535) (by decide)) ?_) | (apply sm_yes rfl rfl; focus (intro wx hx; go_simp; first | (apply sm_enter (by kernel_rfl); first | fail) | exact ⟨rfl, Gr.refl _⟩)) | (refine sm_no rfl rfl ?_)); go_simp; refine hK _ ?_; clear hK K)
  refine sm_nil ?_
  clear hS
  intro wk hS
  replace hS : St w [⟨r, bs (fun _ => 0), 23⟩, ⟨q, bs b, 23⟩, ⟨p, bs a, 23⟩] wk := hS
  go_upto_region 3 with (fail)
  refine sm_allA [] hS (by kernel_rfl) (by kernel_rfl) (fun β => ?_)
  repeat (refine sm_step (fun K hK => ?_); (first | (refine sm_load rfl rfl 23 _ rfl rfl (by repeat (first | exact Has.hd | apply Has.tl)) Try.underlying23 rfl (by exact infoV) ?_) | (refine sm_lay rfl rfl (by intro w; go_simp) ?_) | (refine sm_build rfl rfl 23 _ rfl (bs fun _ => 0) (by kernel_rfl) ?_) | (refine sm_val rfl rfl (run_sub rfl rfl rfl (z := 15) (by decide)) ?_) | (refine sm_val rfl rfl (run_shl rfl rfl rfl (by decide) (z := (-32768)) (by decide)) ?_) | (refine sm_val rfl rfl (run_shl rfl rfl rfl (by decide) (z := 32768) (by decide)) ?_) | (refine sm_val rfl rfl (run_sub rfl rfl rfl (z := 32767) (by decide)) ?_) | (apply sm_yes rfl rfl; focus (intro wx hx; go_simp; first | (apply sm_enter (by kernel_rfl); first | fail) | exact ⟨rfl, Gr.refl _⟩)) | (refine sm_no rfl rfl ?_)); go_simp; refine hK _ ?_; clear hK K)
  refine sm_nil ?_
  clear hS
  intro wk hS
  replace hS : St w [⟨r, bs (fun _ => 0), 23⟩, ⟨q, bs b, 23⟩, ⟨p, bs a, 23⟩] wk := hS
  go_upto_region 4 with (fail)
  try refine wp_region_lit ?_
  iterate 1 ((first | (refine sl_load hS rfl 23 _ rfl rfl (by repeat (first | exact Has.hd | apply Has.tl)) Try.underlying23 rfl (by exact infoV) ?_) | (refine sl_store hS rfl 23 _ _ rfl rfl rfl (by repeat (first | exact Rep.hd | apply Rep.tl)) (by exact infoV) (by rfl) (bs_one _) ?_; clear hS; intro wk hS) | ((with_reducible show wpList _ _ _ (⟨_, .alloc 23 , _, _, _, _⟩ :: _) _ _); refine sl_box hS rfl _ 23 (alloc_vec rfl) ?_; clear hS; intro t wk hS) | (refine sl_val rfl (run_mul rfl rfl rfl (z := 32) (by decide)) ?_) | (apply sl_val rfl; focus (intro w; go_simp; (try simp (disch := omega) only [IntWalk.i64_in, IntWalk.u64_in, IntWalk.u8_in, IntWalk.u32_in, IntWalk.i32_in]); first | exact rfl | rfl)) | (refine sl_step (fun K hK => .inl ⟨rfl, ?_⟩); unfold Oper.wp; go_simp; (first | with_reducible refine sl_call hS (XCL.out _) ?_); clear hS; intro wk hS; refine hK _ _ ?_; clear hK K) | (refine sl_skip rfl ?_)); go_simp)
  go_upto_region 5 with (fail)
  try refine wp_region_lit ?_
  iterate 4 ((first | (refine sl_load hS rfl 23 _ rfl rfl (by repeat (first | exact Has.hd | apply Has.tl)) Try.underlying23 rfl (by exact infoV) ?_) | (refine sl_store hS rfl 23 _ _ rfl rfl rfl (by repeat (first | exact Rep.hd | apply Rep.tl)) (by exact infoV) (by rfl) (bs_one _) ?_; clear hS; intro wk hS) | ((with_reducible show wpList _ _ _ (⟨_, .alloc 23 , _, _, _, _⟩ :: _) _ _); refine sl_box hS rfl _ 23 (alloc_vec rfl) ?_; clear hS; intro t wk hS) | (refine sl_val rfl (run_mul rfl rfl rfl (z := 32) (by decide)) ?_) | (apply sl_val rfl; focus (intro w; go_simp; (try simp (disch := omega) only [IntWalk.i64_in, IntWalk.u64_in, IntWalk.u8_in, IntWalk.u32_in, IntWalk.i32_in]); first | exact rfl | rfl)) | (refine sl_step (fun K hK => .inl ⟨rfl, ?_⟩); unfold Oper.wp; go_simp; (first | with_reducible refine sl_call hS (XCL.out _) ?_); clear hS; intro wk hS; refine hK _ _ ?_; clear hK K) | (refine sl_skip rfl ?_)); go_simp)
  go_upto_region 6 with (fail)
  try refine wp_region_lit ?_
  iterate 2 ((first | (refine sl_load hS rfl 23 _ rfl rfl (by repeat (first | exact Has.hd | apply Has.tl)) Try.underlying23 rfl (by exact infoV) ?_) | (refine sl_store hS rfl 23 _ _ rfl rfl rfl (by repeat (first | exact Rep.hd | apply Rep.tl)) (by exact infoV) (by rfl) (bs_one _) ?_; clear hS; intro wk hS) | ((with_reducible show wpList _ _ _ (⟨_, .alloc 23 , _, _, _, _⟩ :: _) _ _); refine sl_box hS rfl _ 23 (alloc_vec rfl) ?_; clear hS; intro t wk hS) | (refine sl_val rfl (run_mul rfl rfl rfl (z := 32) (by decide)) ?_) | (apply sl_val rfl; focus (intro w; go_simp; (try simp (disch := omega) only [IntWalk.i64_in, IntWalk.u64_in, IntWalk.u8_in, IntWalk.u32_in, IntWalk.i32_in]); first | exact rfl | rfl)) | (refine sl_step (fun K hK => .inl ⟨rfl, ?_⟩); unfold Oper.wp; go_simp; (first | with_reducible refine sl_call hS (XCL.out _) ?_); clear hS; intro wk hS; refine hK _ _ ?_; clear hK K) | (refine sl_skip rfl ?_)); go_simp)
  go_wp2_with fail
  go_loopw [29] (fun u wr => ∃ k : Nat, k ≤ 4 ∧ u = .int .i64 k ∧ St w [⟨t, bs (naK 16 32 4 (-32768) 32767 a b k), 23⟩, ⟨r, bs (fun _ => 0), 23⟩, ⟨q, bs b, 23⟩, ⟨p, bs a, 23⟩] wr) (fun u _ => 4 - (intOf u).toNat)
  case atStart => exact ⟨0, by omega, rfl, hS⟩
  case round =>
    obtain ⟨k, hk, rfl, hS⟩ := hrel
    by_cases hlt : k < 4
    · have C1 := fun w => signed_any a HA.out 32 k w
      have C2 := fun w => signed_any b HB.out 32 k w
      have HM := Lib.hid (show (naK 16 32 4 (-32768) 32767 a b (k + 1)) = setI (setI (naK 16 32 4 (-32768) 32767 a b k) 16 k (IntKind.u64.wrap (holdI (sgnI a 32 k) (-32768) 32767))) 16 (4 + k) (IntKind.u64.wrap (holdI (sgnI b 32 k) (-32768) 32767)) from rfl)
      have C3 := fun w => calls_gr (hold_any (sgnI a 32 k) (-32768) 32767 (by decide) w)
      have C4 := fun w => calls_gr (hold_any (sgnI b 32 k) (-32768) 32767 (by decide) w)
      have C5 := fun w => set_any (naK 16 32 4 (-32768) 32767 a b k) 16 k (IntKind.u64.wrap (holdI (sgnI a 32 k) (-32768) 32767)) w
      have C6 := fun w => set_any (setI (naK 16 32 4 (-32768) 32767 a b k) 16 k (IntKind.u64.wrap (holdI (sgnI a 32 k) (-32768) 32767))) 16 (4 + k) (IntKind.u64.wrap (holdI (sgnI b 32 k) (-32768) 32767)) w
      have T1 : IntKind.i64.wrap ((k : Int) + 1) = (k : Int) + 1 := IntWalk.i64_in _ (by omega)
      have T2 : decide ((k : Int) < 4) = true := by simp; omega
      have X2 := Lib.hid hlt
      have T3 : IntKind.i64.wrap ((4 : Int) + (k : Int)) = (4 : Int) + (k : Int) := IntWalk.i64_in _ (by omega)
      generalize holdI (sgnI a 32 k) (-32768) 32767 = z1 at *
      generalize holdI (sgnI b 32 k) (-32768) 32767 = z2 at *
      generalize sgnI a 32 k = x at *
      generalize sgnI b 32 k = y at *
      obtain ⟨y1, hz1⟩ : ∃ z, IntKind.u64.wrap z1 = z := ⟨_, rfl⟩
      obtain ⟨y2, hz2⟩ : ∃ z, IntKind.u64.wrap z2 = z := ⟨_, rfl⟩
      rw [hz1] at C5 C6 HM
      rw [hz2] at C6 HM
      generalize hc0 : (naK 16 32 4 (-32768) 32767 a b k) = c0 at *
      generalize setI c0 16 k y1 = c1 at *
      clear hc0 hlt hk
      have XC1 := Lib.hid C1
      clear C1
      have XC2 := Lib.hid C2
      clear C2
      have XC3 := Lib.hid C3
      clear C3
      have XC4 := Lib.hid C4
      clear C4
      have XC5 := Lib.hid C5
      clear C5
      have XC6 := Lib.hid C6
      clear C6
      go_upto_region 8 with (fail)
      try refine wp_region_lit ?_
      iterate 2 ((first | (refine sl_load hS rfl 23 _ rfl rfl (by repeat (first | exact Has.hd | apply Has.tl)) Try.underlying23 rfl (by exact infoV) ?_) | (refine sl_store hS rfl 23 _ _ rfl rfl rfl (by repeat (first | exact Rep.hd | apply Rep.tl)) (by exact infoV) (by rfl) (bs_one _) ?_; clear hS; intro wk hS) | (apply sl_val rfl; focus (intro w; go_simp; (try simp (disch := omega) only [IntWalk.i64_in, IntWalk.u64_in, IntWalk.u8_in, IntWalk.u32_in, IntWalk.i32_in]); first | exact rfl | rfl)) | (refine sl_skip rfl ?_)); go_simp)
      go_upto_region 9 with (fail)
      refine sm_tail 13 [] hS (by kernel_rfl) (by kernel_rfl) (fun β => ?_)
      simp only [List.take_succ_cons, List.take_zero, List.drop_succ_cons, List.drop_zero]
      iterate 13 (refine sm_step (fun K hK => ?_); (first | (refine sm_load rfl rfl 23 _ rfl rfl (by repeat (first | exact Has.hd | apply Has.tl)) Try.underlying23 rfl (by exact infoV) ?_) | (refine sm_lay rfl rfl (by intro w; go_simp) ?_) | (refine sm_build rfl rfl 23 _ rfl (bs fun _ => 0) (by kernel_rfl) ?_) | (refine sm_val rfl rfl (run_mul rfl rfl rfl (z := 32) (by decide)) ?_) | (refine sm_val rfl rfl (run_conv rfl rfl Try.underlying2 Try.underlying33 hz1) ?_) | (refine sm_val rfl rfl (run_conv rfl rfl Try.underlying2 Try.underlying33 hz2) ?_) | (refine sm_val rfl rfl (run_add rfl rfl rfl T3) ?_) | (apply sm_yes rfl rfl; focus (intro wx hx; go_simp; first | (apply sm_enter (by kernel_rfl); first | fail | with_reducible exact XC1.out wx | with_reducible exact XC2.out wx | with_reducible exact XC3.out wx | with_reducible exact XC4.out wx | with_reducible exact XC5.out wx | with_reducible exact XC6.out wx) | exact ⟨rfl, Gr.refl _⟩)) | (refine sm_no rfl rfl ?_)); go_simp; refine hK _ ?_; clear hK K)
      refine sm_nil ?_
      clear hS
      intro wk hS
      replace hS : St w [⟨t, bs c0, 23⟩, ⟨r, bs (fun _ => 0), 23⟩, ⟨q, bs b, 23⟩, ⟨p, bs a, 23⟩] wk := hS
      go_upto_region 10 with (first | (refine sl_load hS rfl 23 _ rfl rfl (by repeat (first | exact Has.hd | apply Has.tl)) Try.underlying23 rfl (by exact infoV) ?_) | (refine sl_store hS rfl 23 _ _ rfl rfl rfl (by repeat (first | exact Rep.hd | apply Rep.tl)) (by exact infoV) (by rfl) (bs_one _) ?_; clear hS; intro wk hS) | (refine sl_box hS rfl _ 23 (box_vec rfl rfl) ?_; clear hS; intro bk wk hS) | (refine sl_box hS rfl _ 23 (alloc_vec rfl) ?_; clear hS; intro bk wk hS) | (refine onlyN_end ?_) | (refine onlyN_now ?_))
      refine sm_tail 15 [] hS (by kernel_rfl) (by kernel_rfl) (fun β => ?_)
      simp only [List.take_succ_cons, List.take_zero, List.drop_succ_cons, List.drop_zero]
      iterate 15 (refine sm_step (fun K hK => ?_); (first | (refine sm_load rfl rfl 23 _ rfl rfl (by repeat (first | exact Has.hd | apply Has.tl)) Try.underlying23 rfl (by exact infoV) ?_) | (refine sm_lay rfl rfl (by intro w; go_simp) ?_) | (refine sm_build rfl rfl 23 _ rfl (bs fun _ => 0) (by kernel_rfl) ?_) | (refine sm_val rfl rfl (run_mul rfl rfl rfl (z := 32) (by decide)) ?_) | (refine sm_val rfl rfl (run_conv rfl rfl Try.underlying2 Try.underlying33 hz1) ?_) | (refine sm_val rfl rfl (run_conv rfl rfl Try.underlying2 Try.underlying33 hz2) ?_) | (refine sm_val rfl rfl (run_add rfl rfl rfl T3) ?_) | (apply sm_yes rfl rfl; focus (intro wx hx; go_simp; first | (apply sm_enter (by kernel_rfl); first | fail | with_reducible exact XC1.out wx | with_reducible exact XC2.out wx | with_reducible exact XC3.out wx | with_reducible exact XC4.out wx | with_reducible exact XC5.out wx | with_reducible exact XC6.out wx) | exact ⟨rfl, Gr.refl _⟩)) | (refine sm_no rfl rfl ?_)); go_simp; refine hK _ ?_; clear hK K)
      refine sm_nil ?_
      clear hS
      intro wk hS
      replace hS : St w [⟨t, bs c1, 23⟩, ⟨r, bs (fun _ => 0), 23⟩, ⟨q, bs b, 23⟩, ⟨p, bs a, 23⟩] wk := hS
      go_wp2_with (first | (refine sl_load hS rfl 23 _ rfl rfl (by repeat (first | exact Has.hd | apply Has.tl)) Try.underlying23 rfl (by exact infoV) ?_) | (refine sl_store hS rfl 23 _ _ rfl rfl rfl (by repeat (first | exact Rep.hd | apply Rep.tl)) (by exact infoV) (by rfl) (bs_one _) ?_; clear hS; intro wk hS) | (refine sl_box hS rfl _ 23 (box_vec rfl rfl) ?_; clear hS; intro bk wk hS) | (refine sl_box hS rfl _ 23 (alloc_vec rfl) ?_; clear hS; intro bk wk hS) | (refine onlyN_end ?_) | (refine onlyN_now ?_))
      have X4 := X2.out
      exact ⟨⟨k + 1, by omega, by go_num, by rw [HM.out]; exact hS⟩, by simp [intOf]; omega⟩
    · obtain rfl : k = 4 := by omega
      go_wp2_with (first | (refine sl_load hS rfl 23 _ rfl rfl (by repeat (first | exact Has.hd | apply Has.tl)) Try.underlying23 rfl (by exact infoV) ?_) | (refine sl_store hS rfl 23 _ _ rfl rfl rfl (by repeat (first | exact Rep.hd | apply Rep.tl)) (by exact infoV) (by rfl) (bs_one _) ?_; clear hS; intro wk hS) | (refine sl_box hS rfl _ 23 (box_vec rfl rfl) ?_; clear hS; intro bk wk hS) | (refine sl_box hS rfl _ 23 (alloc_vec rfl) ?_; clear hS; intro bk wk hS) | (refine onlyN_end ?_) | (refine onlyN_now ?_))
      refine sl_ret hS Try.results28 (by rfl) (by repeat (first | exact Has.hd | apply Has.tl)) Try.underlying23 rfl (by exact infoV) (by rfl) ?_
      exact ⟨rfl, hS.gr⟩
set_option maxHeartbeats 2000000 in
theorem narrow_16_false (a b : Nat → Int) (ha : Byt a) (hb : Byt b) (w : World) :
    Calls Try.prog 28 #[.int .i64 16, .bool false, .agg (bs a), .agg (bs b)] w fun e w' => e = .returned (.agg (bs (naK 16 32 4 (0) 65535 a b 4))) ∧ Gr w w' := by
  have HA := Lib.hid ha
  have HB := Lib.hid hb
  have CL : ∀ w, Calls Try.prog 37 #[.int .i64 32] w fun e w' => e = .returned (.int .i64 4) ∧ Gr w w' := fun w => calls_gr (lanes_any 32 w)
  clear ha hb
  have hS := St.start w
  have XCL := Lib.hid CL
  clear CL
  go_enter Try.func28, Try.ntmps28
  go_upto_region 0 with (fail)
  refine wp_region_lit ?_
  refine sl_box hS rfl _ 23 (box_vec rfl rfl) ?_
  clear hS
  intro p wk hS
  refine sl_box hS rfl _ 23 (box_vec rfl rfl) ?_
  clear hS
  intro q wk hS
  refine sl_box hS rfl _ 23 (alloc_vec rfl) ?_
  clear hS
  intro r wk hS
  go_upto_region 1 with (fail)
  refine sm_allA [] hS (by kernel_rfl) (by kernel_rfl) (fun β => ?_)
  repeat (refine sm_step (fun K hK => ?_); (first | (refine sm_load rfl rfl 23 _ rfl rfl (by repeat (first | exact Has.hd | apply Has.tl)) Try.underlying23 rfl (by exact infoV) ?_) | (refine sm_lay rfl rfl (by intro w; go_simp) ?_) | (refine sm_build rfl rfl 23 _ rfl (bs fun _ => 0) (by kernel_rfl) ?_) | (refine sm_val rfl rfl (run_shl rfl rfl rfl (by decide) (z := 65536) (by decide)) ?_) | (refine sm_val rfl rfl (run_sub rfl rfl rfl (z := 65535) (by decide)) ?_) | (apply sm_yes rfl rfl; focus (intro wx hx; go_simp; first | (apply sm_enter (by kernel_rfl); first | fail) | exact ⟨rfl, Gr.refl _⟩)) | (refine sm_no rfl rfl ?_)); go_simp; refine hK _ ?_; clear hK K)
  refine sm_nil ?_
  clear hS
  intro wk hS
  replace hS : St w [⟨r, bs (fun _ => 0), 23⟩, ⟨q, bs b, 23⟩, ⟨p, bs a, 23⟩] wk := hS
  go_upto_region 4 with (fail)
  try refine wp_region_lit ?_
  iterate 1 ((first | (refine sl_load hS rfl 23 _ rfl rfl (by repeat (first | exact Has.hd | apply Has.tl)) Try.underlying23 rfl (by exact infoV) ?_) | (refine sl_store hS rfl 23 _ _ rfl rfl rfl (by repeat (first | exact Rep.hd | apply Rep.tl)) (by exact infoV) (by rfl) (bs_one _) ?_; clear hS; intro wk hS) | ((with_reducible show wpList _ _ _ (⟨_, .alloc 23 , _, _, _, _⟩ :: _) _ _); refine sl_box hS rfl _ 23 (alloc_vec rfl) ?_; clear hS; intro t wk hS) | (refine sl_val rfl (run_mul rfl rfl rfl (z := 32) (by decide)) ?_) | (apply sl_val rfl; focus (intro w; go_simp; (try simp (disch := omega) only [IntWalk.i64_in, IntWalk.u64_in, IntWalk.u8_in, IntWalk.u32_in, IntWalk.i32_in]); first | exact rfl | rfl)) | (refine sl_step (fun K hK => .inl ⟨rfl, ?_⟩); unfold Oper.wp; go_simp; (first | with_reducible refine sl_call hS (XCL.out _) ?_); clear hS; intro wk hS; refine hK _ _ ?_; clear hK K) | (refine sl_skip rfl ?_)); go_simp)
  go_upto_region 5 with (fail)
  try refine wp_region_lit ?_
  iterate 4 ((first | (refine sl_load hS rfl 23 _ rfl rfl (by repeat (first | exact Has.hd | apply Has.tl)) Try.underlying23 rfl (by exact infoV) ?_) | (refine sl_store hS rfl 23 _ _ rfl rfl rfl (by repeat (first | exact Rep.hd | apply Rep.tl)) (by exact infoV) (by rfl) (bs_one _) ?_; clear hS; intro wk hS) | ((with_reducible show wpList _ _ _ (⟨_, .alloc 23 , _, _, _, _⟩ :: _) _ _); refine sl_box hS rfl _ 23 (alloc_vec rfl) ?_; clear hS; intro t wk hS) | (refine sl_val rfl (run_mul rfl rfl rfl (z := 32) (by decide)) ?_) | (apply sl_val rfl; focus (intro w; go_simp; (try simp (disch := omega) only [IntWalk.i64_in, IntWalk.u64_in, IntWalk.u8_in, IntWalk.u32_in, IntWalk.i32_in]); first | exact rfl | rfl)) | (refine sl_step (fun K hK => .inl ⟨rfl, ?_⟩); unfold Oper.wp; go_simp; (first | with_reducible refine sl_call hS (XCL.out _) ?_); clear hS; intro wk hS; refine hK _ _ ?_; clear hK K) | (refine sl_skip rfl ?_)); go_simp)
  go_upto_region 6 with (fail)
  try refine wp_region_lit ?_
  iterate 2 ((first | (refine sl_load hS rfl 23 _ rfl rfl (by repeat (first | exact Has.hd | apply Has.tl)) Try.underlying23 rfl (by exact infoV) ?_) | (refine sl_store hS rfl 23 _ _ rfl rfl rfl (by repeat (first | exact Rep.hd | apply Rep.tl)) (by exact infoV) (by rfl) (bs_one _) ?_; clear hS; intro wk hS) | ((with_reducible show wpList _ _ _ (⟨_, .alloc 23 , _, _, _, _⟩ :: _) _ _); refine sl_box hS rfl _ 23 (alloc_vec rfl) ?_; clear hS; intro t wk hS) | (refine sl_val rfl (run_mul rfl rfl rfl (z := 32) (by decide)) ?_) | (apply sl_val rfl; focus (intro w; go_simp; (try simp (disch := omega) only [IntWalk.i64_in, IntWalk.u64_in, IntWalk.u8_in, IntWalk.u32_in, IntWalk.i32_in]); first | exact rfl | rfl)) | (refine sl_step (fun K hK => .inl ⟨rfl, ?_⟩); unfold Oper.wp; go_simp; (first | with_reducible refine sl_call hS (XCL.out _) ?_); clear hS; intro wk hS; refine hK _ _ ?_; clear hK K) | (refine sl_skip rfl ?_)); go_simp)
  go_wp2_with fail
  go_loopw [29] (fun u wr => ∃ k : Nat, k ≤ 4 ∧ u = .int .i64 k ∧ St w [⟨t, bs (naK 16 32 4 (0) 65535 a b k), 23⟩, ⟨r, bs (fun _ => 0), 23⟩, ⟨q, bs b, 23⟩, ⟨p, bs a, 23⟩] wr) (fun u _ => 4 - (intOf u).toNat)
  case atStart => exact ⟨0, by omega, rfl, hS⟩
  case round =>
    obtain ⟨k, hk, rfl, hS⟩ := hrel
    by_cases hlt : k < 4
    · have C1 := fun w => signed_any a HA.out 32 k w
      have C2 := fun w => signed_any b HB.out 32 k w
      have HM := Lib.hid (show (naK 16 32 4 (0) 65535 a b (k + 1)) = setI (setI (naK 16 32 4 (0) 65535 a b k) 16 k (IntKind.u64.wrap (holdI (sgnI a 32 k) (0) 65535))) 16 (4 + k) (IntKind.u64.wrap (holdI (sgnI b 32 k) (0) 65535)) from rfl)
      have C3 := fun w => calls_gr (hold_any (sgnI a 32 k) (0) 65535 (by decide) w)
      have C4 := fun w => calls_gr (hold_any (sgnI b 32 k) (0) 65535 (by decide) w)
      have C5 := fun w => set_any (naK 16 32 4 (0) 65535 a b k) 16 k (IntKind.u64.wrap (holdI (sgnI a 32 k) (0) 65535)) w
      have C6 := fun w => set_any (setI (naK 16 32 4 (0) 65535 a b k) 16 k (IntKind.u64.wrap (holdI (sgnI a 32 k) (0) 65535))) 16 (4 + k) (IntKind.u64.wrap (holdI (sgnI b 32 k) (0) 65535)) w
      have T1 : IntKind.i64.wrap ((k : Int) + 1) = (k : Int) + 1 := IntWalk.i64_in _ (by omega)
      have T2 : decide ((k : Int) < 4) = true := by simp; omega
      have X2 := Lib.hid hlt
      have T3 : IntKind.i64.wrap ((4 : Int) + (k : Int)) = (4 : Int) + (k : Int) := IntWalk.i64_in _ (by omega)
      generalize holdI (sgnI a 32 k) (0) 65535 = z1 at *
      generalize holdI (sgnI b 32 k) (0) 65535 = z2 at *
      generalize sgnI a 32 k = x at *
      generalize sgnI b 32 k = y at *
      obtain ⟨y1, hz1⟩ : ∃ z, IntKind.u64.wrap z1 = z := ⟨_, rfl⟩
      obtain ⟨y2, hz2⟩ : ∃ z, IntKind.u64.wrap z2 = z := ⟨_, rfl⟩
      rw [hz1] at C5 C6 HM
      rw [hz2] at C6 HM
      generalize hc0 : (naK 16 32 4 (0) 65535 a b k) = c0 at *
      generalize setI c0 16 k y1 = c1 at *
      clear hc0 hlt hk
      have XC1 := Lib.hid C1
      clear C1
      have XC2 := Lib.hid C2
      clear C2
      have XC3 := Lib.hid C3
      clear C3
      have XC4 := Lib.hid C4
      clear C4
      have XC5 := Lib.hid C5
      clear C5
      have XC6 := Lib.hid C6
      clear C6
      go_upto_region 8 with (fail)
      try refine wp_region_lit ?_
      iterate 2 ((first | (refine sl_load hS rfl 23 _ rfl rfl (by repeat (first | exact Has.hd | apply Has.tl)) Try.underlying23 rfl (by exact infoV) ?_) | (refine sl_store hS rfl 23 _ _ rfl rfl rfl (by repeat (first | exact Rep.hd | apply Rep.tl)) (by exact infoV) (by rfl) (bs_one _) ?_; clear hS; intro wk hS) | (apply sl_val rfl; focus (intro w; go_simp; (try simp (disch := omega) only [IntWalk.i64_in, IntWalk.u64_in, IntWalk.u8_in, IntWalk.u32_in, IntWalk.i32_in]); first | exact rfl | rfl)) | (refine sl_skip rfl ?_)); go_simp)
      go_upto_region 9 with (fail)
      refine sm_tail 13 [] hS (by kernel_rfl) (by kernel_rfl) (fun β => ?_)
      simp only [List.take_succ_cons, List.take_zero, List.drop_succ_cons, List.drop_zero]
      iterate 13 (refine sm_step (fun K hK => ?_); (first | (refine sm_load rfl rfl 23 _ rfl rfl (by repeat (first | exact Has.hd | apply Has.tl)) Try.underlying23 rfl (by exact infoV) ?_) | (refine sm_lay rfl rfl (by intro w; go_simp) ?_) | (refine sm_build rfl rfl 23 _ rfl (bs fun _ => 0) (by kernel_rfl) ?_) | (refine sm_val rfl rfl (run_mul rfl rfl rfl (z := 32) (by decide)) ?_) | (refine sm_val rfl rfl (run_conv rfl rfl Try.underlying2 Try.underlying33 hz1) ?_) | (refine sm_val rfl rfl (run_conv rfl rfl Try.underlying2 Try.underlying33 hz2) ?_) | (refine sm_val rfl rfl (run_add rfl rfl rfl T3) ?_) | (apply sm_yes rfl rfl; focus (intro wx hx; go_simp; first | (apply sm_enter (by kernel_rfl); first | fail | with_reducible exact XC1.out wx | with_reducible exact XC2.out wx | with_reducible exact XC3.out wx | with_reducible exact XC4.out wx | with_reducible exact XC5.out wx | with_reducible exact XC6.out wx) | exact ⟨rfl, Gr.refl _⟩)) | (refine sm_no rfl rfl ?_)); go_simp; refine hK _ ?_; clear hK K)
      refine sm_nil ?_
      clear hS
      intro wk hS
      replace hS : St w [⟨t, bs c0, 23⟩, ⟨r, bs (fun _ => 0), 23⟩, ⟨q, bs b, 23⟩, ⟨p, bs a, 23⟩] wk := hS
      go_upto_region 10 with (first | (refine sl_load hS rfl 23 _ rfl rfl (by repeat (first | exact Has.hd | apply Has.tl)) Try.underlying23 rfl (by exact infoV) ?_) | (refine sl_store hS rfl 23 _ _ rfl rfl rfl (by repeat (first | exact Rep.hd | apply Rep.tl)) (by exact infoV) (by rfl) (bs_one _) ?_; clear hS; intro wk hS) | (refine sl_box hS rfl _ 23 (box_vec rfl rfl) ?_; clear hS; intro bk wk hS) | (refine sl_box hS rfl _ 23 (alloc_vec rfl) ?_; clear hS; intro bk wk hS) | (refine onlyN_end ?_) | (refine onlyN_now ?_))
      refine sm_tail 15 [] hS (by kernel_rfl) (by kernel_rfl) (fun β => ?_)
      simp only [List.take_succ_cons, List.take_zero, List.drop_succ_cons, List.drop_zero]
      iterate 15 (refine sm_step (fun K hK => ?_); (first | (refine sm_load rfl rfl 23 _ rfl rfl (by repeat (first | exact Has.hd | apply Has.tl)) Try.underlying23 rfl (by exact infoV) ?_) | (refine sm_lay rfl rfl (by intro w; go_simp) ?_) | (refine sm_build rfl rfl 23 _ rfl (bs fun _ => 0) (by kernel_rfl) ?_) | (refine sm_val rfl rfl (run_mul rfl rfl rfl (z := 32) (by decide)) ?_) | (refine sm_val rfl rfl (run_conv rfl rfl Try.underlying2 Try.underlying33 hz1) ?_) | (refine sm_val rfl rfl (run_conv rfl rfl Try.underlying2 Try.underlying33 hz2) ?_) | (refine sm_val rfl rfl (run_add rfl rfl rfl T3) ?_) | (apply sm_yes rfl rfl; focus (intro wx hx; go_simp; first | (apply sm_enter (by kernel_rfl); first | fail | with_reducible exact XC1.out wx | with_reducible exact XC2.out wx | with_reducible exact XC3.out wx | with_reducible exact XC4.out wx | with_reducible exact XC5.out wx | with_reducible exact XC6.out wx) | exact ⟨rfl, Gr.refl _⟩)) | (refine sm_no rfl rfl ?_)); go_simp; refine hK _ ?_; clear hK K)
      refine sm_nil ?_
      clear hS
      intro wk hS
      replace hS : St w [⟨t, bs c1, 23⟩, ⟨r, bs (fun _ => 0), 23⟩, ⟨q, bs b, 23⟩, ⟨p, bs a, 23⟩] wk := hS
      go_wp2_with (first | (refine sl_load hS rfl 23 _ rfl rfl (by repeat (first | exact Has.hd | apply Has.tl)) Try.underlying23 rfl (by exact infoV) ?_) | (refine sl_store hS rfl 23 _ _ rfl rfl rfl (by repeat (first | exact Rep.hd | apply Rep.tl)) (by exact infoV) (by rfl) (bs_one _) ?_; clear hS; intro wk hS) | (refine sl_box hS rfl _ 23 (box_vec rfl rfl) ?_; clear hS; intro bk wk hS) | (refine sl_box hS rfl _ 23 (alloc_vec rfl) ?_; clear hS; intro bk wk hS) | (refine onlyN_end ?_) | (refine onlyN_now ?_))
      have X4 := X2.out
      exact ⟨⟨k + 1, by omega, by go_num, by rw [HM.out]; exact hS⟩, by simp [intOf]; omega⟩
    · obtain rfl : k = 4 := by omega
      go_wp2_with (first | (refine sl_load hS rfl 23 _ rfl rfl (by repeat (first | exact Has.hd | apply Has.tl)) Try.underlying23 rfl (by exact infoV) ?_) | (refine sl_store hS rfl 23 _ _ rfl rfl rfl (by repeat (first | exact Rep.hd | apply Rep.tl)) (by exact infoV) (by rfl) (bs_one _) ?_; clear hS; intro wk hS) | (refine sl_box hS rfl _ 23 (box_vec rfl rfl) ?_; clear hS; intro bk wk hS) | (refine sl_box hS rfl _ 23 (alloc_vec rfl) ?_; clear hS; intro bk wk hS) | (refine onlyN_end ?_) | (refine onlyN_now ?_))
      refine sl_ret hS Try.results28 (by rfl) (by repeat (first | exact Has.hd | apply Has.tl)) Try.underlying23 rfl (by exact infoV) (by rfl) ?_
      exact ⟨rfl, hS.gr⟩
end Wd
end Go.Proofs.Ytkccaaieadgdbaa
