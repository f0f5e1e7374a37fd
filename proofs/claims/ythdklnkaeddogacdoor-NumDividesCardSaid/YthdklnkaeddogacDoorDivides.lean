/-
  NumDivides: for every x, y the law returns true. No condition.
-/
import Derived.Test.YthdklnkaeddogacDoorDvM
import Derived.Deep.Cut
import Derived.Deep.CutRange
namespace Go.Proofs.YthdklnkaeddogacDoor
open Go.RowKit NumM
namespace Dv
theorem bin_acc {w0 w : World} (op x y : Int) (hx : U64 x) (hy : U64 y) (hg : Grown w0 w) :
    Calls Tryd.prog 15 #[.int .i64 op, .int .u64 x, .int .u64 y] w fun e w' => e = .returned (.int .u64 (bI op x y)) ∧ Grown w0 w' :=
  (bin_any op x y hx hy w).mono fun _ _ h => ⟨h.1, grown_trans hg h.2⟩
theorem Bin_acc {w0 w : World} (op x y : Int) (hx : U64 x) (hy : U64 y) (hg : Grown w0 w) :
    Calls Tryd.prog 14 #[.int .i64 op, .int .u64 x, .int .u64 y] w fun e w' => e = .returned (.tuple #[.int .u64 (bI op x y), .int .i64 (eI op x y)]) ∧ Grown w0 w' :=
  (Bin_any op x y hx hy w).mono fun _ _ h => ⟨h.1, grown_trans hg h.2⟩
theorem awake_acc {w0 w : World} (hg : Grown w0 w) : Calls Tryd.prog 10 #[] w fun e w' => e = .returned (.bool true) ∧ Grown w0 w' :=
  (awake w).mono fun _ _ h => ⟨h.1, grown_trans hg h.2⟩
theorem U64_eq {a b : Int} (h : a = b) (hb : U64 b) : U64 a := h ▸ hb
/-- What is so at one width: the numbers, the opcodes and what the operators answer. R: the remainder as a signed number. -/
def Case (base mul add u v s d least R x y : Int) : Prop :=
  (v = 0 ∧ (eI base x y = 21 ∧ bI base x y = 0) ∧ (eI (base + 1) x y = 21 ∧ bI (base + 1) x y = 0) ∧ (eI (base + 2) x y = 21 ∧ bI (base + 2) x y = 0) ∧ (eI (base + 3) x y = 21 ∧ bI (base + 3) x y = 0)) ∨
  (v ≠ 0 ∧ (s = least ∧ d = -1) ∧ (eI base x y = 22 ∧ bI base x y = 0) ∧ eI (base + 1) x y = 0 ∧ (eI (base + 2) x y = 0 ∧ bI (base + 2) x y = 0) ∧ eI (base + 3) x y = 0 ∧
    bI (base + 3) x y < v ∧ bI (base + 1) x y ≤ u ∧ bI add (bI mul (bI (base + 1) x y) v) (bI (base + 3) x y) = u) ∨
  (v ≠ 0 ∧ ¬ (s = least ∧ d = -1) ∧ eI base x y = 0 ∧ eI (base + 1) x y = 0 ∧ eI (base + 2) x y = 0 ∧ eI (base + 3) x y = 0 ∧
    Facts u v s d (bI base x y) (bI (base + 2) x y) (bI (base + 1) x y) (bI (base + 3) x y) R least add mul)
theorem case32 (x y : Int) (hx : U64 x) (hy : U64 y) : Case 109 108 106 (bits .and .u64 x 4294967295) (bits .and .u64 y 4294967295) (wrap64 (wrap32 x)) (wrap64 (wrap32 y)) (-2147483648) (wrap64 (wrap32 (bI 111 x y))) x y := by
  by_cases hz : bits .and .u64 y 4294967295 = 0
  · exact Or.inl ⟨hz, zero32 x y hz⟩
  · by_cases ho : wrap64 (wrap32 x) = -2147483648 ∧ wrap64 (wrap32 y) = -1
    · exact Or.inr (Or.inl ⟨hz, ho, over32 x y hx hy hz ho.1 ho.2⟩)
    · exact Or.inr (Or.inr ⟨hz, ho, facts32 x y hx hy hz ho⟩)
theorem case64 (x y : Int) (hx : U64 x) (hy : U64 y) : Case 127 126 124 x y (wrap64 x) (wrap64 y) (-9223372036854775808) (wrap64 (bI 129 x y)) x y := by
  by_cases hz : y = 0
  · exact Or.inl ⟨hz, zero64 x y hy hz⟩
  · by_cases ho : wrap64 x = -9223372036854775808 ∧ wrap64 y = -1
    · exact Or.inr (Or.inl ⟨hz, ho, over64 x y hx hy hz ho.1 ho.2⟩)
    · exact Or.inr (Or.inr ⟨hz, ho, facts64 x y hx hy hz ho⟩)
/-- Which width it is, and how the remainder's number is made. -/
def Wide (k base r R least : Int) : Prop := (k = 0 ∧ base = 109 ∧ wrap64 (wrap32 r) = R ∧ least = -2147483648) ∨ (k = 1 ∧ base = 127 ∧ wrap64 r = R ∧ least = -9223372036854775808)
set_option maxRecDepth 100000 in
set_option maxHeartbeats 8000000 in
theorem divides_walk (x y : Int) (hx : U64 x) (hy : U64 y) (w : World) :
    Calls Tryd.prog 4 #[.int .u64 x, .int .u64 y] w fun e w' => e = .returned (.bool true) ∧ Grown w w' := by
  have h0 : 0 ≤ x := hx.1
  have h1 : 0 ≤ y := hy.1
  have k32 := case32 x y hx hy
  have k64 := case64 x y hx hy
  have uu : U64 (bits .and .u64 y 4294967295) := U64_wrap _
  have K32 := Lib.hid k32
  have K64 := Lib.hid k64
  clear k32 k64
  go_enter Tryd.func4, Tryd.ntmps4
  go_wp2_with fail
  refine (awake_acc (Grown.refl w)).mono ?_
  rintro e w1 ⟨rfl, hg1⟩
  go_wp2_with fail
  go_loopw [5] (fun i wr => ∃ k : Int, 0 ≤ k ∧ k ≤ 2 ∧ i = .int .i64 k ∧ Grown w wr) (fun i _ => 2 - (intOf i).toNat)
  case atStart => exact ⟨0, by omega, by omega, rfl, hg1⟩
  case round =>
    obtain ⟨k, hk0, hk, rfl, hgk⟩ := hrel
    clear hg1
    by_cases hend : k = 2
    · subst hend
      go_wp2
      go_ret
      exact ⟨rfl, by assumption⟩
    · have hlt : k < 2 := by omega
      clear hend hk
      go_upto_if 40 with (fail)
      go_cut [6, 7, 8, 9, 10, 11, 12, 13] from 25 to 225 (fun s6 s7 s8 s9 s10 s11 s12 s13 wx => ∃ base mul add u v s d least R : Int, s6 = .int .i64 base ∧ s7 = .int .i64 mul ∧ s8 = .int .i64 add ∧ s9 = .int .u64 u ∧ s10 = .int .u64 v ∧ s11 = .int .i64 s ∧ s12 = .int .i64 d ∧ s13 = .int .i64 least ∧ U64 v ∧ Hid (Case base mul add u v s d least R x y) ∧ Hid (Wide k base (bI (base + 2) x y) R least) ∧ Grown w wx)
      case first =>
        as_aux_lemma =>
          obtain rfl | rfl : k = 0 ∨ k = 1 := by omega
          · go_wp2
            go_meet
            exact ⟨109, 108, 106, _, _, _, _, -2147483648, _, rfl, rfl, rfl, rfl, rfl, rfl, rfl, rfl, uu, K32, Lib.hid (Or.inl ⟨rfl, rfl, rfl, rfl⟩), by assumption⟩
          · go_wp2
            go_meet
            exact ⟨127, 126, 124, _, _, _, _, -9223372036854775808, _, rfl, rfl, rfl, rfl, rfl, rfl, rfl, rfl, hy, K64, Lib.hid (Or.inr ⟨rfl, rfl, rfl, rfl⟩), by assumption⟩
      case rest =>
        obtain ⟨base, mul, add, u, v, s, d, least, R, rfl, rfl, rfl, rfl, rfl, rfl, rfl, rfl, uv, KC, KW, hgc⟩ := hcut
        clear K32 K64 uu hgk
        have hb : 0 ≤ base ∧ base ≤ 127 := by rcases KW.out with ⟨_, h, _⟩ | ⟨_, h, _⟩ <;> omega
        rcases KC.out with ⟨hz, ⟨e1, b1⟩, ⟨e2, b2⟩, ⟨e3, b3⟩, ⟨e4, b4⟩⟩ | ⟨hz, ho, ⟨e1, b1⟩, e2, ⟨e3, b3⟩, e4, l1, l2, q1⟩ | ⟨hz, ho, e1, e2, e3, e4, l1, l2, q1, q2, hsg, hdp, hdn, hd0, hdl, hdg⟩
        · have z1 : (v == 0) = true := beq_iff_eq.2 hz
          clear hz KC KW
          as_aux_lemma =>
            go_wp2_with (first | (go_at_call 15; refine (bin_acc _ _ _ (by first | assumption | exact U64_bI _ _ _ | exact U64_wrap _ | exact ⟨by decide, by decide⟩) (by first | assumption | exact U64_bI _ _ _ | exact U64_wrap _ | exact ⟨by decide, by decide⟩) (by assumption)).mono ?_; rintro e w' ⟨rfl, hg⟩) | (go_at_call 14; refine (Bin_acc _ _ _ (by first | assumption | exact U64_bI _ _ _ | exact U64_wrap _ | exact ⟨by decide, by decide⟩) (by first | assumption | exact U64_bI _ _ _ | exact U64_wrap _ | exact ⟨by decide, by decide⟩) (by assumption)).mono ?_; rintro e w' ⟨rfl, hg⟩))
            exact ⟨⟨k + 1, by omega, by omega, rfl, by assumption⟩, by simp [intOf]; omega⟩
        · have z1 : (v == 0) = false := beq_eq_false_iff_ne.2 hz
          have t1 := ne_false q1
          have s1 : (s == least) = true := beq_iff_eq.2 ho.1
          have s2 : (d == -1) = true := beq_iff_eq.2 ho.2
          clear hz ho q1 KC KW
          as_aux_lemma =>
            go_wp2_with (first | (go_at_call 15; refine (bin_acc _ _ _ (by first | assumption | exact U64_bI _ _ _ | exact U64_wrap _ | exact ⟨by decide, by decide⟩) (by first | assumption | exact U64_bI _ _ _ | exact U64_wrap _ | exact ⟨by decide, by decide⟩) (by assumption)).mono ?_; rintro e w' ⟨rfl, hg⟩) | (go_at_call 14; refine (Bin_acc _ _ _ (by first | assumption | exact U64_bI _ _ _ | exact U64_wrap _ | exact ⟨by decide, by decide⟩) (by first | assumption | exact U64_bI _ _ _ | exact U64_wrap _ | exact ⟨by decide, by decide⟩) (by assumption)).mono ?_; rintro e w' ⟨rfl, hg⟩))
            exact ⟨⟨k + 1, by omega, by omega, rfl, by assumption⟩, by simp [intOf]; omega⟩
        · have z1 : (v == 0) = false := beq_eq_false_iff_ne.2 hz
          have t1 := ne_false q1
          have t2 := ne_false q2
          have so : (s == least) = false ∨ ((s == least) = true ∧ (d == -1) = false) := by
            by_cases h1 : s = least
            · exact Or.inr ⟨beq_iff_eq.2 h1, beq_eq_false_iff_ne.2 fun h2 => ho ⟨h1, h2⟩⟩
            · exact Or.inl (beq_eq_false_iff_ne.2 h1)
          have rc : ((R != 0) = false ∧ R ≤ 0 ∧ 0 ≤ R) ∨ ((R != 0) = true ∧ R < 0 ∧ s < 0) ∨ ((R != 0) = true ∧ 0 < R ∧ 0 ≤ s ∧ decide (R < 0) = false ∧ decide (s < 0) = false) := by
            by_cases h : R = 0
            · exact Or.inl ⟨by rw [h]; rfl, by omega, by omega⟩
            · have := hsg h
              have hb : (R != 0) = true := by rw [bne_iff_ne]; exact h
              by_cases h2 : R < 0
              · exact Or.inr (Or.inl ⟨hb, h2, this.1 h2⟩)
              · exact Or.inr (Or.inr ⟨hb, by omega, by omega, by rw [decide_eq_false_iff_not]; omega, by rw [decide_eq_false_iff_not]; omega⟩)
          have dc : (0 < d ∧ -d < R ∧ R < d ∧ d ≤ 9223372036854775807) ∨ (d < 0 ∧ (d != least) = true ∧ d < R ∧ R < -d ∧ -9223372036854775807 ≤ d) ∨ (d < 0 ∧ (d != least) = false) := by
            have hle : -9223372036854775808 ≤ least := by rcases KW.out with ⟨_, _, _, h⟩ | ⟨_, _, _, h⟩ <;> omega
            by_cases h1 : 0 < d
            · exact Or.inl ⟨h1, (hdp h1).1, (hdp h1).2, by omega⟩
            · have h2 : d < 0 := by omega
              by_cases h3 : d = least
              · exact Or.inr (Or.inr ⟨h2, by rw [h3]; simp⟩)
              · exact Or.inr (Or.inl ⟨h2, by rw [bne_iff_ne]; exact h3, (hdn h2).1, (hdn h2).2, by omega⟩)
          have RC := Lib.hid rc
          have DC := Lib.hid dc
          have SO := Lib.hid so
          clear hz ho q1 q2 hsg hdp hdn hd0 hdl hdg rc dc so KC
          go_upto_region 32 with (first | (go_at_call 15; refine (bin_acc _ _ _ (by first | assumption | exact U64_bI _ _ _ | exact U64_wrap _ | exact ⟨by decide, by decide⟩) (by first | assumption | exact U64_bI _ _ _ | exact U64_wrap _ | exact ⟨by decide, by decide⟩) (by assumption)).mono ?_; rintro e w' ⟨rfl, hg⟩) | (go_at_call 14; refine (Bin_acc _ _ _ (by first | assumption | exact U64_bI _ _ _ | exact U64_wrap _ | exact ⟨by decide, by decide⟩) (by first | assumption | exact U64_bI _ _ _ | exact U64_wrap _ | exact ⟨by decide, by decide⟩) (by assumption)).mono ?_; rintro e w' ⟨rfl, hg⟩))
          go_cut [143] from 25 to 225 (fun s wx => s = .bool false ∧ Grown w wx)
          case first =>
            as_aux_lemma =>
              rcases SO.out with s1 | ⟨s1, s2⟩
              all_goals
                go_wp2
                go_meet
                exact ⟨rfl, by assumption⟩
          case rest =>
            obtain ⟨rfl, hgd⟩ := hcut
            clear l1 l2 t1 SO
            go_upto_if 161 with (first | (go_at_call 15; refine (bin_acc _ _ _ (by first | assumption | exact U64_bI _ _ _ | exact U64_wrap _ | exact ⟨by decide, by decide⟩) (by first | assumption | exact U64_bI _ _ _ | exact U64_wrap _ | exact ⟨by decide, by decide⟩) (by assumption)).mono ?_; rintro e w' ⟨rfl, hg⟩) | (go_at_call 14; refine (Bin_acc _ _ _ (by first | assumption | exact U64_bI _ _ _ | exact U64_wrap _ | exact ⟨by decide, by decide⟩) (by first | assumption | exact U64_bI _ _ _ | exact U64_wrap _ | exact ⟨by decide, by decide⟩) (by assumption)).mono ?_; rintro e w' ⟨rfl, hg⟩))
            go_cut [22] from 25 to 225 (fun s wx => s = .int .i64 R ∧ Grown w wx)
            case first =>
              as_aux_lemma =>
                rcases KW.out with ⟨rfl, hb1, hR, hb2⟩ | ⟨rfl, hb1, hR, hb2⟩
                · have HR := Lib.hid hR
                  clear hR hb1 hb2
                  go_wp2
                  go_meet
                  exact ⟨congrArg (Value.int .i64) HR.out, by assumption⟩
                · have HR := Lib.hid hR
                  clear hR hb1 hb2
                  go_wp2
                  go_meet
                  exact ⟨congrArg (Value.int .i64) HR.out, by assumption⟩
            case rest =>
              obtain ⟨rfl, hge⟩ := hcut
              go_upto_region 38 with (first | (go_at_call 15; refine (bin_acc _ _ _ (by first | assumption | exact U64_bI _ _ _ | exact U64_wrap _ | exact ⟨by decide, by decide⟩) (by first | assumption | exact U64_bI _ _ _ | exact U64_wrap _ | exact ⟨by decide, by decide⟩) (by assumption)).mono ?_; rintro e w' ⟨rfl, hg⟩) | (go_at_call 14; refine (Bin_acc _ _ _ (by first | assumption | exact U64_bI _ _ _ | exact U64_wrap _ | exact ⟨by decide, by decide⟩) (by first | assumption | exact U64_bI _ _ _ | exact U64_wrap _ | exact ⟨by decide, by decide⟩) (by assumption)).mono ?_; rintro e w' ⟨rfl, hg⟩))
              go_cut [192] from 25 to 225 (fun s wx => s = .bool false ∧ Grown w wx)
              case first =>
                as_aux_lemma =>
                  rcases RC.out with ⟨r1, r2, r3⟩ | ⟨r1, r2, r3⟩ | ⟨r1, r2, r3, r4, r5⟩
                  all_goals
                    go_wp2_with (first | (go_at_call 15; refine (bin_acc _ _ _ (by first | assumption | exact U64_bI _ _ _ | exact U64_wrap _ | exact ⟨by decide, by decide⟩) (by first | assumption | exact U64_bI _ _ _ | exact U64_wrap _ | exact ⟨by decide, by decide⟩) (by assumption)).mono ?_; rintro e w' ⟨rfl, hg⟩) | (go_at_call 14; refine (Bin_acc _ _ _ (by first | assumption | exact U64_bI _ _ _ | exact U64_wrap _ | exact ⟨by decide, by decide⟩) (by first | assumption | exact U64_bI _ _ _ | exact U64_wrap _ | exact ⟨by decide, by decide⟩) (by assumption)).mono ?_; rintro e w' ⟨rfl, hg⟩))
                    go_meet
                    exact ⟨rfl, by assumption⟩
              case rest =>
                obtain ⟨rfl, hgf⟩ := hcut
                clear t2 RC
                go_upto_region 40 with (first | (go_at_call 15; refine (bin_acc _ _ _ (by first | assumption | exact U64_bI _ _ _ | exact U64_wrap _ | exact ⟨by decide, by decide⟩) (by first | assumption | exact U64_bI _ _ _ | exact U64_wrap _ | exact ⟨by decide, by decide⟩) (by assumption)).mono ?_; rintro e w' ⟨rfl, hg⟩) | (go_at_call 14; refine (Bin_acc _ _ _ (by first | assumption | exact U64_bI _ _ _ | exact U64_wrap _ | exact ⟨by decide, by decide⟩) (by first | assumption | exact U64_bI _ _ _ | exact U64_wrap _ | exact ⟨by decide, by decide⟩) (by assumption)).mono ?_; rintro e w' ⟨rfl, hg⟩))
                go_cut [225] from 25 to 225 (fun s wx => s = .bool false ∧ Grown w wx)
                case first =>
                  as_aux_lemma =>
                    rcases DC.out with ⟨d1, d2, d3, d4⟩ | ⟨d1, d2, d3, d4, d5⟩ | ⟨d1, d2⟩
                    all_goals
                      go_wp2_with (first | (go_at_call 15; refine (bin_acc _ _ _ (by first | assumption | exact U64_bI _ _ _ | exact U64_wrap _ | exact ⟨by decide, by decide⟩) (by first | assumption | exact U64_bI _ _ _ | exact U64_wrap _ | exact ⟨by decide, by decide⟩) (by assumption)).mono ?_; rintro e w' ⟨rfl, hg⟩) | (go_at_call 14; refine (Bin_acc _ _ _ (by first | assumption | exact U64_bI _ _ _ | exact U64_wrap _ | exact ⟨by decide, by decide⟩) (by first | assumption | exact U64_bI _ _ _ | exact U64_wrap _ | exact ⟨by decide, by decide⟩) (by assumption)).mono ?_; rintro e w' ⟨rfl, hg⟩))
                      go_meet
                      first | exact ⟨rfl, by assumption⟩ | exact ⟨congrArg Value.bool (by rw [Bool.or_eq_false_iff, decide_eq_false_iff_not, decide_eq_false_iff_not]; omega), by assumption⟩
                case rest =>
                  obtain ⟨rfl, hgg⟩ := hcut
                  clear DC
                  go_wp2
                  go_roundw
                  case rel => exact ⟨k + 1, by omega, by omega, rfl, by assumption⟩
                  case measure => simp [intOf]; omega
end Dv
end Go.Proofs.YthdklnkaeddogacDoor
