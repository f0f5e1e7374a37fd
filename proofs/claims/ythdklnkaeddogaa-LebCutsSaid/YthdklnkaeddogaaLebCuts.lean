/-
  LebCuts: every shorter beginning of a form is too short; from its second byte on it is read as another number.
-/
import Derived.Test.YthdklnkaeddogaaLebCutM
namespace Go.Proofs.Ythdklnkaeddogaa
open Go.RowKit LebM
set_option maxRecDepth 100000 in
set_option maxHeartbeats 4000000 in
theorem cuts_walk (n : Int) (hn : 0 ≤ n ∧ n < 18446744073709551616) (cut : Int) (w : World) :
    Calls Try.prog 7 #[.int .u64 n, .int .i64 cut] w fun e w' => e = .returned (.bool true) ∧ Gr w w' := by
  have hN : -9223372036854775808 ≤ wrap64 n ∧ wrap64 n ≤ 9223372036854775807 := by unfold wrap64; omega
  have HPu := Lib.hid (put1 n hn)
  have HPs := Lib.hid (puts1 (wrap64 n) hN)
  have hF0 : 0 < (formU n).length := lebU_pos 9 n
  have hF1 : (formU n).length ≤ 10 := lebU_len 9 n
  have hG0 : 0 < (formS (wrap64 n)).length := lebS_pos 9 _
  have hG1 : (formS (wrap64 n)).length ≤ 10 := lebS_len 9 _
  obtain ⟨cu, hcu, hcu0, hcu1⟩ : ∃ cu, IntKind.u64.wrap cut = cu ∧ 0 ≤ cu ∧ cu < 18446744073709551616 := ⟨_, rfl, by rw [IntKind.wrap_u64]; omega, by rw [IntKind.wrap_u64]; omega⟩
  have rem : ∀ L : Nat, 0 < L → ∃ k : Nat, cu.tmod (L : Int) = k ∧ k < L := fun L hL => by
    have h1 : cu.tmod (L : Int) = cu % L := Int.tmod_eq_emod_of_nonneg hcu0
    have h2 := Int.emod_nonneg cu (show (L : Int) ≠ 0 by omega)
    have h3 := Int.emod_lt_of_pos cu (show (0 : Int) < L by omega)
    obtain ⟨k, hk⟩ := Int.eq_ofNat_of_zero_le h2
    exact ⟨k, h1.trans hk, by omega⟩
  obtain ⟨k, hkm, hk⟩ := rem _ hF0
  obtain ⟨j, hjm, hj⟩ := rem _ hG0
  obtain ⟨wd, hrest⟩ := read_rest hn hk
  have hb1 := read_begin false (lst (formU n)) k (by omega) (fun i hi => lebU_high 9 n i (show i + 1 < (formU n).length by omega))
  have hb2 := read_begin true (lst (formS (wrap64 n))) j (by omega) (fun i hi => lebS_high 9 _ i (show i + 1 < (formS (wrap64 n)).length by omega))
  have hbyF : By (lst (formU n)) := lst_by (fun x hx => lebU_byte 9 n hn.1 x hx)
  have hbyG : By (lst (formS (wrap64 n))) := lst_by (fun x hx => lebS_byte 9 _ x hx)
  have hpow : n / 128 ^ k = n / 2 ^ (7 * k) := by rw [pow7]
  rw [hpow] at hrest
  have HU1 := Lib.hid (show ∀ sv w, U8s w sv k (lst (formU n)) → Calls Try.prog 11 #[sv, .int .i64 0, .int .i64 64] w fun e w' => e = .returned (.tuple #[.int .u64 0, .int .i64 0, .int .i64 5]) ∧ w = w' from fun sv w h => by
    have := u_any sv k _ hbyF 0 64 w h
    rw [hb1] at this; exact this)
  have HU2 := Lib.hid (show ∀ sv w, U8s w sv j (lst (formS (wrap64 n))) → Calls Try.prog 13 #[sv, .int .i64 0, .int .i64 64] w fun e w' => e = .returned (.tuple #[.int .i64 (sval 0 0), .int .i64 0, .int .i64 5]) ∧ w = w' from fun sv w h => by
    have := s_any sv j _ hbyG 0 64 w h
    rw [hb2] at this; exact this)
  have HU3 := Lib.hid (show ∀ sv w, U8s w sv (formU n).length (lst (formU n)) → Calls Try.prog 11 #[sv, .int .i64 k, .int .i64 64] w fun e w' => e = .returned (.tuple #[.int .u64 (n / 2 ^ (7 * k)), .int .i64 (formU n).length, .int .i64 0]) ∧ w = w' from fun sv w h => by
    have := u_any sv _ _ hbyF k 64 w h
    rw [hrest] at this; exact this)
  generalize formU n = F at *
  generalize formS (wrap64 n) = G at *
  generalize hLf : F.length = Lf at *
  generalize hLg : G.length = Lg at *
  have HLf := Lib.hid hLf
  have HLg := Lib.hid hLg
  generalize hqq : 7 * k = q at *
  have HQ := Lib.hid hqq
  have hq7 : 7 * (k : Int) = (q : Int) := by omega
  have hq63 : q ≤ 63 := by omega
  have hwLf : IntKind.u64.wrap (Lf : Int) = Lf := by rw [IntKind.wrap_u64]; omega
  have hwLg : IntKind.u64.wrap (Lg : Int) = Lg := by rw [IntKind.wrap_u64]; omega
  have hwk : IntKind.u64.wrap (k : Int) = k := by rw [IntKind.wrap_u64]; omega
  have hwj : IntKind.u64.wrap (j : Int) = j := by rw [IntKind.wrap_u64]; omega
  have hwq : IntKind.u64.wrap (q : Int) = q := by rw [IntKind.wrap_u64]; omega
  have hzf : ((Lf : Int) == 0) = false := beq_eq_false_iff_ne.2 (by omega)
  have hzg : ((Lg : Int) == 0) = false := beq_eq_false_iff_ne.2 (by omega)
  have hnf : (Lf : Int) ≠ 0 := by omega
  have hng : (Lg : Int) ≠ 0 := by omega
  clear hb1 hb2 hbyF hbyG hrest rem hpow hLf hLg hN hqq
  go_enter Try.func7, Try.ntmps7
  go_upto_region 3 with (go_at_call 10; refine (awake_any _).mono ?_; rintro e w1 ⟨rfl, hg1⟩; have HG1 := Lib.hid hg1; clear hg1)
  go_upto_region 4 with (go_at_call 15; refine (HPu.out _).mono ?_; rintro e w3 ⟨s3, rfl, hg3, ho3⟩; have HG3 := Lib.hid (gr_trans HG1.out hg3); have HO3 := Lib.hid ho3; clear hg3 ho3)
  obtain ⟨g3, c3, rfl, hc3, -, -⟩ := own_some HO3.out (by omega)
  go_upto_region 5 with (go_at_call 17; refine (HPs.out _).mono ?_; rintro e w4 ⟨s4, rfl, hg4, ho4⟩; have HG4 := Lib.hid hg4; have HO4 := Lib.hid ho4; clear hg4 ho4)
  obtain ⟨g4, c4, rfl, hc4, -, -⟩ := own_some HO4.out (by omega)
  have HB3 := Lib.hid (u8s_gr (u8s_of_owns (l := F) (show w3.ownsRow w1.heap.size 5 1 (.slice (some ⟨g3, 0, none⟩) Lf c3) F.length (u8s F) by rw [HLf.out]; exact HO3.out)) HG4.out)
  have HB4 := Lib.hid (u8s_of_owns (l := G) (show w4.ownsRow w3.heap.size 5 1 (.slice (some ⟨g4, 0, none⟩) Lg c4) G.length (u8s G) by rw [HLg.out]; exact HO4.out))
  have hkc : (k : Int) ≤ (c3 : Int) := by omega
  have hjc : (j : Int) ≤ (c4 : Int) := by omega
  rw [HLf.out] at HB3
  rw [HLg.out] at HB4
  go_upto_region 10 with (go_at_call 11; refine (HU1.out _ _ (u8s_cut HB3.out (Nat.le_of_lt hk))).mono ?_; rintro e w5 ⟨rfl, rfl⟩)
  go_upto_region 11 with (go_at_call 13; refine (HU2.out _ _ (u8s_cut HB4.out (Nat.le_of_lt hj))).mono ?_; rintro e w5 ⟨rfl, rfl⟩)
  go_upto_region 12 with (go_at_call 11; refine (HU3.out _ _ HB3.out).mono ?_; rintro e w5 ⟨rfl, rfl⟩)
  go_wp2
  go_ret
  exact ⟨rfl, gr_trans HG3.out HG4.out⟩
end Go.Proofs.Ythdklnkaeddogaa
