/-
  LebSigned: what is written with a sign is read again, by just so many bits as the number and its sign have.
-/
import Derived.Test.YthdklnkaeddogaaLebSgnM
namespace Go.Proofs.Ythdklnkaeddogaa
open Go.RowKit LebM
set_option maxRecDepth 100000 in
set_option maxHeartbeats 4000000 in
theorem signed_walk (n : Int) (hn : -9223372036854775808 ≤ n ∧ n ≤ 9223372036854775807) (sv : Value) (l : List Int) (hl : ∀ x ∈ l, 0 ≤ x ∧ x < 256) (hll : l.length ≤ 1048576) (bits : Int) (w : World) (hu : U8s w sv l.length (lst l)) (hs : Src w sv l.length (u8s l)) :
    Calls Try.prog 6 #[.int .i64 n, sv, .int .i64 bits] w fun e w' => e = .returned (.bool true) ∧ Gr w w' := by
  obtain ⟨xa, xc, rfl⟩ := slice_u8s hu
  have HSr := Lib.hid hs
  have hF := lebS_len 9 n
  have HPut := Lib.hid (puts1 n hn)
  have hby : ∀ x ∈ formS n ++ l, 0 ≤ x ∧ x < 256 := fun x hx => by
    simp only [List.mem_append] at hx
    rcases hx with h | h
    · exact lebS_byte 9 n x h
    · exact hl x h
  have hres : ∃ v to er, (sval (LebM.read true (lst (formS n ++ l)) (formS n ++ l).length 0 bits).1 (LebM.read true (lst (formS n ++ l)) (formS n ++ l).length 0 bits).2.1 = v ∧ (LebM.read true (lst (formS n ++ l)) (formS n ++ l).length 0 bits).2.2.1 = to ∧ (LebM.read true (lst (formS n ++ l)) (formS n ++ l).length 0 bits).2.2.2 = er) ∧
      ((bits < 1 ∨ 64 < bits) ∧ v = 0 ∧ to = 0 ∧ er = 1 ∨ ∃ q : Nat, bits = (q : Int) + 1 ∧ q ≤ 63 ∧ ((-(2 ^ q) ≤ n ∧ n < 2 ^ q) ∧ n = v ∧ to = ((formS n).length : Int) ∧ er = 0 ∨ ¬ (-(2 ^ q) ≤ n ∧ n < 2 ^ q) ∧ v = 0 ∧ to = 0 ∧ er = 6)) := by
    by_cases hb : bits < 1 ∨ 64 < bits
    · have h : LebM.read true (lst (formS n ++ l)) (formS n ++ l).length 0 bits = (0, 0, 0, 1) := by
        unfold LebM.read
        rw [if_pos (by omega)]
      rw [h]
      exact ⟨_, _, _, ⟨rfl, rfl, rfl⟩, .inl ⟨hb, by decide, rfl, rfl⟩⟩
    · obtain ⟨q, hq⟩ := Int.eq_ofNat_of_zero_le (show 0 ≤ bits - 1 by omega)
      obtain rfl : bits = ((q + 1 : Nat) : Int) := by omega
      have h := reads_form (f := lst (formS n ++ l)) (len := (formS n ++ l).length) (B := q + 1) (by omega) (by omega) hn (fun j hj => by
        unfold lst
        rw [List.getD_eq_getElem?_getD, List.getD_eq_getElem?_getD, List.getElem?_append_left hj]) (by simp only [List.length_append]; omega)
      refine ⟨_, _, _, ⟨rfl, rfl, rfl⟩, .inr ⟨q, by omega, by omega, ?_⟩⟩
      rcases h with ⟨g1, g2, g3, g4, g5⟩ | ⟨g1, g2⟩
      · left
        simp only [Nat.mul_zero, Nat.sub_zero, Nat.add_sub_cancel] at g1 g2
        exact ⟨⟨g1, g2⟩, by rw [g3, Int.pow_zero, Int.mul_one, Int.zero_add], g4, g5⟩
      · right
        simp only [Nat.mul_zero, Nat.sub_zero, Nat.add_sub_cancel] at g1
        rw [g2]
        exact ⟨g1, by decide, rfl, rfl⟩
  obtain ⟨v, to, er, ⟨hv, hto, her⟩, hcase⟩ := hres
  have HU := Lib.hid (show ∀ sv' w, U8s w sv' (formS n ++ l).length (lst (formS n ++ l)) → Calls Try.prog 13 #[sv', .int .i64 0, .int .i64 bits] w fun e w' => e = .returned (.tuple #[.int .i64 v, .int .i64 to, .int .i64 er]) ∧ w = w' from fun sv' w h => by
    have := s_any sv' _ _ (lst_by hby) 0 bits w h
    rw [hv, hto, her] at this
    exact this)
  have HCase := Lib.hid hcase
  obtain ⟨i0, hi, hz0, hz1, hz2⟩ := info_parts info8
  have HI := Lib.hid hi
  have HZ0 := Lib.hid hz0
  have HZ1 := Lib.hid hz1
  have HZ2 := Lib.hid hz2
  have HFl := Lib.hid (show (formS n).length ≤ 10 from hF)
  have HSlen := Lib.hid (show (u8s (formS n)).length = (formS n).length * 1 from u8s_len1 _)
  generalize hFF : formS n = F at *
  have HN := Lib.hid hn
  clear hFF hF hby hv hto her hcase hi hz0 hz1 hz2 hs hu hl hn
  go_enter Try.func6, Try.ntmps6
  go_upto_region 4 with (go_at_call 10; refine (awake_any _).mono ?_; rintro e w1 ⟨rfl, hg1⟩; have HG1 := Lib.hid hg1; clear hg1)
  have HS1 := Lib.hid (src_gr HSr.out HG1.out)
  go_wp2_with (first | (go_at_call 17; refine (HPut.out _).mono ?_; rintro e w3 ⟨s3, rfl, hg3, ho3⟩; have HG3 := Lib.hid hg3; have HO3 := Lib.hid ho3; clear hg3 ho3) | (at_builtin; refine wpList_append_src rfl _ _ 22 rfl w1.heap.size 5 i0 (.int .u8 0) 1 1 Try.underlying22 HI.out HZ0.out HZ1.out HZ2.out rfl (by decide) (.slice none 0 0) 0 [] rfl (World.ownsRow_nil _ _ _ _) s3 F.length (u8s F) rfl (src_of_owns HO3.out) HSlen.out (u8s_one _) (by unfold maxLen; have := HFl.out; omega) (by have := HFl.out; omega) (by have := HG3.out.size; omega) ?_))
  intro v4 w4 hown4 hgb4
  have HG4 := Lib.hid (HG3.out.grown hgb4 (fun q hq => by cases hq))
  have HO4 := Lib.hid (show w4.ownsRow w1.heap.size 5 1 v4 F.length (u8s F) by simpa using hown4)
  obtain ⟨a4, c4, rfl⟩ := own_slice HO4.out
  have HS4 := Lib.hid (src_gr HS1.out HG4.out)
  clear hown4 hgb4
  go_wp2_with (at_builtin; refine wpList_append_src rfl _ _ 22 rfl w1.heap.size 5 i0 (.int .u8 0) 1 1 Try.underlying22 HI.out HZ0.out HZ1.out HZ2.out rfl (by decide) (.slice a4 F.length c4) F.length (u8s F) rfl HO4.out (.slice xa l.length xc) l.length (u8s l) rfl HS4.out (u8s_len1 _) (u8s_one _) (by unfold maxLen; have := HFl.out; omega) (by have := HFl.out; omega) (by have := HG4.out.size; omega) ?_)
  intro v5 w5 hown5 hgb5
  have HG5 := Lib.hid (HG4.out.grown hgb5 (fun q hq => (HO4.out.lt q hq).1))
  have HU5 := Lib.hid (u8s_of_owns (l := F ++ l) (show w5.ownsRow w1.heap.size 5 1 v5 (F ++ l).length (u8s (F ++ l)) by rw [u8s_app, List.length_append]; exact hown5))
  clear hown5 hgb5
  go_upto_region 8 with (go_at_call 13; refine (HU.out _ _ HU5.out).mono ?_; rintro e w6 ⟨rfl, rfl⟩)
  rcases HCase.out with ⟨hb, rfl, rfl, rfl⟩ | ⟨q, rfl, hq, ⟨hlt, rfl, rfl, rfl⟩ | ⟨hge, rfl, rfl, rfl⟩⟩
  · rcases hb with hb | hb
    · go_wp2
      go_ret
      exact ⟨rfl, gr_trans HG1.out HG5.out⟩
    · have hb1 : ¬ bits < 1 := by omega
      go_wp2
      go_ret
      exact ⟨rfl, gr_trans HG1.out HG5.out⟩
  · have hb1 : ¬ (q : Int) + 1 < 1 := by omega
    have hb2 : ¬ 64 < (q : Int) + 1 := by omega
    by_cases hneg : n < 0
    · obtain ⟨s, hs⟩ : ∃ s, -1 - n = s := ⟨_, rfl⟩
      have hs0 : 0 ≤ s := by omega
      have hs1 : s < 9223372036854775808 := by have := HN.out; omega
      have HSz := Lib.hid (show s < 2 ^ q by omega)
      have hws : IntKind.u64.wrap s = s := by rw [IntKind.wrap_u64]; omega
      have HL := Lib.hid (length_any s ⟨hs0, by omega⟩)
      clear hlt
      by_cases hz : 0 < s
      · go_wp2_with (go_at_call 19; refine (HL.out _).mono ?_; rintro e w7 ⟨j, rfl, rfl, hj, hj1, hj2⟩; have hcmp : ¬ (q : Int) + 1 < 1 + ((j : Int) + 1) := (by have h2 : (2 : Int) ^ j ≤ s := (by rcases hj2 with rfl | h; (focus (rw [Int.pow_zero]; omega)); exact h); have := pow_lt (Int.lt_of_le_of_lt h2 HSz.out); omega); clear hj1 hj2)
        go_ret
        exact ⟨rfl, gr_trans HG1.out HG5.out⟩
      · obtain rfl : s = 0 := by omega
        go_wp2
        go_ret
        exact ⟨rfl, gr_trans HG1.out HG5.out⟩
    · have hs0 : 0 ≤ n := by omega
      have hs1 : n < 9223372036854775808 := by have := HN.out; omega
      have HSz := Lib.hid (show n < 2 ^ q by have := p2pos q; omega)
      have hws : IntKind.u64.wrap n = n := by rw [IntKind.wrap_u64]; omega
      have HL := Lib.hid (length_any n ⟨hs0, by omega⟩)
      clear hlt
      by_cases hz : 0 < n
      · go_wp2_with (go_at_call 19; refine (HL.out _).mono ?_; rintro e w7 ⟨j, rfl, rfl, hj, hj1, hj2⟩; have hcmp : ¬ (q : Int) + 1 < 1 + ((j : Int) + 1) := (by have h2 : (2 : Int) ^ j ≤ n := (by rcases hj2 with rfl | h; (focus (rw [Int.pow_zero]; omega)); exact h); have := pow_lt (Int.lt_of_le_of_lt h2 HSz.out); omega); clear hj1 hj2)
        go_ret
        exact ⟨rfl, gr_trans HG1.out HG5.out⟩
      · obtain rfl : n = 0 := by omega
        go_wp2
        go_ret
        exact ⟨rfl, gr_trans HG1.out HG5.out⟩
  · have hb1 : ¬ (q : Int) + 1 < 1 := by omega
    have hb2 : ¬ 64 < (q : Int) + 1 := by omega
    by_cases hneg : n < 0
    · obtain ⟨s, hs⟩ : ∃ s, -1 - n = s := ⟨_, rfl⟩
      have hs0 : 0 ≤ s := by omega
      have hs1 : s < 9223372036854775808 := by have := HN.out; omega
      have HSz := Lib.hid (show 2 ^ q ≤ s by omega)
      have hws : IntKind.u64.wrap s = s := by rw [IntKind.wrap_u64]; omega
      have HL := Lib.hid (length_any s ⟨hs0, by omega⟩)
      clear hge
      have hz : 0 < s := by have := HSz.out; have := p2pos q; omega
      go_wp2_with (go_at_call 19; refine (HL.out _).mono ?_; rintro e w7 ⟨j, rfl, rfl, hj, hj1, hj2⟩; have hcmp : (q : Int) + 1 < 1 + ((j : Int) + 1) := (by have := pow_lt (Int.lt_of_le_of_lt HSz.out hj1); omega); clear hj1 hj2)
      go_ret
      exact ⟨rfl, gr_trans HG1.out HG5.out⟩
    · have hs0 : 0 ≤ n := by omega
      have hs1 : n < 9223372036854775808 := by have := HN.out; omega
      have HSz := Lib.hid (show 2 ^ q ≤ n by have := p2pos q; omega)
      have hws : IntKind.u64.wrap n = n := by rw [IntKind.wrap_u64]; omega
      have HL := Lib.hid (length_any n ⟨hs0, by omega⟩)
      clear hge
      have hz : 0 < n := by have := HSz.out; have := p2pos q; omega
      go_wp2_with (go_at_call 19; refine (HL.out _).mono ?_; rintro e w7 ⟨j, rfl, rfl, hj, hj1, hj2⟩; have hcmp : (q : Int) + 1 < 1 + ((j : Int) + 1) := (by have := pow_lt (Int.lt_of_le_of_lt HSz.out hj1); omega); clear hj1 hj2)
      go_ret
      exact ⟨rfl, gr_trans HG1.out HG5.out⟩
end Go.Proofs.Ythdklnkaeddogaa
