/-
  LebBack: what is written is read again, by just so many bits as the number has.
-/
import Derived.Test.YthdklnkaeddogaaLebForm
namespace Go.Proofs.Ythdklnkaeddogaa
open Go.RowKit LebM
theorem own_slice {w : World} {base : Nat} {e : TypeId} {size : Nat} {v : Value} {n : Nat} {xs : List Value} (h : w.ownsRow base e size v n xs) : ∃ a c, v = .slice a n c := by
  rcases h.2 with ⟨rfl, rfl⟩ | ⟨g, cap, cur, rfl, _⟩
  · exact ⟨_, _, rfl⟩
  · exact ⟨_, _, rfl⟩
theorem u8s_one (l : List Int) : ∀ u ∈ u8s l, u.oneCell' = true := fun u hu => by
  unfold u8s at hu
  obtain ⟨x, _, rfl⟩ := List.mem_map.1 hu
  rfl
theorem u8s_len1 (l : List Int) : (u8s l).length = l.length * 1 := by rw [u8s_len, Nat.mul_one]
theorem lebU_byte : ∀ m n, 0 ≤ n → ∀ x ∈ lebU m n, 0 ≤ x ∧ x < 256
  | 0, n, h, x, hx => by
    simp only [lebU, List.mem_singleton] at hx
    omega
  | m + 1, n, h, x, hx => by
    unfold lebU at hx
    split at hx
    · simp only [List.mem_singleton] at hx
      omega
    · rcases List.mem_cons.1 hx with h1 | h1
      · omega
      · exact lebU_byte m (n / 128) (by omega) x h1
theorem lebU_pos : ∀ m n, 0 < (lebU m n).length
  | 0, _ => by simp [lebU]
  | m + 1, n => by unfold lebU; split <;> simp
/-- PutU of one number -/
theorem put1 (n : Int) (hn : 0 ≤ n ∧ n < 18446744073709551616) (w : World) : Calls Try.prog 15 #[.slice (some ⟨w.heap.size, 0, none⟩) 1 1] (w.alloc (.cells #[.int .u64 n] 24)) fun e w' => ∃ sv, e = .returned sv ∧ Gr w w' ∧ w'.ownsRow w.heap.size 5 1 sv (formU n).length (u8s (formU n)) := by
  have h := putu_any (.slice (some ⟨w.heap.size, 0, none⟩) 1 1) 1 (lst [n]) (fun j => by have := lst_bd (l := [n]) (a := 0) (b := 18446744073709551615) (by decide) (fun x hx => by simp at hx; omega) j; omega) (by decide) _ (ks_lit .u64 w [n] 24 (by simp) 1)
  rw [show forms formU (lst [n]) 1 = formU n from rfl] at h
  exact h.mono fun e w' ⟨sv, h1, h2, h3⟩ => ⟨sv, h1, gr_trans ((Gr.refl w).allocO _) h2, h3.1, by
    rcases h3.2 with h | ⟨g, cap, cur, e1, e2, e3⟩
    · exact .inl h
    · exact .inr ⟨g, cap, cur, e1, by simp at e2; omega, e3⟩⟩
set_option maxRecDepth 100000 in
set_option maxHeartbeats 4000000 in
theorem back_walk (n : Int) (hn : 0 ≤ n ∧ n < 18446744073709551616) (sv : Value) (l : List Int) (hl : ∀ x ∈ l, 0 ≤ x ∧ x < 256) (hll : l.length ≤ 1048576) (bits : Int) (w : World) (hu : U8s w sv l.length (lst l)) (hs : Src w sv l.length (u8s l)) :
    Calls Try.prog 5 #[.int .u64 n, sv, .int .i64 bits] w fun e w' => e = .returned (.bool true) ∧ Gr w w' := by
  obtain ⟨xa, xc, rfl⟩ := slice_u8s hu
  have HSr := Lib.hid hs
  have hF := lebU_len 9 n
  have HPut := Lib.hid (put1 n hn)
  have HLen := Lib.hid (length_any n hn)
  have hby : ∀ x ∈ l ++ formU n ++ l, 0 ≤ x ∧ x < 256 := fun x hx => by
    simp only [List.mem_append] at hx
    rcases hx with (h | h) | h
    · exact hl x h
    · exact lebU_byte 9 n hn.1 x h
    · exact hl x h
  have hres : ∃ x wd to er, LebM.read false (lst (l ++ formU n ++ l)) (l ++ formU n ++ l).length l.length bits = (x, wd, to, er) ∧
      ((bits < 1 ∨ 64 < bits) ∧ x = 0 ∧ to = 0 ∧ er = 1 ∨ ∃ B : Nat, bits = B ∧ 1 ≤ B ∧ B ≤ 64 ∧ (n < 2 ^ B ∧ x = n ∧ to = ((l.length + (formU n).length : Nat) : Int) ∧ er = 0 ∨ 2 ^ B ≤ n ∧ x = 0 ∧ to = 0 ∧ er = 6)) := by
    by_cases hb : bits < 1 ∨ 64 < bits
    · refine ⟨0, 0, 0, 1, ?_, .inl ⟨hb, rfl, rfl, rfl⟩⟩
      unfold LebM.read
      rw [if_pos (by omega)]
    · obtain ⟨B, rfl⟩ := Int.eq_ofNat_of_zero_le (show 0 ≤ bits by omega)
      have h := read_form (f := lst (l ++ formU n ++ l)) (len := (l ++ formU n ++ l).length) (a := l.length) (B := B) (by omega) (by omega) hn (fun j hj => by
        unfold lst
        rw [List.getD_eq_getElem?_getD, List.getD_eq_getElem?_getD, List.append_assoc, List.getElem?_append_right (by omega), Nat.add_sub_cancel_left, List.getElem?_append_left hj]) (by simp only [List.length_append]; omega)
      by_cases hlt : n < 2 ^ B
      · rw [if_pos hlt] at h
        exact ⟨_, _, _, _, h, .inr ⟨B, rfl, by omega, by omega, .inl ⟨hlt, rfl, rfl, rfl⟩⟩⟩
      · rw [if_neg hlt] at h
        exact ⟨_, _, _, _, h, .inr ⟨B, rfl, by omega, by omega, .inr ⟨by omega, rfl, rfl, rfl⟩⟩⟩
  obtain ⟨x, wd, to, er, hres, hcase⟩ := hres
  have HU := Lib.hid (show ∀ sv' w, U8s w sv' (l ++ formU n ++ l).length (lst (l ++ formU n ++ l)) → Calls Try.prog 11 #[sv', .int .i64 l.length, .int .i64 bits] w fun e w' => e = .returned (.tuple #[.int .u64 x, .int .i64 to, .int .i64 er]) ∧ w = w' from fun sv' w h => by
    have := u_any sv' _ _ (lst_by hby) l.length bits w h
    rw [hres] at this
    exact this)
  have HCase := Lib.hid hcase
  obtain ⟨i0, hi, hz0, hz1, hz2⟩ := info_parts info8
  have HI := Lib.hid hi
  have HZ0 := Lib.hid hz0
  have HZ1 := Lib.hid hz1
  have HZ2 := Lib.hid hz2
  have HFl := Lib.hid (show (formU n).length ≤ 10 from hF)
  have HSlen := Lib.hid (show (u8s (formU n)).length = (formU n).length * 1 from u8s_len1 _)
  generalize hFF : formU n = F at *
  have HN := Lib.hid hn
  clear hFF hF hby hres hcase hi hz0 hz1 hz2 hs hu hl hn
  go_enter Try.func5, Try.ntmps5
  go_upto_region 4 with (go_at_call 10; refine (awake_any _).mono ?_; rintro e w1 ⟨rfl, hg1⟩; have HG1 := Lib.hid hg1; clear hg1)
  have HS1 := Lib.hid (src_gr HSr.out HG1.out)
  go_wp2_with (at_builtin; refine wpList_append_src rfl _ _ 22 rfl w1.heap.size 5 i0 (.int .u8 0) 1 1 Try.underlying22 HI.out HZ0.out HZ1.out HZ2.out rfl (by decide) (.slice none 0 0) 0 [] rfl (World.ownsRow_nil _ _ _ _) (.slice xa l.length xc) l.length (u8s l) rfl HS1.out (u8s_len1 _) (u8s_one _) (by unfold maxLen; omega) (by omega) (by simp) ?_)
  intro v2 w2 hown2 hgb2
  have HG2 := Lib.hid ((Gr.refl w1).grown hgb2 (fun q hq => by cases hq))
  have HO2 := Lib.hid (show w2.ownsRow w1.heap.size 5 1 v2 l.length (u8s l) by simpa using hown2)
  clear hown2 hgb2
  go_wp2_with (first | (go_at_call 15; refine (HPut.out _).mono ?_; rintro e w3 ⟨s3, rfl, hg3, ho3⟩; have HG3 := Lib.hid (gr_trans HG2.out hg3); have HO3 := Lib.hid ho3; have HO2b := Lib.hid (own_gr HO2.out hg3); clear hg3 ho3) | (at_builtin; refine wpList_append_src rfl _ _ 22 rfl w1.heap.size 5 i0 (.int .u8 0) 1 1 Try.underlying22 HI.out HZ0.out HZ1.out HZ2.out rfl (by decide) v2 l.length (u8s l) rfl HO2b.out s3 F.length (u8s F) rfl (src_of_owns HO3.out) HSlen.out (u8s_one _) (by unfold maxLen; have := HFl.out; omega) (by have := HFl.out; omega) (by have := HG3.out.size; omega) ?_))
  intro v4 w4 hown4 hgb4
  have HG4 := Lib.hid (HG3.out.grown hgb4 (fun q hq => (HO2b.out.lt q hq).1))
  obtain ⟨a4, c4, rfl⟩ := own_slice hown4
  have HO4 := Lib.hid hown4
  have HS4 := Lib.hid (src_gr HS1.out HG4.out)
  clear hown4 hgb4
  go_wp2_with (at_builtin; refine wpList_append_src rfl _ _ 22 rfl w1.heap.size 5 i0 (.int .u8 0) 1 1 Try.underlying22 HI.out HZ0.out HZ1.out HZ2.out rfl (by decide) (.slice a4 (l.length + F.length) c4) (l.length + F.length) (u8s l ++ u8s F) rfl HO4.out (.slice xa l.length xc) l.length (u8s l) rfl HS4.out (u8s_len1 _) (u8s_one _) (by unfold maxLen; have := HFl.out; omega) (by have := HFl.out; omega) (by have := HG4.out.size; omega) ?_)
  intro v5 w5 hown5 hgb5
  have HG5 := Lib.hid (HG4.out.grown hgb5 (fun q hq => (HO4.out.lt q hq).1))
  have HU5 := Lib.hid (u8s_of_owns (l := l ++ F ++ l) (show w5.ownsRow w1.heap.size 5 1 v5 (l ++ F ++ l).length (u8s (l ++ F ++ l)) by rw [u8s_app, u8s_app, List.length_append, List.length_append, List.append_assoc]; exact hown5))
  clear hown5 hgb5
  go_upto_region 9 with (go_at_call 11; refine (HU.out _ _ HU5.out).mono ?_; rintro e w6 ⟨rfl, rfl⟩)
  rcases HCase.out with ⟨hb, rfl, rfl, rfl⟩ | ⟨B, rfl, hB1, hB2, ⟨hlt, rfl, rfl, rfl⟩ | ⟨hge, rfl, rfl, rfl⟩⟩
  · rcases hb with hb | hb
    · go_wp2
      go_ret
      exact ⟨rfl, gr_trans HG1.out HG5.out⟩
    · have hb1 : ¬ bits < 1 := by omega
      go_wp2
      go_ret
      exact ⟨rfl, gr_trans HG1.out HG5.out⟩
  · have HLt := Lib.hid hlt
    have hb1 : ¬ (B : Int) < 1 := by omega
    have hb2 : ¬ 64 < (B : Int) := by omega
    clear hlt
    go_wp2_with (go_at_call 19; refine (HLen.out _).mono ?_; rintro e w7 ⟨j, rfl, rfl, hj, hj1, hj2⟩; have hcmp : ¬ (B : Int) < (j : Int) + 1 := (by rcases hj2 with h | h; (focus omega); (focus (have := pow_lt (Int.lt_of_le_of_lt h HLt.out); omega))); clear hj1 hj2)
    go_ret
    exact ⟨rfl, gr_trans HG1.out HG5.out⟩
  · have HGe := Lib.hid hge
    have hb1 : ¬ (B : Int) < 1 := by omega
    have hb2 : ¬ 64 < (B : Int) := by omega
    clear hge
    go_wp2_with (go_at_call 19; refine (HLen.out _).mono ?_; rintro e w7 ⟨j, rfl, rfl, hj, hj1, hj2⟩; have hcmp : (B : Int) < (j : Int) + 1 := (by have := pow_lt (Int.lt_of_le_of_lt HGe.out hj1); omega); clear hj1 hj2)
    go_ret
    exact ⟨rfl, gr_trans HG1.out HG5.out⟩
end Go.Proofs.Ythdklnkaeddogaa
