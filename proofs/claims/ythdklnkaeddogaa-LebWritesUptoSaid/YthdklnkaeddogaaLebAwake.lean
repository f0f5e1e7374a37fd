/-
  The laws' awake, and the number of bits of a number.
-/
import Derived.Test.YthdklnkaeddogaaLebPut
import Derived.Laws.BytesArg
import Derived.OwnWalk
namespace Go.Proofs.Ythdklnkaeddogaa
open Go.RowKit LebM
def lst (l : List Int) (j : Nat) : Int := l.getD j 0
theorem ks_lit (k : IntKind) (w : World) (l : List Int) (t : TypeId) (hl : l.length ≤ 9223372036854775807) (c : Nat) : Ks k (w.alloc (.cells (l.map (Value.int k)).toArray t)) (.slice (some ⟨w.heap.size, 0, none⟩) l.length c) l.length (lst l) :=
  .inr ⟨hl, _, 0, c, rfl, fun j hj => by
    rw [Nat.zero_add]
    refine (cell_of_row _ _ j _ _ _ (heap_alloc_new w _)).trans ?_
    unfold lst
    simp [List.getD_eq_getElem?_getD, hj]⟩
theorem u8s_lit (w : World) (l : List Int) (t : TypeId) (hl : l.length ≤ 9223372036854775807) (c : Nat) : U8s (w.alloc (.cells (u8s l).toArray t)) (.slice (some ⟨w.heap.size, 0, none⟩) l.length c) l.length (lst l) := ks_lit .u8 w l t hl c
theorem lst_by {l : List Int} (h : ∀ x ∈ l, 0 ≤ x ∧ x < 256) : By (lst l) := fun j => by
  unfold lst
  rw [List.getD_eq_getElem?_getD]
  by_cases hj : j < l.length
  · rw [List.getElem?_eq_getElem hj]; exact h _ (List.getElem_mem hj)
  · rw [List.getElem?_eq_none (by omega)]; exact ⟨by decide, by decide⟩
theorem lst_bd {l : List Int} {a b : Int} (h0 : a ≤ 0 ∧ 0 ≤ b) (h : ∀ x ∈ l, a ≤ x ∧ x ≤ b) : ∀ j, a ≤ lst l j ∧ lst l j ≤ b := fun j => by
  unfold lst
  rw [List.getD_eq_getElem?_getD]
  by_cases hj : j < l.length
  · rw [List.getElem?_eq_getElem hj]; exact h _ (List.getElem_mem hj)
  · rw [List.getElem?_eq_none (by omega)]; exact h0
/-- a row of bytes that the call owns: what it reads as, and what it is as a string -/
theorem u8s_of_owns {w : World} {base : Nat} {e : TypeId} {v : Value} {l : List Int} (h : w.ownsRow base e 1 v l.length (u8s l)) : U8s w v l.length (lst l) := by
  rcases h.2 with ⟨h1, h2⟩ | ⟨g, cap, cur, rfl, hb, hh, hn, hcap, hsz, htk⟩
  · exact .inl ⟨h2, _, _, h1⟩
  · refine .inr ⟨by unfold maxLen at hcap; omega, g, 0, cap, rfl, fun j hj => ?_⟩
    rw [Nat.zero_add, cell_of_row _ _ j _ _ _ hh]
    have h3 : (u8s l)[j]? = some (.int .u8 (lst l j)) := by unfold u8s lst; simp [List.getD_eq_getElem?_getD, hj]
    rw [← htk, Nat.mul_one, List.getElem?_take, if_pos hj] at h3
    simpa using h3
def Str (w : World) (v : Value) (xs : List Int) : Prop := ∀ dst, Try.prog.underlying dst = some .string → (convert 22 dst v).run Try.prog w = .ok (.string (strOfNums xs)) w
theorem str_of_u8s {w : World} {v : Value} {l : List Int} (h : U8s w v l.length (lst l)) (h0 : v = .slice none 0 0 ∨ 0 < l.length) : Str w v l := by
  rcases h with ⟨hl, a, c, rfl⟩ | ⟨_, b, off, cap, rfl, hc⟩
  · rcases h0 with h0 | h0
    · obtain ⟨rfl, _, rfl⟩ := Value.slice.inj h0
      have : l = [] := List.eq_nil_of_length_eq_zero hl
      subst this
      exact run_convert_bytes_nil w 22 5 Try.underlying22 Try.underlying5 0 0
    · omega
  · exact run_convert_bytes_arg w 22 5 Try.underlying22 Try.underlying5 b off l.length cap l rfl hc
theorem str_of_owns {w : World} {base : Nat} {e : TypeId} {v : Value} {l : List Int} (h : w.ownsRow base e 1 v l.length (u8s l)) : Str w v l := by
  rcases h.2 with ⟨h1, h2⟩ | ⟨g, cap, cur, rfl, hb, hh, hn, hcap, hsz, htk⟩
  · exact str_of_u8s (u8s_of_owns h) (.inl h1)
  · by_cases h0 : 0 < l.length
    · exact str_of_u8s (u8s_of_owns h) (.inr h0)
    · have : l = [] := List.eq_nil_of_length_eq_zero (by omega)
      subst this
      exact run_convert_bytes_arg w 22 5 Try.underlying22 Try.underlying5 g 0 0 cap [] rfl (fun i hi => by omega)
theorem a1 : LebM.read false (lst [229, 142, 38]) 3 0 32 = (624485, 21, 3, 0) := by decide +kernel
theorem a2 : LebM.read true (lst [192, 187, 120]) 3 0 32 = (1973696, 21, 3, 0) := by decide +kernel
theorem a3 : forms formU (lst [624485, 0, 128]) 3 = [229, 142, 38, 0, 128, 1] := by decide +kernel
theorem a4 : forms formS (lst [-123456]) 1 = [192, 187, 120] := by decide +kernel
theorem s1 : strOfNums [229, 142, 38, 0, 128, 1] = { data := #[229, 142, 38, 0, 128, 1] } := by rfl
theorem s2 : strOfNums [192, 187, 120] = { data := #[192, 187, 120] } := by rfl
theorem aw_u (w : World) : Calls Try.prog 11 #[.slice (some ⟨w.heap.size, 0, none⟩) 3 3, .int .i64 0, .int .i64 32] (w.alloc (.cells #[.int .u8 229, .int .u8 142, .int .u8 38] 5)) fun e w' => e = .returned (.tuple #[.int .u64 624485, .int .i64 3, .int .i64 0]) ∧ Gr w w' := by
  have h := u_any (.slice (some ⟨w.heap.size, 0, none⟩) 3 3) 3 (lst [229, 142, 38]) (lst_by (by decide)) 0 32 _ (u8s_lit w [229, 142, 38] 5 (by decide) 3)
  rw [a1] at h
  exact h.mono fun e w' ⟨h1, h2⟩ => ⟨h1, by subst h2; exact (Gr.refl w).allocO _⟩
theorem aw_s (w : World) : Calls Try.prog 13 #[.slice (some ⟨w.heap.size, 0, none⟩) 3 3, .int .i64 0, .int .i64 32] (w.alloc (.cells #[.int .u8 192, .int .u8 187, .int .u8 120] 5)) fun e w' => e = .returned (.tuple #[.int .i64 (-123456), .int .i64 3, .int .i64 0]) ∧ Gr w w' := by
  have h := s_any (.slice (some ⟨w.heap.size, 0, none⟩) 3 3) 3 (lst [192, 187, 120]) (lst_by (by decide)) 0 32 _ (u8s_lit w [192, 187, 120] 5 (by decide) 3)
  rw [a2] at h
  rw [show sval (1973696, 21, 3, 0).1 (1973696, 21, 3, 0).2.1 = -123456 by decide] at h
  exact h.mono fun e w' ⟨h1, h2⟩ => ⟨h1, by subst h2; exact (Gr.refl w).allocO _⟩
theorem aw_pu (w : World) : Calls Try.prog 15 #[.slice (some ⟨w.heap.size, 0, none⟩) 3 3] (w.alloc (.cells #[.int .u64 624485, .int .u64 0, .int .u64 128] 24)) fun e w' => ∃ sv, e = .returned sv ∧ Gr w w' ∧ Str w' sv [229, 142, 38, 0, 128, 1] := by
  have h := putu_any (.slice (some ⟨w.heap.size, 0, none⟩) 3 3) 3 (lst [624485, 0, 128]) (fun j => by have := lst_bd (l := [624485, 0, 128]) (a := 0) (b := 624485) (by decide) (by decide) j; omega) (by decide) _ (ks_lit .u64 w [624485, 0, 128] 24 (by decide) 3)
  rw [a3] at h
  exact h.mono fun e w' ⟨sv, h1, h2, h3⟩ => ⟨sv, h1, gr_trans ((Gr.refl w).allocO _) h2, str_of_owns h3⟩
theorem aw_ps (w : World) : Calls Try.prog 17 #[.slice (some ⟨w.heap.size, 0, none⟩) 1 1] (w.alloc (.cells #[.int .i64 (-123456)] 2)) fun e w' => ∃ sv, e = .returned sv ∧ Gr w w' ∧ Str w' sv [192, 187, 120] := by
  have h := puts_any (.slice (some ⟨w.heap.size, 0, none⟩) 1 1) 1 (lst [-123456]) (fun j => by have := lst_bd (l := [-123456]) (a := -123456) (b := 0) (by decide) (by decide) j; omega) (by decide) _ (ks_lit .i64 w [-123456] 2 (by decide) 1)
  rw [a4] at h
  exact h.mono fun e w' ⟨sv, h1, h2, h3⟩ => ⟨sv, h1, gr_trans ((Gr.refl w).allocO _) h2, str_of_owns h3⟩
set_option maxHeartbeats 2000000 in
theorem awake_any (w : World) : Calls Try.prog 10 #[] w fun e w' => e = .returned (.bool true) ∧ Gr w w' := by
  go_enter Try.func10, Try.ntmps10
  go_wp2_with (first | (go_at_call 11; refine (aw_u _).mono ?_; rintro e w3 ⟨rfl, hg3⟩; have HG3 := Lib.hid hg3; clear hg3) | (go_at_call 13; refine (aw_s _).mono ?_; rintro e w4 ⟨rfl, hg4⟩; have HG4 := Lib.hid hg4; clear hg4) | (go_at_call 15; refine (aw_pu _).mono ?_; rintro e w5 ⟨sv, rfl, hg5, hcv5⟩; have HG5 := Lib.hid hg5; unfold Str at hcv5; have hs1 := s1; clear hg5) | (go_at_call 17; refine (aw_ps _).mono ?_; rintro e w6 ⟨sv, rfl, hg6, hcv6⟩; have HG6 := Lib.hid hg6; unfold Str at hcv6; have hs2 := s2; clear hg6))
  go_ret
  exact ⟨rfl, gr_trans HG3.out (gr_trans HG4.out (gr_trans HG5.out HG6.out))⟩
theorem pow_lt {j k : Nat} (h : (2 : Int) ^ j < 2 ^ k) : j < k := by
  apply Classical.byContradiction
  intro hn
  have h1 : (2 : Nat) ^ k ≤ 2 ^ j := Nat.pow_le_pow_right (by decide) (by omega)
  have h2 : ((2 ^ k : Nat) : Int) ≤ ((2 ^ j : Nat) : Int) := by exact_mod_cast h1
  rw [Int.natCast_pow, Int.natCast_pow] at h2
  exact absurd h (by simpa using h2)
set_option maxHeartbeats 1000000 in
theorem length_any (n : Int) (hn : 0 ≤ n ∧ n < 18446744073709551616) (w : World) :
    Calls Try.prog 19 #[.int .u64 n] w fun e w' => ∃ j : Nat, e = .returned (.int .i64 ((j : Int) + 1)) ∧ w = w' ∧ j ≤ 63 ∧ n < 2 ^ (j + 1) ∧ (j = 0 ∨ 2 ^ j ≤ n) := by
  go_enter Try.func19, Try.ntmps19
  go_wp2_with fail
  go_loop [0, 3] (fun nv kv => ∃ (j : Nat) (m : Int), nv = .int .u64 m ∧ kv = .int .i64 ((j : Int) + 1) ∧ (0 ≤ m ∧ m ≤ n) ∧ m * 2 ^ j ≤ n ∧ n < (m + 1) * 2 ^ j ∧ j ≤ 63 ∧ (j = 0 ∨ 1 ≤ m)) (fun nv _ => (intOf nv).toNat)
  case atStart => exact ⟨0, n, rfl, rfl, ⟨hn.1, Int.le_refl n⟩, by simp, by simp; omega, by decide, .inl rfl⟩
  case round =>
    obtain ⟨j, m, rfl, rfl, hm, h1, h2, hj, h3⟩ := hrel
    have H1 := Lib.hid h1
    have H2 := Lib.hid h2
    have H3 := Lib.hid h3
    have hp : (0 : Int) < 2 ^ j := Int.pow_pos (by decide)
    have HP := Lib.hid hp
    clear h1 h2 h3 hp
    by_cases hgt : 1 < m
    · have HJ := Lib.hid (show j + 1 ≤ 63 by
        have e1 : (2 : Int) * 2 ^ j ≤ m * 2 ^ j := Int.mul_le_mul_of_nonneg_right (by omega) (Int.le_of_lt HP.out)
        have e2 : (2 : Int) ^ (j + 1) = 2 * 2 ^ j := by rw [Int.pow_succ, Int.mul_comm]
        have e3 : (2 : Int) ^ (j + 1) < 2 ^ 64 := by rw [e2, show (2 : Int) ^ 64 = 18446744073709551616 from rfl]; have := H1.out; omega
        have := pow_lt e3
        omega)
      have hq : IntKind.u64.wrap (m.tdiv 2) = m / 2 := by rw [Int.tdiv_eq_ediv_of_nonneg hm.1, IntKind.wrap_u64]; omega
      have HM := Lib.hid (show 0 ≤ m / 2 ∧ m / 2 < m ∧ 1 ≤ m / 2 by omega)
      go_wp2
      refine ⟨⟨j + 1, m / 2, rfl, by push_cast; rfl, by have := HM.out; omega, ?_, ?_, HJ.out, .inr (by omega)⟩, by simp [intOf]; omega⟩
      · have e1 : m / 2 * 2 ≤ m := by omega
        have e2 := Int.mul_le_mul_of_nonneg_right e1 (Int.le_of_lt HP.out)
        have := H1.out
        rw [Int.pow_succ, Int.mul_comm (2 ^ j), ← Int.mul_assoc]
        omega
      · have e1 : m + 1 ≤ (m / 2 + 1) * 2 := by omega
        have e2 := Int.mul_le_mul_of_nonneg_right e1 (Int.le_of_lt HP.out)
        have := H2.out
        rw [Int.pow_succ, Int.mul_comm (2 ^ j), ← Int.mul_assoc]
        omega
    · go_wp2
      go_ret
      refine ⟨j, rfl, rfl, hj, ?_, ?_⟩
      · have e1 : (m + 1) * 2 ^ j ≤ 2 * 2 ^ j := Int.mul_le_mul_of_nonneg_right (by omega) (Int.le_of_lt HP.out)
        have := H2.out
        rw [Int.pow_succ, Int.mul_comm (2 ^ j)]
        omega
      · rcases H3.out with h | h
        · exact .inl h
        · obtain rfl : m = 1 := by omega
          have := H1.out
          exact .inr (by rwa [Int.one_mul] at this)
end Go.Proofs.Ythdklnkaeddogaa
