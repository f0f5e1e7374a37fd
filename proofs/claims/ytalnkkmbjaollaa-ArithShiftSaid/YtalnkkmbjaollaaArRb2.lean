/-
  The reference's Bin of layer 5 is arith.Bin's answer. Conditions: bytes, 64 bits.
-/
import Derived.Test.YtalnkkmbjaollaaArRb
namespace Go.Proofs.Ytalnkkmbjaollaa
open Go.RowKit VecM Ev
namespace Ar
theorem sgm {a : Nat → Int} (ha : Byt a) {w : Int} (hw : w = 8 ∨ w = 16 ∨ w = 32 ∨ w = 64) {j : Nat} (hj : thereB w j = true) : IntKind.u64.wrap (sgnI a w j) % 256 ^ wid w = getI a w j % 256 ^ wid w := by
  rw [sgn_of hj, sg_mod hw (getI_bd ha w j), Int.emod_eq_of_lt (getI_bd ha w j).1 (getI_bd ha w j).2]
theorem bi_lane (k w : Int) (hw : w = 8 ∨ w = 16 ∨ w = 32 ∨ w = 64) (hk : binK k) (hs : (k = 15 ∨ k = 16 ∨ k = 18 ∨ k = 19 ∨ k = 27) → w ≤ 16) (a b : Nat → Int) (ha : Byt a) (hb : Byt b) (j : Nat) (hj : thereB w j = true) :
    rbX k w (getI a w j) (getI b w j) (sgnI a w j) (sgnI b w j) % 256 ^ wid w = laneI k w (getI a w j) (getI b w j) (sgnI a w j) (sgnI b w j) % 256 ^ wid w := by
  have F := fit_of ha hb hw hj
  have ma := sgm ha hw hj
  have mb := sgm hb hw hj
  have small : w ≤ 16 → (0 ≤ getI a w j ∧ getI a w j < 65536 ∧ 0 ≤ getI b w j ∧ getI b w j < 65536 ∧ -32768 ≤ sgnI a w j ∧ sgnI a w j < 32768 ∧ -32768 ≤ sgnI b w j ∧ sgnI b w j < 32768) := fun h => by
    obtain ⟨f1, f2, f3, f4⟩ := F
    rcases hw with rfl | rfl | rfl | rfl
    · simp at f1 f2 f3 f4; omega
    · simp at f1 f2 f3 f4; omega
    · omega
    · omega
  generalize getI a w j = X at *
  generalize getI b w j = Y at *
  generalize sgnI a w j = S at *
  generalize sgnI b w j = R at *
  rcases hk with rfl | rfl | rfl | rfl | rfl | rfl | rfl | rfl | rfl | rfl | rfl | rfl
  · rfl
  · rfl
  · rfl
  · show (if R < S then Y else X) % _ = IntKind.u64.wrap (minI S R) % _
    unfold minI
    by_cases h : R < S
    · rw [if_pos h]; split
      · omega
      · exact mb.symm
    · rw [if_neg h]; split
      · exact ma.symm
      · omega
  · show (if Y < X then Y else X) % _ = minI X Y % _
    unfold minI
    by_cases h : Y < X
    · rw [if_pos h]; split
      · omega
      · rfl
    · rw [if_neg h]; split
      · rfl
      · omega
  · show (if R > S then Y else X) % _ = IntKind.u64.wrap (maxI S R) % _
    unfold maxI
    by_cases h : R > S
    · rw [if_pos h]; split
      · exact mb.symm
      · omega
    · rw [if_neg h]; split
      · have : R = S := by omega
        rw [this] at mb ⊢; exact ma.symm
      · exact ma.symm
  · show (if Y > X then Y else X) % _ = maxI X Y % _
    unfold maxI
    by_cases h : Y > X
    · rw [if_pos h]; split
      · rfl
      · omega
    · rw [if_neg h]; split
      · have : X = Y := by omega
        rw [this]
      · rfl
  · have := small (hs (by omega))
    show IntKind.u64.wrap (Int.tdiv (IntKind.u64.wrap (IntKind.u64.wrap (X + Y) + 1)) 2) % _ = (X + Y + 1) / 2 % _
    rw [IntWalk.u64_in (X + Y) (by omega), IntWalk.u64_in (X + Y + 1) (by omega), Int.tdiv_eq_ediv_of_nonneg (by omega), IntWalk.u64_in _ (by omega)]
  · have := small (hs (by omega))
    show IntKind.u64.wrap (holdI (IntKind.i64.wrap (S + R)) _ _) % _ = IntKind.u64.wrap (holdI (S + R) _ _) % _
    rw [IntWalk.i64_in _ (by omega)]
  · have := small (hs (by omega))
    show IntKind.u64.wrap (holdI (IntKind.i64.wrap (S - R)) _ _) % _ = IntKind.u64.wrap (holdI (S - R) _ _) % _
    rw [IntWalk.i64_in _ (by omega)]
  · have := small (hs (by omega))
    show IntKind.u64.wrap (holdI (IntKind.i64.wrap (IntKind.u64.wrap (X + Y))) 0 (if w = 8 then 255 else 65535)) % _ = holdI (X + Y) 0 (if w = 8 then 255 else 65535) % _
    rw [IntWalk.u64_in (X + Y) (by omega), IntWalk.i64_in _ (by omega)]
    obtain ⟨m, hm, hm0, hm1⟩ : ∃ m : Int, (if w = 8 then (255 : Int) else 65535) = m ∧ 0 ≤ m ∧ m ≤ 65535 := ⟨_, rfl, by split <;> omega, by split <;> omega⟩
    rw [hm]
    have hb := holdI_bd (X + Y) hm0
    rw [IntWalk.u64_in _ (by omega)]
  · have := small (hs (by omega))
    show IntKind.u64.wrap (holdI (IntKind.i64.wrap (IntKind.i64.wrap X - IntKind.i64.wrap Y)) 0 (if w = 8 then 255 else 65535)) % _ = holdI (X - Y) 0 (if w = 8 then 255 else 65535) % _
    rw [IntWalk.i64_in X (by omega), IntWalk.i64_in Y (by omega), IntWalk.i64_in _ (by omega)]
    obtain ⟨m, hm, hm0, hm1⟩ : ∃ m : Int, (if w = 8 then (255 : Int) else 65535) = m ∧ 0 ≤ m ∧ m ≤ 65535 := ⟨_, rfl, by split <;> omega, by split <;> omega⟩
    rw [hm]
    have hb := holdI_bd (X - Y) hm0
    rw [IntWalk.u64_in _ (by omega)]
theorem rbi_eq (op k w : Int) (L : Nat) (e1 : aW op = w) (e2 : aK op = k) (hw : w = 8 ∨ w = 16 ∨ w = 32 ∨ w = 64) (h14 : 14 ≤ k) (hL : lanesI w = L) (a b : Nat → Int) (ha : Byt a) (hb : Byt b) : bs (ofK zV w (rbF k w a b) L) = bs (biV op a b) := by
  have hok : biOk op = true := by unfold biOk; rw [e1, e2]; simp; omega
  have hb2 := binK_of w k (by have := (in_of (op := op) (by omega)).1; rw [e1, e2] at this; exact this) h14
  have e : biV op a b = ofK (fun _ => 0) w (fun j => laneI k w (getI a w j) (getI b w j) (sgnI a w j) (sgnI b w j)) L := by unfold biV; rw [if_pos hok, e1, e2, hL]; simp
  rw [e]
  refine bs_congr (ext (ofK_byt byt_zero _ _ _) (ofK_byt byt_zero _ _ _) w hw fun j hj => ?_)
  have := (there_iff.1 hj).2
  rw [get_ofK _ _ _ j hj, get_ofK _ _ _ j hj, if_pos (by omega), if_pos (by omega)]
  exact bi_lane k w hw hb2.1 hb2.2 a b ha hb j hj
theorem rbin_any (op : Int) (a b : Nat → Int) (ha : Byt a) (hb : Byt b) (w : World) : Calls Try.prog 31 #[.int .i64 op, .agg (bs a), .agg (bs b)] w fun e w' => e = .returned (.tuple #[.agg (bs (biV op a b)), .int .i64 (if biOk op then 0 else 1)]) ∧ Gr w w' := by
  by_cases h : biOk op = true
  · have h2 := h
    unfold biOk at h2
    simp only [Bool.and_eq_true, bne_iff_ne, ne_eq, decide_eq_true_eq] at h2
    have hin : op ∈ opsA := (in_ops op).2 (by
      unfold aW at h2
      split at h2 <;> simp_all)
    rw [if_pos h]
    clear h
    simp only [opsA, List.mem_cons, List.not_mem_nil, or_false] at hin
    rcases hin with rfl | rfl | rfl | rfl | rfl | rfl | rfl | rfl | rfl | rfl | rfl | rfl | rfl | rfl | rfl | rfl | rfl | rfl | rfl | rfl | rfl | rfl | rfl | rfl | rfl | rfl | rfl | rfl | rfl | rfl | rfl | rfl | rfl | rfl | rfl | rfl | rfl | rfl | rfl | rfl | rfl | rfl | rfl | rfl | rfl | rfl | rfl | rfl | rfl | rfl | rfl | rfl | rfl | rfl
    · exact absurd h2.2 (by decide +kernel)
    · exact absurd h2.2 (by decide +kernel)
    · exact absurd h2.2 (by decide +kernel)
    · exact absurd h2.2 (by decide +kernel)
    · exact absurd h2.2 (by decide +kernel)
    · rw [← rbi_eq 64878 14 8 16 (by decide +kernel) (by decide +kernel) (by omega) (by omega) rfl a b ha hb]; exact rb64878 a b ha hb w
    · rw [← rbi_eq 64881 17 8 16 (by decide +kernel) (by decide +kernel) (by omega) (by omega) rfl a b ha hb]; exact rb64881 a b ha hb w
    · rw [← rbi_eq 64886 22 8 16 (by decide +kernel) (by decide +kernel) (by omega) (by omega) rfl a b ha hb]; exact rb64886 a b ha hb w
    · rw [← rbi_eq 64887 23 8 16 (by decide +kernel) (by decide +kernel) (by omega) (by omega) rfl a b ha hb]; exact rb64887 a b ha hb w
    · rw [← rbi_eq 64888 24 8 16 (by decide +kernel) (by decide +kernel) (by omega) (by omega) rfl a b ha hb]; exact rb64888 a b ha hb w
    · rw [← rbi_eq 64889 25 8 16 (by decide +kernel) (by decide +kernel) (by omega) (by omega) rfl a b ha hb]; exact rb64889 a b ha hb w
    · rw [← rbi_eq 64879 15 8 16 (by decide +kernel) (by decide +kernel) (by omega) (by omega) rfl a b ha hb]; exact rb64879 a b ha hb w
    · rw [← rbi_eq 64880 16 8 16 (by decide +kernel) (by decide +kernel) (by omega) (by omega) rfl a b ha hb]; exact rb64880 a b ha hb w
    · rw [← rbi_eq 64882 18 8 16 (by decide +kernel) (by decide +kernel) (by omega) (by omega) rfl a b ha hb]; exact rb64882 a b ha hb w
    · rw [← rbi_eq 64883 19 8 16 (by decide +kernel) (by decide +kernel) (by omega) (by omega) rfl a b ha hb]; exact rb64883 a b ha hb w
    · rw [← rbi_eq 64891 27 8 16 (by decide +kernel) (by decide +kernel) (by omega) (by omega) rfl a b ha hb]; exact rb64891 a b ha hb w
    · exact absurd h2.2 (by decide +kernel)
    · exact absurd h2.2 (by decide +kernel)
    · exact absurd h2.2 (by decide +kernel)
    · exact absurd h2.2 (by decide +kernel)
    · exact absurd h2.2 (by decide +kernel)
    · exact absurd h2.2 (by decide +kernel)
    · rw [← rbi_eq 64910 14 16 8 (by decide +kernel) (by decide +kernel) (by omega) (by omega) rfl a b ha hb]; exact rb64910 a b ha hb w
    · rw [← rbi_eq 64913 17 16 8 (by decide +kernel) (by decide +kernel) (by omega) (by omega) rfl a b ha hb]; exact rb64913 a b ha hb w
    · rw [← rbi_eq 64918 22 16 8 (by decide +kernel) (by decide +kernel) (by omega) (by omega) rfl a b ha hb]; exact rb64918 a b ha hb w
    · rw [← rbi_eq 64919 23 16 8 (by decide +kernel) (by decide +kernel) (by omega) (by omega) rfl a b ha hb]; exact rb64919 a b ha hb w
    · rw [← rbi_eq 64920 24 16 8 (by decide +kernel) (by decide +kernel) (by omega) (by omega) rfl a b ha hb]; exact rb64920 a b ha hb w
    · rw [← rbi_eq 64921 25 16 8 (by decide +kernel) (by decide +kernel) (by omega) (by omega) rfl a b ha hb]; exact rb64921 a b ha hb w
    · rw [← rbi_eq 64911 15 16 8 (by decide +kernel) (by decide +kernel) (by omega) (by omega) rfl a b ha hb]; exact rb64911 a b ha hb w
    · rw [← rbi_eq 64912 16 16 8 (by decide +kernel) (by decide +kernel) (by omega) (by omega) rfl a b ha hb]; exact rb64912 a b ha hb w
    · rw [← rbi_eq 64914 18 16 8 (by decide +kernel) (by decide +kernel) (by omega) (by omega) rfl a b ha hb]; exact rb64914 a b ha hb w
    · rw [← rbi_eq 64915 19 16 8 (by decide +kernel) (by decide +kernel) (by omega) (by omega) rfl a b ha hb]; exact rb64915 a b ha hb w
    · rw [← rbi_eq 64923 27 16 8 (by decide +kernel) (by decide +kernel) (by omega) (by omega) rfl a b ha hb]; exact rb64923 a b ha hb w
    · rw [← rbi_eq 64917 21 16 8 (by decide +kernel) (by decide +kernel) (by omega) (by omega) rfl a b ha hb]; exact rb64917 a b ha hb w
    · exact absurd h2.2 (by decide +kernel)
    · exact absurd h2.2 (by decide +kernel)
    · exact absurd h2.2 (by decide +kernel)
    · exact absurd h2.2 (by decide +kernel)
    · exact absurd h2.2 (by decide +kernel)
    · rw [← rbi_eq 64942 14 32 4 (by decide +kernel) (by decide +kernel) (by omega) (by omega) rfl a b ha hb]; exact rb64942 a b ha hb w
    · rw [← rbi_eq 64945 17 32 4 (by decide +kernel) (by decide +kernel) (by omega) (by omega) rfl a b ha hb]; exact rb64945 a b ha hb w
    · rw [← rbi_eq 64950 22 32 4 (by decide +kernel) (by decide +kernel) (by omega) (by omega) rfl a b ha hb]; exact rb64950 a b ha hb w
    · rw [← rbi_eq 64951 23 32 4 (by decide +kernel) (by decide +kernel) (by omega) (by omega) rfl a b ha hb]; exact rb64951 a b ha hb w
    · rw [← rbi_eq 64952 24 32 4 (by decide +kernel) (by decide +kernel) (by omega) (by omega) rfl a b ha hb]; exact rb64952 a b ha hb w
    · rw [← rbi_eq 64953 25 32 4 (by decide +kernel) (by decide +kernel) (by omega) (by omega) rfl a b ha hb]; exact rb64953 a b ha hb w
    · rw [← rbi_eq 64949 21 32 4 (by decide +kernel) (by decide +kernel) (by omega) (by omega) rfl a b ha hb]; exact rb64949 a b ha hb w
    · exact absurd h2.2 (by decide +kernel)
    · exact absurd h2.2 (by decide +kernel)
    · exact absurd h2.2 (by decide +kernel)
    · exact absurd h2.2 (by decide +kernel)
    · exact absurd h2.2 (by decide +kernel)
    · rw [← rbi_eq 64974 14 64 2 (by decide +kernel) (by decide +kernel) (by omega) (by omega) rfl a b ha hb]; exact rb64974 a b ha hb w
    · rw [← rbi_eq 64977 17 64 2 (by decide +kernel) (by decide +kernel) (by omega) (by omega) rfl a b ha hb]; exact rb64977 a b ha hb w
    · rw [← rbi_eq 64981 21 64 2 (by decide +kernel) (by decide +kernel) (by omega) (by omega) rfl a b ha hb]; exact rb64981 a b ha hb w
  · have e : biV op a b = zV := by unfold biV; rw [if_neg h]; rfl
    rw [if_neg h, e]
    refine bno op ?_ a b ha hb w
    unfold biOk at h
    simp only [Bool.and_eq_true, bne_iff_ne, ne_eq, decide_eq_true_eq, not_and] at h
    split
    · omega
    · have := h (by assumption); omega
end Ar
end Go.Proofs.Ytalnkkmbjaollaa
