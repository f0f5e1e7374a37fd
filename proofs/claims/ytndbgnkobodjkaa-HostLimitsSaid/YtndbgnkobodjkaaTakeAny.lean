/-
  Take and the reference's Take, of all types and halves.
-/
import Derived.Test.YtndbgnkobodjkaaTake
namespace Go.Proofs.Ytndbgnkobodjkaa
open Go.RowKit VecM
/-- a slice of uint64 that reads as zs, and whose room is no less than its length -/
def U64c (w : World) (sv : Value) (len : Nat) (zs : Nat → Int) : Prop :=
  (len = 0 ∧ ∃ x c, sv = .slice x 0 c) ∨ (len ≤ 9223372036854775807 ∧ ∃ b off cap, len ≤ cap ∧ sv = .slice (some ⟨b, off, none⟩) len cap ∧ ∀ j, j < len → w.cell? ⟨b, off + j, none⟩ = some (.int .u64 (zs j)))
theorem u64s_of_c {w : World} {sv : Value} {len : Nat} {zs : Nat → Int} (h : U64c w sv len zs) : U64s w sv len zs := by
  rcases h with h | ⟨hl, b, o, c, _, rfl, hc⟩
  · exact .inl h
  · exact .inr ⟨hl, b, o, c, rfl, hc⟩
theorem u64c_gr {w w' : World} {sv : Value} {len : Nat} {zs : Nat → Int} (h : U64c w sv len zs) (hg : Gr w w') : U64c w' sv len zs := by
  rcases h with h | ⟨hl, b, off, cap, hcap, rfl, hc⟩
  · exact .inl h
  · exact .inr ⟨hl, b, off, cap, hcap, rfl, fun j hj => gr_cell hg (hc j hj)⟩
theorem u64c_zero {w : World} {a : Value} {zs : Nat → Int} (h : U64c w a 0 zs) : ∃ x c, a = .slice x 0 c := by
  rcases h with ⟨_, x, c, rfl⟩ | ⟨_, b, o, c, _, rfl, _⟩
  · exact ⟨_, _, rfl⟩
  · exact ⟨_, _, rfl⟩
theorem slice_u64c {w : World} {sv : Value} {n : Nat} {ts : Nat → Int} (h : U64c w sv n ts) : ∃ a c, sv = .slice a n c := by
  rcases h with ⟨rfl, x, c, rfl⟩ | ⟨_, b, o, c, _, rfl, _⟩
  · exact ⟨_, _, rfl⟩
  · exact ⟨_, _, rfl⟩
def takX (ts : Nat → Int) (n m : Nat) : Int := if okT ts n ∧ needN ts n = m then 0 else 1
def takN (ts : Nat → Int) (n m : Nat) : Nat := if okT ts n ∧ needN ts n = m then n else 0
theorem takX_yes {ts : Nat → Int} {n m : Nat} (h : okT ts n ∧ needN ts n = m) : takX ts n m = 0 := if_pos h
theorem takX_no {ts : Nat → Int} {n m : Nat} (h : ¬ (okT ts n ∧ needN ts n = m)) : takX ts n m = 1 := if_neg h
theorem takN_yes {ts : Nat → Int} {n m : Nat} (h : okT ts n ∧ needN ts n = m) : takN ts n m = n := if_pos h
theorem takN_no {ts : Nat → Int} {n m : Nat} (h : ¬ (okT ts n ∧ needN ts n = m)) : takN ts n m = 0 := if_neg h
theorem needN_pos {ts : Nat → Int} {n : Nat} (h : okT ts n) (hn : n ≠ 0) : 0 < needN ts n := by
  have h1 := needN_le ts (show 1 ≤ n by omega)
  have h2 : (needN ts 1 : Int) = needN ts 0 + needI (ts 0) := needN_succ ts 0
  have h3 := h 0 (by omega)
  have h4 := (needI_bd (ts 0)).1
  omega
section
variable {tv hv : Value} {n m : Nat} {ts zs : Nat → Int} {w : World}
theorem take_any (hn : n ≤ 1099511627776) (ht : I64s w tv n ts) (hh : U64c w hv m zs) :
    Calls Try.prog 36 #[tv, hv] w fun e w' => ∃ sv, e = .returned (.tuple #[sv, .int .i64 (takX ts n m)]) ∧ Gr w w' ∧ w'.ownsRow w.heap.size 86 16 sv (takN ts n m) (vcs (takeV ts zs) (takN ts n m)) := by
  by_cases h : okT ts n ∧ needN ts n = m
  · rw [takX_yes h, takN_yes h]
    obtain ⟨ho, hm⟩ := h
    by_cases h0 : n = 0
    · subst h0
      obtain rfl : m = 0 := by rw [← hm]; simp [needN, needS]
      obtain ⟨a, c, rfl⟩ := i64s_zero ht
      obtain ⟨a', c', rfl⟩ := u64c_zero hh
      exact (take_zero a a' c c' w).mono fun e w' h => ⟨_, h.1, h.2, World.ownsRow_nil _ _ _ _⟩
    · have hp := needN_pos ho h0
      rcases ht with ⟨h, _⟩ | ⟨_, tb, to, tc, rfl, ht⟩
      · exact absurd h h0
      · rcases hh with ⟨h, _⟩ | ⟨_, b, off, cap, hcap, rfl, hc⟩
        · omega
        · exact take_some tb to tc b off cap n m ts zs w hn ho hm hcap (by omega) ht hc
  · rw [takX_no h, takN_no h]
    obtain ⟨a', c', e2⟩ := slice_u64c hh
    subst e2
    exact (take_no tv n m a' c' ts w hn ht h).mono fun e w' h => ⟨_, h.1, h.2, World.ownsRow_nil _ _ _ _⟩
theorem rtake_any (hn : n ≤ 1099511627776) (hz : ∀ j, 0 ≤ zs j ∧ zs j < 18446744073709551616) (ht : I64s w tv n ts) (hh : U64c w hv m zs) :
    Calls Try.prog 32 #[tv, hv] w fun e w' => ∃ sv, e = .returned (.tuple #[sv, .int .i64 (takX ts n m)]) ∧ Gr w w' ∧ w'.ownsRow w.heap.size 86 16 sv (takN ts n m) (vcs (takeV ts zs) (takN ts n m)) := by
  by_cases h : okT ts n ∧ needN ts n = m
  · rw [takX_yes h, takN_yes h]
    obtain ⟨ho, hm⟩ := h
    by_cases h0 : n = 0
    · subst h0
      obtain rfl : m = 0 := by rw [← hm]; simp [needN, needS]
      obtain ⟨a, c, rfl⟩ := i64s_zero ht
      obtain ⟨a', c', rfl⟩ := u64c_zero hh
      exact (rtake_zero a a' c c' w).mono fun e w' h => ⟨_, h.1, h.2, World.ownsRow_nil _ _ _ _⟩
    · have hp := needN_pos ho h0
      rcases ht with ⟨h, _⟩ | ⟨_, tb, to, tc, rfl, ht⟩
      · exact absurd h h0
      · rcases hh with ⟨h, _⟩ | ⟨_, b, off, cap, hcap, rfl, hc⟩
        · omega
        · exact rtake_some tb to tc b off cap n m ts zs hz w hn ho hm ht hc
  · rw [takX_no h, takN_no h]
    obtain ⟨a', c', e2⟩ := slice_u64c hh
    subst e2
    exact (rtake_no tv n m a' c' ts w hn ht h).mono fun e w' h => ⟨_, h.1, h.2, World.ownsRow_nil _ _ _ _⟩
end
theorem vcs_len (f : Nat → Nat → Int) : ∀ k, (vcs f k).length = k * 16
  | 0 => rfl
  | k + 1 => by rw [vcs_succ, List.length_append, vcs_len f k]; simp; omega
theorem vcs_get (f : Nat → Nat → Int) : ∀ (n k m : Nat), k < n → m < 16 → (vcs f n)[k * 16 + m]? = some (.int .u8 (f k m))
  | 0, k, m, h, _ => by omega
  | n + 1, k, m, h, hm => by
    rw [vcs_succ]
    by_cases hk : k < n
    · rw [List.getElem?_append_left (by rw [vcs_len]; omega)]
      exact vcs_get f n k m hk hm
    · obtain rfl : k = n := by omega
      rw [List.getElem?_append_right (by rw [vcs_len]; omega), vcs_len, Array.getElem?_toList, show k * 16 + m - k * 16 = m by omega]
      exact bs_get _ _ hm
theorem vecs_of_owns {w : World} {base : Nat} {e : TypeId} {v : Value} {n : Nat} {f : Nat → Nat → Int} (h : w.ownsRow base e 16 v n (vcs f n)) : Vecs w v n f := by
  rcases h.2 with ⟨rfl, rfl⟩ | ⟨g, cap, cur, rfl, hb, hg, hn, hcap, hsz, hcur⟩
  · exact .inl ⟨rfl, _, _, rfl⟩
  · refine .inr ⟨by unfold maxLen at hcap; omega, g, 0, cap, rfl, fun j hj m hm => ?_⟩
    refine (cell_of_row _ _ _ _ _ _ hg).trans ?_
    have h1 := vcs_get f n j m hj hm
    rw [← hcur, List.getElem?_take_of_lt (by omega)] at h1
    rw [← Array.getElem?_toList, Nat.zero_add]
    exact h1
end Go.Proofs.Ytndbgnkobodjkaa
