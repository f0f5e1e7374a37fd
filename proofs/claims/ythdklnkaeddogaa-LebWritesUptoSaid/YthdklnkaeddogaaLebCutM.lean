/-
  What reading gives of a form's beginning, and of its rest. Of no program.
-/
import Derived.Test.YthdklnkaeddogaaLebBack
namespace Go.Proofs.Ythdklnkaeddogaa
open Go.RowKit LebM
theorem fitB_big (s : Bool) {c left : Int} (h : 7 < left) : fitB s c left = true := by
  unfold fitB fitS fitU
  cases s <;> simp <;> omega
theorem rd_begin (s : Bool) (f : Nat → Int) (k : Nat) (hk : k ≤ 9) (h : ∀ i, i < k → 128 ≤ f i) : ∀ (d r i : Nat) (x : Int), i + d = k → d < r → rd s f k 64 0 r i x = (0, 0, 0, 5)
  | 0, r, i, x, hi, hr => by
    obtain ⟨r', rfl⟩ : ∃ r', r = r' + 1 := ⟨r - 1, by omega⟩
    exact rd_short (by omega)
  | d + 1, r, i, x, hi, hr => by
    obtain ⟨r', rfl⟩ : ∃ r', r = r' + 1 := ⟨r - 1, by omega⟩
    rw [rd_more (by omega) (fitB_big s (by omega)) (by omega) (by rw [Nat.zero_add]; exact h i (by omega))]
    exact rd_begin s f k hk h d r' (i + 1) _ (by omega) (by omega)
theorem read_begin (s : Bool) (f : Nat → Int) (k : Nat) (hk : k ≤ 9) (h : ∀ i, i < k → 128 ≤ f i) : LebM.read s f k 0 64 = (0, 0, 0, 5) := by
  unfold LebM.read
  rw [if_neg (by omega)]
  exact rd_begin s f k hk h k 10 0 0 (by omega) (by omega)
theorem lebU_high : ∀ m n i, i + 1 < (lebU m n).length → 128 ≤ (lebU m n).getD i 0
  | 0, n, i, h => by simp [lebU] at h
  | m + 1, n, i, h => by
    unfold lebU at h ⊢
    split at h
    · simp at h
    · rename_i hn
      rw [if_neg hn]
      cases i with
      | zero => simp; omega
      | succ i =>
        have := lebU_high m (n / 128) i (by simpa using h)
        simpa using this
theorem lebS_high : ∀ m n i, i + 1 < (lebS m n).length → 128 ≤ (lebS m n).getD i 0
  | 0, n, i, h => by simp [lebS] at h
  | m + 1, n, i, h => by
    unfold lebS at h ⊢
    split at h
    · simp at h
    · rename_i hn
      rw [if_neg hn]
      cases i with
      | zero => simp; omega
      | succ i =>
        have := lebS_high m (n / 128) i (by simpa using h)
        simpa using this
theorem lebS_byte : ∀ m n, ∀ x ∈ lebS m n, 0 ≤ x ∧ x < 256
  | 0, n, x, hx => by
    simp only [lebS, List.mem_singleton] at hx
    omega
  | m + 1, n, x, hx => by
    unfold lebS at hx
    split at hx
    · simp only [List.mem_singleton] at hx
      omega
    · rcases List.mem_cons.1 hx with h1 | h1
      · omega
      · exact lebS_byte m (n / 128) x h1
theorem lebS_pos : ∀ m n, 0 < (lebS m n).length
  | 0, _ => by simp [lebS]
  | m + 1, n => by unfold lebS; split <;> simp
theorem lebU_drop : ∀ (k m : Nat) (n : Int), k < (lebU m n).length → k ≤ m ∧ (lebU m n).length = k + (lebU (m - k) (n / 128 ^ k)).length ∧ ∀ j, (lebU m n).getD (k + j) 0 = (lebU (m - k) (n / 128 ^ k)).getD j 0
  | 0, m, n, _ => by simp
  | k + 1, 0, n, h => by simp [lebU] at h
  | k + 1, m + 1, n, h => by
    have e : n / 128 ^ (k + 1) = n / 128 / 128 ^ k := by rw [Int.pow_succ, Int.mul_comm, ← Int.ediv_ediv_of_nonneg (by decide)]
    have he : lebU (m + 1) n = if n ≤ 127 then [n] else (n % 128 + 128) :: lebU m (n / 128) := by rw [lebU]
    rw [he] at h ⊢
    rw [e, show m + 1 - (k + 1) = m - k by omega]
    split at h
    · simp at h
    · rename_i hn
      rw [if_neg hn]
      obtain ⟨h1, h2, h3⟩ := lebU_drop k m (n / 128) (by simpa using h)
      refine ⟨by omega, by simp only [List.length_cons]; omega, fun j => ?_⟩
      rw [show k + 1 + j = k + j + 1 by omega]
      have := h3 j
      simpa using this
theorem read_rest {n : Int} (hn : 0 ≤ n ∧ n < 18446744073709551616) {k : Nat} (hk : k < (formU n).length) : ∃ wd, LebM.read false (lst (formU n)) (formU n).length k 64 = (n / 128 ^ k, wd, ((formU n).length : Int), 0) := by
  obtain ⟨h1, h2, h3⟩ := lebU_drop k 9 n hk
  have hp := p128pos k
  have hq0 : 0 ≤ n / 128 ^ k := Int.ediv_nonneg hn.1 (Int.le_of_lt hp)
  have hq1 : n / 128 ^ k ≤ n := Int.ediv_le_self _ hn.1
  have hq2 : n / 128 ^ k < 128 ^ (9 - k + 1) := by
    apply Int.ediv_lt_of_lt_mul hp
    rw [← Int.pow_add, show 9 - k + 1 + k = 9 + 1 by omega]
    exact formU_lt hn.2
  have h := rd_form (lst (formU n)) (formU n).length k 64 (9 - k) 10 0 0 (n / 128 ^ k) hq0 hq2 (by rw [Int.pow_zero, Int.mul_one]; omega) (by omega) (by omega) (fun j hj => by rw [Nat.zero_add]; exact h3 j) (by rw [Nat.zero_add]; exact Nat.le_of_eq h2.symm)
  unfold LebM.read
  rw [if_neg (by omega), Int.toNat_natCast]
  refine ⟨7 * ((0 + (lebU (9 - k) (n / 128 ^ k)).length : Nat) : Int), ?_⟩
  have h' : rd false (lst (formU n)) (formU n).length 64 k 10 0 0 = _ := h
  rw [h', if_pos (by rw [Nat.mul_zero, Nat.sub_zero, show (2 : Int) ^ 64 = 18446744073709551616 from rfl]; omega)]
  refine tup4 (by rw [Int.pow_zero, Int.mul_one, Int.zero_add]) rfl ?_
  rw [show (formU n).length = k + (lebU (9 - k) (n / 128 ^ k)).length from h2, Nat.zero_add]
/-- PutS of one number -/
theorem puts1 (n : Int) (hn : -9223372036854775808 ≤ n ∧ n ≤ 9223372036854775807) (w : World) : Calls Try.prog 17 #[.slice (some ⟨w.heap.size, 0, none⟩) 1 1] (w.alloc (.cells #[.int .i64 n] 2)) fun e w' => ∃ sv, e = .returned sv ∧ Gr w w' ∧ w'.ownsRow w.heap.size 5 1 sv (formS n).length (u8s (formS n)) := by
  have h := puts_any (.slice (some ⟨w.heap.size, 0, none⟩) 1 1) 1 (lst [n]) (lst_bd (l := [n]) (by decide) (fun x hx => by simp at hx; omega)) (by decide) _ (ks_lit .i64 w [n] 2 (by simp) 1)
  rw [show forms formS (lst [n]) 1 = formS n from rfl] at h
  exact h.mono fun e w' ⟨sv, h1, h2, h3⟩ => ⟨sv, h1, gr_trans ((Gr.refl w).allocO _) h2, h3.1, by
    rcases h3.2 with h | ⟨g, cap, cur, e1, e2, e3⟩
    · exact .inl h
    · exact .inr ⟨g, cap, cur, e1, by simp at e2; omega, e3⟩⟩
theorem own_some {w : World} {base : Nat} {e : TypeId} {size : Nat} {v : Value} {n : Nat} {xs : List Value} (h : w.ownsRow base e size v n xs) (hn : 0 < n) : ∃ g c, v = .slice (some ⟨g, 0, none⟩) n c ∧ n ≤ c ∧ base ≤ g ∧ g < w.heap.size := by
  rcases h.2 with ⟨_, rfl⟩ | ⟨g, cap, cur, rfl, hb, hg, hnc, _⟩
  · omega
  · exact ⟨g, cap, rfl, hnc, hb, (Array.getElem?_eq_some_iff.1 hg).1⟩
theorem u8s_cut {w : World} {a : Option Addr} {c n : Nat} {f : Nat → Int} (h : U8s w (.slice a n c) n f) {k : Nat} (hk : k ≤ n) : U8s w (.slice a k c) k f := by
  rcases h with ⟨rfl, x, c', he⟩ | ⟨hl, b, off, cap, he, hc⟩
  · obtain rfl : k = 0 := by omega
    exact .inl ⟨rfl, _, _, rfl⟩
  · obtain ⟨rfl, _, rfl⟩ := Value.slice.inj he
    exact .inr ⟨by omega, b, off, c, rfl, fun j hj => hc j (by omega)⟩
end Go.Proofs.Ythdklnkaeddogaa
