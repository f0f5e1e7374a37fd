/-
  Texts of this seat, joined: LebAwake, LebForm, LebBack, LebCutM, LebSgnM, LebRef, LebRRead, LebRUS. Each says what it proves.
-/
import Derived.Test.YtebkabidojipoaaMr4
import Derived.Laws.BytesArg
import Derived.OwnWalk
/- LebAwake -/
namespace Go.Proofs.Ytebkabidojipoaa
open Go.RowKit LebM
def lst (l : List Int) (j : Nat) : Int := l.getD j 0
theorem ks_lit (k : IntKind) (w : World) (l : List Int) (t : TypeId) (hl : l.length ≤ 9223372036854775807) (c : Nat) : Ks k (w.alloc (.cells (l.map (Value.int k)).toArray t)) (.slice (some ⟨w.heap.size, 0, none⟩) l.length c) l.length (lst l) :=
 .inr ⟨hl, _, 0, c, rfl, fun j hj => by
  rw [Nat.zero_add]
  refine (cell_of_row _ _ j _ _ _ (heap_alloc_new w _)).trans ?_
  unfold lst
  simp [List.getD_eq_getElem?_getD, hj]⟩
theorem u8s_lit (w : World) (l : List Int) (t : TypeId) (hl : l.length ≤ 9223372036854775807) (c : Nat) : U8s (w.alloc (.cells (u8s l).toArray t)) (.slice (some ⟨w.heap.size, 0, none⟩) l.length c) l.length (lst l) := ks_lit .u8 w l t hl c
theorem lst_by {l : List Int} (h : ∀ x ∈ l, 0 ≤ x ∧ x < 256) : By (lst l) := fun j => by
 unfold lst
 rw [List.getD_eq_getElem?_getD]
 by_cases hj : j < l.length
 ·rw [List.getElem?_eq_getElem hj]; exact h _ (List.getElem_mem hj)
 ·rw [List.getElem?_eq_none (by omega)]; exact ⟨by decide, by decide⟩
theorem lst_bd {l : List Int} {a b : Int} (h0 : a ≤ 0 ∧ 0 ≤ b) (h : ∀ x ∈ l, a ≤ x ∧ x ≤ b) : ∀ j, a ≤ lst l j ∧ lst l j ≤ b := fun j => by
 unfold lst
 rw [List.getD_eq_getElem?_getD]
 by_cases hj : j < l.length
 ·rw [List.getElem?_eq_getElem hj]; exact h _ (List.getElem_mem hj)
 ·rw [List.getElem?_eq_none (by omega)]; exact h0
theorem u8s_of_owns {w : World} {base : Nat} {e : TypeId} {v : Value} {l : List Int} (h : w.ownsRow base e 1 v l.length (u8s l)) : U8s w v l.length (lst l) := by
 rcases h.2 with ⟨h1, h2⟩ | ⟨g, cap, cur, rfl, hb, hh, hn, hcap, hsz, htk⟩
 ·exact .inl ⟨h2, _, _, h1⟩
 ·refine .inr ⟨by unfold maxLen at hcap; omega, g, 0, cap, rfl, fun j hj => ?_⟩
  rw [Nat.zero_add, cell_of_row _ _ j _ _ _ hh]
  have h3 : (u8s l)[j]? = some (.int .u8 (lst l j)) := by unfold u8s lst; simp [List.getD_eq_getElem?_getD, hj]
  rw [← htk, Nat.mul_one, List.getElem?_take, if_pos hj] at h3
  simpa using h3
def Str (w : World) (v : Value) (xs : List Int) : Prop := ∀ dst, Try.prog.underlying dst = some .string → (convert 22 dst v).run Try.prog w = .ok (.string (strOfNums xs)) w
theorem str_of_u8s {w : World} {v : Value} {l : List Int} (h : U8s w v l.length (lst l)) (h0 : v = .slice none 0 0 ∨ 0 < l.length) : Str w v l := by
 rcases h with ⟨hl, a, c, rfl⟩ | ⟨_, b, off, cap, rfl, hc⟩
 ·rcases h0 with h0 | h0
  ·obtain ⟨rfl, _, rfl⟩ := Value.slice.inj h0
   have : l = [] := List.eq_nil_of_length_eq_zero hl
   subst this
   exact run_convert_bytes_nil w 22 5 Try.underlying22 Try.underlying5 0 0
  ·omega
 ·exact run_convert_bytes_arg w 22 5 Try.underlying22 Try.underlying5 b off l.length cap l rfl hc
theorem str_of_owns {w : World} {base : Nat} {e : TypeId} {v : Value} {l : List Int} (h : w.ownsRow base e 1 v l.length (u8s l)) : Str w v l := by
 rcases h.2 with ⟨h1, h2⟩ | ⟨g, cap, cur, rfl, hb, hh, hn, hcap, hsz, htk⟩
 ·exact str_of_u8s (u8s_of_owns h) (.inl h1)
 ·by_cases h0 : 0 < l.length
  ·exact str_of_u8s (u8s_of_owns h) (.inr h0)
  ·have : l = [] := List.eq_nil_of_length_eq_zero (by omega)
   subst this
   exact run_convert_bytes_arg w 22 5 Try.underlying22 Try.underlying5 g 0 0 cap [] rfl (fun i hi => by omega)
theorem a1 : LebM.read false (lst [229, 142, 38]) 3 0 32 = (624485, 21, 3, 0) := by decide +kernel
theorem a2 : LebM.read true (lst [192, 187, 120]) 3 0 32 = (1973696, 21, 3, 0) := by decide +kernel
theorem a3 : forms formU (lst [624485, 0, 128]) 3 = [229, 142, 38, 0, 128, 1] := by decide +kernel
theorem a4 : forms formS (lst [-123456]) 1 = [192, 187, 120] := by decide +kernel
theorem s1 : strOfNums [229, 142, 38, 0, 128, 1] = { data := #[229, 142, 38, 0, 128, 1] } := by rfl
theorem s2 : strOfNums [192, 187, 120] = { data := #[192, 187, 120] } := by rfl
end Go.Proofs.Ytebkabidojipoaa
/- LebForm -/
namespace Go.Proofs.Ytebkabidojipoaa
open Go.RowKit LebM
theorem fitU_of {c left : Int} (h : 7 ≤ left ∨ c < 2 ^ left.toNat) : fitU c left = true := by
 unfold fitU
 rcases h with h | h <;> simp [h]
theorem p2 (a b : Nat) : (2 : Int) ^ (a + b) = 2 ^ a * 2 ^ b := Int.pow_add 2 a b
theorem p2pos (a : Nat) : (0 : Int) < 2 ^ a := Int.pow_pos (by decide)
theorem p2le {a b : Nat} (h : a ≤ b) : (2 : Int) ^ a ≤ 2 ^ b := by
 obtain ⟨c, rfl⟩ := Nat.exists_eq_add_of_le h
 rw [p2]
 have h1 := p2pos a
 have h2 := p2pos c
 have := Int.mul_le_mul_of_nonneg_left (show (1 : Int) ≤ 2 ^ c by omega) (Int.le_of_lt h1)
 omega
theorem p128pos (a : Nat) : (0 : Int) < 128 ^ a := Int.pow_pos (by decide)
theorem mod64 {t : Int} (h0 : 0 ≤ t) (h : t < 18446744073709551616) : t % 18446744073709551616 = t := Int.emod_eq_of_lt h0 h
end Go.Proofs.Ytebkabidojipoaa
/- LebBack -/
namespace Go.Proofs.Ytebkabidojipoaa
open Go.RowKit LebM
theorem own_slice {w : World} {base : Nat} {e : TypeId} {size : Nat} {v : Value} {n : Nat} {xs : List Value} (h : w.ownsRow base e size v n xs) : ∃ a c, v = .slice a n c := by
 rcases h.2 with ⟨rfl, rfl⟩ | ⟨g, cap, cur, rfl, _⟩
 ·exact ⟨_, _, rfl⟩
 ·exact ⟨_, _, rfl⟩
theorem u8s_one (l : List Int) : ∀ u ∈ u8s l, u.oneCell' = true := fun u hu => by
 unfold u8s at hu
 obtain ⟨x, _, rfl⟩ := List.mem_map.1 hu
 rfl
end Go.Proofs.Ytebkabidojipoaa
/- LebCutM -/
namespace Go.Proofs.Ytebkabidojipoaa
open Go.RowKit LebM
theorem fitB_big (s : Bool) {c left : Int} (h : 7 < left) : fitB s c left = true := by
 unfold fitB fitS fitU
 cases s <;> simp <;> omega
theorem puts1 (n : Int) (hn : -9223372036854775808 ≤ n ∧ n ≤ 9223372036854775807) (w : World) : Calls Try.prog 47 #[.slice (some ⟨w.heap.size, 0, none⟩) 1 1] (w.alloc (.cells #[.int .i64 n] 2)) fun e w' => ∃ sv, e = .returned sv ∧ Gr w w' ∧ w'.ownsRow w.heap.size 5 1 sv (formS n).length (u8s (formS n)) := by
 have h := puts_any (.slice (some ⟨w.heap.size, 0, none⟩) 1 1) 1 (lst [n]) (lst_bd (l := [n]) (by decide) (fun x hx => by simp at hx; omega)) (by decide) _ (ks_lit .i64 w [n] 2 (by simp) 1)
 rw [show forms formS (lst [n]) 1 = formS n from rfl] at h
 exact h.mono fun e w' ⟨sv, h1, h2, h3⟩ => ⟨sv, h1, gr_trans ((Gr.refl w).allocO _) h2, h3.1, by
  rcases h3.2 with h | ⟨g, cap, cur, e1, e2, e3⟩
  ·exact .inl h
  ·exact .inr ⟨g, cap, cur, e1, by simp at e2; omega, e3⟩⟩
theorem own_some {w : World} {base : Nat} {e : TypeId} {size : Nat} {v : Value} {n : Nat} {xs : List Value} (h : w.ownsRow base e size v n xs) (hn : 0 < n) : ∃ g c, v = .slice (some ⟨g, 0, none⟩) n c ∧ n ≤ c ∧ base ≤ g ∧ g < w.heap.size := by
 rcases h.2 with ⟨_, rfl⟩ | ⟨g, cap, cur, rfl, hb, hg, hnc, _⟩
 ·omega
 ·exact ⟨g, cap, rfl, hnc, hb, (Array.getElem?_eq_some_iff.1 hg).1⟩
end Go.Proofs.Ytebkabidojipoaa
/- LebSgnM -/
namespace Go.Proofs.Ytebkabidojipoaa
open Go.RowKit LebM
theorem fitS_last {n left : Int} {q : Nat} (hn : -64 ≤ n ∧ n < 64) (hq : left = (q : Int) + 1) : fitS (n % 128) left = decide (-(2 ^ q) ≤ n ∧ n < 2 ^ q) := by
 have e : (left - 1).toNat = q := by omega
 unfold fitS
 rw [e]
 by_cases h7 : 7 < left
 ·have h1 := p2le (show 7 ≤ q by omega)
  have e7 : (2 : Int) ^ 7 = 128 := rfl
  rw [decide_eq_true h7, Bool.true_or, Bool.true_or, decide_eq_true (by omega)]
 ·have hq6 : q = 0 ∨ q = 1 ∨ q = 2 ∨ q = 3 ∨ q = 4 ∨ q = 5 ∨ q = 6 := by omega
  rw [Bool.eq_iff_iff]
  simp only [Bool.or_eq_true, decide_eq_true_eq]
  rcases hq6 with rfl | rfl | rfl | rfl | rfl | rfl | rfl
  all_goals
   simp only [show (2 : Int) ^ 0 = 1 from rfl, show (2 : Int) ^ 1 = 2 from rfl, show (2 : Int) ^ 2 = 4 from rfl, show (2 : Int) ^ 3 = 8 from rfl, show (2 : Int) ^ 4 = 16 from rfl, show (2 : Int) ^ 5 = 32 from rfl, show (2 : Int) ^ 6 = 64 from rfl]
   omega
theorem p7 (k : Nat) : (2 : Int) ^ (7 * k + 7) = 128 * 128 ^ k := by rw [p2, pow7, Int.mul_comm]; rfl
theorem p6 (k : Nat) : (2 : Int) ^ (7 * k + 6) = 64 * 128 ^ k := by rw [p2, pow7, Int.mul_comm]; rfl
theorem sval_last {n x : Int} {k : Nat} (hn : -64 ≤ n ∧ n < 64) (hx : 0 ≤ x ∧ x < 128 ^ k) (hk : k ≤ 9) (h1 : -9223372036854775808 ≤ n * 128 ^ k) (h2 : (n + 1) * 128 ^ k ≤ 9223372036854775808) :
  sval (x + n % 128 * 128 ^ k % 18446744073709551616) (7 * (k : Int) + 7) = x + n * 128 ^ k := by
 have hp := p128pos k
 have hadd : (n + 1) * 128 ^ k = n * 128 ^ k + 128 ^ k := by rw [Int.add_mul, Int.one_mul]
 unfold sval
 rw [show (7 * (k : Int) + 7 - 1).toNat = 7 * k + 6 by omega, show (7 * (k : Int) + 7).toNat = 7 * k + 7 by omega, p6, p7]
 by_cases h9 : k = 9
 ·subst h9
  have e : (128 : Int) ^ 9 = 9223372036854775808 := rfl
  rw [if_neg (by omega)]
  rw [e] at *
  have : n = -1 ∨ n = 0 := by omega
  rcases this with rfl | rfl
  ·rw [if_neg (by omega)]; omega
  ·rw [if_pos (by omega)]; omega
 ·have hp8 : (128 : Int) ^ k ≤ 72057594037927936 := by
   have := p2le (show 7 * k ≤ 56 by omega)
   rw [pow7] at this
   exact this
  by_cases hneg : n < 0
  ·have e1 : n % 128 = n + 128 := by omega
   have e2 : (n + 128) * 128 ^ k = n * 128 ^ k + 128 * 128 ^ k := by rw [Int.add_mul]
   have e3 : -64 * 128 ^ k ≤ n * 128 ^ k := Int.mul_le_mul_of_nonneg_right (by omega) (Int.le_of_lt hp)
   have e4 : n * 128 ^ k ≤ -1 * 128 ^ k := Int.mul_le_mul_of_nonneg_right (by omega) (Int.le_of_lt hp)
   rw [e1, e2, mod64 (by omega) (by omega), if_pos ⟨by omega, by omega, by omega⟩]
   omega
  ·have e1 : n % 128 = n := by omega
   have e3 : 0 ≤ n * 128 ^ k := Int.mul_nonneg (by omega) (Int.le_of_lt hp)
   have e4 : n * 128 ^ k ≤ 63 * 128 ^ k := Int.mul_le_mul_of_nonneg_right (by omega) (Int.le_of_lt hp)
   rw [e1, mod64 e3 (by omega), if_neg (by omega), if_pos (by omega)]
def SRes (B : Nat) (n x : Int) (k e : Nat) (r : Int × Int × Int × Int) : Prop :=
 (-(2 ^ (B - 7 * k - 1)) ≤ n ∧ n < 2 ^ (B - 7 * k - 1) ∧ sval r.1 r.2.1 = x + n * 128 ^ k ∧ r.2.2.1 = (e : Int) ∧ r.2.2.2 = 0) ∨ (¬ (-(2 ^ (B - 7 * k - 1)) ≤ n ∧ n < 2 ^ (B - 7 * k - 1)) ∧ r = (0, 0, 0, 6))
theorem rds_last {f : Nat → Int} {len a B r k : Nat} {x n : Int} (hn : -64 ≤ n ∧ n < 64) (hx : 0 ≤ x ∧ x < 128 ^ k) (hk9 : k ≤ 9) (h1 : -9223372036854775808 ≤ n * 128 ^ k) (h2 : (n + 1) * 128 ^ k ≤ 9223372036854775808) (hk : 7 * k < B) (hc : f (a + k) = n % 128) (hlen : a + k < len) :
  SRes B n x k (a + k + 1) (rd true f len B a (r + 1) k x) := by
 have hl : (B : Int) - 7 * (k : Int) = ((B - 7 * k - 1 : Nat) : Int) + 1 := by omega
 have hlo : lowI (f (a + k)) = n % 128 := by rw [hc]; unfold lowI; omega
 have hfit := fitS_last (left := (B : Int) - 7 * (k : Int)) hn hl
 by_cases hin : -(2 ^ (B - 7 * k - 1)) ≤ n ∧ n < 2 ^ (B - 7 * k - 1)
 ·left
  refine ⟨hin.1, hin.2, ?_⟩
  rw [rd_end (by omega) (by rw [hlo]; show fitS _ _ = true; rw [hfit]; exact decide_eq_true hin) (by omega), hlo]
  exact ⟨sval_last hn hx hk9 h1 h2, by push_cast; rfl, rfl⟩
 ·right
  refine ⟨hin, rd_bad (by omega) (.inl ?_)⟩
  rw [hlo]; show fitS _ _ = false; rw [hfit]; exact decide_eq_false hin
theorem rds_form (f : Nat → Int) (len a B : Nat) (hB : B ≤ 64) : ∀ (m r k : Nat) (x n : Int), -(64 * 128 ^ m) ≤ n → n < 64 * 128 ^ m → -9223372036854775808 ≤ n * 128 ^ k → (n + 1) * 128 ^ k ≤ 9223372036854775808 → 0 ≤ x → x < 128 ^ k → m + 1 ≤ r → 7 * k < B →
  (∀ j, j < (lebS m n).length → f (a + (k + j)) = (lebS m n).getD j 0) → a + (k + (lebS m n).length) ≤ len → SRes B n x k (a + (k + (lebS m n).length)) (rd true f len B a r k x) := by
 intro m
 induction m with
 | zero =>
  intro r k x n hn0 hn1 h1 h2 hx0 hx1 hr hk hf hlen
  obtain ⟨r', rfl⟩ : ∃ r', r = r' + 1 := ⟨r - 1, by omega⟩
  have e : (128 : Int) ^ 0 = 1 := rfl
  rw [e] at hn0 hn1
  rw [lebS_end (by omega)] at *
  have := rds_last (f := f) (len := len) (a := a) (B := B) (r := r') (k := k) (x := x) (n := n) (by omega) ⟨hx0, hx1⟩ (by omega) h1 h2 hk (by have := hf 0 (by simp); simpa using this) (by simp only [List.length_singleton] at hlen; omega)
  exact this
 | succ m ih =>
  intro r k x n hn0 hn1 h1 h2 hx0 hx1 hr hk hf hlen
  obtain ⟨r', rfl⟩ : ∃ r', r = r' + 1 := ⟨r - 1, by omega⟩
  by_cases hin : -64 ≤ n ∧ n < 64
  ·rw [lebS_end hin] at *
   have := rds_last (f := f) (len := len) (a := a) (B := B) (r := r') (k := k) (x := x) (n := n) hin ⟨hx0, hx1⟩ (by omega) h1 h2 hk (by have := hf 0 (by simp); simpa using this) (by simp only [List.length_singleton] at hlen; omega)
   exact this
  ·rw [lebS_go hin] at *
   have hc : f (a + k) = n % 128 + 128 := by have := hf 0 (by simp); simpa using this
   have hlo : lowI (f (a + k)) = n % 128 := by rw [hc]; unfold lowI; omega
   simp only [List.length_cons] at hlen hf ⊢
   have hp := p128pos k
   by_cases h7 : B - 7 * k ≤ 7
   ·right
    have := p2le (show B - 7 * k - 1 ≤ 6 by omega)
    have e6 : (2 : Int) ^ 6 = 64 := rfl
    exact ⟨by omega, rd_bad (by omega) (.inr ⟨by omega, by omega⟩)⟩
   ·have hk8 : k ≤ 8 := by omega
    have hp8 : (128 : Int) ^ k ≤ 72057594037927936 := by
     have := p2le (show 7 * k ≤ 56 by omega)
     rw [pow7] at this
     exact this
    have e3 : 0 ≤ n % 128 * 128 ^ k := Int.mul_nonneg (by omega) (Int.le_of_lt hp)
    have e4 : n % 128 * 128 ^ k ≤ 127 * 128 ^ k := Int.mul_le_mul_of_nonneg_right (by omega) (Int.le_of_lt hp)
    have e5 : (128 : Int) ^ (k + 1) = 128 * 128 ^ k := by rw [Int.pow_succ, Int.mul_comm]
    have e6 : n / 128 * 128 ^ (k + 1) = n * 128 ^ k - n % 128 * 128 ^ k := by
     rw [e5, ← Int.mul_assoc, ← Int.sub_mul]; congr 1; omega
    have e7 : (n / 128 + 1) * 128 ^ (k + 1) = n / 128 * 128 ^ (k + 1) + 128 ^ (k + 1) := by rw [Int.add_mul, Int.one_mul]
    have e8 : (n + 1) * 128 ^ k = n * 128 ^ k + 128 ^ k := by rw [Int.add_mul, Int.one_mul]
    have e9 : (128 : Int) ^ (m + 1) = 128 * 128 ^ m := by rw [Int.pow_succ, Int.mul_comm]
    have hhi : (n / 128 + 1) * 128 ^ (k + 1) ≤ 9223372036854775808 := by
     -- the next multiple of 128^(k+1) above n's is at most 2^63, because 2^63 is one
     have hd : (9223372036854775808 : Int) = 2 ^ (63 - 7 * (k + 1)) * 128 ^ (k + 1) := by
      rw [← pow7, ← p2, show 63 - 7 * (k + 1) + 7 * (k + 1) = 63 by omega]; rfl
     have hp1 := p128pos (k + 1)
     have hlt : n / 128 < 2 ^ (63 - 7 * (k + 1)) := by
      apply Classical.byContradiction
      intro hge
      have := Int.mul_le_mul_of_nonneg_right (show (2 : Int) ^ (63 - 7 * (k + 1)) ≤ n / 128 by omega) (Int.le_of_lt hp1)
      omega
     have := Int.mul_le_mul_of_nonneg_right (show n / 128 + 1 ≤ (2 : Int) ^ (63 - 7 * (k + 1)) by omega) (Int.le_of_lt hp1)
     omega
    have hlow : -9223372036854775808 ≤ n / 128 * 128 ^ (k + 1) := by
     have hd : (9223372036854775808 : Int) = 2 ^ (63 - 7 * (k + 1)) * 128 ^ (k + 1) := by
      rw [← pow7, ← p2, show 63 - 7 * (k + 1) + 7 * (k + 1) = 63 by omega]; rfl
     have hp1 := p128pos (k + 1)
     have hge : -(2 ^ (63 - 7 * (k + 1))) ≤ n / 128 := by
      apply Classical.byContradiction
      intro hlt
      have := Int.mul_le_mul_of_nonneg_right (show n / 128 + 1 ≤ -((2 : Int) ^ (63 - 7 * (k + 1))) by omega) (Int.le_of_lt hp1)
      rw [Int.neg_mul] at this
      omega
     have := Int.mul_le_mul_of_nonneg_right hge (Int.le_of_lt hp1)
     rw [Int.neg_mul] at this
     omega
    have hih := ih r' (k + 1) (x + n % 128 * 128 ^ k) (n / 128) (by omega) (by omega) hlow hhi (by omega) (by omega) (by omega) (by omega) (fun j hj => by
      have := hf (j + 1) (by omega)
      rw [show k + (j + 1) = k + 1 + j by omega] at this
      simpa using this) (by omega)
    rw [rd_more (by omega) (fitB_big true (by omega)) (by omega) (by omega), hlo, mod64 e3 (by omega)]
    have e10 : (2 : Int) ^ (B - 7 * k - 1) = 128 * 2 ^ (B - 7 * (k + 1) - 1) := by
     rw [show B - 7 * k - 1 = 7 + (B - 7 * (k + 1) - 1) by omega, p2]; rfl
    have e11 : (-(2 ^ (B - 7 * (k + 1) - 1)) ≤ n / 128 ∧ n / 128 < 2 ^ (B - 7 * (k + 1) - 1)) ↔ (-(2 ^ (B - 7 * k - 1)) ≤ n ∧ n < 2 ^ (B - 7 * k - 1)) := by rw [e10]; omega
    rcases hih with ⟨g1, g2, g3, g4, g5⟩ | ⟨g1, g2⟩
    ·obtain ⟨k1, k2⟩ := e11.1 ⟨g1, g2⟩
     exact .inl ⟨k1, k2, by rw [g3, e6]; omega, by rw [g4]; omega, g5⟩
    ·exact .inr ⟨fun h => g1 (e11.2 h), g2⟩
end Go.Proofs.Ytebkabidojipoaa
/- LebRef -/
namespace Go.Proofs.Ytebkabidojipoaa
open Go.RowKit LebM
def bt (c : Int) (i : Nat) : Int := c / 2 ^ i % 2
theorem bit_any (c : Int) (hc : 0 ≤ c ∧ c < 256) (i : Nat) (hi : i ≤ 7) (w : World) :
  Calls Try.prog 79 #[.int .u8 c, .int .i64 i] w fun e w' => e = .returned (.int .i64 (bt c i)) ∧ w = w' := by
 have hi' : i = 0 ∨ i = 1 ∨ i = 2 ∨ i = 3 ∨ i = 4 ∨ i = 5 ∨ i = 6 ∨ i = 7 := by omega
 rcases hi' with rfl | rfl | rfl | rfl | rfl | rfl | rfl | rfl
 ·have h1 : c.tmod 2 = bt c 0 := by rw [Int.tmod_eq_emod_of_nonneg (by omega)]; unfold bt; simp
  have h2 : wrap64 c = c := by unfold wrap64; omega
  have hb : 0 ≤ bt c 0 ∧ bt c 0 ≤ 1 := by rw [← h1, Int.tmod_eq_emod_of_nonneg (by omega)]; omega
  generalize bt c 0 = x at *
  clear hc hi
  go_enter Try.func79, Try.ntmps79
  go_wp2
  go_ret
  exact ⟨rfl, rfl⟩
 ·have h1 : (c / 2).tmod 2 = bt c 1 := by rw [Int.tmod_eq_emod_of_nonneg (by omega)]; unfold bt; simp
  have h2 : IntKind.i64.wrap (c / 2) = c / 2 := by rw [IntKind.wrap_i64]; omega
  have hb : 0 ≤ bt c 1 ∧ bt c 1 ≤ 1 := by rw [← h1, Int.tmod_eq_emod_of_nonneg (by omega)]; omega
  generalize bt c 1 = x at *
  clear hc hi
  go_enter Try.func79, Try.ntmps79
  go_wp2
  go_ret
  exact ⟨rfl, rfl⟩
 ·have h1 : (c / 4).tmod 2 = bt c 2 := by rw [Int.tmod_eq_emod_of_nonneg (by omega)]; unfold bt; simp
  have h2 : IntKind.i64.wrap (c / 4) = c / 4 := by rw [IntKind.wrap_i64]; omega
  have hb : 0 ≤ bt c 2 ∧ bt c 2 ≤ 1 := by rw [← h1, Int.tmod_eq_emod_of_nonneg (by omega)]; omega
  generalize bt c 2 = x at *
  clear hc hi
  go_enter Try.func79, Try.ntmps79
  go_wp2
  go_ret
  exact ⟨rfl, rfl⟩
 ·have h1 : (c / 8).tmod 2 = bt c 3 := by rw [Int.tmod_eq_emod_of_nonneg (by omega)]; unfold bt; simp
  have h2 : IntKind.i64.wrap (c / 8) = c / 8 := by rw [IntKind.wrap_i64]; omega
  have hb : 0 ≤ bt c 3 ∧ bt c 3 ≤ 1 := by rw [← h1, Int.tmod_eq_emod_of_nonneg (by omega)]; omega
  generalize bt c 3 = x at *
  clear hc hi
  go_enter Try.func79, Try.ntmps79
  go_wp2
  go_ret
  exact ⟨rfl, rfl⟩
 ·have h1 : (c / 16).tmod 2 = bt c 4 := by rw [Int.tmod_eq_emod_of_nonneg (by omega)]; unfold bt; simp
  have h2 : IntKind.i64.wrap (c / 16) = c / 16 := by rw [IntKind.wrap_i64]; omega
  have hb : 0 ≤ bt c 4 ∧ bt c 4 ≤ 1 := by rw [← h1, Int.tmod_eq_emod_of_nonneg (by omega)]; omega
  generalize bt c 4 = x at *
  clear hc hi
  go_enter Try.func79, Try.ntmps79
  go_wp2
  go_ret
  exact ⟨rfl, rfl⟩
 ·have h1 : (c / 32).tmod 2 = bt c 5 := by rw [Int.tmod_eq_emod_of_nonneg (by omega)]; unfold bt; simp
  have h2 : IntKind.i64.wrap (c / 32) = c / 32 := by rw [IntKind.wrap_i64]; omega
  have hb : 0 ≤ bt c 5 ∧ bt c 5 ≤ 1 := by rw [← h1, Int.tmod_eq_emod_of_nonneg (by omega)]; omega
  generalize bt c 5 = x at *
  clear hc hi
  go_enter Try.func79, Try.ntmps79
  go_wp2
  go_ret
  exact ⟨rfl, rfl⟩
 ·have h1 : (c / 64).tmod 2 = bt c 6 := by rw [Int.tmod_eq_emod_of_nonneg (by omega)]; unfold bt; simp
  have h2 : IntKind.i64.wrap (c / 64) = c / 64 := by rw [IntKind.wrap_i64]; omega
  have hb : 0 ≤ bt c 6 ∧ bt c 6 ≤ 1 := by rw [← h1, Int.tmod_eq_emod_of_nonneg (by omega)]; omega
  generalize bt c 6 = x at *
  clear hc hi
  go_enter Try.func79, Try.ntmps79
  go_wp2
  go_ret
  exact ⟨rfl, rfl⟩
 ·have h1 : (c / 128).tmod 2 = bt c 7 := by rw [Int.tmod_eq_emod_of_nonneg (by omega)]; unfold bt; simp
  have h2 : IntKind.i64.wrap (c / 128) = c / 128 := by rw [IntKind.wrap_i64]; omega
  have hb : 0 ≤ bt c 7 ∧ bt c 7 ≤ 1 := by rw [← h1, Int.tmod_eq_emod_of_nonneg (by omega)]; omega
  generalize bt c 7 = x at *
  clear hc hi
  go_enter Try.func79, Try.ntmps79
  go_wp2
  go_ret
  exact ⟨rfl, rfl⟩
theorem bt_bd (c : Int) (i : Nat) : 0 ≤ bt c i ∧ bt c i ≤ 1 := by unfold bt; omega
theorem bt7 (c : Int) (hc : 0 ≤ c ∧ c < 256) : bt c 7 = if c < 128 then 0 else 1 := by
 unfold bt
 rw [show (2 : Int) ^ 7 = 128 from rfl]
 split <;> omega
def okU (c : Int) (left : Int) (i : Nat) : Prop := ¬ (left ≤ (i : Int) ∧ bt c i = 1)
def okS (c : Int) (left : Int) (i : Nat) : Prop := ¬ (left ≤ (i : Int) ∧ bt c i ≠ bt c (left - 1).toNat)
instance decU (c left : Int) (i : Nat) : Decidable (okU c left i) := by unfold okU; infer_instance
instance decS (c left : Int) (i : Nat) : Decidable (okS c left i) := by unfold okS; infer_instance
theorem fitU_bits (c : Int) (hc : 0 ≤ c ∧ c < 256) (left : Int) (hl : 1 ≤ left) : fitB false (lowI c) left = true ↔ ∀ i, i < 7 → okU c left i := by
 show fitU (c % 128) left = true ↔ _
 by_cases h7 : 7 ≤ left
 ·rw [fitU_of (.inl h7)]
  exact ⟨fun _ i hi h => by omega, fun _ => rfl⟩
 ·obtain ⟨n, rfl⟩ := Int.eq_ofNat_of_zero_le hc.1
  have hn : n < 256 := by omega
  have hl' : left = 1 ∨ left = 2 ∨ left = 3 ∨ left = 4 ∨ left = 5 ∨ left = 6 := by omega
  rcases hl' with rfl | rfl | rfl | rfl | rfl | rfl
  ·have : ∀ n : Fin 256, fitU (((n.val : Nat) : Int) % 128) 1 = (List.range 7).all fun i => decide (okU ((n.val : Nat) : Int) 1 i) := by decide +kernel
   rw [this ⟨n, hn⟩, List.all_eq_true]; simp only [List.mem_range, decide_eq_true_eq]
  ·have : ∀ n : Fin 256, fitU (((n.val : Nat) : Int) % 128) 2 = (List.range 7).all fun i => decide (okU ((n.val : Nat) : Int) 2 i) := by decide +kernel
   rw [this ⟨n, hn⟩, List.all_eq_true]; simp only [List.mem_range, decide_eq_true_eq]
  ·have : ∀ n : Fin 256, fitU (((n.val : Nat) : Int) % 128) 3 = (List.range 7).all fun i => decide (okU ((n.val : Nat) : Int) 3 i) := by decide +kernel
   rw [this ⟨n, hn⟩, List.all_eq_true]; simp only [List.mem_range, decide_eq_true_eq]
  ·have : ∀ n : Fin 256, fitU (((n.val : Nat) : Int) % 128) 4 = (List.range 7).all fun i => decide (okU ((n.val : Nat) : Int) 4 i) := by decide +kernel
   rw [this ⟨n, hn⟩, List.all_eq_true]; simp only [List.mem_range, decide_eq_true_eq]
  ·have : ∀ n : Fin 256, fitU (((n.val : Nat) : Int) % 128) 5 = (List.range 7).all fun i => decide (okU ((n.val : Nat) : Int) 5 i) := by decide +kernel
   rw [this ⟨n, hn⟩, List.all_eq_true]; simp only [List.mem_range, decide_eq_true_eq]
  ·have : ∀ n : Fin 256, fitU (((n.val : Nat) : Int) % 128) 6 = (List.range 7).all fun i => decide (okU ((n.val : Nat) : Int) 6 i) := by decide +kernel
   rw [this ⟨n, hn⟩, List.all_eq_true]; simp only [List.mem_range, decide_eq_true_eq]
theorem fitS_bits (c : Int) (hc : 0 ≤ c ∧ c < 256) (left : Int) (hl : 1 ≤ left) : fitB true (lowI c) left = true ↔ ∀ i, i < 7 → okS c left i := by
 show fitS (c % 128) left = true ↔ _
 by_cases h7 : 7 < left
 ·rw [show fitS (c % 128) left = true by unfold fitS; simp [h7]]
  exact ⟨fun _ i hi h => by omega, fun _ => rfl⟩
 ·obtain ⟨n, rfl⟩ := Int.eq_ofNat_of_zero_le hc.1
  have hn : n < 256 := by omega
  have hl' : left = 1 ∨ left = 2 ∨ left = 3 ∨ left = 4 ∨ left = 5 ∨ left = 6 ∨ left = 7 := by omega
  rcases hl' with rfl | rfl | rfl | rfl | rfl | rfl | rfl
  ·have : ∀ n : Fin 256, fitS (((n.val : Nat) : Int) % 128) 1 = (List.range 7).all fun i => decide (okS ((n.val : Nat) : Int) 1 i) := by decide +kernel
   rw [this ⟨n, hn⟩, List.all_eq_true]; simp only [List.mem_range, decide_eq_true_eq]
  ·have : ∀ n : Fin 256, fitS (((n.val : Nat) : Int) % 128) 2 = (List.range 7).all fun i => decide (okS ((n.val : Nat) : Int) 2 i) := by decide +kernel
   rw [this ⟨n, hn⟩, List.all_eq_true]; simp only [List.mem_range, decide_eq_true_eq]
  ·have : ∀ n : Fin 256, fitS (((n.val : Nat) : Int) % 128) 3 = (List.range 7).all fun i => decide (okS ((n.val : Nat) : Int) 3 i) := by decide +kernel
   rw [this ⟨n, hn⟩, List.all_eq_true]; simp only [List.mem_range, decide_eq_true_eq]
  ·have : ∀ n : Fin 256, fitS (((n.val : Nat) : Int) % 128) 4 = (List.range 7).all fun i => decide (okS ((n.val : Nat) : Int) 4 i) := by decide +kernel
   rw [this ⟨n, hn⟩, List.all_eq_true]; simp only [List.mem_range, decide_eq_true_eq]
  ·have : ∀ n : Fin 256, fitS (((n.val : Nat) : Int) % 128) 5 = (List.range 7).all fun i => decide (okS ((n.val : Nat) : Int) 5 i) := by decide +kernel
   rw [this ⟨n, hn⟩, List.all_eq_true]; simp only [List.mem_range, decide_eq_true_eq]
  ·have : ∀ n : Fin 256, fitS (((n.val : Nat) : Int) % 128) 6 = (List.range 7).all fun i => decide (okS ((n.val : Nat) : Int) 6 i) := by decide +kernel
   rw [this ⟨n, hn⟩, List.all_eq_true]; simp only [List.mem_range, decide_eq_true_eq]
  ·have : ∀ n : Fin 256, fitS (((n.val : Nat) : Int) % 128) 7 = (List.range 7).all fun i => decide (okS ((n.val : Nat) : Int) 7 i) := by decide +kernel
   rw [this ⟨n, hn⟩, List.all_eq_true]; simp only [List.mem_range, decide_eq_true_eq]
end Go.Proofs.Ytebkabidojipoaa
/- LebRRead -/
namespace Go.Proofs.Ytebkabidojipoaa
open Go.RowKit LebM
def bl (f : Nat → Int) (a n : Nat) : List Value := (List.range n).map fun t => .int .i64 (bt (f (a + t / 7)) (t % 7))
theorem bl_succ (f : Nat → Int) (a n : Nat) : bl f a (n + 1) = bl f a n ++ [.int .i64 (bt (f (a + n / 7)) (n % 7))] := by unfold bl; rw [List.range_succ]; simp
theorem bl_get (f : Nat → Int) (a n j : Nat) (h : j < n) : (bl f a n)[j]? = some (.int .i64 (bt (f (a + j / 7)) (j % 7))) := by unfold bl; simp [h]
theorem infoI : (Try.prog.info? 3).map (fun i => (i.zero, i.size, i.bytes)) = some (some (.int .i64 0), 1, 8) := by kernel_rfl
theorem ret_rr {lv : Value} {x y : Int} {r : Int × Int × Int × Int} (h : r.2.2.1 = x ∧ r.2.2.2 = y) : Ending.returned (.tuple #[lv, .int .i64 x, .int .i64 y]) = .returned (.tuple #[lv, .int .i64 r.2.2.1, .int .i64 r.2.2.2]) := by rw [h.1, h.2]
set_option maxRecDepth 100000 in
set_option maxHeartbeats 8000000 in
theorem rread_u_some (b off cap len a : Nat) (f : Nat → Int) (hf : By f) (bits : Int) (hb1 : 1 ≤ bits) (hb2 : bits ≤ 64) (hal : a ≤ len) (hl : len ≤ 4611686018427387904) (w : World) (hc : ∀ j, j < len → w.cell? ⟨b, off + j, none⟩ = some (.int .u8 (f j))) :
  Calls Try.prog 61 #[.slice (some ⟨b, off, none⟩) len cap, .int .i64 a, .int .i64 bits, .bool false] w fun e w' => ∃ lv, e = .returned (.tuple #[lv, .int .i64 (rd false f len bits a 10 0 0).2.2.1, .int .i64 (rd false f len bits a 10 0 0).2.2.2]) ∧ Gr w w' ∧ w'.ownsRow w.heap.size 3 1 lv (rd false f len bits a 10 0 0).2.1.toNat (bl f a (rd false f len bits a 10 0 0).2.1.toNat) := by
 have HC := Lib.hid hc
 have HF := Lib.hid hf
 have g1 : ¬ bits < 1 := by omega
 have g2 : ¬ 64 < bits := by omega
 have g3 : ¬ (len : Int) < (a : Int) := by omega
 obtain ⟨j0, hj, hj0, hj1, hj2⟩ := info_parts infoI
 have HJ := Lib.hid hj
 have HJ0 := Lib.hid hj0
 have HJ1 := Lib.hid hj1
 have HJ2 := Lib.hid hj2
 clear hc hf hj hj0 hj1 hj2
 generalize hR : rd false f len bits a 10 0 0 = R
 have HR := Lib.hid hR
 clear hR
 go_enter Try.func61, Try.ntmps61
 go_wp2_with fail
 go_loopw [11, 12] (fun lv kv wr => ∃ (k q : Nat) (xv : Int), q = 7 * k ∧ a + k ≤ len ∧ k ≤ 9 ∧ (q : Int) < bits ∧ kv = .int .i64 k ∧ Gr w wr ∧ wr.ownsRow w.heap.size 3 1 lv q (bl f a q) ∧ rd false f len bits a (10 - k) k xv = R) (fun _ kv _ => 10 - (intOf kv).toNat)
 case atStart => exact ⟨0, 0, 0, rfl, hal, by decide, by omega, rfl, Gr.refl _, World.ownsRow_nil _ _ _ _, HR.out⟩
 case round =>
  obtain ⟨k, q, xv, hq, hpl, hk, hqb, rfl, hg, hown, hr⟩ := hrel
  obtain ⟨m, hm⟩ : ∃ m, 10 - k = m + 1 := ⟨9 - k, by omega⟩
  rw [hm] at hr
  have HG := Lib.hid hg
  have HW := Lib.hid hown
  have HQ := Lib.hid hq
  have HRr := Lib.hid hr
  have HM := Lib.hid hm
  have hq7 : 7 * (k : Int) = (q : Int) := by omega
  have hq63 : q ≤ 63 := by omega
  clear hg hown hq hr hm
  by_cases hlt : a + k = len
  ·have hge : (len : Int) ≤ (a : Int) + (k : Int) := by omega
   have HPl := Lib.hid hlt
   clear hlt
   go_wp2
   go_ret3
   have e := rd_short (s := false) (f := f) (bits := bits) (m := m) (x := xv) HPl.out
   rw [HRr.out] at e
   refine ⟨_, ret_rr ⟨by rw [e], by rw [e]⟩, HG.out, ?_⟩
   rw [e]; exact World.ownsRow_nil _ _ _ _
  ·have hlt2 : (a : Int) + (k : Int) < (len : Int) := by omega
   have HNe := Lib.hid hlt
   have h1 := gr_cell HG.out (HC.out (a + k) (by omega))
   have HBd := Lib.hid (HF.out (a + k))
   have HFit := Lib.hid (fitU_bits (f (a + k)) HBd.out (bits - q) (by omega))
   have HQe := Lib.hid (show bits - 7 * (k : Int) = bits - q by omega)
   have HBit := Lib.hid (fun i (hi : i ≤ 7) wx => bit_any (f (a + k)) HBd.out i hi wx)
   generalize hcc : f (a + k) = c at *
   have HCc := Lib.hid hcc
   clear hlt hcc
   go_wp2_with fail
   go_loopw [11, 14] (fun lv iv wr => ∃ i : Nat, i ≤ 7 ∧ iv = .int .i64 i ∧ Gr w wr ∧ wr.ownsRow w.heap.size 3 1 lv (q + i) (bl f a (q + i)) ∧ ∀ j, j < i → okU c (bits - q) j) (fun _ iv _ => 7 - (intOf iv).toNat)
   case atStart => exact ⟨0, by decide, rfl, HG.out, HW.out, fun j hj => by omega⟩
   case round =>
    obtain ⟨i, hi, rfl, hg, hown, hok⟩ := hrel
    have HGi := Lib.hid hg
    have HWi := Lib.hid hown
    have HOk := Lib.hid hok
    clear hg hown hok
    by_cases hi7 : i < 7
    ·have hi7' : (i : Int) < 7 := by omega
     have HBi := Lib.hid (HBit.out i hi)
     have hbd := bt_bd c i
     generalize hxx : bt c i = x at *
     have HXx := Lib.hid hxx
     clear hxx
     by_cases hL : bits ≤ (q : Int) + (i : Int)
     ·have hge : decide (bits ≤ (q : Int) + (i : Int)) = true := decide_eq_true hL
      by_cases hb : x = 1
      ·subst hb
       have HBad := Lib.hid (show ¬ okU c (bits - q) i from fun h => h ⟨by omega, HXx.out⟩)
       clear hL
       go_wp2_with fail
       go_quiet (first | (go_at_call 79; exact Calls.quiet_of_same ((HBi.out _).mono fun e w' h => ⟨h.1, h.2.symm⟩)))
       go_wp2
       go_ret3
       have e := rd_bad (s := false) (f := f) (bits := bits) (m := m) (x := xv) HNe.out (.inl (by
        rw [HCc.out, HQe.out]
        cases hfb : fitB false (lowI c) (bits - q) with
        | false => rfl
        | true => exact absurd (HFit.out.1 hfb i hi7) HBad.out))
       rw [HRr.out] at e
       refine ⟨_, ret_rr ⟨by rw [e], by rw [e]⟩, HGi.out.drewN _, ?_⟩
       rw [e]; exact World.ownsRow_nil _ _ _ _
      ·have hb0 : x = 0 := by omega
       subst hb0
       have HOi := Lib.hid (show okU c (bits - q) i from fun h => hb (HXx.out.symm.trans h.2))
       clear hL hb
       go_wp2_with fail
       go_quiet (first | (go_at_call 79; exact Calls.quiet_of_same ((HBi.out _).mono fun e w' h => ⟨h.1, h.2.symm⟩)))
       go_wp2_with (first | (go_at_call 79; refine (HBi.out _).mono ?_; rintro e w' ⟨rfl, rfl⟩) | (at_builtin; refine wpList_append_src rfl _ _ 36 rfl w.heap.size 3 j0 (.int .i64 0) 1 8 Try.underlying36 HJ.out HJ0.out HJ1.out HJ2.out rfl (by decide) u11 (q + i) (bl f a (q + i)) rfl ((own_gr HWi.out ((Gr.refl wr).drewN _)).alloc _) (.slice (some ⟨wr.heap.size, 0, none⟩) 1 1) 1 [.int .i64 0] rfl (src_lit (wr.drewN _) #[.int .i64 0] _ 1 1) rfl (fun u hu => by simp at hu; subst hu; rfl) (by unfold maxLen; omega) (by omega) (by have := HGi.out.size; simp; omega) ?_))
       intro v' w3 hown3 hgb3
       have HG3 := Lib.hid (((HGi.out.drewN _).allocO _).grown hgb3 (fun q hq => (HWi.out.lt q hq).1))
       have HO3 := Lib.hid (show w3.ownsRow w.heap.size 3 1 v' (q + (i + 1)) (bl f a (q + (i + 1))) by
        rw [← Nat.add_assoc, bl_succ, show (q + i) / 7 = k by have := HQ.out; omega, show (q + i) % 7 = i by have := HQ.out; omega, HCc.out, HXx.out]; exact hown3)
       clear hown3 hgb3
       go_wp2
       exact ⟨⟨i + 1, by omega, by go_num, HG3.out, HO3.out, fun j hj => by
        by_cases hji : j = i
        ·rw [hji]; exact HOi.out
        ·exact HOk.out j (by omega)⟩, by simp [intOf]; omega⟩
     ·have hge : decide (bits ≤ (q : Int) + (i : Int)) = false := decide_eq_false hL
      have HOi := Lib.hid (show okU c (bits - q) i from fun h => hL (by omega))
      clear hL
      go_wp2_with fail
      go_quiet (fail)
      go_wp2_with (first | (go_at_call 79; refine (HBi.out _).mono ?_; rintro e w' ⟨rfl, rfl⟩) | (at_builtin; refine wpList_append_src rfl _ _ 36 rfl w.heap.size 3 j0 (.int .i64 0) 1 8 Try.underlying36 HJ.out HJ0.out HJ1.out HJ2.out rfl (by decide) u11 (q + i) (bl f a (q + i)) rfl ((own_gr HWi.out ((Gr.refl wr).drewN _)).alloc _) (.slice (some ⟨wr.heap.size, 0, none⟩) 1 1) 1 [.int .i64 x] rfl (src_lit (wr.drewN _) #[.int .i64 x] _ 1 1) rfl (fun u hu => by simp at hu; subst hu; rfl) (by unfold maxLen; omega) (by omega) (by have := HGi.out.size; simp; omega) ?_))
      intro v' w3 hown3 hgb3
      have HG3 := Lib.hid (((HGi.out.drewN _).allocO _).grown hgb3 (fun q hq => (HWi.out.lt q hq).1))
      have HO3 := Lib.hid (show w3.ownsRow w.heap.size 3 1 v' (q + (i + 1)) (bl f a (q + (i + 1))) by
       rw [← Nat.add_assoc, bl_succ, show (q + i) / 7 = k by have := HQ.out; omega, show (q + i) % 7 = i by have := HQ.out; omega, HCc.out, HXx.out]; exact hown3)
      clear hown3 hgb3
      go_wp2
      exact ⟨⟨i + 1, by omega, by go_num, HG3.out, HO3.out, fun j hj => by
       by_cases hji : j = i
       ·rw [hji]; exact HOi.out
       ·exact HOk.out j (by omega)⟩, by simp [intOf]; omega⟩
    ·obtain rfl : i = 7 := by omega
     have HFt := Lib.hid (show fitB false (lowI (f (a + k))) (bits - 7 * (k : Int)) = true by rw [HCc.out, HQe.out]; exact HFit.out.2 HOk.out)
     have HB7 := Lib.hid (HBit.out 7 (by decide))
     have hy7 := bt7 c HBd.out
     generalize bt c 7 = y at *
     obtain ⟨q', hq'⟩ : ∃ q' : Nat, q' = q + 7 := ⟨_, rfl⟩
     have hq8 : 7 * ((k : Int) + 1) = (q' : Int) := by omega
     have HQ' := Lib.hid hq'
     clear hq'
     by_cases hc : c < 128
     ·rw [if_pos hc] at hy7
      subst hy7
      have HE := Lib.hid (rd_end (s := false) (f := f) (m := m) (x := xv) HNe.out HFt.out (by rw [HCc.out]; exact hc))
      clear hc
      have HFin := Lib.hid (show ∀ (v : Value) (w' : World), w'.ownsRow w.heap.size 3 1 v (q + 7) (bl f a (q + 7)) → w'.ownsRow w.heap.size 3 1 v R.2.1.toNat (bl f a R.2.1.toNat) from fun v w' h => by
       rw [← HRr.out, HE.out]
       have e : (7 * (k : Int) + 7).toNat = q + 7 := by have := HQ.out; omega
       rw [e]; exact h)
      by_cases hL : bits ≤ (q' : Int)
      ·have hge : decide (bits ≤ (q' : Int)) = true := decide_eq_true hL
       clear hL
       go_wp2_with (go_at_call 79; refine (HB7.out _).mono ?_; rintro e w' ⟨rfl, rfl⟩)
       go_ret3
       exact ⟨_, ret_rr ⟨by rw [← HRr.out, HE.out], by rw [← HRr.out, HE.out]⟩, HGi.out, HFin.out _ _ HWi.out⟩
      ·have hge : decide (bits ≤ (q' : Int)) = false := decide_eq_false hL
       clear hL
       go_wp2_with (go_at_call 79; refine (HB7.out _).mono ?_; rintro e w' ⟨rfl, rfl⟩)
       go_ret3
       exact ⟨_, ret_rr ⟨by rw [← HRr.out, HE.out], by rw [← HRr.out, HE.out]⟩, HGi.out, HFin.out _ _ HWi.out⟩
     ·rw [if_neg hc] at hy7
      subst hy7
      by_cases hL : bits ≤ (q' : Int)
      ·have hge : decide (bits ≤ (q' : Int)) = true := decide_eq_true hL
       have HE := Lib.hid (rd_bad (s := false) (f := f) (bits := bits) (m := m) (x := xv) HNe.out (.inr ⟨by have := HQ'.out; have := HQ.out; omega, by rw [HCc.out]; omega⟩))
       clear hL hc
       go_wp2_with (go_at_call 79; refine (HB7.out _).mono ?_; rintro e w' ⟨rfl, rfl⟩)
       go_ret3
       refine ⟨_, ret_rr ⟨by rw [← HRr.out, HE.out], by rw [← HRr.out, HE.out]⟩, HGi.out, ?_⟩
       rw [← HRr.out, HE.out]; exact World.ownsRow_nil _ _ _ _
      ·have hge : decide (bits ≤ (q' : Int)) = false := decide_eq_false hL
       have HE := Lib.hid (rd_more (s := false) (f := f) (m := m) (x := xv) HNe.out HFt.out (by have := HQ'.out; have := HQ.out; omega) (by rw [HCc.out]; omega))
       have HLt := Lib.hid (show (q' : Int) < bits by omega)
       clear hL hc
       go_wp2_with (go_at_call 79; refine (HB7.out _).mono ?_; rintro e w' ⟨rfl, rfl⟩)
       exact ⟨⟨k + 1, q', _, by have := HQ'.out; have := HQ.out; omega, by have := HNe.out; omega, by have := HLt.out; have := HQ'.out; have := HQ.out; omega, HLt.out, by go_num, HGi.out, by rw [HQ'.out]; exact HWi.out, by
        rw [show 10 - (k + 1) = m by have := HM.out; omega, ← HE.out]; exact HRr.out⟩, by simp [intOf]; omega⟩
set_option maxRecDepth 100000 in
set_option maxHeartbeats 8000000 in
theorem rread_s_some (b off cap len a : Nat) (f : Nat → Int) (hf : By f) (bits : Int) (hb1 : 1 ≤ bits) (hb2 : bits ≤ 64) (hal : a ≤ len) (hl : len ≤ 4611686018427387904) (w : World) (hc : ∀ j, j < len → w.cell? ⟨b, off + j, none⟩ = some (.int .u8 (f j))) :
  Calls Try.prog 61 #[.slice (some ⟨b, off, none⟩) len cap, .int .i64 a, .int .i64 bits, .bool true] w fun e w' => ∃ lv, e = .returned (.tuple #[lv, .int .i64 (rd true f len bits a 10 0 0).2.2.1, .int .i64 (rd true f len bits a 10 0 0).2.2.2]) ∧ Gr w w' ∧ w'.ownsRow w.heap.size 3 1 lv (rd true f len bits a 10 0 0).2.1.toNat (bl f a (rd true f len bits a 10 0 0).2.1.toNat) := by
 have HC := Lib.hid hc
 have HF := Lib.hid hf
 have g1 : ¬ bits < 1 := by omega
 have g2 : ¬ 64 < bits := by omega
 have g3 : ¬ (len : Int) < (a : Int) := by omega
 obtain ⟨j0, hj, hj0, hj1, hj2⟩ := info_parts infoI
 have HJ := Lib.hid hj
 have HJ0 := Lib.hid hj0
 have HJ1 := Lib.hid hj1
 have HJ2 := Lib.hid hj2
 clear hc hf hj hj0 hj1 hj2
 generalize hR : rd true f len bits a 10 0 0 = R
 have HR := Lib.hid hR
 clear hR
 go_enter Try.func61, Try.ntmps61
 go_wp2_with fail
 go_loopw [11, 12] (fun lv kv wr => ∃ (k q : Nat) (xv : Int), q = 7 * k ∧ a + k ≤ len ∧ k ≤ 9 ∧ (q : Int) < bits ∧ kv = .int .i64 k ∧ Gr w wr ∧ wr.ownsRow w.heap.size 3 1 lv q (bl f a q) ∧ rd true f len bits a (10 - k) k xv = R) (fun _ kv _ => 10 - (intOf kv).toNat)
 case atStart => exact ⟨0, 0, 0, rfl, hal, by decide, by omega, rfl, Gr.refl _, World.ownsRow_nil _ _ _ _, HR.out⟩
 case round =>
  obtain ⟨k, q, xv, hq, hpl, hk, hqb, rfl, hg, hown, hr⟩ := hrel
  obtain ⟨m, hm⟩ : ∃ m, 10 - k = m + 1 := ⟨9 - k, by omega⟩
  rw [hm] at hr
  have HG := Lib.hid hg
  have HW := Lib.hid hown
  have HQ := Lib.hid hq
  have HRr := Lib.hid hr
  have HM := Lib.hid hm
  have hq7 : 7 * (k : Int) = (q : Int) := by omega
  have hq63 : q ≤ 63 := by omega
  clear hg hown hq hr hm
  by_cases hlt : a + k = len
  ·have hge : (len : Int) ≤ (a : Int) + (k : Int) := by omega
   have HPl := Lib.hid hlt
   clear hlt
   go_wp2
   go_ret3
   have e := rd_short (s := true) (f := f) (bits := bits) (m := m) (x := xv) HPl.out
   rw [HRr.out] at e
   refine ⟨_, ret_rr ⟨by rw [e], by rw [e]⟩, HG.out, ?_⟩
   rw [e]; exact World.ownsRow_nil _ _ _ _
  ·have hlt2 : (a : Int) + (k : Int) < (len : Int) := by omega
   have HNe := Lib.hid hlt
   have h1 := gr_cell HG.out (HC.out (a + k) (by omega))
   have HBd := Lib.hid (HF.out (a + k))
   have HFit := Lib.hid (fitS_bits (f (a + k)) HBd.out (bits - q) (by omega))
   have HQe := Lib.hid (show bits - 7 * (k : Int) = bits - q by omega)
   have HBit := Lib.hid (fun i (hi : i ≤ 7) wx => bit_any (f (a + k)) HBd.out i hi wx)
   generalize hcc : f (a + k) = c at *
   have HCc := Lib.hid hcc
   clear hlt hcc
   go_wp2_with fail
   go_loopw [11, 14] (fun lv iv wr => ∃ i : Nat, i ≤ 7 ∧ iv = .int .i64 i ∧ Gr w wr ∧ wr.ownsRow w.heap.size 3 1 lv (q + i) (bl f a (q + i)) ∧ ∀ j, j < i → okS c (bits - q) j) (fun _ iv _ => 7 - (intOf iv).toNat)
   case atStart => exact ⟨0, by decide, rfl, HG.out, HW.out, fun j hj => by omega⟩
   case round =>
    obtain ⟨i, hi, rfl, hg, hown, hok⟩ := hrel
    have HGi := Lib.hid hg
    have HWi := Lib.hid hown
    have HOk := Lib.hid hok
    clear hg hown hok
    by_cases hi7 : i < 7
    ·have hi7' : (i : Int) < 7 := by omega
     have HBi := Lib.hid (HBit.out i hi)
     generalize hxx : bt c i = x at *
     have HXx := Lib.hid hxx
     clear hxx
     by_cases hL : bits ≤ (q : Int) + (i : Int)
     ·have hge : decide (bits ≤ (q : Int) + (i : Int)) = true := decide_eq_true hL
      obtain ⟨g11, c11, he, _, _, _⟩ := own_some HWi.out (by omega)
      obtain ⟨p, hp⟩ := Int.eq_ofNat_of_zero_le (show 0 ≤ bits - 1 by omega)
      have hpq : q ≤ p ∧ p < q + i := by omega
      have hpq' : (p : Int) < (q : Int) + (i : Int) := by omega
      have hcell : wr.cell? ⟨g11, p, none⟩ = some (.int .i64 (bt c (bits - q - 1).toNat)) := by
       have h1 := HWi.out
       rw [he] at h1
       rw [h1.cellAt p (by omega), bl_get _ _ _ _ hpq.2, show p / 7 = k by have := HQ.out; omega, show p % 7 = (bits - q - 1).toNat by have := HQ.out; omega, HCc.out]
      generalize hzz : bt c (bits - q - 1).toNat = z at *
      have HZz := Lib.hid hzz
      have HEe := Lib.hid he
      clear hzz
      by_cases hb : x = z
      ·have hne : (x != z) = false := by rw [hb]; simp
       have HOi := Lib.hid (show okS c (bits - q) i from fun h => h.2 (by rw [HXx.out, HZz.out]; exact hb))
       clear hL hb
       subst he
       go_wp2_with fail
       go_quiet (first | (go_at_call 79; exact Calls.quiet_of_same ((HBi.out _).mono fun e w' h => ⟨h.1, h.2.symm⟩)))
       go_wp2_with (first | (go_at_call 79; refine (HBi.out _).mono ?_; rintro e w' ⟨rfl, rfl⟩) | (at_builtin; refine wpList_append_src rfl _ _ 36 rfl w.heap.size 3 j0 (.int .i64 0) 1 8 Try.underlying36 HJ.out HJ0.out HJ1.out HJ2.out rfl (by decide) (.slice (some ⟨g11, 0, none⟩) (q + i) c11) (q + i) (bl f a (q + i)) rfl ((own_gr HWi.out ((Gr.refl wr).drewN _)).alloc _) (.slice (some ⟨wr.heap.size, 0, none⟩) 1 1) 1 [.int .i64 x] rfl (src_lit (wr.drewN _) #[.int .i64 x] _ 1 1) rfl (fun u hu => by simp at hu; subst hu; rfl) (by unfold maxLen; omega) (by omega) (by have := HGi.out.size; simp; omega) ?_))
       intro v' w3 hown3 hgb3
       have HG3 := Lib.hid (((HGi.out.drewN _).allocO _).grown hgb3 (fun q hq => (HWi.out.lt q hq).1))
       have HO3 := Lib.hid (show w3.ownsRow w.heap.size 3 1 v' (q + (i + 1)) (bl f a (q + (i + 1))) by
        rw [← Nat.add_assoc, bl_succ, show (q + i) / 7 = k by have := HQ.out; omega, show (q + i) % 7 = i by have := HQ.out; omega, HCc.out, HXx.out]; exact hown3)
       clear hown3 hgb3
       go_wp2
       exact ⟨⟨i + 1, by omega, by go_num, HG3.out, HO3.out, fun j hj => by
        by_cases hji : j = i
        ·rw [hji]; exact HOi.out
        ·exact HOk.out j (by omega)⟩, by simp [intOf]; omega⟩
      ·have hne : (x != z) = true := bne_iff_ne.2 hb
       have HBad := Lib.hid (show ¬ okS c (bits - q) i from fun h => h ⟨by omega, by rw [HXx.out, HZz.out]; exact hb⟩)
       clear hL hb
       subst he
       go_wp2_with fail
       go_quiet (first | (go_at_call 79; exact Calls.quiet_of_same ((HBi.out _).mono fun e w' h => ⟨h.1, h.2.symm⟩)))
       go_wp2
       go_ret3
       have e := rd_bad (s := true) (f := f) (bits := bits) (m := m) (x := xv) HNe.out (.inl (by
        rw [HCc.out, HQe.out]
        cases hfb : fitB true (lowI c) (bits - q) with
        | false => rfl
        | true => exact absurd (HFit.out.1 hfb i hi7) HBad.out))
       rw [HRr.out] at e
       refine ⟨_, ret_rr ⟨by rw [e], by rw [e]⟩, HGi.out.drewN _, ?_⟩
       rw [e]; exact World.ownsRow_nil _ _ _ _
     ·have hge : decide (bits ≤ (q : Int) + (i : Int)) = false := decide_eq_false hL
      have HOi := Lib.hid (show okS c (bits - q) i from fun h => hL (by omega))
      clear hL
      go_wp2_with fail
      go_quiet (fail)
      go_wp2_with (first | (go_at_call 79; refine (HBi.out _).mono ?_; rintro e w' ⟨rfl, rfl⟩) | (at_builtin; refine wpList_append_src rfl _ _ 36 rfl w.heap.size 3 j0 (.int .i64 0) 1 8 Try.underlying36 HJ.out HJ0.out HJ1.out HJ2.out rfl (by decide) u11 (q + i) (bl f a (q + i)) rfl ((own_gr HWi.out ((Gr.refl wr).drewN _)).alloc _) (.slice (some ⟨wr.heap.size, 0, none⟩) 1 1) 1 [.int .i64 x] rfl (src_lit (wr.drewN _) #[.int .i64 x] _ 1 1) rfl (fun u hu => by simp at hu; subst hu; rfl) (by unfold maxLen; omega) (by omega) (by have := HGi.out.size; simp; omega) ?_))
      intro v' w3 hown3 hgb3
      have HG3 := Lib.hid (((HGi.out.drewN _).allocO _).grown hgb3 (fun q hq => (HWi.out.lt q hq).1))
      have HO3 := Lib.hid (show w3.ownsRow w.heap.size 3 1 v' (q + (i + 1)) (bl f a (q + (i + 1))) by
       rw [← Nat.add_assoc, bl_succ, show (q + i) / 7 = k by have := HQ.out; omega, show (q + i) % 7 = i by have := HQ.out; omega, HCc.out, HXx.out]; exact hown3)
      clear hown3 hgb3
      go_wp2
      exact ⟨⟨i + 1, by omega, by go_num, HG3.out, HO3.out, fun j hj => by
       by_cases hji : j = i
       ·rw [hji]; exact HOi.out
       ·exact HOk.out j (by omega)⟩, by simp [intOf]; omega⟩
    ·obtain rfl : i = 7 := by omega
     have HFt := Lib.hid (show fitB true (lowI (f (a + k))) (bits - 7 * (k : Int)) = true by rw [HCc.out, HQe.out]; exact HFit.out.2 HOk.out)
     have HB7 := Lib.hid (HBit.out 7 (by decide))
     have hy7 := bt7 c HBd.out
     generalize bt c 7 = y at *
     obtain ⟨q', hq'⟩ : ∃ q' : Nat, q' = q + 7 := ⟨_, rfl⟩
     have hq8 : 7 * ((k : Int) + 1) = (q' : Int) := by omega
     have HQ' := Lib.hid hq'
     clear hq'
     by_cases hc : c < 128
     ·rw [if_pos hc] at hy7
      subst hy7
      have HE := Lib.hid (rd_end (s := true) (f := f) (m := m) (x := xv) HNe.out HFt.out (by rw [HCc.out]; exact hc))
      clear hc
      have HFin := Lib.hid (show ∀ (v : Value) (w' : World), w'.ownsRow w.heap.size 3 1 v (q + 7) (bl f a (q + 7)) → w'.ownsRow w.heap.size 3 1 v R.2.1.toNat (bl f a R.2.1.toNat) from fun v w' h => by
       rw [← HRr.out, HE.out]
       have e : (7 * (k : Int) + 7).toNat = q + 7 := by have := HQ.out; omega
       rw [e]; exact h)
      by_cases hL : bits ≤ (q' : Int)
      ·have hge : decide (bits ≤ (q' : Int)) = true := decide_eq_true hL
       clear hL
       go_wp2_with (go_at_call 79; refine (HB7.out _).mono ?_; rintro e w' ⟨rfl, rfl⟩)
       go_ret3
       exact ⟨_, ret_rr ⟨by rw [← HRr.out, HE.out], by rw [← HRr.out, HE.out]⟩, HGi.out, HFin.out _ _ HWi.out⟩
      ·have hge : decide (bits ≤ (q' : Int)) = false := decide_eq_false hL
       clear hL
       go_wp2_with (go_at_call 79; refine (HB7.out _).mono ?_; rintro e w' ⟨rfl, rfl⟩)
       go_ret3
       exact ⟨_, ret_rr ⟨by rw [← HRr.out, HE.out], by rw [← HRr.out, HE.out]⟩, HGi.out, HFin.out _ _ HWi.out⟩
     ·rw [if_neg hc] at hy7
      subst hy7
      by_cases hL : bits ≤ (q' : Int)
      ·have hge : decide (bits ≤ (q' : Int)) = true := decide_eq_true hL
       have HE := Lib.hid (rd_bad (s := true) (f := f) (bits := bits) (m := m) (x := xv) HNe.out (.inr ⟨by have := HQ'.out; have := HQ.out; omega, by rw [HCc.out]; omega⟩))
       clear hL hc
       go_wp2_with (go_at_call 79; refine (HB7.out _).mono ?_; rintro e w' ⟨rfl, rfl⟩)
       go_ret3
       refine ⟨_, ret_rr ⟨by rw [← HRr.out, HE.out], by rw [← HRr.out, HE.out]⟩, HGi.out, ?_⟩
       rw [← HRr.out, HE.out]; exact World.ownsRow_nil _ _ _ _
      ·have hge : decide (bits ≤ (q' : Int)) = false := decide_eq_false hL
       have HE := Lib.hid (rd_more (s := true) (f := f) (m := m) (x := xv) HNe.out HFt.out (by have := HQ'.out; have := HQ.out; omega) (by rw [HCc.out]; omega))
       have HLt := Lib.hid (show (q' : Int) < bits by omega)
       clear hL hc
       go_wp2_with (go_at_call 79; refine (HB7.out _).mono ?_; rintro e w' ⟨rfl, rfl⟩)
       exact ⟨⟨k + 1, q', _, by have := HQ'.out; have := HQ.out; omega, by have := HNe.out; omega, by have := HLt.out; have := HQ'.out; have := HQ.out; omega, HLt.out, by go_num, HGi.out, by rw [HQ'.out]; exact HWi.out, by
        rw [show 10 - (k + 1) = m by have := HM.out; omega, ← HE.out]; exact HRr.out⟩, by simp [intOf]; omega⟩
end Go.Proofs.Ytebkabidojipoaa
/- LebRUS -/
namespace Go.Proofs.Ytebkabidojipoaa
open Go.RowKit LebM
def sb (f : Nat → Int) (a : Nat) : Nat → Int
 | 0 => 0
 | n + 1 => sb f a n + bt (f (a + n / 7)) (n % 7) * 2 ^ n
theorem sb_bd (f : Nat → Int) (a : Nat) : ∀ n, 0 ≤ sb f a n ∧ sb f a n < 2 ^ n
 | 0 => by simp [sb]
 | n + 1 => by
  have h := sb_bd f a n
  have hb := bt_bd (f (a + n / 7)) (n % 7)
  have hp := p2pos n
  have e : (2 : Int) ^ (n + 1) = 2 * 2 ^ n := by rw [Int.pow_succ, Int.mul_comm]
  simp only [sb]
  have h2 : 0 ≤ bt (f (a + n / 7)) (n % 7) * 2 ^ n := Int.mul_nonneg hb.1 (Int.le_of_lt hp)
  have h3 : bt (f (a + n / 7)) (n % 7) * 2 ^ n ≤ 1 * 2 ^ n := Int.mul_le_mul_of_nonneg_right hb.2 (Int.le_of_lt hp)
  omega
theorem low_bits (c : Int) : bt c 0 + bt c 1 * 2 + bt c 2 * 4 + bt c 3 * 8 + bt c 4 * 16 + bt c 5 * 32 + bt c 6 * 64 = c % 128 := by
 unfold bt
 simp only [show (2 : Int) ^ 0 = 1 from rfl, show (2 : Int) ^ 1 = 2 from rfl, show (2 : Int) ^ 2 = 4 from rfl, show (2 : Int) ^ 3 = 8 from rfl, show (2 : Int) ^ 4 = 16 from rfl, show (2 : Int) ^ 5 = 32 from rfl, show (2 : Int) ^ 6 = 64 from rfl]
 omega
theorem sb_at (f : Nat → Int) (a k i : Nat) (hi : i < 7) : sb f a (7 * k + (i + 1)) = sb f a (7 * k + i) + bt (f (a + k)) i * (128 ^ k * 2 ^ i) := by
 show sb f a (7 * k + i + 1) = _
 simp only [sb]
 rw [show (7 * k + i) / 7 = k by omega, show (7 * k + i) % 7 = i by omega, p2, pow7]
theorem sb_byte (f : Nat → Int) (a k : Nat) : sb f a (7 * (k + 1)) = sb f a (7 * k) + lowI (f (a + k)) * 128 ^ k := by
 have h0 := sb_at f a k 0 (by decide)
 have h1 := sb_at f a k 1 (by decide)
 have h2 := sb_at f a k 2 (by decide)
 have h3 := sb_at f a k 3 (by decide)
 have h4 := sb_at f a k 4 (by decide)
 have h5 := sb_at f a k 5 (by decide)
 have h6 := sb_at f a k 6 (by decide)
 have e := low_bits (f (a + k))
 show sb f a (7 * k + 7) = _
 unfold lowI
 rw [← e]
 simp only [Nat.add_zero, Int.pow_zero, Int.mul_one, show (2 : Int) ^ 1 = 2 from rfl, show (2 : Int) ^ 2 = 4 from rfl, show (2 : Int) ^ 3 = 8 from rfl, show (2 : Int) ^ 4 = 16 from rfl, show (2 : Int) ^ 5 = 32 from rfl, show (2 : Int) ^ 6 = 64 from rfl, Nat.zero_add] at *
 rw [h6, h5, h4, h3, h2, h1, h0]
 simp only [Int.add_mul, Int.mul_assoc]
 have q : ∀ x y : Int, x * (128 ^ k * y) = x * (y * 128 ^ k) := fun x y => by rw [Int.mul_comm (128 ^ k)]
 simp only [q]
 omega
def SumOk (f : Nat → Int) (a : Nat) (r : Int × Int × Int × Int) : Prop := r.2.2.2 ≠ 0 ∧ r.1 = 0 ∧ r.2.1 = 0 ∧ r.2.2.1 = 0 ∨ r.2.2.2 = 0 ∧ ∃ j : Nat, j ≤ 9 ∧ r.2.1 = ((7 * (j + 1) : Nat) : Int) ∧ r.1 = sb f a (min (7 * (j + 1)) 64)
theorem rd_sumOk (s : Bool) {f : Nat → Int} (hf : By f) (len : Nat) (bits : Int) (a : Nat) : ∀ m k, m + k = 10 → SumOk f a (rd s f len bits a m k (sb f a (7 * k)))
 | 0, _, _ => .inl ⟨by rw [rd]; decide, rfl, rfl, rfl⟩
 | m + 1, k, hm => by
  rw [rd]
  have hb := hf (a + k)
  have hx := sb_bd f a (7 * k)
  have hlo : 0 ≤ lowI (f (a + k)) ∧ lowI (f (a + k)) < 128 := by unfold lowI; omega
  have hp := p128pos k
  have hs := sb_byte f a k
  split
  ·exact .inl ⟨by decide, rfl, rfl, rfl⟩
  ·simp only []
   split
   ·exact .inl ⟨by decide, rfl, rfl, rfl⟩
   ·by_cases h9 : k = 9
    ·subst h9
     have e9 : (128 : Int) ^ 9 = 9223372036854775808 := rfl
     have hb0 : bt (f (a + 9)) 0 = lowI (f (a + 9)) % 2 := by unfold bt lowI; rw [Int.pow_zero]; omega
     have h64 : sb f a 64 = sb f a 63 + bt (f (a + 9)) 0 * 2 ^ 63 := rfl
     have e63 : (2 : Int) ^ 63 = 9223372036854775808 := rfl
     have hval : sb f a (7 * 9) + lowI (f (a + 9)) * 128 ^ 9 % 18446744073709551616 = sb f a 64 := by
      rw [h64, hb0, e9, e63]
      show sb f a 63 + _ = _
      omega
     split
     ·refine .inr ⟨rfl, 9, by decide, rfl, ?_⟩
      show _ = sb f a 64
      exact hval
     ·obtain rfl : m = 0 := by omega
      exact .inl ⟨by rw [rd]; decide, rfl, rfl, rfl⟩
    ·have hp8 : (128 : Int) ^ k ≤ 72057594037927936 := by
      have := p2le (show 7 * k ≤ 56 by omega)
      rw [pow7] at this
      exact this
     have h1 : 0 ≤ lowI (f (a + k)) * 128 ^ k := Int.mul_nonneg hlo.1 (Int.le_of_lt hp)
     have h2 : lowI (f (a + k)) * 128 ^ k ≤ 127 * 128 ^ k := Int.mul_le_mul_of_nonneg_right (by omega) (Int.le_of_lt hp)
     have hval : sb f a (7 * k) + lowI (f (a + k)) * 128 ^ k % 18446744073709551616 = sb f a (7 * (k + 1)) := by rw [mod64 h1 (by omega), hs]
     rw [hval]
     split
     ·refine .inr ⟨rfl, k, by omega, by push_cast; omega, ?_⟩
      rw [Nat.min_eq_left (by omega)]
     ·exact rd_sumOk s hf len bits a m (k + 1) (by omega)
theorem read_sumOk (s : Bool) {f : Nat → Int} (hf : By f) (len : Nat) (a bits : Int) : SumOk f a.toNat (LebM.read s f len a bits) := by
 unfold LebM.read
 split
 ·exact .inl ⟨by decide, rfl, rfl, rfl⟩
 ·exact rd_sumOk s hf len bits a.toNat 10 0 rfl
theorem rread_u_bad (sv : Value) (a bits : Int) (xa : Option Addr) (len cap : Nat) (hsv : sv = .slice xa len cap) (h : bits < 1 ∨ 64 < bits ∨ a < 0 ∨ (len : Int) < a) (w : World) :
  Calls Try.prog 61 #[sv, .int .i64 a, .int .i64 bits, .bool false] w fun e w' => e = .returned (.tuple #[.slice none 0 0, .int .i64 0, .int .i64 1]) ∧ w = w' := by
 subst hsv
 by_cases h1 : bits < 1
 ·clear h
  go_enter Try.func61, Try.ntmps61
  go_wp2
  go_ret3
  exact ⟨rfl, rfl⟩
 ·by_cases h2 : 64 < bits
  ·clear h
   go_enter Try.func61, Try.ntmps61
   go_wp2
   go_ret3
   exact ⟨rfl, rfl⟩
  ·by_cases h3 : a < 0
   ·clear h
    go_enter Try.func61, Try.ntmps61
    go_wp2
    go_ret3
    exact ⟨rfl, rfl⟩
   ·have h4 : (len : Int) < a := by omega
    clear h
    go_enter Try.func61, Try.ntmps61
    go_wp2
    go_ret3
    exact ⟨rfl, rfl⟩
theorem rread_u_zero (a0 : Option Addr) (cap : Nat) (bits : Int) (hb1 : 1 ≤ bits) (hb2 : bits ≤ 64) (w : World) :
  Calls Try.prog 61 #[.slice a0 0 cap, .int .i64 0, .int .i64 bits, .bool false] w fun e w' => e = .returned (.tuple #[.slice none 0 0, .int .i64 0, .int .i64 5]) ∧ w = w' := by
 have g1 : ¬ bits < 1 := by omega
 have g2 : ¬ 64 < bits := by omega
 go_enter Try.func61, Try.ntmps61
 go_wp2
 refine wp_loop_rounds 1 ?_
 rw [rounds_succ]
 go_wp2
 go_ret3
 exact ⟨rfl, rfl⟩
theorem rread_u_any (sv : Value) (len : Nat) (hlen : len ≤ 1099511627776) (f : Nat → Int) (hf : By f) (a bits : Int) (w : World) (h : U8s w sv len f) :
  Calls Try.prog 61 #[sv, .int .i64 a, .int .i64 bits, .bool false] w fun e w' => ∃ lv, e = .returned (.tuple #[lv, .int .i64 (LebM.read false f len a bits).2.2.1, .int .i64 (LebM.read false f len a bits).2.2.2]) ∧ Gr w w' ∧ w'.ownsRow w.heap.size 3 1 lv (LebM.read false f len a bits).2.1.toNat (bl f a.toNat (LebM.read false f len a bits).2.1.toNat) := by
 obtain ⟨xa, cap, hsv⟩ := slice_u8s h
 unfold LebM.read
 by_cases hb : bits < 1 ∨ 64 < bits ∨ a < 0 ∨ (len : Int) < a
 ·rw [if_pos hb]
  exact (rread_u_bad sv a bits xa len cap hsv hb w).mono fun e w' ⟨h1, h2⟩ => ⟨_, h1, by subst h2; exact Gr.refl _, World.ownsRow_nil _ _ _ _⟩
 ·rw [if_neg hb]
  obtain ⟨n, rfl⟩ := Int.eq_ofNat_of_zero_le (show 0 ≤ a by omega)
  rw [Int.toNat_natCast]
  rcases h with ⟨rfl, x, c, rfl⟩ | ⟨hl, b, off, c, rfl, hc⟩
  ·obtain rfl : n = 0 := by omega
   rw [show rd false f 0 bits 0 10 0 0 = (0, 0, 0, 5) from rd_short rfl]
   exact (rread_u_zero x c bits (by omega) (by omega) w).mono fun e w' ⟨h1, h2⟩ => ⟨_, h1, by subst h2; exact Gr.refl _, World.ownsRow_nil _ _ _ _⟩
  ·exact rread_u_some b off c len n f hf bits (by omega) (by omega) (by omega) (by omega) w hc
theorem rread_s_bad (sv : Value) (a bits : Int) (xa : Option Addr) (len cap : Nat) (hsv : sv = .slice xa len cap) (h : bits < 1 ∨ 64 < bits ∨ a < 0 ∨ (len : Int) < a) (w : World) :
  Calls Try.prog 61 #[sv, .int .i64 a, .int .i64 bits, .bool true] w fun e w' => e = .returned (.tuple #[.slice none 0 0, .int .i64 0, .int .i64 1]) ∧ w = w' := by
 subst hsv
 by_cases h1 : bits < 1
 ·clear h
  go_enter Try.func61, Try.ntmps61
  go_wp2
  go_ret3
  exact ⟨rfl, rfl⟩
 ·by_cases h2 : 64 < bits
  ·clear h
   go_enter Try.func61, Try.ntmps61
   go_wp2
   go_ret3
   exact ⟨rfl, rfl⟩
  ·by_cases h3 : a < 0
   ·clear h
    go_enter Try.func61, Try.ntmps61
    go_wp2
    go_ret3
    exact ⟨rfl, rfl⟩
   ·have h4 : (len : Int) < a := by omega
    clear h
    go_enter Try.func61, Try.ntmps61
    go_wp2
    go_ret3
    exact ⟨rfl, rfl⟩
theorem rread_s_zero (a0 : Option Addr) (cap : Nat) (bits : Int) (hb1 : 1 ≤ bits) (hb2 : bits ≤ 64) (w : World) :
  Calls Try.prog 61 #[.slice a0 0 cap, .int .i64 0, .int .i64 bits, .bool true] w fun e w' => e = .returned (.tuple #[.slice none 0 0, .int .i64 0, .int .i64 5]) ∧ w = w' := by
 have g1 : ¬ bits < 1 := by omega
 have g2 : ¬ 64 < bits := by omega
 go_enter Try.func61, Try.ntmps61
 go_wp2
 refine wp_loop_rounds 1 ?_
 rw [rounds_succ]
 go_wp2
 go_ret3
 exact ⟨rfl, rfl⟩
theorem rread_s_any (sv : Value) (len : Nat) (hlen : len ≤ 1099511627776) (f : Nat → Int) (hf : By f) (a bits : Int) (w : World) (h : U8s w sv len f) :
  Calls Try.prog 61 #[sv, .int .i64 a, .int .i64 bits, .bool true] w fun e w' => ∃ lv, e = .returned (.tuple #[lv, .int .i64 (LebM.read true f len a bits).2.2.1, .int .i64 (LebM.read true f len a bits).2.2.2]) ∧ Gr w w' ∧ w'.ownsRow w.heap.size 3 1 lv (LebM.read true f len a bits).2.1.toNat (bl f a.toNat (LebM.read true f len a bits).2.1.toNat) := by
 obtain ⟨xa, cap, hsv⟩ := slice_u8s h
 unfold LebM.read
 by_cases hb : bits < 1 ∨ 64 < bits ∨ a < 0 ∨ (len : Int) < a
 ·rw [if_pos hb]
  exact (rread_s_bad sv a bits xa len cap hsv hb w).mono fun e w' ⟨h1, h2⟩ => ⟨_, h1, by subst h2; exact Gr.refl _, World.ownsRow_nil _ _ _ _⟩
 ·rw [if_neg hb]
  obtain ⟨n, rfl⟩ := Int.eq_ofNat_of_zero_le (show 0 ≤ a by omega)
  rw [Int.toNat_natCast]
  rcases h with ⟨rfl, x, c, rfl⟩ | ⟨hl, b, off, c, rfl, hc⟩
  ·obtain rfl : n = 0 := by omega
   rw [show rd true f 0 bits 0 10 0 0 = (0, 0, 0, 5) from rd_short rfl]
   exact (rread_s_zero x c bits (by omega) (by omega) w).mono fun e w' ⟨h1, h2⟩ => ⟨_, h1, by subst h2; exact Gr.refl _, World.ownsRow_nil _ _ _ _⟩
  ·exact rread_s_some b off c len n f hf bits (by omega) (by omega) (by omega) (by omega) w hc
theorem or_bit {f : Nat → Int} {a k : Nat} (hk : k < 64) : Go.bits .or .u64 (sb f a k) (IntKind.u64.wrap (bt (f (a + k / 7)) (k % 7) * 2 ^ k)) = sb f a (k + 1) := by
 have hb := bt_bd (f (a + k / 7)) (k % 7)
 have h := or_step (sb f a k) (bt (f (a + k / 7)) (k % 7)) k (sb_bd f a k) hb.1 (by omega)
 have hp := p2pos k
 have h1 : 0 ≤ bt (f (a + k / 7)) (k % 7) * 2 ^ k := Int.mul_nonneg hb.1 (Int.le_of_lt hp)
 have h2 : bt (f (a + k / 7)) (k % 7) * 2 ^ k ≤ 1 * 2 ^ k := Int.mul_le_mul_of_nonneg_right hb.2 (Int.le_of_lt hp)
 have h3 := p2le (show k ≤ 63 by omega)
 have e63 : (2 : Int) ^ 63 = 9223372036854775808 := rfl
 rw [h, mod64 h1 (by omega)]; rfl
theorem ret_u3 {x x' y z : Int} (h : x = x') : Ending.returned (.tuple #[.int .u64 x, .int .i64 y, .int .i64 z]) = .returned (.tuple #[.int .u64 x', .int .i64 y, .int .i64 z]) := by rw [h]
set_option maxRecDepth 100000 in
set_option maxHeartbeats 4000000 in
theorem ru_any (sv : Value) (len : Nat) (hlen : len ≤ 1099511627776) (f : Nat → Int) (hf : By f) (a bits : Int) (w : World) (h : U8s w sv len f) :
  Calls Try.prog 60 #[sv, .int .i64 a, .int .i64 bits] w fun e w' => e = .returned (.tuple #[.int .u64 (LebM.read false f len a bits).1, .int .i64 (LebM.read false f len a bits).2.2.1, .int .i64 (LebM.read false f len a bits).2.2.2]) ∧ Gr w w' := by
 have C := rread_u_any sv len hlen f hf a bits w h
 have hs := read_sumOk false hf len a bits
 generalize LebM.read false f len a bits = r at *
 obtain ⟨x, wd, to, er⟩ := r
 obtain ⟨W, hW, hW70, hx⟩ : ∃ W : Nat, wd.toNat = W ∧ W ≤ 70 ∧ x = sb f a.toNat (min W 64) := by
  rcases hs with ⟨_, h1, h2, _⟩ | ⟨_, j, h1, h2, h3⟩
  ·simp only at h1 h2
   subst h1 h2
   exact ⟨0, rfl, by decide, rfl⟩
  ·simp only at h2 h3
   exact ⟨7 * (j + 1), by rw [h2]; rfl, by omega, h3⟩
 simp only [hW] at C
 have HC := Lib.hid C
 have HX := Lib.hid hx
 generalize a.toNat = n0 at *
 clear C hs h hx hW
 go_enter Try.func60, Try.ntmps60
 go_wp2_with (go_at_call 61; refine HC.out.mono ?_; rintro e w1 ⟨lv, rfl, hg1, ho1⟩; have HG1 := Lib.hid hg1; have HO1 := Lib.hid ho1; clear hg1 ho1)
 obtain ⟨la, lc, rfl⟩ := own_slice HO1.out
 go_loop [12, 13] (fun nv iv => ∃ k : Nat, k ≤ W ∧ k ≤ 64 ∧ iv = .int .i64 k ∧ nv = .int .u64 (sb f n0 k)) (fun _ iv => 64 - (intOf iv).toNat)
 case atStart => exact ⟨0, by omega, by decide, rfl, rfl⟩
 case round =>
  obtain ⟨k, hk, hk64, rfl, rfl⟩ := hrel
  by_cases hlt : k < W
  ·have hltI : (k : Int) < (W : Int) := by omega
   by_cases h64 : k < 64
   ·obtain ⟨g, _, he, _, _, _⟩ := own_some HO1.out (by omega)
    obtain rfl := (Value.slice.inj he).1
    clear he
    have hcell : w1.cell? ⟨g, k, none⟩ = some (.int .i64 (bt (f (n0 + k / 7)) (k % 7))) := by rw [HO1.out.cellAt k (by omega), bl_get _ _ _ _ hlt]
    have HO := Lib.hid (or_bit (f := f) (a := n0) h64)
    have hb := bt_bd (f (n0 + k / 7)) (k % 7)
    generalize bt (f (n0 + k / 7)) (k % 7) = y at *
    have hwy : IntKind.u64.wrap y = y := by rw [IntKind.wrap_u64]; omega
    have hwk : IntKind.u64.wrap (k : Int) = k := by rw [IntKind.wrap_u64]; omega
    have h64I : (k : Int) < 64 := by omega
    go_wp2
    exact ⟨⟨k + 1, by omega, by omega, by go_num, by rw [← HO.out]⟩, by simp [intOf]; omega⟩
   ·have h64I : decide ((k : Int) < 64) = false := decide_eq_false (by omega)
    have HXk := Lib.hid (show x = sb f n0 k by rw [HX.out, show min W 64 = k by omega])
    clear h64
    go_wp2
    go_ret3
    exact ⟨ret_u3 HXk.out.symm, HG1.out⟩
  ·obtain rfl : k = W := by omega
   have hm : min k 64 = k := by omega
   rw [hm] at HX
   clear hm
   go_wp2
   go_ret3
   exact ⟨ret_u3 HX.out.symm, HG1.out⟩
theorem sb_top (f : Nat → Int) (a W : Nat) (h : 0 < W) : (2 ^ (W - 1) ≤ sb f a W ↔ bt (f (a + (W - 1) / 7)) ((W - 1) % 7) = 1) := by
 obtain ⟨V, rfl⟩ : ∃ V, W = V + 1 := ⟨W - 1, by omega⟩
 rw [Nat.add_sub_cancel]
 have h1 := sb_bd f a V
 have hb := bt_bd (f (a + V / 7)) (V % 7)
 have hp := p2pos V
 simp only [sb]
 generalize bt (f (a + V / 7)) (V % 7) = y at *
 have : y = 0 ∨ y = 1 := by omega
 rcases this with rfl | rfl
 ·rw [Int.zero_mul]; omega
 ·rw [Int.one_mul]; omega
def sx (f : Nat → Int) (a W i : Nat) : Int := if i ≤ W then sb f a i else sb f a W + bt (f (a + (W - 1) / 7)) ((W - 1) % 7) * (2 ^ i - 2 ^ W)
theorem sx_step {f : Nat → Int} {a W k : Nat} (hW : 0 < W) (hk : k < 64) : Go.bits .or .u64 (sx f a W k) (IntKind.u64.wrap ((if k < W then bt (f (a + k / 7)) (k % 7) else bt (f (a + (W - 1) / 7)) ((W - 1) % 7)) * 2 ^ k)) = sx f a W (k + 1) := by
 unfold sx
 by_cases h : k < W
 ·rw [if_pos (by omega), if_pos h, if_pos (by omega)]
  exact or_bit hk
 ·rw [if_neg h, if_neg (show ¬ k + 1 ≤ W by omega)]
  have hb := bt_bd (f (a + (W - 1) / 7)) ((W - 1) % 7)
  have hs := sb_bd f a W
  generalize bt (f (a + (W - 1) / 7)) ((W - 1) % 7) = y at *
  have hpk := p2pos k
  have hle := p2le (show W ≤ k by omega)
  have e1 : (2 : Int) ^ (k + 1) = 2 * 2 ^ k := by rw [Int.pow_succ, Int.mul_comm]
  have h3 := p2le (show k ≤ 63 by omega)
  have e63 : (2 : Int) ^ 63 = 9223372036854775808 := rfl
  have hy : y = 0 ∨ y = 1 := by omega
  have hin : (if k ≤ W then sb f a k else sb f a W + y * (2 ^ k - 2 ^ W)) = sb f a W + y * (2 ^ k - 2 ^ W) := by
   by_cases hkW : k ≤ W
   ·obtain rfl : k = W := by omega
    rw [if_pos hkW, Int.sub_self, Int.mul_zero, Int.add_zero]
   ·rw [if_neg hkW]
  rw [hin]
  rcases hy with rfl | rfl
  ·have h := or_step (sb f a W + 0 * (2 ^ k - 2 ^ W)) 0 k (by rw [Int.zero_mul]; omega) (by decide) (by omega)
   rw [h]; simp
  ·have h := or_step (sb f a W + 1 * (2 ^ k - 2 ^ W)) 1 k (by rw [Int.one_mul]; omega) (by decide) (by omega)
   rw [h, Int.one_mul, Int.one_mul, Int.one_mul, mod64 (Int.le_of_lt hpk) (by omega)]
   omega
theorem sval_sx {f : Nat → Int} {a j : Nat} (hj : j ≤ 9) : wrap64 (sx f a (7 * (j + 1)) 64) = sval (sb f a (min (7 * (j + 1)) 64)) ((7 * (j + 1) : Nat) : Int) := by
 unfold sval
 rw [show (((7 * (j + 1) : Nat) : Int) - 1).toNat = 7 * (j + 1) - 1 by omega, Int.toNat_natCast]
 by_cases h9 : j = 9
 ·subst h9
  have hs := sb_bd f a 64
  have e64 : (2 : Int) ^ 64 = 18446744073709551616 := rfl
  rw [if_neg (by omega)]
  show wrap64 (sb f a 64) = if sb f a 64 < _ then sb f a 64 else sb f a 64 - _
  unfold wrap64
  split <;> omega
 ·have ht := sb_top f a (7 * (j + 1)) (by omega)
  have hs := sb_bd f a (7 * (j + 1))
  have hm : min (7 * (j + 1)) 64 = 7 * (j + 1) := by omega
  rw [hm]
  have hle := p2le (show 7 * (j + 1) ≤ 63 by omega)
  have e63 : (2 : Int) ^ 63 = 9223372036854775808 := rfl
  have e64 : (2 : Int) ^ 64 = 18446744073709551616 := rfl
  have hhalf : (2 : Int) ^ (7 * (j + 1)) = 2 * 2 ^ (7 * (j + 1) - 1) := by
   rw [show 7 * (j + 1) = (7 * (j + 1) - 1) + 1 by omega, Int.pow_succ, Int.mul_comm, Nat.add_sub_cancel]
  have hp1 := p2pos (7 * (j + 1) - 1)
  unfold sx
  rw [if_neg (by omega)]
  have hb := bt_bd (f (a + (7 * (j + 1) - 1) / 7)) ((7 * (j + 1) - 1) % 7)
  generalize bt (f (a + (7 * (j + 1) - 1) / 7)) ((7 * (j + 1) - 1) % 7) = y at *
  generalize sb f a (7 * (j + 1)) = z at *
  by_cases hy : y = 1
  ·subst hy
   rw [if_pos ⟨by omega, by omega, ht.2 rfl⟩]
   unfold wrap64
   omega
  ·obtain rfl : y = 0 := by omega
   have hn : ¬ 2 ^ (7 * (j + 1) - 1) ≤ z := fun h => by have := ht.1 h; omega
   rw [if_neg (fun h => hn h.2.2), if_pos (by omega), Int.zero_mul]
   unfold wrap64
   omega
set_option maxRecDepth 100000 in
set_option maxHeartbeats 4000000 in
theorem rs_any (sv : Value) (len : Nat) (hlen : len ≤ 1099511627776) (f : Nat → Int) (hf : By f) (a bits : Int) (w : World) (h : U8s w sv len f) :
  Calls Try.prog 39 #[sv, .int .i64 a, .int .i64 bits] w fun e w' => e = .returned (.tuple #[.int .i64 (sval (LebM.read true f len a bits).1 (LebM.read true f len a bits).2.1), .int .i64 (LebM.read true f len a bits).2.2.1, .int .i64 (LebM.read true f len a bits).2.2.2]) ∧ Gr w w' := by
 have C := rread_s_any sv len hlen f hf a bits w h
 have hs := read_sumOk true hf len a bits
 generalize LebM.read true f len a bits = r at *
 obtain ⟨x, wd, to, er⟩ := r
 rcases hs with ⟨he, h1, h2, h3⟩ | ⟨he, j, hj, h2, h3⟩
 ·simp only at he h1 h2 h3
  subst h1 h2 h3
  have HC := Lib.hid C
  have hne : (er != 0) = true := bne_iff_ne.2 he
  clear C h he
  go_enter Try.func39, Try.ntmps39
  go_wp2_with (go_at_call 61; refine HC.out.mono ?_; rintro e w1 ⟨lv, rfl, hg1, -⟩; have HG1 := Lib.hid hg1; clear hg1)
  go_ret3
  exact ⟨rfl, HG1.out⟩
 ·simp only at he h2 h3
  subst he h2
  have hW : (((7 * (j + 1) : Nat) : Int)).toNat = 7 * (j + 1) := rfl
  simp only [hW] at C
  have HC := Lib.hid C
  have HX := Lib.hid (show wrap64 (sx f a.toNat (7 * (j + 1)) 64) = sval x ((7 * (j + 1) : Nat) : Int) by rw [h3]; exact sval_sx hj)
  have hW0 : 0 < 7 * (j + 1) := by omega
  have hW70 : 7 * (j + 1) ≤ 70 := by omega
  generalize a.toNat = n0 at *
  generalize sval x ((7 * (j + 1) : Nat) : Int) = v at *
  generalize 7 * (j + 1) = W at *
  clear C h h3 hW hj
  go_enter Try.func39, Try.ntmps39
  go_wp2_with (go_at_call 61; refine HC.out.mono ?_; rintro e w1 ⟨lv, rfl, hg1, ho1⟩; have HG1 := Lib.hid hg1; have HO1 := Lib.hid ho1; clear hg1 ho1)
  obtain ⟨g, lc, rfl, _, _, _⟩ := own_some HO1.out hW0
  obtain ⟨V, hV⟩ : ∃ V, W = V + 1 := ⟨W - 1, by omega⟩
  have hVI : (W : Int) - 1 = (V : Int) := by omega
  have hVW : (V : Int) < (W : Int) := by omega
  have hlast : w1.cell? ⟨g, V, none⟩ = some (.int .i64 (bt (f (n0 + V / 7)) (V % 7))) := by rw [HO1.out.cellAt V (by omega), bl_get _ _ _ _ (by omega)]
  have HVs := Lib.hid (show ∀ k, k < 64 → Go.bits .or .u64 (sx f n0 W k) (IntKind.u64.wrap ((if k < W then bt (f (n0 + k / 7)) (k % 7) else bt (f (n0 + V / 7)) (V % 7)) * 2 ^ k)) = sx f n0 W (k + 1) from fun k hk => by
   have := sx_step (f := f) (a := n0) hW0 hk
   rwa [show W - 1 = V by omega] at this)
  have hlb := bt_bd (f (n0 + V / 7)) (V % 7)
  generalize bt (f (n0 + V / 7)) (V % 7) = d at *
  have hwd : IntKind.u64.wrap d = d := by rw [IntKind.wrap_u64]; omega
  clear hV
  go_wp2_with fail
  go_loop [12, 13, 14] (fun nv iv xv => ∃ (k : Nat) (y : Value), k ≤ 64 ∧ iv = .int .i64 k ∧ nv = .int .u64 (sx f n0 W k) ∧ xv = y) (fun _ iv _ => 64 - (intOf iv).toNat)
  case atStart => exact ⟨0, _, by decide, rfl, by unfold sx; rw [if_pos (by omega)]; rfl, rfl⟩
  case round =>
   obtain ⟨k, y, hk, rfl, rfl, rfl⟩ := hrel
   have HO := Lib.hid (fun h => HVs.out k h)
   by_cases h64 : k < 64
   ·have h64I : (k : Int) < 64 := by omega
    have hwk : IntKind.u64.wrap (k : Int) = k := by rw [IntKind.wrap_u64]; omega
    have HO := HO.out h64
    generalize sx f n0 W k = s0 at *
    by_cases hlt : k < W
    ·have hltI : (k : Int) < (W : Int) := by omega
     rw [if_pos hlt] at HO
     have HOh := Lib.hid HO
     clear HO
     have hcell : w1.cell? ⟨g, k, none⟩ = some (.int .i64 (bt (f (n0 + k / 7)) (k % 7))) := by rw [HO1.out.cellAt k (by omega), bl_get _ _ _ _ hlt]
     have hb := bt_bd (f (n0 + k / 7)) (k % 7)
     generalize bt (f (n0 + k / 7)) (k % 7) = z at *
     have hwz : IntKind.u64.wrap z = z := by rw [IntKind.wrap_u64]; omega
     go_wp2
     exact ⟨⟨k + 1, _, by omega, by go_num, by rw [← HOh.out], rfl⟩, by simp [intOf]; omega⟩
    ·have hltI : ¬ (k : Int) < (W : Int) := by omega
     rw [if_neg hlt] at HO
     have HOh := Lib.hid HO
     clear HO
     go_wp2
     exact ⟨⟨k + 1, _, by omega, by go_num, by rw [← HOh.out], rfl⟩, by simp [intOf]; omega⟩
   ·obtain rfl : k = 64 := by omega
    clear h64 HO
    generalize hsx : sx f n0 W 64 = s0 at *
    go_wp2
    go_ret3
    exact ⟨ret3 (by rw [← HX.out]), HG1.out⟩
end Go.Proofs.Ytebkabidojipoaa
