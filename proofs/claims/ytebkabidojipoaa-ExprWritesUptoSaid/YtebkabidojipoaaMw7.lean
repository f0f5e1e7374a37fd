/-
  Texts of this seat, joined: LebAwake, LebForm, LebBack, LebCutM, LebSgnM, LebRef, LebRRead, LebRUS, LebWrM, LebRForm, LebWp. Each says what it proves.
-/
import Derived.Test.YtebkabidojipoaaMw4
import Derived.Laws.BytesArg
import Derived.OwnWalk
namespace Go.Proofs.Ytebkabidojipoaa
section
open Go.RowKit LebM
def lst (l : List Int) (j : Nat) : Int := l.getD j 0
theorem ks_lit (k : IntKind) (w : World) (l : List Int) (t : TypeId) (hl : l.length ≤ 9223372036854775807) (c : Nat) : Ks k (w.alloc (.cells (l.map (Value.int k)).toArray t)) (.slice (some ⟨w.heap.size, 0, none⟩) l.length c) l.length (lst l) :=
 .inr ⟨hl, _, 0, c, rfl, fun j hj => by
  rw [Nat.zero_add]
  refine (cell_of_row _ _ j _ _ _ (heap_alloc_new w _)).trans ?_
  unfold lst
  simp [List.getD_eq_getElem?_getD, hj]⟩
theorem u8s_lit (w : World) (l : List Int) (t : TypeId) (hl : l.length ≤ 9223372036854775807) (c : Nat) : U8s (w.alloc (.cells (u8s l).toArray t)) (.slice (some ⟨w.heap.size, 0, none⟩) l.length c) l.length (lst l) := ks_lit .u8 w l t hl c
theorem lst_by {l : List Int} (h : ∀ x ∈ l, 0 ≤ x ∧ x < 256) : By (lst l) := fun j => by
 unfold lst
 rw [List.getD_eq_getElem?_getD]
 by_cases hj : j < l.length
 ·rw [List.getElem?_eq_getElem hj]; exact h _ (List.getElem_mem hj)
 ·rw [List.getElem?_eq_none (by omega)]; exact ⟨by decide, by decide⟩
theorem lst_bd {l : List Int} {a b : Int} (h0 : a ≤ 0 ∧ 0 ≤ b) (h : ∀ x ∈ l, a ≤ x ∧ x ≤ b) : ∀ j, a ≤ lst l j ∧ lst l j ≤ b := fun j => by
 unfold lst
 rw [List.getD_eq_getElem?_getD]
 by_cases hj : j < l.length
 ·rw [List.getElem?_eq_getElem hj]; exact h _ (List.getElem_mem hj)
 ·rw [List.getElem?_eq_none (by omega)]; exact h0
theorem u8s_of_owns {w : World} {base : Nat} {e : TypeId} {v : Value} {l : List Int} (h : w.ownsRow base e 1 v l.length (u8s l)) : U8s w v l.length (lst l) := by
 rcases h.2 with ⟨h1, h2⟩ | ⟨g, cap, cur, rfl, hb, hh, hn, hcap, hsz, htk⟩
 ·exact .inl ⟨h2, _, _, h1⟩
 ·refine .inr ⟨by unfold maxLen at hcap; omega, g, 0, cap, rfl, fun j hj => ?_⟩
  rw [Nat.zero_add, cell_of_row _ _ j _ _ _ hh]
  have h3 : (u8s l)[j]? = some (.int .u8 (lst l j)) := by unfold u8s lst; simp [List.getD_eq_getElem?_getD, hj]
  rw [← htk, Nat.mul_one, List.getElem?_take, if_pos hj] at h3
  simpa using h3
def Str (w : World) (v : Value) (xs : List Int) : Prop := ∀ dst, Try.prog.underlying dst = some .string → (convert 22 dst v).run Try.prog w = .ok (.string (strOfNums xs)) w
theorem str_of_u8s {w : World} {v : Value} {l : List Int} (h : U8s w v l.length (lst l)) (h0 : v = .slice none 0 0 ∨ 0 < l.length) : Str w v l := by
 rcases h with ⟨hl, a, c, rfl⟩ | ⟨_, b, off, cap, rfl, hc⟩
 ·rcases h0 with h0 | h0
  ·obtain ⟨rfl, _, rfl⟩ := Value.slice.inj h0
   have : l = [] := List.eq_nil_of_length_eq_zero hl
   subst this
   exact run_convert_bytes_nil w 22 5 Try.underlying22 Try.underlying5 0 0
  ·omega
 ·exact run_convert_bytes_arg w 22 5 Try.underlying22 Try.underlying5 b off l.length cap l rfl hc
theorem str_of_owns {w : World} {base : Nat} {e : TypeId} {v : Value} {l : List Int} (h : w.ownsRow base e 1 v l.length (u8s l)) : Str w v l := by
 rcases h.2 with ⟨h1, h2⟩ | ⟨g, cap, cur, rfl, hb, hh, hn, hcap, hsz, htk⟩
 ·exact str_of_u8s (u8s_of_owns h) (.inl h1)
 ·by_cases h0 : 0 < l.length
  ·exact str_of_u8s (u8s_of_owns h) (.inr h0)
  ·have : l = [] := List.eq_nil_of_length_eq_zero (by omega)
   subst this
   exact run_convert_bytes_arg w 22 5 Try.underlying22 Try.underlying5 g 0 0 cap [] rfl (fun i hi => by omega)
theorem a1 : LebM.read false (lst [229, 142, 38]) 3 0 32 = (624485, 21, 3, 0) := by decide +kernel
theorem a2 : LebM.read true (lst [192, 187, 120]) 3 0 32 = (1973696, 21, 3, 0) := by decide +kernel
theorem a3 : forms formU (lst [624485, 0, 128]) 3 = [229, 142, 38, 0, 128, 1] := by decide +kernel
theorem a4 : forms formS (lst [-123456]) 1 = [192, 187, 120] := by decide +kernel
theorem s1 : strOfNums [229, 142, 38, 0, 128, 1] = { data := #[229, 142, 38, 0, 128, 1] } := by rfl
theorem s2 : strOfNums [192, 187, 120] = { data := #[192, 187, 120] } := by rfl
end
section
open Go.RowKit LebM
theorem tup4 {a b c d a' b' c' : Int} (h1 : a = a') (h2 : b = b') (h3 : c = c') : (a, b, c, d) = (a', b', c', d) := by rw [h1, h2, h3]
theorem fitU_of {c left : Int} (h : 7 ≤ left ∨ c < 2 ^ left.toNat) : fitU c left = true := by
 unfold fitU
 rcases h with h | h <;> simp [h]
theorem fitU_no {c left : Int} (h1 : left < 7) (h2 : 2 ^ left.toNat ≤ c) : fitU c left = false := by
 unfold fitU
 rw [decide_eq_false (by omega), decide_eq_false (by omega)]; rfl
theorem p2 (a b : Nat) : (2 : Int) ^ (a + b) = 2 ^ a * 2 ^ b := Int.pow_add 2 a b
theorem p2pos (a : Nat) : (0 : Int) < 2 ^ a := Int.pow_pos (by decide)
theorem p2le {a b : Nat} (h : a ≤ b) : (2 : Int) ^ a ≤ 2 ^ b := by
 obtain ⟨c, rfl⟩ := Nat.exists_eq_add_of_le h
 rw [p2]
 have h1 := p2pos a
 have h2 := p2pos c
 have := Int.mul_le_mul_of_nonneg_left (show (1 : Int) ≤ 2 ^ c by omega) (Int.le_of_lt h1)
 omega
theorem p128pos (a : Nat) : (0 : Int) < 128 ^ a := Int.pow_pos (by decide)
theorem mod64 {t : Int} (h0 : 0 ≤ t) (h : t < 18446744073709551616) : t % 18446744073709551616 = t := Int.emod_eq_of_lt h0 h
theorem rd_form (f : Nat → Int) (len a B : Nat) : ∀ (m r k : Nat) (x n : Int), 0 ≤ n → n < 128 ^ (m + 1) → n * 128 ^ k < 18446744073709551616 → m + 1 ≤ r → 7 * k < B →
  (∀ j, j < (lebU m n).length → f (a + (k + j)) = (lebU m n).getD j 0) → a + (k + (lebU m n).length) ≤ len →
  rd false f len B a r k x = if n < 2 ^ (B - 7 * k) then (x + n * 128 ^ k, 7 * ((k + (lebU m n).length : Nat) : Int), ((a + (k + (lebU m n).length) : Nat) : Int), 0) else (0, 0, 0, 6) := by
 intro m
 induction m with
 | zero =>
  intro r k x n hn0 hn1 hn2 hr hk hf hlen
  obtain ⟨r', rfl⟩ : ∃ r', r = r' + 1 := ⟨r - 1, by omega⟩
  have hn127 : n ≤ 127 := by
   have : (128 : Int) ^ (0 + 1) = 128 := rfl
   omega
  rw [lebU_end ⟨hn0, hn127⟩] at *
  have hc : f (a + k) = n := by have := hf 0 (by simp); simpa using this
  have hlo : lowI (f (a + k)) = n := by rw [hc]; unfold lowI; omega
  have hl : (B : Int) - 7 * (k : Int) = ((B - 7 * k : Nat) : Int) := by omega
  simp only [List.length_singleton] at hlen ⊢
  have h1 := Int.mul_nonneg hn0 (Int.le_of_lt (p128pos k))
  by_cases hlt : n < 2 ^ (B - 7 * k)
  ·rw [if_pos hlt, rd_end (by omega) (by rw [hlo, hl]; exact fitU_of (.inr (by rw [Int.toNat_natCast]; exact hlt))) (by omega), hlo, mod64 h1 hn2]
   exact tup4 rfl (by push_cast; omega) (by push_cast; omega)
  ·have h7 : B - 7 * k < 7 := by
    apply Classical.byContradiction
    intro h
    have := p2le (show 7 ≤ B - 7 * k by omega)
    have e : (2 : Int) ^ 7 = 128 := rfl
    omega
   rw [if_neg hlt, rd_bad (by omega) (.inl (by rw [hlo, hl]; exact fitU_no (by omega) (by rw [Int.toNat_natCast]; omega)))]
 | succ m ih =>
  intro r k x n hn0 hn1 hn2 hr hk hf hlen
  obtain ⟨r', rfl⟩ : ∃ r', r = r' + 1 := ⟨r - 1, by omega⟩
  have hl : (B : Int) - 7 * (k : Int) = ((B - 7 * k : Nat) : Int) := by omega
  have h1 := Int.mul_nonneg hn0 (Int.le_of_lt (p128pos k))
  by_cases hn127 : n ≤ 127
  ·rw [lebU_end ⟨hn0, hn127⟩] at *
   have hc : f (a + k) = n := by have := hf 0 (by simp); simpa using this
   have hlo : lowI (f (a + k)) = n := by rw [hc]; unfold lowI; omega
   simp only [List.length_singleton] at hlen ⊢
   by_cases hlt : n < 2 ^ (B - 7 * k)
   ·rw [if_pos hlt, rd_end (by omega) (by rw [hlo, hl]; exact fitU_of (.inr (by rw [Int.toNat_natCast]; exact hlt))) (by omega), hlo, mod64 h1 hn2]
    exact tup4 rfl (by push_cast; omega) (by push_cast; omega)
   ·have h7 : B - 7 * k < 7 := by
     apply Classical.byContradiction
     intro h
     have := p2le (show 7 ≤ B - 7 * k by omega)
     have e : (2 : Int) ^ 7 = 128 := rfl
     omega
    rw [if_neg hlt, rd_bad (by omega) (.inl (by rw [hlo, hl]; exact fitU_no (by omega) (by rw [Int.toNat_natCast]; omega)))]
  ·rw [lebU_go (by omega)] at *
   have hc : f (a + k) = n % 128 + 128 := by have := hf 0 (by simp); simpa using this
   have hlo : lowI (f (a + k)) = n % 128 := by rw [hc]; unfold lowI; omega
   simp only [List.length_cons] at hlen hf ⊢
   by_cases h7 : B - 7 * k ≤ 7
   ·have hge : ¬ n < 2 ^ (B - 7 * k) := by
     have := p2le h7
     have e : (2 : Int) ^ 7 = 128 := rfl
     omega
    rw [if_neg hge, rd_bad (by omega) (.inr ⟨by omega, by omega⟩)]
   ·have h2 : n % 128 * 128 ^ k ≤ n * 128 ^ k := Int.mul_le_mul_of_nonneg_right (by omega) (Int.le_of_lt (p128pos k))
    have h3 : 0 ≤ n % 128 * 128 ^ k := Int.mul_nonneg (by omega) (Int.le_of_lt (p128pos k))
    have h4 : n / 128 * 128 ^ (k + 1) = (n - n % 128) * 128 ^ k := by
     rw [Int.pow_succ, Int.mul_comm (128 ^ k), ← Int.mul_assoc]
     congr 1; omega
    have h5 : (n - n % 128) * 128 ^ k = n * 128 ^ k - n % 128 * 128 ^ k := Int.sub_mul ..
    have hn3 : n / 128 < 128 ^ (m + 1) := by
     rw [Int.pow_succ] at hn1
     omega
    rw [rd_more (by omega) (by rw [hlo, hl]; exact fitU_of (.inl (by omega))) (by omega) (by omega), hlo, mod64 h3 (by omega),
     ih r' (k + 1) _ (n / 128) (by omega) hn3 (by rw [h4, h5]; omega) (by omega) (by omega) (fun j hj => by
      have := hf (j + 1) (by omega)
      rw [show k + (j + 1) = k + 1 + j by omega] at this
      simpa using this) (by omega)]
    have e1 : (2 : Int) ^ (B - 7 * k) = 2 ^ (B - 7 * (k + 1)) * 128 := by
     rw [show B - 7 * k = B - 7 * (k + 1) + 7 by omega, p2]; rfl
    have e2 : (n / 128 < 2 ^ (B - 7 * (k + 1))) ↔ (n < 2 ^ (B - 7 * k)) := by rw [e1]; omega
    by_cases hlt : n < 2 ^ (B - 7 * k)
    ·rw [if_pos (e2.2 hlt), if_pos hlt, h4, h5]
     exact tup4 (by omega) (by push_cast; omega) (by push_cast; omega)
    ·rw [if_neg (fun h => hlt (e2.1 h)), if_neg hlt]
theorem formU_lt {n : Int} (h : n < 18446744073709551616) : n < 128 ^ (9 + 1) := by
 have : (128 : Int) ^ (9 + 1) = 1180591620717411303424 := rfl
 omega
theorem read_form {f : Nat → Int} {len a B : Nat} (hB1 : 1 ≤ B) (hB : B ≤ 64) {n : Int} (hn : 0 ≤ n ∧ n < 18446744073709551616) (hf : ∀ j, j < (formU n).length → f (a + j) = (formU n).getD j 0) (hlen : a + (formU n).length ≤ len) :
  LebM.read false f len a B = if n < 2 ^ B then (n, 7 * ((formU n).length : Int), ((a + (formU n).length : Nat) : Int), 0) else (0, 0, 0, 6) := by
 unfold LebM.read
 rw [if_neg (by omega), Int.toNat_natCast]
 have := rd_form f len a B 9 10 0 0 n hn.1 (formU_lt hn.2) (by simpa using hn.2) (by decide) (by omega) (fun j hj => by rw [Nat.zero_add]; exact hf j hj) (by rw [Nat.zero_add]; exact hlen)
 rw [this]
 simp only [Nat.zero_add, Int.zero_add, Nat.mul_zero, Nat.sub_zero, Int.pow_zero, Int.mul_one]
 rfl
end
section
open Go.RowKit LebM
theorem own_slice {w : World} {base : Nat} {e : TypeId} {size : Nat} {v : Value} {n : Nat} {xs : List Value} (h : w.ownsRow base e size v n xs) : ∃ a c, v = .slice a n c := by
 rcases h.2 with ⟨rfl, rfl⟩ | ⟨g, cap, cur, rfl, _⟩
 ·exact ⟨_, _, rfl⟩
 ·exact ⟨_, _, rfl⟩
theorem u8s_one (l : List Int) : ∀ u ∈ u8s l, u.oneCell' = true := fun u hu => by
 unfold u8s at hu
 obtain ⟨x, _, rfl⟩ := List.mem_map.1 hu
 rfl
theorem u8s_len1 (l : List Int) : (u8s l).length = l.length * 1 := by rw [u8s_len, Nat.mul_one]
end
section
open Go.RowKit LebM
theorem fitB_big (s : Bool) {c left : Int} (h : 7 < left) : fitB s c left = true := by
 unfold fitB fitS fitU
 cases s <;> simp <;> omega
theorem lebS_byte : ∀ m n, ∀ x ∈ lebS m n, 0 ≤ x ∧ x < 256
 | 0, n, x, hx => by
  simp only [lebS, List.mem_singleton] at hx
  omega
 | m + 1, n, x, hx => by
  unfold lebS at hx
  split at hx
  ·simp only [List.mem_singleton] at hx
   omega
  ·rcases List.mem_cons.1 hx with h1 | h1
   ·omega
   ·exact lebS_byte m (n / 128) x h1
theorem lebS_pos : ∀ m n, 0 < (lebS m n).length
 | 0, _ => by simp [lebS]
 | m + 1, n => by unfold lebS; split <;> simp
theorem puts1 (n : Int) (hn : -9223372036854775808 ≤ n ∧ n ≤ 9223372036854775807) (w : World) : Calls Try.prog 47 #[.slice (some ⟨w.heap.size, 0, none⟩) 1 1] (w.alloc (.cells #[.int .i64 n] 2)) fun e w' => ∃ sv, e = .returned sv ∧ Gr w w' ∧ w'.ownsRow w.heap.size 5 1 sv (formS n).length (u8s (formS n)) := by
 have h := puts_any (.slice (some ⟨w.heap.size, 0, none⟩) 1 1) 1 (lst [n]) (lst_bd (l := [n]) (by decide) (fun x hx => by simp at hx; omega)) (by decide) _ (ks_lit .i64 w [n] 2 (by simp) 1)
 rw [show forms formS (lst [n]) 1 = formS n from rfl] at h
 exact h.mono fun e w' ⟨sv, h1, h2, h3⟩ => ⟨sv, h1, gr_trans ((Gr.refl w).allocO _) h2, h3.1, by
  rcases h3.2 with h | ⟨g, cap, cur, e1, e2, e3⟩
  ·exact .inl h
  ·exact .inr ⟨g, cap, cur, e1, by simp at e2; omega, e3⟩⟩
theorem own_some {w : World} {base : Nat} {e : TypeId} {size : Nat} {v : Value} {n : Nat} {xs : List Value} (h : w.ownsRow base e size v n xs) (hn : 0 < n) : ∃ g c, v = .slice (some ⟨g, 0, none⟩) n c ∧ n ≤ c ∧ base ≤ g ∧ g < w.heap.size := by
 rcases h.2 with ⟨_, rfl⟩ | ⟨g, cap, cur, rfl, hb, hg, hnc, _⟩
 ·omega
 ·exact ⟨g, cap, rfl, hnc, hb, (Array.getElem?_eq_some_iff.1 hg).1⟩
end
section
open Go.RowKit LebM
theorem fitS_last {n left : Int} {q : Nat} (hn : -64 ≤ n ∧ n < 64) (hq : left = (q : Int) + 1) : fitS (n % 128) left = decide (-(2 ^ q) ≤ n ∧ n < 2 ^ q) := by
 have e : (left - 1).toNat = q := by omega
 unfold fitS
 rw [e]
 by_cases h7 : 7 < left
 ·have h1 := p2le (show 7 ≤ q by omega)
  have e7 : (2 : Int) ^ 7 = 128 := rfl
  rw [decide_eq_true h7, Bool.true_or, Bool.true_or, decide_eq_true (by omega)]
 ·have hq6 : q = 0 ∨ q = 1 ∨ q = 2 ∨ q = 3 ∨ q = 4 ∨ q = 5 ∨ q = 6 := by omega
  rw [Bool.eq_iff_iff]
  simp only [Bool.or_eq_true, decide_eq_true_eq]
  rcases hq6 with rfl | rfl | rfl | rfl | rfl | rfl | rfl
  all_goals
   simp only [show (2 : Int) ^ 0 = 1 from rfl, show (2 : Int) ^ 1 = 2 from rfl, show (2 : Int) ^ 2 = 4 from rfl, show (2 : Int) ^ 3 = 8 from rfl, show (2 : Int) ^ 4 = 16 from rfl, show (2 : Int) ^ 5 = 32 from rfl, show (2 : Int) ^ 6 = 64 from rfl]
   omega
theorem p7 (k : Nat) : (2 : Int) ^ (7 * k + 7) = 128 * 128 ^ k := by rw [p2, pow7, Int.mul_comm]; rfl
theorem p6 (k : Nat) : (2 : Int) ^ (7 * k + 6) = 64 * 128 ^ k := by rw [p2, pow7, Int.mul_comm]; rfl
theorem sval_last {n x : Int} {k : Nat} (hn : -64 ≤ n ∧ n < 64) (hx : 0 ≤ x ∧ x < 128 ^ k) (hk : k ≤ 9) (h1 : -9223372036854775808 ≤ n * 128 ^ k) (h2 : (n + 1) * 128 ^ k ≤ 9223372036854775808) :
  sval (x + n % 128 * 128 ^ k % 18446744073709551616) (7 * (k : Int) + 7) = x + n * 128 ^ k := by
 have hp := p128pos k
 have hadd : (n + 1) * 128 ^ k = n * 128 ^ k + 128 ^ k := by rw [Int.add_mul, Int.one_mul]
 unfold sval
 rw [show (7 * (k : Int) + 7 - 1).toNat = 7 * k + 6 by omega, show (7 * (k : Int) + 7).toNat = 7 * k + 7 by omega, p6, p7]
 by_cases h9 : k = 9
 ·subst h9
  have e : (128 : Int) ^ 9 = 9223372036854775808 := rfl
  rw [if_neg (by omega)]
  rw [e] at *
  have : n = -1 ∨ n = 0 := by omega
  rcases this with rfl | rfl
  ·rw [if_neg (by omega)]; omega
  ·rw [if_pos (by omega)]; omega
 ·have hp8 : (128 : Int) ^ k ≤ 72057594037927936 := by
   have := p2le (show 7 * k ≤ 56 by omega)
   rw [pow7] at this
   exact this
  by_cases hneg : n < 0
  ·have e1 : n % 128 = n + 128 := by omega
   have e2 : (n + 128) * 128 ^ k = n * 128 ^ k + 128 * 128 ^ k := by rw [Int.add_mul]
   have e3 : -64 * 128 ^ k ≤ n * 128 ^ k := Int.mul_le_mul_of_nonneg_right (by omega) (Int.le_of_lt hp)
   have e4 : n * 128 ^ k ≤ -1 * 128 ^ k := Int.mul_le_mul_of_nonneg_right (by omega) (Int.le_of_lt hp)
   rw [e1, e2, mod64 (by omega) (by omega), if_pos ⟨by omega, by omega, by omega⟩]
   omega
  ·have e1 : n % 128 = n := by omega
   have e3 : 0 ≤ n * 128 ^ k := Int.mul_nonneg (by omega) (Int.le_of_lt hp)
   have e4 : n * 128 ^ k ≤ 63 * 128 ^ k := Int.mul_le_mul_of_nonneg_right (by omega) (Int.le_of_lt hp)
   rw [e1, mod64 e3 (by omega), if_neg (by omega), if_pos (by omega)]
def SRes (B : Nat) (n x : Int) (k e : Nat) (r : Int × Int × Int × Int) : Prop :=
 (-(2 ^ (B - 7 * k - 1)) ≤ n ∧ n < 2 ^ (B - 7 * k - 1) ∧ sval r.1 r.2.1 = x + n * 128 ^ k ∧ r.2.2.1 = (e : Int) ∧ r.2.2.2 = 0) ∨ (¬ (-(2 ^ (B - 7 * k - 1)) ≤ n ∧ n < 2 ^ (B - 7 * k - 1)) ∧ r = (0, 0, 0, 6))
theorem rds_last {f : Nat → Int} {len a B r k : Nat} {x n : Int} (hn : -64 ≤ n ∧ n < 64) (hx : 0 ≤ x ∧ x < 128 ^ k) (hk9 : k ≤ 9) (h1 : -9223372036854775808 ≤ n * 128 ^ k) (h2 : (n + 1) * 128 ^ k ≤ 9223372036854775808) (hk : 7 * k < B) (hc : f (a + k) = n % 128) (hlen : a + k < len) :
  SRes B n x k (a + k + 1) (rd true f len B a (r + 1) k x) := by
 have hl : (B : Int) - 7 * (k : Int) = ((B - 7 * k - 1 : Nat) : Int) + 1 := by omega
 have hlo : lowI (f (a + k)) = n % 128 := by rw [hc]; unfold lowI; omega
 have hfit := fitS_last (left := (B : Int) - 7 * (k : Int)) hn hl
 by_cases hin : -(2 ^ (B - 7 * k - 1)) ≤ n ∧ n < 2 ^ (B - 7 * k - 1)
 ·left
  refine ⟨hin.1, hin.2, ?_⟩
  rw [rd_end (by omega) (by rw [hlo]; show fitS _ _ = true; rw [hfit]; exact decide_eq_true hin) (by omega), hlo]
  exact ⟨sval_last hn hx hk9 h1 h2, by push_cast; rfl, rfl⟩
 ·right
  refine ⟨hin, rd_bad (by omega) (.inl ?_)⟩
  rw [hlo]; show fitS _ _ = false; rw [hfit]; exact decide_eq_false hin
theorem rds_form (f : Nat → Int) (len a B : Nat) (hB : B ≤ 64) : ∀ (m r k : Nat) (x n : Int), -(64 * 128 ^ m) ≤ n → n < 64 * 128 ^ m → -9223372036854775808 ≤ n * 128 ^ k → (n + 1) * 128 ^ k ≤ 9223372036854775808 → 0 ≤ x → x < 128 ^ k → m + 1 ≤ r → 7 * k < B →
  (∀ j, j < (lebS m n).length → f (a + (k + j)) = (lebS m n).getD j 0) → a + (k + (lebS m n).length) ≤ len → SRes B n x k (a + (k + (lebS m n).length)) (rd true f len B a r k x) := by
 intro m
 induction m with
 | zero =>
  intro r k x n hn0 hn1 h1 h2 hx0 hx1 hr hk hf hlen
  obtain ⟨r', rfl⟩ : ∃ r', r = r' + 1 := ⟨r - 1, by omega⟩
  have e : (128 : Int) ^ 0 = 1 := rfl
  rw [e] at hn0 hn1
  rw [lebS_end (by omega)] at *
  have := rds_last (f := f) (len := len) (a := a) (B := B) (r := r') (k := k) (x := x) (n := n) (by omega) ⟨hx0, hx1⟩ (by omega) h1 h2 hk (by have := hf 0 (by simp); simpa using this) (by simp only [List.length_singleton] at hlen; omega)
  exact this
 | succ m ih =>
  intro r k x n hn0 hn1 h1 h2 hx0 hx1 hr hk hf hlen
  obtain ⟨r', rfl⟩ : ∃ r', r = r' + 1 := ⟨r - 1, by omega⟩
  by_cases hin : -64 ≤ n ∧ n < 64
  ·rw [lebS_end hin] at *
   have := rds_last (f := f) (len := len) (a := a) (B := B) (r := r') (k := k) (x := x) (n := n) hin ⟨hx0, hx1⟩ (by omega) h1 h2 hk (by have := hf 0 (by simp); simpa using this) (by simp only [List.length_singleton] at hlen; omega)
   exact this
  ·rw [lebS_go hin] at *
   have hc : f (a + k) = n % 128 + 128 := by have := hf 0 (by simp); simpa using this
   have hlo : lowI (f (a + k)) = n % 128 := by rw [hc]; unfold lowI; omega
   simp only [List.length_cons] at hlen hf ⊢
   have hp := p128pos k
   by_cases h7 : B - 7 * k ≤ 7
   ·right
    have := p2le (show B - 7 * k - 1 ≤ 6 by omega)
    have e6 : (2 : Int) ^ 6 = 64 := rfl
    exact ⟨by omega, rd_bad (by omega) (.inr ⟨by omega, by omega⟩)⟩
   ·have hk8 : k ≤ 8 := by omega
    have hp8 : (128 : Int) ^ k ≤ 72057594037927936 := by
     have := p2le (show 7 * k ≤ 56 by omega)
     rw [pow7] at this
     exact this
    have e3 : 0 ≤ n % 128 * 128 ^ k := Int.mul_nonneg (by omega) (Int.le_of_lt hp)
    have e4 : n % 128 * 128 ^ k ≤ 127 * 128 ^ k := Int.mul_le_mul_of_nonneg_right (by omega) (Int.le_of_lt hp)
    have e5 : (128 : Int) ^ (k + 1) = 128 * 128 ^ k := by rw [Int.pow_succ, Int.mul_comm]
    have e6 : n / 128 * 128 ^ (k + 1) = n * 128 ^ k - n % 128 * 128 ^ k := by
     rw [e5, ← Int.mul_assoc, ← Int.sub_mul]; congr 1; omega
    have e7 : (n / 128 + 1) * 128 ^ (k + 1) = n / 128 * 128 ^ (k + 1) + 128 ^ (k + 1) := by rw [Int.add_mul, Int.one_mul]
    have e8 : (n + 1) * 128 ^ k = n * 128 ^ k + 128 ^ k := by rw [Int.add_mul, Int.one_mul]
    have e9 : (128 : Int) ^ (m + 1) = 128 * 128 ^ m := by rw [Int.pow_succ, Int.mul_comm]
    have hhi : (n / 128 + 1) * 128 ^ (k + 1) ≤ 9223372036854775808 := by
     -- the next multiple of 128^(k+1) above n's is at most 2^63, because 2^63 is one
     have hd : (9223372036854775808 : Int) = 2 ^ (63 - 7 * (k + 1)) * 128 ^ (k + 1) := by
      rw [← pow7, ← p2, show 63 - 7 * (k + 1) + 7 * (k + 1) = 63 by omega]; rfl
     have hp1 := p128pos (k + 1)
     have hlt : n / 128 < 2 ^ (63 - 7 * (k + 1)) := by
      apply Classical.byContradiction
      intro hge
      have := Int.mul_le_mul_of_nonneg_right (show (2 : Int) ^ (63 - 7 * (k + 1)) ≤ n / 128 by omega) (Int.le_of_lt hp1)
      omega
     have := Int.mul_le_mul_of_nonneg_right (show n / 128 + 1 ≤ (2 : Int) ^ (63 - 7 * (k + 1)) by omega) (Int.le_of_lt hp1)
     omega
    have hlow : -9223372036854775808 ≤ n / 128 * 128 ^ (k + 1) := by
     have hd : (9223372036854775808 : Int) = 2 ^ (63 - 7 * (k + 1)) * 128 ^ (k + 1) := by
      rw [← pow7, ← p2, show 63 - 7 * (k + 1) + 7 * (k + 1) = 63 by omega]; rfl
     have hp1 := p128pos (k + 1)
     have hge : -(2 ^ (63 - 7 * (k + 1))) ≤ n / 128 := by
      apply Classical.byContradiction
      intro hlt
      have := Int.mul_le_mul_of_nonneg_right (show n / 128 + 1 ≤ -((2 : Int) ^ (63 - 7 * (k + 1))) by omega) (Int.le_of_lt hp1)
      rw [Int.neg_mul] at this
      omega
     have := Int.mul_le_mul_of_nonneg_right hge (Int.le_of_lt hp1)
     rw [Int.neg_mul] at this
     omega
    have hih := ih r' (k + 1) (x + n % 128 * 128 ^ k) (n / 128) (by omega) (by omega) hlow hhi (by omega) (by omega) (by omega) (by omega) (fun j hj => by
      have := hf (j + 1) (by omega)
      rw [show k + (j + 1) = k + 1 + j by omega] at this
      simpa using this) (by omega)
    rw [rd_more (by omega) (fitB_big true (by omega)) (by omega) (by omega), hlo, mod64 e3 (by omega)]
    have e10 : (2 : Int) ^ (B - 7 * k - 1) = 128 * 2 ^ (B - 7 * (k + 1) - 1) := by
     rw [show B - 7 * k - 1 = 7 + (B - 7 * (k + 1) - 1) by omega, p2]; rfl
    have e11 : (-(2 ^ (B - 7 * (k + 1) - 1)) ≤ n / 128 ∧ n / 128 < 2 ^ (B - 7 * (k + 1) - 1)) ↔ (-(2 ^ (B - 7 * k - 1)) ≤ n ∧ n < 2 ^ (B - 7 * k - 1)) := by rw [e10]; omega
    rcases hih with ⟨g1, g2, g3, g4, g5⟩ | ⟨g1, g2⟩
    ·obtain ⟨k1, k2⟩ := e11.1 ⟨g1, g2⟩
     exact .inl ⟨k1, k2, by rw [g3, e6]; omega, by rw [g4]; omega, g5⟩
    ·exact .inr ⟨fun h => g1 (e11.2 h), g2⟩
end
section
open Go.RowKit LebM
def bt (c : Int) (i : Nat) : Int := c / 2 ^ i % 2
theorem bit_any (c : Int) (hc : 0 ≤ c ∧ c < 256) (i : Nat) (hi : i ≤ 7) (w : World) :
  Calls Try.prog 79 #[.int .u8 c, .int .i64 i] w fun e w' => e = .returned (.int .i64 (bt c i)) ∧ w = w' := by
 have hi' : i = 0 ∨ i = 1 ∨ i = 2 ∨ i = 3 ∨ i = 4 ∨ i = 5 ∨ i = 6 ∨ i = 7 := by omega
 rcases hi' with rfl | rfl | rfl | rfl | rfl | rfl | rfl | rfl
 ·have h1 : c.tmod 2 = bt c 0 := by rw [Int.tmod_eq_emod_of_nonneg (by omega)]; unfold bt; simp
  have h2 : wrap64 c = c := by unfold wrap64; omega
  have hb : 0 ≤ bt c 0 ∧ bt c 0 ≤ 1 := by rw [← h1, Int.tmod_eq_emod_of_nonneg (by omega)]; omega
  generalize bt c 0 = x at *
  clear hc hi
  go_enter Try.func79, Try.ntmps79
  go_wp2
  go_ret
  exact ⟨rfl, rfl⟩
 ·have h1 : (c / 2).tmod 2 = bt c 1 := by rw [Int.tmod_eq_emod_of_nonneg (by omega)]; unfold bt; simp
  have h2 : IntKind.i64.wrap (c / 2) = c / 2 := by rw [IntKind.wrap_i64]; omega
  have hb : 0 ≤ bt c 1 ∧ bt c 1 ≤ 1 := by rw [← h1, Int.tmod_eq_emod_of_nonneg (by omega)]; omega
  generalize bt c 1 = x at *
  clear hc hi
  go_enter Try.func79, Try.ntmps79
  go_wp2
  go_ret
  exact ⟨rfl, rfl⟩
 ·have h1 : (c / 4).tmod 2 = bt c 2 := by rw [Int.tmod_eq_emod_of_nonneg (by omega)]; unfold bt; simp
  have h2 : IntKind.i64.wrap (c / 4) = c / 4 := by rw [IntKind.wrap_i64]; omega
  have hb : 0 ≤ bt c 2 ∧ bt c 2 ≤ 1 := by rw [← h1, Int.tmod_eq_emod_of_nonneg (by omega)]; omega
  generalize bt c 2 = x at *
  clear hc hi
  go_enter Try.func79, Try.ntmps79
  go_wp2
  go_ret
  exact ⟨rfl, rfl⟩
 ·have h1 : (c / 8).tmod 2 = bt c 3 := by rw [Int.tmod_eq_emod_of_nonneg (by omega)]; unfold bt; simp
  have h2 : IntKind.i64.wrap (c / 8) = c / 8 := by rw [IntKind.wrap_i64]; omega
  have hb : 0 ≤ bt c 3 ∧ bt c 3 ≤ 1 := by rw [← h1, Int.tmod_eq_emod_of_nonneg (by omega)]; omega
  generalize bt c 3 = x at *
  clear hc hi
  go_enter Try.func79, Try.ntmps79
  go_wp2
  go_ret
  exact ⟨rfl, rfl⟩
 ·have h1 : (c / 16).tmod 2 = bt c 4 := by rw [Int.tmod_eq_emod_of_nonneg (by omega)]; unfold bt; simp
  have h2 : IntKind.i64.wrap (c / 16) = c / 16 := by rw [IntKind.wrap_i64]; omega
  have hb : 0 ≤ bt c 4 ∧ bt c 4 ≤ 1 := by rw [← h1, Int.tmod_eq_emod_of_nonneg (by omega)]; omega
  generalize bt c 4 = x at *
  clear hc hi
  go_enter Try.func79, Try.ntmps79
  go_wp2
  go_ret
  exact ⟨rfl, rfl⟩
 ·have h1 : (c / 32).tmod 2 = bt c 5 := by rw [Int.tmod_eq_emod_of_nonneg (by omega)]; unfold bt; simp
  have h2 : IntKind.i64.wrap (c / 32) = c / 32 := by rw [IntKind.wrap_i64]; omega
  have hb : 0 ≤ bt c 5 ∧ bt c 5 ≤ 1 := by rw [← h1, Int.tmod_eq_emod_of_nonneg (by omega)]; omega
  generalize bt c 5 = x at *
  clear hc hi
  go_enter Try.func79, Try.ntmps79
  go_wp2
  go_ret
  exact ⟨rfl, rfl⟩
 ·have h1 : (c / 64).tmod 2 = bt c 6 := by rw [Int.tmod_eq_emod_of_nonneg (by omega)]; unfold bt; simp
  have h2 : IntKind.i64.wrap (c / 64) = c / 64 := by rw [IntKind.wrap_i64]; omega
  have hb : 0 ≤ bt c 6 ∧ bt c 6 ≤ 1 := by rw [← h1, Int.tmod_eq_emod_of_nonneg (by omega)]; omega
  generalize bt c 6 = x at *
  clear hc hi
  go_enter Try.func79, Try.ntmps79
  go_wp2
  go_ret
  exact ⟨rfl, rfl⟩
 ·have h1 : (c / 128).tmod 2 = bt c 7 := by rw [Int.tmod_eq_emod_of_nonneg (by omega)]; unfold bt; simp
  have h2 : IntKind.i64.wrap (c / 128) = c / 128 := by rw [IntKind.wrap_i64]; omega
  have hb : 0 ≤ bt c 7 ∧ bt c 7 ≤ 1 := by rw [← h1, Int.tmod_eq_emod_of_nonneg (by omega)]; omega
  generalize bt c 7 = x at *
  clear hc hi
  go_enter Try.func79, Try.ntmps79
  go_wp2
  go_ret
  exact ⟨rfl, rfl⟩
theorem bt_bd (c : Int) (i : Nat) : 0 ≤ bt c i ∧ bt c i ≤ 1 := by unfold bt; omega
theorem bt7 (c : Int) (hc : 0 ≤ c ∧ c < 256) : bt c 7 = if c < 128 then 0 else 1 := by
 unfold bt
 rw [show (2 : Int) ^ 7 = 128 from rfl]
 split <;> omega
def okU (c : Int) (left : Int) (i : Nat) : Prop := ¬ (left ≤ (i : Int) ∧ bt c i = 1)
def okS (c : Int) (left : Int) (i : Nat) : Prop := ¬ (left ≤ (i : Int) ∧ bt c i ≠ bt c (left - 1).toNat)
instance decU (c left : Int) (i : Nat) : Decidable (okU c left i) := by unfold okU; infer_instance
instance decS (c left : Int) (i : Nat) : Decidable (okS c left i) := by unfold okS; infer_instance
theorem fitU_bits (c : Int) (hc : 0 ≤ c ∧ c < 256) (left : Int) (hl : 1 ≤ left) : fitB false (lowI c) left = true ↔ ∀ i, i < 7 → okU c left i := by
 show fitU (c % 128) left = true ↔ _
 by_cases h7 : 7 ≤ left
 ·rw [fitU_of (.inl h7)]
  exact ⟨fun _ i hi h => by omega, fun _ => rfl⟩
 ·obtain ⟨n, rfl⟩ := Int.eq_ofNat_of_zero_le hc.1
  have hn : n < 256 := by omega
  have hl' : left = 1 ∨ left = 2 ∨ left = 3 ∨ left = 4 ∨ left = 5 ∨ left = 6 := by omega
  rcases hl' with rfl | rfl | rfl | rfl | rfl | rfl
  ·have : ∀ n : Fin 256, fitU (((n.val : Nat) : Int) % 128) 1 = (List.range 7).all fun i => decide (okU ((n.val : Nat) : Int) 1 i) := by decide +kernel
   rw [this ⟨n, hn⟩, List.all_eq_true]; simp only [List.mem_range, decide_eq_true_eq]
  ·have : ∀ n : Fin 256, fitU (((n.val : Nat) : Int) % 128) 2 = (List.range 7).all fun i => decide (okU ((n.val : Nat) : Int) 2 i) := by decide +kernel
   rw [this ⟨n, hn⟩, List.all_eq_true]; simp only [List.mem_range, decide_eq_true_eq]
  ·have : ∀ n : Fin 256, fitU (((n.val : Nat) : Int) % 128) 3 = (List.range 7).all fun i => decide (okU ((n.val : Nat) : Int) 3 i) := by decide +kernel
   rw [this ⟨n, hn⟩, List.all_eq_true]; simp only [List.mem_range, decide_eq_true_eq]
  ·have : ∀ n : Fin 256, fitU (((n.val : Nat) : Int) % 128) 4 = (List.range 7).all fun i => decide (okU ((n.val : Nat) : Int) 4 i) := by decide +kernel
   rw [this ⟨n, hn⟩, List.all_eq_true]; simp only [List.mem_range, decide_eq_true_eq]
  ·have : ∀ n : Fin 256, fitU (((n.val : Nat) : Int) % 128) 5 = (List.range 7).all fun i => decide (okU ((n.val : Nat) : Int) 5 i) := by decide +kernel
   rw [this ⟨n, hn⟩, List.all_eq_true]; simp only [List.mem_range, decide_eq_true_eq]
  ·have : ∀ n : Fin 256, fitU (((n.val : Nat) : Int) % 128) 6 = (List.range 7).all fun i => decide (okU ((n.val : Nat) : Int) 6 i) := by decide +kernel
   rw [this ⟨n, hn⟩, List.all_eq_true]; simp only [List.mem_range, decide_eq_true_eq]
theorem fitS_bits (c : Int) (hc : 0 ≤ c ∧ c < 256) (left : Int) (hl : 1 ≤ left) : fitB true (lowI c) left = true ↔ ∀ i, i < 7 → okS c left i := by
 show fitS (c % 128) left = true ↔ _
 by_cases h7 : 7 < left
 ·rw [show fitS (c % 128) left = true by unfold fitS; simp [h7]]
  exact ⟨fun _ i hi h => by omega, fun _ => rfl⟩
 ·obtain ⟨n, rfl⟩ := Int.eq_ofNat_of_zero_le hc.1
  have hn : n < 256 := by omega
  have hl' : left = 1 ∨ left = 2 ∨ left = 3 ∨ left = 4 ∨ left = 5 ∨ left = 6 ∨ left = 7 := by omega
  rcases hl' with rfl | rfl | rfl | rfl | rfl | rfl | rfl
  ·have : ∀ n : Fin 256, fitS (((n.val : Nat) : Int) % 128) 1 = (List.range 7).all fun i => decide (okS ((n.val : Nat) : Int) 1 i) := by decide +kernel
   rw [this ⟨n, hn⟩, List.all_eq_true]; simp only [List.mem_range, decide_eq_true_eq]
  ·have : ∀ n : Fin 256, fitS (((n.val : Nat) : Int) % 128) 2 = (List.range 7).all fun i => decide (okS ((n.val : Nat) : Int) 2 i) := by decide +kernel
   rw [this ⟨n, hn⟩, List.all_eq_true]; simp only [List.mem_range, decide_eq_true_eq]
  ·have : ∀ n : Fin 256, fitS (((n.val : Nat) : Int) % 128) 3 = (List.range 7).all fun i => decide (okS ((n.val : Nat) : Int) 3 i) := by decide +kernel
   rw [this ⟨n, hn⟩, List.all_eq_true]; simp only [List.mem_range, decide_eq_true_eq]
  ·have : ∀ n : Fin 256, fitS (((n.val : Nat) : Int) % 128) 4 = (List.range 7).all fun i => decide (okS ((n.val : Nat) : Int) 4 i) := by decide +kernel
   rw [this ⟨n, hn⟩, List.all_eq_true]; simp only [List.mem_range, decide_eq_true_eq]
  ·have : ∀ n : Fin 256, fitS (((n.val : Nat) : Int) % 128) 5 = (List.range 7).all fun i => decide (okS ((n.val : Nat) : Int) 5 i) := by decide +kernel
   rw [this ⟨n, hn⟩, List.all_eq_true]; simp only [List.mem_range, decide_eq_true_eq]
  ·have : ∀ n : Fin 256, fitS (((n.val : Nat) : Int) % 128) 6 = (List.range 7).all fun i => decide (okS ((n.val : Nat) : Int) 6 i) := by decide +kernel
   rw [this ⟨n, hn⟩, List.all_eq_true]; simp only [List.mem_range, decide_eq_true_eq]
  ·have : ∀ n : Fin 256, fitS (((n.val : Nat) : Int) % 128) 7 = (List.range 7).all fun i => decide (okS ((n.val : Nat) : Int) 7 i) := by decide +kernel
   rw [this ⟨n, hn⟩, List.all_eq_true]; simp only [List.mem_range, decide_eq_true_eq]
end
section
open Go.RowKit LebM
def bl (f : Nat → Int) (a n : Nat) : List Value := (List.range n).map fun t => .int .i64 (bt (f (a + t / 7)) (t % 7))
theorem bl_succ (f : Nat → Int) (a n : Nat) : bl f a (n + 1) = bl f a n ++ [.int .i64 (bt (f (a + n / 7)) (n % 7))] := by unfold bl; rw [List.range_succ]; simp
theorem bl_get (f : Nat → Int) (a n j : Nat) (h : j < n) : (bl f a n)[j]? = some (.int .i64 (bt (f (a + j / 7)) (j % 7))) := by unfold bl; simp [h]
theorem infoI : (Try.prog.info? 3).map (fun i => (i.zero, i.size, i.bytes)) = some (some (.int .i64 0), 1, 8) := by kernel_rfl
theorem ret_rr {lv : Value} {x y : Int} {r : Int × Int × Int × Int} (h : r.2.2.1 = x ∧ r.2.2.2 = y) : Ending.returned (.tuple #[lv, .int .i64 x, .int .i64 y]) = .returned (.tuple #[lv, .int .i64 r.2.2.1, .int .i64 r.2.2.2]) := by rw [h.1, h.2]
set_option maxRecDepth 100000 in
set_option maxHeartbeats 8000000 in
theorem rread_u_some (b off cap len a : Nat) (f : Nat → Int) (hf : By f) (bits : Int) (hb1 : 1 ≤ bits) (hb2 : bits ≤ 64) (hal : a ≤ len) (hl : len ≤ 4611686018427387904) (w : World) (hc : ∀ j, j < len → w.cell? ⟨b, off + j, none⟩ = some (.int .u8 (f j))) :
  Calls Try.prog 61 #[.slice (some ⟨b, off, none⟩) len cap, .int .i64 a, .int .i64 bits, .bool false] w fun e w' => ∃ lv, e = .returned (.tuple #[lv, .int .i64 (rd false f len bits a 10 0 0).2.2.1, .int .i64 (rd false f len bits a 10 0 0).2.2.2]) ∧ Gr w w' ∧ w'.ownsRow w.heap.size 3 1 lv (rd false f len bits a 10 0 0).2.1.toNat (bl f a (rd false f len bits a 10 0 0).2.1.toNat) := by
 have HC := Lib.hid hc
 have HF := Lib.hid hf
 have g1 : ¬ bits < 1 := by omega
 have g2 : ¬ 64 < bits := by omega
 have g3 : ¬ (len : Int) < (a : Int) := by omega
 obtain ⟨j0, hj, hj0, hj1, hj2⟩ := info_parts infoI
 have HJ := Lib.hid hj
 have HJ0 := Lib.hid hj0
 have HJ1 := Lib.hid hj1
 have HJ2 := Lib.hid hj2
 clear hc hf hj hj0 hj1 hj2
 generalize hR : rd false f len bits a 10 0 0 = R
 have HR := Lib.hid hR
 clear hR
 go_enter Try.func61, Try.ntmps61
 go_wp2_with fail
 go_loopw [11, 12] (fun lv kv wr => ∃ (k q : Nat) (xv : Int), q = 7 * k ∧ a + k ≤ len ∧ k ≤ 9 ∧ (q : Int) < bits ∧ kv = .int .i64 k ∧ Gr w wr ∧ wr.ownsRow w.heap.size 3 1 lv q (bl f a q) ∧ rd false f len bits a (10 - k) k xv = R) (fun _ kv _ => 10 - (intOf kv).toNat)
 case atStart => exact ⟨0, 0, 0, rfl, hal, by decide, by omega, rfl, Gr.refl _, World.ownsRow_nil _ _ _ _, HR.out⟩
 case round =>
  obtain ⟨k, q, xv, hq, hpl, hk, hqb, rfl, hg, hown, hr⟩ := hrel
  obtain ⟨m, hm⟩ : ∃ m, 10 - k = m + 1 := ⟨9 - k, by omega⟩
  rw [hm] at hr
  have HG := Lib.hid hg
  have HW := Lib.hid hown
  have HQ := Lib.hid hq
  have HRr := Lib.hid hr
  have HM := Lib.hid hm
  have hq7 : 7 * (k : Int) = (q : Int) := by omega
  have hq63 : q ≤ 63 := by omega
  clear hg hown hq hr hm
  by_cases hlt : a + k = len
  ·have hge : (len : Int) ≤ (a : Int) + (k : Int) := by omega
   have HPl := Lib.hid hlt
   clear hlt
   go_wp2
   go_ret3
   have e := rd_short (s := false) (f := f) (bits := bits) (m := m) (x := xv) HPl.out
   rw [HRr.out] at e
   refine ⟨_, ret_rr ⟨by rw [e], by rw [e]⟩, HG.out, ?_⟩
   rw [e]; exact World.ownsRow_nil _ _ _ _
  ·have hlt2 : (a : Int) + (k : Int) < (len : Int) := by omega
   have HNe := Lib.hid hlt
   have h1 := gr_cell HG.out (HC.out (a + k) (by omega))
   have HBd := Lib.hid (HF.out (a + k))
   have HFit := Lib.hid (fitU_bits (f (a + k)) HBd.out (bits - q) (by omega))
   have HQe := Lib.hid (show bits - 7 * (k : Int) = bits - q by omega)
   have HBit := Lib.hid (fun i (hi : i ≤ 7) wx => bit_any (f (a + k)) HBd.out i hi wx)
   generalize hcc : f (a + k) = c at *
   have HCc := Lib.hid hcc
   clear hlt hcc
   go_wp2_with fail
   go_loopw [11, 14] (fun lv iv wr => ∃ i : Nat, i ≤ 7 ∧ iv = .int .i64 i ∧ Gr w wr ∧ wr.ownsRow w.heap.size 3 1 lv (q + i) (bl f a (q + i)) ∧ ∀ j, j < i → okU c (bits - q) j) (fun _ iv _ => 7 - (intOf iv).toNat)
   case atStart => exact ⟨0, by decide, rfl, HG.out, HW.out, fun j hj => by omega⟩
   case round =>
    obtain ⟨i, hi, rfl, hg, hown, hok⟩ := hrel
    have HGi := Lib.hid hg
    have HWi := Lib.hid hown
    have HOk := Lib.hid hok
    clear hg hown hok
    by_cases hi7 : i < 7
    ·have hi7' : (i : Int) < 7 := by omega
     have HBi := Lib.hid (HBit.out i hi)
     have hbd := bt_bd c i
     generalize hxx : bt c i = x at *
     have HXx := Lib.hid hxx
     clear hxx
     by_cases hL : bits ≤ (q : Int) + (i : Int)
     ·have hge : decide (bits ≤ (q : Int) + (i : Int)) = true := decide_eq_true hL
      by_cases hb : x = 1
      ·subst hb
       have HBad := Lib.hid (show ¬ okU c (bits - q) i from fun h => h ⟨by omega, HXx.out⟩)
       clear hL
       go_wp2_with fail
       go_quiet (first | (go_at_call 79; exact Calls.quiet_of_same ((HBi.out _).mono fun e w' h => ⟨h.1, h.2.symm⟩)))
       go_wp2
       go_ret3
       have e := rd_bad (s := false) (f := f) (bits := bits) (m := m) (x := xv) HNe.out (.inl (by
        rw [HCc.out, HQe.out]
        cases hfb : fitB false (lowI c) (bits - q) with
        | false => rfl
        | true => exact absurd (HFit.out.1 hfb i hi7) HBad.out))
       rw [HRr.out] at e
       refine ⟨_, ret_rr ⟨by rw [e], by rw [e]⟩, HGi.out.drewN _, ?_⟩
       rw [e]; exact World.ownsRow_nil _ _ _ _
      ·have hb0 : x = 0 := by omega
       subst hb0
       have HOi := Lib.hid (show okU c (bits - q) i from fun h => hb (HXx.out.symm.trans h.2))
       clear hL hb
       go_wp2_with fail
       go_quiet (first | (go_at_call 79; exact Calls.quiet_of_same ((HBi.out _).mono fun e w' h => ⟨h.1, h.2.symm⟩)))
       go_wp2_with (first | (go_at_call 79; refine (HBi.out _).mono ?_; rintro e w' ⟨rfl, rfl⟩) | (at_builtin; refine wpList_append_src rfl _ _ 36 rfl w.heap.size 3 j0 (.int .i64 0) 1 8 Try.underlying36 HJ.out HJ0.out HJ1.out HJ2.out rfl (by decide) u11 (q + i) (bl f a (q + i)) rfl ((own_gr HWi.out ((Gr.refl wr).drewN _)).alloc _) (.slice (some ⟨wr.heap.size, 0, none⟩) 1 1) 1 [.int .i64 0] rfl (src_lit (wr.drewN _) #[.int .i64 0] _ 1 1) rfl (fun u hu => by simp at hu; subst hu; rfl) (by unfold maxLen; omega) (by omega) (by have := HGi.out.size; simp; omega) ?_))
       intro v' w3 hown3 hgb3
       have HG3 := Lib.hid (((HGi.out.drewN _).allocO _).grown hgb3 (fun q hq => (HWi.out.lt q hq).1))
       have HO3 := Lib.hid (show w3.ownsRow w.heap.size 3 1 v' (q + (i + 1)) (bl f a (q + (i + 1))) by
        rw [← Nat.add_assoc, bl_succ, show (q + i) / 7 = k by have := HQ.out; omega, show (q + i) % 7 = i by have := HQ.out; omega, HCc.out, HXx.out]; exact hown3)
       clear hown3 hgb3
       go_wp2
       exact ⟨⟨i + 1, by omega, by go_num, HG3.out, HO3.out, fun j hj => by
        by_cases hji : j = i
        ·rw [hji]; exact HOi.out
        ·exact HOk.out j (by omega)⟩, by simp [intOf]; omega⟩
     ·have hge : decide (bits ≤ (q : Int) + (i : Int)) = false := decide_eq_false hL
      have HOi := Lib.hid (show okU c (bits - q) i from fun h => hL (by omega))
      clear hL
      go_wp2_with fail
      go_quiet (fail)
      go_wp2_with (first | (go_at_call 79; refine (HBi.out _).mono ?_; rintro e w' ⟨rfl, rfl⟩) | (at_builtin; refine wpList_append_src rfl _ _ 36 rfl w.heap.size 3 j0 (.int .i64 0) 1 8 Try.underlying36 HJ.out HJ0.out HJ1.out HJ2.out rfl (by decide) u11 (q + i) (bl f a (q + i)) rfl ((own_gr HWi.out ((Gr.refl wr).drewN _)).alloc _) (.slice (some ⟨wr.heap.size, 0, none⟩) 1 1) 1 [.int .i64 x] rfl (src_lit (wr.drewN _) #[.int .i64 x] _ 1 1) rfl (fun u hu => by simp at hu; subst hu; rfl) (by unfold maxLen; omega) (by omega) (by have := HGi.out.size; simp; omega) ?_))
      intro v' w3 hown3 hgb3
      have HG3 := Lib.hid (((HGi.out.drewN _).allocO _).grown hgb3 (fun q hq => (HWi.out.lt q hq).1))
      have HO3 := Lib.hid (show w3.ownsRow w.heap.size 3 1 v' (q + (i + 1)) (bl f a (q + (i + 1))) by
       rw [← Nat.add_assoc, bl_succ, show (q + i) / 7 = k by have := HQ.out; omega, show (q + i) % 7 = i by have := HQ.out; omega, HCc.out, HXx.out]; exact hown3)
      clear hown3 hgb3
      go_wp2
      exact ⟨⟨i + 1, by omega, by go_num, HG3.out, HO3.out, fun j hj => by
       by_cases hji : j = i
       ·rw [hji]; exact HOi.out
       ·exact HOk.out j (by omega)⟩, by simp [intOf]; omega⟩
    ·obtain rfl : i = 7 := by omega
     have HFt := Lib.hid (show fitB false (lowI (f (a + k))) (bits - 7 * (k : Int)) = true by rw [HCc.out, HQe.out]; exact HFit.out.2 HOk.out)
     have HB7 := Lib.hid (HBit.out 7 (by decide))
     have hy7 := bt7 c HBd.out
     generalize bt c 7 = y at *
     obtain ⟨q', hq'⟩ : ∃ q' : Nat, q' = q + 7 := ⟨_, rfl⟩
     have hq8 : 7 * ((k : Int) + 1) = (q' : Int) := by omega
     have HQ' := Lib.hid hq'
     clear hq'
     by_cases hc : c < 128
     ·rw [if_pos hc] at hy7
      subst hy7
      have HE := Lib.hid (rd_end (s := false) (f := f) (m := m) (x := xv) HNe.out HFt.out (by rw [HCc.out]; exact hc))
      clear hc
      have HFin := Lib.hid (show ∀ (v : Value) (w' : World), w'.ownsRow w.heap.size 3 1 v (q + 7) (bl f a (q + 7)) → w'.ownsRow w.heap.size 3 1 v R.2.1.toNat (bl f a R.2.1.toNat) from fun v w' h => by
       rw [← HRr.out, HE.out]
       have e : (7 * (k : Int) + 7).toNat = q + 7 := by have := HQ.out; omega
       rw [e]; exact h)
      by_cases hL : bits ≤ (q' : Int)
      ·have hge : decide (bits ≤ (q' : Int)) = true := decide_eq_true hL
       clear hL
       go_wp2_with (go_at_call 79; refine (HB7.out _).mono ?_; rintro e w' ⟨rfl, rfl⟩)
       go_ret3
       exact ⟨_, ret_rr ⟨by rw [← HRr.out, HE.out], by rw [← HRr.out, HE.out]⟩, HGi.out, HFin.out _ _ HWi.out⟩
      ·have hge : decide (bits ≤ (q' : Int)) = false := decide_eq_false hL
       clear hL
       go_wp2_with (go_at_call 79; refine (HB7.out _).mono ?_; rintro e w' ⟨rfl, rfl⟩)
       go_ret3
       exact ⟨_, ret_rr ⟨by rw [← HRr.out, HE.out], by rw [← HRr.out, HE.out]⟩, HGi.out, HFin.out _ _ HWi.out⟩
     ·rw [if_neg hc] at hy7
      subst hy7
      by_cases hL : bits ≤ (q' : Int)
      ·have hge : decide (bits ≤ (q' : Int)) = true := decide_eq_true hL
       have HE := Lib.hid (rd_bad (s := false) (f := f) (bits := bits) (m := m) (x := xv) HNe.out (.inr ⟨by have := HQ'.out; have := HQ.out; omega, by rw [HCc.out]; omega⟩))
       clear hL hc
       go_wp2_with (go_at_call 79; refine (HB7.out _).mono ?_; rintro e w' ⟨rfl, rfl⟩)
       go_ret3
       refine ⟨_, ret_rr ⟨by rw [← HRr.out, HE.out], by rw [← HRr.out, HE.out]⟩, HGi.out, ?_⟩
       rw [← HRr.out, HE.out]; exact World.ownsRow_nil _ _ _ _
      ·have hge : decide (bits ≤ (q' : Int)) = false := decide_eq_false hL
       have HE := Lib.hid (rd_more (s := false) (f := f) (m := m) (x := xv) HNe.out HFt.out (by have := HQ'.out; have := HQ.out; omega) (by rw [HCc.out]; omega))
       have HLt := Lib.hid (show (q' : Int) < bits by omega)
       clear hL hc
       go_wp2_with (go_at_call 79; refine (HB7.out _).mono ?_; rintro e w' ⟨rfl, rfl⟩)
       exact ⟨⟨k + 1, q', _, by have := HQ'.out; have := HQ.out; omega, by have := HNe.out; omega, by have := HLt.out; have := HQ'.out; have := HQ.out; omega, HLt.out, by go_num, HGi.out, by rw [HQ'.out]; exact HWi.out, by
        rw [show 10 - (k + 1) = m by have := HM.out; omega, ← HE.out]; exact HRr.out⟩, by simp [intOf]; omega⟩
set_option maxRecDepth 100000 in
set_option maxHeartbeats 8000000 in
theorem rread_s_some (b off cap len a : Nat) (f : Nat → Int) (hf : By f) (bits : Int) (hb1 : 1 ≤ bits) (hb2 : bits ≤ 64) (hal : a ≤ len) (hl : len ≤ 4611686018427387904) (w : World) (hc : ∀ j, j < len → w.cell? ⟨b, off + j, none⟩ = some (.int .u8 (f j))) :
  Calls Try.prog 61 #[.slice (some ⟨b, off, none⟩) len cap, .int .i64 a, .int .i64 bits, .bool true] w fun e w' => ∃ lv, e = .returned (.tuple #[lv, .int .i64 (rd true f len bits a 10 0 0).2.2.1, .int .i64 (rd true f len bits a 10 0 0).2.2.2]) ∧ Gr w w' ∧ w'.ownsRow w.heap.size 3 1 lv (rd true f len bits a 10 0 0).2.1.toNat (bl f a (rd true f len bits a 10 0 0).2.1.toNat) := by
 have HC := Lib.hid hc
 have HF := Lib.hid hf
 have g1 : ¬ bits < 1 := by omega
 have g2 : ¬ 64 < bits := by omega
 have g3 : ¬ (len : Int) < (a : Int) := by omega
 obtain ⟨j0, hj, hj0, hj1, hj2⟩ := info_parts infoI
 have HJ := Lib.hid hj
 have HJ0 := Lib.hid hj0
 have HJ1 := Lib.hid hj1
 have HJ2 := Lib.hid hj2
 clear hc hf hj hj0 hj1 hj2
 generalize hR : rd true f len bits a 10 0 0 = R
 have HR := Lib.hid hR
 clear hR
 go_enter Try.func61, Try.ntmps61
 go_wp2_with fail
 go_loopw [11, 12] (fun lv kv wr => ∃ (k q : Nat) (xv : Int), q = 7 * k ∧ a + k ≤ len ∧ k ≤ 9 ∧ (q : Int) < bits ∧ kv = .int .i64 k ∧ Gr w wr ∧ wr.ownsRow w.heap.size 3 1 lv q (bl f a q) ∧ rd true f len bits a (10 - k) k xv = R) (fun _ kv _ => 10 - (intOf kv).toNat)
 case atStart => exact ⟨0, 0, 0, rfl, hal, by decide, by omega, rfl, Gr.refl _, World.ownsRow_nil _ _ _ _, HR.out⟩
 case round =>
  obtain ⟨k, q, xv, hq, hpl, hk, hqb, rfl, hg, hown, hr⟩ := hrel
  obtain ⟨m, hm⟩ : ∃ m, 10 - k = m + 1 := ⟨9 - k, by omega⟩
  rw [hm] at hr
  have HG := Lib.hid hg
  have HW := Lib.hid hown
  have HQ := Lib.hid hq
  have HRr := Lib.hid hr
  have HM := Lib.hid hm
  have hq7 : 7 * (k : Int) = (q : Int) := by omega
  have hq63 : q ≤ 63 := by omega
  clear hg hown hq hr hm
  by_cases hlt : a + k = len
  ·have hge : (len : Int) ≤ (a : Int) + (k : Int) := by omega
   have HPl := Lib.hid hlt
   clear hlt
   go_wp2
   go_ret3
   have e := rd_short (s := true) (f := f) (bits := bits) (m := m) (x := xv) HPl.out
   rw [HRr.out] at e
   refine ⟨_, ret_rr ⟨by rw [e], by rw [e]⟩, HG.out, ?_⟩
   rw [e]; exact World.ownsRow_nil _ _ _ _
  ·have hlt2 : (a : Int) + (k : Int) < (len : Int) := by omega
   have HNe := Lib.hid hlt
   have h1 := gr_cell HG.out (HC.out (a + k) (by omega))
   have HBd := Lib.hid (HF.out (a + k))
   have HFit := Lib.hid (fitS_bits (f (a + k)) HBd.out (bits - q) (by omega))
   have HQe := Lib.hid (show bits - 7 * (k : Int) = bits - q by omega)
   have HBit := Lib.hid (fun i (hi : i ≤ 7) wx => bit_any (f (a + k)) HBd.out i hi wx)
   generalize hcc : f (a + k) = c at *
   have HCc := Lib.hid hcc
   clear hlt hcc
   go_wp2_with fail
   go_loopw [11, 14] (fun lv iv wr => ∃ i : Nat, i ≤ 7 ∧ iv = .int .i64 i ∧ Gr w wr ∧ wr.ownsRow w.heap.size 3 1 lv (q + i) (bl f a (q + i)) ∧ ∀ j, j < i → okS c (bits - q) j) (fun _ iv _ => 7 - (intOf iv).toNat)
   case atStart => exact ⟨0, by decide, rfl, HG.out, HW.out, fun j hj => by omega⟩
   case round =>
    obtain ⟨i, hi, rfl, hg, hown, hok⟩ := hrel
    have HGi := Lib.hid hg
    have HWi := Lib.hid hown
    have HOk := Lib.hid hok
    clear hg hown hok
    by_cases hi7 : i < 7
    ·have hi7' : (i : Int) < 7 := by omega
     have HBi := Lib.hid (HBit.out i hi)
     generalize hxx : bt c i = x at *
     have HXx := Lib.hid hxx
     clear hxx
     by_cases hL : bits ≤ (q : Int) + (i : Int)
     ·have hge : decide (bits ≤ (q : Int) + (i : Int)) = true := decide_eq_true hL
      obtain ⟨g11, c11, he, _, _, _⟩ := own_some HWi.out (by omega)
      obtain ⟨p, hp⟩ := Int.eq_ofNat_of_zero_le (show 0 ≤ bits - 1 by omega)
      have hpq : q ≤ p ∧ p < q + i := by omega
      have hpq' : (p : Int) < (q : Int) + (i : Int) := by omega
      have hcell : wr.cell? ⟨g11, p, none⟩ = some (.int .i64 (bt c (bits - q - 1).toNat)) := by
       have h1 := HWi.out
       rw [he] at h1
       rw [h1.cellAt p (by omega), bl_get _ _ _ _ hpq.2, show p / 7 = k by have := HQ.out; omega, show p % 7 = (bits - q - 1).toNat by have := HQ.out; omega, HCc.out]
      generalize hzz : bt c (bits - q - 1).toNat = z at *
      have HZz := Lib.hid hzz
      have HEe := Lib.hid he
      clear hzz
      by_cases hb : x = z
      ·have hne : (x != z) = false := by rw [hb]; simp
       have HOi := Lib.hid (show okS c (bits - q) i from fun h => h.2 (by rw [HXx.out, HZz.out]; exact hb))
       clear hL hb
       subst he
       go_wp2_with fail
       go_quiet (first | (go_at_call 79; exact Calls.quiet_of_same ((HBi.out _).mono fun e w' h => ⟨h.1, h.2.symm⟩)))
       go_wp2_with (first | (go_at_call 79; refine (HBi.out _).mono ?_; rintro e w' ⟨rfl, rfl⟩) | (at_builtin; refine wpList_append_src rfl _ _ 36 rfl w.heap.size 3 j0 (.int .i64 0) 1 8 Try.underlying36 HJ.out HJ0.out HJ1.out HJ2.out rfl (by decide) (.slice (some ⟨g11, 0, none⟩) (q + i) c11) (q + i) (bl f a (q + i)) rfl ((own_gr HWi.out ((Gr.refl wr).drewN _)).alloc _) (.slice (some ⟨wr.heap.size, 0, none⟩) 1 1) 1 [.int .i64 x] rfl (src_lit (wr.drewN _) #[.int .i64 x] _ 1 1) rfl (fun u hu => by simp at hu; subst hu; rfl) (by unfold maxLen; omega) (by omega) (by have := HGi.out.size; simp; omega) ?_))
       intro v' w3 hown3 hgb3
       have HG3 := Lib.hid (((HGi.out.drewN _).allocO _).grown hgb3 (fun q hq => (HWi.out.lt q hq).1))
       have HO3 := Lib.hid (show w3.ownsRow w.heap.size 3 1 v' (q + (i + 1)) (bl f a (q + (i + 1))) by
        rw [← Nat.add_assoc, bl_succ, show (q + i) / 7 = k by have := HQ.out; omega, show (q + i) % 7 = i by have := HQ.out; omega, HCc.out, HXx.out]; exact hown3)
       clear hown3 hgb3
       go_wp2
       exact ⟨⟨i + 1, by omega, by go_num, HG3.out, HO3.out, fun j hj => by
        by_cases hji : j = i
        ·rw [hji]; exact HOi.out
        ·exact HOk.out j (by omega)⟩, by simp [intOf]; omega⟩
      ·have hne : (x != z) = true := bne_iff_ne.2 hb
       have HBad := Lib.hid (show ¬ okS c (bits - q) i from fun h => h ⟨by omega, by rw [HXx.out, HZz.out]; exact hb⟩)
       clear hL hb
       subst he
       go_wp2_with fail
       go_quiet (first | (go_at_call 79; exact Calls.quiet_of_same ((HBi.out _).mono fun e w' h => ⟨h.1, h.2.symm⟩)))
       go_wp2
       go_ret3
       have e := rd_bad (s := true) (f := f) (bits := bits) (m := m) (x := xv) HNe.out (.inl (by
        rw [HCc.out, HQe.out]
        cases hfb : fitB true (lowI c) (bits - q) with
        | false => rfl
        | true => exact absurd (HFit.out.1 hfb i hi7) HBad.out))
       rw [HRr.out] at e
       refine ⟨_, ret_rr ⟨by rw [e], by rw [e]⟩, HGi.out.drewN _, ?_⟩
       rw [e]; exact World.ownsRow_nil _ _ _ _
     ·have hge : decide (bits ≤ (q : Int) + (i : Int)) = false := decide_eq_false hL
      have HOi := Lib.hid (show okS c (bits - q) i from fun h => hL (by omega))
      clear hL
      go_wp2_with fail
      go_quiet (fail)
      go_wp2_with (first | (go_at_call 79; refine (HBi.out _).mono ?_; rintro e w' ⟨rfl, rfl⟩) | (at_builtin; refine wpList_append_src rfl _ _ 36 rfl w.heap.size 3 j0 (.int .i64 0) 1 8 Try.underlying36 HJ.out HJ0.out HJ1.out HJ2.out rfl (by decide) u11 (q + i) (bl f a (q + i)) rfl ((own_gr HWi.out ((Gr.refl wr).drewN _)).alloc _) (.slice (some ⟨wr.heap.size, 0, none⟩) 1 1) 1 [.int .i64 x] rfl (src_lit (wr.drewN _) #[.int .i64 x] _ 1 1) rfl (fun u hu => by simp at hu; subst hu; rfl) (by unfold maxLen; omega) (by omega) (by have := HGi.out.size; simp; omega) ?_))
      intro v' w3 hown3 hgb3
      have HG3 := Lib.hid (((HGi.out.drewN _).allocO _).grown hgb3 (fun q hq => (HWi.out.lt q hq).1))
      have HO3 := Lib.hid (show w3.ownsRow w.heap.size 3 1 v' (q + (i + 1)) (bl f a (q + (i + 1))) by
       rw [← Nat.add_assoc, bl_succ, show (q + i) / 7 = k by have := HQ.out; omega, show (q + i) % 7 = i by have := HQ.out; omega, HCc.out, HXx.out]; exact hown3)
      clear hown3 hgb3
      go_wp2
      exact ⟨⟨i + 1, by omega, by go_num, HG3.out, HO3.out, fun j hj => by
       by_cases hji : j = i
       ·rw [hji]; exact HOi.out
       ·exact HOk.out j (by omega)⟩, by simp [intOf]; omega⟩
    ·obtain rfl : i = 7 := by omega
     have HFt := Lib.hid (show fitB true (lowI (f (a + k))) (bits - 7 * (k : Int)) = true by rw [HCc.out, HQe.out]; exact HFit.out.2 HOk.out)
     have HB7 := Lib.hid (HBit.out 7 (by decide))
     have hy7 := bt7 c HBd.out
     generalize bt c 7 = y at *
     obtain ⟨q', hq'⟩ : ∃ q' : Nat, q' = q + 7 := ⟨_, rfl⟩
     have hq8 : 7 * ((k : Int) + 1) = (q' : Int) := by omega
     have HQ' := Lib.hid hq'
     clear hq'
     by_cases hc : c < 128
     ·rw [if_pos hc] at hy7
      subst hy7
      have HE := Lib.hid (rd_end (s := true) (f := f) (m := m) (x := xv) HNe.out HFt.out (by rw [HCc.out]; exact hc))
      clear hc
      have HFin := Lib.hid (show ∀ (v : Value) (w' : World), w'.ownsRow w.heap.size 3 1 v (q + 7) (bl f a (q + 7)) → w'.ownsRow w.heap.size 3 1 v R.2.1.toNat (bl f a R.2.1.toNat) from fun v w' h => by
       rw [← HRr.out, HE.out]
       have e : (7 * (k : Int) + 7).toNat = q + 7 := by have := HQ.out; omega
       rw [e]; exact h)
      by_cases hL : bits ≤ (q' : Int)
      ·have hge : decide (bits ≤ (q' : Int)) = true := decide_eq_true hL
       clear hL
       go_wp2_with (go_at_call 79; refine (HB7.out _).mono ?_; rintro e w' ⟨rfl, rfl⟩)
       go_ret3
       exact ⟨_, ret_rr ⟨by rw [← HRr.out, HE.out], by rw [← HRr.out, HE.out]⟩, HGi.out, HFin.out _ _ HWi.out⟩
      ·have hge : decide (bits ≤ (q' : Int)) = false := decide_eq_false hL
       clear hL
       go_wp2_with (go_at_call 79; refine (HB7.out _).mono ?_; rintro e w' ⟨rfl, rfl⟩)
       go_ret3
       exact ⟨_, ret_rr ⟨by rw [← HRr.out, HE.out], by rw [← HRr.out, HE.out]⟩, HGi.out, HFin.out _ _ HWi.out⟩
     ·rw [if_neg hc] at hy7
      subst hy7
      by_cases hL : bits ≤ (q' : Int)
      ·have hge : decide (bits ≤ (q' : Int)) = true := decide_eq_true hL
       have HE := Lib.hid (rd_bad (s := true) (f := f) (bits := bits) (m := m) (x := xv) HNe.out (.inr ⟨by have := HQ'.out; have := HQ.out; omega, by rw [HCc.out]; omega⟩))
       clear hL hc
       go_wp2_with (go_at_call 79; refine (HB7.out _).mono ?_; rintro e w' ⟨rfl, rfl⟩)
       go_ret3
       refine ⟨_, ret_rr ⟨by rw [← HRr.out, HE.out], by rw [← HRr.out, HE.out]⟩, HGi.out, ?_⟩
       rw [← HRr.out, HE.out]; exact World.ownsRow_nil _ _ _ _
      ·have hge : decide (bits ≤ (q' : Int)) = false := decide_eq_false hL
       have HE := Lib.hid (rd_more (s := true) (f := f) (m := m) (x := xv) HNe.out HFt.out (by have := HQ'.out; have := HQ.out; omega) (by rw [HCc.out]; omega))
       have HLt := Lib.hid (show (q' : Int) < bits by omega)
       clear hL hc
       go_wp2_with (go_at_call 79; refine (HB7.out _).mono ?_; rintro e w' ⟨rfl, rfl⟩)
       exact ⟨⟨k + 1, q', _, by have := HQ'.out; have := HQ.out; omega, by have := HNe.out; omega, by have := HLt.out; have := HQ'.out; have := HQ.out; omega, HLt.out, by go_num, HGi.out, by rw [HQ'.out]; exact HWi.out, by
        rw [show 10 - (k + 1) = m by have := HM.out; omega, ← HE.out]; exact HRr.out⟩, by simp [intOf]; omega⟩
end
section
open Go.RowKit LebM
def sb (f : Nat → Int) (a : Nat) : Nat → Int
 | 0 => 0
 | n + 1 => sb f a n + bt (f (a + n / 7)) (n % 7) * 2 ^ n
theorem sb_bd (f : Nat → Int) (a : Nat) : ∀ n, 0 ≤ sb f a n ∧ sb f a n < 2 ^ n
 | 0 => by simp [sb]
 | n + 1 => by
  have h := sb_bd f a n
  have hb := bt_bd (f (a + n / 7)) (n % 7)
  have hp := p2pos n
  have e : (2 : Int) ^ (n + 1) = 2 * 2 ^ n := by rw [Int.pow_succ, Int.mul_comm]
  simp only [sb]
  have h2 : 0 ≤ bt (f (a + n / 7)) (n % 7) * 2 ^ n := Int.mul_nonneg hb.1 (Int.le_of_lt hp)
  have h3 : bt (f (a + n / 7)) (n % 7) * 2 ^ n ≤ 1 * 2 ^ n := Int.mul_le_mul_of_nonneg_right hb.2 (Int.le_of_lt hp)
  omega
theorem low_bits (c : Int) : bt c 0 + bt c 1 * 2 + bt c 2 * 4 + bt c 3 * 8 + bt c 4 * 16 + bt c 5 * 32 + bt c 6 * 64 = c % 128 := by
 unfold bt
 simp only [show (2 : Int) ^ 0 = 1 from rfl, show (2 : Int) ^ 1 = 2 from rfl, show (2 : Int) ^ 2 = 4 from rfl, show (2 : Int) ^ 3 = 8 from rfl, show (2 : Int) ^ 4 = 16 from rfl, show (2 : Int) ^ 5 = 32 from rfl, show (2 : Int) ^ 6 = 64 from rfl]
 omega
theorem sb_at (f : Nat → Int) (a k i : Nat) (hi : i < 7) : sb f a (7 * k + (i + 1)) = sb f a (7 * k + i) + bt (f (a + k)) i * (128 ^ k * 2 ^ i) := by
 show sb f a (7 * k + i + 1) = _
 simp only [sb]
 rw [show (7 * k + i) / 7 = k by omega, show (7 * k + i) % 7 = i by omega, p2, pow7]
theorem sb_byte (f : Nat → Int) (a k : Nat) : sb f a (7 * (k + 1)) = sb f a (7 * k) + lowI (f (a + k)) * 128 ^ k := by
 have h0 := sb_at f a k 0 (by decide)
 have h1 := sb_at f a k 1 (by decide)
 have h2 := sb_at f a k 2 (by decide)
 have h3 := sb_at f a k 3 (by decide)
 have h4 := sb_at f a k 4 (by decide)
 have h5 := sb_at f a k 5 (by decide)
 have h6 := sb_at f a k 6 (by decide)
 have e := low_bits (f (a + k))
 show sb f a (7 * k + 7) = _
 unfold lowI
 rw [← e]
 simp only [Nat.add_zero, Int.pow_zero, Int.mul_one, show (2 : Int) ^ 1 = 2 from rfl, show (2 : Int) ^ 2 = 4 from rfl, show (2 : Int) ^ 3 = 8 from rfl, show (2 : Int) ^ 4 = 16 from rfl, show (2 : Int) ^ 5 = 32 from rfl, show (2 : Int) ^ 6 = 64 from rfl, Nat.zero_add] at *
 rw [h6, h5, h4, h3, h2, h1, h0]
 simp only [Int.add_mul, Int.mul_assoc]
 have q : ∀ x y : Int, x * (128 ^ k * y) = x * (y * 128 ^ k) := fun x y => by rw [Int.mul_comm (128 ^ k)]
 simp only [q]
 omega
def SumOk (f : Nat → Int) (a : Nat) (r : Int × Int × Int × Int) : Prop := r.2.2.2 ≠ 0 ∧ r.1 = 0 ∧ r.2.1 = 0 ∧ r.2.2.1 = 0 ∨ r.2.2.2 = 0 ∧ ∃ j : Nat, j ≤ 9 ∧ r.2.1 = ((7 * (j + 1) : Nat) : Int) ∧ r.1 = sb f a (min (7 * (j + 1)) 64)
theorem rd_sumOk (s : Bool) {f : Nat → Int} (hf : By f) (len : Nat) (bits : Int) (a : Nat) : ∀ m k, m + k = 10 → SumOk f a (rd s f len bits a m k (sb f a (7 * k)))
 | 0, _, _ => .inl ⟨by rw [rd]; decide, rfl, rfl, rfl⟩
 | m + 1, k, hm => by
  rw [rd]
  have hb := hf (a + k)
  have hx := sb_bd f a (7 * k)
  have hlo : 0 ≤ lowI (f (a + k)) ∧ lowI (f (a + k)) < 128 := by unfold lowI; omega
  have hp := p128pos k
  have hs := sb_byte f a k
  split
  ·exact .inl ⟨by decide, rfl, rfl, rfl⟩
  ·simp only []
   split
   ·exact .inl ⟨by decide, rfl, rfl, rfl⟩
   ·by_cases h9 : k = 9
    ·subst h9
     have e9 : (128 : Int) ^ 9 = 9223372036854775808 := rfl
     have hb0 : bt (f (a + 9)) 0 = lowI (f (a + 9)) % 2 := by unfold bt lowI; rw [Int.pow_zero]; omega
     have h64 : sb f a 64 = sb f a 63 + bt (f (a + 9)) 0 * 2 ^ 63 := rfl
     have e63 : (2 : Int) ^ 63 = 9223372036854775808 := rfl
     have hval : sb f a (7 * 9) + lowI (f (a + 9)) * 128 ^ 9 % 18446744073709551616 = sb f a 64 := by
      rw [h64, hb0, e9, e63]
      show sb f a 63 + _ = _
      omega
     split
     ·refine .inr ⟨rfl, 9, by decide, rfl, ?_⟩
      show _ = sb f a 64
      exact hval
     ·obtain rfl : m = 0 := by omega
      exact .inl ⟨by rw [rd]; decide, rfl, rfl, rfl⟩
    ·have hp8 : (128 : Int) ^ k ≤ 72057594037927936 := by
      have := p2le (show 7 * k ≤ 56 by omega)
      rw [pow7] at this
      exact this
     have h1 : 0 ≤ lowI (f (a + k)) * 128 ^ k := Int.mul_nonneg hlo.1 (Int.le_of_lt hp)
     have h2 : lowI (f (a + k)) * 128 ^ k ≤ 127 * 128 ^ k := Int.mul_le_mul_of_nonneg_right (by omega) (Int.le_of_lt hp)
     have hval : sb f a (7 * k) + lowI (f (a + k)) * 128 ^ k % 18446744073709551616 = sb f a (7 * (k + 1)) := by rw [mod64 h1 (by omega), hs]
     rw [hval]
     split
     ·refine .inr ⟨rfl, k, by omega, by push_cast; omega, ?_⟩
      rw [Nat.min_eq_left (by omega)]
     ·exact rd_sumOk s hf len bits a m (k + 1) (by omega)
theorem read_sumOk (s : Bool) {f : Nat → Int} (hf : By f) (len : Nat) (a bits : Int) : SumOk f a.toNat (LebM.read s f len a bits) := by
 unfold LebM.read
 split
 ·exact .inl ⟨by decide, rfl, rfl, rfl⟩
 ·exact rd_sumOk s hf len bits a.toNat 10 0 rfl
theorem rread_u_bad (sv : Value) (a bits : Int) (xa : Option Addr) (len cap : Nat) (hsv : sv = .slice xa len cap) (h : bits < 1 ∨ 64 < bits ∨ a < 0 ∨ (len : Int) < a) (w : World) :
  Calls Try.prog 61 #[sv, .int .i64 a, .int .i64 bits, .bool false] w fun e w' => e = .returned (.tuple #[.slice none 0 0, .int .i64 0, .int .i64 1]) ∧ w = w' := by
 subst hsv
 by_cases h1 : bits < 1
 ·clear h
  go_enter Try.func61, Try.ntmps61
  go_wp2
  go_ret3
  exact ⟨rfl, rfl⟩
 ·by_cases h2 : 64 < bits
  ·clear h
   go_enter Try.func61, Try.ntmps61
   go_wp2
   go_ret3
   exact ⟨rfl, rfl⟩
  ·by_cases h3 : a < 0
   ·clear h
    go_enter Try.func61, Try.ntmps61
    go_wp2
    go_ret3
    exact ⟨rfl, rfl⟩
   ·have h4 : (len : Int) < a := by omega
    clear h
    go_enter Try.func61, Try.ntmps61
    go_wp2
    go_ret3
    exact ⟨rfl, rfl⟩
theorem rread_u_zero (a0 : Option Addr) (cap : Nat) (bits : Int) (hb1 : 1 ≤ bits) (hb2 : bits ≤ 64) (w : World) :
  Calls Try.prog 61 #[.slice a0 0 cap, .int .i64 0, .int .i64 bits, .bool false] w fun e w' => e = .returned (.tuple #[.slice none 0 0, .int .i64 0, .int .i64 5]) ∧ w = w' := by
 have g1 : ¬ bits < 1 := by omega
 have g2 : ¬ 64 < bits := by omega
 go_enter Try.func61, Try.ntmps61
 go_wp2
 refine wp_loop_rounds 1 ?_
 rw [rounds_succ]
 go_wp2
 go_ret3
 exact ⟨rfl, rfl⟩
theorem rread_u_any (sv : Value) (len : Nat) (hlen : len ≤ 1099511627776) (f : Nat → Int) (hf : By f) (a bits : Int) (w : World) (h : U8s w sv len f) :
  Calls Try.prog 61 #[sv, .int .i64 a, .int .i64 bits, .bool false] w fun e w' => ∃ lv, e = .returned (.tuple #[lv, .int .i64 (LebM.read false f len a bits).2.2.1, .int .i64 (LebM.read false f len a bits).2.2.2]) ∧ Gr w w' ∧ w'.ownsRow w.heap.size 3 1 lv (LebM.read false f len a bits).2.1.toNat (bl f a.toNat (LebM.read false f len a bits).2.1.toNat) := by
 obtain ⟨xa, cap, hsv⟩ := slice_u8s h
 unfold LebM.read
 by_cases hb : bits < 1 ∨ 64 < bits ∨ a < 0 ∨ (len : Int) < a
 ·rw [if_pos hb]
  exact (rread_u_bad sv a bits xa len cap hsv hb w).mono fun e w' ⟨h1, h2⟩ => ⟨_, h1, by subst h2; exact Gr.refl _, World.ownsRow_nil _ _ _ _⟩
 ·rw [if_neg hb]
  obtain ⟨n, rfl⟩ := Int.eq_ofNat_of_zero_le (show 0 ≤ a by omega)
  rw [Int.toNat_natCast]
  rcases h with ⟨rfl, x, c, rfl⟩ | ⟨hl, b, off, c, rfl, hc⟩
  ·obtain rfl : n = 0 := by omega
   rw [show rd false f 0 bits 0 10 0 0 = (0, 0, 0, 5) from rd_short rfl]
   exact (rread_u_zero x c bits (by omega) (by omega) w).mono fun e w' ⟨h1, h2⟩ => ⟨_, h1, by subst h2; exact Gr.refl _, World.ownsRow_nil _ _ _ _⟩
  ·exact rread_u_some b off c len n f hf bits (by omega) (by omega) (by omega) (by omega) w hc
theorem rread_s_bad (sv : Value) (a bits : Int) (xa : Option Addr) (len cap : Nat) (hsv : sv = .slice xa len cap) (h : bits < 1 ∨ 64 < bits ∨ a < 0 ∨ (len : Int) < a) (w : World) :
  Calls Try.prog 61 #[sv, .int .i64 a, .int .i64 bits, .bool true] w fun e w' => e = .returned (.tuple #[.slice none 0 0, .int .i64 0, .int .i64 1]) ∧ w = w' := by
 subst hsv
 by_cases h1 : bits < 1
 ·clear h
  go_enter Try.func61, Try.ntmps61
  go_wp2
  go_ret3
  exact ⟨rfl, rfl⟩
 ·by_cases h2 : 64 < bits
  ·clear h
   go_enter Try.func61, Try.ntmps61
   go_wp2
   go_ret3
   exact ⟨rfl, rfl⟩
  ·by_cases h3 : a < 0
   ·clear h
    go_enter Try.func61, Try.ntmps61
    go_wp2
    go_ret3
    exact ⟨rfl, rfl⟩
   ·have h4 : (len : Int) < a := by omega
    clear h
    go_enter Try.func61, Try.ntmps61
    go_wp2
    go_ret3
    exact ⟨rfl, rfl⟩
theorem rread_s_zero (a0 : Option Addr) (cap : Nat) (bits : Int) (hb1 : 1 ≤ bits) (hb2 : bits ≤ 64) (w : World) :
  Calls Try.prog 61 #[.slice a0 0 cap, .int .i64 0, .int .i64 bits, .bool true] w fun e w' => e = .returned (.tuple #[.slice none 0 0, .int .i64 0, .int .i64 5]) ∧ w = w' := by
 have g1 : ¬ bits < 1 := by omega
 have g2 : ¬ 64 < bits := by omega
 go_enter Try.func61, Try.ntmps61
 go_wp2
 refine wp_loop_rounds 1 ?_
 rw [rounds_succ]
 go_wp2
 go_ret3
 exact ⟨rfl, rfl⟩
theorem rread_s_any (sv : Value) (len : Nat) (hlen : len ≤ 1099511627776) (f : Nat → Int) (hf : By f) (a bits : Int) (w : World) (h : U8s w sv len f) :
  Calls Try.prog 61 #[sv, .int .i64 a, .int .i64 bits, .bool true] w fun e w' => ∃ lv, e = .returned (.tuple #[lv, .int .i64 (LebM.read true f len a bits).2.2.1, .int .i64 (LebM.read true f len a bits).2.2.2]) ∧ Gr w w' ∧ w'.ownsRow w.heap.size 3 1 lv (LebM.read true f len a bits).2.1.toNat (bl f a.toNat (LebM.read true f len a bits).2.1.toNat) := by
 obtain ⟨xa, cap, hsv⟩ := slice_u8s h
 unfold LebM.read
 by_cases hb : bits < 1 ∨ 64 < bits ∨ a < 0 ∨ (len : Int) < a
 ·rw [if_pos hb]
  exact (rread_s_bad sv a bits xa len cap hsv hb w).mono fun e w' ⟨h1, h2⟩ => ⟨_, h1, by subst h2; exact Gr.refl _, World.ownsRow_nil _ _ _ _⟩
 ·rw [if_neg hb]
  obtain ⟨n, rfl⟩ := Int.eq_ofNat_of_zero_le (show 0 ≤ a by omega)
  rw [Int.toNat_natCast]
  rcases h with ⟨rfl, x, c, rfl⟩ | ⟨hl, b, off, c, rfl, hc⟩
  ·obtain rfl : n = 0 := by omega
   rw [show rd true f 0 bits 0 10 0 0 = (0, 0, 0, 5) from rd_short rfl]
   exact (rread_s_zero x c bits (by omega) (by omega) w).mono fun e w' ⟨h1, h2⟩ => ⟨_, h1, by subst h2; exact Gr.refl _, World.ownsRow_nil _ _ _ _⟩
  ·exact rread_s_some b off c len n f hf bits (by omega) (by omega) (by omega) (by omega) w hc
theorem or_bit {f : Nat → Int} {a k : Nat} (hk : k < 64) : Go.bits .or .u64 (sb f a k) (IntKind.u64.wrap (bt (f (a + k / 7)) (k % 7) * 2 ^ k)) = sb f a (k + 1) := by
 have hb := bt_bd (f (a + k / 7)) (k % 7)
 have h := or_step (sb f a k) (bt (f (a + k / 7)) (k % 7)) k (sb_bd f a k) hb.1 (by omega)
 have hp := p2pos k
 have h1 : 0 ≤ bt (f (a + k / 7)) (k % 7) * 2 ^ k := Int.mul_nonneg hb.1 (Int.le_of_lt hp)
 have h2 : bt (f (a + k / 7)) (k % 7) * 2 ^ k ≤ 1 * 2 ^ k := Int.mul_le_mul_of_nonneg_right hb.2 (Int.le_of_lt hp)
 have h3 := p2le (show k ≤ 63 by omega)
 have e63 : (2 : Int) ^ 63 = 9223372036854775808 := rfl
 rw [h, mod64 h1 (by omega)]; rfl
theorem ret_u3 {x x' y z : Int} (h : x = x') : Ending.returned (.tuple #[.int .u64 x, .int .i64 y, .int .i64 z]) = .returned (.tuple #[.int .u64 x', .int .i64 y, .int .i64 z]) := by rw [h]
set_option maxRecDepth 100000 in
set_option maxHeartbeats 4000000 in
theorem ru_any (sv : Value) (len : Nat) (hlen : len ≤ 1099511627776) (f : Nat → Int) (hf : By f) (a bits : Int) (w : World) (h : U8s w sv len f) :
  Calls Try.prog 60 #[sv, .int .i64 a, .int .i64 bits] w fun e w' => e = .returned (.tuple #[.int .u64 (LebM.read false f len a bits).1, .int .i64 (LebM.read false f len a bits).2.2.1, .int .i64 (LebM.read false f len a bits).2.2.2]) ∧ Gr w w' := by
 have C := rread_u_any sv len hlen f hf a bits w h
 have hs := read_sumOk false hf len a bits
 generalize LebM.read false f len a bits = r at *
 obtain ⟨x, wd, to, er⟩ := r
 obtain ⟨W, hW, hW70, hx⟩ : ∃ W : Nat, wd.toNat = W ∧ W ≤ 70 ∧ x = sb f a.toNat (min W 64) := by
  rcases hs with ⟨_, h1, h2, _⟩ | ⟨_, j, h1, h2, h3⟩
  ·simp only at h1 h2
   subst h1 h2
   exact ⟨0, rfl, by decide, rfl⟩
  ·simp only at h2 h3
   exact ⟨7 * (j + 1), by rw [h2]; rfl, by omega, h3⟩
 simp only [hW] at C
 have HC := Lib.hid C
 have HX := Lib.hid hx
 generalize a.toNat = n0 at *
 clear C hs h hx hW
 go_enter Try.func60, Try.ntmps60
 go_wp2_with (go_at_call 61; refine HC.out.mono ?_; rintro e w1 ⟨lv, rfl, hg1, ho1⟩; have HG1 := Lib.hid hg1; have HO1 := Lib.hid ho1; clear hg1 ho1)
 obtain ⟨la, lc, rfl⟩ := own_slice HO1.out
 go_loop [12, 13] (fun nv iv => ∃ k : Nat, k ≤ W ∧ k ≤ 64 ∧ iv = .int .i64 k ∧ nv = .int .u64 (sb f n0 k)) (fun _ iv => 64 - (intOf iv).toNat)
 case atStart => exact ⟨0, by omega, by decide, rfl, rfl⟩
 case round =>
  obtain ⟨k, hk, hk64, rfl, rfl⟩ := hrel
  by_cases hlt : k < W
  ·have hltI : (k : Int) < (W : Int) := by omega
   by_cases h64 : k < 64
   ·obtain ⟨g, _, he, _, _, _⟩ := own_some HO1.out (by omega)
    obtain rfl := (Value.slice.inj he).1
    clear he
    have hcell : w1.cell? ⟨g, k, none⟩ = some (.int .i64 (bt (f (n0 + k / 7)) (k % 7))) := by rw [HO1.out.cellAt k (by omega), bl_get _ _ _ _ hlt]
    have HO := Lib.hid (or_bit (f := f) (a := n0) h64)
    have hb := bt_bd (f (n0 + k / 7)) (k % 7)
    generalize bt (f (n0 + k / 7)) (k % 7) = y at *
    have hwy : IntKind.u64.wrap y = y := by rw [IntKind.wrap_u64]; omega
    have hwk : IntKind.u64.wrap (k : Int) = k := by rw [IntKind.wrap_u64]; omega
    have h64I : (k : Int) < 64 := by omega
    go_wp2
    exact ⟨⟨k + 1, by omega, by omega, by go_num, by rw [← HO.out]⟩, by simp [intOf]; omega⟩
   ·have h64I : decide ((k : Int) < 64) = false := decide_eq_false (by omega)
    have HXk := Lib.hid (show x = sb f n0 k by rw [HX.out, show min W 64 = k by omega])
    clear h64
    go_wp2
    go_ret3
    exact ⟨ret_u3 HXk.out.symm, HG1.out⟩
  ·obtain rfl : k = W := by omega
   have hm : min k 64 = k := by omega
   rw [hm] at HX
   clear hm
   go_wp2
   go_ret3
   exact ⟨ret_u3 HX.out.symm, HG1.out⟩
theorem sb_top (f : Nat → Int) (a W : Nat) (h : 0 < W) : (2 ^ (W - 1) ≤ sb f a W ↔ bt (f (a + (W - 1) / 7)) ((W - 1) % 7) = 1) := by
 obtain ⟨V, rfl⟩ : ∃ V, W = V + 1 := ⟨W - 1, by omega⟩
 rw [Nat.add_sub_cancel]
 have h1 := sb_bd f a V
 have hb := bt_bd (f (a + V / 7)) (V % 7)
 have hp := p2pos V
 simp only [sb]
 generalize bt (f (a + V / 7)) (V % 7) = y at *
 have : y = 0 ∨ y = 1 := by omega
 rcases this with rfl | rfl
 ·rw [Int.zero_mul]; omega
 ·rw [Int.one_mul]; omega
def sx (f : Nat → Int) (a W i : Nat) : Int := if i ≤ W then sb f a i else sb f a W + bt (f (a + (W - 1) / 7)) ((W - 1) % 7) * (2 ^ i - 2 ^ W)
theorem sx_step {f : Nat → Int} {a W k : Nat} (hW : 0 < W) (hk : k < 64) : Go.bits .or .u64 (sx f a W k) (IntKind.u64.wrap ((if k < W then bt (f (a + k / 7)) (k % 7) else bt (f (a + (W - 1) / 7)) ((W - 1) % 7)) * 2 ^ k)) = sx f a W (k + 1) := by
 unfold sx
 by_cases h : k < W
 ·rw [if_pos (by omega), if_pos h, if_pos (by omega)]
  exact or_bit hk
 ·rw [if_neg h, if_neg (show ¬ k + 1 ≤ W by omega)]
  have hb := bt_bd (f (a + (W - 1) / 7)) ((W - 1) % 7)
  have hs := sb_bd f a W
  generalize bt (f (a + (W - 1) / 7)) ((W - 1) % 7) = y at *
  have hpk := p2pos k
  have hle := p2le (show W ≤ k by omega)
  have e1 : (2 : Int) ^ (k + 1) = 2 * 2 ^ k := by rw [Int.pow_succ, Int.mul_comm]
  have h3 := p2le (show k ≤ 63 by omega)
  have e63 : (2 : Int) ^ 63 = 9223372036854775808 := rfl
  have hy : y = 0 ∨ y = 1 := by omega
  have hin : (if k ≤ W then sb f a k else sb f a W + y * (2 ^ k - 2 ^ W)) = sb f a W + y * (2 ^ k - 2 ^ W) := by
   by_cases hkW : k ≤ W
   ·obtain rfl : k = W := by omega
    rw [if_pos hkW, Int.sub_self, Int.mul_zero, Int.add_zero]
   ·rw [if_neg hkW]
  rw [hin]
  rcases hy with rfl | rfl
  ·have h := or_step (sb f a W + 0 * (2 ^ k - 2 ^ W)) 0 k (by rw [Int.zero_mul]; omega) (by decide) (by omega)
   rw [h]; simp
  ·have h := or_step (sb f a W + 1 * (2 ^ k - 2 ^ W)) 1 k (by rw [Int.one_mul]; omega) (by decide) (by omega)
   rw [h, Int.one_mul, Int.one_mul, Int.one_mul, mod64 (Int.le_of_lt hpk) (by omega)]
   omega
theorem sval_sx {f : Nat → Int} {a j : Nat} (hj : j ≤ 9) : wrap64 (sx f a (7 * (j + 1)) 64) = sval (sb f a (min (7 * (j + 1)) 64)) ((7 * (j + 1) : Nat) : Int) := by
 unfold sval
 rw [show (((7 * (j + 1) : Nat) : Int) - 1).toNat = 7 * (j + 1) - 1 by omega, Int.toNat_natCast]
 by_cases h9 : j = 9
 ·subst h9
  have hs := sb_bd f a 64
  have e64 : (2 : Int) ^ 64 = 18446744073709551616 := rfl
  rw [if_neg (by omega)]
  show wrap64 (sb f a 64) = if sb f a 64 < _ then sb f a 64 else sb f a 64 - _
  unfold wrap64
  split <;> omega
 ·have ht := sb_top f a (7 * (j + 1)) (by omega)
  have hs := sb_bd f a (7 * (j + 1))
  have hm : min (7 * (j + 1)) 64 = 7 * (j + 1) := by omega
  rw [hm]
  have hle := p2le (show 7 * (j + 1) ≤ 63 by omega)
  have e63 : (2 : Int) ^ 63 = 9223372036854775808 := rfl
  have e64 : (2 : Int) ^ 64 = 18446744073709551616 := rfl
  have hhalf : (2 : Int) ^ (7 * (j + 1)) = 2 * 2 ^ (7 * (j + 1) - 1) := by
   rw [show 7 * (j + 1) = (7 * (j + 1) - 1) + 1 by omega, Int.pow_succ, Int.mul_comm, Nat.add_sub_cancel]
  have hp1 := p2pos (7 * (j + 1) - 1)
  unfold sx
  rw [if_neg (by omega)]
  have hb := bt_bd (f (a + (7 * (j + 1) - 1) / 7)) ((7 * (j + 1) - 1) % 7)
  generalize bt (f (a + (7 * (j + 1) - 1) / 7)) ((7 * (j + 1) - 1) % 7) = y at *
  generalize sb f a (7 * (j + 1)) = z at *
  by_cases hy : y = 1
  ·subst hy
   rw [if_pos ⟨by omega, by omega, ht.2 rfl⟩]
   unfold wrap64
   omega
  ·obtain rfl : y = 0 := by omega
   have hn : ¬ 2 ^ (7 * (j + 1) - 1) ≤ z := fun h => by have := ht.1 h; omega
   rw [if_neg (fun h => hn h.2.2), if_pos (by omega), Int.zero_mul]
   unfold wrap64
   omega
set_option maxRecDepth 100000 in
set_option maxHeartbeats 4000000 in
theorem rs_any (sv : Value) (len : Nat) (hlen : len ≤ 1099511627776) (f : Nat → Int) (hf : By f) (a bits : Int) (w : World) (h : U8s w sv len f) :
  Calls Try.prog 39 #[sv, .int .i64 a, .int .i64 bits] w fun e w' => e = .returned (.tuple #[.int .i64 (sval (LebM.read true f len a bits).1 (LebM.read true f len a bits).2.1), .int .i64 (LebM.read true f len a bits).2.2.1, .int .i64 (LebM.read true f len a bits).2.2.2]) ∧ Gr w w' := by
 have C := rread_s_any sv len hlen f hf a bits w h
 have hs := read_sumOk true hf len a bits
 generalize LebM.read true f len a bits = r at *
 obtain ⟨x, wd, to, er⟩ := r
 rcases hs with ⟨he, h1, h2, h3⟩ | ⟨he, j, hj, h2, h3⟩
 ·simp only at he h1 h2 h3
  subst h1 h2 h3
  have HC := Lib.hid C
  have hne : (er != 0) = true := bne_iff_ne.2 he
  clear C h he
  go_enter Try.func39, Try.ntmps39
  go_wp2_with (go_at_call 61; refine HC.out.mono ?_; rintro e w1 ⟨lv, rfl, hg1, -⟩; have HG1 := Lib.hid hg1; clear hg1)
  go_ret3
  exact ⟨rfl, HG1.out⟩
 ·simp only at he h2 h3
  subst he h2
  have hW : (((7 * (j + 1) : Nat) : Int)).toNat = 7 * (j + 1) := rfl
  simp only [hW] at C
  have HC := Lib.hid C
  have HX := Lib.hid (show wrap64 (sx f a.toNat (7 * (j + 1)) 64) = sval x ((7 * (j + 1) : Nat) : Int) by rw [h3]; exact sval_sx hj)
  have hW0 : 0 < 7 * (j + 1) := by omega
  have hW70 : 7 * (j + 1) ≤ 70 := by omega
  generalize a.toNat = n0 at *
  generalize sval x ((7 * (j + 1) : Nat) : Int) = v at *
  generalize 7 * (j + 1) = W at *
  clear C h h3 hW hj
  go_enter Try.func39, Try.ntmps39
  go_wp2_with (go_at_call 61; refine HC.out.mono ?_; rintro e w1 ⟨lv, rfl, hg1, ho1⟩; have HG1 := Lib.hid hg1; have HO1 := Lib.hid ho1; clear hg1 ho1)
  obtain ⟨g, lc, rfl, _, _, _⟩ := own_some HO1.out hW0
  obtain ⟨V, hV⟩ : ∃ V, W = V + 1 := ⟨W - 1, by omega⟩
  have hVI : (W : Int) - 1 = (V : Int) := by omega
  have hVW : (V : Int) < (W : Int) := by omega
  have hlast : w1.cell? ⟨g, V, none⟩ = some (.int .i64 (bt (f (n0 + V / 7)) (V % 7))) := by rw [HO1.out.cellAt V (by omega), bl_get _ _ _ _ (by omega)]
  have HVs := Lib.hid (show ∀ k, k < 64 → Go.bits .or .u64 (sx f n0 W k) (IntKind.u64.wrap ((if k < W then bt (f (n0 + k / 7)) (k % 7) else bt (f (n0 + V / 7)) (V % 7)) * 2 ^ k)) = sx f n0 W (k + 1) from fun k hk => by
   have := sx_step (f := f) (a := n0) hW0 hk
   rwa [show W - 1 = V by omega] at this)
  have hlb := bt_bd (f (n0 + V / 7)) (V % 7)
  generalize bt (f (n0 + V / 7)) (V % 7) = d at *
  have hwd : IntKind.u64.wrap d = d := by rw [IntKind.wrap_u64]; omega
  clear hV
  go_wp2_with fail
  go_loop [12, 13, 14] (fun nv iv xv => ∃ (k : Nat) (y : Value), k ≤ 64 ∧ iv = .int .i64 k ∧ nv = .int .u64 (sx f n0 W k) ∧ xv = y) (fun _ iv _ => 64 - (intOf iv).toNat)
  case atStart => exact ⟨0, _, by decide, rfl, by unfold sx; rw [if_pos (by omega)]; rfl, rfl⟩
  case round =>
   obtain ⟨k, y, hk, rfl, rfl, rfl⟩ := hrel
   have HO := Lib.hid (fun h => HVs.out k h)
   by_cases h64 : k < 64
   ·have h64I : (k : Int) < 64 := by omega
    have hwk : IntKind.u64.wrap (k : Int) = k := by rw [IntKind.wrap_u64]; omega
    have HO := HO.out h64
    generalize sx f n0 W k = s0 at *
    by_cases hlt : k < W
    ·have hltI : (k : Int) < (W : Int) := by omega
     rw [if_pos hlt] at HO
     have HOh := Lib.hid HO
     clear HO
     have hcell : w1.cell? ⟨g, k, none⟩ = some (.int .i64 (bt (f (n0 + k / 7)) (k % 7))) := by rw [HO1.out.cellAt k (by omega), bl_get _ _ _ _ hlt]
     have hb := bt_bd (f (n0 + k / 7)) (k % 7)
     generalize bt (f (n0 + k / 7)) (k % 7) = z at *
     have hwz : IntKind.u64.wrap z = z := by rw [IntKind.wrap_u64]; omega
     go_wp2
     exact ⟨⟨k + 1, _, by omega, by go_num, by rw [← HOh.out], rfl⟩, by simp [intOf]; omega⟩
    ·have hltI : ¬ (k : Int) < (W : Int) := by omega
     rw [if_neg hlt] at HO
     have HOh := Lib.hid HO
     clear HO
     go_wp2
     exact ⟨⟨k + 1, _, by omega, by go_num, by rw [← HOh.out], rfl⟩, by simp [intOf]; omega⟩
   ·obtain rfl : k = 64 := by omega
    clear h64 HO
    generalize hsx : sx f n0 W 64 = s0 at *
    go_wp2
    go_ret3
    exact ⟨ret3 (by rw [← HX.out]), HG1.out⟩
end
section
open Go.RowKit LebM
def dig (V : Int) (k : Nat) : Int := V / 128 ^ k % 128
theorem dig_bd (V : Int) (k : Nat) : 0 ≤ dig V k ∧ dig V k < 128 := by unfold dig; omega
def fm (V : Int) : Nat → List Int
 | 0 => []
 | 1 => [V % 128]
 | s + 2 => (V % 128 + 128) :: fm (V / 128) (s + 1)
theorem fm_len : ∀ (s : Nat) (V : Int), (fm V s).length = s
 | 0, _ => rfl
 | 1, _ => rfl
 | s + 2, V => by simp [fm, fm_len (s + 1)]
theorem div_pow_succ (V : Int) (k : Nat) : V / 128 / 128 ^ k = V / 128 ^ (k + 1) := by rw [Int.pow_succ, Int.mul_comm, ← Int.ediv_ediv_of_nonneg (by decide)]
theorem dig_succ (V : Int) (k : Nat) : dig (V / 128) k = dig V (k + 1) := by unfold dig; rw [div_pow_succ]
theorem fm_get : ∀ (s : Nat) (V : Int) (k : Nat), k < s → (fm V s).getD k 0 = if k + 1 < s then dig V k + 128 else dig V k
 | 0, _, k, h => by omega
 | 1, V, k, h => by
  obtain rfl : k = 0 := by omega
  rw [if_neg (by omega)]
  simp [fm, dig]
 | s + 2, V, 0, h => by
  rw [if_pos (by omega)]
  simp [fm, dig]
 | s + 2, V, k + 1, h => by
  have := fm_get (s + 1) (V / 128) k (by omega)
  rw [dig_succ] at this
  simp only [fm, List.getD_cons_succ]
  rw [this]
  by_cases h2 : k + 1 < s + 1
  ·rw [if_pos h2, if_pos (by omega)]
  ·rw [if_neg h2, if_neg (by omega)]
theorem fm_lebU : ∀ (s m : Nat) (n : Int), s ≤ m → 0 ≤ n → n < 128 ^ (s + 1) → (s = 0 ∨ 128 ^ s ≤ n) → fm n (s + 1) = lebU m n
 | 0, m, n, _, h0, h1, _ => by
  have e : (128 : Int) ^ (0 + 1) = 128 := rfl
  rw [lebU_end (by omega)]
  simp only [fm]
  congr 1; omega
 | s + 1, 0, n, hs, _, _, _ => by omega
 | s + 1, m + 1, n, hs, h0, h1, h2 => by
  have h3 : (128 : Int) ^ (s + 1) ≤ n := by
   rcases h2 with h | h
   ·omega
   ·exact h
  have hp := p128pos s
  have e1 : (128 : Int) ^ (s + 1) = 128 * 128 ^ s := by rw [Int.pow_succ, Int.mul_comm]
  have e2 : (128 : Int) ^ (s + 1 + 1) = 128 * 128 ^ (s + 1) := by rw [Int.pow_succ, Int.mul_comm]
  rw [lebU_go (by omega)]
  show (n % 128 + 128) :: fm (n / 128) (s + 1) = _
  rw [fm_lebU s m (n / 128) (by omega) (by omega) (by omega) (.inr (by omega))]
theorem fm_lebS : ∀ (s m : Nat) (n : Int), s ≤ m → -(64 * 128 ^ s) ≤ n → n < 64 * 128 ^ s → (∀ t, t < s → ¬ (-(64 * 128 ^ t) ≤ n ∧ n < 64 * 128 ^ t)) → fm n (s + 1) = lebS m n
 | 0, m, n, _, h0, h1, _ => by
  have e : (128 : Int) ^ 0 = 1 := rfl
  rw [lebS_end (by omega)]
  rfl
 | s + 1, 0, n, hs, _, _, _ => by omega
 | s + 1, m + 1, n, hs, h0, h1, h2 => by
  have h3 := h2 0 (by omega)
  have e0 : (128 : Int) ^ 0 = 1 := rfl
  have e1 : (128 : Int) ^ (s + 1) = 128 * 128 ^ s := by rw [Int.pow_succ, Int.mul_comm]
  rw [e0] at h3
  rw [lebS_go (by omega)]
  show (n % 128 + 128) :: fm (n / 128) (s + 1) = _
  rw [fm_lebS s m (n / 128) (by omega) (by omega) (by omega) (fun t ht => by
   have := h2 (t + 1) (by omega)
   have e2 : (128 : Int) ^ (t + 1) = 128 * 128 ^ t := by rw [Int.pow_succ, Int.mul_comm]
   rw [e2] at this
   omega)]
theorem mod_step (V : Int) (k : Nat) : V % 128 ^ (k + 1) = V % 128 ^ k + dig V k * 128 ^ k := by
 have hp := p128pos k
 have h1 := Int.emod_add_mul_ediv V (128 ^ k)
 have h2 := Int.emod_add_mul_ediv V (128 ^ (k + 1))
 have e : V / 128 ^ (k + 1) = V / 128 ^ k / 128 := by rw [Int.pow_succ, ← Int.ediv_ediv_of_nonneg (Int.le_of_lt hp)]
 have e2 : (128 : Int) ^ (k + 1) = 128 ^ k * 128 := Int.pow_succ ..
 rw [e, e2, Int.mul_assoc] at h2
 unfold dig
 have h3 : V / 128 ^ k % 128 = V / 128 ^ k - 128 * (V / 128 ^ k / 128) := by omega
 rw [h3, Int.sub_mul, e2, Int.mul_comm (V / 128 ^ k)]
 have e3 : 128 * (V / 128 ^ k / 128) * 128 ^ k = 128 ^ k * (128 * (V / 128 ^ k / 128)) := Int.mul_comm ..
 rw [e3]
 omega
theorem rd_fm {f : Nat → Int} {s : Nat} {n : Int} (hn : 0 ≤ n ∧ n < 18446744073709551616) (hs : 0 < s ∧ s ≤ 10) (hf : ∀ k, k < s → f k = if k + 1 < s then dig n k + 128 else dig n k) : ∀ (d r k : Nat), k + d + 1 = s → d < r →
  ∃ wd, rd false f s 64 0 r k (n % 128 ^ k) = (n % 128 ^ s, wd, (s : Int), 0)
 | 0, r, k, hk, hr => by
  obtain ⟨r', rfl⟩ : ∃ r', r = r' + 1 := ⟨r - 1, by omega⟩
  have hd := dig_bd n k
  have hc : f (0 + k) = dig n k := by rw [Nat.zero_add, hf k (by omega), if_neg (by omega)]
  have hlo : lowI (f (0 + k)) = dig n k := by rw [hc]; unfold lowI; omega
  have hp := p128pos k
  have h0 := Int.mul_nonneg hd.1 (Int.le_of_lt hp)
  have hst := mod_step n k
  have hle : n % 128 ^ (k + 1) ≤ n := by
   have := Int.emod_add_mul_ediv n (128 ^ (k + 1))
   have h2 : 0 ≤ 128 ^ (k + 1) * (n / 128 ^ (k + 1)) := Int.mul_nonneg (Int.le_of_lt (p128pos (k + 1))) (Int.ediv_nonneg hn.1 (Int.le_of_lt (p128pos (k + 1))))
   omega
  have hm0 := Int.emod_nonneg n (Int.ne_of_gt hp)
  have hfit : fitB false (lowI (f (0 + k))) (64 - 7 * (k : Int)) = true := by
   rw [hlo]
   refine fitU_of ?_
   by_cases h9 : k = 9
   ·subst h9
    right
    have e9 : (128 : Int) ^ 9 = 9223372036854775808 := rfl
    show dig n 9 < 2
    unfold dig
    rw [e9]
    omega
   ·left; omega
  refine ⟨7 * (k : Int) + 7, ?_⟩
  rw [rd_end (by omega) hfit (by omega), hlo, mod64 h0 (by omega)]
  refine tup4 ?_ rfl (by omega)
  rw [← hk, ← hst]
 | d + 1, r, k, hk, hr => by
  obtain ⟨r', rfl⟩ : ∃ r', r = r' + 1 := ⟨r - 1, by omega⟩
  have hd := dig_bd n k
  have hc : f (0 + k) = dig n k + 128 := by rw [Nat.zero_add, hf k (by omega), if_pos (by omega)]
  have hlo : lowI (f (0 + k)) = dig n k := by rw [hc]; unfold lowI; omega
  have hp := p128pos k
  have h0 := Int.mul_nonneg hd.1 (Int.le_of_lt hp)
  have hp8 : (128 : Int) ^ k ≤ 72057594037927936 := by
   have := p2le (show 7 * k ≤ 56 by omega)
   rw [pow7] at this
   exact this
  have h1 : dig n k * 128 ^ k ≤ 127 * 128 ^ k := Int.mul_le_mul_of_nonneg_right (by omega) (Int.le_of_lt hp)
  rw [rd_more (by omega) (fitB_big false (by omega)) (by omega) (by omega), hlo, mod64 h0 (by omega), ← mod_step]
  exact rd_fm hn hs hf d r' (k + 1) (by omega) (by omega)
def sdig (V : Int) (k : Nat) : Int := (V / 128 ^ k + 64) % 128 - 64
theorem rds_fm {f : Nat → Int} {s : Nat} {V : Int} (hV : -9223372036854775808 ≤ V ∧ V ≤ 9223372036854775807) (hs : 0 < s ∧ s ≤ 10) (hf : ∀ k, k < s → f k = if k + 1 < s then dig V k + 128 else dig V k) : ∀ (d r k : Nat), k + d + 1 = s → d < r →
  ∃ y wd, rd true f s 64 0 r k (V % 128 ^ k) = (y, wd, (s : Int), 0) ∧ sval y wd = V % 128 ^ (s - 1) + sdig V (s - 1) * 128 ^ (s - 1)
 | 0, r, k, hk, hr => by
  obtain ⟨r', rfl⟩ : ∃ r', r = r' + 1 := ⟨r - 1, by omega⟩
  have hsk : s - 1 = k := by omega
  rw [hsk]
  have hp := p128pos k
  have hm0 := Int.emod_nonneg V (Int.ne_of_gt hp)
  have hm1 := Int.emod_lt_of_pos V hp
  have hn : -64 ≤ sdig V k ∧ sdig V k < 64 := by unfold sdig; omega
  have hdig : sdig V k % 128 = dig V k := by unfold sdig dig; omega
  have hc : f (0 + k) = sdig V k % 128 := by rw [hdig, Nat.zero_add, hf k (by omega), if_neg (by omega)]
  have h9 : k = 9 → sdig V k = V / 128 ^ k ∧ (V / 128 ^ k = -1 ∨ V / 128 ^ k = 0) := fun h => by
   subst h
   have e9 : (128 : Int) ^ 9 = 9223372036854775808 := rfl
   unfold sdig
   rw [e9]
   omega
  have hp8 : k ≤ 8 → (128 : Int) ^ k ≤ 72057594037927936 := fun h => by
   have := p2le (show 7 * k ≤ 56 by omega)
   rw [pow7] at this
   exact this
  have e3 : -64 * 128 ^ k ≤ sdig V k * 128 ^ k := Int.mul_le_mul_of_nonneg_right (by omega) (Int.le_of_lt hp)
  have e4 : (sdig V k + 1) * 128 ^ k ≤ 64 * 128 ^ k := Int.mul_le_mul_of_nonneg_right (by omega) (Int.le_of_lt hp)
  have hb : -9223372036854775808 ≤ sdig V k * 128 ^ k ∧ (sdig V k + 1) * 128 ^ k ≤ 9223372036854775808 := by
   by_cases hk9 : k = 9
   ·obtain ⟨q1, q2⟩ := h9 hk9
    rw [q1]
    subst hk9
    have e9 : (128 : Int) ^ 9 = 9223372036854775808 := rfl
    rw [e9] at *
    omega
   ·have := hp8 (by omega)
    omega
  have h := rds_last (f := f) (len := s) (a := 0) (B := 64) (r := r') (k := k) (x := V % 128 ^ k) (n := sdig V k) hn ⟨hm0, hm1⟩ (by omega) hb.1 hb.2 (by omega) hc (by omega)
  rcases h with ⟨_, _, g3, g4, g5⟩ | ⟨g1, _⟩
  ·refine ⟨_, _, Prod.ext rfl (Prod.ext rfl (Prod.ext ?_ ?_)), g3⟩
   ·exact g4.trans (by show ((0 + k + 1 : Nat) : Int) = (s : Int); omega)
   ·exact g5
  ·exfalso
   apply g1
   by_cases hk9 : k = 9
   ·obtain ⟨q1, q2⟩ := h9 hk9
    rw [q1]
    subst hk9
    show -1 ≤ _ ∧ _ < 1
    omega
   ·have := p2le (show 7 ≤ 64 - 7 * k - 1 by omega)
    have e7 : (2 : Int) ^ 7 = 128 := rfl
    omega
 | d + 1, r, k, hk, hr => by
  obtain ⟨r', rfl⟩ : ∃ r', r = r' + 1 := ⟨r - 1, by omega⟩
  have hd := dig_bd V k
  have hc : f (0 + k) = dig V k + 128 := by rw [Nat.zero_add, hf k (by omega), if_pos (by omega)]
  have hlo : lowI (f (0 + k)) = dig V k := by rw [hc]; unfold lowI; omega
  have hp := p128pos k
  have h0 := Int.mul_nonneg hd.1 (Int.le_of_lt hp)
  have hp8 : (128 : Int) ^ k ≤ 72057594037927936 := by
   have := p2le (show 7 * k ≤ 56 by omega)
   rw [pow7] at this
   exact this
  have h1 : dig V k * 128 ^ k ≤ 127 * 128 ^ k := Int.mul_le_mul_of_nonneg_right (by omega) (Int.le_of_lt hp)
  rw [rd_more (by omega) (fitB_big true (by omega)) (by omega) (by omega), hlo, mod64 h0 (by omega), ← mod_step]
  exact rds_fm hV hs hf d r' (k + 1) (by omega) (by omega)
theorem back_u {n : Int} (hn : 0 ≤ n ∧ n < 18446744073709551616) {s : Nat} (hs : 0 < s ∧ s ≤ 10) : ∃ y wd, LebM.read false (lst (fm n s)) s 0 64 = (y, wd, (s : Int), 0) ∧ (y = n ↔ n < 128 ^ s) := by
 unfold LebM.read
 rw [if_neg (by omega)]
 obtain ⟨wd, h⟩ := rd_fm (f := lst (fm n s)) hn hs (fun k hk => fm_get s n k hk) (s - 1) 10 0 (by omega) (by omega)
 rw [Int.pow_zero, Int.emod_one] at h
 refine ⟨_, wd, h, ?_⟩
 have hp := p128pos s
 have hm := Int.emod_lt_of_pos n hp
 exact ⟨fun h => by omega, fun h => Int.emod_eq_of_lt hn.1 h⟩
theorem back_s {V : Int} (hV : -9223372036854775808 ≤ V ∧ V ≤ 9223372036854775807) {s : Nat} (hs : 0 < s ∧ s ≤ 10) : ∃ y wd, LebM.read true (lst (fm V s)) s 0 64 = (y, wd, (s : Int), 0) ∧ (sval y wd = V ↔ -(64 * 128 ^ (s - 1)) ≤ V ∧ V < 64 * 128 ^ (s - 1)) ∧ -9223372036854775808 ≤ sval y wd ∧ sval y wd ≤ 9223372036854775807 := by
 unfold LebM.read
 rw [if_neg (by omega)]
 obtain ⟨y, wd, h, h2⟩ := rds_fm (f := lst (fm V s)) hV hs (fun k hk => fm_get s V k hk) (s - 1) 10 0 (by omega) (by omega)
 rw [Int.pow_zero, Int.emod_one] at h
 refine ⟨y, wd, h, ?_, ?_⟩
 case refine_2 =>
  rw [h2]
  have hp := p128pos (s - 1)
  have hm0 := Int.emod_nonneg V (Int.ne_of_gt hp)
  have hm1 := Int.emod_lt_of_pos V hp
  have hsd : -64 ≤ sdig V (s - 1) ∧ sdig V (s - 1) ≤ 63 := by unfold sdig; omega
  by_cases h9 : s - 1 = 9
  ·have e9 : (128 : Int) ^ 9 = 9223372036854775808 := rfl
   have e : sdig V (s - 1) = (V / 128 ^ (s - 1) + 64) % 128 - 64 := rfl
   rw [h9, e9] at *
   have : V / 9223372036854775808 = -1 ∨ V / 9223372036854775808 = 0 := by omega
   have e2 : sdig V 9 = V / 9223372036854775808 := by omega
   rw [e2]
   omega
  ·have hp8 := p2le (show 7 * (s - 1) ≤ 56 by omega)
   rw [pow7] at hp8
   have e56 : (2 : Int) ^ 56 = 72057594037927936 := rfl
   have h7 := Int.mul_le_mul_of_nonneg_right hsd.1 (Int.le_of_lt hp)
   have h8 := Int.mul_le_mul_of_nonneg_right hsd.2 (Int.le_of_lt hp)
   omega
 rw [h2]
 have hp := p128pos (s - 1)
 have hdm := Int.emod_add_mul_ediv V (128 ^ (s - 1))
 have hm0 := Int.emod_nonneg V (Int.ne_of_gt hp)
 have hm1 := Int.emod_lt_of_pos V hp
 have e : sdig V (s - 1) = (V / 128 ^ (s - 1) + 64) % 128 - 64 := rfl
 generalize (128 : Int) ^ (s - 1) = p at *
 have e2 : V % p + V / p * p = V := by rw [Int.mul_comm (V / p)]; exact hdm
 constructor
 ·intro h3
  have h4 : sdig V (s - 1) * p = V / p * p := by omega
  have h5 : sdig V (s - 1) = V / p := Int.eq_of_mul_eq_mul_right (by omega) h4
  have h6 : -64 ≤ V / p ∧ V / p < 64 := by omega
  have h7 := Int.mul_le_mul_of_nonneg_right h6.1 (Int.le_of_lt hp)
  have h8 := Int.mul_le_mul_of_nonneg_right (show V / p ≤ 63 by omega) (Int.le_of_lt hp)
  omega
 ·intro h3
  have h6 : -64 ≤ V / p ∧ V / p < 64 := by
   constructor
   ·apply Int.le_ediv_of_mul_le hp; omega
   ·apply Int.ediv_lt_of_lt_mul hp; omega
  have h5 : sdig V (s - 1) = V / p := by omega
  rw [h5]; exact e2
end
section
open Go.RowKit LebM
theorem or_low (i : Nat) (hi : i < 7) (x v : Int) (hx : 0 ≤ x ∧ x < 2 ^ i) (hv : v = 0 ∨ v = 1) : Go.bits .or .u8 x (IntKind.u8.wrap (v * 2 ^ i)) = x + v * 2 ^ i := by
 obtain ⟨n, rfl⟩ := Int.eq_ofNat_of_zero_le hx.1
 have hle := p2le (show i ≤ 6 by omega)
 have e6 : (2 : Int) ^ 6 = 64 := rfl
 have hn : n < 64 := by omega
 have key : ∀ i : Fin 7, ∀ n : Fin 64, ((n.val : Nat) : Int) < 2 ^ i.val → Go.bits .or .u8 ((n.val : Nat) : Int) (IntKind.u8.wrap (0 * 2 ^ i.val)) = ((n.val : Nat) : Int) + 0 * 2 ^ i.val ∧ Go.bits .or .u8 ((n.val : Nat) : Int) (IntKind.u8.wrap (1 * 2 ^ i.val)) = ((n.val : Nat) : Int) + 1 * 2 ^ i.val := by decide +kernel
 have := key ⟨i, hi⟩ ⟨n, hn⟩ hx.2
 rcases hv with rfl | rfl
 ·exact this.1
 ·exact this.2
theorem mod2_step (D : Int) (i : Nat) : D % 2 ^ (i + 1) = D % 2 ^ i + D / 2 ^ i % 2 * 2 ^ i := by
 have hp := p2pos i
 have h1 := Int.emod_add_mul_ediv D (2 ^ i)
 have h2 := Int.emod_add_mul_ediv D (2 ^ (i + 1))
 have e : D / 2 ^ (i + 1) = D / 2 ^ i / 2 := by rw [Int.pow_succ, ← Int.ediv_ediv_of_nonneg (Int.le_of_lt hp)]
 have e2 : (2 : Int) ^ (i + 1) = 2 ^ i * 2 := Int.pow_succ ..
 rw [e, e2, Int.mul_assoc] at h2
 have h3 : D / 2 ^ i % 2 = D / 2 ^ i - 2 * (D / 2 ^ i / 2) := by omega
 rw [h3, Int.sub_mul, e2, Int.mul_comm (D / 2 ^ i)]
 have e3 : 2 * (D / 2 ^ i / 2) * 2 ^ i = 2 ^ i * (2 * (D / 2 ^ i / 2)) := Int.mul_comm ..
 rw [e3]
 omega
theorem div_bits (V : Int) (k i : Nat) : V / 128 ^ k / 2 ^ i = V / 2 ^ (7 * k + i) := by
 rw [p2, pow7, Int.ediv_ediv_of_nonneg (Int.le_of_lt (p128pos k))]
theorem bit_u64 (V : Int) (p : Nat) (hp : p < 64) : V % 18446744073709551616 / 2 ^ p % 2 = V / 2 ^ p % 2 := by
 have hq : (18446744073709551616 : Int) = 2 ^ p * (2 * 2 ^ (63 - p)) := by
  rw [← Int.mul_assoc, Int.mul_comm (2 ^ p) 2, Int.mul_assoc, ← p2, show p + (63 - p) = 63 by omega]; rfl
 have h1 := Int.emod_add_mul_ediv V 18446744073709551616
 have hpp := p2pos p
 have h2 : V = V % 18446744073709551616 + 2 ^ p * (2 * (2 ^ (63 - p) * (V / 18446744073709551616))) := by
  have : 18446744073709551616 * (V / 18446744073709551616) = 2 ^ p * (2 * (2 ^ (63 - p) * (V / 18446744073709551616))) := by
   conv => lhs; rw [hq]
   simp only [Int.mul_assoc]
   rw [← hq]
  omega
 have h3 : V / 2 ^ p = V % 18446744073709551616 / 2 ^ p + 2 * (2 ^ (63 - p) * (V / 18446744073709551616)) := by
  conv => lhs; rw [h2]
  rw [Int.add_mul_ediv_left _ _ (by omega)]
 rw [h3]; omega
theorem take_succ_fm (V : Int) (s k : Nat) (h : k < s) : (fm V s).take (k + 1) = (fm V s).take k ++ [(fm V s).getD k 0] := by
 have hl := fm_len s V
 rw [List.take_add_one, List.getD_eq_getElem?_getD, List.getElem?_eq_getElem (by omega)]; rfl
theorem fm_byte (V : Int) (s : Nat) : ∀ x ∈ fm V s, 0 ≤ x ∧ x < 256 := fun x hx => by
 obtain ⟨k, hk, rfl⟩ := List.getElem_of_mem hx
 have hl := fm_len s V
 have h := fm_get s V k (by omega)
 rw [List.getD_eq_getElem?_getD, List.getElem?_eq_getElem hk] at h
 have hd := dig_bd V k
 simp only [Option.getD_some] at h
 rw [h]
 split <;> omega
set_option maxRecDepth 100000 in
set_option maxHeartbeats 8000000 in
theorem rform_u (V nn : Int) (hV : 0 ≤ V ∧ V < 18446744073709551616) (hnn : nn = V % 18446744073709551616) (w : World) :
  Calls Try.prog 74 #[.int .u64 nn, .bool false] w fun e w' => ∃ sv, e = .returned sv ∧ Gr w w' ∧ ∃ s : Nat, (0 < s ∧ s ≤ 10) ∧ (V < 128 ^ s) ∧ (∀ t, 0 < t → t < s → ¬ (V < 128 ^ t)) ∧ w'.ownsRow w.heap.size 5 1 sv (fm V s).length (u8s (fm V s)) := by
 have HV := Lib.hid hV
 have HNN := Lib.hid hnn
 obtain ⟨i0, hi, hz0, hz1, hz2⟩ := info_parts info8
 have HI := Lib.hid hi
 have HZ0 := Lib.hid hz0
 have HZ1 := Lib.hid hz1
 have HZ2 := Lib.hid hz2
 have hnb : 0 ≤ nn ∧ nn < 18446744073709551616 := by omega
 clear hV hnn hi hz0 hz1 hz2
 go_enter Try.func74, Try.ntmps74
 go_wp2_with fail
 go_loopw [5] (fun sz wr => ∃ s : Nat, 0 < s ∧ s ≤ 10 ∧ sz = .int .i64 s ∧ Gr w wr ∧ ∀ t, 0 < t → t < s → ¬ (V < 128 ^ t)) (fun sz _ => 11 - (intOf sz).toNat)
 case atStart => exact ⟨1, by decide, by decide, rfl, Gr.refl _, fun t h1 h2 => by omega⟩
 case round =>
  obtain ⟨s, hs0, hs1, rfl, hg, hno⟩ := hrel
  have HG := Lib.hid hg
  have HNo := Lib.hid hno
  clear hg hno
  go_wp2_with fail
  go_loopw [6, 7] (fun bv kv wr => ∃ k : Nat, k ≤ s ∧ kv = .int .i64 k ∧ Gr w wr ∧ wr.ownsRow w.heap.size 5 1 bv k (u8s ((fm V s).take k))) (fun _ kv _ => s - (intOf kv).toNat)
  case atStart => exact ⟨0, by omega, rfl, HG.out, World.ownsRow_nil _ _ _ _⟩
  case round =>
   obtain ⟨k, hk, rfl, hg, hown⟩ := hrel
   have HGk := Lib.hid hg
   have HOk := Lib.hid hown
   clear hg hown
   by_cases hlt : k < s
   ·obtain ⟨q, hq⟩ : ∃ q : Nat, q = 7 * k := ⟨_, rfl⟩
    have hq7 : 7 * (k : Int) = (q : Int) := by omega
    have HQ := Lib.hid hq
    have hltI : (k : Int) < (s : Int) := by omega
    clear hq
    obtain ⟨D, hD⟩ : ∃ D, D = V / 128 ^ k := ⟨_, rfl⟩
    have HD := Lib.hid hD
    clear hD
    go_wp2_with fail
    go_loop [8, 9] (fun xv iv => ∃ (i : Nat) (x : Int), i ≤ 7 ∧ iv = .int .i64 i ∧ xv = .int .u8 x ∧ x = D % 2 ^ i) (fun _ iv => 7 - (intOf iv).toNat)
    case atStart => exact ⟨0, 0, by decide, rfl, rfl, by rw [Int.pow_zero]; omega⟩
    case round =>
     obtain ⟨i, x, hi, rfl, rfl, hx⟩ := hrel
     have HX := Lib.hid hx
     clear hx
     by_cases hi7 : i < 7
     ·obtain ⟨p, hp⟩ : ∃ p : Nat, p = q + i := ⟨_, rfl⟩
      have hpI : (q : Int) + (i : Int) = (p : Int) := by omega
      have HP := Lib.hid hp
      have hiI : (i : Int) < 7 := by omega
      have hp2 := p2pos i
      have hxb : 0 ≤ x ∧ x < 2 ^ i := by rw [HX.out]; exact ⟨Int.emod_nonneg _ (by omega), Int.emod_lt_of_pos _ hp2⟩
      have hbit : D / 2 ^ i % 2 = V / 2 ^ p % 2 := by rw [HD.out, div_bits, ← HQ.out, ← HP.out]
      have hst := mod2_step D i
      rw [← HX.out, hbit] at hst
      obtain ⟨v, hv⟩ : ∃ v, V / 2 ^ p % 2 = v := ⟨_, rfl⟩
      have hv01 : v = 0 ∨ v = 1 := by omega
      rw [hv] at hst
      have hor := or_low i hi7 x v hxb hv01
      have hle := p2le (show i ≤ 6 by omega)
      have e6 : (2 : Int) ^ 6 = 64 := rfl
      have hvb : 0 ≤ v * 2 ^ i ∧ v * 2 ^ i ≤ 64 := by rcases hv01 with rfl | rfl <;> omega
      have HST := Lib.hid hst
      have hwi : IntKind.u64.wrap (i : Int) = i := by rw [IntKind.wrap_u64]; omega
      have hwp : IntKind.u64.wrap (p : Int) = p := by rw [IntKind.wrap_u64]; omega
      have hwv : IntKind.u64.wrap v = v := by rw [IntKind.wrap_u64]; omega
      have hw1 : wrap64 v = v := by unfold wrap64; omega
      have HOr := Lib.hid (show Go.bits .or .u8 x (wrap64 (v * 2 ^ i) % 256) = x + v * 2 ^ i by
       rw [show wrap64 (v * 2 ^ i) = v * 2 ^ i by unfold wrap64; omega, ← IntKind.wrap_u8]; exact hor)
      have hv1 : v ≤ 1 ∧ 0 ≤ v := by omega
      clear hp hp2 hxb hbit hst hle e6 hvb hi hor
      by_cases h64 : p < 64
      ·have h64I : (p : Int) < 64 := by omega
       have hrem : (nn / 2 ^ p).tmod 2 = v := by
        rw [Int.tmod_eq_emod_of_nonneg (Int.ediv_nonneg hnb.1 (Int.le_of_lt (p2pos p))), HNN.out, bit_u64 V p h64, hv]
       clear hv hv01 h64
       go_wp2
       exact ⟨⟨i + 1, x + v * 2 ^ i, by omega, by go_num, by rw [HOr.out], HST.out.symm⟩, by simp [intOf]; omega⟩
      ·have h64I : ¬ (p : Int) < 64 := by omega
       have hv0 : v = 0 := by
        have hge := p2le (show 64 ≤ p by omega)
        have e64 : (2 : Int) ^ 64 = 18446744073709551616 := rfl
        rw [← hv, Int.ediv_eq_zero_of_lt HV.out.1 (by have := HV.out.2; omega)]; rfl
       subst hv0
       clear hv hv01 h64
       have e : Go.bits .or .u8 x 0 = x := by
        have h := HOr.out
        rw [Int.zero_mul, show wrap64 0 % 256 = 0 by unfold wrap64; decide, Int.add_zero] at h
        exact h
       have HE := Lib.hid e
       clear e
       go_wp2
       exact ⟨⟨i + 1, x, by omega, by go_num, by rw [HE.out], by have h := HST.out; rw [Int.zero_mul, Int.add_zero] at h; exact h.symm⟩, by simp [intOf]; omega⟩
     ·obtain rfl : i = 7 := by omega
      have hx7 : x = dig V k := by rw [HX.out, HD.out]; rfl
      have hxb := dig_bd V k
      rw [← hx7] at hxb
      by_cases hk1 : k + 1 < s
      ·have hk1I : (k : Int) < (s : Int) - 1 := by omega
       have ho := or128 x hxb
       have HC := Lib.hid (show (fm V s).getD k 0 = x + 128 by rw [fm_get s V k (by omega), if_pos hk1, hx7])
       clear hx7 hk1 hi hi7
       go_wp2_with (at_builtin; refine wpList_append_src rfl _ _ 22 rfl w.heap.size 5 i0 (.int .u8 0) 1 1 Try.underlying22 HI.out HZ0.out HZ1.out HZ2.out rfl (by decide) u6 k (u8s ((fm V s).take k)) rfl (HOk.out.alloc _) (.slice (some ⟨wr.heap.size, 0, none⟩) 1 1) 1 [.int .u8 (x + 128)] rfl (src_lit wr #[.int .u8 (x + 128)] _ 1 1) rfl (fun u hu => by simp at hu; subst hu; rfl) (by unfold maxLen; omega) (by omega) (by have := HGk.out.size; simp; omega) ?_)
       intro v' w3 hown3 hgb3
       have HG3 := Lib.hid ((HGk.out.allocO _).grown hgb3 (fun q hq => (HOk.out.lt q hq).1))
       have HO3 := Lib.hid (show w3.ownsRow w.heap.size 5 1 v' (k + 1) (u8s ((fm V s).take (k + 1))) by
        rw [take_succ_fm V s k (by omega), u8s_app, HC.out]; exact hown3)
       clear hown3 hgb3
       go_wp2
       exact ⟨⟨k + 1, by omega, by go_num, HG3.out, HO3.out⟩, by simp [intOf]; omega⟩
      ·have hk1I : ¬ (k : Int) < (s : Int) - 1 := by omega
       have HC := Lib.hid (show (fm V s).getD k 0 = x by rw [fm_get s V k (by omega), if_neg hk1, hx7])
       clear hx7 hk1 hi hi7
       go_wp2_with (at_builtin; refine wpList_append_src rfl _ _ 22 rfl w.heap.size 5 i0 (.int .u8 0) 1 1 Try.underlying22 HI.out HZ0.out HZ1.out HZ2.out rfl (by decide) u6 k (u8s ((fm V s).take k)) rfl (HOk.out.alloc _) (.slice (some ⟨wr.heap.size, 0, none⟩) 1 1) 1 [.int .u8 (x)] rfl (src_lit wr #[.int .u8 (x)] _ 1 1) rfl (fun u hu => by simp at hu; subst hu; rfl) (by unfold maxLen; omega) (by omega) (by have := HGk.out.size; simp; omega) ?_)
       intro v' w3 hown3 hgb3
       have HG3 := Lib.hid ((HGk.out.allocO _).grown hgb3 (fun q hq => (HOk.out.lt q hq).1))
       have HO3 := Lib.hid (show w3.ownsRow w.heap.size 5 1 v' (k + 1) (u8s ((fm V s).take (k + 1))) by
        rw [take_succ_fm V s k (by omega), u8s_app, HC.out]; exact hown3)
       clear hown3 hgb3
       go_wp2
       exact ⟨⟨k + 1, by omega, by go_num, HG3.out, HO3.out⟩, by simp [intOf]; omega⟩
   ·obtain rfl : k = s := by omega
    have hl := fm_len k V
    have HW := Lib.hid (show wr.ownsRow w.heap.size 5 1 u6 (fm V k).length (u8s (fm V k)) by
     have h := HOk.out
     rw [List.take_of_length_le (by omega)] at h
     rw [hl]; exact h)
    have HU8 := Lib.hid (show U8s wr u6 k (lst (fm V k)) by have h := u8s_of_owns HW.out; rw [hl] at h; exact h)
    clear hl
    obtain ⟨y, wd, hrd, hy⟩ := back_u HV.out (s := k) ⟨hs0, hs1⟩
    have C := ru_any u6 k (by omega) (lst (fm V k)) (lst_by (fm_byte V k)) 0 64 wr HU8.out
    rw [hrd] at C
    have HC := Lib.hid (show Calls Try.prog 60 #[u6, .int .i64 0, .int .i64 64] wr fun e w' => e = .returned (.tuple #[.int .u64 y, .int .i64 k, .int .i64 0]) ∧ Gr wr w' from C)
    have hnV : nn = V := by rw [HNN.out]; exact Int.emod_eq_of_lt HV.out.1 HV.out.2
    clear C hrd
    by_cases hfit : V < 128 ^ k
    ·have hyn : (y == nn) = true := beq_iff_eq.2 ((hy.2 hfit).trans hnV.symm)
     have HFit := Lib.hid hfit
     clear hy hfit hnV
     go_wp2_with (go_at_call 60; refine HC.out.mono ?_; rintro e w5 ⟨rfl, hg5⟩; have HG5 := Lib.hid hg5; clear hg5)
     go_ret
     exact ⟨_, rfl, gr_trans HGk.out HG5.out, k, ⟨hs0, hs1⟩, HFit.out, HNo.out, own_gr HW.out HG5.out⟩
    ·have hyn : (y == nn) = false := beq_eq_false_iff_ne.2 (fun h => hfit (hy.1 (h.trans hnV)))
     have HNf := Lib.hid hfit
     have hk9 : k ≤ 9 := by
      apply Classical.byContradiction
      intro h
      obtain rfl : k = 10 := by omega
      have e : (128 : Int) ^ 10 = 1180591620717411303424 := rfl
      rw [e] at hfit
      have := HV.out.2
      omega
     clear hy hfit hnV
     go_wp2_with (go_at_call 60; refine HC.out.mono ?_; rintro e w5 ⟨rfl, hg5⟩; have HG5 := Lib.hid hg5; clear hg5)
     exact ⟨⟨k + 1, by omega, by omega, by go_num, gr_trans HGk.out HG5.out, fun t h1 h2 => by
      by_cases ht : t = k
      ·rw [ht]; have h3 := HNf.out; omega
      ·have h3 := HNo.out t h1 (by omega); omega⟩, by simp [intOf]; omega⟩
set_option maxRecDepth 100000 in
set_option maxHeartbeats 8000000 in
theorem rform_s (V nn : Int) (hV : -9223372036854775808 ≤ V ∧ V ≤ 9223372036854775807) (hnn : nn = V % 18446744073709551616) (w : World) :
  Calls Try.prog 74 #[.int .u64 nn, .bool true] w fun e w' => ∃ sv, e = .returned sv ∧ Gr w w' ∧ ∃ s : Nat, (0 < s ∧ s ≤ 10) ∧ (-(64 * 128 ^ (s - 1)) ≤ V ∧ V < 64 * 128 ^ (s - 1)) ∧ (∀ t, 0 < t → t < s → ¬ (-(64 * 128 ^ (t - 1)) ≤ V ∧ V < 64 * 128 ^ (t - 1))) ∧ w'.ownsRow w.heap.size 5 1 sv (fm V s).length (u8s (fm V s)) := by
 have HV := Lib.hid hV
 have HNN := Lib.hid hnn
 obtain ⟨i0, hi, hz0, hz1, hz2⟩ := info_parts info8
 have HI := Lib.hid hi
 have HZ0 := Lib.hid hz0
 have HZ1 := Lib.hid hz1
 have HZ2 := Lib.hid hz2
 have hnb : 0 ≤ nn ∧ nn < 18446744073709551616 := by omega
 clear hV hnn hi hz0 hz1 hz2
 go_enter Try.func74, Try.ntmps74
 go_wp2_with fail
 go_loopw [5] (fun sz wr => ∃ s : Nat, 0 < s ∧ s ≤ 10 ∧ sz = .int .i64 s ∧ Gr w wr ∧ ∀ t, 0 < t → t < s → ¬ (-(64 * 128 ^ (t - 1)) ≤ V ∧ V < 64 * 128 ^ (t - 1))) (fun sz _ => 11 - (intOf sz).toNat)
 case atStart => exact ⟨1, by decide, by decide, rfl, Gr.refl _, fun t h1 h2 => by omega⟩
 case round =>
  obtain ⟨s, hs0, hs1, rfl, hg, hno⟩ := hrel
  have HG := Lib.hid hg
  have HNo := Lib.hid hno
  clear hg hno
  go_wp2_with fail
  go_loopw [6, 7] (fun bv kv wr => ∃ k : Nat, k ≤ s ∧ kv = .int .i64 k ∧ Gr w wr ∧ wr.ownsRow w.heap.size 5 1 bv k (u8s ((fm V s).take k))) (fun _ kv _ => s - (intOf kv).toNat)
  case atStart => exact ⟨0, by omega, rfl, HG.out, World.ownsRow_nil _ _ _ _⟩
  case round =>
   obtain ⟨k, hk, rfl, hg, hown⟩ := hrel
   have HGk := Lib.hid hg
   have HOk := Lib.hid hown
   clear hg hown
   by_cases hlt : k < s
   ·obtain ⟨q, hq⟩ : ∃ q : Nat, q = 7 * k := ⟨_, rfl⟩
    have hq7 : 7 * (k : Int) = (q : Int) := by omega
    have HQ := Lib.hid hq
    have hltI : (k : Int) < (s : Int) := by omega
    clear hq
    obtain ⟨D, hD⟩ : ∃ D, D = V / 128 ^ k := ⟨_, rfl⟩
    have HD := Lib.hid hD
    clear hD
    go_wp2_with fail
    go_loop [8, 9] (fun xv iv => ∃ (i : Nat) (x : Int), i ≤ 7 ∧ iv = .int .i64 i ∧ xv = .int .u8 x ∧ x = D % 2 ^ i) (fun _ iv => 7 - (intOf iv).toNat)
    case atStart => exact ⟨0, 0, by decide, rfl, rfl, by rw [Int.pow_zero]; omega⟩
    case round =>
     obtain ⟨i, x, hi, rfl, rfl, hx⟩ := hrel
     have HX := Lib.hid hx
     clear hx
     by_cases hi7 : i < 7
     ·obtain ⟨p, hp⟩ : ∃ p : Nat, p = q + i := ⟨_, rfl⟩
      have hpI : (q : Int) + (i : Int) = (p : Int) := by omega
      have HP := Lib.hid hp
      have hiI : (i : Int) < 7 := by omega
      have hp2 := p2pos i
      have hxb : 0 ≤ x ∧ x < 2 ^ i := by rw [HX.out]; exact ⟨Int.emod_nonneg _ (by omega), Int.emod_lt_of_pos _ hp2⟩
      have hbit : D / 2 ^ i % 2 = V / 2 ^ p % 2 := by rw [HD.out, div_bits, ← HQ.out, ← HP.out]
      have hst := mod2_step D i
      rw [← HX.out, hbit] at hst
      obtain ⟨v, hv⟩ : ∃ v, V / 2 ^ p % 2 = v := ⟨_, rfl⟩
      have hv01 : v = 0 ∨ v = 1 := by omega
      rw [hv] at hst
      have hor := or_low i hi7 x v hxb hv01
      have hle := p2le (show i ≤ 6 by omega)
      have e6 : (2 : Int) ^ 6 = 64 := rfl
      have hvb : 0 ≤ v * 2 ^ i ∧ v * 2 ^ i ≤ 64 := by rcases hv01 with rfl | rfl <;> omega
      have HST := Lib.hid hst
      have hwi : IntKind.u64.wrap (i : Int) = i := by rw [IntKind.wrap_u64]; omega
      have hwp : IntKind.u64.wrap (p : Int) = p := by rw [IntKind.wrap_u64]; omega
      have hwv : IntKind.u64.wrap v = v := by rw [IntKind.wrap_u64]; omega
      have hw1 : wrap64 v = v := by unfold wrap64; omega
      have HOr := Lib.hid (show Go.bits .or .u8 x (wrap64 (v * 2 ^ i) % 256) = x + v * 2 ^ i by
       rw [show wrap64 (v * 2 ^ i) = v * 2 ^ i by unfold wrap64; omega, ← IntKind.wrap_u8]; exact hor)
      have hv1 : v ≤ 1 ∧ 0 ≤ v := by omega
      clear hp hp2 hxb hbit hst hle e6 hvb hi hor
      by_cases h64 : p < 64
      ·have h64I : (p : Int) < 64 := by omega
       have hrem : (nn / 2 ^ p).tmod 2 = v := by
        rw [Int.tmod_eq_emod_of_nonneg (Int.ediv_nonneg hnb.1 (Int.le_of_lt (p2pos p))), HNN.out, bit_u64 V p h64, hv]
       clear hv hv01 h64
       go_wp2
       exact ⟨⟨i + 1, x + v * 2 ^ i, by omega, by go_num, by rw [HOr.out], HST.out.symm⟩, by simp [intOf]; omega⟩
      ·have h64I : ¬ (p : Int) < 64 := by omega
       have hsh : nn / 9223372036854775808 = v := by
        obtain ⟨e, rfl⟩ := Nat.exists_eq_add_of_le (show 64 ≤ p by omega)
        have hpe := p2pos e
        have h1 := HV.out
        have h2 := HNN.out
        rw [← hv, p2, ← Int.ediv_ediv_of_nonneg (show (0 : Int) ≤ 2 ^ 64 by decide)]
        have e64 : (2 : Int) ^ 64 = 18446744073709551616 := rfl
        rw [e64]
        by_cases hneg : V < 0
        ·have e1 : V / 18446744073709551616 = -1 := by omega
         have e2 : (-1 : Int) / 2 ^ e = -1 := by
          apply Int.le_antisymm
          ·have := Int.ediv_lt_of_lt_mul hpe (show (-1 : Int) < 0 * 2 ^ e by omega); omega
          ·exact Int.le_ediv_of_mul_le hpe (by omega)
         rw [e1, e2]; omega
        ·have e1 : V / 18446744073709551616 = 0 := by omega
         rw [e1, Int.zero_ediv]; omega
       clear hv hv01 h64
       go_wp2
       exact ⟨⟨i + 1, x + v * 2 ^ i, by omega, by go_num, by rw [HOr.out], HST.out.symm⟩, by simp [intOf]; omega⟩
     ·obtain rfl : i = 7 := by omega
      have hx7 : x = dig V k := by rw [HX.out, HD.out]; rfl
      have hxb := dig_bd V k
      rw [← hx7] at hxb
      by_cases hk1 : k + 1 < s
      ·have hk1I : (k : Int) < (s : Int) - 1 := by omega
       have ho := or128 x hxb
       have HC := Lib.hid (show (fm V s).getD k 0 = x + 128 by rw [fm_get s V k (by omega), if_pos hk1, hx7])
       clear hx7 hk1 hi hi7
       go_wp2_with (at_builtin; refine wpList_append_src rfl _ _ 22 rfl w.heap.size 5 i0 (.int .u8 0) 1 1 Try.underlying22 HI.out HZ0.out HZ1.out HZ2.out rfl (by decide) u6 k (u8s ((fm V s).take k)) rfl (HOk.out.alloc _) (.slice (some ⟨wr.heap.size, 0, none⟩) 1 1) 1 [.int .u8 (x + 128)] rfl (src_lit wr #[.int .u8 (x + 128)] _ 1 1) rfl (fun u hu => by simp at hu; subst hu; rfl) (by unfold maxLen; omega) (by omega) (by have := HGk.out.size; simp; omega) ?_)
       intro v' w3 hown3 hgb3
       have HG3 := Lib.hid ((HGk.out.allocO _).grown hgb3 (fun q hq => (HOk.out.lt q hq).1))
       have HO3 := Lib.hid (show w3.ownsRow w.heap.size 5 1 v' (k + 1) (u8s ((fm V s).take (k + 1))) by
        rw [take_succ_fm V s k (by omega), u8s_app, HC.out]; exact hown3)
       clear hown3 hgb3
       go_wp2
       exact ⟨⟨k + 1, by omega, by go_num, HG3.out, HO3.out⟩, by simp [intOf]; omega⟩
      ·have hk1I : ¬ (k : Int) < (s : Int) - 1 := by omega
       have HC := Lib.hid (show (fm V s).getD k 0 = x by rw [fm_get s V k (by omega), if_neg hk1, hx7])
       clear hx7 hk1 hi hi7
       go_wp2_with (at_builtin; refine wpList_append_src rfl _ _ 22 rfl w.heap.size 5 i0 (.int .u8 0) 1 1 Try.underlying22 HI.out HZ0.out HZ1.out HZ2.out rfl (by decide) u6 k (u8s ((fm V s).take k)) rfl (HOk.out.alloc _) (.slice (some ⟨wr.heap.size, 0, none⟩) 1 1) 1 [.int .u8 (x)] rfl (src_lit wr #[.int .u8 (x)] _ 1 1) rfl (fun u hu => by simp at hu; subst hu; rfl) (by unfold maxLen; omega) (by omega) (by have := HGk.out.size; simp; omega) ?_)
       intro v' w3 hown3 hgb3
       have HG3 := Lib.hid ((HGk.out.allocO _).grown hgb3 (fun q hq => (HOk.out.lt q hq).1))
       have HO3 := Lib.hid (show w3.ownsRow w.heap.size 5 1 v' (k + 1) (u8s ((fm V s).take (k + 1))) by
        rw [take_succ_fm V s k (by omega), u8s_app, HC.out]; exact hown3)
       clear hown3 hgb3
       go_wp2
       exact ⟨⟨k + 1, by omega, by go_num, HG3.out, HO3.out⟩, by simp [intOf]; omega⟩
   ·obtain rfl : k = s := by omega
    have hl := fm_len k V
    have HW := Lib.hid (show wr.ownsRow w.heap.size 5 1 u6 (fm V k).length (u8s (fm V k)) by
     have h := HOk.out
     rw [List.take_of_length_le (by omega)] at h
     rw [hl]; exact h)
    have HU8 := Lib.hid (show U8s wr u6 k (lst (fm V k)) by have h := u8s_of_owns HW.out; rw [hl] at h; exact h)
    clear hl
    obtain ⟨y, wd, hrd, hy, hrng⟩ := back_s HV.out (s := k) ⟨hs0, hs1⟩
    have C := rs_any u6 k (by omega) (lst (fm V k)) (lst_by (fm_byte V k)) 0 64
    rw [hrd] at C
    have HC := Lib.hid (show ∀ w, U8s w u6 k (lst (fm V k)) → Calls Try.prog 39 #[u6, .int .i64 0, .int .i64 64] w fun e w' => e = .returned (.tuple #[.int .i64 (sval y wd), .int .i64 k, .int .i64 0]) ∧ Gr w w' from fun w h => C w h)
    have HCu := Lib.hid (show Calls Try.prog 60 #[u6, .int .i64 0, .int .i64 64] wr fun e w' => ∃ b1 b2 b3, e = .returned (.tuple #[.int .u64 b1, .int .i64 b2, .int .i64 b3]) ∧ Gr wr w' from (ru_any u6 k (by omega) (lst (fm V k)) (lst_by (fm_byte V k)) 0 64 wr HU8.out).mono fun e w' h => ⟨_, _, _, h.1, h.2⟩)
    generalize sval y wd = z at *
    obtain ⟨zz, hzz⟩ : ∃ zz, IntKind.u64.wrap z = zz := ⟨_, rfl⟩
    have hzn : zz = nn ↔ z = V := by
     have h1 := HNN.out
     have h2 := HV.out
     rw [← hzz, IntKind.wrap_u64, h1]
     constructor
     ·intro h; omega
     ·intro h; rw [h]
    clear C hrd hrng
    by_cases hfit : -(64 * 128 ^ (k - 1)) ≤ V ∧ V < 64 * 128 ^ (k - 1)
    ·have hyn : (zz == nn) = true := beq_iff_eq.2 (hzn.2 (hy.2 hfit))
     have HFit := Lib.hid hfit
     clear hy hfit hzn
     go_wp2_with (first | (go_at_call 60; refine HCu.out.mono ?_; rintro e w5 ⟨b1, b2, b3, rfl, hg5⟩; have HG5 := Lib.hid hg5; clear hg5) | (go_at_call 39; refine (HC.out _ (u8s_gr HU8.out HG5.out)).mono ?_; rintro e w6 ⟨rfl, hg6⟩; have HG6 := Lib.hid (gr_trans HG5.out hg6); clear hg6))
     go_ret
     exact ⟨_, rfl, gr_trans HGk.out HG6.out, k, ⟨hs0, hs1⟩, HFit.out, HNo.out, own_gr HW.out HG6.out⟩
    ·have hyn : (zz == nn) = false := beq_eq_false_iff_ne.2 (fun h => hfit (hy.1 (hzn.1 h)))
     have HNf := Lib.hid hfit
     have hk9 : k ≤ 9 := by
      apply Classical.byContradiction
      intro h
      obtain rfl : k = 10 := by omega
      have e : (128 : Int) ^ (10 - 1) = 9223372036854775808 := rfl
      rw [e] at hfit
      have := HV.out
      omega
     clear hy hfit hzn
     go_wp2_with (first | (go_at_call 60; refine HCu.out.mono ?_; rintro e w5 ⟨b1, b2, b3, rfl, hg5⟩; have HG5 := Lib.hid hg5; clear hg5) | (go_at_call 39; refine (HC.out _ (u8s_gr HU8.out HG5.out)).mono ?_; rintro e w6 ⟨rfl, hg6⟩; have HG6 := Lib.hid (gr_trans HG5.out hg6); clear hg6))
     exact ⟨⟨k + 1, by omega, by omega, by go_num, gr_trans HGk.out HG6.out, fun t h1 h2 => by
      by_cases ht : t = k
      ·rw [ht]; have h3 := HNf.out; omega
      ·have h3 := HNo.out t h1 (by omega); omega⟩, by simp [intOf]; omega⟩
end
section
open Go.RowKit LebM
theorem rform_U (V : Int) (hV : 0 ≤ V ∧ V < 18446744073709551616) (w : World) :
  Calls Try.prog 74 #[.int .u64 V, .bool false] w fun e w' => ∃ sv, e = .returned sv ∧ Gr w w' ∧ w'.ownsRow w.heap.size 5 1 sv (formU V).length (u8s (formU V)) :=
 (rform_u V V hV (Int.emod_eq_of_lt hV.1 hV.2).symm w).mono fun e w' ⟨sv, h1, h2, s, hs, hfit, hno, ho⟩ => ⟨sv, h1, h2, by
  obtain ⟨t, rfl⟩ : ∃ t, s = t + 1 := ⟨s - 1, by omega⟩
  have e : fm V (t + 1) = formU V := fm_lebU t 9 V (by omega) hV.1 hfit (by
   by_cases h0 : t = 0
   ·exact .inl h0
   ·right
    have := hno t (by omega) (by omega)
    omega)
  rw [e] at ho; exact ho⟩
theorem rform_S (V : Int) (hV : -9223372036854775808 ≤ V ∧ V ≤ 9223372036854775807) (w : World) :
  Calls Try.prog 74 #[.int .u64 (IntKind.u64.wrap V), .bool true] w fun e w' => ∃ sv, e = .returned sv ∧ Gr w w' ∧ w'.ownsRow w.heap.size 5 1 sv (formS V).length (u8s (formS V)) :=
 (rform_s V (IntKind.u64.wrap V) hV (IntKind.wrap_u64 V) w).mono fun e w' ⟨sv, h1, h2, s, hs, hfit, hno, ho⟩ => ⟨sv, h1, h2, by
  obtain ⟨t, rfl⟩ : ∃ t, s = t + 1 := ⟨s - 1, by omega⟩
  rw [Nat.add_sub_cancel] at hfit
  have e : fm V (t + 1) = formS V := fm_lebS t 9 V (by omega) hfit.1 hfit.2 (fun q hq => by
   have := hno (q + 1) (by omega) (by omega)
   rw [Nat.add_sub_cancel] at this
   exact this)
  rw [e] at ho; exact ho⟩
set_option maxHeartbeats 4000000 in
theorem rputu_some (b off cap len : Nat) (zs : Nat → Int) (hz : ∀ j, 0 ≤ zs j ∧ zs j < 18446744073709551616) (hl : len ≤ 1099511627776) (w : World) (hc : ∀ j, j < len → w.cell? ⟨b, off + j, none⟩ = some (.int .u64 (zs j))) :
  Calls Try.prog 73 #[.slice (some ⟨b, off, none⟩) len cap] w fun e w' => ∃ sv, e = .returned sv ∧ Gr w w' ∧ w'.ownsRow w.heap.size 5 1 sv (forms formU zs len).length (u8s (forms formU zs len)) := by
 have HC := Lib.hid hc
 have HZ := Lib.hid hz
 obtain ⟨i0, hi, hz0, hz1, hz2⟩ := info_parts info8
 have HI := Lib.hid hi
 have HZ0 := Lib.hid hz0
 have HZ1 := Lib.hid hz1
 have HZ2 := Lib.hid hz2
 clear hc hz hi hz0 hz1 hz2
 go_enter Try.func73, Try.ntmps73
 go_wp2_with fail
 go_loopw [3, 4] (fun sv i wr => ∃ k : Nat, k ≤ len ∧ i = .int .i64 k ∧ Gr w wr ∧ wr.ownsRow w.heap.size 5 1 sv (forms formU zs k).length (u8s (forms formU zs k))) (fun _ i _ => len - (intOf i).toNat)
 case atStart => exact ⟨0, by omega, rfl, Gr.refl _, World.ownsRow_nil _ _ _ _⟩
 case round =>
  obtain ⟨k, hk, rfl, hg, hown⟩ := hrel
  have HG := Lib.hid hg
  have HW := Lib.hid hown
  clear hg hown
  by_cases hlt : k < len
  ·have h1 := gr_cell HG.out (HC.out k hlt)
   have HF := Lib.hid (rform_U (zs k) (HZ.out k))
   have hLl := forms_len (f := formU) (lebU_len 9) zs k
   have HFl := Lib.hid (show (formU (zs k)).length ≤ 10 from lebU_len 9 (zs k))
   generalize hn0 : zs k = n0 at *
   have HN0 := Lib.hid hn0
   generalize hL : forms formU zs k = L at *
   have HL := Lib.hid hL
   generalize hFF : formU n0 = F at *
   have HFF := Lib.hid hFF
   clear hn0 hL hFF
   have HSl := Lib.hid (show (u8s F).length = F.length * 1 by rw [u8s_len1])
   go_wp2_with (first | (go_at_call 74; refine (HF.out _).mono ?_; rintro e w2 ⟨s2, rfl, hg2, ho2⟩; have HG2 := Lib.hid hg2; have HO2 := Lib.hid ho2; clear hg2 ho2) | (at_builtin; refine wpList_append_src rfl _ _ 22 rfl w.heap.size 5 i0 (.int .u8 0) 1 1 Try.underlying22 HI.out HZ0.out HZ1.out HZ2.out rfl (by decide) u3 L.length (u8s L) rfl (own_gr HW.out HG2.out) s2 F.length (u8s F) rfl (src_of_owns HO2.out) HSl.out (u8s_one _) (by unfold maxLen; have := HFl.out; omega) (by have := HFl.out; omega) (by have := HG.out.size; have := HG2.out.size; omega) ?_))
   intro v' w3 hown3 hgb3
   have HG3 := Lib.hid ((gr_trans HG.out HG2.out).grown hgb3 (fun q hq => (HW.out.lt q hq).1))
   have HO3 := Lib.hid (show w3.ownsRow w.heap.size 5 1 v' (forms formU zs (k + 1)).length (u8s (forms formU zs (k + 1))) by
    rw [forms, HL.out, HN0.out, HFF.out, u8s_app, List.length_append]; exact hown3)
   clear hown3 hgb3
   go_wp2
   exact ⟨⟨k + 1, by omega, by go_num, HG3.out, HO3.out⟩, by simp [intOf]; omega⟩
  ·obtain rfl : len = k := by omega
   go_wp2
   go_ret
   exact ⟨_, rfl, HG.out, HW.out⟩
theorem rputu_zero (a : Option Addr) (c : Nat) (w : World) : Calls Try.prog 73 #[.slice a 0 c] w fun e w' => e = .returned (.slice none 0 0) ∧ Gr w w' := by
 go_enter Try.func73, Try.ntmps73
 go_wp2_with fail
 refine wp_loop_rounds 1 ?_
 rw [rounds_succ]
 go_wp2
 go_ret
 exact ⟨rfl, Gr.refl _⟩
theorem rputu_any (sv : Value) (len : Nat) (zs : Nat → Int) (hz : ∀ j, 0 ≤ zs j ∧ zs j < 18446744073709551616) (hl : len ≤ 1099511627776) (w : World) (h : Ks .u64 w sv len zs) :
  Calls Try.prog 73 #[sv] w fun e w' => ∃ sv, e = .returned sv ∧ Gr w w' ∧ w'.ownsRow w.heap.size 5 1 sv (forms formU zs len).length (u8s (forms formU zs len)) := by
 rcases h with ⟨rfl, x, c, rfl⟩ | ⟨_, b, off, c, rfl, hc⟩
 ·exact (rputu_zero x c w).mono fun e w' h => ⟨_, h.1, h.2, World.ownsRow_nil _ _ _ _⟩
 ·exact rputu_some b off c len zs hz hl w hc
set_option maxHeartbeats 4000000 in
theorem rputs_some (b off cap len : Nat) (zs : Nat → Int) (hz : ∀ j, -9223372036854775808 ≤ zs j ∧ zs j ≤ 9223372036854775807) (hl : len ≤ 1099511627776) (w : World) (hc : ∀ j, j < len → w.cell? ⟨b, off + j, none⟩ = some (.int .i64 (zs j))) :
  Calls Try.prog 51 #[.slice (some ⟨b, off, none⟩) len cap] w fun e w' => ∃ sv, e = .returned sv ∧ Gr w w' ∧ w'.ownsRow w.heap.size 5 1 sv (forms formS zs len).length (u8s (forms formS zs len)) := by
 have HC := Lib.hid hc
 have HZ := Lib.hid hz
 obtain ⟨i0, hi, hz0, hz1, hz2⟩ := info_parts info8
 have HI := Lib.hid hi
 have HZ0 := Lib.hid hz0
 have HZ1 := Lib.hid hz1
 have HZ2 := Lib.hid hz2
 clear hc hz hi hz0 hz1 hz2
 go_enter Try.func51, Try.ntmps51
 go_wp2_with fail
 go_loopw [3, 4] (fun sv i wr => ∃ k : Nat, k ≤ len ∧ i = .int .i64 k ∧ Gr w wr ∧ wr.ownsRow w.heap.size 5 1 sv (forms formS zs k).length (u8s (forms formS zs k))) (fun _ i _ => len - (intOf i).toNat)
 case atStart => exact ⟨0, by omega, rfl, Gr.refl _, World.ownsRow_nil _ _ _ _⟩
 case round =>
  obtain ⟨k, hk, rfl, hg, hown⟩ := hrel
  have HG := Lib.hid hg
  have HW := Lib.hid hown
  clear hg hown
  by_cases hlt : k < len
  ·have h1 := gr_cell HG.out (HC.out k hlt)
   have HF := Lib.hid (rform_S (zs k) (HZ.out k))
   have hLl := forms_len (f := formS) (lebS_len 9) zs k
   have HFl := Lib.hid (show (formS (zs k)).length ≤ 10 from lebS_len 9 (zs k))
   generalize hn0 : zs k = n0 at *
   have HN0 := Lib.hid hn0
   generalize hL : forms formS zs k = L at *
   have HL := Lib.hid hL
   generalize hFF : formS n0 = F at *
   have HFF := Lib.hid hFF
   clear hn0 hL hFF
   have HSl := Lib.hid (show (u8s F).length = F.length * 1 by rw [u8s_len1])
   go_wp2_with (first | (go_at_call 74; refine (HF.out _).mono ?_; rintro e w2 ⟨s2, rfl, hg2, ho2⟩; have HG2 := Lib.hid hg2; have HO2 := Lib.hid ho2; clear hg2 ho2) | (at_builtin; refine wpList_append_src rfl _ _ 22 rfl w.heap.size 5 i0 (.int .u8 0) 1 1 Try.underlying22 HI.out HZ0.out HZ1.out HZ2.out rfl (by decide) u3 L.length (u8s L) rfl (own_gr HW.out HG2.out) s2 F.length (u8s F) rfl (src_of_owns HO2.out) HSl.out (u8s_one _) (by unfold maxLen; have := HFl.out; omega) (by have := HFl.out; omega) (by have := HG.out.size; have := HG2.out.size; omega) ?_))
   intro v' w3 hown3 hgb3
   have HG3 := Lib.hid ((gr_trans HG.out HG2.out).grown hgb3 (fun q hq => (HW.out.lt q hq).1))
   have HO3 := Lib.hid (show w3.ownsRow w.heap.size 5 1 v' (forms formS zs (k + 1)).length (u8s (forms formS zs (k + 1))) by
    rw [forms, HL.out, HN0.out, HFF.out, u8s_app, List.length_append]; exact hown3)
   clear hown3 hgb3
   go_wp2
   exact ⟨⟨k + 1, by omega, by go_num, HG3.out, HO3.out⟩, by simp [intOf]; omega⟩
  ·obtain rfl : len = k := by omega
   go_wp2
   go_ret
   exact ⟨_, rfl, HG.out, HW.out⟩
theorem rputs_zero (a : Option Addr) (c : Nat) (w : World) : Calls Try.prog 51 #[.slice a 0 c] w fun e w' => e = .returned (.slice none 0 0) ∧ Gr w w' := by
 go_enter Try.func51, Try.ntmps51
 go_wp2_with fail
 refine wp_loop_rounds 1 ?_
 rw [rounds_succ]
 go_wp2
 go_ret
 exact ⟨rfl, Gr.refl _⟩
theorem rputs_any (sv : Value) (len : Nat) (zs : Nat → Int) (hz : ∀ j, -9223372036854775808 ≤ zs j ∧ zs j ≤ 9223372036854775807) (hl : len ≤ 1099511627776) (w : World) (h : Ks .i64 w sv len zs) :
  Calls Try.prog 51 #[sv] w fun e w' => ∃ sv, e = .returned sv ∧ Gr w w' ∧ w'.ownsRow w.heap.size 5 1 sv (forms formS zs len).length (u8s (forms formS zs len)) := by
 rcases h with ⟨rfl, x, c, rfl⟩ | ⟨_, b, off, c, rfl, hc⟩
 ·exact (rputs_zero x c w).mono fun e w' h => ⟨_, h.1, h.2, World.ownsRow_nil _ _ _ _⟩
 ·exact rputs_some b off c len zs hz hl w hc
end
end Go.Proofs.Ytebkabidojipoaa
