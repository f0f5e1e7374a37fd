/-
  Texts of this seat, joined: LebAwake, LebForm, LebBack, LebCutM, LebSgnM. Each says what it proves.
-/
import Derived.Test.YtebkabidojipoaaMk4
import Derived.Laws.BytesArg
import Derived.OwnWalk
/- LebAwake -/
namespace Go.Proofs.Ytebkabidojipoaa
open Go.RowKit LebM
def lst (l : List Int) (j : Nat) : Int := l.getD j 0
theorem ks_lit (k : IntKind) (w : World) (l : List Int) (t : TypeId) (hl : l.length ≤ 9223372036854775807) (c : Nat) : Ks k (w.alloc (.cells (l.map (Value.int k)).toArray t)) (.slice (some ⟨w.heap.size, 0, none⟩) l.length c) l.length (lst l) :=
 .inr ⟨hl, _, 0, c, rfl, fun j hj => by
  rw [Nat.zero_add]
  refine (cell_of_row _ _ j _ _ _ (heap_alloc_new w _)).trans ?_
  unfold lst
  simp [List.getD_eq_getElem?_getD, hj]⟩
theorem u8s_lit (w : World) (l : List Int) (t : TypeId) (hl : l.length ≤ 9223372036854775807) (c : Nat) : U8s (w.alloc (.cells (u8s l).toArray t)) (.slice (some ⟨w.heap.size, 0, none⟩) l.length c) l.length (lst l) := ks_lit .u8 w l t hl c
theorem lst_by {l : List Int} (h : ∀ x ∈ l, 0 ≤ x ∧ x < 256) : By (lst l) := fun j => by
 unfold lst
 rw [List.getD_eq_getElem?_getD]
 by_cases hj : j < l.length
 ·rw [List.getElem?_eq_getElem hj]; exact h _ (List.getElem_mem hj)
 ·rw [List.getElem?_eq_none (by omega)]; exact ⟨by decide, by decide⟩
theorem lst_bd {l : List Int} {a b : Int} (h0 : a ≤ 0 ∧ 0 ≤ b) (h : ∀ x ∈ l, a ≤ x ∧ x ≤ b) : ∀ j, a ≤ lst l j ∧ lst l j ≤ b := fun j => by
 unfold lst
 rw [List.getD_eq_getElem?_getD]
 by_cases hj : j < l.length
 ·rw [List.getElem?_eq_getElem hj]; exact h _ (List.getElem_mem hj)
 ·rw [List.getElem?_eq_none (by omega)]; exact h0
theorem u8s_of_owns {w : World} {base : Nat} {e : TypeId} {v : Value} {l : List Int} (h : w.ownsRow base e 1 v l.length (u8s l)) : U8s w v l.length (lst l) := by
 rcases h.2 with ⟨h1, h2⟩ | ⟨g, cap, cur, rfl, hb, hh, hn, hcap, hsz, htk⟩
 ·exact .inl ⟨h2, _, _, h1⟩
 ·refine .inr ⟨by unfold maxLen at hcap; omega, g, 0, cap, rfl, fun j hj => ?_⟩
  rw [Nat.zero_add, cell_of_row _ _ j _ _ _ hh]
  have h3 : (u8s l)[j]? = some (.int .u8 (lst l j)) := by unfold u8s lst; simp [List.getD_eq_getElem?_getD, hj]
  rw [← htk, Nat.mul_one, List.getElem?_take, if_pos hj] at h3
  simpa using h3
def Str (w : World) (v : Value) (xs : List Int) : Prop := ∀ dst, Try.prog.underlying dst = some .string → (convert 22 dst v).run Try.prog w = .ok (.string (strOfNums xs)) w
theorem str_of_u8s {w : World} {v : Value} {l : List Int} (h : U8s w v l.length (lst l)) (h0 : v = .slice none 0 0 ∨ 0 < l.length) : Str w v l := by
 rcases h with ⟨hl, a, c, rfl⟩ | ⟨_, b, off, cap, rfl, hc⟩
 ·rcases h0 with h0 | h0
  ·obtain ⟨rfl, _, rfl⟩ := Value.slice.inj h0
   have : l = [] := List.eq_nil_of_length_eq_zero hl
   subst this
   exact run_convert_bytes_nil w 22 5 Try.underlying22 Try.underlying5 0 0
  ·omega
 ·exact run_convert_bytes_arg w 22 5 Try.underlying22 Try.underlying5 b off l.length cap l rfl hc
theorem str_of_owns {w : World} {base : Nat} {e : TypeId} {v : Value} {l : List Int} (h : w.ownsRow base e 1 v l.length (u8s l)) : Str w v l := by
 rcases h.2 with ⟨h1, h2⟩ | ⟨g, cap, cur, rfl, hb, hh, hn, hcap, hsz, htk⟩
 ·exact str_of_u8s (u8s_of_owns h) (.inl h1)
 ·by_cases h0 : 0 < l.length
  ·exact str_of_u8s (u8s_of_owns h) (.inr h0)
  ·have : l = [] := List.eq_nil_of_length_eq_zero (by omega)
   subst this
   exact run_convert_bytes_arg w 22 5 Try.underlying22 Try.underlying5 g 0 0 cap [] rfl (fun i hi => by omega)
theorem a1 : LebM.read false (lst [229, 142, 38]) 3 0 32 = (624485, 21, 3, 0) := by decide +kernel
theorem a2 : LebM.read true (lst [192, 187, 120]) 3 0 32 = (1973696, 21, 3, 0) := by decide +kernel
theorem a3 : forms formU (lst [624485, 0, 128]) 3 = [229, 142, 38, 0, 128, 1] := by decide +kernel
theorem a4 : forms formS (lst [-123456]) 1 = [192, 187, 120] := by decide +kernel
theorem s1 : strOfNums [229, 142, 38, 0, 128, 1] = { data := #[229, 142, 38, 0, 128, 1] } := by rfl
theorem s2 : strOfNums [192, 187, 120] = { data := #[192, 187, 120] } := by rfl
end Go.Proofs.Ytebkabidojipoaa
/- LebForm -/
namespace Go.Proofs.Ytebkabidojipoaa
open Go.RowKit LebM
theorem tup4 {a b c d a' b' c' : Int} (h1 : a = a') (h2 : b = b') (h3 : c = c') : (a, b, c, d) = (a', b', c', d) := by rw [h1, h2, h3]
theorem fitU_of {c left : Int} (h : 7 ≤ left ∨ c < 2 ^ left.toNat) : fitU c left = true := by
 unfold fitU
 rcases h with h | h <;> simp [h]
theorem fitU_no {c left : Int} (h1 : left < 7) (h2 : 2 ^ left.toNat ≤ c) : fitU c left = false := by
 unfold fitU
 rw [decide_eq_false (by omega), decide_eq_false (by omega)]; rfl
theorem p2 (a b : Nat) : (2 : Int) ^ (a + b) = 2 ^ a * 2 ^ b := Int.pow_add 2 a b
theorem p2pos (a : Nat) : (0 : Int) < 2 ^ a := Int.pow_pos (by decide)
theorem p2le {a b : Nat} (h : a ≤ b) : (2 : Int) ^ a ≤ 2 ^ b := by
 obtain ⟨c, rfl⟩ := Nat.exists_eq_add_of_le h
 rw [p2]
 have h1 := p2pos a
 have h2 := p2pos c
 have := Int.mul_le_mul_of_nonneg_left (show (1 : Int) ≤ 2 ^ c by omega) (Int.le_of_lt h1)
 omega
theorem p128pos (a : Nat) : (0 : Int) < 128 ^ a := Int.pow_pos (by decide)
theorem mod64 {t : Int} (h0 : 0 ≤ t) (h : t < 18446744073709551616) : t % 18446744073709551616 = t := Int.emod_eq_of_lt h0 h
theorem rd_form (f : Nat → Int) (len a B : Nat) : ∀ (m r k : Nat) (x n : Int), 0 ≤ n → n < 128 ^ (m + 1) → n * 128 ^ k < 18446744073709551616 → m + 1 ≤ r → 7 * k < B →
  (∀ j, j < (lebU m n).length → f (a + (k + j)) = (lebU m n).getD j 0) → a + (k + (lebU m n).length) ≤ len →
  rd false f len B a r k x = if n < 2 ^ (B - 7 * k) then (x + n * 128 ^ k, 7 * ((k + (lebU m n).length : Nat) : Int), ((a + (k + (lebU m n).length) : Nat) : Int), 0) else (0, 0, 0, 6) := by
 intro m
 induction m with
 | zero =>
  intro r k x n hn0 hn1 hn2 hr hk hf hlen
  obtain ⟨r', rfl⟩ : ∃ r', r = r' + 1 := ⟨r - 1, by omega⟩
  have hn127 : n ≤ 127 := by
   have : (128 : Int) ^ (0 + 1) = 128 := rfl
   omega
  rw [lebU_end ⟨hn0, hn127⟩] at *
  have hc : f (a + k) = n := by have := hf 0 (by simp); simpa using this
  have hlo : lowI (f (a + k)) = n := by rw [hc]; unfold lowI; omega
  have hl : (B : Int) - 7 * (k : Int) = ((B - 7 * k : Nat) : Int) := by omega
  simp only [List.length_singleton] at hlen ⊢
  have h1 := Int.mul_nonneg hn0 (Int.le_of_lt (p128pos k))
  by_cases hlt : n < 2 ^ (B - 7 * k)
  ·rw [if_pos hlt, rd_end (by omega) (by rw [hlo, hl]; exact fitU_of (.inr (by rw [Int.toNat_natCast]; exact hlt))) (by omega), hlo, mod64 h1 hn2]
   exact tup4 rfl (by push_cast; omega) (by push_cast; omega)
  ·have h7 : B - 7 * k < 7 := by
    apply Classical.byContradiction
    intro h
    have := p2le (show 7 ≤ B - 7 * k by omega)
    have e : (2 : Int) ^ 7 = 128 := rfl
    omega
   rw [if_neg hlt, rd_bad (by omega) (.inl (by rw [hlo, hl]; exact fitU_no (by omega) (by rw [Int.toNat_natCast]; omega)))]
 | succ m ih =>
  intro r k x n hn0 hn1 hn2 hr hk hf hlen
  obtain ⟨r', rfl⟩ : ∃ r', r = r' + 1 := ⟨r - 1, by omega⟩
  have hl : (B : Int) - 7 * (k : Int) = ((B - 7 * k : Nat) : Int) := by omega
  have h1 := Int.mul_nonneg hn0 (Int.le_of_lt (p128pos k))
  by_cases hn127 : n ≤ 127
  ·rw [lebU_end ⟨hn0, hn127⟩] at *
   have hc : f (a + k) = n := by have := hf 0 (by simp); simpa using this
   have hlo : lowI (f (a + k)) = n := by rw [hc]; unfold lowI; omega
   simp only [List.length_singleton] at hlen ⊢
   by_cases hlt : n < 2 ^ (B - 7 * k)
   ·rw [if_pos hlt, rd_end (by omega) (by rw [hlo, hl]; exact fitU_of (.inr (by rw [Int.toNat_natCast]; exact hlt))) (by omega), hlo, mod64 h1 hn2]
    exact tup4 rfl (by push_cast; omega) (by push_cast; omega)
   ·have h7 : B - 7 * k < 7 := by
     apply Classical.byContradiction
     intro h
     have := p2le (show 7 ≤ B - 7 * k by omega)
     have e : (2 : Int) ^ 7 = 128 := rfl
     omega
    rw [if_neg hlt, rd_bad (by omega) (.inl (by rw [hlo, hl]; exact fitU_no (by omega) (by rw [Int.toNat_natCast]; omega)))]
  ·rw [lebU_go (by omega)] at *
   have hc : f (a + k) = n % 128 + 128 := by have := hf 0 (by simp); simpa using this
   have hlo : lowI (f (a + k)) = n % 128 := by rw [hc]; unfold lowI; omega
   simp only [List.length_cons] at hlen hf ⊢
   by_cases h7 : B - 7 * k ≤ 7
   ·have hge : ¬ n < 2 ^ (B - 7 * k) := by
     have := p2le h7
     have e : (2 : Int) ^ 7 = 128 := rfl
     omega
    rw [if_neg hge, rd_bad (by omega) (.inr ⟨by omega, by omega⟩)]
   ·have h2 : n % 128 * 128 ^ k ≤ n * 128 ^ k := Int.mul_le_mul_of_nonneg_right (by omega) (Int.le_of_lt (p128pos k))
    have h3 : 0 ≤ n % 128 * 128 ^ k := Int.mul_nonneg (by omega) (Int.le_of_lt (p128pos k))
    have h4 : n / 128 * 128 ^ (k + 1) = (n - n % 128) * 128 ^ k := by
     rw [Int.pow_succ, Int.mul_comm (128 ^ k), ← Int.mul_assoc]
     congr 1; omega
    have h5 : (n - n % 128) * 128 ^ k = n * 128 ^ k - n % 128 * 128 ^ k := Int.sub_mul ..
    have hn3 : n / 128 < 128 ^ (m + 1) := by
     rw [Int.pow_succ] at hn1
     omega
    rw [rd_more (by omega) (by rw [hlo, hl]; exact fitU_of (.inl (by omega))) (by omega) (by omega), hlo, mod64 h3 (by omega),
     ih r' (k + 1) _ (n / 128) (by omega) hn3 (by rw [h4, h5]; omega) (by omega) (by omega) (fun j hj => by
      have := hf (j + 1) (by omega)
      rw [show k + (j + 1) = k + 1 + j by omega] at this
      simpa using this) (by omega)]
    have e1 : (2 : Int) ^ (B - 7 * k) = 2 ^ (B - 7 * (k + 1)) * 128 := by
     rw [show B - 7 * k = B - 7 * (k + 1) + 7 by omega, p2]; rfl
    have e2 : (n / 128 < 2 ^ (B - 7 * (k + 1))) ↔ (n < 2 ^ (B - 7 * k)) := by rw [e1]; omega
    by_cases hlt : n < 2 ^ (B - 7 * k)
    ·rw [if_pos (e2.2 hlt), if_pos hlt, h4, h5]
     exact tup4 (by omega) (by push_cast; omega) (by push_cast; omega)
    ·rw [if_neg (fun h => hlt (e2.1 h)), if_neg hlt]
theorem formU_lt {n : Int} (h : n < 18446744073709551616) : n < 128 ^ (9 + 1) := by
 have : (128 : Int) ^ (9 + 1) = 1180591620717411303424 := rfl
 omega
theorem read_form {f : Nat → Int} {len a B : Nat} (hB1 : 1 ≤ B) (hB : B ≤ 64) {n : Int} (hn : 0 ≤ n ∧ n < 18446744073709551616) (hf : ∀ j, j < (formU n).length → f (a + j) = (formU n).getD j 0) (hlen : a + (formU n).length ≤ len) :
  LebM.read false f len a B = if n < 2 ^ B then (n, 7 * ((formU n).length : Int), ((a + (formU n).length : Nat) : Int), 0) else (0, 0, 0, 6) := by
 unfold LebM.read
 rw [if_neg (by omega), Int.toNat_natCast]
 have := rd_form f len a B 9 10 0 0 n hn.1 (formU_lt hn.2) (by simpa using hn.2) (by decide) (by omega) (fun j hj => by rw [Nat.zero_add]; exact hf j hj) (by rw [Nat.zero_add]; exact hlen)
 rw [this]
 simp only [Nat.zero_add, Int.zero_add, Nat.mul_zero, Nat.sub_zero, Int.pow_zero, Int.mul_one]
 rfl
end Go.Proofs.Ytebkabidojipoaa
/- LebBack -/
namespace Go.Proofs.Ytebkabidojipoaa
open Go.RowKit LebM
theorem own_slice {w : World} {base : Nat} {e : TypeId} {size : Nat} {v : Value} {n : Nat} {xs : List Value} (h : w.ownsRow base e size v n xs) : ∃ a c, v = .slice a n c := by
 rcases h.2 with ⟨rfl, rfl⟩ | ⟨g, cap, cur, rfl, _⟩
 ·exact ⟨_, _, rfl⟩
 ·exact ⟨_, _, rfl⟩
theorem u8s_one (l : List Int) : ∀ u ∈ u8s l, u.oneCell' = true := fun u hu => by
 unfold u8s at hu
 obtain ⟨x, _, rfl⟩ := List.mem_map.1 hu
 rfl
end Go.Proofs.Ytebkabidojipoaa
/- LebCutM -/
namespace Go.Proofs.Ytebkabidojipoaa
open Go.RowKit LebM
theorem fitB_big (s : Bool) {c left : Int} (h : 7 < left) : fitB s c left = true := by
 unfold fitB fitS fitU
 cases s <;> simp <;> omega
theorem lebS_byte : ∀ m n, ∀ x ∈ lebS m n, 0 ≤ x ∧ x < 256
 | 0, n, x, hx => by
  simp only [lebS, List.mem_singleton] at hx
  omega
 | m + 1, n, x, hx => by
  unfold lebS at hx
  split at hx
  ·simp only [List.mem_singleton] at hx
   omega
  ·rcases List.mem_cons.1 hx with h1 | h1
   ·omega
   ·exact lebS_byte m (n / 128) x h1
theorem lebS_pos : ∀ m n, 0 < (lebS m n).length
 | 0, _ => by simp [lebS]
 | m + 1, n => by unfold lebS; split <;> simp
theorem puts1 (n : Int) (hn : -9223372036854775808 ≤ n ∧ n ≤ 9223372036854775807) (w : World) : Calls Try.prog 47 #[.slice (some ⟨w.heap.size, 0, none⟩) 1 1] (w.alloc (.cells #[.int .i64 n] 2)) fun e w' => ∃ sv, e = .returned sv ∧ Gr w w' ∧ w'.ownsRow w.heap.size 5 1 sv (formS n).length (u8s (formS n)) := by
 have h := puts_any (.slice (some ⟨w.heap.size, 0, none⟩) 1 1) 1 (lst [n]) (lst_bd (l := [n]) (by decide) (fun x hx => by simp at hx; omega)) (by decide) _ (ks_lit .i64 w [n] 2 (by simp) 1)
 rw [show forms formS (lst [n]) 1 = formS n from rfl] at h
 exact h.mono fun e w' ⟨sv, h1, h2, h3⟩ => ⟨sv, h1, gr_trans ((Gr.refl w).allocO _) h2, h3.1, by
  rcases h3.2 with h | ⟨g, cap, cur, e1, e2, e3⟩
  ·exact .inl h
  ·exact .inr ⟨g, cap, cur, e1, by simp at e2; omega, e3⟩⟩
theorem own_some {w : World} {base : Nat} {e : TypeId} {size : Nat} {v : Value} {n : Nat} {xs : List Value} (h : w.ownsRow base e size v n xs) (hn : 0 < n) : ∃ g c, v = .slice (some ⟨g, 0, none⟩) n c ∧ n ≤ c ∧ base ≤ g ∧ g < w.heap.size := by
 rcases h.2 with ⟨_, rfl⟩ | ⟨g, cap, cur, rfl, hb, hg, hnc, _⟩
 ·omega
 ·exact ⟨g, cap, rfl, hnc, hb, (Array.getElem?_eq_some_iff.1 hg).1⟩
end Go.Proofs.Ytebkabidojipoaa
/- LebSgnM -/
namespace Go.Proofs.Ytebkabidojipoaa
open Go.RowKit LebM
theorem fitS_last {n left : Int} {q : Nat} (hn : -64 ≤ n ∧ n < 64) (hq : left = (q : Int) + 1) : fitS (n % 128) left = decide (-(2 ^ q) ≤ n ∧ n < 2 ^ q) := by
 have e : (left - 1).toNat = q := by omega
 unfold fitS
 rw [e]
 by_cases h7 : 7 < left
 ·have h1 := p2le (show 7 ≤ q by omega)
  have e7 : (2 : Int) ^ 7 = 128 := rfl
  rw [decide_eq_true h7, Bool.true_or, Bool.true_or, decide_eq_true (by omega)]
 ·have hq6 : q = 0 ∨ q = 1 ∨ q = 2 ∨ q = 3 ∨ q = 4 ∨ q = 5 ∨ q = 6 := by omega
  rw [Bool.eq_iff_iff]
  simp only [Bool.or_eq_true, decide_eq_true_eq]
  rcases hq6 with rfl | rfl | rfl | rfl | rfl | rfl | rfl
  all_goals
   simp only [show (2 : Int) ^ 0 = 1 from rfl, show (2 : Int) ^ 1 = 2 from rfl, show (2 : Int) ^ 2 = 4 from rfl, show (2 : Int) ^ 3 = 8 from rfl, show (2 : Int) ^ 4 = 16 from rfl, show (2 : Int) ^ 5 = 32 from rfl, show (2 : Int) ^ 6 = 64 from rfl]
   omega
theorem p7 (k : Nat) : (2 : Int) ^ (7 * k + 7) = 128 * 128 ^ k := by rw [p2, pow7, Int.mul_comm]; rfl
theorem p6 (k : Nat) : (2 : Int) ^ (7 * k + 6) = 64 * 128 ^ k := by rw [p2, pow7, Int.mul_comm]; rfl
theorem sval_last {n x : Int} {k : Nat} (hn : -64 ≤ n ∧ n < 64) (hx : 0 ≤ x ∧ x < 128 ^ k) (hk : k ≤ 9) (h1 : -9223372036854775808 ≤ n * 128 ^ k) (h2 : (n + 1) * 128 ^ k ≤ 9223372036854775808) :
  sval (x + n % 128 * 128 ^ k % 18446744073709551616) (7 * (k : Int) + 7) = x + n * 128 ^ k := by
 have hp := p128pos k
 have hadd : (n + 1) * 128 ^ k = n * 128 ^ k + 128 ^ k := by rw [Int.add_mul, Int.one_mul]
 unfold sval
 rw [show (7 * (k : Int) + 7 - 1).toNat = 7 * k + 6 by omega, show (7 * (k : Int) + 7).toNat = 7 * k + 7 by omega, p6, p7]
 by_cases h9 : k = 9
 ·subst h9
  have e : (128 : Int) ^ 9 = 9223372036854775808 := rfl
  rw [if_neg (by omega)]
  rw [e] at *
  have : n = -1 ∨ n = 0 := by omega
  rcases this with rfl | rfl
  ·rw [if_neg (by omega)]; omega
  ·rw [if_pos (by omega)]; omega
 ·have hp8 : (128 : Int) ^ k ≤ 72057594037927936 := by
   have := p2le (show 7 * k ≤ 56 by omega)
   rw [pow7] at this
   exact this
  by_cases hneg : n < 0
  ·have e1 : n % 128 = n + 128 := by omega
   have e2 : (n + 128) * 128 ^ k = n * 128 ^ k + 128 * 128 ^ k := by rw [Int.add_mul]
   have e3 : -64 * 128 ^ k ≤ n * 128 ^ k := Int.mul_le_mul_of_nonneg_right (by omega) (Int.le_of_lt hp)
   have e4 : n * 128 ^ k ≤ -1 * 128 ^ k := Int.mul_le_mul_of_nonneg_right (by omega) (Int.le_of_lt hp)
   rw [e1, e2, mod64 (by omega) (by omega), if_pos ⟨by omega, by omega, by omega⟩]
   omega
  ·have e1 : n % 128 = n := by omega
   have e3 : 0 ≤ n * 128 ^ k := Int.mul_nonneg (by omega) (Int.le_of_lt hp)
   have e4 : n * 128 ^ k ≤ 63 * 128 ^ k := Int.mul_le_mul_of_nonneg_right (by omega) (Int.le_of_lt hp)
   rw [e1, mod64 e3 (by omega), if_neg (by omega), if_pos (by omega)]
def SRes (B : Nat) (n x : Int) (k e : Nat) (r : Int × Int × Int × Int) : Prop :=
 (-(2 ^ (B - 7 * k - 1)) ≤ n ∧ n < 2 ^ (B - 7 * k - 1) ∧ sval r.1 r.2.1 = x + n * 128 ^ k ∧ r.2.2.1 = (e : Int) ∧ r.2.2.2 = 0) ∨ (¬ (-(2 ^ (B - 7 * k - 1)) ≤ n ∧ n < 2 ^ (B - 7 * k - 1)) ∧ r = (0, 0, 0, 6))
theorem rds_last {f : Nat → Int} {len a B r k : Nat} {x n : Int} (hn : -64 ≤ n ∧ n < 64) (hx : 0 ≤ x ∧ x < 128 ^ k) (hk9 : k ≤ 9) (h1 : -9223372036854775808 ≤ n * 128 ^ k) (h2 : (n + 1) * 128 ^ k ≤ 9223372036854775808) (hk : 7 * k < B) (hc : f (a + k) = n % 128) (hlen : a + k < len) :
  SRes B n x k (a + k + 1) (rd true f len B a (r + 1) k x) := by
 have hl : (B : Int) - 7 * (k : Int) = ((B - 7 * k - 1 : Nat) : Int) + 1 := by omega
 have hlo : lowI (f (a + k)) = n % 128 := by rw [hc]; unfold lowI; omega
 have hfit := fitS_last (left := (B : Int) - 7 * (k : Int)) hn hl
 by_cases hin : -(2 ^ (B - 7 * k - 1)) ≤ n ∧ n < 2 ^ (B - 7 * k - 1)
 ·left
  refine ⟨hin.1, hin.2, ?_⟩
  rw [rd_end (by omega) (by rw [hlo]; show fitS _ _ = true; rw [hfit]; exact decide_eq_true hin) (by omega), hlo]
  exact ⟨sval_last hn hx hk9 h1 h2, by push_cast; rfl, rfl⟩
 ·right
  refine ⟨hin, rd_bad (by omega) (.inl ?_)⟩
  rw [hlo]; show fitS _ _ = false; rw [hfit]; exact decide_eq_false hin
theorem rds_form (f : Nat → Int) (len a B : Nat) (hB : B ≤ 64) : ∀ (m r k : Nat) (x n : Int), -(64 * 128 ^ m) ≤ n → n < 64 * 128 ^ m → -9223372036854775808 ≤ n * 128 ^ k → (n + 1) * 128 ^ k ≤ 9223372036854775808 → 0 ≤ x → x < 128 ^ k → m + 1 ≤ r → 7 * k < B →
  (∀ j, j < (lebS m n).length → f (a + (k + j)) = (lebS m n).getD j 0) → a + (k + (lebS m n).length) ≤ len → SRes B n x k (a + (k + (lebS m n).length)) (rd true f len B a r k x) := by
 intro m
 induction m with
 | zero =>
  intro r k x n hn0 hn1 h1 h2 hx0 hx1 hr hk hf hlen
  obtain ⟨r', rfl⟩ : ∃ r', r = r' + 1 := ⟨r - 1, by omega⟩
  have e : (128 : Int) ^ 0 = 1 := rfl
  rw [e] at hn0 hn1
  rw [lebS_end (by omega)] at *
  have := rds_last (f := f) (len := len) (a := a) (B := B) (r := r') (k := k) (x := x) (n := n) (by omega) ⟨hx0, hx1⟩ (by omega) h1 h2 hk (by have := hf 0 (by simp); simpa using this) (by simp only [List.length_singleton] at hlen; omega)
  exact this
 | succ m ih =>
  intro r k x n hn0 hn1 h1 h2 hx0 hx1 hr hk hf hlen
  obtain ⟨r', rfl⟩ : ∃ r', r = r' + 1 := ⟨r - 1, by omega⟩
  by_cases hin : -64 ≤ n ∧ n < 64
  ·rw [lebS_end hin] at *
   have := rds_last (f := f) (len := len) (a := a) (B := B) (r := r') (k := k) (x := x) (n := n) hin ⟨hx0, hx1⟩ (by omega) h1 h2 hk (by have := hf 0 (by simp); simpa using this) (by simp only [List.length_singleton] at hlen; omega)
   exact this
  ·rw [lebS_go hin] at *
   have hc : f (a + k) = n % 128 + 128 := by have := hf 0 (by simp); simpa using this
   have hlo : lowI (f (a + k)) = n % 128 := by rw [hc]; unfold lowI; omega
   simp only [List.length_cons] at hlen hf ⊢
   have hp := p128pos k
   by_cases h7 : B - 7 * k ≤ 7
   ·right
    have := p2le (show B - 7 * k - 1 ≤ 6 by omega)
    have e6 : (2 : Int) ^ 6 = 64 := rfl
    exact ⟨by omega, rd_bad (by omega) (.inr ⟨by omega, by omega⟩)⟩
   ·have hk8 : k ≤ 8 := by omega
    have hp8 : (128 : Int) ^ k ≤ 72057594037927936 := by
     have := p2le (show 7 * k ≤ 56 by omega)
     rw [pow7] at this
     exact this
    have e3 : 0 ≤ n % 128 * 128 ^ k := Int.mul_nonneg (by omega) (Int.le_of_lt hp)
    have e4 : n % 128 * 128 ^ k ≤ 127 * 128 ^ k := Int.mul_le_mul_of_nonneg_right (by omega) (Int.le_of_lt hp)
    have e5 : (128 : Int) ^ (k + 1) = 128 * 128 ^ k := by rw [Int.pow_succ, Int.mul_comm]
    have e6 : n / 128 * 128 ^ (k + 1) = n * 128 ^ k - n % 128 * 128 ^ k := by
     rw [e5, ← Int.mul_assoc, ← Int.sub_mul]; congr 1; omega
    have e7 : (n / 128 + 1) * 128 ^ (k + 1) = n / 128 * 128 ^ (k + 1) + 128 ^ (k + 1) := by rw [Int.add_mul, Int.one_mul]
    have e8 : (n + 1) * 128 ^ k = n * 128 ^ k + 128 ^ k := by rw [Int.add_mul, Int.one_mul]
    have e9 : (128 : Int) ^ (m + 1) = 128 * 128 ^ m := by rw [Int.pow_succ, Int.mul_comm]
    have hhi : (n / 128 + 1) * 128 ^ (k + 1) ≤ 9223372036854775808 := by
     -- the next multiple of 128^(k+1) above n's is at most 2^63, because 2^63 is one
     have hd : (9223372036854775808 : Int) = 2 ^ (63 - 7 * (k + 1)) * 128 ^ (k + 1) := by
      rw [← pow7, ← p2, show 63 - 7 * (k + 1) + 7 * (k + 1) = 63 by omega]; rfl
     have hp1 := p128pos (k + 1)
     have hlt : n / 128 < 2 ^ (63 - 7 * (k + 1)) := by
      apply Classical.byContradiction
      intro hge
      have := Int.mul_le_mul_of_nonneg_right (show (2 : Int) ^ (63 - 7 * (k + 1)) ≤ n / 128 by omega) (Int.le_of_lt hp1)
      omega
     have := Int.mul_le_mul_of_nonneg_right (show n / 128 + 1 ≤ (2 : Int) ^ (63 - 7 * (k + 1)) by omega) (Int.le_of_lt hp1)
     omega
    have hlow : -9223372036854775808 ≤ n / 128 * 128 ^ (k + 1) := by
     have hd : (9223372036854775808 : Int) = 2 ^ (63 - 7 * (k + 1)) * 128 ^ (k + 1) := by
      rw [← pow7, ← p2, show 63 - 7 * (k + 1) + 7 * (k + 1) = 63 by omega]; rfl
     have hp1 := p128pos (k + 1)
     have hge : -(2 ^ (63 - 7 * (k + 1))) ≤ n / 128 := by
      apply Classical.byContradiction
      intro hlt
      have := Int.mul_le_mul_of_nonneg_right (show n / 128 + 1 ≤ -((2 : Int) ^ (63 - 7 * (k + 1))) by omega) (Int.le_of_lt hp1)
      rw [Int.neg_mul] at this
      omega
     have := Int.mul_le_mul_of_nonneg_right hge (Int.le_of_lt hp1)
     rw [Int.neg_mul] at this
     omega
    have hih := ih r' (k + 1) (x + n % 128 * 128 ^ k) (n / 128) (by omega) (by omega) hlow hhi (by omega) (by omega) (by omega) (by omega) (fun j hj => by
      have := hf (j + 1) (by omega)
      rw [show k + (j + 1) = k + 1 + j by omega] at this
      simpa using this) (by omega)
    rw [rd_more (by omega) (fitB_big true (by omega)) (by omega) (by omega), hlo, mod64 e3 (by omega)]
    have e10 : (2 : Int) ^ (B - 7 * k - 1) = 128 * 2 ^ (B - 7 * (k + 1) - 1) := by
     rw [show B - 7 * k - 1 = 7 + (B - 7 * (k + 1) - 1) by omega, p2]; rfl
    have e11 : (-(2 ^ (B - 7 * (k + 1) - 1)) ≤ n / 128 ∧ n / 128 < 2 ^ (B - 7 * (k + 1) - 1)) ↔ (-(2 ^ (B - 7 * k - 1)) ≤ n ∧ n < 2 ^ (B - 7 * k - 1)) := by rw [e10]; omega
    rcases hih with ⟨g1, g2, g3, g4, g5⟩ | ⟨g1, g2⟩
    ·obtain ⟨k1, k2⟩ := e11.1 ⟨g1, g2⟩
     exact .inl ⟨k1, k2, by rw [g3, e6]; omega, by rw [g4]; omega, g5⟩
    ·exact .inr ⟨fun h => g1 (e11.2 h), g2⟩
end Go.Proofs.Ytebkabidojipoaa
