/-
  Forms that are made longer by bytes that say nothing. Of no program.
-/
import Derived.Test.YthdklnkaeddogaaLebCutM
import Derived.Test.YthdklnkaeddogaaSep
namespace Go.Proofs.Ythdklnkaeddogaa
open Go.RowKit LebM
def valL : List Int → Int
  | [] => 0
  | c :: t => c % 128 + 128 * valL t
def Good : List Int → Prop
  | [] => False
  | [c] => 0 ≤ c ∧ c < 128
  | c :: d :: t => (128 ≤ c ∧ c < 256) ∧ Good (d :: t)
def pad : List Int → List Int
  | [] => []
  | [c] => [c + 128, 0]
  | c :: d :: t => c :: pad (d :: t)
theorem pad_val : ∀ l, valL (pad l) = valL l
  | [] => rfl
  | [c] => by simp only [pad, valL]; omega
  | c :: d :: t => by
    have := pad_val (d :: t)
    simp only [pad, valL] at this ⊢
    omega
theorem pad_len : ∀ l, l ≠ [] → (pad l).length = l.length + 1
  | [], h => absurd rfl h
  | [c], _ => rfl
  | c :: d :: t, _ => by
    have := pad_len (d :: t) (by simp)
    simp only [pad, List.length_cons] at this ⊢
    omega
theorem pad_good : ∀ l, Good l → Good (pad l)
  | [], h => h
  | [c], h => by
    simp only [Good] at h
    simp only [pad, Good]
    omega
  | c :: d :: t, h => by
    have := pad_good (d :: t) h.2
    cases t with
    | nil => simp only [pad, Good] at this ⊢; exact ⟨h.1, this⟩
    | cons e t => simp only [pad, Good] at this ⊢; exact ⟨h.1, this⟩
theorem pad_eq : ∀ l, l ≠ [] → pad l = l.set (l.length - 1) (l.getD (l.length - 1) 0 + 128) ++ [0]
  | [], h => absurd rfl h
  | [c], _ => rfl
  | c :: d :: t, _ => by
    have := pad_eq (d :: t) (by simp)
    simp only [pad, List.length_cons, Nat.add_sub_cancel] at this ⊢
    rw [this]
    simp
theorem good_last : ∀ l, Good l → 0 ≤ l.getD (l.length - 1) 0 ∧ l.getD (l.length - 1) 0 < 128
  | [], h => by cases h
  | [c], h => by simpa [Good] using h
  | c :: d :: t, h => by
    have := good_last (d :: t) h.2
    simpa using this
theorem good_byte : ∀ l, Good l → ∀ x ∈ l, 0 ≤ x ∧ x < 256
  | [], h, _, _ => by cases h
  | [c], h, x, hx => by
    simp only [List.mem_singleton] at hx
    simp only [Good] at h
    omega
  | c :: d :: t, h, x, hx => by
    rcases List.mem_cons.1 hx with h1 | h1
    · have := h.1; omega
    · exact good_byte (d :: t) h.2 x h1
theorem lebU_good : ∀ m n, 0 ≤ n → n < 128 ^ (m + 1) → Good (lebU m n)
  | 0, n, h0, h1 => by
    simp only [lebU, Good]; omega
  | m + 1, n, h0, h1 => by
    by_cases h : n ≤ 127
    · rw [lebU_end ⟨h0, h⟩]; simp only [Good]; omega
    · rw [lebU_go (by omega)]
      have hih := lebU_good m (n / 128) (by omega) (by rw [Int.pow_succ] at h1; omega)
      have hp := lebU_pos m (n / 128)
      cases hq : lebU m (n / 128) with
      | nil => rw [hq] at hp; simp at hp
      | cons d t => rw [hq] at hih; exact ⟨by omega, hih⟩
theorem lebU_val : ∀ m n, 0 ≤ n → n < 128 ^ (m + 1) → valL (lebU m n) = n
  | 0, n, h0, h1 => by
    have e : (128 : Int) ^ (0 + 1) = 128 := rfl
    simp only [lebU, valL]; omega
  | m + 1, n, h0, h1 => by
    by_cases h : n ≤ 127
    · rw [lebU_end ⟨h0, h⟩]; simp only [valL]; omega
    · rw [lebU_go (by omega), valL, lebU_val m (n / 128) (by omega) (by rw [Int.pow_succ] at h1; omega)]
      omega
theorem valL_nonneg : ∀ l, 0 ≤ valL l
  | [] => by simp [valL]
  | c :: t => by have := valL_nonneg t; simp only [valL]; omega
theorem rd_good (f : Nat → Int) (len : Nat) : ∀ (T : List Int) (r k : Nat) (x : Int), Good T → (∀ j, j < T.length → f (k + j) = T.getD j 0) → k + T.length = len → len ≤ 5 → T.length ≤ r → 0 ≤ x → x + 128 ^ k * valL T < 4294967296 →
    ∃ wd, rd false f len 32 0 r k x = (x + 128 ^ k * valL T, wd, (len : Int), 0)
  | [], _, _, _, h, _, _, _, _, _, _ => by cases h
  | [c], r, k, x, hg, hf, hk, h5, hr, hx, hv => by
    obtain ⟨r', rfl⟩ : ∃ r', r = r' + 1 := ⟨r - 1, by simp at hr; omega⟩
    simp only [Good] at hg
    have hc : f (0 + k) = c := by rw [Nat.zero_add]; have := hf 0 (by simp); simpa using this
    have hlo : lowI (f (0 + k)) = c := by rw [hc]; unfold lowI; omega
    simp only [valL, Int.mul_zero, Int.add_zero] at hv ⊢
    have e1 : c % 128 = c := by omega
    rw [e1] at hv ⊢
    have hp := p128pos k
    have h0 := Int.mul_nonneg (Int.le_of_lt hp) hg.1
    rw [Int.mul_comm] at hv h0
    rw [Int.mul_comm (128 ^ k)]
    simp only [List.length_singleton] at hk
    have hfit : fitB false (lowI (f (0 + k))) (32 - 7 * (k : Int)) = true := by
      rw [hlo]
      refine fitU_of ?_
      by_cases h4 : k = 4
      · subst h4
        right
        have e : (128 : Int) ^ 4 = 268435456 := rfl
        rw [e] at hv
        show c < 16
        omega
      · left; omega
    exact ⟨_, by rw [rd_end (by omega) hfit (by omega), hlo, mod64 h0 (by omega)]; exact tup4 rfl rfl (by omega)⟩
  | c :: d :: t, r, k, x, hg, hf, hk, h5, hr, hx, hv => by
    obtain ⟨r', rfl⟩ : ∃ r', r = r' + 1 := ⟨r - 1, by simp at hr; omega⟩
    have hc : f (0 + k) = c := by rw [Nat.zero_add]; have := hf 0 (by simp); simpa using this
    have hlo : lowI (f (0 + k)) = c % 128 := by rw [hc]; rfl
    have hg1 := hg.1
    have hp := p128pos k
    have h0 : 0 ≤ c % 128 * 128 ^ k := Int.mul_nonneg (by omega) (Int.le_of_lt hp)
    have hvn := valL_nonneg (d :: t)
    have e0 : valL (c :: d :: t) = c % 128 + 128 * valL (d :: t) := rfl
    have e1 : 128 ^ k * valL (c :: d :: t) = c % 128 * 128 ^ k + 128 ^ (k + 1) * valL (d :: t) := by
      rw [e0, Int.mul_add, Int.pow_succ, Int.mul_comm (128 ^ k) (c % 128), Int.mul_assoc]
    have h1 : 0 ≤ 128 ^ (k + 1) * valL (d :: t) := Int.mul_nonneg (Int.le_of_lt (p128pos (k + 1))) hvn
    rw [e1] at hv ⊢
    simp only [List.length_cons] at hk hr hf
    obtain ⟨wd, hih⟩ := rd_good f len (d :: t) r' (k + 1) (x + c % 128 * 128 ^ k) hg.2 (fun j hj => by
      have := hf (j + 1) (by simpa using hj)
      rw [show k + (j + 1) = k + 1 + j by omega] at this
      simpa using this) (by simp only [List.length_cons]; omega) h5 (by simp only [List.length_cons]; omega) (by omega) (by omega)
    refine ⟨wd, ?_⟩
    rw [rd_more (by omega) (fitB_big false (by omega)) (by omega) (by omega), hlo, mod64 h0 (by omega), hih]
    exact tup4 (by omega) rfl rfl
theorem good_high : ∀ l, Good l → ∀ j, j + 1 < l.length → 128 ≤ l.getD j 0
  | [], h, _, _ => by cases h
  | [c], _, j, h => by simp at h
  | c :: d :: t, hg, j, h => by
    cases j with
    | zero => exact hg.1.1
    | succ j =>
      have := good_high (d :: t) hg.2 j (by simpa using h)
      simpa using this
theorem rd_long (f : Nat → Int) (len : Nat) (hl : 5 < len) (h : ∀ j, j < 5 → 128 ≤ f j) : ∀ (d r k : Nat) (x : Int), k + d = 4 → d < r → rd false f len 32 0 r k x = (0, 0, 0, 6)
  | 0, r, k, x, hk, hr => by
    obtain ⟨r', rfl⟩ : ∃ r', r = r' + 1 := ⟨r - 1, by omega⟩
    exact rd_bad (by omega) (.inr ⟨by omega, by rw [Nat.zero_add]; exact h k (by omega)⟩)
  | d + 1, r, k, x, hk, hr => by
    obtain ⟨r', rfl⟩ : ∃ r', r = r' + 1 := ⟨r - 1, by omega⟩
    rw [rd_more (by omega) (fitB_big false (by omega)) (by omega) (by rw [Nat.zero_add]; exact h k (by omega))]
    exact rd_long f len hl h d r' (k + 1) _ (by omega) (by omega)
theorem read_good {T : List Int} (hg : Good T) (hv : valL T < 4294967296) (h5 : T.length ≤ 5) : ∃ wd, LebM.read false (lst T) T.length 0 32 = (valL T, wd, (T.length : Int), 0) := by
  unfold LebM.read
  rw [if_neg (by omega)]
  obtain ⟨wd, h⟩ := rd_good (lst T) T.length T 10 0 0 hg (fun j hj => by rw [Nat.zero_add]; rfl) (by omega) h5 (by omega) (by decide) (by rw [Int.pow_zero, Int.one_mul, Int.zero_add]; exact hv)
  rw [Int.pow_zero, Int.one_mul, Int.zero_add] at h
  exact ⟨wd, h⟩
theorem read_long {T : List Int} (hg : Good T) (h5 : 5 < T.length) : LebM.read false (lst T) T.length 0 32 = (0, 0, 0, 6) := by
  unfold LebM.read
  rw [if_neg (by omega)]
  exact rd_long (lst T) T.length h5 (fun j hj => good_high T hg j (by omega)) 4 10 0 0 (by omega) (by omega)
end Go.Proofs.Ythdklnkaeddogaa
