/-
  Plain mathematics for NumDivides.
-/
import Derived.Test.YthdklnkaeddogacDoorAwake
namespace Go.Proofs.YthdklnkaeddogacDoor
open Go.RowKit
namespace NumM
structure Dv (N : Nat) extends View N where
  hN : N = 32 ∨ N = 64
  embN : ∀ P : BitVec N, emb P = (P.toNat : Int)
  eis : ∀ k x y, 0 ≤ k → k < 15 → eI (base + k) x y = trap k (dec x) (dec y)
  zis : ∀ k x y, 0 ≤ k → k < 15 → trap k (dec x) (dec y) ≠ 0 → bI (base + k) x y = 0
def dv32 : Dv 32 where
  toView := view32
  hN := Or.inl rfl
  embN P := by
    show ((P.setWidth 64).toNat : Int) = P.toNat
    rw [BitVec.toNat_setWidth]
    have := P.isLt
    omega
  eis k x y h0 h1 := by
    show binE (106 + k) _ _ = _
    unfold binE
    rw [if_neg (by omega), if_neg (by omega), if_pos (by omega), show 106 + k - 106 = k by omega]; rfl
  zis k x y h0 h1 ht := by
    have e : binE (106 + k) (BitVec.ofInt 64 x) (BitVec.ofInt 64 y) ≠ 0 := by
      unfold binE
      rw [if_neg (by omega), if_neg (by omega), if_pos (by omega), show 106 + k - 106 = k by omega]
      exact ht
    show bI (106 + k) x y = 0
    unfold bI bin
    rw [if_pos e]; rfl
def dv64 : Dv 64 where
  toView := view64
  hN := Or.inr rfl
  embN P := rfl
  eis k x y h0 h1 := by
    show binE (124 + k) _ _ = _
    unfold binE
    rw [if_neg (by omega), if_neg (by omega), if_neg (by omega), if_pos (by omega), show 124 + k - 124 = k by omega]; rfl
  zis k x y h0 h1 ht := by
    have e : binE (124 + k) (BitVec.ofInt 64 x) (BitVec.ofInt 64 y) ≠ 0 := by
      unfold binE
      rw [if_neg (by omega), if_neg (by omega), if_neg (by omega), if_pos (by omega), show 124 + k - 124 = k by omega]
      exact ht
    show bI (124 + k) x y = 0
    unfold bI bin
    rw [if_pos e]; rfl
section
variable {N : Nat} (V : Dv N) (x y : Int)
theorem tz (k : Int) (h3 : 3 ≤ k) (h6 : k ≤ 6) (hz : V.dec y = 0#N) : eI (V.base + k) x y = 21 ∧ bI (V.base + k) x y = 0 := by
  have e : trap k (V.dec x) (V.dec y) = 21 := by unfold trap; rw [if_pos ⟨h3, h6⟩, if_pos hz]
  exact ⟨by rw [V.eis k x y (by omega) (by omega), e], V.zis k x y (by omega) (by omega) (by rw [e]; decide)⟩
theorem tover (hz : V.dec y ≠ 0#N) (h1 : (V.dec x).toInt = -(2 ^ (N - 1))) (h2 : (V.dec y).toInt = -1) : eI (V.base + 3) x y = 22 ∧ bI (V.base + 3) x y = 0 := by
  have e : trap 3 (V.dec x) (V.dec y) = 22 := by unfold trap; rw [if_pos (by decide), if_neg hz, if_pos ⟨rfl, h1, h2⟩]
  exact ⟨by rw [V.eis 3 x y (by decide) (by decide), e], V.zis 3 x y (by decide) (by decide) (by rw [e]; decide)⟩
theorem tok (k : Int) (h3 : 3 ≤ k) (h6 : k ≤ 6) (hz : V.dec y ≠ 0#N) (h : ¬ (k = 3 ∧ (V.dec x).toInt = -(2 ^ (N - 1)) ∧ (V.dec y).toInt = -1)) :
    eI (V.base + k) x y = 0 ∧ bI (V.base + k) x y = V.emb (work k (V.dec x) (V.dec y)) := by
  have e : trap k (V.dec x) (V.dec y) = 0 := by unfold trap; rw [if_pos ⟨h3, h6⟩, if_neg hz, if_neg h]
  exact ⟨by rw [V.eis k x y (by omega) (by omega), e], V.is k x y (by omega) (by omega) e⟩
theorem pos_of (Y : BitVec N) (hz : Y ≠ 0#N) : 0 < Y.toNat := by
  rcases Nat.eq_zero_or_pos Y.toNat with h | h
  · exact absurd (BitVec.eq_of_toNat_eq (by rw [h]; simp)) hz
  · exact h
theorem u_lt (hz : V.dec y ≠ 0#N) : bI (V.base + 6) x y < V.emb (V.dec y) := by
  rw [(tok V x y 6 (by decide) (by decide) hz (by intro h; exact absurd h.1 (by decide))).2, V.embN, V.embN]
  show (((V.dec x) % (V.dec y)).toNat : Int) < _
  rw [BitVec.toNat_umod]
  have := Nat.mod_lt (V.dec x).toNat (pos_of _ hz)
  omega
theorem u_le (hz : V.dec y ≠ 0#N) : bI (V.base + 4) x y ≤ V.emb (V.dec x) := by
  rw [(tok V x y 4 (by decide) (by decide) hz (by intro h; exact absurd h.1 (by decide))).2, V.embN, V.embN]
  show (((V.dec x) / (V.dec y)).toNat : Int) ≤ _
  rw [BitVec.toNat_udiv]
  have := Nat.div_le_self (V.dec x).toNat (V.dec y).toNat
  omega
theorem u_back (X Y : BitVec N) : X / Y * Y + X % Y = X := by
  apply BitVec.eq_of_toNat_eq
  rw [BitVec.toNat_add, BitVec.toNat_mul, BitVec.toNat_udiv, BitVec.toNat_umod, Nat.mod_add_mod, Nat.mul_comm, Nat.div_add_mod, Nat.mod_eq_of_lt X.isLt]
theorem d_u (hz : V.dec y ≠ 0#N) : bI (V.base + 0) (bI (V.base + 2) (bI (V.base + 4) x y) (V.emb (V.dec y))) (bI (V.base + 6) x y) = V.emb (V.dec x) := by
  rw [(tok V x y 6 (by decide) (by decide) hz (by intro h; exact absurd h.1 (by decide))).2, (tok V x y 4 (by decide) (by decide) hz (by intro h; exact absurd h.1 (by decide))).2,
    v0 V.toView, v2 V.toView, V.back, V.back, V.back, V.back]
  show V.emb (V.dec x / V.dec y * V.dec y + V.dec x % V.dec y) = _
  rw [u_back]
theorem d_s (hz : V.dec y ≠ 0#N) (h : ¬ ((V.dec x).toInt = -(2 ^ (N - 1)) ∧ (V.dec y).toInt = -1)) :
    bI (V.base + 0) (bI (V.base + 2) (bI (V.base + 3) x y) (V.emb (V.dec y))) (bI (V.base + 5) x y) = V.emb (V.dec x) := by
  rw [(tok V x y 5 (by decide) (by decide) hz (by intro h; exact absurd h.1 (by decide))).2, (tok V x y 3 (by decide) (by decide) hz (by intro h'; exact h h'.2)).2,
    v0 V.toView, v2 V.toView, V.back, V.back, V.back, V.back]
  show V.emb (BitVec.ofInt N ((V.dec x).toInt.tdiv (V.dec y).toInt) * V.dec y + BitVec.ofInt N ((V.dec x).toInt.tmod (V.dec y).toInt)) = _
  congr 1
  have e : V.dec y = BitVec.ofInt N (V.dec y).toInt := BitVec.ofInt_toInt.symm
  rw [show BitVec.ofInt N ((V.dec x).toInt.tdiv (V.dec y).toInt) * V.dec y = BitVec.ofInt N ((V.dec x).toInt.tdiv (V.dec y).toInt * (V.dec y).toInt) by rw [BitVec.ofInt_mul, BitVec.ofInt_toInt],
    ← BitVec.ofInt_add, Int.mul_comm, Int.mul_tdiv_add_tmod, BitVec.ofInt_toInt]
theorem abs_tmod (s d : Int) (hd : d ≠ 0) : (0 < d → -d < s.tmod d ∧ s.tmod d < d) ∧ (d < 0 → d < s.tmod d ∧ s.tmod d < -d) := by
  have h := Int.tmod_lt_of_pos
  rcases Int.lt_or_gt_of_ne hd with h1 | h1
  · refine ⟨fun h => by omega, fun _ => ?_⟩
    rcases Int.le_total 0 s with hs | hs
    · rw [← Int.tmod_neg]
      have a := Int.tmod_lt_of_pos s (show 0 < -d by omega)
      have b := Int.tmod_nonneg (-d) hs
      omega
    · have a := Int.tmod_lt_of_pos (-s) (show 0 < -d by omega)
      have b := Int.tmod_nonneg (-d) (show 0 ≤ -s by omega)
      rw [Int.neg_tmod, Int.tmod_neg] at a b
      omega
  · refine ⟨fun _ => ?_, fun h => by omega⟩
    rcases Int.le_total 0 s with hs | hs
    · have a := Int.tmod_lt_of_pos s h1
      have b := Int.tmod_nonneg d hs
      omega
    · have a := Int.tmod_lt_of_pos (-s) h1
      have b := Int.tmod_nonneg d (show 0 ≤ -s by omega)
      rw [Int.neg_tmod] at a b
      omega
theorem sign_tmod (s d : Int) (h : s.tmod d ≠ 0) : (s.tmod d < 0) ↔ (s < 0) := by
  rcases Int.le_total 0 s with hs | hs
  · have b := Int.tmod_nonneg d hs
    omega
  · have b := Int.tmod_nonneg d (show 0 ≤ -s by omega)
    rw [Int.neg_tmod] at b
    have : s ≠ 0 := by rintro rfl; exact h (Int.zero_tmod d)
    omega
theorem toInt_ne0 (Y : BitVec N) (hz : Y ≠ 0#N) : Y.toInt ≠ 0 := by
  intro h0
  apply hz
  rw [← BitVec.ofInt_toInt (x := Y), h0]; simp
theorem toInt_rem (hN : N = 32 ∨ N = 64) (X Y : BitVec N) (hz : Y ≠ 0#N) : (BitVec.ofInt N (X.toInt.tmod Y.toInt)).toInt = X.toInt.tmod Y.toInt := by
  have h := abs_tmod X.toInt Y.toInt (toInt_ne0 Y hz)
  have h1 := Y.toInt_lt
  have h2 := Y.le_toInt
  have h3 := toInt_ne0 Y hz
  rw [BitVec.toInt_ofInt]
  rcases hN with rfl | rfl
  · simp only [Int.bmod] at *; omega
  · simp only [Int.bmod] at *; omega
end
/-! ### as the walk spells it -/
theorem and_low (x : Int) : bits .and .u64 x 4294967295 = dv32.emb (dv32.dec x) := by
  show IntKind.u64.wrap ((BitVec.ofInt 64 x &&& BitVec.ofInt 64 4294967295).toNat : Int) = ((((BitVec.ofInt 64 x).setWidth 32).setWidth 64).toNat : Int)
  rw [u64_wrap, ofInt_toNat]
  congr 2
  generalize BitVec.ofInt 64 x = X
  apply BitVec.eq_of_getLsbD_eq
  intro i hi
  rw [BitVec.getLsbD_and, show BitVec.ofInt 64 4294967295 = BitVec.ofNat 64 (2 ^ 32 - 1) from rfl, BitVec.getLsbD_ofNat, Nat.testBit_two_pow_sub_one, BitVec.getLsbD_setWidth, BitVec.getLsbD_setWidth]
  simp [hi, Bool.and_comm]
theorem s32 (x : Int) (hx : U64 x) : wrap64 (wrap32 x) = (dv32.dec x).toInt := by
  obtain ⟨X, rfl, hX⟩ := of_U64 hx
  show wrap64 (wrap32 (X.toNat : Int)) = (lo (BitVec.ofInt 64 (X.toNat : Int))).toInt
  rw [hX]; exact sS_lo X
theorem s64 (x : Int) (hx : U64 x) : wrap64 x = (dv64.dec x).toInt := by
  obtain ⟨X, rfl, hX⟩ := of_U64 hx
  show wrap64 (X.toNat : Int) = (BitVec.ofInt 64 (X.toNat : Int)).toInt
  rw [hX]; exact sL_toInt X
theorem id64 (x : Int) (hx : U64 x) : x = dv64.emb (dv64.dec x) := by
  obtain ⟨X, rfl, hX⟩ := of_U64 hx
  show (X.toNat : Int) = ((BitVec.ofInt 64 (X.toNat : Int)).toNat : Int)
  rw [hX]
theorem emb_zero {N : Nat} (V : Dv N) (Y : BitVec N) : V.emb Y = 0 ↔ Y = 0#N := by
  rw [V.embN]
  constructor
  · intro h; apply BitVec.eq_of_toNat_eq; simp; omega
  · rintro rfl; simp
/-- What the walk is told of a division that has a quotient. -/
def Facts (u v s d q r p m R least : Int) (add mul : Int) : Prop :=
  m < v ∧ p ≤ u ∧ bI add (bI mul p v) m = u ∧ bI add (bI mul q v) r = u ∧ (R ≠ 0 → (R < 0 ↔ s < 0)) ∧ (0 < d → -d < R ∧ R < d) ∧ (d < 0 → d < R ∧ R < -d) ∧ d ≠ 0 ∧ least ≤ d ∧ d < -least
theorem facts32 (x y : Int) (hx : U64 x) (hy : U64 y) (hz : bits .and .u64 y 4294967295 ≠ 0) (hno : ¬ (wrap64 (wrap32 x) = -2147483648 ∧ wrap64 (wrap32 y) = -1)) :
    eI 109 x y = 0 ∧ eI 110 x y = 0 ∧ eI 111 x y = 0 ∧ eI 112 x y = 0 ∧
    Facts (bits .and .u64 x 4294967295) (bits .and .u64 y 4294967295) (wrap64 (wrap32 x)) (wrap64 (wrap32 y)) (bI 109 x y) (bI 111 x y) (bI 110 x y) (bI 112 x y) (wrap64 (wrap32 (bI 111 x y))) (-2147483648) 106 108 := by
  have hR : wrap64 (wrap32 (bI 111 x y)) = (dv32.dec (bI 111 x y)).toInt := s32 _ (U64_bI _ _ _)
  rw [hR, s32 x hx, s32 y hy, and_low, and_low]
  rw [and_low, Ne, emb_zero] at hz
  rw [s32 x hx, s32 y hy] at hno
  have e3 : ¬ ((dv32.dec x).toInt = -(2 ^ (32 - 1)) ∧ (dv32.dec y).toInt = -1) := hno
  have k5 := tok dv32 x y 5 (by decide) (by decide) hz (by intro h; exact absurd h.1 (by decide))
  refine ⟨(tok dv32 x y 3 (by decide) (by decide) hz (fun h => e3 h.2)).1, (tok dv32 x y 4 (by decide) (by decide) hz (by intro h; exact absurd h.1 (by decide))).1, k5.1,
    (tok dv32 x y 6 (by decide) (by decide) hz (by intro h; exact absurd h.1 (by decide))).1, u_lt dv32 x y hz, u_le dv32 x y hz, d_u dv32 x y hz, d_s dv32 x y hz e3, ?_⟩
  rw [show bI 111 x y = dv32.emb (BitVec.ofInt 32 ((dv32.dec x).toInt.tmod (dv32.dec y).toInt)) from k5.2, dv32.back, toInt_rem (Or.inl rfl) _ _ hz]
  have h1 := (dv32.dec y).toInt_lt
  have h2 := (dv32.dec y).le_toInt
  have h3 := toInt_ne0 _ hz
  have h := abs_tmod (dv32.dec x).toInt (dv32.dec y).toInt h3
  exact ⟨sign_tmod _ _, h.1, h.2, h3, h2, h1⟩
theorem facts64 (x y : Int) (hx : U64 x) (hy : U64 y) (hz : y ≠ 0) (hno : ¬ (wrap64 x = -9223372036854775808 ∧ wrap64 y = -1)) :
    eI 127 x y = 0 ∧ eI 128 x y = 0 ∧ eI 129 x y = 0 ∧ eI 130 x y = 0 ∧
    Facts x y (wrap64 x) (wrap64 y) (bI 127 x y) (bI 129 x y) (bI 128 x y) (bI 130 x y) (wrap64 (bI 129 x y)) (-9223372036854775808) 124 126 := by
  have hR : wrap64 (bI 129 x y) = (dv64.dec (bI 129 x y)).toInt := s64 _ (U64_bI _ _ _)
  have hz' : dv64.dec y ≠ 0#64 := by rw [Ne, ← emb_zero dv64, ← id64 y hy]; exact hz
  rw [s64 x hx, s64 y hy] at hno
  have e3 : ¬ ((dv64.dec x).toInt = -(2 ^ (64 - 1)) ∧ (dv64.dec y).toInt = -1) := hno
  have k5 := tok dv64 x y 5 (by decide) (by decide) hz' (by intro h; exact absurd h.1 (by decide))
  have a1 := u_lt dv64 x y hz'
  have a2 := u_le dv64 x y hz'
  have a3 := d_u dv64 x y hz'
  have a4 := d_s dv64 x y hz' e3
  rw [← id64 y hy] at a1
  rw [← id64 x hx] at a2
  rw [← id64 y hy, ← id64 x hx] at a3 a4
  rw [hR, s64 x hx, s64 y hy]
  refine ⟨(tok dv64 x y 3 (by decide) (by decide) hz' (fun h => e3 h.2)).1, (tok dv64 x y 4 (by decide) (by decide) hz' (by intro h; exact absurd h.1 (by decide))).1, k5.1,
    (tok dv64 x y 6 (by decide) (by decide) hz' (by intro h; exact absurd h.1 (by decide))).1, a1, a2, a3, a4, ?_⟩
  rw [show bI 129 x y = dv64.emb (BitVec.ofInt 64 ((dv64.dec x).toInt.tmod (dv64.dec y).toInt)) from k5.2, dv64.back, toInt_rem (Or.inr rfl) _ _ hz']
  have h1 := (dv64.dec y).toInt_lt
  have h2 := (dv64.dec y).le_toInt
  have h3 := toInt_ne0 _ hz'
  have h := abs_tmod (dv64.dec x).toInt (dv64.dec y).toInt h3
  exact ⟨sign_tmod _ _, h.1, h.2, h3, h2, h1⟩
theorem zero32 (x y : Int) (hz : bits .and .u64 y 4294967295 = 0) :
    (eI 109 x y = 21 ∧ bI 109 x y = 0) ∧ (eI 110 x y = 21 ∧ bI 110 x y = 0) ∧ (eI 111 x y = 21 ∧ bI 111 x y = 0) ∧ (eI 112 x y = 21 ∧ bI 112 x y = 0) := by
  rw [and_low, emb_zero] at hz
  exact ⟨tz dv32 x y 3 (by decide) (by decide) hz, tz dv32 x y 4 (by decide) (by decide) hz, tz dv32 x y 5 (by decide) (by decide) hz, tz dv32 x y 6 (by decide) (by decide) hz⟩
theorem zero64 (x y : Int) (hy : U64 y) (hz : y = 0) :
    (eI 127 x y = 21 ∧ bI 127 x y = 0) ∧ (eI 128 x y = 21 ∧ bI 128 x y = 0) ∧ (eI 129 x y = 21 ∧ bI 129 x y = 0) ∧ (eI 130 x y = 21 ∧ bI 130 x y = 0) := by
  have hz' : dv64.dec y = 0#64 := by rw [← emb_zero dv64, ← id64 y hy]; exact hz
  exact ⟨tz dv64 x y 3 (by decide) (by decide) hz', tz dv64 x y 4 (by decide) (by decide) hz', tz dv64 x y 5 (by decide) (by decide) hz', tz dv64 x y 6 (by decide) (by decide) hz'⟩
theorem rem_m1 {N : Nat} (V : Dv N) : V.emb (BitVec.ofInt N ((-(2 ^ (N - 1)) : Int).tmod (-1))) = 0 := by
  rw [Int.tmod_neg, Int.tmod_one, emb_zero]; simp
theorem over32 (x y : Int) (hx : U64 x) (hy : U64 y) (hz : bits .and .u64 y 4294967295 ≠ 0) (h1 : wrap64 (wrap32 x) = -2147483648) (h2 : wrap64 (wrap32 y) = -1) :
    (eI 109 x y = 22 ∧ bI 109 x y = 0) ∧ eI 110 x y = 0 ∧ (eI 111 x y = 0 ∧ bI 111 x y = 0) ∧ eI 112 x y = 0 ∧
    bI 112 x y < bits .and .u64 y 4294967295 ∧ bI 110 x y ≤ bits .and .u64 x 4294967295 ∧ bI 106 (bI 108 (bI 110 x y) (bits .and .u64 y 4294967295)) (bI 112 x y) = bits .and .u64 x 4294967295 := by
  rw [and_low, Ne, emb_zero] at hz
  rw [s32 x hx] at h1
  rw [s32 y hy] at h2
  have k5 := tok dv32 x y 5 (by decide) (by decide) hz (by intro h; exact absurd h.1 (by decide))
  have e5 : bI 111 x y = 0 := by
    have := k5.2
    rw [show work 5 (dv32.dec x) (dv32.dec y) = BitVec.ofInt 32 ((dv32.dec x).toInt.tmod (dv32.dec y).toInt) from rfl, h1, h2] at this
    exact this.trans (rem_m1 dv32)
  rw [and_low, and_low]
  exact ⟨tover dv32 x y hz h1 h2, (tok dv32 x y 4 (by decide) (by decide) hz (by intro h; exact absurd h.1 (by decide))).1, ⟨k5.1, e5⟩,
    (tok dv32 x y 6 (by decide) (by decide) hz (by intro h; exact absurd h.1 (by decide))).1, u_lt dv32 x y hz, u_le dv32 x y hz, d_u dv32 x y hz⟩
theorem over64 (x y : Int) (hx : U64 x) (hy : U64 y) (hz : y ≠ 0) (h1 : wrap64 x = -9223372036854775808) (h2 : wrap64 y = -1) :
    (eI 127 x y = 22 ∧ bI 127 x y = 0) ∧ eI 128 x y = 0 ∧ (eI 129 x y = 0 ∧ bI 129 x y = 0) ∧ eI 130 x y = 0 ∧
    bI 130 x y < y ∧ bI 128 x y ≤ x ∧ bI 124 (bI 126 (bI 128 x y) y) (bI 130 x y) = x := by
  have hz' : dv64.dec y ≠ 0#64 := by rw [Ne, ← emb_zero dv64, ← id64 y hy]; exact hz
  rw [s64 x hx] at h1
  rw [s64 y hy] at h2
  have k5 := tok dv64 x y 5 (by decide) (by decide) hz' (by intro h; exact absurd h.1 (by decide))
  have e5 : bI 129 x y = 0 := by
    have := k5.2
    rw [show work 5 (dv64.dec x) (dv64.dec y) = BitVec.ofInt 64 ((dv64.dec x).toInt.tmod (dv64.dec y).toInt) from rfl, h1, h2] at this
    exact this.trans (rem_m1 dv64)
  have a1 := u_lt dv64 x y hz'
  have a2 := u_le dv64 x y hz'
  have a3 := d_u dv64 x y hz'
  rw [← id64 y hy] at a1
  rw [← id64 x hx] at a2
  rw [← id64 y hy, ← id64 x hx] at a3
  exact ⟨tover dv64 x y hz' h1 h2, (tok dv64 x y 4 (by decide) (by decide) hz' (by intro h; exact absurd h.1 (by decide))).1, ⟨k5.1, e5⟩,
    (tok dv64 x y 6 (by decide) (by decide) hz' (by intro h; exact absurd h.1 (by decide))).1, a1, a2, a3⟩
end NumM
end Go.Proofs.YthdklnkaeddogacDoor
