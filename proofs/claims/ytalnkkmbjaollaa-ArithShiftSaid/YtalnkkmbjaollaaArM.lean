/-
  Plain mathematics of layer 5's laws: the lanes of what two and one answer. Conditions: those of each theorem.
-/
import Derived.Test.YtalnkkmbjaollaaArTwo
namespace Go.Proofs.Ytalnkkmbjaollaa
open Go.RowKit VecM
namespace Ar
theorem op_of {v o : Int} (hv : v = 8 ∨ v = 16 ∨ v = 32 ∨ v = 64) (h0 : 0 ≤ o) (h1 : o ≤ 31) (hh : hasB v o = true) : aW (baI v + o) = v ∧ aK (baI v + o) = o := by
  have key : ∀ q : Int, (q = 0 ∨ q = 1 ∨ q = 2 ∨ q = 3) → baI v = 64864 + 32 * q → wq q = v → aW (baI v + o) = v ∧ aK (baI v + o) = o := by
    intro q hq hb hw
    have e1 : (baI v + o - 64864) / 32 = q := by omega
    have e2 : (baI v + o - 64864) % 32 = o := by omega
    have hi : inA (baI v + o) = true := by
      unfold inA
      rw [e1, e2, hw, hh]
      have h3 : 64864 ≤ baI v + o := by omega
      have h4 : baI v + o ≤ 64991 := by omega
      simp [h3, h4]
    unfold aW aK
    rw [hi, e1, e2]
    exact ⟨hw, rfl⟩
  rcases hv with rfl | rfl | rfl | rfl
  · exact key 0 (by omega) rfl rfl
  · exact key 1 (by omega) rfl rfl
  · exact key 2 (by omega) rfl rfl
  · exact key 3 (by omega) rfl rfl
theorem lanes_pos {v j : Int} (h : thereB v j = true) : 0 ≤ j ∧ j < lanesI v := there_iff.1 h
theorem get_bi {a b : Nat → Int} {v o : Int} (hv : v = 8 ∨ v = 16 ∨ v = 32 ∨ v = 64) (h0 : 14 ≤ o) (h1 : o ≤ 31) (hh : hasB v o = true) {j : Nat} (hj : thereB v j = true) :
    getI (biV (baI v + o) a b) v j = laneI o v (getI a v j) (getI b v j) (sgnI a v j) (sgnI b v j) % 256 ^ wid v := by
  obtain ⟨e1, e2⟩ := op_of hv (by omega) h1 hh
  have hok : biOk (baI v + o) = true := by
    unfold biOk
    rw [e1, e2]
    have : v ≠ 0 := by omega
    simp [this, h0]
  unfold biV
  rw [if_pos hok, e1, e2, get_ofK _ _ _ _ hj, if_pos (by have := lanes_pos hj; omega)]
theorem get_un {a : Nat → Int} {v o : Int} (hv : v = 8 ∨ v = 16 ∨ v = 32 ∨ v = 64) (h0 : 0 ≤ o) (h1 : o ≤ 2) (hh : hasB v o = true) {j : Nat} (hj : thereB v j = true) :
    getI (unV (baI v + o) a) v j = unL o (getI a v j) (sgnI a v j) % 256 ^ wid v := by
  obtain ⟨e1, e2⟩ := op_of hv h0 (by omega) hh
  have hok : unOk (baI v + o) = true := by
    unfold unOk
    rw [e1, e2]
    have : v ≠ 0 := by omega
    simp [this, h1]
  unfold unV
  rw [if_pos hok, e1, e2, get_ofK _ _ _ _ hj, if_pos (by have := lanes_pos hj; omega)]
theorem get_sh {a : Nat → Int} {v o n : Int} (hv : v = 8 ∨ v = 16 ∨ v = 32 ∨ v = 64) (h0 : 11 ≤ o) (h1 : o ≤ 13) (hh : hasB v o = true) {j : Nat} (hj : thereB v j = true) :
    getI (shV (baI v + o) a n) v j = shL o (n % v) (getI a v j) (sgnI a v j) % 256 ^ wid v := by
  obtain ⟨e1, e2⟩ := op_of hv (by omega) (by omega) hh
  have hok : shOk (baI v + o) = true := by
    unfold shOk
    rw [e1, e2]
    have : v ≠ 0 := by omega
    simp [this, h0, h1]
  unfold shV
  rw [if_pos hok, e1, e2, get_ofK _ _ _ _ hj, if_pos (by have := lanes_pos hj; omega)]
theorem byt0 : Byt fun _ => 0 := fun _ => ⟨Int.le_refl _, by show (0 : Int) ≤ 255; decide⟩
theorem biV_byt (op : Int) (a b : Nat → Int) : Byt (biV op a b) := by
  unfold biV; split
  · exact ofK_byt byt0 _ _ _
  · exact byt0
theorem unV_byt (op : Int) {a : Nat → Int} (ha : Byt a) : Byt (unV op a) := by
  unfold unV; split
  · exact ofK_byt ha _ _ _
  · exact byt0
theorem shV_byt (op : Int) {a : Nat → Int} (ha : Byt a) (n : Int) : Byt (shV op a n) := by
  unfold shV; split
  · exact ofK_byt ha _ _ _
  · exact byt0
/-- two vectors whose lanes of one width agree -/
theorem bs_ext {b c : Nat → Int} (hb : Byt b) (hc : Byt c) {v : Int} (hv : v = 8 ∨ v = 16 ∨ v = 32 ∨ v = 64) (h : ∀ j : Nat, thereB v j = true → getI b v j = getI c v j) : bs b = bs c :=
  bs_congr (ext hb hc v hv h)
/-- a width's numbers, all at once: what a lane's 256 ^ wid is -/
theorem pow_of {v : Int} (hv : v = 8 ∨ v = 16 ∨ v = 32 ∨ v = 64) : (v = 8 ∧ (256 : Int) ^ wid v = 256 ∧ (2 : Int) ^ v.toNat = 256 ∧ (2 : Int) ^ (v.toNat - 1) = 128) ∨ (v = 16 ∧ (256 : Int) ^ wid v = 65536 ∧ (2 : Int) ^ v.toNat = 65536 ∧ (2 : Int) ^ (v.toNat - 1) = 32768) ∨
    (v = 32 ∧ (256 : Int) ^ wid v = 4294967296 ∧ (2 : Int) ^ v.toNat = 4294967296 ∧ (2 : Int) ^ (v.toNat - 1) = 2147483648) ∨ (v = 64 ∧ (256 : Int) ^ wid v = 18446744073709551616 ∧ (2 : Int) ^ v.toNat = 18446744073709551616 ∧ (2 : Int) ^ (v.toNat - 1) = 9223372036854775808) := by
  rcases hv with rfl | rfl | rfl | rfl
  · exact .inl ⟨rfl, rfl, rfl, rfl⟩
  · exact .inr (.inl ⟨rfl, rfl, rfl, rfl⟩)
  · exact .inr (.inr (.inl ⟨rfl, rfl, rfl, rfl⟩))
  · exact .inr (.inr (.inr ⟨rfl, rfl, rfl, rfl⟩))
theorem wrap_u (n : Int) : IntKind.u64.wrap n = n % 18446744073709551616 := by rw [IntKind.wrap_u64]
theorem sgn_of {b : Nat → Int} {v : Int} {j : Nat} (h : thereB v j = true) : sgnI b v j = sg v (getI b v j) := by unfold sgnI; rw [if_pos h]
/-- the saturating ones, and the mean -/
theorem sat_lanes {a b : Nat → Int} (ha : Byt a) (hb : Byt b) {v : Int} (hv : v = 8 ∨ v = 16) {j : Nat} (hj : thereB v j = true) :
    (v = 8 ∨ v = 16) ∧ 0 ≤ getI a v j ∧ getI a v j ≤ (if v = 8 then 255 else 65535) ∧ 0 ≤ getI b v j ∧ getI b v j ≤ (if v = 8 then 255 else 65535) ∧
    (if v = 8 then -128 else -32768) ≤ sgnI a v j ∧ sgnI a v j ≤ (if v = 8 then 127 else 32767) ∧ (if v = 8 then -128 else -32768) ≤ sgnI b v j ∧ sgnI b v j ≤ (if v = 8 then 127 else 32767) ∧
    sgnI (biV (baI v + 15) a b) v j = holdI (sgnI a v j + sgnI b v j) (if v = 8 then -128 else -32768) (if v = 8 then 127 else 32767) ∧
    sgnI (biV (baI v + 18) a b) v j = holdI (sgnI a v j - sgnI b v j) (if v = 8 then -128 else -32768) (if v = 8 then 127 else 32767) ∧
    getI (biV (baI v + 16) a b) v j = holdI (getI a v j + getI b v j) 0 (if v = 8 then 255 else 65535) ∧
    getI (biV (baI v + 19) a b) v j = holdI (getI a v j - getI b v j) 0 (if v = 8 then 255 else 65535) ∧
    getI (biV (baI v + 27) a b) v j = (getI a v j + getI b v j + 1) / 2 := by
  have hv4 : v = 8 ∨ v = 16 ∨ v = 32 ∨ v = 64 := by omega
  have F := fit_of ha hb hv4 hj
  have hle : (v ≤ 16) := by omega
  have H := fun o h0 h1 hh => get_bi (a := a) (b := b) (o := o) hv4 h0 h1 hh hj
  have h15 := H 15 (by omega) (by omega) (by simp [hasB, hle])
  have h18 := H 18 (by omega) (by omega) (by simp [hasB, hle])
  have h16 := H 16 (by omega) (by omega) (by simp [hasB, hle])
  have h19 := H 19 (by omega) (by omega) (by simp [hasB, hle])
  have h27 := H 27 (by omega) (by omega) (by simp [hasB, hle])
  rw [sgn_of (b := biV (baI v + 15) a b) hj, sgn_of (b := biV (baI v + 18) a b) hj, h15, h18, h16, h19, h27]
  obtain ⟨⟨x0, x1⟩, ⟨y0, y1⟩, ⟨s0, s1⟩, ⟨r0, r1⟩⟩ := F
  clear H h15 h18 h16 h19 h27
  generalize getI a v j = x at *
  generalize getI b v j = y at *
  generalize sgnI a v j = s at *
  generalize sgnI b v j = r at *
  have e15 : laneI 15 v x y s r = IntKind.u64.wrap (holdI (s + r) (if v = 8 then -128 else -32768) (if v = 8 then 127 else 32767)) := by simp [laneI]
  have e18 : laneI 18 v x y s r = IntKind.u64.wrap (holdI (s - r) (if v = 8 then -128 else -32768) (if v = 8 then 127 else 32767)) := by simp [laneI]
  have e16 : laneI 16 v x y s r = holdI (x + y) 0 (if v = 8 then 255 else 65535) := by simp [laneI]
  have e19 : laneI 19 v x y s r = holdI (x - y) 0 (if v = 8 then 255 else 65535) := by simp [laneI]
  have e27 : laneI 27 v x y s r = (x + y + 1) / 2 := by simp [laneI]
  rw [e15, e18, e16, e19, e27, wrap_u, wrap_u]
  clear e15 e18 e16 e19 e27
  have p := pow_of hv4
  rcases hv with rfl | rfl
  · obtain ⟨_, p1, p2, p3⟩ | ⟨h, _⟩ | ⟨h, _⟩ | ⟨h, _⟩ := p
    · unfold sg
      rw [p1, p3, p2]
      rw [p2] at x1 y1
      rw [p3] at s0 s1 r0 r1
      rw [if_pos (show (8 : Int) = 8 from rfl), if_pos (show (8 : Int) = 8 from rfl), if_pos (show (8 : Int) = 8 from rfl)]
      have b1 := holdI_bd (s + r) (show (-128 : Int) ≤ 127 by decide)
      have b2 := holdI_bd (s - r) (show (-128 : Int) ≤ 127 by decide)
      have b3 := holdI_bd (x + y) (show (0 : Int) ≤ 255 by decide)
      have b4 := holdI_bd (x - y) (show (0 : Int) ≤ 255 by decide)
      generalize holdI (s + r) (-128) 127 = h1 at *
      generalize holdI (s - r) (-128) 127 = h2 at *
      generalize holdI (x + y) 0 255 = h3 at *
      generalize holdI (x - y) 0 255 = h4 at *
      refine ⟨by omega, by omega, by omega, by omega, by omega, by omega, by omega, by omega, by omega, ?_, ?_, by omega, by omega, by omega⟩
      · split <;> omega
      · split <;> omega
    all_goals omega
  · obtain ⟨h, _⟩ | ⟨_, p1, p2, p3⟩ | ⟨h, _⟩ | ⟨h, _⟩ := p
    · omega
    · unfold sg
      rw [p1, p3, p2]
      rw [p2] at x1 y1
      rw [p3] at s0 s1 r0 r1
      rw [if_neg (show ¬ (16 : Int) = 8 by decide), if_neg (show ¬ (16 : Int) = 8 by decide), if_neg (show ¬ (16 : Int) = 8 by decide)]
      have b1 := holdI_bd (s + r) (show (-32768 : Int) ≤ 32767 by decide)
      have b2 := holdI_bd (s - r) (show (-32768 : Int) ≤ 32767 by decide)
      have b3 := holdI_bd (x + y) (show (0 : Int) ≤ 65535 by decide)
      have b4 := holdI_bd (x - y) (show (0 : Int) ≤ 65535 by decide)
      generalize holdI (s + r) (-32768) 32767 = h1 at *
      generalize holdI (s - r) (-32768) 32767 = h2 at *
      generalize holdI (x + y) 0 65535 = h3 at *
      generalize holdI (x - y) 0 65535 = h4 at *
      refine ⟨by omega, by omega, by omega, by omega, by omega, by omega, by omega, by omega, by omega, ?_, ?_, by omega, by omega, by omega⟩
      · split <;> omega
      · split <;> omega
    all_goals omega
end Ar
end Go.Proofs.Ytalnkkmbjaollaa
