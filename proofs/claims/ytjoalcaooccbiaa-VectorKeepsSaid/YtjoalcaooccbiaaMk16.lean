/-
  Texts of this seat, joined: ArW, ArB. Each says what it proves.
-/
import Derived.Test.YtjoalcaooccbiaaMk10
import Derived.Test.YtjoalcaooccbiaaMk14
/- ArW -/
namespace Go.Proofs.Ytjoalcaooccbiaa
open Go.RowKit VecM
namespace Ar
theorem popAux_le (n : Nat) : ∀ x, Lib.popAux n x ≤ n := by
 induction n with
 | zero => intro x; simp [Lib.popAux]
 | succ n ih => intro x; simp only [Lib.popAux]; have := ih (x / 2); omega
theorem lanes_nat (v : Int) : lanesI v = ((lanesI v).toNat : Int) ∧ (lanesI v).toNat ≤ 16 := by
 have := lanes_bd v
 omega
theorem in_of {op : Int} (h : aW op ≠ 0) : hasB (aW op) (aK op) = true ∧ (aW op = 8 ∨ aW op = 16 ∨ aW op = 32 ∨ aW op = 64) := by
 have hc := aW_cases op
 have hi : inA op = true := by
  cases e : inA op
  ·exact absurd (by unfold aW; rw [e]; rfl) h
  ·rfl
 have e1 : aW op = wq ((op - 64864) / 32) := by unfold aW; rw [hi]; rfl
 have e2 : aK op = (op - 64864) % 32 := by unfold aK; rw [hi]; rfl
 refine ⟨?_, by omega⟩
 unfold inA at hi
 simp only [Bool.and_eq_true] at hi
 rw [e1, e2]; exact hi.2
def unOk (op : Int) : Bool := aW op != 0 && decide (aK op ≤ 2)
def unV (op : Int) (b : Nat → Int) : Nat → Int := if unOk op then ofK b (aW op) (fun j => unL (aK op) (getI b (aW op) j) (sgnI b (aW op) j)) (lanesI (aW op)).toNat else fun _ => 0
theorem un_any (op : Int) (b : Nat → Int) (hb : Byt b) (w : World) :
  Calls Try.prog 12 #[.int .i64 op, .agg (bs b)] w fun e w' => e = .returned (.tuple #[.agg (bs (unV op b)), .int .i64 (if unOk op then 0 else 1)]) ∧ Gr w w' := by
 have A := fun w => arith_any op w
 obtain ⟨hL, h16⟩ := lanes_nat (aW op)
 have hk := aK_bd op
 by_cases h : unOk op = true
 ·have h0 : aW op ≠ 0 ∧ aK op ≤ 2 := by simpa [unOk] using h
  have hv0 : (aW op == 0) = false := beq_eq_false_iff_ne.2 h0.1
  unfold unV
  rw [if_pos h, if_pos h]
  have hc : aK op = 0 ∨ aK op = 1 ∨ aK op = 2 := by omega
  generalize aW op = v at *
  rcases hc with e | e | e
  ·rw [e] at A ⊢
   exact un_abs op v b hb _ hL h16 hv0 _ (fun j _ => by simp [unL]) A w
  ·rw [e] at A ⊢
   exact un_neg op v b hb _ hL h16 hv0 _ (fun j _ => by simp [unL]) A w
  ·rw [e] at A ⊢
   refine un_pop op v b hb _ hL h16 hv0 _ (fun j _ => ?_) A w
   have hg := getI_64 hb v j
   have e3 : unL 2 (getI b v j) (sgnI b v j) = (Lib.popAux 64 (getI b v j).toNat : Int) := by simp [unL]
   rw [e3]
   have := popAux_le 64 (getI b v j).toNat
   refine ⟨by omega, by omega, fun w => ?_⟩
   have C := Oc.oc64 (getI b v j).toNat (by omega) w
   rw [Int.toNat_of_nonneg hg.1] at C
   exact C
 ·have h2 : unOk op = false := by simpa using h
  unfold unV
  rw [h2]
  refine un_refused op (aW op) (aK op) b ?_ A w
  by_cases h3 : aW op = 0
  ·exact .inl h3
  ·refine .inr ⟨beq_eq_false_iff_ne.2 h3, ?_⟩
   simp [unOk, h3] at h2
   omega
def shOk (op : Int) : Bool := aW op != 0 && decide (11 ≤ aK op) && decide (aK op ≤ 13)
def shV (op : Int) (b : Nat → Int) (n : Int) : Nat → Int := if shOk op then ofK b (aW op) (fun j => shL (aK op) (n % aW op) (getI b (aW op) j) (sgnI b (aW op) j)) (lanesI (aW op)).toNat else fun _ => 0
theorem sh_any (op : Int) (b : Nat → Int) (hb : Byt b) (n : Int) (hn : 0 ≤ n ∧ n < 4294967296) (w : World) :
  Calls Try.prog 19 #[.int .i64 op, .agg (bs b), .int .u32 n] w fun e w' => e = .returned (.tuple #[.agg (bs (shV op b n)), .int .i64 (if shOk op then 0 else 1)]) ∧ Gr w w' := by
 have A := fun w => arith_any op w
 obtain ⟨hL, h16⟩ := lanes_nat (aW op)
 by_cases h : shOk op = true
 ·have h0 : (aW op ≠ 0 ∧ 11 ≤ aK op) ∧ aK op ≤ 13 := by simpa [shOk] using h
  have hv0 : (aW op == 0) = false := beq_eq_false_iff_ne.2 h0.1.1
  unfold shV
  rw [if_pos h, if_pos h]
  have hc : aK op = 11 ∨ aK op = 12 ∨ aK op = 13 := by omega
  have hv := (in_of h0.1.1).2
  generalize aW op = v at *
  have hm : n.tmod v = n % v := Int.tmod_eq_emod_of_nonneg hn.1
  have hm0 : 0 ≤ n % v ∧ n % v < 64 := by rcases hv with rfl | rfl | rfl | rfl <;> omega
  have hvv : IntKind.u32.wrap v = v := by rcases hv with rfl | rfl | rfl | rfl <;> rfl
  rcases hc with e | e | e
  ·rw [e] at A ⊢
   exact sh_shl op v b hb _ hL h16 hv0 _ n _ hm hm0 hvv hn (fun j _ => by simp [shL]) A w
  ·rw [e] at A ⊢
   exact sh_shr_s op v b hb _ hL h16 hv0 _ n _ hm hm0 hvv hn (fun j _ => by simp [shL]) A w
  ·rw [e] at A ⊢
   exact sh_shr_u op v b hb _ hL h16 hv0 _ n _ hm hm0 hvv hn (fun j _ => by simp [shL]) A w
 ·have h2 : shOk op = false := by simpa using h
  unfold shV
  rw [h2]
  refine sh_refused op (aW op) (aK op) n b ?_ A w
  by_cases h3 : aW op = 0
  ·exact .inl h3
  ·have hne : (aW op == 0) = false := beq_eq_false_iff_ne.2 h3
   by_cases h4 : aK op < 11
   ·exact .inr (.inl ⟨hne, h4⟩)
   ·refine .inr (.inr ⟨hne, by omega, ?_⟩)
    simp [shOk, h3] at h2
    omega
end Ar
end Go.Proofs.Ytjoalcaooccbiaa
/- ArB -/
namespace Go.Proofs.Ytjoalcaooccbiaa
open Go.RowKit VecM
namespace Ar
theorem fit_one {v g : Int} (hv : v = 8 ∨ v = 16 ∨ v = 32 ∨ v = 64) (h : 0 ≤ g ∧ g < 256 ^ wid v) : (0 ≤ g ∧ g < 2 ^ v.toNat) ∧ -(2 ^ (v.toNat - 1)) ≤ sg v g ∧ sg v g < 2 ^ (v.toNat - 1) := by
 unfold sg
 rcases hv with rfl | rfl | rfl | rfl
 ·rw [show (256 : Int) ^ wid 8 = 256 from rfl] at h
  rw [show (2 : Int) ^ (8 : Int).toNat = 256 from rfl, show (2 : Int) ^ ((8 : Int).toNat - 1) = 128 from rfl]
  split <;> omega
 ·rw [show (256 : Int) ^ wid 16 = 65536 from rfl] at h
  rw [show (2 : Int) ^ (16 : Int).toNat = 65536 from rfl, show (2 : Int) ^ ((16 : Int).toNat - 1) = 32768 from rfl]
  split <;> omega
 ·rw [show (256 : Int) ^ wid 32 = 4294967296 from rfl] at h
  rw [show (2 : Int) ^ (32 : Int).toNat = 4294967296 from rfl, show (2 : Int) ^ ((32 : Int).toNat - 1) = 2147483648 from rfl]
  split <;> omega
 ·rw [show (256 : Int) ^ wid 64 = 18446744073709551616 from rfl] at h
  rw [show (2 : Int) ^ (64 : Int).toNat = 18446744073709551616 from rfl, show (2 : Int) ^ ((64 : Int).toNat - 1) = 9223372036854775808 from rfl]
  split <;> omega
theorem fit_of {a b : Nat → Int} (ha : Byt a) (hb : Byt b) {v : Int} (hv : v = 8 ∨ v = 16 ∨ v = 32 ∨ v = 64) {j : Nat} (hj : thereB v j = true) : Fit v (getI a v j) (getI b v j) (sgnI a v j) (sgnI b v j) := by
 obtain ⟨h1, h2⟩ := fit_one hv (getI_bd ha v j)
 obtain ⟨h3, h4⟩ := fit_one hv (getI_bd hb v j)
 refine ⟨h1, h3, ?_, ?_⟩
 ·unfold sgnI; rw [if_pos hj]; exact h2
 ·unfold sgnI; rw [if_pos hj]; exact h4
def biOk (op : Int) : Bool := aW op != 0 && decide (14 ≤ aK op)
def biV (op : Int) (a b : Nat → Int) : Nat → Int := if biOk op then ofK (fun _ => 0) (aW op) (fun j => laneI (aK op) (aW op) (getI a (aW op) j) (getI b (aW op) j) (sgnI a (aW op) j) (sgnI b (aW op) j)) (lanesI (aW op)).toNat else fun _ => 0
theorem bin_any (op : Int) (a b : Nat → Int) (ha : Byt a) (hb : Byt b) (w : World) :
  Calls Try.prog 16 #[.int .i64 op, .agg (bs a), .agg (bs b)] w fun e w' => e = .returned (.tuple #[.agg (bs (biV op a b)), .int .i64 (if biOk op then 0 else 1)]) ∧ Gr w w' := by
 have A := fun w => arith_any op w
 obtain ⟨hL, h16⟩ := lanes_nat (aW op)
 by_cases h : biOk op = true
 ·have h0 : aW op ≠ 0 ∧ 14 ≤ aK op := by simpa [biOk] using h
  have hv0 : (aW op == 0) = false := beq_eq_false_iff_ne.2 h0.1
  unfold biV
  rw [if_pos h, if_pos h]
  obtain ⟨hh, hv⟩ := in_of h0.1
  obtain ⟨hk, hs⟩ := binK_of _ _ hh h0.2
  have h14 := h0.2
  generalize aW op = v at *
  generalize aK op = k at *
  exact bin_core op v k a b ha hb _ hL h16 hv0 h14 _ A (fun j hj w => lane_any k v _ _ _ _ hv hk hs (fit_of ha hb hv (there_of hL hj)) w) w
 ·have h2 : biOk op = false := by simpa using h
  unfold biV
  rw [h2]
  refine bin_refused op (aW op) (aK op) a b ?_ A w
  by_cases h3 : aW op = 0
  ·exact .inl h3
  ·refine .inr ⟨beq_eq_false_iff_ne.2 h3, ?_⟩
   simp [biOk, h3] at h2
   omega
end Ar
end Go.Proofs.Ytjoalcaooccbiaa
