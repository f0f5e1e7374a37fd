/-
  Of layer 5: what Bin answers at every opcode. Condition: the vectors' bytes are bytes.
-/
import Derived.Test.YtalnkkmbjaollaaArW
namespace Go.Proofs.Ytalnkkmbjaollaa
open Go.RowKit VecM
namespace Ar
theorem fit_one {v g : Int} (hv : v = 8 ∨ v = 16 ∨ v = 32 ∨ v = 64) (h : 0 ≤ g ∧ g < 256 ^ wid v) : (0 ≤ g ∧ g < 2 ^ v.toNat) ∧ -(2 ^ (v.toNat - 1)) ≤ sg v g ∧ sg v g < 2 ^ (v.toNat - 1) := by
  unfold sg
  rcases hv with rfl | rfl | rfl | rfl
  · rw [show (256 : Int) ^ wid 8 = 256 from rfl] at h
    rw [show (2 : Int) ^ (8 : Int).toNat = 256 from rfl, show (2 : Int) ^ ((8 : Int).toNat - 1) = 128 from rfl]
    split <;> omega
  · rw [show (256 : Int) ^ wid 16 = 65536 from rfl] at h
    rw [show (2 : Int) ^ (16 : Int).toNat = 65536 from rfl, show (2 : Int) ^ ((16 : Int).toNat - 1) = 32768 from rfl]
    split <;> omega
  · rw [show (256 : Int) ^ wid 32 = 4294967296 from rfl] at h
    rw [show (2 : Int) ^ (32 : Int).toNat = 4294967296 from rfl, show (2 : Int) ^ ((32 : Int).toNat - 1) = 2147483648 from rfl]
    split <;> omega
  · rw [show (256 : Int) ^ wid 64 = 18446744073709551616 from rfl] at h
    rw [show (2 : Int) ^ (64 : Int).toNat = 18446744073709551616 from rfl, show (2 : Int) ^ ((64 : Int).toNat - 1) = 9223372036854775808 from rfl]
    split <;> omega
theorem fit_of {a b : Nat → Int} (ha : Byt a) (hb : Byt b) {v : Int} (hv : v = 8 ∨ v = 16 ∨ v = 32 ∨ v = 64) {j : Nat} (hj : thereB v j = true) : Fit v (getI a v j) (getI b v j) (sgnI a v j) (sgnI b v j) := by
  obtain ⟨h1, h2⟩ := fit_one hv (getI_bd ha v j)
  obtain ⟨h3, h4⟩ := fit_one hv (getI_bd hb v j)
  refine ⟨h1, h3, ?_, ?_⟩
  · unfold sgnI; rw [if_pos hj]; exact h2
  · unfold sgnI; rw [if_pos hj]; exact h4
def biOk (op : Int) : Bool := aW op != 0 && decide (14 ≤ aK op)
def biV (op : Int) (a b : Nat → Int) : Nat → Int := if biOk op then ofK (fun _ => 0) (aW op) (fun j => laneI (aK op) (aW op) (getI a (aW op) j) (getI b (aW op) j) (sgnI a (aW op) j) (sgnI b (aW op) j)) (lanesI (aW op)).toNat else fun _ => 0
theorem bin_any (op : Int) (a b : Nat → Int) (ha : Byt a) (hb : Byt b) (w : World) :
    Calls Try.prog 22 #[.int .i64 op, .agg (bs a), .agg (bs b)] w fun e w' => e = .returned (.tuple #[.agg (bs (biV op a b)), .int .i64 (if biOk op then 0 else 1)]) ∧ Gr w w' := by
  have A := fun w => arith_any op w
  obtain ⟨hL, h16⟩ := lanes_nat (aW op)
  by_cases h : biOk op = true
  · have h0 : aW op ≠ 0 ∧ 14 ≤ aK op := by simpa [biOk] using h
    have hv0 : (aW op == 0) = false := beq_eq_false_iff_ne.2 h0.1
    unfold biV
    rw [if_pos h, if_pos h]
    obtain ⟨hh, hv⟩ := in_of h0.1
    obtain ⟨hk, hs⟩ := binK_of _ _ hh h0.2
    have h14 := h0.2
    generalize aW op = v at *
    generalize aK op = k at *
    exact bin_core op v k a b ha hb _ hL h16 hv0 h14 _ A (fun j hj w => lane_any k v _ _ _ _ hv hk hs (fit_of ha hb hv (there_of hL hj)) w) w
  · have h2 : biOk op = false := by simpa using h
    unfold biV
    rw [h2]
    refine bin_refused op (aW op) (aK op) a b ?_ A w
    by_cases h3 : aW op = 0
    · exact .inl h3
    · refine .inr ⟨beq_eq_false_iff_ne.2 h3, ?_⟩
      simp [biOk, h3] at h2
      omega
end Ar
end Go.Proofs.Ytalnkkmbjaollaa
