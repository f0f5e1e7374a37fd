/-
  MovePuts: for all vectors, lanes and numbers the law returns true. Conditions: bytes, 64 bits.
-/
import Derived.Test.YtaahkpjdffgagaaMvSum
namespace Go.Proofs.Ytaahkpjdffgagaa
open Go.RowKit VecM Ev
namespace Mv
def opIn (k : Nat) : Int := [64791, 64794, 64796, 64798].getD k 0
def opOut (k : Nat) : Int := [64790, 64793, 64795, 64797].getD k 0
def wK (k : Nat) : Int := [8, 16, 32, 64].getD k 0
def nK (k : Nat) : Nat := [16, 8, 4, 2].getD k 0
def fuV (v : Nat → Int) (x : Int) (k : Nat) : Nat → (Nat → Int)
  | 0 => v
  | j + 1 => reV (opIn k) j x (fuV v x k j)
def puK (l : Nat) (v : Nat → Int) (x : Int) : List (Nat → Int) :=
  v :: (List.range 4).flatMap fun (k : Nat) => reV (opIn k) (l % nK k : Nat) x v :: (List.range (nK k)).map fun (j : Nat) => fuV v x k (j + 1)
noncomputable def envP (K : List (Nat → Int)) : Env := { envM K with cc := fun op => match op with | .binOp .rem _ _ _ _ => true | _ => false }
noncomputable def puPath (l : Nat) (v : Nat → Int) (lane x : Int) (β : Nat → Nat) : Out :=
  evPath (envP (puK l v x)) (envP (puK l sA sX)) 80 7 [.agg (bs v), .int .i64 lane, .int .u64 x] [.agg (bs sA), .int .i64 l, .int .u64 sX] (.bool true) β
def puB (v : Nat → Int) (x : Int) (k j i : Nat) : Int := if j = i then (IntKind.u64.wrap (x * 2 ^ (64 - (wK k).toNat))).fdiv (2 ^ (64 - (wK k).toNat)) else exV (opOut k) j v
def puD (l : Nat) (v : Nat → Int) (lane x : Int) : List (Bool × Bool) :=
  (List.range 4).flatMap fun (k : Nat) =>
    [(Int.tmod (IntKind.u64.wrap lane) (nK k) == (l % nK k : Nat), true)] ++
    ((List.range (nK k)).map fun (j : Nat) => (exV (opOut k) j (reV (opIn k) (l % nK k : Nat) x v) != puB v x k j (l % nK k), false)) ++
    [(!(eq16 (splV (wK k) x) (fuV v x k (nK k))), false)]
--EVTS puTs | fun (v : Nat → Int) (lane x : Int) (β : Nat → Nat) => (puPath 13 v lane x β, puD 13 v lane x)
def puTs : List Nat := [0, 0, 0, 0, 0, 38, 38, 38, 0, 0, 0, 0, 0, 0, 0, 0, 0, 0, 0, 0, 0, 0, 37, 0, 0, 0, 0, 0, 0, 0, 0, 0, 0, 0, 0, 0, 0, 0, 0, 36, 0, 0, 0, 0, 0, 0, 0, 0, 0, 0, 0, 0, 0, 0, 0, 0, 35, 0, 0, 0, 0, 0, 34, 34, 34, 0, 0, 0, 0, 0, 0, 0, 0, 0, 0, 0, 0, 0, 0, 33, 0, 0, 0, 0, 0, 0, 0, 0, 0, 0, 0, 0, 0, 0, 0, 0, 32, 0, 0, 0, 0, 0, 0, 0, 0, 0, 0, 0, 0, 0, 0, 0, 0, 31, 0, 0, 0, 0, 0, 0, 0, 0, 0, 0, 0, 0, 0, 0, 0, 0, 30, 0, 0, 0, 0, 0, 0, 0, 0, 0, 0, 0, 0, 0, 0, 0, 0, 29, 0, 0, 0, 0, 0, 28, 28, 28, 0, 0, 0, 0, 0, 0, 0, 0, 0, 0, 0, 0, 0, 0, 27, 0, 0, 0, 0, 0, 0, 0, 0, 0, 0, 0, 0, 0, 0, 0, 0, 26, 0, 0, 0, 0, 0, 0, 0, 0, 0, 0, 0, 0, 0, 0, 0, 0, 25, 0, 0, 0, 0, 0, 0, 0, 0, 0, 0, 0, 0, 0, 0, 0, 0, 24, 0, 0, 0, 0, 0, 0, 0, 0, 0, 0, 0, 0, 0, 0, 0, 0, 23, 0, 0, 0, 0, 0, 0, 0, 0, 0, 0, 0, 0, 0, 0, 0, 0, 22, 0, 0, 0, 0, 0, 0, 0, 0, 0, 0, 0, 0, 0, 0, 0, 0, 21, 0, 0, 0, 0, 0, 0, 0, 0, 0, 0, 0, 0, 0, 0, 0, 0, 20, 0, 0, 0, 0, 0, 0, 0, 0, 0, 0, 0, 0, 0, 0, 0, 0, 19, 0, 0, 0, 0, 0, 18, 18, 18, 0, 0, 0, 0, 0, 0, 0, 0, 0, 0, 0, 0, 0, 0, 17, 0, 0, 0, 0, 0, 0, 0, 0, 0, 0, 0, 0, 0, 0, 0, 0, 16, 0, 0, 0, 0, 0, 0, 0, 0, 0, 0, 0, 0, 0, 0, 0, 0, 15, 0, 0, 0, 0, 0, 0, 0, 0, 0, 0, 0, 0, 0, 0, 0, 0, 14, 0, 0, 0, 0, 0, 0, 0, 0, 0, 0, 0, 0, 0, 0, 0, 0, 13, 0, 0, 0, 0, 0, 0, 0, 0, 0, 0, 0, 0, 0, 0, 0, 0, 12, 0, 0, 0, 0, 0, 0, 0, 0, 0, 0, 0, 0, 0, 0, 0, 0, 11, 0, 0, 0, 0, 0, 0, 0, 0, 0, 0, 0, 0, 0, 0, 0, 0, 10, 0, 0, 0, 0, 0, 0, 0, 0, 0, 0, 0, 0, 0, 0, 0, 0, 9, 0, 0, 0, 0, 0, 0, 0, 0, 0, 0, 0, 0, 0, 0, 0, 0, 8, 0, 0, 0, 0, 0, 0, 0, 0, 0, 0, 0, 0, 0, 0, 0, 0, 7, 0, 0, 0, 0, 0, 0, 0, 0, 0, 0, 0, 0, 0, 0, 0, 0, 6, 0, 0, 0, 0, 0, 0, 0, 0, 0, 0, 0, 0, 0, 0, 0, 0, 5, 0, 0, 0, 0, 0, 0, 0, 0, 0, 0, 0, 0, 0, 0, 0, 0, 4, 0, 0, 0, 0, 0, 0, 0, 0, 0, 0, 0, 0, 0, 0, 0, 0, 3, 0, 0, 0, 0, 0, 0, 0, 0, 0, 0, 0, 0, 0, 0, 0, 0, 2, 0, 0, 0, 0, 0, 0, 0, 0, 0, 0, 0, 0, 0, 0, 0, 0, 1, 0, 0]
/-! ### the facts -/
theorem thK (k : Nat) (hk : k < 4) (j : Nat) (hj : j < nK k) : thereB (wK k) j = true := by
  refine there_iff.2 ⟨by omega, ?_⟩
  match k, hk with
  | 0, _ => have : j < 16 := hj; show (j : Int) < lanesI 8; unfold lanesI; simp; omega
  | 1, _ => have : j < 8 := hj; show (j : Int) < lanesI 16; unfold lanesI; simp; omega
  | 2, _ => have : j < 4 := hj; show (j : Int) < lanesI 32; unfold lanesI; simp; omega
  | 3, _ => have : j < 2 := hj; show (j : Int) < lanesI 64; unfold lanesI; simp; omega
theorem reK (k : Nat) (hk : k < 4) (j : Nat) (hj : j < nK k) (x : Int) (b : Nat → Int) : reV (opIn k) j x b = setI b (wK k) j x := by
  have h := thK k hk j hj
  have e : reW (opIn k) = wK k := by match k, hk with | 0, _ => rfl | 1, _ => rfl | 2, _ => rfl | 3, _ => rfl
  unfold reV
  rw [e, if_pos h]
theorem exK (k : Nat) (hk : k < 4) (j : Nat) (hj : j < nK k) (b : Nat → Int) : exV (opOut k) j b = getI b (wK k) j := by
  have h := thK k hk j hj
  have e : exW (opOut k) = wK k := by match k, hk with | 0, _ => rfl | 1, _ => rfl | 2, _ => rfl | 3, _ => rfl
  have s : exS (opOut k) = false := by match k, hk with | 0, _ => rfl | 1, _ => rfl | 2, _ => rfl | 3, _ => rfl
  unfold exV
  rw [e, if_pos h, s]
  rfl
theorem fuK (v : Nat → Int) (x : Int) (k : Nat) (hk : k < 4) : ∀ j, j ≤ nK k → fuV v x k j = ofK v (wK k) (fun _ => x) j
  | 0, _ => rfl
  | j + 1, h => by
    rw [fuV, fuK v x k hk j (by omega), reK k hk j (by omega)]
    rfl
theorem cutK (k : Nat) (hk : k < 4) (x : Int) (_hx : 0 ≤ x ∧ x < 18446744073709551616) : x % 256 ^ wid (wK k) = (IntKind.u64.wrap (x * 2 ^ (64 - (wK k).toNat))).fdiv (2 ^ (64 - (wK k).toNat)) := by
  rw [IntKind.wrap_u64, Int.fdiv_eq_ediv_of_nonneg _ (Int.le_of_lt (Int.pow_pos (by decide)))]
  match k, hk with
  | 0, _ => show x % 256 = x * 72057594037927936 % 18446744073709551616 / 72057594037927936; omega
  | 1, _ => show x % 65536 = x * 281474976710656 % 18446744073709551616 / 281474976710656; omega
  | 2, _ => show x % 4294967296 = x * 4294967296 % 18446744073709551616 / 4294967296; omega
  | 3, _ => show x % 18446744073709551616 = x * 1 % 18446744073709551616 / 1; omega
theorem spl_fu (v : Nat → Int) (hv : Byt v) (x : Int) (k : Nat) (hk : k < 4) : eq16 (splV (wK k) x) (fuV v x k (nK k)) = true := by
  refine eq16_of ?_
  have e : (lanesI (wK k)).toNat = nK k := by match k, hk with | 0, _ => rfl | 1, _ => rfl | 2, _ => rfl | 3, _ => rfl
  have hw : wK k = 8 ∨ wK k = 16 ∨ wK k = 32 ∨ wK k = 64 := by match k, hk with | 0, _ => exact .inl rfl | 1, _ => exact .inr (.inl rfl) | 2, _ => exact .inr (.inr (.inl rfl)) | 3, _ => exact .inr (.inr (.inr rfl))
  unfold splV
  rw [e, fuK v x k hk _ (Nat.le_refl _)]
  refine ext (ofK_byt byt0 _ _ _) (ofK_byt hv _ _ _) (wK k) hw fun j hj => ?_
  have hjn : j < nK k := by have := (there_iff.1 hj).2; omega
  rw [get_ofK _ _ _ j hj _, get_ofK _ _ _ j hj _, if_pos hjn, if_pos hjn]
theorem n_dvd (k : Nat) (hk : k < 4) : (nK k : Int) ∣ 16 ∧ nK k ∣ 16 ∧ 0 < nK k := by
  match k, hk with
  | 0, _ => decide
  | 1, _ => decide
  | 2, _ => decide
  | 3, _ => decide
theorem puD_ok (l : Nat) (v : Nat → Int) (hv : Byt v) (lane x : Int) (hx : 0 ≤ x ∧ x < 18446744073709551616) (hl : IntKind.u64.wrap lane % 16 = (l : Int)) : ∀ p ∈ puD l v lane x, p.1 = p.2 := by
  intro p hp
  unfold puD at hp
  simp only [List.mem_append, List.mem_flatMap, List.mem_map, List.mem_range, List.mem_cons, List.not_mem_nil, or_false] at hp
  obtain ⟨k, hk, (rfl | ⟨j, hj, rfl⟩) | rfl⟩ := hp
  · obtain ⟨h1, _, _⟩ := n_dvd k hk
    have h0 : 0 ≤ IntKind.u64.wrap lane := by rw [IntKind.wrap_u64]; omega
    simp only [beq_iff_eq]
    rw [Int.tmod_eq_emod_of_nonneg h0, ← Int.emod_emod_of_dvd _ h1, hl]
    exact (Int.natCast_emod ..).symm
  · obtain ⟨_, _, h3⟩ := n_dvd k hk
    have hi := Nat.mod_lt l h3
    simp only [bne_eq_false_iff_eq]
    unfold puB
    rw [exK k hk j hj, reK k hk _ hi]
    by_cases h : j = l % nK k
    · rw [if_pos h, ← cutK k hk x hx, ← h]
      exact get_set v (wK k) j x (thK k hk j hj)
    · rw [if_neg h, exK k hk j hj]
      exact get_set_other v (wK k) _ j x (by omega)
  · rw [spl_fu v hv x k hk]
    rfl
theorem puK_byt (l : Nat) (v : Nat → Int) (hv : Byt v) (x : Int) : ∀ y ∈ puK l v x, Byt y := by
  have hr : ∀ op i b, Byt b → Byt (reV op i x b) := fun op i b hb => by unfold reV; split; exact setI_byt hb _ _ _; exact byt0
  have hf : ∀ k j, Byt (fuV v x k j) := fun k j => by
    induction j with
    | zero => exact hv
    | succ j ih => exact hr _ _ _ ih
  intro y hy
  unfold puK at hy
  simp only [List.mem_cons, List.mem_flatMap, List.mem_map, List.mem_range] at hy
  obtain rfl | ⟨k, _, rfl | ⟨j, _, rfl⟩⟩ := hy
  · exact hv
  · exact hr _ _ _ hv
  · exact hf _ _
theorem envP_ok (K : List (Nat → Int)) (hK : ∀ x ∈ K, Byt x) : SumOk (envP K) := sumM_ok K hK
end Mv
end Go.Proofs.Ytaahkpjdffgagaa
