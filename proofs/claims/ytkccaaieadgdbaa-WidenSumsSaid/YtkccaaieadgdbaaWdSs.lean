/-
  WidenSums: for all vectors the law returns true. Condition: bytes.
-/
import Derived.Test.YtkccaaieadgdbaaWdExt
import Derived.Test.YtkccaaieadgdbaaWdQ15
namespace Go.Proofs.Ytkccaaieadgdbaa
open Go.RowKit VecM Ev
namespace Wd
noncomputable def sumS (f : FuncId) (args : List Value) : Option (List (List Value) × (List (Nat → Int) → Value × List Bool)) :=
  match Nat.beq f 19 with
  | true => match args with
    | [.agg ⟨c⟩, .int .i64 v, .int .i64 i, .int .u64 x] => some ([c], fun fs => (.agg (bs (setI (hd1 fs) v i x)), []))
    | _ => none
  | false => sumW f args
noncomputable def envS (K : List (Nat → Int)) : Env := { P := Try.prog, known := K, sum := sumS }
theorem sumS_ok (K : List (Nat → Int)) (hK : ∀ x ∈ K, Byt x) : SumOk (envS K) := by
  intro f args cs mk h fs hcs hfs hp w
  replace h : sumS f args = some (cs, mk) := h
  unfold sumS at h
  split at h
  · rename_i hf
    obtain rfl := Nat.eq_of_beq_eq_true hf
    split at h
    · cases h
      obtain ⟨x, rfl, rfl⟩ := one_fs hcs
      exact set_any x _ _ _ w
    · cases h
  · exact sumW_ok K hK f args cs mk h fs hcs hfs hp w
def one16 (k : Nat) : Nat → Int := ofK (fun _ => 0) 16 (fun _ => 1) k
def evV (b : Nat → Int) : Nat → (Nat → Int)
  | 0 => fun _ => 0
  | k + 1 => setI (evV b k) 16 (2 * k) (getI b 16 (2 * k))
def odV (b : Nat → Int) : Nat → (Nat → Int)
  | 0 => fun _ => 0
  | k + 1 => setI (odV b k) 16 (2 * k + 1) (getI b 16 (2 * k + 1))
def smV (a b : Nat → Int) (k : Nat) : Nat → Int := ofK (fun _ => 0) 32 (fun i => IntKind.u64.wrap (getI (biV 64954 a (evV b 4)) 32 i + getI (biV 64954 a (odV b 4)) 32 i)) k
def ssK (a b : Nat → Int) : List (Nat → Int) :=
  [a, b, fun _ => 0, biV 64954 a b, biV 64956 a b, biV 64957 a b, biV 64954 a (evV b 4), biV 64954 a (odV b 4)] ++ ((List.range 8).map fun (k : Nat) => one16 (k + 1)) ++ ((List.range 4).map fun (k : Nat) => evV b (k + 1)) ++ ((List.range 4).map fun (k : Nat) => odV b (k + 1)) ++ ((List.range 4).map fun (k : Nat) => smV a b (k + 1))
noncomputable def ssPath (a b : Nat → Int) (β : Nat → Fr) : Out := evPath (envS (ssK a b)) (envS (ssK sA sB)) 80 7 [.agg (bs a), .agg (bs b)] [.agg (bs sA), .agg (bs sB)] (.bool (eq16 (biV 64924 a b) (biV 64924 b a))) β
def ssL (f : Nat → Int) (i j : Int) (d : Nat → Int) : Bool × Bool := (getI d 32 i != Int.tmod (IntKind.u64.wrap (getI f 32 j + getI f 32 (j + 1))) 4294967296, false)
def ssD (a b : Nat → Int) : List (Bool × Bool) :=
  [(!(eq16 (biV 64954 a (one16 8)) (unV 64894 a)), false), (!(eq16 (biV 64954 a b) (biV 64954 b a)), false),
   ssL (biV 64956 a b) 0 0 (biV 64954 a b), ssL (biV 64956 a b) 1 2 (biV 64954 a b), ssL (biV 64957 a b) 2 0 (biV 64954 a b), ssL (biV 64957 a b) 3 2 (biV 64954 a b),
   (eq16 (smV a b 4) (biV 64954 a b), true)]
--EVTS ssTs | fun (a b : Nat → Int) (β : Nat → Fr) => (ssPath a b β, ssD a b)
def ssTs : List Nat := [7, 7, 0, 0, 7, 7, 7, 0, 0, 7, 7, 7, 0, 0, 0, 0, 0, 0, 0, 0, 0, 0, 0, 0, 0, 0, 0, 0, 0, 0, 0, 0, 0, 0, 0, 0, 0, 0, 0, 0, 0, 0, 0, 0, 0, 0, 0, 0, 0, 0, 0, 0, 0, 0, 0, 0, 0, 0, 0, 0, 0, 0, 0, 0, 0, 0, 6, 0, 0, 5, 0, 0, 4, 0, 0, 3, 0, 0, 0, 0, 0, 0, 0, 0, 2, 1, 1, 0, 0, 1, 1, 1, 0, 0, 1, 1, 1, 0, 0, 0, 0, 0, 0, 0, 0, 0, 0, 0, 0, 0, 0, 0, 0, 0]
theorem ss_byt (a b : Nat → Int) (ha : Byt a) (hb : Byt b) : ∀ x ∈ ssK a b, Byt x := by
  have h1 : ∀ k, Byt (evV b k) := fun k => by
    induction k with
    | zero => exact byt0
    | succ k ih => exact setI_byt ih _ _ _
  have h2 : ∀ k, Byt (odV b k) := fun k => by
    induction k with
    | zero => exact byt0
    | succ k ih => exact setI_byt ih _ _ _
  intro x hx
  unfold ssK at hx
  simp only [List.mem_append, List.mem_map, List.mem_cons, List.not_mem_nil, or_false] at hx
  rcases hx with (((hx | ⟨k, _, rfl⟩) | ⟨k, _, rfl⟩) | ⟨k, _, rfl⟩) | ⟨k, _, rfl⟩
  · rcases hx with rfl | rfl | rfl | rfl | rfl | rfl | rfl | rfl
    · exact ha
    · exact hb
    · exact byt0
    · exact bi_byt _ ha
    · exact bi_byt _ ha
    · exact bi_byt _ ha
    · exact bi_byt _ ha
    · exact bi_byt _ ha
  · exact ofK_byt byt0 _ _ _
  · exact h1 _
  · exact h2 _
  · exact ofK_byt byt0 _ _ _
/-! ### the facts -/
def dotF (a b : Nat → Int) (i : Nat) : Int := sgnI a 16 (2 * i) * sgnI b 16 (2 * i) + sgnI a 16 (2 * i + 1) * sgnI b 16 (2 * i + 1)
theorem dv32 : (4294967296 : Int) ∣ 18446744073709551616 := by decide
theorem d_lane (a b : Nat → Int) (ha : Byt a) (hb : Byt b) (i : Nat) (hi : i < 4) : getI (biV 64954 a b) 32 i = dotF a b i % 4294967296 := by
  have h1 := sgn_bd ha 16 65536 (by omega) (2 * (i : Int))
  have h2 := sgn_bd hb 16 65536 (by omega) (2 * (i : Int))
  have h3 := sgn_bd ha 16 65536 (by omega) (2 * (i : Int) + 1)
  have h4 := sgn_bd hb 16 65536 (by omega) (2 * (i : Int) + 1)
  have m1 := mul_in 32768 (sgnI a 16 (2 * (i : Int))) (sgnI b 16 (2 * (i : Int))) (by omega) (by omega) (by omega) (by omega)
  have m2 := mul_in 32768 (sgnI a 16 (2 * (i : Int) + 1)) (sgnI b 16 (2 * (i : Int) + 1)) (by omega) (by omega) (by omega) (by omega)
  rw [bi_64954]
  unfold dotF
  refine (lane_at 32 4294967296 4 (.inr (.inl ⟨rfl, rfl, rfl⟩)) _ _ i hi _ ?_).1
  rw [wrap_mod _ _ dv32, IntWalk.i64_in (sgnI a 16 (2 * (i : Int)) * sgnI b 16 (2 * (i : Int))) (by omega), IntWalk.i64_in (sgnI a 16 (2 * (i : Int) + 1) * sgnI b 16 (2 * (i : Int) + 1)) (by omega), IntWalk.i64_in _ (by omega)]
theorem one_lane (j : Int) (h0 : 0 ≤ j) (h1 : j < 8) : sgnI (one16 8) 16 j = 1 := by
  have := sg_of (fun _ => 0) (fun _ => 1) j.toNat (by omega) 1 (by decide) (by decide)
  rw [Int.toNat_of_nonneg h0] at this
  exact this
theorem eq_lanes {x y : Nat → Int} (hx : Byt x) (hy : Byt y) (h : ∀ i : Nat, i < 4 → getI x 32 i = getI y 32 i) : eq16 x y = true :=
  eq16_of (ext hx hy 32 (by omega) fun j hj => h j (by have := (there_iff.1 hj).2; unfold lanesI at this; simp at this; omega))
theorem one_byt16 : Byt (one16 8) := ofK_byt byt0 _ _ _
theorem f_ones (a : Nat → Int) (ha : Byt a) : eq16 (biV 64954 a (one16 8)) (unV 64894 a) = true := by
  refine eq_lanes (bi_byt _ ha) (un_byt _ ha) fun i hi => ?_
  rw [d_lane a _ ha one_byt16 i hi, un_64894]
  unfold dotF
  rw [one_lane _ (by omega) (by omega), one_lane _ (by omega) (by omega), Int.mul_one, Int.mul_one]
  exact ((lane_at 32 4294967296 4 (.inr (.inl ⟨rfl, rfl, rfl⟩)) _ _ i hi _ (wrap_add _ _ _ dv32)).1).symm
theorem f_comm (a b : Nat → Int) (ha : Byt a) (hb : Byt b) : eq16 (biV 64954 a b) (biV 64954 b a) = true := by
  refine eq_lanes (bi_byt _ ha) (bi_byt _ hb) fun i hi => ?_
  rw [d_lane a b ha hb i hi, d_lane b a hb ha i hi]
  unfold dotF
  rw [Int.mul_comm (sgnI a 16 (2 * (i : Int))), Int.mul_comm (sgnI a 16 (2 * (i : Int) + 1))]
theorem lo_lane (a b : Nat → Int) (j : Nat) (hj : j < 4) : getI (biV 64956 a b) 32 j = sgnI a 16 j * sgnI b 16 j % 4294967296 := by
  have S : ∀ c, getI (unV 64935 c) 32 j = IntKind.u64.wrap (sgnI c 16 j) % 4294967296 := fun c => by rw [un_64935]; exact (lane_at 32 4294967296 4 (.inr (.inl ⟨rfl, rfl, rfl⟩)) _ _ j hj _ rfl).1
  rw [bi_64956]
  refine (lane_at 32 4294967296 4 (.inr (.inl ⟨rfl, rfl, rfl⟩)) _ _ j hj _ ?_).1
  show IntKind.u64.wrap (getI (unV 64935 a) 32 j * getI (unV 64935 b) 32 j) % 4294967296 = _
  rw [S, S]
  exact mod_prod _ _ _ dv32
theorem hi_lane (a b : Nat → Int) (j : Nat) (hj : j < 4) : getI (biV 64957 a b) 32 j = sgnI a 16 (4 + (j : Int)) * sgnI b 16 (4 + (j : Int)) % 4294967296 := by
  have S : ∀ c, getI (unV 64936 c) 32 j = IntKind.u64.wrap (sgnI c 16 (4 + (j : Int))) % 4294967296 := fun c => by rw [un_64936]; exact (lane_at 32 4294967296 4 (.inr (.inl ⟨rfl, rfl, rfl⟩)) _ _ j hj _ rfl).1
  rw [bi_64957]
  refine (lane_at 32 4294967296 4 (.inr (.inl ⟨rfl, rfl, rfl⟩)) _ _ j hj _ ?_).1
  show IntKind.u64.wrap (getI (unV 64936 a) 32 j * getI (unV 64936 b) 32 j) % 4294967296 = _
  rw [S, S]
  exact mod_prod _ _ _ dv32
theorem two_mod (p q : Int) : (p + q) % 4294967296 = Int.tmod (IntKind.u64.wrap (p % 4294967296 + q % 4294967296)) 4294967296 := by
  have h0 : 0 ≤ IntKind.u64.wrap (p % 4294967296 + q % 4294967296) := by rw [IntKind.wrap_u64]; omega
  rw [Int.tmod_eq_emod_of_nonneg h0, IntKind.wrap_u64]
  omega
theorem ev_lane (b : Nat → Int) (hb : Byt b) : (∀ j : Nat, j < 4 → getI (evV b 4) 16 (2 * j) = getI b 16 (2 * j) ∧ getI (evV b 4) 16 (2 * j + 1) = 0) ∧ ∀ j : Nat, j < 4 → getI (odV b 4) 16 (2 * j) = 0 ∧ getI (odV b 4) 16 (2 * j + 1) = getI b 16 (2 * j + 1) := by
  have ht : ∀ i : Int, 0 ≤ i → i < 8 → thereB 16 i = true := fun i h0 h1 => there_iff.2 ⟨h0, by unfold lanesI; simp; omega⟩
  have hm : ∀ i, getI b 16 i % 256 ^ wid 16 = getI b 16 i := fun i => by
    have := getI_bd hb 16 i
    exact Int.emod_eq_of_lt this.1 this.2
  have hz : ∀ i, getI (fun _ => 0) 16 i = 0 := fun i => by
    unfold getI
    split
    · have : ∀ base k, sumN (fun _ => 0) base k = 0 := fun base k => by
        induction k with
        | zero => rfl
        | succ k ih => rw [sumN, ih]; simp
      exact this _ _
    · rfl
  have key : ∀ k : Nat, k ≤ 4 → (∀ j : Nat, j < k → getI (evV b k) 16 (2 * j) = getI b 16 (2 * j)) ∧ (∀ j : Nat, getI (evV b k) 16 (2 * j + 1) = 0) ∧ (∀ j : Nat, j < k → getI (odV b k) 16 (2 * j + 1) = getI b 16 (2 * j + 1)) ∧ ∀ j : Nat, getI (odV b k) 16 (2 * j) = 0 := by
    intro k
    induction k with
    | zero => exact fun _ => ⟨fun j hj => by omega, fun j => hz _, fun j hj => by omega, fun j => hz _⟩
    | succ k ih =>
      intro hk
      obtain ⟨h1, h2, h3, h4⟩ := ih (by omega)
      refine ⟨fun j hj => ?_, fun j => ?_, fun j hj => ?_, fun j => ?_⟩
      · rw [evV]
        by_cases h : j = k
        · subst h; rw [get_set _ _ _ _ (ht _ (by omega) (by omega)), hm]
        · rw [get_set_other _ _ _ _ _ (show 2 * (k : Int) ≠ 2 * (j : Int) by omega)]; exact h1 j (by omega)
      · rw [evV, get_set_other _ _ _ _ _ (show 2 * (k : Int) ≠ 2 * (j : Int) + 1 by omega)]; exact h2 j
      · rw [odV]
        by_cases h : j = k
        · subst h; rw [get_set _ _ _ _ (ht _ (by omega) (by omega)), hm]
        · rw [get_set_other _ _ _ _ _ (show 2 * (k : Int) + 1 ≠ 2 * (j : Int) + 1 by omega)]; exact h3 j (by omega)
      · rw [odV, get_set_other _ _ _ _ _ (show 2 * (k : Int) + 1 ≠ 2 * (j : Int) by omega)]; exact h4 j
  obtain ⟨h1, h2, h3, h4⟩ := key 4 (by omega)
  exact ⟨fun j hj => ⟨h1 j hj, h2 j⟩, fun j hj => ⟨h4 j, h3 j hj⟩⟩
theorem sg_eq {x y : Nat → Int} {i : Int} (h : getI x 16 i = getI y 16 i) : sgnI x 16 i = sgnI y 16 i := by unfold sgnI; rw [h]
theorem sg_0 {x : Nat → Int} {i : Int} (h : getI x 16 i = 0) : sgnI x 16 i = 0 := by
  unfold sgnI
  rw [h]
  split
  · decide
  · rfl
theorem evB (b : Nat → Int) : Byt (evV b 4) ∧ Byt (odV b 4) := ⟨setI_byt (setI_byt (setI_byt (setI_byt byt0 _ _ _) _ _ _) _ _ _) _ _ _, setI_byt (setI_byt (setI_byt (setI_byt byt0 _ _ _) _ _ _) _ _ _) _ _ _⟩
theorem f_sum (a b : Nat → Int) (ha : Byt a) (hb : Byt b) : eq16 (smV a b 4) (biV 64954 a b) = true := by
  refine eq_lanes (ofK_byt byt0 _ _ _) (bi_byt _ ha) fun i hi => ?_
  obtain ⟨h1, h2⟩ := ev_lane b hb
  rw [d_lane a b ha hb i hi]
  refine (lane_at 32 4294967296 4 (.inr (.inl ⟨rfl, rfl, rfl⟩)) _ _ i hi (dotF a b i) ?_).1
  show IntKind.u64.wrap (getI (biV 64954 a (evV b 4)) 32 i + getI (biV 64954 a (odV b 4)) 32 i) % 4294967296 = _
  rw [d_lane a _ ha (evB b).1 i hi, d_lane a _ ha (evB b).2 i hi, wrap_mod _ _ dv32, ← Int.add_emod]
  unfold dotF
  rw [sg_eq (h1 i hi).1, sg_0 (h1 i hi).2, sg_0 (h2 i hi).1, sg_eq (h2 i hi).2]
  simp
theorem f_swap (a b : Nat → Int) (ha : Byt a) (hb : Byt b) : eq16 (biV 64924 a b) (biV 64924 b a) = true := by
  refine eq16_of (ext (bi_byt _ ha) (bi_byt _ hb) 16 (by omega) fun j hj => ?_)
  have hj8 : j < 8 := by have := (there_iff.1 hj).2; unfold lanesI at this; simp at this; omega
  rw [bi_64924, bi_64924, get_ofK _ _ _ j hj, get_ofK _ _ _ j hj, if_pos hj8, if_pos hj8, Int.mul_comm]
theorem ss_fact (d f : Nat → Int) (p q i j : Int) (e2 : getI d 32 i = (p + q) % 4294967296) (e0 : getI f 32 j = p % 4294967296) (e1 : getI f 32 (j + 1) = q % 4294967296) : (ssL f i j d).1 = (ssL f i j d).2 :=
  ne_false (e2.trans ((two_mod p q).trans (by rw [← e0, ← e1])))
theorem ssD_ok (a b : Nat → Int) (ha : Byt a) (hb : Byt b) : ∀ p ∈ ssD a b, p.1 = p.2 := by
  intro p hp
  unfold ssD at hp
  simp only [List.mem_cons, List.not_mem_nil, or_false] at hp
  rcases hp with rfl | rfl | rfl | rfl | rfl | rfl | rfl
  · rw [f_ones a ha]; rfl
  · rw [f_comm a b ha hb]; rfl
  · exact ss_fact _ _ _ _ 0 0 (d_lane a b ha hb 0 (by omega)) (lo_lane a b 0 (by omega)) (lo_lane a b 1 (by omega))
  · exact ss_fact _ _ _ _ 1 2 (d_lane a b ha hb 1 (by omega)) (lo_lane a b 2 (by omega)) (lo_lane a b 3 (by omega))
  · exact ss_fact _ _ _ _ 2 0 (d_lane a b ha hb 2 (by omega)) (hi_lane a b 0 (by omega)) (hi_lane a b 1 (by omega))
  · exact ss_fact _ _ _ _ 3 2 (d_lane a b ha hb 3 (by omega)) (hi_lane a b 2 (by omega)) (hi_lane a b 3 (by omega))
  · exact f_sum a b ha hb
theorem sums_walk (a b : Nat → Int) (ha : Byt a) (hb : Byt b) (w : World) : Calls Try.prog 7 #[.agg (bs a), .agg (bs b)] w fun e w' => e = .returned (.bool true) ∧ Gr w w' := by
  have h := ev_path (E := envS (ssK a b)) (E' := envS (ssK sA sB)) rfl (sumS_ok _ (ss_byt a b ha hb)) (fuel := 80) (f := 7) (args := [.agg (bs a), .agg (bs b)]) (args' := [.agg (bs sA), .agg (bs sB)]) (v := .bool (eq16 (biV 64924 a b) (biV 64924 b a))) (ssD a b) ssTs (ssD_ok a b ha hb) (fun β => by kernel_rfl) w
  rw [f_swap a b ha hb] at h
  exact h
end Wd
end Go.Proofs.Ytkccaaieadgdbaa
