/-
  PairLanes: for every list of vectors, widths, lanes and numbers the law returns true. No condition.
-/
import Derived.Test.YthdklnkaeddogabSetsM
namespace Go.Proofs.Ythdklnkaeddogab
open Go.RowKit VecM
theorem atC_one (b : Nat → Int) (a i x : Int) : (atC b a i x).all (·.oneCell') = true := by kernel_rfl
def notU (x : Int) : Int := bits .xor .u64 (if IntKind.u64.signed = true then -1 else IntKind.u64.max) x
theorem notU_bd {x : Int} (h : 0 ≤ x ∧ x < 18446744073709551616) : 0 ≤ notU x ∧ notU x < 18446744073709551616 := by
  obtain ⟨n, rfl⟩ := Int.eq_ofNat_of_zero_le h.1
  have h1 := bits_xor_u64_nat 18446744073709551615 n (by omega) (by omega)
  have h2 : 18446744073709551615 ^^^ n < 2 ^ 64 := Nat.xor_lt_two_pow (by omega) (by omega)
  have e : notU (n : Int) = ((18446744073709551615 ^^^ n : Nat) : Int) := h1
  rw [e]
  omega
theorem info28s (b : Nat → Int) (a i x : Int) : (Try.prog.info? 28).map (·.size) = some (atC b a i x).size := by rw [sz28]; exact info28
def Ats (w : World) (sv : Value) (len : Nat) (B : Nat → Nat → Int) (A I X : Nat → Int) : Prop :=
  (len = 0 ∧ ∃ x c, sv = .slice x 0 c) ∨ (len ≤ 9223372036854775807 ∧ ∃ g off cap, sv = .slice (some ⟨g, off, none⟩) len cap ∧ ∀ k, k < len → ∀ j u, (atC (B k) (A k) (I k) (X k)).toList[j]? = some u → w.cell? ⟨g, off + k * 19 + j, none⟩ = some u)
def ΦL7 (b : Nat → Int) (a i : Int) (wk : World) (k : Nat) (v : Value) (_wn : World) : Prop :=
  match k with
  | 0 => v = (.pointer (some ⟨wk.heap.size, 16, none⟩))
  | 1 => v = (.int .i64 a)
  | 2 => v = (.int .i64 (lanesI a))
  | 3 => v = (.pointer (some ⟨wk.heap.size, 16, none⟩))
  | 4 => v = (.int .i64 a)
  | 5 => v = (.int .i64 (lanesI a))
  | 6 => v = (.bool false)
  | 7 => v = (.bool false)
  | 8 => v = (.pointer (some ⟨wk.heap.size, 0, none⟩))
  | 9 => v = (.agg (bs b))
  | 10 => v = (.pointer (some ⟨wk.heap.size, 16, none⟩))
  | 11 => v = (.int .i64 a)
  | 12 => v = (.pointer (some ⟨wk.heap.size, 17, none⟩))
  | 13 => v = (.int .i64 i)
  | 14 => v = (.int .u64 (getI b a i))
  | 15 => v = (.pointer (some ⟨wk.heap.size, 0, none⟩))
  | 16 => v = (.agg (bs b))
  | 17 => v = (.pointer (some ⟨wk.heap.size, 16, none⟩))
  | 18 => v = (.int .i64 a)
  | 19 => v = (.pointer (some ⟨wk.heap.size, 17, none⟩))
  | 20 => v = (.int .i64 i)
  | 21 => v = (.int .u64 (getI b a i))
  | 22 => v = (.bool false)
  | 23 => v = (.bool false)
  | 24 => v = (.bool false)
  | 25 => v = (.pointer (some ⟨wk.heap.size, 0, none⟩))
  | 26 => v = (.agg (bs b))
  | 27 => v = (.pointer (some ⟨wk.heap.size, 16, none⟩))
  | 28 => v = (.int .i64 a)
  | 29 => v = (.pointer (some ⟨wk.heap.size, 17, none⟩))
  | 30 => v = (.int .i64 i)
  | 31 => v = (.int .i64 (sgnI b a i))
  | 32 => v = (.pointer (some ⟨wk.heap.size, 0, none⟩))
  | 33 => v = (.agg (bs b))
  | 34 => v = (.pointer (some ⟨wk.heap.size, 16, none⟩))
  | 35 => v = (.int .i64 a)
  | 36 => v = (.pointer (some ⟨wk.heap.size, 17, none⟩))
  | 37 => v = (.int .i64 i)
  | 38 => v = (.int .i64 (sgnI b a i))
  | 39 => v = (.bool false)
  | 40 => v = (.bool false)
  | _ => True
theorem ΦL7_mono (b : Nat → Int) (a i : Int) (wk : World) : ∀ k v wn wn', Gr wn wn' → ΦL7 b a i wk k v wn → ΦL7 b a i wk k v wn' := by
  intro k v wn wn' hg h
  match k with
  | 0 => exact h
  | 1 => exact h
  | 2 => exact h
  | 3 => exact h
  | 4 => exact h
  | 5 => exact h
  | 6 => exact h
  | 7 => exact h
  | 8 => exact h
  | 9 => exact h
  | 10 => exact h
  | 11 => exact h
  | 12 => exact h
  | 13 => exact h
  | 14 => exact h
  | 15 => exact h
  | 16 => exact h
  | 17 => exact h
  | 18 => exact h
  | 19 => exact h
  | 20 => exact h
  | 21 => exact h
  | 22 => exact h
  | 23 => exact h
  | 24 => exact h
  | 25 => exact h
  | 26 => exact h
  | 27 => exact h
  | 28 => exact h
  | 29 => exact h
  | 30 => exact h
  | 31 => exact h
  | 32 => exact h
  | 33 => exact h
  | 34 => exact h
  | 35 => exact h
  | 36 => exact h
  | 37 => exact h
  | 38 => exact h
  | 39 => exact h
  | 40 => exact h
  | k + 41 => trivial
def ΦL9 (b : Nat → Int) (a i x : Int) (wk : World) (k : Nat) (v : Value) (wn : World) : Prop :=
  match k with
  | 0 => v = (.pointer (some ⟨wk.heap.size, 0, none⟩))
  | 1 => v = (.agg (bs b))
  | 2 => v = (.pointer (some ⟨wk.heap.size, 16, none⟩))
  | 3 => v = (.int .i64 a)
  | 4 => v = (.pointer (some ⟨wk.heap.size, 17, none⟩))
  | 5 => v = (.int .i64 i)
  | 6 => v = (.pointer (some ⟨wk.heap.size, 18, none⟩))
  | 7 => v = (.int .u64 x)
  | 8 => v = (.agg (bs (setI b a i x)))
  | 9 => v = (.pointer (some ⟨wk.heap.size, 0, none⟩))
  | 10 => v = (.agg (bs b))
  | 11 => v = (.pointer (some ⟨wk.heap.size, 16, none⟩))
  | 12 => v = (.int .i64 a)
  | 13 => v = (.pointer (some ⟨wk.heap.size, 17, none⟩))
  | 14 => v = (.int .i64 i)
  | 15 => v = (.pointer (some ⟨wk.heap.size, 18, none⟩))
  | 16 => v = (.int .u64 x)
  | 17 => v = (.agg (bs (setI b a i x)))
  | 18 => v = (.bool false)
  | 19 => v = (.bool false)
  | 20 => v = (.pointer (some ⟨wk.heap.size, 0, none⟩))
  | 21 => v = (.agg (bs b))
  | 22 => v = (.pointer (some ⟨wk.heap.size, 16, none⟩))
  | 23 => v = (.int .i64 a)
  | 24 => U64s wn v (lanesI a).toNat (fun j => getI b a j)
  | 25 => v = (.pointer (some ⟨wk.heap.size, 0, none⟩))
  | 26 => v = (.agg (bs b))
  | 27 => v = (.pointer (some ⟨wk.heap.size, 16, none⟩))
  | 28 => v = (.int .i64 a)
  | 29 => U64s wn v (lanesI a).toNat (fun j => getI b a j)
  | 30 => v = (.bool true)
  | 31 => v = (.bool false)
  | 32 => v = (.bool false)
  | _ => True
theorem ΦL9_mono (b : Nat → Int) (a i x : Int) (wk : World) : ∀ k v wn wn', Gr wn wn' → ΦL9 b a i x wk k v wn → ΦL9 b a i x wk k v wn' := by
  intro k v wn wn' hg h
  match k with
  | 0 => exact h
  | 1 => exact h
  | 2 => exact h
  | 3 => exact h
  | 4 => exact h
  | 5 => exact h
  | 6 => exact h
  | 7 => exact h
  | 8 => exact h
  | 9 => exact h
  | 10 => exact h
  | 11 => exact h
  | 12 => exact h
  | 13 => exact h
  | 14 => exact h
  | 15 => exact h
  | 16 => exact h
  | 17 => exact h
  | 18 => exact h
  | 19 => exact h
  | 20 => exact h
  | 21 => exact h
  | 22 => exact h
  | 23 => exact h
  | 24 => exact u64s_gr h hg
  | 25 => exact h
  | 26 => exact h
  | 27 => exact h
  | 28 => exact h
  | 29 => exact u64s_gr h hg
  | 30 => exact h
  | 31 => exact h
  | 32 => exact h
  | k + 33 => trivial
def ΦL11 (b : Nat → Int) (x : Int) (wk : World) (k : Nat) (v : Value) (_wn : World) : Prop :=
  match k with
  | 0 => v = (.pointer (some ⟨wk.heap.size, 0, none⟩))
  | 1 => v = (.agg (bs b))
  | 2 => v = (.agg #[.int .u64 (getI b 64 0), .int .u64 (getI b 64 1)])
  | 3 => v = (.pointer (some ⟨wk.heap.size, 0, none⟩))
  | 4 => v = (.agg (bs b))
  | 5 => v = (.agg #[.int .u64 (getI b 64 0), .int .u64 (getI b 64 1)])
  | 6 => v = (.bool false)
  | 7 => v = (.bool false)
  | 8 => v = (.pointer (some ⟨wk.heap.size, 18, none⟩))
  | 9 => v = (.int .u64 x)
  | 10 => v = (.pointer (some ⟨wk.heap.size, 18, none⟩))
  | 11 => v = (.int .u64 x)
  | 12 => v = (.int .u64 (notU x))
  | 13 => v = (.agg #[.int .u64 x, .int .u64 (notU x)])
  | 14 => v = (.agg (bs (ofK (fun _ => 0) 64 (fun j => if j = 0 then x else notU x) 2)))
  | 15 => v = (.pointer (some ⟨wk.heap.size, 18, none⟩))
  | 16 => v = (.int .u64 x)
  | 17 => v = (.pointer (some ⟨wk.heap.size, 18, none⟩))
  | 18 => v = (.int .u64 x)
  | 19 => v = (.int .u64 (notU x))
  | 20 => v = (.agg #[.int .u64 x, .int .u64 (notU x)])
  | 21 => v = (.agg (bs (ofK (fun _ => 0) 64 (fun j => if j = 0 then x else notU x) 2)))
  | 22 => v = (.bool false)
  | 23 => v = (.bool false)
  | _ => True
theorem ΦL11_mono (b : Nat → Int) (x : Int) (wk : World) : ∀ k v wn wn', Gr wn wn' → ΦL11 b x wk k v wn → ΦL11 b x wk k v wn' := by
  intro k v wn wn' hg h
  match k with
  | 0 => exact h
  | 1 => exact h
  | 2 => exact h
  | 3 => exact h
  | 4 => exact h
  | 5 => exact h
  | 6 => exact h
  | 7 => exact h
  | 8 => exact h
  | 9 => exact h
  | 10 => exact h
  | 11 => exact h
  | 12 => exact h
  | 13 => exact h
  | 14 => exact h
  | 15 => exact h
  | 16 => exact h
  | 17 => exact h
  | 18 => exact h
  | 19 => exact h
  | 20 => exact h
  | 21 => exact h
  | 22 => exact h
  | 23 => exact h
  | k + 24 => trivial
set_option maxRecDepth 100000 in
set_option maxHeartbeats 8000000 in
theorem lanes_some (g off cap len : Nat) (B : Nat → Nat → Int) (A I X : Nat → Int) (hB : ∀ k, Byt (B k)) (hX : ∀ k, 0 ≤ X k ∧ X k < 18446744073709551616) (hl : len ≤ 9223372036854775807) (w : World)
    (hc : ∀ k, k < len → ∀ j u, (atC (B k) (A k) (I k) (X k)).toList[j]? = some u → w.cell? ⟨g, off + k * 19 + j, none⟩ = some u) :
    Calls Try.prog 3 #[.slice (some ⟨g, off, none⟩) len cap] w fun e w' => e = .returned (.bool true) ∧ Gr w w' := by
  have HBB := Lib.hid hB
  have HXX := Lib.hid hX
  have HC := Lib.hid hc
  clear hB hX hc
  go_enter Try.func3, Try.ntmps3
  go_wp2_with (go_at_call 10; refine (Aw.awake _).mono ?_; rintro e w1 ⟨rfl, hg1⟩; have HG1 := Lib.hid hg1; clear hg1)
  go_loopw [3] (fun u wr => ∃ (k : Nat) (wk : World), wk = wr ∧ k ≤ len ∧ u = .int .i64 k ∧ Gr w wk) (fun u _ => len - (intOf u).toNat)
  case atStart => exact ⟨0, _, rfl, by omega, rfl, HG1.out⟩
  case round =>
    obtain ⟨k, wk, rfl, hk, rfl, hg⟩ := hrel
    have HG := Lib.hid hg
    clear hg
    by_cases hlt : k < len
    · have hcell := HC.out k hlt
      have hBy := HBB.out k
      have hXb := HXX.out k
      generalize B k = b at *
      generalize A k = a at *
      generalize I k = i at *
      generalize X k = x at *
      have HBy := Lib.hid hBy
      have HXb := Lib.hid hXb
      have HL := Lib.hid (show ∀ j u, (atC b a i x).toList[j]? = some u → wk.cell? ⟨g, off + k * 19 + j, none⟩ = some u from fun j u hu => gr_cell HG.out (hcell j u hu))
      clear hcell hBy hXb
      go_upto_region 7 with (first | (refine wpList_load_cells rfl 28 _ rfl g (off + k * 19) rfl (atC b a i x) _ HL.out Try.underlying28 rfl (info28s _ _ _ _) ?_) | (refine wpList_store_row rfl 28 _ _ rfl wk.heap.size (atC b a i x) rfl rfl 28 (atC (fun _ => 0) 0 0 0) (heap_alloc_new wk _) (info28s _ _ _ _) rfl (atC_one _ _ _ _) ?_; rw [World.setRow_alloc_new]))
      have hrow := heap_alloc_new wk (.cells (atC b a i x) 28)
      have hv0 : ∀ j u, (bs b).toList[j]? = some u → (wk.alloc (.cells (atC b a i x) 28)).cell? ⟨wk.heap.size, j, none⟩ = some u := fun j u h => (cell_of_row _ _ j _ _ _ hrow).trans (atC_get b a i x j u h)
      have HV := Lib.hid hv0
      have HA := Lib.hid ((cell_of_row _ _ 16 _ _ _ hrow).trans (atC_1 b a i x))
      have HI := Lib.hid ((cell_of_row _ _ 17 _ _ _ hrow).trans (atC_2 b a i x))
      have HX := Lib.hid ((cell_of_row _ _ 18 _ _ _ hrow).trans (atC_3 b a i x))
      have HGr := Lib.hid (Gr.drew (Gr.refl (wk.alloc (.cells (atC b a i x) 28))))
      have HN0 := Lib.hid (gr_trans HG.out ((Gr.refl wk).allocO (.cells (atC b a i x) 28)))
      clear hrow hv0
      generalize wk.alloc (.cells (atC b a i x) 28) = W3 at *
      refine wp_region_net (ΦL7 b a i wk) (by kernel_rfl) (by kernel_rfl) (ΦL7_mono b a i wk) ?_ ?_
      · refine ⟨?_, ?_, ?_, ?_, ?_, ?_, ?_, ?_, ?_, ?_, ?_, ?_, ?_, ?_, ?_, ?_, ?_, ?_, ?_, ?_, ?_, ?_, ?_, ?_, ?_, ?_, ?_, ?_, ?_, ?_, ?_, ?_, ?_, ?_, ?_, ?_, ?_, ?_, ?_, ?_, ?_, trivial⟩
        · refine NetStep.of rfl fun ρ wx hw hρc hρf hin hdep => ?_
          have e4 : ρ (.tmp 4) = (.pointer (some ⟨wk.heap.size, 0, none⟩)) := hin 4 (by kernel_rfl)
          go_simp
          exact ⟨rfl, Gr.refl _⟩
        · refine NetStep.of rfl fun ρ wx hw hρc hρf hin hdep => ?_
          have e17 : ρ (.tmp 17) = (.pointer (some ⟨wk.heap.size, 16, none⟩)) := hdep 0 17 (by kernel_rfl)
          have hcx := gr_cell (gr_trans HGr.out hw) HA.out
          go_simp
          exact ⟨rfl, Gr.refl _⟩
        · refine NetStep.of rfl fun ρ wx hw hρc hρf hin hdep => ?_
          have e18 : ρ (.tmp 18) = (.int .i64 a) := hdep 1 18 (by kernel_rfl)
          go_simp
          exact (lanes_any a wx).mono fun e w4 h => ⟨_, h.1, rfl, h.2 ▸ Gr.refl _⟩
        · refine NetStep.of rfl fun ρ wx hw hρc hρf hin hdep => ?_
          have e4 : ρ (.tmp 4) = (.pointer (some ⟨wk.heap.size, 0, none⟩)) := hin 4 (by kernel_rfl)
          go_simp
          exact ⟨rfl, Gr.refl _⟩
        · refine NetStep.of rfl fun ρ wx hw hρc hρf hin hdep => ?_
          have e20 : ρ (.tmp 20) = (.pointer (some ⟨wk.heap.size, 16, none⟩)) := hdep 3 20 (by kernel_rfl)
          have hcx := gr_cell (gr_trans HGr.out hw) HA.out
          go_simp
          exact ⟨rfl, Gr.refl _⟩
        · refine NetStep.of rfl fun ρ wx hw hρc hρf hin hdep => ?_
          have e21 : ρ (.tmp 21) = (.int .i64 a) := hdep 4 21 (by kernel_rfl)
          go_simp
          exact (rlanes_any a wx).mono fun e w4 h => ⟨_, h.1, rfl, h.2 ▸ Gr.refl _⟩
        · refine NetStep.of rfl fun ρ wx hw hρc hρf hin hdep => ?_
          have e19 : ρ (.tmp 19) = (.int .i64 (lanesI a)) := hdep 2 19 (by kernel_rfl)
          have e22 : ρ (.tmp 22) = (.int .i64 (lanesI a)) := hdep 5 22 (by kernel_rfl)
          go_simp
          exact ⟨rfl, Gr.refl _⟩
        · refine NetStep.of rfl fun ρ wx hw hρc hρf hin hdep => ?_
          have e23 : ρ (.tmp 23) = (.bool false) := hdep 6 23 (by kernel_rfl)
          go_simp
          exact ⟨rfl, Gr.refl _⟩
        · refine NetStep.guarded rfl 24 (by kernel_rfl) (fun _ _ h => h) fun ρ wx hw hρc hρf hin hdep => ?_
          have e4 : ρ (.tmp 4) = (.pointer (some ⟨wk.heap.size, 0, none⟩)) := hin 4 (by kernel_rfl)
          go_simp
          exact ⟨rfl, Gr.refl _⟩
        · refine NetStep.guarded rfl 24 (by kernel_rfl) (fun _ _ h => h) fun ρ wx hw hρc hρf hin hdep => ?_
          have e25 : ρ (.tmp 25) = (.pointer (some ⟨wk.heap.size, 0, none⟩)) := hdep 8 25 (by kernel_rfl)
          exact net_load_cells 25 _ rfl wk.heap.size 0 e25 (bs b) _ (fun j u hu => by rw [Nat.zero_add]; exact HV.out j u hu) (gr_trans HGr.out hw) Try.underlying25 rfl infoV rfl
        · refine NetStep.guarded rfl 24 (by kernel_rfl) (fun _ _ h => h) fun ρ wx hw hρc hρf hin hdep => ?_
          have e4 : ρ (.tmp 4) = (.pointer (some ⟨wk.heap.size, 0, none⟩)) := hin 4 (by kernel_rfl)
          go_simp
          exact ⟨rfl, Gr.refl _⟩
        · refine NetStep.guarded rfl 24 (by kernel_rfl) (fun _ _ h => h) fun ρ wx hw hρc hρf hin hdep => ?_
          have e27 : ρ (.tmp 27) = (.pointer (some ⟨wk.heap.size, 16, none⟩)) := hdep 10 27 (by kernel_rfl)
          have hcx := gr_cell (gr_trans HGr.out hw) HA.out
          go_simp
          exact ⟨rfl, Gr.refl _⟩
        · refine NetStep.guarded rfl 24 (by kernel_rfl) (fun _ _ h => h) fun ρ wx hw hρc hρf hin hdep => ?_
          have e4 : ρ (.tmp 4) = (.pointer (some ⟨wk.heap.size, 0, none⟩)) := hin 4 (by kernel_rfl)
          go_simp
          exact ⟨rfl, Gr.refl _⟩
        · refine NetStep.guarded rfl 24 (by kernel_rfl) (fun _ _ h => h) fun ρ wx hw hρc hρf hin hdep => ?_
          have e29 : ρ (.tmp 29) = (.pointer (some ⟨wk.heap.size, 17, none⟩)) := hdep 12 29 (by kernel_rfl)
          have hcx := gr_cell (gr_trans HGr.out hw) HI.out
          go_simp
          exact ⟨rfl, Gr.refl _⟩
        · refine NetStep.guarded rfl 24 (by kernel_rfl) (fun _ _ h => h) fun ρ wx hw hρc hρf hin hdep => ?_
          have e26 : ρ (.tmp 26) = (.agg (bs b)) := hdep 9 26 (by kernel_rfl)
          have e28 : ρ (.tmp 28) = (.int .i64 a) := hdep 11 28 (by kernel_rfl)
          have e30 : ρ (.tmp 30) = (.int .i64 i) := hdep 13 30 (by kernel_rfl)
          go_simp
          exact (get_any b HBy.out a i wx).mono fun e w4 h => ⟨_, h.1, rfl, h.2⟩
        · refine NetStep.guarded rfl 24 (by kernel_rfl) (fun _ _ h => h) fun ρ wx hw hρc hρf hin hdep => ?_
          have e4 : ρ (.tmp 4) = (.pointer (some ⟨wk.heap.size, 0, none⟩)) := hin 4 (by kernel_rfl)
          go_simp
          exact ⟨rfl, Gr.refl _⟩
        · refine NetStep.guarded rfl 24 (by kernel_rfl) (fun _ _ h => h) fun ρ wx hw hρc hρf hin hdep => ?_
          have e32 : ρ (.tmp 32) = (.pointer (some ⟨wk.heap.size, 0, none⟩)) := hdep 15 32 (by kernel_rfl)
          exact net_load_cells 25 _ rfl wk.heap.size 0 e32 (bs b) _ (fun j u hu => by rw [Nat.zero_add]; exact HV.out j u hu) (gr_trans HGr.out hw) Try.underlying25 rfl infoV rfl
        · refine NetStep.guarded rfl 24 (by kernel_rfl) (fun _ _ h => h) fun ρ wx hw hρc hρf hin hdep => ?_
          have e4 : ρ (.tmp 4) = (.pointer (some ⟨wk.heap.size, 0, none⟩)) := hin 4 (by kernel_rfl)
          go_simp
          exact ⟨rfl, Gr.refl _⟩
        · refine NetStep.guarded rfl 24 (by kernel_rfl) (fun _ _ h => h) fun ρ wx hw hρc hρf hin hdep => ?_
          have e34 : ρ (.tmp 34) = (.pointer (some ⟨wk.heap.size, 16, none⟩)) := hdep 17 34 (by kernel_rfl)
          have hcx := gr_cell (gr_trans HGr.out hw) HA.out
          go_simp
          exact ⟨rfl, Gr.refl _⟩
        · refine NetStep.guarded rfl 24 (by kernel_rfl) (fun _ _ h => h) fun ρ wx hw hρc hρf hin hdep => ?_
          have e4 : ρ (.tmp 4) = (.pointer (some ⟨wk.heap.size, 0, none⟩)) := hin 4 (by kernel_rfl)
          go_simp
          exact ⟨rfl, Gr.refl _⟩
        · refine NetStep.guarded rfl 24 (by kernel_rfl) (fun _ _ h => h) fun ρ wx hw hρc hρf hin hdep => ?_
          have e36 : ρ (.tmp 36) = (.pointer (some ⟨wk.heap.size, 17, none⟩)) := hdep 19 36 (by kernel_rfl)
          have hcx := gr_cell (gr_trans HGr.out hw) HI.out
          go_simp
          exact ⟨rfl, Gr.refl _⟩
        · refine NetStep.guarded rfl 24 (by kernel_rfl) (fun _ _ h => h) fun ρ wx hw hρc hρf hin hdep => ?_
          have e33 : ρ (.tmp 33) = (.agg (bs b)) := hdep 16 33 (by kernel_rfl)
          have e35 : ρ (.tmp 35) = (.int .i64 a) := hdep 18 35 (by kernel_rfl)
          have e37 : ρ (.tmp 37) = (.int .i64 i) := hdep 20 37 (by kernel_rfl)
          go_simp
          exact (rget_any b HBy.out a i wx).mono fun e w4 h => ⟨_, h.1, rfl, h.2⟩
        · refine NetStep.guarded rfl 24 (by kernel_rfl) (fun _ _ h => h) fun ρ wx hw hρc hρf hin hdep => ?_
          have e31 : ρ (.tmp 31) = (.int .u64 (getI b a i)) := hdep 14 31 (by kernel_rfl)
          have e38 : ρ (.tmp 38) = (.int .u64 (getI b a i)) := hdep 21 38 (by kernel_rfl)
          go_simp
          exact ⟨rfl, Gr.refl _⟩
        · refine NetStep.of rfl fun ρ wx hw hρc hρf hin hdep => ?_
          have e24 : ρ (.tmp 24) = (.bool false) := hdep 7 24 (by kernel_rfl)
          have e39 : ρ (.tmp 39) = (.bool false) := hdep 22 39 (by kernel_rfl)
          go_simp
          exact ⟨rfl, Gr.refl _⟩
        · refine NetStep.of rfl fun ρ wx hw hρc hρf hin hdep => ?_
          have e40 : ρ (.tmp 40) = (.bool false) := hdep 23 40 (by kernel_rfl)
          go_simp
          exact ⟨rfl, Gr.refl _⟩
        · refine NetStep.guarded rfl 41 (by kernel_rfl) (fun _ _ h => h) fun ρ wx hw hρc hρf hin hdep => ?_
          have e4 : ρ (.tmp 4) = (.pointer (some ⟨wk.heap.size, 0, none⟩)) := hin 4 (by kernel_rfl)
          go_simp
          exact ⟨rfl, Gr.refl _⟩
        · refine NetStep.guarded rfl 41 (by kernel_rfl) (fun _ _ h => h) fun ρ wx hw hρc hρf hin hdep => ?_
          have e42 : ρ (.tmp 42) = (.pointer (some ⟨wk.heap.size, 0, none⟩)) := hdep 25 42 (by kernel_rfl)
          exact net_load_cells 25 _ rfl wk.heap.size 0 e42 (bs b) _ (fun j u hu => by rw [Nat.zero_add]; exact HV.out j u hu) (gr_trans HGr.out hw) Try.underlying25 rfl infoV rfl
        · refine NetStep.guarded rfl 41 (by kernel_rfl) (fun _ _ h => h) fun ρ wx hw hρc hρf hin hdep => ?_
          have e4 : ρ (.tmp 4) = (.pointer (some ⟨wk.heap.size, 0, none⟩)) := hin 4 (by kernel_rfl)
          go_simp
          exact ⟨rfl, Gr.refl _⟩
        · refine NetStep.guarded rfl 41 (by kernel_rfl) (fun _ _ h => h) fun ρ wx hw hρc hρf hin hdep => ?_
          have e44 : ρ (.tmp 44) = (.pointer (some ⟨wk.heap.size, 16, none⟩)) := hdep 27 44 (by kernel_rfl)
          have hcx := gr_cell (gr_trans HGr.out hw) HA.out
          go_simp
          exact ⟨rfl, Gr.refl _⟩
        · refine NetStep.guarded rfl 41 (by kernel_rfl) (fun _ _ h => h) fun ρ wx hw hρc hρf hin hdep => ?_
          have e4 : ρ (.tmp 4) = (.pointer (some ⟨wk.heap.size, 0, none⟩)) := hin 4 (by kernel_rfl)
          go_simp
          exact ⟨rfl, Gr.refl _⟩
        · refine NetStep.guarded rfl 41 (by kernel_rfl) (fun _ _ h => h) fun ρ wx hw hρc hρf hin hdep => ?_
          have e46 : ρ (.tmp 46) = (.pointer (some ⟨wk.heap.size, 17, none⟩)) := hdep 29 46 (by kernel_rfl)
          have hcx := gr_cell (gr_trans HGr.out hw) HI.out
          go_simp
          exact ⟨rfl, Gr.refl _⟩
        · refine NetStep.guarded rfl 41 (by kernel_rfl) (fun _ _ h => h) fun ρ wx hw hρc hρf hin hdep => ?_
          have e43 : ρ (.tmp 43) = (.agg (bs b)) := hdep 26 43 (by kernel_rfl)
          have e45 : ρ (.tmp 45) = (.int .i64 a) := hdep 28 45 (by kernel_rfl)
          have e47 : ρ (.tmp 47) = (.int .i64 i) := hdep 30 47 (by kernel_rfl)
          go_simp
          exact (signed_any b HBy.out a i wx).mono fun e w4 h => ⟨_, h.1, rfl, h.2⟩
        · refine NetStep.guarded rfl 41 (by kernel_rfl) (fun _ _ h => h) fun ρ wx hw hρc hρf hin hdep => ?_
          have e4 : ρ (.tmp 4) = (.pointer (some ⟨wk.heap.size, 0, none⟩)) := hin 4 (by kernel_rfl)
          go_simp
          exact ⟨rfl, Gr.refl _⟩
        · refine NetStep.guarded rfl 41 (by kernel_rfl) (fun _ _ h => h) fun ρ wx hw hρc hρf hin hdep => ?_
          have e49 : ρ (.tmp 49) = (.pointer (some ⟨wk.heap.size, 0, none⟩)) := hdep 32 49 (by kernel_rfl)
          exact net_load_cells 25 _ rfl wk.heap.size 0 e49 (bs b) _ (fun j u hu => by rw [Nat.zero_add]; exact HV.out j u hu) (gr_trans HGr.out hw) Try.underlying25 rfl infoV rfl
        · refine NetStep.guarded rfl 41 (by kernel_rfl) (fun _ _ h => h) fun ρ wx hw hρc hρf hin hdep => ?_
          have e4 : ρ (.tmp 4) = (.pointer (some ⟨wk.heap.size, 0, none⟩)) := hin 4 (by kernel_rfl)
          go_simp
          exact ⟨rfl, Gr.refl _⟩
        · refine NetStep.guarded rfl 41 (by kernel_rfl) (fun _ _ h => h) fun ρ wx hw hρc hρf hin hdep => ?_
          have e51 : ρ (.tmp 51) = (.pointer (some ⟨wk.heap.size, 16, none⟩)) := hdep 34 51 (by kernel_rfl)
          have hcx := gr_cell (gr_trans HGr.out hw) HA.out
          go_simp
          exact ⟨rfl, Gr.refl _⟩
        · refine NetStep.guarded rfl 41 (by kernel_rfl) (fun _ _ h => h) fun ρ wx hw hρc hρf hin hdep => ?_
          have e4 : ρ (.tmp 4) = (.pointer (some ⟨wk.heap.size, 0, none⟩)) := hin 4 (by kernel_rfl)
          go_simp
          exact ⟨rfl, Gr.refl _⟩
        · refine NetStep.guarded rfl 41 (by kernel_rfl) (fun _ _ h => h) fun ρ wx hw hρc hρf hin hdep => ?_
          have e53 : ρ (.tmp 53) = (.pointer (some ⟨wk.heap.size, 17, none⟩)) := hdep 36 53 (by kernel_rfl)
          have hcx := gr_cell (gr_trans HGr.out hw) HI.out
          go_simp
          exact ⟨rfl, Gr.refl _⟩
        · refine NetStep.guarded rfl 41 (by kernel_rfl) (fun _ _ h => h) fun ρ wx hw hρc hρf hin hdep => ?_
          have e50 : ρ (.tmp 50) = (.agg (bs b)) := hdep 33 50 (by kernel_rfl)
          have e52 : ρ (.tmp 52) = (.int .i64 a) := hdep 35 52 (by kernel_rfl)
          have e54 : ρ (.tmp 54) = (.int .i64 i) := hdep 37 54 (by kernel_rfl)
          go_simp
          exact (rsigned_any b HBy.out a i wx).mono fun e w4 h => ⟨_, h.1, rfl, h.2⟩
        · refine NetStep.guarded rfl 41 (by kernel_rfl) (fun _ _ h => h) fun ρ wx hw hρc hρf hin hdep => ?_
          have e48 : ρ (.tmp 48) = (.int .i64 (sgnI b a i)) := hdep 31 48 (by kernel_rfl)
          have e55 : ρ (.tmp 55) = (.int .i64 (sgnI b a i)) := hdep 38 55 (by kernel_rfl)
          go_simp
          exact ⟨rfl, Gr.refl _⟩
        · refine NetStep.of rfl fun ρ wx hw hρc hρf hin hdep => ?_
          have e41 : ρ (.tmp 41) = (.bool false) := hdep 24 41 (by kernel_rfl)
          have e56 : ρ (.tmp 56) = (.bool false) := hdep 39 56 (by kernel_rfl)
          go_simp
          exact ⟨rfl, Gr.refl _⟩
      · intro V7 wN7 hgN hV
        have hs : V7 57 = .bool false := hV 40 _ 57 rfl rfl
        have HN := Lib.hid (gr_trans HGr.out hgN)
        clear hV hgN HGr
        simp only [Exit.then, putAll, Act.put, Option.map_some, Option.getD_some, List.setIfInBounds_toArray, List.set_cons_succ, List.set_cons_zero]
        rename_i hK
        rw [hs]
        refine hK _ _ ?_
        clear hK hs
        go_upto_region 9 with (fail)
        have HGr := Lib.hid (Gr.drew HN.out)
        refine wp_region_net (ΦL9 b a i x wk) (by kernel_rfl) (by kernel_rfl) (ΦL9_mono b a i x wk) ?_ ?_
        · refine ⟨?_, ?_, ?_, ?_, ?_, ?_, ?_, ?_, ?_, ?_, ?_, ?_, ?_, ?_, ?_, ?_, ?_, ?_, ?_, ?_, ?_, ?_, ?_, ?_, ?_, ?_, ?_, ?_, ?_, ?_, ?_, ?_, ?_, trivial⟩
          · refine NetStep.of rfl fun ρ wx hw hρc hρf hin hdep => ?_
            have e4 : ρ (.tmp 4) = (.pointer (some ⟨wk.heap.size, 0, none⟩)) := hin 4 (by kernel_rfl)
            go_simp
            exact ⟨rfl, Gr.refl _⟩
          · refine NetStep.of rfl fun ρ wx hw hρc hρf hin hdep => ?_
            have e58 : ρ (.tmp 58) = (.pointer (some ⟨wk.heap.size, 0, none⟩)) := hdep 0 58 (by kernel_rfl)
            exact net_load_cells 25 _ rfl wk.heap.size 0 e58 (bs b) _ (fun j u hu => by rw [Nat.zero_add]; exact HV.out j u hu) (gr_trans HGr.out hw) Try.underlying25 rfl infoV rfl
          · refine NetStep.of rfl fun ρ wx hw hρc hρf hin hdep => ?_
            have e4 : ρ (.tmp 4) = (.pointer (some ⟨wk.heap.size, 0, none⟩)) := hin 4 (by kernel_rfl)
            go_simp
            exact ⟨rfl, Gr.refl _⟩
          · refine NetStep.of rfl fun ρ wx hw hρc hρf hin hdep => ?_
            have e60 : ρ (.tmp 60) = (.pointer (some ⟨wk.heap.size, 16, none⟩)) := hdep 2 60 (by kernel_rfl)
            have hcx := gr_cell (gr_trans HGr.out hw) HA.out
            go_simp
            exact ⟨rfl, Gr.refl _⟩
          · refine NetStep.of rfl fun ρ wx hw hρc hρf hin hdep => ?_
            have e4 : ρ (.tmp 4) = (.pointer (some ⟨wk.heap.size, 0, none⟩)) := hin 4 (by kernel_rfl)
            go_simp
            exact ⟨rfl, Gr.refl _⟩
          · refine NetStep.of rfl fun ρ wx hw hρc hρf hin hdep => ?_
            have e62 : ρ (.tmp 62) = (.pointer (some ⟨wk.heap.size, 17, none⟩)) := hdep 4 62 (by kernel_rfl)
            have hcx := gr_cell (gr_trans HGr.out hw) HI.out
            go_simp
            exact ⟨rfl, Gr.refl _⟩
          · refine NetStep.of rfl fun ρ wx hw hρc hρf hin hdep => ?_
            have e4 : ρ (.tmp 4) = (.pointer (some ⟨wk.heap.size, 0, none⟩)) := hin 4 (by kernel_rfl)
            go_simp
            exact ⟨rfl, Gr.refl _⟩
          · refine NetStep.of rfl fun ρ wx hw hρc hρf hin hdep => ?_
            have e64 : ρ (.tmp 64) = (.pointer (some ⟨wk.heap.size, 18, none⟩)) := hdep 6 64 (by kernel_rfl)
            have hcx := gr_cell (gr_trans HGr.out hw) HX.out
            go_simp
            exact ⟨rfl, Gr.refl _⟩
          · refine NetStep.of rfl fun ρ wx hw hρc hρf hin hdep => ?_
            have e59 : ρ (.tmp 59) = (.agg (bs b)) := hdep 1 59 (by kernel_rfl)
            have e61 : ρ (.tmp 61) = (.int .i64 a) := hdep 3 61 (by kernel_rfl)
            have e63 : ρ (.tmp 63) = (.int .i64 i) := hdep 5 63 (by kernel_rfl)
            have e65 : ρ (.tmp 65) = (.int .u64 x) := hdep 7 65 (by kernel_rfl)
            go_simp
            exact (set_any b a i x wx).mono fun e w4 h => ⟨_, h.1, rfl, h.2⟩
          · refine NetStep.of rfl fun ρ wx hw hρc hρf hin hdep => ?_
            have e4 : ρ (.tmp 4) = (.pointer (some ⟨wk.heap.size, 0, none⟩)) := hin 4 (by kernel_rfl)
            go_simp
            exact ⟨rfl, Gr.refl _⟩
          · refine NetStep.of rfl fun ρ wx hw hρc hρf hin hdep => ?_
            have e67 : ρ (.tmp 67) = (.pointer (some ⟨wk.heap.size, 0, none⟩)) := hdep 9 67 (by kernel_rfl)
            exact net_load_cells 25 _ rfl wk.heap.size 0 e67 (bs b) _ (fun j u hu => by rw [Nat.zero_add]; exact HV.out j u hu) (gr_trans HGr.out hw) Try.underlying25 rfl infoV rfl
          · refine NetStep.of rfl fun ρ wx hw hρc hρf hin hdep => ?_
            have e4 : ρ (.tmp 4) = (.pointer (some ⟨wk.heap.size, 0, none⟩)) := hin 4 (by kernel_rfl)
            go_simp
            exact ⟨rfl, Gr.refl _⟩
          · refine NetStep.of rfl fun ρ wx hw hρc hρf hin hdep => ?_
            have e69 : ρ (.tmp 69) = (.pointer (some ⟨wk.heap.size, 16, none⟩)) := hdep 11 69 (by kernel_rfl)
            have hcx := gr_cell (gr_trans HGr.out hw) HA.out
            go_simp
            exact ⟨rfl, Gr.refl _⟩
          · refine NetStep.of rfl fun ρ wx hw hρc hρf hin hdep => ?_
            have e4 : ρ (.tmp 4) = (.pointer (some ⟨wk.heap.size, 0, none⟩)) := hin 4 (by kernel_rfl)
            go_simp
            exact ⟨rfl, Gr.refl _⟩
          · refine NetStep.of rfl fun ρ wx hw hρc hρf hin hdep => ?_
            have e71 : ρ (.tmp 71) = (.pointer (some ⟨wk.heap.size, 17, none⟩)) := hdep 13 71 (by kernel_rfl)
            have hcx := gr_cell (gr_trans HGr.out hw) HI.out
            go_simp
            exact ⟨rfl, Gr.refl _⟩
          · refine NetStep.of rfl fun ρ wx hw hρc hρf hin hdep => ?_
            have e4 : ρ (.tmp 4) = (.pointer (some ⟨wk.heap.size, 0, none⟩)) := hin 4 (by kernel_rfl)
            go_simp
            exact ⟨rfl, Gr.refl _⟩
          · refine NetStep.of rfl fun ρ wx hw hρc hρf hin hdep => ?_
            have e73 : ρ (.tmp 73) = (.pointer (some ⟨wk.heap.size, 18, none⟩)) := hdep 15 73 (by kernel_rfl)
            have hcx := gr_cell (gr_trans HGr.out hw) HX.out
            go_simp
            exact ⟨rfl, Gr.refl _⟩
          · refine NetStep.of rfl fun ρ wx hw hρc hρf hin hdep => ?_
            have e68 : ρ (.tmp 68) = (.agg (bs b)) := hdep 10 68 (by kernel_rfl)
            have e70 : ρ (.tmp 70) = (.int .i64 a) := hdep 12 70 (by kernel_rfl)
            have e72 : ρ (.tmp 72) = (.int .i64 i) := hdep 14 72 (by kernel_rfl)
            have e74 : ρ (.tmp 74) = (.int .u64 x) := hdep 16 74 (by kernel_rfl)
            go_simp
            exact (rset_any b a i x HXb.out.1 HXb.out.2 wx).mono fun e w4 h => ⟨_, h.1, rfl, h.2⟩
          · refine NetStep.of rfl fun ρ wx hw hρc hρf hin hdep => ?_
            have e66 : ρ (.tmp 66) = (.agg (bs (setI b a i x))) := hdep 8 66 (by kernel_rfl)
            have e75 : ρ (.tmp 75) = (.agg (bs (setI b a i x))) := hdep 17 75 (by kernel_rfl)
            have hv := eq_vec (setI b a i x) (setI b a i x) wx
            have hr := vecB_refl (setI b a i x)
            go_simp
            exact ⟨rfl, Gr.refl _⟩
          · refine NetStep.of rfl fun ρ wx hw hρc hρf hin hdep => ?_
            have e76 : ρ (.tmp 76) = (.bool false) := hdep 18 76 (by kernel_rfl)
            go_simp
            exact ⟨rfl, Gr.refl _⟩
          · refine NetStep.guarded rfl 77 (by kernel_rfl) (fun _ _ h => h) fun ρ wx hw hρc hρf hin hdep => ?_
            have e4 : ρ (.tmp 4) = (.pointer (some ⟨wk.heap.size, 0, none⟩)) := hin 4 (by kernel_rfl)
            go_simp
            exact ⟨rfl, Gr.refl _⟩
          · refine NetStep.guarded rfl 77 (by kernel_rfl) (fun _ _ h => h) fun ρ wx hw hρc hρf hin hdep => ?_
            have e78 : ρ (.tmp 78) = (.pointer (some ⟨wk.heap.size, 0, none⟩)) := hdep 20 78 (by kernel_rfl)
            exact net_load_cells 25 _ rfl wk.heap.size 0 e78 (bs b) _ (fun j u hu => by rw [Nat.zero_add]; exact HV.out j u hu) (gr_trans HGr.out hw) Try.underlying25 rfl infoV rfl
          · refine NetStep.guarded rfl 77 (by kernel_rfl) (fun _ _ h => h) fun ρ wx hw hρc hρf hin hdep => ?_
            have e4 : ρ (.tmp 4) = (.pointer (some ⟨wk.heap.size, 0, none⟩)) := hin 4 (by kernel_rfl)
            go_simp
            exact ⟨rfl, Gr.refl _⟩
          · refine NetStep.guarded rfl 77 (by kernel_rfl) (fun _ _ h => h) fun ρ wx hw hρc hρf hin hdep => ?_
            have e80 : ρ (.tmp 80) = (.pointer (some ⟨wk.heap.size, 16, none⟩)) := hdep 22 80 (by kernel_rfl)
            have hcx := gr_cell (gr_trans HGr.out hw) HA.out
            go_simp
            exact ⟨rfl, Gr.refl _⟩
          · refine NetStep.guarded rfl 77 (by kernel_rfl) (fun _ _ h => h) fun ρ wx hw hρc hρf hin hdep => ?_
            have e79 : ρ (.tmp 79) = (.agg (bs b)) := hdep 21 79 (by kernel_rfl)
            have e81 : ρ (.tmp 81) = (.int .i64 a) := hdep 23 81 (by kernel_rfl)
            go_simp
            exact (all_any b HBy.out a wx).mono fun e w4 h => by obtain ⟨sv, h1, h2, h3⟩ := h; exact ⟨sv, h1, u64s_of_owns h3, h2⟩
          · refine NetStep.guarded rfl 77 (by kernel_rfl) (fun _ _ h => h) fun ρ wx hw hρc hρf hin hdep => ?_
            have e4 : ρ (.tmp 4) = (.pointer (some ⟨wk.heap.size, 0, none⟩)) := hin 4 (by kernel_rfl)
            go_simp
            exact ⟨rfl, Gr.refl _⟩
          · refine NetStep.guarded rfl 77 (by kernel_rfl) (fun _ _ h => h) fun ρ wx hw hρc hρf hin hdep => ?_
            have e83 : ρ (.tmp 83) = (.pointer (some ⟨wk.heap.size, 0, none⟩)) := hdep 25 83 (by kernel_rfl)
            exact net_load_cells 25 _ rfl wk.heap.size 0 e83 (bs b) _ (fun j u hu => by rw [Nat.zero_add]; exact HV.out j u hu) (gr_trans HGr.out hw) Try.underlying25 rfl infoV rfl
          · refine NetStep.guarded rfl 77 (by kernel_rfl) (fun _ _ h => h) fun ρ wx hw hρc hρf hin hdep => ?_
            have e4 : ρ (.tmp 4) = (.pointer (some ⟨wk.heap.size, 0, none⟩)) := hin 4 (by kernel_rfl)
            go_simp
            exact ⟨rfl, Gr.refl _⟩
          · refine NetStep.guarded rfl 77 (by kernel_rfl) (fun _ _ h => h) fun ρ wx hw hρc hρf hin hdep => ?_
            have e85 : ρ (.tmp 85) = (.pointer (some ⟨wk.heap.size, 16, none⟩)) := hdep 27 85 (by kernel_rfl)
            have hcx := gr_cell (gr_trans HGr.out hw) HA.out
            go_simp
            exact ⟨rfl, Gr.refl _⟩
          · refine NetStep.guarded rfl 77 (by kernel_rfl) (fun _ _ h => h) fun ρ wx hw hρc hρf hin hdep => ?_
            have e84 : ρ (.tmp 84) = (.agg (bs b)) := hdep 26 84 (by kernel_rfl)
            have e86 : ρ (.tmp 86) = (.int .i64 a) := hdep 28 86 (by kernel_rfl)
            go_simp
            exact (rall_any b HBy.out a wx).mono fun e w4 h => by obtain ⟨sv, h1, h2, h3⟩ := h; exact ⟨sv, h1, u64s_of_owns h3, h2⟩
          · refine NetStep.guarded rfl 77 (by kernel_rfl) (fun _ _ h => h) fun ρ wx hw hρc hρf hin hdep => ?_
            have e82 := Lib.hid (show U64s wx (ρ (.tmp 82)) (lanesI a).toNat (fun j => getI b a j) from hdep 24 82 (by kernel_rfl))
            have e87 := Lib.hid (show U64s wx (ρ (.tmp 87)) (lanesI a).toNat (fun j => getI b a j) from hdep 29 87 (by kernel_rfl))
            go_simp
            exact (same_any e82.out e87.out).mono fun e w4 h => ⟨_, h.1, rfl, h.2⟩
          · refine NetStep.guarded rfl 77 (by kernel_rfl) (fun _ _ h => h) fun ρ wx hw hρc hρf hin hdep => ?_
            have e88 : ρ (.tmp 88) = (.bool true) := hdep 30 88 (by kernel_rfl)
            go_simp
            exact ⟨rfl, Gr.refl _⟩
          · refine NetStep.of rfl fun ρ wx hw hρc hρf hin hdep => ?_
            have e77 : ρ (.tmp 77) = (.bool false) := hdep 19 77 (by kernel_rfl)
            have e89 : ρ (.tmp 89) = (.bool false) := hdep 31 89 (by kernel_rfl)
            go_simp
            exact ⟨rfl, Gr.refl _⟩
        · intro V9 wN9 hgN hV
          have hs : V9 90 = .bool false := hV 32 _ 90 rfl rfl
          have HN := Lib.hid (gr_trans HGr.out hgN)
          clear hV hgN HGr
          simp only [Exit.then, putAll, Act.put, Option.map_some, Option.getD_some, List.setIfInBounds_toArray, List.set_cons_succ, List.set_cons_zero]
          rename_i hK
          rw [hs]
          refine hK _ _ ?_
          clear hK hs
          go_upto_region 11 with (fail)
          have HGr := Lib.hid (Gr.drew HN.out)
          refine wp_region_net (ΦL11 b x wk) (by kernel_rfl) (by kernel_rfl) (ΦL11_mono b x wk) ?_ ?_
          · refine ⟨?_, ?_, ?_, ?_, ?_, ?_, ?_, ?_, ?_, ?_, ?_, ?_, ?_, ?_, ?_, ?_, ?_, ?_, ?_, ?_, ?_, ?_, ?_, ?_, trivial⟩
            · refine NetStep.of rfl fun ρ wx hw hρc hρf hin hdep => ?_
              have e4 : ρ (.tmp 4) = (.pointer (some ⟨wk.heap.size, 0, none⟩)) := hin 4 (by kernel_rfl)
              go_simp
              exact ⟨rfl, Gr.refl _⟩
            · refine NetStep.of rfl fun ρ wx hw hρc hρf hin hdep => ?_
              have e91 : ρ (.tmp 91) = (.pointer (some ⟨wk.heap.size, 0, none⟩)) := hdep 0 91 (by kernel_rfl)
              exact net_load_cells 25 _ rfl wk.heap.size 0 e91 (bs b) _ (fun j u hu => by rw [Nat.zero_add]; exact HV.out j u hu) (gr_trans HGr.out hw) Try.underlying25 rfl infoV rfl
            · refine NetStep.of rfl fun ρ wx hw hρc hρf hin hdep => ?_
              have e92 : ρ (.tmp 92) = (.agg (bs b)) := hdep 1 92 (by kernel_rfl)
              go_simp
              exact (split_any b HBy.out wx).mono fun e w4 h => ⟨_, h.1, rfl, h.2⟩
            · refine NetStep.of rfl fun ρ wx hw hρc hρf hin hdep => ?_
              have e4 : ρ (.tmp 4) = (.pointer (some ⟨wk.heap.size, 0, none⟩)) := hin 4 (by kernel_rfl)
              go_simp
              exact ⟨rfl, Gr.refl _⟩
            · refine NetStep.of rfl fun ρ wx hw hρc hρf hin hdep => ?_
              have e94 : ρ (.tmp 94) = (.pointer (some ⟨wk.heap.size, 0, none⟩)) := hdep 3 94 (by kernel_rfl)
              exact net_load_cells 25 _ rfl wk.heap.size 0 e94 (bs b) _ (fun j u hu => by rw [Nat.zero_add]; exact HV.out j u hu) (gr_trans HGr.out hw) Try.underlying25 rfl infoV rfl
            · refine NetStep.of rfl fun ρ wx hw hρc hρf hin hdep => ?_
              have e95 : ρ (.tmp 95) = (.agg (bs b)) := hdep 4 95 (by kernel_rfl)
              go_simp
              exact (rsplit_any b HBy.out wx).mono fun e w4 h => ⟨_, h.1, rfl, h.2⟩
            · refine NetStep.of rfl fun ρ wx hw hρc hρf hin hdep => ?_
              have e93 : ρ (.tmp 93) = (.agg #[.int .u64 (getI b 64 0), .int .u64 (getI b 64 1)]) := hdep 2 93 (by kernel_rfl)
              have e96 : ρ (.tmp 96) = (.agg #[.int .u64 (getI b 64 0), .int .u64 (getI b 64 1)]) := hdep 5 96 (by kernel_rfl)
              go_simp
              exact ⟨rfl, Gr.refl _⟩
            · refine NetStep.of rfl fun ρ wx hw hρc hρf hin hdep => ?_
              have e97 : ρ (.tmp 97) = (.bool false) := hdep 6 97 (by kernel_rfl)
              go_simp
              exact ⟨rfl, Gr.refl _⟩
            · refine NetStep.guarded rfl 98 (by kernel_rfl) (fun _ _ h => h) fun ρ wx hw hρc hρf hin hdep => ?_
              have e4 : ρ (.tmp 4) = (.pointer (some ⟨wk.heap.size, 0, none⟩)) := hin 4 (by kernel_rfl)
              go_simp
              exact ⟨rfl, Gr.refl _⟩
            · refine NetStep.guarded rfl 98 (by kernel_rfl) (fun _ _ h => h) fun ρ wx hw hρc hρf hin hdep => ?_
              have e99 : ρ (.tmp 99) = (.pointer (some ⟨wk.heap.size, 18, none⟩)) := hdep 8 99 (by kernel_rfl)
              have hcx := gr_cell (gr_trans HGr.out hw) HX.out
              go_simp
              exact ⟨rfl, Gr.refl _⟩
            · refine NetStep.guarded rfl 98 (by kernel_rfl) (fun _ _ h => h) fun ρ wx hw hρc hρf hin hdep => ?_
              have e4 : ρ (.tmp 4) = (.pointer (some ⟨wk.heap.size, 0, none⟩)) := hin 4 (by kernel_rfl)
              go_simp
              exact ⟨rfl, Gr.refl _⟩
            · refine NetStep.guarded rfl 98 (by kernel_rfl) (fun _ _ h => h) fun ρ wx hw hρc hρf hin hdep => ?_
              have e101 : ρ (.tmp 101) = (.pointer (some ⟨wk.heap.size, 18, none⟩)) := hdep 10 101 (by kernel_rfl)
              have hcx := gr_cell (gr_trans HGr.out hw) HX.out
              go_simp
              exact ⟨rfl, Gr.refl _⟩
            · refine NetStep.guarded rfl 98 (by kernel_rfl) (fun _ _ h => h) fun ρ wx hw hρc hρf hin hdep => ?_
              have e102 : ρ (.tmp 102) = (.int .u64 x) := hdep 11 102 (by kernel_rfl)
              have hxb := HXb.out
              go_simp
              exact ⟨rfl, Gr.refl _⟩
            · refine NetStep.guarded rfl 98 (by kernel_rfl) (fun _ _ h => h) fun ρ wx hw hρc hρf hin hdep => ?_
              have e100 : ρ (.tmp 100) = (.int .u64 x) := hdep 9 100 (by kernel_rfl)
              have e103 : ρ (.tmp 103) = (.int .u64 (notU x)) := hdep 12 103 (by kernel_rfl)
              exact net_build 37 _ rfl #[.int .u64 x, .int .u64 (notU x)] (by simp only [List.map_toArray, List.map_cons, List.map_nil, e100, e103]; kernel_rfl) rfl
            · refine NetStep.guarded rfl 98 (by kernel_rfl) (fun _ _ h => h) fun ρ wx hw hρc hρf hin hdep => ?_
              have e104 : ρ (.tmp 104) = (.agg #[.int .u64 x, .int .u64 (notU x)]) := hdep 13 104 (by kernel_rfl)
              go_simp
              exact (join_any x (notU x) wx).mono fun e w4 h => ⟨_, h.1, rfl, h.2⟩
            · refine NetStep.guarded rfl 98 (by kernel_rfl) (fun _ _ h => h) fun ρ wx hw hρc hρf hin hdep => ?_
              have e4 : ρ (.tmp 4) = (.pointer (some ⟨wk.heap.size, 0, none⟩)) := hin 4 (by kernel_rfl)
              go_simp
              exact ⟨rfl, Gr.refl _⟩
            · refine NetStep.guarded rfl 98 (by kernel_rfl) (fun _ _ h => h) fun ρ wx hw hρc hρf hin hdep => ?_
              have e106 : ρ (.tmp 106) = (.pointer (some ⟨wk.heap.size, 18, none⟩)) := hdep 15 106 (by kernel_rfl)
              have hcx := gr_cell (gr_trans HGr.out hw) HX.out
              go_simp
              exact ⟨rfl, Gr.refl _⟩
            · refine NetStep.guarded rfl 98 (by kernel_rfl) (fun _ _ h => h) fun ρ wx hw hρc hρf hin hdep => ?_
              have e4 : ρ (.tmp 4) = (.pointer (some ⟨wk.heap.size, 0, none⟩)) := hin 4 (by kernel_rfl)
              go_simp
              exact ⟨rfl, Gr.refl _⟩
            · refine NetStep.guarded rfl 98 (by kernel_rfl) (fun _ _ h => h) fun ρ wx hw hρc hρf hin hdep => ?_
              have e108 : ρ (.tmp 108) = (.pointer (some ⟨wk.heap.size, 18, none⟩)) := hdep 17 108 (by kernel_rfl)
              have hcx := gr_cell (gr_trans HGr.out hw) HX.out
              go_simp
              exact ⟨rfl, Gr.refl _⟩
            · refine NetStep.guarded rfl 98 (by kernel_rfl) (fun _ _ h => h) fun ρ wx hw hρc hρf hin hdep => ?_
              have e109 : ρ (.tmp 109) = (.int .u64 x) := hdep 18 109 (by kernel_rfl)
              have hxb := HXb.out
              go_simp
              exact ⟨rfl, Gr.refl _⟩
            · refine NetStep.guarded rfl 98 (by kernel_rfl) (fun _ _ h => h) fun ρ wx hw hρc hρf hin hdep => ?_
              have e107 : ρ (.tmp 107) = (.int .u64 x) := hdep 16 107 (by kernel_rfl)
              have e110 : ρ (.tmp 110) = (.int .u64 (notU x)) := hdep 19 110 (by kernel_rfl)
              exact net_build 37 _ rfl #[.int .u64 x, .int .u64 (notU x)] (by simp only [List.map_toArray, List.map_cons, List.map_nil, e107, e110]; kernel_rfl) rfl
            · refine NetStep.guarded rfl 98 (by kernel_rfl) (fun _ _ h => h) fun ρ wx hw hρc hρf hin hdep => ?_
              have e111 : ρ (.tmp 111) = (.agg #[.int .u64 x, .int .u64 (notU x)]) := hdep 20 111 (by kernel_rfl)
              go_simp
              exact (rjoin_any x (notU x) HXb.out (notU_bd HXb.out) wx).mono fun e w4 h => ⟨_, h.1, rfl, h.2⟩
            · refine NetStep.guarded rfl 98 (by kernel_rfl) (fun _ _ h => h) fun ρ wx hw hρc hρf hin hdep => ?_
              have e105 : ρ (.tmp 105) = (.agg (bs (ofK (fun _ => 0) 64 (fun j => if j = 0 then x else notU x) 2))) := hdep 14 105 (by kernel_rfl)
              have e112 : ρ (.tmp 112) = (.agg (bs (ofK (fun _ => 0) 64 (fun j => if j = 0 then x else notU x) 2))) := hdep 21 112 (by kernel_rfl)
              have hv := eq_vec (ofK (fun _ => 0) 64 (fun j => if j = 0 then x else notU x) 2) (ofK (fun _ => 0) 64 (fun j => if j = 0 then x else notU x) 2) wx
              have hr := vecB_refl (ofK (fun _ => 0) 64 (fun j => if j = 0 then x else notU x) 2)
              go_simp
              exact ⟨rfl, Gr.refl _⟩
            · refine NetStep.of rfl fun ρ wx hw hρc hρf hin hdep => ?_
              have e98 : ρ (.tmp 98) = (.bool false) := hdep 7 98 (by kernel_rfl)
              have e113 : ρ (.tmp 113) = (.bool false) := hdep 22 113 (by kernel_rfl)
              go_simp
              exact ⟨rfl, Gr.refl _⟩
          · intro V11 wN11 hgN hV
            have hs : V11 114 = .bool false := hV 23 _ 114 rfl rfl
            have HN := Lib.hid (gr_trans HGr.out hgN)
            clear hV hgN HGr
            simp only [Exit.then, putAll, Act.put, Option.map_some, Option.getD_some, List.setIfInBounds_toArray, List.set_cons_succ, List.set_cons_zero]
            rename_i hK
            rw [hs]
            refine hK _ _ ?_
            clear hK hs
            go_wp2
            exact ⟨⟨k + 1, _, rfl, by omega, by go_num, gr_trans HN0.out HN.out⟩, by simp [intOf]; omega⟩
    · obtain rfl : k = len := by omega
      go_wp2
      go_ret
      exact ⟨rfl, HG.out⟩
theorem lanes_zero (z : Option Addr) (c : Nat) (w : World) : Calls Try.prog 3 #[.slice z 0 c] w fun e w' => e = .returned (.bool true) ∧ Gr w w' := by
  go_enter Try.func3, Try.ntmps3
  go_wp2_with (go_at_call 10; refine (Aw.awake _).mono ?_; rintro e w1 ⟨rfl, hg1⟩; have HG1 := Lib.hid hg1; clear hg1)
  go_loopw [3] (fun u wr => u = .int .i64 0 ∧ Gr w wr) (fun _ _ => 0)
  case atStart => exact ⟨rfl, HG1.out⟩
  case round =>
    obtain ⟨rfl, hg⟩ := hrel
    have HG := Lib.hid hg
    clear hg
    go_wp2
    go_ret
    exact ⟨rfl, HG.out⟩
theorem lanes_walk (sv : Value) (len : Nat) (B : Nat → Nat → Int) (A I X : Nat → Int) (hB : ∀ k, Byt (B k)) (hX : ∀ k, 0 ≤ X k ∧ X k < 18446744073709551616) (w : World) (h : Ats w sv len B A I X) :
    Calls Try.prog 3 #[sv] w fun e w' => e = .returned (.bool true) ∧ Gr w w' := by
  rcases h with ⟨_, z, c, rfl⟩ | ⟨hl, g, off, cap, rfl, hc⟩
  · exact lanes_zero z c w
  · exact lanes_some g off cap len B A I X hB hX hl w hc
end Go.Proofs.Ythdklnkaeddogab
