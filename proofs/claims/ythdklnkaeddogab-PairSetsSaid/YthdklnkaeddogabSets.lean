/-
  PairSets: for every vector, width, lane and number the law returns true. No condition.
-/
import Derived.Test.YthdklnkaeddogabSetsM
namespace Go.Proofs.Ythdklnkaeddogab
open Go.RowKit VecM
def ΦA8 (b : Nat → Int) (w : World) (k : Nat) (v : Value) (wn : World) : Prop :=
  match k with
  | 0 => v = (.int .i64 16)
  | 1 => v = (.int .i64 8)
  | 2 => v = (.int .i64 16)
  | 3 => v = (.bool false)
  | 4 => v = (.bool false)
  | 5 => v = (.int .i64 8)
  | 6 => v = (.pointer (some ⟨w.heap.size, 0, none⟩))
  | 7 => v = (.agg (bs b))
  | 8 => v = (.int .i64 8)
  | 9 => U64s wn v 16 (fun j => getI b 8 j)
  | 10 => v = (.agg (bs b))
  | 11 => v = (.pointer (some ⟨w.heap.size, 0, none⟩))
  | 12 => v = (.agg (bs b))
  | 13 => v = (.bool false)
  | 14 => v = (.bool false)
  | _ => True
theorem ΦA8_mono (b : Nat → Int) (w : World) : ∀ k v wn wn', Gr wn wn' → ΦA8 b w k v wn → ΦA8 b w k v wn' := by
  intro k v wn wn' hg h
  match k with
  | 0 => exact h
  | 1 => exact h
  | 2 => exact h
  | 3 => exact h
  | 4 => exact h
  | 5 => exact h
  | 6 => exact h
  | 7 => exact h
  | 8 => exact h
  | 9 => exact u64s_gr h hg
  | 10 => exact h
  | 11 => exact h
  | 12 => exact h
  | 13 => exact h
  | 14 => exact h
  | k + 15 => trivial
def ΦC8  (k : Nat) (v : Value) (_wn : World) : Prop :=
  match k with
  | 0 => v = (.int .i64 8)
  | 1 => v = (.bool false)
  | 2 => v = (.bool false)
  | 3 => v = undef
  | 4 => v = undef
  | 5 => v = undef
  | 6 => v = undef
  | 7 => v = undef
  | 8 => v = undef
  | 9 => v = undef
  | 10 => v = undef
  | 11 => v = undef
  | 12 => v = undef
  | 13 => v = undef
  | 14 => v = undef
  | 15 => v = undef
  | 16 => v = undef
  | 17 => v = undef
  | 18 => v = undef
  | 19 => v = undef
  | 20 => v = undef
  | 21 => v = undef
  | 22 => v = undef
  | 23 => v = undef
  | 24 => v = undef
  | 25 => v = undef
  | 26 => v = (.bool false)
  | _ => True
theorem ΦC8_mono  : ∀ k v wn wn', Gr wn wn' → ΦC8  k v wn → ΦC8  k v wn' := by
  intro k v wn wn' hg h
  match k with
  | 0 => exact h
  | 1 => exact h
  | 2 => exact h
  | 3 => exact h
  | 4 => exact h
  | 5 => exact h
  | 6 => exact h
  | 7 => exact h
  | 8 => exact h
  | 9 => exact h
  | 10 => exact h
  | 11 => exact h
  | 12 => exact h
  | 13 => exact h
  | 14 => exact h
  | 15 => exact h
  | 16 => exact h
  | 17 => exact h
  | 18 => exact h
  | 19 => exact h
  | 20 => exact h
  | 21 => exact h
  | 22 => exact h
  | 23 => exact h
  | 24 => exact h
  | 25 => exact h
  | 26 => exact h
  | k + 27 => trivial
def ΦA16 (b : Nat → Int) (w : World) (k : Nat) (v : Value) (wn : World) : Prop :=
  match k with
  | 0 => v = (.int .i64 8)
  | 1 => v = (.int .i64 16)
  | 2 => v = (.int .i64 8)
  | 3 => v = (.bool false)
  | 4 => v = (.bool false)
  | 5 => v = (.int .i64 16)
  | 6 => v = (.pointer (some ⟨w.heap.size, 0, none⟩))
  | 7 => v = (.agg (bs b))
  | 8 => v = (.int .i64 16)
  | 9 => U64s wn v 8 (fun j => getI b 16 j)
  | 10 => v = (.agg (bs b))
  | 11 => v = (.pointer (some ⟨w.heap.size, 0, none⟩))
  | 12 => v = (.agg (bs b))
  | 13 => v = (.bool false)
  | 14 => v = (.bool false)
  | _ => True
theorem ΦA16_mono (b : Nat → Int) (w : World) : ∀ k v wn wn', Gr wn wn' → ΦA16 b w k v wn → ΦA16 b w k v wn' := by
  intro k v wn wn' hg h
  match k with
  | 0 => exact h
  | 1 => exact h
  | 2 => exact h
  | 3 => exact h
  | 4 => exact h
  | 5 => exact h
  | 6 => exact h
  | 7 => exact h
  | 8 => exact h
  | 9 => exact u64s_gr h hg
  | 10 => exact h
  | 11 => exact h
  | 12 => exact h
  | 13 => exact h
  | 14 => exact h
  | k + 15 => trivial
def ΦC16 (c : Nat → Int) (R : Nat) (k : Nat) (v : Value) (_wn : World) : Prop :=
  match k with
  | 0 => v = (.int .i64 16)
  | 1 => v = (.bool true)
  | 2 => v = (.bool true)
  | 3 => v = (.agg (bs c))
  | 4 => v = (.int .i64 16)
  | 5 => v = (.int .i64 (R : Int))
  | 6 => v = (.int .u64 (getI c 16 (R : Int)))
  | 7 => v = (.agg (bs c))
  | 8 => v = (.int .i64 16)
  | 9 => v = (.int .i64 8)
  | 10 => v = (.int .i64 (R : Int))
  | 11 => v = (.int .i64 (2 * (R : Int)))
  | 12 => v = (.int .u64 (getI c 8 (2 * (R : Int))))
  | 13 => v = (.agg (bs c))
  | 14 => v = (.int .i64 16)
  | 15 => v = (.int .i64 8)
  | 16 => v = (.int .i64 (R : Int))
  | 17 => v = (.int .i64 (2 * (R : Int)))
  | 18 => v = (.int .i64 (2 * (R : Int) + 1))
  | 19 => v = (.int .u64 (getI c 8 (2 * (R : Int) + 1)))
  | 20 => v = (.int .i64 16)
  | 21 => v = (.int .i64 8)
  | 22 => v = (.int .u64 8)
  | 23 => v = (.int .u64 (IntKind.u64.wrap ((getI c 8 (2 * (R : Int) + 1)) * 256)))
  | 24 => v = (.int .u64 (getI c 16 (R : Int)))
  | 25 => v = (.bool false)
  | 26 => v = (.bool false)
  | _ => True
theorem ΦC16_mono (c : Nat → Int) (R : Nat) : ∀ k v wn wn', Gr wn wn' → ΦC16 c R k v wn → ΦC16 c R k v wn' := by
  intro k v wn wn' hg h
  match k with
  | 0 => exact h
  | 1 => exact h
  | 2 => exact h
  | 3 => exact h
  | 4 => exact h
  | 5 => exact h
  | 6 => exact h
  | 7 => exact h
  | 8 => exact h
  | 9 => exact h
  | 10 => exact h
  | 11 => exact h
  | 12 => exact h
  | 13 => exact h
  | 14 => exact h
  | 15 => exact h
  | 16 => exact h
  | 17 => exact h
  | 18 => exact h
  | 19 => exact h
  | 20 => exact h
  | 21 => exact h
  | 22 => exact h
  | 23 => exact h
  | 24 => exact h
  | 25 => exact h
  | 26 => exact h
  | k + 27 => trivial
def ΦA32 (b : Nat → Int) (w : World) (k : Nat) (v : Value) (wn : World) : Prop :=
  match k with
  | 0 => v = (.int .i64 4)
  | 1 => v = (.int .i64 32)
  | 2 => v = (.int .i64 4)
  | 3 => v = (.bool false)
  | 4 => v = (.bool false)
  | 5 => v = (.int .i64 32)
  | 6 => v = (.pointer (some ⟨w.heap.size, 0, none⟩))
  | 7 => v = (.agg (bs b))
  | 8 => v = (.int .i64 32)
  | 9 => U64s wn v 4 (fun j => getI b 32 j)
  | 10 => v = (.agg (bs b))
  | 11 => v = (.pointer (some ⟨w.heap.size, 0, none⟩))
  | 12 => v = (.agg (bs b))
  | 13 => v = (.bool false)
  | 14 => v = (.bool false)
  | _ => True
theorem ΦA32_mono (b : Nat → Int) (w : World) : ∀ k v wn wn', Gr wn wn' → ΦA32 b w k v wn → ΦA32 b w k v wn' := by
  intro k v wn wn' hg h
  match k with
  | 0 => exact h
  | 1 => exact h
  | 2 => exact h
  | 3 => exact h
  | 4 => exact h
  | 5 => exact h
  | 6 => exact h
  | 7 => exact h
  | 8 => exact h
  | 9 => exact u64s_gr h hg
  | 10 => exact h
  | 11 => exact h
  | 12 => exact h
  | 13 => exact h
  | 14 => exact h
  | k + 15 => trivial
def ΦC32 (c : Nat → Int) (R : Nat) (k : Nat) (v : Value) (_wn : World) : Prop :=
  match k with
  | 0 => v = (.int .i64 32)
  | 1 => v = (.bool true)
  | 2 => v = (.bool true)
  | 3 => v = (.agg (bs c))
  | 4 => v = (.int .i64 32)
  | 5 => v = (.int .i64 (R : Int))
  | 6 => v = (.int .u64 (getI c 32 (R : Int)))
  | 7 => v = (.agg (bs c))
  | 8 => v = (.int .i64 32)
  | 9 => v = (.int .i64 16)
  | 10 => v = (.int .i64 (R : Int))
  | 11 => v = (.int .i64 (2 * (R : Int)))
  | 12 => v = (.int .u64 (getI c 16 (2 * (R : Int))))
  | 13 => v = (.agg (bs c))
  | 14 => v = (.int .i64 32)
  | 15 => v = (.int .i64 16)
  | 16 => v = (.int .i64 (R : Int))
  | 17 => v = (.int .i64 (2 * (R : Int)))
  | 18 => v = (.int .i64 (2 * (R : Int) + 1))
  | 19 => v = (.int .u64 (getI c 16 (2 * (R : Int) + 1)))
  | 20 => v = (.int .i64 32)
  | 21 => v = (.int .i64 16)
  | 22 => v = (.int .u64 16)
  | 23 => v = (.int .u64 (IntKind.u64.wrap ((getI c 16 (2 * (R : Int) + 1)) * 65536)))
  | 24 => v = (.int .u64 (getI c 32 (R : Int)))
  | 25 => v = (.bool false)
  | 26 => v = (.bool false)
  | _ => True
theorem ΦC32_mono (c : Nat → Int) (R : Nat) : ∀ k v wn wn', Gr wn wn' → ΦC32 c R k v wn → ΦC32 c R k v wn' := by
  intro k v wn wn' hg h
  match k with
  | 0 => exact h
  | 1 => exact h
  | 2 => exact h
  | 3 => exact h
  | 4 => exact h
  | 5 => exact h
  | 6 => exact h
  | 7 => exact h
  | 8 => exact h
  | 9 => exact h
  | 10 => exact h
  | 11 => exact h
  | 12 => exact h
  | 13 => exact h
  | 14 => exact h
  | 15 => exact h
  | 16 => exact h
  | 17 => exact h
  | 18 => exact h
  | 19 => exact h
  | 20 => exact h
  | 21 => exact h
  | 22 => exact h
  | 23 => exact h
  | 24 => exact h
  | 25 => exact h
  | 26 => exact h
  | k + 27 => trivial
def ΦA64 (b : Nat → Int) (w : World) (k : Nat) (v : Value) (wn : World) : Prop :=
  match k with
  | 0 => v = (.int .i64 2)
  | 1 => v = (.int .i64 64)
  | 2 => v = (.int .i64 2)
  | 3 => v = (.bool false)
  | 4 => v = (.bool false)
  | 5 => v = (.int .i64 64)
  | 6 => v = (.pointer (some ⟨w.heap.size, 0, none⟩))
  | 7 => v = (.agg (bs b))
  | 8 => v = (.int .i64 64)
  | 9 => U64s wn v 2 (fun j => getI b 64 j)
  | 10 => v = (.agg (bs b))
  | 11 => v = (.pointer (some ⟨w.heap.size, 0, none⟩))
  | 12 => v = (.agg (bs b))
  | 13 => v = (.bool false)
  | 14 => v = (.bool false)
  | _ => True
theorem ΦA64_mono (b : Nat → Int) (w : World) : ∀ k v wn wn', Gr wn wn' → ΦA64 b w k v wn → ΦA64 b w k v wn' := by
  intro k v wn wn' hg h
  match k with
  | 0 => exact h
  | 1 => exact h
  | 2 => exact h
  | 3 => exact h
  | 4 => exact h
  | 5 => exact h
  | 6 => exact h
  | 7 => exact h
  | 8 => exact h
  | 9 => exact u64s_gr h hg
  | 10 => exact h
  | 11 => exact h
  | 12 => exact h
  | 13 => exact h
  | 14 => exact h
  | k + 15 => trivial
def ΦC64 (c : Nat → Int) (R : Nat) (k : Nat) (v : Value) (_wn : World) : Prop :=
  match k with
  | 0 => v = (.int .i64 64)
  | 1 => v = (.bool true)
  | 2 => v = (.bool true)
  | 3 => v = (.agg (bs c))
  | 4 => v = (.int .i64 64)
  | 5 => v = (.int .i64 (R : Int))
  | 6 => v = (.int .u64 (getI c 64 (R : Int)))
  | 7 => v = (.agg (bs c))
  | 8 => v = (.int .i64 64)
  | 9 => v = (.int .i64 32)
  | 10 => v = (.int .i64 (R : Int))
  | 11 => v = (.int .i64 (2 * (R : Int)))
  | 12 => v = (.int .u64 (getI c 32 (2 * (R : Int))))
  | 13 => v = (.agg (bs c))
  | 14 => v = (.int .i64 64)
  | 15 => v = (.int .i64 32)
  | 16 => v = (.int .i64 (R : Int))
  | 17 => v = (.int .i64 (2 * (R : Int)))
  | 18 => v = (.int .i64 (2 * (R : Int) + 1))
  | 19 => v = (.int .u64 (getI c 32 (2 * (R : Int) + 1)))
  | 20 => v = (.int .i64 64)
  | 21 => v = (.int .i64 32)
  | 22 => v = (.int .u64 32)
  | 23 => v = (.int .u64 (IntKind.u64.wrap ((getI c 32 (2 * (R : Int) + 1)) * 4294967296)))
  | 24 => v = (.int .u64 (getI c 64 (R : Int)))
  | 25 => v = (.bool false)
  | 26 => v = (.bool false)
  | _ => True
theorem ΦC64_mono (c : Nat → Int) (R : Nat) : ∀ k v wn wn', Gr wn wn' → ΦC64 c R k v wn → ΦC64 c R k v wn' := by
  intro k v wn wn' hg h
  match k with
  | 0 => exact h
  | 1 => exact h
  | 2 => exact h
  | 3 => exact h
  | 4 => exact h
  | 5 => exact h
  | 6 => exact h
  | 7 => exact h
  | 8 => exact h
  | 9 => exact h
  | 10 => exact h
  | 11 => exact h
  | 12 => exact h
  | 13 => exact h
  | 14 => exact h
  | 15 => exact h
  | 16 => exact h
  | 17 => exact h
  | 18 => exact h
  | 19 => exact h
  | 20 => exact h
  | 21 => exact h
  | 22 => exact h
  | 23 => exact h
  | 24 => exact h
  | 25 => exact h
  | 26 => exact h
  | k + 27 => trivial
def ΦD (b : Nat → Int) (x : Int) (w : World) (k : Nat) (v : Value) (_wn : World) : Prop :=
  match k with
  | 0 => v = (.pointer (some ⟨w.heap.size, 0, none⟩))
  | 1 => v = (.agg (bs b))
  | 2 => v = (.pointer (some ⟨w.heap.size, 18, none⟩))
  | 3 => v = (.int .u64 x)
  | 4 => v = (.agg (bs b))
  | 5 => v = (.pointer (some ⟨w.heap.size, 0, none⟩))
  | 6 => v = (.agg (bs b))
  | 7 => v = (.bool true)
  | 8 => v = (.bool true)
  | 9 => v = (.pointer (some ⟨w.heap.size, 0, none⟩))
  | 10 => v = (.agg (bs b))
  | 11 => v = (.pointer (some ⟨w.heap.size, 18, none⟩))
  | 12 => v = (.int .u64 x)
  | 13 => v = (.agg (bs b))
  | 14 => v = (.pointer (some ⟨w.heap.size, 0, none⟩))
  | 15 => v = (.agg (bs b))
  | 16 => v = (.bool true)
  | 17 => v = (.bool true)
  | 18 => v = (.bool true)
  | 19 => v = (.pointer (some ⟨w.heap.size, 0, none⟩))
  | 20 => v = (.agg (bs b))
  | 21 => v = (.int .u64 0)
  | 22 => v = (.bool true)
  | 23 => v = (.bool true)
  | 24 => v = (.bool true)
  | _ => True
theorem ΦD_mono (b : Nat → Int) (x : Int) (w : World) : ∀ k v wn wn', Gr wn wn' → ΦD b x w k v wn → ΦD b x w k v wn' := by
  intro k v wn wn' hg h
  match k with
  | 0 => exact h
  | 1 => exact h
  | 2 => exact h
  | 3 => exact h
  | 4 => exact h
  | 5 => exact h
  | 6 => exact h
  | 7 => exact h
  | 8 => exact h
  | 9 => exact h
  | 10 => exact h
  | 11 => exact h
  | 12 => exact h
  | 13 => exact h
  | 14 => exact h
  | 15 => exact h
  | 16 => exact h
  | 17 => exact h
  | 18 => exact h
  | 19 => exact h
  | 20 => exact h
  | 21 => exact h
  | 22 => exact h
  | 23 => exact h
  | 24 => exact h
  | k + 25 => trivial
set_option maxRecDepth 100000 in
set_option maxHeartbeats 8000000 in
theorem sets_walk (b : Nat → Int) (hb : Byt b) (a i x : Int) (hx : 0 ≤ x ∧ x < 18446744073709551616) (w : World) :
    Calls Try.prog 6 #[.agg (atC b a i x)] w fun e w' => e = .returned (.bool true) ∧ Gr w w' := by
  have HBy := Lib.hid hb
  have HXb := Lib.hid hx
  clear hb hx
  go_enter Try.func6, Try.ntmps6
  go_wp2_with (go_at_call 10; refine (Aw.awake _).mono ?_; rintro e w1 ⟨rfl, hg1⟩; have HG1 := Lib.hid hg1; clear hg1)
  have hrow := gr_block HG1.out (heap_alloc_new w (.cells (atC b a i x) 28))
  have hv0 : ∀ j u, (bs b).toList[j]? = some u → w1.cell? ⟨w.heap.size, j, none⟩ = some u := fun j u h => (cell_of_row _ _ j _ _ _ hrow).trans (atC_get b a i x j u h)
  have HV := Lib.hid hv0
  have HI := Lib.hid ((cell_of_row _ _ 17 _ _ _ hrow).trans (atC_2 b a i x))
  have HX := Lib.hid ((cell_of_row _ _ 18 _ _ _ hrow).trans (atC_3 b a i x))
  clear hrow hv0
  go_loopw [3] (fun u wr => (u = .int .i64 8 ∨ u = .int .i64 16 ∨ u = .int .i64 32 ∨ u = .int .i64 64 ∨ u = .int .i64 128) ∧ Gr w1 wr) (fun u _ => 128 - (intOf u).toNat)
  case atStart => exact ⟨.inl rfl, Gr.refl _⟩
  case round =>
    obtain ⟨hu, hg⟩ := hrel
    rcases hu with rfl | rfl | rfl | rfl | rfl
    · have HL : ∀ w, Calls Try.prog 11 #[.int .i64 8] w fun e w' => e = .returned (.int .i64 16) ∧ w = w' := lanes_any 8
      have HLh := Lib.hid HL
      have HGr := Lib.hid (Gr.drew hg)
      clear HL hg
      go_upto_region 7 with (go_at_call 11; refine (HLh.out _).mono ?_; rintro e w' ⟨rfl, rfl⟩)
      refine wp_region_net (ΦA8 b w) (by kernel_rfl) (by kernel_rfl) (ΦA8_mono b w) ?_ ?_
      · refine ⟨?_, ?_, ?_, ?_, ?_, ?_, ?_, ?_, ?_, ?_, ?_, ?_, ?_, ?_, ?_, trivial⟩
        · refine NetStep.of rfl fun ρ wx hw hρc hρf hin hdep => ?_
          have e4 : ρ (.tmp 4) = (.int .i64 16) := hin 4 (by kernel_rfl)
          go_simp
          exact ⟨rfl, Gr.refl _⟩
        · refine NetStep.of rfl fun ρ wx hw hρc hρf hin hdep => ?_
          have e3 : ρ (.tmp 3) = (.int .i64 8) := hin 3 (by kernel_rfl)
          go_simp
          exact ⟨rfl, Gr.refl _⟩
        · refine NetStep.of rfl fun ρ wx hw hρc hρf hin hdep => ?_
          have e18 : ρ (.tmp 18) = (.int .i64 8) := hdep 1 18 (by kernel_rfl)
          go_simp
          exact ⟨rfl, Gr.refl _⟩
        · refine NetStep.of rfl fun ρ wx hw hρc hρf hin hdep => ?_
          have e17 : ρ (.tmp 17) = (.int .i64 16) := hdep 0 17 (by kernel_rfl)
          have e19 : ρ (.tmp 19) = (.int .i64 16) := hdep 2 19 (by kernel_rfl)
          go_simp
          exact ⟨rfl, Gr.refl _⟩
        · refine NetStep.of rfl fun ρ wx hw hρc hρf hin hdep => ?_
          have e20 : ρ (.tmp 20) = (.bool false) := hdep 3 20 (by kernel_rfl)
          go_simp
          exact ⟨rfl, Gr.refl _⟩
        · refine NetStep.guarded rfl 21 (by kernel_rfl) (fun _ _ h => h) fun ρ wx hw hρc hρf hin hdep => ?_
          have e3 : ρ (.tmp 3) = (.int .i64 8) := hin 3 (by kernel_rfl)
          go_simp
          exact ⟨rfl, Gr.refl _⟩
        · refine NetStep.guarded rfl 21 (by kernel_rfl) (fun _ _ h => h) fun ρ wx hw hρc hρf hin hdep => ?_
          have e1 : ρ (.tmp 1) = (.pointer (some ⟨w.heap.size, 0, none⟩)) := hin 1 (by kernel_rfl)
          go_simp
          exact ⟨rfl, Gr.refl _⟩
        · refine NetStep.guarded rfl 21 (by kernel_rfl) (fun _ _ h => h) fun ρ wx hw hρc hρf hin hdep => ?_
          have e23 : ρ (.tmp 23) = (.pointer (some ⟨w.heap.size, 0, none⟩)) := hdep 6 23 (by kernel_rfl)
          exact net_load_cells 25 _ rfl w.heap.size 0 e23 (bs b) _ (fun j u hu => by rw [Nat.zero_add]; exact HV.out j u hu) (gr_trans HGr.out hw) Try.underlying25 rfl infoV rfl
        · refine NetStep.guarded rfl 21 (by kernel_rfl) (fun _ _ h => h) fun ρ wx hw hρc hρf hin hdep => ?_
          have e3 : ρ (.tmp 3) = (.int .i64 8) := hin 3 (by kernel_rfl)
          go_simp
          exact ⟨rfl, Gr.refl _⟩
        · refine NetStep.guarded rfl 21 (by kernel_rfl) (fun _ _ h => h) fun ρ wx hw hρc hρf hin hdep => ?_
          have e24 : ρ (.tmp 24) = (.agg (bs b)) := hdep 7 24 (by kernel_rfl)
          have e25 : ρ (.tmp 25) = (.int .i64 8) := hdep 8 25 (by kernel_rfl)
          go_simp
          exact (all_back HBy.out 8 16 (by decide) wx).mono fun e w4 h => by obtain ⟨sv, h1, h2, h3⟩ := h; exact ⟨sv, h1, h2, h3⟩
        · refine NetStep.guarded rfl 21 (by kernel_rfl) (fun _ _ h => h) fun ρ wx hw hρc hρf hin hdep => ?_
          have e22 : ρ (.tmp 22) = (.int .i64 8) := hdep 5 22 (by kernel_rfl)
          have e26 := Lib.hid (show U64s wx (ρ (.tmp 26)) 16 (fun j => getI b 8 j) from hdep 9 26 (by kernel_rfl))
          go_simp
          exact (of_back HBy.out 8 (by decide) 16 (by decide) _ wx e26.out).mono fun e w4 h => ⟨_, h.1, rfl, h.2⟩
        · refine NetStep.guarded rfl 21 (by kernel_rfl) (fun _ _ h => h) fun ρ wx hw hρc hρf hin hdep => ?_
          have e1 : ρ (.tmp 1) = (.pointer (some ⟨w.heap.size, 0, none⟩)) := hin 1 (by kernel_rfl)
          go_simp
          exact ⟨rfl, Gr.refl _⟩
        · refine NetStep.guarded rfl 21 (by kernel_rfl) (fun _ _ h => h) fun ρ wx hw hρc hρf hin hdep => ?_
          have e28 : ρ (.tmp 28) = (.pointer (some ⟨w.heap.size, 0, none⟩)) := hdep 11 28 (by kernel_rfl)
          exact net_load_cells 25 _ rfl w.heap.size 0 e28 (bs b) _ (fun j u hu => by rw [Nat.zero_add]; exact HV.out j u hu) (gr_trans HGr.out hw) Try.underlying25 rfl infoV rfl
        · refine NetStep.guarded rfl 21 (by kernel_rfl) (fun _ _ h => h) fun ρ wx hw hρc hρf hin hdep => ?_
          have e27 : ρ (.tmp 27) = (.agg (bs b)) := hdep 10 27 (by kernel_rfl)
          have e29 : ρ (.tmp 29) = (.agg (bs b)) := hdep 12 29 (by kernel_rfl)
          have hv := eq_vec b b wx
          have hr := vecB_refl b
          go_simp
          exact ⟨rfl, Gr.refl _⟩
        · refine NetStep.of rfl fun ρ wx hw hρc hρf hin hdep => ?_
          have e21 : ρ (.tmp 21) = (.bool false) := hdep 4 21 (by kernel_rfl)
          have e30 : ρ (.tmp 30) = (.bool false) := hdep 13 30 (by kernel_rfl)
          go_simp
          exact ⟨rfl, Gr.refl _⟩
      · intro V wN hgN hV
        have hs : V 31 = .bool false := hV 14 _ 31 rfl rfl
        have HN := Lib.hid (gr_trans HGr.out hgN)
        clear hV hgN
        simp only [Exit.then, putAll, Act.put, Option.map_some, Option.getD_some, List.setIfInBounds_toArray, List.set_cons_succ, List.set_cons_zero]
        rename_i hK
        rw [hs]
        refine hK _ _ ?_
        clear hK hs
        have hi := gr_cell HN.out HI.out
        have hx := gr_cell HN.out HX.out
        obtain ⟨R, hR, hRb⟩ := rem_nat i 16 (by decide)
        obtain ⟨c, hc⟩ : ∃ c, setI b 8 (R : Int) x = c := ⟨_, rfl⟩
        have hth : thereB 8 (R : Int) = true := there_of (L := 16) (by decide) ⟨by omega, hRb⟩
        have CS := set_any b 8 (R : Int) x
        rw [hc] at CS
        have HCS := Lib.hid CS
        have HCy := Lib.hid (hc ▸ setI_byt HBy.out 8 (R : Int) x)
        have hget : getI c 8 (R : Int) = x % 256 ^ wid 8 := by rw [← hc]; exact get_set b 8 (R : Int) x hth
        have HLow := Lib.hid (hget.symm ▸ low_8 x)
        have HO := Lib.hid (show ∀ k : Nat, k ≠ R → getI c 8 (k : Int) = getI b 8 (k : Int) from fun k hk => by rw [← hc]; exact get_set_other b 8 (R : Int) k x (by omega))
        have HRb := Lib.hid hRb
        clear CS hc hget hth
        go_wp2_with (first | (refine wpList_load_cells rfl 25 _ rfl w.heap.size 0 rfl (bs b) _ (fun j u hu => by rw [Nat.zero_add]; exact gr_cell HN.out (HV.out j u hu)) Try.underlying25 rfl infoV ?_) | (go_at_call 17; refine (HCS.out _).mono ?_; rintro e w2 ⟨rfl, hg2⟩; have HG2 := Lib.hid hg2; clear hg2) | (refine wpList_store_row rfl 25 _ _ rfl w2.heap.size (bs c) rfl rfl 25 (bs fun _ => 0) (heap_alloc_new w2 _) infoV rfl (bs_one _) ?_; rw [World.setRow_alloc_new]))
        have HB := Lib.hid (heap_alloc_new w2 (.cells (bs c) 25))
        have HG3 := Lib.hid (gr_trans HN.out (gr_trans HG2.out ((Gr.refl w2).allocO (.cells (bs c) 25))))
        clear hi hx hR hRb HN HG2 HCS
        generalize w2.alloc (.cells (bs c) 25) = W2 at *
        go_loopw [7] (fun u wr => ∃ k : Nat, k ≤ 16 ∧ u = .int .i64 k ∧ Gr W2 wr) (fun u _ => 16 - (intOf u).toNat)
        case atStart => exact ⟨0, by omega, rfl, Gr.refl _⟩
        case round =>
          obtain ⟨k, hk, rfl, hg⟩ := hrel
          have HX2 := Lib.hid (gr_cell (gr_trans HG3.out hg) HX.out)
          have HGk := Lib.hid hg
          clear hg
          by_cases hlt : k < 16
          · by_cases hkR : k = R
            · subst hkR
              have hx := HX2.out
              have hlow := HLow.out
              go_upto_region 17 with (first | (refine wpList_load_cells rfl 25 _ rfl w.heap.size 0 rfl (bs b) _ (fun j u hu => by rw [Nat.zero_add]; exact gr_cell (gr_trans HG3.out HGk.out) (HV.out j u hu)) Try.underlying25 rfl infoV ?_) | (go_at_call 13; refine (get_any b HBy.out 8 (k : Int) _).mono ?_; rintro e w4 ⟨rfl, hg4⟩; have hx := gr_cell hg4 HX2.out; have HG4 := Lib.hid hg4; clear hg4))
              have hgb := getI_bd HCy.out 8 (k : Int)
              have hth : thereB 8 (k : Int) = true := there_of (L := 16) (by decide) ⟨by omega, by omega⟩
              have HSn := Lib.hid (sgn_8 _ hgb.1 hgb.2)
              have CSg := signed_any c HCy.out 8 (k : Int)
              rw [sgnI_sg hth] at CSg
              have HSg := Lib.hid CSg
              have CGc := get_any c HCy.out 8 (k : Int)
              have HCGc := Lib.hid CGc
              have HB4 := Lib.hid (gr_block (gr_trans HGk.out HG4.out) HB.out)
              have hsn := HSn.out
              clear hgb hth CSg CGc HSn
              go_wp2_with (first | (refine wpList_load_row rfl 25 _ rfl w2.heap.size rfl 25 (bs c) (0, 0) _ HB4.out Try.underlying25 rfl infoV ?_) | (refine wpList_load_row_yes rfl 25 _ rfl w2.heap.size rfl 25 (bs c) (0, 0) _ HB5.out Try.underlying25 rfl infoV ?_) | (go_at_call 13; refine (HCGc.out _).mono ?_; rintro e w5 ⟨rfl, hg5⟩; have HB5 := Lib.hid (gr_block hg5 HB4.out); have HG5 := Lib.hid hg5; clear hg5) | (go_at_call 15; refine (HSg.out _).mono ?_; rintro e w6 ⟨rfl, hg6⟩; have HG6 := Lib.hid hg6; clear hg6))
              exact ⟨⟨k + 1, by omega, by go_num, gr_trans (gr_trans HGk.out HG4.out) (gr_trans HG5.out HG6.out)⟩, by simp [intOf]; omega⟩
            · have CG := get_any b HBy.out 8 (k : Int)
              rw [← HO.out k hkR] at CG
              have HCG := Lib.hid CG
              have hne : ¬ ((k : Int) = (R : Int)) := by omega
              clear CG
              go_upto_region 17 with (first | (refine wpList_load_cells rfl 25 _ rfl w.heap.size 0 rfl (bs b) _ (fun j u hu => by rw [Nat.zero_add]; exact gr_cell (gr_trans HG3.out HGk.out) (HV.out j u hu)) Try.underlying25 rfl infoV ?_) | (go_at_call 13; refine (HCG.out _).mono ?_; rintro e w4 ⟨rfl, hg4⟩; have HG4 := Lib.hid hg4; clear hg4))
              have hgb := getI_bd HCy.out 8 (k : Int)
              have hth : thereB 8 (k : Int) = true := there_of (L := 16) (by decide) ⟨by omega, by omega⟩
              have HSn := Lib.hid (sgn_8 _ hgb.1 hgb.2)
              have CSg := signed_any c HCy.out 8 (k : Int)
              rw [sgnI_sg hth] at CSg
              have HSg := Lib.hid CSg
              have CGc := get_any c HCy.out 8 (k : Int)
              have HCGc := Lib.hid CGc
              have HB4 := Lib.hid (gr_block (gr_trans HGk.out HG4.out) HB.out)
              have hsn := HSn.out
              clear hgb hth CSg CGc HSn
              go_wp2_with (first | (refine wpList_load_row rfl 25 _ rfl w2.heap.size rfl 25 (bs c) (0, 0) _ HB4.out Try.underlying25 rfl infoV ?_) | (refine wpList_load_row_yes rfl 25 _ rfl w2.heap.size rfl 25 (bs c) (0, 0) _ HB5.out Try.underlying25 rfl infoV ?_) | (go_at_call 13; refine (HCGc.out _).mono ?_; rintro e w5 ⟨rfl, hg5⟩; have HB5 := Lib.hid (gr_block hg5 HB4.out); have HG5 := Lib.hid hg5; clear hg5) | (go_at_call 15; refine (HSg.out _).mono ?_; rintro e w6 ⟨rfl, hg6⟩; have HG6 := Lib.hid hg6; clear hg6))
              exact ⟨⟨k + 1, by omega, by go_num, gr_trans (gr_trans HGk.out HG4.out) (gr_trans HG5.out HG6.out)⟩, by simp [intOf]; omega⟩
          · obtain rfl : k = 16 := by omega
            go_upto_region 19 with (fail)
            have HGc := Lib.hid (Gr.drew HGk.out)
            refine wp_region_net ΦC8 (by kernel_rfl) (by kernel_rfl) ΦC8_mono ?_ ?_
            · refine ⟨?_, ?_, ?_, ?_, ?_, ?_, ?_, ?_, ?_, ?_, ?_, ?_, ?_, ?_, ?_, ?_, ?_, ?_, ?_, ?_, ?_, ?_, ?_, ?_, ?_, ?_, ?_, trivial⟩
              · refine NetStep.of rfl fun ρ wx hw hρc hρf hin hdep => ?_
                have e3 : ρ (.tmp 3) = (.int .i64 8) := hin 3 (by kernel_rfl)
                go_simp
                exact ⟨rfl, Gr.refl _⟩
              · refine NetStep.of rfl fun ρ wx hw hρc hρf hin hdep => ?_
                have e92 : ρ (.tmp 92) = (.int .i64 8) := hdep 0 92 (by kernel_rfl)
                go_simp
                exact ⟨rfl, Gr.refl _⟩
              · refine NetStep.of rfl fun ρ wx hw hρc hρf hin hdep => ?_
                have e93 : ρ (.tmp 93) = (.bool false) := hdep 1 93 (by kernel_rfl)
                go_simp
                exact ⟨rfl, Gr.refl _⟩
              · exact NetStep.skip rfl 94 (by kernel_rfl) (fun _ _ h => h) (fun _ => rfl)
              · exact NetStep.skip rfl 94 (by kernel_rfl) (fun _ _ h => h) (fun _ => rfl)
              · exact NetStep.skip rfl 94 (by kernel_rfl) (fun _ _ h => h) (fun _ => rfl)
              · exact NetStep.skip rfl 94 (by kernel_rfl) (fun _ _ h => h) (fun _ => rfl)
              · exact NetStep.skip rfl 94 (by kernel_rfl) (fun _ _ h => h) (fun _ => rfl)
              · exact NetStep.skip rfl 94 (by kernel_rfl) (fun _ _ h => h) (fun _ => rfl)
              · exact NetStep.skip rfl 94 (by kernel_rfl) (fun _ _ h => h) (fun _ => rfl)
              · exact NetStep.skip rfl 94 (by kernel_rfl) (fun _ _ h => h) (fun _ => rfl)
              · exact NetStep.skip rfl 94 (by kernel_rfl) (fun _ _ h => h) (fun _ => rfl)
              · exact NetStep.skip rfl 94 (by kernel_rfl) (fun _ _ h => h) (fun _ => rfl)
              · exact NetStep.skip rfl 94 (by kernel_rfl) (fun _ _ h => h) (fun _ => rfl)
              · exact NetStep.skip rfl 94 (by kernel_rfl) (fun _ _ h => h) (fun _ => rfl)
              · exact NetStep.skip rfl 94 (by kernel_rfl) (fun _ _ h => h) (fun _ => rfl)
              · exact NetStep.skip rfl 94 (by kernel_rfl) (fun _ _ h => h) (fun _ => rfl)
              · exact NetStep.skip rfl 94 (by kernel_rfl) (fun _ _ h => h) (fun _ => rfl)
              · exact NetStep.skip rfl 94 (by kernel_rfl) (fun _ _ h => h) (fun _ => rfl)
              · exact NetStep.skip rfl 94 (by kernel_rfl) (fun _ _ h => h) (fun _ => rfl)
              · exact NetStep.skip rfl 94 (by kernel_rfl) (fun _ _ h => h) (fun _ => rfl)
              · exact NetStep.skip rfl 94 (by kernel_rfl) (fun _ _ h => h) (fun _ => rfl)
              · exact NetStep.skip rfl 94 (by kernel_rfl) (fun _ _ h => h) (fun _ => rfl)
              · exact NetStep.skip rfl 94 (by kernel_rfl) (fun _ _ h => h) (fun _ => rfl)
              · exact NetStep.skip rfl 94 (by kernel_rfl) (fun _ _ h => h) (fun _ => rfl)
              · exact NetStep.skip rfl 94 (by kernel_rfl) (fun _ _ h => h) (fun _ => rfl)
              · refine NetStep.of rfl fun ρ wx hw hρc hρf hin hdep => ?_
                have e94 : ρ (.tmp 94) = (.bool false) := hdep 2 94 (by kernel_rfl)
                have e117 : ρ (.tmp 117) = undef := hdep 25 117 (by kernel_rfl)
                go_simp
                exact ⟨rfl, Gr.refl _⟩
            · intro V wN hgN hV
              have hs : V 118 = .bool false := hV 26 _ 118 rfl rfl
              have HN := Lib.hid (gr_trans HGc.out hgN)
              clear hV hgN
              simp only [Exit.then, putAll, Act.put, Option.map_some, Option.getD_some, List.setIfInBounds_toArray, List.set_cons_succ, List.set_cons_zero]
              rename_i hK
              rw [hs]
              refine hK _ _ ?_
              clear hK hs
              go_wp2
              exact ⟨⟨.inr (.inl rfl), gr_trans HG3.out HN.out⟩, by simp [intOf]⟩
    · have HL : ∀ w, Calls Try.prog 11 #[.int .i64 16] w fun e w' => e = .returned (.int .i64 8) ∧ w = w' := lanes_any 16
      have HLh := Lib.hid HL
      have HGr := Lib.hid (Gr.drew hg)
      clear HL hg
      go_upto_region 7 with (go_at_call 11; refine (HLh.out _).mono ?_; rintro e w' ⟨rfl, rfl⟩)
      refine wp_region_net (ΦA16 b w) (by kernel_rfl) (by kernel_rfl) (ΦA16_mono b w) ?_ ?_
      · refine ⟨?_, ?_, ?_, ?_, ?_, ?_, ?_, ?_, ?_, ?_, ?_, ?_, ?_, ?_, ?_, trivial⟩
        · refine NetStep.of rfl fun ρ wx hw hρc hρf hin hdep => ?_
          have e4 : ρ (.tmp 4) = (.int .i64 8) := hin 4 (by kernel_rfl)
          go_simp
          exact ⟨rfl, Gr.refl _⟩
        · refine NetStep.of rfl fun ρ wx hw hρc hρf hin hdep => ?_
          have e3 : ρ (.tmp 3) = (.int .i64 16) := hin 3 (by kernel_rfl)
          go_simp
          exact ⟨rfl, Gr.refl _⟩
        · refine NetStep.of rfl fun ρ wx hw hρc hρf hin hdep => ?_
          have e18 : ρ (.tmp 18) = (.int .i64 16) := hdep 1 18 (by kernel_rfl)
          go_simp
          exact ⟨rfl, Gr.refl _⟩
        · refine NetStep.of rfl fun ρ wx hw hρc hρf hin hdep => ?_
          have e17 : ρ (.tmp 17) = (.int .i64 8) := hdep 0 17 (by kernel_rfl)
          have e19 : ρ (.tmp 19) = (.int .i64 8) := hdep 2 19 (by kernel_rfl)
          go_simp
          exact ⟨rfl, Gr.refl _⟩
        · refine NetStep.of rfl fun ρ wx hw hρc hρf hin hdep => ?_
          have e20 : ρ (.tmp 20) = (.bool false) := hdep 3 20 (by kernel_rfl)
          go_simp
          exact ⟨rfl, Gr.refl _⟩
        · refine NetStep.guarded rfl 21 (by kernel_rfl) (fun _ _ h => h) fun ρ wx hw hρc hρf hin hdep => ?_
          have e3 : ρ (.tmp 3) = (.int .i64 16) := hin 3 (by kernel_rfl)
          go_simp
          exact ⟨rfl, Gr.refl _⟩
        · refine NetStep.guarded rfl 21 (by kernel_rfl) (fun _ _ h => h) fun ρ wx hw hρc hρf hin hdep => ?_
          have e1 : ρ (.tmp 1) = (.pointer (some ⟨w.heap.size, 0, none⟩)) := hin 1 (by kernel_rfl)
          go_simp
          exact ⟨rfl, Gr.refl _⟩
        · refine NetStep.guarded rfl 21 (by kernel_rfl) (fun _ _ h => h) fun ρ wx hw hρc hρf hin hdep => ?_
          have e23 : ρ (.tmp 23) = (.pointer (some ⟨w.heap.size, 0, none⟩)) := hdep 6 23 (by kernel_rfl)
          exact net_load_cells 25 _ rfl w.heap.size 0 e23 (bs b) _ (fun j u hu => by rw [Nat.zero_add]; exact HV.out j u hu) (gr_trans HGr.out hw) Try.underlying25 rfl infoV rfl
        · refine NetStep.guarded rfl 21 (by kernel_rfl) (fun _ _ h => h) fun ρ wx hw hρc hρf hin hdep => ?_
          have e3 : ρ (.tmp 3) = (.int .i64 16) := hin 3 (by kernel_rfl)
          go_simp
          exact ⟨rfl, Gr.refl _⟩
        · refine NetStep.guarded rfl 21 (by kernel_rfl) (fun _ _ h => h) fun ρ wx hw hρc hρf hin hdep => ?_
          have e24 : ρ (.tmp 24) = (.agg (bs b)) := hdep 7 24 (by kernel_rfl)
          have e25 : ρ (.tmp 25) = (.int .i64 16) := hdep 8 25 (by kernel_rfl)
          go_simp
          exact (all_back HBy.out 16 8 (by decide) wx).mono fun e w4 h => by obtain ⟨sv, h1, h2, h3⟩ := h; exact ⟨sv, h1, h2, h3⟩
        · refine NetStep.guarded rfl 21 (by kernel_rfl) (fun _ _ h => h) fun ρ wx hw hρc hρf hin hdep => ?_
          have e22 : ρ (.tmp 22) = (.int .i64 16) := hdep 5 22 (by kernel_rfl)
          have e26 := Lib.hid (show U64s wx (ρ (.tmp 26)) 8 (fun j => getI b 16 j) from hdep 9 26 (by kernel_rfl))
          go_simp
          exact (of_back HBy.out 16 (by decide) 8 (by decide) _ wx e26.out).mono fun e w4 h => ⟨_, h.1, rfl, h.2⟩
        · refine NetStep.guarded rfl 21 (by kernel_rfl) (fun _ _ h => h) fun ρ wx hw hρc hρf hin hdep => ?_
          have e1 : ρ (.tmp 1) = (.pointer (some ⟨w.heap.size, 0, none⟩)) := hin 1 (by kernel_rfl)
          go_simp
          exact ⟨rfl, Gr.refl _⟩
        · refine NetStep.guarded rfl 21 (by kernel_rfl) (fun _ _ h => h) fun ρ wx hw hρc hρf hin hdep => ?_
          have e28 : ρ (.tmp 28) = (.pointer (some ⟨w.heap.size, 0, none⟩)) := hdep 11 28 (by kernel_rfl)
          exact net_load_cells 25 _ rfl w.heap.size 0 e28 (bs b) _ (fun j u hu => by rw [Nat.zero_add]; exact HV.out j u hu) (gr_trans HGr.out hw) Try.underlying25 rfl infoV rfl
        · refine NetStep.guarded rfl 21 (by kernel_rfl) (fun _ _ h => h) fun ρ wx hw hρc hρf hin hdep => ?_
          have e27 : ρ (.tmp 27) = (.agg (bs b)) := hdep 10 27 (by kernel_rfl)
          have e29 : ρ (.tmp 29) = (.agg (bs b)) := hdep 12 29 (by kernel_rfl)
          have hv := eq_vec b b wx
          have hr := vecB_refl b
          go_simp
          exact ⟨rfl, Gr.refl _⟩
        · refine NetStep.of rfl fun ρ wx hw hρc hρf hin hdep => ?_
          have e21 : ρ (.tmp 21) = (.bool false) := hdep 4 21 (by kernel_rfl)
          have e30 : ρ (.tmp 30) = (.bool false) := hdep 13 30 (by kernel_rfl)
          go_simp
          exact ⟨rfl, Gr.refl _⟩
      · intro V wN hgN hV
        have hs : V 31 = .bool false := hV 14 _ 31 rfl rfl
        have HN := Lib.hid (gr_trans HGr.out hgN)
        clear hV hgN
        simp only [Exit.then, putAll, Act.put, Option.map_some, Option.getD_some, List.setIfInBounds_toArray, List.set_cons_succ, List.set_cons_zero]
        rename_i hK
        rw [hs]
        refine hK _ _ ?_
        clear hK hs
        have hi := gr_cell HN.out HI.out
        have hx := gr_cell HN.out HX.out
        obtain ⟨R, hR, hRb⟩ := rem_nat i 8 (by decide)
        obtain ⟨c, hc⟩ : ∃ c, setI b 16 (R : Int) x = c := ⟨_, rfl⟩
        have hth : thereB 16 (R : Int) = true := there_of (L := 8) (by decide) ⟨by omega, hRb⟩
        have CS := set_any b 16 (R : Int) x
        rw [hc] at CS
        have HCS := Lib.hid CS
        have HCy := Lib.hid (hc ▸ setI_byt HBy.out 16 (R : Int) x)
        have hget : getI c 16 (R : Int) = x % 256 ^ wid 16 := by rw [← hc]; exact get_set b 16 (R : Int) x hth
        have HLow := Lib.hid (hget.symm ▸ low_16 x)
        have HO := Lib.hid (show ∀ k : Nat, k ≠ R → getI c 16 (k : Int) = getI b 16 (k : Int) from fun k hk => by rw [← hc]; exact get_set_other b 16 (R : Int) k x (by omega))
        have hh0 : (bits .or .u64 (getI c 8 (2 * (R : Int))) (IntKind.u64.wrap (getI c 8 (2 * (R : Int) + 1) * 256)) = getI c 16 (R : Int)) := (get_halves HCy.out 16 8 8 (by decide) R hth).symm
        have HH := Lib.hid hh0
        clear hh0
        have HRb := Lib.hid hRb
        clear CS hc hget hth
        go_wp2_with (first | (refine wpList_load_cells rfl 25 _ rfl w.heap.size 0 rfl (bs b) _ (fun j u hu => by rw [Nat.zero_add]; exact gr_cell HN.out (HV.out j u hu)) Try.underlying25 rfl infoV ?_) | (go_at_call 17; refine (HCS.out _).mono ?_; rintro e w2 ⟨rfl, hg2⟩; have HG2 := Lib.hid hg2; clear hg2) | (refine wpList_store_row rfl 25 _ _ rfl w2.heap.size (bs c) rfl rfl 25 (bs fun _ => 0) (heap_alloc_new w2 _) infoV rfl (bs_one _) ?_; rw [World.setRow_alloc_new]))
        have HB := Lib.hid (heap_alloc_new w2 (.cells (bs c) 25))
        have HG3 := Lib.hid (gr_trans HN.out (gr_trans HG2.out ((Gr.refl w2).allocO (.cells (bs c) 25))))
        clear hi hx hR hRb HN HG2 HCS
        generalize w2.alloc (.cells (bs c) 25) = W2 at *
        go_loopw [7] (fun u wr => ∃ k : Nat, k ≤ 8 ∧ u = .int .i64 k ∧ Gr W2 wr) (fun u _ => 8 - (intOf u).toNat)
        case atStart => exact ⟨0, by omega, rfl, Gr.refl _⟩
        case round =>
          obtain ⟨k, hk, rfl, hg⟩ := hrel
          have HX2 := Lib.hid (gr_cell (gr_trans HG3.out hg) HX.out)
          have HGk := Lib.hid hg
          clear hg
          by_cases hlt : k < 8
          · by_cases hkR : k = R
            · subst hkR
              have hx := HX2.out
              have hlow := HLow.out
              go_upto_region 17 with (first | (refine wpList_load_cells rfl 25 _ rfl w.heap.size 0 rfl (bs b) _ (fun j u hu => by rw [Nat.zero_add]; exact gr_cell (gr_trans HG3.out HGk.out) (HV.out j u hu)) Try.underlying25 rfl infoV ?_) | (go_at_call 13; refine (get_any b HBy.out 16 (k : Int) _).mono ?_; rintro e w4 ⟨rfl, hg4⟩; have hx := gr_cell hg4 HX2.out; have HG4 := Lib.hid hg4; clear hg4))
              have hgb := getI_bd HCy.out 16 (k : Int)
              have hth : thereB 16 (k : Int) = true := there_of (L := 8) (by decide) ⟨by omega, by omega⟩
              have HSn := Lib.hid (sgn_16 _ hgb.1 hgb.2)
              have CSg := signed_any c HCy.out 16 (k : Int)
              rw [sgnI_sg hth] at CSg
              have HSg := Lib.hid CSg
              have CGc := get_any c HCy.out 16 (k : Int)
              have HCGc := Lib.hid CGc
              have HB4 := Lib.hid (gr_block (gr_trans HGk.out HG4.out) HB.out)
              have hsn := HSn.out
              clear hgb hth CSg CGc HSn
              go_wp2_with (first | (refine wpList_load_row rfl 25 _ rfl w2.heap.size rfl 25 (bs c) (0, 0) _ HB4.out Try.underlying25 rfl infoV ?_) | (refine wpList_load_row_yes rfl 25 _ rfl w2.heap.size rfl 25 (bs c) (0, 0) _ HB5.out Try.underlying25 rfl infoV ?_) | (go_at_call 13; refine (HCGc.out _).mono ?_; rintro e w5 ⟨rfl, hg5⟩; have HB5 := Lib.hid (gr_block hg5 HB4.out); have HG5 := Lib.hid hg5; clear hg5) | (go_at_call 15; refine (HSg.out _).mono ?_; rintro e w6 ⟨rfl, hg6⟩; have HG6 := Lib.hid hg6; clear hg6))
              exact ⟨⟨k + 1, by omega, by go_num, gr_trans (gr_trans HGk.out HG4.out) (gr_trans HG5.out HG6.out)⟩, by simp [intOf]; omega⟩
            · have CG := get_any b HBy.out 16 (k : Int)
              rw [← HO.out k hkR] at CG
              have HCG := Lib.hid CG
              have hne : ¬ ((k : Int) = (R : Int)) := by omega
              clear CG
              go_upto_region 17 with (first | (refine wpList_load_cells rfl 25 _ rfl w.heap.size 0 rfl (bs b) _ (fun j u hu => by rw [Nat.zero_add]; exact gr_cell (gr_trans HG3.out HGk.out) (HV.out j u hu)) Try.underlying25 rfl infoV ?_) | (go_at_call 13; refine (HCG.out _).mono ?_; rintro e w4 ⟨rfl, hg4⟩; have HG4 := Lib.hid hg4; clear hg4))
              have hgb := getI_bd HCy.out 16 (k : Int)
              have hth : thereB 16 (k : Int) = true := there_of (L := 8) (by decide) ⟨by omega, by omega⟩
              have HSn := Lib.hid (sgn_16 _ hgb.1 hgb.2)
              have CSg := signed_any c HCy.out 16 (k : Int)
              rw [sgnI_sg hth] at CSg
              have HSg := Lib.hid CSg
              have CGc := get_any c HCy.out 16 (k : Int)
              have HCGc := Lib.hid CGc
              have HB4 := Lib.hid (gr_block (gr_trans HGk.out HG4.out) HB.out)
              have hsn := HSn.out
              clear hgb hth CSg CGc HSn
              go_wp2_with (first | (refine wpList_load_row rfl 25 _ rfl w2.heap.size rfl 25 (bs c) (0, 0) _ HB4.out Try.underlying25 rfl infoV ?_) | (refine wpList_load_row_yes rfl 25 _ rfl w2.heap.size rfl 25 (bs c) (0, 0) _ HB5.out Try.underlying25 rfl infoV ?_) | (go_at_call 13; refine (HCGc.out _).mono ?_; rintro e w5 ⟨rfl, hg5⟩; have HB5 := Lib.hid (gr_block hg5 HB4.out); have HG5 := Lib.hid hg5; clear hg5) | (go_at_call 15; refine (HSg.out _).mono ?_; rintro e w6 ⟨rfl, hg6⟩; have HG6 := Lib.hid hg6; clear hg6))
              exact ⟨⟨k + 1, by omega, by go_num, gr_trans (gr_trans HGk.out HG4.out) (gr_trans HG5.out HG6.out)⟩, by simp [intOf]; omega⟩
          · obtain rfl : k = 8 := by omega
            go_upto_region 19 with (fail)
            have HGc := Lib.hid (Gr.drew HGk.out)
            refine wp_region_net (ΦC16 c R) (by kernel_rfl) (by kernel_rfl) (ΦC16_mono c R) ?_ ?_
            · refine ⟨?_, ?_, ?_, ?_, ?_, ?_, ?_, ?_, ?_, ?_, ?_, ?_, ?_, ?_, ?_, ?_, ?_, ?_, ?_, ?_, ?_, ?_, ?_, ?_, ?_, ?_, ?_, trivial⟩
              · refine NetStep.of rfl fun ρ wx hw hρc hρf hin hdep => ?_
                have e3 : ρ (.tmp 3) = (.int .i64 16) := hin 3 (by kernel_rfl)
                go_simp
                exact ⟨rfl, Gr.refl _⟩
              · refine NetStep.of rfl fun ρ wx hw hρc hρf hin hdep => ?_
                have e92 : ρ (.tmp 92) = (.int .i64 16) := hdep 0 92 (by kernel_rfl)
                go_simp
                exact ⟨rfl, Gr.refl _⟩
              · refine NetStep.of rfl fun ρ wx hw hρc hρf hin hdep => ?_
                have e93 : ρ (.tmp 93) = (.bool true) := hdep 1 93 (by kernel_rfl)
                go_simp
                exact ⟨rfl, Gr.refl _⟩
              · refine NetStep.guarded rfl 94 (by kernel_rfl) (fun _ _ h => h) fun ρ wx hw hρc hρf hin hdep => ?_
                have e6 : ρ (.tmp 6) = (.pointer (some ⟨w2.heap.size, 0, none⟩)) := hin 6 (by kernel_rfl)
                exact net_load_row 25 _ rfl w2.heap.size e6 25 (bs c) (0, 0) _ HB.out (gr_trans HGc.out hw) Try.underlying25 rfl infoV rfl
              · refine NetStep.guarded rfl 94 (by kernel_rfl) (fun _ _ h => h) fun ρ wx hw hρc hρf hin hdep => ?_
                have e3 : ρ (.tmp 3) = (.int .i64 16) := hin 3 (by kernel_rfl)
                go_simp
                exact ⟨rfl, Gr.refl _⟩
              · refine NetStep.guarded rfl 94 (by kernel_rfl) (fun _ _ h => h) fun ρ wx hw hρc hρf hin hdep => ?_
                have e5 : ρ (.tmp 5) = (.int .i64 (R : Int)) := hin 5 (by kernel_rfl)
                go_simp
                exact ⟨rfl, Gr.refl _⟩
              · refine NetStep.guarded rfl 94 (by kernel_rfl) (fun _ _ h => h) fun ρ wx hw hρc hρf hin hdep => ?_
                have e95 : ρ (.tmp 95) = (.agg (bs c)) := hdep 3 95 (by kernel_rfl)
                have e96 : ρ (.tmp 96) = (.int .i64 16) := hdep 4 96 (by kernel_rfl)
                have e97 : ρ (.tmp 97) = (.int .i64 (R : Int)) := hdep 5 97 (by kernel_rfl)
                go_simp
                exact (get_any c HCy.out 16 (R : Int) wx).mono fun e w4 h => ⟨_, h.1, rfl, h.2⟩
              · refine NetStep.guarded rfl 94 (by kernel_rfl) (fun _ _ h => h) fun ρ wx hw hρc hρf hin hdep => ?_
                have e6 : ρ (.tmp 6) = (.pointer (some ⟨w2.heap.size, 0, none⟩)) := hin 6 (by kernel_rfl)
                exact net_load_row 25 _ rfl w2.heap.size e6 25 (bs c) (0, 0) _ HB.out (gr_trans HGc.out hw) Try.underlying25 rfl infoV rfl
              · refine NetStep.guarded rfl 94 (by kernel_rfl) (fun _ _ h => h) fun ρ wx hw hρc hρf hin hdep => ?_
                have e3 : ρ (.tmp 3) = (.int .i64 16) := hin 3 (by kernel_rfl)
                go_simp
                exact ⟨rfl, Gr.refl _⟩
              · refine NetStep.guarded rfl 94 (by kernel_rfl) (fun _ _ h => h) fun ρ wx hw hρc hρf hin hdep => ?_
                have e100 : ρ (.tmp 100) = (.int .i64 16) := hdep 8 100 (by kernel_rfl)
                go_simp
                exact ⟨rfl, Gr.refl _⟩
              · refine NetStep.guarded rfl 94 (by kernel_rfl) (fun _ _ h => h) fun ρ wx hw hρc hρf hin hdep => ?_
                have e5 : ρ (.tmp 5) = (.int .i64 (R : Int)) := hin 5 (by kernel_rfl)
                go_simp
                exact ⟨rfl, Gr.refl _⟩
              · refine NetStep.guarded rfl 94 (by kernel_rfl) (fun _ _ h => h) fun ρ wx hw hρc hρf hin hdep => ?_
                have e102 : ρ (.tmp 102) = (.int .i64 (R : Int)) := hdep 10 102 (by kernel_rfl)
                have hRb := HRb.out
                have hw1 := (wrapR R (by omega)).1
                have hw2 := (wrapR R (by omega)).2
                go_simp
                exact ⟨rfl, Gr.refl _⟩
              · refine NetStep.guarded rfl 94 (by kernel_rfl) (fun _ _ h => h) fun ρ wx hw hρc hρf hin hdep => ?_
                have e99 : ρ (.tmp 99) = (.agg (bs c)) := hdep 7 99 (by kernel_rfl)
                have e101 : ρ (.tmp 101) = (.int .i64 8) := hdep 9 101 (by kernel_rfl)
                have e103 : ρ (.tmp 103) = (.int .i64 (2 * (R : Int))) := hdep 11 103 (by kernel_rfl)
                go_simp
                exact (get_any c HCy.out 8 (2 * (R : Int)) wx).mono fun e w4 h => ⟨_, h.1, rfl, h.2⟩
              · refine NetStep.guarded rfl 94 (by kernel_rfl) (fun _ _ h => h) fun ρ wx hw hρc hρf hin hdep => ?_
                have e6 : ρ (.tmp 6) = (.pointer (some ⟨w2.heap.size, 0, none⟩)) := hin 6 (by kernel_rfl)
                exact net_load_row 25 _ rfl w2.heap.size e6 25 (bs c) (0, 0) _ HB.out (gr_trans HGc.out hw) Try.underlying25 rfl infoV rfl
              · refine NetStep.guarded rfl 94 (by kernel_rfl) (fun _ _ h => h) fun ρ wx hw hρc hρf hin hdep => ?_
                have e3 : ρ (.tmp 3) = (.int .i64 16) := hin 3 (by kernel_rfl)
                go_simp
                exact ⟨rfl, Gr.refl _⟩
              · refine NetStep.guarded rfl 94 (by kernel_rfl) (fun _ _ h => h) fun ρ wx hw hρc hρf hin hdep => ?_
                have e106 : ρ (.tmp 106) = (.int .i64 16) := hdep 14 106 (by kernel_rfl)
                go_simp
                exact ⟨rfl, Gr.refl _⟩
              · refine NetStep.guarded rfl 94 (by kernel_rfl) (fun _ _ h => h) fun ρ wx hw hρc hρf hin hdep => ?_
                have e5 : ρ (.tmp 5) = (.int .i64 (R : Int)) := hin 5 (by kernel_rfl)
                go_simp
                exact ⟨rfl, Gr.refl _⟩
              · refine NetStep.guarded rfl 94 (by kernel_rfl) (fun _ _ h => h) fun ρ wx hw hρc hρf hin hdep => ?_
                have e108 : ρ (.tmp 108) = (.int .i64 (R : Int)) := hdep 16 108 (by kernel_rfl)
                have hRb := HRb.out
                have hw1 := (wrapR R (by omega)).1
                have hw2 := (wrapR R (by omega)).2
                go_simp
                exact ⟨rfl, Gr.refl _⟩
              · refine NetStep.guarded rfl 94 (by kernel_rfl) (fun _ _ h => h) fun ρ wx hw hρc hρf hin hdep => ?_
                have e109 : ρ (.tmp 109) = (.int .i64 (2 * (R : Int))) := hdep 17 109 (by kernel_rfl)
                have hRb := HRb.out
                have hw1 := (wrapR R (by omega)).1
                have hw2 := (wrapR R (by omega)).2
                go_simp
                exact ⟨rfl, Gr.refl _⟩
              · refine NetStep.guarded rfl 94 (by kernel_rfl) (fun _ _ h => h) fun ρ wx hw hρc hρf hin hdep => ?_
                have e105 : ρ (.tmp 105) = (.agg (bs c)) := hdep 13 105 (by kernel_rfl)
                have e107 : ρ (.tmp 107) = (.int .i64 8) := hdep 15 107 (by kernel_rfl)
                have e110 : ρ (.tmp 110) = (.int .i64 (2 * (R : Int) + 1)) := hdep 18 110 (by kernel_rfl)
                go_simp
                exact (get_any c HCy.out 8 (2 * (R : Int) + 1) wx).mono fun e w4 h => ⟨_, h.1, rfl, h.2⟩
              · refine NetStep.guarded rfl 94 (by kernel_rfl) (fun _ _ h => h) fun ρ wx hw hρc hρf hin hdep => ?_
                have e3 : ρ (.tmp 3) = (.int .i64 16) := hin 3 (by kernel_rfl)
                go_simp
                exact ⟨rfl, Gr.refl _⟩
              · refine NetStep.guarded rfl 94 (by kernel_rfl) (fun _ _ h => h) fun ρ wx hw hρc hρf hin hdep => ?_
                have e112 : ρ (.tmp 112) = (.int .i64 16) := hdep 20 112 (by kernel_rfl)
                go_simp
                exact ⟨rfl, Gr.refl _⟩
              · refine NetStep.guarded rfl 94 (by kernel_rfl) (fun _ _ h => h) fun ρ wx hw hρc hρf hin hdep => ?_
                have e113 : ρ (.tmp 113) = (.int .i64 8) := hdep 21 113 (by kernel_rfl)
                go_simp
                exact ⟨rfl, Gr.refl _⟩
              · refine NetStep.guarded rfl 94 (by kernel_rfl) (fun _ _ h => h) fun ρ wx hw hρc hρf hin hdep => ?_
                have e111 : ρ (.tmp 111) = (.int .u64 (getI c 8 (2 * (R : Int) + 1))) := hdep 19 111 (by kernel_rfl)
                have e114 : ρ (.tmp 114) = (.int .u64 8) := hdep 22 114 (by kernel_rfl)
                go_simp
                exact ⟨rfl, Gr.refl _⟩
              · refine NetStep.guarded rfl 94 (by kernel_rfl) (fun _ _ h => h) fun ρ wx hw hρc hρf hin hdep => ?_
                have e104 : ρ (.tmp 104) = (.int .u64 (getI c 8 (2 * (R : Int)))) := hdep 12 104 (by kernel_rfl)
                have e115 : ρ (.tmp 115) = (.int .u64 (IntKind.u64.wrap ((getI c 8 (2 * (R : Int) + 1)) * 256))) := hdep 23 115 (by kernel_rfl)
                have hH := HH.out
                go_simp
                exact ⟨rfl, Gr.refl _⟩
              · refine NetStep.guarded rfl 94 (by kernel_rfl) (fun _ _ h => h) fun ρ wx hw hρc hρf hin hdep => ?_
                have e98 : ρ (.tmp 98) = (.int .u64 (getI c 16 (R : Int))) := hdep 6 98 (by kernel_rfl)
                have e116 : ρ (.tmp 116) = (.int .u64 (getI c 16 (R : Int))) := hdep 24 116 (by kernel_rfl)
                go_simp
                exact ⟨rfl, Gr.refl _⟩
              · refine NetStep.of rfl fun ρ wx hw hρc hρf hin hdep => ?_
                have e94 : ρ (.tmp 94) = (.bool true) := hdep 2 94 (by kernel_rfl)
                have e117 : ρ (.tmp 117) = (.bool false) := hdep 25 117 (by kernel_rfl)
                go_simp
                exact ⟨rfl, Gr.refl _⟩
            · intro V wN hgN hV
              have hs : V 118 = .bool false := hV 26 _ 118 rfl rfl
              have HN := Lib.hid (gr_trans HGc.out hgN)
              clear hV hgN
              simp only [Exit.then, putAll, Act.put, Option.map_some, Option.getD_some, List.setIfInBounds_toArray, List.set_cons_succ, List.set_cons_zero]
              rename_i hK
              rw [hs]
              refine hK _ _ ?_
              clear hK hs
              go_wp2
              exact ⟨⟨.inr (.inr (.inl rfl)), gr_trans HG3.out HN.out⟩, by simp [intOf]⟩
    · have HL : ∀ w, Calls Try.prog 11 #[.int .i64 32] w fun e w' => e = .returned (.int .i64 4) ∧ w = w' := lanes_any 32
      have HLh := Lib.hid HL
      have HGr := Lib.hid (Gr.drew hg)
      clear HL hg
      go_upto_region 7 with (go_at_call 11; refine (HLh.out _).mono ?_; rintro e w' ⟨rfl, rfl⟩)
      refine wp_region_net (ΦA32 b w) (by kernel_rfl) (by kernel_rfl) (ΦA32_mono b w) ?_ ?_
      · refine ⟨?_, ?_, ?_, ?_, ?_, ?_, ?_, ?_, ?_, ?_, ?_, ?_, ?_, ?_, ?_, trivial⟩
        · refine NetStep.of rfl fun ρ wx hw hρc hρf hin hdep => ?_
          have e4 : ρ (.tmp 4) = (.int .i64 4) := hin 4 (by kernel_rfl)
          go_simp
          exact ⟨rfl, Gr.refl _⟩
        · refine NetStep.of rfl fun ρ wx hw hρc hρf hin hdep => ?_
          have e3 : ρ (.tmp 3) = (.int .i64 32) := hin 3 (by kernel_rfl)
          go_simp
          exact ⟨rfl, Gr.refl _⟩
        · refine NetStep.of rfl fun ρ wx hw hρc hρf hin hdep => ?_
          have e18 : ρ (.tmp 18) = (.int .i64 32) := hdep 1 18 (by kernel_rfl)
          go_simp
          exact ⟨rfl, Gr.refl _⟩
        · refine NetStep.of rfl fun ρ wx hw hρc hρf hin hdep => ?_
          have e17 : ρ (.tmp 17) = (.int .i64 4) := hdep 0 17 (by kernel_rfl)
          have e19 : ρ (.tmp 19) = (.int .i64 4) := hdep 2 19 (by kernel_rfl)
          go_simp
          exact ⟨rfl, Gr.refl _⟩
        · refine NetStep.of rfl fun ρ wx hw hρc hρf hin hdep => ?_
          have e20 : ρ (.tmp 20) = (.bool false) := hdep 3 20 (by kernel_rfl)
          go_simp
          exact ⟨rfl, Gr.refl _⟩
        · refine NetStep.guarded rfl 21 (by kernel_rfl) (fun _ _ h => h) fun ρ wx hw hρc hρf hin hdep => ?_
          have e3 : ρ (.tmp 3) = (.int .i64 32) := hin 3 (by kernel_rfl)
          go_simp
          exact ⟨rfl, Gr.refl _⟩
        · refine NetStep.guarded rfl 21 (by kernel_rfl) (fun _ _ h => h) fun ρ wx hw hρc hρf hin hdep => ?_
          have e1 : ρ (.tmp 1) = (.pointer (some ⟨w.heap.size, 0, none⟩)) := hin 1 (by kernel_rfl)
          go_simp
          exact ⟨rfl, Gr.refl _⟩
        · refine NetStep.guarded rfl 21 (by kernel_rfl) (fun _ _ h => h) fun ρ wx hw hρc hρf hin hdep => ?_
          have e23 : ρ (.tmp 23) = (.pointer (some ⟨w.heap.size, 0, none⟩)) := hdep 6 23 (by kernel_rfl)
          exact net_load_cells 25 _ rfl w.heap.size 0 e23 (bs b) _ (fun j u hu => by rw [Nat.zero_add]; exact HV.out j u hu) (gr_trans HGr.out hw) Try.underlying25 rfl infoV rfl
        · refine NetStep.guarded rfl 21 (by kernel_rfl) (fun _ _ h => h) fun ρ wx hw hρc hρf hin hdep => ?_
          have e3 : ρ (.tmp 3) = (.int .i64 32) := hin 3 (by kernel_rfl)
          go_simp
          exact ⟨rfl, Gr.refl _⟩
        · refine NetStep.guarded rfl 21 (by kernel_rfl) (fun _ _ h => h) fun ρ wx hw hρc hρf hin hdep => ?_
          have e24 : ρ (.tmp 24) = (.agg (bs b)) := hdep 7 24 (by kernel_rfl)
          have e25 : ρ (.tmp 25) = (.int .i64 32) := hdep 8 25 (by kernel_rfl)
          go_simp
          exact (all_back HBy.out 32 4 (by decide) wx).mono fun e w4 h => by obtain ⟨sv, h1, h2, h3⟩ := h; exact ⟨sv, h1, h2, h3⟩
        · refine NetStep.guarded rfl 21 (by kernel_rfl) (fun _ _ h => h) fun ρ wx hw hρc hρf hin hdep => ?_
          have e22 : ρ (.tmp 22) = (.int .i64 32) := hdep 5 22 (by kernel_rfl)
          have e26 := Lib.hid (show U64s wx (ρ (.tmp 26)) 4 (fun j => getI b 32 j) from hdep 9 26 (by kernel_rfl))
          go_simp
          exact (of_back HBy.out 32 (by decide) 4 (by decide) _ wx e26.out).mono fun e w4 h => ⟨_, h.1, rfl, h.2⟩
        · refine NetStep.guarded rfl 21 (by kernel_rfl) (fun _ _ h => h) fun ρ wx hw hρc hρf hin hdep => ?_
          have e1 : ρ (.tmp 1) = (.pointer (some ⟨w.heap.size, 0, none⟩)) := hin 1 (by kernel_rfl)
          go_simp
          exact ⟨rfl, Gr.refl _⟩
        · refine NetStep.guarded rfl 21 (by kernel_rfl) (fun _ _ h => h) fun ρ wx hw hρc hρf hin hdep => ?_
          have e28 : ρ (.tmp 28) = (.pointer (some ⟨w.heap.size, 0, none⟩)) := hdep 11 28 (by kernel_rfl)
          exact net_load_cells 25 _ rfl w.heap.size 0 e28 (bs b) _ (fun j u hu => by rw [Nat.zero_add]; exact HV.out j u hu) (gr_trans HGr.out hw) Try.underlying25 rfl infoV rfl
        · refine NetStep.guarded rfl 21 (by kernel_rfl) (fun _ _ h => h) fun ρ wx hw hρc hρf hin hdep => ?_
          have e27 : ρ (.tmp 27) = (.agg (bs b)) := hdep 10 27 (by kernel_rfl)
          have e29 : ρ (.tmp 29) = (.agg (bs b)) := hdep 12 29 (by kernel_rfl)
          have hv := eq_vec b b wx
          have hr := vecB_refl b
          go_simp
          exact ⟨rfl, Gr.refl _⟩
        · refine NetStep.of rfl fun ρ wx hw hρc hρf hin hdep => ?_
          have e21 : ρ (.tmp 21) = (.bool false) := hdep 4 21 (by kernel_rfl)
          have e30 : ρ (.tmp 30) = (.bool false) := hdep 13 30 (by kernel_rfl)
          go_simp
          exact ⟨rfl, Gr.refl _⟩
      · intro V wN hgN hV
        have hs : V 31 = .bool false := hV 14 _ 31 rfl rfl
        have HN := Lib.hid (gr_trans HGr.out hgN)
        clear hV hgN
        simp only [Exit.then, putAll, Act.put, Option.map_some, Option.getD_some, List.setIfInBounds_toArray, List.set_cons_succ, List.set_cons_zero]
        rename_i hK
        rw [hs]
        refine hK _ _ ?_
        clear hK hs
        have hi := gr_cell HN.out HI.out
        have hx := gr_cell HN.out HX.out
        obtain ⟨R, hR, hRb⟩ := rem_nat i 4 (by decide)
        obtain ⟨c, hc⟩ : ∃ c, setI b 32 (R : Int) x = c := ⟨_, rfl⟩
        have hth : thereB 32 (R : Int) = true := there_of (L := 4) (by decide) ⟨by omega, hRb⟩
        have CS := set_any b 32 (R : Int) x
        rw [hc] at CS
        have HCS := Lib.hid CS
        have HCy := Lib.hid (hc ▸ setI_byt HBy.out 32 (R : Int) x)
        have hget : getI c 32 (R : Int) = x % 256 ^ wid 32 := by rw [← hc]; exact get_set b 32 (R : Int) x hth
        have HLow := Lib.hid (hget.symm ▸ low_32 x)
        have HO := Lib.hid (show ∀ k : Nat, k ≠ R → getI c 32 (k : Int) = getI b 32 (k : Int) from fun k hk => by rw [← hc]; exact get_set_other b 32 (R : Int) k x (by omega))
        have hh0 : (bits .or .u64 (getI c 16 (2 * (R : Int))) (IntKind.u64.wrap (getI c 16 (2 * (R : Int) + 1) * 65536)) = getI c 32 (R : Int)) := (get_halves HCy.out 32 16 16 (by decide) R hth).symm
        have HH := Lib.hid hh0
        clear hh0
        have HRb := Lib.hid hRb
        clear CS hc hget hth
        go_wp2_with (first | (refine wpList_load_cells rfl 25 _ rfl w.heap.size 0 rfl (bs b) _ (fun j u hu => by rw [Nat.zero_add]; exact gr_cell HN.out (HV.out j u hu)) Try.underlying25 rfl infoV ?_) | (go_at_call 17; refine (HCS.out _).mono ?_; rintro e w2 ⟨rfl, hg2⟩; have HG2 := Lib.hid hg2; clear hg2) | (refine wpList_store_row rfl 25 _ _ rfl w2.heap.size (bs c) rfl rfl 25 (bs fun _ => 0) (heap_alloc_new w2 _) infoV rfl (bs_one _) ?_; rw [World.setRow_alloc_new]))
        have HB := Lib.hid (heap_alloc_new w2 (.cells (bs c) 25))
        have HG3 := Lib.hid (gr_trans HN.out (gr_trans HG2.out ((Gr.refl w2).allocO (.cells (bs c) 25))))
        clear hi hx hR hRb HN HG2 HCS
        generalize w2.alloc (.cells (bs c) 25) = W2 at *
        go_loopw [7] (fun u wr => ∃ k : Nat, k ≤ 4 ∧ u = .int .i64 k ∧ Gr W2 wr) (fun u _ => 4 - (intOf u).toNat)
        case atStart => exact ⟨0, by omega, rfl, Gr.refl _⟩
        case round =>
          obtain ⟨k, hk, rfl, hg⟩ := hrel
          have HX2 := Lib.hid (gr_cell (gr_trans HG3.out hg) HX.out)
          have HGk := Lib.hid hg
          clear hg
          by_cases hlt : k < 4
          · by_cases hkR : k = R
            · subst hkR
              have hx := HX2.out
              have hlow := HLow.out
              go_upto_region 17 with (first | (refine wpList_load_cells rfl 25 _ rfl w.heap.size 0 rfl (bs b) _ (fun j u hu => by rw [Nat.zero_add]; exact gr_cell (gr_trans HG3.out HGk.out) (HV.out j u hu)) Try.underlying25 rfl infoV ?_) | (go_at_call 13; refine (get_any b HBy.out 32 (k : Int) _).mono ?_; rintro e w4 ⟨rfl, hg4⟩; have hx := gr_cell hg4 HX2.out; have HG4 := Lib.hid hg4; clear hg4))
              have hgb := getI_bd HCy.out 32 (k : Int)
              have hth : thereB 32 (k : Int) = true := there_of (L := 4) (by decide) ⟨by omega, by omega⟩
              have HSn := Lib.hid (sgn_32 _ hgb.1 hgb.2)
              have CSg := signed_any c HCy.out 32 (k : Int)
              rw [sgnI_sg hth] at CSg
              have HSg := Lib.hid CSg
              have CGc := get_any c HCy.out 32 (k : Int)
              have HCGc := Lib.hid CGc
              have HB4 := Lib.hid (gr_block (gr_trans HGk.out HG4.out) HB.out)
              have hsn := HSn.out
              clear hgb hth CSg CGc HSn
              go_wp2_with (first | (refine wpList_load_row rfl 25 _ rfl w2.heap.size rfl 25 (bs c) (0, 0) _ HB4.out Try.underlying25 rfl infoV ?_) | (refine wpList_load_row_yes rfl 25 _ rfl w2.heap.size rfl 25 (bs c) (0, 0) _ HB5.out Try.underlying25 rfl infoV ?_) | (go_at_call 13; refine (HCGc.out _).mono ?_; rintro e w5 ⟨rfl, hg5⟩; have HB5 := Lib.hid (gr_block hg5 HB4.out); have HG5 := Lib.hid hg5; clear hg5) | (go_at_call 15; refine (HSg.out _).mono ?_; rintro e w6 ⟨rfl, hg6⟩; have HG6 := Lib.hid hg6; clear hg6))
              exact ⟨⟨k + 1, by omega, by go_num, gr_trans (gr_trans HGk.out HG4.out) (gr_trans HG5.out HG6.out)⟩, by simp [intOf]; omega⟩
            · have CG := get_any b HBy.out 32 (k : Int)
              rw [← HO.out k hkR] at CG
              have HCG := Lib.hid CG
              have hne : ¬ ((k : Int) = (R : Int)) := by omega
              clear CG
              go_upto_region 17 with (first | (refine wpList_load_cells rfl 25 _ rfl w.heap.size 0 rfl (bs b) _ (fun j u hu => by rw [Nat.zero_add]; exact gr_cell (gr_trans HG3.out HGk.out) (HV.out j u hu)) Try.underlying25 rfl infoV ?_) | (go_at_call 13; refine (HCG.out _).mono ?_; rintro e w4 ⟨rfl, hg4⟩; have HG4 := Lib.hid hg4; clear hg4))
              have hgb := getI_bd HCy.out 32 (k : Int)
              have hth : thereB 32 (k : Int) = true := there_of (L := 4) (by decide) ⟨by omega, by omega⟩
              have HSn := Lib.hid (sgn_32 _ hgb.1 hgb.2)
              have CSg := signed_any c HCy.out 32 (k : Int)
              rw [sgnI_sg hth] at CSg
              have HSg := Lib.hid CSg
              have CGc := get_any c HCy.out 32 (k : Int)
              have HCGc := Lib.hid CGc
              have HB4 := Lib.hid (gr_block (gr_trans HGk.out HG4.out) HB.out)
              have hsn := HSn.out
              clear hgb hth CSg CGc HSn
              go_wp2_with (first | (refine wpList_load_row rfl 25 _ rfl w2.heap.size rfl 25 (bs c) (0, 0) _ HB4.out Try.underlying25 rfl infoV ?_) | (refine wpList_load_row_yes rfl 25 _ rfl w2.heap.size rfl 25 (bs c) (0, 0) _ HB5.out Try.underlying25 rfl infoV ?_) | (go_at_call 13; refine (HCGc.out _).mono ?_; rintro e w5 ⟨rfl, hg5⟩; have HB5 := Lib.hid (gr_block hg5 HB4.out); have HG5 := Lib.hid hg5; clear hg5) | (go_at_call 15; refine (HSg.out _).mono ?_; rintro e w6 ⟨rfl, hg6⟩; have HG6 := Lib.hid hg6; clear hg6))
              exact ⟨⟨k + 1, by omega, by go_num, gr_trans (gr_trans HGk.out HG4.out) (gr_trans HG5.out HG6.out)⟩, by simp [intOf]; omega⟩
          · obtain rfl : k = 4 := by omega
            go_upto_region 19 with (fail)
            have HGc := Lib.hid (Gr.drew HGk.out)
            refine wp_region_net (ΦC32 c R) (by kernel_rfl) (by kernel_rfl) (ΦC32_mono c R) ?_ ?_
            · refine ⟨?_, ?_, ?_, ?_, ?_, ?_, ?_, ?_, ?_, ?_, ?_, ?_, ?_, ?_, ?_, ?_, ?_, ?_, ?_, ?_, ?_, ?_, ?_, ?_, ?_, ?_, ?_, trivial⟩
              · refine NetStep.of rfl fun ρ wx hw hρc hρf hin hdep => ?_
                have e3 : ρ (.tmp 3) = (.int .i64 32) := hin 3 (by kernel_rfl)
                go_simp
                exact ⟨rfl, Gr.refl _⟩
              · refine NetStep.of rfl fun ρ wx hw hρc hρf hin hdep => ?_
                have e92 : ρ (.tmp 92) = (.int .i64 32) := hdep 0 92 (by kernel_rfl)
                go_simp
                exact ⟨rfl, Gr.refl _⟩
              · refine NetStep.of rfl fun ρ wx hw hρc hρf hin hdep => ?_
                have e93 : ρ (.tmp 93) = (.bool true) := hdep 1 93 (by kernel_rfl)
                go_simp
                exact ⟨rfl, Gr.refl _⟩
              · refine NetStep.guarded rfl 94 (by kernel_rfl) (fun _ _ h => h) fun ρ wx hw hρc hρf hin hdep => ?_
                have e6 : ρ (.tmp 6) = (.pointer (some ⟨w2.heap.size, 0, none⟩)) := hin 6 (by kernel_rfl)
                exact net_load_row 25 _ rfl w2.heap.size e6 25 (bs c) (0, 0) _ HB.out (gr_trans HGc.out hw) Try.underlying25 rfl infoV rfl
              · refine NetStep.guarded rfl 94 (by kernel_rfl) (fun _ _ h => h) fun ρ wx hw hρc hρf hin hdep => ?_
                have e3 : ρ (.tmp 3) = (.int .i64 32) := hin 3 (by kernel_rfl)
                go_simp
                exact ⟨rfl, Gr.refl _⟩
              · refine NetStep.guarded rfl 94 (by kernel_rfl) (fun _ _ h => h) fun ρ wx hw hρc hρf hin hdep => ?_
                have e5 : ρ (.tmp 5) = (.int .i64 (R : Int)) := hin 5 (by kernel_rfl)
                go_simp
                exact ⟨rfl, Gr.refl _⟩
              · refine NetStep.guarded rfl 94 (by kernel_rfl) (fun _ _ h => h) fun ρ wx hw hρc hρf hin hdep => ?_
                have e95 : ρ (.tmp 95) = (.agg (bs c)) := hdep 3 95 (by kernel_rfl)
                have e96 : ρ (.tmp 96) = (.int .i64 32) := hdep 4 96 (by kernel_rfl)
                have e97 : ρ (.tmp 97) = (.int .i64 (R : Int)) := hdep 5 97 (by kernel_rfl)
                go_simp
                exact (get_any c HCy.out 32 (R : Int) wx).mono fun e w4 h => ⟨_, h.1, rfl, h.2⟩
              · refine NetStep.guarded rfl 94 (by kernel_rfl) (fun _ _ h => h) fun ρ wx hw hρc hρf hin hdep => ?_
                have e6 : ρ (.tmp 6) = (.pointer (some ⟨w2.heap.size, 0, none⟩)) := hin 6 (by kernel_rfl)
                exact net_load_row 25 _ rfl w2.heap.size e6 25 (bs c) (0, 0) _ HB.out (gr_trans HGc.out hw) Try.underlying25 rfl infoV rfl
              · refine NetStep.guarded rfl 94 (by kernel_rfl) (fun _ _ h => h) fun ρ wx hw hρc hρf hin hdep => ?_
                have e3 : ρ (.tmp 3) = (.int .i64 32) := hin 3 (by kernel_rfl)
                go_simp
                exact ⟨rfl, Gr.refl _⟩
              · refine NetStep.guarded rfl 94 (by kernel_rfl) (fun _ _ h => h) fun ρ wx hw hρc hρf hin hdep => ?_
                have e100 : ρ (.tmp 100) = (.int .i64 32) := hdep 8 100 (by kernel_rfl)
                go_simp
                exact ⟨rfl, Gr.refl _⟩
              · refine NetStep.guarded rfl 94 (by kernel_rfl) (fun _ _ h => h) fun ρ wx hw hρc hρf hin hdep => ?_
                have e5 : ρ (.tmp 5) = (.int .i64 (R : Int)) := hin 5 (by kernel_rfl)
                go_simp
                exact ⟨rfl, Gr.refl _⟩
              · refine NetStep.guarded rfl 94 (by kernel_rfl) (fun _ _ h => h) fun ρ wx hw hρc hρf hin hdep => ?_
                have e102 : ρ (.tmp 102) = (.int .i64 (R : Int)) := hdep 10 102 (by kernel_rfl)
                have hRb := HRb.out
                have hw1 := (wrapR R (by omega)).1
                have hw2 := (wrapR R (by omega)).2
                go_simp
                exact ⟨rfl, Gr.refl _⟩
              · refine NetStep.guarded rfl 94 (by kernel_rfl) (fun _ _ h => h) fun ρ wx hw hρc hρf hin hdep => ?_
                have e99 : ρ (.tmp 99) = (.agg (bs c)) := hdep 7 99 (by kernel_rfl)
                have e101 : ρ (.tmp 101) = (.int .i64 16) := hdep 9 101 (by kernel_rfl)
                have e103 : ρ (.tmp 103) = (.int .i64 (2 * (R : Int))) := hdep 11 103 (by kernel_rfl)
                go_simp
                exact (get_any c HCy.out 16 (2 * (R : Int)) wx).mono fun e w4 h => ⟨_, h.1, rfl, h.2⟩
              · refine NetStep.guarded rfl 94 (by kernel_rfl) (fun _ _ h => h) fun ρ wx hw hρc hρf hin hdep => ?_
                have e6 : ρ (.tmp 6) = (.pointer (some ⟨w2.heap.size, 0, none⟩)) := hin 6 (by kernel_rfl)
                exact net_load_row 25 _ rfl w2.heap.size e6 25 (bs c) (0, 0) _ HB.out (gr_trans HGc.out hw) Try.underlying25 rfl infoV rfl
              · refine NetStep.guarded rfl 94 (by kernel_rfl) (fun _ _ h => h) fun ρ wx hw hρc hρf hin hdep => ?_
                have e3 : ρ (.tmp 3) = (.int .i64 32) := hin 3 (by kernel_rfl)
                go_simp
                exact ⟨rfl, Gr.refl _⟩
              · refine NetStep.guarded rfl 94 (by kernel_rfl) (fun _ _ h => h) fun ρ wx hw hρc hρf hin hdep => ?_
                have e106 : ρ (.tmp 106) = (.int .i64 32) := hdep 14 106 (by kernel_rfl)
                go_simp
                exact ⟨rfl, Gr.refl _⟩
              · refine NetStep.guarded rfl 94 (by kernel_rfl) (fun _ _ h => h) fun ρ wx hw hρc hρf hin hdep => ?_
                have e5 : ρ (.tmp 5) = (.int .i64 (R : Int)) := hin 5 (by kernel_rfl)
                go_simp
                exact ⟨rfl, Gr.refl _⟩
              · refine NetStep.guarded rfl 94 (by kernel_rfl) (fun _ _ h => h) fun ρ wx hw hρc hρf hin hdep => ?_
                have e108 : ρ (.tmp 108) = (.int .i64 (R : Int)) := hdep 16 108 (by kernel_rfl)
                have hRb := HRb.out
                have hw1 := (wrapR R (by omega)).1
                have hw2 := (wrapR R (by omega)).2
                go_simp
                exact ⟨rfl, Gr.refl _⟩
              · refine NetStep.guarded rfl 94 (by kernel_rfl) (fun _ _ h => h) fun ρ wx hw hρc hρf hin hdep => ?_
                have e109 : ρ (.tmp 109) = (.int .i64 (2 * (R : Int))) := hdep 17 109 (by kernel_rfl)
                have hRb := HRb.out
                have hw1 := (wrapR R (by omega)).1
                have hw2 := (wrapR R (by omega)).2
                go_simp
                exact ⟨rfl, Gr.refl _⟩
              · refine NetStep.guarded rfl 94 (by kernel_rfl) (fun _ _ h => h) fun ρ wx hw hρc hρf hin hdep => ?_
                have e105 : ρ (.tmp 105) = (.agg (bs c)) := hdep 13 105 (by kernel_rfl)
                have e107 : ρ (.tmp 107) = (.int .i64 16) := hdep 15 107 (by kernel_rfl)
                have e110 : ρ (.tmp 110) = (.int .i64 (2 * (R : Int) + 1)) := hdep 18 110 (by kernel_rfl)
                go_simp
                exact (get_any c HCy.out 16 (2 * (R : Int) + 1) wx).mono fun e w4 h => ⟨_, h.1, rfl, h.2⟩
              · refine NetStep.guarded rfl 94 (by kernel_rfl) (fun _ _ h => h) fun ρ wx hw hρc hρf hin hdep => ?_
                have e3 : ρ (.tmp 3) = (.int .i64 32) := hin 3 (by kernel_rfl)
                go_simp
                exact ⟨rfl, Gr.refl _⟩
              · refine NetStep.guarded rfl 94 (by kernel_rfl) (fun _ _ h => h) fun ρ wx hw hρc hρf hin hdep => ?_
                have e112 : ρ (.tmp 112) = (.int .i64 32) := hdep 20 112 (by kernel_rfl)
                go_simp
                exact ⟨rfl, Gr.refl _⟩
              · refine NetStep.guarded rfl 94 (by kernel_rfl) (fun _ _ h => h) fun ρ wx hw hρc hρf hin hdep => ?_
                have e113 : ρ (.tmp 113) = (.int .i64 16) := hdep 21 113 (by kernel_rfl)
                go_simp
                exact ⟨rfl, Gr.refl _⟩
              · refine NetStep.guarded rfl 94 (by kernel_rfl) (fun _ _ h => h) fun ρ wx hw hρc hρf hin hdep => ?_
                have e111 : ρ (.tmp 111) = (.int .u64 (getI c 16 (2 * (R : Int) + 1))) := hdep 19 111 (by kernel_rfl)
                have e114 : ρ (.tmp 114) = (.int .u64 16) := hdep 22 114 (by kernel_rfl)
                go_simp
                exact ⟨rfl, Gr.refl _⟩
              · refine NetStep.guarded rfl 94 (by kernel_rfl) (fun _ _ h => h) fun ρ wx hw hρc hρf hin hdep => ?_
                have e104 : ρ (.tmp 104) = (.int .u64 (getI c 16 (2 * (R : Int)))) := hdep 12 104 (by kernel_rfl)
                have e115 : ρ (.tmp 115) = (.int .u64 (IntKind.u64.wrap ((getI c 16 (2 * (R : Int) + 1)) * 65536))) := hdep 23 115 (by kernel_rfl)
                have hH := HH.out
                go_simp
                exact ⟨rfl, Gr.refl _⟩
              · refine NetStep.guarded rfl 94 (by kernel_rfl) (fun _ _ h => h) fun ρ wx hw hρc hρf hin hdep => ?_
                have e98 : ρ (.tmp 98) = (.int .u64 (getI c 32 (R : Int))) := hdep 6 98 (by kernel_rfl)
                have e116 : ρ (.tmp 116) = (.int .u64 (getI c 32 (R : Int))) := hdep 24 116 (by kernel_rfl)
                go_simp
                exact ⟨rfl, Gr.refl _⟩
              · refine NetStep.of rfl fun ρ wx hw hρc hρf hin hdep => ?_
                have e94 : ρ (.tmp 94) = (.bool true) := hdep 2 94 (by kernel_rfl)
                have e117 : ρ (.tmp 117) = (.bool false) := hdep 25 117 (by kernel_rfl)
                go_simp
                exact ⟨rfl, Gr.refl _⟩
            · intro V wN hgN hV
              have hs : V 118 = .bool false := hV 26 _ 118 rfl rfl
              have HN := Lib.hid (gr_trans HGc.out hgN)
              clear hV hgN
              simp only [Exit.then, putAll, Act.put, Option.map_some, Option.getD_some, List.setIfInBounds_toArray, List.set_cons_succ, List.set_cons_zero]
              rename_i hK
              rw [hs]
              refine hK _ _ ?_
              clear hK hs
              go_wp2
              exact ⟨⟨.inr (.inr (.inr (.inl rfl))), gr_trans HG3.out HN.out⟩, by simp [intOf]⟩
    · have HL : ∀ w, Calls Try.prog 11 #[.int .i64 64] w fun e w' => e = .returned (.int .i64 2) ∧ w = w' := lanes_any 64
      have HLh := Lib.hid HL
      have HGr := Lib.hid (Gr.drew hg)
      clear HL hg
      go_upto_region 7 with (go_at_call 11; refine (HLh.out _).mono ?_; rintro e w' ⟨rfl, rfl⟩)
      refine wp_region_net (ΦA64 b w) (by kernel_rfl) (by kernel_rfl) (ΦA64_mono b w) ?_ ?_
      · refine ⟨?_, ?_, ?_, ?_, ?_, ?_, ?_, ?_, ?_, ?_, ?_, ?_, ?_, ?_, ?_, trivial⟩
        · refine NetStep.of rfl fun ρ wx hw hρc hρf hin hdep => ?_
          have e4 : ρ (.tmp 4) = (.int .i64 2) := hin 4 (by kernel_rfl)
          go_simp
          exact ⟨rfl, Gr.refl _⟩
        · refine NetStep.of rfl fun ρ wx hw hρc hρf hin hdep => ?_
          have e3 : ρ (.tmp 3) = (.int .i64 64) := hin 3 (by kernel_rfl)
          go_simp
          exact ⟨rfl, Gr.refl _⟩
        · refine NetStep.of rfl fun ρ wx hw hρc hρf hin hdep => ?_
          have e18 : ρ (.tmp 18) = (.int .i64 64) := hdep 1 18 (by kernel_rfl)
          go_simp
          exact ⟨rfl, Gr.refl _⟩
        · refine NetStep.of rfl fun ρ wx hw hρc hρf hin hdep => ?_
          have e17 : ρ (.tmp 17) = (.int .i64 2) := hdep 0 17 (by kernel_rfl)
          have e19 : ρ (.tmp 19) = (.int .i64 2) := hdep 2 19 (by kernel_rfl)
          go_simp
          exact ⟨rfl, Gr.refl _⟩
        · refine NetStep.of rfl fun ρ wx hw hρc hρf hin hdep => ?_
          have e20 : ρ (.tmp 20) = (.bool false) := hdep 3 20 (by kernel_rfl)
          go_simp
          exact ⟨rfl, Gr.refl _⟩
        · refine NetStep.guarded rfl 21 (by kernel_rfl) (fun _ _ h => h) fun ρ wx hw hρc hρf hin hdep => ?_
          have e3 : ρ (.tmp 3) = (.int .i64 64) := hin 3 (by kernel_rfl)
          go_simp
          exact ⟨rfl, Gr.refl _⟩
        · refine NetStep.guarded rfl 21 (by kernel_rfl) (fun _ _ h => h) fun ρ wx hw hρc hρf hin hdep => ?_
          have e1 : ρ (.tmp 1) = (.pointer (some ⟨w.heap.size, 0, none⟩)) := hin 1 (by kernel_rfl)
          go_simp
          exact ⟨rfl, Gr.refl _⟩
        · refine NetStep.guarded rfl 21 (by kernel_rfl) (fun _ _ h => h) fun ρ wx hw hρc hρf hin hdep => ?_
          have e23 : ρ (.tmp 23) = (.pointer (some ⟨w.heap.size, 0, none⟩)) := hdep 6 23 (by kernel_rfl)
          exact net_load_cells 25 _ rfl w.heap.size 0 e23 (bs b) _ (fun j u hu => by rw [Nat.zero_add]; exact HV.out j u hu) (gr_trans HGr.out hw) Try.underlying25 rfl infoV rfl
        · refine NetStep.guarded rfl 21 (by kernel_rfl) (fun _ _ h => h) fun ρ wx hw hρc hρf hin hdep => ?_
          have e3 : ρ (.tmp 3) = (.int .i64 64) := hin 3 (by kernel_rfl)
          go_simp
          exact ⟨rfl, Gr.refl _⟩
        · refine NetStep.guarded rfl 21 (by kernel_rfl) (fun _ _ h => h) fun ρ wx hw hρc hρf hin hdep => ?_
          have e24 : ρ (.tmp 24) = (.agg (bs b)) := hdep 7 24 (by kernel_rfl)
          have e25 : ρ (.tmp 25) = (.int .i64 64) := hdep 8 25 (by kernel_rfl)
          go_simp
          exact (all_back HBy.out 64 2 (by decide) wx).mono fun e w4 h => by obtain ⟨sv, h1, h2, h3⟩ := h; exact ⟨sv, h1, h2, h3⟩
        · refine NetStep.guarded rfl 21 (by kernel_rfl) (fun _ _ h => h) fun ρ wx hw hρc hρf hin hdep => ?_
          have e22 : ρ (.tmp 22) = (.int .i64 64) := hdep 5 22 (by kernel_rfl)
          have e26 := Lib.hid (show U64s wx (ρ (.tmp 26)) 2 (fun j => getI b 64 j) from hdep 9 26 (by kernel_rfl))
          go_simp
          exact (of_back HBy.out 64 (by decide) 2 (by decide) _ wx e26.out).mono fun e w4 h => ⟨_, h.1, rfl, h.2⟩
        · refine NetStep.guarded rfl 21 (by kernel_rfl) (fun _ _ h => h) fun ρ wx hw hρc hρf hin hdep => ?_
          have e1 : ρ (.tmp 1) = (.pointer (some ⟨w.heap.size, 0, none⟩)) := hin 1 (by kernel_rfl)
          go_simp
          exact ⟨rfl, Gr.refl _⟩
        · refine NetStep.guarded rfl 21 (by kernel_rfl) (fun _ _ h => h) fun ρ wx hw hρc hρf hin hdep => ?_
          have e28 : ρ (.tmp 28) = (.pointer (some ⟨w.heap.size, 0, none⟩)) := hdep 11 28 (by kernel_rfl)
          exact net_load_cells 25 _ rfl w.heap.size 0 e28 (bs b) _ (fun j u hu => by rw [Nat.zero_add]; exact HV.out j u hu) (gr_trans HGr.out hw) Try.underlying25 rfl infoV rfl
        · refine NetStep.guarded rfl 21 (by kernel_rfl) (fun _ _ h => h) fun ρ wx hw hρc hρf hin hdep => ?_
          have e27 : ρ (.tmp 27) = (.agg (bs b)) := hdep 10 27 (by kernel_rfl)
          have e29 : ρ (.tmp 29) = (.agg (bs b)) := hdep 12 29 (by kernel_rfl)
          have hv := eq_vec b b wx
          have hr := vecB_refl b
          go_simp
          exact ⟨rfl, Gr.refl _⟩
        · refine NetStep.of rfl fun ρ wx hw hρc hρf hin hdep => ?_
          have e21 : ρ (.tmp 21) = (.bool false) := hdep 4 21 (by kernel_rfl)
          have e30 : ρ (.tmp 30) = (.bool false) := hdep 13 30 (by kernel_rfl)
          go_simp
          exact ⟨rfl, Gr.refl _⟩
      · intro V wN hgN hV
        have hs : V 31 = .bool false := hV 14 _ 31 rfl rfl
        have HN := Lib.hid (gr_trans HGr.out hgN)
        clear hV hgN
        simp only [Exit.then, putAll, Act.put, Option.map_some, Option.getD_some, List.setIfInBounds_toArray, List.set_cons_succ, List.set_cons_zero]
        rename_i hK
        rw [hs]
        refine hK _ _ ?_
        clear hK hs
        have hi := gr_cell HN.out HI.out
        have hx := gr_cell HN.out HX.out
        obtain ⟨R, hR, hRb⟩ := rem_nat i 2 (by decide)
        obtain ⟨c, hc⟩ : ∃ c, setI b 64 (R : Int) x = c := ⟨_, rfl⟩
        have hth : thereB 64 (R : Int) = true := there_of (L := 2) (by decide) ⟨by omega, hRb⟩
        have CS := set_any b 64 (R : Int) x
        rw [hc] at CS
        have HCS := Lib.hid CS
        have HCy := Lib.hid (hc ▸ setI_byt HBy.out 64 (R : Int) x)
        have hget : getI c 64 (R : Int) = x % 256 ^ wid 64 := by rw [← hc]; exact get_set b 64 (R : Int) x hth
        have HLow := Lib.hid (hget.symm ▸ low_64 x HXb.out)
        have HO := Lib.hid (show ∀ k : Nat, k ≠ R → getI c 64 (k : Int) = getI b 64 (k : Int) from fun k hk => by rw [← hc]; exact get_set_other b 64 (R : Int) k x (by omega))
        have hh0 : (bits .or .u64 (getI c 32 (2 * (R : Int))) (IntKind.u64.wrap (getI c 32 (2 * (R : Int) + 1) * 4294967296)) = getI c 64 (R : Int)) := (get_halves HCy.out 64 32 32 (by decide) R hth).symm
        have HH := Lib.hid hh0
        clear hh0
        have HRb := Lib.hid hRb
        clear CS hc hget hth
        go_wp2_with (first | (refine wpList_load_cells rfl 25 _ rfl w.heap.size 0 rfl (bs b) _ (fun j u hu => by rw [Nat.zero_add]; exact gr_cell HN.out (HV.out j u hu)) Try.underlying25 rfl infoV ?_) | (go_at_call 17; refine (HCS.out _).mono ?_; rintro e w2 ⟨rfl, hg2⟩; have HG2 := Lib.hid hg2; clear hg2) | (refine wpList_store_row rfl 25 _ _ rfl w2.heap.size (bs c) rfl rfl 25 (bs fun _ => 0) (heap_alloc_new w2 _) infoV rfl (bs_one _) ?_; rw [World.setRow_alloc_new]))
        have HB := Lib.hid (heap_alloc_new w2 (.cells (bs c) 25))
        have HG3 := Lib.hid (gr_trans HN.out (gr_trans HG2.out ((Gr.refl w2).allocO (.cells (bs c) 25))))
        clear hi hx hR hRb HN HG2 HCS
        generalize w2.alloc (.cells (bs c) 25) = W2 at *
        go_loopw [7] (fun u wr => ∃ k : Nat, k ≤ 2 ∧ u = .int .i64 k ∧ Gr W2 wr) (fun u _ => 2 - (intOf u).toNat)
        case atStart => exact ⟨0, by omega, rfl, Gr.refl _⟩
        case round =>
          obtain ⟨k, hk, rfl, hg⟩ := hrel
          have HX2 := Lib.hid (gr_cell (gr_trans HG3.out hg) HX.out)
          have HGk := Lib.hid hg
          clear hg
          by_cases hlt : k < 2
          · by_cases hkR : k = R
            · subst hkR
              have hx := (show _ = some (Value.int .u64 (getI c 64 (k : Int))) from HLow.out ▸ HX2.out)
              have hlow := getI_64 HCy.out 64 (k : Int)
              go_upto_region 17 with (first | (refine wpList_load_cells rfl 25 _ rfl w.heap.size 0 rfl (bs b) _ (fun j u hu => by rw [Nat.zero_add]; exact gr_cell (gr_trans HG3.out HGk.out) (HV.out j u hu)) Try.underlying25 rfl infoV ?_) | (go_at_call 13; refine (get_any b HBy.out 64 (k : Int) _).mono ?_; rintro e w4 ⟨rfl, hg4⟩; have hx := gr_cell hg4 (show _ = some (Value.int .u64 (getI c 64 (k : Int))) from HLow.out ▸ HX2.out); have HG4 := Lib.hid hg4; clear hg4))
              have hgb := getI_bd HCy.out 64 (k : Int)
              have hth : thereB 64 (k : Int) = true := there_of (L := 2) (by decide) ⟨by omega, by omega⟩
              have HSn := Lib.hid (sgn_64 _ hgb.1 hgb.2)
              have CSg := signed_any c HCy.out 64 (k : Int)
              rw [sgnI_sg hth] at CSg
              have HSg := Lib.hid CSg
              have CGc := get_any c HCy.out 64 (k : Int)
              have HCGc := Lib.hid CGc
              have HB4 := Lib.hid (gr_block (gr_trans HGk.out HG4.out) HB.out)
              have hsn := HSn.out
              clear hgb hth CSg CGc HSn hx hlow
              go_wp2_with (first | (refine wpList_load_row rfl 25 _ rfl w2.heap.size rfl 25 (bs c) (0, 0) _ HB4.out Try.underlying25 rfl infoV ?_) | (refine wpList_load_row_yes rfl 25 _ rfl w2.heap.size rfl 25 (bs c) (0, 0) _ HB5.out Try.underlying25 rfl infoV ?_) | (go_at_call 13; refine (HCGc.out _).mono ?_; rintro e w5 ⟨rfl, hg5⟩; have HB5 := Lib.hid (gr_block hg5 HB4.out); have HG5 := Lib.hid hg5; clear hg5) | (go_at_call 15; refine (HSg.out _).mono ?_; rintro e w6 ⟨rfl, hg6⟩; have HG6 := Lib.hid hg6; clear hg6))
              exact ⟨⟨k + 1, by omega, by go_num, gr_trans (gr_trans HGk.out HG4.out) (gr_trans HG5.out HG6.out)⟩, by simp [intOf]; omega⟩
            · have CG := get_any b HBy.out 64 (k : Int)
              rw [← HO.out k hkR] at CG
              have HCG := Lib.hid CG
              have hne : ¬ ((k : Int) = (R : Int)) := by omega
              clear CG
              go_upto_region 17 with (first | (refine wpList_load_cells rfl 25 _ rfl w.heap.size 0 rfl (bs b) _ (fun j u hu => by rw [Nat.zero_add]; exact gr_cell (gr_trans HG3.out HGk.out) (HV.out j u hu)) Try.underlying25 rfl infoV ?_) | (go_at_call 13; refine (HCG.out _).mono ?_; rintro e w4 ⟨rfl, hg4⟩; have HG4 := Lib.hid hg4; clear hg4))
              have hgb := getI_bd HCy.out 64 (k : Int)
              have hth : thereB 64 (k : Int) = true := there_of (L := 2) (by decide) ⟨by omega, by omega⟩
              have HSn := Lib.hid (sgn_64 _ hgb.1 hgb.2)
              have CSg := signed_any c HCy.out 64 (k : Int)
              rw [sgnI_sg hth] at CSg
              have HSg := Lib.hid CSg
              have CGc := get_any c HCy.out 64 (k : Int)
              have HCGc := Lib.hid CGc
              have HB4 := Lib.hid (gr_block (gr_trans HGk.out HG4.out) HB.out)
              have hsn := HSn.out
              clear hgb hth CSg CGc HSn
              go_wp2_with (first | (refine wpList_load_row rfl 25 _ rfl w2.heap.size rfl 25 (bs c) (0, 0) _ HB4.out Try.underlying25 rfl infoV ?_) | (refine wpList_load_row_yes rfl 25 _ rfl w2.heap.size rfl 25 (bs c) (0, 0) _ HB5.out Try.underlying25 rfl infoV ?_) | (go_at_call 13; refine (HCGc.out _).mono ?_; rintro e w5 ⟨rfl, hg5⟩; have HB5 := Lib.hid (gr_block hg5 HB4.out); have HG5 := Lib.hid hg5; clear hg5) | (go_at_call 15; refine (HSg.out _).mono ?_; rintro e w6 ⟨rfl, hg6⟩; have HG6 := Lib.hid hg6; clear hg6))
              exact ⟨⟨k + 1, by omega, by go_num, gr_trans (gr_trans HGk.out HG4.out) (gr_trans HG5.out HG6.out)⟩, by simp [intOf]; omega⟩
          · obtain rfl : k = 2 := by omega
            go_upto_region 19 with (fail)
            have HGc := Lib.hid (Gr.drew HGk.out)
            refine wp_region_net (ΦC64 c R) (by kernel_rfl) (by kernel_rfl) (ΦC64_mono c R) ?_ ?_
            · refine ⟨?_, ?_, ?_, ?_, ?_, ?_, ?_, ?_, ?_, ?_, ?_, ?_, ?_, ?_, ?_, ?_, ?_, ?_, ?_, ?_, ?_, ?_, ?_, ?_, ?_, ?_, ?_, trivial⟩
              · refine NetStep.of rfl fun ρ wx hw hρc hρf hin hdep => ?_
                have e3 : ρ (.tmp 3) = (.int .i64 64) := hin 3 (by kernel_rfl)
                go_simp
                exact ⟨rfl, Gr.refl _⟩
              · refine NetStep.of rfl fun ρ wx hw hρc hρf hin hdep => ?_
                have e92 : ρ (.tmp 92) = (.int .i64 64) := hdep 0 92 (by kernel_rfl)
                go_simp
                exact ⟨rfl, Gr.refl _⟩
              · refine NetStep.of rfl fun ρ wx hw hρc hρf hin hdep => ?_
                have e93 : ρ (.tmp 93) = (.bool true) := hdep 1 93 (by kernel_rfl)
                go_simp
                exact ⟨rfl, Gr.refl _⟩
              · refine NetStep.guarded rfl 94 (by kernel_rfl) (fun _ _ h => h) fun ρ wx hw hρc hρf hin hdep => ?_
                have e6 : ρ (.tmp 6) = (.pointer (some ⟨w2.heap.size, 0, none⟩)) := hin 6 (by kernel_rfl)
                exact net_load_row 25 _ rfl w2.heap.size e6 25 (bs c) (0, 0) _ HB.out (gr_trans HGc.out hw) Try.underlying25 rfl infoV rfl
              · refine NetStep.guarded rfl 94 (by kernel_rfl) (fun _ _ h => h) fun ρ wx hw hρc hρf hin hdep => ?_
                have e3 : ρ (.tmp 3) = (.int .i64 64) := hin 3 (by kernel_rfl)
                go_simp
                exact ⟨rfl, Gr.refl _⟩
              · refine NetStep.guarded rfl 94 (by kernel_rfl) (fun _ _ h => h) fun ρ wx hw hρc hρf hin hdep => ?_
                have e5 : ρ (.tmp 5) = (.int .i64 (R : Int)) := hin 5 (by kernel_rfl)
                go_simp
                exact ⟨rfl, Gr.refl _⟩
              · refine NetStep.guarded rfl 94 (by kernel_rfl) (fun _ _ h => h) fun ρ wx hw hρc hρf hin hdep => ?_
                have e95 : ρ (.tmp 95) = (.agg (bs c)) := hdep 3 95 (by kernel_rfl)
                have e96 : ρ (.tmp 96) = (.int .i64 64) := hdep 4 96 (by kernel_rfl)
                have e97 : ρ (.tmp 97) = (.int .i64 (R : Int)) := hdep 5 97 (by kernel_rfl)
                go_simp
                exact (get_any c HCy.out 64 (R : Int) wx).mono fun e w4 h => ⟨_, h.1, rfl, h.2⟩
              · refine NetStep.guarded rfl 94 (by kernel_rfl) (fun _ _ h => h) fun ρ wx hw hρc hρf hin hdep => ?_
                have e6 : ρ (.tmp 6) = (.pointer (some ⟨w2.heap.size, 0, none⟩)) := hin 6 (by kernel_rfl)
                exact net_load_row 25 _ rfl w2.heap.size e6 25 (bs c) (0, 0) _ HB.out (gr_trans HGc.out hw) Try.underlying25 rfl infoV rfl
              · refine NetStep.guarded rfl 94 (by kernel_rfl) (fun _ _ h => h) fun ρ wx hw hρc hρf hin hdep => ?_
                have e3 : ρ (.tmp 3) = (.int .i64 64) := hin 3 (by kernel_rfl)
                go_simp
                exact ⟨rfl, Gr.refl _⟩
              · refine NetStep.guarded rfl 94 (by kernel_rfl) (fun _ _ h => h) fun ρ wx hw hρc hρf hin hdep => ?_
                have e100 : ρ (.tmp 100) = (.int .i64 64) := hdep 8 100 (by kernel_rfl)
                go_simp
                exact ⟨rfl, Gr.refl _⟩
              · refine NetStep.guarded rfl 94 (by kernel_rfl) (fun _ _ h => h) fun ρ wx hw hρc hρf hin hdep => ?_
                have e5 : ρ (.tmp 5) = (.int .i64 (R : Int)) := hin 5 (by kernel_rfl)
                go_simp
                exact ⟨rfl, Gr.refl _⟩
              · refine NetStep.guarded rfl 94 (by kernel_rfl) (fun _ _ h => h) fun ρ wx hw hρc hρf hin hdep => ?_
                have e102 : ρ (.tmp 102) = (.int .i64 (R : Int)) := hdep 10 102 (by kernel_rfl)
                have hRb := HRb.out
                have hw1 := (wrapR R (by omega)).1
                have hw2 := (wrapR R (by omega)).2
                go_simp
                exact ⟨rfl, Gr.refl _⟩
              · refine NetStep.guarded rfl 94 (by kernel_rfl) (fun _ _ h => h) fun ρ wx hw hρc hρf hin hdep => ?_
                have e99 : ρ (.tmp 99) = (.agg (bs c)) := hdep 7 99 (by kernel_rfl)
                have e101 : ρ (.tmp 101) = (.int .i64 32) := hdep 9 101 (by kernel_rfl)
                have e103 : ρ (.tmp 103) = (.int .i64 (2 * (R : Int))) := hdep 11 103 (by kernel_rfl)
                go_simp
                exact (get_any c HCy.out 32 (2 * (R : Int)) wx).mono fun e w4 h => ⟨_, h.1, rfl, h.2⟩
              · refine NetStep.guarded rfl 94 (by kernel_rfl) (fun _ _ h => h) fun ρ wx hw hρc hρf hin hdep => ?_
                have e6 : ρ (.tmp 6) = (.pointer (some ⟨w2.heap.size, 0, none⟩)) := hin 6 (by kernel_rfl)
                exact net_load_row 25 _ rfl w2.heap.size e6 25 (bs c) (0, 0) _ HB.out (gr_trans HGc.out hw) Try.underlying25 rfl infoV rfl
              · refine NetStep.guarded rfl 94 (by kernel_rfl) (fun _ _ h => h) fun ρ wx hw hρc hρf hin hdep => ?_
                have e3 : ρ (.tmp 3) = (.int .i64 64) := hin 3 (by kernel_rfl)
                go_simp
                exact ⟨rfl, Gr.refl _⟩
              · refine NetStep.guarded rfl 94 (by kernel_rfl) (fun _ _ h => h) fun ρ wx hw hρc hρf hin hdep => ?_
                have e106 : ρ (.tmp 106) = (.int .i64 64) := hdep 14 106 (by kernel_rfl)
                go_simp
                exact ⟨rfl, Gr.refl _⟩
              · refine NetStep.guarded rfl 94 (by kernel_rfl) (fun _ _ h => h) fun ρ wx hw hρc hρf hin hdep => ?_
                have e5 : ρ (.tmp 5) = (.int .i64 (R : Int)) := hin 5 (by kernel_rfl)
                go_simp
                exact ⟨rfl, Gr.refl _⟩
              · refine NetStep.guarded rfl 94 (by kernel_rfl) (fun _ _ h => h) fun ρ wx hw hρc hρf hin hdep => ?_
                have e108 : ρ (.tmp 108) = (.int .i64 (R : Int)) := hdep 16 108 (by kernel_rfl)
                have hRb := HRb.out
                have hw1 := (wrapR R (by omega)).1
                have hw2 := (wrapR R (by omega)).2
                go_simp
                exact ⟨rfl, Gr.refl _⟩
              · refine NetStep.guarded rfl 94 (by kernel_rfl) (fun _ _ h => h) fun ρ wx hw hρc hρf hin hdep => ?_
                have e109 : ρ (.tmp 109) = (.int .i64 (2 * (R : Int))) := hdep 17 109 (by kernel_rfl)
                have hRb := HRb.out
                have hw1 := (wrapR R (by omega)).1
                have hw2 := (wrapR R (by omega)).2
                go_simp
                exact ⟨rfl, Gr.refl _⟩
              · refine NetStep.guarded rfl 94 (by kernel_rfl) (fun _ _ h => h) fun ρ wx hw hρc hρf hin hdep => ?_
                have e105 : ρ (.tmp 105) = (.agg (bs c)) := hdep 13 105 (by kernel_rfl)
                have e107 : ρ (.tmp 107) = (.int .i64 32) := hdep 15 107 (by kernel_rfl)
                have e110 : ρ (.tmp 110) = (.int .i64 (2 * (R : Int) + 1)) := hdep 18 110 (by kernel_rfl)
                go_simp
                exact (get_any c HCy.out 32 (2 * (R : Int) + 1) wx).mono fun e w4 h => ⟨_, h.1, rfl, h.2⟩
              · refine NetStep.guarded rfl 94 (by kernel_rfl) (fun _ _ h => h) fun ρ wx hw hρc hρf hin hdep => ?_
                have e3 : ρ (.tmp 3) = (.int .i64 64) := hin 3 (by kernel_rfl)
                go_simp
                exact ⟨rfl, Gr.refl _⟩
              · refine NetStep.guarded rfl 94 (by kernel_rfl) (fun _ _ h => h) fun ρ wx hw hρc hρf hin hdep => ?_
                have e112 : ρ (.tmp 112) = (.int .i64 64) := hdep 20 112 (by kernel_rfl)
                go_simp
                exact ⟨rfl, Gr.refl _⟩
              · refine NetStep.guarded rfl 94 (by kernel_rfl) (fun _ _ h => h) fun ρ wx hw hρc hρf hin hdep => ?_
                have e113 : ρ (.tmp 113) = (.int .i64 32) := hdep 21 113 (by kernel_rfl)
                go_simp
                exact ⟨rfl, Gr.refl _⟩
              · refine NetStep.guarded rfl 94 (by kernel_rfl) (fun _ _ h => h) fun ρ wx hw hρc hρf hin hdep => ?_
                have e111 : ρ (.tmp 111) = (.int .u64 (getI c 32 (2 * (R : Int) + 1))) := hdep 19 111 (by kernel_rfl)
                have e114 : ρ (.tmp 114) = (.int .u64 32) := hdep 22 114 (by kernel_rfl)
                go_simp
                exact ⟨rfl, Gr.refl _⟩
              · refine NetStep.guarded rfl 94 (by kernel_rfl) (fun _ _ h => h) fun ρ wx hw hρc hρf hin hdep => ?_
                have e104 : ρ (.tmp 104) = (.int .u64 (getI c 32 (2 * (R : Int)))) := hdep 12 104 (by kernel_rfl)
                have e115 : ρ (.tmp 115) = (.int .u64 (IntKind.u64.wrap ((getI c 32 (2 * (R : Int) + 1)) * 4294967296))) := hdep 23 115 (by kernel_rfl)
                have hH := HH.out
                go_simp
                exact ⟨rfl, Gr.refl _⟩
              · refine NetStep.guarded rfl 94 (by kernel_rfl) (fun _ _ h => h) fun ρ wx hw hρc hρf hin hdep => ?_
                have e98 : ρ (.tmp 98) = (.int .u64 (getI c 64 (R : Int))) := hdep 6 98 (by kernel_rfl)
                have e116 : ρ (.tmp 116) = (.int .u64 (getI c 64 (R : Int))) := hdep 24 116 (by kernel_rfl)
                go_simp
                exact ⟨rfl, Gr.refl _⟩
              · refine NetStep.of rfl fun ρ wx hw hρc hρf hin hdep => ?_
                have e94 : ρ (.tmp 94) = (.bool true) := hdep 2 94 (by kernel_rfl)
                have e117 : ρ (.tmp 117) = (.bool false) := hdep 25 117 (by kernel_rfl)
                go_simp
                exact ⟨rfl, Gr.refl _⟩
            · intro V wN hgN hV
              have hs : V 118 = .bool false := hV 26 _ 118 rfl rfl
              have HN := Lib.hid (gr_trans HGc.out hgN)
              clear hV hgN
              simp only [Exit.then, putAll, Act.put, Option.map_some, Option.getD_some, List.setIfInBounds_toArray, List.set_cons_succ, List.set_cons_zero]
              rename_i hK
              rw [hs]
              refine hK _ _ ?_
              clear hK hs
              go_wp2
              exact ⟨⟨.inr (.inr (.inr (.inr rfl))), gr_trans HG3.out HN.out⟩, by simp [intOf]⟩
    · go_upto_region 21 with (fail)
      have HGr := Lib.hid (Gr.drew hg)
      refine wp_region_net (ΦD b x w) (by kernel_rfl) (by kernel_rfl) (ΦD_mono b x w) ?_ ?_
      · refine ⟨?_, ?_, ?_, ?_, ?_, ?_, ?_, ?_, ?_, ?_, ?_, ?_, ?_, ?_, ?_, ?_, ?_, ?_, ?_, ?_, ?_, ?_, ?_, ?_, ?_, trivial⟩
        · refine NetStep.of rfl fun ρ wx hw hρc hρf hin hdep => ?_
          have e1 : ρ (.tmp 1) = (.pointer (some ⟨w.heap.size, 0, none⟩)) := hin 1 (by kernel_rfl)
          go_simp
          exact ⟨rfl, Gr.refl _⟩
        · refine NetStep.of rfl fun ρ wx hw hρc hρf hin hdep => ?_
          have e119 : ρ (.tmp 119) = (.pointer (some ⟨w.heap.size, 0, none⟩)) := hdep 0 119 (by kernel_rfl)
          exact net_load_cells 25 _ rfl w.heap.size 0 e119 (bs b) _ (fun j u hu => by rw [Nat.zero_add]; exact HV.out j u hu) (gr_trans HGr.out hw) Try.underlying25 rfl infoV rfl
        · refine NetStep.of rfl fun ρ wx hw hρc hρf hin hdep => ?_
          have e1 : ρ (.tmp 1) = (.pointer (some ⟨w.heap.size, 0, none⟩)) := hin 1 (by kernel_rfl)
          go_simp
          exact ⟨rfl, Gr.refl _⟩
        · refine NetStep.of rfl fun ρ wx hw hρc hρf hin hdep => ?_
          have e121 : ρ (.tmp 121) = (.pointer (some ⟨w.heap.size, 18, none⟩)) := hdep 2 121 (by kernel_rfl)
          have hcx := gr_cell (gr_trans HGr.out hw) HX.out
          go_simp
          exact ⟨rfl, Gr.refl _⟩
        · refine NetStep.of rfl fun ρ wx hw hρc hρf hin hdep => ?_
          have e120 : ρ (.tmp 120) = (.agg (bs b)) := hdep 1 120 (by kernel_rfl)
          have e122 : ρ (.tmp 122) = (.int .u64 x) := hdep 3 122 (by kernel_rfl)
          go_simp
          exact (set_none b 64 2 x (by decide) wx).mono fun e w4 h => ⟨_, h.1, rfl, h.2⟩
        · refine NetStep.of rfl fun ρ wx hw hρc hρf hin hdep => ?_
          have e1 : ρ (.tmp 1) = (.pointer (some ⟨w.heap.size, 0, none⟩)) := hin 1 (by kernel_rfl)
          go_simp
          exact ⟨rfl, Gr.refl _⟩
        · refine NetStep.of rfl fun ρ wx hw hρc hρf hin hdep => ?_
          have e124 : ρ (.tmp 124) = (.pointer (some ⟨w.heap.size, 0, none⟩)) := hdep 5 124 (by kernel_rfl)
          exact net_load_cells 25 _ rfl w.heap.size 0 e124 (bs b) _ (fun j u hu => by rw [Nat.zero_add]; exact HV.out j u hu) (gr_trans HGr.out hw) Try.underlying25 rfl infoV rfl
        · refine NetStep.of rfl fun ρ wx hw hρc hρf hin hdep => ?_
          have e123 : ρ (.tmp 123) = (.agg (bs b)) := hdep 4 123 (by kernel_rfl)
          have e125 : ρ (.tmp 125) = (.agg (bs b)) := hdep 6 125 (by kernel_rfl)
          have hv := eq_vec b b wx
          have hr := vecB_refl b
          go_simp
          exact ⟨rfl, Gr.refl _⟩
        · refine NetStep.of rfl fun ρ wx hw hρc hρf hin hdep => ?_
          have e126 : ρ (.tmp 126) = (.bool true) := hdep 7 126 (by kernel_rfl)
          go_simp
          exact ⟨rfl, Gr.refl _⟩
        · refine NetStep.guarded rfl 127 (by kernel_rfl) (fun _ _ h => h) fun ρ wx hw hρc hρf hin hdep => ?_
          have e1 : ρ (.tmp 1) = (.pointer (some ⟨w.heap.size, 0, none⟩)) := hin 1 (by kernel_rfl)
          go_simp
          exact ⟨rfl, Gr.refl _⟩
        · refine NetStep.guarded rfl 127 (by kernel_rfl) (fun _ _ h => h) fun ρ wx hw hρc hρf hin hdep => ?_
          have e128 : ρ (.tmp 128) = (.pointer (some ⟨w.heap.size, 0, none⟩)) := hdep 9 128 (by kernel_rfl)
          exact net_load_cells 25 _ rfl w.heap.size 0 e128 (bs b) _ (fun j u hu => by rw [Nat.zero_add]; exact HV.out j u hu) (gr_trans HGr.out hw) Try.underlying25 rfl infoV rfl
        · refine NetStep.guarded rfl 127 (by kernel_rfl) (fun _ _ h => h) fun ρ wx hw hρc hρf hin hdep => ?_
          have e1 : ρ (.tmp 1) = (.pointer (some ⟨w.heap.size, 0, none⟩)) := hin 1 (by kernel_rfl)
          go_simp
          exact ⟨rfl, Gr.refl _⟩
        · refine NetStep.guarded rfl 127 (by kernel_rfl) (fun _ _ h => h) fun ρ wx hw hρc hρf hin hdep => ?_
          have e130 : ρ (.tmp 130) = (.pointer (some ⟨w.heap.size, 18, none⟩)) := hdep 11 130 (by kernel_rfl)
          have hcx := gr_cell (gr_trans HGr.out hw) HX.out
          go_simp
          exact ⟨rfl, Gr.refl _⟩
        · refine NetStep.guarded rfl 127 (by kernel_rfl) (fun _ _ h => h) fun ρ wx hw hρc hρf hin hdep => ?_
          have e129 : ρ (.tmp 129) = (.agg (bs b)) := hdep 10 129 (by kernel_rfl)
          have e131 : ρ (.tmp 131) = (.int .u64 x) := hdep 12 131 (by kernel_rfl)
          go_simp
          exact (set_none b 12 0 x (by decide) wx).mono fun e w4 h => ⟨_, h.1, rfl, h.2⟩
        · refine NetStep.guarded rfl 127 (by kernel_rfl) (fun _ _ h => h) fun ρ wx hw hρc hρf hin hdep => ?_
          have e1 : ρ (.tmp 1) = (.pointer (some ⟨w.heap.size, 0, none⟩)) := hin 1 (by kernel_rfl)
          go_simp
          exact ⟨rfl, Gr.refl _⟩
        · refine NetStep.guarded rfl 127 (by kernel_rfl) (fun _ _ h => h) fun ρ wx hw hρc hρf hin hdep => ?_
          have e133 : ρ (.tmp 133) = (.pointer (some ⟨w.heap.size, 0, none⟩)) := hdep 14 133 (by kernel_rfl)
          exact net_load_cells 25 _ rfl w.heap.size 0 e133 (bs b) _ (fun j u hu => by rw [Nat.zero_add]; exact HV.out j u hu) (gr_trans HGr.out hw) Try.underlying25 rfl infoV rfl
        · refine NetStep.guarded rfl 127 (by kernel_rfl) (fun _ _ h => h) fun ρ wx hw hρc hρf hin hdep => ?_
          have e132 : ρ (.tmp 132) = (.agg (bs b)) := hdep 13 132 (by kernel_rfl)
          have e134 : ρ (.tmp 134) = (.agg (bs b)) := hdep 15 134 (by kernel_rfl)
          have hv := eq_vec b b wx
          have hr := vecB_refl b
          go_simp
          exact ⟨rfl, Gr.refl _⟩
        · refine NetStep.of rfl fun ρ wx hw hρc hρf hin hdep => ?_
          have e127 : ρ (.tmp 127) = (.bool true) := hdep 8 127 (by kernel_rfl)
          have e135 : ρ (.tmp 135) = (.bool true) := hdep 16 135 (by kernel_rfl)
          go_simp
          exact ⟨rfl, Gr.refl _⟩
        · refine NetStep.of rfl fun ρ wx hw hρc hρf hin hdep => ?_
          have e136 : ρ (.tmp 136) = (.bool true) := hdep 17 136 (by kernel_rfl)
          go_simp
          exact ⟨rfl, Gr.refl _⟩
        · refine NetStep.guarded rfl 137 (by kernel_rfl) (fun _ _ h => h) fun ρ wx hw hρc hρf hin hdep => ?_
          have e1 : ρ (.tmp 1) = (.pointer (some ⟨w.heap.size, 0, none⟩)) := hin 1 (by kernel_rfl)
          go_simp
          exact ⟨rfl, Gr.refl _⟩
        · refine NetStep.guarded rfl 137 (by kernel_rfl) (fun _ _ h => h) fun ρ wx hw hρc hρf hin hdep => ?_
          have e138 : ρ (.tmp 138) = (.pointer (some ⟨w.heap.size, 0, none⟩)) := hdep 19 138 (by kernel_rfl)
          exact net_load_cells 25 _ rfl w.heap.size 0 e138 (bs b) _ (fun j u hu => by rw [Nat.zero_add]; exact HV.out j u hu) (gr_trans HGr.out hw) Try.underlying25 rfl infoV rfl
        · refine NetStep.guarded rfl 137 (by kernel_rfl) (fun _ _ h => h) fun ρ wx hw hρc hρf hin hdep => ?_
          have e139 : ρ (.tmp 139) = (.agg (bs b)) := hdep 20 139 (by kernel_rfl)
          go_simp
          exact (get_none HBy.out 8 16 (by decide) wx).mono fun e w4 h => ⟨_, h.1, rfl, h.2⟩
        · refine NetStep.guarded rfl 137 (by kernel_rfl) (fun _ _ h => h) fun ρ wx hw hρc hρf hin hdep => ?_
          have e140 : ρ (.tmp 140) = (.int .u64 0) := hdep 21 140 (by kernel_rfl)
          go_simp
          exact ⟨rfl, Gr.refl _⟩
        · refine NetStep.of rfl fun ρ wx hw hρc hρf hin hdep => ?_
          have e137 : ρ (.tmp 137) = (.bool true) := hdep 18 137 (by kernel_rfl)
          have e141 : ρ (.tmp 141) = (.bool true) := hdep 22 141 (by kernel_rfl)
          go_simp
          exact ⟨rfl, Gr.refl _⟩
        · refine NetStep.of rfl fun ρ wx hw hρc hρf hin hdep => ?_
          have e142 : ρ (.tmp 142) = (.bool true) := hdep 23 142 (by kernel_rfl)
          go_simp
          exact ⟨rfl, Gr.refl _⟩
      · intro V wN hgN hV
        have hs : V 2 = .bool true := hV 24 _ 2 rfl rfl
        have HN := Lib.hid (gr_trans HGr.out hgN)
        clear hV hgN
        simp only [Exit.then, putAll, Act.put, Option.map_some, Option.getD_some, List.setIfInBounds_toArray, List.set_cons_succ, List.set_cons_zero]
        rename_i hK
        rw [hs]
        refine hK _ _ ?_
        clear hK hs
        go_wp2
        go_ret
        exact ⟨rfl, gr_trans (gr_trans ((Gr.refl w).alloc _ _) HG1.out) HN.out⟩
end Go.Proofs.Ythdklnkaeddogab
