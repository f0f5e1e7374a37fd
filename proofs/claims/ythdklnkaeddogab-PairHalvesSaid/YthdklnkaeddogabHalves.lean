/-
  PairHalves: for every vector and every two halves the law returns true. No condition.
-/
import Derived.Test.YthdklnkaeddogabAwake
namespace Go.Proofs.Ythdklnkaeddogab
open Go.RowKit VecM
theorem zero_byt : Byt (fun _ : Nat => (0 : Int)) := fun _ => by constructor <;> simp
/-- what Join gives of a vector's halves -/
theorem join_bytes {b : Nat → Int} (hb : Byt b) : ∀ m, m < 16 → ofK (fun _ => 0) 64 (fun j => if j = 0 then getI b 64 0 else getI b 64 1) 2 m = b m := by
  have h0 := zero_byt
  refine ext (ofK_byt h0 _ _ _) hb 64 (by decide) fun j hj => ?_
  have hj2 := (there_iff.1 hj).2
  rw [show lanesI 64 = 2 by decide] at hj2
  rw [get_ofK _ _ _ _ hj 2, if_pos (by omega)]
  have hbd := fun i => getI_bd hb 64 i
  match j, hj2 with
  | 0, _ => exact Int.emod_eq_of_lt (hbd 0).1 (hbd 0).2
  | 1, _ => exact Int.emod_eq_of_lt (hbd 1).1 (hbd 1).2
  | k + 2, h => omega
theorem join_back (b : Nat → Int) (hb : Byt b) (w : World) :
    Calls Try.prog 24 #[.agg #[.int .u64 (getI b 64 0), .int .u64 (getI b 64 1)]] w fun e w' => e = .returned (.agg (bs b)) ∧ Gr w w' := by
  have h := join_any (getI b 64 0) (getI b 64 1) w
  rw [bs_congr (join_bytes hb)] at h
  exact h
theorem get_jn (lo hi : Int) (hlo : 0 ≤ lo ∧ lo < 18446744073709551616) (hhi : 0 ≤ hi ∧ hi < 18446744073709551616) :
    getI (ofK (fun _ => 0) 64 (fun j => if j = 0 then lo else hi) 2) 64 0 = lo ∧ getI (ofK (fun _ => 0) 64 (fun j => if j = 0 then lo else hi) 2) 64 1 = hi := by
  have h0 := get_ofK (fun _ => 0) 64 (fun j => if j = 0 then lo else hi) 0 (by decide) 2
  have h1 := get_ofK (fun _ => 0) 64 (fun j => if j = 0 then lo else hi) 1 (by decide) 2
  rw [if_pos (by decide), wid64] at h0 h1
  refine ⟨h0.trans (Int.emod_eq_of_lt hlo.1 (by simpa using hlo.2)), h1.trans (Int.emod_eq_of_lt hhi.1 (by simpa using hhi.2))⟩
theorem jn_byt (lo hi : Int) : Byt (ofK (fun _ => 0) 64 (fun j => if j = 0 then lo else hi) 2) := ofK_byt zero_byt _ _ _
theorem split_back (lo hi : Int) (hlo : 0 ≤ lo ∧ lo < 18446744073709551616) (hhi : 0 ≤ hi ∧ hi < 18446744073709551616) (w : World) :
    Calls Try.prog 22 #[.agg (bs (ofK (fun _ => 0) 64 (fun j => if j = 0 then lo else hi) 2))] w fun e w' => e = .returned (.agg #[.int .u64 lo, .int .u64 hi]) ∧ Gr w w' := by
  have h := split_any _ (jn_byt lo hi) w
  rw [(get_jn lo hi hlo hhi).1, (get_jn lo hi hlo hhi).2] at h
  exact h
theorem jn_0 (lo hi : Int) : ofK (fun _ => 0) 64 (fun j => if j = 0 then lo else hi) 2 0 = lo % 256 := by
  have e : ofK (fun _ => 0) 64 (fun j => if j = 0 then lo else hi) 2 = setN (setN (fun _ => 0) 0 lo 8) 8 hi 8 := rfl
  rw [e]
  unfold setN
  rw [if_neg (by omega), if_pos (by omega)]; simp
theorem jn_15 (lo hi : Int) : ofK (fun _ => 0) 64 (fun j => if j = 0 then lo else hi) 2 15 = hi / 72057594037927936 % 256 := by
  have e : ofK (fun _ => 0) 64 (fun j => if j = 0 then lo else hi) 2 = setN (setN (fun _ => 0) 0 lo 8) 8 hi 8 := rfl
  rw [e]
  unfold setN
  rw [if_pos (by omega)]; rfl
def ΦH (b : Nat → Int) (lo hi : Int) (w2 w3 : World) (k : Nat) (v : Value) (wn : World) : Prop :=
  match k with
  | 0 => v = (.agg #[.int .u64 (getI b 64 0), .int .u64 (getI b 64 1)])
  | 1 => v = (.agg (bs b))
  | 2 => v = (.agg (bs b))
  | 3 => v = (.bool true)
  | 4 => v = (.bool true)
  | 5 => v = (.agg (bs (ofK (fun _ => 0) 64 (fun j => if j = 0 then lo else hi) 2)))
  | 6 => v = (.agg #[.int .u64 lo, .int .u64 hi])
  | 7 => v = (.int .u64 lo)
  | 8 => v = (.int .u64 hi)
  | 9 => v = (.agg #[.int .u64 lo, .int .u64 hi])
  | 10 => v = (.bool true)
  | 11 => v = (.bool true)
  | 12 => v = (.bool true)
  | 13 => v = (.pointer (some ⟨w2.heap.size, 0, none⟩))
  | 14 => v = (.int .u64 (getI b 64 0))
  | 15 => v = (.agg (bs b))
  | 16 => v = (.int .u64 (getI b 64 0))
  | 17 => v = (.bool true)
  | 18 => v = (.bool true)
  | 19 => v = (.bool true)
  | 20 => v = (.pointer (some ⟨w2.heap.size, 1, none⟩))
  | 21 => v = (.int .u64 (getI b 64 1))
  | 22 => v = (.agg (bs b))
  | 23 => v = (.int .u64 (getI b 64 1))
  | 24 => v = (.bool true)
  | 25 => v = (.bool true)
  | 26 => v = (.bool true)
  | 27 => v = (.agg (bs (ofK (fun _ => 0) 64 (fun j => if j = 0 then lo else hi) 2)))
  | 28 => v = (.int .u64 lo)
  | 29 => v = (.int .u64 hi)
  | 30 => U64s wn v 2 (fun j => if j = 0 then lo else hi)
  | 31 => v = (.agg (bs (ofK (fun _ => 0) 64 (fun j => if j = 0 then lo else hi) 2)))
  | 32 => v = (.bool true)
  | 33 => v = (.bool true)
  | 34 => v = (.bool true)
  | 35 => v = (.pointer (some ⟨w3.heap.size, 0 + 0, none⟩))
  | 36 => v = (.int .u8 ((ofK (fun _ => 0) 64 (fun j => if j = 0 then lo else hi) 2) 0))
  | 37 => v = (.int .u64 lo)
  | 38 => v = (.int .u8 (lo % 256))
  | 39 => v = (.bool true)
  | 40 => v = (.bool true)
  | 41 => v = (.bool true)
  | 42 => v = (.pointer (some ⟨w3.heap.size, 15, none⟩))
  | 43 => v = (.int .u8 ((ofK (fun _ => 0) 64 (fun j => if j = 0 then lo else hi) 2) 15))
  | 44 => v = (.int .u64 hi)
  | 45 => v = (.int .u64 (hi / 72057594037927936))
  | 46 => v = (.int .u8 (hi / 72057594037927936 % 256))
  | 47 => v = (.bool true)
  | 48 => v = (.bool true)
  | 49 => v = (.bool true)
  | _ => True
theorem ΦH_mono (b : Nat → Int) (lo hi : Int) (w2 w3 : World) : ∀ k v wn wn', Gr wn wn' → ΦH b lo hi w2 w3 k v wn → ΦH b lo hi w2 w3 k v wn' := by
  intro k v wn wn' hg h
  match k with
  | 0 => exact h
  | 1 => exact h
  | 2 => exact h
  | 3 => exact h
  | 4 => exact h
  | 5 => exact h
  | 6 => exact h
  | 7 => exact h
  | 8 => exact h
  | 9 => exact h
  | 10 => exact h
  | 11 => exact h
  | 12 => exact h
  | 13 => exact h
  | 14 => exact h
  | 15 => exact h
  | 16 => exact h
  | 17 => exact h
  | 18 => exact h
  | 19 => exact h
  | 20 => exact h
  | 21 => exact h
  | 22 => exact h
  | 23 => exact h
  | 24 => exact h
  | 25 => exact h
  | 26 => exact h
  | 27 => exact h
  | 28 => exact h
  | 29 => exact h
  | 30 => exact u64s_gr h hg
  | 31 => exact h
  | 32 => exact h
  | 33 => exact h
  | 34 => exact h
  | 35 => exact h
  | 36 => exact h
  | 37 => exact h
  | 38 => exact h
  | 39 => exact h
  | 40 => exact h
  | 41 => exact h
  | 42 => exact h
  | 43 => exact h
  | 44 => exact h
  | 45 => exact h
  | 46 => exact h
  | 47 => exact h
  | 48 => exact h
  | 49 => exact h
  | k + 50 => trivial
set_option maxRecDepth 100000 in
set_option maxHeartbeats 4000000 in
theorem halves_walk (b : Nat → Int) (hb : Byt b) (lo hi : Int) (hlo : 0 ≤ lo ∧ lo < 18446744073709551616) (hhi : 0 ≤ hi ∧ hi < 18446744073709551616) (w : World) :
    Calls Try.prog 7 #[.agg (bs b), .int .u64 lo, .int .u64 hi] w fun e w' => e = .returned (.bool true) ∧ Gr w w' := by
  have HBy := Lib.hid hb
  have HLo := Lib.hid hlo
  have HHi := Lib.hid hhi
  have HS := Lib.hid (split_any b hb)
  clear hb hlo hhi
  go_enter Try.func7, Try.ntmps7
  go_upto_region 5 with (first | (refine wpList_load_row rfl 25 _ rfl w.heap.size rfl 25 (bs b) (0, 0) _ (gr_block HG1.out (heap_alloc_new w _)) Try.underlying25 rfl infoV ?_) | (go_at_call 10; refine (Aw.awake _).mono ?_; rintro e w1 ⟨rfl, hg1⟩; have HG1 := Lib.hid hg1; clear hg1) | (go_at_call 22; refine (HS.out _).mono ?_; rintro e w2 ⟨rfl, hg2⟩; have HG2 := Lib.hid hg2; clear hg2) | (refine wpList_store_row rfl 37 _ _ rfl w2.heap.size #[.int .u64 (getI b 64 0), .int .u64 (getI b 64 1)] rfl rfl 37 #[.int .u64 0, .int .u64 0] (heap_alloc_new w2 _) infoH rfl (by kernel_rfl) ?_; rw [World.setRow_alloc_new]) | (go_at_call 24; refine (join_any lo hi _).mono ?_; rintro e w3 ⟨rfl, hg3⟩; have HG3 := Lib.hid hg3; clear hg3) | (refine wpList_store_row rfl 25 _ _ rfl w3.heap.size (bs (ofK (fun _ => 0) 64 (fun j => if j = 0 then lo else hi) 2)) rfl rfl 25 (bs fun _ => 0) (heap_alloc_new w3 _) infoV rfl (bs_one _) ?_; rw [World.setRow_alloc_new]))
  have hw0 : Gr (w.alloc (.cells (bs b) 25)) w2 := gr_trans HG1.out HG2.out
  have hw3 : Gr w2 w3 := gr_trans ((Gr.refl _).allocO _) HG3.out
  have HBv := Lib.hid (gr_block (gr_trans (gr_trans hw0 hw3) ((Gr.refl _).allocO (.cells (bs (ofK (fun _ => 0) 64 (fun j => if j = 0 then lo else hi) 2)) 25)).drew) (heap_alloc_new w (.cells (bs b) 25)))
  have HBh := Lib.hid (gr_block (gr_trans HG3.out ((Gr.refl _).allocO (.cells (bs (ofK (fun _ => 0) 64 (fun j => if j = 0 then lo else hi) 2)) 25)).drew) (heap_alloc_new w2 (.cells #[.int .u64 (getI b 64 0), .int .u64 (getI b 64 1)] 37)))
  have HBj := Lib.hid (gr_block (Gr.drew (Gr.refl (w3.alloc (.cells (bs (ofK (fun _ => 0) 64 (fun j => if j = 0 then lo else hi) 2)) 25)))) (heap_alloc_new w3 (.cells (bs (ofK (fun _ => 0) 64 (fun j => if j = 0 then lo else hi) 2)) 25)))
  have HC0 := Lib.hid ((cell_of_row _ _ 0 _ _ _ HBh.out).trans rfl)
  have HC1 := Lib.hid ((cell_of_row _ _ 1 _ _ _ HBh.out).trans rfl)
  have HJ0 := Lib.hid ((cell_of_row _ _ 0 _ _ _ HBj.out).trans rfl)
  have HJ15 := Lib.hid ((cell_of_row _ _ 15 _ _ _ HBj.out).trans rfl)
  have J0 := Lib.hid (jn_0 lo hi)
  have J15 := Lib.hid (jn_15 lo hi)
  have HGG := Lib.hid (gr_trans (gr_trans (gr_trans ((Gr.refl w).alloc _ _) hw0) hw3) ((Gr.refl _).allocO (.cells (bs (ofK (fun _ => 0) 64 (fun j => if j = 0 then lo else hi) 2)) 25)))
  clear hw0 hw3
  refine wp_region_net (ΦH b lo hi w2 w3) (by kernel_rfl) (by kernel_rfl) (ΦH_mono b lo hi w2 w3) ?_ ?_
  · refine ⟨?_, ?_, ?_, ?_, ?_, ?_, ?_, ?_, ?_, ?_, ?_, ?_, ?_, ?_, ?_, ?_, ?_, ?_, ?_, ?_, ?_, ?_, ?_, ?_, ?_, ?_, ?_, ?_, ?_, ?_, ?_, ?_, ?_, ?_, ?_, ?_, ?_, ?_, ?_, ?_, ?_, ?_, ?_, ?_, ?_, ?_, ?_, ?_, ?_, ?_, trivial⟩
    · refine NetStep.of rfl fun ρ wx hw hρc hρf hin hdep => ?_
      have e7 : ρ (.tmp 7) = (.pointer (some ⟨w2.heap.size, 0, none⟩)) := hin 7 (by kernel_rfl)
      exact net_load_row 37 _ rfl w2.heap.size e7 37 #[.int .u64 (getI b 64 0), .int .u64 (getI b 64 1)] (0, 0) _ HBh.out hw Try.underlying37 rfl infoH rfl
    · refine NetStep.of rfl fun ρ wx hw hρc hρf hin hdep => ?_
      have e17 : ρ (.tmp 17) = (.agg #[.int .u64 (getI b 64 0), .int .u64 (getI b 64 1)]) := hdep 0 17 (by kernel_rfl)
      go_simp
      exact (join_back b HBy.out wx).mono fun e w4 h => ⟨_, h.1, rfl, h.2⟩
    · refine NetStep.of rfl fun ρ wx hw hρc hρf hin hdep => ?_
      have e3 : ρ (.tmp 3) = (.pointer (some ⟨w.heap.size, 0, none⟩)) := hin 3 (by kernel_rfl)
      exact net_load_row 25 _ rfl w.heap.size e3 25 (bs b) (0, 0) _ HBv.out hw Try.underlying25 rfl infoV rfl
    · refine NetStep.of rfl fun ρ wx hw hρc hρf hin hdep => ?_
      have e18 : ρ (.tmp 18) = (.agg (bs b)) := hdep 1 18 (by kernel_rfl)
      have e19 : ρ (.tmp 19) = (.agg (bs b)) := hdep 2 19 (by kernel_rfl)
      have hv := eq_vec b b wx
      have hr := vecB_refl b
      go_simp
      exact ⟨rfl, Gr.refl _⟩
    · refine NetStep.of rfl fun ρ wx hw hρc hρf hin hdep => ?_
      have e20 : ρ (.tmp 20) = (.bool true) := hdep 3 20 (by kernel_rfl)
      go_simp
      exact ⟨rfl, Gr.refl _⟩
    · refine NetStep.guarded rfl 21 (by kernel_rfl) (fun _ _ h => h) fun ρ wx hw hρc hρf hin hdep => ?_
      have e8 : ρ (.tmp 8) = (.pointer (some ⟨w3.heap.size, 0, none⟩)) := hin 8 (by kernel_rfl)
      exact net_load_row 25 _ rfl w3.heap.size e8 25 (bs (ofK (fun _ => 0) 64 (fun j => if j = 0 then lo else hi) 2)) (0, 0) _ HBj.out hw Try.underlying25 rfl infoV rfl
    · refine NetStep.guarded rfl 21 (by kernel_rfl) (fun _ _ h => h) fun ρ wx hw hρc hρf hin hdep => ?_
      have e22 : ρ (.tmp 22) = (.agg (bs (ofK (fun _ => 0) 64 (fun j => if j = 0 then lo else hi) 2))) := hdep 5 22 (by kernel_rfl)
      go_simp
      exact (split_back lo hi HLo.out HHi.out wx).mono fun e w4 h => ⟨_, h.1, rfl, h.2⟩
    · refine NetStep.guarded rfl 21 (by kernel_rfl) (fun _ _ h => h) fun ρ wx hw hρc hρf hin hdep => ?_
      have e1 : ρ (.tmp 1) = (.int .u64 lo) := hin 1 (by kernel_rfl)
      go_simp
      exact ⟨rfl, Gr.refl _⟩
    · refine NetStep.guarded rfl 21 (by kernel_rfl) (fun _ _ h => h) fun ρ wx hw hρc hρf hin hdep => ?_
      have e2 : ρ (.tmp 2) = (.int .u64 hi) := hin 2 (by kernel_rfl)
      go_simp
      exact ⟨rfl, Gr.refl _⟩
    · refine NetStep.guarded rfl 21 (by kernel_rfl) (fun _ _ h => h) fun ρ wx hw hρc hρf hin hdep => ?_
      have e24 : ρ (.tmp 24) = (.int .u64 lo) := hdep 7 24 (by kernel_rfl)
      have e25 : ρ (.tmp 25) = (.int .u64 hi) := hdep 8 25 (by kernel_rfl)
      exact net_build 37 _ rfl #[.int .u64 lo, .int .u64 hi] (by simp only [List.map_toArray, List.map_cons, List.map_nil, e24, e25]; kernel_rfl) rfl
    · refine NetStep.guarded rfl 21 (by kernel_rfl) (fun _ _ h => h) fun ρ wx hw hρc hρf hin hdep => ?_
      have e23 : ρ (.tmp 23) = (.agg #[.int .u64 lo, .int .u64 hi]) := hdep 6 23 (by kernel_rfl)
      have e26 : ρ (.tmp 26) = (.agg #[.int .u64 lo, .int .u64 hi]) := hdep 9 26 (by kernel_rfl)
      go_simp
      exact ⟨rfl, Gr.refl _⟩
    · refine NetStep.of rfl fun ρ wx hw hρc hρf hin hdep => ?_
      have e21 : ρ (.tmp 21) = (.bool true) := hdep 4 21 (by kernel_rfl)
      have e27 : ρ (.tmp 27) = (.bool true) := hdep 10 27 (by kernel_rfl)
      go_simp
      exact ⟨rfl, Gr.refl _⟩
    · refine NetStep.of rfl fun ρ wx hw hρc hρf hin hdep => ?_
      have e28 : ρ (.tmp 28) = (.bool true) := hdep 11 28 (by kernel_rfl)
      go_simp
      exact ⟨rfl, Gr.refl _⟩
    · refine NetStep.guarded rfl 29 (by kernel_rfl) (fun _ _ h => h) fun ρ wx hw hρc hρf hin hdep => ?_
      have e7 : ρ (.tmp 7) = (.pointer (some ⟨w2.heap.size, 0, none⟩)) := hin 7 (by kernel_rfl)
      go_simp
      exact ⟨rfl, Gr.refl _⟩
    · refine NetStep.guarded rfl 29 (by kernel_rfl) (fun _ _ h => h) fun ρ wx hw hρc hρf hin hdep => ?_
      have e30 : ρ (.tmp 30) = (.pointer (some ⟨w2.heap.size, 0, none⟩)) := hdep 13 30 (by kernel_rfl)
      have hcx := gr_cell hw HC0.out
      go_simp
      exact ⟨rfl, Gr.refl _⟩
    · refine NetStep.guarded rfl 29 (by kernel_rfl) (fun _ _ h => h) fun ρ wx hw hρc hρf hin hdep => ?_
      have e3 : ρ (.tmp 3) = (.pointer (some ⟨w.heap.size, 0, none⟩)) := hin 3 (by kernel_rfl)
      exact net_load_row 25 _ rfl w.heap.size e3 25 (bs b) (0, 0) _ HBv.out hw Try.underlying25 rfl infoV rfl
    · refine NetStep.guarded rfl 29 (by kernel_rfl) (fun _ _ h => h) fun ρ wx hw hρc hρf hin hdep => ?_
      have e32 : ρ (.tmp 32) = (.agg (bs b)) := hdep 15 32 (by kernel_rfl)
      go_simp
      exact (get_any b HBy.out 64 0 wx).mono fun e w4 h => ⟨_, h.1, rfl, h.2⟩
    · refine NetStep.guarded rfl 29 (by kernel_rfl) (fun _ _ h => h) fun ρ wx hw hρc hρf hin hdep => ?_
      have e31 : ρ (.tmp 31) = (.int .u64 (getI b 64 0)) := hdep 14 31 (by kernel_rfl)
      have e33 : ρ (.tmp 33) = (.int .u64 (getI b 64 0)) := hdep 16 33 (by kernel_rfl)
      go_simp
      exact ⟨rfl, Gr.refl _⟩
    · refine NetStep.of rfl fun ρ wx hw hρc hρf hin hdep => ?_
      have e29 : ρ (.tmp 29) = (.bool true) := hdep 12 29 (by kernel_rfl)
      have e34 : ρ (.tmp 34) = (.bool true) := hdep 17 34 (by kernel_rfl)
      go_simp
      exact ⟨rfl, Gr.refl _⟩
    · refine NetStep.of rfl fun ρ wx hw hρc hρf hin hdep => ?_
      have e35 : ρ (.tmp 35) = (.bool true) := hdep 18 35 (by kernel_rfl)
      go_simp
      exact ⟨rfl, Gr.refl _⟩
    · refine NetStep.guarded rfl 36 (by kernel_rfl) (fun _ _ h => h) fun ρ wx hw hρc hρf hin hdep => ?_
      have e7 : ρ (.tmp 7) = (.pointer (some ⟨w2.heap.size, 0, none⟩)) := hin 7 (by kernel_rfl)
      go_simp
      exact ⟨rfl, Gr.refl _⟩
    · refine NetStep.guarded rfl 36 (by kernel_rfl) (fun _ _ h => h) fun ρ wx hw hρc hρf hin hdep => ?_
      have e37 : ρ (.tmp 37) = (.pointer (some ⟨w2.heap.size, 1, none⟩)) := hdep 20 37 (by kernel_rfl)
      have hcx := gr_cell hw HC1.out
      go_simp
      exact ⟨rfl, Gr.refl _⟩
    · refine NetStep.guarded rfl 36 (by kernel_rfl) (fun _ _ h => h) fun ρ wx hw hρc hρf hin hdep => ?_
      have e3 : ρ (.tmp 3) = (.pointer (some ⟨w.heap.size, 0, none⟩)) := hin 3 (by kernel_rfl)
      exact net_load_row 25 _ rfl w.heap.size e3 25 (bs b) (0, 0) _ HBv.out hw Try.underlying25 rfl infoV rfl
    · refine NetStep.guarded rfl 36 (by kernel_rfl) (fun _ _ h => h) fun ρ wx hw hρc hρf hin hdep => ?_
      have e39 : ρ (.tmp 39) = (.agg (bs b)) := hdep 22 39 (by kernel_rfl)
      go_simp
      exact (get_any b HBy.out 64 1 wx).mono fun e w4 h => ⟨_, h.1, rfl, h.2⟩
    · refine NetStep.guarded rfl 36 (by kernel_rfl) (fun _ _ h => h) fun ρ wx hw hρc hρf hin hdep => ?_
      have e38 : ρ (.tmp 38) = (.int .u64 (getI b 64 1)) := hdep 21 38 (by kernel_rfl)
      have e40 : ρ (.tmp 40) = (.int .u64 (getI b 64 1)) := hdep 23 40 (by kernel_rfl)
      go_simp
      exact ⟨rfl, Gr.refl _⟩
    · refine NetStep.of rfl fun ρ wx hw hρc hρf hin hdep => ?_
      have e36 : ρ (.tmp 36) = (.bool true) := hdep 19 36 (by kernel_rfl)
      have e41 : ρ (.tmp 41) = (.bool true) := hdep 24 41 (by kernel_rfl)
      go_simp
      exact ⟨rfl, Gr.refl _⟩
    · refine NetStep.of rfl fun ρ wx hw hρc hρf hin hdep => ?_
      have e42 : ρ (.tmp 42) = (.bool true) := hdep 25 42 (by kernel_rfl)
      go_simp
      exact ⟨rfl, Gr.refl _⟩
    · refine NetStep.guarded rfl 43 (by kernel_rfl) (fun _ _ h => h) fun ρ wx hw hρc hρf hin hdep => ?_
      have e8 : ρ (.tmp 8) = (.pointer (some ⟨w3.heap.size, 0, none⟩)) := hin 8 (by kernel_rfl)
      exact net_load_row 25 _ rfl w3.heap.size e8 25 (bs (ofK (fun _ => 0) 64 (fun j => if j = 0 then lo else hi) 2)) (0, 0) _ HBj.out hw Try.underlying25 rfl infoV rfl
    · refine NetStep.guarded rfl 43 (by kernel_rfl) (fun _ _ h => h) fun ρ wx hw hρc hρf hin hdep => ?_
      have e1 : ρ (.tmp 1) = (.int .u64 lo) := hin 1 (by kernel_rfl)
      go_simp
      exact ⟨rfl, Gr.refl _⟩
    · refine NetStep.guarded rfl 43 (by kernel_rfl) (fun _ _ h => h) fun ρ wx hw hρc hρf hin hdep => ?_
      have e2 : ρ (.tmp 2) = (.int .u64 hi) := hin 2 (by kernel_rfl)
      go_simp
      exact ⟨rfl, Gr.refl _⟩
    · refine NetStep.guarded rfl 43 (by kernel_rfl) (fun _ _ h => h) fun ρ wx hw hρc hρf hin hdep => ?_
      have e45 : ρ (.tmp 45) = (.int .u64 lo) := hdep 28 45 (by kernel_rfl)
      have e46 : ρ (.tmp 46) = (.int .u64 hi) := hdep 29 46 (by kernel_rfl)
      go_simp
      refine ⟨.inr ⟨by decide, wx.heap.size, 0, 2, rfl, fun j hj => ?_⟩, (Gr.refl _).alloc _ _⟩
      match j, hj with
      | 0, _ => exact (cell_of_row _ _ 0 _ _ _ (heap_alloc_new wx _)).trans rfl
      | 1, _ => exact (cell_of_row _ _ 1 _ _ _ (heap_alloc_new wx _)).trans rfl
    · refine NetStep.guarded rfl 43 (by kernel_rfl) (fun _ _ h => h) fun ρ wx hw hρc hρf hin hdep => ?_
      have e47 := Lib.hid (show U64s wx (ρ (.tmp 47)) 2 (fun j => if j = 0 then lo else hi) from hdep 30 47 (by kernel_rfl))
      go_simp
      exact (of_any 64 _ 2 (fun j => if j = 0 then lo else hi) wx e47.out).mono fun e w4 h => ⟨_, h.1, rfl, h.2⟩
    · refine NetStep.guarded rfl 43 (by kernel_rfl) (fun _ _ h => h) fun ρ wx hw hρc hρf hin hdep => ?_
      have e44 : ρ (.tmp 44) = (.agg (bs (ofK (fun _ => 0) 64 (fun j => if j = 0 then lo else hi) 2))) := hdep 27 44 (by kernel_rfl)
      have e48 : ρ (.tmp 48) = (.agg (bs (ofK (fun _ => 0) 64 (fun j => if j = 0 then lo else hi) 2))) := hdep 31 48 (by kernel_rfl)
      have hv := eq_vec (ofK (fun _ => 0) 64 (fun j => if j = 0 then lo else hi) 2) (ofK (fun _ => 0) 64 (fun j => if j = 0 then lo else hi) 2) wx
      have hr := vecB_refl (ofK (fun _ => 0) 64 (fun j => if j = 0 then lo else hi) 2)
      go_simp
      exact ⟨rfl, Gr.refl _⟩
    · refine NetStep.of rfl fun ρ wx hw hρc hρf hin hdep => ?_
      have e43 : ρ (.tmp 43) = (.bool true) := hdep 26 43 (by kernel_rfl)
      have e49 : ρ (.tmp 49) = (.bool true) := hdep 32 49 (by kernel_rfl)
      go_simp
      exact ⟨rfl, Gr.refl _⟩
    · refine NetStep.of rfl fun ρ wx hw hρc hρf hin hdep => ?_
      have e50 : ρ (.tmp 50) = (.bool true) := hdep 33 50 (by kernel_rfl)
      go_simp
      exact ⟨rfl, Gr.refl _⟩
    · refine NetStep.guarded rfl 51 (by kernel_rfl) (fun _ _ h => h) fun ρ wx hw hρc hρf hin hdep => ?_
      have e8 : ρ (.tmp 8) = (.pointer (some ⟨w3.heap.size, 0, none⟩)) := hin 8 (by kernel_rfl)
      go_simp
      exact ⟨rfl, Gr.refl _⟩
    · refine NetStep.guarded rfl 51 (by kernel_rfl) (fun _ _ h => h) fun ρ wx hw hρc hρf hin hdep => ?_
      have e52 : ρ (.tmp 52) = (.pointer (some ⟨w3.heap.size, 0 + 0, none⟩)) := hdep 35 52 (by kernel_rfl)
      have hcx := gr_cell hw HJ0.out
      go_simp
      exact ⟨rfl, Gr.refl _⟩
    · refine NetStep.guarded rfl 51 (by kernel_rfl) (fun _ _ h => h) fun ρ wx hw hρc hρf hin hdep => ?_
      have e1 : ρ (.tmp 1) = (.int .u64 lo) := hin 1 (by kernel_rfl)
      go_simp
      exact ⟨rfl, Gr.refl _⟩
    · refine NetStep.guarded rfl 51 (by kernel_rfl) (fun _ _ h => h) fun ρ wx hw hρc hρf hin hdep => ?_
      have e54 : ρ (.tmp 54) = (.int .u64 lo) := hdep 37 54 (by kernel_rfl)
      have hl := HLo.out
      have hh := HHi.out
      go_simp
      exact ⟨rfl, Gr.refl _⟩
    · refine NetStep.guarded rfl 51 (by kernel_rfl) (fun _ _ h => h) fun ρ wx hw hρc hρf hin hdep => ?_
      have e53 : ρ (.tmp 53) = (.int .u8 ((ofK (fun _ => 0) 64 (fun j => if j = 0 then lo else hi) 2) 0)) := hdep 36 53 (by kernel_rfl)
      have e55 : ρ (.tmp 55) = (.int .u8 (lo % 256)) := hdep 38 55 (by kernel_rfl)
      have hj0 := J0.out
      have hj15 := J15.out
      go_simp
      exact ⟨rfl, Gr.refl _⟩
    · refine NetStep.of rfl fun ρ wx hw hρc hρf hin hdep => ?_
      have e51 : ρ (.tmp 51) = (.bool true) := hdep 34 51 (by kernel_rfl)
      have e56 : ρ (.tmp 56) = (.bool true) := hdep 39 56 (by kernel_rfl)
      go_simp
      exact ⟨rfl, Gr.refl _⟩
    · refine NetStep.of rfl fun ρ wx hw hρc hρf hin hdep => ?_
      have e57 : ρ (.tmp 57) = (.bool true) := hdep 40 57 (by kernel_rfl)
      go_simp
      exact ⟨rfl, Gr.refl _⟩
    · refine NetStep.guarded rfl 58 (by kernel_rfl) (fun _ _ h => h) fun ρ wx hw hρc hρf hin hdep => ?_
      have e8 : ρ (.tmp 8) = (.pointer (some ⟨w3.heap.size, 0, none⟩)) := hin 8 (by kernel_rfl)
      go_simp
      exact ⟨rfl, Gr.refl _⟩
    · refine NetStep.guarded rfl 58 (by kernel_rfl) (fun _ _ h => h) fun ρ wx hw hρc hρf hin hdep => ?_
      have e59 : ρ (.tmp 59) = (.pointer (some ⟨w3.heap.size, 15, none⟩)) := hdep 42 59 (by kernel_rfl)
      have hcx := gr_cell hw HJ15.out
      go_simp
      exact ⟨rfl, Gr.refl _⟩
    · refine NetStep.guarded rfl 58 (by kernel_rfl) (fun _ _ h => h) fun ρ wx hw hρc hρf hin hdep => ?_
      have e2 : ρ (.tmp 2) = (.int .u64 hi) := hin 2 (by kernel_rfl)
      go_simp
      exact ⟨rfl, Gr.refl _⟩
    · refine NetStep.guarded rfl 58 (by kernel_rfl) (fun _ _ h => h) fun ρ wx hw hρc hρf hin hdep => ?_
      have e61 : ρ (.tmp 61) = (.int .u64 hi) := hdep 44 61 (by kernel_rfl)
      go_simp
      exact ⟨rfl, Gr.refl _⟩
    · refine NetStep.guarded rfl 58 (by kernel_rfl) (fun _ _ h => h) fun ρ wx hw hρc hρf hin hdep => ?_
      have e62 : ρ (.tmp 62) = (.int .u64 (hi / 72057594037927936)) := hdep 45 62 (by kernel_rfl)
      have hl := HLo.out
      have hh := HHi.out
      go_simp
      exact ⟨rfl, Gr.refl _⟩
    · refine NetStep.guarded rfl 58 (by kernel_rfl) (fun _ _ h => h) fun ρ wx hw hρc hρf hin hdep => ?_
      have e60 : ρ (.tmp 60) = (.int .u8 ((ofK (fun _ => 0) 64 (fun j => if j = 0 then lo else hi) 2) 15)) := hdep 43 60 (by kernel_rfl)
      have e63 : ρ (.tmp 63) = (.int .u8 (hi / 72057594037927936 % 256)) := hdep 46 63 (by kernel_rfl)
      have hj0 := J0.out
      have hj15 := J15.out
      go_simp
      exact ⟨rfl, Gr.refl _⟩
    · refine NetStep.of rfl fun ρ wx hw hρc hρf hin hdep => ?_
      have e58 : ρ (.tmp 58) = (.bool true) := hdep 41 58 (by kernel_rfl)
      have e64 : ρ (.tmp 64) = (.bool true) := hdep 47 64 (by kernel_rfl)
      go_simp
      exact ⟨rfl, Gr.refl _⟩
    · refine NetStep.of rfl fun ρ wx hw hρc hρf hin hdep => ?_
      have e65 : ρ (.tmp 65) = (.bool true) := hdep 48 65 (by kernel_rfl)
      go_simp
      exact ⟨rfl, Gr.refl _⟩
  · intro V w4 hg4 hV
    have h6 : V 6 = .bool true := hV 49 _ 6 rfl rfl
    have HG4 := Lib.hid (gr_trans HGG.out (gr_trans (Gr.drew (Gr.refl _)) hg4))
    clear hV hg4
    simp only [Exit.then, putAll, Act.put, Option.map_some, Option.getD_some, List.setIfInBounds_toArray, List.set_cons_succ, List.set_cons_zero]
    rename_i hK
    rw [h6]
    refine hK _ _ ?_
    clear hK h6
    go_wp2
    go_ret
    exact ⟨rfl, HG4.out⟩
end Go.Proofs.Ythdklnkaeddogab
