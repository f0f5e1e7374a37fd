/-
  Of layer 21: SplitKeeps: for all types the law returns true.
-/
import Derived.Test.YthpnhanabcipmaaSpKa
import Derived.Test.YthpnhanabcipmaaSpJn
import Derived.Test.YthpnhanabcipmaaSep
import Derived.OwnWalk
namespace Go.Proofs.Ythpnhanabcipmaa
open Go.RowKit VecM Ev
namespace Sp
theorem lit_src (w : World) (cs : Array Value) (t : TypeId) (m c : Nat) : Src (w.alloc (.cells cs t)) (.slice (some ⟨w.heap.size, 0, none⟩) m c) m cs.toList :=
  .inr ⟨_, _, rfl, fun j x hx => add_cell _ _ _ _ ((cell_of_row _ _ j _ _ _ (heap_alloc_new w _)).trans (by simpa using hx))⟩
theorem own_some {w : World} {base : Nat} {e : TypeId} {size : Nat} {v : Value} {n : Nat} {xs : List Value} (h : w.ownsRow base e size v n xs) (hn : 0 < n) : ∃ g c, v = .slice (some ⟨g, 0, none⟩) n c ∧ n ≤ c ∧ base ≤ g ∧ g < w.heap.size := by
  rcases h.2 with ⟨_, rfl⟩ | ⟨g, cap, cur, rfl, hb, hg, hnc, _⟩
  · omega
  · exact ⟨g, cap, rfl, hnc, hb, (Array.getElem?_eq_some_iff.1 hg).1⟩
/-- the first n of a row that the call owns -/
theorem i64s_first {w : World} {base : Nat} {e : TypeId} {g c n m : Nat} {z : Nat → Int} {K : List Int} {rest : List Value} (h : w.ownsRow base e 1 (.slice (some ⟨g, 0, none⟩) m c) m (ivs K ++ rest)) (hK : K.length = n) (hz : ∀ j, j < n → K.getD j 0 = z j) (hnm : n ≤ m) (hm : n ≤ 9223372036854775807) : I64s w (.slice (some ⟨g, 0, none⟩) n c) n z :=
  .inr ⟨hm, g, 0, c, rfl, fun j hj => by
    rw [Nat.zero_add, h.cellAt j (by omega), List.getElem?_append_left (by rw [ivs_len, hK]; exact hj), ivs_get K j (by omega), hz j hj]⟩
theorem own_type {w : World} {base g : Nat} {e t : TypeId} {v : Value} {n : Nat} {xs : List Value} {c : Array Value} {z : Nat × Nat} (h : w.ownsRow base e 1 v n xs) (hg : w.heap[g]? = some (.cells c t z)) (hne : e ≠ t) : ∀ k, v.ownBlock = some k → k ≠ g := by
  rcases h.2 with ⟨hv, _⟩ | ⟨g', cap, cur, rfl, hb, hg', _⟩
  · intro k hk
    rw [hv] at hk
    cases hk
  · intro k hk e'
    obtain rfl : g' = k := by injection hk
    subst e'
    rw [hg'] at hg
    injection hg with hg
    injection hg with _ h2 _
    exact hne h2
theorem sep_row (w : World) (g : Nat) (c : Array Value) : Sep (fun k => k = g) w (w.setRow g c) := ⟨rfl, rfl, rfl, by simp [World.setRow], fun _ _ hn => setRow_block_other hn⟩
theorem ls_own {w : World} {base : Nat} {e : TypeId} {v : Value} {n : Nat} {l : List Int} (h : w.ownsRow base e 1 v n (ivs l)) (hl : l.length = n) : I64s w v n fun j => l.getD j 0 := by
  subst hl
  exact ls_of_owns h
def ΦK (gf cf n c0 base : Nat) (x0 : Option Addr) (L : List Int) (k : Nat) (v : Value) (wn : World) : Prop :=
  match k with
  | 0 => v = (.slice (some ⟨gf, 0, none⟩) (n + 2) cf)
  | 1 => v = (.slice x0 n c0)
  | 2 => v = .int .i64 (n : Int)
  | 3 => v = (.slice (some ⟨gf, 0, none⟩) n cf)
  | 4 => v = (.slice (some ⟨gf, 0, none⟩) (n + 2) cf)
  | 5 => v = (.slice x0 n c0)
  | 6 => v = .int .i64 (n : Int)
  | 7 => v = (.slice (some ⟨gf, 0, none⟩) n cf)
  | 8 => v = .agg (sgV (.slice (some ⟨gf, 0, none⟩) n cf) (.slice (some ⟨gf, 0, none⟩) n cf))
  | 9 => ∃ vi vo, v = .agg (sgV vi vo) ∧ wn.ownsRow base 3 1 vi L.length (ivs L) ∧ wn.ownsRow base 3 1 vo L.length (ivs L) ∧ ∀ q, vi.ownBlock = some q → vo.ownBlock ≠ some q
  | 10 => ∃ g, v = .pointer (some ⟨g, 0, none⟩) ∧ base ≤ g ∧ wn.heap[g]? = some (.cells (sgV (.slice none 0 0) (.slice none 0 0)) 25 (0, 0))
  | _ => True
theorem ΦK_mono (gf cf n c0 base : Nat) (x0 : Option Addr) (L : List Int) : ∀ k v wn wn', Gr wn wn' → ΦK gf cf n c0 base x0 L k v wn → ΦK gf cf n c0 base x0 L k v wn' := by
  intro k v wn wn' hg h
  match k with
  | 0 => exact h
  | 1 => exact h
  | 2 => exact h
  | 3 => exact h
  | 4 => exact h
  | 5 => exact h
  | 6 => exact h
  | 7 => exact h
  | 8 => exact h
  | 9 => obtain ⟨vi, vo, h1, h2, h3, h4⟩ := h; exact ⟨vi, vo, h1, owns_gr h2 hg, owns_gr h3 hg, h4⟩
  | 10 => obtain ⟨g, h1, h2, h3⟩ := h; exact ⟨g, h1, h2, gr_block hg h3⟩
  | k + 11 => trivial
set_option maxRecDepth 100000 in
set_option maxHeartbeats 16000000 in
theorem keeps_law (x0 : Option Addr) (n c0 : Nat) (z : Nat → Int) (w : World) (hl : n ≤ 1048576) (h0 : I64d w (.slice x0 n c0) n z) :
    Calls Try.prog 8 #[.slice x0 n c0] w fun e w' => e = .returned (.bool true) ∧ Gr w w' := by
  have ll := imL_len z n
  have hs0 := i64s_of_c (i64c_of_d h0)
  have B0 := Lib.hid (fun w1 (h : Gr w w1) => src_gr (src_of_d h0) h)
  have A0 := Lib.hid (fun w1 (h : Gr w w1) => i64s_gr hs0 h)
  have A4 := Lib.hid (fun (w1 : World) (v : Value) (h : I64s w1 v n z) => types_any (w := w1) (by omega) h)
  have A5 := Lib.hid (fun (w1 : World) (v : Value) (h : I64s w1 v n z) => offsets_any (w := w1) (by omega) h)
  have A6 := Lib.hid (fun (w1 : World) (x : Option Addr) (c : Nat) (h : I64s w1 (.slice x n c) n z) => sigd_any (w := w1) (by omega) (by omega) h h)
  have E5 := Lib.hid (ofL_len z n)
  have Z0 := Lib.hid (zl_len z n)
  have Z1 := Lib.hid (fun j (hj : j < n) => show (zl z n).getD j 0 = z j from zl_get z hj)
  obtain ⟨i0, hi, hz0, hz1, hz2⟩ := info_parts infoZ
  have HI := Lib.hid hi
  have HZ0 := Lib.hid hz0
  have HZ1 := Lib.hid hz1
  have HZ2 := Lib.hid hz2
  have HN := Lib.hid (show n ≤ 1099511627776 by omega)
  clear h0 hs0 hi hz0 hz1 hz2
  generalize zl z n = K at *
  generalize imL z n = L at *
  generalize ofL z n = O at *
  go_enter Try.func8, Try.ntmps8
  go_wp2_with fail
  refine (awake_any _).mono ?_
  rintro e w1 ⟨rfl, hg1⟩
  have HG1 := Lib.hid hg1
  clear hg1
  go_wp2_with (at_builtin; refine wpList_append_src rfl _ _ 22 rfl w1.heap.size 3 i0 (.int .i64 0) 1 8 Try.underlying22 HI.out HZ0.out HZ1.out HZ2.out rfl (by decide) (.slice (some ⟨w1.heap.size, 0, none⟩) 0 0) 0 [] rfl (World.ownsRow_made w1 #[] 0 (Nat.le_refl _) (by decide) rfl) (.slice x0 n c0) n (ivs K) rfl (src_gr (B0.out _ HG1.out) ((Gr.refl w1).allocO _)) (by rw [ivs_len, Z0.out, Nat.mul_one]) (jn_oneC K) ?c3 ?c4 ?c5 ?_)
  case c3 => unfold maxLen; omega
  case c4 => omega
  case c5 => simp
  intro v2 w2 hown2 hgb2
  have HG2 := Lib.hid (((Gr.refl w1).allocO _).grown hgb2 (fun q hq => by simp [Value.ownBlock] at hq; omega))
  have HO2 := Lib.hid (show w2.ownsRow w1.heap.size 3 1 v2 n (ivs K) by simpa using hown2)
  clear hown2 hgb2
  go_wp2_with (at_builtin; refine wpList_append_src rfl _ _ 22 rfl w1.heap.size 3 i0 (.int .i64 0) 1 8 Try.underlying22 HI.out HZ0.out HZ1.out HZ2.out rfl (by decide) v2 n (ivs K) rfl (HO2.out.alloc _) (.slice (some ⟨w2.heap.size, 0, none⟩) 2 2) 2 [.int .i64 71, .int .i64 72] rfl (lit_src w2 #[.int .i64 71, .int .i64 72] _ 2 2) rfl (fun u hu => by simp at hu; rcases hu with rfl | rfl <;> rfl) ?c3 ?c4 ?c5 ?_)
  case c3 => unfold maxLen; omega
  case c4 => omega
  case c5 => have := HG2.out.size; simp; omega
  intro v3 w3 hown3 hgb3
  have HG3 := Lib.hid (gr_trans HG1.out ((gr_trans HG2.out ((Gr.refl w2).allocO _)).grown hgb3 (fun q hq => (HO2.out.lt q hq).1)))
  have HZ3 := Lib.hid (show w1.heap.size ≤ w3.heap.size from ((gr_trans HG2.out ((Gr.refl w2).allocO _)).grown hgb3 (fun q hq => (HO2.out.lt q hq).1)).size)
  obtain ⟨gf, cf, rfl, hcf, hgf1, hgf2⟩ := own_some hown3 (by omega)
  have HO3 := Lib.hid hown3
  have HF3 := Lib.hid (i64s_first hown3 Z0.out Z1.out (by omega) (by omega))
  have HGF2 := Lib.hid hgf2
  have HGF1 := Lib.hid hgf1
  have HZ1w := Lib.hid HG1.out.size
  clear hown3 hgb3 HG2 HO2 B0 hgf1 hgf2
  have T2 : (0 : Int) ≤ (n : Int) := by omega
  have T3 : (n : Int) ≤ (cf : Int) := by omega
  go_wp2_with fail
  refine (A4.out _ _ HF3.out).mono ?_
  rintro e w4 ⟨v4, rfl, hg4, ho4⟩
  have HK4 := Lib.hid hg4
  have HO4 := Lib.hid ho4
  obtain ⟨x4, c4, rfl⟩ := own_slice ho4
  clear hg4 ho4
  go_wp2_with fail
  refine (A4.out _ _ (i64s_gr HF3.out HK4.out)).mono ?_
  rintro e w5 ⟨v5, rfl, hg5, ho5⟩
  have HK5 := Lib.hid hg5
  have HO5 := Lib.hid ho5
  obtain ⟨x5, c5, rfl⟩ := own_slice ho5
  clear hg5 ho5
  go_wp2_with fail
  refine (A5.out _ _ (i64s_gr HF3.out (gr_trans HK4.out HK5.out))).mono ?_
  rintro e w6 ⟨v6, rfl, hg6, ho6⟩
  have HK6 := Lib.hid hg6
  rw [E5.out] at ho6
  have HO6 := Lib.hid ho6
  obtain ⟨x6, c6, rfl⟩ := own_slice ho6
  clear hg6 ho6
  go_wp2_with fail
  refine (A5.out _ _ (i64s_gr HF3.out (gr_trans HK4.out (gr_trans HK5.out HK6.out)))).mono ?_
  rintro e w7 ⟨v7, rfl, hg7, ho7⟩
  have HK7 := Lib.hid hg7
  rw [E5.out] at ho7
  have HO7 := Lib.hid ho7
  obtain ⟨x7, c7, rfl⟩ := own_slice ho7
  clear hg7 ho7
  have HK37 := Lib.hid (gr_trans HK4.out (gr_trans HK5.out (gr_trans HK6.out HK7.out)))
  have HF7 := Lib.hid (i64s_gr HF3.out HK37.out)
  go_upto_region 8 with (fail)
  refine wp_region_net_tail 11 (ΦK gf cf n c0 w7.heap.size x0 L) (by kernel_rfl) (by kernel_rfl) (ΦK_mono _ _ _ _ _ _ _) ?_ ?_
  · simp only [List.take_succ_cons, List.take_zero]
    refine ⟨?_, ?_, ?_, ?_, ?_, ?_, ?_, ?_, ?_, ?_, ?_, trivial⟩
    · refine NetStep.of rfl fun ρ wx hw hρc hρf hin hdep => ?_
      have e : ρ (.tmp 3) = (.slice (some ⟨gf, 0, none⟩) (n + 2) cf) := hin 3 (by kernel_rfl)
      go_simp
      exact ⟨rfl, Gr.refl _⟩
    · refine NetStep.of rfl fun ρ wx hw hρc hρf hin hdep => ?_
      have e : ρ (.tmp 0) = (.slice x0 n c0) := hin 0 (by kernel_rfl)
      go_simp
      exact ⟨rfl, Gr.refl _⟩
    · refine NetStep.of rfl fun ρ wx hw hρc hρf hin hdep => ?_
      have e : ρ (.tmp 42) = (.slice x0 n c0) := hdep 1 42 (by kernel_rfl)
      go_simp
      exact ⟨rfl, Gr.refl _⟩
    · refine NetStep.of rfl fun ρ wx hw hρc hρf hin hdep => ?_
      have e : ρ (.tmp 41) = (.slice (some ⟨gf, 0, none⟩) (n + 2) cf) := hdep 0 41 (by kernel_rfl)
      have e' : ρ (.tmp 43) = (.int .i64 (n : Int)) := hdep 2 43 (by kernel_rfl)
      go_simp
      exact ⟨rfl, Gr.refl _⟩
    · refine NetStep.of rfl fun ρ wx hw hρc hρf hin hdep => ?_
      have e : ρ (.tmp 3) = (.slice (some ⟨gf, 0, none⟩) (n + 2) cf) := hin 3 (by kernel_rfl)
      go_simp
      exact ⟨rfl, Gr.refl _⟩
    · refine NetStep.of rfl fun ρ wx hw hρc hρf hin hdep => ?_
      have e : ρ (.tmp 0) = (.slice x0 n c0) := hin 0 (by kernel_rfl)
      go_simp
      exact ⟨rfl, Gr.refl _⟩
    · refine NetStep.of rfl fun ρ wx hw hρc hρf hin hdep => ?_
      have e : ρ (.tmp 46) = (.slice x0 n c0) := hdep 5 46 (by kernel_rfl)
      go_simp
      exact ⟨rfl, Gr.refl _⟩
    · refine NetStep.of rfl fun ρ wx hw hρc hρf hin hdep => ?_
      have e : ρ (.tmp 45) = (.slice (some ⟨gf, 0, none⟩) (n + 2) cf) := hdep 4 45 (by kernel_rfl)
      have e' : ρ (.tmp 47) = (.int .i64 (n : Int)) := hdep 6 47 (by kernel_rfl)
      go_simp
      exact ⟨rfl, Gr.refl _⟩
    · refine NetStep.of rfl fun ρ wx hw hρc hρf hin hdep => ?_
      have e : ρ (.tmp 44) = (.slice (some ⟨gf, 0, none⟩) n cf) := hdep 3 44 (by kernel_rfl)
      have e' : ρ (.tmp 48) = (.slice (some ⟨gf, 0, none⟩) n cf) := hdep 7 48 (by kernel_rfl)
      go_simp
      exact ⟨rfl, Gr.refl _⟩
    · refine NetStep.of rfl fun ρ wx hw hρc hρf hin hdep => ?_
      have e : ρ (.tmp 49) = .agg (sgV (.slice (some ⟨gf, 0, none⟩) n cf) (.slice (some ⟨gf, 0, none⟩) n cf)) := hdep 8 49 (by kernel_rfl)
      have HGX := Lib.hid (gr_trans (Gr.drew (Gr.refl w7)) hw)
      go_simp
      exact (A6.out wx _ _ (i64s_gr HF7.out HGX.out)).mono fun e w4 ⟨vi, vo, h1, h2, h3, h4, h5⟩ => ⟨_, h1, ⟨vi, vo, rfl, owns_base h3 HGX.out.size, owns_base h4 HGX.out.size, h5⟩, h2⟩
    · refine NetStep.of rfl fun ρ wx hw hρc hρf hin hdep => ?_
      have HGX := Lib.hid (gr_trans (Gr.drew (Gr.refl w7)) hw)
      go_simp
      exact ⟨⟨_, rfl, HGX.out.size, heap_alloc_new wx _⟩, (Gr.refl _).alloc _ _⟩
  · intro V wN hgN hV
    obtain ⟨vi, vo, hs50, hOi, hOo, hD⟩ := hV 9 _ 50 (by decide) rfl rfl
    obtain ⟨g8, hs8, hb8, hR8⟩ := hV 10 _ 8 (by decide) rfl rfl
    obtain ⟨xi, ci, rfl⟩ := own_slice hOi
    obtain ⟨xo, co, rfl⟩ := own_slice hOo
    have HR8 := Lib.hid hR8
    have HB8 := Lib.hid hb8
    have HD := Lib.hid hD
    have HNi := Lib.hid (own_type hOi hR8 (by decide))
    have HNo := Lib.hid (own_type hOo hR8 (by decide))
    have HOi := Lib.hid (Sep.owns (sep_row wN g8 (sgV (.slice xi L.length ci) (.slice xo L.length co))) hOi HNi.out)
    have HOo := Lib.hid (Sep.owns (sep_row wN g8 (sgV (.slice xi L.length ci) (.slice xo L.length co))) hOo HNo.out)
    have HGN := Lib.hid (gr_trans (Gr.drew (Gr.refl w7)) hgN)
    clear hV hgN hOi hOo hb8 hR8 hD
    simp only [List.take_succ_cons, List.take_zero, List.drop_succ_cons, List.drop_zero, putAll, Act.put, Option.map_some, Option.getD_some, List.setIfInBounds_toArray, List.set_cons_succ, List.set_cons_zero]
    rw [hs50, hs8]
    clear hs50 hs8
    refine wpList_store_row rfl 25 _ _ rfl g8 (sgV _ _) rfl rfl 25 (sgV (.slice none 0 0) (.slice none 0 0)) HR8.out infoSg rfl (sg_one _ _ _ _ _ _) ?_
    have HS8 := Lib.hid (setRow_block (c := sgV (.slice xi L.length ci) (.slice xo L.length co)) HR8.out)
    have HG8 := Lib.hid (gr_setRow HGN.out HB8.out (sgV (.slice xi L.length ci) (.slice xo L.length co)))
    have HLT8 := Lib.hid (show g8 < (wN.setRow g8 (sgV (.slice xi L.length ci) (.slice xo L.length co))).heap.size from (Array.getElem?_eq_some_iff.1 HS8.out).1)
    clear HR8 HGN
    unfold sgV at *
    generalize wN.setRow g8 #[.slice xi L.length ci, .slice xo L.length co] = w8 at *
    go_wp2_with fail
    refine (same_types _ _ n _ _ w8 HN.out (i64s_gr HF7.out HG8.out) (A0.out _ (gr_trans HG3.out (gr_trans HK37.out HG8.out))) (fun _ _ => rfl)).mono ?_
    rintro e w9 ⟨rfl, hg9⟩
    have HK9 := Lib.hid (gr_trans HG8.out hg9)
    have O4 := Lib.hid (owns_gr HO4.out (gr_trans HK5.out (gr_trans HK6.out (gr_trans HK7.out HK9.out))))
    have O5 := Lib.hid (owns_gr HO5.out (gr_trans HK6.out (gr_trans HK7.out HK9.out)))
    have O6 := Lib.hid (owns_gr HO6.out (gr_trans HK7.out HK9.out))
    have O7 := Lib.hid (owns_gr HO7.out HK9.out)
    have OF := Lib.hid (owns_gr HO3.out (gr_trans HK37.out HK9.out))
    have Oi := Lib.hid (owns_gr HOi.out hg9)
    have Oo := Lib.hid (owns_gr HOo.out hg9)
    have R9 := Lib.hid (gr_block hg9 HS8.out)
    have GW9 := Lib.hid (gr_trans HG3.out (gr_trans HK37.out HK9.out))
    have h71 : w9.cell? ⟨gf, n, none⟩ = some (.int .i64 71) := by rw [OF.out.cellAt n (by omega), List.getElem?_append_right (by rw [ivs_len, Z0.out]; omega), ivs_len, Z0.out]; simp
    obtain ⟨q0, q1⟩ := cells2 R9.out
    have HZs := Lib.hid (show w.heap.size ≤ w1.heap.size ∧ w1.heap.size ≤ w3.heap.size ∧ w3.heap.size ≤ w4.heap.size ∧ w4.heap.size ≤ w5.heap.size ∧ w5.heap.size ≤ w6.heap.size ∧ w6.heap.size ≤ w7.heap.size ∧ w7.heap.size ≤ g8 from ⟨HZ1w.out, HZ3.out, HK4.out.size, HK5.out.size, HK6.out.size, HK7.out.size, HB8.out⟩)
    obtain ⟨ex, hex⟩ : ∃ ex : Nat → Prop, ∀ k, ex k ↔ ((Value.slice x4 L.length c4).ownBlock = some k ∨ (Value.slice xi L.length ci).ownBlock = some k ∨ (Value.slice x6 n c6).ownBlock = some k) := ⟨_, fun _ => Iff.rfl⟩
    have X4 := Lib.hid (show ∀ k, (Value.slice x4 L.length c4).ownBlock = some k → ex k from fun k h => (hex k).2 (.inl h))
    have Xi := Lib.hid (show ∀ k, (Value.slice xi L.length ci).ownBlock = some k → ex k from fun k h => (hex k).2 (.inr (.inl h)))
    have X6 := Lib.hid (show ∀ k, (Value.slice x6 n c6).ownBlock = some k → ex k from fun k h => (hex k).2 (.inr (.inr h)))
    have B4 := Lib.hid (show ∀ k, (Value.slice x4 L.length c4).ownBlock = some k → w3.heap.size ≤ k ∧ k < w4.heap.size from HO4.out.lt)
    have B6 := Lib.hid (show ∀ k, (Value.slice x6 n c6).ownBlock = some k → w5.heap.size ≤ k ∧ k < w6.heap.size from HO6.out.lt)
    have Bi := Lib.hid (show ∀ k, (Value.slice xi L.length ci).ownBlock = some k → w7.heap.size ≤ k ∧ k ≠ g8 from fun k h => ⟨(HOi.out.lt k h).1, HNi.out k h⟩)
    have BX := Lib.hid (show ∀ k, ex k → (w3.heap.size ≤ k ∧ k < w4.heap.size) ∨ (w5.heap.size ≤ k ∧ k < w6.heap.size) ∨ (w7.heap.size ≤ k ∧ (Value.slice xi L.length ci).ownBlock = some k) from fun k h => by
      rcases (hex k).1 h with h | h | h
      · exact .inl (B4.out k h)
      · exact .inr (.inr ⟨(Bi.out k h).1, h⟩)
      · exact .inr (.inl (B6.out k h)))
    clear hex
    have N5 := Lib.hid (show ∀ k, (Value.slice x5 L.length c5).ownBlock = some k → ¬ ex k from fun k h hx => by have := HO5.out.lt k h; have := BX.out k hx; have := HZs.out; omega)
    have N7 := Lib.hid (show ∀ k, (Value.slice x7 n c7).ownBlock = some k → ¬ ex k from fun k h hx => by have := HO7.out.lt k h; have := BX.out k hx; have := HZs.out; omega)
    have NF := Lib.hid (show ∀ k, (Value.slice (some ⟨gf, 0, none⟩) (n + 2) cf).ownBlock = some k → ¬ ex k from fun k h hx => by have := HO3.out.lt k h; have := BX.out k hx; have := HZs.out; omega)
    have No := Lib.hid (show ∀ k, (Value.slice xo L.length co).ownBlock = some k → ¬ ex k from fun k h hx => by
      have h1 := (HOo.out.lt k h).1
      have h3 := HZs.out
      rcases BX.out k hx with h2 | h2 | ⟨_, h2⟩
      · omega
      · omega
      · exact HD.out k h2 h)
    have N8 := Lib.hid (show ¬ ex g8 from fun hx => by
      have h3 := HZs.out
      rcases BX.out g8 hx with h2 | h2 | ⟨_, h2⟩
      · omega
      · omega
      · exact (Bi.out g8 h2).2 rfl)
    have NW := Lib.hid (show ∀ k, ex k → w.heap.size ≤ k from fun k hx => by have := BX.out k hx; have := HZs.out; omega)
    have N4i := Lib.hid (show ∀ k, (Value.slice x4 L.length c4).ownBlock = some k → ¬ (Value.slice xi L.length ci).ownBlock = some k from fun k h h' => by have := B4.out k h; have := Bi.out k h'; have := HZs.out; omega)
    have N46 := Lib.hid (show ∀ k, (Value.slice x4 L.length c4).ownBlock = some k → ¬ (Value.slice x6 n c6).ownBlock = some k from fun k h h' => by have := B4.out k h; have := B6.out k h'; have := HZs.out; omega)
    have N6i := Lib.hid (show ∀ k, (Value.slice x6 n c6).ownBlock = some k → ¬ (Value.slice xi L.length ci).ownBlock = some k from fun k h h' => by have := B6.out k h; have := Bi.out k h'; have := HZs.out; omega)
    have Z9 := Lib.hid (show w6.heap.size ≤ w9.heap.size ∧ w7.heap.size ≤ w9.heap.size ∧ w3.heap.size ≤ w9.heap.size ∧ w5.heap.size ≤ w9.heap.size from by have := HK9.out.size; have := HZs.out; omega)
    clear hg9 HK9 HO4 HO5 HO6 HO7 HO3 HOi HOo HS8 HG8 HK37 HK4 HK5 HK6 HK7 HF7 HF3 HG3 HLT8 HB8 HD HNi HNo HZ3 HZ1w HGF1 HGF2 HG1 BX
    have hnf : (n : Int) < (n : Int) + 2 := by omega
    go_wp2_with fail
    clear h71 q0 q1
    go_loopw [9] (fun i wr => ∃ k : Nat, k ≤ L.length ∧ i = .int .i64 k ∧ Sep ex w9 wr ∧ (∃ xs, wr.ownsRow w3.heap.size 3 1 (.slice x4 L.length c4) L.length xs) ∧ (∃ ys, wr.ownsRow w7.heap.size 3 1 (.slice xi L.length ci) L.length ys) ∧ wr.ownsRow w5.heap.size 3 1 (.slice x6 n c6) n (ivs O)) (fun i _ => L.length - (intOf i).toNat)
    case atStart => exact ⟨0, by omega, rfl, Sep.refl _, ⟨_, O4.out⟩, ⟨_, Oi.out⟩, O6.out⟩
    case round =>
    obtain ⟨k, hk, rfl, hsep, ⟨xs, hxs⟩, ⟨ys, hys⟩, hzs⟩ := hrel
    have HS := Lib.hid hsep
    have HA := Lib.hid hxs
    have HB := Lib.hid hys
    have HC := Lib.hid hzs
    clear hsep hxs hys hzs
    by_cases hlt : k < L.length
    · obtain ⟨g4, d4, e4, _, _, _⟩ := own_some HA.out (by omega)
      obtain ⟨gi, di, ei, _, _, _⟩ := own_some HB.out (by omega)
      obtain rfl := (Value.slice.inj e4).1
      obtain rfl := (Value.slice.inj ei).1
      clear e4 ei
      obtain ⟨xk, hxk⟩ : ∃ xk, wr.cell? ⟨g4, k, none⟩ = some xk := by
        have h1 := HA.out.cellAt k (by omega)
        have h2 := HA.out.1
        rw [List.getElem?_eq_getElem (by omega)] at h1
        exact ⟨_, h1⟩
      have hfz := HA.out.frozenAt k
      go_upto_region 15 with (fail)
      have HS2 := Lib.hid (Sep.trans HS.out (Sep.setCell (ex := ex) wr (p := ⟨g4, k, none⟩) (X4.out g4 rfl) (.int .i64 (-1))))
      have HA2 := Lib.hid (HA.out.stored k (.int .i64 (-1))).1
      have HB2 := Lib.hid (Sep.owns (Sep.setCell (ex := fun q => (Value.slice (some ⟨g4, 0, none⟩) L.length c4).ownBlock = some q) wr (p := ⟨g4, k, none⟩) rfl (.int .i64 (-1))) HB.out (fun q h h' => N4i.out q h' h))
      have HC2 := Lib.hid (Sep.owns (Sep.setCell (ex := fun q => (Value.slice (some ⟨g4, 0, none⟩) L.length c4).ownBlock = some q) wr (p := ⟨g4, k, none⟩) rfl (.int .i64 (-1))) HC.out (fun q h h' => N46.out q h' h))
      clear HA HB HC HS hxk hfz
      generalize wr.setCell ⟨g4, k, none⟩ (.int .i64 (-1)) = wa at *
      obtain ⟨yk, hyk⟩ : ∃ yk, wa.cell? ⟨gi, k, none⟩ = some yk := by
        have h1 := HB2.out.cellAt k (by omega)
        have h2 := HB2.out.1
        rw [List.getElem?_eq_getElem (by omega)] at h1
        exact ⟨_, h1⟩
      have hfz := HB2.out.frozenAt k
      obtain ⟨q0, q1⟩ := cells2 (Sep.at_ HS2.out N8.out R9.out)
      go_wp2_with fail
      have HS3 := Lib.hid (Sep.trans HS2.out (Sep.setCell (ex := ex) wa (p := ⟨gi, k, none⟩) (Xi.out gi rfl) (.int .i64 (-2))))
      have HB3 := Lib.hid (HB2.out.stored k (.int .i64 (-2))).1
      have HA3 := Lib.hid (Sep.owns (Sep.setCell (ex := fun q => (Value.slice (some ⟨gi, 0, none⟩) L.length ci).ownBlock = some q) wa (p := ⟨gi, k, none⟩) rfl (.int .i64 (-2))) HA2.out (fun q h h' => N4i.out q h h'))
      have HC3 := Lib.hid (Sep.owns (Sep.setCell (ex := fun q => (Value.slice (some ⟨gi, 0, none⟩) L.length ci).ownBlock = some q) wa (p := ⟨gi, k, none⟩) rfl (.int .i64 (-2))) HC2.out (fun q h h' => N6i.out q h h'))
      exact ⟨⟨k + 1, by omega, by go_num, HS3.out, ⟨_, HA3.out⟩, ⟨_, HB3.out⟩, HC3.out⟩, by simp [intOf]; omega⟩
    obtain rfl : k = L.length := by omega
    clear hlt hk
    go_wp2_with fail
    go_loopw [10] (fun i wq => ∃ k : Nat, k ≤ n ∧ i = .int .i64 k ∧ Sep (fun q => (Value.slice x6 n c6).ownBlock = some q) wr wq ∧ ∃ zs, wq.ownsRow w5.heap.size 3 1 (.slice x6 n c6) n zs) (fun i _ => n - (intOf i).toNat)
    case atStart => exact ⟨0, by omega, rfl, Sep.refl _, _, HC.out⟩
    case round =>
    clear HC
    rename_i wp _ _ _ _ _ _
    obtain ⟨k, hk, rfl, hsep, zs, hzs⟩ := hrel
    have HS2 := Lib.hid hsep
    have HC := Lib.hid hzs
    clear hsep hzs
    by_cases hlt : k < n
    · obtain ⟨g6, d6, e6, _, _, _⟩ := own_some HC.out (by omega)
      obtain rfl := (Value.slice.inj e6).1
      clear e6
      obtain ⟨xk, hxk⟩ : ∃ xk, wr.cell? ⟨g6, k, none⟩ = some xk := by
        have h1 := HC.out.cellAt k (by omega)
        have h2 := HC.out.1
        rw [List.getElem?_eq_getElem (by omega)] at h1
        exact ⟨_, h1⟩
      have hfz := HC.out.frozenAt k
      go_wp2_with fail
      have HS3 := Lib.hid (Sep.trans HS2.out (Sep.setCell (ex := fun q => (Value.slice (some ⟨g6, 0, none⟩) n c6).ownBlock = some q) wr (p := ⟨g6, k, none⟩) rfl (.int .i64 (-3))))
      exact ⟨⟨k + 1, by omega, by go_num, HS3.out, _, (HC.out.stored k (.int .i64 (-3))).1⟩, by simp [intOf]; omega⟩
    obtain rfl : n = k := by omega
    clear hlt hk
    have HS1 := Lib.hid (Sep.trans HS.out (Sep.mono HS2.out X6.out))
    have HA1 := Lib.hid (Sep.owns HS2.out HA.out (fun q h h' => N46.out q h h'))
    have HB1 := Lib.hid (Sep.owns HS2.out HB.out (fun q h h' => N6i.out q h' h))
    clear HS HS2 HA HB
    go_wp2_with (at_builtin; refine wpList_append_src rfl _ _ 22 rfl w3.heap.size 3 i0 (.int .i64 0) 1 8 Try.underlying22 HI.out HZ0.out HZ1.out HZ2.out rfl (by decide) (.slice x4 L.length c4) L.length xs rfl (HA1.out.alloc _) (.slice (some ⟨wr.heap.size, 0, none⟩) 3 3) 3 [.int .i64 (-4), .int .i64 (-4), .int .i64 (-4)] rfl (lit_src wr #[.int .i64 (-4), .int .i64 (-4), .int .i64 (-4)] _ 3 3) rfl (fun u hu => by simp at hu; subst hu; rfl) ?c3 ?c4 ?c5 ?_)
    case c3 => unfold maxLen; omega
    case c4 => omega
    case c5 => have := HS1.out.size; have := Z9.out; simp; omega
    intro vX wX hownX hgbX
    obtain ⟨xX, cX, rfl⟩ := own_slice hownX
    have HSX := Lib.hid (Sep.trans (ex := fun q => (Value.slice x4 L.length c4).ownBlock = some q) (Sep.of_gr ((Gr.refl wr).allocO _)) (Sep.grown hgbX (fun k h => h)))
    have HS3 := Lib.hid (Sep.trans HS1.out (Sep.mono HSX.out X4.out))
    have HBX := Lib.hid (Sep.owns HSX.out HB1.out (fun q h h' => N4i.out q h' h))
    have HCX := Lib.hid (Sep.owns HSX.out HC.out (fun q h h' => N46.out q h' h))
    clear hownX hgbX HSX HB1 HC HA1 HS1
    obtain ⟨q0, q1⟩ := cells2 (Sep.at_ HS3.out N8.out R9.out)
    go_wp2_with (at_builtin; refine wpList_append_src rfl _ _ 22 rfl w7.heap.size 3 i0 (.int .i64 0) 1 8 Try.underlying22 HI.out HZ0.out HZ1.out HZ2.out rfl (by decide) (.slice xi L.length ci) L.length ys rfl (HBX.out.alloc _) (.slice (some ⟨wX.heap.size, 0, none⟩) 3 3) 3 [.int .i64 (-5), .int .i64 (-5), .int .i64 (-5)] rfl (lit_src wX #[.int .i64 (-5), .int .i64 (-5), .int .i64 (-5)] _ 3 3) rfl (fun u hu => by simp at hu; subst hu; rfl) ?c3 ?c4 ?c5 ?_)
    case c3 => unfold maxLen; omega
    case c4 => omega
    case c5 => have := HS3.out.size; have := Z9.out; simp; omega
    intro vY wY hownY hgbY
    obtain ⟨xY, cY, rfl⟩ := own_slice hownY
    have HSY := Lib.hid (Sep.trans (ex := fun q => (Value.slice xi L.length ci).ownBlock = some q) (Sep.of_gr ((Gr.refl wX).allocO _)) (Sep.grown hgbY (fun k h => h)))
    have HS4 := Lib.hid (Sep.trans HS3.out (Sep.mono HSY.out Xi.out))
    have HCY := Lib.hid (Sep.owns HSY.out HCX.out (fun q h h' => N6i.out q h h'))
    clear hownY hgbY HSY HCX HBX HS3 q0 q1
    go_wp2_with (at_builtin; refine wpList_append_src rfl _ _ 22 rfl w5.heap.size 3 i0 (.int .i64 0) 1 8 Try.underlying22 HI.out HZ0.out HZ1.out HZ2.out rfl (by decide) (.slice x6 n c6) n zs rfl (HCY.out.alloc _) (.slice (some ⟨wY.heap.size, 0, none⟩) 2 2) 2 [.int .i64 (-6), .int .i64 (-6)] rfl (lit_src wY #[.int .i64 (-6), .int .i64 (-6)] _ 2 2) rfl (fun u hu => by simp at hu; subst hu; rfl) ?c3 ?c4 ?c5 ?_)
    case c3 => unfold maxLen; omega
    case c4 => omega
    case c5 => have := HS4.out.size; have := Z9.out; simp; omega
    intro vZ wZ hownZ hgbZ
    obtain ⟨xZ, cZ, rfl⟩ := own_slice hownZ
    have HSZ := Lib.hid (Sep.trans (ex := fun q => (Value.slice x6 n c6).ownBlock = some q) (Sep.of_gr ((Gr.refl wY).allocO _)) (Sep.grown hgbZ (fun k h => h)))
    have HS5 := Lib.hid (Sep.trans HS4.out (Sep.mono HSZ.out X6.out))
    clear hownZ hgbZ HSZ HCY HS4
    have P5 := Lib.hid (ls_of_owns (Sep.owns HS5.out O5.out N5.out))
    have P7 := Lib.hid (ls_own (Sep.owns HS5.out O7.out N7.out) E5.out)
    have Po := Lib.hid (ls_of_owns (Sep.owns HS5.out Oo.out No.out))
    have RZ := Lib.hid (Sep.at_ HS5.out N8.out R9.out)
    have FZ := Lib.hid (i64s_first (Sep.owns HS5.out OF.out NF.out) Z0.out Z1.out (by omega) (by omega))
    have GZ := Lib.hid (Sep.toGr GW9.out HS5.out NW.out)
    clear HS5 O4 O5 O6 O7 OF Oi Oo R9 GW9
    have T6 : IntKind.i64.wrap ((n : Int) + 2) = (n : Int) + 2 := by rw [IntKind.wrap_i64]; omega
    go_wp2_with fail
    refine (A4.out _ _ (A0.out _ GZ.out)).mono ?_
    rintro e wA ⟨vA, rfl, hgA, hoA⟩
    obtain ⟨xA, cA, rfl⟩ := own_slice hoA
    have HA := Lib.hid (ls_of_owns hoA)
    have HGA := Lib.hid hgA
    clear hgA hoA
    go_wp2_with fail
    refine (same_types _ _ L.length _ _ wA (by omega) (ls_gr P5.out HGA.out) HA.out (ls_refl' L)).mono ?_
    rintro e wB ⟨rfl, hgB⟩
    have HGB := Lib.hid (gr_trans HGA.out hgB)
    clear hgB HA HGA
    obtain ⟨q0, q1⟩ := cells2 (gr_block HGB.out RZ.out)
    go_wp2_with fail
    refine (same_types _ _ L.length _ _ wB (by omega) (ls_gr Po.out HGB.out) (ls_gr P5.out HGB.out) (ls_refl' L)).mono ?_
    rintro e wC ⟨rfl, hgC⟩
    have HGC := Lib.hid (gr_trans HGB.out hgC)
    clear hgC HGB q0 q1
    go_wp2_with fail
    refine (A5.out _ _ (A0.out _ (gr_trans GZ.out HGC.out))).mono ?_
    rintro e wD ⟨vD, rfl, hgD, hoD⟩
    rw [E5.out] at hoD
    have HD2 := Lib.hid (ls_own hoD E5.out)
    obtain ⟨xD, cD, rfl⟩ := own_slice hoD
    have HGD := Lib.hid (gr_trans HGC.out hgD)
    clear hgD hoD HGC
    go_wp2_with fail
    refine (same_types _ _ n _ _ wD HN.out (i64s_gr P7.out HGD.out) HD2.out (fun _ _ => rfl)).mono ?_
    rintro e wE ⟨rfl, hgE⟩
    have HGE := Lib.hid (gr_trans HGD.out hgE)
    clear hgE HGD HD2
    go_wp2_with fail
    refine (same_types _ _ n _ _ wE HN.out (i64s_gr FZ.out HGE.out) (A0.out _ (gr_trans GZ.out HGE.out)) (fun _ _ => rfl)).mono ?_
    rintro e wF ⟨rfl, hgF⟩
    have HGF := Lib.hid (gr_trans GZ.out (gr_trans HGE.out hgF))
    clear hgF HGE
    go_wp2
    go_ret
    exact ⟨rfl, HGF.out⟩
theorem split_keeps {v : Value} {n : Nat} {z : Nat → Int} {w : World} (hl : n ≤ 1048576) (h : I64d w v n z) :
    Calls Try.prog 8 #[v] w fun e w' => e = .returned (.bool true) ∧ Gr w w' := by
  obtain ⟨x, c, rfl⟩ := slice_i64d h
  exact keeps_law x n c z w hl h
end Sp
end Go.Proofs.Ythpnhanabcipmaa
