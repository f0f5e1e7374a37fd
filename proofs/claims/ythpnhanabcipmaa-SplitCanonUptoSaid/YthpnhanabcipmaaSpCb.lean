/-
  Of layer 21: split.Canon: the first type that is the same.
-/
import Derived.Test.YthpnhanabcipmaaSpCa
namespace Go.Proofs.Ythpnhanabcipmaa
open Go.RowKit VecM
namespace Sp
/-- r is the number of the first type that is the type q -/
def Fst (S : Nat → Sd) (q : Nat) (r : Int) : Prop := ∃ j : Nat, j ≤ q ∧ r = j ∧ sdE (S j) (S q) = true ∧ ∀ i, i < j → sdE (S i) (S q) = false
theorem eqD_refl (z : Nat → Int) (n : Nat) : eqD z n z n = true := decide_eq_true rfl
theorem sdE_refl (s : Sd) : sdE s s = true := by unfold sdE; rw [eqD_refl, eqD_refl]; rfl
theorem fst_one {S : Nat → Sd} {q : Nat} {r r' : Int} (h : Fst S q r) (h' : Fst S q r') : r = r' := by
  obtain ⟨j, _, rfl, a, b⟩ := h
  obtain ⟨j', _, rfl, a', b'⟩ := h'
  have h1 : ¬ j < j' := fun h => by rw [b' j h] at a; cases a
  have h2 : ¬ j' < j := fun h => by rw [b j' h] at a'; cases a'
  omega
set_option maxHeartbeats 2000000 in
theorem index_any (S : Nat → Sd) (gm gk b off cap N q : Nat) (w : World) (hN : N ≤ 9223372036854775807) (hS : ∀ j, (S j).Ok w) (hq : q < N) (hm : w.cell? ⟨gm, 0, none⟩ = some (.slice (some ⟨b, off, none⟩) N cap)) (hkk : w.cell? ⟨gk, 0, none⟩ = some (.int .i64 q))
    (hc : ∀ j, j < N → w.cell? ⟨b, off + j * 2, none⟩ = some (S j).i ∧ w.cell? ⟨b, off + j * 2 + 1, none⟩ = some (S j).o) :
    Calls Try.prog 31 #[.slice (some ⟨b, off, none⟩) N cap, .func (.func 32) #[] #[.pointer (some ⟨gm, 0, none⟩), .pointer (some ⟨gk, 0, none⟩)]] w fun e w' => ∃ r, e = .returned (.int .i64 r) ∧ Fst S q r ∧ Gr w w' := by
  have HK := Lib.hid (fun w1 (h : Gr w w1) k (hk : k < N) => look_any (S k) (S q) gm gk b off cap N q w1 ((hS k).gr h) ((hS q).gr h) hq (gr_cell h hm) (gr_cell h hkk) (gr_cell h (hc q hq).1) (gr_cell h (hc q hq).2))
  have HC := Lib.hid hc
  clear hm hkk hc hS
  go_enter Try.func31, Try.ntmps31
  go_wp2_with fail
  go_loopw [8] (fun i wr => ∃ k : Nat, k ≤ N ∧ i = .int .i64 k ∧ (∀ j, j < k → sdE (S j) (S q) = false) ∧ Gr w wr) (fun i _ => N - (intOf i).toNat)
  case atStart => exact ⟨0, by omega, rfl, fun j hj => absurd hj (by omega), Gr.refl _⟩
  case round =>
    obtain ⟨k, hk, rfl, he, hg⟩ := hrel
    have HE := Lib.hid he
    have HG := Lib.hid hg
    clear hg he
    by_cases hlt : k < N
    · have HLd := Lib.hid (show ∀ j u, (sgV (S k).i (S k).o).toList[j]? = some u → wr.cell? ⟨b, off + k * 2 + j, none⟩ = some u from fun j u hu => by
        match j, hu with
        | 0, hu => simp [sgV] at hu; subst hu; exact gr_cell HG.out (HC.out k hlt).1
        | 1, hu => simp [sgV] at hu; subst hu; exact gr_cell HG.out (HC.out k hlt).2
        | j + 2, hu => simp [sgV] at hu)
      have HF := Lib.hid (HK.out wr HG.out k hlt)
      cases hr : sdE (S k) (S q) with
      | false =>
        have HE2 := Lib.hid (show ∀ j, j < k + 1 → sdE (S j) (S q) = false from fun j hj => by
          by_cases hjk : j < k
          · exact HE.out j hjk
          · obtain rfl : j = k := by omega
            exact hr)
        have HF2 := Lib.hid (hr ▸ HF.out)
        clear hr HF
        go_wp2_with (first | (refine wpList_load_cells rfl 25 _ rfl b (off + k * 2) rfl (sgV (S k).i (S k).o) _ HLd.out Try.underlying25 rfl infoSg ?_) | (go_at_call 32; refine HF2.out.mono ?_; rintro e w1 ⟨rfl, hg1⟩; have HG1 := Lib.hid hg1; clear hg1))
        exact ⟨⟨k + 1, by omega, by go_num, HE2.out, gr_trans HG.out HG1.out⟩, by simp [intOf]; omega⟩
      | true =>
        have HF2 := Lib.hid (hr ▸ HF.out)
        have hle : k ≤ q := by
          by_cases h : k ≤ q
          · exact h
          · have := HE.out q (by omega)
            rw [sdE_refl] at this
            cases this
        have HR := Lib.hid (show Fst S q (k : Int) from ⟨k, hle, rfl, hr, HE.out⟩)
        clear hr HF hle
        go_wp2_with (first | (refine wpList_load_cells rfl 25 _ rfl b (off + k * 2) rfl (sgV (S k).i (S k).o) _ HLd.out Try.underlying25 rfl infoSg ?_) | (go_at_call 32; refine HF2.out.mono ?_; rintro e w1 ⟨rfl, hg1⟩; have HG1 := Lib.hid hg1; clear hg1))
        go_ret
        exact ⟨_, rfl, HR.out, gr_trans HG.out HG1.out⟩
    · have := HE.out q (by omega)
      rw [sdE_refl] at this
      cases this
/-- a module with these types alone -/
def mdV (v : Value) : Array Value := #[v, .slice none 0 0, .slice none 0 0, .slice none 0 0, .slice none 0 0, .slice none 0 0, .slice none 0 0, .int .i64 0, .slice none 0 0, .slice none 0 0, .slice none 0 0]
theorem cell_md {w : World} {g : Nat} {v : Value} {t : TypeId} {z : Nat × Nat} (h : w.heap[g]? = some (.cells (mdV v) t z)) : w.cell? ⟨g, 0, none⟩ = some v := (cell_of_row _ _ 0 _ _ _ h).trans rfl
theorem cell_one {w : World} {g : Nat} {v : Value} {t : TypeId} {z : Nat × Nat} (h : w.heap[g]? = some (.cells #[v] t z)) : w.cell? ⟨g, 0, none⟩ = some v := (cell_of_row _ _ 0 _ _ _ h).trans rfl
/-- what Canon answers -/
def CanP (S : Nat → Sd) (N : Nat) (k r : Int) : Prop := (¬ (0 ≤ k ∧ k < N) ∧ r = -1) ∨ ∃ q : Nat, k = q ∧ q < N ∧ Fst S q r
set_option maxHeartbeats 2000000 in
theorem canon_any (S : Nat → Sd) (v : Value) (N : Nat) (k : Int) (w : World) (hS : ∀ j, (S j).Ok w) (hv : Sgs w v N S) :
    Calls Try.prog 23 #[.agg (mdV v), .int .i64 k] w fun e w' => ∃ r, e = .returned (.int .i64 r) ∧ CanP S N k r ∧ Gr w w' := by
  obtain ⟨xv, cv, rfl⟩ := slice_sgs hv
  have HG0 := Lib.hid (show Gr w ((w.alloc (.cells (mdV (.slice xv N cv)) 41)).alloc (.cells #[.int .i64 k] 3)) from ((Gr.refl w).alloc _ _).alloc _ _)
  have f0 := cell_md (heap_alloc2_old w (.cells (mdV (.slice xv N cv)) 41) (.cells #[.int .i64 k] 3))
  have f1 := cell_one (heap_alloc2_new w (.cells (mdV (.slice xv N cv)) 41) (.cells #[.int .i64 k] 3))
  by_cases h0 : k < 0
  · have hP := Lib.hid (show CanP S N k (-1) from .inl ⟨by omega, rfl⟩)
    clear hv hS
    unfold mdV at *
    go_enter Try.func23, Try.ntmps23
    go_wp2
    go_ret
    exact ⟨_, rfl, hP.out, HG0.out⟩
  · obtain ⟨q, rfl⟩ := Int.eq_ofNat_of_zero_le (show 0 ≤ k by omega)
    by_cases h1 : q < N
    · rcases hv with ⟨h, _⟩ | ⟨hN, b, off, cap, hb, hc⟩
      · exact absurd h (by omega)
      injection hb with hb1 _ hb2
      subst hb1 hb2
      have HX := Lib.hid (index_any S w.heap.size (w.heap.size + 1) b off cv N q _ hN (fun j => (hS j).gr HG0.out) h1 f0 f1 (fun j hj => ⟨gr_cell HG0.out (hc j hj).1, gr_cell HG0.out (hc j hj).2⟩))
      have s1 : ¬ (N : Int) ≤ (q : Int) := by omega
      have s2 : ¬ N ≤ q := by omega
      clear hc hS
      unfold mdV at *
      go_enter Try.func23, Try.ntmps23
      go_wp2_with fail
      refine HX.out.mono ?_
      rintro e w1 ⟨r, rfl, hr, hg1⟩
      have HP := Lib.hid (show CanP S N (q : Int) r from .inr ⟨q, rfl, h1, hr⟩)
      have HG1 := Lib.hid (gr_trans HG0.out hg1)
      clear hr hg1
      go_wp2
      go_ret
      exact ⟨_, rfl, HP.out, HG1.out⟩
    · have hP := Lib.hid (show CanP S N (q : Int) (-1) from .inl ⟨by omega, rfl⟩)
      have s1 : (N : Int) ≤ (q : Int) := by omega
      have s2 : N ≤ q := by omega
      clear hv hS
      unfold mdV at *
      go_enter Try.func23, Try.ntmps23
      go_wp2
      go_ret
      exact ⟨_, rfl, hP.out, HG0.out⟩
end Sp
end Go.Proofs.Ythpnhanabcipmaa
