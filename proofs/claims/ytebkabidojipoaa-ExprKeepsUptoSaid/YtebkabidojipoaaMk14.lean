/-
  Texts of this seat, joined: InsR5, InsR6, InsOd, InsOdV, InsOdS, InsAllD. Each says what it proves.
-/
import Derived.Test.YtebkabidojipoaaMk13
/- InsR5 -/
namespace Go.Proofs.Ytebkabidojipoaa
open Go.RowKit
namespace Ins
end Ins
end Go.Proofs.Ytebkabidojipoaa
/- InsR6 -/
namespace Go.Proofs.Ytebkabidojipoaa
open Go.RowKit
namespace Ins
def RX (op f l : Int) (s : ByteArray) : Prop := ∃ k, k < 108 ∧ InRow k op ∧ (∀ j, j < k → ¬ InRow j op) ∧ (rowN k).f = f ∧ (rowN k).l = l ∧ ((bare (rowN k) = true ∧ s = ⟨#[]⟩) ∨ (bare (rowN k) = false ∧ (rowN k).s = s))
def RN (op : Int) : Prop := ∀ k, k < 108 → ¬ InRow k op
def offB (a b : Int) (n : Nat) : Bool := (List.range n).all fun j => decide ((rowN j).hi < a) || decide (b < (rowN j).lo)
theorem off_of {a b : Int} {n : Nat} (h : offB a b n = true) (op : Int) (h0 : a ≤ op) (h1 : op ≤ b) (j : Nat) (hj : j < n) : ¬ InRow j op := by
 have := List.all_eq_true.1 h j (List.mem_range.2 hj)
 simp only [Bool.or_eq_true, decide_eq_true_eq] at this
 unfold InRow
 omega
def leafB (a b : Int) (k : Nat) (f l : Int) (s : ByteArray) : Bool :=
 decide (k < 108) && decide ((rowN k).lo ≤ a) && decide (b ≤ (rowN k).hi) && offB a b k && decide ((rowN k).f = f) && decide ((rowN k).l = l) && (if bare (rowN k) then beqB s ⟨#[]⟩ else beqB (rowN k).s s)
theorem rx_of {a b : Int} {k : Nat} {f l : Int} {s : ByteArray} (h : leafB a b k f l s = true) (op : Int) (h0 : a ≤ op) (h1 : op ≤ b) : RX op f l s := by
 simp only [leafB, Bool.and_eq_true, decide_eq_true_eq] at h
 obtain ⟨⟨⟨⟨⟨⟨hk, hlo⟩, hhi⟩, hoff⟩, hf⟩, hl⟩, hs⟩ := h
 refine ⟨k, hk, ⟨by omega, by omega⟩, off_of hoff op h0 h1, hf, hl, ?_⟩
 split at hs
 ·rename_i hb; exact .inl ⟨hb, beqB_eq hs⟩
 ·rename_i hb; exact .inr ⟨by simpa using hb, beqB_eq hs⟩
theorem rn_neg (op : Int) (h : op ≤ -1) : RN op := fun k hk ⟨h1, _⟩ => by have := (rows_bd ⟨k, hk⟩).1; simp only at this; omega
theorem rn_big {a : Int} (h : offB a 100001 108 = true) (op : Int) (h0 : a ≤ op) : RN op := fun k hk hr => by
 have h2 := (rows_bd ⟨k, hk⟩).2.1
 have h3 := hr.2
 simp only at h2
 exact off_of h op h0 (by omega) k hk hr
theorem rowr_0 (op : Int) (h1 : op ≤ -1) : (RN op ∧ OFN op) ∨ ∃ f l s, RX op f l s ∧ OFY op f l s ∧ Good op f l s := by
 exact Or.inl ⟨rn_neg op h1, fun w => of_sca0 _ _ _ (by omega) (fun w => top_control0 _ _ _ _ (by omega) (fun w => control_0 op (by omega) w) w) w⟩
theorem rowr_1 : (RN 0 ∧ OFN 0) ∨ ∃ f l s, RX 0 f l s ∧ OFY 0 f l s ∧ Good 0 f l s := by
 have hrx : RX 0 1 0 ⟨#[]⟩ := by
  exact rx_of (a := 0) (b := 0) (k := 0) (by decide +kernel) 0 (by omega) (by omega)
 exact Or.inr ⟨1, 0, ⟨#[]⟩, hrx, fun w hm => of_sca _ _ _ _ (by omega) rfl g0.1.1 g0.1.2.1 g0.1.2.2 (fun w => top_control0 _ _ _ _ (by omega) (fun w => control_1 w) w) w hm, g0.1, g0.2, n0, by decide⟩
theorem rowr_2 : (RN 1 ∧ OFN 1) ∨ ∃ f l s, RX 1 f l s ∧ OFY 1 f l s ∧ Good 1 f l s := by
 have hrx : RX 1 1 0 ⟨#[58]⟩ := by
  exact rx_of (a := 1) (b := 1) (k := 1) (by decide +kernel) 1 (by omega) (by omega)
 exact Or.inr ⟨1, 0, ⟨#[58]⟩, hrx, fun w hm => of_sca _ _ _ _ (by omega) rfl g1.1.1 g1.1.2.1 g1.1.2.2 (fun w => top_control0 _ _ _ _ (by omega) (fun w => control_2 w) w) w hm, g1.1, g1.2, n1, by decide⟩
theorem rowr_3 : (RN 2 ∧ OFN 2) ∨ ∃ f l s, RX 2 f l s ∧ OFY 2 f l s ∧ Good 2 f l s := by
 have hrx : RX 2 2 0 ⟨#[]⟩ := by
  exact rx_of (a := 2) (b := 2) (k := 2) (by decide +kernel) 2 (by omega) (by omega)
 exact Or.inr ⟨2, 0, ⟨#[]⟩, hrx, fun w hm => of_sca _ _ _ _ (by omega) rfl g2.1.1 g2.1.2.1 g2.1.2.2 (fun w => top_control0 _ _ _ _ (by omega) (fun w => control_3 w) w) w hm, g2.1, g2.2, n2, by decide⟩
theorem rowr_4 : (RN 3 ∧ OFN 3) ∨ ∃ f l s, RX 3 f l s ∧ OFY 3 f l s ∧ Good 3 f l s := by
 have hrx : RX 3 2 0 ⟨#[]⟩ := by
  exact rx_of (a := 3) (b := 3) (k := 2) (by decide +kernel) 3 (by omega) (by omega)
 exact Or.inr ⟨2, 0, ⟨#[]⟩, hrx, fun w hm => of_sca _ _ _ _ (by omega) rfl g2.1.1 g2.1.2.1 g2.1.2.2 (fun w => top_control0 _ _ _ _ (by omega) (fun w => control_4 w) w) w hm, g2.1, g2.2, n2, by decide⟩
theorem rowr_5 : (RN 4 ∧ OFN 4) ∨ ∃ f l s, RX 4 f l s ∧ OFY 4 f l s ∧ Good 4 f l s := by
 have hrx : RX 4 2 0 ⟨#[]⟩ := by
  exact rx_of (a := 4) (b := 4) (k := 2) (by decide +kernel) 4 (by omega) (by omega)
 exact Or.inr ⟨2, 0, ⟨#[]⟩, hrx, fun w hm => of_sca _ _ _ _ (by omega) rfl g2.1.1 g2.1.2.1 g2.1.2.2 (fun w => top_control0 _ _ _ _ (by omega) (fun w => control_5 w) w) w hm, g2.1, g2.2, n2, by decide⟩
theorem rowr_6 : (RN 5 ∧ OFN 5) ∨ ∃ f l s, RX 5 f l s ∧ OFY 5 f l s ∧ Good 5 f l s := by
 have hrx : RX 5 1 0 ⟨#[]⟩ := by
  exact rx_of (a := 5) (b := 5) (k := 3) (by decide +kernel) 5 (by omega) (by omega)
 exact Or.inr ⟨1, 0, ⟨#[]⟩, hrx, fun w hm => of_sca _ _ _ _ (by omega) rfl g0.1.1 g0.1.2.1 g0.1.2.2 (fun w => top_control0 _ _ _ _ (by omega) (fun w => control_6 w) w) w hm, g0.1, g0.2, n0, by decide⟩
theorem rowr_7 (op : Int) (h0 : 6 ≤ op) (h1 : op ≤ 10) : (RN op ∧ OFN op) ∨ ∃ f l s, RX op f l s ∧ OFY op f l s ∧ Good op f l s := by
 exact Or.inl ⟨off_of (a := 6) (b := 10) (by decide +kernel) op (by omega) (by omega), fun w => of_sca0 _ _ _ (by omega) (fun w => top_control0 _ _ _ _ (by omega) (fun w => control_7 op (by omega) (by omega) w) w) w⟩
theorem rowr_8 : (RN 11 ∧ OFN 11) ∨ ∃ f l s, RX 11 f l s ∧ OFY 11 f l s ∧ Good 11 f l s := by
 have hrx : RX 11 1 0 ⟨#[]⟩ := by
  exact rx_of (a := 11) (b := 11) (k := 4) (by decide +kernel) 11 (by omega) (by omega)
 exact Or.inr ⟨1, 0, ⟨#[]⟩, hrx, fun w hm => of_sca _ _ _ _ (by omega) rfl g0.1.1 g0.1.2.1 g0.1.2.2 (fun w => top_control0 _ _ _ _ (by omega) (fun w => control_8 w) w) w hm, g0.1, g0.2, n0, by decide⟩
theorem rowr_9 : (RN 12 ∧ OFN 12) ∨ ∃ f l s, RX 12 f l s ∧ OFY 12 f l s ∧ Good 12 f l s := by
 have hrx : RX 12 3 0 ⟨#[]⟩ := by
  exact rx_of (a := 12) (b := 12) (k := 5) (by decide +kernel) 12 (by omega) (by omega)
 exact Or.inr ⟨3, 0, ⟨#[]⟩, hrx, fun w hm => of_sca _ _ _ _ (by omega) rfl g3.1.1 g3.1.2.1 g3.1.2.2 (fun w => top_control0 _ _ _ _ (by omega) (fun w => control_9 w) w) w hm, g3.1, g3.2, n3, by decide⟩
theorem rowr_10 : (RN 13 ∧ OFN 13) ∨ ∃ f l s, RX 13 f l s ∧ OFY 13 f l s ∧ Good 13 f l s := by
 have hrx : RX 13 3 0 ⟨#[]⟩ := by
  exact rx_of (a := 13) (b := 13) (k := 5) (by decide +kernel) 13 (by omega) (by omega)
 exact Or.inr ⟨3, 0, ⟨#[]⟩, hrx, fun w hm => of_sca _ _ _ _ (by omega) rfl g3.1.1 g3.1.2.1 g3.1.2.2 (fun w => top_control0 _ _ _ _ (by omega) (fun w => control_10 w) w) w hm, g3.1, g3.2, n3, by decide⟩
theorem rowr_11 : (RN 14 ∧ OFN 14) ∨ ∃ f l s, RX 14 f l s ∧ OFY 14 f l s ∧ Good 14 f l s := by
 have hrx : RX 14 4 0 ⟨#[]⟩ := by
  exact rx_of (a := 14) (b := 14) (k := 6) (by decide +kernel) 14 (by omega) (by omega)
 exact Or.inr ⟨4, 0, ⟨#[]⟩, hrx, fun w hm => of_sca _ _ _ _ (by omega) rfl g4.1.1 g4.1.2.1 g4.1.2.2 (fun w => top_control0 _ _ _ _ (by omega) (fun w => control_11 w) w) w hm, g4.1, g4.2, n4, by decide⟩
theorem rowr_12 : (RN 15 ∧ OFN 15) ∨ ∃ f l s, RX 15 f l s ∧ OFY 15 f l s ∧ Good 15 f l s := by
 have hrx : RX 15 1 0 ⟨#[]⟩ := by
  exact rx_of (a := 15) (b := 15) (k := 7) (by decide +kernel) 15 (by omega) (by omega)
 exact Or.inr ⟨1, 0, ⟨#[]⟩, hrx, fun w hm => of_sca _ _ _ _ (by omega) rfl g0.1.1 g0.1.2.1 g0.1.2.2 (fun w => top_control0 _ _ _ _ (by omega) (fun w => control_12 w) w) w hm, g0.1, g0.2, n0, by decide⟩
theorem rowr_13 : (RN 16 ∧ OFN 16) ∨ ∃ f l s, RX 16 f l s ∧ OFY 16 f l s ∧ Good 16 f l s := by
 have hrx : RX 16 5 0 ⟨#[]⟩ := by
  exact rx_of (a := 16) (b := 16) (k := 8) (by decide +kernel) 16 (by omega) (by omega)
 exact Or.inr ⟨5, 0, ⟨#[]⟩, hrx, fun w hm => of_sca _ _ _ _ (by omega) rfl g5.1.1 g5.1.2.1 g5.1.2.2 (fun w => top_control0 _ _ _ _ (by omega) (fun w => control_13 w) w) w hm, g5.1, g5.2, n5, by decide⟩
theorem rowr_14 : (RN 17 ∧ OFN 17) ∨ ∃ f l s, RX 17 f l s ∧ OFY 17 f l s ∧ Good 17 f l s := by
 have hrx : RX 17 6 0 ⟨#[]⟩ := by
  exact rx_of (a := 17) (b := 17) (k := 9) (by decide +kernel) 17 (by omega) (by omega)
 exact Or.inr ⟨6, 0, ⟨#[]⟩, hrx, fun w hm => of_sca _ _ _ _ (by omega) rfl g6.1.1 g6.1.2.1 g6.1.2.2 (fun w => top_control0 _ _ _ _ (by omega) (fun w => control_14 w) w) w hm, g6.1, g6.2, n6, by decide⟩
theorem rowr_15 (op : Int) (h0 : 18 ≤ op) (h1 : op ≤ 25) : (RN op ∧ OFN op) ∨ ∃ f l s, RX op f l s ∧ OFY op f l s ∧ Good op f l s := by
 exact Or.inl ⟨off_of (a := 18) (b := 25) (by decide +kernel) op (by omega) (by omega), fun w => of_sca0 _ _ _ (by omega) (fun w => top_control0 _ _ _ _ (by omega) (fun w => control_15 op (by omega) (by omega) w) w) w⟩
theorem rowr_16 : (RN 26 ∧ OFN 26) ∨ ∃ f l s, RX 26 f l s ∧ OFY 26 f l s ∧ Good 26 f l s := by
 have hrx : RX 26 1 0 ⟨#[]⟩ := by
  exact rx_of (a := 26) (b := 26) (k := 10) (by decide +kernel) 26 (by omega) (by omega)
 exact Or.inr ⟨1, 0, ⟨#[]⟩, hrx, fun w hm => of_sca _ _ _ _ (by omega) rfl g0.1.1 g0.1.2.1 g0.1.2.2 (fun w => top_control0 _ _ _ _ (by omega) (fun w => control_16 w) w) w hm, g0.1, g0.2, n0, by decide⟩
theorem rowr_17 : (RN 27 ∧ OFN 27) ∨ ∃ f l s, RX 27 f l s ∧ OFY 27 f l s ∧ Good 27 f l s := by
 have hrx : RX 27 1 0 ⟨#[]⟩ := by
  exact rx_of (a := 27) (b := 27) (k := 10) (by decide +kernel) 27 (by omega) (by omega)
 exact Or.inr ⟨1, 0, ⟨#[]⟩, hrx, fun w hm => of_sca _ _ _ _ (by omega) rfl g0.1.1 g0.1.2.1 g0.1.2.2 (fun w => top_control0 _ _ _ _ (by omega) (fun w => control_17 w) w) w hm, g0.1, g0.2, n0, by decide⟩
theorem rowr_18 (op : Int) (h0 : 28 ≤ op) (h1 : op ≤ 31) : (RN op ∧ OFN op) ∨ ∃ f l s, RX op f l s ∧ OFY op f l s ∧ Good op f l s := by
 exact Or.inl ⟨off_of (a := 28) (b := 31) (by decide +kernel) op (by omega) (by omega), fun w => of_sca0 _ _ _ (by omega) (fun w => top_control0 _ _ _ _ (by omega) (fun w => control_18 op (by omega) (by omega) w) w) w⟩
theorem rowr_19 : (RN 32 ∧ OFN 32) ∨ ∃ f l s, RX 32 f l s ∧ OFY 32 f l s ∧ Good 32 f l s := by
 have hrx : RX 32 5 0 ⟨#[]⟩ := by
  exact rx_of (a := 32) (b := 32) (k := 11) (by decide +kernel) 32 (by omega) (by omega)
 exact Or.inr ⟨5, 0, ⟨#[]⟩, hrx, fun w hm => of_sca _ _ _ _ (by omega) rfl g5.1.1 g5.1.2.1 g5.1.2.2 (fun w => top_control0 _ _ _ _ (by omega) (fun w => control_19 w) w) w hm, g5.1, g5.2, n5, by decide⟩
theorem rowr_20 : (RN 33 ∧ OFN 33) ∨ ∃ f l s, RX 33 f l s ∧ OFY 33 f l s ∧ Good 33 f l s := by
 have hrx : RX 33 5 0 ⟨#[]⟩ := by
  exact rx_of (a := 33) (b := 33) (k := 11) (by decide +kernel) 33 (by omega) (by omega)
 exact Or.inr ⟨5, 0, ⟨#[]⟩, hrx, fun w hm => of_sca _ _ _ _ (by omega) rfl g5.1.1 g5.1.2.1 g5.1.2.2 (fun w => top_control0 _ _ _ _ (by omega) (fun w => control_20 w) w) w hm, g5.1, g5.2, n5, by decide⟩
theorem rowr_21 : (RN 34 ∧ OFN 34) ∨ ∃ f l s, RX 34 f l s ∧ OFY 34 f l s ∧ Good 34 f l s := by
 have hrx : RX 34 5 0 ⟨#[]⟩ := by
  exact rx_of (a := 34) (b := 34) (k := 11) (by decide +kernel) 34 (by omega) (by omega)
 exact Or.inr ⟨5, 0, ⟨#[]⟩, hrx, fun w hm => of_sca _ _ _ _ (by omega) rfl g5.1.1 g5.1.2.1 g5.1.2.2 (fun w => top_control0 _ _ _ _ (by omega) (fun w => control_21 w) w) w hm, g5.1, g5.2, n5, by decide⟩
theorem rowr_22 : (RN 35 ∧ OFN 35) ∨ ∃ f l s, RX 35 f l s ∧ OFY 35 f l s ∧ Good 35 f l s := by
 have hrx : RX 35 5 0 ⟨#[]⟩ := by
  exact rx_of (a := 35) (b := 35) (k := 11) (by decide +kernel) 35 (by omega) (by omega)
 exact Or.inr ⟨5, 0, ⟨#[]⟩, hrx, fun w hm => of_sca _ _ _ _ (by omega) rfl g5.1.1 g5.1.2.1 g5.1.2.2 (fun w => top_control0 _ _ _ _ (by omega) (fun w => control_22 w) w) w hm, g5.1, g5.2, n5, by decide⟩
theorem rowr_23 : (RN 36 ∧ OFN 36) ∨ ∃ f l s, RX 36 f l s ∧ OFY 36 f l s ∧ Good 36 f l s := by
 have hrx : RX 36 5 0 ⟨#[]⟩ := by
  exact rx_of (a := 36) (b := 36) (k := 11) (by decide +kernel) 36 (by omega) (by omega)
 exact Or.inr ⟨5, 0, ⟨#[]⟩, hrx, fun w hm => of_sca _ _ _ _ (by omega) rfl g5.1.1 g5.1.2.1 g5.1.2.2 (fun w => top_control0 _ _ _ _ (by omega) (fun w => control_23 w) w) w hm, g5.1, g5.2, n5, by decide⟩
theorem rowr_24 (op : Int) (h0 : 37 ≤ op) (h1 : op ≤ 39) : (RN op ∧ OFN op) ∨ ∃ f l s, RX op f l s ∧ OFY op f l s ∧ Good op f l s := by
 exact Or.inl ⟨off_of (a := 37) (b := 39) (by decide +kernel) op (by omega) (by omega), fun w => of_sca0 _ _ _ (by omega) (fun w => top_control0 _ _ _ _ (by omega) (fun w => control_24 op (by omega) (by omega) w) w) w⟩
theorem rowr_25 : (RN 40 ∧ OFN 40) ∨ ∃ f l s, RX 40 f l s ∧ OFY 40 f l s ∧ Good 40 f l s := by
 have hrx : RX 40 7 2 ⟨#[105, 58, 105]⟩ := by
  exact rx_of (a := 40) (b := 40) (k := 12) (by decide +kernel) 40 (by omega) (by omega)
 exact Or.inr ⟨7, 2, ⟨#[105, 58, 105]⟩, hrx, fun w hm => of_sca _ _ _ _ (by omega) rfl g7.1.1 g7.1.2.1 g7.1.2.2 (fun w => top_access0 _ _ _ _ (by omega) (by omega) (fun w => access_0 w) w) w hm, g7.1, g7.2, n7, by decide⟩
theorem rowr_26 : (RN 41 ∧ OFN 41) ∨ ∃ f l s, RX 41 f l s ∧ OFY 41 f l s ∧ Good 41 f l s := by
 have hrx : RX 41 7 3 ⟨#[105, 58, 108]⟩ := by
  exact rx_of (a := 41) (b := 41) (k := 13) (by decide +kernel) 41 (by omega) (by omega)
 exact Or.inr ⟨7, 3, ⟨#[105, 58, 108]⟩, hrx, fun w hm => of_sca _ _ _ _ (by omega) rfl g8.1.1 g8.1.2.1 g8.1.2.2 (fun w => top_access0 _ _ _ _ (by omega) (by omega) (fun w => access_1 w) w) w hm, g8.1, g8.2, n8, by decide⟩
theorem rowr_27 (op : Int) (h0 : 42 ≤ op) (h1 : op ≤ 43) : (RN op ∧ OFN op) ∨ ∃ f l s, RX op f l s ∧ OFY op f l s ∧ Good op f l s := by
 exact Or.inl ⟨off_of (a := 42) (b := 43) (by decide +kernel) op (by omega) (by omega), fun w => of_sca0 _ _ _ (by omega) (fun w => top_access0 _ _ _ _ (by omega) (by omega) (fun w => access_2 op (by omega) (by omega) w) w) w⟩
theorem rowr_28 : (RN 44 ∧ OFN 44) ∨ ∃ f l s, RX 44 f l s ∧ OFY 44 f l s ∧ Good 44 f l s := by
 have hrx : RX 44 7 0 ⟨#[105, 58, 105]⟩ := by
  exact rx_of (a := 44) (b := 44) (k := 14) (by decide +kernel) 44 (by omega) (by omega)
 exact Or.inr ⟨7, 0, ⟨#[105, 58, 105]⟩, hrx, fun w hm => of_sca _ _ _ _ (by omega) rfl g9.1.1 g9.1.2.1 g9.1.2.2 (fun w => top_access0 _ _ _ _ (by omega) (by omega) (fun w => access_3 w) w) w hm, g9.1, g9.2, n7, by decide⟩
theorem rowr_29 : (RN 45 ∧ OFN 45) ∨ ∃ f l s, RX 45 f l s ∧ OFY 45 f l s ∧ Good 45 f l s := by
 have hrx : RX 45 7 0 ⟨#[105, 58, 105]⟩ := by
  exact rx_of (a := 45) (b := 45) (k := 14) (by decide +kernel) 45 (by omega) (by omega)
 exact Or.inr ⟨7, 0, ⟨#[105, 58, 105]⟩, hrx, fun w hm => of_sca _ _ _ _ (by omega) rfl g9.1.1 g9.1.2.1 g9.1.2.2 (fun w => top_access0 _ _ _ _ (by omega) (by omega) (fun w => access_4 w) w) w hm, g9.1, g9.2, n7, by decide⟩
theorem rowr_30 : (RN 46 ∧ OFN 46) ∨ ∃ f l s, RX 46 f l s ∧ OFY 46 f l s ∧ Good 46 f l s := by
 have hrx : RX 46 7 1 ⟨#[105, 58, 105]⟩ := by
  exact rx_of (a := 46) (b := 46) (k := 15) (by decide +kernel) 46 (by omega) (by omega)
 exact Or.inr ⟨7, 1, ⟨#[105, 58, 105]⟩, hrx, fun w hm => of_sca _ _ _ _ (by omega) rfl g10.1.1 g10.1.2.1 g10.1.2.2 (fun w => top_access0 _ _ _ _ (by omega) (by omega) (fun w => access_5 w) w) w hm, g10.1, g10.2, n7, by decide⟩
theorem rowr_31 : (RN 47 ∧ OFN 47) ∨ ∃ f l s, RX 47 f l s ∧ OFY 47 f l s ∧ Good 47 f l s := by
 have hrx : RX 47 7 1 ⟨#[105, 58, 105]⟩ := by
  exact rx_of (a := 47) (b := 47) (k := 15) (by decide +kernel) 47 (by omega) (by omega)
 exact Or.inr ⟨7, 1, ⟨#[105, 58, 105]⟩, hrx, fun w hm => of_sca _ _ _ _ (by omega) rfl g10.1.1 g10.1.2.1 g10.1.2.2 (fun w => top_access0 _ _ _ _ (by omega) (by omega) (fun w => access_6 w) w) w hm, g10.1, g10.2, n7, by decide⟩
theorem rowr_32 : (RN 48 ∧ OFN 48) ∨ ∃ f l s, RX 48 f l s ∧ OFY 48 f l s ∧ Good 48 f l s := by
 have hrx : RX 48 7 0 ⟨#[105, 58, 108]⟩ := by
  exact rx_of (a := 48) (b := 48) (k := 16) (by decide +kernel) 48 (by omega) (by omega)
 exact Or.inr ⟨7, 0, ⟨#[105, 58, 108]⟩, hrx, fun w hm => of_sca _ _ _ _ (by omega) rfl g11.1.1 g11.1.2.1 g11.1.2.2 (fun w => top_access0 _ _ _ _ (by omega) (by omega) (fun w => access_7 w) w) w hm, g11.1, g11.2, n8, by decide⟩
theorem rowr_33 : (RN 49 ∧ OFN 49) ∨ ∃ f l s, RX 49 f l s ∧ OFY 49 f l s ∧ Good 49 f l s := by
 have hrx : RX 49 7 0 ⟨#[105, 58, 108]⟩ := by
  exact rx_of (a := 49) (b := 49) (k := 16) (by decide +kernel) 49 (by omega) (by omega)
 exact Or.inr ⟨7, 0, ⟨#[105, 58, 108]⟩, hrx, fun w hm => of_sca _ _ _ _ (by omega) rfl g11.1.1 g11.1.2.1 g11.1.2.2 (fun w => top_access0 _ _ _ _ (by omega) (by omega) (fun w => access_8 w) w) w hm, g11.1, g11.2, n8, by decide⟩
theorem rowr_34 : (RN 50 ∧ OFN 50) ∨ ∃ f l s, RX 50 f l s ∧ OFY 50 f l s ∧ Good 50 f l s := by
 have hrx : RX 50 7 1 ⟨#[105, 58, 108]⟩ := by
  exact rx_of (a := 50) (b := 50) (k := 17) (by decide +kernel) 50 (by omega) (by omega)
 exact Or.inr ⟨7, 1, ⟨#[105, 58, 108]⟩, hrx, fun w hm => of_sca _ _ _ _ (by omega) rfl g12.1.1 g12.1.2.1 g12.1.2.2 (fun w => top_access0 _ _ _ _ (by omega) (by omega) (fun w => access_9 w) w) w hm, g12.1, g12.2, n8, by decide⟩
theorem rowr_35 : (RN 51 ∧ OFN 51) ∨ ∃ f l s, RX 51 f l s ∧ OFY 51 f l s ∧ Good 51 f l s := by
 have hrx : RX 51 7 1 ⟨#[105, 58, 108]⟩ := by
  exact rx_of (a := 51) (b := 51) (k := 17) (by decide +kernel) 51 (by omega) (by omega)
 exact Or.inr ⟨7, 1, ⟨#[105, 58, 108]⟩, hrx, fun w hm => of_sca _ _ _ _ (by omega) rfl g12.1.1 g12.1.2.1 g12.1.2.2 (fun w => top_access0 _ _ _ _ (by omega) (by omega) (fun w => access_10 w) w) w hm, g12.1, g12.2, n8, by decide⟩
theorem rowr_36 : (RN 52 ∧ OFN 52) ∨ ∃ f l s, RX 52 f l s ∧ OFY 52 f l s ∧ Good 52 f l s := by
 have hrx : RX 52 7 2 ⟨#[105, 58, 108]⟩ := by
  exact rx_of (a := 52) (b := 52) (k := 18) (by decide +kernel) 52 (by omega) (by omega)
 exact Or.inr ⟨7, 2, ⟨#[105, 58, 108]⟩, hrx, fun w hm => of_sca _ _ _ _ (by omega) rfl g13.1.1 g13.1.2.1 g13.1.2.2 (fun w => top_access0 _ _ _ _ (by omega) (by omega) (fun w => access_11 w) w) w hm, g13.1, g13.2, n8, by decide⟩
theorem rowr_37 : (RN 53 ∧ OFN 53) ∨ ∃ f l s, RX 53 f l s ∧ OFY 53 f l s ∧ Good 53 f l s := by
 have hrx : RX 53 7 2 ⟨#[105, 58, 108]⟩ := by
  exact rx_of (a := 53) (b := 53) (k := 18) (by decide +kernel) 53 (by omega) (by omega)
 exact Or.inr ⟨7, 2, ⟨#[105, 58, 108]⟩, hrx, fun w hm => of_sca _ _ _ _ (by omega) rfl g13.1.1 g13.1.2.1 g13.1.2.2 (fun w => top_access0 _ _ _ _ (by omega) (by omega) (fun w => access_12 w) w) w hm, g13.1, g13.2, n8, by decide⟩
theorem rowr_38 : (RN 54 ∧ OFN 54) ∨ ∃ f l s, RX 54 f l s ∧ OFY 54 f l s ∧ Good 54 f l s := by
 have hrx : RX 54 7 2 ⟨#[105, 105, 58]⟩ := by
  exact rx_of (a := 54) (b := 54) (k := 19) (by decide +kernel) 54 (by omega) (by omega)
 exact Or.inr ⟨7, 2, ⟨#[105, 105, 58]⟩, hrx, fun w hm => of_sca _ _ _ _ (by omega) rfl g14.1.1 g14.1.2.1 g14.1.2.2 (fun w => top_access0 _ _ _ _ (by omega) (by omega) (fun w => access_13 w) w) w hm, g14.1, g14.2, n9, by decide⟩
theorem rowr_39 : (RN 55 ∧ OFN 55) ∨ ∃ f l s, RX 55 f l s ∧ OFY 55 f l s ∧ Good 55 f l s := by
 have hrx : RX 55 7 3 ⟨#[105, 108, 58]⟩ := by
  exact rx_of (a := 55) (b := 55) (k := 20) (by decide +kernel) 55 (by omega) (by omega)
 exact Or.inr ⟨7, 3, ⟨#[105, 108, 58]⟩, hrx, fun w hm => of_sca _ _ _ _ (by omega) rfl g15.1.1 g15.1.2.1 g15.1.2.2 (fun w => top_access0 _ _ _ _ (by omega) (by omega) (fun w => access_14 w) w) w hm, g15.1, g15.2, n10, by decide⟩
theorem rowr_40 (op : Int) (h0 : 56 ≤ op) (h1 : op ≤ 57) : (RN op ∧ OFN op) ∨ ∃ f l s, RX op f l s ∧ OFY op f l s ∧ Good op f l s := by
 exact Or.inl ⟨off_of (a := 56) (b := 57) (by decide +kernel) op (by omega) (by omega), fun w => of_sca0 _ _ _ (by omega) (fun w => top_access0 _ _ _ _ (by omega) (by omega) (fun w => access_15 op (by omega) (by omega) w) w) w⟩
theorem rowr_41 : (RN 58 ∧ OFN 58) ∨ ∃ f l s, RX 58 f l s ∧ OFY 58 f l s ∧ Good 58 f l s := by
 have hrx : RX 58 7 0 ⟨#[105, 105, 58]⟩ := by
  exact rx_of (a := 58) (b := 58) (k := 21) (by decide +kernel) 58 (by omega) (by omega)
 exact Or.inr ⟨7, 0, ⟨#[105, 105, 58]⟩, hrx, fun w hm => of_sca _ _ _ _ (by omega) rfl g16.1.1 g16.1.2.1 g16.1.2.2 (fun w => top_access0 _ _ _ _ (by omega) (by omega) (fun w => access_16 w) w) w hm, g16.1, g16.2, n9, by decide⟩
theorem rowr_42 : (RN 59 ∧ OFN 59) ∨ ∃ f l s, RX 59 f l s ∧ OFY 59 f l s ∧ Good 59 f l s := by
 have hrx : RX 59 7 1 ⟨#[105, 105, 58]⟩ := by
  exact rx_of (a := 59) (b := 59) (k := 22) (by decide +kernel) 59 (by omega) (by omega)
 exact Or.inr ⟨7, 1, ⟨#[105, 105, 58]⟩, hrx, fun w hm => of_sca _ _ _ _ (by omega) rfl g17.1.1 g17.1.2.1 g17.1.2.2 (fun w => top_access0 _ _ _ _ (by omega) (by omega) (fun w => access_17 w) w) w hm, g17.1, g17.2, n9, by decide⟩
theorem rowr_43 : (RN 60 ∧ OFN 60) ∨ ∃ f l s, RX 60 f l s ∧ OFY 60 f l s ∧ Good 60 f l s := by
 have hrx : RX 60 7 0 ⟨#[105, 108, 58]⟩ := by
  exact rx_of (a := 60) (b := 60) (k := 23) (by decide +kernel) 60 (by omega) (by omega)
 exact Or.inr ⟨7, 0, ⟨#[105, 108, 58]⟩, hrx, fun w hm => of_sca _ _ _ _ (by omega) rfl g18.1.1 g18.1.2.1 g18.1.2.2 (fun w => top_access0 _ _ _ _ (by omega) (by omega) (fun w => access_18 w) w) w hm, g18.1, g18.2, n10, by decide⟩
theorem rowr_44 : (RN 61 ∧ OFN 61) ∨ ∃ f l s, RX 61 f l s ∧ OFY 61 f l s ∧ Good 61 f l s := by
 have hrx : RX 61 7 1 ⟨#[105, 108, 58]⟩ := by
  exact rx_of (a := 61) (b := 61) (k := 24) (by decide +kernel) 61 (by omega) (by omega)
 exact Or.inr ⟨7, 1, ⟨#[105, 108, 58]⟩, hrx, fun w hm => of_sca _ _ _ _ (by omega) rfl g19.1.1 g19.1.2.1 g19.1.2.2 (fun w => top_access0 _ _ _ _ (by omega) (by omega) (fun w => access_19 w) w) w hm, g19.1, g19.2, n10, by decide⟩
theorem rowr_45 : (RN 62 ∧ OFN 62) ∨ ∃ f l s, RX 62 f l s ∧ OFY 62 f l s ∧ Good 62 f l s := by
 have hrx : RX 62 7 2 ⟨#[105, 108, 58]⟩ := by
  exact rx_of (a := 62) (b := 62) (k := 25) (by decide +kernel) 62 (by omega) (by omega)
 exact Or.inr ⟨7, 2, ⟨#[105, 108, 58]⟩, hrx, fun w hm => of_sca _ _ _ _ (by omega) rfl g20.1.1 g20.1.2.1 g20.1.2.2 (fun w => top_access0 _ _ _ _ (by omega) (by omega) (fun w => access_20 w) w) w hm, g20.1, g20.2, n10, by decide⟩
theorem rowr_46 : (RN 63 ∧ OFN 63) ∨ ∃ f l s, RX 63 f l s ∧ OFY 63 f l s ∧ Good 63 f l s := by
 have hrx : RX 63 14 0 ⟨#[58, 105]⟩ := by
  exact rx_of (a := 63) (b := 63) (k := 26) (by decide +kernel) 63 (by omega) (by omega)
 exact Or.inr ⟨14, 0, ⟨#[58, 105]⟩, hrx, fun w hm => of_sca _ _ _ _ (by omega) rfl g21.1.1 g21.1.2.1 g21.1.2.2 (fun w => top_63 w) w hm, g21.1, g21.2, n11, by decide⟩
theorem rowr_47 : (RN 64 ∧ OFN 64) ∨ ∃ f l s, RX 64 f l s ∧ OFY 64 f l s ∧ Good 64 f l s := by
 have hrx : RX 64 14 0 ⟨#[105, 58, 105]⟩ := by
  exact rx_of (a := 64) (b := 64) (k := 27) (by decide +kernel) 64 (by omega) (by omega)
 exact Or.inr ⟨14, 0, ⟨#[105, 58, 105]⟩, hrx, fun w hm => of_sca _ _ _ _ (by omega) rfl g22.1.1 g22.1.2.1 g22.1.2.2 (fun w => top_64 w) w hm, g22.1, g22.2, n12, by decide⟩
theorem rowr_48 : (RN 65 ∧ OFN 65) ∨ ∃ f l s, RX 65 f l s ∧ OFY 65 f l s ∧ Good 65 f l s := by
 have hrx : RX 65 9 0 ⟨#[58, 105]⟩ := by
  exact rx_of (a := 65) (b := 65) (k := 28) (by decide +kernel) 65 (by omega) (by omega)
 exact Or.inr ⟨9, 0, ⟨#[58, 105]⟩, hrx, fun w hm => of_sca _ _ _ _ (by omega) rfl g23.1.1 g23.1.2.1 g23.1.2.2 (fun w => top_65 w) w hm, g23.1, g23.2, n13, by decide⟩
theorem rowr_49 : (RN 66 ∧ OFN 66) ∨ ∃ f l s, RX 66 f l s ∧ OFY 66 f l s ∧ Good 66 f l s := by
 have hrx : RX 66 10 0 ⟨#[58, 108]⟩ := by
  exact rx_of (a := 66) (b := 66) (k := 29) (by decide +kernel) 66 (by omega) (by omega)
 exact Or.inr ⟨10, 0, ⟨#[58, 108]⟩, hrx, fun w hm => of_sca _ _ _ _ (by omega) rfl g24.1.1 g24.1.2.1 g24.1.2.2 (fun w => top_66 w) w hm, g24.1, g24.2, n14, by decide⟩
theorem rowr_50 (op : Int) (h0 : 67 ≤ op) (h1 : op ≤ 68) : (RN op ∧ OFN op) ∨ ∃ f l s, RX op f l s ∧ OFY op f l s ∧ Good op f l s := by
 exact Or.inl ⟨off_of (a := 67) (b := 68) (by decide +kernel) op (by omega) (by omega), fun w => of_sca0 _ _ _ (by omega) (fun w => top_control1 _ _ _ _ (by omega) (by omega) (fun w => control_25 op (by omega) (by omega) w) w) w⟩
theorem rowr_51 : (RN 69 ∧ OFN 69) ∨ ∃ f l s, RX 69 f l s ∧ OFY 69 f l s ∧ Good 69 f l s := by
 have hrx : RX 69 1 0 ⟨#[105, 58, 105]⟩ := by
  exact rx_of (a := 69) (b := 69) (k := 30) (by decide +kernel) 69 (by omega) (by omega)
 exact Or.inr ⟨1, 0, ⟨#[105, 58, 105]⟩, hrx, fun w hm => of_sca _ _ _ _ (by omega) rfl g25.1.1 g25.1.2.1 g25.1.2.2 (fun w => top_operator0 _ _ _ _ (by omega) (fun w => operator_0 w) w) w hm, g25.1, g25.2, n15, by decide⟩
theorem rowr_52 (op : Int) (h0 : 70 ≤ op) (h1 : op ≤ 79) : (RN op ∧ OFN op) ∨ ∃ f l s, RX op f l s ∧ OFY op f l s ∧ Good op f l s := by
 have hrx : RX op 1 0 ⟨#[105, 105, 58, 105]⟩ := by
  exact rx_of (a := 70) (b := 79) (k := 31) (by decide +kernel) op (by omega) (by omega)
 have hl : decide (op < 197) = true := decide_eq_true (by omega)
 have ha : arI op = 2 := by unfold arI; rw [if_neg (by omega), if_pos (by omega)]
 exact Or.inr ⟨1, 0, ⟨#[105, 105, 58, 105]⟩, hrx, fun w hm => of_sca _ _ _ _ (by omega) rfl g26.1.1 g26.1.2.1 g26.1.2.2 (fun w => top_operator0 _ _ _ _ (by omega) (fun w => operator_1 op (by omega) (by omega) w) w) w hm, g26.1, g26.2, by rw [hl, ha]; exact n16, by unfold floatB; exact decide_eq_false (by unfold Flt; omega)⟩
theorem rowr_53 : (RN 80 ∧ OFN 80) ∨ ∃ f l s, RX 80 f l s ∧ OFY 80 f l s ∧ Good 80 f l s := by
 have hrx : RX 80 1 0 ⟨#[108, 58, 105]⟩ := by
  exact rx_of (a := 80) (b := 80) (k := 32) (by decide +kernel) 80 (by omega) (by omega)
 exact Or.inr ⟨1, 0, ⟨#[108, 58, 105]⟩, hrx, fun w hm => of_sca _ _ _ _ (by omega) rfl g27.1.1 g27.1.2.1 g27.1.2.2 (fun w => top_operator0 _ _ _ _ (by omega) (fun w => operator_2 w) w) w hm, g27.1, g27.2, n17, by decide⟩
theorem rowr_54 (op : Int) (h0 : 81 ≤ op) (h1 : op ≤ 90) : (RN op ∧ OFN op) ∨ ∃ f l s, RX op f l s ∧ OFY op f l s ∧ Good op f l s := by
 have hrx : RX op 1 0 ⟨#[108, 108, 58, 105]⟩ := by
  exact rx_of (a := 81) (b := 90) (k := 33) (by decide +kernel) op (by omega) (by omega)
 have hl : decide (op < 197) = true := decide_eq_true (by omega)
 have ha : arI op = 2 := by unfold arI; rw [if_neg (by omega), if_pos (by omega)]
 exact Or.inr ⟨1, 0, ⟨#[108, 108, 58, 105]⟩, hrx, fun w hm => of_sca _ _ _ _ (by omega) rfl g28.1.1 g28.1.2.1 g28.1.2.2 (fun w => top_operator0 _ _ _ _ (by omega) (fun w => operator_3 op (by omega) (by omega) w) w) w hm, g28.1, g28.2, by rw [hl, ha]; exact n18, by unfold floatB; exact decide_eq_false (by unfold Flt; omega)⟩
theorem rowr_55 (op : Int) (h0 : 91 ≤ op) (h1 : op ≤ 102) : (RN op ∧ OFN op) ∨ ∃ f l s, RX op f l s ∧ OFY op f l s ∧ Good op f l s := by
 exact Or.inl ⟨off_of (a := 91) (b := 102) (by decide +kernel) op (by omega) (by omega), fun w => of_sca0 _ _ _ (by omega) (fun w => top_operator0 _ _ _ _ (by omega) (fun w => operator_4 op (by omega) (by omega) w) w) w⟩
theorem rowr_56 (op : Int) (h0 : 103 ≤ op) (h1 : op ≤ 105) : (RN op ∧ OFN op) ∨ ∃ f l s, RX op f l s ∧ OFY op f l s ∧ Good op f l s := by
 have hrx : RX op 1 0 ⟨#[105, 58, 105]⟩ := by
  exact rx_of (a := 103) (b := 105) (k := 34) (by decide +kernel) op (by omega) (by omega)
 have hl : decide (op < 197) = true := decide_eq_true (by omega)
 have ha : arI op = 1 := by unfold arI; rw [if_pos (by omega)]
 exact Or.inr ⟨1, 0, ⟨#[105, 58, 105]⟩, hrx, fun w hm => of_sca _ _ _ _ (by omega) rfl g25.1.1 g25.1.2.1 g25.1.2.2 (fun w => top_operator0 _ _ _ _ (by omega) (fun w => operator_5 op (by omega) (by omega) w) w) w hm, g25.1, g25.2, by rw [hl, ha]; exact n15, by unfold floatB; exact decide_eq_false (by unfold Flt; omega)⟩
theorem rowr_57 (op : Int) (h0 : 106 ≤ op) (h1 : op ≤ 120) : (RN op ∧ OFN op) ∨ ∃ f l s, RX op f l s ∧ OFY op f l s ∧ Good op f l s := by
 have hrx : RX op 1 0 ⟨#[105, 105, 58, 105]⟩ := by
  exact rx_of (a := 106) (b := 120) (k := 35) (by decide +kernel) op (by omega) (by omega)
 have hl : decide (op < 197) = true := decide_eq_true (by omega)
 have ha : arI op = 2 := by unfold arI; rw [if_neg (by omega), if_pos (by omega)]
 exact Or.inr ⟨1, 0, ⟨#[105, 105, 58, 105]⟩, hrx, fun w hm => of_sca _ _ _ _ (by omega) rfl g26.1.1 g26.1.2.1 g26.1.2.2 (fun w => top_operator0 _ _ _ _ (by omega) (fun w => operator_6 op (by omega) (by omega) w) w) w hm, g26.1, g26.2, by rw [hl, ha]; exact n16, by unfold floatB; exact decide_eq_false (by unfold Flt; omega)⟩
theorem rowr_58 (op : Int) (h0 : 121 ≤ op) (h1 : op ≤ 123) : (RN op ∧ OFN op) ∨ ∃ f l s, RX op f l s ∧ OFY op f l s ∧ Good op f l s := by
 have hrx : RX op 1 0 ⟨#[108, 58, 108]⟩ := by
  exact rx_of (a := 121) (b := 123) (k := 36) (by decide +kernel) op (by omega) (by omega)
 have hl : decide (op < 197) = true := decide_eq_true (by omega)
 have ha : arI op = 1 := by unfold arI; rw [if_pos (by omega)]
 exact Or.inr ⟨1, 0, ⟨#[108, 58, 108]⟩, hrx, fun w hm => of_sca _ _ _ _ (by omega) rfl g29.1.1 g29.1.2.1 g29.1.2.2 (fun w => top_operator0 _ _ _ _ (by omega) (fun w => operator_7 op (by omega) (by omega) w) w) w hm, g29.1, g29.2, by rw [hl, ha]; exact n19, by unfold floatB; exact decide_eq_false (by unfold Flt; omega)⟩
theorem rowr_59 (op : Int) (h0 : 124 ≤ op) (h1 : op ≤ 138) : (RN op ∧ OFN op) ∨ ∃ f l s, RX op f l s ∧ OFY op f l s ∧ Good op f l s := by
 have hrx : RX op 1 0 ⟨#[108, 108, 58, 108]⟩ := by
  exact rx_of (a := 124) (b := 138) (k := 37) (by decide +kernel) op (by omega) (by omega)
 have hl : decide (op < 197) = true := decide_eq_true (by omega)
 have ha : arI op = 2 := by unfold arI; rw [if_neg (by omega), if_pos (by omega)]
 exact Or.inr ⟨1, 0, ⟨#[108, 108, 58, 108]⟩, hrx, fun w hm => of_sca _ _ _ _ (by omega) rfl g30.1.1 g30.1.2.1 g30.1.2.2 (fun w => top_operator0 _ _ _ _ (by omega) (fun w => operator_8 op (by omega) (by omega) w) w) w hm, g30.1, g30.2, by rw [hl, ha]; exact n20, by unfold floatB; exact decide_eq_false (by unfold Flt; omega)⟩
theorem rowr_60 (op : Int) (h0 : 139 ≤ op) (h1 : op ≤ 166) : (RN op ∧ OFN op) ∨ ∃ f l s, RX op f l s ∧ OFY op f l s ∧ Good op f l s := by
 exact Or.inl ⟨off_of (a := 139) (b := 166) (by decide +kernel) op (by omega) (by omega), fun w => of_sca0 _ _ _ (by omega) (fun w => top_operator0 _ _ _ _ (by omega) (fun w => operator_9 op (by omega) (by omega) w) w) w⟩
theorem rowr_61 : (RN 167 ∧ OFN 167) ∨ ∃ f l s, RX 167 f l s ∧ OFY 167 f l s ∧ Good 167 f l s := by
 have hrx : RX 167 1 0 ⟨#[108, 58, 105]⟩ := by
  exact rx_of (a := 167) (b := 167) (k := 38) (by decide +kernel) 167 (by omega) (by omega)
 exact Or.inr ⟨1, 0, ⟨#[108, 58, 105]⟩, hrx, fun w hm => of_sca _ _ _ _ (by omega) rfl g27.1.1 g27.1.2.1 g27.1.2.2 (fun w => top_operator0 _ _ _ _ (by omega) (fun w => operator_10 w) w) w hm, g27.1, g27.2, n17, by decide⟩
theorem rowr_62 (op : Int) (h0 : 168 ≤ op) (h1 : op ≤ 171) : (RN op ∧ OFN op) ∨ ∃ f l s, RX op f l s ∧ OFY op f l s ∧ Good op f l s := by
 exact Or.inl ⟨off_of (a := 168) (b := 171) (by decide +kernel) op (by omega) (by omega), fun w => of_sca0 _ _ _ (by omega) (fun w => top_operator0 _ _ _ _ (by omega) (fun w => operator_11 op (by omega) (by omega) w) w) w⟩
theorem rowr_63 (op : Int) (h0 : 172 ≤ op) (h1 : op ≤ 173) : (RN op ∧ OFN op) ∨ ∃ f l s, RX op f l s ∧ OFY op f l s ∧ Good op f l s := by
 have hrx : RX op 1 0 ⟨#[105, 58, 108]⟩ := by
  exact rx_of (a := 172) (b := 173) (k := 39) (by decide +kernel) op (by omega) (by omega)
 have hl : decide (op < 197) = true := decide_eq_true (by omega)
 have ha : arI op = 1 := by unfold arI; rw [if_pos (by omega)]
 exact Or.inr ⟨1, 0, ⟨#[105, 58, 108]⟩, hrx, fun w hm => of_sca _ _ _ _ (by omega) rfl g31.1.1 g31.1.2.1 g31.1.2.2 (fun w => top_operator0 _ _ _ _ (by omega) (fun w => operator_12 op (by omega) (by omega) w) w) w hm, g31.1, g31.2, by rw [hl, ha]; exact n21, by unfold floatB; exact decide_eq_false (by unfold Flt; omega)⟩
theorem rowr_64 (op : Int) (h0 : 174 ≤ op) (h1 : op ≤ 191) : (RN op ∧ OFN op) ∨ ∃ f l s, RX op f l s ∧ OFY op f l s ∧ Good op f l s := by
 exact Or.inl ⟨off_of (a := 174) (b := 191) (by decide +kernel) op (by omega) (by omega), fun w => of_sca0 _ _ _ (by omega) (fun w => top_operator0 _ _ _ _ (by omega) (fun w => operator_13 op (by omega) (by omega) w) w) w⟩
theorem rowr_65 (op : Int) (h0 : 192 ≤ op) (h1 : op ≤ 193) : (RN op ∧ OFN op) ∨ ∃ f l s, RX op f l s ∧ OFY op f l s ∧ Good op f l s := by
 have hrx : RX op 1 0 ⟨#[105, 58, 105]⟩ := by
  exact rx_of (a := 192) (b := 193) (k := 40) (by decide +kernel) op (by omega) (by omega)
 have hl : decide (op < 197) = true := decide_eq_true (by omega)
 have ha : arI op = 1 := by unfold arI; rw [if_pos (by omega)]
 exact Or.inr ⟨1, 0, ⟨#[105, 58, 105]⟩, hrx, fun w hm => of_sca _ _ _ _ (by omega) rfl g25.1.1 g25.1.2.1 g25.1.2.2 (fun w => top_operator0 _ _ _ _ (by omega) (fun w => operator_14 op (by omega) (by omega) w) w) w hm, g25.1, g25.2, by rw [hl, ha]; exact n15, by unfold floatB; exact decide_eq_false (by unfold Flt; omega)⟩
theorem rowr_66 (op : Int) (h0 : 194 ≤ op) (h1 : op ≤ 196) : (RN op ∧ OFN op) ∨ ∃ f l s, RX op f l s ∧ OFY op f l s ∧ Good op f l s := by
 have hrx : RX op 1 0 ⟨#[108, 58, 108]⟩ := by
  exact rx_of (a := 194) (b := 196) (k := 41) (by decide +kernel) op (by omega) (by omega)
 have hl : decide (op < 197) = true := decide_eq_true (by omega)
 have ha : arI op = 1 := by unfold arI; rw [if_pos (by omega)]
 exact Or.inr ⟨1, 0, ⟨#[108, 58, 108]⟩, hrx, fun w hm => of_sca _ _ _ _ (by omega) rfl g29.1.1 g29.1.2.1 g29.1.2.2 (fun w => top_operator0 _ _ _ _ (by omega) (fun w => operator_15 op (by omega) (by omega) w) w) w hm, g29.1, g29.2, by rw [hl, ha]; exact n19, by unfold floatB; exact decide_eq_false (by unfold Flt; omega)⟩
theorem rowr_67 (op : Int) (h0 : 197 ≤ op) (h1 : op ≤ 64767) : (RN op ∧ OFN op) ∨ ∃ f l s, RX op f l s ∧ OFY op f l s ∧ Good op f l s := by
 exact Or.inl ⟨off_of (a := 197) (b := 64767) (by decide +kernel) op (by omega) (by omega), fun w => of_sca0 _ _ _ (by omega) (fun w => top_operator0 _ _ _ _ (by omega) (fun w => operator_16 op (by omega) w) w) w⟩
theorem rowr_68 : (RN 64768 ∧ OFN 64768) ∨ ∃ f l s, RX 64768 f l s ∧ OFY 64768 f l s ∧ Good 64768 f l s := by
 have hrx : RX 64768 7 4 ⟨#[105, 58, 118]⟩ := by
  exact rx_of (a := 64768) (b := 64768) (k := 42) (by decide +kernel) 64768 (by omega) (by omega)
 exact Or.inr ⟨7, 4, ⟨#[105, 58, 118]⟩, hrx, fun w hm => of_vec _ 0 _ _ _ (by omega) (by omega) (by omega) rfl g32.1.1 g32.1.2.1 g32.1.2.2 (fun w => top_va0 _ _ _ _ (by omega) (by omega) (fun w => va_0 w) w) w hm, g32.1, g32.2, n22, by decide⟩
theorem rowr_69 (op : Int) (h0 : 64769 ≤ op) (h1 : op ≤ 64774) : (RN op ∧ OFN op) ∨ ∃ f l s, RX op f l s ∧ OFY op f l s ∧ Good op f l s := by
 have hrx : RX op 7 3 ⟨#[105, 58, 118]⟩ := by
  exact rx_of (a := 64769) (b := 64774) (k := 43) (by decide +kernel) op (by omega) (by omega)
 have hl : decide (op < 197) = false := decide_eq_false (by omega)
 have ha : arI op = 0 := by unfold arI; rw [if_neg (by omega), if_neg (by omega)]
 exact Or.inr ⟨7, 3, ⟨#[105, 58, 118]⟩, hrx, fun w hm => of_vec _ (op - 64768) _ _ _ (by omega) (by omega) (by omega) rfl g33.1.1 g33.1.2.1 g33.1.2.2 (fun w => top_va0 _ _ _ _ (by omega) (by omega) (fun w => va_1 (op - 64768) (by omega) (by omega) w) w) w hm, g33.1, g33.2, by rw [hl, ha]; exact n22, by unfold floatB; exact decide_eq_false (by unfold Flt; omega)⟩
theorem rowr_70 : (RN 64775 ∧ OFN 64775) ∨ ∃ f l s, RX 64775 f l s ∧ OFY 64775 f l s ∧ Good 64775 f l s := by
 have hrx : RX 64775 7 0 ⟨#[105, 58, 118]⟩ := by
  exact rx_of (a := 64775) (b := 64775) (k := 44) (by decide +kernel) 64775 (by omega) (by omega)
 exact Or.inr ⟨7, 0, ⟨#[105, 58, 118]⟩, hrx, fun w hm => of_vec _ 7 _ _ _ (by omega) (by omega) (by omega) rfl g34.1.1 g34.1.2.1 g34.1.2.2 (fun w => top_va0 _ _ _ _ (by omega) (by omega) (fun w => va_2 w) w) w hm, g34.1, g34.2, n22, by decide⟩
theorem rowr_71 : (RN 64776 ∧ OFN 64776) ∨ ∃ f l s, RX 64776 f l s ∧ OFY 64776 f l s ∧ Good 64776 f l s := by
 have hrx : RX 64776 7 1 ⟨#[105, 58, 118]⟩ := by
  exact rx_of (a := 64776) (b := 64776) (k := 45) (by decide +kernel) 64776 (by omega) (by omega)
 exact Or.inr ⟨7, 1, ⟨#[105, 58, 118]⟩, hrx, fun w hm => of_vec _ 8 _ _ _ (by omega) (by omega) (by omega) rfl g35.1.1 g35.1.2.1 g35.1.2.2 (fun w => top_va0 _ _ _ _ (by omega) (by omega) (fun w => va_3 w) w) w hm, g35.1, g35.2, n22, by decide⟩
theorem rowr_72 : (RN 64777 ∧ OFN 64777) ∨ ∃ f l s, RX 64777 f l s ∧ OFY 64777 f l s ∧ Good 64777 f l s := by
 have hrx : RX 64777 7 2 ⟨#[105, 58, 118]⟩ := by
  exact rx_of (a := 64777) (b := 64777) (k := 46) (by decide +kernel) 64777 (by omega) (by omega)
 exact Or.inr ⟨7, 2, ⟨#[105, 58, 118]⟩, hrx, fun w hm => of_vec _ 9 _ _ _ (by omega) (by omega) (by omega) rfl g36.1.1 g36.1.2.1 g36.1.2.2 (fun w => top_va0 _ _ _ _ (by omega) (by omega) (fun w => va_4 w) w) w hm, g36.1, g36.2, n22, by decide⟩
theorem rowr_73 : (RN 64778 ∧ OFN 64778) ∨ ∃ f l s, RX 64778 f l s ∧ OFY 64778 f l s ∧ Good 64778 f l s := by
 have hrx : RX 64778 7 3 ⟨#[105, 58, 118]⟩ := by
  exact rx_of (a := 64778) (b := 64778) (k := 47) (by decide +kernel) 64778 (by omega) (by omega)
 exact Or.inr ⟨7, 3, ⟨#[105, 58, 118]⟩, hrx, fun w hm => of_vec _ 10 _ _ _ (by omega) (by omega) (by omega) rfl g33.1.1 g33.1.2.1 g33.1.2.2 (fun w => top_va0 _ _ _ _ (by omega) (by omega) (fun w => va_5 w) w) w hm, g33.1, g33.2, n22, by decide⟩
theorem rowr_74 : (RN 64779 ∧ OFN 64779) ∨ ∃ f l s, RX 64779 f l s ∧ OFY 64779 f l s ∧ Good 64779 f l s := by
 have hrx : RX 64779 7 4 ⟨#[105, 118, 58]⟩ := by
  exact rx_of (a := 64779) (b := 64779) (k := 48) (by decide +kernel) 64779 (by omega) (by omega)
 exact Or.inr ⟨7, 4, ⟨#[105, 118, 58]⟩, hrx, fun w hm => of_vec _ 11 _ _ _ (by omega) (by omega) (by omega) rfl g37.1.1 g37.1.2.1 g37.1.2.2 (fun w => top_va0 _ _ _ _ (by omega) (by omega) (fun w => va_6 w) w) w hm, g37.1, g37.2, n23, by decide⟩
theorem rowr_75 : (RN 64780 ∧ OFN 64780) ∨ ∃ f l s, RX 64780 f l s ∧ OFY 64780 f l s ∧ Good 64780 f l s := by
 have hrx : RX 64780 11 0 ⟨#[58, 118]⟩ := by
  exact rx_of (a := 64780) (b := 64780) (k := 49) (by decide +kernel) 64780 (by omega) (by omega)
 exact Or.inr ⟨11, 0, ⟨#[58, 118]⟩, hrx, fun w hm => of_vec _ 12 _ _ _ (by omega) (by omega) (by omega) rfl g38.1.1 g38.1.2.1 g38.1.2.2 (fun w => top_vm0 _ _ _ _ (by omega) (by omega) (fun w => vm_0 w) w) w hm, g38.1, g38.2, n24, by decide⟩
theorem rowr_76 : (RN 64781 ∧ OFN 64781) ∨ ∃ f l s, RX 64781 f l s ∧ OFY 64781 f l s ∧ Good 64781 f l s := by
 have hrx : RX 64781 12 0 ⟨#[118, 118, 58, 118]⟩ := by
  exact rx_of (a := 64781) (b := 64781) (k := 50) (by decide +kernel) 64781 (by omega) (by omega)
 exact Or.inr ⟨12, 0, ⟨#[118, 118, 58, 118]⟩, hrx, fun w hm => of_vec _ 13 _ _ _ (by omega) (by omega) (by omega) rfl g39.1.1 g39.1.2.1 g39.1.2.2 (fun w => top_vm0 _ _ _ _ (by omega) (by omega) (fun w => vm_1 w) w) w hm, g39.1, g39.2, n25, by decide⟩
theorem rowr_77 : (RN 64782 ∧ OFN 64782) ∨ ∃ f l s, RX 64782 f l s ∧ OFY 64782 f l s ∧ Good 64782 f l s := by
 have hrx : RX 64782 1 0 ⟨#[118, 118, 58, 118]⟩ := by
  exact rx_of (a := 64782) (b := 64782) (k := 51) (by decide +kernel) 64782 (by omega) (by omega)
 exact Or.inr ⟨1, 0, ⟨#[118, 118, 58, 118]⟩, hrx, fun w hm => of_vec _ 14 _ _ _ (by omega) (by omega) (by omega) rfl g40.1.1 g40.1.2.1 g40.1.2.2 (fun w => top_vm0 _ _ _ _ (by omega) (by omega) (fun w => vm_2 w) w) w hm, g40.1, g40.2, n26, by decide⟩
theorem rowr_78 : (RN 64783 ∧ OFN 64783) ∨ ∃ f l s, RX 64783 f l s ∧ OFY 64783 f l s ∧ Good 64783 f l s := by
 have hrx : RX 64783 1 0 ⟨#[105, 58, 118]⟩ := by
  exact rx_of (a := 64783) (b := 64783) (k := 52) (by decide +kernel) 64783 (by omega) (by omega)
 exact Or.inr ⟨1, 0, ⟨#[105, 58, 118]⟩, hrx, fun w hm => of_vec _ 15 _ _ _ (by omega) (by omega) (by omega) rfl g41.1.1 g41.1.2.1 g41.1.2.2 (fun w => top_vm0 _ _ _ _ (by omega) (by omega) (fun w => vm_3 w) w) w hm, g41.1, g41.2, n27, by decide⟩
theorem rowr_79 : (RN 64784 ∧ OFN 64784) ∨ ∃ f l s, RX 64784 f l s ∧ OFY 64784 f l s ∧ Good 64784 f l s := by
 have hrx : RX 64784 1 0 ⟨#[105, 58, 118]⟩ := by
  exact rx_of (a := 64784) (b := 64784) (k := 52) (by decide +kernel) 64784 (by omega) (by omega)
 exact Or.inr ⟨1, 0, ⟨#[105, 58, 118]⟩, hrx, fun w hm => of_vec _ 16 _ _ _ (by omega) (by omega) (by omega) rfl g41.1.1 g41.1.2.1 g41.1.2.2 (fun w => top_vm0 _ _ _ _ (by omega) (by omega) (fun w => vm_4 w) w) w hm, g41.1, g41.2, n27, by decide⟩
theorem rowr_80 : (RN 64785 ∧ OFN 64785) ∨ ∃ f l s, RX 64785 f l s ∧ OFY 64785 f l s ∧ Good 64785 f l s := by
 have hrx : RX 64785 1 0 ⟨#[105, 58, 118]⟩ := by
  exact rx_of (a := 64785) (b := 64785) (k := 52) (by decide +kernel) 64785 (by omega) (by omega)
 exact Or.inr ⟨1, 0, ⟨#[105, 58, 118]⟩, hrx, fun w hm => of_vec _ 17 _ _ _ (by omega) (by omega) (by omega) rfl g41.1.1 g41.1.2.1 g41.1.2.2 (fun w => top_vm0 _ _ _ _ (by omega) (by omega) (fun w => vm_5 w) w) w hm, g41.1, g41.2, n27, by decide⟩
theorem rowr_81 : (RN 64786 ∧ OFN 64786) ∨ ∃ f l s, RX 64786 f l s ∧ OFY 64786 f l s ∧ Good 64786 f l s := by
 have hrx : RX 64786 1 0 ⟨#[108, 58, 118]⟩ := by
  exact rx_of (a := 64786) (b := 64786) (k := 53) (by decide +kernel) 64786 (by omega) (by omega)
 exact Or.inr ⟨1, 0, ⟨#[108, 58, 118]⟩, hrx, fun w hm => of_vec _ 18 _ _ _ (by omega) (by omega) (by omega) rfl g42.1.1 g42.1.2.1 g42.1.2.2 (fun w => top_vm0 _ _ _ _ (by omega) (by omega) (fun w => vm_6 w) w) w hm, g42.1, g42.2, n28, by decide⟩
theorem rowr_82 (op : Int) (h0 : 64787 ≤ op) (h1 : op ≤ 64788) : (RN op ∧ OFN op) ∨ ∃ f l s, RX op f l s ∧ OFY op f l s ∧ Good op f l s := by
 exact Or.inl ⟨off_of (a := 64787) (b := 64788) (by decide +kernel) op (by omega) (by omega), fun w => of_vec0 _ (op - 64768) _ _ (by omega) (by omega) (by omega) (fun w => top_vm0 _ _ _ _ (by omega) (by omega) (fun w => vm_7 (op - 64768) (by omega) (by omega) w) w) w⟩
theorem rowr_83 : (RN 64789 ∧ OFN 64789) ∨ ∃ f l s, RX 64789 f l s ∧ OFY 64789 f l s ∧ Good 64789 f l s := by
 have hrx : RX 64789 13 16 ⟨#[118, 58, 105]⟩ := by
  exact rx_of (a := 64789) (b := 64789) (k := 54) (by decide +kernel) 64789 (by omega) (by omega)
 exact Or.inr ⟨13, 16, ⟨#[118, 58, 105]⟩, hrx, fun w hm => of_vec _ 21 _ _ _ (by omega) (by omega) (by omega) rfl g43.1.1 g43.1.2.1 g43.1.2.2 (fun w => top_vm0 _ _ _ _ (by omega) (by omega) (fun w => vm_8 w) w) w hm, g43.1, g43.2, n29, by decide⟩
theorem rowr_84 : (RN 64790 ∧ OFN 64790) ∨ ∃ f l s, RX 64790 f l s ∧ OFY 64790 f l s ∧ Good 64790 f l s := by
 have hrx : RX 64790 13 16 ⟨#[118, 58, 105]⟩ := by
  exact rx_of (a := 64790) (b := 64790) (k := 54) (by decide +kernel) 64790 (by omega) (by omega)
 exact Or.inr ⟨13, 16, ⟨#[118, 58, 105]⟩, hrx, fun w hm => of_vec _ 22 _ _ _ (by omega) (by omega) (by omega) rfl g43.1.1 g43.1.2.1 g43.1.2.2 (fun w => top_vm0 _ _ _ _ (by omega) (by omega) (fun w => vm_9 w) w) w hm, g43.1, g43.2, n29, by decide⟩
theorem rowr_85 : (RN 64791 ∧ OFN 64791) ∨ ∃ f l s, RX 64791 f l s ∧ OFY 64791 f l s ∧ Good 64791 f l s := by
 have hrx : RX 64791 13 16 ⟨#[118, 105, 58, 118]⟩ := by
  exact rx_of (a := 64791) (b := 64791) (k := 55) (by decide +kernel) 64791 (by omega) (by omega)
 exact Or.inr ⟨13, 16, ⟨#[118, 105, 58, 118]⟩, hrx, fun w hm => of_vec _ 23 _ _ _ (by omega) (by omega) (by omega) rfl g44.1.1 g44.1.2.1 g44.1.2.2 (fun w => top_vm0 _ _ _ _ (by omega) (by omega) (fun w => vm_10 w) w) w hm, g44.1, g44.2, n30, by decide⟩
theorem rowr_86 : (RN 64792 ∧ OFN 64792) ∨ ∃ f l s, RX 64792 f l s ∧ OFY 64792 f l s ∧ Good 64792 f l s := by
 have hrx : RX 64792 13 8 ⟨#[118, 58, 105]⟩ := by
  exact rx_of (a := 64792) (b := 64792) (k := 56) (by decide +kernel) 64792 (by omega) (by omega)
 exact Or.inr ⟨13, 8, ⟨#[118, 58, 105]⟩, hrx, fun w hm => of_vec _ 24 _ _ _ (by omega) (by omega) (by omega) rfl g45.1.1 g45.1.2.1 g45.1.2.2 (fun w => top_vm0 _ _ _ _ (by omega) (by omega) (fun w => vm_11 w) w) w hm, g45.1, g45.2, n29, by decide⟩
theorem rowr_87 : (RN 64793 ∧ OFN 64793) ∨ ∃ f l s, RX 64793 f l s ∧ OFY 64793 f l s ∧ Good 64793 f l s := by
 have hrx : RX 64793 13 8 ⟨#[118, 58, 105]⟩ := by
  exact rx_of (a := 64793) (b := 64793) (k := 56) (by decide +kernel) 64793 (by omega) (by omega)
 exact Or.inr ⟨13, 8, ⟨#[118, 58, 105]⟩, hrx, fun w hm => of_vec _ 25 _ _ _ (by omega) (by omega) (by omega) rfl g45.1.1 g45.1.2.1 g45.1.2.2 (fun w => top_vm0 _ _ _ _ (by omega) (by omega) (fun w => vm_12 w) w) w hm, g45.1, g45.2, n29, by decide⟩
theorem rowr_88 : (RN 64794 ∧ OFN 64794) ∨ ∃ f l s, RX 64794 f l s ∧ OFY 64794 f l s ∧ Good 64794 f l s := by
 have hrx : RX 64794 13 8 ⟨#[118, 105, 58, 118]⟩ := by
  exact rx_of (a := 64794) (b := 64794) (k := 57) (by decide +kernel) 64794 (by omega) (by omega)
 exact Or.inr ⟨13, 8, ⟨#[118, 105, 58, 118]⟩, hrx, fun w hm => of_vec _ 26 _ _ _ (by omega) (by omega) (by omega) rfl g46.1.1 g46.1.2.1 g46.1.2.2 (fun w => top_vm0 _ _ _ _ (by omega) (by omega) (fun w => vm_13 w) w) w hm, g46.1, g46.2, n30, by decide⟩
theorem rowr_89 : (RN 64795 ∧ OFN 64795) ∨ ∃ f l s, RX 64795 f l s ∧ OFY 64795 f l s ∧ Good 64795 f l s := by
 have hrx : RX 64795 13 4 ⟨#[118, 58, 105]⟩ := by
  exact rx_of (a := 64795) (b := 64795) (k := 58) (by decide +kernel) 64795 (by omega) (by omega)
 exact Or.inr ⟨13, 4, ⟨#[118, 58, 105]⟩, hrx, fun w hm => of_vec _ 27 _ _ _ (by omega) (by omega) (by omega) rfl g47.1.1 g47.1.2.1 g47.1.2.2 (fun w => top_vm0 _ _ _ _ (by omega) (by omega) (fun w => vm_14 w) w) w hm, g47.1, g47.2, n29, by decide⟩
theorem rowr_90 : (RN 64796 ∧ OFN 64796) ∨ ∃ f l s, RX 64796 f l s ∧ OFY 64796 f l s ∧ Good 64796 f l s := by
 have hrx : RX 64796 13 4 ⟨#[118, 105, 58, 118]⟩ := by
  exact rx_of (a := 64796) (b := 64796) (k := 59) (by decide +kernel) 64796 (by omega) (by omega)
 exact Or.inr ⟨13, 4, ⟨#[118, 105, 58, 118]⟩, hrx, fun w hm => of_vec _ 28 _ _ _ (by omega) (by omega) (by omega) rfl g48.1.1 g48.1.2.1 g48.1.2.2 (fun w => top_vm0 _ _ _ _ (by omega) (by omega) (fun w => vm_15 w) w) w hm, g48.1, g48.2, n30, by decide⟩
theorem rowr_91 : (RN 64797 ∧ OFN 64797) ∨ ∃ f l s, RX 64797 f l s ∧ OFY 64797 f l s ∧ Good 64797 f l s := by
 have hrx : RX 64797 13 2 ⟨#[118, 58, 108]⟩ := by
  exact rx_of (a := 64797) (b := 64797) (k := 60) (by decide +kernel) 64797 (by omega) (by omega)
 exact Or.inr ⟨13, 2, ⟨#[118, 58, 108]⟩, hrx, fun w hm => of_vec _ 29 _ _ _ (by omega) (by omega) (by omega) rfl g49.1.1 g49.1.2.1 g49.1.2.2 (fun w => top_vm0 _ _ _ _ (by omega) (by omega) (fun w => vm_16 w) w) w hm, g49.1, g49.2, n31, by decide⟩
theorem rowr_92 : (RN 64798 ∧ OFN 64798) ∨ ∃ f l s, RX 64798 f l s ∧ OFY 64798 f l s ∧ Good 64798 f l s := by
 have hrx : RX 64798 13 2 ⟨#[118, 108, 58, 118]⟩ := by
  exact rx_of (a := 64798) (b := 64798) (k := 61) (by decide +kernel) 64798 (by omega) (by omega)
 exact Or.inr ⟨13, 2, ⟨#[118, 108, 58, 118]⟩, hrx, fun w hm => of_vec _ 30 _ _ _ (by omega) (by omega) (by omega) rfl g50.1.1 g50.1.2.1 g50.1.2.2 (fun w => top_vm0 _ _ _ _ (by omega) (by omega) (fun w => vm_17 w) w) w hm, g50.1, g50.2, n32, by decide⟩
theorem rowr_93 (op : Int) (h0 : 64799 ≤ op) (h1 : op ≤ 64802) : (RN op ∧ OFN op) ∨ ∃ f l s, RX op f l s ∧ OFY op f l s ∧ Good op f l s := by
 exact Or.inl ⟨off_of (a := 64799) (b := 64802) (by decide +kernel) op (by omega) (by omega), fun w => of_vec0 _ (op - 64768) _ _ (by omega) (by omega) (by omega) (fun w => top_vm0 _ _ _ _ (by omega) (by omega) (fun w => vm_18 (op - 64768) (by omega) (by omega) w) w) w⟩
theorem rowr_94 (op : Int) (h0 : 64803 ≤ op) (h1 : op ≤ 64832) : (RN op ∧ OFN op) ∨ ∃ f l s, RX op f l s ∧ OFY op f l s ∧ Good op f l s := by
 have hrx : RX op 1 0 ⟨#[118, 118, 58, 118]⟩ := by
  exact rx_of (a := 64803) (b := 64832) (k := 62) (by decide +kernel) op (by omega) (by omega)
 have hl : decide (op < 197) = false := decide_eq_false (by omega)
 have ha : arI op = 0 := by unfold arI; rw [if_neg (by omega), if_neg (by omega)]
 exact Or.inr ⟨1, 0, ⟨#[118, 118, 58, 118]⟩, hrx, fun w hm => of_vec _ (op - 64768) _ _ _ (by omega) (by omega) (by omega) rfl g40.1.1 g40.1.2.1 g40.1.2.2 (fun w => top_vb0 _ _ _ _ (by omega) (by omega) (fun w => vb_0 (op - 64768) (by omega) (by omega) w) w) w hm, g40.1, g40.2, by rw [hl, ha]; exact n26, by unfold floatB; exact decide_eq_false (by unfold Flt; omega)⟩
theorem rowr_95 (op : Int) (h0 : 64833 ≤ op) (h1 : op ≤ 64844) : (RN op ∧ OFN op) ∨ ∃ f l s, RX op f l s ∧ OFY op f l s ∧ Good op f l s := by
 exact Or.inl ⟨off_of (a := 64833) (b := 64844) (by decide +kernel) op (by omega) (by omega), fun w => of_vec0 _ (op - 64768) _ _ (by omega) (by omega) (by omega) (fun w => top_vb0 _ _ _ _ (by omega) (by omega) (fun w => vb_1 (op - 64768) (by omega) (by omega) w) w) w⟩
theorem rowr_96 : (RN 64845 ∧ OFN 64845) ∨ ∃ f l s, RX 64845 f l s ∧ OFY 64845 f l s ∧ Good 64845 f l s := by
 have hrx : RX 64845 1 0 ⟨#[118, 58, 118]⟩ := by
  exact rx_of (a := 64845) (b := 64845) (k := 63) (by decide +kernel) 64845 (by omega) (by omega)
 exact Or.inr ⟨1, 0, ⟨#[118, 58, 118]⟩, hrx, fun w hm => of_vec _ 77 _ _ _ (by omega) (by omega) (by omega) rfl g51.1.1 g51.1.2.1 g51.1.2.2 (fun w => top_vb0 _ _ _ _ (by omega) (by omega) (fun w => vb_2 w) w) w hm, g51.1, g51.2, n33, by decide⟩
theorem rowr_97 (op : Int) (h0 : 64846 ≤ op) (h1 : op ≤ 64849) : (RN op ∧ OFN op) ∨ ∃ f l s, RX op f l s ∧ OFY op f l s ∧ Good op f l s := by
 have hrx : RX op 1 0 ⟨#[118, 118, 58, 118]⟩ := by
  exact rx_of (a := 64846) (b := 64849) (k := 64) (by decide +kernel) op (by omega) (by omega)
 have hl : decide (op < 197) = false := decide_eq_false (by omega)
 have ha : arI op = 0 := by unfold arI; rw [if_neg (by omega), if_neg (by omega)]
 exact Or.inr ⟨1, 0, ⟨#[118, 118, 58, 118]⟩, hrx, fun w hm => of_vec _ (op - 64768) _ _ _ (by omega) (by omega) (by omega) rfl g40.1.1 g40.1.2.1 g40.1.2.2 (fun w => top_vb0 _ _ _ _ (by omega) (by omega) (fun w => vb_3 (op - 64768) (by omega) (by omega) w) w) w hm, g40.1, g40.2, by rw [hl, ha]; exact n26, by unfold floatB; exact decide_eq_false (by unfold Flt; omega)⟩
theorem rowr_98 : (RN 64850 ∧ OFN 64850) ∨ ∃ f l s, RX 64850 f l s ∧ OFY 64850 f l s ∧ Good 64850 f l s := by
 have hrx : RX 64850 1 0 ⟨#[118, 118, 118, 58, 118]⟩ := by
  exact rx_of (a := 64850) (b := 64850) (k := 65) (by decide +kernel) 64850 (by omega) (by omega)
 exact Or.inr ⟨1, 0, ⟨#[118, 118, 118, 58, 118]⟩, hrx, fun w hm => of_vec _ 82 _ _ _ (by omega) (by omega) (by omega) rfl g52.1.1 g52.1.2.1 g52.1.2.2 (fun w => top_vb0 _ _ _ _ (by omega) (by omega) (fun w => vb_4 w) w) w hm, g52.1, g52.2, n34, by decide⟩
theorem rowr_99 : (RN 64851 ∧ OFN 64851) ∨ ∃ f l s, RX 64851 f l s ∧ OFY 64851 f l s ∧ Good 64851 f l s := by
 have hrx : RX 64851 1 0 ⟨#[118, 58, 105]⟩ := by
  exact rx_of (a := 64851) (b := 64851) (k := 66) (by decide +kernel) 64851 (by omega) (by omega)
 exact Or.inr ⟨1, 0, ⟨#[118, 58, 105]⟩, hrx, fun w hm => of_vec _ 83 _ _ _ (by omega) (by omega) (by omega) rfl g53.1.1 g53.1.2.1 g53.1.2.2 (fun w => top_vb0 _ _ _ _ (by omega) (by omega) (fun w => vb_5 w) w) w hm, g53.1, g53.2, n35, by decide⟩
theorem rowr_100 : (RN 64852 ∧ OFN 64852) ∨ ∃ f l s, RX 64852 f l s ∧ OFY 64852 f l s ∧ Good 64852 f l s := by
 have hrx : RX 64852 8 0 ⟨#[105, 118, 58, 118]⟩ := by
  exact rx_of (a := 64852) (b := 64852) (k := 67) (by decide +kernel) 64852 (by omega) (by omega)
 exact Or.inr ⟨8, 0, ⟨#[105, 118, 58, 118]⟩, hrx, fun w hm => of_vec _ 84 _ _ _ (by omega) (by omega) (by omega) rfl g54.1.1 g54.1.2.1 g54.1.2.2 (fun w => top_va1 _ _ _ _ (by omega) (by omega) (fun w => va_7 w) w) w hm, g54.1, g54.2, n36, by decide⟩
theorem rowr_101 : (RN 64853 ∧ OFN 64853) ∨ ∃ f l s, RX 64853 f l s ∧ OFY 64853 f l s ∧ Good 64853 f l s := by
 have hrx : RX 64853 8 1 ⟨#[105, 118, 58, 118]⟩ := by
  exact rx_of (a := 64853) (b := 64853) (k := 68) (by decide +kernel) 64853 (by omega) (by omega)
 exact Or.inr ⟨8, 1, ⟨#[105, 118, 58, 118]⟩, hrx, fun w hm => of_vec _ 85 _ _ _ (by omega) (by omega) (by omega) rfl g55.1.1 g55.1.2.1 g55.1.2.2 (fun w => top_va1 _ _ _ _ (by omega) (by omega) (fun w => va_8 w) w) w hm, g55.1, g55.2, n36, by decide⟩
theorem rowr_102 : (RN 64854 ∧ OFN 64854) ∨ ∃ f l s, RX 64854 f l s ∧ OFY 64854 f l s ∧ Good 64854 f l s := by
 have hrx : RX 64854 8 2 ⟨#[105, 118, 58, 118]⟩ := by
  exact rx_of (a := 64854) (b := 64854) (k := 69) (by decide +kernel) 64854 (by omega) (by omega)
 exact Or.inr ⟨8, 2, ⟨#[105, 118, 58, 118]⟩, hrx, fun w hm => of_vec _ 86 _ _ _ (by omega) (by omega) (by omega) rfl g56.1.1 g56.1.2.1 g56.1.2.2 (fun w => top_va1 _ _ _ _ (by omega) (by omega) (fun w => va_9 w) w) w hm, g56.1, g56.2, n36, by decide⟩
theorem rowr_103 : (RN 64855 ∧ OFN 64855) ∨ ∃ f l s, RX 64855 f l s ∧ OFY 64855 f l s ∧ Good 64855 f l s := by
 have hrx : RX 64855 8 3 ⟨#[105, 118, 58, 118]⟩ := by
  exact rx_of (a := 64855) (b := 64855) (k := 70) (by decide +kernel) 64855 (by omega) (by omega)
 exact Or.inr ⟨8, 3, ⟨#[105, 118, 58, 118]⟩, hrx, fun w hm => of_vec _ 87 _ _ _ (by omega) (by omega) (by omega) rfl g57.1.1 g57.1.2.1 g57.1.2.2 (fun w => top_va1 _ _ _ _ (by omega) (by omega) (fun w => va_10 w) w) w hm, g57.1, g57.2, n36, by decide⟩
theorem rowr_104 : (RN 64856 ∧ OFN 64856) ∨ ∃ f l s, RX 64856 f l s ∧ OFY 64856 f l s ∧ Good 64856 f l s := by
 have hrx : RX 64856 8 0 ⟨#[105, 118, 58]⟩ := by
  exact rx_of (a := 64856) (b := 64856) (k := 71) (by decide +kernel) 64856 (by omega) (by omega)
 exact Or.inr ⟨8, 0, ⟨#[105, 118, 58]⟩, hrx, fun w hm => of_vec _ 88 _ _ _ (by omega) (by omega) (by omega) rfl g58.1.1 g58.1.2.1 g58.1.2.2 (fun w => top_va1 _ _ _ _ (by omega) (by omega) (fun w => va_11 w) w) w hm, g58.1, g58.2, n37, by decide⟩
theorem rowr_105 : (RN 64857 ∧ OFN 64857) ∨ ∃ f l s, RX 64857 f l s ∧ OFY 64857 f l s ∧ Good 64857 f l s := by
 have hrx : RX 64857 8 1 ⟨#[105, 118, 58]⟩ := by
  exact rx_of (a := 64857) (b := 64857) (k := 72) (by decide +kernel) 64857 (by omega) (by omega)
 exact Or.inr ⟨8, 1, ⟨#[105, 118, 58]⟩, hrx, fun w hm => of_vec _ 89 _ _ _ (by omega) (by omega) (by omega) rfl g59.1.1 g59.1.2.1 g59.1.2.2 (fun w => top_va1 _ _ _ _ (by omega) (by omega) (fun w => va_12 w) w) w hm, g59.1, g59.2, n37, by decide⟩
theorem rowr_106 : (RN 64858 ∧ OFN 64858) ∨ ∃ f l s, RX 64858 f l s ∧ OFY 64858 f l s ∧ Good 64858 f l s := by
 have hrx : RX 64858 8 2 ⟨#[105, 118, 58]⟩ := by
  exact rx_of (a := 64858) (b := 64858) (k := 73) (by decide +kernel) 64858 (by omega) (by omega)
 exact Or.inr ⟨8, 2, ⟨#[105, 118, 58]⟩, hrx, fun w hm => of_vec _ 90 _ _ _ (by omega) (by omega) (by omega) rfl g60.1.1 g60.1.2.1 g60.1.2.2 (fun w => top_va1 _ _ _ _ (by omega) (by omega) (fun w => va_13 w) w) w hm, g60.1, g60.2, n37, by decide⟩
theorem rowr_107 : (RN 64859 ∧ OFN 64859) ∨ ∃ f l s, RX 64859 f l s ∧ OFY 64859 f l s ∧ Good 64859 f l s := by
 have hrx : RX 64859 8 3 ⟨#[105, 118, 58]⟩ := by
  exact rx_of (a := 64859) (b := 64859) (k := 74) (by decide +kernel) 64859 (by omega) (by omega)
 exact Or.inr ⟨8, 3, ⟨#[105, 118, 58]⟩, hrx, fun w hm => of_vec _ 91 _ _ _ (by omega) (by omega) (by omega) rfl g61.1.1 g61.1.2.1 g61.1.2.2 (fun w => top_va1 _ _ _ _ (by omega) (by omega) (fun w => va_14 w) w) w hm, g61.1, g61.2, n37, by decide⟩
theorem rowr_108 : (RN 64860 ∧ OFN 64860) ∨ ∃ f l s, RX 64860 f l s ∧ OFY 64860 f l s ∧ Good 64860 f l s := by
 have hrx : RX 64860 7 2 ⟨#[105, 58, 118]⟩ := by
  exact rx_of (a := 64860) (b := 64860) (k := 75) (by decide +kernel) 64860 (by omega) (by omega)
 exact Or.inr ⟨7, 2, ⟨#[105, 58, 118]⟩, hrx, fun w hm => of_vec _ 92 _ _ _ (by omega) (by omega) (by omega) rfl g36.1.1 g36.1.2.1 g36.1.2.2 (fun w => top_va1 _ _ _ _ (by omega) (by omega) (fun w => va_15 w) w) w hm, g36.1, g36.2, n22, by decide⟩
theorem rowr_109 : (RN 64861 ∧ OFN 64861) ∨ ∃ f l s, RX 64861 f l s ∧ OFY 64861 f l s ∧ Good 64861 f l s := by
 have hrx : RX 64861 7 3 ⟨#[105, 58, 118]⟩ := by
  exact rx_of (a := 64861) (b := 64861) (k := 76) (by decide +kernel) 64861 (by omega) (by omega)
 exact Or.inr ⟨7, 3, ⟨#[105, 58, 118]⟩, hrx, fun w hm => of_vec _ 93 _ _ _ (by omega) (by omega) (by omega) rfl g33.1.1 g33.1.2.1 g33.1.2.2 (fun w => top_va1 _ _ _ _ (by omega) (by omega) (fun w => va_16 w) w) w hm, g33.1, g33.2, n22, by decide⟩
theorem rowr_110 (op : Int) (h0 : 64862 ≤ op) (h1 : op ≤ 64863) : (RN op ∧ OFN op) ∨ ∃ f l s, RX op f l s ∧ OFY op f l s ∧ Good op f l s := by
 exact Or.inl ⟨off_of (a := 64862) (b := 64863) (by decide +kernel) op (by omega) (by omega), fun w => of_vec0 _ (op - 64768) _ _ (by omega) (by omega) (by omega) (fun w => top_vn0 _ _ _ _ (by omega) (by omega) (fun w => vn_0 (op - 64768) (by omega) (by omega) w) w) w⟩
theorem rowr_111 (op : Int) (h0 : 64864 ≤ op) (h1 : op ≤ 64866) : (RN op ∧ OFN op) ∨ ∃ f l s, RX op f l s ∧ OFY op f l s ∧ Good op f l s := by
 have hrx : RX op 1 0 ⟨#[118, 58, 118]⟩ := by
  exact rx_of (a := 64864) (b := 64866) (k := 77) (by decide +kernel) op (by omega) (by omega)
 have hl : decide (op < 197) = false := decide_eq_false (by omega)
 have ha : arI op = 0 := by unfold arI; rw [if_neg (by omega), if_neg (by omega)]
 exact Or.inr ⟨1, 0, ⟨#[118, 58, 118]⟩, hrx, fun w hm => of_vec _ (op - 64768) _ _ _ (by omega) (by omega) (by omega) rfl g51.1.1 g51.1.2.1 g51.1.2.2 (fun w => top_vn0 _ _ _ _ (by omega) (by omega) (fun w => vn_1 (op - 64768) (by omega) (by omega) w) w) w hm, g51.1, g51.2, by rw [hl, ha]; exact n33, by unfold floatB; exact decide_eq_false (by unfold Flt; omega)⟩
theorem rowr_112 (op : Int) (h0 : 64867 ≤ op) (h1 : op ≤ 64868) : (RN op ∧ OFN op) ∨ ∃ f l s, RX op f l s ∧ OFY op f l s ∧ Good op f l s := by
 have hrx : RX op 1 0 ⟨#[118, 58, 105]⟩ := by
  exact rx_of (a := 64867) (b := 64868) (k := 78) (by decide +kernel) op (by omega) (by omega)
 have hl : decide (op < 197) = false := decide_eq_false (by omega)
 have ha : arI op = 0 := by unfold arI; rw [if_neg (by omega), if_neg (by omega)]
 exact Or.inr ⟨1, 0, ⟨#[118, 58, 105]⟩, hrx, fun w hm => of_vec _ (op - 64768) _ _ _ (by omega) (by omega) (by omega) rfl g53.1.1 g53.1.2.1 g53.1.2.2 (fun w => top_vn0 _ _ _ _ (by omega) (by omega) (fun w => vn_2 (op - 64768) (by omega) (by omega) w) w) w hm, g53.1, g53.2, by rw [hl, ha]; exact n35, by unfold floatB; exact decide_eq_false (by unfold Flt; omega)⟩
theorem rowr_113 (op : Int) (h0 : 64869 ≤ op) (h1 : op ≤ 64870) : (RN op ∧ OFN op) ∨ ∃ f l s, RX op f l s ∧ OFY op f l s ∧ Good op f l s := by
 have hrx : RX op 1 0 ⟨#[118, 118, 58, 118]⟩ := by
  exact rx_of (a := 64869) (b := 64870) (k := 79) (by decide +kernel) op (by omega) (by omega)
 have hl : decide (op < 197) = false := decide_eq_false (by omega)
 have ha : arI op = 0 := by unfold arI; rw [if_neg (by omega), if_neg (by omega)]
 exact Or.inr ⟨1, 0, ⟨#[118, 118, 58, 118]⟩, hrx, fun w hm => of_vec _ (op - 64768) _ _ _ (by omega) (by omega) (by omega) rfl g40.1.1 g40.1.2.1 g40.1.2.2 (fun w => top_vn0 _ _ _ _ (by omega) (by omega) (fun w => vn_3 (op - 64768) (by omega) (by omega) w) w) w hm, g40.1, g40.2, by rw [hl, ha]; exact n26, by unfold floatB; exact decide_eq_false (by unfold Flt; omega)⟩
theorem rowr_114 (op : Int) (h0 : 64871 ≤ op) (h1 : op ≤ 64874) : (RN op ∧ OFN op) ∨ ∃ f l s, RX op f l s ∧ OFY op f l s ∧ Good op f l s := by
 exact Or.inl ⟨off_of (a := 64871) (b := 64874) (by decide +kernel) op (by omega) (by omega), fun w => of_vec0 _ (op - 64768) _ _ (by omega) (by omega) (by omega) (fun w => top_vn0 _ _ _ _ (by omega) (by omega) (fun w => vn_4 (op - 64768) (by omega) (by omega) w) w) w⟩
theorem rowr_115 (op : Int) (h0 : 64875 ≤ op) (h1 : op ≤ 64877) : (RN op ∧ OFN op) ∨ ∃ f l s, RX op f l s ∧ OFY op f l s ∧ Good op f l s := by
 have hrx : RX op 1 0 ⟨#[118, 105, 58, 118]⟩ := by
  exact rx_of (a := 64875) (b := 64877) (k := 80) (by decide +kernel) op (by omega) (by omega)
 have hl : decide (op < 197) = false := decide_eq_false (by omega)
 have ha : arI op = 0 := by unfold arI; rw [if_neg (by omega), if_neg (by omega)]
 exact Or.inr ⟨1, 0, ⟨#[118, 105, 58, 118]⟩, hrx, fun w hm => of_vec _ (op - 64768) _ _ _ (by omega) (by omega) (by omega) rfl g62.1.1 g62.1.2.1 g62.1.2.2 (fun w => top_vn0 _ _ _ _ (by omega) (by omega) (fun w => vn_5 (op - 64768) (by omega) (by omega) w) w) w hm, g62.1, g62.2, by rw [hl, ha]; exact n38, by unfold floatB; exact decide_eq_false (by unfold Flt; omega)⟩
theorem rowr_116 (op : Int) (h0 : 64878 ≤ op) (h1 : op ≤ 64883) : (RN op ∧ OFN op) ∨ ∃ f l s, RX op f l s ∧ OFY op f l s ∧ Good op f l s := by
 have hrx : RX op 1 0 ⟨#[118, 118, 58, 118]⟩ := by
  exact rx_of (a := 64878) (b := 64883) (k := 81) (by decide +kernel) op (by omega) (by omega)
 have hl : decide (op < 197) = false := decide_eq_false (by omega)
 have ha : arI op = 0 := by unfold arI; rw [if_neg (by omega), if_neg (by omega)]
 exact Or.inr ⟨1, 0, ⟨#[118, 118, 58, 118]⟩, hrx, fun w hm => of_vec _ (op - 64768) _ _ _ (by omega) (by omega) (by omega) rfl g40.1.1 g40.1.2.1 g40.1.2.2 (fun w => top_vn0 _ _ _ _ (by omega) (by omega) (fun w => vn_6 (op - 64768) (by omega) (by omega) w) w) w hm, g40.1, g40.2, by rw [hl, ha]; exact n26, by unfold floatB; exact decide_eq_false (by unfold Flt; omega)⟩
theorem rowr_117 (op : Int) (h0 : 64884 ≤ op) (h1 : op ≤ 64885) : (RN op ∧ OFN op) ∨ ∃ f l s, RX op f l s ∧ OFY op f l s ∧ Good op f l s := by
 exact Or.inl ⟨off_of (a := 64884) (b := 64885) (by decide +kernel) op (by omega) (by omega), fun w => of_vec0 _ (op - 64768) _ _ (by omega) (by omega) (by omega) (fun w => top_vn0 _ _ _ _ (by omega) (by omega) (fun w => vn_7 (op - 64768) (by omega) (by omega) w) w) w⟩
theorem rowr_118 (op : Int) (h0 : 64886 ≤ op) (h1 : op ≤ 64889) : (RN op ∧ OFN op) ∨ ∃ f l s, RX op f l s ∧ OFY op f l s ∧ Good op f l s := by
 have hrx : RX op 1 0 ⟨#[118, 118, 58, 118]⟩ := by
  exact rx_of (a := 64886) (b := 64889) (k := 82) (by decide +kernel) op (by omega) (by omega)
 have hl : decide (op < 197) = false := decide_eq_false (by omega)
 have ha : arI op = 0 := by unfold arI; rw [if_neg (by omega), if_neg (by omega)]
 exact Or.inr ⟨1, 0, ⟨#[118, 118, 58, 118]⟩, hrx, fun w hm => of_vec _ (op - 64768) _ _ _ (by omega) (by omega) (by omega) rfl g40.1.1 g40.1.2.1 g40.1.2.2 (fun w => top_vn0 _ _ _ _ (by omega) (by omega) (fun w => vn_8 (op - 64768) (by omega) (by omega) w) w) w hm, g40.1, g40.2, by rw [hl, ha]; exact n26, by unfold floatB; exact decide_eq_false (by unfold Flt; omega)⟩
theorem rowr_119 : (RN 64890 ∧ OFN 64890) ∨ ∃ f l s, RX 64890 f l s ∧ OFY 64890 f l s ∧ Good 64890 f l s := by
 exact Or.inl ⟨off_of (a := 64890) (b := 64890) (by decide +kernel) 64890 (by omega) (by omega), fun w => of_vec0 _ 122 _ _ (by omega) (by omega) (by omega) (fun w => top_vn0 _ _ _ _ (by omega) (by omega) (fun w => vn_9 w) w) w⟩
theorem rowr_120 : (RN 64891 ∧ OFN 64891) ∨ ∃ f l s, RX 64891 f l s ∧ OFY 64891 f l s ∧ Good 64891 f l s := by
 have hrx : RX 64891 1 0 ⟨#[118, 118, 58, 118]⟩ := by
  exact rx_of (a := 64891) (b := 64891) (k := 83) (by decide +kernel) 64891 (by omega) (by omega)
 exact Or.inr ⟨1, 0, ⟨#[118, 118, 58, 118]⟩, hrx, fun w hm => of_vec _ 123 _ _ _ (by omega) (by omega) (by omega) rfl g40.1.1 g40.1.2.1 g40.1.2.2 (fun w => top_vn0 _ _ _ _ (by omega) (by omega) (fun w => vn_10 w) w) w hm, g40.1, g40.2, n26, by decide⟩
theorem rowr_121 (op : Int) (h0 : 64892 ≤ op) (h1 : op ≤ 64897) : (RN op ∧ OFN op) ∨ ∃ f l s, RX op f l s ∧ OFY op f l s ∧ Good op f l s := by
 have hrx : RX op 1 0 ⟨#[118, 58, 118]⟩ := by
  exact rx_of (a := 64892) (b := 64897) (k := 84) (by decide +kernel) op (by omega) (by omega)
 have hl : decide (op < 197) = false := decide_eq_false (by omega)
 have ha : arI op = 0 := by unfold arI; rw [if_neg (by omega), if_neg (by omega)]
 exact Or.inr ⟨1, 0, ⟨#[118, 58, 118]⟩, hrx, fun w hm => of_vec _ (op - 64768) _ _ _ (by omega) (by omega) (by omega) rfl g51.1.1 g51.1.2.1 g51.1.2.2 (fun w => top_vn0 _ _ _ _ (by omega) (by omega) (fun w => vn_11 (op - 64768) (by omega) (by omega) w) w) w hm, g51.1, g51.2, by rw [hl, ha]; exact n33, by unfold floatB; exact decide_eq_false (by unfold Flt; omega)⟩
theorem rowr_122 : (RN 64898 ∧ OFN 64898) ∨ ∃ f l s, RX 64898 f l s ∧ OFY 64898 f l s ∧ Good 64898 f l s := by
 have hrx : RX 64898 1 0 ⟨#[118, 118, 58, 118]⟩ := by
  exact rx_of (a := 64898) (b := 64898) (k := 85) (by decide +kernel) 64898 (by omega) (by omega)
 exact Or.inr ⟨1, 0, ⟨#[118, 118, 58, 118]⟩, hrx, fun w hm => of_vec _ 130 _ _ _ (by omega) (by omega) (by omega) rfl g40.1.1 g40.1.2.1 g40.1.2.2 (fun w => top_vn0 _ _ _ _ (by omega) (by omega) (fun w => vn_12 w) w) w hm, g40.1, g40.2, n26, by decide⟩
theorem rowr_123 (op : Int) (h0 : 64899 ≤ op) (h1 : op ≤ 64900) : (RN op ∧ OFN op) ∨ ∃ f l s, RX op f l s ∧ OFY op f l s ∧ Good op f l s := by
 have hrx : RX op 1 0 ⟨#[118, 58, 105]⟩ := by
  exact rx_of (a := 64899) (b := 64900) (k := 86) (by decide +kernel) op (by omega) (by omega)
 have hl : decide (op < 197) = false := decide_eq_false (by omega)
 have ha : arI op = 0 := by unfold arI; rw [if_neg (by omega), if_neg (by omega)]
 exact Or.inr ⟨1, 0, ⟨#[118, 58, 105]⟩, hrx, fun w hm => of_vec _ (op - 64768) _ _ _ (by omega) (by omega) (by omega) rfl g53.1.1 g53.1.2.1 g53.1.2.2 (fun w => top_vn0 _ _ _ _ (by omega) (by omega) (fun w => vn_13 (op - 64768) (by omega) (by omega) w) w) w hm, g53.1, g53.2, by rw [hl, ha]; exact n35, by unfold floatB; exact decide_eq_false (by unfold Flt; omega)⟩
theorem rowr_124 (op : Int) (h0 : 64901 ≤ op) (h1 : op ≤ 64902) : (RN op ∧ OFN op) ∨ ∃ f l s, RX op f l s ∧ OFY op f l s ∧ Good op f l s := by
 have hrx : RX op 1 0 ⟨#[118, 118, 58, 118]⟩ := by
  exact rx_of (a := 64901) (b := 64902) (k := 87) (by decide +kernel) op (by omega) (by omega)
 have hl : decide (op < 197) = false := decide_eq_false (by omega)
 have ha : arI op = 0 := by unfold arI; rw [if_neg (by omega), if_neg (by omega)]
 exact Or.inr ⟨1, 0, ⟨#[118, 118, 58, 118]⟩, hrx, fun w hm => of_vec _ (op - 64768) _ _ _ (by omega) (by omega) (by omega) rfl g40.1.1 g40.1.2.1 g40.1.2.2 (fun w => top_vn0 _ _ _ _ (by omega) (by omega) (fun w => vn_14 (op - 64768) (by omega) (by omega) w) w) w hm, g40.1, g40.2, by rw [hl, ha]; exact n26, by unfold floatB; exact decide_eq_false (by unfold Flt; omega)⟩
theorem rowr_125 (op : Int) (h0 : 64903 ≤ op) (h1 : op ≤ 64906) : (RN op ∧ OFN op) ∨ ∃ f l s, RX op f l s ∧ OFY op f l s ∧ Good op f l s := by
 have hrx : RX op 1 0 ⟨#[118, 58, 118]⟩ := by
  exact rx_of (a := 64903) (b := 64906) (k := 88) (by decide +kernel) op (by omega) (by omega)
 have hl : decide (op < 197) = false := decide_eq_false (by omega)
 have ha : arI op = 0 := by unfold arI; rw [if_neg (by omega), if_neg (by omega)]
 exact Or.inr ⟨1, 0, ⟨#[118, 58, 118]⟩, hrx, fun w hm => of_vec _ (op - 64768) _ _ _ (by omega) (by omega) (by omega) rfl g51.1.1 g51.1.2.1 g51.1.2.2 (fun w => top_vn0 _ _ _ _ (by omega) (by omega) (fun w => vn_15 (op - 64768) (by omega) (by omega) w) w) w hm, g51.1, g51.2, by rw [hl, ha]; exact n33, by unfold floatB; exact decide_eq_false (by unfold Flt; omega)⟩
theorem rowr_126 (op : Int) (h0 : 64907 ≤ op) (h1 : op ≤ 64909) : (RN op ∧ OFN op) ∨ ∃ f l s, RX op f l s ∧ OFY op f l s ∧ Good op f l s := by
 have hrx : RX op 1 0 ⟨#[118, 105, 58, 118]⟩ := by
  exact rx_of (a := 64907) (b := 64909) (k := 89) (by decide +kernel) op (by omega) (by omega)
 have hl : decide (op < 197) = false := decide_eq_false (by omega)
 have ha : arI op = 0 := by unfold arI; rw [if_neg (by omega), if_neg (by omega)]
 exact Or.inr ⟨1, 0, ⟨#[118, 105, 58, 118]⟩, hrx, fun w hm => of_vec _ (op - 64768) _ _ _ (by omega) (by omega) (by omega) rfl g62.1.1 g62.1.2.1 g62.1.2.2 (fun w => top_vn0 _ _ _ _ (by omega) (by omega) (fun w => vn_16 (op - 64768) (by omega) (by omega) w) w) w hm, g62.1, g62.2, by rw [hl, ha]; exact n38, by unfold floatB; exact decide_eq_false (by unfold Flt; omega)⟩
theorem rowr_127 (op : Int) (h0 : 64910 ≤ op) (h1 : op ≤ 64915) : (RN op ∧ OFN op) ∨ ∃ f l s, RX op f l s ∧ OFY op f l s ∧ Good op f l s := by
 have hrx : RX op 1 0 ⟨#[118, 118, 58, 118]⟩ := by
  exact rx_of (a := 64910) (b := 64915) (k := 90) (by decide +kernel) op (by omega) (by omega)
 have hl : decide (op < 197) = false := decide_eq_false (by omega)
 have ha : arI op = 0 := by unfold arI; rw [if_neg (by omega), if_neg (by omega)]
 exact Or.inr ⟨1, 0, ⟨#[118, 118, 58, 118]⟩, hrx, fun w hm => of_vec _ (op - 64768) _ _ _ (by omega) (by omega) (by omega) rfl g40.1.1 g40.1.2.1 g40.1.2.2 (fun w => top_vn0 _ _ _ _ (by omega) (by omega) (fun w => vn_17 (op - 64768) (by omega) (by omega) w) w) w hm, g40.1, g40.2, by rw [hl, ha]; exact n26, by unfold floatB; exact decide_eq_false (by unfold Flt; omega)⟩
theorem rowr_128 : (RN 64916 ∧ OFN 64916) ∨ ∃ f l s, RX 64916 f l s ∧ OFY 64916 f l s ∧ Good 64916 f l s := by
 exact Or.inl ⟨off_of (a := 64916) (b := 64916) (by decide +kernel) 64916 (by omega) (by omega), fun w => of_vec0 _ 148 _ _ (by omega) (by omega) (by omega) (fun w => top_vn0 _ _ _ _ (by omega) (by omega) (fun w => vn_18 w) w) w⟩
theorem rowr_129 (op : Int) (h0 : 64917 ≤ op) (h1 : op ≤ 64921) : (RN op ∧ OFN op) ∨ ∃ f l s, RX op f l s ∧ OFY op f l s ∧ Good op f l s := by
 have hrx : RX op 1 0 ⟨#[118, 118, 58, 118]⟩ := by
  exact rx_of (a := 64917) (b := 64921) (k := 91) (by decide +kernel) op (by omega) (by omega)
 have hl : decide (op < 197) = false := decide_eq_false (by omega)
 have ha : arI op = 0 := by unfold arI; rw [if_neg (by omega), if_neg (by omega)]
 exact Or.inr ⟨1, 0, ⟨#[118, 118, 58, 118]⟩, hrx, fun w hm => of_vec _ (op - 64768) _ _ _ (by omega) (by omega) (by omega) rfl g40.1.1 g40.1.2.1 g40.1.2.2 (fun w => top_vn0 _ _ _ _ (by omega) (by omega) (fun w => vn_19 (op - 64768) (by omega) (by omega) w) w) w hm, g40.1, g40.2, by rw [hl, ha]; exact n26, by unfold floatB; exact decide_eq_false (by unfold Flt; omega)⟩
theorem rowr_130 : (RN 64922 ∧ OFN 64922) ∨ ∃ f l s, RX 64922 f l s ∧ OFY 64922 f l s ∧ Good 64922 f l s := by
 exact Or.inl ⟨off_of (a := 64922) (b := 64922) (by decide +kernel) 64922 (by omega) (by omega), fun w => of_vec0 _ 154 _ _ (by omega) (by omega) (by omega) (fun w => top_vn0 _ _ _ _ (by omega) (by omega) (fun w => vn_20 w) w) w⟩
theorem rowr_131 (op : Int) (h0 : 64923 ≤ op) (h1 : op ≤ 64927) : (RN op ∧ OFN op) ∨ ∃ f l s, RX op f l s ∧ OFY op f l s ∧ Good op f l s := by
 have hrx : RX op 1 0 ⟨#[118, 118, 58, 118]⟩ := by
  exact rx_of (a := 64923) (b := 64927) (k := 92) (by decide +kernel) op (by omega) (by omega)
 have hl : decide (op < 197) = false := decide_eq_false (by omega)
 have ha : arI op = 0 := by unfold arI; rw [if_neg (by omega), if_neg (by omega)]
 exact Or.inr ⟨1, 0, ⟨#[118, 118, 58, 118]⟩, hrx, fun w hm => of_vec _ (op - 64768) _ _ _ (by omega) (by omega) (by omega) rfl g40.1.1 g40.1.2.1 g40.1.2.2 (fun w => top_vn0 _ _ _ _ (by omega) (by omega) (fun w => vn_21 (op - 64768) (by omega) (by omega) w) w) w hm, g40.1, g40.2, by rw [hl, ha]; exact n26, by unfold floatB; exact decide_eq_false (by unfold Flt; omega)⟩
theorem rowr_132 (op : Int) (h0 : 64928 ≤ op) (h1 : op ≤ 64929) : (RN op ∧ OFN op) ∨ ∃ f l s, RX op f l s ∧ OFY op f l s ∧ Good op f l s := by
 have hrx : RX op 1 0 ⟨#[118, 58, 118]⟩ := by
  exact rx_of (a := 64928) (b := 64929) (k := 93) (by decide +kernel) op (by omega) (by omega)
 have hl : decide (op < 197) = false := decide_eq_false (by omega)
 have ha : arI op = 0 := by unfold arI; rw [if_neg (by omega), if_neg (by omega)]
 exact Or.inr ⟨1, 0, ⟨#[118, 58, 118]⟩, hrx, fun w hm => of_vec _ (op - 64768) _ _ _ (by omega) (by omega) (by omega) rfl g51.1.1 g51.1.2.1 g51.1.2.2 (fun w => top_vw0 _ _ _ _ (by omega) (fun w => vw_0 (op - 64768) (by omega) (by omega) w) w) w hm, g51.1, g51.2, by rw [hl, ha]; exact n33, by unfold floatB; exact decide_eq_false (by unfold Flt; omega)⟩
theorem rowr_133 : (RN 64930 ∧ OFN 64930) ∨ ∃ f l s, RX 64930 f l s ∧ OFY 64930 f l s ∧ Good 64930 f l s := by
 exact Or.inl ⟨off_of (a := 64930) (b := 64930) (by decide +kernel) 64930 (by omega) (by omega), fun w => of_vec0 _ 162 _ _ (by omega) (by omega) (by omega) (fun w => top_vw0 _ _ _ _ (by omega) (fun w => vw_1 w) w) w⟩
theorem rowr_134 (op : Int) (h0 : 64931 ≤ op) (h1 : op ≤ 64932) : (RN op ∧ OFN op) ∨ ∃ f l s, RX op f l s ∧ OFY op f l s ∧ Good op f l s := by
 have hrx : RX op 1 0 ⟨#[118, 58, 105]⟩ := by
  exact rx_of (a := 64931) (b := 64932) (k := 94) (by decide +kernel) op (by omega) (by omega)
 have hl : decide (op < 197) = false := decide_eq_false (by omega)
 have ha : arI op = 0 := by unfold arI; rw [if_neg (by omega), if_neg (by omega)]
 exact Or.inr ⟨1, 0, ⟨#[118, 58, 105]⟩, hrx, fun w hm => of_vec _ (op - 64768) _ _ _ (by omega) (by omega) (by omega) rfl g53.1.1 g53.1.2.1 g53.1.2.2 (fun w => top_vw0 _ _ _ _ (by omega) (fun w => vw_2 (op - 64768) (by omega) (by omega) w) w) w hm, g53.1, g53.2, by rw [hl, ha]; exact n35, by unfold floatB; exact decide_eq_false (by unfold Flt; omega)⟩
theorem rowr_135 (op : Int) (h0 : 64933 ≤ op) (h1 : op ≤ 64934) : (RN op ∧ OFN op) ∨ ∃ f l s, RX op f l s ∧ OFY op f l s ∧ Good op f l s := by
 exact Or.inl ⟨off_of (a := 64933) (b := 64934) (by decide +kernel) op (by omega) (by omega), fun w => of_vec0 _ (op - 64768) _ _ (by omega) (by omega) (by omega) (fun w => top_vw0 _ _ _ _ (by omega) (fun w => vw_3 (op - 64768) (by omega) (by omega) w) w) w⟩
theorem rowr_136 (op : Int) (h0 : 64935 ≤ op) (h1 : op ≤ 64938) : (RN op ∧ OFN op) ∨ ∃ f l s, RX op f l s ∧ OFY op f l s ∧ Good op f l s := by
 have hrx : RX op 1 0 ⟨#[118, 58, 118]⟩ := by
  exact rx_of (a := 64935) (b := 64938) (k := 95) (by decide +kernel) op (by omega) (by omega)
 have hl : decide (op < 197) = false := decide_eq_false (by omega)
 have ha : arI op = 0 := by unfold arI; rw [if_neg (by omega), if_neg (by omega)]
 exact Or.inr ⟨1, 0, ⟨#[118, 58, 118]⟩, hrx, fun w hm => of_vec _ (op - 64768) _ _ _ (by omega) (by omega) (by omega) rfl g51.1.1 g51.1.2.1 g51.1.2.2 (fun w => top_vw0 _ _ _ _ (by omega) (fun w => vw_4 (op - 64768) (by omega) (by omega) w) w) w hm, g51.1, g51.2, by rw [hl, ha]; exact n33, by unfold floatB; exact decide_eq_false (by unfold Flt; omega)⟩
theorem rowr_137 (op : Int) (h0 : 64939 ≤ op) (h1 : op ≤ 64941) : (RN op ∧ OFN op) ∨ ∃ f l s, RX op f l s ∧ OFY op f l s ∧ Good op f l s := by
 have hrx : RX op 1 0 ⟨#[118, 105, 58, 118]⟩ := by
  exact rx_of (a := 64939) (b := 64941) (k := 96) (by decide +kernel) op (by omega) (by omega)
 have hl : decide (op < 197) = false := decide_eq_false (by omega)
 have ha : arI op = 0 := by unfold arI; rw [if_neg (by omega), if_neg (by omega)]
 exact Or.inr ⟨1, 0, ⟨#[118, 105, 58, 118]⟩, hrx, fun w hm => of_vec _ (op - 64768) _ _ _ (by omega) (by omega) (by omega) rfl g62.1.1 g62.1.2.1 g62.1.2.2 (fun w => top_vw0 _ _ _ _ (by omega) (fun w => vw_5 (op - 64768) (by omega) (by omega) w) w) w hm, g62.1, g62.2, by rw [hl, ha]; exact n38, by unfold floatB; exact decide_eq_false (by unfold Flt; omega)⟩
theorem rowr_138 : (RN 64942 ∧ OFN 64942) ∨ ∃ f l s, RX 64942 f l s ∧ OFY 64942 f l s ∧ Good 64942 f l s := by
 have hrx : RX 64942 1 0 ⟨#[118, 118, 58, 118]⟩ := by
  exact rx_of (a := 64942) (b := 64942) (k := 97) (by decide +kernel) 64942 (by omega) (by omega)
 exact Or.inr ⟨1, 0, ⟨#[118, 118, 58, 118]⟩, hrx, fun w hm => of_vec _ 174 _ _ _ (by omega) (by omega) (by omega) rfl g40.1.1 g40.1.2.1 g40.1.2.2 (fun w => top_vw0 _ _ _ _ (by omega) (fun w => vw_6 w) w) w hm, g40.1, g40.2, n26, by decide⟩
theorem rowr_139 (op : Int) (h0 : 64943 ≤ op) (h1 : op ≤ 64944) : (RN op ∧ OFN op) ∨ ∃ f l s, RX op f l s ∧ OFY op f l s ∧ Good op f l s := by
 exact Or.inl ⟨off_of (a := 64943) (b := 64944) (by decide +kernel) op (by omega) (by omega), fun w => of_vec0 _ (op - 64768) _ _ (by omega) (by omega) (by omega) (fun w => top_vw0 _ _ _ _ (by omega) (fun w => vw_7 (op - 64768) (by omega) (by omega) w) w) w⟩
theorem rowr_140 : (RN 64945 ∧ OFN 64945) ∨ ∃ f l s, RX 64945 f l s ∧ OFY 64945 f l s ∧ Good 64945 f l s := by
 have hrx : RX 64945 1 0 ⟨#[118, 118, 58, 118]⟩ := by
  exact rx_of (a := 64945) (b := 64945) (k := 98) (by decide +kernel) 64945 (by omega) (by omega)
 exact Or.inr ⟨1, 0, ⟨#[118, 118, 58, 118]⟩, hrx, fun w hm => of_vec _ 177 _ _ _ (by omega) (by omega) (by omega) rfl g40.1.1 g40.1.2.1 g40.1.2.2 (fun w => top_vw0 _ _ _ _ (by omega) (fun w => vw_8 w) w) w hm, g40.1, g40.2, n26, by decide⟩
theorem rowr_141 (op : Int) (h0 : 64946 ≤ op) (h1 : op ≤ 64948) : (RN op ∧ OFN op) ∨ ∃ f l s, RX op f l s ∧ OFY op f l s ∧ Good op f l s := by
 exact Or.inl ⟨off_of (a := 64946) (b := 64948) (by decide +kernel) op (by omega) (by omega), fun w => of_vec0 _ (op - 64768) _ _ (by omega) (by omega) (by omega) (fun w => top_vw0 _ _ _ _ (by omega) (fun w => vw_9 (op - 64768) (by omega) (by omega) w) w) w⟩
theorem rowr_142 (op : Int) (h0 : 64949 ≤ op) (h1 : op ≤ 64954) : (RN op ∧ OFN op) ∨ ∃ f l s, RX op f l s ∧ OFY op f l s ∧ Good op f l s := by
 have hrx : RX op 1 0 ⟨#[118, 118, 58, 118]⟩ := by
  exact rx_of (a := 64949) (b := 64954) (k := 99) (by decide +kernel) op (by omega) (by omega)
 have hl : decide (op < 197) = false := decide_eq_false (by omega)
 have ha : arI op = 0 := by unfold arI; rw [if_neg (by omega), if_neg (by omega)]
 exact Or.inr ⟨1, 0, ⟨#[118, 118, 58, 118]⟩, hrx, fun w hm => of_vec _ (op - 64768) _ _ _ (by omega) (by omega) (by omega) rfl g40.1.1 g40.1.2.1 g40.1.2.2 (fun w => top_vw0 _ _ _ _ (by omega) (fun w => vw_10 (op - 64768) (by omega) (by omega) w) w) w hm, g40.1, g40.2, by rw [hl, ha]; exact n26, by unfold floatB; exact decide_eq_false (by unfold Flt; omega)⟩
theorem rowr_143 : (RN 64955 ∧ OFN 64955) ∨ ∃ f l s, RX 64955 f l s ∧ OFY 64955 f l s ∧ Good 64955 f l s := by
 exact Or.inl ⟨off_of (a := 64955) (b := 64955) (by decide +kernel) 64955 (by omega) (by omega), fun w => of_vec0 _ 187 _ _ (by omega) (by omega) (by omega) (fun w => top_vw0 _ _ _ _ (by omega) (fun w => vw_11 w) w) w⟩
theorem rowr_144 (op : Int) (h0 : 64956 ≤ op) (h1 : op ≤ 64959) : (RN op ∧ OFN op) ∨ ∃ f l s, RX op f l s ∧ OFY op f l s ∧ Good op f l s := by
 have hrx : RX op 1 0 ⟨#[118, 118, 58, 118]⟩ := by
  exact rx_of (a := 64956) (b := 64959) (k := 100) (by decide +kernel) op (by omega) (by omega)
 have hl : decide (op < 197) = false := decide_eq_false (by omega)
 have ha : arI op = 0 := by unfold arI; rw [if_neg (by omega), if_neg (by omega)]
 exact Or.inr ⟨1, 0, ⟨#[118, 118, 58, 118]⟩, hrx, fun w hm => of_vec _ (op - 64768) _ _ _ (by omega) (by omega) (by omega) rfl g40.1.1 g40.1.2.1 g40.1.2.2 (fun w => top_vw0 _ _ _ _ (by omega) (fun w => vw_12 (op - 64768) (by omega) (by omega) w) w) w hm, g40.1, g40.2, by rw [hl, ha]; exact n26, by unfold floatB; exact decide_eq_false (by unfold Flt; omega)⟩
theorem rowr_145 (op : Int) (h0 : 64960 ≤ op) (h1 : op ≤ 64961) : (RN op ∧ OFN op) ∨ ∃ f l s, RX op f l s ∧ OFY op f l s ∧ Good op f l s := by
 have hrx : RX op 1 0 ⟨#[118, 58, 118]⟩ := by
  exact rx_of (a := 64960) (b := 64961) (k := 101) (by decide +kernel) op (by omega) (by omega)
 have hl : decide (op < 197) = false := decide_eq_false (by omega)
 have ha : arI op = 0 := by unfold arI; rw [if_neg (by omega), if_neg (by omega)]
 exact Or.inr ⟨1, 0, ⟨#[118, 58, 118]⟩, hrx, fun w hm => of_vec _ (op - 64768) _ _ _ (by omega) (by omega) (by omega) rfl g51.1.1 g51.1.2.1 g51.1.2.2 (fun w => top_vw0 _ _ _ _ (by omega) (fun w => vw_13 (op - 64768) (by omega) (by omega) w) w) w hm, g51.1, g51.2, by rw [hl, ha]; exact n33, by unfold floatB; exact decide_eq_false (by unfold Flt; omega)⟩
theorem rowr_146 : (RN 64962 ∧ OFN 64962) ∨ ∃ f l s, RX 64962 f l s ∧ OFY 64962 f l s ∧ Good 64962 f l s := by
 exact Or.inl ⟨off_of (a := 64962) (b := 64962) (by decide +kernel) 64962 (by omega) (by omega), fun w => of_vec0 _ 194 _ _ (by omega) (by omega) (by omega) (fun w => top_vw0 _ _ _ _ (by omega) (fun w => vw_14 w) w) w⟩
theorem rowr_147 (op : Int) (h0 : 64963 ≤ op) (h1 : op ≤ 64964) : (RN op ∧ OFN op) ∨ ∃ f l s, RX op f l s ∧ OFY op f l s ∧ Good op f l s := by
 have hrx : RX op 1 0 ⟨#[118, 58, 105]⟩ := by
  exact rx_of (a := 64963) (b := 64964) (k := 102) (by decide +kernel) op (by omega) (by omega)
 have hl : decide (op < 197) = false := decide_eq_false (by omega)
 have ha : arI op = 0 := by unfold arI; rw [if_neg (by omega), if_neg (by omega)]
 exact Or.inr ⟨1, 0, ⟨#[118, 58, 105]⟩, hrx, fun w hm => of_vec _ (op - 64768) _ _ _ (by omega) (by omega) (by omega) rfl g53.1.1 g53.1.2.1 g53.1.2.2 (fun w => top_vw0 _ _ _ _ (by omega) (fun w => vw_15 (op - 64768) (by omega) (by omega) w) w) w hm, g53.1, g53.2, by rw [hl, ha]; exact n35, by unfold floatB; exact decide_eq_false (by unfold Flt; omega)⟩
theorem rowr_148 (op : Int) (h0 : 64965 ≤ op) (h1 : op ≤ 64966) : (RN op ∧ OFN op) ∨ ∃ f l s, RX op f l s ∧ OFY op f l s ∧ Good op f l s := by
 exact Or.inl ⟨off_of (a := 64965) (b := 64966) (by decide +kernel) op (by omega) (by omega), fun w => of_vec0 _ (op - 64768) _ _ (by omega) (by omega) (by omega) (fun w => top_vw0 _ _ _ _ (by omega) (fun w => vw_16 (op - 64768) (by omega) (by omega) w) w) w⟩
theorem rowr_149 (op : Int) (h0 : 64967 ≤ op) (h1 : op ≤ 64970) : (RN op ∧ OFN op) ∨ ∃ f l s, RX op f l s ∧ OFY op f l s ∧ Good op f l s := by
 have hrx : RX op 1 0 ⟨#[118, 58, 118]⟩ := by
  exact rx_of (a := 64967) (b := 64970) (k := 103) (by decide +kernel) op (by omega) (by omega)
 have hl : decide (op < 197) = false := decide_eq_false (by omega)
 have ha : arI op = 0 := by unfold arI; rw [if_neg (by omega), if_neg (by omega)]
 exact Or.inr ⟨1, 0, ⟨#[118, 58, 118]⟩, hrx, fun w hm => of_vec _ (op - 64768) _ _ _ (by omega) (by omega) (by omega) rfl g51.1.1 g51.1.2.1 g51.1.2.2 (fun w => top_vw0 _ _ _ _ (by omega) (fun w => vw_17 (op - 64768) (by omega) (by omega) w) w) w hm, g51.1, g51.2, by rw [hl, ha]; exact n33, by unfold floatB; exact decide_eq_false (by unfold Flt; omega)⟩
theorem rowr_150 (op : Int) (h0 : 64971 ≤ op) (h1 : op ≤ 64973) : (RN op ∧ OFN op) ∨ ∃ f l s, RX op f l s ∧ OFY op f l s ∧ Good op f l s := by
 have hrx : RX op 1 0 ⟨#[118, 105, 58, 118]⟩ := by
  exact rx_of (a := 64971) (b := 64973) (k := 104) (by decide +kernel) op (by omega) (by omega)
 have hl : decide (op < 197) = false := decide_eq_false (by omega)
 have ha : arI op = 0 := by unfold arI; rw [if_neg (by omega), if_neg (by omega)]
 exact Or.inr ⟨1, 0, ⟨#[118, 105, 58, 118]⟩, hrx, fun w hm => of_vec _ (op - 64768) _ _ _ (by omega) (by omega) (by omega) rfl g62.1.1 g62.1.2.1 g62.1.2.2 (fun w => top_vw0 _ _ _ _ (by omega) (fun w => vw_18 (op - 64768) (by omega) (by omega) w) w) w hm, g62.1, g62.2, by rw [hl, ha]; exact n38, by unfold floatB; exact decide_eq_false (by unfold Flt; omega)⟩
theorem rowr_151 : (RN 64974 ∧ OFN 64974) ∨ ∃ f l s, RX 64974 f l s ∧ OFY 64974 f l s ∧ Good 64974 f l s := by
 have hrx : RX 64974 1 0 ⟨#[118, 118, 58, 118]⟩ := by
  exact rx_of (a := 64974) (b := 64974) (k := 105) (by decide +kernel) 64974 (by omega) (by omega)
 exact Or.inr ⟨1, 0, ⟨#[118, 118, 58, 118]⟩, hrx, fun w hm => of_vec _ 206 _ _ _ (by omega) (by omega) (by omega) rfl g40.1.1 g40.1.2.1 g40.1.2.2 (fun w => top_vw0 _ _ _ _ (by omega) (fun w => vw_19 w) w) w hm, g40.1, g40.2, n26, by decide⟩
theorem rowr_152 (op : Int) (h0 : 64975 ≤ op) (h1 : op ≤ 64976) : (RN op ∧ OFN op) ∨ ∃ f l s, RX op f l s ∧ OFY op f l s ∧ Good op f l s := by
 exact Or.inl ⟨off_of (a := 64975) (b := 64976) (by decide +kernel) op (by omega) (by omega), fun w => of_vec0 _ (op - 64768) _ _ (by omega) (by omega) (by omega) (fun w => top_vw0 _ _ _ _ (by omega) (fun w => vw_20 (op - 64768) (by omega) (by omega) w) w) w⟩
theorem rowr_153 : (RN 64977 ∧ OFN 64977) ∨ ∃ f l s, RX 64977 f l s ∧ OFY 64977 f l s ∧ Good 64977 f l s := by
 have hrx : RX 64977 1 0 ⟨#[118, 118, 58, 118]⟩ := by
  exact rx_of (a := 64977) (b := 64977) (k := 106) (by decide +kernel) 64977 (by omega) (by omega)
 exact Or.inr ⟨1, 0, ⟨#[118, 118, 58, 118]⟩, hrx, fun w hm => of_vec _ 209 _ _ _ (by omega) (by omega) (by omega) rfl g40.1.1 g40.1.2.1 g40.1.2.2 (fun w => top_vw0 _ _ _ _ (by omega) (fun w => vw_21 w) w) w hm, g40.1, g40.2, n26, by decide⟩
theorem rowr_154 (op : Int) (h0 : 64978 ≤ op) (h1 : op ≤ 64980) : (RN op ∧ OFN op) ∨ ∃ f l s, RX op f l s ∧ OFY op f l s ∧ Good op f l s := by
 exact Or.inl ⟨off_of (a := 64978) (b := 64980) (by decide +kernel) op (by omega) (by omega), fun w => of_vec0 _ (op - 64768) _ _ (by omega) (by omega) (by omega) (fun w => top_vw0 _ _ _ _ (by omega) (fun w => vw_22 (op - 64768) (by omega) (by omega) w) w) w⟩
theorem rowr_155 (op : Int) (h0 : 64981 ≤ op) (h1 : op ≤ 64991) : (RN op ∧ OFN op) ∨ ∃ f l s, RX op f l s ∧ OFY op f l s ∧ Good op f l s := by
 have hrx : RX op 1 0 ⟨#[118, 118, 58, 118]⟩ := by
  exact rx_of (a := 64981) (b := 64991) (k := 107) (by decide +kernel) op (by omega) (by omega)
 have hl : decide (op < 197) = false := decide_eq_false (by omega)
 have ha : arI op = 0 := by unfold arI; rw [if_neg (by omega), if_neg (by omega)]
 exact Or.inr ⟨1, 0, ⟨#[118, 118, 58, 118]⟩, hrx, fun w hm => of_vec _ (op - 64768) _ _ _ (by omega) (by omega) (by omega) rfl g40.1.1 g40.1.2.1 g40.1.2.2 (fun w => top_vw0 _ _ _ _ (by omega) (fun w => vw_23 (op - 64768) (by omega) (by omega) w) w) w hm, g40.1, g40.2, by rw [hl, ha]; exact n26, by unfold floatB; exact decide_eq_false (by unfold Flt; omega)⟩
theorem rowr_156 (op : Int) (h0 : 64992 ≤ op) (h1 : op ≤ 9223372036854775807) : (RN op ∧ OFN op) ∨ ∃ f l s, RX op f l s ∧ OFY op f l s ∧ Good op f l s := by
 exact Or.inl ⟨rn_big (a := 64992) (by decide +kernel) op h0, fun w => of_vec0 _ (op - 64768) _ _ (by omega) (by omega) (by omega) (fun w => top_vw0 _ _ _ _ (by omega) (fun w => vw_24 (op - 64768) (by omega) w) w) w⟩
set_option maxHeartbeats 2000000 in
theorem ofr_any (op : Int) (hop : op ≤ 9223372036854775807) : (RN op ∧ OFN op) ∨ ∃ f l s, RX op f l s ∧ OFY op f l s ∧ Good op f l s := by
 by_cases h0_157 : op < 64783
 ·by_cases h0_78 : op < 55
  ·by_cases h0_39 : op < 32
   ·by_cases h0_19 : op < 12
    ·by_cases h0_9 : op < 3
     ·by_cases h0_4 : op < 1
      ·by_cases h0_2 : op < 0
       ·exact rowr_0 op (by omega)
       ·obtain rfl : op = 0 := by omega
        exact rowr_1
      ·by_cases h2_4 : op < 2
       ·obtain rfl : op = 1 := by omega
        exact rowr_2
       ·obtain rfl : op = 2 := by omega
        exact rowr_3
     ·by_cases h4_9 : op < 5
      ·by_cases h4_6 : op < 4
       ·obtain rfl : op = 3 := by omega
        exact rowr_4
       ·obtain rfl : op = 4 := by omega
        exact rowr_5
      ·by_cases h6_9 : op < 6
       ·obtain rfl : op = 5 := by omega
        exact rowr_6
       ·by_cases h7_9 : op < 11
        ·exact rowr_7 op (by omega) (by omega)
        ·obtain rfl : op = 11 := by omega
         exact rowr_8
    ·by_cases h9_19 : op < 17
     ·by_cases h9_14 : op < 14
      ·by_cases h9_11 : op < 13
       ·obtain rfl : op = 12 := by omega
        exact rowr_9
       ·obtain rfl : op = 13 := by omega
        exact rowr_10
      ·by_cases h11_14 : op < 15
       ·obtain rfl : op = 14 := by omega
        exact rowr_11
       ·by_cases h12_14 : op < 16
        ·obtain rfl : op = 15 := by omega
         exact rowr_12
        ·obtain rfl : op = 16 := by omega
         exact rowr_13
     ·by_cases h14_19 : op < 26
      ·by_cases h14_16 : op < 18
       ·obtain rfl : op = 17 := by omega
        exact rowr_14
       ·exact rowr_15 op (by omega) (by omega)
      ·by_cases h16_19 : op < 27
       ·obtain rfl : op = 26 := by omega
        exact rowr_16
       ·by_cases h17_19 : op < 28
        ·obtain rfl : op = 27 := by omega
         exact rowr_17
        ·exact rowr_18 op (by omega) (by omega)
   ·by_cases h19_39 : op < 45
    ·by_cases h19_29 : op < 37
     ·by_cases h19_24 : op < 34
      ·by_cases h19_21 : op < 33
       ·obtain rfl : op = 32 := by omega
        exact rowr_19
       ·obtain rfl : op = 33 := by omega
        exact rowr_20
      ·by_cases h21_24 : op < 35
       ·obtain rfl : op = 34 := by omega
        exact rowr_21
       ·by_cases h22_24 : op < 36
        ·obtain rfl : op = 35 := by omega
         exact rowr_22
        ·obtain rfl : op = 36 := by omega
         exact rowr_23
     ·by_cases h24_29 : op < 41
      ·by_cases h24_26 : op < 40
       ·exact rowr_24 op (by omega) (by omega)
       ·obtain rfl : op = 40 := by omega
        exact rowr_25
      ·by_cases h26_29 : op < 42
       ·obtain rfl : op = 41 := by omega
        exact rowr_26
       ·by_cases h27_29 : op < 44
        ·exact rowr_27 op (by omega) (by omega)
        ·obtain rfl : op = 44 := by omega
         exact rowr_28
    ·by_cases h29_39 : op < 50
     ·by_cases h29_34 : op < 47
      ·by_cases h29_31 : op < 46
       ·obtain rfl : op = 45 := by omega
        exact rowr_29
       ·obtain rfl : op = 46 := by omega
        exact rowr_30
      ·by_cases h31_34 : op < 48
       ·obtain rfl : op = 47 := by omega
        exact rowr_31
       ·by_cases h32_34 : op < 49
        ·obtain rfl : op = 48 := by omega
         exact rowr_32
        ·obtain rfl : op = 49 := by omega
         exact rowr_33
     ·by_cases h34_39 : op < 52
      ·by_cases h34_36 : op < 51
       ·obtain rfl : op = 50 := by omega
        exact rowr_34
       ·obtain rfl : op = 51 := by omega
        exact rowr_35
      ·by_cases h36_39 : op < 53
       ·obtain rfl : op = 52 := by omega
        exact rowr_36
       ·by_cases h37_39 : op < 54
        ·obtain rfl : op = 53 := by omega
         exact rowr_37
        ·obtain rfl : op = 54 := by omega
         exact rowr_38
  ·by_cases h39_78 : op < 121
   ·by_cases h39_58 : op < 65
    ·by_cases h39_48 : op < 60
     ·by_cases h39_43 : op < 58
      ·by_cases h39_41 : op < 56
       ·obtain rfl : op = 55 := by omega
        exact rowr_39
       ·exact rowr_40 op (by omega) (by omega)
      ·by_cases h41_43 : op < 59
       ·obtain rfl : op = 58 := by omega
        exact rowr_41
       ·obtain rfl : op = 59 := by omega
        exact rowr_42
     ·by_cases h43_48 : op < 62
      ·by_cases h43_45 : op < 61
       ·obtain rfl : op = 60 := by omega
        exact rowr_43
       ·obtain rfl : op = 61 := by omega
        exact rowr_44
      ·by_cases h45_48 : op < 63
       ·obtain rfl : op = 62 := by omega
        exact rowr_45
       ·by_cases h46_48 : op < 64
        ·obtain rfl : op = 63 := by omega
         exact rowr_46
        ·obtain rfl : op = 64 := by omega
         exact rowr_47
    ·by_cases h48_58 : op < 80
     ·by_cases h48_53 : op < 67
      ·by_cases h48_50 : op < 66
       ·obtain rfl : op = 65 := by omega
        exact rowr_48
       ·obtain rfl : op = 66 := by omega
        exact rowr_49
      ·by_cases h50_53 : op < 69
       ·exact rowr_50 op (by omega) (by omega)
       ·by_cases h51_53 : op < 70
        ·obtain rfl : op = 69 := by omega
         exact rowr_51
        ·exact rowr_52 op (by omega) (by omega)
     ·by_cases h53_58 : op < 91
      ·by_cases h53_55 : op < 81
       ·obtain rfl : op = 80 := by omega
        exact rowr_53
       ·exact rowr_54 op (by omega) (by omega)
      ·by_cases h55_58 : op < 103
       ·exact rowr_55 op (by omega) (by omega)
       ·by_cases h56_58 : op < 106
        ·exact rowr_56 op (by omega) (by omega)
        ·exact rowr_57 op (by omega) (by omega)
   ·by_cases h58_78 : op < 64768
    ·by_cases h58_68 : op < 172
     ·by_cases h58_63 : op < 139
      ·by_cases h58_60 : op < 124
       ·exact rowr_58 op (by omega) (by omega)
       ·exact rowr_59 op (by omega) (by omega)
      ·by_cases h60_63 : op < 167
       ·exact rowr_60 op (by omega) (by omega)
       ·by_cases h61_63 : op < 168
        ·obtain rfl : op = 167 := by omega
         exact rowr_61
        ·exact rowr_62 op (by omega) (by omega)
     ·by_cases h63_68 : op < 192
      ·by_cases h63_65 : op < 174
       ·exact rowr_63 op (by omega) (by omega)
       ·exact rowr_64 op (by omega) (by omega)
      ·by_cases h65_68 : op < 194
       ·exact rowr_65 op (by omega) (by omega)
       ·by_cases h66_68 : op < 197
        ·exact rowr_66 op (by omega) (by omega)
        ·exact rowr_67 op (by omega) (by omega)
    ·by_cases h68_78 : op < 64778
     ·by_cases h68_73 : op < 64775
      ·by_cases h68_70 : op < 64769
       ·obtain rfl : op = 64768 := by omega
        exact rowr_68
       ·exact rowr_69 op (by omega) (by omega)
      ·by_cases h70_73 : op < 64776
       ·obtain rfl : op = 64775 := by omega
        exact rowr_70
       ·by_cases h71_73 : op < 64777
        ·obtain rfl : op = 64776 := by omega
         exact rowr_71
        ·obtain rfl : op = 64777 := by omega
         exact rowr_72
     ·by_cases h73_78 : op < 64780
      ·by_cases h73_75 : op < 64779
       ·obtain rfl : op = 64778 := by omega
        exact rowr_73
       ·obtain rfl : op = 64779 := by omega
        exact rowr_74
      ·by_cases h75_78 : op < 64781
       ·obtain rfl : op = 64780 := by omega
        exact rowr_75
       ·by_cases h76_78 : op < 64782
        ·obtain rfl : op = 64781 := by omega
         exact rowr_76
        ·obtain rfl : op = 64782 := by omega
         exact rowr_77
 ·by_cases h78_157 : op < 64884
  ·by_cases h78_117 : op < 64846
   ·by_cases h78_97 : op < 64793
    ·by_cases h78_87 : op < 64787
     ·by_cases h78_82 : op < 64785
      ·by_cases h78_80 : op < 64784
       ·obtain rfl : op = 64783 := by omega
        exact rowr_78
       ·obtain rfl : op = 64784 := by omega
        exact rowr_79
      ·by_cases h80_82 : op < 64786
       ·obtain rfl : op = 64785 := by omega
        exact rowr_80
       ·obtain rfl : op = 64786 := by omega
        exact rowr_81
     ·by_cases h82_87 : op < 64790
      ·by_cases h82_84 : op < 64789
       ·exact rowr_82 op (by omega) (by omega)
       ·obtain rfl : op = 64789 := by omega
        exact rowr_83
      ·by_cases h84_87 : op < 64791
       ·obtain rfl : op = 64790 := by omega
        exact rowr_84
       ·by_cases h85_87 : op < 64792
        ·obtain rfl : op = 64791 := by omega
         exact rowr_85
        ·obtain rfl : op = 64792 := by omega
         exact rowr_86
    ·by_cases h87_97 : op < 64798
     ·by_cases h87_92 : op < 64795
      ·by_cases h87_89 : op < 64794
       ·obtain rfl : op = 64793 := by omega
        exact rowr_87
       ·obtain rfl : op = 64794 := by omega
        exact rowr_88
      ·by_cases h89_92 : op < 64796
       ·obtain rfl : op = 64795 := by omega
        exact rowr_89
       ·by_cases h90_92 : op < 64797
        ·obtain rfl : op = 64796 := by omega
         exact rowr_90
        ·obtain rfl : op = 64797 := by omega
         exact rowr_91
     ·by_cases h92_97 : op < 64803
      ·by_cases h92_94 : op < 64799
       ·obtain rfl : op = 64798 := by omega
        exact rowr_92
       ·exact rowr_93 op (by omega) (by omega)
      ·by_cases h94_97 : op < 64833
       ·exact rowr_94 op (by omega) (by omega)
       ·by_cases h95_97 : op < 64845
        ·exact rowr_95 op (by omega) (by omega)
        ·obtain rfl : op = 64845 := by omega
         exact rowr_96
   ·by_cases h97_117 : op < 64859
    ·by_cases h97_107 : op < 64854
     ·by_cases h97_102 : op < 64851
      ·by_cases h97_99 : op < 64850
       ·exact rowr_97 op (by omega) (by omega)
       ·obtain rfl : op = 64850 := by omega
        exact rowr_98
      ·by_cases h99_102 : op < 64852
       ·obtain rfl : op = 64851 := by omega
        exact rowr_99
       ·by_cases h100_102 : op < 64853
        ·obtain rfl : op = 64852 := by omega
         exact rowr_100
        ·obtain rfl : op = 64853 := by omega
         exact rowr_101
     ·by_cases h102_107 : op < 64856
      ·by_cases h102_104 : op < 64855
       ·obtain rfl : op = 64854 := by omega
        exact rowr_102
       ·obtain rfl : op = 64855 := by omega
        exact rowr_103
      ·by_cases h104_107 : op < 64857
       ·obtain rfl : op = 64856 := by omega
        exact rowr_104
       ·by_cases h105_107 : op < 64858
        ·obtain rfl : op = 64857 := by omega
         exact rowr_105
        ·obtain rfl : op = 64858 := by omega
         exact rowr_106
    ·by_cases h107_117 : op < 64867
     ·by_cases h107_112 : op < 64861
      ·by_cases h107_109 : op < 64860
       ·obtain rfl : op = 64859 := by omega
        exact rowr_107
       ·obtain rfl : op = 64860 := by omega
        exact rowr_108
      ·by_cases h109_112 : op < 64862
       ·obtain rfl : op = 64861 := by omega
        exact rowr_109
       ·by_cases h110_112 : op < 64864
        ·exact rowr_110 op (by omega) (by omega)
        ·exact rowr_111 op (by omega) (by omega)
     ·by_cases h112_117 : op < 64871
      ·by_cases h112_114 : op < 64869
       ·exact rowr_112 op (by omega) (by omega)
       ·exact rowr_113 op (by omega) (by omega)
      ·by_cases h114_117 : op < 64875
       ·exact rowr_114 op (by omega) (by omega)
       ·by_cases h115_117 : op < 64878
        ·exact rowr_115 op (by omega) (by omega)
        ·exact rowr_116 op (by omega) (by omega)
  ·by_cases h117_157 : op < 64939
   ·by_cases h117_137 : op < 64910
    ·by_cases h117_127 : op < 64898
     ·by_cases h117_122 : op < 64890
      ·by_cases h117_119 : op < 64886
       ·exact rowr_117 op (by omega) (by omega)
       ·exact rowr_118 op (by omega) (by omega)
      ·by_cases h119_122 : op < 64891
       ·obtain rfl : op = 64890 := by omega
        exact rowr_119
       ·by_cases h120_122 : op < 64892
        ·obtain rfl : op = 64891 := by omega
         exact rowr_120
        ·exact rowr_121 op (by omega) (by omega)
     ·by_cases h122_127 : op < 64901
      ·by_cases h122_124 : op < 64899
       ·obtain rfl : op = 64898 := by omega
        exact rowr_122
       ·exact rowr_123 op (by omega) (by omega)
      ·by_cases h124_127 : op < 64903
       ·exact rowr_124 op (by omega) (by omega)
       ·by_cases h125_127 : op < 64907
        ·exact rowr_125 op (by omega) (by omega)
        ·exact rowr_126 op (by omega) (by omega)
    ·by_cases h127_137 : op < 64928
     ·by_cases h127_132 : op < 64917
      ·by_cases h127_129 : op < 64916
       ·exact rowr_127 op (by omega) (by omega)
       ·obtain rfl : op = 64916 := by omega
        exact rowr_128
      ·by_cases h129_132 : op < 64922
       ·exact rowr_129 op (by omega) (by omega)
       ·by_cases h130_132 : op < 64923
        ·obtain rfl : op = 64922 := by omega
         exact rowr_130
        ·exact rowr_131 op (by omega) (by omega)
     ·by_cases h132_137 : op < 64931
      ·by_cases h132_134 : op < 64930
       ·exact rowr_132 op (by omega) (by omega)
       ·obtain rfl : op = 64930 := by omega
        exact rowr_133
      ·by_cases h134_137 : op < 64933
       ·exact rowr_134 op (by omega) (by omega)
       ·by_cases h135_137 : op < 64935
        ·exact rowr_135 op (by omega) (by omega)
        ·exact rowr_136 op (by omega) (by omega)
   ·by_cases h137_157 : op < 64963
    ·by_cases h137_147 : op < 64949
     ·by_cases h137_142 : op < 64943
      ·by_cases h137_139 : op < 64942
       ·exact rowr_137 op (by omega) (by omega)
       ·obtain rfl : op = 64942 := by omega
        exact rowr_138
      ·by_cases h139_142 : op < 64945
       ·exact rowr_139 op (by omega) (by omega)
       ·by_cases h140_142 : op < 64946
        ·obtain rfl : op = 64945 := by omega
         exact rowr_140
        ·exact rowr_141 op (by omega) (by omega)
     ·by_cases h142_147 : op < 64956
      ·by_cases h142_144 : op < 64955
       ·exact rowr_142 op (by omega) (by omega)
       ·obtain rfl : op = 64955 := by omega
        exact rowr_143
      ·by_cases h144_147 : op < 64960
       ·exact rowr_144 op (by omega) (by omega)
       ·by_cases h145_147 : op < 64962
        ·exact rowr_145 op (by omega) (by omega)
        ·obtain rfl : op = 64962 := by omega
         exact rowr_146
    ·by_cases h147_157 : op < 64975
     ·by_cases h147_152 : op < 64967
      ·by_cases h147_149 : op < 64965
       ·exact rowr_147 op (by omega) (by omega)
       ·exact rowr_148 op (by omega) (by omega)
      ·by_cases h149_152 : op < 64971
       ·exact rowr_149 op (by omega) (by omega)
       ·by_cases h150_152 : op < 64974
        ·exact rowr_150 op (by omega) (by omega)
        ·obtain rfl : op = 64974 := by omega
         exact rowr_151
     ·by_cases h152_157 : op < 64978
      ·by_cases h152_154 : op < 64977
       ·exact rowr_152 op (by omega) (by omega)
       ·obtain rfl : op = 64977 := by omega
        exact rowr_153
      ·by_cases h154_157 : op < 64981
       ·exact rowr_154 op (by omega) (by omega)
       ·by_cases h155_157 : op < 64992
        ·exact rowr_155 op (by omega) (by omega)
        ·exact rowr_156 op (by omega) (by omega)
end Ins
end Go.Proofs.Ytebkabidojipoaa
/- InsOd -/
namespace Go.Proofs.Ytebkabidojipoaa
open Go.RowKit
namespace Ins
end Ins
end Go.Proofs.Ytebkabidojipoaa
/- InsOdV -/
namespace Go.Proofs.Ytebkabidojipoaa
open Go.RowKit
namespace Ins
end Ins
end Go.Proofs.Ytebkabidojipoaa
/- InsOdS -/
namespace Go.Proofs.Ytebkabidojipoaa
open Go.RowKit
namespace Ins
end Ins
end Go.Proofs.Ytebkabidojipoaa
/- InsAllD -/
namespace Go.Proofs.Ytebkabidojipoaa
open Go.RowKit
namespace Ins
end Ins
end Go.Proofs.Ytebkabidojipoaa
