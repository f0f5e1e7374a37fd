/-
  Texts of this seat, joined: VcCl, VcLw. Each says what it proves.
-/
import Derived.Test.YtjoalcaooccbiaaMk21
/- VcCl -/
namespace Go.Proofs.Ytjoalcaooccbiaa
open Go.RowKit VecM Ev
namespace Vc
def kqB (m n f : Int) (s : ByteArray) : Bool := (n - 64768 == m) && decide (64768 ≤ n) && decide (n - 64768 ≤ 9223372036854775807) && (f != 0) && decide (s.size < 1000) && decide (0 < (Ins.cutA s).size) && decide ((Ins.cutA s).size ≤ 1000) && decide (0 < (Ins.cutB s).size) && decide ((Ins.cutB s).size ≤ 1000) && Ins.cutP s
theorem kq {n f l : Int} {s : ByteArray} (m : Int) (h : kqB m n f s = true) (hr : ∀ w, Calls Try.prog 27 #[.int .i64 m] w (Ins.RES f l s w)) : Known ⟨n, f, l, s⟩ := by
 simp only [kqB, Bool.and_eq_true, decide_eq_true_eq, beq_iff_eq, bne_iff_ne] at h
 obtain ⟨⟨⟨⟨⟨⟨⟨⟨⟨h1, h2⟩, h3⟩, h4⟩, h5⟩, h6⟩, h7⟩, h8⟩, h9⟩, h10⟩ := h
 exact kn m h1 h2 h3 (beq_eq_false_iff_ne.2 h4) h5 ⟨h6, h7⟩ ⟨h8, h9⟩ h10 hr
def ClOk (op : Int) : Pa → Prop
 | .no => Unknown op
 | .mem => ∃ f l s, KnownP ⟨op, f, l, s⟩ ∧ (f = 7 ∧ s = ⟨#[105, 58, 118]⟩ ∨ f = 8 ∧ s = ⟨#[105, 118, 58, 118]⟩ ∨ f = 7 ∧ s = ⟨#[105, 118, 58]⟩ ∨ f = 8 ∧ s = ⟨#[105, 118, 58]⟩)
 | .co => op = 64780
 | p => (∃ l, Known ⟨op, formP p, l, strP p⟩) ∧ testP p op = true
def sB (f : Int) (s : ByteArray) : Bool := (f != 0) && decide (s.size < 1000) && decide (0 < (Ins.cutA s).size) && decide ((Ins.cutA s).size ≤ 1000) && decide (0 < (Ins.cutB s).size) && decide ((Ins.cutB s).size ≤ 1000) && Ins.cutP s
theorem kv (n f l : Int) (s : ByteArray) (h0 : 0 ≤ n) (h1 : n ≤ 255) (h : sB f s = true) (hr : ∀ w, Calls Try.prog 27 #[.int .i64 n] w (Ins.RES f l s w)) : Known ⟨64768 + n, f, l, s⟩ := by
 simp only [sB, Bool.and_eq_true, decide_eq_true_eq, bne_iff_ne] at h
 obtain ⟨⟨⟨⟨⟨⟨h4, h5⟩, h6⟩, h7⟩, h8⟩, h9⟩, h10⟩ := h
 exact kn n (by omega) (by omega) (by omega) (beq_eq_false_iff_ne.2 h4) h5 ⟨h6, h7⟩ ⟨h8, h9⟩ h10 hr
theorem nv (n l : Int) (s : ByteArray) (h0 : 0 ≤ n) (h1 : n ≤ 255) (hr : ∀ w, Calls Try.prog 27 #[.int .i64 n] w (Ins.RES 0 l s w)) : Unknown (64768 + n) :=
 .inl ⟨by omega, by omega, l, s, fun w => by rw [show 64768 + n - 64768 = n by omega]; exact hr w⟩
theorem mv (n f l : Int) (s : ByteArray) (h0 : 0 ≤ n) (h1 : n ≤ 255) (hf : (f == 0) = false) (h : decide (s.size < 1000) && decide ((Ins.cutA s).size ≤ 1000) && decide ((Ins.cutB s).size ≤ 1000) = true) (hr : ∀ w, Calls Try.prog 27 #[.int .i64 n] w (Ins.RES f l s w)) : KnownP ⟨64768 + n, f, l, s⟩ := by
 simp only [Bool.and_eq_true, decide_eq_true_eq] at h
 exact ⟨hf, h.1.1, h.1.2, h.2, .inl ⟨by show 64768 ≤ 64768 + n; omega, by show 64768 + n - 64768 ≤ 9223372036854775807; omega, fun w => by rw [show (64768 + n - 64768 : Int) = n by omega]; exact hr w⟩⟩
theorem iv0  : KnownP ⟨64768 + 0, 7, 4, ⟨#[105, 58, 118]⟩⟩ := mv 0 _ _ _ (by omega) (by omega) (by decide) (by decide +kernel) (fun w => Ins.top_va0 0 7 4 _ (by omega) (by omega) (fun w => Ins.va_0 w) w)
theorem iv1 (n : Int) (h0 : 1 ≤ n) (h1 : n ≤ 6) : KnownP ⟨64768 + n, 7, 3, ⟨#[105, 58, 118]⟩⟩ := mv n _ _ _ (by omega) (by omega) (by decide) (by decide +kernel) (fun w => Ins.top_va0 n 7 3 _ (by omega) (by omega) (fun w => Ins.va_1 n (by omega) (by omega) w) w)
theorem iv2  : KnownP ⟨64768 + 7, 7, 0, ⟨#[105, 58, 118]⟩⟩ := mv 7 _ _ _ (by omega) (by omega) (by decide) (by decide +kernel) (fun w => Ins.top_va0 7 7 0 _ (by omega) (by omega) (fun w => Ins.va_2 w) w)
theorem iv3  : KnownP ⟨64768 + 8, 7, 1, ⟨#[105, 58, 118]⟩⟩ := mv 8 _ _ _ (by omega) (by omega) (by decide) (by decide +kernel) (fun w => Ins.top_va0 8 7 1 _ (by omega) (by omega) (fun w => Ins.va_3 w) w)
theorem iv4  : KnownP ⟨64768 + 9, 7, 2, ⟨#[105, 58, 118]⟩⟩ := mv 9 _ _ _ (by omega) (by omega) (by decide) (by decide +kernel) (fun w => Ins.top_va0 9 7 2 _ (by omega) (by omega) (fun w => Ins.va_4 w) w)
theorem iv5  : KnownP ⟨64768 + 10, 7, 3, ⟨#[105, 58, 118]⟩⟩ := mv 10 _ _ _ (by omega) (by omega) (by decide) (by decide +kernel) (fun w => Ins.top_va0 10 7 3 _ (by omega) (by omega) (fun w => Ins.va_5 w) w)
theorem iv6  : KnownP ⟨64768 + 11, 7, 4, ⟨#[105, 118, 58]⟩⟩ := mv 11 _ _ _ (by omega) (by omega) (by decide) (by decide +kernel) (fun w => Ins.top_va0 11 7 4 _ (by omega) (by omega) (fun w => Ins.va_6 w) w)
theorem iv8  : Known ⟨64768 + 13, 12, 0, ⟨#[118, 118, 58, 118]⟩⟩ := kv 13 _ _ _ (by omega) (by omega) (by decide +kernel) (fun w => Ins.top_vm0 13 12 0 _ (by omega) (by omega) (fun w => Ins.vm_1 w) w)
theorem iv9  : Known ⟨64768 + 14, 1, 0, ⟨#[118, 118, 58, 118]⟩⟩ := kv 14 _ _ _ (by omega) (by omega) (by decide +kernel) (fun w => Ins.top_vm0 14 1 0 _ (by omega) (by omega) (fun w => Ins.vm_2 w) w)
theorem iv10  : Known ⟨64768 + 15, 1, 0, ⟨#[105, 58, 118]⟩⟩ := kv 15 _ _ _ (by omega) (by omega) (by decide +kernel) (fun w => Ins.top_vm0 15 1 0 _ (by omega) (by omega) (fun w => Ins.vm_3 w) w)
theorem iv11  : Known ⟨64768 + 16, 1, 0, ⟨#[105, 58, 118]⟩⟩ := kv 16 _ _ _ (by omega) (by omega) (by decide +kernel) (fun w => Ins.top_vm0 16 1 0 _ (by omega) (by omega) (fun w => Ins.vm_4 w) w)
theorem iv12  : Known ⟨64768 + 17, 1, 0, ⟨#[105, 58, 118]⟩⟩ := kv 17 _ _ _ (by omega) (by omega) (by decide +kernel) (fun w => Ins.top_vm0 17 1 0 _ (by omega) (by omega) (fun w => Ins.vm_5 w) w)
theorem iv13  : Known ⟨64768 + 18, 1, 0, ⟨#[108, 58, 118]⟩⟩ := kv 18 _ _ _ (by omega) (by omega) (by decide +kernel) (fun w => Ins.top_vm0 18 1 0 _ (by omega) (by omega) (fun w => Ins.vm_6 w) w)
theorem iv14 (n : Int) (h0 : 19 ≤ n) (h1 : n ≤ 20) : Unknown (64768 + n) := nv n 0 _ (by omega) (by omega) (fun w => Ins.top_vm0 n 0 0 _ (by omega) (by omega) (fun w => Ins.vm_7 n (by omega) (by omega) w) w)
theorem iv15  : Known ⟨64768 + 21, 13, 16, ⟨#[118, 58, 105]⟩⟩ := kv 21 _ _ _ (by omega) (by omega) (by decide +kernel) (fun w => Ins.top_vm0 21 13 16 _ (by omega) (by omega) (fun w => Ins.vm_8 w) w)
theorem iv16  : Known ⟨64768 + 22, 13, 16, ⟨#[118, 58, 105]⟩⟩ := kv 22 _ _ _ (by omega) (by omega) (by decide +kernel) (fun w => Ins.top_vm0 22 13 16 _ (by omega) (by omega) (fun w => Ins.vm_9 w) w)
theorem iv17  : Known ⟨64768 + 23, 13, 16, ⟨#[118, 105, 58, 118]⟩⟩ := kv 23 _ _ _ (by omega) (by omega) (by decide +kernel) (fun w => Ins.top_vm0 23 13 16 _ (by omega) (by omega) (fun w => Ins.vm_10 w) w)
theorem iv18  : Known ⟨64768 + 24, 13, 8, ⟨#[118, 58, 105]⟩⟩ := kv 24 _ _ _ (by omega) (by omega) (by decide +kernel) (fun w => Ins.top_vm0 24 13 8 _ (by omega) (by omega) (fun w => Ins.vm_11 w) w)
theorem iv19  : Known ⟨64768 + 25, 13, 8, ⟨#[118, 58, 105]⟩⟩ := kv 25 _ _ _ (by omega) (by omega) (by decide +kernel) (fun w => Ins.top_vm0 25 13 8 _ (by omega) (by omega) (fun w => Ins.vm_12 w) w)
theorem iv20  : Known ⟨64768 + 26, 13, 8, ⟨#[118, 105, 58, 118]⟩⟩ := kv 26 _ _ _ (by omega) (by omega) (by decide +kernel) (fun w => Ins.top_vm0 26 13 8 _ (by omega) (by omega) (fun w => Ins.vm_13 w) w)
theorem iv21  : Known ⟨64768 + 27, 13, 4, ⟨#[118, 58, 105]⟩⟩ := kv 27 _ _ _ (by omega) (by omega) (by decide +kernel) (fun w => Ins.top_vm0 27 13 4 _ (by omega) (by omega) (fun w => Ins.vm_14 w) w)
theorem iv22  : Known ⟨64768 + 28, 13, 4, ⟨#[118, 105, 58, 118]⟩⟩ := kv 28 _ _ _ (by omega) (by omega) (by decide +kernel) (fun w => Ins.top_vm0 28 13 4 _ (by omega) (by omega) (fun w => Ins.vm_15 w) w)
theorem iv23  : Known ⟨64768 + 29, 13, 2, ⟨#[118, 58, 108]⟩⟩ := kv 29 _ _ _ (by omega) (by omega) (by decide +kernel) (fun w => Ins.top_vm0 29 13 2 _ (by omega) (by omega) (fun w => Ins.vm_16 w) w)
theorem iv24  : Known ⟨64768 + 30, 13, 2, ⟨#[118, 108, 58, 118]⟩⟩ := kv 30 _ _ _ (by omega) (by omega) (by decide +kernel) (fun w => Ins.top_vm0 30 13 2 _ (by omega) (by omega) (fun w => Ins.vm_17 w) w)
theorem iv25 (n : Int) (h0 : 31 ≤ n) (h1 : n ≤ 34) : Unknown (64768 + n) := nv n 0 _ (by omega) (by omega) (fun w => Ins.top_vm0 n 0 0 _ (by omega) (by omega) (fun w => Ins.vm_18 n (by omega) (by omega) w) w)
theorem iv26 (n : Int) (h0 : 35 ≤ n) (h1 : n ≤ 64) : Known ⟨64768 + n, 1, 0, ⟨#[118, 118, 58, 118]⟩⟩ := kv n _ _ _ (by omega) (by omega) (by decide +kernel) (fun w => Ins.top_vb0 n 1 0 _ (by omega) (by omega) (fun w => Ins.vb_0 n (by omega) (by omega) w) w)
theorem iv27 (n : Int) (h0 : 65 ≤ n) (h1 : n ≤ 76) : Unknown (64768 + n) := nv n 0 _ (by omega) (by omega) (fun w => Ins.top_vb0 n 0 0 _ (by omega) (by omega) (fun w => Ins.vb_1 n (by omega) (by omega) w) w)
theorem iv28  : Known ⟨64768 + 77, 1, 0, ⟨#[118, 58, 118]⟩⟩ := kv 77 _ _ _ (by omega) (by omega) (by decide +kernel) (fun w => Ins.top_vb0 77 1 0 _ (by omega) (by omega) (fun w => Ins.vb_2 w) w)
theorem iv29 (n : Int) (h0 : 78 ≤ n) (h1 : n ≤ 81) : Known ⟨64768 + n, 1, 0, ⟨#[118, 118, 58, 118]⟩⟩ := kv n _ _ _ (by omega) (by omega) (by decide +kernel) (fun w => Ins.top_vb0 n 1 0 _ (by omega) (by omega) (fun w => Ins.vb_3 n (by omega) (by omega) w) w)
theorem iv30  : Known ⟨64768 + 82, 1, 0, ⟨#[118, 118, 118, 58, 118]⟩⟩ := kv 82 _ _ _ (by omega) (by omega) (by decide +kernel) (fun w => Ins.top_vb0 82 1 0 _ (by omega) (by omega) (fun w => Ins.vb_4 w) w)
theorem iv31  : Known ⟨64768 + 83, 1, 0, ⟨#[118, 58, 105]⟩⟩ := kv 83 _ _ _ (by omega) (by omega) (by decide +kernel) (fun w => Ins.top_vb0 83 1 0 _ (by omega) (by omega) (fun w => Ins.vb_5 w) w)
theorem iv32  : KnownP ⟨64768 + 84, 8, 0, ⟨#[105, 118, 58, 118]⟩⟩ := mv 84 _ _ _ (by omega) (by omega) (by decide) (by decide +kernel) (fun w => Ins.top_va1 84 8 0 _ (by omega) (by omega) (fun w => Ins.va_7 w) w)
theorem iv33  : KnownP ⟨64768 + 85, 8, 1, ⟨#[105, 118, 58, 118]⟩⟩ := mv 85 _ _ _ (by omega) (by omega) (by decide) (by decide +kernel) (fun w => Ins.top_va1 85 8 1 _ (by omega) (by omega) (fun w => Ins.va_8 w) w)
theorem iv34  : KnownP ⟨64768 + 86, 8, 2, ⟨#[105, 118, 58, 118]⟩⟩ := mv 86 _ _ _ (by omega) (by omega) (by decide) (by decide +kernel) (fun w => Ins.top_va1 86 8 2 _ (by omega) (by omega) (fun w => Ins.va_9 w) w)
theorem iv35  : KnownP ⟨64768 + 87, 8, 3, ⟨#[105, 118, 58, 118]⟩⟩ := mv 87 _ _ _ (by omega) (by omega) (by decide) (by decide +kernel) (fun w => Ins.top_va1 87 8 3 _ (by omega) (by omega) (fun w => Ins.va_10 w) w)
theorem iv36  : KnownP ⟨64768 + 88, 8, 0, ⟨#[105, 118, 58]⟩⟩ := mv 88 _ _ _ (by omega) (by omega) (by decide) (by decide +kernel) (fun w => Ins.top_va1 88 8 0 _ (by omega) (by omega) (fun w => Ins.va_11 w) w)
theorem iv37  : KnownP ⟨64768 + 89, 8, 1, ⟨#[105, 118, 58]⟩⟩ := mv 89 _ _ _ (by omega) (by omega) (by decide) (by decide +kernel) (fun w => Ins.top_va1 89 8 1 _ (by omega) (by omega) (fun w => Ins.va_12 w) w)
theorem iv38  : KnownP ⟨64768 + 90, 8, 2, ⟨#[105, 118, 58]⟩⟩ := mv 90 _ _ _ (by omega) (by omega) (by decide) (by decide +kernel) (fun w => Ins.top_va1 90 8 2 _ (by omega) (by omega) (fun w => Ins.va_13 w) w)
theorem iv39  : KnownP ⟨64768 + 91, 8, 3, ⟨#[105, 118, 58]⟩⟩ := mv 91 _ _ _ (by omega) (by omega) (by decide) (by decide +kernel) (fun w => Ins.top_va1 91 8 3 _ (by omega) (by omega) (fun w => Ins.va_14 w) w)
theorem iv40  : KnownP ⟨64768 + 92, 7, 2, ⟨#[105, 58, 118]⟩⟩ := mv 92 _ _ _ (by omega) (by omega) (by decide) (by decide +kernel) (fun w => Ins.top_va1 92 7 2 _ (by omega) (by omega) (fun w => Ins.va_15 w) w)
theorem iv41  : KnownP ⟨64768 + 93, 7, 3, ⟨#[105, 58, 118]⟩⟩ := mv 93 _ _ _ (by omega) (by omega) (by decide) (by decide +kernel) (fun w => Ins.top_va1 93 7 3 _ (by omega) (by omega) (fun w => Ins.va_16 w) w)
theorem iv42 (n : Int) (h0 : 94 ≤ n) (h1 : n ≤ 95) : Unknown (64768 + n) := nv n 0 _ (by omega) (by omega) (fun w => Ins.top_vn0 n 0 0 _ (by omega) (by omega) (fun w => Ins.vn_0 n (by omega) (by omega) w) w)
theorem iv43 (n : Int) (h0 : 96 ≤ n) (h1 : n ≤ 98) : Known ⟨64768 + n, 1, 0, ⟨#[118, 58, 118]⟩⟩ := kv n _ _ _ (by omega) (by omega) (by decide +kernel) (fun w => Ins.top_vn0 n 1 0 _ (by omega) (by omega) (fun w => Ins.vn_1 n (by omega) (by omega) w) w)
theorem iv44 (n : Int) (h0 : 99 ≤ n) (h1 : n ≤ 100) : Known ⟨64768 + n, 1, 0, ⟨#[118, 58, 105]⟩⟩ := kv n _ _ _ (by omega) (by omega) (by decide +kernel) (fun w => Ins.top_vn0 n 1 0 _ (by omega) (by omega) (fun w => Ins.vn_2 n (by omega) (by omega) w) w)
theorem iv45 (n : Int) (h0 : 101 ≤ n) (h1 : n ≤ 102) : Known ⟨64768 + n, 1, 0, ⟨#[118, 118, 58, 118]⟩⟩ := kv n _ _ _ (by omega) (by omega) (by decide +kernel) (fun w => Ins.top_vn0 n 1 0 _ (by omega) (by omega) (fun w => Ins.vn_3 n (by omega) (by omega) w) w)
theorem iv46 (n : Int) (h0 : 103 ≤ n) (h1 : n ≤ 106) : Unknown (64768 + n) := nv n 0 _ (by omega) (by omega) (fun w => Ins.top_vn0 n 0 0 _ (by omega) (by omega) (fun w => Ins.vn_4 n (by omega) (by omega) w) w)
theorem iv47 (n : Int) (h0 : 107 ≤ n) (h1 : n ≤ 109) : Known ⟨64768 + n, 1, 0, ⟨#[118, 105, 58, 118]⟩⟩ := kv n _ _ _ (by omega) (by omega) (by decide +kernel) (fun w => Ins.top_vn0 n 1 0 _ (by omega) (by omega) (fun w => Ins.vn_5 n (by omega) (by omega) w) w)
theorem iv48 (n : Int) (h0 : 110 ≤ n) (h1 : n ≤ 115) : Known ⟨64768 + n, 1, 0, ⟨#[118, 118, 58, 118]⟩⟩ := kv n _ _ _ (by omega) (by omega) (by decide +kernel) (fun w => Ins.top_vn0 n 1 0 _ (by omega) (by omega) (fun w => Ins.vn_6 n (by omega) (by omega) w) w)
theorem iv49 (n : Int) (h0 : 116 ≤ n) (h1 : n ≤ 117) : Unknown (64768 + n) := nv n 0 _ (by omega) (by omega) (fun w => Ins.top_vn0 n 0 0 _ (by omega) (by omega) (fun w => Ins.vn_7 n (by omega) (by omega) w) w)
theorem iv50 (n : Int) (h0 : 118 ≤ n) (h1 : n ≤ 121) : Known ⟨64768 + n, 1, 0, ⟨#[118, 118, 58, 118]⟩⟩ := kv n _ _ _ (by omega) (by omega) (by decide +kernel) (fun w => Ins.top_vn0 n 1 0 _ (by omega) (by omega) (fun w => Ins.vn_8 n (by omega) (by omega) w) w)
theorem iv51  : Unknown (64768 + 122) := nv 122 0 _ (by omega) (by omega) (fun w => Ins.top_vn0 122 0 0 _ (by omega) (by omega) (fun w => Ins.vn_9 w) w)
theorem iv52  : Known ⟨64768 + 123, 1, 0, ⟨#[118, 118, 58, 118]⟩⟩ := kv 123 _ _ _ (by omega) (by omega) (by decide +kernel) (fun w => Ins.top_vn0 123 1 0 _ (by omega) (by omega) (fun w => Ins.vn_10 w) w)
theorem iv53 (n : Int) (h0 : 124 ≤ n) (h1 : n ≤ 129) : Known ⟨64768 + n, 1, 0, ⟨#[118, 58, 118]⟩⟩ := kv n _ _ _ (by omega) (by omega) (by decide +kernel) (fun w => Ins.top_vn0 n 1 0 _ (by omega) (by omega) (fun w => Ins.vn_11 n (by omega) (by omega) w) w)
theorem iv54  : Known ⟨64768 + 130, 1, 0, ⟨#[118, 118, 58, 118]⟩⟩ := kv 130 _ _ _ (by omega) (by omega) (by decide +kernel) (fun w => Ins.top_vn0 130 1 0 _ (by omega) (by omega) (fun w => Ins.vn_12 w) w)
theorem iv55 (n : Int) (h0 : 131 ≤ n) (h1 : n ≤ 132) : Known ⟨64768 + n, 1, 0, ⟨#[118, 58, 105]⟩⟩ := kv n _ _ _ (by omega) (by omega) (by decide +kernel) (fun w => Ins.top_vn0 n 1 0 _ (by omega) (by omega) (fun w => Ins.vn_13 n (by omega) (by omega) w) w)
theorem iv56 (n : Int) (h0 : 133 ≤ n) (h1 : n ≤ 134) : Known ⟨64768 + n, 1, 0, ⟨#[118, 118, 58, 118]⟩⟩ := kv n _ _ _ (by omega) (by omega) (by decide +kernel) (fun w => Ins.top_vn0 n 1 0 _ (by omega) (by omega) (fun w => Ins.vn_14 n (by omega) (by omega) w) w)
theorem iv57 (n : Int) (h0 : 135 ≤ n) (h1 : n ≤ 138) : Known ⟨64768 + n, 1, 0, ⟨#[118, 58, 118]⟩⟩ := kv n _ _ _ (by omega) (by omega) (by decide +kernel) (fun w => Ins.top_vn0 n 1 0 _ (by omega) (by omega) (fun w => Ins.vn_15 n (by omega) (by omega) w) w)
theorem iv58 (n : Int) (h0 : 139 ≤ n) (h1 : n ≤ 141) : Known ⟨64768 + n, 1, 0, ⟨#[118, 105, 58, 118]⟩⟩ := kv n _ _ _ (by omega) (by omega) (by decide +kernel) (fun w => Ins.top_vn0 n 1 0 _ (by omega) (by omega) (fun w => Ins.vn_16 n (by omega) (by omega) w) w)
theorem iv59 (n : Int) (h0 : 142 ≤ n) (h1 : n ≤ 147) : Known ⟨64768 + n, 1, 0, ⟨#[118, 118, 58, 118]⟩⟩ := kv n _ _ _ (by omega) (by omega) (by decide +kernel) (fun w => Ins.top_vn0 n 1 0 _ (by omega) (by omega) (fun w => Ins.vn_17 n (by omega) (by omega) w) w)
theorem iv60  : Unknown (64768 + 148) := nv 148 0 _ (by omega) (by omega) (fun w => Ins.top_vn0 148 0 0 _ (by omega) (by omega) (fun w => Ins.vn_18 w) w)
theorem iv61 (n : Int) (h0 : 149 ≤ n) (h1 : n ≤ 153) : Known ⟨64768 + n, 1, 0, ⟨#[118, 118, 58, 118]⟩⟩ := kv n _ _ _ (by omega) (by omega) (by decide +kernel) (fun w => Ins.top_vn0 n 1 0 _ (by omega) (by omega) (fun w => Ins.vn_19 n (by omega) (by omega) w) w)
theorem iv62  : Unknown (64768 + 154) := nv 154 0 _ (by omega) (by omega) (fun w => Ins.top_vn0 154 0 0 _ (by omega) (by omega) (fun w => Ins.vn_20 w) w)
theorem iv63 (n : Int) (h0 : 155 ≤ n) (h1 : n ≤ 159) : Known ⟨64768 + n, 1, 0, ⟨#[118, 118, 58, 118]⟩⟩ := kv n _ _ _ (by omega) (by omega) (by decide +kernel) (fun w => Ins.top_vn0 n 1 0 _ (by omega) (by omega) (fun w => Ins.vn_21 n (by omega) (by omega) w) w)
theorem iv64 (n : Int) (h0 : 160 ≤ n) (h1 : n ≤ 161) : Known ⟨64768 + n, 1, 0, ⟨#[118, 58, 118]⟩⟩ := kv n _ _ _ (by omega) (by omega) (by decide +kernel) (fun w => Ins.top_vw0 n 1 0 _ (by omega) (fun w => Ins.vw_0 n (by omega) (by omega) w) w)
theorem iv65  : Unknown (64768 + 162) := nv 162 0 _ (by omega) (by omega) (fun w => Ins.top_vw0 162 0 0 _ (by omega) (fun w => Ins.vw_1 w) w)
theorem iv66 (n : Int) (h0 : 163 ≤ n) (h1 : n ≤ 164) : Known ⟨64768 + n, 1, 0, ⟨#[118, 58, 105]⟩⟩ := kv n _ _ _ (by omega) (by omega) (by decide +kernel) (fun w => Ins.top_vw0 n 1 0 _ (by omega) (fun w => Ins.vw_2 n (by omega) (by omega) w) w)
theorem iv67 (n : Int) (h0 : 165 ≤ n) (h1 : n ≤ 166) : Unknown (64768 + n) := nv n 0 _ (by omega) (by omega) (fun w => Ins.top_vw0 n 0 0 _ (by omega) (fun w => Ins.vw_3 n (by omega) (by omega) w) w)
theorem iv68 (n : Int) (h0 : 167 ≤ n) (h1 : n ≤ 170) : Known ⟨64768 + n, 1, 0, ⟨#[118, 58, 118]⟩⟩ := kv n _ _ _ (by omega) (by omega) (by decide +kernel) (fun w => Ins.top_vw0 n 1 0 _ (by omega) (fun w => Ins.vw_4 n (by omega) (by omega) w) w)
theorem iv69 (n : Int) (h0 : 171 ≤ n) (h1 : n ≤ 173) : Known ⟨64768 + n, 1, 0, ⟨#[118, 105, 58, 118]⟩⟩ := kv n _ _ _ (by omega) (by omega) (by decide +kernel) (fun w => Ins.top_vw0 n 1 0 _ (by omega) (fun w => Ins.vw_5 n (by omega) (by omega) w) w)
theorem iv70  : Known ⟨64768 + 174, 1, 0, ⟨#[118, 118, 58, 118]⟩⟩ := kv 174 _ _ _ (by omega) (by omega) (by decide +kernel) (fun w => Ins.top_vw0 174 1 0 _ (by omega) (fun w => Ins.vw_6 w) w)
theorem iv71 (n : Int) (h0 : 175 ≤ n) (h1 : n ≤ 176) : Unknown (64768 + n) := nv n 0 _ (by omega) (by omega) (fun w => Ins.top_vw0 n 0 0 _ (by omega) (fun w => Ins.vw_7 n (by omega) (by omega) w) w)
theorem iv72  : Known ⟨64768 + 177, 1, 0, ⟨#[118, 118, 58, 118]⟩⟩ := kv 177 _ _ _ (by omega) (by omega) (by decide +kernel) (fun w => Ins.top_vw0 177 1 0 _ (by omega) (fun w => Ins.vw_8 w) w)
theorem iv73 (n : Int) (h0 : 178 ≤ n) (h1 : n ≤ 180) : Unknown (64768 + n) := nv n 0 _ (by omega) (by omega) (fun w => Ins.top_vw0 n 0 0 _ (by omega) (fun w => Ins.vw_9 n (by omega) (by omega) w) w)
theorem iv74 (n : Int) (h0 : 181 ≤ n) (h1 : n ≤ 186) : Known ⟨64768 + n, 1, 0, ⟨#[118, 118, 58, 118]⟩⟩ := kv n _ _ _ (by omega) (by omega) (by decide +kernel) (fun w => Ins.top_vw0 n 1 0 _ (by omega) (fun w => Ins.vw_10 n (by omega) (by omega) w) w)
theorem iv75  : Unknown (64768 + 187) := nv 187 0 _ (by omega) (by omega) (fun w => Ins.top_vw0 187 0 0 _ (by omega) (fun w => Ins.vw_11 w) w)
theorem iv76 (n : Int) (h0 : 188 ≤ n) (h1 : n ≤ 191) : Known ⟨64768 + n, 1, 0, ⟨#[118, 118, 58, 118]⟩⟩ := kv n _ _ _ (by omega) (by omega) (by decide +kernel) (fun w => Ins.top_vw0 n 1 0 _ (by omega) (fun w => Ins.vw_12 n (by omega) (by omega) w) w)
theorem iv77 (n : Int) (h0 : 192 ≤ n) (h1 : n ≤ 193) : Known ⟨64768 + n, 1, 0, ⟨#[118, 58, 118]⟩⟩ := kv n _ _ _ (by omega) (by omega) (by decide +kernel) (fun w => Ins.top_vw0 n 1 0 _ (by omega) (fun w => Ins.vw_13 n (by omega) (by omega) w) w)
theorem iv78  : Unknown (64768 + 194) := nv 194 0 _ (by omega) (by omega) (fun w => Ins.top_vw0 194 0 0 _ (by omega) (fun w => Ins.vw_14 w) w)
theorem iv79 (n : Int) (h0 : 195 ≤ n) (h1 : n ≤ 196) : Known ⟨64768 + n, 1, 0, ⟨#[118, 58, 105]⟩⟩ := kv n _ _ _ (by omega) (by omega) (by decide +kernel) (fun w => Ins.top_vw0 n 1 0 _ (by omega) (fun w => Ins.vw_15 n (by omega) (by omega) w) w)
theorem iv80 (n : Int) (h0 : 197 ≤ n) (h1 : n ≤ 198) : Unknown (64768 + n) := nv n 0 _ (by omega) (by omega) (fun w => Ins.top_vw0 n 0 0 _ (by omega) (fun w => Ins.vw_16 n (by omega) (by omega) w) w)
theorem iv81 (n : Int) (h0 : 199 ≤ n) (h1 : n ≤ 202) : Known ⟨64768 + n, 1, 0, ⟨#[118, 58, 118]⟩⟩ := kv n _ _ _ (by omega) (by omega) (by decide +kernel) (fun w => Ins.top_vw0 n 1 0 _ (by omega) (fun w => Ins.vw_17 n (by omega) (by omega) w) w)
theorem iv82 (n : Int) (h0 : 203 ≤ n) (h1 : n ≤ 205) : Known ⟨64768 + n, 1, 0, ⟨#[118, 105, 58, 118]⟩⟩ := kv n _ _ _ (by omega) (by omega) (by decide +kernel) (fun w => Ins.top_vw0 n 1 0 _ (by omega) (fun w => Ins.vw_18 n (by omega) (by omega) w) w)
theorem iv83  : Known ⟨64768 + 206, 1, 0, ⟨#[118, 118, 58, 118]⟩⟩ := kv 206 _ _ _ (by omega) (by omega) (by decide +kernel) (fun w => Ins.top_vw0 206 1 0 _ (by omega) (fun w => Ins.vw_19 w) w)
theorem iv84 (n : Int) (h0 : 207 ≤ n) (h1 : n ≤ 208) : Unknown (64768 + n) := nv n 0 _ (by omega) (by omega) (fun w => Ins.top_vw0 n 0 0 _ (by omega) (fun w => Ins.vw_20 n (by omega) (by omega) w) w)
theorem iv85  : Known ⟨64768 + 209, 1, 0, ⟨#[118, 118, 58, 118]⟩⟩ := kv 209 _ _ _ (by omega) (by omega) (by decide +kernel) (fun w => Ins.top_vw0 209 1 0 _ (by omega) (fun w => Ins.vw_21 w) w)
theorem iv86 (n : Int) (h0 : 210 ≤ n) (h1 : n ≤ 212) : Unknown (64768 + n) := nv n 0 _ (by omega) (by omega) (fun w => Ins.top_vw0 n 0 0 _ (by omega) (fun w => Ins.vw_22 n (by omega) (by omega) w) w)
theorem iv87 (n : Int) (h0 : 213 ≤ n) (h1 : n ≤ 223) : Known ⟨64768 + n, 1, 0, ⟨#[118, 118, 58, 118]⟩⟩ := kv n _ _ _ (by omega) (by omega) (by decide +kernel) (fun w => Ins.top_vw0 n 1 0 _ (by omega) (fun w => Ins.vw_23 n (by omega) (by omega) w) w)
theorem iv88 (n : Int) (h0 : 224 ≤ n) (h1 : n ≤ 255) : Unknown (64768 + n) := nv n 0 _ (by omega) (by omega) (fun w => Ins.top_vw0 n 0 0 _ (by omega) (fun w => Ins.vw_24 n (by omega) w) w)
def kinds : List Pa := [.mem, .mem, .mem, .mem, .mem, .mem, .mem, .mem, .mem, .mem, .mem, .mem, .co, .shf, .swz, .spi, .spi, .spi, .spl, .no, .no, .exi, .exi, .rei, .exi, .exi, .rei, .exi, .rei, .exl, .rel, .no, .no, .no, .no, .cmp, .cmp, .cmp, .cmp, .cmp, .cmp, .cmp, .cmp, .cmp, .cmp, .cmp, .cmp, .cmp, .cmp, .cmp, .cmp, .cmp, .cmp, .cmp, .cmp, .cmp, .cmp, .cmp, .cmp, .cmp, .cmp, .cmp, .cmp, .cmp, .cmp, .no, .no, .no, .no, .no, .no, .no, .no, .no, .no, .no, .no, .bits77, .bits78, .bits79, .bits80, .bits81, .bits82, .test, .mem, .mem, .mem, .mem, .mem, .mem, .mem, .mem, .mem, .mem, .no, .no, .aun, .aun, .aun, .test, .test, .wbin, .wbin, .no, .no, .no, .no, .shift, .shift, .shift, .abin, .abin, .abin, .abin, .abin, .abin, .no, .no, .abin, .abin, .abin, .abin, .no, .abin, .wun, .wun, .wun, .wun, .aun, .aun, .wbin, .test, .test, .wbin, .wbin, .wun, .wun, .wun, .wun, .shift, .shift, .shift, .abin, .abin, .abin, .abin, .abin, .abin, .no, .abin, .abin, .abin, .abin, .abin, .no, .abin, .wbin, .wbin, .wbin, .wbin, .aun, .aun, .no, .test, .test, .no, .no, .wun, .wun, .wun, .wun, .shift, .shift, .shift, .abin, .no, .no, .abin, .no, .no, .no, .abin, .abin, .abin, .abin, .abin, .wbin, .no, .wbin, .wbin, .wbin, .wbin, .aun, .aun, .no, .test, .test, .no, .no, .wun, .wun, .wun, .wun, .shift, .shift, .shift, .abin, .no, .no, .abin, .no, .no, .no, .abin, .cmp, .cmp, .cmp, .cmp, .cmp, .cmp, .wbin, .wbin, .wbin, .wbin, .no, .no, .no, .no, .no, .no, .no, .no, .no, .no, .no, .no, .no, .no, .no, .no, .no, .no, .no, .no, .no, .no, .no, .no, .no, .no, .no, .no, .no, .no, .no, .no]
def paOf (k : Nat) : Pa := kinds.getD k .no
theorem T : ∀ k : Fin 256, testP (paOf k.val) (64768 + (k.val : Int)) = true := by decide +kernel
set_option maxRecDepth 100000 in
theorem cl_all : ∀ k : Nat, k < 256 → ClOk (64768 + (k : Int)) (paOf k)
 | 0, _ => ⟨_, _, _, iv0, .inl ⟨rfl, rfl⟩⟩
 | 1, _ => ⟨_, _, _, iv1 1 (by decide) (by decide), .inl ⟨rfl, rfl⟩⟩
 | 2, _ => ⟨_, _, _, iv1 2 (by decide) (by decide), .inl ⟨rfl, rfl⟩⟩
 | 3, _ => ⟨_, _, _, iv1 3 (by decide) (by decide), .inl ⟨rfl, rfl⟩⟩
 | 4, _ => ⟨_, _, _, iv1 4 (by decide) (by decide), .inl ⟨rfl, rfl⟩⟩
 | 5, _ => ⟨_, _, _, iv1 5 (by decide) (by decide), .inl ⟨rfl, rfl⟩⟩
 | 6, _ => ⟨_, _, _, iv1 6 (by decide) (by decide), .inl ⟨rfl, rfl⟩⟩
 | 7, _ => ⟨_, _, _, iv2, .inl ⟨rfl, rfl⟩⟩
 | 8, _ => ⟨_, _, _, iv3, .inl ⟨rfl, rfl⟩⟩
 | 9, _ => ⟨_, _, _, iv4, .inl ⟨rfl, rfl⟩⟩
 | 10, _ => ⟨_, _, _, iv5, .inl ⟨rfl, rfl⟩⟩
 | 11, _ => ⟨_, _, _, iv6, .inr (.inr (.inl ⟨rfl, rfl⟩))⟩
 | 12, _ => rfl
 | 13, _ => ⟨⟨_, iv8⟩, T 13⟩
 | 14, _ => ⟨⟨_, iv9⟩, T 14⟩
 | 15, _ => ⟨⟨_, iv10⟩, T 15⟩
 | 16, _ => ⟨⟨_, iv11⟩, T 16⟩
 | 17, _ => ⟨⟨_, iv12⟩, T 17⟩
 | 18, _ => ⟨⟨_, iv13⟩, T 18⟩
 | 19, _ => iv14 19 (by decide) (by decide)
 | 20, _ => iv14 20 (by decide) (by decide)
 | 21, _ => ⟨⟨_, iv15⟩, T 21⟩
 | 22, _ => ⟨⟨_, iv16⟩, T 22⟩
 | 23, _ => ⟨⟨_, iv17⟩, T 23⟩
 | 24, _ => ⟨⟨_, iv18⟩, T 24⟩
 | 25, _ => ⟨⟨_, iv19⟩, T 25⟩
 | 26, _ => ⟨⟨_, iv20⟩, T 26⟩
 | 27, _ => ⟨⟨_, iv21⟩, T 27⟩
 | 28, _ => ⟨⟨_, iv22⟩, T 28⟩
 | 29, _ => ⟨⟨_, iv23⟩, T 29⟩
 | 30, _ => ⟨⟨_, iv24⟩, T 30⟩
 | 31, _ => iv25 31 (by decide) (by decide)
 | 32, _ => iv25 32 (by decide) (by decide)
 | 33, _ => iv25 33 (by decide) (by decide)
 | 34, _ => iv25 34 (by decide) (by decide)
 | 35, _ => ⟨⟨_, iv26 35 (by decide) (by decide)⟩, T 35⟩
 | 36, _ => ⟨⟨_, iv26 36 (by decide) (by decide)⟩, T 36⟩
 | 37, _ => ⟨⟨_, iv26 37 (by decide) (by decide)⟩, T 37⟩
 | 38, _ => ⟨⟨_, iv26 38 (by decide) (by decide)⟩, T 38⟩
 | 39, _ => ⟨⟨_, iv26 39 (by decide) (by decide)⟩, T 39⟩
 | 40, _ => ⟨⟨_, iv26 40 (by decide) (by decide)⟩, T 40⟩
 | 41, _ => ⟨⟨_, iv26 41 (by decide) (by decide)⟩, T 41⟩
 | 42, _ => ⟨⟨_, iv26 42 (by decide) (by decide)⟩, T 42⟩
 | 43, _ => ⟨⟨_, iv26 43 (by decide) (by decide)⟩, T 43⟩
 | 44, _ => ⟨⟨_, iv26 44 (by decide) (by decide)⟩, T 44⟩
 | 45, _ => ⟨⟨_, iv26 45 (by decide) (by decide)⟩, T 45⟩
 | 46, _ => ⟨⟨_, iv26 46 (by decide) (by decide)⟩, T 46⟩
 | 47, _ => ⟨⟨_, iv26 47 (by decide) (by decide)⟩, T 47⟩
 | 48, _ => ⟨⟨_, iv26 48 (by decide) (by decide)⟩, T 48⟩
 | 49, _ => ⟨⟨_, iv26 49 (by decide) (by decide)⟩, T 49⟩
 | 50, _ => ⟨⟨_, iv26 50 (by decide) (by decide)⟩, T 50⟩
 | 51, _ => ⟨⟨_, iv26 51 (by decide) (by decide)⟩, T 51⟩
 | 52, _ => ⟨⟨_, iv26 52 (by decide) (by decide)⟩, T 52⟩
 | 53, _ => ⟨⟨_, iv26 53 (by decide) (by decide)⟩, T 53⟩
 | 54, _ => ⟨⟨_, iv26 54 (by decide) (by decide)⟩, T 54⟩
 | 55, _ => ⟨⟨_, iv26 55 (by decide) (by decide)⟩, T 55⟩
 | 56, _ => ⟨⟨_, iv26 56 (by decide) (by decide)⟩, T 56⟩
 | 57, _ => ⟨⟨_, iv26 57 (by decide) (by decide)⟩, T 57⟩
 | 58, _ => ⟨⟨_, iv26 58 (by decide) (by decide)⟩, T 58⟩
 | 59, _ => ⟨⟨_, iv26 59 (by decide) (by decide)⟩, T 59⟩
 | 60, _ => ⟨⟨_, iv26 60 (by decide) (by decide)⟩, T 60⟩
 | 61, _ => ⟨⟨_, iv26 61 (by decide) (by decide)⟩, T 61⟩
 | 62, _ => ⟨⟨_, iv26 62 (by decide) (by decide)⟩, T 62⟩
 | 63, _ => ⟨⟨_, iv26 63 (by decide) (by decide)⟩, T 63⟩
 | 64, _ => ⟨⟨_, iv26 64 (by decide) (by decide)⟩, T 64⟩
 | 65, _ => iv27 65 (by decide) (by decide)
 | 66, _ => iv27 66 (by decide) (by decide)
 | 67, _ => iv27 67 (by decide) (by decide)
 | 68, _ => iv27 68 (by decide) (by decide)
 | 69, _ => iv27 69 (by decide) (by decide)
 | 70, _ => iv27 70 (by decide) (by decide)
 | 71, _ => iv27 71 (by decide) (by decide)
 | 72, _ => iv27 72 (by decide) (by decide)
 | 73, _ => iv27 73 (by decide) (by decide)
 | 74, _ => iv27 74 (by decide) (by decide)
 | 75, _ => iv27 75 (by decide) (by decide)
 | 76, _ => iv27 76 (by decide) (by decide)
 | 77, _ => ⟨⟨_, iv28⟩, T 77⟩
 | 78, _ => ⟨⟨_, iv29 78 (by decide) (by decide)⟩, T 78⟩
 | 79, _ => ⟨⟨_, iv29 79 (by decide) (by decide)⟩, T 79⟩
 | 80, _ => ⟨⟨_, iv29 80 (by decide) (by decide)⟩, T 80⟩
 | 81, _ => ⟨⟨_, iv29 81 (by decide) (by decide)⟩, T 81⟩
 | 82, _ => ⟨⟨_, iv30⟩, T 82⟩
 | 83, _ => ⟨⟨_, iv31⟩, T 83⟩
 | 84, _ => ⟨_, _, _, iv32, .inr (.inl ⟨rfl, rfl⟩)⟩
 | 85, _ => ⟨_, _, _, iv33, .inr (.inl ⟨rfl, rfl⟩)⟩
 | 86, _ => ⟨_, _, _, iv34, .inr (.inl ⟨rfl, rfl⟩)⟩
 | 87, _ => ⟨_, _, _, iv35, .inr (.inl ⟨rfl, rfl⟩)⟩
 | 88, _ => ⟨_, _, _, iv36, .inr (.inr (.inr ⟨rfl, rfl⟩))⟩
 | 89, _ => ⟨_, _, _, iv37, .inr (.inr (.inr ⟨rfl, rfl⟩))⟩
 | 90, _ => ⟨_, _, _, iv38, .inr (.inr (.inr ⟨rfl, rfl⟩))⟩
 | 91, _ => ⟨_, _, _, iv39, .inr (.inr (.inr ⟨rfl, rfl⟩))⟩
 | 92, _ => ⟨_, _, _, iv40, .inl ⟨rfl, rfl⟩⟩
 | 93, _ => ⟨_, _, _, iv41, .inl ⟨rfl, rfl⟩⟩
 | 94, _ => iv42 94 (by decide) (by decide)
 | 95, _ => iv42 95 (by decide) (by decide)
 | 96, _ => ⟨⟨_, iv43 96 (by decide) (by decide)⟩, T 96⟩
 | 97, _ => ⟨⟨_, iv43 97 (by decide) (by decide)⟩, T 97⟩
 | 98, _ => ⟨⟨_, iv43 98 (by decide) (by decide)⟩, T 98⟩
 | 99, _ => ⟨⟨_, iv44 99 (by decide) (by decide)⟩, T 99⟩
 | 100, _ => ⟨⟨_, iv44 100 (by decide) (by decide)⟩, T 100⟩
 | 101, _ => ⟨⟨_, iv45 101 (by decide) (by decide)⟩, T 101⟩
 | 102, _ => ⟨⟨_, iv45 102 (by decide) (by decide)⟩, T 102⟩
 | 103, _ => iv46 103 (by decide) (by decide)
 | 104, _ => iv46 104 (by decide) (by decide)
 | 105, _ => iv46 105 (by decide) (by decide)
 | 106, _ => iv46 106 (by decide) (by decide)
 | 107, _ => ⟨⟨_, iv47 107 (by decide) (by decide)⟩, T 107⟩
 | 108, _ => ⟨⟨_, iv47 108 (by decide) (by decide)⟩, T 108⟩
 | 109, _ => ⟨⟨_, iv47 109 (by decide) (by decide)⟩, T 109⟩
 | 110, _ => ⟨⟨_, iv48 110 (by decide) (by decide)⟩, T 110⟩
 | 111, _ => ⟨⟨_, iv48 111 (by decide) (by decide)⟩, T 111⟩
 | 112, _ => ⟨⟨_, iv48 112 (by decide) (by decide)⟩, T 112⟩
 | 113, _ => ⟨⟨_, iv48 113 (by decide) (by decide)⟩, T 113⟩
 | 114, _ => ⟨⟨_, iv48 114 (by decide) (by decide)⟩, T 114⟩
 | 115, _ => ⟨⟨_, iv48 115 (by decide) (by decide)⟩, T 115⟩
 | 116, _ => iv49 116 (by decide) (by decide)
 | 117, _ => iv49 117 (by decide) (by decide)
 | 118, _ => ⟨⟨_, iv50 118 (by decide) (by decide)⟩, T 118⟩
 | 119, _ => ⟨⟨_, iv50 119 (by decide) (by decide)⟩, T 119⟩
 | 120, _ => ⟨⟨_, iv50 120 (by decide) (by decide)⟩, T 120⟩
 | 121, _ => ⟨⟨_, iv50 121 (by decide) (by decide)⟩, T 121⟩
 | 122, _ => iv51
 | 123, _ => ⟨⟨_, iv52⟩, T 123⟩
 | 124, _ => ⟨⟨_, iv53 124 (by decide) (by decide)⟩, T 124⟩
 | 125, _ => ⟨⟨_, iv53 125 (by decide) (by decide)⟩, T 125⟩
 | 126, _ => ⟨⟨_, iv53 126 (by decide) (by decide)⟩, T 126⟩
 | 127, _ => ⟨⟨_, iv53 127 (by decide) (by decide)⟩, T 127⟩
 | 128, _ => ⟨⟨_, iv53 128 (by decide) (by decide)⟩, T 128⟩
 | 129, _ => ⟨⟨_, iv53 129 (by decide) (by decide)⟩, T 129⟩
 | 130, _ => ⟨⟨_, iv54⟩, T 130⟩
 | 131, _ => ⟨⟨_, iv55 131 (by decide) (by decide)⟩, T 131⟩
 | 132, _ => ⟨⟨_, iv55 132 (by decide) (by decide)⟩, T 132⟩
 | 133, _ => ⟨⟨_, iv56 133 (by decide) (by decide)⟩, T 133⟩
 | 134, _ => ⟨⟨_, iv56 134 (by decide) (by decide)⟩, T 134⟩
 | 135, _ => ⟨⟨_, iv57 135 (by decide) (by decide)⟩, T 135⟩
 | 136, _ => ⟨⟨_, iv57 136 (by decide) (by decide)⟩, T 136⟩
 | 137, _ => ⟨⟨_, iv57 137 (by decide) (by decide)⟩, T 137⟩
 | 138, _ => ⟨⟨_, iv57 138 (by decide) (by decide)⟩, T 138⟩
 | 139, _ => ⟨⟨_, iv58 139 (by decide) (by decide)⟩, T 139⟩
 | 140, _ => ⟨⟨_, iv58 140 (by decide) (by decide)⟩, T 140⟩
 | 141, _ => ⟨⟨_, iv58 141 (by decide) (by decide)⟩, T 141⟩
 | 142, _ => ⟨⟨_, iv59 142 (by decide) (by decide)⟩, T 142⟩
 | 143, _ => ⟨⟨_, iv59 143 (by decide) (by decide)⟩, T 143⟩
 | 144, _ => ⟨⟨_, iv59 144 (by decide) (by decide)⟩, T 144⟩
 | 145, _ => ⟨⟨_, iv59 145 (by decide) (by decide)⟩, T 145⟩
 | 146, _ => ⟨⟨_, iv59 146 (by decide) (by decide)⟩, T 146⟩
 | 147, _ => ⟨⟨_, iv59 147 (by decide) (by decide)⟩, T 147⟩
 | 148, _ => iv60
 | 149, _ => ⟨⟨_, iv61 149 (by decide) (by decide)⟩, T 149⟩
 | 150, _ => ⟨⟨_, iv61 150 (by decide) (by decide)⟩, T 150⟩
 | 151, _ => ⟨⟨_, iv61 151 (by decide) (by decide)⟩, T 151⟩
 | 152, _ => ⟨⟨_, iv61 152 (by decide) (by decide)⟩, T 152⟩
 | 153, _ => ⟨⟨_, iv61 153 (by decide) (by decide)⟩, T 153⟩
 | 154, _ => iv62
 | 155, _ => ⟨⟨_, iv63 155 (by decide) (by decide)⟩, T 155⟩
 | 156, _ => ⟨⟨_, iv63 156 (by decide) (by decide)⟩, T 156⟩
 | 157, _ => ⟨⟨_, iv63 157 (by decide) (by decide)⟩, T 157⟩
 | 158, _ => ⟨⟨_, iv63 158 (by decide) (by decide)⟩, T 158⟩
 | 159, _ => ⟨⟨_, iv63 159 (by decide) (by decide)⟩, T 159⟩
 | 160, _ => ⟨⟨_, iv64 160 (by decide) (by decide)⟩, T 160⟩
 | 161, _ => ⟨⟨_, iv64 161 (by decide) (by decide)⟩, T 161⟩
 | 162, _ => iv65
 | 163, _ => ⟨⟨_, iv66 163 (by decide) (by decide)⟩, T 163⟩
 | 164, _ => ⟨⟨_, iv66 164 (by decide) (by decide)⟩, T 164⟩
 | 165, _ => iv67 165 (by decide) (by decide)
 | 166, _ => iv67 166 (by decide) (by decide)
 | 167, _ => ⟨⟨_, iv68 167 (by decide) (by decide)⟩, T 167⟩
 | 168, _ => ⟨⟨_, iv68 168 (by decide) (by decide)⟩, T 168⟩
 | 169, _ => ⟨⟨_, iv68 169 (by decide) (by decide)⟩, T 169⟩
 | 170, _ => ⟨⟨_, iv68 170 (by decide) (by decide)⟩, T 170⟩
 | 171, _ => ⟨⟨_, iv69 171 (by decide) (by decide)⟩, T 171⟩
 | 172, _ => ⟨⟨_, iv69 172 (by decide) (by decide)⟩, T 172⟩
 | 173, _ => ⟨⟨_, iv69 173 (by decide) (by decide)⟩, T 173⟩
 | 174, _ => ⟨⟨_, iv70⟩, T 174⟩
 | 175, _ => iv71 175 (by decide) (by decide)
 | 176, _ => iv71 176 (by decide) (by decide)
 | 177, _ => ⟨⟨_, iv72⟩, T 177⟩
 | 178, _ => iv73 178 (by decide) (by decide)
 | 179, _ => iv73 179 (by decide) (by decide)
 | 180, _ => iv73 180 (by decide) (by decide)
 | 181, _ => ⟨⟨_, iv74 181 (by decide) (by decide)⟩, T 181⟩
 | 182, _ => ⟨⟨_, iv74 182 (by decide) (by decide)⟩, T 182⟩
 | 183, _ => ⟨⟨_, iv74 183 (by decide) (by decide)⟩, T 183⟩
 | 184, _ => ⟨⟨_, iv74 184 (by decide) (by decide)⟩, T 184⟩
 | 185, _ => ⟨⟨_, iv74 185 (by decide) (by decide)⟩, T 185⟩
 | 186, _ => ⟨⟨_, iv74 186 (by decide) (by decide)⟩, T 186⟩
 | 187, _ => iv75
 | 188, _ => ⟨⟨_, iv76 188 (by decide) (by decide)⟩, T 188⟩
 | 189, _ => ⟨⟨_, iv76 189 (by decide) (by decide)⟩, T 189⟩
 | 190, _ => ⟨⟨_, iv76 190 (by decide) (by decide)⟩, T 190⟩
 | 191, _ => ⟨⟨_, iv76 191 (by decide) (by decide)⟩, T 191⟩
 | 192, _ => ⟨⟨_, iv77 192 (by decide) (by decide)⟩, T 192⟩
 | 193, _ => ⟨⟨_, iv77 193 (by decide) (by decide)⟩, T 193⟩
 | 194, _ => iv78
 | 195, _ => ⟨⟨_, iv79 195 (by decide) (by decide)⟩, T 195⟩
 | 196, _ => ⟨⟨_, iv79 196 (by decide) (by decide)⟩, T 196⟩
 | 197, _ => iv80 197 (by decide) (by decide)
 | 198, _ => iv80 198 (by decide) (by decide)
 | 199, _ => ⟨⟨_, iv81 199 (by decide) (by decide)⟩, T 199⟩
 | 200, _ => ⟨⟨_, iv81 200 (by decide) (by decide)⟩, T 200⟩
 | 201, _ => ⟨⟨_, iv81 201 (by decide) (by decide)⟩, T 201⟩
 | 202, _ => ⟨⟨_, iv81 202 (by decide) (by decide)⟩, T 202⟩
 | 203, _ => ⟨⟨_, iv82 203 (by decide) (by decide)⟩, T 203⟩
 | 204, _ => ⟨⟨_, iv82 204 (by decide) (by decide)⟩, T 204⟩
 | 205, _ => ⟨⟨_, iv82 205 (by decide) (by decide)⟩, T 205⟩
 | 206, _ => ⟨⟨_, iv83⟩, T 206⟩
 | 207, _ => iv84 207 (by decide) (by decide)
 | 208, _ => iv84 208 (by decide) (by decide)
 | 209, _ => ⟨⟨_, iv85⟩, T 209⟩
 | 210, _ => iv86 210 (by decide) (by decide)
 | 211, _ => iv86 211 (by decide) (by decide)
 | 212, _ => iv86 212 (by decide) (by decide)
 | 213, _ => ⟨⟨_, iv87 213 (by decide) (by decide)⟩, T 213⟩
 | 214, _ => ⟨⟨_, iv87 214 (by decide) (by decide)⟩, T 214⟩
 | 215, _ => ⟨⟨_, iv87 215 (by decide) (by decide)⟩, T 215⟩
 | 216, _ => ⟨⟨_, iv87 216 (by decide) (by decide)⟩, T 216⟩
 | 217, _ => ⟨⟨_, iv87 217 (by decide) (by decide)⟩, T 217⟩
 | 218, _ => ⟨⟨_, iv87 218 (by decide) (by decide)⟩, T 218⟩
 | 219, _ => ⟨⟨_, iv87 219 (by decide) (by decide)⟩, T 219⟩
 | 220, _ => ⟨⟨_, iv87 220 (by decide) (by decide)⟩, T 220⟩
 | 221, _ => ⟨⟨_, iv87 221 (by decide) (by decide)⟩, T 221⟩
 | 222, _ => ⟨⟨_, iv87 222 (by decide) (by decide)⟩, T 222⟩
 | 223, _ => ⟨⟨_, iv87 223 (by decide) (by decide)⟩, T 223⟩
 | 224, _ => iv88 224 (by decide) (by decide)
 | 225, _ => iv88 225 (by decide) (by decide)
 | 226, _ => iv88 226 (by decide) (by decide)
 | 227, _ => iv88 227 (by decide) (by decide)
 | 228, _ => iv88 228 (by decide) (by decide)
 | 229, _ => iv88 229 (by decide) (by decide)
 | 230, _ => iv88 230 (by decide) (by decide)
 | 231, _ => iv88 231 (by decide) (by decide)
 | 232, _ => iv88 232 (by decide) (by decide)
 | 233, _ => iv88 233 (by decide) (by decide)
 | 234, _ => iv88 234 (by decide) (by decide)
 | 235, _ => iv88 235 (by decide) (by decide)
 | 236, _ => iv88 236 (by decide) (by decide)
 | 237, _ => iv88 237 (by decide) (by decide)
 | 238, _ => iv88 238 (by decide) (by decide)
 | 239, _ => iv88 239 (by decide) (by decide)
 | 240, _ => iv88 240 (by decide) (by decide)
 | 241, _ => iv88 241 (by decide) (by decide)
 | 242, _ => iv88 242 (by decide) (by decide)
 | 243, _ => iv88 243 (by decide) (by decide)
 | 244, _ => iv88 244 (by decide) (by decide)
 | 245, _ => iv88 245 (by decide) (by decide)
 | 246, _ => iv88 246 (by decide) (by decide)
 | 247, _ => iv88 247 (by decide) (by decide)
 | 248, _ => iv88 248 (by decide) (by decide)
 | 249, _ => iv88 249 (by decide) (by decide)
 | 250, _ => iv88 250 (by decide) (by decide)
 | 251, _ => iv88 251 (by decide) (by decide)
 | 252, _ => iv88 252 (by decide) (by decide)
 | 253, _ => iv88 253 (by decide) (by decide)
 | 254, _ => iv88 254 (by decide) (by decide)
 | 255, _ => iv88 255 (by decide) (by decide)
 | k + 256, h => absurd h (by omega)
end Vc
end Go.Proofs.Ytjoalcaooccbiaa
/- VcLw -/
namespace Go.Proofs.Ytjoalcaooccbiaa
open Go.RowKit VecM Ev
namespace Vc
noncomputable def awS (g : Rw) : CsF := fun f args M =>
 match Nat.beq f 7 with
 | false => none
 | true => match args with
  | [] => some ⟨setEnd M [g], [], 0, fun _ => .bool true, fun _ => []⟩
  | _ => none
theorem sg_given {w0 w : World} {M L : List Rw} (h : SG w0 M w) (hm : ∀ r ∈ L, ∃ q ∈ M, q.b = r.b ∧ q.c = r.c ∧ q.t = r.t) (ho : ∀ r ∈ L, r.own = false) : SG w L w := by
 refine ⟨?_, fun r hr _ => ?_⟩
 ·have : ents L = [] := by
   unfold ents
   rw [List.filter_eq_nil_iff.2 (fun r hr => by rw [ho r hr]; decide)]
   rfl
  rw [this]
  exact St.start w
 ·obtain ⟨q, hq, e1, e2, e3⟩ := hm r hr
  obtain ⟨fr, hrow, _⟩ := h.row hq
  rw [e1, e2, e3] at hrow
  exact ⟨fr, hrow⟩
theorem awS_ok (m : Int) (t : Gt) : COk (awS (gRow m t)) := by
 intro f args M H hq hrows hpre w0 w hS
 unfold awS at hq
 split at hq
 ·cases hq
 ·rename_i hf
  obtain rfl := Nat.eq_of_beq_eq_true hf
  split at hq
  ·cases hq
   have hm : gRow m t ∈ M := by
    have := setEnd_mem (M := M) (L := [gRow m t]) (List.mem_cons_self ..)
    simp only at hrows
    rw [← hrows] at this
    exact this
   have hs : SG w [gRow m t] w := sg_given hS (fun r hr => by obtain rfl := List.mem_singleton.1 hr; exact ⟨_, hm, rfl, rfl, rfl⟩) (fun r hr => by obtain rfl := List.mem_singleton.1 hr; rfl)
   exact (awake_any m t w hs).mono fun e w' ⟨h, hg⟩ => ⟨[], rfl, h, hS.grow hg⟩
  ·cases hq
noncomputable def numAt (c : List Value) (j : Nat) : Int := match nth? c j with | some (.int .u64 x) => x | _ => 0
noncomputable def isNum (c : List Value) (j : Nat) : Bool := match nth? c j with | some (.int .u64 _) => true | _ => false
theorem nth?_eq : ∀ (l : List Value) (j : Nat), nth? l j = l[j]?
 | [], _ => rfl
 | _ :: _, 0 => rfl
 | _ :: l, j + 1 => nth?_eq l j
theorem isNum_out {c : List Value} {j : Nat} (h : isNum c j = true) : c[j]? = some (.int .u64 (numAt c j)) := by
 unfold isNum at h
 unfold numAt
 split at h
 ·rename_i x hx
  rw [← nth?_eq, hx]
 ·cases h
noncomputable def allNum (c : List Value) : Nat → Bool
 | 0 => true
 | n + 1 => allNum c n && isNum c n
theorem allNum_out {c : List Value} : ∀ {n : Nat}, allNum c n = true → ∀ j, j < n → c[j]? = some (.int .u64 (numAt c j))
 | n + 1, h, j, hj => by
  have h : (allNum c n && isNum c n) = true := h
  rw [Bool.and_eq_true] at h
  by_cases e : j = n
  ·subst e; exact isNum_out h.2
  ·exact allNum_out h.1 j (by omega)
def rowOf (t : TypeId) : List Rw → Nat
 | [] => 0
 | r :: M => match Nat.beq r.t t with | true => 0 | false => rowOf t M + 1
noncomputable def doS (g : Rw) (op A L H : Int) (need : Nat) (Y : (Nat → Int) → List Int) (ok : Bool) (jf : List Rw → Nat) : CsF := fun f args M =>
 match Nat.beq f 10 with
 | false => none
 | true => match args with
  | [.agg ⟨[.int .i64 op', .int .i64 A', .int .i64 _, .int .u64 L', .int .u64 H', .slice _ _ _]⟩, .slice hp n cap] => match Nat.beq n need with
   | false => some ⟨setEnd M [g], [decide (op' = op), decide (A' = A), decide (L' = L), decide (H' = H)], 0, fun _ => err1, fun _ => []⟩
   | true => match ok with
    | false => match hp, Ev.rowAt M (jf M) with
     | some ⟨b, 0, none⟩, some r => some ⟨M.take (jf M) ++ ⟨b, r.c, r.t, r.own⟩ :: setEnd (M.drop (jf M + 1)) [g], [decide (op' = op), decide (A' = A), decide (L' = L), decide (H' = H), allNum r.c n, Nat.ble n cap, Nat.ble n 9223372036854775807], 0, fun _ => err1, fun _ => []⟩
     | _, _ => none
    | true => match hp, Ev.rowAt M (jf M) with
     | some ⟨b, 0, none⟩, some r => some ⟨M.take (jf M) ++ ⟨b, r.c, r.t, r.own⟩ :: setEnd (M.drop (jf M + 1)) [g], [decide (op' = op), decide (A' = A), decide (L' = L), decide (H' = H), allNum r.c n, Nat.ble n cap, Nat.ble n 9223372036854775807], 1,
      fun fr => match fr with | [a] => .tuple #[.slice (some ⟨a.b, 0, none⟩) (Y (numAt r.c)).length ((u64s (Y (numAt r.c)) ++ a.t).length / 1), .int .i64 0] | _ => undef,
      fun fr => match fr with | [a] => [⟨a.b, u64s (Y (numAt r.c)) ++ a.t, 22, true⟩] | _ => []⟩
     | _, _ => none
  | _ => none
theorem doS_ok (m : Int) (t : Gt) (op A L H : Int) (need : Nat) (Y : (Nat → Int) → List Int) (ok : Bool) (jf : List Rw → Nat) (K : DoIs m t op A L H need Y ok) : COk (doS (gRow m t) op A L H need Y ok jf) := by
 intro f args M H' hq hrows hpre w0 w hS
 unfold doS at hq
 split at hq
 ·cases hq
 ·rename_i hf
  obtain rfl := Nat.eq_of_beq_eq_true hf
  split at hq
  ·rename_i op' A' B L' Hh lv ln lc hp n cap
   have hg1 : ∀ {L : List Rw}, M = L → gRow m t ∈ L → SG w [gRow m t] w := fun e hm => sg_given hS (fun r hr => by obtain rfl := List.mem_singleton.1 hr; exact ⟨_, e ▸ hm, rfl, rfl, rfl⟩) (fun r hr => by obtain rfl := List.mem_singleton.1 hr; rfl)
   split at hq
   ·rename_i hn
    cases hq
    have p1 := of_decide_eq_true (hpre _ (List.mem_cons_self ..))
    have p2 := of_decide_eq_true (hpre _ (List.mem_cons_of_mem _ (List.mem_cons_self ..)))
    have p3 := of_decide_eq_true (hpre _ (List.mem_cons_of_mem _ (List.mem_cons_of_mem _ (List.mem_cons_self ..))))
    have p4 := of_decide_eq_true (hpre _ (List.mem_cons_of_mem _ (List.mem_cons_of_mem _ (List.mem_cons_of_mem _ (List.mem_cons_self ..)))))
    subst p1 p2 p3 p4
    have hne : n ≠ need := fun e => by subst e; rw [Nat.beq_refl] at hn; cases hn
    exact (K.1 B lv hp ln lc n cap hne w (hg1 hrows (setEnd_mem (List.mem_cons_self ..)))).mono fun e w' h => ⟨[], rfl, h.1, hS.grow h.2⟩
   ·rename_i hn
    have hne := Nat.eq_of_beq_eq_true hn
    split at hq
    ·split at hq
     ·rename_i b r hr
      cases hq
      have p1 := of_decide_eq_true (hpre _ (List.mem_cons_self ..))
      have p2 := of_decide_eq_true (hpre _ (List.mem_cons_of_mem _ (List.mem_cons_self ..)))
      have p3 := of_decide_eq_true (hpre _ (List.mem_cons_of_mem _ (List.mem_cons_of_mem _ (List.mem_cons_self ..))))
      have p4 := of_decide_eq_true (hpre _ (List.mem_cons_of_mem _ (List.mem_cons_of_mem _ (List.mem_cons_of_mem _ (List.mem_cons_self ..)))))
      have p5 := hpre _ (List.mem_cons_of_mem _ (List.mem_cons_of_mem _ (List.mem_cons_of_mem _ (List.mem_cons_of_mem _ (List.mem_cons_self ..)))))
      have p6 := Nat.le_of_ble_eq_true (hpre _ (List.mem_cons_of_mem _ (List.mem_cons_of_mem _ (List.mem_cons_of_mem _ (List.mem_cons_of_mem _ (List.mem_cons_of_mem _ (List.mem_cons_self ..)))))))
      have p7 := Nat.le_of_ble_eq_true (hpre _ (List.mem_cons_of_mem _ (List.mem_cons_of_mem _ (List.mem_cons_of_mem _ (List.mem_cons_of_mem _ (List.mem_cons_of_mem _ (List.mem_cons_of_mem _ (List.mem_cons_self ..))))))))
      subst p1 p2 p3 p4
      simp only at hrows
      have m1 : (⟨b, r.c, r.t, r.own⟩ : Rw) ∈ M := by rw [hrows]; exact List.mem_append_right _ (List.mem_cons_self ..)
      have m2 : gRow m t ∈ M := by rw [hrows]; exact List.mem_append_right _ (List.mem_cons_of_mem _ (setEnd_mem (List.mem_cons_self ..)))
      have hs : SG w [Hv.row ⟨b, 0, n, cap, r.c, r.t⟩, gRow m t] w := sg_given hS (fun q hq => by
       rcases List.mem_cons.1 hq with rfl | hq
       ·exact ⟨_, m1, rfl, rfl, rfl⟩
       ·obtain rfl := List.mem_singleton.1 hq
        exact ⟨_, m2, rfl, rfl, rfl⟩) (fun q hq => by
       rcases List.mem_cons.1 hq with rfl | hq
       ·rfl
       ·obtain rfl := List.mem_singleton.1 hq
        rfl)
      refine (K.2 B lv ln lc ⟨b, 0, n, cap, r.c, r.t⟩ (numAt r.c) hne ⟨p7, p6, fun j hj => ?_⟩ w hs).mono ?_
      ·show r.c[0 + j]? = _
       rw [Nat.zero_add]
       exact allNum_out p5 j hj
      ·intro e w' h
       unfold AnsOr at h
       rw [if_neg (by decide)] at h
       exact ⟨[], rfl, h.1, hS.grow h.2⟩
     ·cases hq
    ·split at hq
     ·rename_i b r hr
      cases hq
      have p1 := of_decide_eq_true (hpre _ (List.mem_cons_self ..))
      have p2 := of_decide_eq_true (hpre _ (List.mem_cons_of_mem _ (List.mem_cons_self ..)))
      have p3 := of_decide_eq_true (hpre _ (List.mem_cons_of_mem _ (List.mem_cons_of_mem _ (List.mem_cons_self ..))))
      have p4 := of_decide_eq_true (hpre _ (List.mem_cons_of_mem _ (List.mem_cons_of_mem _ (List.mem_cons_of_mem _ (List.mem_cons_self ..)))))
      have p5 := hpre _ (List.mem_cons_of_mem _ (List.mem_cons_of_mem _ (List.mem_cons_of_mem _ (List.mem_cons_of_mem _ (List.mem_cons_self ..)))))
      have p6 := Nat.le_of_ble_eq_true (hpre _ (List.mem_cons_of_mem _ (List.mem_cons_of_mem _ (List.mem_cons_of_mem _ (List.mem_cons_of_mem _ (List.mem_cons_of_mem _ (List.mem_cons_self ..)))))))
      have p7 := Nat.le_of_ble_eq_true (hpre _ (List.mem_cons_of_mem _ (List.mem_cons_of_mem _ (List.mem_cons_of_mem _ (List.mem_cons_of_mem _ (List.mem_cons_of_mem _ (List.mem_cons_of_mem _ (List.mem_cons_self ..))))))))
      subst p1 p2 p3 p4
      simp only at hrows
      have m1 : (⟨b, r.c, r.t, r.own⟩ : Rw) ∈ M := by rw [hrows]; exact List.mem_append_right _ (List.mem_cons_self ..)
      have m2 : gRow m t ∈ M := by rw [hrows]; exact List.mem_append_right _ (List.mem_cons_of_mem _ (setEnd_mem (List.mem_cons_self ..)))
      have hs : SG w [Hv.row ⟨b, 0, n, cap, r.c, r.t⟩, gRow m t] w := sg_given hS (fun q hq => by
       rcases List.mem_cons.1 hq with rfl | hq
       ·exact ⟨_, m1, rfl, rfl, rfl⟩
       ·obtain rfl := List.mem_singleton.1 hq
        exact ⟨_, m2, rfl, rfl, rfl⟩) (fun q hq => by
       rcases List.mem_cons.1 hq with rfl | hq
       ·rfl
       ·obtain rfl := List.mem_singleton.1 hq
        rfl)
      refine (K.2 B lv ln lc ⟨b, 0, n, cap, r.c, r.t⟩ (numAt r.c) hne ⟨p7, p6, fun j hj => ?_⟩ w hs).mono ?_
      ·show r.c[0 + j]? = _
       rw [Nat.zero_add]
       exact allNum_out p5 j hj
      ·intro e w' h
       unfold AnsOr at h
       rw [if_pos rfl] at h
       obtain ⟨b2, tl, rfl, h2⟩ := h
       exact ⟨[⟨b2, fun _ => undef, tl⟩], rfl, rfl, sg_over hS rfl h2⟩
     ·cases hq
  ·cases hq
theorem is_co (m : Int) (t : Gt) (A L H : Int) : DoIs m t 64780 A L H 0 (fun _ => [getI (both64 L H) 64 0, getI (both64 L H) 64 1]) true := by
 refine ⟨fun B lv hp ln lc n cap hn w hS => do_constbad m t A B L H lv hp ln lc n cap hn w hS, fun B lv ln lc h x hn ho w hS => ?_⟩
 obtain ⟨hb, o, n, cap, hc, ht⟩ := h
 obtain rfl : n = 0 := hn
 exact (do_const m t A B L H lv (some ⟨hb, o, none⟩) ln lc cap w (sg_g hS)).mono fun e w' ⟨β, he, hs⟩ => ans_t rfl ⟨(β 15).b, (β 15).t, he, hs⟩
def DoNo (m : Int) (t : Gt) (op : Int) : Prop := ∀ (A B L H : Int) (lv hp : Option Addr) (ln lc n cap : Nat) (w : World), SG w [gRow m t] w → Calls Try.prog 10 #[ins op A B L H (.slice lv ln lc), .slice hp n cap] w (Err w)
noncomputable def doN (g : Rw) (op : Int) : CsF := fun f args M =>
 match Nat.beq f 10 with
 | false => none
 | true => match args with
  | [.agg ⟨[.int .i64 op', .int .i64 _, .int .i64 _, .int .u64 _, .int .u64 _, .slice _ _ _]⟩, .slice _ _ _] => some ⟨setEnd M [g], [decide (op' = op)], 0, fun _ => err1, fun _ => []⟩
  | _ => none
theorem doN_ok (m : Int) (t : Gt) (op : Int) (K : DoNo m t op) : COk (doN (gRow m t) op) := by
 intro f args M H' hq hrows hpre w0 w hS
 unfold doN at hq
 split at hq
 ·cases hq
 ·rename_i hf
  obtain rfl := Nat.eq_of_beq_eq_true hf
  split at hq
  ·rename_i op' A' B L' Hh lv ln lc hp n cap
   cases hq
   have p1 := of_decide_eq_true (hpre _ (List.mem_cons_self ..))
   subst p1
   simp only at hrows
   have m2 : gRow m t ∈ M := by rw [hrows]; exact setEnd_mem (List.mem_cons_self ..)
   have hs : SG w [gRow m t] w := sg_given hS (fun r hr => by obtain rfl := List.mem_singleton.1 hr; exact ⟨_, m2, rfl, rfl, rfl⟩) (fun r hr => by obtain rfl := List.mem_singleton.1 hr; rfl)
   exact (K A' B L' Hh lv hp ln lc n cap w hs).mono fun e w' h => ⟨[], rfl, h.1, hS.grow h.2⟩
  ·cases hq
theorem no_un {m : Int} {t : Gt} {op : Int} (K : Unknown op) : DoNo m t op := fun A B L H lv hp ln lc n cap w _ => do_none op A B L H K lv hp ln lc n cap w
theorem no_mem {m : Int} {t : Gt} {op f l : Int} {s : ByteArray} (hq : ¬ op < 64768) (K : KnownP ⟨op, f, l, s⟩) (hf : f = 7 ∨ f = 8) : DoNo m t op := fun A B L H lv hp ln lc n cap w hS => by
 rcases hf with rfl | rfl
 ·exact do_mem7 m t op l s K hq A B L H lv hp ln lc n cap w hS
 ·exact do_mem8 m t op l s K hq A B L H lv hp ln lc n cap w hS
theorem no_sca {m : Int} {t : Gt} {q : Q} (hq : q.n < 64768) (K : KnownP q) : DoNo m t q.n := fun A B L H lv hp ln lc n cap w hS => do_sca m t q K hq A B L H lv hp ln lc n cap w hS
end Vc
end Go.Proofs.Ytjoalcaooccbiaa
