/-
  Texts of this seat, joined: VcCl, VcLw. Each says what it proves.
-/
import Derived.Test.YtjoalcaooccbiaaMg20
/- VcCl -/
namespace Go.Proofs.Ytjoalcaooccbiaa
open Go.RowKit VecM Ev
namespace Vc
def kqB (m n f : Int) (s : ByteArray) : Bool := (n - 64768 == m) && decide (64768 ≤ n) && decide (n - 64768 ≤ 9223372036854775807) && (f != 0) && decide (s.size < 1000) && decide (0 < (Ins.cutA s).size) && decide ((Ins.cutA s).size ≤ 1000) && decide (0 < (Ins.cutB s).size) && decide ((Ins.cutB s).size ≤ 1000) && Ins.cutP s
theorem kq {n f l : Int} {s : ByteArray} (m : Int) (h : kqB m n f s = true) (hr : ∀ w, Calls Try.prog 27 #[.int .i64 m] w (Ins.RES f l s w)) : Known ⟨n, f, l, s⟩ := by
  simp only [kqB, Bool.and_eq_true, decide_eq_true_eq, beq_iff_eq, bne_iff_ne] at h
  obtain ⟨⟨⟨⟨⟨⟨⟨⟨⟨h1, h2⟩, h3⟩, h4⟩, h5⟩, h6⟩, h7⟩, h8⟩, h9⟩, h10⟩ := h
  exact kn m h1 h2 h3 (beq_eq_false_iff_ne.2 h4) h5 ⟨h6, h7⟩ ⟨h8, h9⟩ h10 hr
def ClOk (op : Int) : Pa → Prop
  | .no => Unknown op
  | .mem => ∃ f l s, KnownP ⟨op, f, l, s⟩ ∧ (f = 7 ∧ s = ⟨#[105, 58, 118]⟩ ∨ f = 8 ∧ s = ⟨#[105, 118, 58, 118]⟩ ∨ f = 7 ∧ s = ⟨#[105, 118, 58]⟩ ∨ f = 8 ∧ s = ⟨#[105, 118, 58]⟩)
  | .co => op = 64780
  | p => (∃ l, Known ⟨op, formP p, l, strP p⟩) ∧ testP p op = true
theorem cl0 : ClOk 64768 .mem := ⟨7, 4, ⟨#[105, 58, 118]⟩, ⟨by decide, by decide, by decide +kernel, by decide +kernel, .inl ⟨by decide, by decide, fun w => Ins.top_va0 0 7 4 _ (by decide) (by decide) (fun w => Ins.va_0 w) w⟩⟩, .inl ⟨rfl, rfl⟩⟩
theorem cl1 : ClOk 64769 .mem := ⟨7, 3, ⟨#[105, 58, 118]⟩, ⟨by decide, by decide, by decide +kernel, by decide +kernel, .inl ⟨by decide, by decide, fun w => Ins.top_va0 1 7 3 _ (by decide) (by decide) (fun w => Ins.va_1 1 (by decide) (by decide) w) w⟩⟩, .inl ⟨rfl, rfl⟩⟩
theorem cl2 : ClOk 64770 .mem := ⟨7, 3, ⟨#[105, 58, 118]⟩, ⟨by decide, by decide, by decide +kernel, by decide +kernel, .inl ⟨by decide, by decide, fun w => Ins.top_va0 2 7 3 _ (by decide) (by decide) (fun w => Ins.va_1 2 (by decide) (by decide) w) w⟩⟩, .inl ⟨rfl, rfl⟩⟩
theorem cl3 : ClOk 64771 .mem := ⟨7, 3, ⟨#[105, 58, 118]⟩, ⟨by decide, by decide, by decide +kernel, by decide +kernel, .inl ⟨by decide, by decide, fun w => Ins.top_va0 3 7 3 _ (by decide) (by decide) (fun w => Ins.va_1 3 (by decide) (by decide) w) w⟩⟩, .inl ⟨rfl, rfl⟩⟩
theorem cl4 : ClOk 64772 .mem := ⟨7, 3, ⟨#[105, 58, 118]⟩, ⟨by decide, by decide, by decide +kernel, by decide +kernel, .inl ⟨by decide, by decide, fun w => Ins.top_va0 4 7 3 _ (by decide) (by decide) (fun w => Ins.va_1 4 (by decide) (by decide) w) w⟩⟩, .inl ⟨rfl, rfl⟩⟩
theorem cl5 : ClOk 64773 .mem := ⟨7, 3, ⟨#[105, 58, 118]⟩, ⟨by decide, by decide, by decide +kernel, by decide +kernel, .inl ⟨by decide, by decide, fun w => Ins.top_va0 5 7 3 _ (by decide) (by decide) (fun w => Ins.va_1 5 (by decide) (by decide) w) w⟩⟩, .inl ⟨rfl, rfl⟩⟩
theorem cl6 : ClOk 64774 .mem := ⟨7, 3, ⟨#[105, 58, 118]⟩, ⟨by decide, by decide, by decide +kernel, by decide +kernel, .inl ⟨by decide, by decide, fun w => Ins.top_va0 6 7 3 _ (by decide) (by decide) (fun w => Ins.va_1 6 (by decide) (by decide) w) w⟩⟩, .inl ⟨rfl, rfl⟩⟩
theorem cl7 : ClOk 64775 .mem := ⟨7, 0, ⟨#[105, 58, 118]⟩, ⟨by decide, by decide, by decide +kernel, by decide +kernel, .inl ⟨by decide, by decide, fun w => Ins.top_va0 7 7 0 _ (by decide) (by decide) (fun w => Ins.va_2 w) w⟩⟩, .inl ⟨rfl, rfl⟩⟩
theorem cl8 : ClOk 64776 .mem := ⟨7, 1, ⟨#[105, 58, 118]⟩, ⟨by decide, by decide, by decide +kernel, by decide +kernel, .inl ⟨by decide, by decide, fun w => Ins.top_va0 8 7 1 _ (by decide) (by decide) (fun w => Ins.va_3 w) w⟩⟩, .inl ⟨rfl, rfl⟩⟩
theorem cl9 : ClOk 64777 .mem := ⟨7, 2, ⟨#[105, 58, 118]⟩, ⟨by decide, by decide, by decide +kernel, by decide +kernel, .inl ⟨by decide, by decide, fun w => Ins.top_va0 9 7 2 _ (by decide) (by decide) (fun w => Ins.va_4 w) w⟩⟩, .inl ⟨rfl, rfl⟩⟩
theorem cl10 : ClOk 64778 .mem := ⟨7, 3, ⟨#[105, 58, 118]⟩, ⟨by decide, by decide, by decide +kernel, by decide +kernel, .inl ⟨by decide, by decide, fun w => Ins.top_va0 10 7 3 _ (by decide) (by decide) (fun w => Ins.va_5 w) w⟩⟩, .inl ⟨rfl, rfl⟩⟩
theorem cl11 : ClOk 64779 .mem := ⟨7, 4, ⟨#[105, 118, 58]⟩, ⟨by decide, by decide, by decide +kernel, by decide +kernel, .inl ⟨by decide, by decide, fun w => Ins.top_va0 11 7 4 _ (by decide) (by decide) (fun w => Ins.va_6 w) w⟩⟩, .inr (.inr (.inl ⟨rfl, rfl⟩))⟩
theorem cl12 : ClOk 64780 .co := rfl
theorem cl13 : ClOk 64781 .shf := ⟨⟨0, kq 13 (by decide +kernel) (fun w => Ins.top_vm0 13 12 0 _ (by decide) (by decide) (fun w => Ins.vm_1 w) w)⟩, by decide +kernel⟩
theorem cl14 : ClOk 64782 .swz := ⟨⟨0, kq 14 (by decide +kernel) (fun w => Ins.top_vm0 14 1 0 _ (by decide) (by decide) (fun w => Ins.vm_2 w) w)⟩, by decide +kernel⟩
theorem cl15 : ClOk 64783 .spi := ⟨⟨0, kq 15 (by decide +kernel) (fun w => Ins.top_vm0 15 1 0 _ (by decide) (by decide) (fun w => Ins.vm_3 w) w)⟩, by decide +kernel⟩
theorem cl16 : ClOk 64784 .spi := ⟨⟨0, kq 16 (by decide +kernel) (fun w => Ins.top_vm0 16 1 0 _ (by decide) (by decide) (fun w => Ins.vm_4 w) w)⟩, by decide +kernel⟩
theorem cl17 : ClOk 64785 .spi := ⟨⟨0, kq 17 (by decide +kernel) (fun w => Ins.top_vm0 17 1 0 _ (by decide) (by decide) (fun w => Ins.vm_5 w) w)⟩, by decide +kernel⟩
theorem cl18 : ClOk 64786 .spl := ⟨⟨0, kq 18 (by decide +kernel) (fun w => Ins.top_vm0 18 1 0 _ (by decide) (by decide) (fun w => Ins.vm_6 w) w)⟩, by decide +kernel⟩
theorem cl19 : ClOk 64787 .no := .inl ⟨by decide, by decide, 0, _, fun w => Ins.top_vm0 19 0 0 _ (by decide) (by decide) (fun w => Ins.vm_7 19 (by decide) (by decide) w) w⟩
theorem cl20 : ClOk 64788 .no := .inl ⟨by decide, by decide, 0, _, fun w => Ins.top_vm0 20 0 0 _ (by decide) (by decide) (fun w => Ins.vm_7 20 (by decide) (by decide) w) w⟩
theorem cl21 : ClOk 64789 .exi := ⟨⟨16, kq 21 (by decide +kernel) (fun w => Ins.top_vm0 21 13 16 _ (by decide) (by decide) (fun w => Ins.vm_8 w) w)⟩, by decide +kernel⟩
theorem cl22 : ClOk 64790 .exi := ⟨⟨16, kq 22 (by decide +kernel) (fun w => Ins.top_vm0 22 13 16 _ (by decide) (by decide) (fun w => Ins.vm_9 w) w)⟩, by decide +kernel⟩
theorem cl23 : ClOk 64791 .rei := ⟨⟨16, kq 23 (by decide +kernel) (fun w => Ins.top_vm0 23 13 16 _ (by decide) (by decide) (fun w => Ins.vm_10 w) w)⟩, by decide +kernel⟩
theorem cl24 : ClOk 64792 .exi := ⟨⟨8, kq 24 (by decide +kernel) (fun w => Ins.top_vm0 24 13 8 _ (by decide) (by decide) (fun w => Ins.vm_11 w) w)⟩, by decide +kernel⟩
theorem cl25 : ClOk 64793 .exi := ⟨⟨8, kq 25 (by decide +kernel) (fun w => Ins.top_vm0 25 13 8 _ (by decide) (by decide) (fun w => Ins.vm_12 w) w)⟩, by decide +kernel⟩
theorem cl26 : ClOk 64794 .rei := ⟨⟨8, kq 26 (by decide +kernel) (fun w => Ins.top_vm0 26 13 8 _ (by decide) (by decide) (fun w => Ins.vm_13 w) w)⟩, by decide +kernel⟩
theorem cl27 : ClOk 64795 .exi := ⟨⟨4, kq 27 (by decide +kernel) (fun w => Ins.top_vm0 27 13 4 _ (by decide) (by decide) (fun w => Ins.vm_14 w) w)⟩, by decide +kernel⟩
theorem cl28 : ClOk 64796 .rei := ⟨⟨4, kq 28 (by decide +kernel) (fun w => Ins.top_vm0 28 13 4 _ (by decide) (by decide) (fun w => Ins.vm_15 w) w)⟩, by decide +kernel⟩
theorem cl29 : ClOk 64797 .exl := ⟨⟨2, kq 29 (by decide +kernel) (fun w => Ins.top_vm0 29 13 2 _ (by decide) (by decide) (fun w => Ins.vm_16 w) w)⟩, by decide +kernel⟩
theorem cl30 : ClOk 64798 .rel := ⟨⟨2, kq 30 (by decide +kernel) (fun w => Ins.top_vm0 30 13 2 _ (by decide) (by decide) (fun w => Ins.vm_17 w) w)⟩, by decide +kernel⟩
theorem cl31 : ClOk 64799 .no := .inl ⟨by decide, by decide, 0, _, fun w => Ins.top_vm0 31 0 0 _ (by decide) (by decide) (fun w => Ins.vm_18 31 (by decide) (by decide) w) w⟩
theorem cl32 : ClOk 64800 .no := .inl ⟨by decide, by decide, 0, _, fun w => Ins.top_vm0 32 0 0 _ (by decide) (by decide) (fun w => Ins.vm_18 32 (by decide) (by decide) w) w⟩
theorem cl33 : ClOk 64801 .no := .inl ⟨by decide, by decide, 0, _, fun w => Ins.top_vm0 33 0 0 _ (by decide) (by decide) (fun w => Ins.vm_18 33 (by decide) (by decide) w) w⟩
theorem cl34 : ClOk 64802 .no := .inl ⟨by decide, by decide, 0, _, fun w => Ins.top_vm0 34 0 0 _ (by decide) (by decide) (fun w => Ins.vm_18 34 (by decide) (by decide) w) w⟩
theorem cl35 : ClOk 64803 .cmp := ⟨⟨0, kq 35 (by decide +kernel) (fun w => Ins.top_vb0 35 1 0 _ (by decide) (by decide) (fun w => Ins.vb_0 35 (by decide) (by decide) w) w)⟩, by decide +kernel⟩
theorem cl36 : ClOk 64804 .cmp := ⟨⟨0, kq 36 (by decide +kernel) (fun w => Ins.top_vb0 36 1 0 _ (by decide) (by decide) (fun w => Ins.vb_0 36 (by decide) (by decide) w) w)⟩, by decide +kernel⟩
theorem cl37 : ClOk 64805 .cmp := ⟨⟨0, kq 37 (by decide +kernel) (fun w => Ins.top_vb0 37 1 0 _ (by decide) (by decide) (fun w => Ins.vb_0 37 (by decide) (by decide) w) w)⟩, by decide +kernel⟩
theorem cl38 : ClOk 64806 .cmp := ⟨⟨0, kq 38 (by decide +kernel) (fun w => Ins.top_vb0 38 1 0 _ (by decide) (by decide) (fun w => Ins.vb_0 38 (by decide) (by decide) w) w)⟩, by decide +kernel⟩
theorem cl39 : ClOk 64807 .cmp := ⟨⟨0, kq 39 (by decide +kernel) (fun w => Ins.top_vb0 39 1 0 _ (by decide) (by decide) (fun w => Ins.vb_0 39 (by decide) (by decide) w) w)⟩, by decide +kernel⟩
theorem cl40 : ClOk 64808 .cmp := ⟨⟨0, kq 40 (by decide +kernel) (fun w => Ins.top_vb0 40 1 0 _ (by decide) (by decide) (fun w => Ins.vb_0 40 (by decide) (by decide) w) w)⟩, by decide +kernel⟩
theorem cl41 : ClOk 64809 .cmp := ⟨⟨0, kq 41 (by decide +kernel) (fun w => Ins.top_vb0 41 1 0 _ (by decide) (by decide) (fun w => Ins.vb_0 41 (by decide) (by decide) w) w)⟩, by decide +kernel⟩
theorem cl42 : ClOk 64810 .cmp := ⟨⟨0, kq 42 (by decide +kernel) (fun w => Ins.top_vb0 42 1 0 _ (by decide) (by decide) (fun w => Ins.vb_0 42 (by decide) (by decide) w) w)⟩, by decide +kernel⟩
theorem cl43 : ClOk 64811 .cmp := ⟨⟨0, kq 43 (by decide +kernel) (fun w => Ins.top_vb0 43 1 0 _ (by decide) (by decide) (fun w => Ins.vb_0 43 (by decide) (by decide) w) w)⟩, by decide +kernel⟩
theorem cl44 : ClOk 64812 .cmp := ⟨⟨0, kq 44 (by decide +kernel) (fun w => Ins.top_vb0 44 1 0 _ (by decide) (by decide) (fun w => Ins.vb_0 44 (by decide) (by decide) w) w)⟩, by decide +kernel⟩
theorem cl45 : ClOk 64813 .cmp := ⟨⟨0, kq 45 (by decide +kernel) (fun w => Ins.top_vb0 45 1 0 _ (by decide) (by decide) (fun w => Ins.vb_0 45 (by decide) (by decide) w) w)⟩, by decide +kernel⟩
theorem cl46 : ClOk 64814 .cmp := ⟨⟨0, kq 46 (by decide +kernel) (fun w => Ins.top_vb0 46 1 0 _ (by decide) (by decide) (fun w => Ins.vb_0 46 (by decide) (by decide) w) w)⟩, by decide +kernel⟩
theorem cl47 : ClOk 64815 .cmp := ⟨⟨0, kq 47 (by decide +kernel) (fun w => Ins.top_vb0 47 1 0 _ (by decide) (by decide) (fun w => Ins.vb_0 47 (by decide) (by decide) w) w)⟩, by decide +kernel⟩
theorem cl48 : ClOk 64816 .cmp := ⟨⟨0, kq 48 (by decide +kernel) (fun w => Ins.top_vb0 48 1 0 _ (by decide) (by decide) (fun w => Ins.vb_0 48 (by decide) (by decide) w) w)⟩, by decide +kernel⟩
theorem cl49 : ClOk 64817 .cmp := ⟨⟨0, kq 49 (by decide +kernel) (fun w => Ins.top_vb0 49 1 0 _ (by decide) (by decide) (fun w => Ins.vb_0 49 (by decide) (by decide) w) w)⟩, by decide +kernel⟩
theorem cl50 : ClOk 64818 .cmp := ⟨⟨0, kq 50 (by decide +kernel) (fun w => Ins.top_vb0 50 1 0 _ (by decide) (by decide) (fun w => Ins.vb_0 50 (by decide) (by decide) w) w)⟩, by decide +kernel⟩
theorem cl51 : ClOk 64819 .cmp := ⟨⟨0, kq 51 (by decide +kernel) (fun w => Ins.top_vb0 51 1 0 _ (by decide) (by decide) (fun w => Ins.vb_0 51 (by decide) (by decide) w) w)⟩, by decide +kernel⟩
theorem cl52 : ClOk 64820 .cmp := ⟨⟨0, kq 52 (by decide +kernel) (fun w => Ins.top_vb0 52 1 0 _ (by decide) (by decide) (fun w => Ins.vb_0 52 (by decide) (by decide) w) w)⟩, by decide +kernel⟩
theorem cl53 : ClOk 64821 .cmp := ⟨⟨0, kq 53 (by decide +kernel) (fun w => Ins.top_vb0 53 1 0 _ (by decide) (by decide) (fun w => Ins.vb_0 53 (by decide) (by decide) w) w)⟩, by decide +kernel⟩
theorem cl54 : ClOk 64822 .cmp := ⟨⟨0, kq 54 (by decide +kernel) (fun w => Ins.top_vb0 54 1 0 _ (by decide) (by decide) (fun w => Ins.vb_0 54 (by decide) (by decide) w) w)⟩, by decide +kernel⟩
theorem cl55 : ClOk 64823 .cmp := ⟨⟨0, kq 55 (by decide +kernel) (fun w => Ins.top_vb0 55 1 0 _ (by decide) (by decide) (fun w => Ins.vb_0 55 (by decide) (by decide) w) w)⟩, by decide +kernel⟩
theorem cl56 : ClOk 64824 .cmp := ⟨⟨0, kq 56 (by decide +kernel) (fun w => Ins.top_vb0 56 1 0 _ (by decide) (by decide) (fun w => Ins.vb_0 56 (by decide) (by decide) w) w)⟩, by decide +kernel⟩
theorem cl57 : ClOk 64825 .cmp := ⟨⟨0, kq 57 (by decide +kernel) (fun w => Ins.top_vb0 57 1 0 _ (by decide) (by decide) (fun w => Ins.vb_0 57 (by decide) (by decide) w) w)⟩, by decide +kernel⟩
theorem cl58 : ClOk 64826 .cmp := ⟨⟨0, kq 58 (by decide +kernel) (fun w => Ins.top_vb0 58 1 0 _ (by decide) (by decide) (fun w => Ins.vb_0 58 (by decide) (by decide) w) w)⟩, by decide +kernel⟩
theorem cl59 : ClOk 64827 .cmp := ⟨⟨0, kq 59 (by decide +kernel) (fun w => Ins.top_vb0 59 1 0 _ (by decide) (by decide) (fun w => Ins.vb_0 59 (by decide) (by decide) w) w)⟩, by decide +kernel⟩
theorem cl60 : ClOk 64828 .cmp := ⟨⟨0, kq 60 (by decide +kernel) (fun w => Ins.top_vb0 60 1 0 _ (by decide) (by decide) (fun w => Ins.vb_0 60 (by decide) (by decide) w) w)⟩, by decide +kernel⟩
theorem cl61 : ClOk 64829 .cmp := ⟨⟨0, kq 61 (by decide +kernel) (fun w => Ins.top_vb0 61 1 0 _ (by decide) (by decide) (fun w => Ins.vb_0 61 (by decide) (by decide) w) w)⟩, by decide +kernel⟩
theorem cl62 : ClOk 64830 .cmp := ⟨⟨0, kq 62 (by decide +kernel) (fun w => Ins.top_vb0 62 1 0 _ (by decide) (by decide) (fun w => Ins.vb_0 62 (by decide) (by decide) w) w)⟩, by decide +kernel⟩
theorem cl63 : ClOk 64831 .cmp := ⟨⟨0, kq 63 (by decide +kernel) (fun w => Ins.top_vb0 63 1 0 _ (by decide) (by decide) (fun w => Ins.vb_0 63 (by decide) (by decide) w) w)⟩, by decide +kernel⟩
theorem cl64 : ClOk 64832 .cmp := ⟨⟨0, kq 64 (by decide +kernel) (fun w => Ins.top_vb0 64 1 0 _ (by decide) (by decide) (fun w => Ins.vb_0 64 (by decide) (by decide) w) w)⟩, by decide +kernel⟩
theorem cl65 : ClOk 64833 .no := .inl ⟨by decide, by decide, 0, _, fun w => Ins.top_vb0 65 0 0 _ (by decide) (by decide) (fun w => Ins.vb_1 65 (by decide) (by decide) w) w⟩
theorem cl66 : ClOk 64834 .no := .inl ⟨by decide, by decide, 0, _, fun w => Ins.top_vb0 66 0 0 _ (by decide) (by decide) (fun w => Ins.vb_1 66 (by decide) (by decide) w) w⟩
theorem cl67 : ClOk 64835 .no := .inl ⟨by decide, by decide, 0, _, fun w => Ins.top_vb0 67 0 0 _ (by decide) (by decide) (fun w => Ins.vb_1 67 (by decide) (by decide) w) w⟩
theorem cl68 : ClOk 64836 .no := .inl ⟨by decide, by decide, 0, _, fun w => Ins.top_vb0 68 0 0 _ (by decide) (by decide) (fun w => Ins.vb_1 68 (by decide) (by decide) w) w⟩
theorem cl69 : ClOk 64837 .no := .inl ⟨by decide, by decide, 0, _, fun w => Ins.top_vb0 69 0 0 _ (by decide) (by decide) (fun w => Ins.vb_1 69 (by decide) (by decide) w) w⟩
theorem cl70 : ClOk 64838 .no := .inl ⟨by decide, by decide, 0, _, fun w => Ins.top_vb0 70 0 0 _ (by decide) (by decide) (fun w => Ins.vb_1 70 (by decide) (by decide) w) w⟩
theorem cl71 : ClOk 64839 .no := .inl ⟨by decide, by decide, 0, _, fun w => Ins.top_vb0 71 0 0 _ (by decide) (by decide) (fun w => Ins.vb_1 71 (by decide) (by decide) w) w⟩
theorem cl72 : ClOk 64840 .no := .inl ⟨by decide, by decide, 0, _, fun w => Ins.top_vb0 72 0 0 _ (by decide) (by decide) (fun w => Ins.vb_1 72 (by decide) (by decide) w) w⟩
theorem cl73 : ClOk 64841 .no := .inl ⟨by decide, by decide, 0, _, fun w => Ins.top_vb0 73 0 0 _ (by decide) (by decide) (fun w => Ins.vb_1 73 (by decide) (by decide) w) w⟩
theorem cl74 : ClOk 64842 .no := .inl ⟨by decide, by decide, 0, _, fun w => Ins.top_vb0 74 0 0 _ (by decide) (by decide) (fun w => Ins.vb_1 74 (by decide) (by decide) w) w⟩
theorem cl75 : ClOk 64843 .no := .inl ⟨by decide, by decide, 0, _, fun w => Ins.top_vb0 75 0 0 _ (by decide) (by decide) (fun w => Ins.vb_1 75 (by decide) (by decide) w) w⟩
theorem cl76 : ClOk 64844 .no := .inl ⟨by decide, by decide, 0, _, fun w => Ins.top_vb0 76 0 0 _ (by decide) (by decide) (fun w => Ins.vb_1 76 (by decide) (by decide) w) w⟩
theorem cl77 : ClOk 64845 .bits77 := ⟨⟨0, kq 77 (by decide +kernel) (fun w => Ins.top_vb0 77 1 0 _ (by decide) (by decide) (fun w => Ins.vb_2 w) w)⟩, by decide +kernel⟩
theorem cl78 : ClOk 64846 .bits78 := ⟨⟨0, kq 78 (by decide +kernel) (fun w => Ins.top_vb0 78 1 0 _ (by decide) (by decide) (fun w => Ins.vb_3 78 (by decide) (by decide) w) w)⟩, by decide +kernel⟩
theorem cl79 : ClOk 64847 .bits79 := ⟨⟨0, kq 79 (by decide +kernel) (fun w => Ins.top_vb0 79 1 0 _ (by decide) (by decide) (fun w => Ins.vb_3 79 (by decide) (by decide) w) w)⟩, by decide +kernel⟩
theorem cl80 : ClOk 64848 .bits80 := ⟨⟨0, kq 80 (by decide +kernel) (fun w => Ins.top_vb0 80 1 0 _ (by decide) (by decide) (fun w => Ins.vb_3 80 (by decide) (by decide) w) w)⟩, by decide +kernel⟩
theorem cl81 : ClOk 64849 .bits81 := ⟨⟨0, kq 81 (by decide +kernel) (fun w => Ins.top_vb0 81 1 0 _ (by decide) (by decide) (fun w => Ins.vb_3 81 (by decide) (by decide) w) w)⟩, by decide +kernel⟩
theorem cl82 : ClOk 64850 .bits82 := ⟨⟨0, kq 82 (by decide +kernel) (fun w => Ins.top_vb0 82 1 0 _ (by decide) (by decide) (fun w => Ins.vb_4 w) w)⟩, by decide +kernel⟩
theorem cl83 : ClOk 64851 .test := ⟨⟨0, kq 83 (by decide +kernel) (fun w => Ins.top_vb0 83 1 0 _ (by decide) (by decide) (fun w => Ins.vb_5 w) w)⟩, by decide +kernel⟩
theorem cl84 : ClOk 64852 .mem := ⟨8, 0, ⟨#[105, 118, 58, 118]⟩, ⟨by decide, by decide, by decide +kernel, by decide +kernel, .inl ⟨by decide, by decide, fun w => Ins.top_va1 84 8 0 _ (by decide) (by decide) (fun w => Ins.va_7 w) w⟩⟩, .inr (.inl ⟨rfl, rfl⟩)⟩
theorem cl85 : ClOk 64853 .mem := ⟨8, 1, ⟨#[105, 118, 58, 118]⟩, ⟨by decide, by decide, by decide +kernel, by decide +kernel, .inl ⟨by decide, by decide, fun w => Ins.top_va1 85 8 1 _ (by decide) (by decide) (fun w => Ins.va_8 w) w⟩⟩, .inr (.inl ⟨rfl, rfl⟩)⟩
theorem cl86 : ClOk 64854 .mem := ⟨8, 2, ⟨#[105, 118, 58, 118]⟩, ⟨by decide, by decide, by decide +kernel, by decide +kernel, .inl ⟨by decide, by decide, fun w => Ins.top_va1 86 8 2 _ (by decide) (by decide) (fun w => Ins.va_9 w) w⟩⟩, .inr (.inl ⟨rfl, rfl⟩)⟩
theorem cl87 : ClOk 64855 .mem := ⟨8, 3, ⟨#[105, 118, 58, 118]⟩, ⟨by decide, by decide, by decide +kernel, by decide +kernel, .inl ⟨by decide, by decide, fun w => Ins.top_va1 87 8 3 _ (by decide) (by decide) (fun w => Ins.va_10 w) w⟩⟩, .inr (.inl ⟨rfl, rfl⟩)⟩
theorem cl88 : ClOk 64856 .mem := ⟨8, 0, ⟨#[105, 118, 58]⟩, ⟨by decide, by decide, by decide +kernel, by decide +kernel, .inl ⟨by decide, by decide, fun w => Ins.top_va1 88 8 0 _ (by decide) (by decide) (fun w => Ins.va_11 w) w⟩⟩, .inr (.inr (.inr ⟨rfl, rfl⟩))⟩
theorem cl89 : ClOk 64857 .mem := ⟨8, 1, ⟨#[105, 118, 58]⟩, ⟨by decide, by decide, by decide +kernel, by decide +kernel, .inl ⟨by decide, by decide, fun w => Ins.top_va1 89 8 1 _ (by decide) (by decide) (fun w => Ins.va_12 w) w⟩⟩, .inr (.inr (.inr ⟨rfl, rfl⟩))⟩
theorem cl90 : ClOk 64858 .mem := ⟨8, 2, ⟨#[105, 118, 58]⟩, ⟨by decide, by decide, by decide +kernel, by decide +kernel, .inl ⟨by decide, by decide, fun w => Ins.top_va1 90 8 2 _ (by decide) (by decide) (fun w => Ins.va_13 w) w⟩⟩, .inr (.inr (.inr ⟨rfl, rfl⟩))⟩
theorem cl91 : ClOk 64859 .mem := ⟨8, 3, ⟨#[105, 118, 58]⟩, ⟨by decide, by decide, by decide +kernel, by decide +kernel, .inl ⟨by decide, by decide, fun w => Ins.top_va1 91 8 3 _ (by decide) (by decide) (fun w => Ins.va_14 w) w⟩⟩, .inr (.inr (.inr ⟨rfl, rfl⟩))⟩
theorem cl92 : ClOk 64860 .mem := ⟨7, 2, ⟨#[105, 58, 118]⟩, ⟨by decide, by decide, by decide +kernel, by decide +kernel, .inl ⟨by decide, by decide, fun w => Ins.top_va1 92 7 2 _ (by decide) (by decide) (fun w => Ins.va_15 w) w⟩⟩, .inl ⟨rfl, rfl⟩⟩
theorem cl93 : ClOk 64861 .mem := ⟨7, 3, ⟨#[105, 58, 118]⟩, ⟨by decide, by decide, by decide +kernel, by decide +kernel, .inl ⟨by decide, by decide, fun w => Ins.top_va1 93 7 3 _ (by decide) (by decide) (fun w => Ins.va_16 w) w⟩⟩, .inl ⟨rfl, rfl⟩⟩
theorem cl94 : ClOk 64862 .no := .inl ⟨by decide, by decide, 0, _, fun w => Ins.top_vn0 94 0 0 _ (by decide) (by decide) (fun w => Ins.vn_0 94 (by decide) (by decide) w) w⟩
theorem cl95 : ClOk 64863 .no := .inl ⟨by decide, by decide, 0, _, fun w => Ins.top_vn0 95 0 0 _ (by decide) (by decide) (fun w => Ins.vn_0 95 (by decide) (by decide) w) w⟩
theorem cl96 : ClOk 64864 .aun := ⟨⟨0, kq 96 (by decide +kernel) (fun w => Ins.top_vn0 96 1 0 _ (by decide) (by decide) (fun w => Ins.vn_1 96 (by decide) (by decide) w) w)⟩, by decide +kernel⟩
theorem cl97 : ClOk 64865 .aun := ⟨⟨0, kq 97 (by decide +kernel) (fun w => Ins.top_vn0 97 1 0 _ (by decide) (by decide) (fun w => Ins.vn_1 97 (by decide) (by decide) w) w)⟩, by decide +kernel⟩
theorem cl98 : ClOk 64866 .aun := ⟨⟨0, kq 98 (by decide +kernel) (fun w => Ins.top_vn0 98 1 0 _ (by decide) (by decide) (fun w => Ins.vn_1 98 (by decide) (by decide) w) w)⟩, by decide +kernel⟩
theorem cl99 : ClOk 64867 .test := ⟨⟨0, kq 99 (by decide +kernel) (fun w => Ins.top_vn0 99 1 0 _ (by decide) (by decide) (fun w => Ins.vn_2 99 (by decide) (by decide) w) w)⟩, by decide +kernel⟩
theorem cl100 : ClOk 64868 .test := ⟨⟨0, kq 100 (by decide +kernel) (fun w => Ins.top_vn0 100 1 0 _ (by decide) (by decide) (fun w => Ins.vn_2 100 (by decide) (by decide) w) w)⟩, by decide +kernel⟩
theorem cl101 : ClOk 64869 .wbin := ⟨⟨0, kq 101 (by decide +kernel) (fun w => Ins.top_vn0 101 1 0 _ (by decide) (by decide) (fun w => Ins.vn_3 101 (by decide) (by decide) w) w)⟩, by decide +kernel⟩
theorem cl102 : ClOk 64870 .wbin := ⟨⟨0, kq 102 (by decide +kernel) (fun w => Ins.top_vn0 102 1 0 _ (by decide) (by decide) (fun w => Ins.vn_3 102 (by decide) (by decide) w) w)⟩, by decide +kernel⟩
theorem cl103 : ClOk 64871 .no := .inl ⟨by decide, by decide, 0, _, fun w => Ins.top_vn0 103 0 0 _ (by decide) (by decide) (fun w => Ins.vn_4 103 (by decide) (by decide) w) w⟩
theorem cl104 : ClOk 64872 .no := .inl ⟨by decide, by decide, 0, _, fun w => Ins.top_vn0 104 0 0 _ (by decide) (by decide) (fun w => Ins.vn_4 104 (by decide) (by decide) w) w⟩
theorem cl105 : ClOk 64873 .no := .inl ⟨by decide, by decide, 0, _, fun w => Ins.top_vn0 105 0 0 _ (by decide) (by decide) (fun w => Ins.vn_4 105 (by decide) (by decide) w) w⟩
theorem cl106 : ClOk 64874 .no := .inl ⟨by decide, by decide, 0, _, fun w => Ins.top_vn0 106 0 0 _ (by decide) (by decide) (fun w => Ins.vn_4 106 (by decide) (by decide) w) w⟩
theorem cl107 : ClOk 64875 .shift := ⟨⟨0, kq 107 (by decide +kernel) (fun w => Ins.top_vn0 107 1 0 _ (by decide) (by decide) (fun w => Ins.vn_5 107 (by decide) (by decide) w) w)⟩, by decide +kernel⟩
theorem cl108 : ClOk 64876 .shift := ⟨⟨0, kq 108 (by decide +kernel) (fun w => Ins.top_vn0 108 1 0 _ (by decide) (by decide) (fun w => Ins.vn_5 108 (by decide) (by decide) w) w)⟩, by decide +kernel⟩
theorem cl109 : ClOk 64877 .shift := ⟨⟨0, kq 109 (by decide +kernel) (fun w => Ins.top_vn0 109 1 0 _ (by decide) (by decide) (fun w => Ins.vn_5 109 (by decide) (by decide) w) w)⟩, by decide +kernel⟩
theorem cl110 : ClOk 64878 .abin := ⟨⟨0, kq 110 (by decide +kernel) (fun w => Ins.top_vn0 110 1 0 _ (by decide) (by decide) (fun w => Ins.vn_6 110 (by decide) (by decide) w) w)⟩, by decide +kernel⟩
theorem cl111 : ClOk 64879 .abin := ⟨⟨0, kq 111 (by decide +kernel) (fun w => Ins.top_vn0 111 1 0 _ (by decide) (by decide) (fun w => Ins.vn_6 111 (by decide) (by decide) w) w)⟩, by decide +kernel⟩
theorem cl112 : ClOk 64880 .abin := ⟨⟨0, kq 112 (by decide +kernel) (fun w => Ins.top_vn0 112 1 0 _ (by decide) (by decide) (fun w => Ins.vn_6 112 (by decide) (by decide) w) w)⟩, by decide +kernel⟩
theorem cl113 : ClOk 64881 .abin := ⟨⟨0, kq 113 (by decide +kernel) (fun w => Ins.top_vn0 113 1 0 _ (by decide) (by decide) (fun w => Ins.vn_6 113 (by decide) (by decide) w) w)⟩, by decide +kernel⟩
theorem cl114 : ClOk 64882 .abin := ⟨⟨0, kq 114 (by decide +kernel) (fun w => Ins.top_vn0 114 1 0 _ (by decide) (by decide) (fun w => Ins.vn_6 114 (by decide) (by decide) w) w)⟩, by decide +kernel⟩
theorem cl115 : ClOk 64883 .abin := ⟨⟨0, kq 115 (by decide +kernel) (fun w => Ins.top_vn0 115 1 0 _ (by decide) (by decide) (fun w => Ins.vn_6 115 (by decide) (by decide) w) w)⟩, by decide +kernel⟩
theorem cl116 : ClOk 64884 .no := .inl ⟨by decide, by decide, 0, _, fun w => Ins.top_vn0 116 0 0 _ (by decide) (by decide) (fun w => Ins.vn_7 116 (by decide) (by decide) w) w⟩
theorem cl117 : ClOk 64885 .no := .inl ⟨by decide, by decide, 0, _, fun w => Ins.top_vn0 117 0 0 _ (by decide) (by decide) (fun w => Ins.vn_7 117 (by decide) (by decide) w) w⟩
theorem cl118 : ClOk 64886 .abin := ⟨⟨0, kq 118 (by decide +kernel) (fun w => Ins.top_vn0 118 1 0 _ (by decide) (by decide) (fun w => Ins.vn_8 118 (by decide) (by decide) w) w)⟩, by decide +kernel⟩
theorem cl119 : ClOk 64887 .abin := ⟨⟨0, kq 119 (by decide +kernel) (fun w => Ins.top_vn0 119 1 0 _ (by decide) (by decide) (fun w => Ins.vn_8 119 (by decide) (by decide) w) w)⟩, by decide +kernel⟩
theorem cl120 : ClOk 64888 .abin := ⟨⟨0, kq 120 (by decide +kernel) (fun w => Ins.top_vn0 120 1 0 _ (by decide) (by decide) (fun w => Ins.vn_8 120 (by decide) (by decide) w) w)⟩, by decide +kernel⟩
theorem cl121 : ClOk 64889 .abin := ⟨⟨0, kq 121 (by decide +kernel) (fun w => Ins.top_vn0 121 1 0 _ (by decide) (by decide) (fun w => Ins.vn_8 121 (by decide) (by decide) w) w)⟩, by decide +kernel⟩
theorem cl122 : ClOk 64890 .no := .inl ⟨by decide, by decide, 0, _, fun w => Ins.top_vn0 122 0 0 _ (by decide) (by decide) (fun w => Ins.vn_9 w) w⟩
theorem cl123 : ClOk 64891 .abin := ⟨⟨0, kq 123 (by decide +kernel) (fun w => Ins.top_vn0 123 1 0 _ (by decide) (by decide) (fun w => Ins.vn_10 w) w)⟩, by decide +kernel⟩
theorem cl124 : ClOk 64892 .wun := ⟨⟨0, kq 124 (by decide +kernel) (fun w => Ins.top_vn0 124 1 0 _ (by decide) (by decide) (fun w => Ins.vn_11 124 (by decide) (by decide) w) w)⟩, by decide +kernel⟩
theorem cl125 : ClOk 64893 .wun := ⟨⟨0, kq 125 (by decide +kernel) (fun w => Ins.top_vn0 125 1 0 _ (by decide) (by decide) (fun w => Ins.vn_11 125 (by decide) (by decide) w) w)⟩, by decide +kernel⟩
theorem cl126 : ClOk 64894 .wun := ⟨⟨0, kq 126 (by decide +kernel) (fun w => Ins.top_vn0 126 1 0 _ (by decide) (by decide) (fun w => Ins.vn_11 126 (by decide) (by decide) w) w)⟩, by decide +kernel⟩
theorem cl127 : ClOk 64895 .wun := ⟨⟨0, kq 127 (by decide +kernel) (fun w => Ins.top_vn0 127 1 0 _ (by decide) (by decide) (fun w => Ins.vn_11 127 (by decide) (by decide) w) w)⟩, by decide +kernel⟩
theorem cl128 : ClOk 64896 .aun := ⟨⟨0, kq 128 (by decide +kernel) (fun w => Ins.top_vn0 128 1 0 _ (by decide) (by decide) (fun w => Ins.vn_11 128 (by decide) (by decide) w) w)⟩, by decide +kernel⟩
theorem cl129 : ClOk 64897 .aun := ⟨⟨0, kq 129 (by decide +kernel) (fun w => Ins.top_vn0 129 1 0 _ (by decide) (by decide) (fun w => Ins.vn_11 129 (by decide) (by decide) w) w)⟩, by decide +kernel⟩
theorem cl130 : ClOk 64898 .wbin := ⟨⟨0, kq 130 (by decide +kernel) (fun w => Ins.top_vn0 130 1 0 _ (by decide) (by decide) (fun w => Ins.vn_12 w) w)⟩, by decide +kernel⟩
theorem cl131 : ClOk 64899 .test := ⟨⟨0, kq 131 (by decide +kernel) (fun w => Ins.top_vn0 131 1 0 _ (by decide) (by decide) (fun w => Ins.vn_13 131 (by decide) (by decide) w) w)⟩, by decide +kernel⟩
theorem cl132 : ClOk 64900 .test := ⟨⟨0, kq 132 (by decide +kernel) (fun w => Ins.top_vn0 132 1 0 _ (by decide) (by decide) (fun w => Ins.vn_13 132 (by decide) (by decide) w) w)⟩, by decide +kernel⟩
theorem cl133 : ClOk 64901 .wbin := ⟨⟨0, kq 133 (by decide +kernel) (fun w => Ins.top_vn0 133 1 0 _ (by decide) (by decide) (fun w => Ins.vn_14 133 (by decide) (by decide) w) w)⟩, by decide +kernel⟩
theorem cl134 : ClOk 64902 .wbin := ⟨⟨0, kq 134 (by decide +kernel) (fun w => Ins.top_vn0 134 1 0 _ (by decide) (by decide) (fun w => Ins.vn_14 134 (by decide) (by decide) w) w)⟩, by decide +kernel⟩
theorem cl135 : ClOk 64903 .wun := ⟨⟨0, kq 135 (by decide +kernel) (fun w => Ins.top_vn0 135 1 0 _ (by decide) (by decide) (fun w => Ins.vn_15 135 (by decide) (by decide) w) w)⟩, by decide +kernel⟩
theorem cl136 : ClOk 64904 .wun := ⟨⟨0, kq 136 (by decide +kernel) (fun w => Ins.top_vn0 136 1 0 _ (by decide) (by decide) (fun w => Ins.vn_15 136 (by decide) (by decide) w) w)⟩, by decide +kernel⟩
theorem cl137 : ClOk 64905 .wun := ⟨⟨0, kq 137 (by decide +kernel) (fun w => Ins.top_vn0 137 1 0 _ (by decide) (by decide) (fun w => Ins.vn_15 137 (by decide) (by decide) w) w)⟩, by decide +kernel⟩
theorem cl138 : ClOk 64906 .wun := ⟨⟨0, kq 138 (by decide +kernel) (fun w => Ins.top_vn0 138 1 0 _ (by decide) (by decide) (fun w => Ins.vn_15 138 (by decide) (by decide) w) w)⟩, by decide +kernel⟩
theorem cl139 : ClOk 64907 .shift := ⟨⟨0, kq 139 (by decide +kernel) (fun w => Ins.top_vn0 139 1 0 _ (by decide) (by decide) (fun w => Ins.vn_16 139 (by decide) (by decide) w) w)⟩, by decide +kernel⟩
theorem cl140 : ClOk 64908 .shift := ⟨⟨0, kq 140 (by decide +kernel) (fun w => Ins.top_vn0 140 1 0 _ (by decide) (by decide) (fun w => Ins.vn_16 140 (by decide) (by decide) w) w)⟩, by decide +kernel⟩
theorem cl141 : ClOk 64909 .shift := ⟨⟨0, kq 141 (by decide +kernel) (fun w => Ins.top_vn0 141 1 0 _ (by decide) (by decide) (fun w => Ins.vn_16 141 (by decide) (by decide) w) w)⟩, by decide +kernel⟩
theorem cl142 : ClOk 64910 .abin := ⟨⟨0, kq 142 (by decide +kernel) (fun w => Ins.top_vn0 142 1 0 _ (by decide) (by decide) (fun w => Ins.vn_17 142 (by decide) (by decide) w) w)⟩, by decide +kernel⟩
theorem cl143 : ClOk 64911 .abin := ⟨⟨0, kq 143 (by decide +kernel) (fun w => Ins.top_vn0 143 1 0 _ (by decide) (by decide) (fun w => Ins.vn_17 143 (by decide) (by decide) w) w)⟩, by decide +kernel⟩
theorem cl144 : ClOk 64912 .abin := ⟨⟨0, kq 144 (by decide +kernel) (fun w => Ins.top_vn0 144 1 0 _ (by decide) (by decide) (fun w => Ins.vn_17 144 (by decide) (by decide) w) w)⟩, by decide +kernel⟩
theorem cl145 : ClOk 64913 .abin := ⟨⟨0, kq 145 (by decide +kernel) (fun w => Ins.top_vn0 145 1 0 _ (by decide) (by decide) (fun w => Ins.vn_17 145 (by decide) (by decide) w) w)⟩, by decide +kernel⟩
theorem cl146 : ClOk 64914 .abin := ⟨⟨0, kq 146 (by decide +kernel) (fun w => Ins.top_vn0 146 1 0 _ (by decide) (by decide) (fun w => Ins.vn_17 146 (by decide) (by decide) w) w)⟩, by decide +kernel⟩
theorem cl147 : ClOk 64915 .abin := ⟨⟨0, kq 147 (by decide +kernel) (fun w => Ins.top_vn0 147 1 0 _ (by decide) (by decide) (fun w => Ins.vn_17 147 (by decide) (by decide) w) w)⟩, by decide +kernel⟩
theorem cl148 : ClOk 64916 .no := .inl ⟨by decide, by decide, 0, _, fun w => Ins.top_vn0 148 0 0 _ (by decide) (by decide) (fun w => Ins.vn_18 w) w⟩
theorem cl149 : ClOk 64917 .abin := ⟨⟨0, kq 149 (by decide +kernel) (fun w => Ins.top_vn0 149 1 0 _ (by decide) (by decide) (fun w => Ins.vn_19 149 (by decide) (by decide) w) w)⟩, by decide +kernel⟩
theorem cl150 : ClOk 64918 .abin := ⟨⟨0, kq 150 (by decide +kernel) (fun w => Ins.top_vn0 150 1 0 _ (by decide) (by decide) (fun w => Ins.vn_19 150 (by decide) (by decide) w) w)⟩, by decide +kernel⟩
theorem cl151 : ClOk 64919 .abin := ⟨⟨0, kq 151 (by decide +kernel) (fun w => Ins.top_vn0 151 1 0 _ (by decide) (by decide) (fun w => Ins.vn_19 151 (by decide) (by decide) w) w)⟩, by decide +kernel⟩
theorem cl152 : ClOk 64920 .abin := ⟨⟨0, kq 152 (by decide +kernel) (fun w => Ins.top_vn0 152 1 0 _ (by decide) (by decide) (fun w => Ins.vn_19 152 (by decide) (by decide) w) w)⟩, by decide +kernel⟩
theorem cl153 : ClOk 64921 .abin := ⟨⟨0, kq 153 (by decide +kernel) (fun w => Ins.top_vn0 153 1 0 _ (by decide) (by decide) (fun w => Ins.vn_19 153 (by decide) (by decide) w) w)⟩, by decide +kernel⟩
theorem cl154 : ClOk 64922 .no := .inl ⟨by decide, by decide, 0, _, fun w => Ins.top_vn0 154 0 0 _ (by decide) (by decide) (fun w => Ins.vn_20 w) w⟩
theorem cl155 : ClOk 64923 .abin := ⟨⟨0, kq 155 (by decide +kernel) (fun w => Ins.top_vn0 155 1 0 _ (by decide) (by decide) (fun w => Ins.vn_21 155 (by decide) (by decide) w) w)⟩, by decide +kernel⟩
theorem cl156 : ClOk 64924 .wbin := ⟨⟨0, kq 156 (by decide +kernel) (fun w => Ins.top_vn0 156 1 0 _ (by decide) (by decide) (fun w => Ins.vn_21 156 (by decide) (by decide) w) w)⟩, by decide +kernel⟩
theorem cl157 : ClOk 64925 .wbin := ⟨⟨0, kq 157 (by decide +kernel) (fun w => Ins.top_vn0 157 1 0 _ (by decide) (by decide) (fun w => Ins.vn_21 157 (by decide) (by decide) w) w)⟩, by decide +kernel⟩
theorem cl158 : ClOk 64926 .wbin := ⟨⟨0, kq 158 (by decide +kernel) (fun w => Ins.top_vn0 158 1 0 _ (by decide) (by decide) (fun w => Ins.vn_21 158 (by decide) (by decide) w) w)⟩, by decide +kernel⟩
theorem cl159 : ClOk 64927 .wbin := ⟨⟨0, kq 159 (by decide +kernel) (fun w => Ins.top_vn0 159 1 0 _ (by decide) (by decide) (fun w => Ins.vn_21 159 (by decide) (by decide) w) w)⟩, by decide +kernel⟩
theorem cl160 : ClOk 64928 .aun := ⟨⟨0, kq 160 (by decide +kernel) (fun w => Ins.top_vw0 160 1 0 _ (by decide) (fun w => Ins.vw_0 160 (by decide) (by decide) w) w)⟩, by decide +kernel⟩
theorem cl161 : ClOk 64929 .aun := ⟨⟨0, kq 161 (by decide +kernel) (fun w => Ins.top_vw0 161 1 0 _ (by decide) (fun w => Ins.vw_0 161 (by decide) (by decide) w) w)⟩, by decide +kernel⟩
theorem cl162 : ClOk 64930 .no := .inl ⟨by decide, by decide, 0, _, fun w => Ins.top_vw0 162 0 0 _ (by decide) (fun w => Ins.vw_1 w) w⟩
theorem cl163 : ClOk 64931 .test := ⟨⟨0, kq 163 (by decide +kernel) (fun w => Ins.top_vw0 163 1 0 _ (by decide) (fun w => Ins.vw_2 163 (by decide) (by decide) w) w)⟩, by decide +kernel⟩
theorem cl164 : ClOk 64932 .test := ⟨⟨0, kq 164 (by decide +kernel) (fun w => Ins.top_vw0 164 1 0 _ (by decide) (fun w => Ins.vw_2 164 (by decide) (by decide) w) w)⟩, by decide +kernel⟩
theorem cl165 : ClOk 64933 .no := .inl ⟨by decide, by decide, 0, _, fun w => Ins.top_vw0 165 0 0 _ (by decide) (fun w => Ins.vw_3 165 (by decide) (by decide) w) w⟩
theorem cl166 : ClOk 64934 .no := .inl ⟨by decide, by decide, 0, _, fun w => Ins.top_vw0 166 0 0 _ (by decide) (fun w => Ins.vw_3 166 (by decide) (by decide) w) w⟩
theorem cl167 : ClOk 64935 .wun := ⟨⟨0, kq 167 (by decide +kernel) (fun w => Ins.top_vw0 167 1 0 _ (by decide) (fun w => Ins.vw_4 167 (by decide) (by decide) w) w)⟩, by decide +kernel⟩
theorem cl168 : ClOk 64936 .wun := ⟨⟨0, kq 168 (by decide +kernel) (fun w => Ins.top_vw0 168 1 0 _ (by decide) (fun w => Ins.vw_4 168 (by decide) (by decide) w) w)⟩, by decide +kernel⟩
theorem cl169 : ClOk 64937 .wun := ⟨⟨0, kq 169 (by decide +kernel) (fun w => Ins.top_vw0 169 1 0 _ (by decide) (fun w => Ins.vw_4 169 (by decide) (by decide) w) w)⟩, by decide +kernel⟩
theorem cl170 : ClOk 64938 .wun := ⟨⟨0, kq 170 (by decide +kernel) (fun w => Ins.top_vw0 170 1 0 _ (by decide) (fun w => Ins.vw_4 170 (by decide) (by decide) w) w)⟩, by decide +kernel⟩
theorem cl171 : ClOk 64939 .shift := ⟨⟨0, kq 171 (by decide +kernel) (fun w => Ins.top_vw0 171 1 0 _ (by decide) (fun w => Ins.vw_5 171 (by decide) (by decide) w) w)⟩, by decide +kernel⟩
theorem cl172 : ClOk 64940 .shift := ⟨⟨0, kq 172 (by decide +kernel) (fun w => Ins.top_vw0 172 1 0 _ (by decide) (fun w => Ins.vw_5 172 (by decide) (by decide) w) w)⟩, by decide +kernel⟩
theorem cl173 : ClOk 64941 .shift := ⟨⟨0, kq 173 (by decide +kernel) (fun w => Ins.top_vw0 173 1 0 _ (by decide) (fun w => Ins.vw_5 173 (by decide) (by decide) w) w)⟩, by decide +kernel⟩
theorem cl174 : ClOk 64942 .abin := ⟨⟨0, kq 174 (by decide +kernel) (fun w => Ins.top_vw0 174 1 0 _ (by decide) (fun w => Ins.vw_6 w) w)⟩, by decide +kernel⟩
theorem cl175 : ClOk 64943 .no := .inl ⟨by decide, by decide, 0, _, fun w => Ins.top_vw0 175 0 0 _ (by decide) (fun w => Ins.vw_7 175 (by decide) (by decide) w) w⟩
theorem cl176 : ClOk 64944 .no := .inl ⟨by decide, by decide, 0, _, fun w => Ins.top_vw0 176 0 0 _ (by decide) (fun w => Ins.vw_7 176 (by decide) (by decide) w) w⟩
theorem cl177 : ClOk 64945 .abin := ⟨⟨0, kq 177 (by decide +kernel) (fun w => Ins.top_vw0 177 1 0 _ (by decide) (fun w => Ins.vw_8 w) w)⟩, by decide +kernel⟩
theorem cl178 : ClOk 64946 .no := .inl ⟨by decide, by decide, 0, _, fun w => Ins.top_vw0 178 0 0 _ (by decide) (fun w => Ins.vw_9 178 (by decide) (by decide) w) w⟩
theorem cl179 : ClOk 64947 .no := .inl ⟨by decide, by decide, 0, _, fun w => Ins.top_vw0 179 0 0 _ (by decide) (fun w => Ins.vw_9 179 (by decide) (by decide) w) w⟩
theorem cl180 : ClOk 64948 .no := .inl ⟨by decide, by decide, 0, _, fun w => Ins.top_vw0 180 0 0 _ (by decide) (fun w => Ins.vw_9 180 (by decide) (by decide) w) w⟩
theorem cl181 : ClOk 64949 .abin := ⟨⟨0, kq 181 (by decide +kernel) (fun w => Ins.top_vw0 181 1 0 _ (by decide) (fun w => Ins.vw_10 181 (by decide) (by decide) w) w)⟩, by decide +kernel⟩
theorem cl182 : ClOk 64950 .abin := ⟨⟨0, kq 182 (by decide +kernel) (fun w => Ins.top_vw0 182 1 0 _ (by decide) (fun w => Ins.vw_10 182 (by decide) (by decide) w) w)⟩, by decide +kernel⟩
theorem cl183 : ClOk 64951 .abin := ⟨⟨0, kq 183 (by decide +kernel) (fun w => Ins.top_vw0 183 1 0 _ (by decide) (fun w => Ins.vw_10 183 (by decide) (by decide) w) w)⟩, by decide +kernel⟩
theorem cl184 : ClOk 64952 .abin := ⟨⟨0, kq 184 (by decide +kernel) (fun w => Ins.top_vw0 184 1 0 _ (by decide) (fun w => Ins.vw_10 184 (by decide) (by decide) w) w)⟩, by decide +kernel⟩
theorem cl185 : ClOk 64953 .abin := ⟨⟨0, kq 185 (by decide +kernel) (fun w => Ins.top_vw0 185 1 0 _ (by decide) (fun w => Ins.vw_10 185 (by decide) (by decide) w) w)⟩, by decide +kernel⟩
theorem cl186 : ClOk 64954 .wbin := ⟨⟨0, kq 186 (by decide +kernel) (fun w => Ins.top_vw0 186 1 0 _ (by decide) (fun w => Ins.vw_10 186 (by decide) (by decide) w) w)⟩, by decide +kernel⟩
theorem cl187 : ClOk 64955 .no := .inl ⟨by decide, by decide, 0, _, fun w => Ins.top_vw0 187 0 0 _ (by decide) (fun w => Ins.vw_11 w) w⟩
theorem cl188 : ClOk 64956 .wbin := ⟨⟨0, kq 188 (by decide +kernel) (fun w => Ins.top_vw0 188 1 0 _ (by decide) (fun w => Ins.vw_12 188 (by decide) (by decide) w) w)⟩, by decide +kernel⟩
theorem cl189 : ClOk 64957 .wbin := ⟨⟨0, kq 189 (by decide +kernel) (fun w => Ins.top_vw0 189 1 0 _ (by decide) (fun w => Ins.vw_12 189 (by decide) (by decide) w) w)⟩, by decide +kernel⟩
theorem cl190 : ClOk 64958 .wbin := ⟨⟨0, kq 190 (by decide +kernel) (fun w => Ins.top_vw0 190 1 0 _ (by decide) (fun w => Ins.vw_12 190 (by decide) (by decide) w) w)⟩, by decide +kernel⟩
theorem cl191 : ClOk 64959 .wbin := ⟨⟨0, kq 191 (by decide +kernel) (fun w => Ins.top_vw0 191 1 0 _ (by decide) (fun w => Ins.vw_12 191 (by decide) (by decide) w) w)⟩, by decide +kernel⟩
theorem cl192 : ClOk 64960 .aun := ⟨⟨0, kq 192 (by decide +kernel) (fun w => Ins.top_vw0 192 1 0 _ (by decide) (fun w => Ins.vw_13 192 (by decide) (by decide) w) w)⟩, by decide +kernel⟩
theorem cl193 : ClOk 64961 .aun := ⟨⟨0, kq 193 (by decide +kernel) (fun w => Ins.top_vw0 193 1 0 _ (by decide) (fun w => Ins.vw_13 193 (by decide) (by decide) w) w)⟩, by decide +kernel⟩
theorem cl194 : ClOk 64962 .no := .inl ⟨by decide, by decide, 0, _, fun w => Ins.top_vw0 194 0 0 _ (by decide) (fun w => Ins.vw_14 w) w⟩
theorem cl195 : ClOk 64963 .test := ⟨⟨0, kq 195 (by decide +kernel) (fun w => Ins.top_vw0 195 1 0 _ (by decide) (fun w => Ins.vw_15 195 (by decide) (by decide) w) w)⟩, by decide +kernel⟩
theorem cl196 : ClOk 64964 .test := ⟨⟨0, kq 196 (by decide +kernel) (fun w => Ins.top_vw0 196 1 0 _ (by decide) (fun w => Ins.vw_15 196 (by decide) (by decide) w) w)⟩, by decide +kernel⟩
theorem cl197 : ClOk 64965 .no := .inl ⟨by decide, by decide, 0, _, fun w => Ins.top_vw0 197 0 0 _ (by decide) (fun w => Ins.vw_16 197 (by decide) (by decide) w) w⟩
theorem cl198 : ClOk 64966 .no := .inl ⟨by decide, by decide, 0, _, fun w => Ins.top_vw0 198 0 0 _ (by decide) (fun w => Ins.vw_16 198 (by decide) (by decide) w) w⟩
theorem cl199 : ClOk 64967 .wun := ⟨⟨0, kq 199 (by decide +kernel) (fun w => Ins.top_vw0 199 1 0 _ (by decide) (fun w => Ins.vw_17 199 (by decide) (by decide) w) w)⟩, by decide +kernel⟩
theorem cl200 : ClOk 64968 .wun := ⟨⟨0, kq 200 (by decide +kernel) (fun w => Ins.top_vw0 200 1 0 _ (by decide) (fun w => Ins.vw_17 200 (by decide) (by decide) w) w)⟩, by decide +kernel⟩
theorem cl201 : ClOk 64969 .wun := ⟨⟨0, kq 201 (by decide +kernel) (fun w => Ins.top_vw0 201 1 0 _ (by decide) (fun w => Ins.vw_17 201 (by decide) (by decide) w) w)⟩, by decide +kernel⟩
theorem cl202 : ClOk 64970 .wun := ⟨⟨0, kq 202 (by decide +kernel) (fun w => Ins.top_vw0 202 1 0 _ (by decide) (fun w => Ins.vw_17 202 (by decide) (by decide) w) w)⟩, by decide +kernel⟩
theorem cl203 : ClOk 64971 .shift := ⟨⟨0, kq 203 (by decide +kernel) (fun w => Ins.top_vw0 203 1 0 _ (by decide) (fun w => Ins.vw_18 203 (by decide) (by decide) w) w)⟩, by decide +kernel⟩
theorem cl204 : ClOk 64972 .shift := ⟨⟨0, kq 204 (by decide +kernel) (fun w => Ins.top_vw0 204 1 0 _ (by decide) (fun w => Ins.vw_18 204 (by decide) (by decide) w) w)⟩, by decide +kernel⟩
theorem cl205 : ClOk 64973 .shift := ⟨⟨0, kq 205 (by decide +kernel) (fun w => Ins.top_vw0 205 1 0 _ (by decide) (fun w => Ins.vw_18 205 (by decide) (by decide) w) w)⟩, by decide +kernel⟩
theorem cl206 : ClOk 64974 .abin := ⟨⟨0, kq 206 (by decide +kernel) (fun w => Ins.top_vw0 206 1 0 _ (by decide) (fun w => Ins.vw_19 w) w)⟩, by decide +kernel⟩
theorem cl207 : ClOk 64975 .no := .inl ⟨by decide, by decide, 0, _, fun w => Ins.top_vw0 207 0 0 _ (by decide) (fun w => Ins.vw_20 207 (by decide) (by decide) w) w⟩
theorem cl208 : ClOk 64976 .no := .inl ⟨by decide, by decide, 0, _, fun w => Ins.top_vw0 208 0 0 _ (by decide) (fun w => Ins.vw_20 208 (by decide) (by decide) w) w⟩
theorem cl209 : ClOk 64977 .abin := ⟨⟨0, kq 209 (by decide +kernel) (fun w => Ins.top_vw0 209 1 0 _ (by decide) (fun w => Ins.vw_21 w) w)⟩, by decide +kernel⟩
theorem cl210 : ClOk 64978 .no := .inl ⟨by decide, by decide, 0, _, fun w => Ins.top_vw0 210 0 0 _ (by decide) (fun w => Ins.vw_22 210 (by decide) (by decide) w) w⟩
theorem cl211 : ClOk 64979 .no := .inl ⟨by decide, by decide, 0, _, fun w => Ins.top_vw0 211 0 0 _ (by decide) (fun w => Ins.vw_22 211 (by decide) (by decide) w) w⟩
theorem cl212 : ClOk 64980 .no := .inl ⟨by decide, by decide, 0, _, fun w => Ins.top_vw0 212 0 0 _ (by decide) (fun w => Ins.vw_22 212 (by decide) (by decide) w) w⟩
theorem cl213 : ClOk 64981 .abin := ⟨⟨0, kq 213 (by decide +kernel) (fun w => Ins.top_vw0 213 1 0 _ (by decide) (fun w => Ins.vw_23 213 (by decide) (by decide) w) w)⟩, by decide +kernel⟩
theorem cl214 : ClOk 64982 .cmp := ⟨⟨0, kq 214 (by decide +kernel) (fun w => Ins.top_vw0 214 1 0 _ (by decide) (fun w => Ins.vw_23 214 (by decide) (by decide) w) w)⟩, by decide +kernel⟩
theorem cl215 : ClOk 64983 .cmp := ⟨⟨0, kq 215 (by decide +kernel) (fun w => Ins.top_vw0 215 1 0 _ (by decide) (fun w => Ins.vw_23 215 (by decide) (by decide) w) w)⟩, by decide +kernel⟩
theorem cl216 : ClOk 64984 .cmp := ⟨⟨0, kq 216 (by decide +kernel) (fun w => Ins.top_vw0 216 1 0 _ (by decide) (fun w => Ins.vw_23 216 (by decide) (by decide) w) w)⟩, by decide +kernel⟩
theorem cl217 : ClOk 64985 .cmp := ⟨⟨0, kq 217 (by decide +kernel) (fun w => Ins.top_vw0 217 1 0 _ (by decide) (fun w => Ins.vw_23 217 (by decide) (by decide) w) w)⟩, by decide +kernel⟩
theorem cl218 : ClOk 64986 .cmp := ⟨⟨0, kq 218 (by decide +kernel) (fun w => Ins.top_vw0 218 1 0 _ (by decide) (fun w => Ins.vw_23 218 (by decide) (by decide) w) w)⟩, by decide +kernel⟩
theorem cl219 : ClOk 64987 .cmp := ⟨⟨0, kq 219 (by decide +kernel) (fun w => Ins.top_vw0 219 1 0 _ (by decide) (fun w => Ins.vw_23 219 (by decide) (by decide) w) w)⟩, by decide +kernel⟩
theorem cl220 : ClOk 64988 .wbin := ⟨⟨0, kq 220 (by decide +kernel) (fun w => Ins.top_vw0 220 1 0 _ (by decide) (fun w => Ins.vw_23 220 (by decide) (by decide) w) w)⟩, by decide +kernel⟩
theorem cl221 : ClOk 64989 .wbin := ⟨⟨0, kq 221 (by decide +kernel) (fun w => Ins.top_vw0 221 1 0 _ (by decide) (fun w => Ins.vw_23 221 (by decide) (by decide) w) w)⟩, by decide +kernel⟩
theorem cl222 : ClOk 64990 .wbin := ⟨⟨0, kq 222 (by decide +kernel) (fun w => Ins.top_vw0 222 1 0 _ (by decide) (fun w => Ins.vw_23 222 (by decide) (by decide) w) w)⟩, by decide +kernel⟩
theorem cl223 : ClOk 64991 .wbin := ⟨⟨0, kq 223 (by decide +kernel) (fun w => Ins.top_vw0 223 1 0 _ (by decide) (fun w => Ins.vw_23 223 (by decide) (by decide) w) w)⟩, by decide +kernel⟩
theorem cl224 : ClOk 64992 .no := .inl ⟨by decide, by decide, 0, _, fun w => Ins.top_vw0 224 0 0 _ (by decide) (fun w => Ins.vw_24 224 (by decide) w) w⟩
theorem cl225 : ClOk 64993 .no := .inl ⟨by decide, by decide, 0, _, fun w => Ins.top_vw0 225 0 0 _ (by decide) (fun w => Ins.vw_24 225 (by decide) w) w⟩
theorem cl226 : ClOk 64994 .no := .inl ⟨by decide, by decide, 0, _, fun w => Ins.top_vw0 226 0 0 _ (by decide) (fun w => Ins.vw_24 226 (by decide) w) w⟩
theorem cl227 : ClOk 64995 .no := .inl ⟨by decide, by decide, 0, _, fun w => Ins.top_vw0 227 0 0 _ (by decide) (fun w => Ins.vw_24 227 (by decide) w) w⟩
theorem cl228 : ClOk 64996 .no := .inl ⟨by decide, by decide, 0, _, fun w => Ins.top_vw0 228 0 0 _ (by decide) (fun w => Ins.vw_24 228 (by decide) w) w⟩
theorem cl229 : ClOk 64997 .no := .inl ⟨by decide, by decide, 0, _, fun w => Ins.top_vw0 229 0 0 _ (by decide) (fun w => Ins.vw_24 229 (by decide) w) w⟩
theorem cl230 : ClOk 64998 .no := .inl ⟨by decide, by decide, 0, _, fun w => Ins.top_vw0 230 0 0 _ (by decide) (fun w => Ins.vw_24 230 (by decide) w) w⟩
theorem cl231 : ClOk 64999 .no := .inl ⟨by decide, by decide, 0, _, fun w => Ins.top_vw0 231 0 0 _ (by decide) (fun w => Ins.vw_24 231 (by decide) w) w⟩
theorem cl232 : ClOk 65000 .no := .inl ⟨by decide, by decide, 0, _, fun w => Ins.top_vw0 232 0 0 _ (by decide) (fun w => Ins.vw_24 232 (by decide) w) w⟩
theorem cl233 : ClOk 65001 .no := .inl ⟨by decide, by decide, 0, _, fun w => Ins.top_vw0 233 0 0 _ (by decide) (fun w => Ins.vw_24 233 (by decide) w) w⟩
theorem cl234 : ClOk 65002 .no := .inl ⟨by decide, by decide, 0, _, fun w => Ins.top_vw0 234 0 0 _ (by decide) (fun w => Ins.vw_24 234 (by decide) w) w⟩
theorem cl235 : ClOk 65003 .no := .inl ⟨by decide, by decide, 0, _, fun w => Ins.top_vw0 235 0 0 _ (by decide) (fun w => Ins.vw_24 235 (by decide) w) w⟩
theorem cl236 : ClOk 65004 .no := .inl ⟨by decide, by decide, 0, _, fun w => Ins.top_vw0 236 0 0 _ (by decide) (fun w => Ins.vw_24 236 (by decide) w) w⟩
theorem cl237 : ClOk 65005 .no := .inl ⟨by decide, by decide, 0, _, fun w => Ins.top_vw0 237 0 0 _ (by decide) (fun w => Ins.vw_24 237 (by decide) w) w⟩
theorem cl238 : ClOk 65006 .no := .inl ⟨by decide, by decide, 0, _, fun w => Ins.top_vw0 238 0 0 _ (by decide) (fun w => Ins.vw_24 238 (by decide) w) w⟩
theorem cl239 : ClOk 65007 .no := .inl ⟨by decide, by decide, 0, _, fun w => Ins.top_vw0 239 0 0 _ (by decide) (fun w => Ins.vw_24 239 (by decide) w) w⟩
theorem cl240 : ClOk 65008 .no := .inl ⟨by decide, by decide, 0, _, fun w => Ins.top_vw0 240 0 0 _ (by decide) (fun w => Ins.vw_24 240 (by decide) w) w⟩
theorem cl241 : ClOk 65009 .no := .inl ⟨by decide, by decide, 0, _, fun w => Ins.top_vw0 241 0 0 _ (by decide) (fun w => Ins.vw_24 241 (by decide) w) w⟩
theorem cl242 : ClOk 65010 .no := .inl ⟨by decide, by decide, 0, _, fun w => Ins.top_vw0 242 0 0 _ (by decide) (fun w => Ins.vw_24 242 (by decide) w) w⟩
theorem cl243 : ClOk 65011 .no := .inl ⟨by decide, by decide, 0, _, fun w => Ins.top_vw0 243 0 0 _ (by decide) (fun w => Ins.vw_24 243 (by decide) w) w⟩
theorem cl244 : ClOk 65012 .no := .inl ⟨by decide, by decide, 0, _, fun w => Ins.top_vw0 244 0 0 _ (by decide) (fun w => Ins.vw_24 244 (by decide) w) w⟩
theorem cl245 : ClOk 65013 .no := .inl ⟨by decide, by decide, 0, _, fun w => Ins.top_vw0 245 0 0 _ (by decide) (fun w => Ins.vw_24 245 (by decide) w) w⟩
theorem cl246 : ClOk 65014 .no := .inl ⟨by decide, by decide, 0, _, fun w => Ins.top_vw0 246 0 0 _ (by decide) (fun w => Ins.vw_24 246 (by decide) w) w⟩
theorem cl247 : ClOk 65015 .no := .inl ⟨by decide, by decide, 0, _, fun w => Ins.top_vw0 247 0 0 _ (by decide) (fun w => Ins.vw_24 247 (by decide) w) w⟩
theorem cl248 : ClOk 65016 .no := .inl ⟨by decide, by decide, 0, _, fun w => Ins.top_vw0 248 0 0 _ (by decide) (fun w => Ins.vw_24 248 (by decide) w) w⟩
theorem cl249 : ClOk 65017 .no := .inl ⟨by decide, by decide, 0, _, fun w => Ins.top_vw0 249 0 0 _ (by decide) (fun w => Ins.vw_24 249 (by decide) w) w⟩
theorem cl250 : ClOk 65018 .no := .inl ⟨by decide, by decide, 0, _, fun w => Ins.top_vw0 250 0 0 _ (by decide) (fun w => Ins.vw_24 250 (by decide) w) w⟩
theorem cl251 : ClOk 65019 .no := .inl ⟨by decide, by decide, 0, _, fun w => Ins.top_vw0 251 0 0 _ (by decide) (fun w => Ins.vw_24 251 (by decide) w) w⟩
theorem cl252 : ClOk 65020 .no := .inl ⟨by decide, by decide, 0, _, fun w => Ins.top_vw0 252 0 0 _ (by decide) (fun w => Ins.vw_24 252 (by decide) w) w⟩
theorem cl253 : ClOk 65021 .no := .inl ⟨by decide, by decide, 0, _, fun w => Ins.top_vw0 253 0 0 _ (by decide) (fun w => Ins.vw_24 253 (by decide) w) w⟩
theorem cl254 : ClOk 65022 .no := .inl ⟨by decide, by decide, 0, _, fun w => Ins.top_vw0 254 0 0 _ (by decide) (fun w => Ins.vw_24 254 (by decide) w) w⟩
theorem cl255 : ClOk 65023 .no := .inl ⟨by decide, by decide, 0, _, fun w => Ins.top_vw0 255 0 0 _ (by decide) (fun w => Ins.vw_24 255 (by decide) w) w⟩
def kinds : List Pa := [.mem, .mem, .mem, .mem, .mem, .mem, .mem, .mem, .mem, .mem, .mem, .mem, .co, .shf, .swz, .spi, .spi, .spi, .spl, .no, .no, .exi, .exi, .rei, .exi, .exi, .rei, .exi, .rei, .exl, .rel, .no, .no, .no, .no, .cmp, .cmp, .cmp, .cmp, .cmp, .cmp, .cmp, .cmp, .cmp, .cmp, .cmp, .cmp, .cmp, .cmp, .cmp, .cmp, .cmp, .cmp, .cmp, .cmp, .cmp, .cmp, .cmp, .cmp, .cmp, .cmp, .cmp, .cmp, .cmp, .cmp, .no, .no, .no, .no, .no, .no, .no, .no, .no, .no, .no, .no, .bits77, .bits78, .bits79, .bits80, .bits81, .bits82, .test, .mem, .mem, .mem, .mem, .mem, .mem, .mem, .mem, .mem, .mem, .no, .no, .aun, .aun, .aun, .test, .test, .wbin, .wbin, .no, .no, .no, .no, .shift, .shift, .shift, .abin, .abin, .abin, .abin, .abin, .abin, .no, .no, .abin, .abin, .abin, .abin, .no, .abin, .wun, .wun, .wun, .wun, .aun, .aun, .wbin, .test, .test, .wbin, .wbin, .wun, .wun, .wun, .wun, .shift, .shift, .shift, .abin, .abin, .abin, .abin, .abin, .abin, .no, .abin, .abin, .abin, .abin, .abin, .no, .abin, .wbin, .wbin, .wbin, .wbin, .aun, .aun, .no, .test, .test, .no, .no, .wun, .wun, .wun, .wun, .shift, .shift, .shift, .abin, .no, .no, .abin, .no, .no, .no, .abin, .abin, .abin, .abin, .abin, .wbin, .no, .wbin, .wbin, .wbin, .wbin, .aun, .aun, .no, .test, .test, .no, .no, .wun, .wun, .wun, .wun, .shift, .shift, .shift, .abin, .no, .no, .abin, .no, .no, .no, .abin, .cmp, .cmp, .cmp, .cmp, .cmp, .cmp, .wbin, .wbin, .wbin, .wbin, .no, .no, .no, .no, .no, .no, .no, .no, .no, .no, .no, .no, .no, .no, .no, .no, .no, .no, .no, .no, .no, .no, .no, .no, .no, .no, .no, .no, .no, .no, .no, .no]
def paOf (k : Nat) : Pa := kinds.getD k .no
set_option maxRecDepth 100000 in
theorem cl_all : ∀ k : Nat, k < 256 → ClOk (64768 + (k : Int)) (paOf k)
  | 0, _ => cl0
  | 1, _ => cl1
  | 2, _ => cl2
  | 3, _ => cl3
  | 4, _ => cl4
  | 5, _ => cl5
  | 6, _ => cl6
  | 7, _ => cl7
  | 8, _ => cl8
  | 9, _ => cl9
  | 10, _ => cl10
  | 11, _ => cl11
  | 12, _ => cl12
  | 13, _ => cl13
  | 14, _ => cl14
  | 15, _ => cl15
  | 16, _ => cl16
  | 17, _ => cl17
  | 18, _ => cl18
  | 19, _ => cl19
  | 20, _ => cl20
  | 21, _ => cl21
  | 22, _ => cl22
  | 23, _ => cl23
  | 24, _ => cl24
  | 25, _ => cl25
  | 26, _ => cl26
  | 27, _ => cl27
  | 28, _ => cl28
  | 29, _ => cl29
  | 30, _ => cl30
  | 31, _ => cl31
  | 32, _ => cl32
  | 33, _ => cl33
  | 34, _ => cl34
  | 35, _ => cl35
  | 36, _ => cl36
  | 37, _ => cl37
  | 38, _ => cl38
  | 39, _ => cl39
  | 40, _ => cl40
  | 41, _ => cl41
  | 42, _ => cl42
  | 43, _ => cl43
  | 44, _ => cl44
  | 45, _ => cl45
  | 46, _ => cl46
  | 47, _ => cl47
  | 48, _ => cl48
  | 49, _ => cl49
  | 50, _ => cl50
  | 51, _ => cl51
  | 52, _ => cl52
  | 53, _ => cl53
  | 54, _ => cl54
  | 55, _ => cl55
  | 56, _ => cl56
  | 57, _ => cl57
  | 58, _ => cl58
  | 59, _ => cl59
  | 60, _ => cl60
  | 61, _ => cl61
  | 62, _ => cl62
  | 63, _ => cl63
  | 64, _ => cl64
  | 65, _ => cl65
  | 66, _ => cl66
  | 67, _ => cl67
  | 68, _ => cl68
  | 69, _ => cl69
  | 70, _ => cl70
  | 71, _ => cl71
  | 72, _ => cl72
  | 73, _ => cl73
  | 74, _ => cl74
  | 75, _ => cl75
  | 76, _ => cl76
  | 77, _ => cl77
  | 78, _ => cl78
  | 79, _ => cl79
  | 80, _ => cl80
  | 81, _ => cl81
  | 82, _ => cl82
  | 83, _ => cl83
  | 84, _ => cl84
  | 85, _ => cl85
  | 86, _ => cl86
  | 87, _ => cl87
  | 88, _ => cl88
  | 89, _ => cl89
  | 90, _ => cl90
  | 91, _ => cl91
  | 92, _ => cl92
  | 93, _ => cl93
  | 94, _ => cl94
  | 95, _ => cl95
  | 96, _ => cl96
  | 97, _ => cl97
  | 98, _ => cl98
  | 99, _ => cl99
  | 100, _ => cl100
  | 101, _ => cl101
  | 102, _ => cl102
  | 103, _ => cl103
  | 104, _ => cl104
  | 105, _ => cl105
  | 106, _ => cl106
  | 107, _ => cl107
  | 108, _ => cl108
  | 109, _ => cl109
  | 110, _ => cl110
  | 111, _ => cl111
  | 112, _ => cl112
  | 113, _ => cl113
  | 114, _ => cl114
  | 115, _ => cl115
  | 116, _ => cl116
  | 117, _ => cl117
  | 118, _ => cl118
  | 119, _ => cl119
  | 120, _ => cl120
  | 121, _ => cl121
  | 122, _ => cl122
  | 123, _ => cl123
  | 124, _ => cl124
  | 125, _ => cl125
  | 126, _ => cl126
  | 127, _ => cl127
  | 128, _ => cl128
  | 129, _ => cl129
  | 130, _ => cl130
  | 131, _ => cl131
  | 132, _ => cl132
  | 133, _ => cl133
  | 134, _ => cl134
  | 135, _ => cl135
  | 136, _ => cl136
  | 137, _ => cl137
  | 138, _ => cl138
  | 139, _ => cl139
  | 140, _ => cl140
  | 141, _ => cl141
  | 142, _ => cl142
  | 143, _ => cl143
  | 144, _ => cl144
  | 145, _ => cl145
  | 146, _ => cl146
  | 147, _ => cl147
  | 148, _ => cl148
  | 149, _ => cl149
  | 150, _ => cl150
  | 151, _ => cl151
  | 152, _ => cl152
  | 153, _ => cl153
  | 154, _ => cl154
  | 155, _ => cl155
  | 156, _ => cl156
  | 157, _ => cl157
  | 158, _ => cl158
  | 159, _ => cl159
  | 160, _ => cl160
  | 161, _ => cl161
  | 162, _ => cl162
  | 163, _ => cl163
  | 164, _ => cl164
  | 165, _ => cl165
  | 166, _ => cl166
  | 167, _ => cl167
  | 168, _ => cl168
  | 169, _ => cl169
  | 170, _ => cl170
  | 171, _ => cl171
  | 172, _ => cl172
  | 173, _ => cl173
  | 174, _ => cl174
  | 175, _ => cl175
  | 176, _ => cl176
  | 177, _ => cl177
  | 178, _ => cl178
  | 179, _ => cl179
  | 180, _ => cl180
  | 181, _ => cl181
  | 182, _ => cl182
  | 183, _ => cl183
  | 184, _ => cl184
  | 185, _ => cl185
  | 186, _ => cl186
  | 187, _ => cl187
  | 188, _ => cl188
  | 189, _ => cl189
  | 190, _ => cl190
  | 191, _ => cl191
  | 192, _ => cl192
  | 193, _ => cl193
  | 194, _ => cl194
  | 195, _ => cl195
  | 196, _ => cl196
  | 197, _ => cl197
  | 198, _ => cl198
  | 199, _ => cl199
  | 200, _ => cl200
  | 201, _ => cl201
  | 202, _ => cl202
  | 203, _ => cl203
  | 204, _ => cl204
  | 205, _ => cl205
  | 206, _ => cl206
  | 207, _ => cl207
  | 208, _ => cl208
  | 209, _ => cl209
  | 210, _ => cl210
  | 211, _ => cl211
  | 212, _ => cl212
  | 213, _ => cl213
  | 214, _ => cl214
  | 215, _ => cl215
  | 216, _ => cl216
  | 217, _ => cl217
  | 218, _ => cl218
  | 219, _ => cl219
  | 220, _ => cl220
  | 221, _ => cl221
  | 222, _ => cl222
  | 223, _ => cl223
  | 224, _ => cl224
  | 225, _ => cl225
  | 226, _ => cl226
  | 227, _ => cl227
  | 228, _ => cl228
  | 229, _ => cl229
  | 230, _ => cl230
  | 231, _ => cl231
  | 232, _ => cl232
  | 233, _ => cl233
  | 234, _ => cl234
  | 235, _ => cl235
  | 236, _ => cl236
  | 237, _ => cl237
  | 238, _ => cl238
  | 239, _ => cl239
  | 240, _ => cl240
  | 241, _ => cl241
  | 242, _ => cl242
  | 243, _ => cl243
  | 244, _ => cl244
  | 245, _ => cl245
  | 246, _ => cl246
  | 247, _ => cl247
  | 248, _ => cl248
  | 249, _ => cl249
  | 250, _ => cl250
  | 251, _ => cl251
  | 252, _ => cl252
  | 253, _ => cl253
  | 254, _ => cl254
  | 255, _ => cl255
  | k + 256, h => absurd h (by omega)
end Vc
end Go.Proofs.Ytjoalcaooccbiaa
/- VcLw -/
namespace Go.Proofs.Ytjoalcaooccbiaa
open Go.RowKit VecM Ev
namespace Vc
noncomputable def awS (g : Rw) : CsF := fun f args M =>
  match Nat.beq f 7 with
  | false => none
  | true => match args with
    | [] => some ⟨setEnd M [g], [], 0, fun _ => .bool true, fun _ => []⟩
    | _ => none
theorem sg_given {w0 w : World} {M L : List Rw} (h : SG w0 M w) (hm : ∀ r ∈ L, ∃ q ∈ M, q.b = r.b ∧ q.c = r.c ∧ q.t = r.t) (ho : ∀ r ∈ L, r.own = false) : SG w L w := by
  refine ⟨?_, fun r hr _ => ?_⟩
  · have : ents L = [] := by
      unfold ents
      rw [List.filter_eq_nil_iff.2 (fun r hr => by rw [ho r hr]; decide)]
      rfl
    rw [this]
    exact St.start w
  · obtain ⟨q, hq, e1, e2, e3⟩ := hm r hr
    obtain ⟨fr, hrow, _⟩ := h.row hq
    rw [e1, e2, e3] at hrow
    exact ⟨fr, hrow⟩
theorem awS_ok (m : Int) (t : Gt) : COk (awS (gRow m t)) := by
  intro f args M H hq hrows hpre w0 w hS
  unfold awS at hq
  split at hq
  · cases hq
  · rename_i hf
    obtain rfl := Nat.eq_of_beq_eq_true hf
    split at hq
    · cases hq
      have hm : gRow m t ∈ M := by
        have := setEnd_mem (M := M) (L := [gRow m t]) (List.mem_cons_self ..)
        simp only at hrows
        rw [← hrows] at this
        exact this
      have hs : SG w [gRow m t] w := sg_given hS (fun r hr => by obtain rfl := List.mem_singleton.1 hr; exact ⟨_, hm, rfl, rfl, rfl⟩) (fun r hr => by obtain rfl := List.mem_singleton.1 hr; rfl)
      exact (awake_any m t w hs).mono fun e w' ⟨h, hg⟩ => ⟨[], rfl, h, hS.grow hg⟩
    · cases hq
noncomputable def numAt (c : List Value) (j : Nat) : Int := match nth? c j with | some (.int .u64 x) => x | _ => 0
noncomputable def isNum (c : List Value) (j : Nat) : Bool := match nth? c j with | some (.int .u64 _) => true | _ => false
theorem nth?_eq : ∀ (l : List Value) (j : Nat), nth? l j = l[j]?
  | [], _ => rfl
  | _ :: _, 0 => rfl
  | _ :: l, j + 1 => nth?_eq l j
theorem isNum_out {c : List Value} {j : Nat} (h : isNum c j = true) : c[j]? = some (.int .u64 (numAt c j)) := by
  unfold isNum at h
  unfold numAt
  split at h
  · rename_i x hx
    rw [← nth?_eq, hx]
  · cases h
noncomputable def allNum (c : List Value) : Nat → Bool
  | 0 => true
  | n + 1 => allNum c n && isNum c n
theorem allNum_out {c : List Value} : ∀ {n : Nat}, allNum c n = true → ∀ j, j < n → c[j]? = some (.int .u64 (numAt c j))
  | n + 1, h, j, hj => by
    have h : (allNum c n && isNum c n) = true := h
    rw [Bool.and_eq_true] at h
    by_cases e : j = n
    · subst e; exact isNum_out h.2
    · exact allNum_out h.1 j (by omega)
def rowOf (t : TypeId) : List Rw → Nat
  | [] => 0
  | r :: M => match Nat.beq r.t t with | true => 0 | false => rowOf t M + 1
noncomputable def doS (g : Rw) (op A L H : Int) (need : Nat) (Y : (Nat → Int) → List Int) (ok : Bool) (jf : List Rw → Nat) : CsF := fun f args M =>
  match Nat.beq f 10 with
  | false => none
  | true => match args with
    | [.agg ⟨[.int .i64 op', .int .i64 A', .int .i64 _, .int .u64 L', .int .u64 H', .slice _ _ _]⟩, .slice hp n cap] => match Nat.beq n need with
      | false => some ⟨setEnd M [g], [decide (op' = op), decide (A' = A), decide (L' = L), decide (H' = H)], 0, fun _ => err1, fun _ => []⟩
      | true => match ok with
        | false => match hp, Ev.rowAt M (jf M) with
          | some ⟨b, 0, none⟩, some r => some ⟨M.take (jf M) ++ ⟨b, r.c, r.t, r.own⟩ :: setEnd (M.drop (jf M + 1)) [g], [decide (op' = op), decide (A' = A), decide (L' = L), decide (H' = H), allNum r.c n, Nat.ble n cap, Nat.ble n 9223372036854775807], 0, fun _ => err1, fun _ => []⟩
          | _, _ => none
        | true => match hp, Ev.rowAt M (jf M) with
          | some ⟨b, 0, none⟩, some r => some ⟨M.take (jf M) ++ ⟨b, r.c, r.t, r.own⟩ :: setEnd (M.drop (jf M + 1)) [g], [decide (op' = op), decide (A' = A), decide (L' = L), decide (H' = H), allNum r.c n, Nat.ble n cap, Nat.ble n 9223372036854775807], 1,
            fun fr => match fr with | [a] => .tuple #[.slice (some ⟨a.b, 0, none⟩) (Y (numAt r.c)).length ((u64s (Y (numAt r.c)) ++ a.t).length / 1), .int .i64 0] | _ => undef,
            fun fr => match fr with | [a] => [⟨a.b, u64s (Y (numAt r.c)) ++ a.t, 22, true⟩] | _ => []⟩
          | _, _ => none
    | _ => none
theorem doS_ok (m : Int) (t : Gt) (op A L H : Int) (need : Nat) (Y : (Nat → Int) → List Int) (ok : Bool) (jf : List Rw → Nat) (K : DoIs m t op A L H need Y ok) : COk (doS (gRow m t) op A L H need Y ok jf) := by
  intro f args M H' hq hrows hpre w0 w hS
  unfold doS at hq
  split at hq
  · cases hq
  · rename_i hf
    obtain rfl := Nat.eq_of_beq_eq_true hf
    split at hq
    · rename_i op' A' B L' Hh lv ln lc hp n cap
      have hg1 : ∀ {L : List Rw}, M = L → gRow m t ∈ L → SG w [gRow m t] w := fun e hm => sg_given hS (fun r hr => by obtain rfl := List.mem_singleton.1 hr; exact ⟨_, e ▸ hm, rfl, rfl, rfl⟩) (fun r hr => by obtain rfl := List.mem_singleton.1 hr; rfl)
      split at hq
      · rename_i hn
        cases hq
        have p1 := of_decide_eq_true (hpre _ (List.mem_cons_self ..))
        have p2 := of_decide_eq_true (hpre _ (List.mem_cons_of_mem _ (List.mem_cons_self ..)))
        have p3 := of_decide_eq_true (hpre _ (List.mem_cons_of_mem _ (List.mem_cons_of_mem _ (List.mem_cons_self ..))))
        have p4 := of_decide_eq_true (hpre _ (List.mem_cons_of_mem _ (List.mem_cons_of_mem _ (List.mem_cons_of_mem _ (List.mem_cons_self ..)))))
        subst p1 p2 p3 p4
        have hne : n ≠ need := fun e => by subst e; rw [Nat.beq_refl] at hn; cases hn
        exact (K.1 B lv hp ln lc n cap hne w (hg1 hrows (setEnd_mem (List.mem_cons_self ..)))).mono fun e w' h => ⟨[], rfl, h.1, hS.grow h.2⟩
      · rename_i hn
        have hne := Nat.eq_of_beq_eq_true hn
        split at hq
        · split at hq
          · rename_i b r hr
            cases hq
            have p1 := of_decide_eq_true (hpre _ (List.mem_cons_self ..))
            have p2 := of_decide_eq_true (hpre _ (List.mem_cons_of_mem _ (List.mem_cons_self ..)))
            have p3 := of_decide_eq_true (hpre _ (List.mem_cons_of_mem _ (List.mem_cons_of_mem _ (List.mem_cons_self ..))))
            have p4 := of_decide_eq_true (hpre _ (List.mem_cons_of_mem _ (List.mem_cons_of_mem _ (List.mem_cons_of_mem _ (List.mem_cons_self ..)))))
            have p5 := hpre _ (List.mem_cons_of_mem _ (List.mem_cons_of_mem _ (List.mem_cons_of_mem _ (List.mem_cons_of_mem _ (List.mem_cons_self ..)))))
            have p6 := Nat.le_of_ble_eq_true (hpre _ (List.mem_cons_of_mem _ (List.mem_cons_of_mem _ (List.mem_cons_of_mem _ (List.mem_cons_of_mem _ (List.mem_cons_of_mem _ (List.mem_cons_self ..)))))))
            have p7 := Nat.le_of_ble_eq_true (hpre _ (List.mem_cons_of_mem _ (List.mem_cons_of_mem _ (List.mem_cons_of_mem _ (List.mem_cons_of_mem _ (List.mem_cons_of_mem _ (List.mem_cons_of_mem _ (List.mem_cons_self ..))))))))
            subst p1 p2 p3 p4
            simp only at hrows
            have m1 : (⟨b, r.c, r.t, r.own⟩ : Rw) ∈ M := by rw [hrows]; exact List.mem_append_right _ (List.mem_cons_self ..)
            have m2 : gRow m t ∈ M := by rw [hrows]; exact List.mem_append_right _ (List.mem_cons_of_mem _ (setEnd_mem (List.mem_cons_self ..)))
            have hs : SG w [Hv.row ⟨b, 0, n, cap, r.c, r.t⟩, gRow m t] w := sg_given hS (fun q hq => by
              rcases List.mem_cons.1 hq with rfl | hq
              · exact ⟨_, m1, rfl, rfl, rfl⟩
              · obtain rfl := List.mem_singleton.1 hq
                exact ⟨_, m2, rfl, rfl, rfl⟩) (fun q hq => by
              rcases List.mem_cons.1 hq with rfl | hq
              · rfl
              · obtain rfl := List.mem_singleton.1 hq
                rfl)
            refine (K.2 B lv ln lc ⟨b, 0, n, cap, r.c, r.t⟩ (numAt r.c) hne ⟨p7, p6, fun j hj => ?_⟩ w hs).mono ?_
            · show r.c[0 + j]? = _
              rw [Nat.zero_add]
              exact allNum_out p5 j hj
            · intro e w' h
              unfold AnsOr at h
              rw [if_neg (by decide)] at h
              exact ⟨[], rfl, h.1, hS.grow h.2⟩
          · cases hq
        · split at hq
          · rename_i b r hr
            cases hq
            have p1 := of_decide_eq_true (hpre _ (List.mem_cons_self ..))
            have p2 := of_decide_eq_true (hpre _ (List.mem_cons_of_mem _ (List.mem_cons_self ..)))
            have p3 := of_decide_eq_true (hpre _ (List.mem_cons_of_mem _ (List.mem_cons_of_mem _ (List.mem_cons_self ..))))
            have p4 := of_decide_eq_true (hpre _ (List.mem_cons_of_mem _ (List.mem_cons_of_mem _ (List.mem_cons_of_mem _ (List.mem_cons_self ..)))))
            have p5 := hpre _ (List.mem_cons_of_mem _ (List.mem_cons_of_mem _ (List.mem_cons_of_mem _ (List.mem_cons_of_mem _ (List.mem_cons_self ..)))))
            have p6 := Nat.le_of_ble_eq_true (hpre _ (List.mem_cons_of_mem _ (List.mem_cons_of_mem _ (List.mem_cons_of_mem _ (List.mem_cons_of_mem _ (List.mem_cons_of_mem _ (List.mem_cons_self ..)))))))
            have p7 := Nat.le_of_ble_eq_true (hpre _ (List.mem_cons_of_mem _ (List.mem_cons_of_mem _ (List.mem_cons_of_mem _ (List.mem_cons_of_mem _ (List.mem_cons_of_mem _ (List.mem_cons_of_mem _ (List.mem_cons_self ..))))))))
            subst p1 p2 p3 p4
            simp only at hrows
            have m1 : (⟨b, r.c, r.t, r.own⟩ : Rw) ∈ M := by rw [hrows]; exact List.mem_append_right _ (List.mem_cons_self ..)
            have m2 : gRow m t ∈ M := by rw [hrows]; exact List.mem_append_right _ (List.mem_cons_of_mem _ (setEnd_mem (List.mem_cons_self ..)))
            have hs : SG w [Hv.row ⟨b, 0, n, cap, r.c, r.t⟩, gRow m t] w := sg_given hS (fun q hq => by
              rcases List.mem_cons.1 hq with rfl | hq
              · exact ⟨_, m1, rfl, rfl, rfl⟩
              · obtain rfl := List.mem_singleton.1 hq
                exact ⟨_, m2, rfl, rfl, rfl⟩) (fun q hq => by
              rcases List.mem_cons.1 hq with rfl | hq
              · rfl
              · obtain rfl := List.mem_singleton.1 hq
                rfl)
            refine (K.2 B lv ln lc ⟨b, 0, n, cap, r.c, r.t⟩ (numAt r.c) hne ⟨p7, p6, fun j hj => ?_⟩ w hs).mono ?_
            · show r.c[0 + j]? = _
              rw [Nat.zero_add]
              exact allNum_out p5 j hj
            · intro e w' h
              unfold AnsOr at h
              rw [if_pos rfl] at h
              obtain ⟨b2, tl, rfl, h2⟩ := h
              exact ⟨[⟨b2, fun _ => undef, tl⟩], rfl, rfl, sg_over hS rfl h2⟩
          · cases hq
    · cases hq
theorem is_co (m : Int) (t : Gt) (A L H : Int) : DoIs m t 64780 A L H 0 (fun _ => [getI (both64 L H) 64 0, getI (both64 L H) 64 1]) true := by
  refine ⟨fun B lv hp ln lc n cap hn w hS => do_constbad m t A B L H lv hp ln lc n cap hn w hS, fun B lv ln lc h x hn ho w hS => ?_⟩
  obtain ⟨hb, o, n, cap, hc, ht⟩ := h
  obtain rfl : n = 0 := hn
  exact (do_const m t A B L H lv (some ⟨hb, o, none⟩) ln lc cap w (sg_g hS)).mono fun e w' ⟨β, he, hs⟩ => ans_t rfl ⟨(β 15).b, (β 15).t, he, hs⟩
def DoNo (m : Int) (t : Gt) (op : Int) : Prop := ∀ (A B L H : Int) (lv hp : Option Addr) (ln lc n cap : Nat) (w : World), SG w [gRow m t] w → Calls Try.prog 10 #[ins op A B L H (.slice lv ln lc), .slice hp n cap] w (Err w)
noncomputable def doN (g : Rw) (op : Int) : CsF := fun f args M =>
  match Nat.beq f 10 with
  | false => none
  | true => match args with
    | [.agg ⟨[.int .i64 op', .int .i64 _, .int .i64 _, .int .u64 _, .int .u64 _, .slice _ _ _]⟩, .slice _ _ _] => some ⟨setEnd M [g], [decide (op' = op)], 0, fun _ => err1, fun _ => []⟩
    | _ => none
theorem doN_ok (m : Int) (t : Gt) (op : Int) (K : DoNo m t op) : COk (doN (gRow m t) op) := by
  intro f args M H' hq hrows hpre w0 w hS
  unfold doN at hq
  split at hq
  · cases hq
  · rename_i hf
    obtain rfl := Nat.eq_of_beq_eq_true hf
    split at hq
    · rename_i op' A' B L' Hh lv ln lc hp n cap
      cases hq
      have p1 := of_decide_eq_true (hpre _ (List.mem_cons_self ..))
      subst p1
      simp only at hrows
      have m2 : gRow m t ∈ M := by rw [hrows]; exact setEnd_mem (List.mem_cons_self ..)
      have hs : SG w [gRow m t] w := sg_given hS (fun r hr => by obtain rfl := List.mem_singleton.1 hr; exact ⟨_, m2, rfl, rfl, rfl⟩) (fun r hr => by obtain rfl := List.mem_singleton.1 hr; rfl)
      exact (K A' B L' Hh lv hp ln lc n cap w hs).mono fun e w' h => ⟨[], rfl, h.1, hS.grow h.2⟩
    · cases hq
theorem no_un {m : Int} {t : Gt} {op : Int} (K : Unknown op) : DoNo m t op := fun A B L H lv hp ln lc n cap w _ => do_none op A B L H K lv hp ln lc n cap w
theorem no_mem {m : Int} {t : Gt} {op f l : Int} {s : ByteArray} (hq : ¬ op < 64768) (K : KnownP ⟨op, f, l, s⟩) (hf : f = 7 ∨ f = 8) : DoNo m t op := fun A B L H lv hp ln lc n cap w hS => by
  rcases hf with rfl | rfl
  · exact do_mem7 m t op l s K hq A B L H lv hp ln lc n cap w hS
  · exact do_mem8 m t op l s K hq A B L H lv hp ln lc n cap w hS
theorem no_sca {m : Int} {t : Gt} {q : Q} (hq : q.n < 64768) (K : KnownP q) : DoNo m t q.n := fun A B L H lv hp ln lc n cap w hS => do_sca m t q K hq A B L H lv hp ln lc n cap w hS
end Vc
end Go.Proofs.Ytjoalcaooccbiaa
