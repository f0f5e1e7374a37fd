/-
  Texts of this seat, joined: InsKp, InsR7, ExO. Each says what it proves.
-/
import Derived.Test.YtebkabidojipoaaMk8
import Derived.Test.YtebkabidojipoaaMk13
import Derived.Test.YtebkabidojipoaaMk14
/- InsKp -/
namespace Go.Proofs.Ytebkabidojipoaa
open Go.RowKit
namespace Ins
end Ins
end Go.Proofs.Ytebkabidojipoaa
/- InsR7 -/
namespace Go.Proofs.Ytebkabidojipoaa
open Go.RowKit
namespace Ins
theorem wrap_u64 (x : Int) : 0 ≤ IntKind.u64.wrap x ∧ IntKind.u64.wrap x < 18446744073709551616 := by
 simp only [IntKind.wrap, IntKind.signed, IntKind.bits]
 constructor <;> (try simp) <;> omega
end Ins
end Go.Proofs.Ytebkabidojipoaa
/- ExO -/
namespace Go.Proofs.Ytebkabidojipoaa
open Go.RowKit
namespace Ex
open Ins
def fm (op : Int) : Int := ((rowT.find? fun r => decide (r.lo ≤ op) && decide (op ≤ r.hi)).map (·.f)).getD 0
theorem rowN_get (k : Nat) (h : k < 108) : rowT[k]? = some (rowN k) := by
 unfold rowN
 have hl : k < rowT.length := by rw [rows_len]; exact h
 rw [List.getD_eq_getElem?_getD, List.getElem?_eq_getElem hl]; rfl
theorem inrow_dec {k : Nat} {op : Int} : (decide ((rowN k).lo ≤ op) && decide (op ≤ (rowN k).hi)) = true ↔ InRow k op := by
 unfold InRow; simp
theorem fm_row {op : Int} {k : Nat} (hk : k < 108) (h : InRow k op) (hn : ∀ j, j < k → ¬ InRow j op) : fm op = (rowN k).f := by
 unfold fm
 have hl : k < rowT.length := by rw [rows_len]; exact hk
 have he : ∀ j (hj : j < rowT.length), rowT[j] = rowN j := fun j hj => by
  have := rowN_get j (by rw [rows_len] at hj; exact hj)
  rw [List.getElem?_eq_getElem hj] at this
  exact Option.some.inj this
 have : rowT.find? (fun r => decide (r.lo ≤ op) && decide (op ≤ r.hi)) = some (rowN k) := by
  rw [List.find?_eq_some_iff_getElem]
  refine ⟨inrow_dec.2 h, k, hl, he k hl, fun j hj => ?_⟩
  rw [he j (by omega)]
  have h9 : (decide ((rowN j).lo ≤ op) && decide (op ≤ (rowN j).hi)) = false := by
   have := hn j hj
   rw [← inrow_dec] at this
   exact Bool.eq_false_iff.2 this
  rw [h9]; rfl
 rw [this]; rfl
theorem fm_none {op : Int} (h : RN op) : fm op = 0 := by
 unfold fm
 have : rowT.find? (fun r => decide (r.lo ≤ op) && decide (op ≤ r.hi)) = none := by
  rw [List.find?_eq_none]
  intro r hr
  obtain ⟨j, hj, rfl⟩ := List.getElem_of_mem hr
  have hj' : j < 108 := by rw [rows_len] at hj; exact hj
  have e := rowN_get j hj'
  rw [List.getElem?_eq_getElem hj] at e
  rw [Option.some.inj e, inrow_dec]
  exact h j hj'
 rw [this]; rfl
theorem fm_rx {op f l : Int} {s : ByteArray} (h : RX op f l s) : fm op = f := by
 obtain ⟨k, hk, hin, hn, hf, _⟩ := h
 rw [fm_row hk hin hn, hf]
theorem good_form {op f l : Int} {s : ByteArray} (g : Ins.Good op f l s) : 1 ≤ f ∧ f ≤ 14 := by
 have := g.apart
 unfold apartB at this
 simp only [Bool.and_eq_true, decide_eq_true_eq] at this
 omega
theorem fm_float {op : Int} (hop : op ≤ 9223372036854775807) (h : fm op ≠ 0) : floatB op = false ∧ 1 ≤ fm op ∧ fm op ≤ 14 := by
 rcases ofr_any op hop with ⟨hn, _⟩ | ⟨f, l, s, rx, _, g⟩
 ·exact absurd (fm_none hn) h
 ·rw [fm_rx rx]
  exact ⟨g.float, good_form g⟩
def OFX (op : Int) (w : World) (e : Ending) (w' : World) : Prop :=
 ∃ l p xi ni ci xo no co, e = .returned (.tuple #[.agg #[.int .i64 (fm op), .int .i64 l, .bool p, .slice xi ni ci, .slice xo no co], .bool (fm op != 0)]) ∧ Gr w w'
theorem of_fm (op : Int) (hop : op ≤ 9223372036854775807) (w : World) (hm : Mx w) : Calls Try.prog 20 #[.int .i64 op] w (OFX op w) := by
 rcases ofr_any op hop with ⟨hn, ho⟩ | ⟨f, l, s, rx, oy, g⟩
 ·refine (ho w).mono fun e w' ⟨h1, h2⟩ => ⟨0, false, none, 0, 0, none, 0, 0, ?_, h2⟩
  rw [fm_none hn]; exact h1
 ·refine (ofy_lit oy w hm).mono fun e w' ⟨xi, ci, xo, co, h1, h2, _⟩ => ⟨l, cutP s, xi, (cutA s).size, ci, xo, (cutB s).size, co, ?_, h2⟩
  have hne : (f != 0) = true := by have := good_form g; simp; omega
  rw [fm_rx rx, hne]; exact h1
end Ex
end Go.Proofs.Ytebkabidojipoaa
