/-
  Texts of this seat, joined: Kit, InsSh, InsTy, Steady, Net, NetTail. Each says what it proves.
-/
import Derived.Test.YtifjgocfdnhdeaaMs1
import Derived.Test.YtifjgocfdnhdeaaRows
import Derived.WalkKit
import Derived.WalkSpells
import Derived.WalkLawsBesides
import Derived.Lib.Hide
import Derived.Deep.Cut
import Derived.Deep.WholeRow
import Derived.Deep.RegionWith
import Derived.Deep.RegionHeld3
import Derived.StillTailTactics
import Derived.BigQuiet
import Derived.Laws.Bits64b
import Derived.Laws.AppendOwn
import Derived.Below
import Derived.Carry
/- Kit -/
namespace Go.Proofs.Ytifjgocfdnhdeaa
open Go.RowKit VecM
def Gr (w w' : World) : Prop := Below w.heap.size w w'
theorem Gr.refl (w : World) : Gr w w := Below.refl _ _
theorem gr_trans {a b c : World} (h : Gr a b) (h' : Gr b c) : Gr a c := Below.trans h (Below.mono h' h.size)
theorem Gr.drew {a w : World} (h : Gr a w) : Gr a w.drew := Below.drew h
theorem Gr.drewN {a w : World} (h : Gr a w) (n : Nat) : Gr a (w.drewN n) := ⟨h.os, h.tape, h.output, h.size, h.block⟩
theorem Gr.allocO {a w : World} (h : Gr a w) (o : Obj) : Gr a (w.alloc o) := Below.alloc h h.size o
theorem Gr.alloc {a w : World} (h : Gr a w) (c : Array Value) (t : TypeId) : Gr a (w.alloc (.cells c t)) := h.allocO _
theorem Gr.setCell {a w : World} (h : Gr a w) {p : Addr} (hp : a.heap.size ≤ p.block) (u : Value) : Gr a (w.setCell p u) := Below.setCell h hp u
theorem Gr.grown {a w w' : World} {row : Option Nat} (h : Gr a w) (hg : w.grownBy w' row) (hr : ∀ k, row = some k → a.heap.size ≤ k) : Gr a w' := Below.grown h hg h.size hr
theorem gr_block {w w' : World} (h : Gr w w') {i : Nat} {o : Obj} (hi : w.heap[i]? = some o) : w'.heap[i]? = some o := by
 have hlt : i < w.heap.size := by
  apply Nat.lt_of_not_le; intro hle
  rw [Array.getElem?_eq_none hle] at hi; cases hi
 rw [h.block i hlt]; exact hi
theorem gr_cell {w w' : World} (h : Gr w w') {b o : Nat} {v : Value} (hc : w.cell? ⟨b, o, none⟩ = some v) : w'.cell? ⟨b, o, none⟩ = some v := by
 rw [Below.cell h (block_lt_of_cell hc)]; exact hc
theorem gr_setRow {W w' : World} (h : Gr W w') {g : Nat} (hg : W.heap.size ≤ g) (c : Array Value) : Gr W (w'.setRow g c) :=
 Below.trans h ⟨rfl, rfl, rfl, by simp [World.setRow], fun i hi => by
  simp only [World.setRow, Array.getElem?_modify]
  rw [if_neg (by omega)]⟩
theorem setRow_block {w : World} {g : Nat} {old c : Array Value} {t : TypeId} {z : Nat × Nat} (h : w.heap[g]? = some (.cells old t z)) : (w.setRow g c).heap[g]? = some (.cells c t z) := by
 simp only [World.setRow, Array.getElem?_modify, if_true, h]; rfl
theorem setRow_block_other {w : World} {g i : Nat} {c : Array Value} (h : i ≠ g) : (w.setRow g c).heap[i]? = w.heap[i]? := by
 simp only [World.setRow, Array.getElem?_modify]
 rw [if_neg (fun e => h e.symm)]
section
variable {P : Program} {ops : Array Oper} {w : World} {Q : Act → Prop} {a : Act} {o : Oper} {rest : List Oper}
end
end Go.Proofs.Ytifjgocfdnhdeaa
/- InsSh -/
namespace Go.Proofs.Ytifjgocfdnhdeaa
open Go.RowKit
namespace Ins
def shp (f l : Int) (s : ByteArray) : Array Value := #[.int .i64 f, .int .i64 l, .string s]
def RES (f l : Int) (s : ByteArray) (w : World) (e : Ending) (w' : World) : Prop := e = .returned (.agg (shp f l s)) ∧ Gr w w'
theorem infoS : (Try.prog.info? 59).map (·.size) = some 3 := by kernel_rfl
theorem shp_one (f l : Int) (s : ByteArray) : (shp f l s).all (·.oneCell') = true := by kernel_rfl
def zs : ByteArray := { data := #[] }
theorem within_yes (n a b : Int) (h0 : a ≤ n) (h1 : n ≤ b) (w : World) : Calls Try.prog 29 #[.int .i64 n, .int .i64 a, .int .i64 b] w fun e w' => e = .returned (.bool true) ∧ w = w' := by
 go_enter Try.func29, Try.ntmps29
 go_wp2
 go_ret
 exact ⟨rfl, rfl⟩
theorem within_no (n a b : Int) (h : n < a ∨ b < n) (w : World) : Calls Try.prog 29 #[.int .i64 n, .int .i64 a, .int .i64 b] w fun e w' => e = .returned (.bool false) ∧ w = w' := by
 by_cases h0 : a ≤ n
 ·have h1 : decide (n ≤ b) = false := decide_eq_false (by omega)
  clear h
  go_enter Try.func29, Try.ntmps29
  go_wp2
  go_ret
  exact ⟨rfl, rfl⟩
 ·clear h
  go_enter Try.func29, Try.ntmps29
  go_wp2
  go_ret
  exact ⟨rfl, rfl⟩
theorem wY {n a b : Int} {w : World} {Q : Ending → World → Prop} (h : Q (.returned (.bool true)) w) (h0 : a ≤ n := by omega) (h1 : n ≤ b := by omega) : Calls Try.prog 29 #[.int .i64 n, .int .i64 a, .int .i64 b] w Q :=
 (within_yes n a b h0 h1 w).mono fun e w' ⟨h2, h3⟩ => by subst h2 h3; exact h
theorem wN {n a b : Int} {w : World} {Q : Ending → World → Prop} (h : Q (.returned (.bool false)) w) (h0 : n < a ∨ b < n := by omega) : Calls Try.prog 29 #[.int .i64 n, .int .i64 a, .int .i64 b] w Q :=
 (within_no n a b h0 w).mono fun e w' ⟨h2, h3⟩ => by subst h2 h3; exact h
theorem shB {w w1 : World} (hg : Gr (w.alloc (.cells (shp 0 0 zs) 59)) w1) : Go.RowKit.Hid (w1.heap[w.heap.size]? = some (.cells (shp 0 0 zs) 59 (0, 0))) ∧ Go.RowKit.Hid (Gr w w1) :=
 ⟨Lib.hid (gr_block hg (heap_alloc_new w (.cells (shp 0 0 zs) 59))), Lib.hid (gr_trans ((Gr.refl w).alloc _ _) hg)⟩
theorem st3 {ops : Array Oper} {Q : Exit → Act → World → Prop} {a : Act} {o : Oper} {rest : List Oper} {w : World} {g : Nat} {f l : Int} {s : ByteArray} (HB : Go.RowKit.Hid (w.heap[g]? = some (.cells (shp 0 0 zs) 59 (0, 0)))) (hgd : o.guard = none) (x y : Operand) (ho : o.op = .store 59 x y) (hx : a.eval x = .pointer (some ⟨g, 0, none⟩)) (hy : a.eval y = .agg (shp f l s)) (h : wpList Try.prog ops Q rest (a.put o.dst undef) (w.setRow g (shp f l s))) : wpList Try.prog ops Q (o :: rest) a w :=
 wpList_store_row hgd 59 x y ho g (shp f l s) hx hy 59 (shp 0 0 zs) HB.out infoS rfl (shp_one _ _ _) h
theorem sE {fn : Func} {p : Tmp} (hr : fn.results = #[.cell p 59]) {a : Act} {w w0 : World} {g : Nat} {f l : Int} {s : ByteArray} (HB : Go.RowKit.Hid (w.heap[g]? = some (.cells (shp 0 0 zs) 59 (0, 0)))) (HG : Go.RowKit.Hid (Gr w0 w)) (hp : a.tmps.getD p undef = .pointer (some ⟨g, 0, none⟩)) (hd : a.defers = []) (hg : w0.heap.size ≤ g) : bodyPost Try.prog fn (RES f l s w0) .ret a (w.setRow g (shp f l s)) :=
 bodyPost_ret (v := .agg (shp f l s)) (results_cell_row hr _ _ g 59 _ (0, 0) _ hp (setRow_block HB.out) Try.underlying59 rfl infoS) hd ⟨rfl, gr_setRow HG.out hg _⟩
theorem plain_any (s : ByteArray) (w : World) : Calls Try.prog 45 #[.string s] w (RES 1 0 s w) := by
 go_enter Try.func45, Try.ntmps45
 go_wp2
 exact bodyPost_ret (v := .agg (shp 1 0 s)) (by simp [results, Try.results45, go_sem, shp]) rfl ⟨rfl, (Gr.refl _).alloc _ _⟩
theorem memory_any (l : Int) (s : ByteArray) (w : World) : Calls Try.prog 44 #[.int .i64 l, .string s] w (RES 7 l s w) := by
 go_enter Try.func44, Try.ntmps44
 go_wp2
 exact bodyPost_ret (v := .agg (shp 7 l s)) (by simp [results, Try.results44, go_sem, shp]) rfl ⟨rfl, (Gr.refl _).alloc _ _⟩
theorem lane_any (l : Int) (s : ByteArray) (w : World) : Calls Try.prog 46 #[.int .i64 l, .string s] w (RES 13 l s w) := by
 go_enter Try.func46, Try.ntmps46
 go_wp2
 exact bodyPost_ret (v := .agg (shp 13 l s)) (by simp [results, Try.results46, go_sem, shp]) rfl ⟨rfl, (Gr.refl _).alloc _ _⟩
theorem access_0 (w : World) : Calls Try.prog 35 #[.int .i64 40] w (RES 7 2 ⟨#[105, 58, 105]⟩ w) := by
 go_enter Try.func35, Try.ntmps35
 go_wp2_with (go_at_call 29; first | refine wY ?_ | refine wN ?_)
 refine (memory_any _ _ _).mono ?_
 rintro e w1 ⟨rfl, hg⟩
 obtain ⟨HB, HG⟩ := shB hg
 clear hg
 go_wp2_with (refine st3 HB rfl _ _ rfl rfl rfl ?_)
 exact sE Try.results35 HB HG rfl rfl (by omega)
theorem access_1 (w : World) : Calls Try.prog 35 #[.int .i64 41] w (RES 7 3 ⟨#[105, 58, 108]⟩ w) := by
 go_enter Try.func35, Try.ntmps35
 go_wp2_with (go_at_call 29; first | refine wY ?_ | refine wN ?_)
 refine (memory_any _ _ _).mono ?_
 rintro e w1 ⟨rfl, hg⟩
 obtain ⟨HB, HG⟩ := shB hg
 clear hg
 go_wp2_with (refine st3 HB rfl _ _ rfl rfl rfl ?_)
 exact sE Try.results35 HB HG rfl rfl (by omega)
theorem access_2 (n : Int) (h0 : 42 ≤ n) (h1 : n ≤ 43) (w : World) : Calls Try.prog 35 #[.int .i64 n] w (RES 0 0 ⟨#[]⟩ w) := by
 go_enter Try.func35, Try.ntmps35
 go_wp2_with (go_at_call 29; first | refine wY ?_ | refine wN ?_)
 exact bodyPost_ret (v := .agg (shp _ _ _)) (by simp [results, Try.results35, go_sem, shp] <;> rfl) rfl ⟨rfl, (Gr.refl _).alloc _ _⟩
theorem access_3 (w : World) : Calls Try.prog 35 #[.int .i64 44] w (RES 7 0 ⟨#[105, 58, 105]⟩ w) := by
 go_enter Try.func35, Try.ntmps35
 go_wp2_with (go_at_call 29; first | refine wY ?_ | refine wN ?_)
 refine (memory_any _ _ _).mono ?_
 rintro e w1 ⟨rfl, hg⟩
 obtain ⟨HB, HG⟩ := shB hg
 clear hg
 go_wp2_with (refine st3 HB rfl _ _ rfl rfl rfl ?_)
 exact sE Try.results35 HB HG rfl rfl (by omega)
theorem access_4 (w : World) : Calls Try.prog 35 #[.int .i64 45] w (RES 7 0 ⟨#[105, 58, 105]⟩ w) := by
 go_enter Try.func35, Try.ntmps35
 go_wp2_with (go_at_call 29; first | refine wY ?_ | refine wN ?_)
 refine (memory_any _ _ _).mono ?_
 rintro e w1 ⟨rfl, hg⟩
 obtain ⟨HB, HG⟩ := shB hg
 clear hg
 go_wp2_with (refine st3 HB rfl _ _ rfl rfl rfl ?_)
 exact sE Try.results35 HB HG rfl rfl (by omega)
theorem access_5 (w : World) : Calls Try.prog 35 #[.int .i64 46] w (RES 7 1 ⟨#[105, 58, 105]⟩ w) := by
 go_enter Try.func35, Try.ntmps35
 go_wp2_with (go_at_call 29; first | refine wY ?_ | refine wN ?_)
 refine (memory_any _ _ _).mono ?_
 rintro e w1 ⟨rfl, hg⟩
 obtain ⟨HB, HG⟩ := shB hg
 clear hg
 go_wp2_with (refine st3 HB rfl _ _ rfl rfl rfl ?_)
 exact sE Try.results35 HB HG rfl rfl (by omega)
theorem access_6 (w : World) : Calls Try.prog 35 #[.int .i64 47] w (RES 7 1 ⟨#[105, 58, 105]⟩ w) := by
 go_enter Try.func35, Try.ntmps35
 go_wp2_with (go_at_call 29; first | refine wY ?_ | refine wN ?_)
 refine (memory_any _ _ _).mono ?_
 rintro e w1 ⟨rfl, hg⟩
 obtain ⟨HB, HG⟩ := shB hg
 clear hg
 go_wp2_with (refine st3 HB rfl _ _ rfl rfl rfl ?_)
 exact sE Try.results35 HB HG rfl rfl (by omega)
theorem access_7 (w : World) : Calls Try.prog 35 #[.int .i64 48] w (RES 7 0 ⟨#[105, 58, 108]⟩ w) := by
 go_enter Try.func35, Try.ntmps35
 go_wp2_with (go_at_call 29; first | refine wY ?_ | refine wN ?_)
 refine (memory_any _ _ _).mono ?_
 rintro e w1 ⟨rfl, hg⟩
 obtain ⟨HB, HG⟩ := shB hg
 clear hg
 go_wp2_with (refine st3 HB rfl _ _ rfl rfl rfl ?_)
 exact sE Try.results35 HB HG rfl rfl (by omega)
theorem access_8 (w : World) : Calls Try.prog 35 #[.int .i64 49] w (RES 7 0 ⟨#[105, 58, 108]⟩ w) := by
 go_enter Try.func35, Try.ntmps35
 go_wp2_with (go_at_call 29; first | refine wY ?_ | refine wN ?_)
 refine (memory_any _ _ _).mono ?_
 rintro e w1 ⟨rfl, hg⟩
 obtain ⟨HB, HG⟩ := shB hg
 clear hg
 go_wp2_with (refine st3 HB rfl _ _ rfl rfl rfl ?_)
 exact sE Try.results35 HB HG rfl rfl (by omega)
theorem access_9 (w : World) : Calls Try.prog 35 #[.int .i64 50] w (RES 7 1 ⟨#[105, 58, 108]⟩ w) := by
 go_enter Try.func35, Try.ntmps35
 go_wp2_with (go_at_call 29; first | refine wY ?_ | refine wN ?_)
 refine (memory_any _ _ _).mono ?_
 rintro e w1 ⟨rfl, hg⟩
 obtain ⟨HB, HG⟩ := shB hg
 clear hg
 go_wp2_with (refine st3 HB rfl _ _ rfl rfl rfl ?_)
 exact sE Try.results35 HB HG rfl rfl (by omega)
theorem access_10 (w : World) : Calls Try.prog 35 #[.int .i64 51] w (RES 7 1 ⟨#[105, 58, 108]⟩ w) := by
 go_enter Try.func35, Try.ntmps35
 go_wp2_with (go_at_call 29; first | refine wY ?_ | refine wN ?_)
 refine (memory_any _ _ _).mono ?_
 rintro e w1 ⟨rfl, hg⟩
 obtain ⟨HB, HG⟩ := shB hg
 clear hg
 go_wp2_with (refine st3 HB rfl _ _ rfl rfl rfl ?_)
 exact sE Try.results35 HB HG rfl rfl (by omega)
theorem access_11 (w : World) : Calls Try.prog 35 #[.int .i64 52] w (RES 7 2 ⟨#[105, 58, 108]⟩ w) := by
 go_enter Try.func35, Try.ntmps35
 go_wp2_with (go_at_call 29; first | refine wY ?_ | refine wN ?_)
 refine (memory_any _ _ _).mono ?_
 rintro e w1 ⟨rfl, hg⟩
 obtain ⟨HB, HG⟩ := shB hg
 clear hg
 go_wp2_with (refine st3 HB rfl _ _ rfl rfl rfl ?_)
 exact sE Try.results35 HB HG rfl rfl (by omega)
theorem access_12 (w : World) : Calls Try.prog 35 #[.int .i64 53] w (RES 7 2 ⟨#[105, 58, 108]⟩ w) := by
 go_enter Try.func35, Try.ntmps35
 go_wp2_with (go_at_call 29; first | refine wY ?_ | refine wN ?_)
 refine (memory_any _ _ _).mono ?_
 rintro e w1 ⟨rfl, hg⟩
 obtain ⟨HB, HG⟩ := shB hg
 clear hg
 go_wp2_with (refine st3 HB rfl _ _ rfl rfl rfl ?_)
 exact sE Try.results35 HB HG rfl rfl (by omega)
theorem access_13 (w : World) : Calls Try.prog 35 #[.int .i64 54] w (RES 7 2 ⟨#[105, 105, 58]⟩ w) := by
 go_enter Try.func35, Try.ntmps35
 go_wp2_with (go_at_call 29; first | refine wY ?_ | refine wN ?_)
 refine (memory_any _ _ _).mono ?_
 rintro e w1 ⟨rfl, hg⟩
 obtain ⟨HB, HG⟩ := shB hg
 clear hg
 go_wp2_with (refine st3 HB rfl _ _ rfl rfl rfl ?_)
 exact sE Try.results35 HB HG rfl rfl (by omega)
theorem access_14 (w : World) : Calls Try.prog 35 #[.int .i64 55] w (RES 7 3 ⟨#[105, 108, 58]⟩ w) := by
 go_enter Try.func35, Try.ntmps35
 go_wp2_with (go_at_call 29; first | refine wY ?_ | refine wN ?_)
 refine (memory_any _ _ _).mono ?_
 rintro e w1 ⟨rfl, hg⟩
 obtain ⟨HB, HG⟩ := shB hg
 clear hg
 go_wp2_with (refine st3 HB rfl _ _ rfl rfl rfl ?_)
 exact sE Try.results35 HB HG rfl rfl (by omega)
theorem access_15 (n : Int) (h0 : 56 ≤ n) (h1 : n ≤ 57) (w : World) : Calls Try.prog 35 #[.int .i64 n] w (RES 0 0 ⟨#[]⟩ w) := by
 go_enter Try.func35, Try.ntmps35
 go_wp2_with (go_at_call 29; first | refine wY ?_ | refine wN ?_)
 exact bodyPost_ret (v := .agg (shp _ _ _)) (by simp [results, Try.results35, go_sem, shp] <;> rfl) rfl ⟨rfl, (Gr.refl _).alloc _ _⟩
theorem access_16 (w : World) : Calls Try.prog 35 #[.int .i64 58] w (RES 7 0 ⟨#[105, 105, 58]⟩ w) := by
 go_enter Try.func35, Try.ntmps35
 go_wp2_with (go_at_call 29; first | refine wY ?_ | refine wN ?_)
 refine (memory_any _ _ _).mono ?_
 rintro e w1 ⟨rfl, hg⟩
 obtain ⟨HB, HG⟩ := shB hg
 clear hg
 go_wp2_with (refine st3 HB rfl _ _ rfl rfl rfl ?_)
 exact sE Try.results35 HB HG rfl rfl (by omega)
theorem access_17 (w : World) : Calls Try.prog 35 #[.int .i64 59] w (RES 7 1 ⟨#[105, 105, 58]⟩ w) := by
 go_enter Try.func35, Try.ntmps35
 go_wp2_with (go_at_call 29; first | refine wY ?_ | refine wN ?_)
 refine (memory_any _ _ _).mono ?_
 rintro e w1 ⟨rfl, hg⟩
 obtain ⟨HB, HG⟩ := shB hg
 clear hg
 go_wp2_with (refine st3 HB rfl _ _ rfl rfl rfl ?_)
 exact sE Try.results35 HB HG rfl rfl (by omega)
theorem access_18 (w : World) : Calls Try.prog 35 #[.int .i64 60] w (RES 7 0 ⟨#[105, 108, 58]⟩ w) := by
 go_enter Try.func35, Try.ntmps35
 go_wp2_with (go_at_call 29; first | refine wY ?_ | refine wN ?_)
 refine (memory_any _ _ _).mono ?_
 rintro e w1 ⟨rfl, hg⟩
 obtain ⟨HB, HG⟩ := shB hg
 clear hg
 go_wp2_with (refine st3 HB rfl _ _ rfl rfl rfl ?_)
 exact sE Try.results35 HB HG rfl rfl (by omega)
theorem access_19 (w : World) : Calls Try.prog 35 #[.int .i64 61] w (RES 7 1 ⟨#[105, 108, 58]⟩ w) := by
 go_enter Try.func35, Try.ntmps35
 go_wp2_with (go_at_call 29; first | refine wY ?_ | refine wN ?_)
 refine (memory_any _ _ _).mono ?_
 rintro e w1 ⟨rfl, hg⟩
 obtain ⟨HB, HG⟩ := shB hg
 clear hg
 go_wp2_with (refine st3 HB rfl _ _ rfl rfl rfl ?_)
 exact sE Try.results35 HB HG rfl rfl (by omega)
theorem access_20 (w : World) : Calls Try.prog 35 #[.int .i64 62] w (RES 7 2 ⟨#[105, 108, 58]⟩ w) := by
 go_enter Try.func35, Try.ntmps35
 go_wp2_with (go_at_call 29; first | refine wY ?_ | refine wN ?_)
 refine (memory_any _ _ _).mono ?_
 rintro e w1 ⟨rfl, hg⟩
 obtain ⟨HB, HG⟩ := shB hg
 clear hg
 go_wp2_with (refine st3 HB rfl _ _ rfl rfl rfl ?_)
 exact sE Try.results35 HB HG rfl rfl (by omega)
theorem operator_0 (w : World) : Calls Try.prog 36 #[.int .i64 69] w (RES 1 0 ⟨#[105, 58, 105]⟩ w) := by
 go_enter Try.func36, Try.ntmps36
 go_wp2_with (go_at_call 29; first | refine wY ?_ | refine wN ?_)
 refine (plain_any _ _).mono ?_
 rintro e w1 ⟨rfl, hg⟩
 obtain ⟨HB, HG⟩ := shB hg
 clear hg
 go_wp2_with (refine st3 HB rfl _ _ rfl rfl rfl ?_)
 exact sE Try.results36 HB HG rfl rfl (by omega)
theorem operator_1 (n : Int) (h0 : 70 ≤ n) (h1 : n ≤ 79) (w : World) : Calls Try.prog 36 #[.int .i64 n] w (RES 1 0 ⟨#[105, 105, 58, 105]⟩ w) := by
 go_enter Try.func36, Try.ntmps36
 go_wp2_with (go_at_call 29; first | refine wY ?_ | refine wN ?_)
 refine (plain_any _ _).mono ?_
 rintro e w1 ⟨rfl, hg⟩
 obtain ⟨HB, HG⟩ := shB hg
 clear hg
 go_wp2_with (refine st3 HB rfl _ _ rfl rfl rfl ?_)
 exact sE Try.results36 HB HG rfl rfl (by omega)
theorem operator_2 (w : World) : Calls Try.prog 36 #[.int .i64 80] w (RES 1 0 ⟨#[108, 58, 105]⟩ w) := by
 go_enter Try.func36, Try.ntmps36
 go_wp2_with (go_at_call 29; first | refine wY ?_ | refine wN ?_)
 refine (plain_any _ _).mono ?_
 rintro e w1 ⟨rfl, hg⟩
 obtain ⟨HB, HG⟩ := shB hg
 clear hg
 go_wp2_with (refine st3 HB rfl _ _ rfl rfl rfl ?_)
 exact sE Try.results36 HB HG rfl rfl (by omega)
theorem operator_3 (n : Int) (h0 : 81 ≤ n) (h1 : n ≤ 90) (w : World) : Calls Try.prog 36 #[.int .i64 n] w (RES 1 0 ⟨#[108, 108, 58, 105]⟩ w) := by
 go_enter Try.func36, Try.ntmps36
 go_wp2_with (go_at_call 29; first | refine wY ?_ | refine wN ?_)
 refine (plain_any _ _).mono ?_
 rintro e w1 ⟨rfl, hg⟩
 obtain ⟨HB, HG⟩ := shB hg
 clear hg
 go_wp2_with (refine st3 HB rfl _ _ rfl rfl rfl ?_)
 exact sE Try.results36 HB HG rfl rfl (by omega)
theorem operator_4 (n : Int) (h0 : 91 ≤ n) (h1 : n ≤ 102) (w : World) : Calls Try.prog 36 #[.int .i64 n] w (RES 0 0 ⟨#[]⟩ w) := by
 go_enter Try.func36, Try.ntmps36
 go_wp2_with (go_at_call 29; first | refine wY ?_ | refine wN ?_)
 exact bodyPost_ret (v := .agg (shp _ _ _)) (by simp [results, Try.results36, go_sem, shp] <;> rfl) rfl ⟨rfl, (Gr.refl _).alloc _ _⟩
theorem operator_5 (n : Int) (h0 : 103 ≤ n) (h1 : n ≤ 105) (w : World) : Calls Try.prog 36 #[.int .i64 n] w (RES 1 0 ⟨#[105, 58, 105]⟩ w) := by
 go_enter Try.func36, Try.ntmps36
 go_wp2_with (go_at_call 29; first | refine wY ?_ | refine wN ?_)
 refine (plain_any _ _).mono ?_
 rintro e w1 ⟨rfl, hg⟩
 obtain ⟨HB, HG⟩ := shB hg
 clear hg
 go_wp2_with (refine st3 HB rfl _ _ rfl rfl rfl ?_)
 exact sE Try.results36 HB HG rfl rfl (by omega)
theorem operator_6 (n : Int) (h0 : 106 ≤ n) (h1 : n ≤ 120) (w : World) : Calls Try.prog 36 #[.int .i64 n] w (RES 1 0 ⟨#[105, 105, 58, 105]⟩ w) := by
 go_enter Try.func36, Try.ntmps36
 go_wp2_with (go_at_call 29; first | refine wY ?_ | refine wN ?_)
 refine (plain_any _ _).mono ?_
 rintro e w1 ⟨rfl, hg⟩
 obtain ⟨HB, HG⟩ := shB hg
 clear hg
 go_wp2_with (refine st3 HB rfl _ _ rfl rfl rfl ?_)
 exact sE Try.results36 HB HG rfl rfl (by omega)
theorem operator_7 (n : Int) (h0 : 121 ≤ n) (h1 : n ≤ 123) (w : World) : Calls Try.prog 36 #[.int .i64 n] w (RES 1 0 ⟨#[108, 58, 108]⟩ w) := by
 go_enter Try.func36, Try.ntmps36
 go_wp2_with (go_at_call 29; first | refine wY ?_ | refine wN ?_)
 refine (plain_any _ _).mono ?_
 rintro e w1 ⟨rfl, hg⟩
 obtain ⟨HB, HG⟩ := shB hg
 clear hg
 go_wp2_with (refine st3 HB rfl _ _ rfl rfl rfl ?_)
 exact sE Try.results36 HB HG rfl rfl (by omega)
theorem operator_8 (n : Int) (h0 : 124 ≤ n) (h1 : n ≤ 138) (w : World) : Calls Try.prog 36 #[.int .i64 n] w (RES 1 0 ⟨#[108, 108, 58, 108]⟩ w) := by
 go_enter Try.func36, Try.ntmps36
 go_wp2_with (go_at_call 29; first | refine wY ?_ | refine wN ?_)
 refine (plain_any _ _).mono ?_
 rintro e w1 ⟨rfl, hg⟩
 obtain ⟨HB, HG⟩ := shB hg
 clear hg
 go_wp2_with (refine st3 HB rfl _ _ rfl rfl rfl ?_)
 exact sE Try.results36 HB HG rfl rfl (by omega)
theorem operator_9 (n : Int) (h0 : 139 ≤ n) (h1 : n ≤ 166) (w : World) : Calls Try.prog 36 #[.int .i64 n] w (RES 0 0 ⟨#[]⟩ w) := by
 go_enter Try.func36, Try.ntmps36
 go_wp2_with (go_at_call 29; first | refine wY ?_ | refine wN ?_)
 exact bodyPost_ret (v := .agg (shp _ _ _)) (by simp [results, Try.results36, go_sem, shp] <;> rfl) rfl ⟨rfl, (Gr.refl _).alloc _ _⟩
theorem operator_10 (w : World) : Calls Try.prog 36 #[.int .i64 167] w (RES 1 0 ⟨#[108, 58, 105]⟩ w) := by
 go_enter Try.func36, Try.ntmps36
 go_wp2_with (go_at_call 29; first | refine wY ?_ | refine wN ?_)
 refine (plain_any _ _).mono ?_
 rintro e w1 ⟨rfl, hg⟩
 obtain ⟨HB, HG⟩ := shB hg
 clear hg
 go_wp2_with (refine st3 HB rfl _ _ rfl rfl rfl ?_)
 exact sE Try.results36 HB HG rfl rfl (by omega)
theorem operator_11 (n : Int) (h0 : 168 ≤ n) (h1 : n ≤ 171) (w : World) : Calls Try.prog 36 #[.int .i64 n] w (RES 0 0 ⟨#[]⟩ w) := by
 go_enter Try.func36, Try.ntmps36
 go_wp2_with (go_at_call 29; first | refine wY ?_ | refine wN ?_)
 exact bodyPost_ret (v := .agg (shp _ _ _)) (by simp [results, Try.results36, go_sem, shp] <;> rfl) rfl ⟨rfl, (Gr.refl _).alloc _ _⟩
theorem operator_12 (n : Int) (h0 : 172 ≤ n) (h1 : n ≤ 173) (w : World) : Calls Try.prog 36 #[.int .i64 n] w (RES 1 0 ⟨#[105, 58, 108]⟩ w) := by
 go_enter Try.func36, Try.ntmps36
 go_wp2_with (go_at_call 29; first | refine wY ?_ | refine wN ?_)
 refine (plain_any _ _).mono ?_
 rintro e w1 ⟨rfl, hg⟩
 obtain ⟨HB, HG⟩ := shB hg
 clear hg
 go_wp2_with (refine st3 HB rfl _ _ rfl rfl rfl ?_)
 exact sE Try.results36 HB HG rfl rfl (by omega)
theorem operator_13 (n : Int) (h0 : 174 ≤ n) (h1 : n ≤ 191) (w : World) : Calls Try.prog 36 #[.int .i64 n] w (RES 0 0 ⟨#[]⟩ w) := by
 go_enter Try.func36, Try.ntmps36
 go_wp2_with (go_at_call 29; first | refine wY ?_ | refine wN ?_)
 exact bodyPost_ret (v := .agg (shp _ _ _)) (by simp [results, Try.results36, go_sem, shp] <;> rfl) rfl ⟨rfl, (Gr.refl _).alloc _ _⟩
theorem operator_14 (n : Int) (h0 : 192 ≤ n) (h1 : n ≤ 193) (w : World) : Calls Try.prog 36 #[.int .i64 n] w (RES 1 0 ⟨#[105, 58, 105]⟩ w) := by
 go_enter Try.func36, Try.ntmps36
 go_wp2_with (go_at_call 29; first | refine wY ?_ | refine wN ?_)
 refine (plain_any _ _).mono ?_
 rintro e w1 ⟨rfl, hg⟩
 obtain ⟨HB, HG⟩ := shB hg
 clear hg
 go_wp2_with (refine st3 HB rfl _ _ rfl rfl rfl ?_)
 exact sE Try.results36 HB HG rfl rfl (by omega)
theorem operator_15 (n : Int) (h0 : 194 ≤ n) (h1 : n ≤ 196) (w : World) : Calls Try.prog 36 #[.int .i64 n] w (RES 1 0 ⟨#[108, 58, 108]⟩ w) := by
 go_enter Try.func36, Try.ntmps36
 go_wp2_with (go_at_call 29; first | refine wY ?_ | refine wN ?_)
 refine (plain_any _ _).mono ?_
 rintro e w1 ⟨rfl, hg⟩
 obtain ⟨HB, HG⟩ := shB hg
 clear hg
 go_wp2_with (refine st3 HB rfl _ _ rfl rfl rfl ?_)
 exact sE Try.results36 HB HG rfl rfl (by omega)
theorem operator_16 (n : Int) (h0 : 197 ≤ n) (w : World) : Calls Try.prog 36 #[.int .i64 n] w (RES 0 0 ⟨#[]⟩ w) := by
 go_enter Try.func36, Try.ntmps36
 go_wp2_with (go_at_call 29; first | refine wY ?_ | refine wN ?_)
 exact bodyPost_ret (v := .agg (shp _ _ _)) (by simp [results, Try.results36, go_sem, shp] <;> rfl) rfl ⟨rfl, (Gr.refl _).alloc _ _⟩
theorem control_0 (n : Int) (h1 : n ≤ -1) (w : World) : Calls Try.prog 37 #[.int .i64 n] w (RES 0 0 ⟨#[]⟩ w) := by
 go_enter Try.func37, Try.ntmps37
 go_wp2_with (go_at_call 29; first | refine wY ?_ | refine wN ?_)
 exact bodyPost_ret (v := .agg (shp _ _ _)) (by simp [results, Try.results37, go_sem, shp] <;> rfl) rfl ⟨rfl, (Gr.refl _).alloc _ _⟩
theorem control_1 (w : World) : Calls Try.prog 37 #[.int .i64 0] w (RES 1 0 ⟨#[]⟩ w) := by
 go_enter Try.func37, Try.ntmps37
 go_wp2_with (go_at_call 29; first | refine wY ?_ | refine wN ?_)
 refine (plain_any _ _).mono ?_
 rintro e w1 ⟨rfl, hg⟩
 obtain ⟨HB, HG⟩ := shB hg
 clear hg
 go_wp2_with (refine st3 HB rfl _ _ rfl rfl rfl ?_)
 exact sE Try.results37 HB HG rfl rfl (by omega)
theorem control_2 (w : World) : Calls Try.prog 37 #[.int .i64 1] w (RES 1 0 ⟨#[58]⟩ w) := by
 go_enter Try.func37, Try.ntmps37
 go_wp2_with (go_at_call 29; first | refine wY ?_ | refine wN ?_)
 refine (plain_any _ _).mono ?_
 rintro e w1 ⟨rfl, hg⟩
 obtain ⟨HB, HG⟩ := shB hg
 clear hg
 go_wp2_with (refine st3 HB rfl _ _ rfl rfl rfl ?_)
 exact sE Try.results37 HB HG rfl rfl (by omega)
theorem control_3 (w : World) : Calls Try.prog 37 #[.int .i64 2] w (RES 2 0 ⟨#[]⟩ w) := by
 go_enter Try.func37, Try.ntmps37
 go_wp2_with (go_at_call 29; first | refine wY ?_ | refine wN ?_)
 exact bodyPost_ret (v := .agg (shp _ _ _)) (by simp [results, Try.results37, go_sem, shp] <;> rfl) rfl ⟨rfl, (Gr.refl _).alloc _ _⟩
theorem control_4 (w : World) : Calls Try.prog 37 #[.int .i64 3] w (RES 2 0 ⟨#[]⟩ w) := by
 go_enter Try.func37, Try.ntmps37
 go_wp2_with (go_at_call 29; first | refine wY ?_ | refine wN ?_)
 exact bodyPost_ret (v := .agg (shp _ _ _)) (by simp [results, Try.results37, go_sem, shp] <;> rfl) rfl ⟨rfl, (Gr.refl _).alloc _ _⟩
theorem control_5 (w : World) : Calls Try.prog 37 #[.int .i64 4] w (RES 2 0 ⟨#[]⟩ w) := by
 go_enter Try.func37, Try.ntmps37
 go_wp2_with (go_at_call 29; first | refine wY ?_ | refine wN ?_)
 exact bodyPost_ret (v := .agg (shp _ _ _)) (by simp [results, Try.results37, go_sem, shp] <;> rfl) rfl ⟨rfl, (Gr.refl _).alloc _ _⟩
theorem control_6 (w : World) : Calls Try.prog 37 #[.int .i64 5] w (RES 1 0 ⟨#[]⟩ w) := by
 go_enter Try.func37, Try.ntmps37
 go_wp2_with (go_at_call 29; first | refine wY ?_ | refine wN ?_)
 refine (plain_any _ _).mono ?_
 rintro e w1 ⟨rfl, hg⟩
 obtain ⟨HB, HG⟩ := shB hg
 clear hg
 go_wp2_with (refine st3 HB rfl _ _ rfl rfl rfl ?_)
 exact sE Try.results37 HB HG rfl rfl (by omega)
theorem control_7 (n : Int) (h0 : 6 ≤ n) (h1 : n ≤ 10) (w : World) : Calls Try.prog 37 #[.int .i64 n] w (RES 0 0 ⟨#[]⟩ w) := by
 go_enter Try.func37, Try.ntmps37
 go_wp2_with (go_at_call 29; first | refine wY ?_ | refine wN ?_)
 exact bodyPost_ret (v := .agg (shp _ _ _)) (by simp [results, Try.results37, go_sem, shp] <;> rfl) rfl ⟨rfl, (Gr.refl _).alloc _ _⟩
theorem control_8 (w : World) : Calls Try.prog 37 #[.int .i64 11] w (RES 1 0 ⟨#[]⟩ w) := by
 go_enter Try.func37, Try.ntmps37
 go_wp2_with (go_at_call 29; first | refine wY ?_ | refine wN ?_)
 refine (plain_any _ _).mono ?_
 rintro e w1 ⟨rfl, hg⟩
 obtain ⟨HB, HG⟩ := shB hg
 clear hg
 go_wp2_with (refine st3 HB rfl _ _ rfl rfl rfl ?_)
 exact sE Try.results37 HB HG rfl rfl (by omega)
theorem control_9 (w : World) : Calls Try.prog 37 #[.int .i64 12] w (RES 3 0 ⟨#[]⟩ w) := by
 go_enter Try.func37, Try.ntmps37
 go_wp2_with (go_at_call 29; first | refine wY ?_ | refine wN ?_)
 exact bodyPost_ret (v := .agg (shp _ _ _)) (by simp [results, Try.results37, go_sem, shp] <;> rfl) rfl ⟨rfl, (Gr.refl _).alloc _ _⟩
theorem control_10 (w : World) : Calls Try.prog 37 #[.int .i64 13] w (RES 3 0 ⟨#[]⟩ w) := by
 go_enter Try.func37, Try.ntmps37
 go_wp2_with (go_at_call 29; first | refine wY ?_ | refine wN ?_)
 exact bodyPost_ret (v := .agg (shp _ _ _)) (by simp [results, Try.results37, go_sem, shp] <;> rfl) rfl ⟨rfl, (Gr.refl _).alloc _ _⟩
theorem control_11 (w : World) : Calls Try.prog 37 #[.int .i64 14] w (RES 4 0 ⟨#[]⟩ w) := by
 go_enter Try.func37, Try.ntmps37
 go_wp2_with (go_at_call 29; first | refine wY ?_ | refine wN ?_)
 exact bodyPost_ret (v := .agg (shp _ _ _)) (by simp [results, Try.results37, go_sem, shp] <;> rfl) rfl ⟨rfl, (Gr.refl _).alloc _ _⟩
theorem control_12 (w : World) : Calls Try.prog 37 #[.int .i64 15] w (RES 1 0 ⟨#[]⟩ w) := by
 go_enter Try.func37, Try.ntmps37
 go_wp2_with (go_at_call 29; first | refine wY ?_ | refine wN ?_)
 refine (plain_any _ _).mono ?_
 rintro e w1 ⟨rfl, hg⟩
 obtain ⟨HB, HG⟩ := shB hg
 clear hg
 go_wp2_with (refine st3 HB rfl _ _ rfl rfl rfl ?_)
 exact sE Try.results37 HB HG rfl rfl (by omega)
theorem control_13 (w : World) : Calls Try.prog 37 #[.int .i64 16] w (RES 5 0 ⟨#[]⟩ w) := by
 go_enter Try.func37, Try.ntmps37
 go_wp2_with (go_at_call 29; first | refine wY ?_ | refine wN ?_)
 exact bodyPost_ret (v := .agg (shp _ _ _)) (by simp [results, Try.results37, go_sem, shp] <;> rfl) rfl ⟨rfl, (Gr.refl _).alloc _ _⟩
theorem control_14 (w : World) : Calls Try.prog 37 #[.int .i64 17] w (RES 6 0 ⟨#[]⟩ w) := by
 go_enter Try.func37, Try.ntmps37
 go_wp2_with (go_at_call 29; first | refine wY ?_ | refine wN ?_)
 exact bodyPost_ret (v := .agg (shp _ _ _)) (by simp [results, Try.results37, go_sem, shp] <;> rfl) rfl ⟨rfl, (Gr.refl _).alloc _ _⟩
theorem control_15 (n : Int) (h0 : 18 ≤ n) (h1 : n ≤ 25) (w : World) : Calls Try.prog 37 #[.int .i64 n] w (RES 0 0 ⟨#[]⟩ w) := by
 go_enter Try.func37, Try.ntmps37
 go_wp2_with (go_at_call 29; first | refine wY ?_ | refine wN ?_)
 exact bodyPost_ret (v := .agg (shp _ _ _)) (by simp [results, Try.results37, go_sem, shp] <;> rfl) rfl ⟨rfl, (Gr.refl _).alloc _ _⟩
theorem control_16 (w : World) : Calls Try.prog 37 #[.int .i64 26] w (RES 1 0 ⟨#[]⟩ w) := by
 go_enter Try.func37, Try.ntmps37
 go_wp2_with (go_at_call 29; first | refine wY ?_ | refine wN ?_)
 refine (plain_any _ _).mono ?_
 rintro e w1 ⟨rfl, hg⟩
 obtain ⟨HB, HG⟩ := shB hg
 clear hg
 go_wp2_with (refine st3 HB rfl _ _ rfl rfl rfl ?_)
 exact sE Try.results37 HB HG rfl rfl (by omega)
theorem control_17 (w : World) : Calls Try.prog 37 #[.int .i64 27] w (RES 1 0 ⟨#[]⟩ w) := by
 go_enter Try.func37, Try.ntmps37
 go_wp2_with (go_at_call 29; first | refine wY ?_ | refine wN ?_)
 refine (plain_any _ _).mono ?_
 rintro e w1 ⟨rfl, hg⟩
 obtain ⟨HB, HG⟩ := shB hg
 clear hg
 go_wp2_with (refine st3 HB rfl _ _ rfl rfl rfl ?_)
 exact sE Try.results37 HB HG rfl rfl (by omega)
theorem control_18 (n : Int) (h0 : 28 ≤ n) (h1 : n ≤ 31) (w : World) : Calls Try.prog 37 #[.int .i64 n] w (RES 0 0 ⟨#[]⟩ w) := by
 go_enter Try.func37, Try.ntmps37
 go_wp2_with (go_at_call 29; first | refine wY ?_ | refine wN ?_)
 exact bodyPost_ret (v := .agg (shp _ _ _)) (by simp [results, Try.results37, go_sem, shp] <;> rfl) rfl ⟨rfl, (Gr.refl _).alloc _ _⟩
theorem control_19 (w : World) : Calls Try.prog 37 #[.int .i64 32] w (RES 5 0 ⟨#[]⟩ w) := by
 go_enter Try.func37, Try.ntmps37
 go_wp2_with (go_at_call 29; first | refine wY ?_ | refine wN ?_)
 exact bodyPost_ret (v := .agg (shp _ _ _)) (by simp [results, Try.results37, go_sem, shp] <;> rfl) rfl ⟨rfl, (Gr.refl _).alloc _ _⟩
theorem control_20 (w : World) : Calls Try.prog 37 #[.int .i64 33] w (RES 5 0 ⟨#[]⟩ w) := by
 go_enter Try.func37, Try.ntmps37
 go_wp2_with (go_at_call 29; first | refine wY ?_ | refine wN ?_)
 exact bodyPost_ret (v := .agg (shp _ _ _)) (by simp [results, Try.results37, go_sem, shp] <;> rfl) rfl ⟨rfl, (Gr.refl _).alloc _ _⟩
theorem control_21 (w : World) : Calls Try.prog 37 #[.int .i64 34] w (RES 5 0 ⟨#[]⟩ w) := by
 go_enter Try.func37, Try.ntmps37
 go_wp2_with (go_at_call 29; first | refine wY ?_ | refine wN ?_)
 exact bodyPost_ret (v := .agg (shp _ _ _)) (by simp [results, Try.results37, go_sem, shp] <;> rfl) rfl ⟨rfl, (Gr.refl _).alloc _ _⟩
theorem control_22 (w : World) : Calls Try.prog 37 #[.int .i64 35] w (RES 5 0 ⟨#[]⟩ w) := by
 go_enter Try.func37, Try.ntmps37
 go_wp2_with (go_at_call 29; first | refine wY ?_ | refine wN ?_)
 exact bodyPost_ret (v := .agg (shp _ _ _)) (by simp [results, Try.results37, go_sem, shp] <;> rfl) rfl ⟨rfl, (Gr.refl _).alloc _ _⟩
theorem control_23 (w : World) : Calls Try.prog 37 #[.int .i64 36] w (RES 5 0 ⟨#[]⟩ w) := by
 go_enter Try.func37, Try.ntmps37
 go_wp2_with (go_at_call 29; first | refine wY ?_ | refine wN ?_)
 exact bodyPost_ret (v := .agg (shp _ _ _)) (by simp [results, Try.results37, go_sem, shp] <;> rfl) rfl ⟨rfl, (Gr.refl _).alloc _ _⟩
theorem control_24 (n : Int) (h0 : 37 ≤ n) (h1 : n ≤ 39) (w : World) : Calls Try.prog 37 #[.int .i64 n] w (RES 0 0 ⟨#[]⟩ w) := by
 go_enter Try.func37, Try.ntmps37
 go_wp2_with (go_at_call 29; first | refine wY ?_ | refine wN ?_)
 exact bodyPost_ret (v := .agg (shp _ _ _)) (by simp [results, Try.results37, go_sem, shp] <;> rfl) rfl ⟨rfl, (Gr.refl _).alloc _ _⟩
theorem control_25 (n : Int) (h0 : 67 ≤ n) (h1 : n ≤ 68) (w : World) : Calls Try.prog 37 #[.int .i64 n] w (RES 0 0 ⟨#[]⟩ w) := by
 go_enter Try.func37, Try.ntmps37
 go_wp2_with (go_at_call 29; first | refine wY ?_ | refine wN ?_)
 exact bodyPost_ret (v := .agg (shp _ _ _)) (by simp [results, Try.results37, go_sem, shp] <;> rfl) rfl ⟨rfl, (Gr.refl _).alloc _ _⟩
theorem va_0 (w : World) : Calls Try.prog 30 #[.int .i64 0] w (RES 7 4 ⟨#[105, 58, 118]⟩ w) := by
 go_enter Try.func30, Try.ntmps30
 go_wp2_with (go_at_call 29; first | refine wY ?_ | refine wN ?_)
 refine (memory_any _ _ _).mono ?_
 rintro e w1 ⟨rfl, hg⟩
 obtain ⟨HB, HG⟩ := shB hg
 clear hg
 go_wp2_with (refine st3 HB rfl _ _ rfl rfl rfl ?_)
 exact sE Try.results30 HB HG rfl rfl (by omega)
theorem va_1 (n : Int) (h0 : 1 ≤ n) (h1 : n ≤ 6) (w : World) : Calls Try.prog 30 #[.int .i64 n] w (RES 7 3 ⟨#[105, 58, 118]⟩ w) := by
 go_enter Try.func30, Try.ntmps30
 go_wp2_with (go_at_call 29; first | refine wY ?_ | refine wN ?_)
 refine (memory_any _ _ _).mono ?_
 rintro e w1 ⟨rfl, hg⟩
 obtain ⟨HB, HG⟩ := shB hg
 clear hg
 go_wp2_with (refine st3 HB rfl _ _ rfl rfl rfl ?_)
 exact sE Try.results30 HB HG rfl rfl (by omega)
theorem va_2 (w : World) : Calls Try.prog 30 #[.int .i64 7] w (RES 7 0 ⟨#[105, 58, 118]⟩ w) := by
 go_enter Try.func30, Try.ntmps30
 go_wp2_with (go_at_call 29; first | refine wY ?_ | refine wN ?_)
 refine (memory_any _ _ _).mono ?_
 rintro e w1 ⟨rfl, hg⟩
 obtain ⟨HB, HG⟩ := shB hg
 clear hg
 go_wp2_with (refine st3 HB rfl _ _ rfl rfl rfl ?_)
 exact sE Try.results30 HB HG rfl rfl (by omega)
theorem va_3 (w : World) : Calls Try.prog 30 #[.int .i64 8] w (RES 7 1 ⟨#[105, 58, 118]⟩ w) := by
 go_enter Try.func30, Try.ntmps30
 go_wp2_with (go_at_call 29; first | refine wY ?_ | refine wN ?_)
 refine (memory_any _ _ _).mono ?_
 rintro e w1 ⟨rfl, hg⟩
 obtain ⟨HB, HG⟩ := shB hg
 clear hg
 go_wp2_with (refine st3 HB rfl _ _ rfl rfl rfl ?_)
 exact sE Try.results30 HB HG rfl rfl (by omega)
theorem va_4 (w : World) : Calls Try.prog 30 #[.int .i64 9] w (RES 7 2 ⟨#[105, 58, 118]⟩ w) := by
 go_enter Try.func30, Try.ntmps30
 go_wp2_with (go_at_call 29; first | refine wY ?_ | refine wN ?_)
 refine (memory_any _ _ _).mono ?_
 rintro e w1 ⟨rfl, hg⟩
 obtain ⟨HB, HG⟩ := shB hg
 clear hg
 go_wp2_with (refine st3 HB rfl _ _ rfl rfl rfl ?_)
 exact sE Try.results30 HB HG rfl rfl (by omega)
theorem va_5 (w : World) : Calls Try.prog 30 #[.int .i64 10] w (RES 7 3 ⟨#[105, 58, 118]⟩ w) := by
 go_enter Try.func30, Try.ntmps30
 go_wp2_with (go_at_call 29; first | refine wY ?_ | refine wN ?_)
 refine (memory_any _ _ _).mono ?_
 rintro e w1 ⟨rfl, hg⟩
 obtain ⟨HB, HG⟩ := shB hg
 clear hg
 go_wp2_with (refine st3 HB rfl _ _ rfl rfl rfl ?_)
 exact sE Try.results30 HB HG rfl rfl (by omega)
theorem va_6 (w : World) : Calls Try.prog 30 #[.int .i64 11] w (RES 7 4 ⟨#[105, 118, 58]⟩ w) := by
 go_enter Try.func30, Try.ntmps30
 go_wp2_with (go_at_call 29; first | refine wY ?_ | refine wN ?_)
 refine (memory_any _ _ _).mono ?_
 rintro e w1 ⟨rfl, hg⟩
 obtain ⟨HB, HG⟩ := shB hg
 clear hg
 go_wp2_with (refine st3 HB rfl _ _ rfl rfl rfl ?_)
 exact sE Try.results30 HB HG rfl rfl (by omega)
theorem va_7 (w : World) : Calls Try.prog 30 #[.int .i64 84] w (RES 8 0 ⟨#[105, 118, 58, 118]⟩ w) := by
 go_enter Try.func30, Try.ntmps30
 go_wp2_with (go_at_call 29; first | refine wY ?_ | refine wN ?_)
 exact bodyPost_ret (v := .agg (shp _ _ _)) (by simp [results, Try.results30, go_sem, shp] <;> rfl) rfl ⟨rfl, (Gr.refl _).alloc _ _⟩
theorem va_8 (w : World) : Calls Try.prog 30 #[.int .i64 85] w (RES 8 1 ⟨#[105, 118, 58, 118]⟩ w) := by
 go_enter Try.func30, Try.ntmps30
 go_wp2_with (go_at_call 29; first | refine wY ?_ | refine wN ?_)
 exact bodyPost_ret (v := .agg (shp _ _ _)) (by simp [results, Try.results30, go_sem, shp] <;> rfl) rfl ⟨rfl, (Gr.refl _).alloc _ _⟩
theorem va_9 (w : World) : Calls Try.prog 30 #[.int .i64 86] w (RES 8 2 ⟨#[105, 118, 58, 118]⟩ w) := by
 go_enter Try.func30, Try.ntmps30
 go_wp2_with (go_at_call 29; first | refine wY ?_ | refine wN ?_)
 exact bodyPost_ret (v := .agg (shp _ _ _)) (by simp [results, Try.results30, go_sem, shp] <;> rfl) rfl ⟨rfl, (Gr.refl _).alloc _ _⟩
theorem va_10 (w : World) : Calls Try.prog 30 #[.int .i64 87] w (RES 8 3 ⟨#[105, 118, 58, 118]⟩ w) := by
 go_enter Try.func30, Try.ntmps30
 go_wp2_with (go_at_call 29; first | refine wY ?_ | refine wN ?_)
 exact bodyPost_ret (v := .agg (shp _ _ _)) (by simp [results, Try.results30, go_sem, shp] <;> rfl) rfl ⟨rfl, (Gr.refl _).alloc _ _⟩
theorem va_11 (w : World) : Calls Try.prog 30 #[.int .i64 88] w (RES 8 0 ⟨#[105, 118, 58]⟩ w) := by
 go_enter Try.func30, Try.ntmps30
 go_wp2_with (go_at_call 29; first | refine wY ?_ | refine wN ?_)
 exact bodyPost_ret (v := .agg (shp _ _ _)) (by simp [results, Try.results30, go_sem, shp] <;> rfl) rfl ⟨rfl, (Gr.refl _).alloc _ _⟩
theorem va_12 (w : World) : Calls Try.prog 30 #[.int .i64 89] w (RES 8 1 ⟨#[105, 118, 58]⟩ w) := by
 go_enter Try.func30, Try.ntmps30
 go_wp2_with (go_at_call 29; first | refine wY ?_ | refine wN ?_)
 exact bodyPost_ret (v := .agg (shp _ _ _)) (by simp [results, Try.results30, go_sem, shp] <;> rfl) rfl ⟨rfl, (Gr.refl _).alloc _ _⟩
theorem va_13 (w : World) : Calls Try.prog 30 #[.int .i64 90] w (RES 8 2 ⟨#[105, 118, 58]⟩ w) := by
 go_enter Try.func30, Try.ntmps30
 go_wp2_with (go_at_call 29; first | refine wY ?_ | refine wN ?_)
 exact bodyPost_ret (v := .agg (shp _ _ _)) (by simp [results, Try.results30, go_sem, shp] <;> rfl) rfl ⟨rfl, (Gr.refl _).alloc _ _⟩
theorem va_14 (w : World) : Calls Try.prog 30 #[.int .i64 91] w (RES 8 3 ⟨#[105, 118, 58]⟩ w) := by
 go_enter Try.func30, Try.ntmps30
 go_wp2_with (go_at_call 29; first | refine wY ?_ | refine wN ?_)
 exact bodyPost_ret (v := .agg (shp _ _ _)) (by simp [results, Try.results30, go_sem, shp] <;> rfl) rfl ⟨rfl, (Gr.refl _).alloc _ _⟩
theorem va_15 (w : World) : Calls Try.prog 30 #[.int .i64 92] w (RES 7 2 ⟨#[105, 58, 118]⟩ w) := by
 go_enter Try.func30, Try.ntmps30
 go_wp2_with (go_at_call 29; first | refine wY ?_ | refine wN ?_)
 refine (memory_any _ _ _).mono ?_
 rintro e w1 ⟨rfl, hg⟩
 obtain ⟨HB, HG⟩ := shB hg
 clear hg
 go_wp2_with (refine st3 HB rfl _ _ rfl rfl rfl ?_)
 exact sE Try.results30 HB HG rfl rfl (by omega)
theorem va_16 (w : World) : Calls Try.prog 30 #[.int .i64 93] w (RES 7 3 ⟨#[105, 58, 118]⟩ w) := by
 go_enter Try.func30, Try.ntmps30
 go_wp2_with (go_at_call 29; first | refine wY ?_ | refine wN ?_)
 refine (memory_any _ _ _).mono ?_
 rintro e w1 ⟨rfl, hg⟩
 obtain ⟨HB, HG⟩ := shB hg
 clear hg
 go_wp2_with (refine st3 HB rfl _ _ rfl rfl rfl ?_)
 exact sE Try.results30 HB HG rfl rfl (by omega)
theorem vm_0 (w : World) : Calls Try.prog 31 #[.int .i64 12] w (RES 11 0 ⟨#[58, 118]⟩ w) := by
 go_enter Try.func31, Try.ntmps31
 go_wp2_with (go_at_call 29; first | refine wY ?_ | refine wN ?_)
 exact bodyPost_ret (v := .agg (shp _ _ _)) (by simp [results, Try.results31, go_sem, shp] <;> rfl) rfl ⟨rfl, (Gr.refl _).alloc _ _⟩
theorem vm_1 (w : World) : Calls Try.prog 31 #[.int .i64 13] w (RES 12 0 ⟨#[118, 118, 58, 118]⟩ w) := by
 go_enter Try.func31, Try.ntmps31
 go_wp2_with (go_at_call 29; first | refine wY ?_ | refine wN ?_)
 exact bodyPost_ret (v := .agg (shp _ _ _)) (by simp [results, Try.results31, go_sem, shp] <;> rfl) rfl ⟨rfl, (Gr.refl _).alloc _ _⟩
theorem vm_2 (w : World) : Calls Try.prog 31 #[.int .i64 14] w (RES 1 0 ⟨#[118, 118, 58, 118]⟩ w) := by
 go_enter Try.func31, Try.ntmps31
 go_wp2_with (go_at_call 29; first | refine wY ?_ | refine wN ?_)
 refine (plain_any _ _).mono ?_
 rintro e w1 ⟨rfl, hg⟩
 obtain ⟨HB, HG⟩ := shB hg
 clear hg
 go_wp2_with (refine st3 HB rfl _ _ rfl rfl rfl ?_)
 exact sE Try.results31 HB HG rfl rfl (by omega)
theorem vm_3 (w : World) : Calls Try.prog 31 #[.int .i64 15] w (RES 1 0 ⟨#[105, 58, 118]⟩ w) := by
 go_enter Try.func31, Try.ntmps31
 go_wp2_with (go_at_call 29; first | refine wY ?_ | refine wN ?_)
 refine (plain_any _ _).mono ?_
 rintro e w1 ⟨rfl, hg⟩
 obtain ⟨HB, HG⟩ := shB hg
 clear hg
 go_wp2_with (refine st3 HB rfl _ _ rfl rfl rfl ?_)
 exact sE Try.results31 HB HG rfl rfl (by omega)
theorem vm_4 (w : World) : Calls Try.prog 31 #[.int .i64 16] w (RES 1 0 ⟨#[105, 58, 118]⟩ w) := by
 go_enter Try.func31, Try.ntmps31
 go_wp2_with (go_at_call 29; first | refine wY ?_ | refine wN ?_)
 refine (plain_any _ _).mono ?_
 rintro e w1 ⟨rfl, hg⟩
 obtain ⟨HB, HG⟩ := shB hg
 clear hg
 go_wp2_with (refine st3 HB rfl _ _ rfl rfl rfl ?_)
 exact sE Try.results31 HB HG rfl rfl (by omega)
theorem vm_5 (w : World) : Calls Try.prog 31 #[.int .i64 17] w (RES 1 0 ⟨#[105, 58, 118]⟩ w) := by
 go_enter Try.func31, Try.ntmps31
 go_wp2_with (go_at_call 29; first | refine wY ?_ | refine wN ?_)
 refine (plain_any _ _).mono ?_
 rintro e w1 ⟨rfl, hg⟩
 obtain ⟨HB, HG⟩ := shB hg
 clear hg
 go_wp2_with (refine st3 HB rfl _ _ rfl rfl rfl ?_)
 exact sE Try.results31 HB HG rfl rfl (by omega)
theorem vm_6 (w : World) : Calls Try.prog 31 #[.int .i64 18] w (RES 1 0 ⟨#[108, 58, 118]⟩ w) := by
 go_enter Try.func31, Try.ntmps31
 go_wp2_with (go_at_call 29; first | refine wY ?_ | refine wN ?_)
 refine (plain_any _ _).mono ?_
 rintro e w1 ⟨rfl, hg⟩
 obtain ⟨HB, HG⟩ := shB hg
 clear hg
 go_wp2_with (refine st3 HB rfl _ _ rfl rfl rfl ?_)
 exact sE Try.results31 HB HG rfl rfl (by omega)
theorem vm_7 (n : Int) (h0 : 19 ≤ n) (h1 : n ≤ 20) (w : World) : Calls Try.prog 31 #[.int .i64 n] w (RES 0 0 ⟨#[]⟩ w) := by
 go_enter Try.func31, Try.ntmps31
 go_wp2_with (go_at_call 29; first | refine wY ?_ | refine wN ?_)
 exact bodyPost_ret (v := .agg (shp _ _ _)) (by simp [results, Try.results31, go_sem, shp] <;> rfl) rfl ⟨rfl, (Gr.refl _).alloc _ _⟩
theorem vm_8 (w : World) : Calls Try.prog 31 #[.int .i64 21] w (RES 13 16 ⟨#[118, 58, 105]⟩ w) := by
 go_enter Try.func31, Try.ntmps31
 go_wp2_with (go_at_call 29; first | refine wY ?_ | refine wN ?_)
 refine (lane_any _ _ _).mono ?_
 rintro e w1 ⟨rfl, hg⟩
 obtain ⟨HB, HG⟩ := shB hg
 clear hg
 go_wp2_with (refine st3 HB rfl _ _ rfl rfl rfl ?_)
 exact sE Try.results31 HB HG rfl rfl (by omega)
theorem vm_9 (w : World) : Calls Try.prog 31 #[.int .i64 22] w (RES 13 16 ⟨#[118, 58, 105]⟩ w) := by
 go_enter Try.func31, Try.ntmps31
 go_wp2_with (go_at_call 29; first | refine wY ?_ | refine wN ?_)
 refine (lane_any _ _ _).mono ?_
 rintro e w1 ⟨rfl, hg⟩
 obtain ⟨HB, HG⟩ := shB hg
 clear hg
 go_wp2_with (refine st3 HB rfl _ _ rfl rfl rfl ?_)
 exact sE Try.results31 HB HG rfl rfl (by omega)
theorem vm_10 (w : World) : Calls Try.prog 31 #[.int .i64 23] w (RES 13 16 ⟨#[118, 105, 58, 118]⟩ w) := by
 go_enter Try.func31, Try.ntmps31
 go_wp2_with (go_at_call 29; first | refine wY ?_ | refine wN ?_)
 refine (lane_any _ _ _).mono ?_
 rintro e w1 ⟨rfl, hg⟩
 obtain ⟨HB, HG⟩ := shB hg
 clear hg
 go_wp2_with (refine st3 HB rfl _ _ rfl rfl rfl ?_)
 exact sE Try.results31 HB HG rfl rfl (by omega)
theorem vm_11 (w : World) : Calls Try.prog 31 #[.int .i64 24] w (RES 13 8 ⟨#[118, 58, 105]⟩ w) := by
 go_enter Try.func31, Try.ntmps31
 go_wp2_with (go_at_call 29; first | refine wY ?_ | refine wN ?_)
 refine (lane_any _ _ _).mono ?_
 rintro e w1 ⟨rfl, hg⟩
 obtain ⟨HB, HG⟩ := shB hg
 clear hg
 go_wp2_with (refine st3 HB rfl _ _ rfl rfl rfl ?_)
 exact sE Try.results31 HB HG rfl rfl (by omega)
theorem vm_12 (w : World) : Calls Try.prog 31 #[.int .i64 25] w (RES 13 8 ⟨#[118, 58, 105]⟩ w) := by
 go_enter Try.func31, Try.ntmps31
 go_wp2_with (go_at_call 29; first | refine wY ?_ | refine wN ?_)
 refine (lane_any _ _ _).mono ?_
 rintro e w1 ⟨rfl, hg⟩
 obtain ⟨HB, HG⟩ := shB hg
 clear hg
 go_wp2_with (refine st3 HB rfl _ _ rfl rfl rfl ?_)
 exact sE Try.results31 HB HG rfl rfl (by omega)
theorem vm_13 (w : World) : Calls Try.prog 31 #[.int .i64 26] w (RES 13 8 ⟨#[118, 105, 58, 118]⟩ w) := by
 go_enter Try.func31, Try.ntmps31
 go_wp2_with (go_at_call 29; first | refine wY ?_ | refine wN ?_)
 refine (lane_any _ _ _).mono ?_
 rintro e w1 ⟨rfl, hg⟩
 obtain ⟨HB, HG⟩ := shB hg
 clear hg
 go_wp2_with (refine st3 HB rfl _ _ rfl rfl rfl ?_)
 exact sE Try.results31 HB HG rfl rfl (by omega)
theorem vm_14 (w : World) : Calls Try.prog 31 #[.int .i64 27] w (RES 13 4 ⟨#[118, 58, 105]⟩ w) := by
 go_enter Try.func31, Try.ntmps31
 go_wp2_with (go_at_call 29; first | refine wY ?_ | refine wN ?_)
 refine (lane_any _ _ _).mono ?_
 rintro e w1 ⟨rfl, hg⟩
 obtain ⟨HB, HG⟩ := shB hg
 clear hg
 go_wp2_with (refine st3 HB rfl _ _ rfl rfl rfl ?_)
 exact sE Try.results31 HB HG rfl rfl (by omega)
theorem vm_15 (w : World) : Calls Try.prog 31 #[.int .i64 28] w (RES 13 4 ⟨#[118, 105, 58, 118]⟩ w) := by
 go_enter Try.func31, Try.ntmps31
 go_wp2_with (go_at_call 29; first | refine wY ?_ | refine wN ?_)
 refine (lane_any _ _ _).mono ?_
 rintro e w1 ⟨rfl, hg⟩
 obtain ⟨HB, HG⟩ := shB hg
 clear hg
 go_wp2_with (refine st3 HB rfl _ _ rfl rfl rfl ?_)
 exact sE Try.results31 HB HG rfl rfl (by omega)
theorem vm_16 (w : World) : Calls Try.prog 31 #[.int .i64 29] w (RES 13 2 ⟨#[118, 58, 108]⟩ w) := by
 go_enter Try.func31, Try.ntmps31
 go_wp2_with (go_at_call 29; first | refine wY ?_ | refine wN ?_)
 refine (lane_any _ _ _).mono ?_
 rintro e w1 ⟨rfl, hg⟩
 obtain ⟨HB, HG⟩ := shB hg
 clear hg
 go_wp2_with (refine st3 HB rfl _ _ rfl rfl rfl ?_)
 exact sE Try.results31 HB HG rfl rfl (by omega)
theorem vm_17 (w : World) : Calls Try.prog 31 #[.int .i64 30] w (RES 13 2 ⟨#[118, 108, 58, 118]⟩ w) := by
 go_enter Try.func31, Try.ntmps31
 go_wp2_with (go_at_call 29; first | refine wY ?_ | refine wN ?_)
 refine (lane_any _ _ _).mono ?_
 rintro e w1 ⟨rfl, hg⟩
 obtain ⟨HB, HG⟩ := shB hg
 clear hg
 go_wp2_with (refine st3 HB rfl _ _ rfl rfl rfl ?_)
 exact sE Try.results31 HB HG rfl rfl (by omega)
theorem vm_18 (n : Int) (h0 : 31 ≤ n) (h1 : n ≤ 34) (w : World) : Calls Try.prog 31 #[.int .i64 n] w (RES 0 0 ⟨#[]⟩ w) := by
 go_enter Try.func31, Try.ntmps31
 go_wp2_with (go_at_call 29; first | refine wY ?_ | refine wN ?_)
 exact bodyPost_ret (v := .agg (shp _ _ _)) (by simp [results, Try.results31, go_sem, shp] <;> rfl) rfl ⟨rfl, (Gr.refl _).alloc _ _⟩
theorem vb_0 (n : Int) (h0 : 35 ≤ n) (h1 : n ≤ 64) (w : World) : Calls Try.prog 32 #[.int .i64 n] w (RES 1 0 ⟨#[118, 118, 58, 118]⟩ w) := by
 go_enter Try.func32, Try.ntmps32
 go_wp2_with (go_at_call 29; first | refine wY ?_ | refine wN ?_)
 refine (plain_any _ _).mono ?_
 rintro e w1 ⟨rfl, hg⟩
 obtain ⟨HB, HG⟩ := shB hg
 clear hg
 go_wp2_with (refine st3 HB rfl _ _ rfl rfl rfl ?_)
 exact sE Try.results32 HB HG rfl rfl (by omega)
theorem vb_1 (n : Int) (h0 : 65 ≤ n) (h1 : n ≤ 76) (w : World) : Calls Try.prog 32 #[.int .i64 n] w (RES 0 0 ⟨#[]⟩ w) := by
 go_enter Try.func32, Try.ntmps32
 go_wp2_with (go_at_call 29; first | refine wY ?_ | refine wN ?_)
 exact bodyPost_ret (v := .agg (shp _ _ _)) (by simp [results, Try.results32, go_sem, shp] <;> rfl) rfl ⟨rfl, (Gr.refl _).alloc _ _⟩
theorem vb_2 (w : World) : Calls Try.prog 32 #[.int .i64 77] w (RES 1 0 ⟨#[118, 58, 118]⟩ w) := by
 go_enter Try.func32, Try.ntmps32
 go_wp2_with (go_at_call 29; first | refine wY ?_ | refine wN ?_)
 refine (plain_any _ _).mono ?_
 rintro e w1 ⟨rfl, hg⟩
 obtain ⟨HB, HG⟩ := shB hg
 clear hg
 go_wp2_with (refine st3 HB rfl _ _ rfl rfl rfl ?_)
 exact sE Try.results32 HB HG rfl rfl (by omega)
theorem vb_3 (n : Int) (h0 : 78 ≤ n) (h1 : n ≤ 81) (w : World) : Calls Try.prog 32 #[.int .i64 n] w (RES 1 0 ⟨#[118, 118, 58, 118]⟩ w) := by
 go_enter Try.func32, Try.ntmps32
 go_wp2_with (go_at_call 29; first | refine wY ?_ | refine wN ?_)
 refine (plain_any _ _).mono ?_
 rintro e w1 ⟨rfl, hg⟩
 obtain ⟨HB, HG⟩ := shB hg
 clear hg
 go_wp2_with (refine st3 HB rfl _ _ rfl rfl rfl ?_)
 exact sE Try.results32 HB HG rfl rfl (by omega)
theorem vb_4 (w : World) : Calls Try.prog 32 #[.int .i64 82] w (RES 1 0 ⟨#[118, 118, 118, 58, 118]⟩ w) := by
 go_enter Try.func32, Try.ntmps32
 go_wp2_with (go_at_call 29; first | refine wY ?_ | refine wN ?_)
 refine (plain_any _ _).mono ?_
 rintro e w1 ⟨rfl, hg⟩
 obtain ⟨HB, HG⟩ := shB hg
 clear hg
 go_wp2_with (refine st3 HB rfl _ _ rfl rfl rfl ?_)
 exact sE Try.results32 HB HG rfl rfl (by omega)
theorem vb_5 (w : World) : Calls Try.prog 32 #[.int .i64 83] w (RES 1 0 ⟨#[118, 58, 105]⟩ w) := by
 go_enter Try.func32, Try.ntmps32
 go_wp2_with (go_at_call 29; first | refine wY ?_ | refine wN ?_)
 refine (plain_any _ _).mono ?_
 rintro e w1 ⟨rfl, hg⟩
 obtain ⟨HB, HG⟩ := shB hg
 clear hg
 go_wp2_with (refine st3 HB rfl _ _ rfl rfl rfl ?_)
 exact sE Try.results32 HB HG rfl rfl (by omega)
theorem vn_0 (n : Int) (h0 : 94 ≤ n) (h1 : n ≤ 95) (w : World) : Calls Try.prog 33 #[.int .i64 n] w (RES 0 0 ⟨#[]⟩ w) := by
 go_enter Try.func33, Try.ntmps33
 go_wp2_with (go_at_call 29; first | refine wY ?_ | refine wN ?_)
 exact bodyPost_ret (v := .agg (shp _ _ _)) (by simp [results, Try.results33, go_sem, shp] <;> rfl) rfl ⟨rfl, (Gr.refl _).alloc _ _⟩
theorem vn_1 (n : Int) (h0 : 96 ≤ n) (h1 : n ≤ 98) (w : World) : Calls Try.prog 33 #[.int .i64 n] w (RES 1 0 ⟨#[118, 58, 118]⟩ w) := by
 go_enter Try.func33, Try.ntmps33
 go_wp2_with (go_at_call 29; first | refine wY ?_ | refine wN ?_)
 refine (plain_any _ _).mono ?_
 rintro e w1 ⟨rfl, hg⟩
 obtain ⟨HB, HG⟩ := shB hg
 clear hg
 go_wp2_with (refine st3 HB rfl _ _ rfl rfl rfl ?_)
 exact sE Try.results33 HB HG rfl rfl (by omega)
theorem vn_2 (n : Int) (h0 : 99 ≤ n) (h1 : n ≤ 100) (w : World) : Calls Try.prog 33 #[.int .i64 n] w (RES 1 0 ⟨#[118, 58, 105]⟩ w) := by
 go_enter Try.func33, Try.ntmps33
 go_wp2_with (go_at_call 29; first | refine wY ?_ | refine wN ?_)
 refine (plain_any _ _).mono ?_
 rintro e w1 ⟨rfl, hg⟩
 obtain ⟨HB, HG⟩ := shB hg
 clear hg
 go_wp2_with (refine st3 HB rfl _ _ rfl rfl rfl ?_)
 exact sE Try.results33 HB HG rfl rfl (by omega)
theorem vn_3 (n : Int) (h0 : 101 ≤ n) (h1 : n ≤ 102) (w : World) : Calls Try.prog 33 #[.int .i64 n] w (RES 1 0 ⟨#[118, 118, 58, 118]⟩ w) := by
 go_enter Try.func33, Try.ntmps33
 go_wp2_with (go_at_call 29; first | refine wY ?_ | refine wN ?_)
 refine (plain_any _ _).mono ?_
 rintro e w1 ⟨rfl, hg⟩
 obtain ⟨HB, HG⟩ := shB hg
 clear hg
 go_wp2_with (refine st3 HB rfl _ _ rfl rfl rfl ?_)
 exact sE Try.results33 HB HG rfl rfl (by omega)
theorem vn_4 (n : Int) (h0 : 103 ≤ n) (h1 : n ≤ 106) (w : World) : Calls Try.prog 33 #[.int .i64 n] w (RES 0 0 ⟨#[]⟩ w) := by
 go_enter Try.func33, Try.ntmps33
 go_wp2_with (go_at_call 29; first | refine wY ?_ | refine wN ?_)
 exact bodyPost_ret (v := .agg (shp _ _ _)) (by simp [results, Try.results33, go_sem, shp] <;> rfl) rfl ⟨rfl, (Gr.refl _).alloc _ _⟩
theorem vn_5 (n : Int) (h0 : 107 ≤ n) (h1 : n ≤ 109) (w : World) : Calls Try.prog 33 #[.int .i64 n] w (RES 1 0 ⟨#[118, 105, 58, 118]⟩ w) := by
 go_enter Try.func33, Try.ntmps33
 go_wp2_with (go_at_call 29; first | refine wY ?_ | refine wN ?_)
 refine (plain_any _ _).mono ?_
 rintro e w1 ⟨rfl, hg⟩
 obtain ⟨HB, HG⟩ := shB hg
 clear hg
 go_wp2_with (refine st3 HB rfl _ _ rfl rfl rfl ?_)
 exact sE Try.results33 HB HG rfl rfl (by omega)
theorem vn_6 (n : Int) (h0 : 110 ≤ n) (h1 : n ≤ 115) (w : World) : Calls Try.prog 33 #[.int .i64 n] w (RES 1 0 ⟨#[118, 118, 58, 118]⟩ w) := by
 go_enter Try.func33, Try.ntmps33
 go_wp2_with (go_at_call 29; first | refine wY ?_ | refine wN ?_)
 refine (plain_any _ _).mono ?_
 rintro e w1 ⟨rfl, hg⟩
 obtain ⟨HB, HG⟩ := shB hg
 clear hg
 go_wp2_with (refine st3 HB rfl _ _ rfl rfl rfl ?_)
 exact sE Try.results33 HB HG rfl rfl (by omega)
theorem vn_7 (n : Int) (h0 : 116 ≤ n) (h1 : n ≤ 117) (w : World) : Calls Try.prog 33 #[.int .i64 n] w (RES 0 0 ⟨#[]⟩ w) := by
 go_enter Try.func33, Try.ntmps33
 go_wp2_with (go_at_call 29; first | refine wY ?_ | refine wN ?_)
 exact bodyPost_ret (v := .agg (shp _ _ _)) (by simp [results, Try.results33, go_sem, shp] <;> rfl) rfl ⟨rfl, (Gr.refl _).alloc _ _⟩
theorem vn_8 (n : Int) (h0 : 118 ≤ n) (h1 : n ≤ 121) (w : World) : Calls Try.prog 33 #[.int .i64 n] w (RES 1 0 ⟨#[118, 118, 58, 118]⟩ w) := by
 go_enter Try.func33, Try.ntmps33
 go_wp2_with (go_at_call 29; first | refine wY ?_ | refine wN ?_)
 refine (plain_any _ _).mono ?_
 rintro e w1 ⟨rfl, hg⟩
 obtain ⟨HB, HG⟩ := shB hg
 clear hg
 go_wp2_with (refine st3 HB rfl _ _ rfl rfl rfl ?_)
 exact sE Try.results33 HB HG rfl rfl (by omega)
theorem vn_9 (w : World) : Calls Try.prog 33 #[.int .i64 122] w (RES 0 0 ⟨#[]⟩ w) := by
 go_enter Try.func33, Try.ntmps33
 go_wp2_with (go_at_call 29; first | refine wY ?_ | refine wN ?_)
 exact bodyPost_ret (v := .agg (shp _ _ _)) (by simp [results, Try.results33, go_sem, shp] <;> rfl) rfl ⟨rfl, (Gr.refl _).alloc _ _⟩
theorem vn_10 (w : World) : Calls Try.prog 33 #[.int .i64 123] w (RES 1 0 ⟨#[118, 118, 58, 118]⟩ w) := by
 go_enter Try.func33, Try.ntmps33
 go_wp2_with (go_at_call 29; first | refine wY ?_ | refine wN ?_)
 refine (plain_any _ _).mono ?_
 rintro e w1 ⟨rfl, hg⟩
 obtain ⟨HB, HG⟩ := shB hg
 clear hg
 go_wp2_with (refine st3 HB rfl _ _ rfl rfl rfl ?_)
 exact sE Try.results33 HB HG rfl rfl (by omega)
theorem vn_11 (n : Int) (h0 : 124 ≤ n) (h1 : n ≤ 129) (w : World) : Calls Try.prog 33 #[.int .i64 n] w (RES 1 0 ⟨#[118, 58, 118]⟩ w) := by
 go_enter Try.func33, Try.ntmps33
 go_wp2_with (go_at_call 29; first | refine wY ?_ | refine wN ?_)
 refine (plain_any _ _).mono ?_
 rintro e w1 ⟨rfl, hg⟩
 obtain ⟨HB, HG⟩ := shB hg
 clear hg
 go_wp2_with (refine st3 HB rfl _ _ rfl rfl rfl ?_)
 exact sE Try.results33 HB HG rfl rfl (by omega)
theorem vn_12 (w : World) : Calls Try.prog 33 #[.int .i64 130] w (RES 1 0 ⟨#[118, 118, 58, 118]⟩ w) := by
 go_enter Try.func33, Try.ntmps33
 go_wp2_with (go_at_call 29; first | refine wY ?_ | refine wN ?_)
 refine (plain_any _ _).mono ?_
 rintro e w1 ⟨rfl, hg⟩
 obtain ⟨HB, HG⟩ := shB hg
 clear hg
 go_wp2_with (refine st3 HB rfl _ _ rfl rfl rfl ?_)
 exact sE Try.results33 HB HG rfl rfl (by omega)
theorem vn_13 (n : Int) (h0 : 131 ≤ n) (h1 : n ≤ 132) (w : World) : Calls Try.prog 33 #[.int .i64 n] w (RES 1 0 ⟨#[118, 58, 105]⟩ w) := by
 go_enter Try.func33, Try.ntmps33
 go_wp2_with (go_at_call 29; first | refine wY ?_ | refine wN ?_)
 refine (plain_any _ _).mono ?_
 rintro e w1 ⟨rfl, hg⟩
 obtain ⟨HB, HG⟩ := shB hg
 clear hg
 go_wp2_with (refine st3 HB rfl _ _ rfl rfl rfl ?_)
 exact sE Try.results33 HB HG rfl rfl (by omega)
theorem vn_14 (n : Int) (h0 : 133 ≤ n) (h1 : n ≤ 134) (w : World) : Calls Try.prog 33 #[.int .i64 n] w (RES 1 0 ⟨#[118, 118, 58, 118]⟩ w) := by
 go_enter Try.func33, Try.ntmps33
 go_wp2_with (go_at_call 29; first | refine wY ?_ | refine wN ?_)
 refine (plain_any _ _).mono ?_
 rintro e w1 ⟨rfl, hg⟩
 obtain ⟨HB, HG⟩ := shB hg
 clear hg
 go_wp2_with (refine st3 HB rfl _ _ rfl rfl rfl ?_)
 exact sE Try.results33 HB HG rfl rfl (by omega)
theorem vn_15 (n : Int) (h0 : 135 ≤ n) (h1 : n ≤ 138) (w : World) : Calls Try.prog 33 #[.int .i64 n] w (RES 1 0 ⟨#[118, 58, 118]⟩ w) := by
 go_enter Try.func33, Try.ntmps33
 go_wp2_with (go_at_call 29; first | refine wY ?_ | refine wN ?_)
 refine (plain_any _ _).mono ?_
 rintro e w1 ⟨rfl, hg⟩
 obtain ⟨HB, HG⟩ := shB hg
 clear hg
 go_wp2_with (refine st3 HB rfl _ _ rfl rfl rfl ?_)
 exact sE Try.results33 HB HG rfl rfl (by omega)
theorem vn_16 (n : Int) (h0 : 139 ≤ n) (h1 : n ≤ 141) (w : World) : Calls Try.prog 33 #[.int .i64 n] w (RES 1 0 ⟨#[118, 105, 58, 118]⟩ w) := by
 go_enter Try.func33, Try.ntmps33
 go_wp2_with (go_at_call 29; first | refine wY ?_ | refine wN ?_)
 refine (plain_any _ _).mono ?_
 rintro e w1 ⟨rfl, hg⟩
 obtain ⟨HB, HG⟩ := shB hg
 clear hg
 go_wp2_with (refine st3 HB rfl _ _ rfl rfl rfl ?_)
 exact sE Try.results33 HB HG rfl rfl (by omega)
theorem vn_17 (n : Int) (h0 : 142 ≤ n) (h1 : n ≤ 147) (w : World) : Calls Try.prog 33 #[.int .i64 n] w (RES 1 0 ⟨#[118, 118, 58, 118]⟩ w) := by
 go_enter Try.func33, Try.ntmps33
 go_wp2_with (go_at_call 29; first | refine wY ?_ | refine wN ?_)
 refine (plain_any _ _).mono ?_
 rintro e w1 ⟨rfl, hg⟩
 obtain ⟨HB, HG⟩ := shB hg
 clear hg
 go_wp2_with (refine st3 HB rfl _ _ rfl rfl rfl ?_)
 exact sE Try.results33 HB HG rfl rfl (by omega)
theorem vn_18 (w : World) : Calls Try.prog 33 #[.int .i64 148] w (RES 0 0 ⟨#[]⟩ w) := by
 go_enter Try.func33, Try.ntmps33
 go_wp2_with (go_at_call 29; first | refine wY ?_ | refine wN ?_)
 exact bodyPost_ret (v := .agg (shp _ _ _)) (by simp [results, Try.results33, go_sem, shp] <;> rfl) rfl ⟨rfl, (Gr.refl _).alloc _ _⟩
theorem vn_19 (n : Int) (h0 : 149 ≤ n) (h1 : n ≤ 153) (w : World) : Calls Try.prog 33 #[.int .i64 n] w (RES 1 0 ⟨#[118, 118, 58, 118]⟩ w) := by
 go_enter Try.func33, Try.ntmps33
 go_wp2_with (go_at_call 29; first | refine wY ?_ | refine wN ?_)
 refine (plain_any _ _).mono ?_
 rintro e w1 ⟨rfl, hg⟩
 obtain ⟨HB, HG⟩ := shB hg
 clear hg
 go_wp2_with (refine st3 HB rfl _ _ rfl rfl rfl ?_)
 exact sE Try.results33 HB HG rfl rfl (by omega)
theorem vn_20 (w : World) : Calls Try.prog 33 #[.int .i64 154] w (RES 0 0 ⟨#[]⟩ w) := by
 go_enter Try.func33, Try.ntmps33
 go_wp2_with (go_at_call 29; first | refine wY ?_ | refine wN ?_)
 exact bodyPost_ret (v := .agg (shp _ _ _)) (by simp [results, Try.results33, go_sem, shp] <;> rfl) rfl ⟨rfl, (Gr.refl _).alloc _ _⟩
theorem vn_21 (n : Int) (h0 : 155 ≤ n) (h1 : n ≤ 159) (w : World) : Calls Try.prog 33 #[.int .i64 n] w (RES 1 0 ⟨#[118, 118, 58, 118]⟩ w) := by
 go_enter Try.func33, Try.ntmps33
 go_wp2_with (go_at_call 29; first | refine wY ?_ | refine wN ?_)
 refine (plain_any _ _).mono ?_
 rintro e w1 ⟨rfl, hg⟩
 obtain ⟨HB, HG⟩ := shB hg
 clear hg
 go_wp2_with (refine st3 HB rfl _ _ rfl rfl rfl ?_)
 exact sE Try.results33 HB HG rfl rfl (by omega)
theorem vw_0 (n : Int) (h0 : 160 ≤ n) (h1 : n ≤ 161) (w : World) : Calls Try.prog 34 #[.int .i64 n] w (RES 1 0 ⟨#[118, 58, 118]⟩ w) := by
 go_enter Try.func34, Try.ntmps34
 go_wp2_with (go_at_call 29; first | refine wY ?_ | refine wN ?_)
 refine (plain_any _ _).mono ?_
 rintro e w1 ⟨rfl, hg⟩
 obtain ⟨HB, HG⟩ := shB hg
 clear hg
 go_wp2_with (refine st3 HB rfl _ _ rfl rfl rfl ?_)
 exact sE Try.results34 HB HG rfl rfl (by omega)
theorem vw_1 (w : World) : Calls Try.prog 34 #[.int .i64 162] w (RES 0 0 ⟨#[]⟩ w) := by
 go_enter Try.func34, Try.ntmps34
 go_wp2_with (go_at_call 29; first | refine wY ?_ | refine wN ?_)
 exact bodyPost_ret (v := .agg (shp _ _ _)) (by simp [results, Try.results34, go_sem, shp] <;> rfl) rfl ⟨rfl, (Gr.refl _).alloc _ _⟩
theorem vw_2 (n : Int) (h0 : 163 ≤ n) (h1 : n ≤ 164) (w : World) : Calls Try.prog 34 #[.int .i64 n] w (RES 1 0 ⟨#[118, 58, 105]⟩ w) := by
 go_enter Try.func34, Try.ntmps34
 go_wp2_with (go_at_call 29; first | refine wY ?_ | refine wN ?_)
 refine (plain_any _ _).mono ?_
 rintro e w1 ⟨rfl, hg⟩
 obtain ⟨HB, HG⟩ := shB hg
 clear hg
 go_wp2_with (refine st3 HB rfl _ _ rfl rfl rfl ?_)
 exact sE Try.results34 HB HG rfl rfl (by omega)
theorem vw_3 (n : Int) (h0 : 165 ≤ n) (h1 : n ≤ 166) (w : World) : Calls Try.prog 34 #[.int .i64 n] w (RES 0 0 ⟨#[]⟩ w) := by
 go_enter Try.func34, Try.ntmps34
 go_wp2_with (go_at_call 29; first | refine wY ?_ | refine wN ?_)
 exact bodyPost_ret (v := .agg (shp _ _ _)) (by simp [results, Try.results34, go_sem, shp] <;> rfl) rfl ⟨rfl, (Gr.refl _).alloc _ _⟩
theorem vw_4 (n : Int) (h0 : 167 ≤ n) (h1 : n ≤ 170) (w : World) : Calls Try.prog 34 #[.int .i64 n] w (RES 1 0 ⟨#[118, 58, 118]⟩ w) := by
 go_enter Try.func34, Try.ntmps34
 go_wp2_with (go_at_call 29; first | refine wY ?_ | refine wN ?_)
 refine (plain_any _ _).mono ?_
 rintro e w1 ⟨rfl, hg⟩
 obtain ⟨HB, HG⟩ := shB hg
 clear hg
 go_wp2_with (refine st3 HB rfl _ _ rfl rfl rfl ?_)
 exact sE Try.results34 HB HG rfl rfl (by omega)
theorem vw_5 (n : Int) (h0 : 171 ≤ n) (h1 : n ≤ 173) (w : World) : Calls Try.prog 34 #[.int .i64 n] w (RES 1 0 ⟨#[118, 105, 58, 118]⟩ w) := by
 go_enter Try.func34, Try.ntmps34
 go_wp2_with (go_at_call 29; first | refine wY ?_ | refine wN ?_)
 refine (plain_any _ _).mono ?_
 rintro e w1 ⟨rfl, hg⟩
 obtain ⟨HB, HG⟩ := shB hg
 clear hg
 go_wp2_with (refine st3 HB rfl _ _ rfl rfl rfl ?_)
 exact sE Try.results34 HB HG rfl rfl (by omega)
theorem vw_6 (w : World) : Calls Try.prog 34 #[.int .i64 174] w (RES 1 0 ⟨#[118, 118, 58, 118]⟩ w) := by
 go_enter Try.func34, Try.ntmps34
 go_wp2_with (go_at_call 29; first | refine wY ?_ | refine wN ?_)
 refine (plain_any _ _).mono ?_
 rintro e w1 ⟨rfl, hg⟩
 obtain ⟨HB, HG⟩ := shB hg
 clear hg
 go_wp2_with (refine st3 HB rfl _ _ rfl rfl rfl ?_)
 exact sE Try.results34 HB HG rfl rfl (by omega)
theorem vw_7 (n : Int) (h0 : 175 ≤ n) (h1 : n ≤ 176) (w : World) : Calls Try.prog 34 #[.int .i64 n] w (RES 0 0 ⟨#[]⟩ w) := by
 go_enter Try.func34, Try.ntmps34
 go_wp2_with (go_at_call 29; first | refine wY ?_ | refine wN ?_)
 exact bodyPost_ret (v := .agg (shp _ _ _)) (by simp [results, Try.results34, go_sem, shp] <;> rfl) rfl ⟨rfl, (Gr.refl _).alloc _ _⟩
theorem vw_8 (w : World) : Calls Try.prog 34 #[.int .i64 177] w (RES 1 0 ⟨#[118, 118, 58, 118]⟩ w) := by
 go_enter Try.func34, Try.ntmps34
 go_wp2_with (go_at_call 29; first | refine wY ?_ | refine wN ?_)
 refine (plain_any _ _).mono ?_
 rintro e w1 ⟨rfl, hg⟩
 obtain ⟨HB, HG⟩ := shB hg
 clear hg
 go_wp2_with (refine st3 HB rfl _ _ rfl rfl rfl ?_)
 exact sE Try.results34 HB HG rfl rfl (by omega)
theorem vw_9 (n : Int) (h0 : 178 ≤ n) (h1 : n ≤ 180) (w : World) : Calls Try.prog 34 #[.int .i64 n] w (RES 0 0 ⟨#[]⟩ w) := by
 go_enter Try.func34, Try.ntmps34
 go_wp2_with (go_at_call 29; first | refine wY ?_ | refine wN ?_)
 exact bodyPost_ret (v := .agg (shp _ _ _)) (by simp [results, Try.results34, go_sem, shp] <;> rfl) rfl ⟨rfl, (Gr.refl _).alloc _ _⟩
theorem vw_10 (n : Int) (h0 : 181 ≤ n) (h1 : n ≤ 186) (w : World) : Calls Try.prog 34 #[.int .i64 n] w (RES 1 0 ⟨#[118, 118, 58, 118]⟩ w) := by
 go_enter Try.func34, Try.ntmps34
 go_wp2_with (go_at_call 29; first | refine wY ?_ | refine wN ?_)
 refine (plain_any _ _).mono ?_
 rintro e w1 ⟨rfl, hg⟩
 obtain ⟨HB, HG⟩ := shB hg
 clear hg
 go_wp2_with (refine st3 HB rfl _ _ rfl rfl rfl ?_)
 exact sE Try.results34 HB HG rfl rfl (by omega)
theorem vw_11 (w : World) : Calls Try.prog 34 #[.int .i64 187] w (RES 0 0 ⟨#[]⟩ w) := by
 go_enter Try.func34, Try.ntmps34
 go_wp2_with (go_at_call 29; first | refine wY ?_ | refine wN ?_)
 exact bodyPost_ret (v := .agg (shp _ _ _)) (by simp [results, Try.results34, go_sem, shp] <;> rfl) rfl ⟨rfl, (Gr.refl _).alloc _ _⟩
theorem vw_12 (n : Int) (h0 : 188 ≤ n) (h1 : n ≤ 191) (w : World) : Calls Try.prog 34 #[.int .i64 n] w (RES 1 0 ⟨#[118, 118, 58, 118]⟩ w) := by
 go_enter Try.func34, Try.ntmps34
 go_wp2_with (go_at_call 29; first | refine wY ?_ | refine wN ?_)
 refine (plain_any _ _).mono ?_
 rintro e w1 ⟨rfl, hg⟩
 obtain ⟨HB, HG⟩ := shB hg
 clear hg
 go_wp2_with (refine st3 HB rfl _ _ rfl rfl rfl ?_)
 exact sE Try.results34 HB HG rfl rfl (by omega)
theorem vw_13 (n : Int) (h0 : 192 ≤ n) (h1 : n ≤ 193) (w : World) : Calls Try.prog 34 #[.int .i64 n] w (RES 1 0 ⟨#[118, 58, 118]⟩ w) := by
 go_enter Try.func34, Try.ntmps34
 go_wp2_with (go_at_call 29; first | refine wY ?_ | refine wN ?_)
 refine (plain_any _ _).mono ?_
 rintro e w1 ⟨rfl, hg⟩
 obtain ⟨HB, HG⟩ := shB hg
 clear hg
 go_wp2_with (refine st3 HB rfl _ _ rfl rfl rfl ?_)
 exact sE Try.results34 HB HG rfl rfl (by omega)
theorem vw_14 (w : World) : Calls Try.prog 34 #[.int .i64 194] w (RES 0 0 ⟨#[]⟩ w) := by
 go_enter Try.func34, Try.ntmps34
 go_wp2_with (go_at_call 29; first | refine wY ?_ | refine wN ?_)
 exact bodyPost_ret (v := .agg (shp _ _ _)) (by simp [results, Try.results34, go_sem, shp] <;> rfl) rfl ⟨rfl, (Gr.refl _).alloc _ _⟩
theorem vw_15 (n : Int) (h0 : 195 ≤ n) (h1 : n ≤ 196) (w : World) : Calls Try.prog 34 #[.int .i64 n] w (RES 1 0 ⟨#[118, 58, 105]⟩ w) := by
 go_enter Try.func34, Try.ntmps34
 go_wp2_with (go_at_call 29; first | refine wY ?_ | refine wN ?_)
 refine (plain_any _ _).mono ?_
 rintro e w1 ⟨rfl, hg⟩
 obtain ⟨HB, HG⟩ := shB hg
 clear hg
 go_wp2_with (refine st3 HB rfl _ _ rfl rfl rfl ?_)
 exact sE Try.results34 HB HG rfl rfl (by omega)
theorem vw_16 (n : Int) (h0 : 197 ≤ n) (h1 : n ≤ 198) (w : World) : Calls Try.prog 34 #[.int .i64 n] w (RES 0 0 ⟨#[]⟩ w) := by
 go_enter Try.func34, Try.ntmps34
 go_wp2_with (go_at_call 29; first | refine wY ?_ | refine wN ?_)
 exact bodyPost_ret (v := .agg (shp _ _ _)) (by simp [results, Try.results34, go_sem, shp] <;> rfl) rfl ⟨rfl, (Gr.refl _).alloc _ _⟩
theorem vw_17 (n : Int) (h0 : 199 ≤ n) (h1 : n ≤ 202) (w : World) : Calls Try.prog 34 #[.int .i64 n] w (RES 1 0 ⟨#[118, 58, 118]⟩ w) := by
 go_enter Try.func34, Try.ntmps34
 go_wp2_with (go_at_call 29; first | refine wY ?_ | refine wN ?_)
 refine (plain_any _ _).mono ?_
 rintro e w1 ⟨rfl, hg⟩
 obtain ⟨HB, HG⟩ := shB hg
 clear hg
 go_wp2_with (refine st3 HB rfl _ _ rfl rfl rfl ?_)
 exact sE Try.results34 HB HG rfl rfl (by omega)
theorem vw_18 (n : Int) (h0 : 203 ≤ n) (h1 : n ≤ 205) (w : World) : Calls Try.prog 34 #[.int .i64 n] w (RES 1 0 ⟨#[118, 105, 58, 118]⟩ w) := by
 go_enter Try.func34, Try.ntmps34
 go_wp2_with (go_at_call 29; first | refine wY ?_ | refine wN ?_)
 refine (plain_any _ _).mono ?_
 rintro e w1 ⟨rfl, hg⟩
 obtain ⟨HB, HG⟩ := shB hg
 clear hg
 go_wp2_with (refine st3 HB rfl _ _ rfl rfl rfl ?_)
 exact sE Try.results34 HB HG rfl rfl (by omega)
theorem vw_19 (w : World) : Calls Try.prog 34 #[.int .i64 206] w (RES 1 0 ⟨#[118, 118, 58, 118]⟩ w) := by
 go_enter Try.func34, Try.ntmps34
 go_wp2_with (go_at_call 29; first | refine wY ?_ | refine wN ?_)
 refine (plain_any _ _).mono ?_
 rintro e w1 ⟨rfl, hg⟩
 obtain ⟨HB, HG⟩ := shB hg
 clear hg
 go_wp2_with (refine st3 HB rfl _ _ rfl rfl rfl ?_)
 exact sE Try.results34 HB HG rfl rfl (by omega)
theorem vw_20 (n : Int) (h0 : 207 ≤ n) (h1 : n ≤ 208) (w : World) : Calls Try.prog 34 #[.int .i64 n] w (RES 0 0 ⟨#[]⟩ w) := by
 go_enter Try.func34, Try.ntmps34
 go_wp2_with (go_at_call 29; first | refine wY ?_ | refine wN ?_)
 exact bodyPost_ret (v := .agg (shp _ _ _)) (by simp [results, Try.results34, go_sem, shp] <;> rfl) rfl ⟨rfl, (Gr.refl _).alloc _ _⟩
theorem vw_21 (w : World) : Calls Try.prog 34 #[.int .i64 209] w (RES 1 0 ⟨#[118, 118, 58, 118]⟩ w) := by
 go_enter Try.func34, Try.ntmps34
 go_wp2_with (go_at_call 29; first | refine wY ?_ | refine wN ?_)
 refine (plain_any _ _).mono ?_
 rintro e w1 ⟨rfl, hg⟩
 obtain ⟨HB, HG⟩ := shB hg
 clear hg
 go_wp2_with (refine st3 HB rfl _ _ rfl rfl rfl ?_)
 exact sE Try.results34 HB HG rfl rfl (by omega)
theorem vw_22 (n : Int) (h0 : 210 ≤ n) (h1 : n ≤ 212) (w : World) : Calls Try.prog 34 #[.int .i64 n] w (RES 0 0 ⟨#[]⟩ w) := by
 go_enter Try.func34, Try.ntmps34
 go_wp2_with (go_at_call 29; first | refine wY ?_ | refine wN ?_)
 exact bodyPost_ret (v := .agg (shp _ _ _)) (by simp [results, Try.results34, go_sem, shp] <;> rfl) rfl ⟨rfl, (Gr.refl _).alloc _ _⟩
theorem vw_23 (n : Int) (h0 : 213 ≤ n) (h1 : n ≤ 223) (w : World) : Calls Try.prog 34 #[.int .i64 n] w (RES 1 0 ⟨#[118, 118, 58, 118]⟩ w) := by
 go_enter Try.func34, Try.ntmps34
 go_wp2_with (go_at_call 29; first | refine wY ?_ | refine wN ?_)
 refine (plain_any _ _).mono ?_
 rintro e w1 ⟨rfl, hg⟩
 obtain ⟨HB, HG⟩ := shB hg
 clear hg
 go_wp2_with (refine st3 HB rfl _ _ rfl rfl rfl ?_)
 exact sE Try.results34 HB HG rfl rfl (by omega)
theorem vw_24 (n : Int) (h0 : 224 ≤ n) (w : World) : Calls Try.prog 34 #[.int .i64 n] w (RES 0 0 ⟨#[]⟩ w) := by
 go_enter Try.func34, Try.ntmps34
 go_wp2_with (go_at_call 29; first | refine wY ?_ | refine wN ?_)
 exact bodyPost_ret (v := .agg (shp _ _ _)) (by simp [results, Try.results34, go_sem, shp] <;> rfl) rfl ⟨rfl, (Gr.refl _).alloc _ _⟩
theorem top_access0 (n f l : Int) (s : ByteArray) (_h0 : 40 ≤ n) (_h1 : n ≤ 62) (h : ∀ w, Calls Try.prog 35 #[.int .i64 n] w (RES f l s w)) (w : World) : Calls Try.prog 19 #[.int .i64 n] w (RES f l s w) := by
 have H := Lib.hid h
 clear h
 go_enter Try.func19, Try.ntmps19
 go_wp2_with (go_at_call 29; first | refine wY ?_ | refine wN ?_)
 refine (H.out _).mono ?_
 rintro e w1 ⟨rfl, hg⟩
 obtain ⟨HB, HG⟩ := shB hg
 clear hg
 go_wp2_with (refine st3 HB rfl _ _ rfl rfl rfl ?_)
 exact sE Try.results19 HB HG rfl rfl (by omega)
theorem top_operator0 (n f l : Int) (s : ByteArray) (_h0 : 69 ≤ n) (h : ∀ w, Calls Try.prog 36 #[.int .i64 n] w (RES f l s w)) (w : World) : Calls Try.prog 19 #[.int .i64 n] w (RES f l s w) := by
 have H := Lib.hid h
 clear h
 go_enter Try.func19, Try.ntmps19
 go_wp2_with (go_at_call 29; first | refine wY ?_ | refine wN ?_)
 refine (H.out _).mono ?_
 rintro e w1 ⟨rfl, hg⟩
 obtain ⟨HB, HG⟩ := shB hg
 clear hg
 go_wp2_with (refine st3 HB rfl _ _ rfl rfl rfl ?_)
 exact sE Try.results19 HB HG rfl rfl (by omega)
theorem top_control0 (n f l : Int) (s : ByteArray) (_h1 : n ≤ 39) (h : ∀ w, Calls Try.prog 37 #[.int .i64 n] w (RES f l s w)) (w : World) : Calls Try.prog 19 #[.int .i64 n] w (RES f l s w) := by
 have H := Lib.hid h
 clear h
 go_enter Try.func19, Try.ntmps19
 go_wp2_with (go_at_call 29; first | refine wY ?_ | refine wN ?_)
 refine (H.out _).mono ?_
 rintro e w1 ⟨rfl, hg⟩
 obtain ⟨HB, HG⟩ := shB hg
 clear hg
 go_wp2_with (refine st3 HB rfl _ _ rfl rfl rfl ?_)
 exact sE Try.results19 HB HG rfl rfl (by omega)
theorem top_control1 (n f l : Int) (s : ByteArray) (_h0 : 67 ≤ n) (_h1 : n ≤ 68) (h : ∀ w, Calls Try.prog 37 #[.int .i64 n] w (RES f l s w)) (w : World) : Calls Try.prog 19 #[.int .i64 n] w (RES f l s w) := by
 have H := Lib.hid h
 clear h
 go_enter Try.func19, Try.ntmps19
 go_wp2_with (go_at_call 29; first | refine wY ?_ | refine wN ?_)
 refine (H.out _).mono ?_
 rintro e w1 ⟨rfl, hg⟩
 obtain ⟨HB, HG⟩ := shB hg
 clear hg
 go_wp2_with (refine st3 HB rfl _ _ rfl rfl rfl ?_)
 exact sE Try.results19 HB HG rfl rfl (by omega)
theorem top_va0 (n f l : Int) (s : ByteArray) (_h0 : 0 ≤ n) (_h1 : n ≤ 11) (h : ∀ w, Calls Try.prog 30 #[.int .i64 n] w (RES f l s w)) (w : World) : Calls Try.prog 18 #[.int .i64 n] w (RES f l s w) := by
 have H := Lib.hid h
 clear h
 go_enter Try.func18, Try.ntmps18
 go_wp2_with (go_at_call 29; first | refine wY ?_ | refine wN ?_)
 refine (H.out _).mono ?_
 rintro e w1 ⟨rfl, hg⟩
 obtain ⟨HB, HG⟩ := shB hg
 clear hg
 go_wp2_with (refine st3 HB rfl _ _ rfl rfl rfl ?_)
 exact sE Try.results18 HB HG rfl rfl (by omega)
theorem top_va1 (n f l : Int) (s : ByteArray) (_h0 : 84 ≤ n) (_h1 : n ≤ 93) (h : ∀ w, Calls Try.prog 30 #[.int .i64 n] w (RES f l s w)) (w : World) : Calls Try.prog 18 #[.int .i64 n] w (RES f l s w) := by
 have H := Lib.hid h
 clear h
 go_enter Try.func18, Try.ntmps18
 go_wp2_with (go_at_call 29; first | refine wY ?_ | refine wN ?_)
 refine (H.out _).mono ?_
 rintro e w1 ⟨rfl, hg⟩
 obtain ⟨HB, HG⟩ := shB hg
 clear hg
 go_wp2_with (refine st3 HB rfl _ _ rfl rfl rfl ?_)
 exact sE Try.results18 HB HG rfl rfl (by omega)
theorem top_vm0 (n f l : Int) (s : ByteArray) (_h0 : 12 ≤ n) (_h1 : n ≤ 34) (h : ∀ w, Calls Try.prog 31 #[.int .i64 n] w (RES f l s w)) (w : World) : Calls Try.prog 18 #[.int .i64 n] w (RES f l s w) := by
 have H := Lib.hid h
 clear h
 go_enter Try.func18, Try.ntmps18
 go_wp2_with (go_at_call 29; first | refine wY ?_ | refine wN ?_)
 refine (H.out _).mono ?_
 rintro e w1 ⟨rfl, hg⟩
 obtain ⟨HB, HG⟩ := shB hg
 clear hg
 go_wp2_with (refine st3 HB rfl _ _ rfl rfl rfl ?_)
 exact sE Try.results18 HB HG rfl rfl (by omega)
theorem top_vb0 (n f l : Int) (s : ByteArray) (_h0 : 35 ≤ n) (_h1 : n ≤ 83) (h : ∀ w, Calls Try.prog 32 #[.int .i64 n] w (RES f l s w)) (w : World) : Calls Try.prog 18 #[.int .i64 n] w (RES f l s w) := by
 have H := Lib.hid h
 clear h
 go_enter Try.func18, Try.ntmps18
 go_wp2_with (go_at_call 29; first | refine wY ?_ | refine wN ?_)
 refine (H.out _).mono ?_
 rintro e w1 ⟨rfl, hg⟩
 obtain ⟨HB, HG⟩ := shB hg
 clear hg
 go_wp2_with (refine st3 HB rfl _ _ rfl rfl rfl ?_)
 exact sE Try.results18 HB HG rfl rfl (by omega)
theorem top_vn0 (n f l : Int) (s : ByteArray) (_h0 : 94 ≤ n) (_h1 : n ≤ 159) (h : ∀ w, Calls Try.prog 33 #[.int .i64 n] w (RES f l s w)) (w : World) : Calls Try.prog 18 #[.int .i64 n] w (RES f l s w) := by
 have H := Lib.hid h
 clear h
 go_enter Try.func18, Try.ntmps18
 go_wp2_with (go_at_call 29; first | refine wY ?_ | refine wN ?_)
 refine (H.out _).mono ?_
 rintro e w1 ⟨rfl, hg⟩
 obtain ⟨HB, HG⟩ := shB hg
 clear hg
 go_wp2_with (refine st3 HB rfl _ _ rfl rfl rfl ?_)
 exact sE Try.results18 HB HG rfl rfl (by omega)
theorem top_vw0 (n f l : Int) (s : ByteArray) (_h0 : 160 ≤ n) (h : ∀ w, Calls Try.prog 34 #[.int .i64 n] w (RES f l s w)) (w : World) : Calls Try.prog 18 #[.int .i64 n] w (RES f l s w) := by
 have H := Lib.hid h
 clear h
 go_enter Try.func18, Try.ntmps18
 go_wp2_with (go_at_call 29; first | refine wY ?_ | refine wN ?_)
 refine (H.out _).mono ?_
 rintro e w1 ⟨rfl, hg⟩
 obtain ⟨HB, HG⟩ := shB hg
 clear hg
 go_wp2_with (refine st3 HB rfl _ _ rfl rfl rfl ?_)
 exact sE Try.results18 HB HG rfl rfl (by omega)
theorem top_63 (w : World) : Calls Try.prog 19 #[.int .i64 63] w (RES 14 0 ⟨#[58, 105]⟩ w) := by
 go_enter Try.func19, Try.ntmps19
 go_wp2_with (go_at_call 29; first | refine wY ?_ | refine wN ?_)
 exact bodyPost_ret (v := .agg (shp _ _ _)) (by simp [results, Try.results19, go_sem, shp] <;> rfl) rfl ⟨rfl, (Gr.refl _).alloc _ _⟩
theorem top_64 (w : World) : Calls Try.prog 19 #[.int .i64 64] w (RES 14 0 ⟨#[105, 58, 105]⟩ w) := by
 go_enter Try.func19, Try.ntmps19
 go_wp2_with (go_at_call 29; first | refine wY ?_ | refine wN ?_)
 exact bodyPost_ret (v := .agg (shp _ _ _)) (by simp [results, Try.results19, go_sem, shp] <;> rfl) rfl ⟨rfl, (Gr.refl _).alloc _ _⟩
theorem top_65 (w : World) : Calls Try.prog 19 #[.int .i64 65] w (RES 9 0 ⟨#[58, 105]⟩ w) := by
 go_enter Try.func19, Try.ntmps19
 go_wp2_with (go_at_call 29; first | refine wY ?_ | refine wN ?_)
 exact bodyPost_ret (v := .agg (shp _ _ _)) (by simp [results, Try.results19, go_sem, shp] <;> rfl) rfl ⟨rfl, (Gr.refl _).alloc _ _⟩
theorem top_66 (w : World) : Calls Try.prog 19 #[.int .i64 66] w (RES 10 0 ⟨#[58, 108]⟩ w) := by
 go_enter Try.func19, Try.ntmps19
 go_wp2_with (go_at_call 29; first | refine wY ?_ | refine wN ?_)
 exact bodyPost_ret (v := .agg (shp _ _ _)) (by simp [results, Try.results19, go_sem, shp] <;> rfl) rfl ⟨rfl, (Gr.refl _).alloc _ _⟩
end Ins
end Go.Proofs.Ytifjgocfdnhdeaa
/- InsTy -/
namespace Go.Proofs.Ytifjgocfdnhdeaa
open Go.RowKit
namespace Ins
theorem infoI : (Try.prog.info? 3).map (fun i => (i.zero, i.size, i.bytes)) = some (some (.int .i64 0), 1, 8) := by kernel_rfl
theorem owns_gr {w w' : World} {base : Nat} {e : TypeId} {size : Nat} {v : Value} {n : Nat} {xs : List Value} (h : w.ownsRow base e size v n xs) (hg : Gr w w') : w'.ownsRow base e size v n xs :=
 h.kept (row := none) ⟨hg.os, hg.tape, hg.output, hg.size, fun k hk _ => hg.block k hk⟩ (by cases v.ownBlock <;> simp)
def code (c : UInt8) : Int := if c.toNat = 105 then 127 else if c.toNat = 108 then 126 else 123
def codes (s : ByteArray) (k : Nat) : List Value := (s.data.toList.take k).map fun c => Value.int .i64 (code c)
theorem codes_snoc (s : ByteArray) (k : Nat) (h : k < s.size) : codes s (k + 1) = codes s k ++ [.int .i64 (code s[k])] := by
 unfold codes
 rw [List.take_succ_eq_append_getElem (by simpa using h), List.map_append]; rfl
set_option maxHeartbeats 2000000 in
theorem types_any (s : ByteArray) (w : World) (hs : s.size ≤ 4294967296) :
  Calls Try.prog 21 #[.string s] w fun e w' => ∃ sv, e = .returned sv ∧ Gr w w' ∧ w'.ownsRow w.heap.size 3 1 sv s.size (codes s s.size) := by
 obtain ⟨i0, hi, hz0, hz1, hz2⟩ := info_parts infoI
 have HI := Lib.hid hi
 have HZ0 := Lib.hid hz0
 have HZ1 := Lib.hid hz1
 have HZ2 := Lib.hid hz2
 clear hi hz0 hz1 hz2
 go_enter Try.func21, Try.ntmps21
 go_wp2_with fail
 go_loopw [7, 3] (fun i sv wr => ∃ k : Nat, k ≤ s.size ∧ i = .int .i64 k ∧ Gr w wr ∧ wr.ownsRow w.heap.size 3 1 sv k (codes s k)) (fun i _ _ => s.size - (intOf i).toNat)
 case atStart => exact ⟨0, by omega, rfl, Gr.refl _, World.ownsRow_nil _ _ _ _⟩
 case round =>
  obtain ⟨k, hk, rfl, hg, hown⟩ := hrel
  have HG := Lib.hid hg
  have HO := Lib.hid hown
  clear hg hown
  by_cases hlt : k < s.size
  ·have hsn := codes_snoc s k hlt
   have HS := Lib.hid hsn
   clear hsn
   have hc : (s[k].toNat : Int) = 105 ∧ code s[k] = 127 ∨ ((s[k].toNat : Int) == 105) = false ∧ (s[k].toNat : Int) = 108 ∧ code s[k] = 126 ∨ ((s[k].toNat : Int) == 105) = false ∧ ((s[k].toNat : Int) == 108) = false ∧ code s[k] = 123 := by
    unfold code
    by_cases h1 : s[k].toNat = 105
    ·left; rw [if_pos h1]; exact ⟨by omega, rfl⟩
    ·right
     have b1 : ((s[k].toNat : Int) == 105) = false := beq_eq_false_iff_ne.2 (by omega)
     rw [if_neg h1]
     by_cases h2 : s[k].toNat = 108
     ·left; rw [if_pos h2]; exact ⟨b1, by omega, rfl⟩
     ·right; rw [if_neg h2]; exact ⟨b1, beq_eq_false_iff_ne.2 (by omega), rfl⟩
   generalize code s[k] = cd at *
   rcases hc with ⟨h1, rfl⟩ | ⟨h1, h2, rfl⟩ | ⟨h1, h2, rfl⟩
   ·go_wp2_with (at_builtin; refine wpList_append_own _ rfl _ _ 25 rfl w.heap.size 3 i0 (.int .i64 0) 1 8 Try.underlying25 HI.out HZ0.out HZ1.out HZ2.out rfl (by decide) u3 k _ rfl (HO.out.alloc _) ⟨wr.heap.size, 0, none⟩ 1 1 [.int .i64 127] rfl rfl ?c1 ?c2 ?c3 ?c4 ?c5 ?_)
    case c1 =>
     intro j u hju
     match j, hju with
     | 0, hju => simp at hju; subst hju; exact (cell_of_row _ _ 0 _ _ _ (heap_alloc_new wr _)).trans rfl
    case c2 => intro u hu; simp at hu; subst hu; rfl
    case c3 => unfold maxLen; omega
    case c4 => omega
    case c5 => have := HG.out.size; simp; omega
    intro v' w2 hown2 hgb _
    have hrow : ∀ q, u3.ownBlock = some q → w.heap.size ≤ q := fun q hq => (HO.out.lt q hq).1
    have hgr : Gr w w2 := (HG.out.allocO _).grown hgb (fun q hq => by have := hrow q hq; omega)
    have hown3 : w2.ownsRow w.heap.size 3 1 v' (k + 1) (codes s (k + 1)) := by rw [HS.out]; exact hown2
    have H1 := Lib.hid hgr
    have H3 := Lib.hid hown3
    clear hown2 hgb hrow hgr hown3
    go_wp2
    exact ⟨⟨k + 1, by omega, by go_num, H1.out, H3.out⟩, by simp [intOf]; omega⟩
   ·go_wp2_with (at_builtin; refine wpList_append_own _ rfl _ _ 25 rfl w.heap.size 3 i0 (.int .i64 0) 1 8 Try.underlying25 HI.out HZ0.out HZ1.out HZ2.out rfl (by decide) u3 k _ rfl (HO.out.alloc _) ⟨wr.heap.size, 0, none⟩ 1 1 [.int .i64 126] rfl rfl ?c1 ?c2 ?c3 ?c4 ?c5 ?_)
    case c1 =>
     intro j u hju
     match j, hju with
     | 0, hju => simp at hju; subst hju; exact (cell_of_row _ _ 0 _ _ _ (heap_alloc_new wr _)).trans rfl
    case c2 => intro u hu; simp at hu; subst hu; rfl
    case c3 => unfold maxLen; omega
    case c4 => omega
    case c5 => have := HG.out.size; simp; omega
    intro v' w2 hown2 hgb _
    have hrow : ∀ q, u3.ownBlock = some q → w.heap.size ≤ q := fun q hq => (HO.out.lt q hq).1
    have hgr : Gr w w2 := (HG.out.allocO _).grown hgb (fun q hq => by have := hrow q hq; omega)
    have hown3 : w2.ownsRow w.heap.size 3 1 v' (k + 1) (codes s (k + 1)) := by rw [HS.out]; exact hown2
    have H1 := Lib.hid hgr
    have H3 := Lib.hid hown3
    clear hown2 hgb hrow hgr hown3
    go_wp2
    exact ⟨⟨k + 1, by omega, by go_num, H1.out, H3.out⟩, by simp [intOf]; omega⟩
   ·go_wp2_with (at_builtin; refine wpList_append_own _ rfl _ _ 25 rfl w.heap.size 3 i0 (.int .i64 0) 1 8 Try.underlying25 HI.out HZ0.out HZ1.out HZ2.out rfl (by decide) u3 k _ rfl (HO.out.alloc _) ⟨wr.heap.size, 0, none⟩ 1 1 [.int .i64 123] rfl rfl ?c1 ?c2 ?c3 ?c4 ?c5 ?_)
    case c1 =>
     intro j u hju
     match j, hju with
     | 0, hju => simp at hju; subst hju; exact (cell_of_row _ _ 0 _ _ _ (heap_alloc_new wr _)).trans rfl
    case c2 => intro u hu; simp at hu; subst hu; rfl
    case c3 => unfold maxLen; omega
    case c4 => omega
    case c5 => have := HG.out.size; simp; omega
    intro v' w2 hown2 hgb _
    have hrow : ∀ q, u3.ownBlock = some q → w.heap.size ≤ q := fun q hq => (HO.out.lt q hq).1
    have hgr : Gr w w2 := (HG.out.allocO _).grown hgb (fun q hq => by have := hrow q hq; omega)
    have hown3 : w2.ownsRow w.heap.size 3 1 v' (k + 1) (codes s (k + 1)) := by rw [HS.out]; exact hown2
    have H1 := Lib.hid hgr
    have H3 := Lib.hid hown3
    clear hown2 hgb hrow hgr hown3
    go_wp2
    exact ⟨⟨k + 1, by omega, by go_num, H1.out, H3.out⟩, by simp [intOf]; omega⟩
  ·obtain rfl : k = s.size := by omega
   go_wp2
   go_ret
   exact ⟨_, rfl, HG.out, HO.out⟩
end Ins
end Go.Proofs.Ytifjgocfdnhdeaa
/- Steady -/
namespace Go.Proofs.Ytifjgocfdnhdeaa
open Go.RowKit
section
variable {P : Program} {ops : Array Oper} {md : Region.Mode} {w0 : World}
def yieldsUpon (P : Program) (w0 : World) (v : Value) : Result Next → Prop
 | .ok (.value u) w' => v = u ∧ Gr w0 w'
 | .ok .skip w' => v = undef ∧ Gr w0 w'
 | .ok (.enter f args) w' => Calls P f args w' (fun e w'' => e = .returned v ∧ Gr w0 w'')
 | _ => False
def Steady (P : Program) (w0 : World) (o : Oper) (a : Act) (v : Value) : Prop := ∀ w, Gr w0 w → yieldsUpon P w0 v ((execOp a.eval o).run P w)
def YieldsG (P : Program) (ops : Array Oper) (w0 : World) (o : Oper) (v : Value) (a : Act) : Prop :=
 (Region.wanted o (yielded ops a.tmps) = true ∧ Steady P w0 o a v) ∨ (Region.wanted o (yielded ops a.tmps) = false ∧ v = undef)
theorem YieldsG.of_same {o : Oper} {v : Value} {a a' : Act} (hy : YieldsG P ops w0 o v a) (he : execOp a'.eval o = execOp a.eval o)
  (hw : Region.wanted o (yielded ops a'.tmps) = Region.wanted o (yielded ops a.tmps)) : YieldsG P ops w0 o v a' := by
 unfold YieldsG Steady at *
 rw [he, hw]
 exact hy
def stG (P : Program) (ops : Array Oper) (w0 : World) (i : Nat) (K : Act → Prop) (a : Act) : Prop :=
 match ops[i]? with
 | none => K a
 | some o => ∃ v, YieldsG P ops w0 o v a ∧ K (a.put o.dst v)
theorem stG_mono {i : Nat} {a : Act} {K K' : Act → Prop} (h : ∀ a, K a → K' a) (hh : stG P ops w0 i K a) : stG P ops w0 i K' a := by
 unfold stG at *
 split
 ·exact h _ (by simpa [*] using hh)
 ·rename_i o ho
  simp only [ho] at hh
  obtain ⟨v, hy, hk⟩ := hh
  exact ⟨v, hy, h _ hk⟩
theorem wpOp_of_stG {i : Nat} {a : Act} {K : Act → Prop} {K' : Act → World → Prop} {Q' : Exit → Act → World → Prop} (h : ∀ a w, Gr w0 w → K a → K' a w) (hh : stG P ops w0 i K a) {w : World} (hw : Gr w0 w) :
  wpOp P ops Q' i K' a w := by
 unfold stG at hh
 unfold wpOp
 split
 ·rename_i ho; simp only [ho] at hh; exact h _ _ hw hh
 ·rename_i o ho
  simp only [ho] at hh
  obtain ⟨v, hy, hk⟩ := hh
  rcases hy with ⟨hwt, hs⟩ | ⟨hwt, rfl⟩
  ·rw [if_pos hwt]
   left
   have hr := hs w hw
   unfold Oper.wp
   generalize (execOp a.eval o).run P w = r at *
   cases r with
   | ok n w' =>
    cases n <;> simp only [yieldsUpon] at hr <;> simp only [Oper.upon]
    case value u => obtain ⟨rfl, hg⟩ := hr; exact h _ _ hg hk
    case skip => obtain ⟨rfl, hg⟩ := hr; exact h _ _ hg hk
    case enter f args => exact hr.mono fun e w'' ⟨he, hg⟩ => by subst he; exact h _ _ hg hk
   | halt x w' => simp only [yieldsUpon] at hr
  ·rw [if_neg (by rw [hwt]; decide)]
   exact h _ _ hw hk
theorem stG_put {j : Nat} {oi oj : Oper} {v : Value} (hj : ops[j]? = some oj) (hap : oi.apart ops oj = true)
  (hsi : ∀ cs b, oi.op ≠ .select cs b) (hsj : ∀ cs b, oj.op ≠ .select cs b) {K : Act → Prop} {a : Act}
  (hy : YieldsG P ops w0 oi v a) (h : stG P ops w0 j K (a.put oi.dst v)) :
  stG P ops w0 j (fun a' => YieldsG P ops w0 oi v a' ∧ K (a'.put oi.dst v)) a := by
 obtain ⟨h1, h2, h3⟩ := Oper.apart_spec hap
 unfold stG at *
 simp only [hj] at *
 obtain ⟨u, hyu, hk⟩ := h
 refine ⟨u, ?_, hy.of_same (execOp_put oi hsi a oj.dst u h3) (wanted_put oi a oj.dst u h3), by rw [← Act.put_comm a v u h2]; exact hk⟩
 exact hyu.of_same (execOp_put oj hsj a oi.dst v h1).symm (wanted_put oj a oi.dst v h1).symm
def wpAnyG (P : Program) (md : Region.Mode) (ops : Array Oper) (w0 : World) (n : Nat) (L : Array Bool → Act → Prop) : Nat → Array Bool → Act → Prop
 | 0, listed, a => L listed a
 | f + 1, listed, a =>
  Region.ready md ops listed ≠ [] ∧ ∀ i ∈ Region.ready md ops listed, i < n ∧ stG P ops w0 i (wpAnyG P md ops w0 n L f (listed.setIfInBounds i true)) a
theorem wpAny_of_headG {n g : Nat} {L : Array Bool → Act → Prop} {Q' : Exit → Act → World → Prop} (hL : ∀ listed a w, Gr w0 w → L listed a → wpAny P md ops Q' g listed a w) :
  ∀ (f : Nat) (listed : Array Bool) (a : Act) (w : World), Gr w0 w → wpAnyG P md ops w0 n L f listed a → wpAny P md ops Q' (f + g) listed a w
 | 0, listed, a, w, hw, h => by rw [Nat.zero_add]; exact hL _ _ _ hw h
 | f + 1, listed, a, w, hw, h => by
  rw [show f + 1 + g = (f + g) + 1 by omega]
  exact ⟨fun h0 => absurd h0 h.1, fun i hi => wpOp_of_stG (fun a' w' hw' h' => wpAny_of_headG hL f _ a' w' hw' h') (h.2 i hi).2 hw⟩
theorem wpAnyG_first {n i : Nat} {oi : Oper} {v : Value} {L : Array Bool → Act → Prop} (hi : ops[i]? = some oi) (hsel : ∀ (j : Nat) (o : Oper) cs b, ops[j]? = some o → o.op ≠ .select cs b)
  (hin : i < n) (htw : ∀ listed i, HeadInv md ops n listed → i < n → listed.getD i true = false → ∀ t, n ≤ t → t ∉ Region.ready md ops listed)
  (hdone : ∀ listed a, L listed a → ∀ j ∈ Region.ready md ops listed, n ≤ j) :
  ∀ (f : Nat) (listed : Array Bool) (a : Act), HeadInv md ops n listed →
   (∀ j oj, ops[j]? = some oj → j ≠ i → listed.getD j true = false → (∀ e ∈ oj.after, Region.binds md e = true → e.on ≠ i) → oi.apart ops oj = true) →
   i ∈ Region.ready md ops listed → YieldsG P ops w0 oi v a →
   wpAnyG P md ops w0 n L f (listed.setIfInBounds i true) (a.put oi.dst v) → wpAnyG P md ops w0 n L (f + 1) listed a := by
 intro f
 induction f with
 | zero =>
  intro listed a inv _ hr hy H
  have hun := (mem_ready.1 hr).1
  refine ⟨fun h => (by rw [h] at hr; cases hr), fun j hj => ?_⟩
  have hjn : j < n := by
   rcases Nat.lt_or_ge j n with h | h
   ·exact h
   ·exact absurd hj (htw _ i inv hin hun j h)
  refine ⟨hjn, ?_⟩
  by_cases hji : j = i
  ·subst hji
   unfold stG; rw [hi]; exact ⟨v, hy, H⟩
  ·have := hdone _ _ H j (ready_mono hj hji)
   omega
 | succ f ih =>
  intro listed a inv hfree hr hy H
  have hun := (mem_ready.1 hr).1
  refine ⟨fun h => (by rw [h] at hr; cases hr), fun j hj => ?_⟩
  have hjn : j < n := by
   rcases Nat.lt_or_ge j n with h | h
   ·exact h
   ·exact absurd hj (htw _ i inv hin hun j h)
  refine ⟨hjn, ?_⟩
  by_cases hji : j = i
  ·subst hji
   unfold stG; rw [hi]; exact ⟨v, hy, H⟩
  ·have h1 := (H.2 j (ready_mono hj hji)).2
   obtain ⟨hjun, oj, hoj, hall⟩ := mem_ready.1 hj
   have hnot : ∀ e ∈ oj.after, Region.binds md e = true → e.on ≠ i := fun e he hb heq => by
    have h1 := hall e he hb
    rw [heq, getD_both hun] at h1
    cases h1
   have h2 := stG_put hoj (hfree j oj hoj hji hjun hnot) (fun cs b => hsel i oi cs b hi) (fun cs b => hsel j oj cs b hoj) hy h1
   have hfree' : ∀ k ok, ops[k]? = some ok → k ≠ i → (listed.setIfInBounds j true).getD k true = false →
     (∀ e ∈ ok.after, Region.binds md e = true → e.on ≠ i) → oi.apart ops ok = true := fun k ok hk hki hun hno => by
    refine hfree k ok hk hki ?_ hno
    by_cases hjk : j = k
    ·subst hjk; exact hjun
    ·rw [getD_set_ne true hjk] at hun; exact hun
   refine stG_mono (fun a' h3 => ih (listed.setIfInBounds j true) a' (inv.set hj hjn) hfree' (ready_mono hr (Ne.symm hji)) h3.1 ?_) h2
   rw [Array.setIfInBounds_comm _ _ hji]
   exact h3.2
def wpSteady (P : Program) (ops : Array Oper) (w0 : World) (Q : Act → Prop) : List Oper → Act → Prop
 | [], a => Q a
 | o :: rest, a => ∃ v, YieldsG P ops w0 o v a ∧ wpSteady P ops w0 Q rest (a.put o.dst v)
theorem wpAnyG_lex {n g : Nat} {Lq : Act → Prop} (hsel : Region.noSelect ops = true) (htw : ∀ listed i, HeadInv md ops n listed → i < n → listed.getD i true = false → ∀ t, n ≤ t → t ∉ Region.ready md ops listed) :
  ∀ (l : List Oper) (k : Nat) (listed : Array Bool) (a : Act), (∀ j, j < l.length → l[j]? = ops[k + j]?) → k + l.length = n → HeadInv md ops n listed →
  Region.lexHead md ops g l.length k listed = true → wpSteady P ops w0 Lq l a →
  wpAnyG P md ops w0 n (fun listed' a' => Region.seqB md ops g n listed' = true ∧ Lq a') l.length listed a
 | [], k, listed, a, _, hk, _, hB, h => by
  have : k = n := by simpa using hk
  subst this
  exact ⟨by simpa [Region.lexHead] using hB, h⟩
 | o :: l, k, listed, a, hl, hk, inv, hB, h => by
  have h0 : ops[k]? = some o := by simpa using (hl 0 (by simp)).symm
  simp only [List.length_cons, Region.lexHead, Bool.and_eq_true] at hB
  obtain ⟨⟨hr, hf⟩, hB'⟩ := hB
  have hkn : k < n := by simp only [List.length_cons] at hk; omega
  have hr' : k ∈ Region.ready md ops listed := by simpa using hr
  obtain ⟨v, hy, hK⟩ := h
  exact wpAnyG_first h0 (Region.noSelect_spec hsel) hkn htw (fun listed' a' hL => seqB_ready hL.1) l.length listed a inv (Region.free_spec h0 hf) hr' hy
   (wpAnyG_lex hsel htw l (k + 1) _ _ (fun j hj => by have := hl (j + 1) (by simp; omega); simpa [Nat.add_assoc, Nat.add_comm 1 j] using this) (by simp only [List.length_cons] at hk; omega) (inv.set hr' hkn) hB' hK)
theorem wp_region_steady_tail {id : Nat} {Q : Exit → Act → World → Prop} {a : Act} {w : World} {l : List Oper} (n : Nat) (hm : P.follows .mixedOrders = true) (hB : Region.lexTailB .any l.toArray n = true)
  (h : wpSteady P l.toArray w.drew (fun a' => ∀ w', Gr w.drew w' → wpList P l.toArray Q (l.drop n) a' w') (l.take n) a) : (Code.region id l.toArray true).wp P Q a w := by
 simp only [Region.lexTailB, Bool.and_eq_true, decide_eq_true_eq] at hB
 obtain ⟨⟨⟨⟨hsel, hn⟩, hs⟩, hc⟩, hlex⟩ := hB
 have hn' : n < l.length := by simpa using hn
 have htl : (l.take n).length = n := by simp; omega
 have hdl : (l.drop n).length = l.toArray.size - n := by simp
 have inv0 : HeadInv .any l.toArray n (Array.replicate l.toArray.size false) :=
  ⟨by simp, fun j oj _ hl => (by rw [getD_replicate_false] at hl; cases hl), fun t _ ht => getD_in (by simpa using ht) (getD_replicate_false _ _)⟩
 have H := wpAnyG_lex (md := .any) (g := l.toArray.size - n) hsel (fun listed i inv hi hun t ht => tail_waits hs hc hn inv _ i rfl hi hun t ht) (l.take n) 0 _ a (fun j hj => by
  have hj' : j < n := by rw [htl] at hj; exact hj
  simp [hj']) (by simpa using htl) inv0 (by rw [htl]; exact hlex) h
 refine wp_region_any hm ?_
 have := wpAny_of_headG (Q' := Q) (g := l.toArray.size - n) (fun listed a' w' hw hL => by
  have := wpAny_of_seq (md := .any) (Q' := Q) (l.drop n) n listed a' w' (fun j => by simp [List.getElem?_drop]) (by rw [hdl]; exact hL.1) (hL.2 w' hw)
  rwa [hdl] at this) _ _ _ w.drew (Gr.refl _) H
 rw [htl, show n + (l.toArray.size - n) = l.toArray.size by omega] at this
 exact this
def lexAllB (md : Region.Mode) (ops : Array Oper) : Bool := Region.noSelect ops && Region.lexHead md ops 0 ops.size 0 (Array.replicate ops.size false)
theorem wp_region_steady {id : Nat} {Q : Exit → Act → World → Prop} {a : Act} {w : World} {l : List Oper} (hm : P.follows .mixedOrders = true) (hB : lexAllB .any l.toArray = true)
  (h : wpSteady P l.toArray w.drew (fun a' => ∀ w', Gr w.drew w' → Q .normal a' w') l a) : (Code.region id l.toArray true).wp P Q a w := by
 simp only [lexAllB, Bool.and_eq_true] at hB
 have inv0 : HeadInv .any l.toArray l.toArray.size (Array.replicate l.toArray.size false) :=
  ⟨by simp, fun j oj _ hl => (by rw [getD_replicate_false] at hl; cases hl), fun t _ ht => getD_in (by simpa using ht) (getD_replicate_false _ _)⟩
 have H := wpAnyG_lex (md := .any) (g := 0) (n := l.toArray.size) hB.1 (fun listed i inv hi hun t ht hr => by
  obtain ⟨_, ot, hot, _⟩ := mem_ready.1 hr
  have := (Array.getElem?_eq_some_iff.1 hot).1
  omega) l 0 _ a (fun j _ => by simp) (by simp) inv0 (by simpa using hB.2) h
 refine wp_region_any hm ?_
 have := wpAny_of_headG (Q' := Q) (g := 0) (fun listed a' w' hw hL => ⟨by simpa [Region.seqB] using hL.1, hL.2 w' hw⟩) _ _ _ w.drew (Gr.refl _) H
 simpa using this
variable {Q : Act → Prop} {a : Act} {o : Oper} {rest : List Oper}
theorem steady_nil (h : Q a) : wpSteady P ops w0 Q [] a := h
theorem steady_step (h : ∀ K : Act → Prop, (∀ a, wpSteady P ops w0 Q rest a → K a) → ∃ v, YieldsG P ops w0 o v a ∧ K (a.put o.dst v)) : wpSteady P ops w0 Q (o :: rest) a :=
 h _ (fun _ h => h)
theorem steady_op {K : Act → Prop} (hgd : o.guard = none) {v : Value} (hs : Steady P w0 o a v) (h : K (a.put o.dst v)) : ∃ v, YieldsG P ops w0 o v a ∧ K (a.put o.dst v) :=
 ⟨v, .inl ⟨by simp [Region.wanted, hgd], hs⟩, h⟩
theorem wpList_build_at {Q : Exit → Act → World → Prop} {w : World} (hgd : o.guard = none) (t : TypeId) (parts : Array (Nat × Operand)) (ho : o.op = .build t parts) (cells : Array Value)
  (hc : P.built t (parts.map fun (i, x) => (i, a.eval x)).toList = some cells)
  (h : wpList P ops Q rest (a.put o.dst (.agg cells)) w) : wpList P ops Q (o :: rest) a w :=
 wpList_plain hgd fun K hK => wp_build t parts ho (by rw [hc]; rfl) (by rw [hc]; exact hK _ _ h)
theorem run_loadVar_cells (w : World) (g off : Nat) (ty : TypeId) (cs : Array Value) (d : TypeDesc) (hc : ∀ j v, cs.toList[j]? = some v → w.cell? ⟨g, off + j, none⟩ = some v)
  (hu : P.underlying ty = some d) (hd : (match d with | .struct _ | .array _ _ => true | _ => false) = true) (hi : (P.info? ty).map (·.size) = some cs.size) :
  (loadVar ty ⟨g, off, none⟩).run P w = .ok (.agg cs) w := by
 have hl : (loadCells ⟨g, off, none⟩ cs.toList.length).run P w = .ok cs.toList.toArray w :=
  run_loadCells_list (P := P) w ⟨g, off, none⟩ cs.toList (fun j v hv => by
   have hadd : (⟨g, off, none⟩ : Addr).add j = ⟨g, off + j, none⟩ := by unfold Addr.add; split <;> simp_all
   rw [hadd]; exact hc j v hv)
 cases hq : P.info? ty with
 | none => simp [hq] at hi
 | some i =>
  have hs : i.size = cs.size := by simpa [hq] using hi
  have hagg : (isAgg ty).run P w = .ok true w := by
   unfold isAgg
   rw [Sem.run_bind, run_underlying hu w]
   cases d <;> simp_all
  simp only [Array.length_toList, Array.toArray_toList] at hl
  simp [loadVar, Sem.run_bind, hagg, sizeOf, typeInfo, hq, hs, hl]
theorem wpList_load_cells {Q : Exit → Act → World → Prop} {w : World} (hgd : o.guard = none) (ty : TypeId) (x : Operand) (ho : o.op = .load ty x)
  (g off : Nat) (hx : a.eval x = .pointer (some ⟨g, off, none⟩)) (cs : Array Value) (d : TypeDesc) (hc : ∀ j v, cs.toList[j]? = some v → w.cell? ⟨g, off + j, none⟩ = some v)
  (hu : P.underlying ty = some d) (hd : (match d with | .struct _ | .array _ _ => true | _ => false) = true) (hi : (P.info? ty).map (·.size) = some cs.size)
  (h : wpList P ops Q rest (a.put o.dst (.agg cs)) w) : wpList P ops Q (o :: rest) a w :=
 wpList_plain hgd fun K hK => by
  unfold Oper.wp execOp
  simp only [ho, hx, Instr.loadAt, Instr.sureAddr, Sem.run_bind, Sem.run_pure, Result.andThen_ok, run_loadVar_cells w g off ty cs d hc hu hd hi]
  exact hK _ _ h
theorem steady_load_cells {K : Act → Prop} (hgd : o.guard = none) (ty : TypeId) (x : Operand) (ho : o.op = .load ty x)
  (g off : Nat) (hx : a.eval x = .pointer (some ⟨g, off, none⟩)) (cs : Array Value) (d : TypeDesc) (hc : ∀ j v, cs.toList[j]? = some v → w0.cell? ⟨g, off + j, none⟩ = some v)
  (hu : P.underlying ty = some d) (hd : (match d with | .struct _ | .array _ _ => true | _ => false) = true) (hi : (P.info? ty).map (·.size) = some cs.size)
  (h : K (a.put o.dst (.agg cs))) : ∃ v, YieldsG P ops w0 o v a ∧ K (a.put o.dst v) :=
 steady_op hgd (v := .agg cs) (fun w hw => by
  unfold execOp
  simp only [ho, hx, Instr.loadAt, Instr.sureAddr, Sem.run_bind, Sem.run_pure, Result.andThen_ok, run_loadVar_cells w g off ty cs d (fun j v hv => gr_cell hw (hc j v hv)) hu hd hi]
  exact ⟨rfl, hw⟩) h
end
end Go.Proofs.Ytifjgocfdnhdeaa
/- Net -/
namespace Go.Proofs.Ytifjgocfdnhdeaa
open Go.RowKit
section
variable {P : Program} {ops : Array Oper} {md : Region.Mode} {w0 : World}
def netUpon (P : Program) (Φ : Value → World → Prop) (w : World) : Result Next → Prop
 | .ok (.value u) w' => Φ u w' ∧ Gr w w'
 | .ok .skip w' => Φ undef w' ∧ Gr w w'
 | .ok (.enter f args) w' => Calls P f args w' (fun e w'' => ∃ u, e = .returned u ∧ Φ u w'' ∧ Gr w w'')
 | _ => False
def NetStep (P : Program) (md : Region.Mode) (ops : Array Oper) (w0 : World) (a0 : Act) (Φ : Nat → Value → World → Prop) (k : Nat) (o : Oper) : Prop :=
 ∀ (a : Act) (w : World), Gr w0 w → (∀ d, (∀ (j : Nat) (oj : Oper), ops[j]? = some oj → oj.dst ≠ some d) → a.tmps[d]? = a0.tmps[d]?) →
  (∀ e ∈ o.after, Region.binds md e = true → ∀ (oj : Oper) (d : Tmp), ops[e.on]? = some oj → oj.dst = some d → Φ e.on (a.eval (.tmp d)) w) →
  (Region.wanted o (yielded ops a.tmps) = true → netUpon P (Φ k) w ((execOp a.eval o).run P w)) ∧ (Region.wanted o (yielded ops a.tmps) = false → Φ k undef w)
structure NetInv (ops : Array Oper) (w0 : World) (a0 : Act) (Φ : Nat → Value → World → Prop) (listed : Array Bool) (a : Act) (w : World) : Prop where
 gr : Gr w0 w
 defers : a.defers = a0.defers
 size : a.tmps.size = a0.tmps.size
 keep : ∀ d, (∀ (k : Nat) (o : Oper), ops[k]? = some o → listed.getD k false = true → o.dst ≠ some d) → a.tmps[d]? = a0.tmps[d]?
 ok : ∀ (k : Nat) (o : Oper) (d : Tmp), ops[k]? = some o → listed.getD k false = true → o.dst = some d → Φ k (a.eval (.tmp d)) w
def netB (md : Region.Mode) (ops : Array Oper) (n : Nat) : Bool :=
 (List.range ops.size).all fun i => (match (ops[i]?).bind (·.dst) with
  | some d => decide (d < n) && (List.range ops.size).all fun j => decide (i = j) || decide ((ops[j]?).bind (·.dst) ≠ some d)
  | none => true) && ((ops[i]?).map fun o => o.after.all fun e => !Region.binds md e || decide (e.on < i)).getD true
theorem netB_spec {n : Nat} (h : netB md ops n = true) : (∀ (i : Nat) (o : Oper) (d : Tmp), ops[i]? = some o → o.dst = some d → d < n ∧ ∀ (j : Nat) (oj : Oper), ops[j]? = some oj → oj.dst = some d → j = i) ∧ ∀ (i : Nat) (o : Oper), ops[i]? = some o → ∀ e ∈ o.after, Region.binds md e = true → e.on < i := by
 have h1 : ∀ i, i < ops.size → _ := fun i hi => List.all_eq_true.1 h i (List.mem_range.2 hi)
 refine ⟨fun i o d hi hd => ?_, fun i o hi e he hb => ?_⟩
 ·have hlt := (Array.getElem?_eq_some_iff.1 hi).1
  have h2 := h1 i hlt
  simp only [hi, Option.bind_some, hd, Bool.and_eq_true, decide_eq_true_eq, List.all_eq_true, Bool.or_eq_true] at h2
  refine ⟨h2.1.1, fun j oj hj hdj => ?_⟩
  have h3 := h2.1.2 j (List.mem_range.2 (Array.getElem?_eq_some_iff.1 hj).1)
  rcases h3 with h3 | h3
  ·exact h3.symm
  ·exact absurd (by rw [hj]; exact hdj) h3
 ·have hlt := (Array.getElem?_eq_some_iff.1 hi).1
  have h2 := h1 i hlt
  simp only [hi, Option.map_some, Option.getD_some, Bool.and_eq_true] at h2
  have h3 := Array.all_eq_true'.1 h2.2 e he
  simpa [hb] using h3
theorem eval_put_same {a : Act} {d : Tmp} {v : Value} (h : d < a.tmps.size) : (a.put (some d) v).eval (.tmp d) = v := by
 simp [Act.put, Act.eval, h]
theorem eval_put_ne {a : Act} {d d' : Tmp} {v : Value} (h : d ≠ d') : (a.put (some d) v).eval (.tmp d') = a.eval (.tmp d') := by
 simp [Act.put, Act.eval, Array.getElem?_setIfInBounds_ne h]
def netSteps (P : Program) (ops : Array Oper) (w0 : World) (a0 : Act) (Φ : Nat → Value → World → Prop) : List Oper → Nat → Prop
 | [], _ => True
 | o :: l, k => NetStep P .any ops w0 a0 Φ k o ∧ netSteps P ops w0 a0 Φ l (k + 1)
theorem netSteps_spec {a0 : Act} {Φ : Nat → Value → World → Prop} : ∀ (l : List Oper) (k : Nat), netSteps P ops w0 a0 Φ l k → ∀ j o, l[j]? = some o → NetStep P .any ops w0 a0 Φ (k + j) o
 | [], _, _, j, o, h => by simp at h
 | x :: l, k, hs, 0, o, h => by
  obtain rfl : x = o := by simpa using h
  exact hs.1
 | x :: l, k, hs, j + 1, o, h => by
  have := netSteps_spec l (k + 1) hs.2 j o (by simpa using h)
  rwa [show k + 1 + j = k + (j + 1) by omega] at this
def putAll (a : Act) (V : Nat → Value) : List Oper → Act
 | [] => a
 | o :: l => putAll (a.put o.dst ((o.dst.map V).getD undef)) V l
theorem putAll_size (V : Nat → Value) : ∀ (l : List Oper) (a : Act), (putAll a V l).tmps.size = a.tmps.size
 | [], _ => rfl
 | o :: l, a => by
  rw [putAll, putAll_size V l]; unfold Act.put; split
  ·exact Array.size_setIfInBounds
  ·rfl
theorem putAll_defers (V : Nat → Value) : ∀ (l : List Oper) (a : Act), (putAll a V l).defers = a.defers
 | [], _ => rfl
 | o :: l, a => by rw [putAll, putAll_defers V l]; unfold Act.put; split <;> rfl
theorem putAll_get (V : Nat → Value) (d : Nat) : ∀ (l : List Oper) (a : Act), d < a.tmps.size → (putAll a V l).tmps[d]? = if l.any (fun o => o.dst == some d) then some (V d) else a.tmps[d]?
 | [], _, _ => rfl
 | o :: l, a, hd => by
  have hs : (a.put o.dst ((o.dst.map V).getD undef)).tmps.size = a.tmps.size := by unfold Act.put; split <;> simp
  rw [putAll, putAll_get V d l _ (by rw [hs]; exact hd)]
  by_cases hl : l.any (fun o => o.dst == some d) = true
  ·rw [if_pos hl, if_pos (by rw [List.any_cons, hl]; simp)]
  ·rw [if_neg hl]
   by_cases ho : o.dst = some d
   ·rw [if_pos (by simp [ho]), ho]
    simp [Act.put, hd]
   ·have hl' : l.any (fun o => o.dst == some d) = false := by simpa using hl
    rw [if_neg (by simp only [List.any_cons, hl', Bool.or_false, beq_iff_eq]; exact ho)]
    cases hod : o.dst with
    | none => rfl
    | some d' =>
     have hne : d' ≠ d := fun e => ho (by rw [hod, e])
     simp [Act.put, Array.getElem?_setIfInBounds_ne hne]
def notDst (ops : Array Oper) (d : Tmp) : Bool := (List.range ops.size).all fun j => decide ((ops[j]?).bind (·.dst) ≠ some d)
def depOn (ops : Array Oper) (o : Oper) (j : Nat) (d : Tmp) : Bool := (o.after.any fun e => Region.binds .any e && e.on == j) && decide ((ops[j]?).bind (·.dst) = some d)
theorem NetStep.of {a0 : Act} {Φ : Nat → Value → World → Prop} {k : Nat} {o : Oper} (hgd : o.guard = none)
  (h : ∀ (ρ : Operand → Value) (w : World), Gr w0 w → (∀ v, ρ (.const v) = v) → (∀ f, ρ (.func f) = .func (.func f) #[] #[]) → (∀ d, notDst ops d = true → ρ (.tmp d) = a0.eval (.tmp d)) →
   (∀ j d, depOn ops o j d = true → Φ j (ρ (.tmp d)) w) → netUpon P (Φ k) w ((execOp ρ o).run P w)) : NetStep P .any ops w0 a0 Φ k o := by
 intro a w hw hin hdep
 refine ⟨fun _ => h a.eval w hw (fun _ => rfl) (fun _ => rfl) (fun d hd => ?_) (fun j d hj => ?_), fun hn => ?_⟩
 ·have h1 := hin d fun j oj hj he => by
   have hlt := (Array.getElem?_eq_some_iff.1 hj).1
   have := List.all_eq_true.1 hd j (List.mem_range.2 hlt)
   rw [hj] at this
   simp [he] at this
  simp [Act.eval, h1]
 ·unfold depOn at hj
  simp only [Bool.and_eq_true, decide_eq_true_eq] at hj
  obtain ⟨e, he, hb⟩ := Array.any_eq_true'.1 hj.1
  simp only [Bool.and_eq_true, beq_iff_eq] at hb
  obtain ⟨hb1, rfl⟩ := hb
  cases hoj : ops[e.on]? with
  | none => rw [hoj] at hj; simp at hj
  | some oj =>
   rw [hoj] at hj
   exact hdep e he hb1 oj d hoj (by simpa using hj.2)
 ·simp [Region.wanted, hgd] at hn
theorem yielded_of_eval {a : Act} {g : Nat} {d : Tmp} {b : Bool} (hd : (ops[g]?).bind (·.dst) = some d) (h : a.eval (.tmp d) = .bool b) : yielded ops a.tmps g = some b := by
 unfold yielded
 rw [hd]
 have : a.tmps[d]? = some (.bool b) := by
  have h : a.tmps.getD d undef = .bool b := h
  cases hq : a.tmps[d]? with
  | none =>
   rw [Array.getD_eq_getD_getElem?, hq] at h
   simp [undef] at h
  | some v =>
   rw [Array.getD_eq_getD_getElem?, hq] at h
   simp at h
   rw [h]
 simp [this]
end
end Go.Proofs.Ytifjgocfdnhdeaa
/- NetTail -/
namespace Go.Proofs.Ytifjgocfdnhdeaa
open Go.RowKit
section
variable {P : Program} {ops : Array Oper} {md : Region.Mode} {w0 : World}
def headDone (m n : Nat) : Array Bool := Array.ofFn (n := m) fun i => decide (i.val < n)
def netTailB (md : Region.Mode) (ops : Array Oper) (n s : Nat) : Bool :=
 netB md ops s && decide (n < ops.size) && Region.sinkB md ops n && Region.chainB md ops n && Region.seqB md ops (ops.size - n) n (headDone ops.size n) && (List.range n).all fun k => match (ops[k]?).bind (·.guard) with | some (g, _) => decide (g < n) | none => true
def unlh (n : Nat) (listed : Array Bool) : Nat := (List.range n).countP fun k => !listed.getD k true
theorem least_of {p : Nat → Prop} [DecidablePred p] : ∀ n, (∃ k, k < n ∧ p k) → ∃ k, k < n ∧ p k ∧ ∀ j, j < k → ¬ p j := by
 intro n ⟨k, hk, hp⟩
 induction k using Nat.strongRecOn with
 | _ k ih =>
  by_cases h : ∃ j, j < k ∧ p j
  ·obtain ⟨j, hj, hpj⟩ := h
   exact ih j hj (by omega) hpj
  ·exact ⟨k, hk, hp, fun j hj hpj => h ⟨j, hj, hpj⟩⟩
theorem wanted_head {opsh : Array Oper} {n : Nat} {o : Oper} (hh : ∀ j, j < n → opsh[j]? = ops[j]?) (hg : ∀ g b, o.guard = some (g, b) → g < n) (t : Array Value) : Region.wanted o (yielded opsh t) = Region.wanted o (yielded ops t) := by
 unfold Region.wanted
 cases ho : o.guard with
 | none => rfl
 | some gb =>
  obtain ⟨g, b⟩ := gb
  have : yielded opsh t g = yielded ops t g := by unfold yielded; rw [hh g (hg g b ho)]
  simp only [this]
theorem net_tail {opsh : Array Oper} {n : Nat} (hh : ∀ j, j < n → opsh[j]? = ops[j]?) (hh' : ∀ j oj, opsh[j]? = some oj → j < n) {a0 : Act} {Φ : Nat → Value → World → Prop} {Q : Exit → Act → World → Prop} (hB : netTailB md ops n a0.tmps.size = true) (hmono : ∀ k v w w', Gr w w' → Φ k v w → Φ k v w')
  (hstep : ∀ (k : Nat) (o : Oper), k < n → ops[k]? = some o → NetStep P md opsh w0 a0 Φ k o)
  (hQ : ∀ (a : Act) (w : World), Gr w0 w → a.defers = a0.defers → a.tmps.size = a0.tmps.size → (∀ d, (∀ (k : Nat) (o : Oper), k < n → ops[k]? = some o → o.dst ≠ some d) → a.tmps[d]? = a0.tmps[d]?) → (∀ (k : Nat) (o : Oper) (d : Tmp), k < n → ops[k]? = some o → o.dst = some d → Φ k (a.eval (.tmp d)) w) → wpList P ops Q (ops.toList.drop n) a w) :
  ∀ (f : Nat) (listed : Array Bool) (a : Act) (w : World), HeadInv md ops n listed → unlh n listed = f → NetInv ops w0 a0 Φ listed a w → wpAny P md ops Q (f + (ops.size - n)) listed a w := by
 simp only [netTailB, Bool.and_eq_true, decide_eq_true_eq] at hB
 obtain ⟨⟨⟨⟨⟨hNB, hn⟩, hs⟩, hc⟩, hseq⟩, hgd⟩ := hB
 have hguard : ∀ k o, k < n → ops[k]? = some o → ∀ g b, o.guard = some (g, b) → g < n := fun k o hk ho g b hg => by
  have := List.all_eq_true.1 hgd k (List.mem_range.2 hk)
  rw [ho] at this
  simpa [hg] using this
 obtain ⟨hd, hafter⟩ := netB_spec hNB
 have lst : ∀ (listed : Array Bool), HeadInv md ops n listed → ∀ k, listed.getD k false = true → k < n := fun listed hi k hk => by
  rcases Nat.lt_or_ge k n with h | h
  ·exact h
  ·exfalso
   have hks : k < ops.size := by
    rw [← hi.size]
    rcases Nat.lt_or_ge k listed.size with h' | h'
    ·exact h'
    ·simp [Array.getElem?_eq_none h'] at hk
   have := getD_both (hi.tail k h hks)
   rw [this] at hk; cases hk
 intro f
 induction f with
 | zero =>
  intro listed a w hi hu inv
  have hall : ∀ k, k < n → listed.getD k true = true := fun k hk => by
   have h0 : (List.range n).countP (fun k => !listed.getD k true) = 0 := hu
   have := List.countP_eq_zero.1 h0 k (List.mem_range.2 hk)
   simpa using this
  have hall' : ∀ k, k < n → listed.getD k false = true := fun k hk => by
   have h1 := hall k hk
   have hlt : k < listed.size := by rw [hi.size]; omega
   simpa [hlt] using h1
  have he : listed = headDone ops.size n := by
   apply Array.ext
   ·simp [headDone, hi.size]
   ·intro k h1 h2
    by_cases hk : k < n
    ·have := hall k hk
     simp only [Array.getD_eq_getD_getElem?, Array.getElem?_eq_getElem h1, Option.getD_some] at this
     rw [this]; simp [headDone, hk]
    ·have := hi.tail k (by omega) (by rw [← hi.size]; exact h1)
     simp only [Array.getD_eq_getD_getElem?, Array.getElem?_eq_getElem h1, Option.getD_some] at this
     rw [this]; simp [headDone, hk]
  have hlen : (ops.toList.drop n).length = ops.size - n := by simp
  have := wpAny_of_seq (md := md) (Q' := Q) (P := P) (ops.toList.drop n) n listed a w (fun j => by simp [List.getElem?_drop]) (by rw [hlen, he]; exact hseq)
   (hQ a w inv.gr inv.defers inv.size (fun d hdd => inv.keep d fun k o hk hl => hdd k o (lst listed hi k hl) hk) (fun k o d hkn hk hkd => inv.ok k o d hk (hall' k hkn) hkd))
  rw [hlen] at this
  rw [Nat.zero_add]
  exact this
 | succ f ih =>
  intro listed a w hi hu inv
  have hpos : ∃ k, k < n ∧ listed.getD k true = false := by
   apply Classical.byContradiction
   intro hno
   have h0 : (List.range n).countP (fun k => !listed.getD k true) = 0 := List.countP_eq_zero.2 fun k hk => by
    have hk := List.mem_range.1 hk
    cases hg : listed.getD k true with
    | true => decide
    | false => exact absurd ⟨k, hk, hg⟩ hno
   unfold unlh at hu; omega
  rw [show f + 1 + (ops.size - n) = (f + (ops.size - n)) + 1 by omega]
  refine ⟨fun hr => ?_, fun i hir => ?_⟩
  ·exfalso
   obtain ⟨k, hk, hku, hmin⟩ := least_of n hpos
   have : k ∈ Region.ready md ops listed := mem_ready.2 ⟨hku, ops[k]'(by omega), Array.getElem?_eq_getElem (by omega), fun e he hb => by
    have hlt := hafter k _ (Array.getElem?_eq_getElem (by omega)) e he hb
    have h1 := hmin e.on hlt
    have hlt' : e.on < listed.size := by rw [hi.size]; omega
    simp only [Array.getD_eq_getD_getElem?, Array.getElem?_eq_getElem hlt', Option.getD_some] at h1 ⊢
    simpa using h1⟩
   rw [hr] at this; cases this
  ·obtain ⟨k0, hk0, hku0⟩ := hpos
   have hin : i < n := by
    rcases Nat.lt_or_ge i n with h | h
    ·exact h
    ·exact absurd hir (tail_waits hs hc hn hi _ k0 rfl hk0 hku0 i h)
   obtain ⟨hun, o, ho, hall⟩ := mem_ready.1 hir
   have hio := (Array.getElem?_eq_some_iff.1 ho).1
   have hst := hstep i o hin ho a w inv.gr (fun d hdd => inv.keep d fun k ok hk hl => hdd k ok (by rw [hh k (lst listed hi k hl)]; exact hk)) (fun e he hb oj d hj hjd => inv.ok e.on oj d (by rw [← hh e.on (hh' _ _ hj)]; exact hj) (hall e he hb) hjd)
   rw [wanted_head hh (hguard i o hin ho)] at hst
   have hunl : unlh n (listed.setIfInBounds i true) = f := by
    have hp : ∀ l : List Nat, l.Nodup → i ∈ l → l.countP (fun k => !(listed.setIfInBounds i true).getD k true) + 1 = l.countP fun k => !listed.getD k true := by
     intro l
     induction l with
     | nil => intro _ h; cases h
     | cons x l ihl =>
      intro hnd hm
      obtain ⟨hx, hnd⟩ := List.nodup_cons.1 hnd
      have hset : (listed.setIfInBounds i true).getD i true = true := by
       have : i < listed.size := by rw [hi.size]; exact hio
       simp [this]
      by_cases hxi : x = i
      ·subst hxi
       have hsame : ∀ l' : List Nat, x ∉ l' → l'.countP (fun k => !(listed.setIfInBounds x true).getD k true) = l'.countP fun k => !listed.getD k true := by
        intro l' hx'
        refine List.countP_congr fun k hk => ?_
        have hkx : x ≠ k := fun e => hx' (e ▸ hk)
        rw [getD_set_ne true hkx]
       rw [List.countP_cons_of_neg (by rw [hset]; decide), List.countP_cons_of_pos (by rw [hun]; rfl), hsame l hx]
      ·have hml : i ∈ l := by
        rcases List.mem_cons.1 hm with h | h
        ·exact absurd h.symm hxi
        ·exact h
       have := ihl hnd hml
       rw [List.countP_cons, List.countP_cons, getD_set_ne true (Ne.symm hxi)]
       omega
    have := hp (List.range n) List.nodup_range (List.mem_range.2 hin)
    unfold unlh at hu ⊢; omega
   have next : ∀ (v : Value) (w' : World), Gr w w' → Φ i v w' → NetInv ops w0 a0 Φ (listed.setIfInBounds i true) (a.put o.dst v) w' := fun v w' hg hv => by
    refine ⟨gr_trans inv.gr hg, ?_, ?_, fun d hdd => ?_, fun k ok d hk hl hkd => ?_⟩
    ·rw [← inv.defers]; unfold Act.put; split <;> rfl
    ·rw [← inv.size]; unfold Act.put; split
     ·exact Array.size_setIfInBounds
     ·rfl
    ·have h1 := inv.keep d fun k ok hk hlk => hdd k ok hk (getD_set_true hlk)
     rw [← h1]
     cases hod : o.dst with
     | none => rfl
     | some d' =>
      have hli : i < listed.size := by rw [hi.size]; exact hio
      have hne : d' ≠ d := fun e => hdd i o ho (by simp [hli]) (by rw [hod, e])
      simp [Act.put, Array.getElem?_setIfInBounds_ne hne]
    ·by_cases hki : k = i
     ·subst hki
      have : ok = o := Option.some.inj (hk.symm.trans ho)
      subst this
      rw [hkd, eval_put_same (by rw [inv.size]; exact (hd k ok d ho hkd).1)]
      exact hv
     ·rw [getD_set_ne false (Ne.symm hki)] at hl
      have h1 := hmono k _ w w' hg (inv.ok k ok d hk hl hkd)
      cases hod : o.dst with
      | none => exact h1
      | some d' =>
       have hne : d' ≠ d := fun e => hki ((hd i o d ho (by rw [hod, e])).2 k ok hk hkd)
       rw [eval_put_ne hne]; exact h1
   have hi' := hi.set hir hin
   unfold wpOp
   simp only [ho]
   by_cases hw : Region.wanted o (yielded ops a.tmps) = true
   ·rw [if_pos hw]
    left
    have hr := hst.1 hw
    unfold Oper.wp
    generalize (execOp a.eval o).run P w = r at *
    cases r with
    | ok nx w' =>
     cases nx <;> simp only [netUpon] at hr <;> simp only [Oper.upon]
     case value u => exact ih _ _ _ hi' hunl (next u w' hr.2 hr.1)
     case skip => exact ih _ _ _ hi' hunl (next undef w' hr.2 hr.1)
     case enter g args => exact hr.mono fun e w'' ⟨u, he, hv, hg⟩ => by subst he; exact ih _ _ _ hi' hunl (next u w'' hg hv)
    | halt x w' => simp only [netUpon] at hr
   ·rw [if_neg hw]
    exact ih _ _ _ hi' hunl (next undef w (Gr.refl _) (hst.2 (by simpa using hw)))
theorem wp_region_net_tail {id : Nat} {Q : Exit → Act → World → Prop} {a : Act} {w : World} {l : List Oper} (n : Nat) (Φ : Nat → Value → World → Prop) (hm : P.follows .mixedOrders = true) (hB : netTailB .any l.toArray n a.tmps.size = true)
  (hmono : ∀ k v w w', Gr w w' → Φ k v w → Φ k v w') (hsteps : netSteps P (l.take n).toArray w.drew a Φ (l.take n) 0)
  (hQ : ∀ (V : Nat → Value) (w' : World), Gr w.drew w' → (∀ (k : Nat) (o : Oper) (d : Tmp), k < n → l[k]? = some o → o.dst = some d → Φ k (V d) w') → wpList P l.toArray Q (l.drop n) (putAll a V (l.take n)) w') : (Code.region id l.toArray true).wp P Q a w := by
 refine wp_region_any hm ?_
 have hn : n < l.length := by
  have h := hB
  simp only [netTailB, Bool.and_eq_true, decide_eq_true_eq] at h
  simpa using h.1.1.1.1.2
 have hu : unlh n (Array.replicate l.toArray.size false) = n := by
  unfold unlh
  have : (List.range n).countP (fun k => !(Array.replicate l.toArray.size false).getD k true) = (List.range n).length := List.countP_eq_length.2 fun k hk => by
   have hk := List.mem_range.1 hk
   have hkl : k < l.length := by omega
   simp [hkl]
  rw [this]; simp
 have H := net_tail (opsh := (l.take n).toArray) (fun j hj => by simp [List.getElem?_take_of_lt hj]) (fun j oj hj => by have := (Array.getElem?_eq_some_iff.1 hj).1; simp at this; omega) (w0 := w.drew) (a0 := a) (Φ := Φ) (Q := Q) (P := P) (n := n) hB hmono (fun k o hkn hk => by
  have := netSteps_spec (l.take n) 0 hsteps k o (by rw [List.getElem?_take_of_lt hkn]; simpa using hk)
  rwa [Nat.zero_add] at this) (fun a' w' hg hdf hsz hkeep hok => ?_) n (Array.replicate l.toArray.size false) a w.drew
  ⟨by simp, fun j oj _ hl => (by rw [getD_replicate_false] at hl; cases hl), fun t _ ht => getD_in (by simpa using ht) (getD_replicate_false _ _)⟩ hu
  ⟨Gr.refl _, rfl, rfl, fun _ _ => rfl, fun k o d _ hl _ => by rw [getD_replicate_false] at hl; cases hl⟩
 ·rw [show n + (l.toArray.size - n) = l.toArray.size by simp; omega] at H
  exact H
 have e : a' = putAll a (fun d => a'.eval (.tmp d)) (l.take n) := by
  have h1 : a'.tmps = (putAll a (fun d => a'.eval (.tmp d)) (l.take n)).tmps := by
   apply Array.ext_getElem?
   intro d
   by_cases hd : d < a.tmps.size
   ·rw [putAll_get _ d (l.take n) a hd]
    by_cases hany : (l.take n).any (fun o => o.dst == some d) = true
    ·rw [if_pos hany]
     have hd' : d < a'.tmps.size := by omega
     simp [Act.eval, hd']
    ·rw [if_neg hany]
     refine hkeep d fun k o hkn hk he => hany ?_
     have hk' : (l.take n)[k]? = some o := by rw [List.getElem?_take_of_lt hkn]; simpa using hk
     exact List.any_eq_true.2 ⟨o, List.mem_of_getElem? hk', by simp [he]⟩
   ·rw [Array.getElem?_eq_none (by omega), Array.getElem?_eq_none (by rw [putAll_size]; omega)]
  have h2 : a'.defers = (putAll a (fun d => a'.eval (.tmp d)) (l.take n)).defers := by rw [putAll_defers]; exact hdf
  revert h1 h2
  generalize putAll a (fun d => a'.eval (.tmp d)) (l.take n) = b
  intro h1 h2
  cases a'; cases b
  simp at h1 h2
  simp [h1, h2]
 have hfin := hQ (fun d => a'.eval (.tmp d)) w' hg (fun k o d hkn hk hkd => hok k o d hkn (by simpa using hk) hkd)
 rw [← e] at hfin
 simpa using hfin
end
end Go.Proofs.Ytifjgocfdnhdeaa
