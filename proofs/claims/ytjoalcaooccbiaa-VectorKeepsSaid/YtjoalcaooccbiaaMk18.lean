/-
  Texts of this seat, joined: InsOf, InsOd, InsOdV. Each says what it proves.
-/
import Derived.Test.YtjoalcaooccbiaaMk4
import Derived.Test.YtjoalcaooccbiaaMk5
import Derived.Test.YtjoalcaooccbiaaMk13
/- InsOf -/
namespace Go.Proofs.Ytjoalcaooccbiaa
open Go.RowKit
namespace Ins
def Mx (w : World) : Prop := ∃ m, w.cell? ⟨0, 0, none⟩ = some (.int .i64 m)
theorem mx_gr {w w' : World} (h : Mx w) (hg : Gr w w') : Mx w' := by
 obtain ⟨m, hm⟩ := h
 exact ⟨m, gr_cell hg hm⟩
def inf (f l : Int) (p : Bool) (a b : Value) : Array Value := #[.int .i64 f, .int .i64 l, .bool p, a, b]
theorem infoN : (Try.prog.info? 28).map (·.size) = some 5 := by kernel_rfl
theorem cells5 {w : World} {g : Nat} {a b c d e : Value} {t : TypeId} {z : Nat × Nat} (h : w.heap[g]? = some (.cells #[a, b, c, d, e] t z)) :
  w.cell? ⟨g, 0, none⟩ = some a ∧ w.cell? ⟨g, 1, none⟩ = some b ∧ w.cell? ⟨g, 2, none⟩ = some c ∧ w.cell? ⟨g, 3, none⟩ = some d ∧ w.cell? ⟨g, 4, none⟩ = some e :=
 ⟨(cell_of_row _ _ 0 _ _ _ h).trans rfl, (cell_of_row _ _ 1 _ _ _ h).trans rfl, (cell_of_row _ _ 2 _ _ _ h).trans rfl, (cell_of_row _ _ 3 _ _ _ h).trans rfl, (cell_of_row _ _ 4 _ _ _ h).trans rfl⟩
theorem owns_base {w : World} {base base' : Nat} {e : TypeId} {size : Nat} {v : Value} {n : Nat} {xs : List Value} (h : w.ownsRow base e size v n xs) (hb : base' ≤ base) : w.ownsRow base' e size v n xs := by
 refine ⟨h.1, ?_⟩
 rcases h.2 with h | ⟨g, cap, cur, h1, h2, h3⟩
 ·exact .inl h
 ·exact .inr ⟨g, cap, cur, h1, Nat.le_trans hb h2, h3⟩
def cutA (s : ByteArray) : ByteArray := ⟨(Lib.cut s.data.toList [58]).1.toArray⟩
def cutB (s : ByteArray) : ByteArray := ⟨(Lib.cut s.data.toList [58]).2.1.toArray⟩
def cutP (s : ByteArray) : Bool := (Lib.cut s.data.toList [58]).2.2
theorem cut_any (s : ByteArray) (w : World) (hs : s.size < 4294967281) (hm : Mx w) :
  Calls Try.prog 29 #[.string s, .string ⟨#[58]⟩] w fun e w' => e = .returned (.tuple #[.string (cutA s), .string (cutB s), .bool (cutP s)]) ∧ Gr w w' := by
 obtain ⟨m, hm⟩ := hm
 exact (Try.strings_Cut s ⟨#[58]⟩ m w hs hm).mono fun e w' ⟨h, n, hn⟩ => ⟨h, hn ▸ (Gr.refl w).drewN n⟩
theorem owns_slice {w : World} {base : Nat} {e : TypeId} {size : Nat} {v : Value} {n : Nat} {xs : List Value} (h : w.ownsRow base e size v n xs) : ∃ x c, v = .slice x n c := by
 rcases h.2 with ⟨h1, h2⟩ | ⟨g, cap, cur, rfl, _⟩
 ·subst h2; exact ⟨_, _, h1⟩
 ·exact ⟨_, _, rfl⟩
theorem inf_one (f l : Int) (p : Bool) (x y : Option Addr) (n m c d : Nat) : (inf f l p (.slice x n c) (.slice y m d)).all (·.oneCell') = true := by kernel_rfl
theorem owns_setRow {w : World} {base : Nat} {e : TypeId} {size : Nat} {v : Value} {n : Nat} {xs : List Value} (h : w.ownsRow base e size v n xs) {g : Nat} (hg : g < base) (c : Array Value) : (w.setRow g c).ownsRow base e size v n xs :=
 Sep.owns (ex := fun k => k = g) (w := w) ⟨rfl, rfl, rfl, by simp [World.setRow], fun i _ hn => setRow_block_other hn⟩ h (fun k hk e => by have := (h.lt k hk).1; omega)
theorem results_cell_slot {P : Program} {fn : Func} {p q : Tmp} {ty : TypeId} (h : fn.results = #[.cell p ty, .tmp q]) (tmps : Array Value) (w : World) (g : Nat) (t : TypeId) (cs : Array Value) (fr : Nat × Nat) (d : TypeDesc)
  (hp : tmps.getD p undef = .pointer (some ⟨g, 0, none⟩)) (hg : w.heap[g]? = some (.cells cs t fr))
  (hu : P.underlying ty = some d) (hd : (match d with | .struct _ | .array _ _ => true | _ => false) = true) (hi : (P.info? ty).map (·.size) = some cs.size) (b : Value) (hb : tmps.getD q undef = b) :
  (results fn tmps).run P w = .ok (.tuple #[.agg cs, b]) w := by
 have hp' : tmps[p]?.getD undef = .pointer (some ⟨g, 0, none⟩) := by simpa using hp
 have hb' : tmps[q]?.getD undef = b := by simpa using hb
 simp [results, h, hp', hb', asAddr, run_loadVar_row w g t ty cs fr d hg hu hd hi]
def OFS (f l : Int) (p : Bool) (A B : ByteArray) (w : World) (e : Ending) (w' : World) : Prop :=
 ∃ vi vo, e = .returned (.tuple #[.agg (inf f l p vi vo), .bool true]) ∧ Gr w w' ∧ w'.ownsRow w.heap.size 3 1 vi A.size (codes A A.size) ∧ w'.ownsRow w.heap.size 3 1 vo B.size (codes B B.size)
def ΦO (b base : Nat) (f l : Int) (p : Bool) (A B : ByteArray) (k : Nat) (v : Value) (wn : World) : Prop :=
 match k with
 | 0 => v = .pointer (some ⟨b, 0, none⟩)
 | 1 => v = .int .i64 f
 | 2 => v = .pointer (some ⟨b, 1, none⟩)
 | 3 => v = .int .i64 l
 | 4 => v = .bool p
 | 5 => v = .string A
 | 6 => wn.ownsRow base 3 1 v A.size (codes A A.size)
 | 7 => v = .string B
 | 8 => wn.ownsRow base 3 1 v B.size (codes B B.size)
 | 9 => ∃ vi vo, v = .agg (inf f l p vi vo) ∧ wn.ownsRow base 3 1 vi A.size (codes A A.size) ∧ wn.ownsRow base 3 1 vo B.size (codes B B.size)
 | _ => True
theorem ΦO_mono (b base : Nat) (f l : Int) (p : Bool) (A B : ByteArray) : ∀ k v wn wn', Gr wn wn' → ΦO b base f l p A B k v wn → ΦO b base f l p A B k v wn' := by
 intro k v wn wn' hg h
 match k with
 | 0 => exact h
 | 1 => exact h
 | 2 => exact h
 | 3 => exact h
 | 4 => exact h
 | 5 => exact h
 | 6 => exact owns_gr h hg
 | 7 => exact h
 | 8 => exact owns_gr h hg
 | 9 => obtain ⟨vi, vo, h1, h2, h3⟩ := h; exact ⟨vi, vo, h1, owns_gr h2 hg, owns_gr h3 hg⟩
 | k + 10 => trivial
set_option maxHeartbeats 2000000 in
set_option maxRecDepth 100000 in
theorem of_vec (n m f l : Int) (s : ByteArray) (hn : 64768 ≤ n) (hn2 : n - 64768 ≤ 9223372036854775807) (hnm : n - 64768 = m) (hf : (f == 0) = false) (hs : s.size < 1000) (hA : (cutA s).size ≤ 1000) (hB : (cutB s).size ≤ 1000) (h : ∀ w, Calls Try.prog 27 #[.int .i64 m] w (RES f l s w)) (w : World) (hm : Mx w) :
  Calls Try.prog 8 #[.int .i64 n] w (OFS f l (cutP s) (cutA s) (cutB s) w) := by
 subst hnm
 have H := Lib.hid h
 have HM := Lib.hid hm
 have C := fun w (hm : Mx w) => cut_any s w (by omega) hm
 have HC := Lib.hid C
 have T1 := fun w => types_any (cutA s) w (by omega)
 have T2 := fun w => types_any (cutB s) w (by omega)
 have HT1 := Lib.hid T1
 have HT2 := Lib.hid T2
 clear h hm C T1 T2
 generalize cutA s = A at *
 generalize cutB s = B at *
 generalize cutP s = p at *
 go_enter Try.func8, Try.ntmps8
 go_wp2_with fail
 refine (H.out _).mono ?_
 rintro e w1 ⟨rfl, hg⟩
 have hb := gr_block hg (heap_alloc2_new w (.cells (inf 0 0 false (.slice none 0 0) (.slice none 0 0)) 28) (.cells (shp 0 0 zs) 65))
 have hi := gr_block hg (heap_alloc2_old w (.cells (inf 0 0 false (.slice none 0 0) (.slice none 0 0)) 28) (.cells (shp 0 0 zs) 65))
 have HB := Lib.hid hb
 have HI := Lib.hid hi
 have HG := Lib.hid (gr_trans (((Gr.refl w).alloc _ _).alloc _ _) hg)
 have HZ1 := Lib.hid (show w.heap.size + 2 ≤ w1.heap.size by have := hg.size; simp at this; omega)
 clear hb hg hi
 go_wp2_with (refine wpList_store_row rfl 65 _ _ rfl (w.heap.size + 1) (shp _ _ _) rfl rfl 65 (shp 0 0 zs) HB.out infoS rfl (shp_one _ _ _) ?_; focus (have hs2 := setRow_block (c := shp f l s) HB.out; have hi2 := (setRow_block_other (w := w1) (c := shp f l s) (show w.heap.size ≠ w.heap.size + 1 by omega)).trans HI.out; have hg2 := gr_setRow HG.out (g := w.heap.size + 1) (by omega) (shp f l s); have hz2 : (w1.setRow (w.heap.size + 1) (shp f l s)).heap.size = w1.heap.size := (by simp [World.setRow]); generalize w1.setRow (w.heap.size + 1) (shp f l s) = w2 at *; have c0 := (cell_of_row _ _ 0 _ _ _ hs2).trans (show (shp f l s)[0]? = some (.int .i64 f) from rfl); have c1 := (cell_of_row _ _ 1 _ _ _ hs2).trans (show (shp f l s)[1]? = some (.int .i64 l) from rfl); have c2 := (cell_of_row _ _ 2 _ _ _ hs2).trans (show (shp f l s)[2]? = some (.string s) from rfl); have HI2 := Lib.hid hi2; have HG2 := Lib.hid hg2; have HZ2 := Lib.hid (show w.heap.size + 2 ≤ w2.heap.size by rw [hz2]; exact HZ1.out); clear hs2 hi2 hg2 hz2))
 refine (HC.out _ (mx_gr HM.out HG2.out)).mono ?_
 rintro e w3 ⟨rfl, hg3⟩
 have d0 := gr_cell hg3 c0
 have d1 := gr_cell hg3 c1
 have HI3 := Lib.hid (gr_block hg3 HI2.out)
 have HG3 := Lib.hid (gr_trans HG2.out hg3)
 have HZ := Lib.hid (Nat.le_trans HZ2.out hg3.size)
 clear c0 c1 c2 hg3 HI2 HG2
 go_wp2_with fail
 refine wp_region_net_tail 10 (ΦO (w.heap.size + 1) (w.heap.size + 2) f l p A B) (by kernel_rfl) (by kernel_rfl) (ΦO_mono _ _ f l p A B) ?_ ?_
 ·simp only [List.take_succ_cons, List.take_zero]
  refine ⟨?_, ?_, ?_, ?_, ?_, ?_, ?_, ?_, ?_, ?_, trivial⟩
  ·refine NetStep.of rfl fun ρ wx hw hρc hρf hin hdep => ?_
   have e4 : ρ (.tmp 4) = (.pointer (some ⟨w.heap.size + 1, 0, none⟩)) := hin 4 (by kernel_rfl)
   go_simp
   exact ⟨rfl, Gr.refl _⟩
  ·refine NetStep.of rfl fun ρ wx hw hρc hρf hin hdep => ?_
   have e26 : ρ (.tmp 26) = (.pointer (some ⟨w.heap.size + 1, 0, none⟩)) := hdep 0 26 (by kernel_rfl)
   have hcx := gr_cell (gr_trans (Gr.drew (Gr.refl w3)) hw) d0
   go_simp
   exact ⟨rfl, Gr.refl _⟩
  ·refine NetStep.of rfl fun ρ wx hw hρc hρf hin hdep => ?_
   have e4 : ρ (.tmp 4) = (.pointer (some ⟨w.heap.size + 1, 0, none⟩)) := hin 4 (by kernel_rfl)
   go_simp
   exact ⟨rfl, Gr.refl _⟩
  ·refine NetStep.of rfl fun ρ wx hw hρc hρf hin hdep => ?_
   have e28 : ρ (.tmp 28) = (.pointer (some ⟨w.heap.size + 1, 1, none⟩)) := hdep 2 28 (by kernel_rfl)
   have hcx := gr_cell (gr_trans (Gr.drew (Gr.refl w3)) hw) d1
   go_simp
   exact ⟨rfl, Gr.refl _⟩
  ·refine NetStep.of rfl fun ρ wx hw hρc hρf hin hdep => ?_
   have e7 : ρ (.tmp 7) = (.bool p) := hin 7 (by kernel_rfl)
   go_simp
   exact ⟨rfl, Gr.refl _⟩
  ·refine NetStep.of rfl fun ρ wx hw hρc hρf hin hdep => ?_
   have e5 : ρ (.tmp 5) = (.string A) := hin 5 (by kernel_rfl)
   go_simp
   exact ⟨rfl, Gr.refl _⟩
  ·refine NetStep.of rfl fun ρ wx hw hρc hρf hin hdep => ?_
   have e31 : ρ (.tmp 31) = (.string A) := hdep 5 31 (by kernel_rfl)
   go_simp
   exact (HT1.out wx).mono fun e w4 ⟨sv, h1, h2, h3⟩ => ⟨sv, h1, owns_base h3 (Nat.le_trans HZ.out (gr_trans (Gr.drew (Gr.refl w3)) hw).size), h2⟩
  ·refine NetStep.of rfl fun ρ wx hw hρc hρf hin hdep => ?_
   have e6 : ρ (.tmp 6) = (.string B) := hin 6 (by kernel_rfl)
   go_simp
   exact ⟨rfl, Gr.refl _⟩
  ·refine NetStep.of rfl fun ρ wx hw hρc hρf hin hdep => ?_
   have e33 : ρ (.tmp 33) = (.string B) := hdep 7 33 (by kernel_rfl)
   go_simp
   exact (HT2.out wx).mono fun e w4 ⟨sv, h1, h2, h3⟩ => ⟨sv, h1, owns_base h3 (Nat.le_trans HZ.out (gr_trans (Gr.drew (Gr.refl w3)) hw).size), h2⟩
  ·refine NetStep.of rfl fun ρ wx hw hρc hρf hin hdep => ?_
   have e27 : ρ (.tmp 27) = (.int .i64 f) := hdep 1 27 (by kernel_rfl)
   have e29 : ρ (.tmp 29) = (.int .i64 l) := hdep 3 29 (by kernel_rfl)
   have e30 : ρ (.tmp 30) = (.bool p) := hdep 4 30 (by kernel_rfl)
   have e32 := Lib.hid (show wx.ownsRow (w.heap.size + 2) 3 1 (ρ (.tmp 32)) A.size (codes A A.size) from hdep 6 32 (by kernel_rfl))
   have e34 := Lib.hid (show wx.ownsRow (w.heap.size + 2) 3 1 (ρ (.tmp 34)) B.size (codes B B.size) from hdep 8 34 (by kernel_rfl))
   obtain ⟨x32, c32, h32⟩ := owns_slice e32.out
   obtain ⟨x34, c34, h34⟩ := owns_slice e34.out
   have f32 := e32.out
   have f34 := e34.out
   rw [h32] at f32
   rw [h34] at f34
   have F32 := Lib.hid f32
   have F34 := Lib.hid f34
   clear f32 f34 e32 e34
   go_simp
   exact ⟨⟨_, _, rfl, F32.out, F34.out⟩, Gr.refl _⟩
 ·intro V wN hgN hV
  obtain ⟨vi, vo, hs35, hO1, hO2⟩ := hV 9 _ 35 (by decide) rfl rfl
  have HO1 := Lib.hid hO1
  have HO2 := Lib.hid hO2
  obtain ⟨xi, ci, rfl⟩ := owns_slice hO1
  obtain ⟨xo, co, rfl⟩ := owns_slice hO2
  have HN := Lib.hid (gr_trans (Gr.drew (Gr.refl w3)) hgN)
  have HI5 := Lib.hid (gr_block HN.out HI3.out)
  clear hV hgN hO1 hO2
  simp only [List.take_succ_cons, List.take_zero, List.drop_succ_cons, List.drop_zero, putAll, Act.put, Option.map_some, Option.getD_some, List.setIfInBounds_toArray, List.set_cons_succ, List.set_cons_zero]
  rw [hs35]
  clear hs35
  refine wpList_store_row rfl 28 _ _ rfl w.heap.size (inf _ _ _ _ _) rfl rfl 28 (inf 0 0 false (.slice none 0 0) (.slice none 0 0)) HI5.out infoN rfl (inf_one _ _ _ _ _ _ _ _ _) ?_
  have HS := Lib.hid (setRow_block (c := inf f l p (.slice xi A.size ci) (.slice xo B.size co)) HI5.out)
  go_wp2
  exact bodyPost_ret (v := .tuple #[.agg (inf f l p (.slice xi A.size ci) (.slice xo B.size co)), .bool true]) (results_cell_slot Try.results8 _ _ w.heap.size 28 _ (0, 0) _ rfl HS.out Try.underlying28 rfl infoN _ rfl) rfl
   ⟨_, _, rfl, gr_setRow (gr_trans HG3.out HN.out) (Nat.le_refl _) _, owns_base (owns_setRow HO1.out (by omega) _) (by omega), owns_base (owns_setRow HO2.out (by omega) _) (by omega)⟩
set_option maxHeartbeats 2000000 in
set_option maxRecDepth 100000 in
theorem of_sca (n f l : Int) (s : ByteArray) (hn : n < 64768) (hf : (f == 0) = false) (hs : s.size < 1000) (hA : (cutA s).size ≤ 1000) (hB : (cutB s).size ≤ 1000) (h : ∀ w, Calls Try.prog 28 #[.int .i64 n] w (RES f l s w)) (w : World) (hm : Mx w) :
  Calls Try.prog 8 #[.int .i64 n] w (OFS f l (cutP s) (cutA s) (cutB s) w) := by
 have H := Lib.hid h
 have HM := Lib.hid hm
 have C := fun w (hm : Mx w) => cut_any s w (by omega) hm
 have HC := Lib.hid C
 have T1 := fun w => types_any (cutA s) w (by omega)
 have T2 := fun w => types_any (cutB s) w (by omega)
 have HT1 := Lib.hid T1
 have HT2 := Lib.hid T2
 clear h hm C T1 T2
 generalize cutA s = A at *
 generalize cutB s = B at *
 generalize cutP s = p at *
 go_enter Try.func8, Try.ntmps8
 go_wp2_with fail
 refine (H.out _).mono ?_
 rintro e w1 ⟨rfl, hg⟩
 have hb := gr_block hg (heap_alloc2_new w (.cells (inf 0 0 false (.slice none 0 0) (.slice none 0 0)) 28) (.cells (shp 0 0 zs) 65))
 have hi := gr_block hg (heap_alloc2_old w (.cells (inf 0 0 false (.slice none 0 0) (.slice none 0 0)) 28) (.cells (shp 0 0 zs) 65))
 have HB := Lib.hid hb
 have HI := Lib.hid hi
 have HG := Lib.hid (gr_trans (((Gr.refl w).alloc _ _).alloc _ _) hg)
 have HZ1 := Lib.hid (show w.heap.size + 2 ≤ w1.heap.size by have := hg.size; simp at this; omega)
 clear hb hg hi
 go_wp2_with (refine wpList_store_row rfl 65 _ _ rfl (w.heap.size + 1) (shp _ _ _) rfl rfl 65 (shp 0 0 zs) HB.out infoS rfl (shp_one _ _ _) ?_; focus (have hs2 := setRow_block (c := shp f l s) HB.out; have hi2 := (setRow_block_other (w := w1) (c := shp f l s) (show w.heap.size ≠ w.heap.size + 1 by omega)).trans HI.out; have hg2 := gr_setRow HG.out (g := w.heap.size + 1) (by omega) (shp f l s); have hz2 : (w1.setRow (w.heap.size + 1) (shp f l s)).heap.size = w1.heap.size := (by simp [World.setRow]); generalize w1.setRow (w.heap.size + 1) (shp f l s) = w2 at *; have c0 := (cell_of_row _ _ 0 _ _ _ hs2).trans (show (shp f l s)[0]? = some (.int .i64 f) from rfl); have c1 := (cell_of_row _ _ 1 _ _ _ hs2).trans (show (shp f l s)[1]? = some (.int .i64 l) from rfl); have c2 := (cell_of_row _ _ 2 _ _ _ hs2).trans (show (shp f l s)[2]? = some (.string s) from rfl); have HI2 := Lib.hid hi2; have HG2 := Lib.hid hg2; have HZ2 := Lib.hid (show w.heap.size + 2 ≤ w2.heap.size by rw [hz2]; exact HZ1.out); clear hs2 hi2 hg2 hz2))
 refine (HC.out _ (mx_gr HM.out HG2.out)).mono ?_
 rintro e w3 ⟨rfl, hg3⟩
 have d0 := gr_cell hg3 c0
 have d1 := gr_cell hg3 c1
 have HI3 := Lib.hid (gr_block hg3 HI2.out)
 have HG3 := Lib.hid (gr_trans HG2.out hg3)
 have HZ := Lib.hid (Nat.le_trans HZ2.out hg3.size)
 clear c0 c1 c2 hg3 HI2 HG2
 go_wp2_with fail
 refine wp_region_net_tail 10 (ΦO (w.heap.size + 1) (w.heap.size + 2) f l p A B) (by kernel_rfl) (by kernel_rfl) (ΦO_mono _ _ f l p A B) ?_ ?_
 ·simp only [List.take_succ_cons, List.take_zero]
  refine ⟨?_, ?_, ?_, ?_, ?_, ?_, ?_, ?_, ?_, ?_, trivial⟩
  ·refine NetStep.of rfl fun ρ wx hw hρc hρf hin hdep => ?_
   have e4 : ρ (.tmp 4) = (.pointer (some ⟨w.heap.size + 1, 0, none⟩)) := hin 4 (by kernel_rfl)
   go_simp
   exact ⟨rfl, Gr.refl _⟩
  ·refine NetStep.of rfl fun ρ wx hw hρc hρf hin hdep => ?_
   have e26 : ρ (.tmp 26) = (.pointer (some ⟨w.heap.size + 1, 0, none⟩)) := hdep 0 26 (by kernel_rfl)
   have hcx := gr_cell (gr_trans (Gr.drew (Gr.refl w3)) hw) d0
   go_simp
   exact ⟨rfl, Gr.refl _⟩
  ·refine NetStep.of rfl fun ρ wx hw hρc hρf hin hdep => ?_
   have e4 : ρ (.tmp 4) = (.pointer (some ⟨w.heap.size + 1, 0, none⟩)) := hin 4 (by kernel_rfl)
   go_simp
   exact ⟨rfl, Gr.refl _⟩
  ·refine NetStep.of rfl fun ρ wx hw hρc hρf hin hdep => ?_
   have e28 : ρ (.tmp 28) = (.pointer (some ⟨w.heap.size + 1, 1, none⟩)) := hdep 2 28 (by kernel_rfl)
   have hcx := gr_cell (gr_trans (Gr.drew (Gr.refl w3)) hw) d1
   go_simp
   exact ⟨rfl, Gr.refl _⟩
  ·refine NetStep.of rfl fun ρ wx hw hρc hρf hin hdep => ?_
   have e7 : ρ (.tmp 7) = (.bool p) := hin 7 (by kernel_rfl)
   go_simp
   exact ⟨rfl, Gr.refl _⟩
  ·refine NetStep.of rfl fun ρ wx hw hρc hρf hin hdep => ?_
   have e5 : ρ (.tmp 5) = (.string A) := hin 5 (by kernel_rfl)
   go_simp
   exact ⟨rfl, Gr.refl _⟩
  ·refine NetStep.of rfl fun ρ wx hw hρc hρf hin hdep => ?_
   have e31 : ρ (.tmp 31) = (.string A) := hdep 5 31 (by kernel_rfl)
   go_simp
   exact (HT1.out wx).mono fun e w4 ⟨sv, h1, h2, h3⟩ => ⟨sv, h1, owns_base h3 (Nat.le_trans HZ.out (gr_trans (Gr.drew (Gr.refl w3)) hw).size), h2⟩
  ·refine NetStep.of rfl fun ρ wx hw hρc hρf hin hdep => ?_
   have e6 : ρ (.tmp 6) = (.string B) := hin 6 (by kernel_rfl)
   go_simp
   exact ⟨rfl, Gr.refl _⟩
  ·refine NetStep.of rfl fun ρ wx hw hρc hρf hin hdep => ?_
   have e33 : ρ (.tmp 33) = (.string B) := hdep 7 33 (by kernel_rfl)
   go_simp
   exact (HT2.out wx).mono fun e w4 ⟨sv, h1, h2, h3⟩ => ⟨sv, h1, owns_base h3 (Nat.le_trans HZ.out (gr_trans (Gr.drew (Gr.refl w3)) hw).size), h2⟩
  ·refine NetStep.of rfl fun ρ wx hw hρc hρf hin hdep => ?_
   have e27 : ρ (.tmp 27) = (.int .i64 f) := hdep 1 27 (by kernel_rfl)
   have e29 : ρ (.tmp 29) = (.int .i64 l) := hdep 3 29 (by kernel_rfl)
   have e30 : ρ (.tmp 30) = (.bool p) := hdep 4 30 (by kernel_rfl)
   have e32 := Lib.hid (show wx.ownsRow (w.heap.size + 2) 3 1 (ρ (.tmp 32)) A.size (codes A A.size) from hdep 6 32 (by kernel_rfl))
   have e34 := Lib.hid (show wx.ownsRow (w.heap.size + 2) 3 1 (ρ (.tmp 34)) B.size (codes B B.size) from hdep 8 34 (by kernel_rfl))
   obtain ⟨x32, c32, h32⟩ := owns_slice e32.out
   obtain ⟨x34, c34, h34⟩ := owns_slice e34.out
   have f32 := e32.out
   have f34 := e34.out
   rw [h32] at f32
   rw [h34] at f34
   have F32 := Lib.hid f32
   have F34 := Lib.hid f34
   clear f32 f34 e32 e34
   go_simp
   exact ⟨⟨_, _, rfl, F32.out, F34.out⟩, Gr.refl _⟩
 ·intro V wN hgN hV
  obtain ⟨vi, vo, hs35, hO1, hO2⟩ := hV 9 _ 35 (by decide) rfl rfl
  have HO1 := Lib.hid hO1
  have HO2 := Lib.hid hO2
  obtain ⟨xi, ci, rfl⟩ := owns_slice hO1
  obtain ⟨xo, co, rfl⟩ := owns_slice hO2
  have HN := Lib.hid (gr_trans (Gr.drew (Gr.refl w3)) hgN)
  have HI5 := Lib.hid (gr_block HN.out HI3.out)
  clear hV hgN hO1 hO2
  simp only [List.take_succ_cons, List.take_zero, List.drop_succ_cons, List.drop_zero, putAll, Act.put, Option.map_some, Option.getD_some, List.setIfInBounds_toArray, List.set_cons_succ, List.set_cons_zero]
  rw [hs35]
  clear hs35
  refine wpList_store_row rfl 28 _ _ rfl w.heap.size (inf _ _ _ _ _) rfl rfl 28 (inf 0 0 false (.slice none 0 0) (.slice none 0 0)) HI5.out infoN rfl (inf_one _ _ _ _ _ _ _ _ _) ?_
  have HS := Lib.hid (setRow_block (c := inf f l p (.slice xi A.size ci) (.slice xo B.size co)) HI5.out)
  go_wp2
  exact bodyPost_ret (v := .tuple #[.agg (inf f l p (.slice xi A.size ci) (.slice xo B.size co)), .bool true]) (results_cell_slot Try.results8 _ _ w.heap.size 28 _ (0, 0) _ rfl HS.out Try.underlying28 rfl infoN _ rfl) rfl
   ⟨_, _, rfl, gr_setRow (gr_trans HG3.out HN.out) (Nat.le_refl _) _, owns_base (owns_setRow HO1.out (by omega) _) (by omega), owns_base (owns_setRow HO2.out (by omega) _) (by omega)⟩
set_option maxHeartbeats 2000000 in
theorem of_vec0 (n m l : Int) (s : ByteArray) (hn : 64768 ≤ n) (hn2 : n - 64768 ≤ 9223372036854775807) (hnm : n - 64768 = m) (h : ∀ w, Calls Try.prog 27 #[.int .i64 m] w (RES 0 l s w)) (w : World) :
  Calls Try.prog 8 #[.int .i64 n] w fun e w' => e = .returned (.tuple #[.agg (inf 0 0 false (.slice none 0 0) (.slice none 0 0)), .bool false]) ∧ Gr w w' := by
 subst hnm
 have H := Lib.hid h
 clear h
 go_enter Try.func8, Try.ntmps8
 go_wp2_with fail
 refine (H.out _).mono ?_
 rintro e w1 ⟨rfl, hg⟩
 have hb := gr_block hg (heap_alloc2_new w (.cells (inf 0 0 false (.slice none 0 0) (.slice none 0 0)) 28) (.cells (shp 0 0 zs) 65))
 have hi := gr_block hg (heap_alloc2_old w (.cells (inf 0 0 false (.slice none 0 0) (.slice none 0 0)) 28) (.cells (shp 0 0 zs) 65))
 have HB := Lib.hid hb
 have HI := Lib.hid hi
 have HG := Lib.hid (gr_trans (((Gr.refl w).alloc _ _).alloc _ _) hg)
 clear hb hg hi
 go_wp2_with (first | (refine wpList_store_row rfl 65 _ _ rfl (w.heap.size + 1) (shp _ _ _) rfl rfl 65 (shp 0 0 zs) HB.out infoS rfl (shp_one _ _ _) ?_; focus (have hs2 := setRow_block (c := shp 0 l s) HB.out; have hi2 := (setRow_block_other (w := w1) (c := shp 0 l s) (show w.heap.size ≠ w.heap.size + 1 by omega)).trans HI.out; have hg2 := gr_setRow HG.out (g := w.heap.size + 1) (by omega) (shp 0 l s); generalize w1.setRow (w.heap.size + 1) (shp 0 l s) = w2 at *; have c0 := (cell_of_row _ _ 0 _ _ _ hs2).trans (show (shp 0 l s)[0]? = some (.int .i64 0) from rfl); have HI2 := Lib.hid hi2; have HG2 := Lib.hid hg2; clear hs2 hi2 hg2)) | (refine wpList_store_row rfl 28 _ _ rfl w.heap.size (inf 0 0 false (.slice none 0 0) (.slice none 0 0)) rfl rfl 28 (inf 0 0 false (.slice none 0 0) (.slice none 0 0)) HI2.out infoN rfl (inf_one _ _ _ _ _ _ _ _ _) ?_))
 exact bodyPost_ret (v := .tuple #[.agg (inf 0 0 false (.slice none 0 0) (.slice none 0 0)), .bool false]) (results_cell_slot Try.results8 _ _ w.heap.size 28 _ (0, 0) _ rfl (setRow_block (c := inf 0 0 false (.slice none 0 0) (.slice none 0 0)) HI2.out) Try.underlying28 rfl infoN _ rfl) rfl
   ⟨rfl, gr_setRow HG2.out (Nat.le_refl _) _⟩
set_option maxHeartbeats 2000000 in
theorem of_sca0 (n l : Int) (s : ByteArray) (hn : n < 64768) (h : ∀ w, Calls Try.prog 28 #[.int .i64 n] w (RES 0 l s w)) (w : World) :
  Calls Try.prog 8 #[.int .i64 n] w fun e w' => e = .returned (.tuple #[.agg (inf 0 0 false (.slice none 0 0) (.slice none 0 0)), .bool false]) ∧ Gr w w' := by
 have H := Lib.hid h
 clear h
 go_enter Try.func8, Try.ntmps8
 go_wp2_with fail
 refine (H.out _).mono ?_
 rintro e w1 ⟨rfl, hg⟩
 have hb := gr_block hg (heap_alloc2_new w (.cells (inf 0 0 false (.slice none 0 0) (.slice none 0 0)) 28) (.cells (shp 0 0 zs) 65))
 have hi := gr_block hg (heap_alloc2_old w (.cells (inf 0 0 false (.slice none 0 0) (.slice none 0 0)) 28) (.cells (shp 0 0 zs) 65))
 have HB := Lib.hid hb
 have HI := Lib.hid hi
 have HG := Lib.hid (gr_trans (((Gr.refl w).alloc _ _).alloc _ _) hg)
 clear hb hg hi
 go_wp2_with (first | (refine wpList_store_row rfl 65 _ _ rfl (w.heap.size + 1) (shp _ _ _) rfl rfl 65 (shp 0 0 zs) HB.out infoS rfl (shp_one _ _ _) ?_; focus (have hs2 := setRow_block (c := shp 0 l s) HB.out; have hi2 := (setRow_block_other (w := w1) (c := shp 0 l s) (show w.heap.size ≠ w.heap.size + 1 by omega)).trans HI.out; have hg2 := gr_setRow HG.out (g := w.heap.size + 1) (by omega) (shp 0 l s); generalize w1.setRow (w.heap.size + 1) (shp 0 l s) = w2 at *; have c0 := (cell_of_row _ _ 0 _ _ _ hs2).trans (show (shp 0 l s)[0]? = some (.int .i64 0) from rfl); have HI2 := Lib.hid hi2; have HG2 := Lib.hid hg2; clear hs2 hi2 hg2)) | (refine wpList_store_row rfl 28 _ _ rfl w.heap.size (inf 0 0 false (.slice none 0 0) (.slice none 0 0)) rfl rfl 28 (inf 0 0 false (.slice none 0 0) (.slice none 0 0)) HI2.out infoN rfl (inf_one _ _ _ _ _ _ _ _ _) ?_))
 exact bodyPost_ret (v := .tuple #[.agg (inf 0 0 false (.slice none 0 0) (.slice none 0 0)), .bool false]) (results_cell_slot Try.results8 _ _ w.heap.size 28 _ (0, 0) _ rfl (setRow_block (c := inf 0 0 false (.slice none 0 0) (.slice none 0 0)) HI2.out) Try.underlying28 rfl infoN _ rfl) rfl
   ⟨rfl, gr_setRow HG2.out (Nat.le_refl _) _⟩
end Ins
end Go.Proofs.Ytjoalcaooccbiaa
/- InsOd -/
namespace Go.Proofs.Ytjoalcaooccbiaa
open Go.RowKit
namespace Ins
theorem frozen0 {w : World} {g : Nat} {c : Array Value} {t : TypeId} (h : w.heap[g]? = some (.cells c t (0, 0))) (o : Nat) : w.frozen? ⟨g, o, none⟩ = false := by simp [World.frozen?, h]
theorem five_sep (w : World) (g : Nat) (a b c d e : Value) : Sep (fun k => k = g) w (((((w.setCell ⟨g, 0, none⟩ a).setCell ⟨g, 1, none⟩ b).setCell ⟨g, 2, none⟩ c).setCell ⟨g, 3, none⟩ d).setCell ⟨g, 4, none⟩ e) :=
 ((((Sep.setCell (ex := fun k => k = g) _ (p := ⟨g, 0, none⟩) rfl _).trans (Sep.setCell (ex := fun k => k = g) _ (p := ⟨g, 1, none⟩) rfl _)).trans (Sep.setCell (ex := fun k => k = g) _ (p := ⟨g, 2, none⟩) rfl _)).trans (Sep.setCell (ex := fun k => k = g) _ (p := ⟨g, 3, none⟩) rfl _)).trans (Sep.setCell (ex := fun k => k = g) _ (p := ⟨g, 4, none⟩) rfl _)
theorem five_blk {w : World} {g : Nat} {x0 x1 x2 x3 x4 : Value} {t : TypeId} {z : Nat × Nat} (h : w.heap[g]? = some (.cells #[x0, x1, x2, x3, x4] t z)) (a b c d e : Value) : (((((w.setCell ⟨g, 0, none⟩ a).setCell ⟨g, 1, none⟩ b).setCell ⟨g, 2, none⟩ c).setCell ⟨g, 3, none⟩ d).setCell ⟨g, 4, none⟩ e).heap[g]? = some (.cells #[a, b, c, d, e] t z) := by
 simp [World.setCell, Array.getElem?_modify, h]
def OFD (f l : Int) (p : Bool) (A B : ByteArray) (w : World) (e : Ending) (w' : World) : Prop :=
 ∃ vi vo, e = .returned (.tuple #[.agg (inf f l p vi vo), .bool true]) ∧ Gr w w' ∧ w'.ownsRow w.heap.size 3 1 vi A.size (codes A A.size) ∧ w'.ownsRow w.heap.size 3 1 vo B.size (codes B B.size) ∧ ∀ q, vi.ownBlock = some q → vo.ownBlock ≠ some q
end Ins
end Go.Proofs.Ytjoalcaooccbiaa
/- InsOdV -/
namespace Go.Proofs.Ytjoalcaooccbiaa
open Go.RowKit
namespace Ins
set_option maxHeartbeats 2000000 in
theorem ofd_vec (n m f l : Int) (s : ByteArray) (hn : 64768 ≤ n) (hn2 : n - 64768 ≤ 9223372036854775807) (hnm : n - 64768 = m) (hf : (f == 0) = false) (hs : s.size < 1000) (hA : (cutA s).size ≤ 1000) (hB : (cutB s).size ≤ 1000) (h : ∀ w, Calls Try.prog 27 #[.int .i64 m] w (RES f l s w)) (w : World) (hm : Mx w) :
  Calls Try.prog 8 #[.int .i64 n] w (OFD f l (cutP s) (cutA s) (cutB s) w) := by
 subst hnm
 have H := Lib.hid h
 have HM := Lib.hid hm
 have C := fun w (hm : Mx w) => cut_any s w (by omega) hm
 have HC := Lib.hid C
 have T1 := fun w => types_any (cutA s) w (by omega)
 have T2 := fun w => types_any (cutB s) w (by omega)
 have HT1 := Lib.hid T1
 have HT2 := Lib.hid T2
 clear h hm C T1 T2
 generalize cutA s = A at *
 generalize cutB s = B at *
 generalize cutP s = p at *
 go_enter Try.func8, Try.ntmps8
 go_wp2_with fail
 refine (H.out _).mono ?_
 rintro e w1 ⟨rfl, hg⟩
 have hb := gr_block hg (heap_alloc2_new w (.cells (inf 0 0 false (.slice none 0 0) (.slice none 0 0)) 28) (.cells (shp 0 0 zs) 65))
 have hi := gr_block hg (heap_alloc2_old w (.cells (inf 0 0 false (.slice none 0 0) (.slice none 0 0)) 28) (.cells (shp 0 0 zs) 65))
 have HB := Lib.hid hb
 have HI := Lib.hid hi
 have HG := Lib.hid (gr_trans (((Gr.refl w).alloc _ _).alloc _ _) hg)
 have HZ1 := Lib.hid (show w.heap.size + 2 ≤ w1.heap.size by have := hg.size; simp at this; omega)
 clear hb hg hi
 go_wp2_with (refine wpList_store_row rfl 65 _ _ rfl (w.heap.size + 1) (shp _ _ _) rfl rfl 65 (shp 0 0 zs) HB.out infoS rfl (shp_one _ _ _) ?_; focus (have hs2 := setRow_block (c := shp f l s) HB.out; have hi2 := (setRow_block_other (w := w1) (c := shp f l s) (show w.heap.size ≠ w.heap.size + 1 by omega)).trans HI.out; have hg2 := gr_setRow HG.out (g := w.heap.size + 1) (by omega) (shp f l s); have hz2 : (w1.setRow (w.heap.size + 1) (shp f l s)).heap.size = w1.heap.size := (by simp [World.setRow]); generalize w1.setRow (w.heap.size + 1) (shp f l s) = w2 at *; have c0 := (cell_of_row _ _ 0 _ _ _ hs2).trans (show (shp f l s)[0]? = some (.int .i64 f) from rfl); have c1 := (cell_of_row _ _ 1 _ _ _ hs2).trans (show (shp f l s)[1]? = some (.int .i64 l) from rfl); have c2 := (cell_of_row _ _ 2 _ _ _ hs2).trans (show (shp f l s)[2]? = some (.string s) from rfl); have HI2 := Lib.hid hi2; have HG2 := Lib.hid hg2; have HZ2 := Lib.hid (show w.heap.size + 2 ≤ w2.heap.size by rw [hz2]; exact HZ1.out); clear hs2 hi2 hg2 hz2))
 refine (HC.out _ (mx_gr HM.out HG2.out)).mono ?_
 rintro e w3 ⟨rfl, hg3⟩
 have d0 := gr_cell hg3 c0
 have d1 := gr_cell hg3 c1
 have HI3 := Lib.hid (gr_block hg3 HI2.out)
 have HG3 := Lib.hid (gr_trans HG2.out hg3)
 have HZ := Lib.hid (Nat.le_trans HZ2.out hg3.size)
 clear c0 c1 c2 hg3 HI2 HG2
 go_wp2_with fail
 obtain ⟨z0, z1, z2, z3, z4⟩ := cells5 (show w3.heap[w.heap.size]? = some (.cells #[.int .i64 0, .int .i64 0, .bool false, .slice none 0 0, .slice none 0 0] 28 (0, 0)) from HI3.out)
 have f0 := frozen0 HI3.out 0
 have f1 := frozen0 HI3.out 1
 have f2 := frozen0 HI3.out 2
 have f3 := frozen0 HI3.out 3
 have f4 := frozen0 HI3.out 4
 go_region_with (first | (go_at_call 30; (with_reducible refine (HT1.out _).mono ?_); rintro e w4 ⟨vi, rfl, hg4', ho4⟩; obtain ⟨xi, ci, rfl⟩ := owns_slice ho4; have hg4 : Gr w3 w4 := gr_trans (Gr.drew (Gr.refl w3)) hg4'; have c0 := gr_cell hg4 d0; have c1 := gr_cell hg4 d1; have HG4 := Lib.hid (gr_trans HG3.out hg4); have HI4 := Lib.hid (gr_block hg4 HI3.out); have HO4 := Lib.hid (owns_base ho4 HZ.out); have HS4 := Lib.hid hg4.size; clear hg4 hg4' ho4 z0 z1 z2 z3 z4 f0 f1 f2 f3 f4) | (go_at_call 30; (with_reducible refine (HT2.out _).mono ?_); rintro e w5 ⟨vo, rfl, hg5, ho5⟩; obtain ⟨xo, co, rfl⟩ := owns_slice ho5; have e0 := gr_cell hg5 c0; have e1 := gr_cell hg5 c1; have HG5 := Lib.hid (gr_trans HG4.out hg5); have HI5 := Lib.hid (gr_block hg5 HI4.out); have HO6 := Lib.hid (owns_gr HO4.out hg5); have HD := Lib.hid (show ∀ q, (Value.slice xi A.size ci).ownBlock = some q → (Value.slice xo B.size co).ownBlock ≠ some q from fun q h1 h2 => by have := (HO4.out.lt q h1).2; have := (ho5.lt q h2).1; omega); have HO5 := Lib.hid (owns_base ho5 (Nat.le_trans HZ.out HS4.out)); obtain ⟨z0, z1, z2, z3, z4⟩ := cells5 (show w5.heap[w.heap.size]? = some (.cells #[.int .i64 0, .int .i64 0, .bool false, .slice none 0 0, .slice none 0 0] 28 (0, 0)) from HI5.out); have f0 := frozen0 HI5.out 0; have f1 := frozen0 HI5.out 1; have f2 := frozen0 HI5.out 2; have f3 := frozen0 HI5.out 3; have f4 := frozen0 HI5.out 4; clear hg5 ho5 c0 c1))
 all_goals
  go_wp2
  exact bodyPost_ret (v := .tuple #[.agg (inf f l p (.slice xi A.size ci) (.slice xo B.size co)), .bool true]) (results_cell_slot Try.results8 _ _ w.heap.size 28 _ (0, 0) _ rfl (five_blk HI5.out _ _ _ _ _) Try.underlying28 rfl infoN _ rfl) rfl
   ⟨_, _, rfl, Sep.toGr HG5.out (five_sep _ _ _ _ _ _ _) (fun k hk => Nat.le_of_eq hk.symm), owns_base (Sep.owns (five_sep _ _ _ _ _ _ _) HO6.out (fun k hk e => by have := (HO6.out.lt k hk).1; omega)) (by omega), owns_base (Sep.owns (five_sep _ _ _ _ _ _ _) HO5.out (fun k hk e => by have := (HO5.out.lt k hk).1; omega)) (by omega), HD.out⟩
end Ins
end Go.Proofs.Ytjoalcaooccbiaa
