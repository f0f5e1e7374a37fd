/-
  Texts of this seat, joined: InsOf, InsFl, InsAll, TgOf, TgM. Each says what it proves.
-/
import Derived.Test.YtifjgocfdnhdeaaMs2
import Derived.Test.YtifjgocfdnhdeaaMs3
import Derived.Test.YtifjgocfdnhdeaaMs5
/- InsOf -/
namespace Go.Proofs.Ytifjgocfdnhdeaa
open Go.RowKit
namespace Ins
def Mx (w : World) : Prop := ∃ m, w.cell? ⟨0, 0, none⟩ = some (.int .i64 m)
theorem mx_gr {w w' : World} (h : Mx w) (hg : Gr w w') : Mx w' := by
 obtain ⟨m, hm⟩ := h
 exact ⟨m, gr_cell hg hm⟩
def inf (f l : Int) (p : Bool) (a b : Value) : Array Value := #[.int .i64 f, .int .i64 l, .bool p, a, b]
theorem infoN : (Try.prog.info? 27).map (·.size) = some 5 := by kernel_rfl
theorem cells5 {w : World} {g : Nat} {a b c d e : Value} {t : TypeId} {z : Nat × Nat} (h : w.heap[g]? = some (.cells #[a, b, c, d, e] t z)) :
  w.cell? ⟨g, 0, none⟩ = some a ∧ w.cell? ⟨g, 1, none⟩ = some b ∧ w.cell? ⟨g, 2, none⟩ = some c ∧ w.cell? ⟨g, 3, none⟩ = some d ∧ w.cell? ⟨g, 4, none⟩ = some e :=
 ⟨(cell_of_row _ _ 0 _ _ _ h).trans rfl, (cell_of_row _ _ 1 _ _ _ h).trans rfl, (cell_of_row _ _ 2 _ _ _ h).trans rfl, (cell_of_row _ _ 3 _ _ _ h).trans rfl, (cell_of_row _ _ 4 _ _ _ h).trans rfl⟩
theorem owns_base {w : World} {base base' : Nat} {e : TypeId} {size : Nat} {v : Value} {n : Nat} {xs : List Value} (h : w.ownsRow base e size v n xs) (hb : base' ≤ base) : w.ownsRow base' e size v n xs := by
 refine ⟨h.1, ?_⟩
 rcases h.2 with h | ⟨g, cap, cur, h1, h2, h3⟩
 ·exact .inl h
 ·exact .inr ⟨g, cap, cur, h1, Nat.le_trans hb h2, h3⟩
def cutA (s : ByteArray) : ByteArray := ⟨(Lib.cut s.data.toList [58]).1.toArray⟩
def cutB (s : ByteArray) : ByteArray := ⟨(Lib.cut s.data.toList [58]).2.1.toArray⟩
def cutP (s : ByteArray) : Bool := (Lib.cut s.data.toList [58]).2.2
theorem cut_any (s : ByteArray) (w : World) (hs : s.size < 4294967281) (hm : Mx w) :
  Calls Try.prog 20 #[.string s, .string ⟨#[58]⟩] w fun e w' => e = .returned (.tuple #[.string (cutA s), .string (cutB s), .bool (cutP s)]) ∧ Gr w w' := by
 obtain ⟨m, hm⟩ := hm
 exact (Try.strings_Cut s ⟨#[58]⟩ m w hs hm).mono fun e w' ⟨h, n, hn⟩ => ⟨h, hn ▸ (Gr.refl w).drewN n⟩
theorem owns_slice {w : World} {base : Nat} {e : TypeId} {size : Nat} {v : Value} {n : Nat} {xs : List Value} (h : w.ownsRow base e size v n xs) : ∃ x c, v = .slice x n c := by
 rcases h.2 with ⟨h1, h2⟩ | ⟨g, cap, cur, rfl, _⟩
 ·subst h2; exact ⟨_, _, h1⟩
 ·exact ⟨_, _, rfl⟩
theorem inf_one (f l : Int) (p : Bool) (x y : Option Addr) (n m c d : Nat) : (inf f l p (.slice x n c) (.slice y m d)).all (·.oneCell') = true := by kernel_rfl
theorem owns_setRow {w : World} {base : Nat} {e : TypeId} {size : Nat} {v : Value} {n : Nat} {xs : List Value} (h : w.ownsRow base e size v n xs) {g : Nat} (hg : g < base) (c : Array Value) : (w.setRow g c).ownsRow base e size v n xs :=
 Sep.owns (ex := fun k => k = g) (w := w) ⟨rfl, rfl, rfl, by simp [World.setRow], fun i _ hn => setRow_block_other hn⟩ h (fun k hk e => by have := (h.lt k hk).1; omega)
theorem results_cell_slot {P : Program} {fn : Func} {p q : Tmp} {ty : TypeId} (h : fn.results = #[.cell p ty, .tmp q]) (tmps : Array Value) (w : World) (g : Nat) (t : TypeId) (cs : Array Value) (fr : Nat × Nat) (d : TypeDesc)
  (hp : tmps.getD p undef = .pointer (some ⟨g, 0, none⟩)) (hg : w.heap[g]? = some (.cells cs t fr))
  (hu : P.underlying ty = some d) (hd : (match d with | .struct _ | .array _ _ => true | _ => false) = true) (hi : (P.info? ty).map (·.size) = some cs.size) (b : Value) (hb : tmps.getD q undef = b) :
  (results fn tmps).run P w = .ok (.tuple #[.agg cs, b]) w := by
 have hp' : tmps[p]?.getD undef = .pointer (some ⟨g, 0, none⟩) := by simpa using hp
 have hb' : tmps[q]?.getD undef = b := by simpa using hb
 simp [results, h, hp', hb', asAddr, run_loadVar_row w g t ty cs fr d hg hu hd hi]
def OFS (f l : Int) (p : Bool) (A B : ByteArray) (w : World) (e : Ending) (w' : World) : Prop :=
 ∃ vi vo, e = .returned (.tuple #[.agg (inf f l p vi vo), .bool true]) ∧ Gr w w' ∧ w'.ownsRow w.heap.size 3 1 vi A.size (codes A A.size) ∧ w'.ownsRow w.heap.size 3 1 vo B.size (codes B B.size)
def ΦO (b base : Nat) (f l : Int) (p : Bool) (A B : ByteArray) (k : Nat) (v : Value) (wn : World) : Prop :=
 match k with
 | 0 => v = .pointer (some ⟨b, 0, none⟩)
 | 1 => v = .int .i64 f
 | 2 => v = .pointer (some ⟨b, 1, none⟩)
 | 3 => v = .int .i64 l
 | 4 => v = .bool p
 | 5 => v = .string A
 | 6 => wn.ownsRow base 3 1 v A.size (codes A A.size)
 | 7 => v = .string B
 | 8 => wn.ownsRow base 3 1 v B.size (codes B B.size)
 | 9 => ∃ vi vo, v = .agg (inf f l p vi vo) ∧ wn.ownsRow base 3 1 vi A.size (codes A A.size) ∧ wn.ownsRow base 3 1 vo B.size (codes B B.size)
 | _ => True
theorem ΦO_mono (b base : Nat) (f l : Int) (p : Bool) (A B : ByteArray) : ∀ k v wn wn', Gr wn wn' → ΦO b base f l p A B k v wn → ΦO b base f l p A B k v wn' := by
 intro k v wn wn' hg h
 match k with
 | 0 => exact h
 | 1 => exact h
 | 2 => exact h
 | 3 => exact h
 | 4 => exact h
 | 5 => exact h
 | 6 => exact owns_gr h hg
 | 7 => exact h
 | 8 => exact owns_gr h hg
 | 9 => obtain ⟨vi, vo, h1, h2, h3⟩ := h; exact ⟨vi, vo, h1, owns_gr h2 hg, owns_gr h3 hg⟩
 | k + 10 => trivial
set_option maxHeartbeats 2000000 in
set_option maxRecDepth 100000 in
theorem of_vec (n m f l : Int) (s : ByteArray) (hn : 64768 ≤ n) (hn2 : n - 64768 ≤ 9223372036854775807) (hnm : n - 64768 = m) (hf : (f == 0) = false) (hs : s.size < 1000) (hA : (cutA s).size ≤ 1000) (hB : (cutB s).size ≤ 1000) (h : ∀ w, Calls Try.prog 18 #[.int .i64 m] w (RES f l s w)) (w : World) (hm : Mx w) :
  Calls Try.prog 9 #[.int .i64 n] w (OFS f l (cutP s) (cutA s) (cutB s) w) := by
 subst hnm
 have H := Lib.hid h
 have HM := Lib.hid hm
 have C := fun w (hm : Mx w) => cut_any s w (by omega) hm
 have HC := Lib.hid C
 have T1 := fun w => types_any (cutA s) w (by omega)
 have T2 := fun w => types_any (cutB s) w (by omega)
 have HT1 := Lib.hid T1
 have HT2 := Lib.hid T2
 clear h hm C T1 T2
 generalize cutA s = A at *
 generalize cutB s = B at *
 generalize cutP s = p at *
 go_enter Try.func9, Try.ntmps9
 go_wp2_with fail
 refine (H.out _).mono ?_
 rintro e w1 ⟨rfl, hg⟩
 have hb := gr_block hg (heap_alloc2_new w (.cells (inf 0 0 false (.slice none 0 0) (.slice none 0 0)) 27) (.cells (shp 0 0 zs) 59))
 have hi := gr_block hg (heap_alloc2_old w (.cells (inf 0 0 false (.slice none 0 0) (.slice none 0 0)) 27) (.cells (shp 0 0 zs) 59))
 have HB := Lib.hid hb
 have HI := Lib.hid hi
 have HG := Lib.hid (gr_trans (((Gr.refl w).alloc _ _).alloc _ _) hg)
 have HZ1 := Lib.hid (show w.heap.size + 2 ≤ w1.heap.size by have := hg.size; simp at this; omega)
 clear hb hg hi
 go_wp2_with (refine wpList_store_row rfl 59 _ _ rfl (w.heap.size + 1) (shp _ _ _) rfl rfl 59 (shp 0 0 zs) HB.out infoS rfl (shp_one _ _ _) ?_; focus (have hs2 := setRow_block (c := shp f l s) HB.out; have hi2 := (setRow_block_other (w := w1) (c := shp f l s) (show w.heap.size ≠ w.heap.size + 1 by omega)).trans HI.out; have hg2 := gr_setRow HG.out (g := w.heap.size + 1) (by omega) (shp f l s); have hz2 : (w1.setRow (w.heap.size + 1) (shp f l s)).heap.size = w1.heap.size := (by simp [World.setRow]); generalize w1.setRow (w.heap.size + 1) (shp f l s) = w2 at *; have c0 := (cell_of_row _ _ 0 _ _ _ hs2).trans (show (shp f l s)[0]? = some (.int .i64 f) from rfl); have c1 := (cell_of_row _ _ 1 _ _ _ hs2).trans (show (shp f l s)[1]? = some (.int .i64 l) from rfl); have c2 := (cell_of_row _ _ 2 _ _ _ hs2).trans (show (shp f l s)[2]? = some (.string s) from rfl); have HI2 := Lib.hid hi2; have HG2 := Lib.hid hg2; have HZ2 := Lib.hid (show w.heap.size + 2 ≤ w2.heap.size by rw [hz2]; exact HZ1.out); clear hs2 hi2 hg2 hz2))
 refine (HC.out _ (mx_gr HM.out HG2.out)).mono ?_
 rintro e w3 ⟨rfl, hg3⟩
 have d0 := gr_cell hg3 c0
 have d1 := gr_cell hg3 c1
 have HI3 := Lib.hid (gr_block hg3 HI2.out)
 have HG3 := Lib.hid (gr_trans HG2.out hg3)
 have HZ := Lib.hid (Nat.le_trans HZ2.out hg3.size)
 clear c0 c1 c2 hg3 HI2 HG2
 go_wp2_with fail
 refine wp_region_net_tail 10 (ΦO (w.heap.size + 1) (w.heap.size + 2) f l p A B) (by kernel_rfl) (by kernel_rfl) (ΦO_mono _ _ f l p A B) ?_ ?_
 ·simp only [List.take_succ_cons, List.take_zero]
  refine ⟨?_, ?_, ?_, ?_, ?_, ?_, ?_, ?_, ?_, ?_, trivial⟩
  ·refine NetStep.of rfl fun ρ wx hw hρc hρf hin hdep => ?_
   have e4 : ρ (.tmp 4) = (.pointer (some ⟨w.heap.size + 1, 0, none⟩)) := hin 4 (by kernel_rfl)
   go_simp
   exact ⟨rfl, Gr.refl _⟩
  ·refine NetStep.of rfl fun ρ wx hw hρc hρf hin hdep => ?_
   have e26 : ρ (.tmp 26) = (.pointer (some ⟨w.heap.size + 1, 0, none⟩)) := hdep 0 26 (by kernel_rfl)
   have hcx := gr_cell (gr_trans (Gr.drew (Gr.refl w3)) hw) d0
   go_simp
   exact ⟨rfl, Gr.refl _⟩
  ·refine NetStep.of rfl fun ρ wx hw hρc hρf hin hdep => ?_
   have e4 : ρ (.tmp 4) = (.pointer (some ⟨w.heap.size + 1, 0, none⟩)) := hin 4 (by kernel_rfl)
   go_simp
   exact ⟨rfl, Gr.refl _⟩
  ·refine NetStep.of rfl fun ρ wx hw hρc hρf hin hdep => ?_
   have e28 : ρ (.tmp 28) = (.pointer (some ⟨w.heap.size + 1, 1, none⟩)) := hdep 2 28 (by kernel_rfl)
   have hcx := gr_cell (gr_trans (Gr.drew (Gr.refl w3)) hw) d1
   go_simp
   exact ⟨rfl, Gr.refl _⟩
  ·refine NetStep.of rfl fun ρ wx hw hρc hρf hin hdep => ?_
   have e7 : ρ (.tmp 7) = (.bool p) := hin 7 (by kernel_rfl)
   go_simp
   exact ⟨rfl, Gr.refl _⟩
  ·refine NetStep.of rfl fun ρ wx hw hρc hρf hin hdep => ?_
   have e5 : ρ (.tmp 5) = (.string A) := hin 5 (by kernel_rfl)
   go_simp
   exact ⟨rfl, Gr.refl _⟩
  ·refine NetStep.of rfl fun ρ wx hw hρc hρf hin hdep => ?_
   have e31 : ρ (.tmp 31) = (.string A) := hdep 5 31 (by kernel_rfl)
   go_simp
   exact (HT1.out wx).mono fun e w4 ⟨sv, h1, h2, h3⟩ => ⟨sv, h1, owns_base h3 (Nat.le_trans HZ.out (gr_trans (Gr.drew (Gr.refl w3)) hw).size), h2⟩
  ·refine NetStep.of rfl fun ρ wx hw hρc hρf hin hdep => ?_
   have e6 : ρ (.tmp 6) = (.string B) := hin 6 (by kernel_rfl)
   go_simp
   exact ⟨rfl, Gr.refl _⟩
  ·refine NetStep.of rfl fun ρ wx hw hρc hρf hin hdep => ?_
   have e33 : ρ (.tmp 33) = (.string B) := hdep 7 33 (by kernel_rfl)
   go_simp
   exact (HT2.out wx).mono fun e w4 ⟨sv, h1, h2, h3⟩ => ⟨sv, h1, owns_base h3 (Nat.le_trans HZ.out (gr_trans (Gr.drew (Gr.refl w3)) hw).size), h2⟩
  ·refine NetStep.of rfl fun ρ wx hw hρc hρf hin hdep => ?_
   have e27 : ρ (.tmp 27) = (.int .i64 f) := hdep 1 27 (by kernel_rfl)
   have e29 : ρ (.tmp 29) = (.int .i64 l) := hdep 3 29 (by kernel_rfl)
   have e30 : ρ (.tmp 30) = (.bool p) := hdep 4 30 (by kernel_rfl)
   have e32 := Lib.hid (show wx.ownsRow (w.heap.size + 2) 3 1 (ρ (.tmp 32)) A.size (codes A A.size) from hdep 6 32 (by kernel_rfl))
   have e34 := Lib.hid (show wx.ownsRow (w.heap.size + 2) 3 1 (ρ (.tmp 34)) B.size (codes B B.size) from hdep 8 34 (by kernel_rfl))
   obtain ⟨x32, c32, h32⟩ := owns_slice e32.out
   obtain ⟨x34, c34, h34⟩ := owns_slice e34.out
   have f32 := e32.out
   have f34 := e34.out
   rw [h32] at f32
   rw [h34] at f34
   have F32 := Lib.hid f32
   have F34 := Lib.hid f34
   clear f32 f34 e32 e34
   go_simp
   exact ⟨⟨_, _, rfl, F32.out, F34.out⟩, Gr.refl _⟩
 ·intro V wN hgN hV
  obtain ⟨vi, vo, hs35, hO1, hO2⟩ := hV 9 _ 35 (by decide) rfl rfl
  have HO1 := Lib.hid hO1
  have HO2 := Lib.hid hO2
  obtain ⟨xi, ci, rfl⟩ := owns_slice hO1
  obtain ⟨xo, co, rfl⟩ := owns_slice hO2
  have HN := Lib.hid (gr_trans (Gr.drew (Gr.refl w3)) hgN)
  have HI5 := Lib.hid (gr_block HN.out HI3.out)
  clear hV hgN hO1 hO2
  simp only [List.take_succ_cons, List.take_zero, List.drop_succ_cons, List.drop_zero, putAll, Act.put, Option.map_some, Option.getD_some, List.setIfInBounds_toArray, List.set_cons_succ, List.set_cons_zero]
  rw [hs35]
  clear hs35
  refine wpList_store_row rfl 27 _ _ rfl w.heap.size (inf _ _ _ _ _) rfl rfl 27 (inf 0 0 false (.slice none 0 0) (.slice none 0 0)) HI5.out infoN rfl (inf_one _ _ _ _ _ _ _ _ _) ?_
  have HS := Lib.hid (setRow_block (c := inf f l p (.slice xi A.size ci) (.slice xo B.size co)) HI5.out)
  go_wp2
  exact bodyPost_ret (v := .tuple #[.agg (inf f l p (.slice xi A.size ci) (.slice xo B.size co)), .bool true]) (results_cell_slot Try.results9 _ _ w.heap.size 27 _ (0, 0) _ rfl HS.out Try.underlying27 rfl infoN _ rfl) rfl
   ⟨_, _, rfl, gr_setRow (gr_trans HG3.out HN.out) (Nat.le_refl _) _, owns_base (owns_setRow HO1.out (by omega) _) (by omega), owns_base (owns_setRow HO2.out (by omega) _) (by omega)⟩
set_option maxHeartbeats 2000000 in
set_option maxRecDepth 100000 in
theorem of_sca (n f l : Int) (s : ByteArray) (hn : n < 64768) (hf : (f == 0) = false) (hs : s.size < 1000) (hA : (cutA s).size ≤ 1000) (hB : (cutB s).size ≤ 1000) (h : ∀ w, Calls Try.prog 19 #[.int .i64 n] w (RES f l s w)) (w : World) (hm : Mx w) :
  Calls Try.prog 9 #[.int .i64 n] w (OFS f l (cutP s) (cutA s) (cutB s) w) := by
 have H := Lib.hid h
 have HM := Lib.hid hm
 have C := fun w (hm : Mx w) => cut_any s w (by omega) hm
 have HC := Lib.hid C
 have T1 := fun w => types_any (cutA s) w (by omega)
 have T2 := fun w => types_any (cutB s) w (by omega)
 have HT1 := Lib.hid T1
 have HT2 := Lib.hid T2
 clear h hm C T1 T2
 generalize cutA s = A at *
 generalize cutB s = B at *
 generalize cutP s = p at *
 go_enter Try.func9, Try.ntmps9
 go_wp2_with fail
 refine (H.out _).mono ?_
 rintro e w1 ⟨rfl, hg⟩
 have hb := gr_block hg (heap_alloc2_new w (.cells (inf 0 0 false (.slice none 0 0) (.slice none 0 0)) 27) (.cells (shp 0 0 zs) 59))
 have hi := gr_block hg (heap_alloc2_old w (.cells (inf 0 0 false (.slice none 0 0) (.slice none 0 0)) 27) (.cells (shp 0 0 zs) 59))
 have HB := Lib.hid hb
 have HI := Lib.hid hi
 have HG := Lib.hid (gr_trans (((Gr.refl w).alloc _ _).alloc _ _) hg)
 have HZ1 := Lib.hid (show w.heap.size + 2 ≤ w1.heap.size by have := hg.size; simp at this; omega)
 clear hb hg hi
 go_wp2_with (refine wpList_store_row rfl 59 _ _ rfl (w.heap.size + 1) (shp _ _ _) rfl rfl 59 (shp 0 0 zs) HB.out infoS rfl (shp_one _ _ _) ?_; focus (have hs2 := setRow_block (c := shp f l s) HB.out; have hi2 := (setRow_block_other (w := w1) (c := shp f l s) (show w.heap.size ≠ w.heap.size + 1 by omega)).trans HI.out; have hg2 := gr_setRow HG.out (g := w.heap.size + 1) (by omega) (shp f l s); have hz2 : (w1.setRow (w.heap.size + 1) (shp f l s)).heap.size = w1.heap.size := (by simp [World.setRow]); generalize w1.setRow (w.heap.size + 1) (shp f l s) = w2 at *; have c0 := (cell_of_row _ _ 0 _ _ _ hs2).trans (show (shp f l s)[0]? = some (.int .i64 f) from rfl); have c1 := (cell_of_row _ _ 1 _ _ _ hs2).trans (show (shp f l s)[1]? = some (.int .i64 l) from rfl); have c2 := (cell_of_row _ _ 2 _ _ _ hs2).trans (show (shp f l s)[2]? = some (.string s) from rfl); have HI2 := Lib.hid hi2; have HG2 := Lib.hid hg2; have HZ2 := Lib.hid (show w.heap.size + 2 ≤ w2.heap.size by rw [hz2]; exact HZ1.out); clear hs2 hi2 hg2 hz2))
 refine (HC.out _ (mx_gr HM.out HG2.out)).mono ?_
 rintro e w3 ⟨rfl, hg3⟩
 have d0 := gr_cell hg3 c0
 have d1 := gr_cell hg3 c1
 have HI3 := Lib.hid (gr_block hg3 HI2.out)
 have HG3 := Lib.hid (gr_trans HG2.out hg3)
 have HZ := Lib.hid (Nat.le_trans HZ2.out hg3.size)
 clear c0 c1 c2 hg3 HI2 HG2
 go_wp2_with fail
 refine wp_region_net_tail 10 (ΦO (w.heap.size + 1) (w.heap.size + 2) f l p A B) (by kernel_rfl) (by kernel_rfl) (ΦO_mono _ _ f l p A B) ?_ ?_
 ·simp only [List.take_succ_cons, List.take_zero]
  refine ⟨?_, ?_, ?_, ?_, ?_, ?_, ?_, ?_, ?_, ?_, trivial⟩
  ·refine NetStep.of rfl fun ρ wx hw hρc hρf hin hdep => ?_
   have e4 : ρ (.tmp 4) = (.pointer (some ⟨w.heap.size + 1, 0, none⟩)) := hin 4 (by kernel_rfl)
   go_simp
   exact ⟨rfl, Gr.refl _⟩
  ·refine NetStep.of rfl fun ρ wx hw hρc hρf hin hdep => ?_
   have e26 : ρ (.tmp 26) = (.pointer (some ⟨w.heap.size + 1, 0, none⟩)) := hdep 0 26 (by kernel_rfl)
   have hcx := gr_cell (gr_trans (Gr.drew (Gr.refl w3)) hw) d0
   go_simp
   exact ⟨rfl, Gr.refl _⟩
  ·refine NetStep.of rfl fun ρ wx hw hρc hρf hin hdep => ?_
   have e4 : ρ (.tmp 4) = (.pointer (some ⟨w.heap.size + 1, 0, none⟩)) := hin 4 (by kernel_rfl)
   go_simp
   exact ⟨rfl, Gr.refl _⟩
  ·refine NetStep.of rfl fun ρ wx hw hρc hρf hin hdep => ?_
   have e28 : ρ (.tmp 28) = (.pointer (some ⟨w.heap.size + 1, 1, none⟩)) := hdep 2 28 (by kernel_rfl)
   have hcx := gr_cell (gr_trans (Gr.drew (Gr.refl w3)) hw) d1
   go_simp
   exact ⟨rfl, Gr.refl _⟩
  ·refine NetStep.of rfl fun ρ wx hw hρc hρf hin hdep => ?_
   have e7 : ρ (.tmp 7) = (.bool p) := hin 7 (by kernel_rfl)
   go_simp
   exact ⟨rfl, Gr.refl _⟩
  ·refine NetStep.of rfl fun ρ wx hw hρc hρf hin hdep => ?_
   have e5 : ρ (.tmp 5) = (.string A) := hin 5 (by kernel_rfl)
   go_simp
   exact ⟨rfl, Gr.refl _⟩
  ·refine NetStep.of rfl fun ρ wx hw hρc hρf hin hdep => ?_
   have e31 : ρ (.tmp 31) = (.string A) := hdep 5 31 (by kernel_rfl)
   go_simp
   exact (HT1.out wx).mono fun e w4 ⟨sv, h1, h2, h3⟩ => ⟨sv, h1, owns_base h3 (Nat.le_trans HZ.out (gr_trans (Gr.drew (Gr.refl w3)) hw).size), h2⟩
  ·refine NetStep.of rfl fun ρ wx hw hρc hρf hin hdep => ?_
   have e6 : ρ (.tmp 6) = (.string B) := hin 6 (by kernel_rfl)
   go_simp
   exact ⟨rfl, Gr.refl _⟩
  ·refine NetStep.of rfl fun ρ wx hw hρc hρf hin hdep => ?_
   have e33 : ρ (.tmp 33) = (.string B) := hdep 7 33 (by kernel_rfl)
   go_simp
   exact (HT2.out wx).mono fun e w4 ⟨sv, h1, h2, h3⟩ => ⟨sv, h1, owns_base h3 (Nat.le_trans HZ.out (gr_trans (Gr.drew (Gr.refl w3)) hw).size), h2⟩
  ·refine NetStep.of rfl fun ρ wx hw hρc hρf hin hdep => ?_
   have e27 : ρ (.tmp 27) = (.int .i64 f) := hdep 1 27 (by kernel_rfl)
   have e29 : ρ (.tmp 29) = (.int .i64 l) := hdep 3 29 (by kernel_rfl)
   have e30 : ρ (.tmp 30) = (.bool p) := hdep 4 30 (by kernel_rfl)
   have e32 := Lib.hid (show wx.ownsRow (w.heap.size + 2) 3 1 (ρ (.tmp 32)) A.size (codes A A.size) from hdep 6 32 (by kernel_rfl))
   have e34 := Lib.hid (show wx.ownsRow (w.heap.size + 2) 3 1 (ρ (.tmp 34)) B.size (codes B B.size) from hdep 8 34 (by kernel_rfl))
   obtain ⟨x32, c32, h32⟩ := owns_slice e32.out
   obtain ⟨x34, c34, h34⟩ := owns_slice e34.out
   have f32 := e32.out
   have f34 := e34.out
   rw [h32] at f32
   rw [h34] at f34
   have F32 := Lib.hid f32
   have F34 := Lib.hid f34
   clear f32 f34 e32 e34
   go_simp
   exact ⟨⟨_, _, rfl, F32.out, F34.out⟩, Gr.refl _⟩
 ·intro V wN hgN hV
  obtain ⟨vi, vo, hs35, hO1, hO2⟩ := hV 9 _ 35 (by decide) rfl rfl
  have HO1 := Lib.hid hO1
  have HO2 := Lib.hid hO2
  obtain ⟨xi, ci, rfl⟩ := owns_slice hO1
  obtain ⟨xo, co, rfl⟩ := owns_slice hO2
  have HN := Lib.hid (gr_trans (Gr.drew (Gr.refl w3)) hgN)
  have HI5 := Lib.hid (gr_block HN.out HI3.out)
  clear hV hgN hO1 hO2
  simp only [List.take_succ_cons, List.take_zero, List.drop_succ_cons, List.drop_zero, putAll, Act.put, Option.map_some, Option.getD_some, List.setIfInBounds_toArray, List.set_cons_succ, List.set_cons_zero]
  rw [hs35]
  clear hs35
  refine wpList_store_row rfl 27 _ _ rfl w.heap.size (inf _ _ _ _ _) rfl rfl 27 (inf 0 0 false (.slice none 0 0) (.slice none 0 0)) HI5.out infoN rfl (inf_one _ _ _ _ _ _ _ _ _) ?_
  have HS := Lib.hid (setRow_block (c := inf f l p (.slice xi A.size ci) (.slice xo B.size co)) HI5.out)
  go_wp2
  exact bodyPost_ret (v := .tuple #[.agg (inf f l p (.slice xi A.size ci) (.slice xo B.size co)), .bool true]) (results_cell_slot Try.results9 _ _ w.heap.size 27 _ (0, 0) _ rfl HS.out Try.underlying27 rfl infoN _ rfl) rfl
   ⟨_, _, rfl, gr_setRow (gr_trans HG3.out HN.out) (Nat.le_refl _) _, owns_base (owns_setRow HO1.out (by omega) _) (by omega), owns_base (owns_setRow HO2.out (by omega) _) (by omega)⟩
set_option maxHeartbeats 2000000 in
theorem of_vec0 (n m l : Int) (s : ByteArray) (hn : 64768 ≤ n) (hn2 : n - 64768 ≤ 9223372036854775807) (hnm : n - 64768 = m) (h : ∀ w, Calls Try.prog 18 #[.int .i64 m] w (RES 0 l s w)) (w : World) :
  Calls Try.prog 9 #[.int .i64 n] w fun e w' => e = .returned (.tuple #[.agg (inf 0 0 false (.slice none 0 0) (.slice none 0 0)), .bool false]) ∧ Gr w w' := by
 subst hnm
 have H := Lib.hid h
 clear h
 go_enter Try.func9, Try.ntmps9
 go_wp2_with fail
 refine (H.out _).mono ?_
 rintro e w1 ⟨rfl, hg⟩
 have hb := gr_block hg (heap_alloc2_new w (.cells (inf 0 0 false (.slice none 0 0) (.slice none 0 0)) 27) (.cells (shp 0 0 zs) 59))
 have hi := gr_block hg (heap_alloc2_old w (.cells (inf 0 0 false (.slice none 0 0) (.slice none 0 0)) 27) (.cells (shp 0 0 zs) 59))
 have HB := Lib.hid hb
 have HI := Lib.hid hi
 have HG := Lib.hid (gr_trans (((Gr.refl w).alloc _ _).alloc _ _) hg)
 clear hb hg hi
 go_wp2_with (first | (refine wpList_store_row rfl 59 _ _ rfl (w.heap.size + 1) (shp _ _ _) rfl rfl 59 (shp 0 0 zs) HB.out infoS rfl (shp_one _ _ _) ?_; focus (have hs2 := setRow_block (c := shp 0 l s) HB.out; have hi2 := (setRow_block_other (w := w1) (c := shp 0 l s) (show w.heap.size ≠ w.heap.size + 1 by omega)).trans HI.out; have hg2 := gr_setRow HG.out (g := w.heap.size + 1) (by omega) (shp 0 l s); generalize w1.setRow (w.heap.size + 1) (shp 0 l s) = w2 at *; have c0 := (cell_of_row _ _ 0 _ _ _ hs2).trans (show (shp 0 l s)[0]? = some (.int .i64 0) from rfl); have HI2 := Lib.hid hi2; have HG2 := Lib.hid hg2; clear hs2 hi2 hg2)) | (refine wpList_store_row rfl 27 _ _ rfl w.heap.size (inf 0 0 false (.slice none 0 0) (.slice none 0 0)) rfl rfl 27 (inf 0 0 false (.slice none 0 0) (.slice none 0 0)) HI2.out infoN rfl (inf_one _ _ _ _ _ _ _ _ _) ?_))
 exact bodyPost_ret (v := .tuple #[.agg (inf 0 0 false (.slice none 0 0) (.slice none 0 0)), .bool false]) (results_cell_slot Try.results9 _ _ w.heap.size 27 _ (0, 0) _ rfl (setRow_block (c := inf 0 0 false (.slice none 0 0) (.slice none 0 0)) HI2.out) Try.underlying27 rfl infoN _ rfl) rfl
   ⟨rfl, gr_setRow HG2.out (Nat.le_refl _) _⟩
set_option maxHeartbeats 2000000 in
theorem of_sca0 (n l : Int) (s : ByteArray) (hn : n < 64768) (h : ∀ w, Calls Try.prog 19 #[.int .i64 n] w (RES 0 l s w)) (w : World) :
  Calls Try.prog 9 #[.int .i64 n] w fun e w' => e = .returned (.tuple #[.agg (inf 0 0 false (.slice none 0 0) (.slice none 0 0)), .bool false]) ∧ Gr w w' := by
 have H := Lib.hid h
 clear h
 go_enter Try.func9, Try.ntmps9
 go_wp2_with fail
 refine (H.out _).mono ?_
 rintro e w1 ⟨rfl, hg⟩
 have hb := gr_block hg (heap_alloc2_new w (.cells (inf 0 0 false (.slice none 0 0) (.slice none 0 0)) 27) (.cells (shp 0 0 zs) 59))
 have hi := gr_block hg (heap_alloc2_old w (.cells (inf 0 0 false (.slice none 0 0) (.slice none 0 0)) 27) (.cells (shp 0 0 zs) 59))
 have HB := Lib.hid hb
 have HI := Lib.hid hi
 have HG := Lib.hid (gr_trans (((Gr.refl w).alloc _ _).alloc _ _) hg)
 clear hb hg hi
 go_wp2_with (first | (refine wpList_store_row rfl 59 _ _ rfl (w.heap.size + 1) (shp _ _ _) rfl rfl 59 (shp 0 0 zs) HB.out infoS rfl (shp_one _ _ _) ?_; focus (have hs2 := setRow_block (c := shp 0 l s) HB.out; have hi2 := (setRow_block_other (w := w1) (c := shp 0 l s) (show w.heap.size ≠ w.heap.size + 1 by omega)).trans HI.out; have hg2 := gr_setRow HG.out (g := w.heap.size + 1) (by omega) (shp 0 l s); generalize w1.setRow (w.heap.size + 1) (shp 0 l s) = w2 at *; have c0 := (cell_of_row _ _ 0 _ _ _ hs2).trans (show (shp 0 l s)[0]? = some (.int .i64 0) from rfl); have HI2 := Lib.hid hi2; have HG2 := Lib.hid hg2; clear hs2 hi2 hg2)) | (refine wpList_store_row rfl 27 _ _ rfl w.heap.size (inf 0 0 false (.slice none 0 0) (.slice none 0 0)) rfl rfl 27 (inf 0 0 false (.slice none 0 0) (.slice none 0 0)) HI2.out infoN rfl (inf_one _ _ _ _ _ _ _ _ _) ?_))
 exact bodyPost_ret (v := .tuple #[.agg (inf 0 0 false (.slice none 0 0) (.slice none 0 0)), .bool false]) (results_cell_slot Try.results9 _ _ w.heap.size 27 _ (0, 0) _ rfl (setRow_block (c := inf 0 0 false (.slice none 0 0) (.slice none 0 0)) HI2.out) Try.underlying27 rfl infoN _ rfl) rfl
   ⟨rfl, gr_setRow HG2.out (Nat.le_refl _) _⟩
end Ins
end Go.Proofs.Ytifjgocfdnhdeaa
/- InsFl -/
namespace Go.Proofs.Ytifjgocfdnhdeaa
open Go.RowKit
namespace Ins
def Flt (op : Int) : Prop := (42 ≤ op ∧ op ≤ 43) ∨ (56 ≤ op ∧ op ≤ 57) ∨ (67 ≤ op ∧ op ≤ 68) ∨ (91 ≤ op ∧ op ≤ 102) ∨ (139 ≤ op ∧ op ≤ 166) ∨ (168 ≤ op ∧ op ≤ 171) ∨ (174 ≤ op ∧ op ≤ 191) ∨ (64787 ≤ op ∧ op ≤ 64788) ∨ (64799 ≤ op ∧ op ≤ 64802) ∨ (64833 ≤ op ∧ op ≤ 64844) ∨ (64862 ≤ op ∧ op ≤ 64863) ∨ (64871 ≤ op ∧ op ≤ 64874) ∨ (64884 ≤ op ∧ op ≤ 64885) ∨ (64890 ≤ op ∧ op ≤ 64890) ∨ (64916 ≤ op ∧ op ≤ 64916) ∨ (64992 ≤ op ∧ op ≤ 65023)
instance (op : Int) : Decidable (Flt op) := by unfold Flt; infer_instance
def floatB (op : Int) : Bool := decide (Flt op)
theorem in_yes (op f n : Int) (hf : 0 ≤ f) (hf' : f ≤ 1000) (hn : 0 ≤ n) (hn' : n ≤ 1000) (h0 : f ≤ op) (h1 : op < f + n) (w : World) :
  Calls Try.prog 17 #[.int .i64 op, .int .i64 f, .int .i64 n] w fun e w' => e = .returned (.bool true) ∧ w = w' := by
 go_enter Try.func17, Try.ntmps17
 go_wp2
 go_ret
 exact ⟨rfl, rfl⟩
theorem in_no (op f n : Int) (hf : 0 ≤ f) (hf' : f ≤ 1000) (hn : 0 ≤ n) (hn' : n ≤ 1000) (h : op < f ∨ f + n ≤ op) (w : World) :
  Calls Try.prog 17 #[.int .i64 op, .int .i64 f, .int .i64 n] w fun e w' => e = .returned (.bool false) ∧ w = w' := by
 by_cases h0 : f ≤ op
 ·have h1 : decide (op < f + n) = false := decide_eq_false (by omega)
  clear h
  go_enter Try.func17, Try.ntmps17
  go_wp2
  go_ret
  exact ⟨rfl, rfl⟩
 ·clear h
  go_enter Try.func17, Try.ntmps17
  go_wp2
  go_ret
  exact ⟨rfl, rfl⟩
def arI (op : Int) : Int := if op = 69 ∨ op = 80 ∨ op = 103 ∨ op = 104 ∨ op = 105 ∨ op = 121 ∨ op = 122 ∨ op = 123 ∨ op = 167 ∨ op = 172 ∨ op = 173 ∨ op = 192 ∨ op = 193 ∨ op = 194 ∨ op = 195 ∨ op = 196 then 1 else if (70 ≤ op ∧ op ≤ 79) ∨ (81 ≤ op ∧ op ≤ 90) ∨ (106 ≤ op ∧ op ≤ 120) ∨ (124 ≤ op ∧ op ≤ 138) then 2 else 0
theorem ar_0 (op : Int) (h1 : op ≤ 68) (w : World) : Calls Try.prog 8 #[.int .i64 op] w fun e w' => e = .returned (.int .i64 0) ∧ w = w' := by
 go_enter Try.func8, Try.ntmps8
 go_wp2_with (go_at_call 17; first | ((with_reducible refine (in_yes _ _ _ (by omega) (by omega) (by omega) (by omega) (by omega) (by omega) _).mono ?_); rintro e w' ⟨rfl, rfl⟩) | ((with_reducible refine (in_no _ _ _ (by omega) (by omega) (by omega) (by omega) (by omega) _).mono ?_); rintro e w' ⟨rfl, rfl⟩))
 go_ret
 exact ⟨rfl, rfl⟩
theorem ar_1 (w : World) : Calls Try.prog 8 #[.int .i64 69] w fun e w' => e = .returned (.int .i64 1) ∧ w = w' := by
 go_enter Try.func8, Try.ntmps8
 go_wp2_with (go_at_call 17; first | ((with_reducible refine (in_yes _ _ _ (by omega) (by omega) (by omega) (by omega) (by omega) (by omega) _).mono ?_); rintro e w' ⟨rfl, rfl⟩) | ((with_reducible refine (in_no _ _ _ (by omega) (by omega) (by omega) (by omega) (by omega) _).mono ?_); rintro e w' ⟨rfl, rfl⟩))
 go_ret
 exact ⟨rfl, rfl⟩
theorem ar_2 (op : Int) (h0 : 70 ≤ op) (h1 : op ≤ 79) (w : World) : Calls Try.prog 8 #[.int .i64 op] w fun e w' => e = .returned (.int .i64 2) ∧ w = w' := by
 go_enter Try.func8, Try.ntmps8
 go_wp2_with (go_at_call 17; first | ((with_reducible refine (in_yes _ _ _ (by omega) (by omega) (by omega) (by omega) (by omega) (by omega) _).mono ?_); rintro e w' ⟨rfl, rfl⟩) | ((with_reducible refine (in_no _ _ _ (by omega) (by omega) (by omega) (by omega) (by omega) _).mono ?_); rintro e w' ⟨rfl, rfl⟩))
 go_ret
 exact ⟨rfl, rfl⟩
theorem ar_3 (w : World) : Calls Try.prog 8 #[.int .i64 80] w fun e w' => e = .returned (.int .i64 1) ∧ w = w' := by
 go_enter Try.func8, Try.ntmps8
 go_wp2_with (go_at_call 17; first | ((with_reducible refine (in_yes _ _ _ (by omega) (by omega) (by omega) (by omega) (by omega) (by omega) _).mono ?_); rintro e w' ⟨rfl, rfl⟩) | ((with_reducible refine (in_no _ _ _ (by omega) (by omega) (by omega) (by omega) (by omega) _).mono ?_); rintro e w' ⟨rfl, rfl⟩))
 go_ret
 exact ⟨rfl, rfl⟩
theorem ar_4 (op : Int) (h0 : 81 ≤ op) (h1 : op ≤ 90) (w : World) : Calls Try.prog 8 #[.int .i64 op] w fun e w' => e = .returned (.int .i64 2) ∧ w = w' := by
 go_enter Try.func8, Try.ntmps8
 go_wp2_with (go_at_call 17; first | ((with_reducible refine (in_yes _ _ _ (by omega) (by omega) (by omega) (by omega) (by omega) (by omega) _).mono ?_); rintro e w' ⟨rfl, rfl⟩) | ((with_reducible refine (in_no _ _ _ (by omega) (by omega) (by omega) (by omega) (by omega) _).mono ?_); rintro e w' ⟨rfl, rfl⟩))
 go_ret
 exact ⟨rfl, rfl⟩
theorem ar_5 (op : Int) (h0 : 91 ≤ op) (h1 : op ≤ 102) (w : World) : Calls Try.prog 8 #[.int .i64 op] w fun e w' => e = .returned (.int .i64 0) ∧ w = w' := by
 go_enter Try.func8, Try.ntmps8
 go_wp2_with (go_at_call 17; first | ((with_reducible refine (in_yes _ _ _ (by omega) (by omega) (by omega) (by omega) (by omega) (by omega) _).mono ?_); rintro e w' ⟨rfl, rfl⟩) | ((with_reducible refine (in_no _ _ _ (by omega) (by omega) (by omega) (by omega) (by omega) _).mono ?_); rintro e w' ⟨rfl, rfl⟩))
 go_ret
 exact ⟨rfl, rfl⟩
theorem ar_6 (w : World) : Calls Try.prog 8 #[.int .i64 103] w fun e w' => e = .returned (.int .i64 1) ∧ w = w' := by
 go_enter Try.func8, Try.ntmps8
 go_wp2_with (go_at_call 17; first | ((with_reducible refine (in_yes _ _ _ (by omega) (by omega) (by omega) (by omega) (by omega) (by omega) _).mono ?_); rintro e w' ⟨rfl, rfl⟩) | ((with_reducible refine (in_no _ _ _ (by omega) (by omega) (by omega) (by omega) (by omega) _).mono ?_); rintro e w' ⟨rfl, rfl⟩))
 go_ret
 exact ⟨rfl, rfl⟩
theorem ar_7 (w : World) : Calls Try.prog 8 #[.int .i64 104] w fun e w' => e = .returned (.int .i64 1) ∧ w = w' := by
 go_enter Try.func8, Try.ntmps8
 go_wp2_with (go_at_call 17; first | ((with_reducible refine (in_yes _ _ _ (by omega) (by omega) (by omega) (by omega) (by omega) (by omega) _).mono ?_); rintro e w' ⟨rfl, rfl⟩) | ((with_reducible refine (in_no _ _ _ (by omega) (by omega) (by omega) (by omega) (by omega) _).mono ?_); rintro e w' ⟨rfl, rfl⟩))
 go_ret
 exact ⟨rfl, rfl⟩
theorem ar_8 (w : World) : Calls Try.prog 8 #[.int .i64 105] w fun e w' => e = .returned (.int .i64 1) ∧ w = w' := by
 go_enter Try.func8, Try.ntmps8
 go_wp2_with (go_at_call 17; first | ((with_reducible refine (in_yes _ _ _ (by omega) (by omega) (by omega) (by omega) (by omega) (by omega) _).mono ?_); rintro e w' ⟨rfl, rfl⟩) | ((with_reducible refine (in_no _ _ _ (by omega) (by omega) (by omega) (by omega) (by omega) _).mono ?_); rintro e w' ⟨rfl, rfl⟩))
 go_ret
 exact ⟨rfl, rfl⟩
theorem ar_9 (op : Int) (h0 : 106 ≤ op) (h1 : op ≤ 120) (w : World) : Calls Try.prog 8 #[.int .i64 op] w fun e w' => e = .returned (.int .i64 2) ∧ w = w' := by
 go_enter Try.func8, Try.ntmps8
 go_wp2_with (go_at_call 17; first | ((with_reducible refine (in_yes _ _ _ (by omega) (by omega) (by omega) (by omega) (by omega) (by omega) _).mono ?_); rintro e w' ⟨rfl, rfl⟩) | ((with_reducible refine (in_no _ _ _ (by omega) (by omega) (by omega) (by omega) (by omega) _).mono ?_); rintro e w' ⟨rfl, rfl⟩))
 go_ret
 exact ⟨rfl, rfl⟩
theorem ar_10 (w : World) : Calls Try.prog 8 #[.int .i64 121] w fun e w' => e = .returned (.int .i64 1) ∧ w = w' := by
 go_enter Try.func8, Try.ntmps8
 go_wp2_with (go_at_call 17; first | ((with_reducible refine (in_yes _ _ _ (by omega) (by omega) (by omega) (by omega) (by omega) (by omega) _).mono ?_); rintro e w' ⟨rfl, rfl⟩) | ((with_reducible refine (in_no _ _ _ (by omega) (by omega) (by omega) (by omega) (by omega) _).mono ?_); rintro e w' ⟨rfl, rfl⟩))
 go_ret
 exact ⟨rfl, rfl⟩
theorem ar_11 (w : World) : Calls Try.prog 8 #[.int .i64 122] w fun e w' => e = .returned (.int .i64 1) ∧ w = w' := by
 go_enter Try.func8, Try.ntmps8
 go_wp2_with (go_at_call 17; first | ((with_reducible refine (in_yes _ _ _ (by omega) (by omega) (by omega) (by omega) (by omega) (by omega) _).mono ?_); rintro e w' ⟨rfl, rfl⟩) | ((with_reducible refine (in_no _ _ _ (by omega) (by omega) (by omega) (by omega) (by omega) _).mono ?_); rintro e w' ⟨rfl, rfl⟩))
 go_ret
 exact ⟨rfl, rfl⟩
theorem ar_12 (w : World) : Calls Try.prog 8 #[.int .i64 123] w fun e w' => e = .returned (.int .i64 1) ∧ w = w' := by
 go_enter Try.func8, Try.ntmps8
 go_wp2_with (go_at_call 17; first | ((with_reducible refine (in_yes _ _ _ (by omega) (by omega) (by omega) (by omega) (by omega) (by omega) _).mono ?_); rintro e w' ⟨rfl, rfl⟩) | ((with_reducible refine (in_no _ _ _ (by omega) (by omega) (by omega) (by omega) (by omega) _).mono ?_); rintro e w' ⟨rfl, rfl⟩))
 go_ret
 exact ⟨rfl, rfl⟩
theorem ar_13 (op : Int) (h0 : 124 ≤ op) (h1 : op ≤ 138) (w : World) : Calls Try.prog 8 #[.int .i64 op] w fun e w' => e = .returned (.int .i64 2) ∧ w = w' := by
 go_enter Try.func8, Try.ntmps8
 go_wp2_with (go_at_call 17; first | ((with_reducible refine (in_yes _ _ _ (by omega) (by omega) (by omega) (by omega) (by omega) (by omega) _).mono ?_); rintro e w' ⟨rfl, rfl⟩) | ((with_reducible refine (in_no _ _ _ (by omega) (by omega) (by omega) (by omega) (by omega) _).mono ?_); rintro e w' ⟨rfl, rfl⟩))
 go_ret
 exact ⟨rfl, rfl⟩
theorem ar_14 (op : Int) (h0 : 139 ≤ op) (h1 : op ≤ 166) (w : World) : Calls Try.prog 8 #[.int .i64 op] w fun e w' => e = .returned (.int .i64 0) ∧ w = w' := by
 go_enter Try.func8, Try.ntmps8
 go_wp2_with (go_at_call 17; first | ((with_reducible refine (in_yes _ _ _ (by omega) (by omega) (by omega) (by omega) (by omega) (by omega) _).mono ?_); rintro e w' ⟨rfl, rfl⟩) | ((with_reducible refine (in_no _ _ _ (by omega) (by omega) (by omega) (by omega) (by omega) _).mono ?_); rintro e w' ⟨rfl, rfl⟩))
 go_ret
 exact ⟨rfl, rfl⟩
theorem ar_15 (w : World) : Calls Try.prog 8 #[.int .i64 167] w fun e w' => e = .returned (.int .i64 1) ∧ w = w' := by
 go_enter Try.func8, Try.ntmps8
 go_wp2_with (go_at_call 17; first | ((with_reducible refine (in_yes _ _ _ (by omega) (by omega) (by omega) (by omega) (by omega) (by omega) _).mono ?_); rintro e w' ⟨rfl, rfl⟩) | ((with_reducible refine (in_no _ _ _ (by omega) (by omega) (by omega) (by omega) (by omega) _).mono ?_); rintro e w' ⟨rfl, rfl⟩))
 go_ret
 exact ⟨rfl, rfl⟩
theorem ar_16 (op : Int) (h0 : 168 ≤ op) (h1 : op ≤ 171) (w : World) : Calls Try.prog 8 #[.int .i64 op] w fun e w' => e = .returned (.int .i64 0) ∧ w = w' := by
 go_enter Try.func8, Try.ntmps8
 go_wp2_with (go_at_call 17; first | ((with_reducible refine (in_yes _ _ _ (by omega) (by omega) (by omega) (by omega) (by omega) (by omega) _).mono ?_); rintro e w' ⟨rfl, rfl⟩) | ((with_reducible refine (in_no _ _ _ (by omega) (by omega) (by omega) (by omega) (by omega) _).mono ?_); rintro e w' ⟨rfl, rfl⟩))
 go_ret
 exact ⟨rfl, rfl⟩
theorem ar_17 (w : World) : Calls Try.prog 8 #[.int .i64 172] w fun e w' => e = .returned (.int .i64 1) ∧ w = w' := by
 go_enter Try.func8, Try.ntmps8
 go_wp2_with (go_at_call 17; first | ((with_reducible refine (in_yes _ _ _ (by omega) (by omega) (by omega) (by omega) (by omega) (by omega) _).mono ?_); rintro e w' ⟨rfl, rfl⟩) | ((with_reducible refine (in_no _ _ _ (by omega) (by omega) (by omega) (by omega) (by omega) _).mono ?_); rintro e w' ⟨rfl, rfl⟩))
 go_ret
 exact ⟨rfl, rfl⟩
theorem ar_18 (w : World) : Calls Try.prog 8 #[.int .i64 173] w fun e w' => e = .returned (.int .i64 1) ∧ w = w' := by
 go_enter Try.func8, Try.ntmps8
 go_wp2_with (go_at_call 17; first | ((with_reducible refine (in_yes _ _ _ (by omega) (by omega) (by omega) (by omega) (by omega) (by omega) _).mono ?_); rintro e w' ⟨rfl, rfl⟩) | ((with_reducible refine (in_no _ _ _ (by omega) (by omega) (by omega) (by omega) (by omega) _).mono ?_); rintro e w' ⟨rfl, rfl⟩))
 go_ret
 exact ⟨rfl, rfl⟩
theorem ar_19 (op : Int) (h0 : 174 ≤ op) (h1 : op ≤ 191) (w : World) : Calls Try.prog 8 #[.int .i64 op] w fun e w' => e = .returned (.int .i64 0) ∧ w = w' := by
 go_enter Try.func8, Try.ntmps8
 go_wp2_with (go_at_call 17; first | ((with_reducible refine (in_yes _ _ _ (by omega) (by omega) (by omega) (by omega) (by omega) (by omega) _).mono ?_); rintro e w' ⟨rfl, rfl⟩) | ((with_reducible refine (in_no _ _ _ (by omega) (by omega) (by omega) (by omega) (by omega) _).mono ?_); rintro e w' ⟨rfl, rfl⟩))
 go_ret
 exact ⟨rfl, rfl⟩
theorem ar_20 (w : World) : Calls Try.prog 8 #[.int .i64 192] w fun e w' => e = .returned (.int .i64 1) ∧ w = w' := by
 go_enter Try.func8, Try.ntmps8
 go_wp2_with (go_at_call 17; first | ((with_reducible refine (in_yes _ _ _ (by omega) (by omega) (by omega) (by omega) (by omega) (by omega) _).mono ?_); rintro e w' ⟨rfl, rfl⟩) | ((with_reducible refine (in_no _ _ _ (by omega) (by omega) (by omega) (by omega) (by omega) _).mono ?_); rintro e w' ⟨rfl, rfl⟩))
 go_ret
 exact ⟨rfl, rfl⟩
theorem ar_21 (w : World) : Calls Try.prog 8 #[.int .i64 193] w fun e w' => e = .returned (.int .i64 1) ∧ w = w' := by
 go_enter Try.func8, Try.ntmps8
 go_wp2_with (go_at_call 17; first | ((with_reducible refine (in_yes _ _ _ (by omega) (by omega) (by omega) (by omega) (by omega) (by omega) _).mono ?_); rintro e w' ⟨rfl, rfl⟩) | ((with_reducible refine (in_no _ _ _ (by omega) (by omega) (by omega) (by omega) (by omega) _).mono ?_); rintro e w' ⟨rfl, rfl⟩))
 go_ret
 exact ⟨rfl, rfl⟩
theorem ar_22 (w : World) : Calls Try.prog 8 #[.int .i64 194] w fun e w' => e = .returned (.int .i64 1) ∧ w = w' := by
 go_enter Try.func8, Try.ntmps8
 go_wp2_with (go_at_call 17; first | ((with_reducible refine (in_yes _ _ _ (by omega) (by omega) (by omega) (by omega) (by omega) (by omega) _).mono ?_); rintro e w' ⟨rfl, rfl⟩) | ((with_reducible refine (in_no _ _ _ (by omega) (by omega) (by omega) (by omega) (by omega) _).mono ?_); rintro e w' ⟨rfl, rfl⟩))
 go_ret
 exact ⟨rfl, rfl⟩
theorem ar_23 (w : World) : Calls Try.prog 8 #[.int .i64 195] w fun e w' => e = .returned (.int .i64 1) ∧ w = w' := by
 go_enter Try.func8, Try.ntmps8
 go_wp2_with (go_at_call 17; first | ((with_reducible refine (in_yes _ _ _ (by omega) (by omega) (by omega) (by omega) (by omega) (by omega) _).mono ?_); rintro e w' ⟨rfl, rfl⟩) | ((with_reducible refine (in_no _ _ _ (by omega) (by omega) (by omega) (by omega) (by omega) _).mono ?_); rintro e w' ⟨rfl, rfl⟩))
 go_ret
 exact ⟨rfl, rfl⟩
theorem ar_24 (w : World) : Calls Try.prog 8 #[.int .i64 196] w fun e w' => e = .returned (.int .i64 1) ∧ w = w' := by
 go_enter Try.func8, Try.ntmps8
 go_wp2_with (go_at_call 17; first | ((with_reducible refine (in_yes _ _ _ (by omega) (by omega) (by omega) (by omega) (by omega) (by omega) _).mono ?_); rintro e w' ⟨rfl, rfl⟩) | ((with_reducible refine (in_no _ _ _ (by omega) (by omega) (by omega) (by omega) (by omega) _).mono ?_); rintro e w' ⟨rfl, rfl⟩))
 go_ret
 exact ⟨rfl, rfl⟩
theorem ar_25 (op : Int) (h0 : 197 ≤ op) (h1 : op ≤ 9223372036854775807) (w : World) : Calls Try.prog 8 #[.int .i64 op] w fun e w' => e = .returned (.int .i64 0) ∧ w = w' := by
 go_enter Try.func8, Try.ntmps8
 go_wp2_with (go_at_call 17; first | ((with_reducible refine (in_yes _ _ _ (by omega) (by omega) (by omega) (by omega) (by omega) (by omega) _).mono ?_); rintro e w' ⟨rfl, rfl⟩) | ((with_reducible refine (in_no _ _ _ (by omega) (by omega) (by omega) (by omega) (by omega) _).mono ?_); rintro e w' ⟨rfl, rfl⟩))
 go_ret
 exact ⟨rfl, rfl⟩
theorem arity_of (op r : Int) (h : arI op = r) (w : World) (C : Calls Try.prog 8 #[.int .i64 op] w fun e w' => e = .returned (.int .i64 r) ∧ w = w') : Calls Try.prog 8 #[.int .i64 op] w fun e w' => e = .returned (.int .i64 (arI op)) ∧ w = w' := by rw [h]; exact C
set_option maxHeartbeats 4000000 in
theorem arity_any (op : Int) (hop : op ≤ 9223372036854775807) (w : World) : Calls Try.prog 8 #[.int .i64 op] w fun e w' => e = .returned (.int .i64 (arI op)) ∧ w = w' := by
 by_cases h0_26 : op < 124
 ·by_cases h0_13 : op < 103
  ·by_cases h0_6 : op < 80
   ·by_cases h0_3 : op < 69
    ·exact arity_of _ 0 (by unfold arI; rw [if_neg (by omega), if_neg (by omega)]) w (ar_0 op (by omega) w)
    ·by_cases h1_3 : op < 70
     ·obtain rfl : op = 69 := by omega
      exact arity_of _ 1 (by decide) w (ar_1 w)
     ·exact arity_of _ 2 (by unfold arI; rw [if_neg (by omega), if_pos (by omega)]) w (ar_2 op (by omega) (by omega) w)
   ·by_cases h3_6 : op < 81
    ·obtain rfl : op = 80 := by omega
     exact arity_of _ 1 (by decide) w (ar_3 w)
    ·by_cases h4_6 : op < 91
     ·exact arity_of _ 2 (by unfold arI; rw [if_neg (by omega), if_pos (by omega)]) w (ar_4 op (by omega) (by omega) w)
     ·exact arity_of _ 0 (by unfold arI; rw [if_neg (by omega), if_neg (by omega)]) w (ar_5 op (by omega) (by omega) w)
  ·by_cases h6_13 : op < 106
   ·by_cases h6_9 : op < 104
    ·obtain rfl : op = 103 := by omega
     exact arity_of _ 1 (by decide) w (ar_6 w)
    ·by_cases h7_9 : op < 105
     ·obtain rfl : op = 104 := by omega
      exact arity_of _ 1 (by decide) w (ar_7 w)
     ·obtain rfl : op = 105 := by omega
      exact arity_of _ 1 (by decide) w (ar_8 w)
   ·by_cases h9_13 : op < 122
    ·by_cases h9_11 : op < 121
     ·exact arity_of _ 2 (by unfold arI; rw [if_neg (by omega), if_pos (by omega)]) w (ar_9 op (by omega) (by omega) w)
     ·obtain rfl : op = 121 := by omega
      exact arity_of _ 1 (by decide) w (ar_10 w)
    ·by_cases h11_13 : op < 123
     ·obtain rfl : op = 122 := by omega
      exact arity_of _ 1 (by decide) w (ar_11 w)
     ·obtain rfl : op = 123 := by omega
      exact arity_of _ 1 (by decide) w (ar_12 w)
 ·by_cases h13_26 : op < 174
  ·by_cases h13_19 : op < 168
   ·by_cases h13_16 : op < 139
    ·exact arity_of _ 2 (by unfold arI; rw [if_neg (by omega), if_pos (by omega)]) w (ar_13 op (by omega) (by omega) w)
    ·by_cases h14_16 : op < 167
     ·exact arity_of _ 0 (by unfold arI; rw [if_neg (by omega), if_neg (by omega)]) w (ar_14 op (by omega) (by omega) w)
     ·obtain rfl : op = 167 := by omega
      exact arity_of _ 1 (by decide) w (ar_15 w)
   ·by_cases h16_19 : op < 172
    ·exact arity_of _ 0 (by unfold arI; rw [if_neg (by omega), if_neg (by omega)]) w (ar_16 op (by omega) (by omega) w)
    ·by_cases h17_19 : op < 173
     ·obtain rfl : op = 172 := by omega
      exact arity_of _ 1 (by decide) w (ar_17 w)
     ·obtain rfl : op = 173 := by omega
      exact arity_of _ 1 (by decide) w (ar_18 w)
  ·by_cases h19_26 : op < 194
   ·by_cases h19_22 : op < 192
    ·exact arity_of _ 0 (by unfold arI; rw [if_neg (by omega), if_neg (by omega)]) w (ar_19 op (by omega) (by omega) w)
    ·by_cases h20_22 : op < 193
     ·obtain rfl : op = 192 := by omega
      exact arity_of _ 1 (by decide) w (ar_20 w)
     ·obtain rfl : op = 193 := by omega
      exact arity_of _ 1 (by decide) w (ar_21 w)
   ·by_cases h22_26 : op < 196
    ·by_cases h22_24 : op < 195
     ·obtain rfl : op = 194 := by omega
      exact arity_of _ 1 (by decide) w (ar_22 w)
     ·obtain rfl : op = 195 := by omega
      exact arity_of _ 1 (by decide) w (ar_23 w)
    ·by_cases h24_26 : op < 197
     ·obtain rfl : op = 196 := by omega
      exact arity_of _ 1 (by decide) w (ar_24 w)
     ·exact arity_of _ 0 (by unfold arI; rw [if_neg (by omega), if_neg (by omega)]) w (ar_25 op (by omega) (by omega) w)
end Ins
end Go.Proofs.Ytifjgocfdnhdeaa
/- InsAll -/
namespace Go.Proofs.Ytifjgocfdnhdeaa
open Go.RowKit
namespace Ins
def OFY (op f l : Int) (s : ByteArray) : Prop := ∀ w, Mx w → Calls Try.prog 9 #[.int .i64 op] w (OFS f l (cutP s) (cutA s) (cutB s) w)
def OFN (op : Int) : Prop := ∀ w, Calls Try.prog 9 #[.int .i64 op] w fun e w' => e = .returned (.tuple #[.agg (inf 0 0 false (.slice none 0 0) (.slice none 0 0)), .bool false]) ∧ Gr w w'
def lets (s : ByteArray) : List Int := s.data.toList.map code
def apartB (f l : Int) (s : ByteArray) : Bool :=
 decide (1 ≤ f) && decide (f ≤ 14) && decide ((cutA s).size ≤ 3) && decide ((cutB s).size ≤ 1) && (cutP s || decide ((cutA s).size + (cutB s).size = 0)) &&
 (if f = 7 ∨ f = 8 then cutP s && decide (0 ≤ l) && decide (l ≤ 4) && decide (1 ≤ (cutA s).size) && decide ((lets (cutA s))[0]? = some 127)
  else if f = 13 then cutP s && decide ((lets (cutA s))[0]? = some 123) && decide (1 ≤ (cutA s).size) && (decide (l = 16) || decide (l = 8) || decide (l = 4) || decide (l = 2)) else decide (l = 0))
def numB (low : Bool) (f n : Int) (s : ByteArray) : Bool :=
 if (cutP s && low && decide (f = 1) && decide (0 < (cutA s).size)) then decide (0 < n) && decide (((cutA s).size : Int) = n) && decide ((cutB s).size = 1) else decide (n = 0)
structure Good (op f l : Int) (s : ByteArray) : Prop where
 fit : s.size < 1000 ∧ (cutA s).size ≤ 1000 ∧ (cutB s).size ≤ 1000
 apart : apartB f l s = true
 num : numB (decide (op < 197)) f (arI op) s = true
 float : floatB op = false
theorem g0 : ((⟨#[]⟩ : ByteArray).size < 1000 ∧ (cutA ⟨#[]⟩).size ≤ 1000 ∧ (cutB ⟨#[]⟩).size ≤ 1000) ∧ apartB 1 0 ⟨#[]⟩ = true := ⟨by decide +kernel, by decide +kernel⟩
theorem g1 : ((⟨#[58]⟩ : ByteArray).size < 1000 ∧ (cutA ⟨#[58]⟩).size ≤ 1000 ∧ (cutB ⟨#[58]⟩).size ≤ 1000) ∧ apartB 1 0 ⟨#[58]⟩ = true := ⟨by decide +kernel, by decide +kernel⟩
theorem g2 : ((⟨#[]⟩ : ByteArray).size < 1000 ∧ (cutA ⟨#[]⟩).size ≤ 1000 ∧ (cutB ⟨#[]⟩).size ≤ 1000) ∧ apartB 2 0 ⟨#[]⟩ = true := ⟨by decide +kernel, by decide +kernel⟩
theorem g3 : ((⟨#[]⟩ : ByteArray).size < 1000 ∧ (cutA ⟨#[]⟩).size ≤ 1000 ∧ (cutB ⟨#[]⟩).size ≤ 1000) ∧ apartB 3 0 ⟨#[]⟩ = true := ⟨by decide +kernel, by decide +kernel⟩
theorem g4 : ((⟨#[]⟩ : ByteArray).size < 1000 ∧ (cutA ⟨#[]⟩).size ≤ 1000 ∧ (cutB ⟨#[]⟩).size ≤ 1000) ∧ apartB 4 0 ⟨#[]⟩ = true := ⟨by decide +kernel, by decide +kernel⟩
theorem g5 : ((⟨#[]⟩ : ByteArray).size < 1000 ∧ (cutA ⟨#[]⟩).size ≤ 1000 ∧ (cutB ⟨#[]⟩).size ≤ 1000) ∧ apartB 5 0 ⟨#[]⟩ = true := ⟨by decide +kernel, by decide +kernel⟩
theorem g6 : ((⟨#[]⟩ : ByteArray).size < 1000 ∧ (cutA ⟨#[]⟩).size ≤ 1000 ∧ (cutB ⟨#[]⟩).size ≤ 1000) ∧ apartB 6 0 ⟨#[]⟩ = true := ⟨by decide +kernel, by decide +kernel⟩
theorem g7 : ((⟨#[105, 58, 105]⟩ : ByteArray).size < 1000 ∧ (cutA ⟨#[105, 58, 105]⟩).size ≤ 1000 ∧ (cutB ⟨#[105, 58, 105]⟩).size ≤ 1000) ∧ apartB 7 2 ⟨#[105, 58, 105]⟩ = true := ⟨by decide +kernel, by decide +kernel⟩
theorem g8 : ((⟨#[105, 58, 108]⟩ : ByteArray).size < 1000 ∧ (cutA ⟨#[105, 58, 108]⟩).size ≤ 1000 ∧ (cutB ⟨#[105, 58, 108]⟩).size ≤ 1000) ∧ apartB 7 3 ⟨#[105, 58, 108]⟩ = true := ⟨by decide +kernel, by decide +kernel⟩
theorem g9 : ((⟨#[105, 58, 105]⟩ : ByteArray).size < 1000 ∧ (cutA ⟨#[105, 58, 105]⟩).size ≤ 1000 ∧ (cutB ⟨#[105, 58, 105]⟩).size ≤ 1000) ∧ apartB 7 0 ⟨#[105, 58, 105]⟩ = true := ⟨by decide +kernel, by decide +kernel⟩
theorem g10 : ((⟨#[105, 58, 105]⟩ : ByteArray).size < 1000 ∧ (cutA ⟨#[105, 58, 105]⟩).size ≤ 1000 ∧ (cutB ⟨#[105, 58, 105]⟩).size ≤ 1000) ∧ apartB 7 1 ⟨#[105, 58, 105]⟩ = true := ⟨by decide +kernel, by decide +kernel⟩
theorem g11 : ((⟨#[105, 58, 108]⟩ : ByteArray).size < 1000 ∧ (cutA ⟨#[105, 58, 108]⟩).size ≤ 1000 ∧ (cutB ⟨#[105, 58, 108]⟩).size ≤ 1000) ∧ apartB 7 0 ⟨#[105, 58, 108]⟩ = true := ⟨by decide +kernel, by decide +kernel⟩
theorem g12 : ((⟨#[105, 58, 108]⟩ : ByteArray).size < 1000 ∧ (cutA ⟨#[105, 58, 108]⟩).size ≤ 1000 ∧ (cutB ⟨#[105, 58, 108]⟩).size ≤ 1000) ∧ apartB 7 1 ⟨#[105, 58, 108]⟩ = true := ⟨by decide +kernel, by decide +kernel⟩
theorem g13 : ((⟨#[105, 58, 108]⟩ : ByteArray).size < 1000 ∧ (cutA ⟨#[105, 58, 108]⟩).size ≤ 1000 ∧ (cutB ⟨#[105, 58, 108]⟩).size ≤ 1000) ∧ apartB 7 2 ⟨#[105, 58, 108]⟩ = true := ⟨by decide +kernel, by decide +kernel⟩
theorem g14 : ((⟨#[105, 105, 58]⟩ : ByteArray).size < 1000 ∧ (cutA ⟨#[105, 105, 58]⟩).size ≤ 1000 ∧ (cutB ⟨#[105, 105, 58]⟩).size ≤ 1000) ∧ apartB 7 2 ⟨#[105, 105, 58]⟩ = true := ⟨by decide +kernel, by decide +kernel⟩
theorem g15 : ((⟨#[105, 108, 58]⟩ : ByteArray).size < 1000 ∧ (cutA ⟨#[105, 108, 58]⟩).size ≤ 1000 ∧ (cutB ⟨#[105, 108, 58]⟩).size ≤ 1000) ∧ apartB 7 3 ⟨#[105, 108, 58]⟩ = true := ⟨by decide +kernel, by decide +kernel⟩
theorem g16 : ((⟨#[105, 105, 58]⟩ : ByteArray).size < 1000 ∧ (cutA ⟨#[105, 105, 58]⟩).size ≤ 1000 ∧ (cutB ⟨#[105, 105, 58]⟩).size ≤ 1000) ∧ apartB 7 0 ⟨#[105, 105, 58]⟩ = true := ⟨by decide +kernel, by decide +kernel⟩
theorem g17 : ((⟨#[105, 105, 58]⟩ : ByteArray).size < 1000 ∧ (cutA ⟨#[105, 105, 58]⟩).size ≤ 1000 ∧ (cutB ⟨#[105, 105, 58]⟩).size ≤ 1000) ∧ apartB 7 1 ⟨#[105, 105, 58]⟩ = true := ⟨by decide +kernel, by decide +kernel⟩
theorem g18 : ((⟨#[105, 108, 58]⟩ : ByteArray).size < 1000 ∧ (cutA ⟨#[105, 108, 58]⟩).size ≤ 1000 ∧ (cutB ⟨#[105, 108, 58]⟩).size ≤ 1000) ∧ apartB 7 0 ⟨#[105, 108, 58]⟩ = true := ⟨by decide +kernel, by decide +kernel⟩
theorem g19 : ((⟨#[105, 108, 58]⟩ : ByteArray).size < 1000 ∧ (cutA ⟨#[105, 108, 58]⟩).size ≤ 1000 ∧ (cutB ⟨#[105, 108, 58]⟩).size ≤ 1000) ∧ apartB 7 1 ⟨#[105, 108, 58]⟩ = true := ⟨by decide +kernel, by decide +kernel⟩
theorem g20 : ((⟨#[105, 108, 58]⟩ : ByteArray).size < 1000 ∧ (cutA ⟨#[105, 108, 58]⟩).size ≤ 1000 ∧ (cutB ⟨#[105, 108, 58]⟩).size ≤ 1000) ∧ apartB 7 2 ⟨#[105, 108, 58]⟩ = true := ⟨by decide +kernel, by decide +kernel⟩
theorem g21 : ((⟨#[58, 105]⟩ : ByteArray).size < 1000 ∧ (cutA ⟨#[58, 105]⟩).size ≤ 1000 ∧ (cutB ⟨#[58, 105]⟩).size ≤ 1000) ∧ apartB 14 0 ⟨#[58, 105]⟩ = true := ⟨by decide +kernel, by decide +kernel⟩
theorem g22 : ((⟨#[105, 58, 105]⟩ : ByteArray).size < 1000 ∧ (cutA ⟨#[105, 58, 105]⟩).size ≤ 1000 ∧ (cutB ⟨#[105, 58, 105]⟩).size ≤ 1000) ∧ apartB 14 0 ⟨#[105, 58, 105]⟩ = true := ⟨by decide +kernel, by decide +kernel⟩
theorem g23 : ((⟨#[58, 105]⟩ : ByteArray).size < 1000 ∧ (cutA ⟨#[58, 105]⟩).size ≤ 1000 ∧ (cutB ⟨#[58, 105]⟩).size ≤ 1000) ∧ apartB 9 0 ⟨#[58, 105]⟩ = true := ⟨by decide +kernel, by decide +kernel⟩
theorem g24 : ((⟨#[58, 108]⟩ : ByteArray).size < 1000 ∧ (cutA ⟨#[58, 108]⟩).size ≤ 1000 ∧ (cutB ⟨#[58, 108]⟩).size ≤ 1000) ∧ apartB 10 0 ⟨#[58, 108]⟩ = true := ⟨by decide +kernel, by decide +kernel⟩
theorem g25 : ((⟨#[105, 58, 105]⟩ : ByteArray).size < 1000 ∧ (cutA ⟨#[105, 58, 105]⟩).size ≤ 1000 ∧ (cutB ⟨#[105, 58, 105]⟩).size ≤ 1000) ∧ apartB 1 0 ⟨#[105, 58, 105]⟩ = true := ⟨by decide +kernel, by decide +kernel⟩
theorem g26 : ((⟨#[105, 105, 58, 105]⟩ : ByteArray).size < 1000 ∧ (cutA ⟨#[105, 105, 58, 105]⟩).size ≤ 1000 ∧ (cutB ⟨#[105, 105, 58, 105]⟩).size ≤ 1000) ∧ apartB 1 0 ⟨#[105, 105, 58, 105]⟩ = true := ⟨by decide +kernel, by decide +kernel⟩
theorem g27 : ((⟨#[108, 58, 105]⟩ : ByteArray).size < 1000 ∧ (cutA ⟨#[108, 58, 105]⟩).size ≤ 1000 ∧ (cutB ⟨#[108, 58, 105]⟩).size ≤ 1000) ∧ apartB 1 0 ⟨#[108, 58, 105]⟩ = true := ⟨by decide +kernel, by decide +kernel⟩
theorem g28 : ((⟨#[108, 108, 58, 105]⟩ : ByteArray).size < 1000 ∧ (cutA ⟨#[108, 108, 58, 105]⟩).size ≤ 1000 ∧ (cutB ⟨#[108, 108, 58, 105]⟩).size ≤ 1000) ∧ apartB 1 0 ⟨#[108, 108, 58, 105]⟩ = true := ⟨by decide +kernel, by decide +kernel⟩
theorem g29 : ((⟨#[108, 58, 108]⟩ : ByteArray).size < 1000 ∧ (cutA ⟨#[108, 58, 108]⟩).size ≤ 1000 ∧ (cutB ⟨#[108, 58, 108]⟩).size ≤ 1000) ∧ apartB 1 0 ⟨#[108, 58, 108]⟩ = true := ⟨by decide +kernel, by decide +kernel⟩
theorem g30 : ((⟨#[108, 108, 58, 108]⟩ : ByteArray).size < 1000 ∧ (cutA ⟨#[108, 108, 58, 108]⟩).size ≤ 1000 ∧ (cutB ⟨#[108, 108, 58, 108]⟩).size ≤ 1000) ∧ apartB 1 0 ⟨#[108, 108, 58, 108]⟩ = true := ⟨by decide +kernel, by decide +kernel⟩
theorem g31 : ((⟨#[105, 58, 108]⟩ : ByteArray).size < 1000 ∧ (cutA ⟨#[105, 58, 108]⟩).size ≤ 1000 ∧ (cutB ⟨#[105, 58, 108]⟩).size ≤ 1000) ∧ apartB 1 0 ⟨#[105, 58, 108]⟩ = true := ⟨by decide +kernel, by decide +kernel⟩
theorem g32 : ((⟨#[105, 58, 118]⟩ : ByteArray).size < 1000 ∧ (cutA ⟨#[105, 58, 118]⟩).size ≤ 1000 ∧ (cutB ⟨#[105, 58, 118]⟩).size ≤ 1000) ∧ apartB 7 4 ⟨#[105, 58, 118]⟩ = true := ⟨by decide +kernel, by decide +kernel⟩
theorem g33 : ((⟨#[105, 58, 118]⟩ : ByteArray).size < 1000 ∧ (cutA ⟨#[105, 58, 118]⟩).size ≤ 1000 ∧ (cutB ⟨#[105, 58, 118]⟩).size ≤ 1000) ∧ apartB 7 3 ⟨#[105, 58, 118]⟩ = true := ⟨by decide +kernel, by decide +kernel⟩
theorem g34 : ((⟨#[105, 58, 118]⟩ : ByteArray).size < 1000 ∧ (cutA ⟨#[105, 58, 118]⟩).size ≤ 1000 ∧ (cutB ⟨#[105, 58, 118]⟩).size ≤ 1000) ∧ apartB 7 0 ⟨#[105, 58, 118]⟩ = true := ⟨by decide +kernel, by decide +kernel⟩
theorem g35 : ((⟨#[105, 58, 118]⟩ : ByteArray).size < 1000 ∧ (cutA ⟨#[105, 58, 118]⟩).size ≤ 1000 ∧ (cutB ⟨#[105, 58, 118]⟩).size ≤ 1000) ∧ apartB 7 1 ⟨#[105, 58, 118]⟩ = true := ⟨by decide +kernel, by decide +kernel⟩
theorem g36 : ((⟨#[105, 58, 118]⟩ : ByteArray).size < 1000 ∧ (cutA ⟨#[105, 58, 118]⟩).size ≤ 1000 ∧ (cutB ⟨#[105, 58, 118]⟩).size ≤ 1000) ∧ apartB 7 2 ⟨#[105, 58, 118]⟩ = true := ⟨by decide +kernel, by decide +kernel⟩
theorem g37 : ((⟨#[105, 118, 58]⟩ : ByteArray).size < 1000 ∧ (cutA ⟨#[105, 118, 58]⟩).size ≤ 1000 ∧ (cutB ⟨#[105, 118, 58]⟩).size ≤ 1000) ∧ apartB 7 4 ⟨#[105, 118, 58]⟩ = true := ⟨by decide +kernel, by decide +kernel⟩
theorem g38 : ((⟨#[58, 118]⟩ : ByteArray).size < 1000 ∧ (cutA ⟨#[58, 118]⟩).size ≤ 1000 ∧ (cutB ⟨#[58, 118]⟩).size ≤ 1000) ∧ apartB 11 0 ⟨#[58, 118]⟩ = true := ⟨by decide +kernel, by decide +kernel⟩
theorem g39 : ((⟨#[118, 118, 58, 118]⟩ : ByteArray).size < 1000 ∧ (cutA ⟨#[118, 118, 58, 118]⟩).size ≤ 1000 ∧ (cutB ⟨#[118, 118, 58, 118]⟩).size ≤ 1000) ∧ apartB 12 0 ⟨#[118, 118, 58, 118]⟩ = true := ⟨by decide +kernel, by decide +kernel⟩
theorem g40 : ((⟨#[118, 118, 58, 118]⟩ : ByteArray).size < 1000 ∧ (cutA ⟨#[118, 118, 58, 118]⟩).size ≤ 1000 ∧ (cutB ⟨#[118, 118, 58, 118]⟩).size ≤ 1000) ∧ apartB 1 0 ⟨#[118, 118, 58, 118]⟩ = true := ⟨by decide +kernel, by decide +kernel⟩
theorem g41 : ((⟨#[105, 58, 118]⟩ : ByteArray).size < 1000 ∧ (cutA ⟨#[105, 58, 118]⟩).size ≤ 1000 ∧ (cutB ⟨#[105, 58, 118]⟩).size ≤ 1000) ∧ apartB 1 0 ⟨#[105, 58, 118]⟩ = true := ⟨by decide +kernel, by decide +kernel⟩
theorem g42 : ((⟨#[108, 58, 118]⟩ : ByteArray).size < 1000 ∧ (cutA ⟨#[108, 58, 118]⟩).size ≤ 1000 ∧ (cutB ⟨#[108, 58, 118]⟩).size ≤ 1000) ∧ apartB 1 0 ⟨#[108, 58, 118]⟩ = true := ⟨by decide +kernel, by decide +kernel⟩
theorem g43 : ((⟨#[118, 58, 105]⟩ : ByteArray).size < 1000 ∧ (cutA ⟨#[118, 58, 105]⟩).size ≤ 1000 ∧ (cutB ⟨#[118, 58, 105]⟩).size ≤ 1000) ∧ apartB 13 16 ⟨#[118, 58, 105]⟩ = true := ⟨by decide +kernel, by decide +kernel⟩
theorem g44 : ((⟨#[118, 105, 58, 118]⟩ : ByteArray).size < 1000 ∧ (cutA ⟨#[118, 105, 58, 118]⟩).size ≤ 1000 ∧ (cutB ⟨#[118, 105, 58, 118]⟩).size ≤ 1000) ∧ apartB 13 16 ⟨#[118, 105, 58, 118]⟩ = true := ⟨by decide +kernel, by decide +kernel⟩
theorem g45 : ((⟨#[118, 58, 105]⟩ : ByteArray).size < 1000 ∧ (cutA ⟨#[118, 58, 105]⟩).size ≤ 1000 ∧ (cutB ⟨#[118, 58, 105]⟩).size ≤ 1000) ∧ apartB 13 8 ⟨#[118, 58, 105]⟩ = true := ⟨by decide +kernel, by decide +kernel⟩
theorem g46 : ((⟨#[118, 105, 58, 118]⟩ : ByteArray).size < 1000 ∧ (cutA ⟨#[118, 105, 58, 118]⟩).size ≤ 1000 ∧ (cutB ⟨#[118, 105, 58, 118]⟩).size ≤ 1000) ∧ apartB 13 8 ⟨#[118, 105, 58, 118]⟩ = true := ⟨by decide +kernel, by decide +kernel⟩
theorem g47 : ((⟨#[118, 58, 105]⟩ : ByteArray).size < 1000 ∧ (cutA ⟨#[118, 58, 105]⟩).size ≤ 1000 ∧ (cutB ⟨#[118, 58, 105]⟩).size ≤ 1000) ∧ apartB 13 4 ⟨#[118, 58, 105]⟩ = true := ⟨by decide +kernel, by decide +kernel⟩
theorem g48 : ((⟨#[118, 105, 58, 118]⟩ : ByteArray).size < 1000 ∧ (cutA ⟨#[118, 105, 58, 118]⟩).size ≤ 1000 ∧ (cutB ⟨#[118, 105, 58, 118]⟩).size ≤ 1000) ∧ apartB 13 4 ⟨#[118, 105, 58, 118]⟩ = true := ⟨by decide +kernel, by decide +kernel⟩
theorem g49 : ((⟨#[118, 58, 108]⟩ : ByteArray).size < 1000 ∧ (cutA ⟨#[118, 58, 108]⟩).size ≤ 1000 ∧ (cutB ⟨#[118, 58, 108]⟩).size ≤ 1000) ∧ apartB 13 2 ⟨#[118, 58, 108]⟩ = true := ⟨by decide +kernel, by decide +kernel⟩
theorem g50 : ((⟨#[118, 108, 58, 118]⟩ : ByteArray).size < 1000 ∧ (cutA ⟨#[118, 108, 58, 118]⟩).size ≤ 1000 ∧ (cutB ⟨#[118, 108, 58, 118]⟩).size ≤ 1000) ∧ apartB 13 2 ⟨#[118, 108, 58, 118]⟩ = true := ⟨by decide +kernel, by decide +kernel⟩
theorem g51 : ((⟨#[118, 58, 118]⟩ : ByteArray).size < 1000 ∧ (cutA ⟨#[118, 58, 118]⟩).size ≤ 1000 ∧ (cutB ⟨#[118, 58, 118]⟩).size ≤ 1000) ∧ apartB 1 0 ⟨#[118, 58, 118]⟩ = true := ⟨by decide +kernel, by decide +kernel⟩
theorem g52 : ((⟨#[118, 118, 118, 58, 118]⟩ : ByteArray).size < 1000 ∧ (cutA ⟨#[118, 118, 118, 58, 118]⟩).size ≤ 1000 ∧ (cutB ⟨#[118, 118, 118, 58, 118]⟩).size ≤ 1000) ∧ apartB 1 0 ⟨#[118, 118, 118, 58, 118]⟩ = true := ⟨by decide +kernel, by decide +kernel⟩
theorem g53 : ((⟨#[118, 58, 105]⟩ : ByteArray).size < 1000 ∧ (cutA ⟨#[118, 58, 105]⟩).size ≤ 1000 ∧ (cutB ⟨#[118, 58, 105]⟩).size ≤ 1000) ∧ apartB 1 0 ⟨#[118, 58, 105]⟩ = true := ⟨by decide +kernel, by decide +kernel⟩
theorem g54 : ((⟨#[105, 118, 58, 118]⟩ : ByteArray).size < 1000 ∧ (cutA ⟨#[105, 118, 58, 118]⟩).size ≤ 1000 ∧ (cutB ⟨#[105, 118, 58, 118]⟩).size ≤ 1000) ∧ apartB 8 0 ⟨#[105, 118, 58, 118]⟩ = true := ⟨by decide +kernel, by decide +kernel⟩
theorem g55 : ((⟨#[105, 118, 58, 118]⟩ : ByteArray).size < 1000 ∧ (cutA ⟨#[105, 118, 58, 118]⟩).size ≤ 1000 ∧ (cutB ⟨#[105, 118, 58, 118]⟩).size ≤ 1000) ∧ apartB 8 1 ⟨#[105, 118, 58, 118]⟩ = true := ⟨by decide +kernel, by decide +kernel⟩
theorem g56 : ((⟨#[105, 118, 58, 118]⟩ : ByteArray).size < 1000 ∧ (cutA ⟨#[105, 118, 58, 118]⟩).size ≤ 1000 ∧ (cutB ⟨#[105, 118, 58, 118]⟩).size ≤ 1000) ∧ apartB 8 2 ⟨#[105, 118, 58, 118]⟩ = true := ⟨by decide +kernel, by decide +kernel⟩
theorem g57 : ((⟨#[105, 118, 58, 118]⟩ : ByteArray).size < 1000 ∧ (cutA ⟨#[105, 118, 58, 118]⟩).size ≤ 1000 ∧ (cutB ⟨#[105, 118, 58, 118]⟩).size ≤ 1000) ∧ apartB 8 3 ⟨#[105, 118, 58, 118]⟩ = true := ⟨by decide +kernel, by decide +kernel⟩
theorem g58 : ((⟨#[105, 118, 58]⟩ : ByteArray).size < 1000 ∧ (cutA ⟨#[105, 118, 58]⟩).size ≤ 1000 ∧ (cutB ⟨#[105, 118, 58]⟩).size ≤ 1000) ∧ apartB 8 0 ⟨#[105, 118, 58]⟩ = true := ⟨by decide +kernel, by decide +kernel⟩
theorem g59 : ((⟨#[105, 118, 58]⟩ : ByteArray).size < 1000 ∧ (cutA ⟨#[105, 118, 58]⟩).size ≤ 1000 ∧ (cutB ⟨#[105, 118, 58]⟩).size ≤ 1000) ∧ apartB 8 1 ⟨#[105, 118, 58]⟩ = true := ⟨by decide +kernel, by decide +kernel⟩
theorem g60 : ((⟨#[105, 118, 58]⟩ : ByteArray).size < 1000 ∧ (cutA ⟨#[105, 118, 58]⟩).size ≤ 1000 ∧ (cutB ⟨#[105, 118, 58]⟩).size ≤ 1000) ∧ apartB 8 2 ⟨#[105, 118, 58]⟩ = true := ⟨by decide +kernel, by decide +kernel⟩
theorem g61 : ((⟨#[105, 118, 58]⟩ : ByteArray).size < 1000 ∧ (cutA ⟨#[105, 118, 58]⟩).size ≤ 1000 ∧ (cutB ⟨#[105, 118, 58]⟩).size ≤ 1000) ∧ apartB 8 3 ⟨#[105, 118, 58]⟩ = true := ⟨by decide +kernel, by decide +kernel⟩
theorem g62 : ((⟨#[118, 105, 58, 118]⟩ : ByteArray).size < 1000 ∧ (cutA ⟨#[118, 105, 58, 118]⟩).size ≤ 1000 ∧ (cutB ⟨#[118, 105, 58, 118]⟩).size ≤ 1000) ∧ apartB 1 0 ⟨#[118, 105, 58, 118]⟩ = true := ⟨by decide +kernel, by decide +kernel⟩
theorem n0 : numB true 1 0 ⟨#[]⟩ = true := by decide +kernel
theorem n1 : numB true 1 0 ⟨#[58]⟩ = true := by decide +kernel
theorem n2 : numB true 2 0 ⟨#[]⟩ = true := by decide +kernel
theorem n3 : numB true 3 0 ⟨#[]⟩ = true := by decide +kernel
theorem n4 : numB true 4 0 ⟨#[]⟩ = true := by decide +kernel
theorem n5 : numB true 5 0 ⟨#[]⟩ = true := by decide +kernel
theorem n6 : numB true 6 0 ⟨#[]⟩ = true := by decide +kernel
theorem n7 : numB true 7 0 ⟨#[105, 58, 105]⟩ = true := by decide +kernel
theorem n8 : numB true 7 0 ⟨#[105, 58, 108]⟩ = true := by decide +kernel
theorem n9 : numB true 7 0 ⟨#[105, 105, 58]⟩ = true := by decide +kernel
theorem n10 : numB true 7 0 ⟨#[105, 108, 58]⟩ = true := by decide +kernel
theorem n11 : numB true 14 0 ⟨#[58, 105]⟩ = true := by decide +kernel
theorem n12 : numB true 14 0 ⟨#[105, 58, 105]⟩ = true := by decide +kernel
theorem n13 : numB true 9 0 ⟨#[58, 105]⟩ = true := by decide +kernel
theorem n14 : numB true 10 0 ⟨#[58, 108]⟩ = true := by decide +kernel
theorem n15 : numB true 1 1 ⟨#[105, 58, 105]⟩ = true := by decide +kernel
theorem n16 : numB true 1 2 ⟨#[105, 105, 58, 105]⟩ = true := by decide +kernel
theorem n17 : numB true 1 1 ⟨#[108, 58, 105]⟩ = true := by decide +kernel
theorem n18 : numB true 1 2 ⟨#[108, 108, 58, 105]⟩ = true := by decide +kernel
theorem n19 : numB true 1 1 ⟨#[108, 58, 108]⟩ = true := by decide +kernel
theorem n20 : numB true 1 2 ⟨#[108, 108, 58, 108]⟩ = true := by decide +kernel
theorem n21 : numB true 1 1 ⟨#[105, 58, 108]⟩ = true := by decide +kernel
theorem n22 : numB false 7 0 ⟨#[105, 58, 118]⟩ = true := by decide +kernel
theorem n23 : numB false 7 0 ⟨#[105, 118, 58]⟩ = true := by decide +kernel
theorem n24 : numB false 11 0 ⟨#[58, 118]⟩ = true := by decide +kernel
theorem n25 : numB false 12 0 ⟨#[118, 118, 58, 118]⟩ = true := by decide +kernel
theorem n26 : numB false 1 0 ⟨#[118, 118, 58, 118]⟩ = true := by decide +kernel
theorem n27 : numB false 1 0 ⟨#[105, 58, 118]⟩ = true := by decide +kernel
theorem n28 : numB false 1 0 ⟨#[108, 58, 118]⟩ = true := by decide +kernel
theorem n29 : numB false 13 0 ⟨#[118, 58, 105]⟩ = true := by decide +kernel
theorem n30 : numB false 13 0 ⟨#[118, 105, 58, 118]⟩ = true := by decide +kernel
theorem n31 : numB false 13 0 ⟨#[118, 58, 108]⟩ = true := by decide +kernel
theorem n32 : numB false 13 0 ⟨#[118, 108, 58, 118]⟩ = true := by decide +kernel
theorem n33 : numB false 1 0 ⟨#[118, 58, 118]⟩ = true := by decide +kernel
theorem n34 : numB false 1 0 ⟨#[118, 118, 118, 58, 118]⟩ = true := by decide +kernel
theorem n35 : numB false 1 0 ⟨#[118, 58, 105]⟩ = true := by decide +kernel
theorem n36 : numB false 8 0 ⟨#[105, 118, 58, 118]⟩ = true := by decide +kernel
theorem n37 : numB false 8 0 ⟨#[105, 118, 58]⟩ = true := by decide +kernel
theorem n38 : numB false 1 0 ⟨#[118, 105, 58, 118]⟩ = true := by decide +kernel
theorem row_0 (op : Int) (h1 : op ≤ -1) : (OFN op ∧ arI op = 0) ∨ ∃ f l s, OFY op f l s ∧ Good op f l s := by
 exact Or.inl ⟨fun w => of_sca0 _ _ _ (by omega) (fun w => top_control0 _ _ _ _ (by omega) (fun w => control_0 op (by omega) w) w) w, by unfold arI; rw [if_neg (by omega), if_neg (by omega)]⟩
theorem row_1 : (OFN 0 ∧ arI 0 = 0) ∨ ∃ f l s, OFY 0 f l s ∧ Good 0 f l s := by
 exact Or.inr ⟨1, 0, ⟨#[]⟩, fun w hm => of_sca _ _ _ _ (by omega) rfl g0.1.1 g0.1.2.1 g0.1.2.2 (fun w => top_control0 _ _ _ _ (by omega) (fun w => control_1 w) w) w hm, g0.1, g0.2, n0, by decide⟩
theorem row_2 : (OFN 1 ∧ arI 1 = 0) ∨ ∃ f l s, OFY 1 f l s ∧ Good 1 f l s := by
 exact Or.inr ⟨1, 0, ⟨#[58]⟩, fun w hm => of_sca _ _ _ _ (by omega) rfl g1.1.1 g1.1.2.1 g1.1.2.2 (fun w => top_control0 _ _ _ _ (by omega) (fun w => control_2 w) w) w hm, g1.1, g1.2, n1, by decide⟩
theorem row_3 : (OFN 2 ∧ arI 2 = 0) ∨ ∃ f l s, OFY 2 f l s ∧ Good 2 f l s := by
 exact Or.inr ⟨2, 0, ⟨#[]⟩, fun w hm => of_sca _ _ _ _ (by omega) rfl g2.1.1 g2.1.2.1 g2.1.2.2 (fun w => top_control0 _ _ _ _ (by omega) (fun w => control_3 w) w) w hm, g2.1, g2.2, n2, by decide⟩
theorem row_4 : (OFN 3 ∧ arI 3 = 0) ∨ ∃ f l s, OFY 3 f l s ∧ Good 3 f l s := by
 exact Or.inr ⟨2, 0, ⟨#[]⟩, fun w hm => of_sca _ _ _ _ (by omega) rfl g2.1.1 g2.1.2.1 g2.1.2.2 (fun w => top_control0 _ _ _ _ (by omega) (fun w => control_4 w) w) w hm, g2.1, g2.2, n2, by decide⟩
theorem row_5 : (OFN 4 ∧ arI 4 = 0) ∨ ∃ f l s, OFY 4 f l s ∧ Good 4 f l s := by
 exact Or.inr ⟨2, 0, ⟨#[]⟩, fun w hm => of_sca _ _ _ _ (by omega) rfl g2.1.1 g2.1.2.1 g2.1.2.2 (fun w => top_control0 _ _ _ _ (by omega) (fun w => control_5 w) w) w hm, g2.1, g2.2, n2, by decide⟩
theorem row_6 : (OFN 5 ∧ arI 5 = 0) ∨ ∃ f l s, OFY 5 f l s ∧ Good 5 f l s := by
 exact Or.inr ⟨1, 0, ⟨#[]⟩, fun w hm => of_sca _ _ _ _ (by omega) rfl g0.1.1 g0.1.2.1 g0.1.2.2 (fun w => top_control0 _ _ _ _ (by omega) (fun w => control_6 w) w) w hm, g0.1, g0.2, n0, by decide⟩
theorem row_7 (op : Int) (h0 : 6 ≤ op) (h1 : op ≤ 10) : (OFN op ∧ arI op = 0) ∨ ∃ f l s, OFY op f l s ∧ Good op f l s := by
 exact Or.inl ⟨fun w => of_sca0 _ _ _ (by omega) (fun w => top_control0 _ _ _ _ (by omega) (fun w => control_7 op (by omega) (by omega) w) w) w, by unfold arI; rw [if_neg (by omega), if_neg (by omega)]⟩
theorem row_8 : (OFN 11 ∧ arI 11 = 0) ∨ ∃ f l s, OFY 11 f l s ∧ Good 11 f l s := by
 exact Or.inr ⟨1, 0, ⟨#[]⟩, fun w hm => of_sca _ _ _ _ (by omega) rfl g0.1.1 g0.1.2.1 g0.1.2.2 (fun w => top_control0 _ _ _ _ (by omega) (fun w => control_8 w) w) w hm, g0.1, g0.2, n0, by decide⟩
theorem row_9 : (OFN 12 ∧ arI 12 = 0) ∨ ∃ f l s, OFY 12 f l s ∧ Good 12 f l s := by
 exact Or.inr ⟨3, 0, ⟨#[]⟩, fun w hm => of_sca _ _ _ _ (by omega) rfl g3.1.1 g3.1.2.1 g3.1.2.2 (fun w => top_control0 _ _ _ _ (by omega) (fun w => control_9 w) w) w hm, g3.1, g3.2, n3, by decide⟩
theorem row_10 : (OFN 13 ∧ arI 13 = 0) ∨ ∃ f l s, OFY 13 f l s ∧ Good 13 f l s := by
 exact Or.inr ⟨3, 0, ⟨#[]⟩, fun w hm => of_sca _ _ _ _ (by omega) rfl g3.1.1 g3.1.2.1 g3.1.2.2 (fun w => top_control0 _ _ _ _ (by omega) (fun w => control_10 w) w) w hm, g3.1, g3.2, n3, by decide⟩
theorem row_11 : (OFN 14 ∧ arI 14 = 0) ∨ ∃ f l s, OFY 14 f l s ∧ Good 14 f l s := by
 exact Or.inr ⟨4, 0, ⟨#[]⟩, fun w hm => of_sca _ _ _ _ (by omega) rfl g4.1.1 g4.1.2.1 g4.1.2.2 (fun w => top_control0 _ _ _ _ (by omega) (fun w => control_11 w) w) w hm, g4.1, g4.2, n4, by decide⟩
theorem row_12 : (OFN 15 ∧ arI 15 = 0) ∨ ∃ f l s, OFY 15 f l s ∧ Good 15 f l s := by
 exact Or.inr ⟨1, 0, ⟨#[]⟩, fun w hm => of_sca _ _ _ _ (by omega) rfl g0.1.1 g0.1.2.1 g0.1.2.2 (fun w => top_control0 _ _ _ _ (by omega) (fun w => control_12 w) w) w hm, g0.1, g0.2, n0, by decide⟩
theorem row_13 : (OFN 16 ∧ arI 16 = 0) ∨ ∃ f l s, OFY 16 f l s ∧ Good 16 f l s := by
 exact Or.inr ⟨5, 0, ⟨#[]⟩, fun w hm => of_sca _ _ _ _ (by omega) rfl g5.1.1 g5.1.2.1 g5.1.2.2 (fun w => top_control0 _ _ _ _ (by omega) (fun w => control_13 w) w) w hm, g5.1, g5.2, n5, by decide⟩
theorem row_14 : (OFN 17 ∧ arI 17 = 0) ∨ ∃ f l s, OFY 17 f l s ∧ Good 17 f l s := by
 exact Or.inr ⟨6, 0, ⟨#[]⟩, fun w hm => of_sca _ _ _ _ (by omega) rfl g6.1.1 g6.1.2.1 g6.1.2.2 (fun w => top_control0 _ _ _ _ (by omega) (fun w => control_14 w) w) w hm, g6.1, g6.2, n6, by decide⟩
theorem row_15 (op : Int) (h0 : 18 ≤ op) (h1 : op ≤ 25) : (OFN op ∧ arI op = 0) ∨ ∃ f l s, OFY op f l s ∧ Good op f l s := by
 exact Or.inl ⟨fun w => of_sca0 _ _ _ (by omega) (fun w => top_control0 _ _ _ _ (by omega) (fun w => control_15 op (by omega) (by omega) w) w) w, by unfold arI; rw [if_neg (by omega), if_neg (by omega)]⟩
theorem row_16 : (OFN 26 ∧ arI 26 = 0) ∨ ∃ f l s, OFY 26 f l s ∧ Good 26 f l s := by
 exact Or.inr ⟨1, 0, ⟨#[]⟩, fun w hm => of_sca _ _ _ _ (by omega) rfl g0.1.1 g0.1.2.1 g0.1.2.2 (fun w => top_control0 _ _ _ _ (by omega) (fun w => control_16 w) w) w hm, g0.1, g0.2, n0, by decide⟩
theorem row_17 : (OFN 27 ∧ arI 27 = 0) ∨ ∃ f l s, OFY 27 f l s ∧ Good 27 f l s := by
 exact Or.inr ⟨1, 0, ⟨#[]⟩, fun w hm => of_sca _ _ _ _ (by omega) rfl g0.1.1 g0.1.2.1 g0.1.2.2 (fun w => top_control0 _ _ _ _ (by omega) (fun w => control_17 w) w) w hm, g0.1, g0.2, n0, by decide⟩
theorem row_18 (op : Int) (h0 : 28 ≤ op) (h1 : op ≤ 31) : (OFN op ∧ arI op = 0) ∨ ∃ f l s, OFY op f l s ∧ Good op f l s := by
 exact Or.inl ⟨fun w => of_sca0 _ _ _ (by omega) (fun w => top_control0 _ _ _ _ (by omega) (fun w => control_18 op (by omega) (by omega) w) w) w, by unfold arI; rw [if_neg (by omega), if_neg (by omega)]⟩
theorem row_19 : (OFN 32 ∧ arI 32 = 0) ∨ ∃ f l s, OFY 32 f l s ∧ Good 32 f l s := by
 exact Or.inr ⟨5, 0, ⟨#[]⟩, fun w hm => of_sca _ _ _ _ (by omega) rfl g5.1.1 g5.1.2.1 g5.1.2.2 (fun w => top_control0 _ _ _ _ (by omega) (fun w => control_19 w) w) w hm, g5.1, g5.2, n5, by decide⟩
theorem row_20 : (OFN 33 ∧ arI 33 = 0) ∨ ∃ f l s, OFY 33 f l s ∧ Good 33 f l s := by
 exact Or.inr ⟨5, 0, ⟨#[]⟩, fun w hm => of_sca _ _ _ _ (by omega) rfl g5.1.1 g5.1.2.1 g5.1.2.2 (fun w => top_control0 _ _ _ _ (by omega) (fun w => control_20 w) w) w hm, g5.1, g5.2, n5, by decide⟩
theorem row_21 : (OFN 34 ∧ arI 34 = 0) ∨ ∃ f l s, OFY 34 f l s ∧ Good 34 f l s := by
 exact Or.inr ⟨5, 0, ⟨#[]⟩, fun w hm => of_sca _ _ _ _ (by omega) rfl g5.1.1 g5.1.2.1 g5.1.2.2 (fun w => top_control0 _ _ _ _ (by omega) (fun w => control_21 w) w) w hm, g5.1, g5.2, n5, by decide⟩
theorem row_22 : (OFN 35 ∧ arI 35 = 0) ∨ ∃ f l s, OFY 35 f l s ∧ Good 35 f l s := by
 exact Or.inr ⟨5, 0, ⟨#[]⟩, fun w hm => of_sca _ _ _ _ (by omega) rfl g5.1.1 g5.1.2.1 g5.1.2.2 (fun w => top_control0 _ _ _ _ (by omega) (fun w => control_22 w) w) w hm, g5.1, g5.2, n5, by decide⟩
theorem row_23 : (OFN 36 ∧ arI 36 = 0) ∨ ∃ f l s, OFY 36 f l s ∧ Good 36 f l s := by
 exact Or.inr ⟨5, 0, ⟨#[]⟩, fun w hm => of_sca _ _ _ _ (by omega) rfl g5.1.1 g5.1.2.1 g5.1.2.2 (fun w => top_control0 _ _ _ _ (by omega) (fun w => control_23 w) w) w hm, g5.1, g5.2, n5, by decide⟩
theorem row_24 (op : Int) (h0 : 37 ≤ op) (h1 : op ≤ 39) : (OFN op ∧ arI op = 0) ∨ ∃ f l s, OFY op f l s ∧ Good op f l s := by
 exact Or.inl ⟨fun w => of_sca0 _ _ _ (by omega) (fun w => top_control0 _ _ _ _ (by omega) (fun w => control_24 op (by omega) (by omega) w) w) w, by unfold arI; rw [if_neg (by omega), if_neg (by omega)]⟩
theorem row_25 : (OFN 40 ∧ arI 40 = 0) ∨ ∃ f l s, OFY 40 f l s ∧ Good 40 f l s := by
 exact Or.inr ⟨7, 2, ⟨#[105, 58, 105]⟩, fun w hm => of_sca _ _ _ _ (by omega) rfl g7.1.1 g7.1.2.1 g7.1.2.2 (fun w => top_access0 _ _ _ _ (by omega) (by omega) (fun w => access_0 w) w) w hm, g7.1, g7.2, n7, by decide⟩
theorem row_26 : (OFN 41 ∧ arI 41 = 0) ∨ ∃ f l s, OFY 41 f l s ∧ Good 41 f l s := by
 exact Or.inr ⟨7, 3, ⟨#[105, 58, 108]⟩, fun w hm => of_sca _ _ _ _ (by omega) rfl g8.1.1 g8.1.2.1 g8.1.2.2 (fun w => top_access0 _ _ _ _ (by omega) (by omega) (fun w => access_1 w) w) w hm, g8.1, g8.2, n8, by decide⟩
theorem row_27 (op : Int) (h0 : 42 ≤ op) (h1 : op ≤ 43) : (OFN op ∧ arI op = 0) ∨ ∃ f l s, OFY op f l s ∧ Good op f l s := by
 exact Or.inl ⟨fun w => of_sca0 _ _ _ (by omega) (fun w => top_access0 _ _ _ _ (by omega) (by omega) (fun w => access_2 op (by omega) (by omega) w) w) w, by unfold arI; rw [if_neg (by omega), if_neg (by omega)]⟩
theorem row_28 : (OFN 44 ∧ arI 44 = 0) ∨ ∃ f l s, OFY 44 f l s ∧ Good 44 f l s := by
 exact Or.inr ⟨7, 0, ⟨#[105, 58, 105]⟩, fun w hm => of_sca _ _ _ _ (by omega) rfl g9.1.1 g9.1.2.1 g9.1.2.2 (fun w => top_access0 _ _ _ _ (by omega) (by omega) (fun w => access_3 w) w) w hm, g9.1, g9.2, n7, by decide⟩
theorem row_29 : (OFN 45 ∧ arI 45 = 0) ∨ ∃ f l s, OFY 45 f l s ∧ Good 45 f l s := by
 exact Or.inr ⟨7, 0, ⟨#[105, 58, 105]⟩, fun w hm => of_sca _ _ _ _ (by omega) rfl g9.1.1 g9.1.2.1 g9.1.2.2 (fun w => top_access0 _ _ _ _ (by omega) (by omega) (fun w => access_4 w) w) w hm, g9.1, g9.2, n7, by decide⟩
theorem row_30 : (OFN 46 ∧ arI 46 = 0) ∨ ∃ f l s, OFY 46 f l s ∧ Good 46 f l s := by
 exact Or.inr ⟨7, 1, ⟨#[105, 58, 105]⟩, fun w hm => of_sca _ _ _ _ (by omega) rfl g10.1.1 g10.1.2.1 g10.1.2.2 (fun w => top_access0 _ _ _ _ (by omega) (by omega) (fun w => access_5 w) w) w hm, g10.1, g10.2, n7, by decide⟩
theorem row_31 : (OFN 47 ∧ arI 47 = 0) ∨ ∃ f l s, OFY 47 f l s ∧ Good 47 f l s := by
 exact Or.inr ⟨7, 1, ⟨#[105, 58, 105]⟩, fun w hm => of_sca _ _ _ _ (by omega) rfl g10.1.1 g10.1.2.1 g10.1.2.2 (fun w => top_access0 _ _ _ _ (by omega) (by omega) (fun w => access_6 w) w) w hm, g10.1, g10.2, n7, by decide⟩
theorem row_32 : (OFN 48 ∧ arI 48 = 0) ∨ ∃ f l s, OFY 48 f l s ∧ Good 48 f l s := by
 exact Or.inr ⟨7, 0, ⟨#[105, 58, 108]⟩, fun w hm => of_sca _ _ _ _ (by omega) rfl g11.1.1 g11.1.2.1 g11.1.2.2 (fun w => top_access0 _ _ _ _ (by omega) (by omega) (fun w => access_7 w) w) w hm, g11.1, g11.2, n8, by decide⟩
theorem row_33 : (OFN 49 ∧ arI 49 = 0) ∨ ∃ f l s, OFY 49 f l s ∧ Good 49 f l s := by
 exact Or.inr ⟨7, 0, ⟨#[105, 58, 108]⟩, fun w hm => of_sca _ _ _ _ (by omega) rfl g11.1.1 g11.1.2.1 g11.1.2.2 (fun w => top_access0 _ _ _ _ (by omega) (by omega) (fun w => access_8 w) w) w hm, g11.1, g11.2, n8, by decide⟩
theorem row_34 : (OFN 50 ∧ arI 50 = 0) ∨ ∃ f l s, OFY 50 f l s ∧ Good 50 f l s := by
 exact Or.inr ⟨7, 1, ⟨#[105, 58, 108]⟩, fun w hm => of_sca _ _ _ _ (by omega) rfl g12.1.1 g12.1.2.1 g12.1.2.2 (fun w => top_access0 _ _ _ _ (by omega) (by omega) (fun w => access_9 w) w) w hm, g12.1, g12.2, n8, by decide⟩
theorem row_35 : (OFN 51 ∧ arI 51 = 0) ∨ ∃ f l s, OFY 51 f l s ∧ Good 51 f l s := by
 exact Or.inr ⟨7, 1, ⟨#[105, 58, 108]⟩, fun w hm => of_sca _ _ _ _ (by omega) rfl g12.1.1 g12.1.2.1 g12.1.2.2 (fun w => top_access0 _ _ _ _ (by omega) (by omega) (fun w => access_10 w) w) w hm, g12.1, g12.2, n8, by decide⟩
theorem row_36 : (OFN 52 ∧ arI 52 = 0) ∨ ∃ f l s, OFY 52 f l s ∧ Good 52 f l s := by
 exact Or.inr ⟨7, 2, ⟨#[105, 58, 108]⟩, fun w hm => of_sca _ _ _ _ (by omega) rfl g13.1.1 g13.1.2.1 g13.1.2.2 (fun w => top_access0 _ _ _ _ (by omega) (by omega) (fun w => access_11 w) w) w hm, g13.1, g13.2, n8, by decide⟩
theorem row_37 : (OFN 53 ∧ arI 53 = 0) ∨ ∃ f l s, OFY 53 f l s ∧ Good 53 f l s := by
 exact Or.inr ⟨7, 2, ⟨#[105, 58, 108]⟩, fun w hm => of_sca _ _ _ _ (by omega) rfl g13.1.1 g13.1.2.1 g13.1.2.2 (fun w => top_access0 _ _ _ _ (by omega) (by omega) (fun w => access_12 w) w) w hm, g13.1, g13.2, n8, by decide⟩
theorem row_38 : (OFN 54 ∧ arI 54 = 0) ∨ ∃ f l s, OFY 54 f l s ∧ Good 54 f l s := by
 exact Or.inr ⟨7, 2, ⟨#[105, 105, 58]⟩, fun w hm => of_sca _ _ _ _ (by omega) rfl g14.1.1 g14.1.2.1 g14.1.2.2 (fun w => top_access0 _ _ _ _ (by omega) (by omega) (fun w => access_13 w) w) w hm, g14.1, g14.2, n9, by decide⟩
theorem row_39 : (OFN 55 ∧ arI 55 = 0) ∨ ∃ f l s, OFY 55 f l s ∧ Good 55 f l s := by
 exact Or.inr ⟨7, 3, ⟨#[105, 108, 58]⟩, fun w hm => of_sca _ _ _ _ (by omega) rfl g15.1.1 g15.1.2.1 g15.1.2.2 (fun w => top_access0 _ _ _ _ (by omega) (by omega) (fun w => access_14 w) w) w hm, g15.1, g15.2, n10, by decide⟩
theorem row_40 (op : Int) (h0 : 56 ≤ op) (h1 : op ≤ 57) : (OFN op ∧ arI op = 0) ∨ ∃ f l s, OFY op f l s ∧ Good op f l s := by
 exact Or.inl ⟨fun w => of_sca0 _ _ _ (by omega) (fun w => top_access0 _ _ _ _ (by omega) (by omega) (fun w => access_15 op (by omega) (by omega) w) w) w, by unfold arI; rw [if_neg (by omega), if_neg (by omega)]⟩
theorem row_41 : (OFN 58 ∧ arI 58 = 0) ∨ ∃ f l s, OFY 58 f l s ∧ Good 58 f l s := by
 exact Or.inr ⟨7, 0, ⟨#[105, 105, 58]⟩, fun w hm => of_sca _ _ _ _ (by omega) rfl g16.1.1 g16.1.2.1 g16.1.2.2 (fun w => top_access0 _ _ _ _ (by omega) (by omega) (fun w => access_16 w) w) w hm, g16.1, g16.2, n9, by decide⟩
theorem row_42 : (OFN 59 ∧ arI 59 = 0) ∨ ∃ f l s, OFY 59 f l s ∧ Good 59 f l s := by
 exact Or.inr ⟨7, 1, ⟨#[105, 105, 58]⟩, fun w hm => of_sca _ _ _ _ (by omega) rfl g17.1.1 g17.1.2.1 g17.1.2.2 (fun w => top_access0 _ _ _ _ (by omega) (by omega) (fun w => access_17 w) w) w hm, g17.1, g17.2, n9, by decide⟩
theorem row_43 : (OFN 60 ∧ arI 60 = 0) ∨ ∃ f l s, OFY 60 f l s ∧ Good 60 f l s := by
 exact Or.inr ⟨7, 0, ⟨#[105, 108, 58]⟩, fun w hm => of_sca _ _ _ _ (by omega) rfl g18.1.1 g18.1.2.1 g18.1.2.2 (fun w => top_access0 _ _ _ _ (by omega) (by omega) (fun w => access_18 w) w) w hm, g18.1, g18.2, n10, by decide⟩
theorem row_44 : (OFN 61 ∧ arI 61 = 0) ∨ ∃ f l s, OFY 61 f l s ∧ Good 61 f l s := by
 exact Or.inr ⟨7, 1, ⟨#[105, 108, 58]⟩, fun w hm => of_sca _ _ _ _ (by omega) rfl g19.1.1 g19.1.2.1 g19.1.2.2 (fun w => top_access0 _ _ _ _ (by omega) (by omega) (fun w => access_19 w) w) w hm, g19.1, g19.2, n10, by decide⟩
theorem row_45 : (OFN 62 ∧ arI 62 = 0) ∨ ∃ f l s, OFY 62 f l s ∧ Good 62 f l s := by
 exact Or.inr ⟨7, 2, ⟨#[105, 108, 58]⟩, fun w hm => of_sca _ _ _ _ (by omega) rfl g20.1.1 g20.1.2.1 g20.1.2.2 (fun w => top_access0 _ _ _ _ (by omega) (by omega) (fun w => access_20 w) w) w hm, g20.1, g20.2, n10, by decide⟩
theorem row_46 : (OFN 63 ∧ arI 63 = 0) ∨ ∃ f l s, OFY 63 f l s ∧ Good 63 f l s := by
 exact Or.inr ⟨14, 0, ⟨#[58, 105]⟩, fun w hm => of_sca _ _ _ _ (by omega) rfl g21.1.1 g21.1.2.1 g21.1.2.2 (fun w => top_63 w) w hm, g21.1, g21.2, n11, by decide⟩
theorem row_47 : (OFN 64 ∧ arI 64 = 0) ∨ ∃ f l s, OFY 64 f l s ∧ Good 64 f l s := by
 exact Or.inr ⟨14, 0, ⟨#[105, 58, 105]⟩, fun w hm => of_sca _ _ _ _ (by omega) rfl g22.1.1 g22.1.2.1 g22.1.2.2 (fun w => top_64 w) w hm, g22.1, g22.2, n12, by decide⟩
theorem row_48 : (OFN 65 ∧ arI 65 = 0) ∨ ∃ f l s, OFY 65 f l s ∧ Good 65 f l s := by
 exact Or.inr ⟨9, 0, ⟨#[58, 105]⟩, fun w hm => of_sca _ _ _ _ (by omega) rfl g23.1.1 g23.1.2.1 g23.1.2.2 (fun w => top_65 w) w hm, g23.1, g23.2, n13, by decide⟩
theorem row_49 : (OFN 66 ∧ arI 66 = 0) ∨ ∃ f l s, OFY 66 f l s ∧ Good 66 f l s := by
 exact Or.inr ⟨10, 0, ⟨#[58, 108]⟩, fun w hm => of_sca _ _ _ _ (by omega) rfl g24.1.1 g24.1.2.1 g24.1.2.2 (fun w => top_66 w) w hm, g24.1, g24.2, n14, by decide⟩
theorem row_50 (op : Int) (h0 : 67 ≤ op) (h1 : op ≤ 68) : (OFN op ∧ arI op = 0) ∨ ∃ f l s, OFY op f l s ∧ Good op f l s := by
 exact Or.inl ⟨fun w => of_sca0 _ _ _ (by omega) (fun w => top_control1 _ _ _ _ (by omega) (by omega) (fun w => control_25 op (by omega) (by omega) w) w) w, by unfold arI; rw [if_neg (by omega), if_neg (by omega)]⟩
theorem row_51 : (OFN 69 ∧ arI 69 = 0) ∨ ∃ f l s, OFY 69 f l s ∧ Good 69 f l s := by
 exact Or.inr ⟨1, 0, ⟨#[105, 58, 105]⟩, fun w hm => of_sca _ _ _ _ (by omega) rfl g25.1.1 g25.1.2.1 g25.1.2.2 (fun w => top_operator0 _ _ _ _ (by omega) (fun w => operator_0 w) w) w hm, g25.1, g25.2, n15, by decide⟩
theorem row_52 (op : Int) (h0 : 70 ≤ op) (h1 : op ≤ 79) : (OFN op ∧ arI op = 0) ∨ ∃ f l s, OFY op f l s ∧ Good op f l s := by
 have hl : decide (op < 197) = true := decide_eq_true (by omega)
 have ha : arI op = 2 := by unfold arI; rw [if_neg (by omega), if_pos (by omega)]
 exact Or.inr ⟨1, 0, ⟨#[105, 105, 58, 105]⟩, fun w hm => of_sca _ _ _ _ (by omega) rfl g26.1.1 g26.1.2.1 g26.1.2.2 (fun w => top_operator0 _ _ _ _ (by omega) (fun w => operator_1 op (by omega) (by omega) w) w) w hm, g26.1, g26.2, by rw [hl, ha]; exact n16, by unfold floatB; exact decide_eq_false (by unfold Flt; omega)⟩
theorem row_53 : (OFN 80 ∧ arI 80 = 0) ∨ ∃ f l s, OFY 80 f l s ∧ Good 80 f l s := by
 exact Or.inr ⟨1, 0, ⟨#[108, 58, 105]⟩, fun w hm => of_sca _ _ _ _ (by omega) rfl g27.1.1 g27.1.2.1 g27.1.2.2 (fun w => top_operator0 _ _ _ _ (by omega) (fun w => operator_2 w) w) w hm, g27.1, g27.2, n17, by decide⟩
theorem row_54 (op : Int) (h0 : 81 ≤ op) (h1 : op ≤ 90) : (OFN op ∧ arI op = 0) ∨ ∃ f l s, OFY op f l s ∧ Good op f l s := by
 have hl : decide (op < 197) = true := decide_eq_true (by omega)
 have ha : arI op = 2 := by unfold arI; rw [if_neg (by omega), if_pos (by omega)]
 exact Or.inr ⟨1, 0, ⟨#[108, 108, 58, 105]⟩, fun w hm => of_sca _ _ _ _ (by omega) rfl g28.1.1 g28.1.2.1 g28.1.2.2 (fun w => top_operator0 _ _ _ _ (by omega) (fun w => operator_3 op (by omega) (by omega) w) w) w hm, g28.1, g28.2, by rw [hl, ha]; exact n18, by unfold floatB; exact decide_eq_false (by unfold Flt; omega)⟩
theorem row_55 (op : Int) (h0 : 91 ≤ op) (h1 : op ≤ 102) : (OFN op ∧ arI op = 0) ∨ ∃ f l s, OFY op f l s ∧ Good op f l s := by
 exact Or.inl ⟨fun w => of_sca0 _ _ _ (by omega) (fun w => top_operator0 _ _ _ _ (by omega) (fun w => operator_4 op (by omega) (by omega) w) w) w, by unfold arI; rw [if_neg (by omega), if_neg (by omega)]⟩
theorem row_56 (op : Int) (h0 : 103 ≤ op) (h1 : op ≤ 105) : (OFN op ∧ arI op = 0) ∨ ∃ f l s, OFY op f l s ∧ Good op f l s := by
 have hl : decide (op < 197) = true := decide_eq_true (by omega)
 have ha : arI op = 1 := by unfold arI; rw [if_pos (by omega)]
 exact Or.inr ⟨1, 0, ⟨#[105, 58, 105]⟩, fun w hm => of_sca _ _ _ _ (by omega) rfl g25.1.1 g25.1.2.1 g25.1.2.2 (fun w => top_operator0 _ _ _ _ (by omega) (fun w => operator_5 op (by omega) (by omega) w) w) w hm, g25.1, g25.2, by rw [hl, ha]; exact n15, by unfold floatB; exact decide_eq_false (by unfold Flt; omega)⟩
theorem row_57 (op : Int) (h0 : 106 ≤ op) (h1 : op ≤ 120) : (OFN op ∧ arI op = 0) ∨ ∃ f l s, OFY op f l s ∧ Good op f l s := by
 have hl : decide (op < 197) = true := decide_eq_true (by omega)
 have ha : arI op = 2 := by unfold arI; rw [if_neg (by omega), if_pos (by omega)]
 exact Or.inr ⟨1, 0, ⟨#[105, 105, 58, 105]⟩, fun w hm => of_sca _ _ _ _ (by omega) rfl g26.1.1 g26.1.2.1 g26.1.2.2 (fun w => top_operator0 _ _ _ _ (by omega) (fun w => operator_6 op (by omega) (by omega) w) w) w hm, g26.1, g26.2, by rw [hl, ha]; exact n16, by unfold floatB; exact decide_eq_false (by unfold Flt; omega)⟩
theorem row_58 (op : Int) (h0 : 121 ≤ op) (h1 : op ≤ 123) : (OFN op ∧ arI op = 0) ∨ ∃ f l s, OFY op f l s ∧ Good op f l s := by
 have hl : decide (op < 197) = true := decide_eq_true (by omega)
 have ha : arI op = 1 := by unfold arI; rw [if_pos (by omega)]
 exact Or.inr ⟨1, 0, ⟨#[108, 58, 108]⟩, fun w hm => of_sca _ _ _ _ (by omega) rfl g29.1.1 g29.1.2.1 g29.1.2.2 (fun w => top_operator0 _ _ _ _ (by omega) (fun w => operator_7 op (by omega) (by omega) w) w) w hm, g29.1, g29.2, by rw [hl, ha]; exact n19, by unfold floatB; exact decide_eq_false (by unfold Flt; omega)⟩
theorem row_59 (op : Int) (h0 : 124 ≤ op) (h1 : op ≤ 138) : (OFN op ∧ arI op = 0) ∨ ∃ f l s, OFY op f l s ∧ Good op f l s := by
 have hl : decide (op < 197) = true := decide_eq_true (by omega)
 have ha : arI op = 2 := by unfold arI; rw [if_neg (by omega), if_pos (by omega)]
 exact Or.inr ⟨1, 0, ⟨#[108, 108, 58, 108]⟩, fun w hm => of_sca _ _ _ _ (by omega) rfl g30.1.1 g30.1.2.1 g30.1.2.2 (fun w => top_operator0 _ _ _ _ (by omega) (fun w => operator_8 op (by omega) (by omega) w) w) w hm, g30.1, g30.2, by rw [hl, ha]; exact n20, by unfold floatB; exact decide_eq_false (by unfold Flt; omega)⟩
theorem row_60 (op : Int) (h0 : 139 ≤ op) (h1 : op ≤ 166) : (OFN op ∧ arI op = 0) ∨ ∃ f l s, OFY op f l s ∧ Good op f l s := by
 exact Or.inl ⟨fun w => of_sca0 _ _ _ (by omega) (fun w => top_operator0 _ _ _ _ (by omega) (fun w => operator_9 op (by omega) (by omega) w) w) w, by unfold arI; rw [if_neg (by omega), if_neg (by omega)]⟩
theorem row_61 : (OFN 167 ∧ arI 167 = 0) ∨ ∃ f l s, OFY 167 f l s ∧ Good 167 f l s := by
 exact Or.inr ⟨1, 0, ⟨#[108, 58, 105]⟩, fun w hm => of_sca _ _ _ _ (by omega) rfl g27.1.1 g27.1.2.1 g27.1.2.2 (fun w => top_operator0 _ _ _ _ (by omega) (fun w => operator_10 w) w) w hm, g27.1, g27.2, n17, by decide⟩
theorem row_62 (op : Int) (h0 : 168 ≤ op) (h1 : op ≤ 171) : (OFN op ∧ arI op = 0) ∨ ∃ f l s, OFY op f l s ∧ Good op f l s := by
 exact Or.inl ⟨fun w => of_sca0 _ _ _ (by omega) (fun w => top_operator0 _ _ _ _ (by omega) (fun w => operator_11 op (by omega) (by omega) w) w) w, by unfold arI; rw [if_neg (by omega), if_neg (by omega)]⟩
theorem row_63 (op : Int) (h0 : 172 ≤ op) (h1 : op ≤ 173) : (OFN op ∧ arI op = 0) ∨ ∃ f l s, OFY op f l s ∧ Good op f l s := by
 have hl : decide (op < 197) = true := decide_eq_true (by omega)
 have ha : arI op = 1 := by unfold arI; rw [if_pos (by omega)]
 exact Or.inr ⟨1, 0, ⟨#[105, 58, 108]⟩, fun w hm => of_sca _ _ _ _ (by omega) rfl g31.1.1 g31.1.2.1 g31.1.2.2 (fun w => top_operator0 _ _ _ _ (by omega) (fun w => operator_12 op (by omega) (by omega) w) w) w hm, g31.1, g31.2, by rw [hl, ha]; exact n21, by unfold floatB; exact decide_eq_false (by unfold Flt; omega)⟩
theorem row_64 (op : Int) (h0 : 174 ≤ op) (h1 : op ≤ 191) : (OFN op ∧ arI op = 0) ∨ ∃ f l s, OFY op f l s ∧ Good op f l s := by
 exact Or.inl ⟨fun w => of_sca0 _ _ _ (by omega) (fun w => top_operator0 _ _ _ _ (by omega) (fun w => operator_13 op (by omega) (by omega) w) w) w, by unfold arI; rw [if_neg (by omega), if_neg (by omega)]⟩
theorem row_65 (op : Int) (h0 : 192 ≤ op) (h1 : op ≤ 193) : (OFN op ∧ arI op = 0) ∨ ∃ f l s, OFY op f l s ∧ Good op f l s := by
 have hl : decide (op < 197) = true := decide_eq_true (by omega)
 have ha : arI op = 1 := by unfold arI; rw [if_pos (by omega)]
 exact Or.inr ⟨1, 0, ⟨#[105, 58, 105]⟩, fun w hm => of_sca _ _ _ _ (by omega) rfl g25.1.1 g25.1.2.1 g25.1.2.2 (fun w => top_operator0 _ _ _ _ (by omega) (fun w => operator_14 op (by omega) (by omega) w) w) w hm, g25.1, g25.2, by rw [hl, ha]; exact n15, by unfold floatB; exact decide_eq_false (by unfold Flt; omega)⟩
theorem row_66 (op : Int) (h0 : 194 ≤ op) (h1 : op ≤ 196) : (OFN op ∧ arI op = 0) ∨ ∃ f l s, OFY op f l s ∧ Good op f l s := by
 have hl : decide (op < 197) = true := decide_eq_true (by omega)
 have ha : arI op = 1 := by unfold arI; rw [if_pos (by omega)]
 exact Or.inr ⟨1, 0, ⟨#[108, 58, 108]⟩, fun w hm => of_sca _ _ _ _ (by omega) rfl g29.1.1 g29.1.2.1 g29.1.2.2 (fun w => top_operator0 _ _ _ _ (by omega) (fun w => operator_15 op (by omega) (by omega) w) w) w hm, g29.1, g29.2, by rw [hl, ha]; exact n19, by unfold floatB; exact decide_eq_false (by unfold Flt; omega)⟩
theorem row_67 (op : Int) (h0 : 197 ≤ op) (h1 : op ≤ 64767) : (OFN op ∧ arI op = 0) ∨ ∃ f l s, OFY op f l s ∧ Good op f l s := by
 exact Or.inl ⟨fun w => of_sca0 _ _ _ (by omega) (fun w => top_operator0 _ _ _ _ (by omega) (fun w => operator_16 op (by omega) w) w) w, by unfold arI; rw [if_neg (by omega), if_neg (by omega)]⟩
theorem row_68 : (OFN 64768 ∧ arI 64768 = 0) ∨ ∃ f l s, OFY 64768 f l s ∧ Good 64768 f l s := by
 exact Or.inr ⟨7, 4, ⟨#[105, 58, 118]⟩, fun w hm => of_vec _ 0 _ _ _ (by omega) (by omega) (by omega) rfl g32.1.1 g32.1.2.1 g32.1.2.2 (fun w => top_va0 _ _ _ _ (by omega) (by omega) (fun w => va_0 w) w) w hm, g32.1, g32.2, n22, by decide⟩
theorem row_69 (op : Int) (h0 : 64769 ≤ op) (h1 : op ≤ 64774) : (OFN op ∧ arI op = 0) ∨ ∃ f l s, OFY op f l s ∧ Good op f l s := by
 have hl : decide (op < 197) = false := decide_eq_false (by omega)
 have ha : arI op = 0 := by unfold arI; rw [if_neg (by omega), if_neg (by omega)]
 exact Or.inr ⟨7, 3, ⟨#[105, 58, 118]⟩, fun w hm => of_vec _ (op - 64768) _ _ _ (by omega) (by omega) (by omega) rfl g33.1.1 g33.1.2.1 g33.1.2.2 (fun w => top_va0 _ _ _ _ (by omega) (by omega) (fun w => va_1 (op - 64768) (by omega) (by omega) w) w) w hm, g33.1, g33.2, by rw [hl, ha]; exact n22, by unfold floatB; exact decide_eq_false (by unfold Flt; omega)⟩
theorem row_70 : (OFN 64775 ∧ arI 64775 = 0) ∨ ∃ f l s, OFY 64775 f l s ∧ Good 64775 f l s := by
 exact Or.inr ⟨7, 0, ⟨#[105, 58, 118]⟩, fun w hm => of_vec _ 7 _ _ _ (by omega) (by omega) (by omega) rfl g34.1.1 g34.1.2.1 g34.1.2.2 (fun w => top_va0 _ _ _ _ (by omega) (by omega) (fun w => va_2 w) w) w hm, g34.1, g34.2, n22, by decide⟩
theorem row_71 : (OFN 64776 ∧ arI 64776 = 0) ∨ ∃ f l s, OFY 64776 f l s ∧ Good 64776 f l s := by
 exact Or.inr ⟨7, 1, ⟨#[105, 58, 118]⟩, fun w hm => of_vec _ 8 _ _ _ (by omega) (by omega) (by omega) rfl g35.1.1 g35.1.2.1 g35.1.2.2 (fun w => top_va0 _ _ _ _ (by omega) (by omega) (fun w => va_3 w) w) w hm, g35.1, g35.2, n22, by decide⟩
theorem row_72 : (OFN 64777 ∧ arI 64777 = 0) ∨ ∃ f l s, OFY 64777 f l s ∧ Good 64777 f l s := by
 exact Or.inr ⟨7, 2, ⟨#[105, 58, 118]⟩, fun w hm => of_vec _ 9 _ _ _ (by omega) (by omega) (by omega) rfl g36.1.1 g36.1.2.1 g36.1.2.2 (fun w => top_va0 _ _ _ _ (by omega) (by omega) (fun w => va_4 w) w) w hm, g36.1, g36.2, n22, by decide⟩
theorem row_73 : (OFN 64778 ∧ arI 64778 = 0) ∨ ∃ f l s, OFY 64778 f l s ∧ Good 64778 f l s := by
 exact Or.inr ⟨7, 3, ⟨#[105, 58, 118]⟩, fun w hm => of_vec _ 10 _ _ _ (by omega) (by omega) (by omega) rfl g33.1.1 g33.1.2.1 g33.1.2.2 (fun w => top_va0 _ _ _ _ (by omega) (by omega) (fun w => va_5 w) w) w hm, g33.1, g33.2, n22, by decide⟩
theorem row_74 : (OFN 64779 ∧ arI 64779 = 0) ∨ ∃ f l s, OFY 64779 f l s ∧ Good 64779 f l s := by
 exact Or.inr ⟨7, 4, ⟨#[105, 118, 58]⟩, fun w hm => of_vec _ 11 _ _ _ (by omega) (by omega) (by omega) rfl g37.1.1 g37.1.2.1 g37.1.2.2 (fun w => top_va0 _ _ _ _ (by omega) (by omega) (fun w => va_6 w) w) w hm, g37.1, g37.2, n23, by decide⟩
theorem row_75 : (OFN 64780 ∧ arI 64780 = 0) ∨ ∃ f l s, OFY 64780 f l s ∧ Good 64780 f l s := by
 exact Or.inr ⟨11, 0, ⟨#[58, 118]⟩, fun w hm => of_vec _ 12 _ _ _ (by omega) (by omega) (by omega) rfl g38.1.1 g38.1.2.1 g38.1.2.2 (fun w => top_vm0 _ _ _ _ (by omega) (by omega) (fun w => vm_0 w) w) w hm, g38.1, g38.2, n24, by decide⟩
theorem row_76 : (OFN 64781 ∧ arI 64781 = 0) ∨ ∃ f l s, OFY 64781 f l s ∧ Good 64781 f l s := by
 exact Or.inr ⟨12, 0, ⟨#[118, 118, 58, 118]⟩, fun w hm => of_vec _ 13 _ _ _ (by omega) (by omega) (by omega) rfl g39.1.1 g39.1.2.1 g39.1.2.2 (fun w => top_vm0 _ _ _ _ (by omega) (by omega) (fun w => vm_1 w) w) w hm, g39.1, g39.2, n25, by decide⟩
theorem row_77 : (OFN 64782 ∧ arI 64782 = 0) ∨ ∃ f l s, OFY 64782 f l s ∧ Good 64782 f l s := by
 exact Or.inr ⟨1, 0, ⟨#[118, 118, 58, 118]⟩, fun w hm => of_vec _ 14 _ _ _ (by omega) (by omega) (by omega) rfl g40.1.1 g40.1.2.1 g40.1.2.2 (fun w => top_vm0 _ _ _ _ (by omega) (by omega) (fun w => vm_2 w) w) w hm, g40.1, g40.2, n26, by decide⟩
theorem row_78 : (OFN 64783 ∧ arI 64783 = 0) ∨ ∃ f l s, OFY 64783 f l s ∧ Good 64783 f l s := by
 exact Or.inr ⟨1, 0, ⟨#[105, 58, 118]⟩, fun w hm => of_vec _ 15 _ _ _ (by omega) (by omega) (by omega) rfl g41.1.1 g41.1.2.1 g41.1.2.2 (fun w => top_vm0 _ _ _ _ (by omega) (by omega) (fun w => vm_3 w) w) w hm, g41.1, g41.2, n27, by decide⟩
theorem row_79 : (OFN 64784 ∧ arI 64784 = 0) ∨ ∃ f l s, OFY 64784 f l s ∧ Good 64784 f l s := by
 exact Or.inr ⟨1, 0, ⟨#[105, 58, 118]⟩, fun w hm => of_vec _ 16 _ _ _ (by omega) (by omega) (by omega) rfl g41.1.1 g41.1.2.1 g41.1.2.2 (fun w => top_vm0 _ _ _ _ (by omega) (by omega) (fun w => vm_4 w) w) w hm, g41.1, g41.2, n27, by decide⟩
theorem row_80 : (OFN 64785 ∧ arI 64785 = 0) ∨ ∃ f l s, OFY 64785 f l s ∧ Good 64785 f l s := by
 exact Or.inr ⟨1, 0, ⟨#[105, 58, 118]⟩, fun w hm => of_vec _ 17 _ _ _ (by omega) (by omega) (by omega) rfl g41.1.1 g41.1.2.1 g41.1.2.2 (fun w => top_vm0 _ _ _ _ (by omega) (by omega) (fun w => vm_5 w) w) w hm, g41.1, g41.2, n27, by decide⟩
theorem row_81 : (OFN 64786 ∧ arI 64786 = 0) ∨ ∃ f l s, OFY 64786 f l s ∧ Good 64786 f l s := by
 exact Or.inr ⟨1, 0, ⟨#[108, 58, 118]⟩, fun w hm => of_vec _ 18 _ _ _ (by omega) (by omega) (by omega) rfl g42.1.1 g42.1.2.1 g42.1.2.2 (fun w => top_vm0 _ _ _ _ (by omega) (by omega) (fun w => vm_6 w) w) w hm, g42.1, g42.2, n28, by decide⟩
theorem row_82 (op : Int) (h0 : 64787 ≤ op) (h1 : op ≤ 64788) : (OFN op ∧ arI op = 0) ∨ ∃ f l s, OFY op f l s ∧ Good op f l s := by
 exact Or.inl ⟨fun w => of_vec0 _ (op - 64768) _ _ (by omega) (by omega) (by omega) (fun w => top_vm0 _ _ _ _ (by omega) (by omega) (fun w => vm_7 (op - 64768) (by omega) (by omega) w) w) w, by unfold arI; rw [if_neg (by omega), if_neg (by omega)]⟩
theorem row_83 : (OFN 64789 ∧ arI 64789 = 0) ∨ ∃ f l s, OFY 64789 f l s ∧ Good 64789 f l s := by
 exact Or.inr ⟨13, 16, ⟨#[118, 58, 105]⟩, fun w hm => of_vec _ 21 _ _ _ (by omega) (by omega) (by omega) rfl g43.1.1 g43.1.2.1 g43.1.2.2 (fun w => top_vm0 _ _ _ _ (by omega) (by omega) (fun w => vm_8 w) w) w hm, g43.1, g43.2, n29, by decide⟩
theorem row_84 : (OFN 64790 ∧ arI 64790 = 0) ∨ ∃ f l s, OFY 64790 f l s ∧ Good 64790 f l s := by
 exact Or.inr ⟨13, 16, ⟨#[118, 58, 105]⟩, fun w hm => of_vec _ 22 _ _ _ (by omega) (by omega) (by omega) rfl g43.1.1 g43.1.2.1 g43.1.2.2 (fun w => top_vm0 _ _ _ _ (by omega) (by omega) (fun w => vm_9 w) w) w hm, g43.1, g43.2, n29, by decide⟩
theorem row_85 : (OFN 64791 ∧ arI 64791 = 0) ∨ ∃ f l s, OFY 64791 f l s ∧ Good 64791 f l s := by
 exact Or.inr ⟨13, 16, ⟨#[118, 105, 58, 118]⟩, fun w hm => of_vec _ 23 _ _ _ (by omega) (by omega) (by omega) rfl g44.1.1 g44.1.2.1 g44.1.2.2 (fun w => top_vm0 _ _ _ _ (by omega) (by omega) (fun w => vm_10 w) w) w hm, g44.1, g44.2, n30, by decide⟩
theorem row_86 : (OFN 64792 ∧ arI 64792 = 0) ∨ ∃ f l s, OFY 64792 f l s ∧ Good 64792 f l s := by
 exact Or.inr ⟨13, 8, ⟨#[118, 58, 105]⟩, fun w hm => of_vec _ 24 _ _ _ (by omega) (by omega) (by omega) rfl g45.1.1 g45.1.2.1 g45.1.2.2 (fun w => top_vm0 _ _ _ _ (by omega) (by omega) (fun w => vm_11 w) w) w hm, g45.1, g45.2, n29, by decide⟩
theorem row_87 : (OFN 64793 ∧ arI 64793 = 0) ∨ ∃ f l s, OFY 64793 f l s ∧ Good 64793 f l s := by
 exact Or.inr ⟨13, 8, ⟨#[118, 58, 105]⟩, fun w hm => of_vec _ 25 _ _ _ (by omega) (by omega) (by omega) rfl g45.1.1 g45.1.2.1 g45.1.2.2 (fun w => top_vm0 _ _ _ _ (by omega) (by omega) (fun w => vm_12 w) w) w hm, g45.1, g45.2, n29, by decide⟩
theorem row_88 : (OFN 64794 ∧ arI 64794 = 0) ∨ ∃ f l s, OFY 64794 f l s ∧ Good 64794 f l s := by
 exact Or.inr ⟨13, 8, ⟨#[118, 105, 58, 118]⟩, fun w hm => of_vec _ 26 _ _ _ (by omega) (by omega) (by omega) rfl g46.1.1 g46.1.2.1 g46.1.2.2 (fun w => top_vm0 _ _ _ _ (by omega) (by omega) (fun w => vm_13 w) w) w hm, g46.1, g46.2, n30, by decide⟩
theorem row_89 : (OFN 64795 ∧ arI 64795 = 0) ∨ ∃ f l s, OFY 64795 f l s ∧ Good 64795 f l s := by
 exact Or.inr ⟨13, 4, ⟨#[118, 58, 105]⟩, fun w hm => of_vec _ 27 _ _ _ (by omega) (by omega) (by omega) rfl g47.1.1 g47.1.2.1 g47.1.2.2 (fun w => top_vm0 _ _ _ _ (by omega) (by omega) (fun w => vm_14 w) w) w hm, g47.1, g47.2, n29, by decide⟩
theorem row_90 : (OFN 64796 ∧ arI 64796 = 0) ∨ ∃ f l s, OFY 64796 f l s ∧ Good 64796 f l s := by
 exact Or.inr ⟨13, 4, ⟨#[118, 105, 58, 118]⟩, fun w hm => of_vec _ 28 _ _ _ (by omega) (by omega) (by omega) rfl g48.1.1 g48.1.2.1 g48.1.2.2 (fun w => top_vm0 _ _ _ _ (by omega) (by omega) (fun w => vm_15 w) w) w hm, g48.1, g48.2, n30, by decide⟩
theorem row_91 : (OFN 64797 ∧ arI 64797 = 0) ∨ ∃ f l s, OFY 64797 f l s ∧ Good 64797 f l s := by
 exact Or.inr ⟨13, 2, ⟨#[118, 58, 108]⟩, fun w hm => of_vec _ 29 _ _ _ (by omega) (by omega) (by omega) rfl g49.1.1 g49.1.2.1 g49.1.2.2 (fun w => top_vm0 _ _ _ _ (by omega) (by omega) (fun w => vm_16 w) w) w hm, g49.1, g49.2, n31, by decide⟩
theorem row_92 : (OFN 64798 ∧ arI 64798 = 0) ∨ ∃ f l s, OFY 64798 f l s ∧ Good 64798 f l s := by
 exact Or.inr ⟨13, 2, ⟨#[118, 108, 58, 118]⟩, fun w hm => of_vec _ 30 _ _ _ (by omega) (by omega) (by omega) rfl g50.1.1 g50.1.2.1 g50.1.2.2 (fun w => top_vm0 _ _ _ _ (by omega) (by omega) (fun w => vm_17 w) w) w hm, g50.1, g50.2, n32, by decide⟩
theorem row_93 (op : Int) (h0 : 64799 ≤ op) (h1 : op ≤ 64802) : (OFN op ∧ arI op = 0) ∨ ∃ f l s, OFY op f l s ∧ Good op f l s := by
 exact Or.inl ⟨fun w => of_vec0 _ (op - 64768) _ _ (by omega) (by omega) (by omega) (fun w => top_vm0 _ _ _ _ (by omega) (by omega) (fun w => vm_18 (op - 64768) (by omega) (by omega) w) w) w, by unfold arI; rw [if_neg (by omega), if_neg (by omega)]⟩
theorem row_94 (op : Int) (h0 : 64803 ≤ op) (h1 : op ≤ 64832) : (OFN op ∧ arI op = 0) ∨ ∃ f l s, OFY op f l s ∧ Good op f l s := by
 have hl : decide (op < 197) = false := decide_eq_false (by omega)
 have ha : arI op = 0 := by unfold arI; rw [if_neg (by omega), if_neg (by omega)]
 exact Or.inr ⟨1, 0, ⟨#[118, 118, 58, 118]⟩, fun w hm => of_vec _ (op - 64768) _ _ _ (by omega) (by omega) (by omega) rfl g40.1.1 g40.1.2.1 g40.1.2.2 (fun w => top_vb0 _ _ _ _ (by omega) (by omega) (fun w => vb_0 (op - 64768) (by omega) (by omega) w) w) w hm, g40.1, g40.2, by rw [hl, ha]; exact n26, by unfold floatB; exact decide_eq_false (by unfold Flt; omega)⟩
theorem row_95 (op : Int) (h0 : 64833 ≤ op) (h1 : op ≤ 64844) : (OFN op ∧ arI op = 0) ∨ ∃ f l s, OFY op f l s ∧ Good op f l s := by
 exact Or.inl ⟨fun w => of_vec0 _ (op - 64768) _ _ (by omega) (by omega) (by omega) (fun w => top_vb0 _ _ _ _ (by omega) (by omega) (fun w => vb_1 (op - 64768) (by omega) (by omega) w) w) w, by unfold arI; rw [if_neg (by omega), if_neg (by omega)]⟩
theorem row_96 : (OFN 64845 ∧ arI 64845 = 0) ∨ ∃ f l s, OFY 64845 f l s ∧ Good 64845 f l s := by
 exact Or.inr ⟨1, 0, ⟨#[118, 58, 118]⟩, fun w hm => of_vec _ 77 _ _ _ (by omega) (by omega) (by omega) rfl g51.1.1 g51.1.2.1 g51.1.2.2 (fun w => top_vb0 _ _ _ _ (by omega) (by omega) (fun w => vb_2 w) w) w hm, g51.1, g51.2, n33, by decide⟩
theorem row_97 (op : Int) (h0 : 64846 ≤ op) (h1 : op ≤ 64849) : (OFN op ∧ arI op = 0) ∨ ∃ f l s, OFY op f l s ∧ Good op f l s := by
 have hl : decide (op < 197) = false := decide_eq_false (by omega)
 have ha : arI op = 0 := by unfold arI; rw [if_neg (by omega), if_neg (by omega)]
 exact Or.inr ⟨1, 0, ⟨#[118, 118, 58, 118]⟩, fun w hm => of_vec _ (op - 64768) _ _ _ (by omega) (by omega) (by omega) rfl g40.1.1 g40.1.2.1 g40.1.2.2 (fun w => top_vb0 _ _ _ _ (by omega) (by omega) (fun w => vb_3 (op - 64768) (by omega) (by omega) w) w) w hm, g40.1, g40.2, by rw [hl, ha]; exact n26, by unfold floatB; exact decide_eq_false (by unfold Flt; omega)⟩
theorem row_98 : (OFN 64850 ∧ arI 64850 = 0) ∨ ∃ f l s, OFY 64850 f l s ∧ Good 64850 f l s := by
 exact Or.inr ⟨1, 0, ⟨#[118, 118, 118, 58, 118]⟩, fun w hm => of_vec _ 82 _ _ _ (by omega) (by omega) (by omega) rfl g52.1.1 g52.1.2.1 g52.1.2.2 (fun w => top_vb0 _ _ _ _ (by omega) (by omega) (fun w => vb_4 w) w) w hm, g52.1, g52.2, n34, by decide⟩
theorem row_99 : (OFN 64851 ∧ arI 64851 = 0) ∨ ∃ f l s, OFY 64851 f l s ∧ Good 64851 f l s := by
 exact Or.inr ⟨1, 0, ⟨#[118, 58, 105]⟩, fun w hm => of_vec _ 83 _ _ _ (by omega) (by omega) (by omega) rfl g53.1.1 g53.1.2.1 g53.1.2.2 (fun w => top_vb0 _ _ _ _ (by omega) (by omega) (fun w => vb_5 w) w) w hm, g53.1, g53.2, n35, by decide⟩
theorem row_100 : (OFN 64852 ∧ arI 64852 = 0) ∨ ∃ f l s, OFY 64852 f l s ∧ Good 64852 f l s := by
 exact Or.inr ⟨8, 0, ⟨#[105, 118, 58, 118]⟩, fun w hm => of_vec _ 84 _ _ _ (by omega) (by omega) (by omega) rfl g54.1.1 g54.1.2.1 g54.1.2.2 (fun w => top_va1 _ _ _ _ (by omega) (by omega) (fun w => va_7 w) w) w hm, g54.1, g54.2, n36, by decide⟩
theorem row_101 : (OFN 64853 ∧ arI 64853 = 0) ∨ ∃ f l s, OFY 64853 f l s ∧ Good 64853 f l s := by
 exact Or.inr ⟨8, 1, ⟨#[105, 118, 58, 118]⟩, fun w hm => of_vec _ 85 _ _ _ (by omega) (by omega) (by omega) rfl g55.1.1 g55.1.2.1 g55.1.2.2 (fun w => top_va1 _ _ _ _ (by omega) (by omega) (fun w => va_8 w) w) w hm, g55.1, g55.2, n36, by decide⟩
theorem row_102 : (OFN 64854 ∧ arI 64854 = 0) ∨ ∃ f l s, OFY 64854 f l s ∧ Good 64854 f l s := by
 exact Or.inr ⟨8, 2, ⟨#[105, 118, 58, 118]⟩, fun w hm => of_vec _ 86 _ _ _ (by omega) (by omega) (by omega) rfl g56.1.1 g56.1.2.1 g56.1.2.2 (fun w => top_va1 _ _ _ _ (by omega) (by omega) (fun w => va_9 w) w) w hm, g56.1, g56.2, n36, by decide⟩
theorem row_103 : (OFN 64855 ∧ arI 64855 = 0) ∨ ∃ f l s, OFY 64855 f l s ∧ Good 64855 f l s := by
 exact Or.inr ⟨8, 3, ⟨#[105, 118, 58, 118]⟩, fun w hm => of_vec _ 87 _ _ _ (by omega) (by omega) (by omega) rfl g57.1.1 g57.1.2.1 g57.1.2.2 (fun w => top_va1 _ _ _ _ (by omega) (by omega) (fun w => va_10 w) w) w hm, g57.1, g57.2, n36, by decide⟩
theorem row_104 : (OFN 64856 ∧ arI 64856 = 0) ∨ ∃ f l s, OFY 64856 f l s ∧ Good 64856 f l s := by
 exact Or.inr ⟨8, 0, ⟨#[105, 118, 58]⟩, fun w hm => of_vec _ 88 _ _ _ (by omega) (by omega) (by omega) rfl g58.1.1 g58.1.2.1 g58.1.2.2 (fun w => top_va1 _ _ _ _ (by omega) (by omega) (fun w => va_11 w) w) w hm, g58.1, g58.2, n37, by decide⟩
theorem row_105 : (OFN 64857 ∧ arI 64857 = 0) ∨ ∃ f l s, OFY 64857 f l s ∧ Good 64857 f l s := by
 exact Or.inr ⟨8, 1, ⟨#[105, 118, 58]⟩, fun w hm => of_vec _ 89 _ _ _ (by omega) (by omega) (by omega) rfl g59.1.1 g59.1.2.1 g59.1.2.2 (fun w => top_va1 _ _ _ _ (by omega) (by omega) (fun w => va_12 w) w) w hm, g59.1, g59.2, n37, by decide⟩
theorem row_106 : (OFN 64858 ∧ arI 64858 = 0) ∨ ∃ f l s, OFY 64858 f l s ∧ Good 64858 f l s := by
 exact Or.inr ⟨8, 2, ⟨#[105, 118, 58]⟩, fun w hm => of_vec _ 90 _ _ _ (by omega) (by omega) (by omega) rfl g60.1.1 g60.1.2.1 g60.1.2.2 (fun w => top_va1 _ _ _ _ (by omega) (by omega) (fun w => va_13 w) w) w hm, g60.1, g60.2, n37, by decide⟩
theorem row_107 : (OFN 64859 ∧ arI 64859 = 0) ∨ ∃ f l s, OFY 64859 f l s ∧ Good 64859 f l s := by
 exact Or.inr ⟨8, 3, ⟨#[105, 118, 58]⟩, fun w hm => of_vec _ 91 _ _ _ (by omega) (by omega) (by omega) rfl g61.1.1 g61.1.2.1 g61.1.2.2 (fun w => top_va1 _ _ _ _ (by omega) (by omega) (fun w => va_14 w) w) w hm, g61.1, g61.2, n37, by decide⟩
theorem row_108 : (OFN 64860 ∧ arI 64860 = 0) ∨ ∃ f l s, OFY 64860 f l s ∧ Good 64860 f l s := by
 exact Or.inr ⟨7, 2, ⟨#[105, 58, 118]⟩, fun w hm => of_vec _ 92 _ _ _ (by omega) (by omega) (by omega) rfl g36.1.1 g36.1.2.1 g36.1.2.2 (fun w => top_va1 _ _ _ _ (by omega) (by omega) (fun w => va_15 w) w) w hm, g36.1, g36.2, n22, by decide⟩
theorem row_109 : (OFN 64861 ∧ arI 64861 = 0) ∨ ∃ f l s, OFY 64861 f l s ∧ Good 64861 f l s := by
 exact Or.inr ⟨7, 3, ⟨#[105, 58, 118]⟩, fun w hm => of_vec _ 93 _ _ _ (by omega) (by omega) (by omega) rfl g33.1.1 g33.1.2.1 g33.1.2.2 (fun w => top_va1 _ _ _ _ (by omega) (by omega) (fun w => va_16 w) w) w hm, g33.1, g33.2, n22, by decide⟩
theorem row_110 (op : Int) (h0 : 64862 ≤ op) (h1 : op ≤ 64863) : (OFN op ∧ arI op = 0) ∨ ∃ f l s, OFY op f l s ∧ Good op f l s := by
 exact Or.inl ⟨fun w => of_vec0 _ (op - 64768) _ _ (by omega) (by omega) (by omega) (fun w => top_vn0 _ _ _ _ (by omega) (by omega) (fun w => vn_0 (op - 64768) (by omega) (by omega) w) w) w, by unfold arI; rw [if_neg (by omega), if_neg (by omega)]⟩
theorem row_111 (op : Int) (h0 : 64864 ≤ op) (h1 : op ≤ 64866) : (OFN op ∧ arI op = 0) ∨ ∃ f l s, OFY op f l s ∧ Good op f l s := by
 have hl : decide (op < 197) = false := decide_eq_false (by omega)
 have ha : arI op = 0 := by unfold arI; rw [if_neg (by omega), if_neg (by omega)]
 exact Or.inr ⟨1, 0, ⟨#[118, 58, 118]⟩, fun w hm => of_vec _ (op - 64768) _ _ _ (by omega) (by omega) (by omega) rfl g51.1.1 g51.1.2.1 g51.1.2.2 (fun w => top_vn0 _ _ _ _ (by omega) (by omega) (fun w => vn_1 (op - 64768) (by omega) (by omega) w) w) w hm, g51.1, g51.2, by rw [hl, ha]; exact n33, by unfold floatB; exact decide_eq_false (by unfold Flt; omega)⟩
theorem row_112 (op : Int) (h0 : 64867 ≤ op) (h1 : op ≤ 64868) : (OFN op ∧ arI op = 0) ∨ ∃ f l s, OFY op f l s ∧ Good op f l s := by
 have hl : decide (op < 197) = false := decide_eq_false (by omega)
 have ha : arI op = 0 := by unfold arI; rw [if_neg (by omega), if_neg (by omega)]
 exact Or.inr ⟨1, 0, ⟨#[118, 58, 105]⟩, fun w hm => of_vec _ (op - 64768) _ _ _ (by omega) (by omega) (by omega) rfl g53.1.1 g53.1.2.1 g53.1.2.2 (fun w => top_vn0 _ _ _ _ (by omega) (by omega) (fun w => vn_2 (op - 64768) (by omega) (by omega) w) w) w hm, g53.1, g53.2, by rw [hl, ha]; exact n35, by unfold floatB; exact decide_eq_false (by unfold Flt; omega)⟩
theorem row_113 (op : Int) (h0 : 64869 ≤ op) (h1 : op ≤ 64870) : (OFN op ∧ arI op = 0) ∨ ∃ f l s, OFY op f l s ∧ Good op f l s := by
 have hl : decide (op < 197) = false := decide_eq_false (by omega)
 have ha : arI op = 0 := by unfold arI; rw [if_neg (by omega), if_neg (by omega)]
 exact Or.inr ⟨1, 0, ⟨#[118, 118, 58, 118]⟩, fun w hm => of_vec _ (op - 64768) _ _ _ (by omega) (by omega) (by omega) rfl g40.1.1 g40.1.2.1 g40.1.2.2 (fun w => top_vn0 _ _ _ _ (by omega) (by omega) (fun w => vn_3 (op - 64768) (by omega) (by omega) w) w) w hm, g40.1, g40.2, by rw [hl, ha]; exact n26, by unfold floatB; exact decide_eq_false (by unfold Flt; omega)⟩
theorem row_114 (op : Int) (h0 : 64871 ≤ op) (h1 : op ≤ 64874) : (OFN op ∧ arI op = 0) ∨ ∃ f l s, OFY op f l s ∧ Good op f l s := by
 exact Or.inl ⟨fun w => of_vec0 _ (op - 64768) _ _ (by omega) (by omega) (by omega) (fun w => top_vn0 _ _ _ _ (by omega) (by omega) (fun w => vn_4 (op - 64768) (by omega) (by omega) w) w) w, by unfold arI; rw [if_neg (by omega), if_neg (by omega)]⟩
theorem row_115 (op : Int) (h0 : 64875 ≤ op) (h1 : op ≤ 64877) : (OFN op ∧ arI op = 0) ∨ ∃ f l s, OFY op f l s ∧ Good op f l s := by
 have hl : decide (op < 197) = false := decide_eq_false (by omega)
 have ha : arI op = 0 := by unfold arI; rw [if_neg (by omega), if_neg (by omega)]
 exact Or.inr ⟨1, 0, ⟨#[118, 105, 58, 118]⟩, fun w hm => of_vec _ (op - 64768) _ _ _ (by omega) (by omega) (by omega) rfl g62.1.1 g62.1.2.1 g62.1.2.2 (fun w => top_vn0 _ _ _ _ (by omega) (by omega) (fun w => vn_5 (op - 64768) (by omega) (by omega) w) w) w hm, g62.1, g62.2, by rw [hl, ha]; exact n38, by unfold floatB; exact decide_eq_false (by unfold Flt; omega)⟩
theorem row_116 (op : Int) (h0 : 64878 ≤ op) (h1 : op ≤ 64883) : (OFN op ∧ arI op = 0) ∨ ∃ f l s, OFY op f l s ∧ Good op f l s := by
 have hl : decide (op < 197) = false := decide_eq_false (by omega)
 have ha : arI op = 0 := by unfold arI; rw [if_neg (by omega), if_neg (by omega)]
 exact Or.inr ⟨1, 0, ⟨#[118, 118, 58, 118]⟩, fun w hm => of_vec _ (op - 64768) _ _ _ (by omega) (by omega) (by omega) rfl g40.1.1 g40.1.2.1 g40.1.2.2 (fun w => top_vn0 _ _ _ _ (by omega) (by omega) (fun w => vn_6 (op - 64768) (by omega) (by omega) w) w) w hm, g40.1, g40.2, by rw [hl, ha]; exact n26, by unfold floatB; exact decide_eq_false (by unfold Flt; omega)⟩
theorem row_117 (op : Int) (h0 : 64884 ≤ op) (h1 : op ≤ 64885) : (OFN op ∧ arI op = 0) ∨ ∃ f l s, OFY op f l s ∧ Good op f l s := by
 exact Or.inl ⟨fun w => of_vec0 _ (op - 64768) _ _ (by omega) (by omega) (by omega) (fun w => top_vn0 _ _ _ _ (by omega) (by omega) (fun w => vn_7 (op - 64768) (by omega) (by omega) w) w) w, by unfold arI; rw [if_neg (by omega), if_neg (by omega)]⟩
theorem row_118 (op : Int) (h0 : 64886 ≤ op) (h1 : op ≤ 64889) : (OFN op ∧ arI op = 0) ∨ ∃ f l s, OFY op f l s ∧ Good op f l s := by
 have hl : decide (op < 197) = false := decide_eq_false (by omega)
 have ha : arI op = 0 := by unfold arI; rw [if_neg (by omega), if_neg (by omega)]
 exact Or.inr ⟨1, 0, ⟨#[118, 118, 58, 118]⟩, fun w hm => of_vec _ (op - 64768) _ _ _ (by omega) (by omega) (by omega) rfl g40.1.1 g40.1.2.1 g40.1.2.2 (fun w => top_vn0 _ _ _ _ (by omega) (by omega) (fun w => vn_8 (op - 64768) (by omega) (by omega) w) w) w hm, g40.1, g40.2, by rw [hl, ha]; exact n26, by unfold floatB; exact decide_eq_false (by unfold Flt; omega)⟩
theorem row_119 : (OFN 64890 ∧ arI 64890 = 0) ∨ ∃ f l s, OFY 64890 f l s ∧ Good 64890 f l s := by
 exact Or.inl ⟨fun w => of_vec0 _ 122 _ _ (by omega) (by omega) (by omega) (fun w => top_vn0 _ _ _ _ (by omega) (by omega) (fun w => vn_9 w) w) w, by unfold arI; rw [if_neg (by omega), if_neg (by omega)]⟩
theorem row_120 : (OFN 64891 ∧ arI 64891 = 0) ∨ ∃ f l s, OFY 64891 f l s ∧ Good 64891 f l s := by
 exact Or.inr ⟨1, 0, ⟨#[118, 118, 58, 118]⟩, fun w hm => of_vec _ 123 _ _ _ (by omega) (by omega) (by omega) rfl g40.1.1 g40.1.2.1 g40.1.2.2 (fun w => top_vn0 _ _ _ _ (by omega) (by omega) (fun w => vn_10 w) w) w hm, g40.1, g40.2, n26, by decide⟩
theorem row_121 (op : Int) (h0 : 64892 ≤ op) (h1 : op ≤ 64897) : (OFN op ∧ arI op = 0) ∨ ∃ f l s, OFY op f l s ∧ Good op f l s := by
 have hl : decide (op < 197) = false := decide_eq_false (by omega)
 have ha : arI op = 0 := by unfold arI; rw [if_neg (by omega), if_neg (by omega)]
 exact Or.inr ⟨1, 0, ⟨#[118, 58, 118]⟩, fun w hm => of_vec _ (op - 64768) _ _ _ (by omega) (by omega) (by omega) rfl g51.1.1 g51.1.2.1 g51.1.2.2 (fun w => top_vn0 _ _ _ _ (by omega) (by omega) (fun w => vn_11 (op - 64768) (by omega) (by omega) w) w) w hm, g51.1, g51.2, by rw [hl, ha]; exact n33, by unfold floatB; exact decide_eq_false (by unfold Flt; omega)⟩
theorem row_122 : (OFN 64898 ∧ arI 64898 = 0) ∨ ∃ f l s, OFY 64898 f l s ∧ Good 64898 f l s := by
 exact Or.inr ⟨1, 0, ⟨#[118, 118, 58, 118]⟩, fun w hm => of_vec _ 130 _ _ _ (by omega) (by omega) (by omega) rfl g40.1.1 g40.1.2.1 g40.1.2.2 (fun w => top_vn0 _ _ _ _ (by omega) (by omega) (fun w => vn_12 w) w) w hm, g40.1, g40.2, n26, by decide⟩
theorem row_123 (op : Int) (h0 : 64899 ≤ op) (h1 : op ≤ 64900) : (OFN op ∧ arI op = 0) ∨ ∃ f l s, OFY op f l s ∧ Good op f l s := by
 have hl : decide (op < 197) = false := decide_eq_false (by omega)
 have ha : arI op = 0 := by unfold arI; rw [if_neg (by omega), if_neg (by omega)]
 exact Or.inr ⟨1, 0, ⟨#[118, 58, 105]⟩, fun w hm => of_vec _ (op - 64768) _ _ _ (by omega) (by omega) (by omega) rfl g53.1.1 g53.1.2.1 g53.1.2.2 (fun w => top_vn0 _ _ _ _ (by omega) (by omega) (fun w => vn_13 (op - 64768) (by omega) (by omega) w) w) w hm, g53.1, g53.2, by rw [hl, ha]; exact n35, by unfold floatB; exact decide_eq_false (by unfold Flt; omega)⟩
theorem row_124 (op : Int) (h0 : 64901 ≤ op) (h1 : op ≤ 64902) : (OFN op ∧ arI op = 0) ∨ ∃ f l s, OFY op f l s ∧ Good op f l s := by
 have hl : decide (op < 197) = false := decide_eq_false (by omega)
 have ha : arI op = 0 := by unfold arI; rw [if_neg (by omega), if_neg (by omega)]
 exact Or.inr ⟨1, 0, ⟨#[118, 118, 58, 118]⟩, fun w hm => of_vec _ (op - 64768) _ _ _ (by omega) (by omega) (by omega) rfl g40.1.1 g40.1.2.1 g40.1.2.2 (fun w => top_vn0 _ _ _ _ (by omega) (by omega) (fun w => vn_14 (op - 64768) (by omega) (by omega) w) w) w hm, g40.1, g40.2, by rw [hl, ha]; exact n26, by unfold floatB; exact decide_eq_false (by unfold Flt; omega)⟩
theorem row_125 (op : Int) (h0 : 64903 ≤ op) (h1 : op ≤ 64906) : (OFN op ∧ arI op = 0) ∨ ∃ f l s, OFY op f l s ∧ Good op f l s := by
 have hl : decide (op < 197) = false := decide_eq_false (by omega)
 have ha : arI op = 0 := by unfold arI; rw [if_neg (by omega), if_neg (by omega)]
 exact Or.inr ⟨1, 0, ⟨#[118, 58, 118]⟩, fun w hm => of_vec _ (op - 64768) _ _ _ (by omega) (by omega) (by omega) rfl g51.1.1 g51.1.2.1 g51.1.2.2 (fun w => top_vn0 _ _ _ _ (by omega) (by omega) (fun w => vn_15 (op - 64768) (by omega) (by omega) w) w) w hm, g51.1, g51.2, by rw [hl, ha]; exact n33, by unfold floatB; exact decide_eq_false (by unfold Flt; omega)⟩
theorem row_126 (op : Int) (h0 : 64907 ≤ op) (h1 : op ≤ 64909) : (OFN op ∧ arI op = 0) ∨ ∃ f l s, OFY op f l s ∧ Good op f l s := by
 have hl : decide (op < 197) = false := decide_eq_false (by omega)
 have ha : arI op = 0 := by unfold arI; rw [if_neg (by omega), if_neg (by omega)]
 exact Or.inr ⟨1, 0, ⟨#[118, 105, 58, 118]⟩, fun w hm => of_vec _ (op - 64768) _ _ _ (by omega) (by omega) (by omega) rfl g62.1.1 g62.1.2.1 g62.1.2.2 (fun w => top_vn0 _ _ _ _ (by omega) (by omega) (fun w => vn_16 (op - 64768) (by omega) (by omega) w) w) w hm, g62.1, g62.2, by rw [hl, ha]; exact n38, by unfold floatB; exact decide_eq_false (by unfold Flt; omega)⟩
theorem row_127 (op : Int) (h0 : 64910 ≤ op) (h1 : op ≤ 64915) : (OFN op ∧ arI op = 0) ∨ ∃ f l s, OFY op f l s ∧ Good op f l s := by
 have hl : decide (op < 197) = false := decide_eq_false (by omega)
 have ha : arI op = 0 := by unfold arI; rw [if_neg (by omega), if_neg (by omega)]
 exact Or.inr ⟨1, 0, ⟨#[118, 118, 58, 118]⟩, fun w hm => of_vec _ (op - 64768) _ _ _ (by omega) (by omega) (by omega) rfl g40.1.1 g40.1.2.1 g40.1.2.2 (fun w => top_vn0 _ _ _ _ (by omega) (by omega) (fun w => vn_17 (op - 64768) (by omega) (by omega) w) w) w hm, g40.1, g40.2, by rw [hl, ha]; exact n26, by unfold floatB; exact decide_eq_false (by unfold Flt; omega)⟩
theorem row_128 : (OFN 64916 ∧ arI 64916 = 0) ∨ ∃ f l s, OFY 64916 f l s ∧ Good 64916 f l s := by
 exact Or.inl ⟨fun w => of_vec0 _ 148 _ _ (by omega) (by omega) (by omega) (fun w => top_vn0 _ _ _ _ (by omega) (by omega) (fun w => vn_18 w) w) w, by unfold arI; rw [if_neg (by omega), if_neg (by omega)]⟩
theorem row_129 (op : Int) (h0 : 64917 ≤ op) (h1 : op ≤ 64921) : (OFN op ∧ arI op = 0) ∨ ∃ f l s, OFY op f l s ∧ Good op f l s := by
 have hl : decide (op < 197) = false := decide_eq_false (by omega)
 have ha : arI op = 0 := by unfold arI; rw [if_neg (by omega), if_neg (by omega)]
 exact Or.inr ⟨1, 0, ⟨#[118, 118, 58, 118]⟩, fun w hm => of_vec _ (op - 64768) _ _ _ (by omega) (by omega) (by omega) rfl g40.1.1 g40.1.2.1 g40.1.2.2 (fun w => top_vn0 _ _ _ _ (by omega) (by omega) (fun w => vn_19 (op - 64768) (by omega) (by omega) w) w) w hm, g40.1, g40.2, by rw [hl, ha]; exact n26, by unfold floatB; exact decide_eq_false (by unfold Flt; omega)⟩
theorem row_130 : (OFN 64922 ∧ arI 64922 = 0) ∨ ∃ f l s, OFY 64922 f l s ∧ Good 64922 f l s := by
 exact Or.inl ⟨fun w => of_vec0 _ 154 _ _ (by omega) (by omega) (by omega) (fun w => top_vn0 _ _ _ _ (by omega) (by omega) (fun w => vn_20 w) w) w, by unfold arI; rw [if_neg (by omega), if_neg (by omega)]⟩
theorem row_131 (op : Int) (h0 : 64923 ≤ op) (h1 : op ≤ 64927) : (OFN op ∧ arI op = 0) ∨ ∃ f l s, OFY op f l s ∧ Good op f l s := by
 have hl : decide (op < 197) = false := decide_eq_false (by omega)
 have ha : arI op = 0 := by unfold arI; rw [if_neg (by omega), if_neg (by omega)]
 exact Or.inr ⟨1, 0, ⟨#[118, 118, 58, 118]⟩, fun w hm => of_vec _ (op - 64768) _ _ _ (by omega) (by omega) (by omega) rfl g40.1.1 g40.1.2.1 g40.1.2.2 (fun w => top_vn0 _ _ _ _ (by omega) (by omega) (fun w => vn_21 (op - 64768) (by omega) (by omega) w) w) w hm, g40.1, g40.2, by rw [hl, ha]; exact n26, by unfold floatB; exact decide_eq_false (by unfold Flt; omega)⟩
theorem row_132 (op : Int) (h0 : 64928 ≤ op) (h1 : op ≤ 64929) : (OFN op ∧ arI op = 0) ∨ ∃ f l s, OFY op f l s ∧ Good op f l s := by
 have hl : decide (op < 197) = false := decide_eq_false (by omega)
 have ha : arI op = 0 := by unfold arI; rw [if_neg (by omega), if_neg (by omega)]
 exact Or.inr ⟨1, 0, ⟨#[118, 58, 118]⟩, fun w hm => of_vec _ (op - 64768) _ _ _ (by omega) (by omega) (by omega) rfl g51.1.1 g51.1.2.1 g51.1.2.2 (fun w => top_vw0 _ _ _ _ (by omega) (fun w => vw_0 (op - 64768) (by omega) (by omega) w) w) w hm, g51.1, g51.2, by rw [hl, ha]; exact n33, by unfold floatB; exact decide_eq_false (by unfold Flt; omega)⟩
theorem row_133 : (OFN 64930 ∧ arI 64930 = 0) ∨ ∃ f l s, OFY 64930 f l s ∧ Good 64930 f l s := by
 exact Or.inl ⟨fun w => of_vec0 _ 162 _ _ (by omega) (by omega) (by omega) (fun w => top_vw0 _ _ _ _ (by omega) (fun w => vw_1 w) w) w, by unfold arI; rw [if_neg (by omega), if_neg (by omega)]⟩
theorem row_134 (op : Int) (h0 : 64931 ≤ op) (h1 : op ≤ 64932) : (OFN op ∧ arI op = 0) ∨ ∃ f l s, OFY op f l s ∧ Good op f l s := by
 have hl : decide (op < 197) = false := decide_eq_false (by omega)
 have ha : arI op = 0 := by unfold arI; rw [if_neg (by omega), if_neg (by omega)]
 exact Or.inr ⟨1, 0, ⟨#[118, 58, 105]⟩, fun w hm => of_vec _ (op - 64768) _ _ _ (by omega) (by omega) (by omega) rfl g53.1.1 g53.1.2.1 g53.1.2.2 (fun w => top_vw0 _ _ _ _ (by omega) (fun w => vw_2 (op - 64768) (by omega) (by omega) w) w) w hm, g53.1, g53.2, by rw [hl, ha]; exact n35, by unfold floatB; exact decide_eq_false (by unfold Flt; omega)⟩
theorem row_135 (op : Int) (h0 : 64933 ≤ op) (h1 : op ≤ 64934) : (OFN op ∧ arI op = 0) ∨ ∃ f l s, OFY op f l s ∧ Good op f l s := by
 exact Or.inl ⟨fun w => of_vec0 _ (op - 64768) _ _ (by omega) (by omega) (by omega) (fun w => top_vw0 _ _ _ _ (by omega) (fun w => vw_3 (op - 64768) (by omega) (by omega) w) w) w, by unfold arI; rw [if_neg (by omega), if_neg (by omega)]⟩
theorem row_136 (op : Int) (h0 : 64935 ≤ op) (h1 : op ≤ 64938) : (OFN op ∧ arI op = 0) ∨ ∃ f l s, OFY op f l s ∧ Good op f l s := by
 have hl : decide (op < 197) = false := decide_eq_false (by omega)
 have ha : arI op = 0 := by unfold arI; rw [if_neg (by omega), if_neg (by omega)]
 exact Or.inr ⟨1, 0, ⟨#[118, 58, 118]⟩, fun w hm => of_vec _ (op - 64768) _ _ _ (by omega) (by omega) (by omega) rfl g51.1.1 g51.1.2.1 g51.1.2.2 (fun w => top_vw0 _ _ _ _ (by omega) (fun w => vw_4 (op - 64768) (by omega) (by omega) w) w) w hm, g51.1, g51.2, by rw [hl, ha]; exact n33, by unfold floatB; exact decide_eq_false (by unfold Flt; omega)⟩
theorem row_137 (op : Int) (h0 : 64939 ≤ op) (h1 : op ≤ 64941) : (OFN op ∧ arI op = 0) ∨ ∃ f l s, OFY op f l s ∧ Good op f l s := by
 have hl : decide (op < 197) = false := decide_eq_false (by omega)
 have ha : arI op = 0 := by unfold arI; rw [if_neg (by omega), if_neg (by omega)]
 exact Or.inr ⟨1, 0, ⟨#[118, 105, 58, 118]⟩, fun w hm => of_vec _ (op - 64768) _ _ _ (by omega) (by omega) (by omega) rfl g62.1.1 g62.1.2.1 g62.1.2.2 (fun w => top_vw0 _ _ _ _ (by omega) (fun w => vw_5 (op - 64768) (by omega) (by omega) w) w) w hm, g62.1, g62.2, by rw [hl, ha]; exact n38, by unfold floatB; exact decide_eq_false (by unfold Flt; omega)⟩
theorem row_138 : (OFN 64942 ∧ arI 64942 = 0) ∨ ∃ f l s, OFY 64942 f l s ∧ Good 64942 f l s := by
 exact Or.inr ⟨1, 0, ⟨#[118, 118, 58, 118]⟩, fun w hm => of_vec _ 174 _ _ _ (by omega) (by omega) (by omega) rfl g40.1.1 g40.1.2.1 g40.1.2.2 (fun w => top_vw0 _ _ _ _ (by omega) (fun w => vw_6 w) w) w hm, g40.1, g40.2, n26, by decide⟩
theorem row_139 (op : Int) (h0 : 64943 ≤ op) (h1 : op ≤ 64944) : (OFN op ∧ arI op = 0) ∨ ∃ f l s, OFY op f l s ∧ Good op f l s := by
 exact Or.inl ⟨fun w => of_vec0 _ (op - 64768) _ _ (by omega) (by omega) (by omega) (fun w => top_vw0 _ _ _ _ (by omega) (fun w => vw_7 (op - 64768) (by omega) (by omega) w) w) w, by unfold arI; rw [if_neg (by omega), if_neg (by omega)]⟩
theorem row_140 : (OFN 64945 ∧ arI 64945 = 0) ∨ ∃ f l s, OFY 64945 f l s ∧ Good 64945 f l s := by
 exact Or.inr ⟨1, 0, ⟨#[118, 118, 58, 118]⟩, fun w hm => of_vec _ 177 _ _ _ (by omega) (by omega) (by omega) rfl g40.1.1 g40.1.2.1 g40.1.2.2 (fun w => top_vw0 _ _ _ _ (by omega) (fun w => vw_8 w) w) w hm, g40.1, g40.2, n26, by decide⟩
theorem row_141 (op : Int) (h0 : 64946 ≤ op) (h1 : op ≤ 64948) : (OFN op ∧ arI op = 0) ∨ ∃ f l s, OFY op f l s ∧ Good op f l s := by
 exact Or.inl ⟨fun w => of_vec0 _ (op - 64768) _ _ (by omega) (by omega) (by omega) (fun w => top_vw0 _ _ _ _ (by omega) (fun w => vw_9 (op - 64768) (by omega) (by omega) w) w) w, by unfold arI; rw [if_neg (by omega), if_neg (by omega)]⟩
theorem row_142 (op : Int) (h0 : 64949 ≤ op) (h1 : op ≤ 64954) : (OFN op ∧ arI op = 0) ∨ ∃ f l s, OFY op f l s ∧ Good op f l s := by
 have hl : decide (op < 197) = false := decide_eq_false (by omega)
 have ha : arI op = 0 := by unfold arI; rw [if_neg (by omega), if_neg (by omega)]
 exact Or.inr ⟨1, 0, ⟨#[118, 118, 58, 118]⟩, fun w hm => of_vec _ (op - 64768) _ _ _ (by omega) (by omega) (by omega) rfl g40.1.1 g40.1.2.1 g40.1.2.2 (fun w => top_vw0 _ _ _ _ (by omega) (fun w => vw_10 (op - 64768) (by omega) (by omega) w) w) w hm, g40.1, g40.2, by rw [hl, ha]; exact n26, by unfold floatB; exact decide_eq_false (by unfold Flt; omega)⟩
theorem row_143 : (OFN 64955 ∧ arI 64955 = 0) ∨ ∃ f l s, OFY 64955 f l s ∧ Good 64955 f l s := by
 exact Or.inl ⟨fun w => of_vec0 _ 187 _ _ (by omega) (by omega) (by omega) (fun w => top_vw0 _ _ _ _ (by omega) (fun w => vw_11 w) w) w, by unfold arI; rw [if_neg (by omega), if_neg (by omega)]⟩
theorem row_144 (op : Int) (h0 : 64956 ≤ op) (h1 : op ≤ 64959) : (OFN op ∧ arI op = 0) ∨ ∃ f l s, OFY op f l s ∧ Good op f l s := by
 have hl : decide (op < 197) = false := decide_eq_false (by omega)
 have ha : arI op = 0 := by unfold arI; rw [if_neg (by omega), if_neg (by omega)]
 exact Or.inr ⟨1, 0, ⟨#[118, 118, 58, 118]⟩, fun w hm => of_vec _ (op - 64768) _ _ _ (by omega) (by omega) (by omega) rfl g40.1.1 g40.1.2.1 g40.1.2.2 (fun w => top_vw0 _ _ _ _ (by omega) (fun w => vw_12 (op - 64768) (by omega) (by omega) w) w) w hm, g40.1, g40.2, by rw [hl, ha]; exact n26, by unfold floatB; exact decide_eq_false (by unfold Flt; omega)⟩
theorem row_145 (op : Int) (h0 : 64960 ≤ op) (h1 : op ≤ 64961) : (OFN op ∧ arI op = 0) ∨ ∃ f l s, OFY op f l s ∧ Good op f l s := by
 have hl : decide (op < 197) = false := decide_eq_false (by omega)
 have ha : arI op = 0 := by unfold arI; rw [if_neg (by omega), if_neg (by omega)]
 exact Or.inr ⟨1, 0, ⟨#[118, 58, 118]⟩, fun w hm => of_vec _ (op - 64768) _ _ _ (by omega) (by omega) (by omega) rfl g51.1.1 g51.1.2.1 g51.1.2.2 (fun w => top_vw0 _ _ _ _ (by omega) (fun w => vw_13 (op - 64768) (by omega) (by omega) w) w) w hm, g51.1, g51.2, by rw [hl, ha]; exact n33, by unfold floatB; exact decide_eq_false (by unfold Flt; omega)⟩
theorem row_146 : (OFN 64962 ∧ arI 64962 = 0) ∨ ∃ f l s, OFY 64962 f l s ∧ Good 64962 f l s := by
 exact Or.inl ⟨fun w => of_vec0 _ 194 _ _ (by omega) (by omega) (by omega) (fun w => top_vw0 _ _ _ _ (by omega) (fun w => vw_14 w) w) w, by unfold arI; rw [if_neg (by omega), if_neg (by omega)]⟩
theorem row_147 (op : Int) (h0 : 64963 ≤ op) (h1 : op ≤ 64964) : (OFN op ∧ arI op = 0) ∨ ∃ f l s, OFY op f l s ∧ Good op f l s := by
 have hl : decide (op < 197) = false := decide_eq_false (by omega)
 have ha : arI op = 0 := by unfold arI; rw [if_neg (by omega), if_neg (by omega)]
 exact Or.inr ⟨1, 0, ⟨#[118, 58, 105]⟩, fun w hm => of_vec _ (op - 64768) _ _ _ (by omega) (by omega) (by omega) rfl g53.1.1 g53.1.2.1 g53.1.2.2 (fun w => top_vw0 _ _ _ _ (by omega) (fun w => vw_15 (op - 64768) (by omega) (by omega) w) w) w hm, g53.1, g53.2, by rw [hl, ha]; exact n35, by unfold floatB; exact decide_eq_false (by unfold Flt; omega)⟩
theorem row_148 (op : Int) (h0 : 64965 ≤ op) (h1 : op ≤ 64966) : (OFN op ∧ arI op = 0) ∨ ∃ f l s, OFY op f l s ∧ Good op f l s := by
 exact Or.inl ⟨fun w => of_vec0 _ (op - 64768) _ _ (by omega) (by omega) (by omega) (fun w => top_vw0 _ _ _ _ (by omega) (fun w => vw_16 (op - 64768) (by omega) (by omega) w) w) w, by unfold arI; rw [if_neg (by omega), if_neg (by omega)]⟩
theorem row_149 (op : Int) (h0 : 64967 ≤ op) (h1 : op ≤ 64970) : (OFN op ∧ arI op = 0) ∨ ∃ f l s, OFY op f l s ∧ Good op f l s := by
 have hl : decide (op < 197) = false := decide_eq_false (by omega)
 have ha : arI op = 0 := by unfold arI; rw [if_neg (by omega), if_neg (by omega)]
 exact Or.inr ⟨1, 0, ⟨#[118, 58, 118]⟩, fun w hm => of_vec _ (op - 64768) _ _ _ (by omega) (by omega) (by omega) rfl g51.1.1 g51.1.2.1 g51.1.2.2 (fun w => top_vw0 _ _ _ _ (by omega) (fun w => vw_17 (op - 64768) (by omega) (by omega) w) w) w hm, g51.1, g51.2, by rw [hl, ha]; exact n33, by unfold floatB; exact decide_eq_false (by unfold Flt; omega)⟩
theorem row_150 (op : Int) (h0 : 64971 ≤ op) (h1 : op ≤ 64973) : (OFN op ∧ arI op = 0) ∨ ∃ f l s, OFY op f l s ∧ Good op f l s := by
 have hl : decide (op < 197) = false := decide_eq_false (by omega)
 have ha : arI op = 0 := by unfold arI; rw [if_neg (by omega), if_neg (by omega)]
 exact Or.inr ⟨1, 0, ⟨#[118, 105, 58, 118]⟩, fun w hm => of_vec _ (op - 64768) _ _ _ (by omega) (by omega) (by omega) rfl g62.1.1 g62.1.2.1 g62.1.2.2 (fun w => top_vw0 _ _ _ _ (by omega) (fun w => vw_18 (op - 64768) (by omega) (by omega) w) w) w hm, g62.1, g62.2, by rw [hl, ha]; exact n38, by unfold floatB; exact decide_eq_false (by unfold Flt; omega)⟩
theorem row_151 : (OFN 64974 ∧ arI 64974 = 0) ∨ ∃ f l s, OFY 64974 f l s ∧ Good 64974 f l s := by
 exact Or.inr ⟨1, 0, ⟨#[118, 118, 58, 118]⟩, fun w hm => of_vec _ 206 _ _ _ (by omega) (by omega) (by omega) rfl g40.1.1 g40.1.2.1 g40.1.2.2 (fun w => top_vw0 _ _ _ _ (by omega) (fun w => vw_19 w) w) w hm, g40.1, g40.2, n26, by decide⟩
theorem row_152 (op : Int) (h0 : 64975 ≤ op) (h1 : op ≤ 64976) : (OFN op ∧ arI op = 0) ∨ ∃ f l s, OFY op f l s ∧ Good op f l s := by
 exact Or.inl ⟨fun w => of_vec0 _ (op - 64768) _ _ (by omega) (by omega) (by omega) (fun w => top_vw0 _ _ _ _ (by omega) (fun w => vw_20 (op - 64768) (by omega) (by omega) w) w) w, by unfold arI; rw [if_neg (by omega), if_neg (by omega)]⟩
theorem row_153 : (OFN 64977 ∧ arI 64977 = 0) ∨ ∃ f l s, OFY 64977 f l s ∧ Good 64977 f l s := by
 exact Or.inr ⟨1, 0, ⟨#[118, 118, 58, 118]⟩, fun w hm => of_vec _ 209 _ _ _ (by omega) (by omega) (by omega) rfl g40.1.1 g40.1.2.1 g40.1.2.2 (fun w => top_vw0 _ _ _ _ (by omega) (fun w => vw_21 w) w) w hm, g40.1, g40.2, n26, by decide⟩
theorem row_154 (op : Int) (h0 : 64978 ≤ op) (h1 : op ≤ 64980) : (OFN op ∧ arI op = 0) ∨ ∃ f l s, OFY op f l s ∧ Good op f l s := by
 exact Or.inl ⟨fun w => of_vec0 _ (op - 64768) _ _ (by omega) (by omega) (by omega) (fun w => top_vw0 _ _ _ _ (by omega) (fun w => vw_22 (op - 64768) (by omega) (by omega) w) w) w, by unfold arI; rw [if_neg (by omega), if_neg (by omega)]⟩
theorem row_155 (op : Int) (h0 : 64981 ≤ op) (h1 : op ≤ 64991) : (OFN op ∧ arI op = 0) ∨ ∃ f l s, OFY op f l s ∧ Good op f l s := by
 have hl : decide (op < 197) = false := decide_eq_false (by omega)
 have ha : arI op = 0 := by unfold arI; rw [if_neg (by omega), if_neg (by omega)]
 exact Or.inr ⟨1, 0, ⟨#[118, 118, 58, 118]⟩, fun w hm => of_vec _ (op - 64768) _ _ _ (by omega) (by omega) (by omega) rfl g40.1.1 g40.1.2.1 g40.1.2.2 (fun w => top_vw0 _ _ _ _ (by omega) (fun w => vw_23 (op - 64768) (by omega) (by omega) w) w) w hm, g40.1, g40.2, by rw [hl, ha]; exact n26, by unfold floatB; exact decide_eq_false (by unfold Flt; omega)⟩
theorem row_156 (op : Int) (h0 : 64992 ≤ op) (h1 : op ≤ 9223372036854775807) : (OFN op ∧ arI op = 0) ∨ ∃ f l s, OFY op f l s ∧ Good op f l s := by
 exact Or.inl ⟨fun w => of_vec0 _ (op - 64768) _ _ (by omega) (by omega) (by omega) (fun w => top_vw0 _ _ _ _ (by omega) (fun w => vw_24 (op - 64768) (by omega) w) w) w, by unfold arI; rw [if_neg (by omega), if_neg (by omega)]⟩
set_option maxHeartbeats 2000000 in
theorem of_any (op : Int) (hop : op ≤ 9223372036854775807) : (OFN op ∧ arI op = 0) ∨ ∃ f l s, OFY op f l s ∧ Good op f l s := by
 by_cases h0_157 : op < 64783
 ·by_cases h0_78 : op < 55
  ·by_cases h0_39 : op < 32
   ·by_cases h0_19 : op < 12
    ·by_cases h0_9 : op < 3
     ·by_cases h0_4 : op < 1
      ·by_cases h0_2 : op < 0
       ·exact row_0 op (by omega)
       ·obtain rfl : op = 0 := by omega
        exact row_1
      ·by_cases h2_4 : op < 2
       ·obtain rfl : op = 1 := by omega
        exact row_2
       ·obtain rfl : op = 2 := by omega
        exact row_3
     ·by_cases h4_9 : op < 5
      ·by_cases h4_6 : op < 4
       ·obtain rfl : op = 3 := by omega
        exact row_4
       ·obtain rfl : op = 4 := by omega
        exact row_5
      ·by_cases h6_9 : op < 6
       ·obtain rfl : op = 5 := by omega
        exact row_6
       ·by_cases h7_9 : op < 11
        ·exact row_7 op (by omega) (by omega)
        ·obtain rfl : op = 11 := by omega
         exact row_8
    ·by_cases h9_19 : op < 17
     ·by_cases h9_14 : op < 14
      ·by_cases h9_11 : op < 13
       ·obtain rfl : op = 12 := by omega
        exact row_9
       ·obtain rfl : op = 13 := by omega
        exact row_10
      ·by_cases h11_14 : op < 15
       ·obtain rfl : op = 14 := by omega
        exact row_11
       ·by_cases h12_14 : op < 16
        ·obtain rfl : op = 15 := by omega
         exact row_12
        ·obtain rfl : op = 16 := by omega
         exact row_13
     ·by_cases h14_19 : op < 26
      ·by_cases h14_16 : op < 18
       ·obtain rfl : op = 17 := by omega
        exact row_14
       ·exact row_15 op (by omega) (by omega)
      ·by_cases h16_19 : op < 27
       ·obtain rfl : op = 26 := by omega
        exact row_16
       ·by_cases h17_19 : op < 28
        ·obtain rfl : op = 27 := by omega
         exact row_17
        ·exact row_18 op (by omega) (by omega)
   ·by_cases h19_39 : op < 45
    ·by_cases h19_29 : op < 37
     ·by_cases h19_24 : op < 34
      ·by_cases h19_21 : op < 33
       ·obtain rfl : op = 32 := by omega
        exact row_19
       ·obtain rfl : op = 33 := by omega
        exact row_20
      ·by_cases h21_24 : op < 35
       ·obtain rfl : op = 34 := by omega
        exact row_21
       ·by_cases h22_24 : op < 36
        ·obtain rfl : op = 35 := by omega
         exact row_22
        ·obtain rfl : op = 36 := by omega
         exact row_23
     ·by_cases h24_29 : op < 41
      ·by_cases h24_26 : op < 40
       ·exact row_24 op (by omega) (by omega)
       ·obtain rfl : op = 40 := by omega
        exact row_25
      ·by_cases h26_29 : op < 42
       ·obtain rfl : op = 41 := by omega
        exact row_26
       ·by_cases h27_29 : op < 44
        ·exact row_27 op (by omega) (by omega)
        ·obtain rfl : op = 44 := by omega
         exact row_28
    ·by_cases h29_39 : op < 50
     ·by_cases h29_34 : op < 47
      ·by_cases h29_31 : op < 46
       ·obtain rfl : op = 45 := by omega
        exact row_29
       ·obtain rfl : op = 46 := by omega
        exact row_30
      ·by_cases h31_34 : op < 48
       ·obtain rfl : op = 47 := by omega
        exact row_31
       ·by_cases h32_34 : op < 49
        ·obtain rfl : op = 48 := by omega
         exact row_32
        ·obtain rfl : op = 49 := by omega
         exact row_33
     ·by_cases h34_39 : op < 52
      ·by_cases h34_36 : op < 51
       ·obtain rfl : op = 50 := by omega
        exact row_34
       ·obtain rfl : op = 51 := by omega
        exact row_35
      ·by_cases h36_39 : op < 53
       ·obtain rfl : op = 52 := by omega
        exact row_36
       ·by_cases h37_39 : op < 54
        ·obtain rfl : op = 53 := by omega
         exact row_37
        ·obtain rfl : op = 54 := by omega
         exact row_38
  ·by_cases h39_78 : op < 121
   ·by_cases h39_58 : op < 65
    ·by_cases h39_48 : op < 60
     ·by_cases h39_43 : op < 58
      ·by_cases h39_41 : op < 56
       ·obtain rfl : op = 55 := by omega
        exact row_39
       ·exact row_40 op (by omega) (by omega)
      ·by_cases h41_43 : op < 59
       ·obtain rfl : op = 58 := by omega
        exact row_41
       ·obtain rfl : op = 59 := by omega
        exact row_42
     ·by_cases h43_48 : op < 62
      ·by_cases h43_45 : op < 61
       ·obtain rfl : op = 60 := by omega
        exact row_43
       ·obtain rfl : op = 61 := by omega
        exact row_44
      ·by_cases h45_48 : op < 63
       ·obtain rfl : op = 62 := by omega
        exact row_45
       ·by_cases h46_48 : op < 64
        ·obtain rfl : op = 63 := by omega
         exact row_46
        ·obtain rfl : op = 64 := by omega
         exact row_47
    ·by_cases h48_58 : op < 80
     ·by_cases h48_53 : op < 67
      ·by_cases h48_50 : op < 66
       ·obtain rfl : op = 65 := by omega
        exact row_48
       ·obtain rfl : op = 66 := by omega
        exact row_49
      ·by_cases h50_53 : op < 69
       ·exact row_50 op (by omega) (by omega)
       ·by_cases h51_53 : op < 70
        ·obtain rfl : op = 69 := by omega
         exact row_51
        ·exact row_52 op (by omega) (by omega)
     ·by_cases h53_58 : op < 91
      ·by_cases h53_55 : op < 81
       ·obtain rfl : op = 80 := by omega
        exact row_53
       ·exact row_54 op (by omega) (by omega)
      ·by_cases h55_58 : op < 103
       ·exact row_55 op (by omega) (by omega)
       ·by_cases h56_58 : op < 106
        ·exact row_56 op (by omega) (by omega)
        ·exact row_57 op (by omega) (by omega)
   ·by_cases h58_78 : op < 64768
    ·by_cases h58_68 : op < 172
     ·by_cases h58_63 : op < 139
      ·by_cases h58_60 : op < 124
       ·exact row_58 op (by omega) (by omega)
       ·exact row_59 op (by omega) (by omega)
      ·by_cases h60_63 : op < 167
       ·exact row_60 op (by omega) (by omega)
       ·by_cases h61_63 : op < 168
        ·obtain rfl : op = 167 := by omega
         exact row_61
        ·exact row_62 op (by omega) (by omega)
     ·by_cases h63_68 : op < 192
      ·by_cases h63_65 : op < 174
       ·exact row_63 op (by omega) (by omega)
       ·exact row_64 op (by omega) (by omega)
      ·by_cases h65_68 : op < 194
       ·exact row_65 op (by omega) (by omega)
       ·by_cases h66_68 : op < 197
        ·exact row_66 op (by omega) (by omega)
        ·exact row_67 op (by omega) (by omega)
    ·by_cases h68_78 : op < 64778
     ·by_cases h68_73 : op < 64775
      ·by_cases h68_70 : op < 64769
       ·obtain rfl : op = 64768 := by omega
        exact row_68
       ·exact row_69 op (by omega) (by omega)
      ·by_cases h70_73 : op < 64776
       ·obtain rfl : op = 64775 := by omega
        exact row_70
       ·by_cases h71_73 : op < 64777
        ·obtain rfl : op = 64776 := by omega
         exact row_71
        ·obtain rfl : op = 64777 := by omega
         exact row_72
     ·by_cases h73_78 : op < 64780
      ·by_cases h73_75 : op < 64779
       ·obtain rfl : op = 64778 := by omega
        exact row_73
       ·obtain rfl : op = 64779 := by omega
        exact row_74
      ·by_cases h75_78 : op < 64781
       ·obtain rfl : op = 64780 := by omega
        exact row_75
       ·by_cases h76_78 : op < 64782
        ·obtain rfl : op = 64781 := by omega
         exact row_76
        ·obtain rfl : op = 64782 := by omega
         exact row_77
 ·by_cases h78_157 : op < 64884
  ·by_cases h78_117 : op < 64846
   ·by_cases h78_97 : op < 64793
    ·by_cases h78_87 : op < 64787
     ·by_cases h78_82 : op < 64785
      ·by_cases h78_80 : op < 64784
       ·obtain rfl : op = 64783 := by omega
        exact row_78
       ·obtain rfl : op = 64784 := by omega
        exact row_79
      ·by_cases h80_82 : op < 64786
       ·obtain rfl : op = 64785 := by omega
        exact row_80
       ·obtain rfl : op = 64786 := by omega
        exact row_81
     ·by_cases h82_87 : op < 64790
      ·by_cases h82_84 : op < 64789
       ·exact row_82 op (by omega) (by omega)
       ·obtain rfl : op = 64789 := by omega
        exact row_83
      ·by_cases h84_87 : op < 64791
       ·obtain rfl : op = 64790 := by omega
        exact row_84
       ·by_cases h85_87 : op < 64792
        ·obtain rfl : op = 64791 := by omega
         exact row_85
        ·obtain rfl : op = 64792 := by omega
         exact row_86
    ·by_cases h87_97 : op < 64798
     ·by_cases h87_92 : op < 64795
      ·by_cases h87_89 : op < 64794
       ·obtain rfl : op = 64793 := by omega
        exact row_87
       ·obtain rfl : op = 64794 := by omega
        exact row_88
      ·by_cases h89_92 : op < 64796
       ·obtain rfl : op = 64795 := by omega
        exact row_89
       ·by_cases h90_92 : op < 64797
        ·obtain rfl : op = 64796 := by omega
         exact row_90
        ·obtain rfl : op = 64797 := by omega
         exact row_91
     ·by_cases h92_97 : op < 64803
      ·by_cases h92_94 : op < 64799
       ·obtain rfl : op = 64798 := by omega
        exact row_92
       ·exact row_93 op (by omega) (by omega)
      ·by_cases h94_97 : op < 64833
       ·exact row_94 op (by omega) (by omega)
       ·by_cases h95_97 : op < 64845
        ·exact row_95 op (by omega) (by omega)
        ·obtain rfl : op = 64845 := by omega
         exact row_96
   ·by_cases h97_117 : op < 64859
    ·by_cases h97_107 : op < 64854
     ·by_cases h97_102 : op < 64851
      ·by_cases h97_99 : op < 64850
       ·exact row_97 op (by omega) (by omega)
       ·obtain rfl : op = 64850 := by omega
        exact row_98
      ·by_cases h99_102 : op < 64852
       ·obtain rfl : op = 64851 := by omega
        exact row_99
       ·by_cases h100_102 : op < 64853
        ·obtain rfl : op = 64852 := by omega
         exact row_100
        ·obtain rfl : op = 64853 := by omega
         exact row_101
     ·by_cases h102_107 : op < 64856
      ·by_cases h102_104 : op < 64855
       ·obtain rfl : op = 64854 := by omega
        exact row_102
       ·obtain rfl : op = 64855 := by omega
        exact row_103
      ·by_cases h104_107 : op < 64857
       ·obtain rfl : op = 64856 := by omega
        exact row_104
       ·by_cases h105_107 : op < 64858
        ·obtain rfl : op = 64857 := by omega
         exact row_105
        ·obtain rfl : op = 64858 := by omega
         exact row_106
    ·by_cases h107_117 : op < 64867
     ·by_cases h107_112 : op < 64861
      ·by_cases h107_109 : op < 64860
       ·obtain rfl : op = 64859 := by omega
        exact row_107
       ·obtain rfl : op = 64860 := by omega
        exact row_108
      ·by_cases h109_112 : op < 64862
       ·obtain rfl : op = 64861 := by omega
        exact row_109
       ·by_cases h110_112 : op < 64864
        ·exact row_110 op (by omega) (by omega)
        ·exact row_111 op (by omega) (by omega)
     ·by_cases h112_117 : op < 64871
      ·by_cases h112_114 : op < 64869
       ·exact row_112 op (by omega) (by omega)
       ·exact row_113 op (by omega) (by omega)
      ·by_cases h114_117 : op < 64875
       ·exact row_114 op (by omega) (by omega)
       ·by_cases h115_117 : op < 64878
        ·exact row_115 op (by omega) (by omega)
        ·exact row_116 op (by omega) (by omega)
  ·by_cases h117_157 : op < 64939
   ·by_cases h117_137 : op < 64910
    ·by_cases h117_127 : op < 64898
     ·by_cases h117_122 : op < 64890
      ·by_cases h117_119 : op < 64886
       ·exact row_117 op (by omega) (by omega)
       ·exact row_118 op (by omega) (by omega)
      ·by_cases h119_122 : op < 64891
       ·obtain rfl : op = 64890 := by omega
        exact row_119
       ·by_cases h120_122 : op < 64892
        ·obtain rfl : op = 64891 := by omega
         exact row_120
        ·exact row_121 op (by omega) (by omega)
     ·by_cases h122_127 : op < 64901
      ·by_cases h122_124 : op < 64899
       ·obtain rfl : op = 64898 := by omega
        exact row_122
       ·exact row_123 op (by omega) (by omega)
      ·by_cases h124_127 : op < 64903
       ·exact row_124 op (by omega) (by omega)
       ·by_cases h125_127 : op < 64907
        ·exact row_125 op (by omega) (by omega)
        ·exact row_126 op (by omega) (by omega)
    ·by_cases h127_137 : op < 64928
     ·by_cases h127_132 : op < 64917
      ·by_cases h127_129 : op < 64916
       ·exact row_127 op (by omega) (by omega)
       ·obtain rfl : op = 64916 := by omega
        exact row_128
      ·by_cases h129_132 : op < 64922
       ·exact row_129 op (by omega) (by omega)
       ·by_cases h130_132 : op < 64923
        ·obtain rfl : op = 64922 := by omega
         exact row_130
        ·exact row_131 op (by omega) (by omega)
     ·by_cases h132_137 : op < 64931
      ·by_cases h132_134 : op < 64930
       ·exact row_132 op (by omega) (by omega)
       ·obtain rfl : op = 64930 := by omega
        exact row_133
      ·by_cases h134_137 : op < 64933
       ·exact row_134 op (by omega) (by omega)
       ·by_cases h135_137 : op < 64935
        ·exact row_135 op (by omega) (by omega)
        ·exact row_136 op (by omega) (by omega)
   ·by_cases h137_157 : op < 64963
    ·by_cases h137_147 : op < 64949
     ·by_cases h137_142 : op < 64943
      ·by_cases h137_139 : op < 64942
       ·exact row_137 op (by omega) (by omega)
       ·obtain rfl : op = 64942 := by omega
        exact row_138
      ·by_cases h139_142 : op < 64945
       ·exact row_139 op (by omega) (by omega)
       ·by_cases h140_142 : op < 64946
        ·obtain rfl : op = 64945 := by omega
         exact row_140
        ·exact row_141 op (by omega) (by omega)
     ·by_cases h142_147 : op < 64956
      ·by_cases h142_144 : op < 64955
       ·exact row_142 op (by omega) (by omega)
       ·obtain rfl : op = 64955 := by omega
        exact row_143
      ·by_cases h144_147 : op < 64960
       ·exact row_144 op (by omega) (by omega)
       ·by_cases h145_147 : op < 64962
        ·exact row_145 op (by omega) (by omega)
        ·obtain rfl : op = 64962 := by omega
         exact row_146
    ·by_cases h147_157 : op < 64975
     ·by_cases h147_152 : op < 64967
      ·by_cases h147_149 : op < 64965
       ·exact row_147 op (by omega) (by omega)
       ·exact row_148 op (by omega) (by omega)
      ·by_cases h149_152 : op < 64971
       ·exact row_149 op (by omega) (by omega)
       ·by_cases h150_152 : op < 64974
        ·exact row_150 op (by omega) (by omega)
        ·obtain rfl : op = 64974 := by omega
         exact row_151
     ·by_cases h152_157 : op < 64978
      ·by_cases h152_154 : op < 64977
       ·exact row_152 op (by omega) (by omega)
       ·obtain rfl : op = 64977 := by omega
        exact row_153
      ·by_cases h154_157 : op < 64981
       ·exact row_154 op (by omega) (by omega)
       ·by_cases h155_157 : op < 64992
        ·exact row_155 op (by omega) (by omega)
        ·exact row_156 op (by omega) (by omega)
end Ins
end Go.Proofs.Ytifjgocfdnhdeaa
/- TgOf -/
namespace Go.Proofs.Ytifjgocfdnhdeaa
open Go.RowKit
namespace Tg
open Ins
def MemP (op : Int) : Prop := 40 ≤ op ∧ op ≤ 64 ∧ ¬ (42 ≤ op ∧ op ≤ 43) ∧ ¬ (56 ≤ op ∧ op ≤ 57)
structure Fit (op f : Int) (s : ByteArray) : Prop where
 fit : s.size < 1000 ∧ (cutA s).size ≤ 1000 ∧ (cutB s).size ≤ 1000
 mem : (op < 64768 ∧ (f = 7 ∨ f = 14)) ↔ MemP op
theorem row_0 (op : Int) (h1 : op ≤ -1) : (OFN op ∧ ¬ MemP op) ∨ ∃ f l s, OFY op f l s ∧ Fit op f s := by
 exact Or.inl ⟨fun w => of_sca0 _ _ _ (by omega) (fun w => top_control0 _ _ _ _ (by omega) (fun w => control_0 op (by omega) w) w) w, by unfold MemP; omega⟩
theorem row_1 : (OFN 0 ∧ ¬ MemP 0) ∨ ∃ f l s, OFY 0 f l s ∧ Fit 0 f s := by
 exact Or.inr ⟨1, 0, ⟨#[]⟩, fun w hm => of_sca _ _ _ _ (by omega) rfl g0.1.1 g0.1.2.1 g0.1.2.2 (fun w => top_control0 _ _ _ _ (by omega) (fun w => control_1 w) w) w hm, g0.1, by unfold MemP; omega⟩
theorem row_2 : (OFN 1 ∧ ¬ MemP 1) ∨ ∃ f l s, OFY 1 f l s ∧ Fit 1 f s := by
 exact Or.inr ⟨1, 0, ⟨#[58]⟩, fun w hm => of_sca _ _ _ _ (by omega) rfl g1.1.1 g1.1.2.1 g1.1.2.2 (fun w => top_control0 _ _ _ _ (by omega) (fun w => control_2 w) w) w hm, g1.1, by unfold MemP; omega⟩
theorem row_3 : (OFN 2 ∧ ¬ MemP 2) ∨ ∃ f l s, OFY 2 f l s ∧ Fit 2 f s := by
 exact Or.inr ⟨2, 0, ⟨#[]⟩, fun w hm => of_sca _ _ _ _ (by omega) rfl g2.1.1 g2.1.2.1 g2.1.2.2 (fun w => top_control0 _ _ _ _ (by omega) (fun w => control_3 w) w) w hm, g2.1, by unfold MemP; omega⟩
theorem row_4 : (OFN 3 ∧ ¬ MemP 3) ∨ ∃ f l s, OFY 3 f l s ∧ Fit 3 f s := by
 exact Or.inr ⟨2, 0, ⟨#[]⟩, fun w hm => of_sca _ _ _ _ (by omega) rfl g2.1.1 g2.1.2.1 g2.1.2.2 (fun w => top_control0 _ _ _ _ (by omega) (fun w => control_4 w) w) w hm, g2.1, by unfold MemP; omega⟩
theorem row_5 : (OFN 4 ∧ ¬ MemP 4) ∨ ∃ f l s, OFY 4 f l s ∧ Fit 4 f s := by
 exact Or.inr ⟨2, 0, ⟨#[]⟩, fun w hm => of_sca _ _ _ _ (by omega) rfl g2.1.1 g2.1.2.1 g2.1.2.2 (fun w => top_control0 _ _ _ _ (by omega) (fun w => control_5 w) w) w hm, g2.1, by unfold MemP; omega⟩
theorem row_6 : (OFN 5 ∧ ¬ MemP 5) ∨ ∃ f l s, OFY 5 f l s ∧ Fit 5 f s := by
 exact Or.inr ⟨1, 0, ⟨#[]⟩, fun w hm => of_sca _ _ _ _ (by omega) rfl g0.1.1 g0.1.2.1 g0.1.2.2 (fun w => top_control0 _ _ _ _ (by omega) (fun w => control_6 w) w) w hm, g0.1, by unfold MemP; omega⟩
theorem row_7 (op : Int) (h0 : 6 ≤ op) (h1 : op ≤ 10) : (OFN op ∧ ¬ MemP op) ∨ ∃ f l s, OFY op f l s ∧ Fit op f s := by
 exact Or.inl ⟨fun w => of_sca0 _ _ _ (by omega) (fun w => top_control0 _ _ _ _ (by omega) (fun w => control_7 op (by omega) (by omega) w) w) w, by unfold MemP; omega⟩
theorem row_8 : (OFN 11 ∧ ¬ MemP 11) ∨ ∃ f l s, OFY 11 f l s ∧ Fit 11 f s := by
 exact Or.inr ⟨1, 0, ⟨#[]⟩, fun w hm => of_sca _ _ _ _ (by omega) rfl g0.1.1 g0.1.2.1 g0.1.2.2 (fun w => top_control0 _ _ _ _ (by omega) (fun w => control_8 w) w) w hm, g0.1, by unfold MemP; omega⟩
theorem row_9 : (OFN 12 ∧ ¬ MemP 12) ∨ ∃ f l s, OFY 12 f l s ∧ Fit 12 f s := by
 exact Or.inr ⟨3, 0, ⟨#[]⟩, fun w hm => of_sca _ _ _ _ (by omega) rfl g3.1.1 g3.1.2.1 g3.1.2.2 (fun w => top_control0 _ _ _ _ (by omega) (fun w => control_9 w) w) w hm, g3.1, by unfold MemP; omega⟩
theorem row_10 : (OFN 13 ∧ ¬ MemP 13) ∨ ∃ f l s, OFY 13 f l s ∧ Fit 13 f s := by
 exact Or.inr ⟨3, 0, ⟨#[]⟩, fun w hm => of_sca _ _ _ _ (by omega) rfl g3.1.1 g3.1.2.1 g3.1.2.2 (fun w => top_control0 _ _ _ _ (by omega) (fun w => control_10 w) w) w hm, g3.1, by unfold MemP; omega⟩
theorem row_11 : (OFN 14 ∧ ¬ MemP 14) ∨ ∃ f l s, OFY 14 f l s ∧ Fit 14 f s := by
 exact Or.inr ⟨4, 0, ⟨#[]⟩, fun w hm => of_sca _ _ _ _ (by omega) rfl g4.1.1 g4.1.2.1 g4.1.2.2 (fun w => top_control0 _ _ _ _ (by omega) (fun w => control_11 w) w) w hm, g4.1, by unfold MemP; omega⟩
theorem row_12 : (OFN 15 ∧ ¬ MemP 15) ∨ ∃ f l s, OFY 15 f l s ∧ Fit 15 f s := by
 exact Or.inr ⟨1, 0, ⟨#[]⟩, fun w hm => of_sca _ _ _ _ (by omega) rfl g0.1.1 g0.1.2.1 g0.1.2.2 (fun w => top_control0 _ _ _ _ (by omega) (fun w => control_12 w) w) w hm, g0.1, by unfold MemP; omega⟩
theorem row_13 : (OFN 16 ∧ ¬ MemP 16) ∨ ∃ f l s, OFY 16 f l s ∧ Fit 16 f s := by
 exact Or.inr ⟨5, 0, ⟨#[]⟩, fun w hm => of_sca _ _ _ _ (by omega) rfl g5.1.1 g5.1.2.1 g5.1.2.2 (fun w => top_control0 _ _ _ _ (by omega) (fun w => control_13 w) w) w hm, g5.1, by unfold MemP; omega⟩
theorem row_14 : (OFN 17 ∧ ¬ MemP 17) ∨ ∃ f l s, OFY 17 f l s ∧ Fit 17 f s := by
 exact Or.inr ⟨6, 0, ⟨#[]⟩, fun w hm => of_sca _ _ _ _ (by omega) rfl g6.1.1 g6.1.2.1 g6.1.2.2 (fun w => top_control0 _ _ _ _ (by omega) (fun w => control_14 w) w) w hm, g6.1, by unfold MemP; omega⟩
theorem row_15 (op : Int) (h0 : 18 ≤ op) (h1 : op ≤ 25) : (OFN op ∧ ¬ MemP op) ∨ ∃ f l s, OFY op f l s ∧ Fit op f s := by
 exact Or.inl ⟨fun w => of_sca0 _ _ _ (by omega) (fun w => top_control0 _ _ _ _ (by omega) (fun w => control_15 op (by omega) (by omega) w) w) w, by unfold MemP; omega⟩
theorem row_16 : (OFN 26 ∧ ¬ MemP 26) ∨ ∃ f l s, OFY 26 f l s ∧ Fit 26 f s := by
 exact Or.inr ⟨1, 0, ⟨#[]⟩, fun w hm => of_sca _ _ _ _ (by omega) rfl g0.1.1 g0.1.2.1 g0.1.2.2 (fun w => top_control0 _ _ _ _ (by omega) (fun w => control_16 w) w) w hm, g0.1, by unfold MemP; omega⟩
theorem row_17 : (OFN 27 ∧ ¬ MemP 27) ∨ ∃ f l s, OFY 27 f l s ∧ Fit 27 f s := by
 exact Or.inr ⟨1, 0, ⟨#[]⟩, fun w hm => of_sca _ _ _ _ (by omega) rfl g0.1.1 g0.1.2.1 g0.1.2.2 (fun w => top_control0 _ _ _ _ (by omega) (fun w => control_17 w) w) w hm, g0.1, by unfold MemP; omega⟩
theorem row_18 (op : Int) (h0 : 28 ≤ op) (h1 : op ≤ 31) : (OFN op ∧ ¬ MemP op) ∨ ∃ f l s, OFY op f l s ∧ Fit op f s := by
 exact Or.inl ⟨fun w => of_sca0 _ _ _ (by omega) (fun w => top_control0 _ _ _ _ (by omega) (fun w => control_18 op (by omega) (by omega) w) w) w, by unfold MemP; omega⟩
theorem row_19 : (OFN 32 ∧ ¬ MemP 32) ∨ ∃ f l s, OFY 32 f l s ∧ Fit 32 f s := by
 exact Or.inr ⟨5, 0, ⟨#[]⟩, fun w hm => of_sca _ _ _ _ (by omega) rfl g5.1.1 g5.1.2.1 g5.1.2.2 (fun w => top_control0 _ _ _ _ (by omega) (fun w => control_19 w) w) w hm, g5.1, by unfold MemP; omega⟩
theorem row_20 : (OFN 33 ∧ ¬ MemP 33) ∨ ∃ f l s, OFY 33 f l s ∧ Fit 33 f s := by
 exact Or.inr ⟨5, 0, ⟨#[]⟩, fun w hm => of_sca _ _ _ _ (by omega) rfl g5.1.1 g5.1.2.1 g5.1.2.2 (fun w => top_control0 _ _ _ _ (by omega) (fun w => control_20 w) w) w hm, g5.1, by unfold MemP; omega⟩
theorem row_21 : (OFN 34 ∧ ¬ MemP 34) ∨ ∃ f l s, OFY 34 f l s ∧ Fit 34 f s := by
 exact Or.inr ⟨5, 0, ⟨#[]⟩, fun w hm => of_sca _ _ _ _ (by omega) rfl g5.1.1 g5.1.2.1 g5.1.2.2 (fun w => top_control0 _ _ _ _ (by omega) (fun w => control_21 w) w) w hm, g5.1, by unfold MemP; omega⟩
theorem row_22 : (OFN 35 ∧ ¬ MemP 35) ∨ ∃ f l s, OFY 35 f l s ∧ Fit 35 f s := by
 exact Or.inr ⟨5, 0, ⟨#[]⟩, fun w hm => of_sca _ _ _ _ (by omega) rfl g5.1.1 g5.1.2.1 g5.1.2.2 (fun w => top_control0 _ _ _ _ (by omega) (fun w => control_22 w) w) w hm, g5.1, by unfold MemP; omega⟩
theorem row_23 : (OFN 36 ∧ ¬ MemP 36) ∨ ∃ f l s, OFY 36 f l s ∧ Fit 36 f s := by
 exact Or.inr ⟨5, 0, ⟨#[]⟩, fun w hm => of_sca _ _ _ _ (by omega) rfl g5.1.1 g5.1.2.1 g5.1.2.2 (fun w => top_control0 _ _ _ _ (by omega) (fun w => control_23 w) w) w hm, g5.1, by unfold MemP; omega⟩
theorem row_24 (op : Int) (h0 : 37 ≤ op) (h1 : op ≤ 39) : (OFN op ∧ ¬ MemP op) ∨ ∃ f l s, OFY op f l s ∧ Fit op f s := by
 exact Or.inl ⟨fun w => of_sca0 _ _ _ (by omega) (fun w => top_control0 _ _ _ _ (by omega) (fun w => control_24 op (by omega) (by omega) w) w) w, by unfold MemP; omega⟩
theorem row_25 : (OFN 40 ∧ ¬ MemP 40) ∨ ∃ f l s, OFY 40 f l s ∧ Fit 40 f s := by
 exact Or.inr ⟨7, 2, ⟨#[105, 58, 105]⟩, fun w hm => of_sca _ _ _ _ (by omega) rfl g7.1.1 g7.1.2.1 g7.1.2.2 (fun w => top_access0 _ _ _ _ (by omega) (by omega) (fun w => access_0 w) w) w hm, g7.1, by unfold MemP; omega⟩
theorem row_26 : (OFN 41 ∧ ¬ MemP 41) ∨ ∃ f l s, OFY 41 f l s ∧ Fit 41 f s := by
 exact Or.inr ⟨7, 3, ⟨#[105, 58, 108]⟩, fun w hm => of_sca _ _ _ _ (by omega) rfl g8.1.1 g8.1.2.1 g8.1.2.2 (fun w => top_access0 _ _ _ _ (by omega) (by omega) (fun w => access_1 w) w) w hm, g8.1, by unfold MemP; omega⟩
theorem row_27 (op : Int) (h0 : 42 ≤ op) (h1 : op ≤ 43) : (OFN op ∧ ¬ MemP op) ∨ ∃ f l s, OFY op f l s ∧ Fit op f s := by
 exact Or.inl ⟨fun w => of_sca0 _ _ _ (by omega) (fun w => top_access0 _ _ _ _ (by omega) (by omega) (fun w => access_2 op (by omega) (by omega) w) w) w, by unfold MemP; omega⟩
theorem row_28 : (OFN 44 ∧ ¬ MemP 44) ∨ ∃ f l s, OFY 44 f l s ∧ Fit 44 f s := by
 exact Or.inr ⟨7, 0, ⟨#[105, 58, 105]⟩, fun w hm => of_sca _ _ _ _ (by omega) rfl g9.1.1 g9.1.2.1 g9.1.2.2 (fun w => top_access0 _ _ _ _ (by omega) (by omega) (fun w => access_3 w) w) w hm, g9.1, by unfold MemP; omega⟩
theorem row_29 : (OFN 45 ∧ ¬ MemP 45) ∨ ∃ f l s, OFY 45 f l s ∧ Fit 45 f s := by
 exact Or.inr ⟨7, 0, ⟨#[105, 58, 105]⟩, fun w hm => of_sca _ _ _ _ (by omega) rfl g9.1.1 g9.1.2.1 g9.1.2.2 (fun w => top_access0 _ _ _ _ (by omega) (by omega) (fun w => access_4 w) w) w hm, g9.1, by unfold MemP; omega⟩
theorem row_30 : (OFN 46 ∧ ¬ MemP 46) ∨ ∃ f l s, OFY 46 f l s ∧ Fit 46 f s := by
 exact Or.inr ⟨7, 1, ⟨#[105, 58, 105]⟩, fun w hm => of_sca _ _ _ _ (by omega) rfl g10.1.1 g10.1.2.1 g10.1.2.2 (fun w => top_access0 _ _ _ _ (by omega) (by omega) (fun w => access_5 w) w) w hm, g10.1, by unfold MemP; omega⟩
theorem row_31 : (OFN 47 ∧ ¬ MemP 47) ∨ ∃ f l s, OFY 47 f l s ∧ Fit 47 f s := by
 exact Or.inr ⟨7, 1, ⟨#[105, 58, 105]⟩, fun w hm => of_sca _ _ _ _ (by omega) rfl g10.1.1 g10.1.2.1 g10.1.2.2 (fun w => top_access0 _ _ _ _ (by omega) (by omega) (fun w => access_6 w) w) w hm, g10.1, by unfold MemP; omega⟩
theorem row_32 : (OFN 48 ∧ ¬ MemP 48) ∨ ∃ f l s, OFY 48 f l s ∧ Fit 48 f s := by
 exact Or.inr ⟨7, 0, ⟨#[105, 58, 108]⟩, fun w hm => of_sca _ _ _ _ (by omega) rfl g11.1.1 g11.1.2.1 g11.1.2.2 (fun w => top_access0 _ _ _ _ (by omega) (by omega) (fun w => access_7 w) w) w hm, g11.1, by unfold MemP; omega⟩
theorem row_33 : (OFN 49 ∧ ¬ MemP 49) ∨ ∃ f l s, OFY 49 f l s ∧ Fit 49 f s := by
 exact Or.inr ⟨7, 0, ⟨#[105, 58, 108]⟩, fun w hm => of_sca _ _ _ _ (by omega) rfl g11.1.1 g11.1.2.1 g11.1.2.2 (fun w => top_access0 _ _ _ _ (by omega) (by omega) (fun w => access_8 w) w) w hm, g11.1, by unfold MemP; omega⟩
theorem row_34 : (OFN 50 ∧ ¬ MemP 50) ∨ ∃ f l s, OFY 50 f l s ∧ Fit 50 f s := by
 exact Or.inr ⟨7, 1, ⟨#[105, 58, 108]⟩, fun w hm => of_sca _ _ _ _ (by omega) rfl g12.1.1 g12.1.2.1 g12.1.2.2 (fun w => top_access0 _ _ _ _ (by omega) (by omega) (fun w => access_9 w) w) w hm, g12.1, by unfold MemP; omega⟩
theorem row_35 : (OFN 51 ∧ ¬ MemP 51) ∨ ∃ f l s, OFY 51 f l s ∧ Fit 51 f s := by
 exact Or.inr ⟨7, 1, ⟨#[105, 58, 108]⟩, fun w hm => of_sca _ _ _ _ (by omega) rfl g12.1.1 g12.1.2.1 g12.1.2.2 (fun w => top_access0 _ _ _ _ (by omega) (by omega) (fun w => access_10 w) w) w hm, g12.1, by unfold MemP; omega⟩
theorem row_36 : (OFN 52 ∧ ¬ MemP 52) ∨ ∃ f l s, OFY 52 f l s ∧ Fit 52 f s := by
 exact Or.inr ⟨7, 2, ⟨#[105, 58, 108]⟩, fun w hm => of_sca _ _ _ _ (by omega) rfl g13.1.1 g13.1.2.1 g13.1.2.2 (fun w => top_access0 _ _ _ _ (by omega) (by omega) (fun w => access_11 w) w) w hm, g13.1, by unfold MemP; omega⟩
theorem row_37 : (OFN 53 ∧ ¬ MemP 53) ∨ ∃ f l s, OFY 53 f l s ∧ Fit 53 f s := by
 exact Or.inr ⟨7, 2, ⟨#[105, 58, 108]⟩, fun w hm => of_sca _ _ _ _ (by omega) rfl g13.1.1 g13.1.2.1 g13.1.2.2 (fun w => top_access0 _ _ _ _ (by omega) (by omega) (fun w => access_12 w) w) w hm, g13.1, by unfold MemP; omega⟩
theorem row_38 : (OFN 54 ∧ ¬ MemP 54) ∨ ∃ f l s, OFY 54 f l s ∧ Fit 54 f s := by
 exact Or.inr ⟨7, 2, ⟨#[105, 105, 58]⟩, fun w hm => of_sca _ _ _ _ (by omega) rfl g14.1.1 g14.1.2.1 g14.1.2.2 (fun w => top_access0 _ _ _ _ (by omega) (by omega) (fun w => access_13 w) w) w hm, g14.1, by unfold MemP; omega⟩
theorem row_39 : (OFN 55 ∧ ¬ MemP 55) ∨ ∃ f l s, OFY 55 f l s ∧ Fit 55 f s := by
 exact Or.inr ⟨7, 3, ⟨#[105, 108, 58]⟩, fun w hm => of_sca _ _ _ _ (by omega) rfl g15.1.1 g15.1.2.1 g15.1.2.2 (fun w => top_access0 _ _ _ _ (by omega) (by omega) (fun w => access_14 w) w) w hm, g15.1, by unfold MemP; omega⟩
theorem row_40 (op : Int) (h0 : 56 ≤ op) (h1 : op ≤ 57) : (OFN op ∧ ¬ MemP op) ∨ ∃ f l s, OFY op f l s ∧ Fit op f s := by
 exact Or.inl ⟨fun w => of_sca0 _ _ _ (by omega) (fun w => top_access0 _ _ _ _ (by omega) (by omega) (fun w => access_15 op (by omega) (by omega) w) w) w, by unfold MemP; omega⟩
theorem row_41 : (OFN 58 ∧ ¬ MemP 58) ∨ ∃ f l s, OFY 58 f l s ∧ Fit 58 f s := by
 exact Or.inr ⟨7, 0, ⟨#[105, 105, 58]⟩, fun w hm => of_sca _ _ _ _ (by omega) rfl g16.1.1 g16.1.2.1 g16.1.2.2 (fun w => top_access0 _ _ _ _ (by omega) (by omega) (fun w => access_16 w) w) w hm, g16.1, by unfold MemP; omega⟩
theorem row_42 : (OFN 59 ∧ ¬ MemP 59) ∨ ∃ f l s, OFY 59 f l s ∧ Fit 59 f s := by
 exact Or.inr ⟨7, 1, ⟨#[105, 105, 58]⟩, fun w hm => of_sca _ _ _ _ (by omega) rfl g17.1.1 g17.1.2.1 g17.1.2.2 (fun w => top_access0 _ _ _ _ (by omega) (by omega) (fun w => access_17 w) w) w hm, g17.1, by unfold MemP; omega⟩
theorem row_43 : (OFN 60 ∧ ¬ MemP 60) ∨ ∃ f l s, OFY 60 f l s ∧ Fit 60 f s := by
 exact Or.inr ⟨7, 0, ⟨#[105, 108, 58]⟩, fun w hm => of_sca _ _ _ _ (by omega) rfl g18.1.1 g18.1.2.1 g18.1.2.2 (fun w => top_access0 _ _ _ _ (by omega) (by omega) (fun w => access_18 w) w) w hm, g18.1, by unfold MemP; omega⟩
theorem row_44 : (OFN 61 ∧ ¬ MemP 61) ∨ ∃ f l s, OFY 61 f l s ∧ Fit 61 f s := by
 exact Or.inr ⟨7, 1, ⟨#[105, 108, 58]⟩, fun w hm => of_sca _ _ _ _ (by omega) rfl g19.1.1 g19.1.2.1 g19.1.2.2 (fun w => top_access0 _ _ _ _ (by omega) (by omega) (fun w => access_19 w) w) w hm, g19.1, by unfold MemP; omega⟩
theorem row_45 : (OFN 62 ∧ ¬ MemP 62) ∨ ∃ f l s, OFY 62 f l s ∧ Fit 62 f s := by
 exact Or.inr ⟨7, 2, ⟨#[105, 108, 58]⟩, fun w hm => of_sca _ _ _ _ (by omega) rfl g20.1.1 g20.1.2.1 g20.1.2.2 (fun w => top_access0 _ _ _ _ (by omega) (by omega) (fun w => access_20 w) w) w hm, g20.1, by unfold MemP; omega⟩
theorem row_46 : (OFN 63 ∧ ¬ MemP 63) ∨ ∃ f l s, OFY 63 f l s ∧ Fit 63 f s := by
 exact Or.inr ⟨14, 0, ⟨#[58, 105]⟩, fun w hm => of_sca _ _ _ _ (by omega) rfl g21.1.1 g21.1.2.1 g21.1.2.2 (fun w => top_63 w) w hm, g21.1, by unfold MemP; omega⟩
theorem row_47 : (OFN 64 ∧ ¬ MemP 64) ∨ ∃ f l s, OFY 64 f l s ∧ Fit 64 f s := by
 exact Or.inr ⟨14, 0, ⟨#[105, 58, 105]⟩, fun w hm => of_sca _ _ _ _ (by omega) rfl g22.1.1 g22.1.2.1 g22.1.2.2 (fun w => top_64 w) w hm, g22.1, by unfold MemP; omega⟩
theorem row_48 : (OFN 65 ∧ ¬ MemP 65) ∨ ∃ f l s, OFY 65 f l s ∧ Fit 65 f s := by
 exact Or.inr ⟨9, 0, ⟨#[58, 105]⟩, fun w hm => of_sca _ _ _ _ (by omega) rfl g23.1.1 g23.1.2.1 g23.1.2.2 (fun w => top_65 w) w hm, g23.1, by unfold MemP; omega⟩
theorem row_49 : (OFN 66 ∧ ¬ MemP 66) ∨ ∃ f l s, OFY 66 f l s ∧ Fit 66 f s := by
 exact Or.inr ⟨10, 0, ⟨#[58, 108]⟩, fun w hm => of_sca _ _ _ _ (by omega) rfl g24.1.1 g24.1.2.1 g24.1.2.2 (fun w => top_66 w) w hm, g24.1, by unfold MemP; omega⟩
theorem row_50 (op : Int) (h0 : 67 ≤ op) (h1 : op ≤ 68) : (OFN op ∧ ¬ MemP op) ∨ ∃ f l s, OFY op f l s ∧ Fit op f s := by
 exact Or.inl ⟨fun w => of_sca0 _ _ _ (by omega) (fun w => top_control1 _ _ _ _ (by omega) (by omega) (fun w => control_25 op (by omega) (by omega) w) w) w, by unfold MemP; omega⟩
theorem row_51 : (OFN 69 ∧ ¬ MemP 69) ∨ ∃ f l s, OFY 69 f l s ∧ Fit 69 f s := by
 exact Or.inr ⟨1, 0, ⟨#[105, 58, 105]⟩, fun w hm => of_sca _ _ _ _ (by omega) rfl g25.1.1 g25.1.2.1 g25.1.2.2 (fun w => top_operator0 _ _ _ _ (by omega) (fun w => operator_0 w) w) w hm, g25.1, by unfold MemP; omega⟩
theorem row_52 (op : Int) (h0 : 70 ≤ op) (h1 : op ≤ 79) : (OFN op ∧ ¬ MemP op) ∨ ∃ f l s, OFY op f l s ∧ Fit op f s := by
 exact Or.inr ⟨1, 0, ⟨#[105, 105, 58, 105]⟩, fun w hm => of_sca _ _ _ _ (by omega) rfl g26.1.1 g26.1.2.1 g26.1.2.2 (fun w => top_operator0 _ _ _ _ (by omega) (fun w => operator_1 op (by omega) (by omega) w) w) w hm, g26.1, by unfold MemP; omega⟩
theorem row_53 : (OFN 80 ∧ ¬ MemP 80) ∨ ∃ f l s, OFY 80 f l s ∧ Fit 80 f s := by
 exact Or.inr ⟨1, 0, ⟨#[108, 58, 105]⟩, fun w hm => of_sca _ _ _ _ (by omega) rfl g27.1.1 g27.1.2.1 g27.1.2.2 (fun w => top_operator0 _ _ _ _ (by omega) (fun w => operator_2 w) w) w hm, g27.1, by unfold MemP; omega⟩
theorem row_54 (op : Int) (h0 : 81 ≤ op) (h1 : op ≤ 90) : (OFN op ∧ ¬ MemP op) ∨ ∃ f l s, OFY op f l s ∧ Fit op f s := by
 exact Or.inr ⟨1, 0, ⟨#[108, 108, 58, 105]⟩, fun w hm => of_sca _ _ _ _ (by omega) rfl g28.1.1 g28.1.2.1 g28.1.2.2 (fun w => top_operator0 _ _ _ _ (by omega) (fun w => operator_3 op (by omega) (by omega) w) w) w hm, g28.1, by unfold MemP; omega⟩
theorem row_55 (op : Int) (h0 : 91 ≤ op) (h1 : op ≤ 102) : (OFN op ∧ ¬ MemP op) ∨ ∃ f l s, OFY op f l s ∧ Fit op f s := by
 exact Or.inl ⟨fun w => of_sca0 _ _ _ (by omega) (fun w => top_operator0 _ _ _ _ (by omega) (fun w => operator_4 op (by omega) (by omega) w) w) w, by unfold MemP; omega⟩
theorem row_56 (op : Int) (h0 : 103 ≤ op) (h1 : op ≤ 105) : (OFN op ∧ ¬ MemP op) ∨ ∃ f l s, OFY op f l s ∧ Fit op f s := by
 exact Or.inr ⟨1, 0, ⟨#[105, 58, 105]⟩, fun w hm => of_sca _ _ _ _ (by omega) rfl g25.1.1 g25.1.2.1 g25.1.2.2 (fun w => top_operator0 _ _ _ _ (by omega) (fun w => operator_5 op (by omega) (by omega) w) w) w hm, g25.1, by unfold MemP; omega⟩
theorem row_57 (op : Int) (h0 : 106 ≤ op) (h1 : op ≤ 120) : (OFN op ∧ ¬ MemP op) ∨ ∃ f l s, OFY op f l s ∧ Fit op f s := by
 exact Or.inr ⟨1, 0, ⟨#[105, 105, 58, 105]⟩, fun w hm => of_sca _ _ _ _ (by omega) rfl g26.1.1 g26.1.2.1 g26.1.2.2 (fun w => top_operator0 _ _ _ _ (by omega) (fun w => operator_6 op (by omega) (by omega) w) w) w hm, g26.1, by unfold MemP; omega⟩
theorem row_58 (op : Int) (h0 : 121 ≤ op) (h1 : op ≤ 123) : (OFN op ∧ ¬ MemP op) ∨ ∃ f l s, OFY op f l s ∧ Fit op f s := by
 exact Or.inr ⟨1, 0, ⟨#[108, 58, 108]⟩, fun w hm => of_sca _ _ _ _ (by omega) rfl g29.1.1 g29.1.2.1 g29.1.2.2 (fun w => top_operator0 _ _ _ _ (by omega) (fun w => operator_7 op (by omega) (by omega) w) w) w hm, g29.1, by unfold MemP; omega⟩
theorem row_59 (op : Int) (h0 : 124 ≤ op) (h1 : op ≤ 138) : (OFN op ∧ ¬ MemP op) ∨ ∃ f l s, OFY op f l s ∧ Fit op f s := by
 exact Or.inr ⟨1, 0, ⟨#[108, 108, 58, 108]⟩, fun w hm => of_sca _ _ _ _ (by omega) rfl g30.1.1 g30.1.2.1 g30.1.2.2 (fun w => top_operator0 _ _ _ _ (by omega) (fun w => operator_8 op (by omega) (by omega) w) w) w hm, g30.1, by unfold MemP; omega⟩
theorem row_60 (op : Int) (h0 : 139 ≤ op) (h1 : op ≤ 166) : (OFN op ∧ ¬ MemP op) ∨ ∃ f l s, OFY op f l s ∧ Fit op f s := by
 exact Or.inl ⟨fun w => of_sca0 _ _ _ (by omega) (fun w => top_operator0 _ _ _ _ (by omega) (fun w => operator_9 op (by omega) (by omega) w) w) w, by unfold MemP; omega⟩
theorem row_61 : (OFN 167 ∧ ¬ MemP 167) ∨ ∃ f l s, OFY 167 f l s ∧ Fit 167 f s := by
 exact Or.inr ⟨1, 0, ⟨#[108, 58, 105]⟩, fun w hm => of_sca _ _ _ _ (by omega) rfl g27.1.1 g27.1.2.1 g27.1.2.2 (fun w => top_operator0 _ _ _ _ (by omega) (fun w => operator_10 w) w) w hm, g27.1, by unfold MemP; omega⟩
theorem row_62 (op : Int) (h0 : 168 ≤ op) (h1 : op ≤ 171) : (OFN op ∧ ¬ MemP op) ∨ ∃ f l s, OFY op f l s ∧ Fit op f s := by
 exact Or.inl ⟨fun w => of_sca0 _ _ _ (by omega) (fun w => top_operator0 _ _ _ _ (by omega) (fun w => operator_11 op (by omega) (by omega) w) w) w, by unfold MemP; omega⟩
theorem row_63 (op : Int) (h0 : 172 ≤ op) (h1 : op ≤ 173) : (OFN op ∧ ¬ MemP op) ∨ ∃ f l s, OFY op f l s ∧ Fit op f s := by
 exact Or.inr ⟨1, 0, ⟨#[105, 58, 108]⟩, fun w hm => of_sca _ _ _ _ (by omega) rfl g31.1.1 g31.1.2.1 g31.1.2.2 (fun w => top_operator0 _ _ _ _ (by omega) (fun w => operator_12 op (by omega) (by omega) w) w) w hm, g31.1, by unfold MemP; omega⟩
theorem row_64 (op : Int) (h0 : 174 ≤ op) (h1 : op ≤ 191) : (OFN op ∧ ¬ MemP op) ∨ ∃ f l s, OFY op f l s ∧ Fit op f s := by
 exact Or.inl ⟨fun w => of_sca0 _ _ _ (by omega) (fun w => top_operator0 _ _ _ _ (by omega) (fun w => operator_13 op (by omega) (by omega) w) w) w, by unfold MemP; omega⟩
theorem row_65 (op : Int) (h0 : 192 ≤ op) (h1 : op ≤ 193) : (OFN op ∧ ¬ MemP op) ∨ ∃ f l s, OFY op f l s ∧ Fit op f s := by
 exact Or.inr ⟨1, 0, ⟨#[105, 58, 105]⟩, fun w hm => of_sca _ _ _ _ (by omega) rfl g25.1.1 g25.1.2.1 g25.1.2.2 (fun w => top_operator0 _ _ _ _ (by omega) (fun w => operator_14 op (by omega) (by omega) w) w) w hm, g25.1, by unfold MemP; omega⟩
theorem row_66 (op : Int) (h0 : 194 ≤ op) (h1 : op ≤ 196) : (OFN op ∧ ¬ MemP op) ∨ ∃ f l s, OFY op f l s ∧ Fit op f s := by
 exact Or.inr ⟨1, 0, ⟨#[108, 58, 108]⟩, fun w hm => of_sca _ _ _ _ (by omega) rfl g29.1.1 g29.1.2.1 g29.1.2.2 (fun w => top_operator0 _ _ _ _ (by omega) (fun w => operator_15 op (by omega) (by omega) w) w) w hm, g29.1, by unfold MemP; omega⟩
theorem row_67 (op : Int) (h0 : 197 ≤ op) (h1 : op ≤ 64767) : (OFN op ∧ ¬ MemP op) ∨ ∃ f l s, OFY op f l s ∧ Fit op f s := by
 exact Or.inl ⟨fun w => of_sca0 _ _ _ (by omega) (fun w => top_operator0 _ _ _ _ (by omega) (fun w => operator_16 op (by omega) w) w) w, by unfold MemP; omega⟩
theorem row_68 : (OFN 64768 ∧ ¬ MemP 64768) ∨ ∃ f l s, OFY 64768 f l s ∧ Fit 64768 f s := by
 exact Or.inr ⟨7, 4, ⟨#[105, 58, 118]⟩, fun w hm => of_vec _ 0 _ _ _ (by omega) (by omega) (by omega) rfl g32.1.1 g32.1.2.1 g32.1.2.2 (fun w => top_va0 _ _ _ _ (by omega) (by omega) (fun w => va_0 w) w) w hm, g32.1, by unfold MemP; omega⟩
theorem row_69 (op : Int) (h0 : 64769 ≤ op) (h1 : op ≤ 64774) : (OFN op ∧ ¬ MemP op) ∨ ∃ f l s, OFY op f l s ∧ Fit op f s := by
 exact Or.inr ⟨7, 3, ⟨#[105, 58, 118]⟩, fun w hm => of_vec _ (op - 64768) _ _ _ (by omega) (by omega) (by omega) rfl g33.1.1 g33.1.2.1 g33.1.2.2 (fun w => top_va0 _ _ _ _ (by omega) (by omega) (fun w => va_1 (op - 64768) (by omega) (by omega) w) w) w hm, g33.1, by unfold MemP; omega⟩
theorem row_70 : (OFN 64775 ∧ ¬ MemP 64775) ∨ ∃ f l s, OFY 64775 f l s ∧ Fit 64775 f s := by
 exact Or.inr ⟨7, 0, ⟨#[105, 58, 118]⟩, fun w hm => of_vec _ 7 _ _ _ (by omega) (by omega) (by omega) rfl g34.1.1 g34.1.2.1 g34.1.2.2 (fun w => top_va0 _ _ _ _ (by omega) (by omega) (fun w => va_2 w) w) w hm, g34.1, by unfold MemP; omega⟩
theorem row_71 : (OFN 64776 ∧ ¬ MemP 64776) ∨ ∃ f l s, OFY 64776 f l s ∧ Fit 64776 f s := by
 exact Or.inr ⟨7, 1, ⟨#[105, 58, 118]⟩, fun w hm => of_vec _ 8 _ _ _ (by omega) (by omega) (by omega) rfl g35.1.1 g35.1.2.1 g35.1.2.2 (fun w => top_va0 _ _ _ _ (by omega) (by omega) (fun w => va_3 w) w) w hm, g35.1, by unfold MemP; omega⟩
theorem row_72 : (OFN 64777 ∧ ¬ MemP 64777) ∨ ∃ f l s, OFY 64777 f l s ∧ Fit 64777 f s := by
 exact Or.inr ⟨7, 2, ⟨#[105, 58, 118]⟩, fun w hm => of_vec _ 9 _ _ _ (by omega) (by omega) (by omega) rfl g36.1.1 g36.1.2.1 g36.1.2.2 (fun w => top_va0 _ _ _ _ (by omega) (by omega) (fun w => va_4 w) w) w hm, g36.1, by unfold MemP; omega⟩
theorem row_73 : (OFN 64778 ∧ ¬ MemP 64778) ∨ ∃ f l s, OFY 64778 f l s ∧ Fit 64778 f s := by
 exact Or.inr ⟨7, 3, ⟨#[105, 58, 118]⟩, fun w hm => of_vec _ 10 _ _ _ (by omega) (by omega) (by omega) rfl g33.1.1 g33.1.2.1 g33.1.2.2 (fun w => top_va0 _ _ _ _ (by omega) (by omega) (fun w => va_5 w) w) w hm, g33.1, by unfold MemP; omega⟩
theorem row_74 : (OFN 64779 ∧ ¬ MemP 64779) ∨ ∃ f l s, OFY 64779 f l s ∧ Fit 64779 f s := by
 exact Or.inr ⟨7, 4, ⟨#[105, 118, 58]⟩, fun w hm => of_vec _ 11 _ _ _ (by omega) (by omega) (by omega) rfl g37.1.1 g37.1.2.1 g37.1.2.2 (fun w => top_va0 _ _ _ _ (by omega) (by omega) (fun w => va_6 w) w) w hm, g37.1, by unfold MemP; omega⟩
theorem row_75 : (OFN 64780 ∧ ¬ MemP 64780) ∨ ∃ f l s, OFY 64780 f l s ∧ Fit 64780 f s := by
 exact Or.inr ⟨11, 0, ⟨#[58, 118]⟩, fun w hm => of_vec _ 12 _ _ _ (by omega) (by omega) (by omega) rfl g38.1.1 g38.1.2.1 g38.1.2.2 (fun w => top_vm0 _ _ _ _ (by omega) (by omega) (fun w => vm_0 w) w) w hm, g38.1, by unfold MemP; omega⟩
theorem row_76 : (OFN 64781 ∧ ¬ MemP 64781) ∨ ∃ f l s, OFY 64781 f l s ∧ Fit 64781 f s := by
 exact Or.inr ⟨12, 0, ⟨#[118, 118, 58, 118]⟩, fun w hm => of_vec _ 13 _ _ _ (by omega) (by omega) (by omega) rfl g39.1.1 g39.1.2.1 g39.1.2.2 (fun w => top_vm0 _ _ _ _ (by omega) (by omega) (fun w => vm_1 w) w) w hm, g39.1, by unfold MemP; omega⟩
theorem row_77 : (OFN 64782 ∧ ¬ MemP 64782) ∨ ∃ f l s, OFY 64782 f l s ∧ Fit 64782 f s := by
 exact Or.inr ⟨1, 0, ⟨#[118, 118, 58, 118]⟩, fun w hm => of_vec _ 14 _ _ _ (by omega) (by omega) (by omega) rfl g40.1.1 g40.1.2.1 g40.1.2.2 (fun w => top_vm0 _ _ _ _ (by omega) (by omega) (fun w => vm_2 w) w) w hm, g40.1, by unfold MemP; omega⟩
theorem row_78 : (OFN 64783 ∧ ¬ MemP 64783) ∨ ∃ f l s, OFY 64783 f l s ∧ Fit 64783 f s := by
 exact Or.inr ⟨1, 0, ⟨#[105, 58, 118]⟩, fun w hm => of_vec _ 15 _ _ _ (by omega) (by omega) (by omega) rfl g41.1.1 g41.1.2.1 g41.1.2.2 (fun w => top_vm0 _ _ _ _ (by omega) (by omega) (fun w => vm_3 w) w) w hm, g41.1, by unfold MemP; omega⟩
theorem row_79 : (OFN 64784 ∧ ¬ MemP 64784) ∨ ∃ f l s, OFY 64784 f l s ∧ Fit 64784 f s := by
 exact Or.inr ⟨1, 0, ⟨#[105, 58, 118]⟩, fun w hm => of_vec _ 16 _ _ _ (by omega) (by omega) (by omega) rfl g41.1.1 g41.1.2.1 g41.1.2.2 (fun w => top_vm0 _ _ _ _ (by omega) (by omega) (fun w => vm_4 w) w) w hm, g41.1, by unfold MemP; omega⟩
theorem row_80 : (OFN 64785 ∧ ¬ MemP 64785) ∨ ∃ f l s, OFY 64785 f l s ∧ Fit 64785 f s := by
 exact Or.inr ⟨1, 0, ⟨#[105, 58, 118]⟩, fun w hm => of_vec _ 17 _ _ _ (by omega) (by omega) (by omega) rfl g41.1.1 g41.1.2.1 g41.1.2.2 (fun w => top_vm0 _ _ _ _ (by omega) (by omega) (fun w => vm_5 w) w) w hm, g41.1, by unfold MemP; omega⟩
theorem row_81 : (OFN 64786 ∧ ¬ MemP 64786) ∨ ∃ f l s, OFY 64786 f l s ∧ Fit 64786 f s := by
 exact Or.inr ⟨1, 0, ⟨#[108, 58, 118]⟩, fun w hm => of_vec _ 18 _ _ _ (by omega) (by omega) (by omega) rfl g42.1.1 g42.1.2.1 g42.1.2.2 (fun w => top_vm0 _ _ _ _ (by omega) (by omega) (fun w => vm_6 w) w) w hm, g42.1, by unfold MemP; omega⟩
theorem row_82 (op : Int) (h0 : 64787 ≤ op) (h1 : op ≤ 64788) : (OFN op ∧ ¬ MemP op) ∨ ∃ f l s, OFY op f l s ∧ Fit op f s := by
 exact Or.inl ⟨fun w => of_vec0 _ (op - 64768) _ _ (by omega) (by omega) (by omega) (fun w => top_vm0 _ _ _ _ (by omega) (by omega) (fun w => vm_7 (op - 64768) (by omega) (by omega) w) w) w, by unfold MemP; omega⟩
theorem row_83 : (OFN 64789 ∧ ¬ MemP 64789) ∨ ∃ f l s, OFY 64789 f l s ∧ Fit 64789 f s := by
 exact Or.inr ⟨13, 16, ⟨#[118, 58, 105]⟩, fun w hm => of_vec _ 21 _ _ _ (by omega) (by omega) (by omega) rfl g43.1.1 g43.1.2.1 g43.1.2.2 (fun w => top_vm0 _ _ _ _ (by omega) (by omega) (fun w => vm_8 w) w) w hm, g43.1, by unfold MemP; omega⟩
theorem row_84 : (OFN 64790 ∧ ¬ MemP 64790) ∨ ∃ f l s, OFY 64790 f l s ∧ Fit 64790 f s := by
 exact Or.inr ⟨13, 16, ⟨#[118, 58, 105]⟩, fun w hm => of_vec _ 22 _ _ _ (by omega) (by omega) (by omega) rfl g43.1.1 g43.1.2.1 g43.1.2.2 (fun w => top_vm0 _ _ _ _ (by omega) (by omega) (fun w => vm_9 w) w) w hm, g43.1, by unfold MemP; omega⟩
theorem row_85 : (OFN 64791 ∧ ¬ MemP 64791) ∨ ∃ f l s, OFY 64791 f l s ∧ Fit 64791 f s := by
 exact Or.inr ⟨13, 16, ⟨#[118, 105, 58, 118]⟩, fun w hm => of_vec _ 23 _ _ _ (by omega) (by omega) (by omega) rfl g44.1.1 g44.1.2.1 g44.1.2.2 (fun w => top_vm0 _ _ _ _ (by omega) (by omega) (fun w => vm_10 w) w) w hm, g44.1, by unfold MemP; omega⟩
theorem row_86 : (OFN 64792 ∧ ¬ MemP 64792) ∨ ∃ f l s, OFY 64792 f l s ∧ Fit 64792 f s := by
 exact Or.inr ⟨13, 8, ⟨#[118, 58, 105]⟩, fun w hm => of_vec _ 24 _ _ _ (by omega) (by omega) (by omega) rfl g45.1.1 g45.1.2.1 g45.1.2.2 (fun w => top_vm0 _ _ _ _ (by omega) (by omega) (fun w => vm_11 w) w) w hm, g45.1, by unfold MemP; omega⟩
theorem row_87 : (OFN 64793 ∧ ¬ MemP 64793) ∨ ∃ f l s, OFY 64793 f l s ∧ Fit 64793 f s := by
 exact Or.inr ⟨13, 8, ⟨#[118, 58, 105]⟩, fun w hm => of_vec _ 25 _ _ _ (by omega) (by omega) (by omega) rfl g45.1.1 g45.1.2.1 g45.1.2.2 (fun w => top_vm0 _ _ _ _ (by omega) (by omega) (fun w => vm_12 w) w) w hm, g45.1, by unfold MemP; omega⟩
theorem row_88 : (OFN 64794 ∧ ¬ MemP 64794) ∨ ∃ f l s, OFY 64794 f l s ∧ Fit 64794 f s := by
 exact Or.inr ⟨13, 8, ⟨#[118, 105, 58, 118]⟩, fun w hm => of_vec _ 26 _ _ _ (by omega) (by omega) (by omega) rfl g46.1.1 g46.1.2.1 g46.1.2.2 (fun w => top_vm0 _ _ _ _ (by omega) (by omega) (fun w => vm_13 w) w) w hm, g46.1, by unfold MemP; omega⟩
theorem row_89 : (OFN 64795 ∧ ¬ MemP 64795) ∨ ∃ f l s, OFY 64795 f l s ∧ Fit 64795 f s := by
 exact Or.inr ⟨13, 4, ⟨#[118, 58, 105]⟩, fun w hm => of_vec _ 27 _ _ _ (by omega) (by omega) (by omega) rfl g47.1.1 g47.1.2.1 g47.1.2.2 (fun w => top_vm0 _ _ _ _ (by omega) (by omega) (fun w => vm_14 w) w) w hm, g47.1, by unfold MemP; omega⟩
theorem row_90 : (OFN 64796 ∧ ¬ MemP 64796) ∨ ∃ f l s, OFY 64796 f l s ∧ Fit 64796 f s := by
 exact Or.inr ⟨13, 4, ⟨#[118, 105, 58, 118]⟩, fun w hm => of_vec _ 28 _ _ _ (by omega) (by omega) (by omega) rfl g48.1.1 g48.1.2.1 g48.1.2.2 (fun w => top_vm0 _ _ _ _ (by omega) (by omega) (fun w => vm_15 w) w) w hm, g48.1, by unfold MemP; omega⟩
theorem row_91 : (OFN 64797 ∧ ¬ MemP 64797) ∨ ∃ f l s, OFY 64797 f l s ∧ Fit 64797 f s := by
 exact Or.inr ⟨13, 2, ⟨#[118, 58, 108]⟩, fun w hm => of_vec _ 29 _ _ _ (by omega) (by omega) (by omega) rfl g49.1.1 g49.1.2.1 g49.1.2.2 (fun w => top_vm0 _ _ _ _ (by omega) (by omega) (fun w => vm_16 w) w) w hm, g49.1, by unfold MemP; omega⟩
theorem row_92 : (OFN 64798 ∧ ¬ MemP 64798) ∨ ∃ f l s, OFY 64798 f l s ∧ Fit 64798 f s := by
 exact Or.inr ⟨13, 2, ⟨#[118, 108, 58, 118]⟩, fun w hm => of_vec _ 30 _ _ _ (by omega) (by omega) (by omega) rfl g50.1.1 g50.1.2.1 g50.1.2.2 (fun w => top_vm0 _ _ _ _ (by omega) (by omega) (fun w => vm_17 w) w) w hm, g50.1, by unfold MemP; omega⟩
theorem row_93 (op : Int) (h0 : 64799 ≤ op) (h1 : op ≤ 64802) : (OFN op ∧ ¬ MemP op) ∨ ∃ f l s, OFY op f l s ∧ Fit op f s := by
 exact Or.inl ⟨fun w => of_vec0 _ (op - 64768) _ _ (by omega) (by omega) (by omega) (fun w => top_vm0 _ _ _ _ (by omega) (by omega) (fun w => vm_18 (op - 64768) (by omega) (by omega) w) w) w, by unfold MemP; omega⟩
theorem row_94 (op : Int) (h0 : 64803 ≤ op) (h1 : op ≤ 64832) : (OFN op ∧ ¬ MemP op) ∨ ∃ f l s, OFY op f l s ∧ Fit op f s := by
 exact Or.inr ⟨1, 0, ⟨#[118, 118, 58, 118]⟩, fun w hm => of_vec _ (op - 64768) _ _ _ (by omega) (by omega) (by omega) rfl g40.1.1 g40.1.2.1 g40.1.2.2 (fun w => top_vb0 _ _ _ _ (by omega) (by omega) (fun w => vb_0 (op - 64768) (by omega) (by omega) w) w) w hm, g40.1, by unfold MemP; omega⟩
theorem row_95 (op : Int) (h0 : 64833 ≤ op) (h1 : op ≤ 64844) : (OFN op ∧ ¬ MemP op) ∨ ∃ f l s, OFY op f l s ∧ Fit op f s := by
 exact Or.inl ⟨fun w => of_vec0 _ (op - 64768) _ _ (by omega) (by omega) (by omega) (fun w => top_vb0 _ _ _ _ (by omega) (by omega) (fun w => vb_1 (op - 64768) (by omega) (by omega) w) w) w, by unfold MemP; omega⟩
theorem row_96 : (OFN 64845 ∧ ¬ MemP 64845) ∨ ∃ f l s, OFY 64845 f l s ∧ Fit 64845 f s := by
 exact Or.inr ⟨1, 0, ⟨#[118, 58, 118]⟩, fun w hm => of_vec _ 77 _ _ _ (by omega) (by omega) (by omega) rfl g51.1.1 g51.1.2.1 g51.1.2.2 (fun w => top_vb0 _ _ _ _ (by omega) (by omega) (fun w => vb_2 w) w) w hm, g51.1, by unfold MemP; omega⟩
theorem row_97 (op : Int) (h0 : 64846 ≤ op) (h1 : op ≤ 64849) : (OFN op ∧ ¬ MemP op) ∨ ∃ f l s, OFY op f l s ∧ Fit op f s := by
 exact Or.inr ⟨1, 0, ⟨#[118, 118, 58, 118]⟩, fun w hm => of_vec _ (op - 64768) _ _ _ (by omega) (by omega) (by omega) rfl g40.1.1 g40.1.2.1 g40.1.2.2 (fun w => top_vb0 _ _ _ _ (by omega) (by omega) (fun w => vb_3 (op - 64768) (by omega) (by omega) w) w) w hm, g40.1, by unfold MemP; omega⟩
theorem row_98 : (OFN 64850 ∧ ¬ MemP 64850) ∨ ∃ f l s, OFY 64850 f l s ∧ Fit 64850 f s := by
 exact Or.inr ⟨1, 0, ⟨#[118, 118, 118, 58, 118]⟩, fun w hm => of_vec _ 82 _ _ _ (by omega) (by omega) (by omega) rfl g52.1.1 g52.1.2.1 g52.1.2.2 (fun w => top_vb0 _ _ _ _ (by omega) (by omega) (fun w => vb_4 w) w) w hm, g52.1, by unfold MemP; omega⟩
theorem row_99 : (OFN 64851 ∧ ¬ MemP 64851) ∨ ∃ f l s, OFY 64851 f l s ∧ Fit 64851 f s := by
 exact Or.inr ⟨1, 0, ⟨#[118, 58, 105]⟩, fun w hm => of_vec _ 83 _ _ _ (by omega) (by omega) (by omega) rfl g53.1.1 g53.1.2.1 g53.1.2.2 (fun w => top_vb0 _ _ _ _ (by omega) (by omega) (fun w => vb_5 w) w) w hm, g53.1, by unfold MemP; omega⟩
theorem row_100 : (OFN 64852 ∧ ¬ MemP 64852) ∨ ∃ f l s, OFY 64852 f l s ∧ Fit 64852 f s := by
 exact Or.inr ⟨8, 0, ⟨#[105, 118, 58, 118]⟩, fun w hm => of_vec _ 84 _ _ _ (by omega) (by omega) (by omega) rfl g54.1.1 g54.1.2.1 g54.1.2.2 (fun w => top_va1 _ _ _ _ (by omega) (by omega) (fun w => va_7 w) w) w hm, g54.1, by unfold MemP; omega⟩
theorem row_101 : (OFN 64853 ∧ ¬ MemP 64853) ∨ ∃ f l s, OFY 64853 f l s ∧ Fit 64853 f s := by
 exact Or.inr ⟨8, 1, ⟨#[105, 118, 58, 118]⟩, fun w hm => of_vec _ 85 _ _ _ (by omega) (by omega) (by omega) rfl g55.1.1 g55.1.2.1 g55.1.2.2 (fun w => top_va1 _ _ _ _ (by omega) (by omega) (fun w => va_8 w) w) w hm, g55.1, by unfold MemP; omega⟩
theorem row_102 : (OFN 64854 ∧ ¬ MemP 64854) ∨ ∃ f l s, OFY 64854 f l s ∧ Fit 64854 f s := by
 exact Or.inr ⟨8, 2, ⟨#[105, 118, 58, 118]⟩, fun w hm => of_vec _ 86 _ _ _ (by omega) (by omega) (by omega) rfl g56.1.1 g56.1.2.1 g56.1.2.2 (fun w => top_va1 _ _ _ _ (by omega) (by omega) (fun w => va_9 w) w) w hm, g56.1, by unfold MemP; omega⟩
theorem row_103 : (OFN 64855 ∧ ¬ MemP 64855) ∨ ∃ f l s, OFY 64855 f l s ∧ Fit 64855 f s := by
 exact Or.inr ⟨8, 3, ⟨#[105, 118, 58, 118]⟩, fun w hm => of_vec _ 87 _ _ _ (by omega) (by omega) (by omega) rfl g57.1.1 g57.1.2.1 g57.1.2.2 (fun w => top_va1 _ _ _ _ (by omega) (by omega) (fun w => va_10 w) w) w hm, g57.1, by unfold MemP; omega⟩
theorem row_104 : (OFN 64856 ∧ ¬ MemP 64856) ∨ ∃ f l s, OFY 64856 f l s ∧ Fit 64856 f s := by
 exact Or.inr ⟨8, 0, ⟨#[105, 118, 58]⟩, fun w hm => of_vec _ 88 _ _ _ (by omega) (by omega) (by omega) rfl g58.1.1 g58.1.2.1 g58.1.2.2 (fun w => top_va1 _ _ _ _ (by omega) (by omega) (fun w => va_11 w) w) w hm, g58.1, by unfold MemP; omega⟩
theorem row_105 : (OFN 64857 ∧ ¬ MemP 64857) ∨ ∃ f l s, OFY 64857 f l s ∧ Fit 64857 f s := by
 exact Or.inr ⟨8, 1, ⟨#[105, 118, 58]⟩, fun w hm => of_vec _ 89 _ _ _ (by omega) (by omega) (by omega) rfl g59.1.1 g59.1.2.1 g59.1.2.2 (fun w => top_va1 _ _ _ _ (by omega) (by omega) (fun w => va_12 w) w) w hm, g59.1, by unfold MemP; omega⟩
theorem row_106 : (OFN 64858 ∧ ¬ MemP 64858) ∨ ∃ f l s, OFY 64858 f l s ∧ Fit 64858 f s := by
 exact Or.inr ⟨8, 2, ⟨#[105, 118, 58]⟩, fun w hm => of_vec _ 90 _ _ _ (by omega) (by omega) (by omega) rfl g60.1.1 g60.1.2.1 g60.1.2.2 (fun w => top_va1 _ _ _ _ (by omega) (by omega) (fun w => va_13 w) w) w hm, g60.1, by unfold MemP; omega⟩
theorem row_107 : (OFN 64859 ∧ ¬ MemP 64859) ∨ ∃ f l s, OFY 64859 f l s ∧ Fit 64859 f s := by
 exact Or.inr ⟨8, 3, ⟨#[105, 118, 58]⟩, fun w hm => of_vec _ 91 _ _ _ (by omega) (by omega) (by omega) rfl g61.1.1 g61.1.2.1 g61.1.2.2 (fun w => top_va1 _ _ _ _ (by omega) (by omega) (fun w => va_14 w) w) w hm, g61.1, by unfold MemP; omega⟩
theorem row_108 : (OFN 64860 ∧ ¬ MemP 64860) ∨ ∃ f l s, OFY 64860 f l s ∧ Fit 64860 f s := by
 exact Or.inr ⟨7, 2, ⟨#[105, 58, 118]⟩, fun w hm => of_vec _ 92 _ _ _ (by omega) (by omega) (by omega) rfl g36.1.1 g36.1.2.1 g36.1.2.2 (fun w => top_va1 _ _ _ _ (by omega) (by omega) (fun w => va_15 w) w) w hm, g36.1, by unfold MemP; omega⟩
theorem row_109 : (OFN 64861 ∧ ¬ MemP 64861) ∨ ∃ f l s, OFY 64861 f l s ∧ Fit 64861 f s := by
 exact Or.inr ⟨7, 3, ⟨#[105, 58, 118]⟩, fun w hm => of_vec _ 93 _ _ _ (by omega) (by omega) (by omega) rfl g33.1.1 g33.1.2.1 g33.1.2.2 (fun w => top_va1 _ _ _ _ (by omega) (by omega) (fun w => va_16 w) w) w hm, g33.1, by unfold MemP; omega⟩
theorem row_110 (op : Int) (h0 : 64862 ≤ op) (h1 : op ≤ 64863) : (OFN op ∧ ¬ MemP op) ∨ ∃ f l s, OFY op f l s ∧ Fit op f s := by
 exact Or.inl ⟨fun w => of_vec0 _ (op - 64768) _ _ (by omega) (by omega) (by omega) (fun w => top_vn0 _ _ _ _ (by omega) (by omega) (fun w => vn_0 (op - 64768) (by omega) (by omega) w) w) w, by unfold MemP; omega⟩
theorem row_111 (op : Int) (h0 : 64864 ≤ op) (h1 : op ≤ 64866) : (OFN op ∧ ¬ MemP op) ∨ ∃ f l s, OFY op f l s ∧ Fit op f s := by
 exact Or.inr ⟨1, 0, ⟨#[118, 58, 118]⟩, fun w hm => of_vec _ (op - 64768) _ _ _ (by omega) (by omega) (by omega) rfl g51.1.1 g51.1.2.1 g51.1.2.2 (fun w => top_vn0 _ _ _ _ (by omega) (by omega) (fun w => vn_1 (op - 64768) (by omega) (by omega) w) w) w hm, g51.1, by unfold MemP; omega⟩
theorem row_112 (op : Int) (h0 : 64867 ≤ op) (h1 : op ≤ 64868) : (OFN op ∧ ¬ MemP op) ∨ ∃ f l s, OFY op f l s ∧ Fit op f s := by
 exact Or.inr ⟨1, 0, ⟨#[118, 58, 105]⟩, fun w hm => of_vec _ (op - 64768) _ _ _ (by omega) (by omega) (by omega) rfl g53.1.1 g53.1.2.1 g53.1.2.2 (fun w => top_vn0 _ _ _ _ (by omega) (by omega) (fun w => vn_2 (op - 64768) (by omega) (by omega) w) w) w hm, g53.1, by unfold MemP; omega⟩
theorem row_113 (op : Int) (h0 : 64869 ≤ op) (h1 : op ≤ 64870) : (OFN op ∧ ¬ MemP op) ∨ ∃ f l s, OFY op f l s ∧ Fit op f s := by
 exact Or.inr ⟨1, 0, ⟨#[118, 118, 58, 118]⟩, fun w hm => of_vec _ (op - 64768) _ _ _ (by omega) (by omega) (by omega) rfl g40.1.1 g40.1.2.1 g40.1.2.2 (fun w => top_vn0 _ _ _ _ (by omega) (by omega) (fun w => vn_3 (op - 64768) (by omega) (by omega) w) w) w hm, g40.1, by unfold MemP; omega⟩
theorem row_114 (op : Int) (h0 : 64871 ≤ op) (h1 : op ≤ 64874) : (OFN op ∧ ¬ MemP op) ∨ ∃ f l s, OFY op f l s ∧ Fit op f s := by
 exact Or.inl ⟨fun w => of_vec0 _ (op - 64768) _ _ (by omega) (by omega) (by omega) (fun w => top_vn0 _ _ _ _ (by omega) (by omega) (fun w => vn_4 (op - 64768) (by omega) (by omega) w) w) w, by unfold MemP; omega⟩
theorem row_115 (op : Int) (h0 : 64875 ≤ op) (h1 : op ≤ 64877) : (OFN op ∧ ¬ MemP op) ∨ ∃ f l s, OFY op f l s ∧ Fit op f s := by
 exact Or.inr ⟨1, 0, ⟨#[118, 105, 58, 118]⟩, fun w hm => of_vec _ (op - 64768) _ _ _ (by omega) (by omega) (by omega) rfl g62.1.1 g62.1.2.1 g62.1.2.2 (fun w => top_vn0 _ _ _ _ (by omega) (by omega) (fun w => vn_5 (op - 64768) (by omega) (by omega) w) w) w hm, g62.1, by unfold MemP; omega⟩
theorem row_116 (op : Int) (h0 : 64878 ≤ op) (h1 : op ≤ 64883) : (OFN op ∧ ¬ MemP op) ∨ ∃ f l s, OFY op f l s ∧ Fit op f s := by
 exact Or.inr ⟨1, 0, ⟨#[118, 118, 58, 118]⟩, fun w hm => of_vec _ (op - 64768) _ _ _ (by omega) (by omega) (by omega) rfl g40.1.1 g40.1.2.1 g40.1.2.2 (fun w => top_vn0 _ _ _ _ (by omega) (by omega) (fun w => vn_6 (op - 64768) (by omega) (by omega) w) w) w hm, g40.1, by unfold MemP; omega⟩
theorem row_117 (op : Int) (h0 : 64884 ≤ op) (h1 : op ≤ 64885) : (OFN op ∧ ¬ MemP op) ∨ ∃ f l s, OFY op f l s ∧ Fit op f s := by
 exact Or.inl ⟨fun w => of_vec0 _ (op - 64768) _ _ (by omega) (by omega) (by omega) (fun w => top_vn0 _ _ _ _ (by omega) (by omega) (fun w => vn_7 (op - 64768) (by omega) (by omega) w) w) w, by unfold MemP; omega⟩
theorem row_118 (op : Int) (h0 : 64886 ≤ op) (h1 : op ≤ 64889) : (OFN op ∧ ¬ MemP op) ∨ ∃ f l s, OFY op f l s ∧ Fit op f s := by
 exact Or.inr ⟨1, 0, ⟨#[118, 118, 58, 118]⟩, fun w hm => of_vec _ (op - 64768) _ _ _ (by omega) (by omega) (by omega) rfl g40.1.1 g40.1.2.1 g40.1.2.2 (fun w => top_vn0 _ _ _ _ (by omega) (by omega) (fun w => vn_8 (op - 64768) (by omega) (by omega) w) w) w hm, g40.1, by unfold MemP; omega⟩
theorem row_119 : (OFN 64890 ∧ ¬ MemP 64890) ∨ ∃ f l s, OFY 64890 f l s ∧ Fit 64890 f s := by
 exact Or.inl ⟨fun w => of_vec0 _ 122 _ _ (by omega) (by omega) (by omega) (fun w => top_vn0 _ _ _ _ (by omega) (by omega) (fun w => vn_9 w) w) w, by unfold MemP; omega⟩
theorem row_120 : (OFN 64891 ∧ ¬ MemP 64891) ∨ ∃ f l s, OFY 64891 f l s ∧ Fit 64891 f s := by
 exact Or.inr ⟨1, 0, ⟨#[118, 118, 58, 118]⟩, fun w hm => of_vec _ 123 _ _ _ (by omega) (by omega) (by omega) rfl g40.1.1 g40.1.2.1 g40.1.2.2 (fun w => top_vn0 _ _ _ _ (by omega) (by omega) (fun w => vn_10 w) w) w hm, g40.1, by unfold MemP; omega⟩
theorem row_121 (op : Int) (h0 : 64892 ≤ op) (h1 : op ≤ 64897) : (OFN op ∧ ¬ MemP op) ∨ ∃ f l s, OFY op f l s ∧ Fit op f s := by
 exact Or.inr ⟨1, 0, ⟨#[118, 58, 118]⟩, fun w hm => of_vec _ (op - 64768) _ _ _ (by omega) (by omega) (by omega) rfl g51.1.1 g51.1.2.1 g51.1.2.2 (fun w => top_vn0 _ _ _ _ (by omega) (by omega) (fun w => vn_11 (op - 64768) (by omega) (by omega) w) w) w hm, g51.1, by unfold MemP; omega⟩
theorem row_122 : (OFN 64898 ∧ ¬ MemP 64898) ∨ ∃ f l s, OFY 64898 f l s ∧ Fit 64898 f s := by
 exact Or.inr ⟨1, 0, ⟨#[118, 118, 58, 118]⟩, fun w hm => of_vec _ 130 _ _ _ (by omega) (by omega) (by omega) rfl g40.1.1 g40.1.2.1 g40.1.2.2 (fun w => top_vn0 _ _ _ _ (by omega) (by omega) (fun w => vn_12 w) w) w hm, g40.1, by unfold MemP; omega⟩
theorem row_123 (op : Int) (h0 : 64899 ≤ op) (h1 : op ≤ 64900) : (OFN op ∧ ¬ MemP op) ∨ ∃ f l s, OFY op f l s ∧ Fit op f s := by
 exact Or.inr ⟨1, 0, ⟨#[118, 58, 105]⟩, fun w hm => of_vec _ (op - 64768) _ _ _ (by omega) (by omega) (by omega) rfl g53.1.1 g53.1.2.1 g53.1.2.2 (fun w => top_vn0 _ _ _ _ (by omega) (by omega) (fun w => vn_13 (op - 64768) (by omega) (by omega) w) w) w hm, g53.1, by unfold MemP; omega⟩
theorem row_124 (op : Int) (h0 : 64901 ≤ op) (h1 : op ≤ 64902) : (OFN op ∧ ¬ MemP op) ∨ ∃ f l s, OFY op f l s ∧ Fit op f s := by
 exact Or.inr ⟨1, 0, ⟨#[118, 118, 58, 118]⟩, fun w hm => of_vec _ (op - 64768) _ _ _ (by omega) (by omega) (by omega) rfl g40.1.1 g40.1.2.1 g40.1.2.2 (fun w => top_vn0 _ _ _ _ (by omega) (by omega) (fun w => vn_14 (op - 64768) (by omega) (by omega) w) w) w hm, g40.1, by unfold MemP; omega⟩
theorem row_125 (op : Int) (h0 : 64903 ≤ op) (h1 : op ≤ 64906) : (OFN op ∧ ¬ MemP op) ∨ ∃ f l s, OFY op f l s ∧ Fit op f s := by
 exact Or.inr ⟨1, 0, ⟨#[118, 58, 118]⟩, fun w hm => of_vec _ (op - 64768) _ _ _ (by omega) (by omega) (by omega) rfl g51.1.1 g51.1.2.1 g51.1.2.2 (fun w => top_vn0 _ _ _ _ (by omega) (by omega) (fun w => vn_15 (op - 64768) (by omega) (by omega) w) w) w hm, g51.1, by unfold MemP; omega⟩
theorem row_126 (op : Int) (h0 : 64907 ≤ op) (h1 : op ≤ 64909) : (OFN op ∧ ¬ MemP op) ∨ ∃ f l s, OFY op f l s ∧ Fit op f s := by
 exact Or.inr ⟨1, 0, ⟨#[118, 105, 58, 118]⟩, fun w hm => of_vec _ (op - 64768) _ _ _ (by omega) (by omega) (by omega) rfl g62.1.1 g62.1.2.1 g62.1.2.2 (fun w => top_vn0 _ _ _ _ (by omega) (by omega) (fun w => vn_16 (op - 64768) (by omega) (by omega) w) w) w hm, g62.1, by unfold MemP; omega⟩
theorem row_127 (op : Int) (h0 : 64910 ≤ op) (h1 : op ≤ 64915) : (OFN op ∧ ¬ MemP op) ∨ ∃ f l s, OFY op f l s ∧ Fit op f s := by
 exact Or.inr ⟨1, 0, ⟨#[118, 118, 58, 118]⟩, fun w hm => of_vec _ (op - 64768) _ _ _ (by omega) (by omega) (by omega) rfl g40.1.1 g40.1.2.1 g40.1.2.2 (fun w => top_vn0 _ _ _ _ (by omega) (by omega) (fun w => vn_17 (op - 64768) (by omega) (by omega) w) w) w hm, g40.1, by unfold MemP; omega⟩
theorem row_128 : (OFN 64916 ∧ ¬ MemP 64916) ∨ ∃ f l s, OFY 64916 f l s ∧ Fit 64916 f s := by
 exact Or.inl ⟨fun w => of_vec0 _ 148 _ _ (by omega) (by omega) (by omega) (fun w => top_vn0 _ _ _ _ (by omega) (by omega) (fun w => vn_18 w) w) w, by unfold MemP; omega⟩
theorem row_129 (op : Int) (h0 : 64917 ≤ op) (h1 : op ≤ 64921) : (OFN op ∧ ¬ MemP op) ∨ ∃ f l s, OFY op f l s ∧ Fit op f s := by
 exact Or.inr ⟨1, 0, ⟨#[118, 118, 58, 118]⟩, fun w hm => of_vec _ (op - 64768) _ _ _ (by omega) (by omega) (by omega) rfl g40.1.1 g40.1.2.1 g40.1.2.2 (fun w => top_vn0 _ _ _ _ (by omega) (by omega) (fun w => vn_19 (op - 64768) (by omega) (by omega) w) w) w hm, g40.1, by unfold MemP; omega⟩
theorem row_130 : (OFN 64922 ∧ ¬ MemP 64922) ∨ ∃ f l s, OFY 64922 f l s ∧ Fit 64922 f s := by
 exact Or.inl ⟨fun w => of_vec0 _ 154 _ _ (by omega) (by omega) (by omega) (fun w => top_vn0 _ _ _ _ (by omega) (by omega) (fun w => vn_20 w) w) w, by unfold MemP; omega⟩
theorem row_131 (op : Int) (h0 : 64923 ≤ op) (h1 : op ≤ 64927) : (OFN op ∧ ¬ MemP op) ∨ ∃ f l s, OFY op f l s ∧ Fit op f s := by
 exact Or.inr ⟨1, 0, ⟨#[118, 118, 58, 118]⟩, fun w hm => of_vec _ (op - 64768) _ _ _ (by omega) (by omega) (by omega) rfl g40.1.1 g40.1.2.1 g40.1.2.2 (fun w => top_vn0 _ _ _ _ (by omega) (by omega) (fun w => vn_21 (op - 64768) (by omega) (by omega) w) w) w hm, g40.1, by unfold MemP; omega⟩
theorem row_132 (op : Int) (h0 : 64928 ≤ op) (h1 : op ≤ 64929) : (OFN op ∧ ¬ MemP op) ∨ ∃ f l s, OFY op f l s ∧ Fit op f s := by
 exact Or.inr ⟨1, 0, ⟨#[118, 58, 118]⟩, fun w hm => of_vec _ (op - 64768) _ _ _ (by omega) (by omega) (by omega) rfl g51.1.1 g51.1.2.1 g51.1.2.2 (fun w => top_vw0 _ _ _ _ (by omega) (fun w => vw_0 (op - 64768) (by omega) (by omega) w) w) w hm, g51.1, by unfold MemP; omega⟩
theorem row_133 : (OFN 64930 ∧ ¬ MemP 64930) ∨ ∃ f l s, OFY 64930 f l s ∧ Fit 64930 f s := by
 exact Or.inl ⟨fun w => of_vec0 _ 162 _ _ (by omega) (by omega) (by omega) (fun w => top_vw0 _ _ _ _ (by omega) (fun w => vw_1 w) w) w, by unfold MemP; omega⟩
theorem row_134 (op : Int) (h0 : 64931 ≤ op) (h1 : op ≤ 64932) : (OFN op ∧ ¬ MemP op) ∨ ∃ f l s, OFY op f l s ∧ Fit op f s := by
 exact Or.inr ⟨1, 0, ⟨#[118, 58, 105]⟩, fun w hm => of_vec _ (op - 64768) _ _ _ (by omega) (by omega) (by omega) rfl g53.1.1 g53.1.2.1 g53.1.2.2 (fun w => top_vw0 _ _ _ _ (by omega) (fun w => vw_2 (op - 64768) (by omega) (by omega) w) w) w hm, g53.1, by unfold MemP; omega⟩
theorem row_135 (op : Int) (h0 : 64933 ≤ op) (h1 : op ≤ 64934) : (OFN op ∧ ¬ MemP op) ∨ ∃ f l s, OFY op f l s ∧ Fit op f s := by
 exact Or.inl ⟨fun w => of_vec0 _ (op - 64768) _ _ (by omega) (by omega) (by omega) (fun w => top_vw0 _ _ _ _ (by omega) (fun w => vw_3 (op - 64768) (by omega) (by omega) w) w) w, by unfold MemP; omega⟩
theorem row_136 (op : Int) (h0 : 64935 ≤ op) (h1 : op ≤ 64938) : (OFN op ∧ ¬ MemP op) ∨ ∃ f l s, OFY op f l s ∧ Fit op f s := by
 exact Or.inr ⟨1, 0, ⟨#[118, 58, 118]⟩, fun w hm => of_vec _ (op - 64768) _ _ _ (by omega) (by omega) (by omega) rfl g51.1.1 g51.1.2.1 g51.1.2.2 (fun w => top_vw0 _ _ _ _ (by omega) (fun w => vw_4 (op - 64768) (by omega) (by omega) w) w) w hm, g51.1, by unfold MemP; omega⟩
theorem row_137 (op : Int) (h0 : 64939 ≤ op) (h1 : op ≤ 64941) : (OFN op ∧ ¬ MemP op) ∨ ∃ f l s, OFY op f l s ∧ Fit op f s := by
 exact Or.inr ⟨1, 0, ⟨#[118, 105, 58, 118]⟩, fun w hm => of_vec _ (op - 64768) _ _ _ (by omega) (by omega) (by omega) rfl g62.1.1 g62.1.2.1 g62.1.2.2 (fun w => top_vw0 _ _ _ _ (by omega) (fun w => vw_5 (op - 64768) (by omega) (by omega) w) w) w hm, g62.1, by unfold MemP; omega⟩
theorem row_138 : (OFN 64942 ∧ ¬ MemP 64942) ∨ ∃ f l s, OFY 64942 f l s ∧ Fit 64942 f s := by
 exact Or.inr ⟨1, 0, ⟨#[118, 118, 58, 118]⟩, fun w hm => of_vec _ 174 _ _ _ (by omega) (by omega) (by omega) rfl g40.1.1 g40.1.2.1 g40.1.2.2 (fun w => top_vw0 _ _ _ _ (by omega) (fun w => vw_6 w) w) w hm, g40.1, by unfold MemP; omega⟩
theorem row_139 (op : Int) (h0 : 64943 ≤ op) (h1 : op ≤ 64944) : (OFN op ∧ ¬ MemP op) ∨ ∃ f l s, OFY op f l s ∧ Fit op f s := by
 exact Or.inl ⟨fun w => of_vec0 _ (op - 64768) _ _ (by omega) (by omega) (by omega) (fun w => top_vw0 _ _ _ _ (by omega) (fun w => vw_7 (op - 64768) (by omega) (by omega) w) w) w, by unfold MemP; omega⟩
theorem row_140 : (OFN 64945 ∧ ¬ MemP 64945) ∨ ∃ f l s, OFY 64945 f l s ∧ Fit 64945 f s := by
 exact Or.inr ⟨1, 0, ⟨#[118, 118, 58, 118]⟩, fun w hm => of_vec _ 177 _ _ _ (by omega) (by omega) (by omega) rfl g40.1.1 g40.1.2.1 g40.1.2.2 (fun w => top_vw0 _ _ _ _ (by omega) (fun w => vw_8 w) w) w hm, g40.1, by unfold MemP; omega⟩
theorem row_141 (op : Int) (h0 : 64946 ≤ op) (h1 : op ≤ 64948) : (OFN op ∧ ¬ MemP op) ∨ ∃ f l s, OFY op f l s ∧ Fit op f s := by
 exact Or.inl ⟨fun w => of_vec0 _ (op - 64768) _ _ (by omega) (by omega) (by omega) (fun w => top_vw0 _ _ _ _ (by omega) (fun w => vw_9 (op - 64768) (by omega) (by omega) w) w) w, by unfold MemP; omega⟩
theorem row_142 (op : Int) (h0 : 64949 ≤ op) (h1 : op ≤ 64954) : (OFN op ∧ ¬ MemP op) ∨ ∃ f l s, OFY op f l s ∧ Fit op f s := by
 exact Or.inr ⟨1, 0, ⟨#[118, 118, 58, 118]⟩, fun w hm => of_vec _ (op - 64768) _ _ _ (by omega) (by omega) (by omega) rfl g40.1.1 g40.1.2.1 g40.1.2.2 (fun w => top_vw0 _ _ _ _ (by omega) (fun w => vw_10 (op - 64768) (by omega) (by omega) w) w) w hm, g40.1, by unfold MemP; omega⟩
theorem row_143 : (OFN 64955 ∧ ¬ MemP 64955) ∨ ∃ f l s, OFY 64955 f l s ∧ Fit 64955 f s := by
 exact Or.inl ⟨fun w => of_vec0 _ 187 _ _ (by omega) (by omega) (by omega) (fun w => top_vw0 _ _ _ _ (by omega) (fun w => vw_11 w) w) w, by unfold MemP; omega⟩
theorem row_144 (op : Int) (h0 : 64956 ≤ op) (h1 : op ≤ 64959) : (OFN op ∧ ¬ MemP op) ∨ ∃ f l s, OFY op f l s ∧ Fit op f s := by
 exact Or.inr ⟨1, 0, ⟨#[118, 118, 58, 118]⟩, fun w hm => of_vec _ (op - 64768) _ _ _ (by omega) (by omega) (by omega) rfl g40.1.1 g40.1.2.1 g40.1.2.2 (fun w => top_vw0 _ _ _ _ (by omega) (fun w => vw_12 (op - 64768) (by omega) (by omega) w) w) w hm, g40.1, by unfold MemP; omega⟩
theorem row_145 (op : Int) (h0 : 64960 ≤ op) (h1 : op ≤ 64961) : (OFN op ∧ ¬ MemP op) ∨ ∃ f l s, OFY op f l s ∧ Fit op f s := by
 exact Or.inr ⟨1, 0, ⟨#[118, 58, 118]⟩, fun w hm => of_vec _ (op - 64768) _ _ _ (by omega) (by omega) (by omega) rfl g51.1.1 g51.1.2.1 g51.1.2.2 (fun w => top_vw0 _ _ _ _ (by omega) (fun w => vw_13 (op - 64768) (by omega) (by omega) w) w) w hm, g51.1, by unfold MemP; omega⟩
theorem row_146 : (OFN 64962 ∧ ¬ MemP 64962) ∨ ∃ f l s, OFY 64962 f l s ∧ Fit 64962 f s := by
 exact Or.inl ⟨fun w => of_vec0 _ 194 _ _ (by omega) (by omega) (by omega) (fun w => top_vw0 _ _ _ _ (by omega) (fun w => vw_14 w) w) w, by unfold MemP; omega⟩
theorem row_147 (op : Int) (h0 : 64963 ≤ op) (h1 : op ≤ 64964) : (OFN op ∧ ¬ MemP op) ∨ ∃ f l s, OFY op f l s ∧ Fit op f s := by
 exact Or.inr ⟨1, 0, ⟨#[118, 58, 105]⟩, fun w hm => of_vec _ (op - 64768) _ _ _ (by omega) (by omega) (by omega) rfl g53.1.1 g53.1.2.1 g53.1.2.2 (fun w => top_vw0 _ _ _ _ (by omega) (fun w => vw_15 (op - 64768) (by omega) (by omega) w) w) w hm, g53.1, by unfold MemP; omega⟩
theorem row_148 (op : Int) (h0 : 64965 ≤ op) (h1 : op ≤ 64966) : (OFN op ∧ ¬ MemP op) ∨ ∃ f l s, OFY op f l s ∧ Fit op f s := by
 exact Or.inl ⟨fun w => of_vec0 _ (op - 64768) _ _ (by omega) (by omega) (by omega) (fun w => top_vw0 _ _ _ _ (by omega) (fun w => vw_16 (op - 64768) (by omega) (by omega) w) w) w, by unfold MemP; omega⟩
theorem row_149 (op : Int) (h0 : 64967 ≤ op) (h1 : op ≤ 64970) : (OFN op ∧ ¬ MemP op) ∨ ∃ f l s, OFY op f l s ∧ Fit op f s := by
 exact Or.inr ⟨1, 0, ⟨#[118, 58, 118]⟩, fun w hm => of_vec _ (op - 64768) _ _ _ (by omega) (by omega) (by omega) rfl g51.1.1 g51.1.2.1 g51.1.2.2 (fun w => top_vw0 _ _ _ _ (by omega) (fun w => vw_17 (op - 64768) (by omega) (by omega) w) w) w hm, g51.1, by unfold MemP; omega⟩
theorem row_150 (op : Int) (h0 : 64971 ≤ op) (h1 : op ≤ 64973) : (OFN op ∧ ¬ MemP op) ∨ ∃ f l s, OFY op f l s ∧ Fit op f s := by
 exact Or.inr ⟨1, 0, ⟨#[118, 105, 58, 118]⟩, fun w hm => of_vec _ (op - 64768) _ _ _ (by omega) (by omega) (by omega) rfl g62.1.1 g62.1.2.1 g62.1.2.2 (fun w => top_vw0 _ _ _ _ (by omega) (fun w => vw_18 (op - 64768) (by omega) (by omega) w) w) w hm, g62.1, by unfold MemP; omega⟩
theorem row_151 : (OFN 64974 ∧ ¬ MemP 64974) ∨ ∃ f l s, OFY 64974 f l s ∧ Fit 64974 f s := by
 exact Or.inr ⟨1, 0, ⟨#[118, 118, 58, 118]⟩, fun w hm => of_vec _ 206 _ _ _ (by omega) (by omega) (by omega) rfl g40.1.1 g40.1.2.1 g40.1.2.2 (fun w => top_vw0 _ _ _ _ (by omega) (fun w => vw_19 w) w) w hm, g40.1, by unfold MemP; omega⟩
theorem row_152 (op : Int) (h0 : 64975 ≤ op) (h1 : op ≤ 64976) : (OFN op ∧ ¬ MemP op) ∨ ∃ f l s, OFY op f l s ∧ Fit op f s := by
 exact Or.inl ⟨fun w => of_vec0 _ (op - 64768) _ _ (by omega) (by omega) (by omega) (fun w => top_vw0 _ _ _ _ (by omega) (fun w => vw_20 (op - 64768) (by omega) (by omega) w) w) w, by unfold MemP; omega⟩
theorem row_153 : (OFN 64977 ∧ ¬ MemP 64977) ∨ ∃ f l s, OFY 64977 f l s ∧ Fit 64977 f s := by
 exact Or.inr ⟨1, 0, ⟨#[118, 118, 58, 118]⟩, fun w hm => of_vec _ 209 _ _ _ (by omega) (by omega) (by omega) rfl g40.1.1 g40.1.2.1 g40.1.2.2 (fun w => top_vw0 _ _ _ _ (by omega) (fun w => vw_21 w) w) w hm, g40.1, by unfold MemP; omega⟩
theorem row_154 (op : Int) (h0 : 64978 ≤ op) (h1 : op ≤ 64980) : (OFN op ∧ ¬ MemP op) ∨ ∃ f l s, OFY op f l s ∧ Fit op f s := by
 exact Or.inl ⟨fun w => of_vec0 _ (op - 64768) _ _ (by omega) (by omega) (by omega) (fun w => top_vw0 _ _ _ _ (by omega) (fun w => vw_22 (op - 64768) (by omega) (by omega) w) w) w, by unfold MemP; omega⟩
theorem row_155 (op : Int) (h0 : 64981 ≤ op) (h1 : op ≤ 64991) : (OFN op ∧ ¬ MemP op) ∨ ∃ f l s, OFY op f l s ∧ Fit op f s := by
 exact Or.inr ⟨1, 0, ⟨#[118, 118, 58, 118]⟩, fun w hm => of_vec _ (op - 64768) _ _ _ (by omega) (by omega) (by omega) rfl g40.1.1 g40.1.2.1 g40.1.2.2 (fun w => top_vw0 _ _ _ _ (by omega) (fun w => vw_23 (op - 64768) (by omega) (by omega) w) w) w hm, g40.1, by unfold MemP; omega⟩
theorem row_156 (op : Int) (h0 : 64992 ≤ op) (h1 : op ≤ 9223372036854775807) : (OFN op ∧ ¬ MemP op) ∨ ∃ f l s, OFY op f l s ∧ Fit op f s := by
 exact Or.inl ⟨fun w => of_vec0 _ (op - 64768) _ _ (by omega) (by omega) (by omega) (fun w => top_vw0 _ _ _ _ (by omega) (fun w => vw_24 (op - 64768) (by omega) w) w) w, by unfold MemP; omega⟩
set_option maxHeartbeats 2000000 in
theorem of_any (op : Int) (hop : op ≤ 9223372036854775807) : (OFN op ∧ ¬ MemP op) ∨ ∃ f l s, OFY op f l s ∧ Fit op f s := by
 by_cases h0_157 : op < 64783
 ·by_cases h0_78 : op < 55
  ·by_cases h0_39 : op < 32
   ·by_cases h0_19 : op < 12
    ·by_cases h0_9 : op < 3
     ·by_cases h0_4 : op < 1
      ·by_cases h0_2 : op < 0
       ·exact row_0 op (by omega)
       ·obtain rfl : op = 0 := by omega
        exact row_1
      ·by_cases h2_4 : op < 2
       ·obtain rfl : op = 1 := by omega
        exact row_2
       ·obtain rfl : op = 2 := by omega
        exact row_3
     ·by_cases h4_9 : op < 5
      ·by_cases h4_6 : op < 4
       ·obtain rfl : op = 3 := by omega
        exact row_4
       ·obtain rfl : op = 4 := by omega
        exact row_5
      ·by_cases h6_9 : op < 6
       ·obtain rfl : op = 5 := by omega
        exact row_6
       ·by_cases h7_9 : op < 11
        ·exact row_7 op (by omega) (by omega)
        ·obtain rfl : op = 11 := by omega
         exact row_8
    ·by_cases h9_19 : op < 17
     ·by_cases h9_14 : op < 14
      ·by_cases h9_11 : op < 13
       ·obtain rfl : op = 12 := by omega
        exact row_9
       ·obtain rfl : op = 13 := by omega
        exact row_10
      ·by_cases h11_14 : op < 15
       ·obtain rfl : op = 14 := by omega
        exact row_11
       ·by_cases h12_14 : op < 16
        ·obtain rfl : op = 15 := by omega
         exact row_12
        ·obtain rfl : op = 16 := by omega
         exact row_13
     ·by_cases h14_19 : op < 26
      ·by_cases h14_16 : op < 18
       ·obtain rfl : op = 17 := by omega
        exact row_14
       ·exact row_15 op (by omega) (by omega)
      ·by_cases h16_19 : op < 27
       ·obtain rfl : op = 26 := by omega
        exact row_16
       ·by_cases h17_19 : op < 28
        ·obtain rfl : op = 27 := by omega
         exact row_17
        ·exact row_18 op (by omega) (by omega)
   ·by_cases h19_39 : op < 45
    ·by_cases h19_29 : op < 37
     ·by_cases h19_24 : op < 34
      ·by_cases h19_21 : op < 33
       ·obtain rfl : op = 32 := by omega
        exact row_19
       ·obtain rfl : op = 33 := by omega
        exact row_20
      ·by_cases h21_24 : op < 35
       ·obtain rfl : op = 34 := by omega
        exact row_21
       ·by_cases h22_24 : op < 36
        ·obtain rfl : op = 35 := by omega
         exact row_22
        ·obtain rfl : op = 36 := by omega
         exact row_23
     ·by_cases h24_29 : op < 41
      ·by_cases h24_26 : op < 40
       ·exact row_24 op (by omega) (by omega)
       ·obtain rfl : op = 40 := by omega
        exact row_25
      ·by_cases h26_29 : op < 42
       ·obtain rfl : op = 41 := by omega
        exact row_26
       ·by_cases h27_29 : op < 44
        ·exact row_27 op (by omega) (by omega)
        ·obtain rfl : op = 44 := by omega
         exact row_28
    ·by_cases h29_39 : op < 50
     ·by_cases h29_34 : op < 47
      ·by_cases h29_31 : op < 46
       ·obtain rfl : op = 45 := by omega
        exact row_29
       ·obtain rfl : op = 46 := by omega
        exact row_30
      ·by_cases h31_34 : op < 48
       ·obtain rfl : op = 47 := by omega
        exact row_31
       ·by_cases h32_34 : op < 49
        ·obtain rfl : op = 48 := by omega
         exact row_32
        ·obtain rfl : op = 49 := by omega
         exact row_33
     ·by_cases h34_39 : op < 52
      ·by_cases h34_36 : op < 51
       ·obtain rfl : op = 50 := by omega
        exact row_34
       ·obtain rfl : op = 51 := by omega
        exact row_35
      ·by_cases h36_39 : op < 53
       ·obtain rfl : op = 52 := by omega
        exact row_36
       ·by_cases h37_39 : op < 54
        ·obtain rfl : op = 53 := by omega
         exact row_37
        ·obtain rfl : op = 54 := by omega
         exact row_38
  ·by_cases h39_78 : op < 121
   ·by_cases h39_58 : op < 65
    ·by_cases h39_48 : op < 60
     ·by_cases h39_43 : op < 58
      ·by_cases h39_41 : op < 56
       ·obtain rfl : op = 55 := by omega
        exact row_39
       ·exact row_40 op (by omega) (by omega)
      ·by_cases h41_43 : op < 59
       ·obtain rfl : op = 58 := by omega
        exact row_41
       ·obtain rfl : op = 59 := by omega
        exact row_42
     ·by_cases h43_48 : op < 62
      ·by_cases h43_45 : op < 61
       ·obtain rfl : op = 60 := by omega
        exact row_43
       ·obtain rfl : op = 61 := by omega
        exact row_44
      ·by_cases h45_48 : op < 63
       ·obtain rfl : op = 62 := by omega
        exact row_45
       ·by_cases h46_48 : op < 64
        ·obtain rfl : op = 63 := by omega
         exact row_46
        ·obtain rfl : op = 64 := by omega
         exact row_47
    ·by_cases h48_58 : op < 80
     ·by_cases h48_53 : op < 67
      ·by_cases h48_50 : op < 66
       ·obtain rfl : op = 65 := by omega
        exact row_48
       ·obtain rfl : op = 66 := by omega
        exact row_49
      ·by_cases h50_53 : op < 69
       ·exact row_50 op (by omega) (by omega)
       ·by_cases h51_53 : op < 70
        ·obtain rfl : op = 69 := by omega
         exact row_51
        ·exact row_52 op (by omega) (by omega)
     ·by_cases h53_58 : op < 91
      ·by_cases h53_55 : op < 81
       ·obtain rfl : op = 80 := by omega
        exact row_53
       ·exact row_54 op (by omega) (by omega)
      ·by_cases h55_58 : op < 103
       ·exact row_55 op (by omega) (by omega)
       ·by_cases h56_58 : op < 106
        ·exact row_56 op (by omega) (by omega)
        ·exact row_57 op (by omega) (by omega)
   ·by_cases h58_78 : op < 64768
    ·by_cases h58_68 : op < 172
     ·by_cases h58_63 : op < 139
      ·by_cases h58_60 : op < 124
       ·exact row_58 op (by omega) (by omega)
       ·exact row_59 op (by omega) (by omega)
      ·by_cases h60_63 : op < 167
       ·exact row_60 op (by omega) (by omega)
       ·by_cases h61_63 : op < 168
        ·obtain rfl : op = 167 := by omega
         exact row_61
        ·exact row_62 op (by omega) (by omega)
     ·by_cases h63_68 : op < 192
      ·by_cases h63_65 : op < 174
       ·exact row_63 op (by omega) (by omega)
       ·exact row_64 op (by omega) (by omega)
      ·by_cases h65_68 : op < 194
       ·exact row_65 op (by omega) (by omega)
       ·by_cases h66_68 : op < 197
        ·exact row_66 op (by omega) (by omega)
        ·exact row_67 op (by omega) (by omega)
    ·by_cases h68_78 : op < 64778
     ·by_cases h68_73 : op < 64775
      ·by_cases h68_70 : op < 64769
       ·obtain rfl : op = 64768 := by omega
        exact row_68
       ·exact row_69 op (by omega) (by omega)
      ·by_cases h70_73 : op < 64776
       ·obtain rfl : op = 64775 := by omega
        exact row_70
       ·by_cases h71_73 : op < 64777
        ·obtain rfl : op = 64776 := by omega
         exact row_71
        ·obtain rfl : op = 64777 := by omega
         exact row_72
     ·by_cases h73_78 : op < 64780
      ·by_cases h73_75 : op < 64779
       ·obtain rfl : op = 64778 := by omega
        exact row_73
       ·obtain rfl : op = 64779 := by omega
        exact row_74
      ·by_cases h75_78 : op < 64781
       ·obtain rfl : op = 64780 := by omega
        exact row_75
       ·by_cases h76_78 : op < 64782
        ·obtain rfl : op = 64781 := by omega
         exact row_76
        ·obtain rfl : op = 64782 := by omega
         exact row_77
 ·by_cases h78_157 : op < 64884
  ·by_cases h78_117 : op < 64846
   ·by_cases h78_97 : op < 64793
    ·by_cases h78_87 : op < 64787
     ·by_cases h78_82 : op < 64785
      ·by_cases h78_80 : op < 64784
       ·obtain rfl : op = 64783 := by omega
        exact row_78
       ·obtain rfl : op = 64784 := by omega
        exact row_79
      ·by_cases h80_82 : op < 64786
       ·obtain rfl : op = 64785 := by omega
        exact row_80
       ·obtain rfl : op = 64786 := by omega
        exact row_81
     ·by_cases h82_87 : op < 64790
      ·by_cases h82_84 : op < 64789
       ·exact row_82 op (by omega) (by omega)
       ·obtain rfl : op = 64789 := by omega
        exact row_83
      ·by_cases h84_87 : op < 64791
       ·obtain rfl : op = 64790 := by omega
        exact row_84
       ·by_cases h85_87 : op < 64792
        ·obtain rfl : op = 64791 := by omega
         exact row_85
        ·obtain rfl : op = 64792 := by omega
         exact row_86
    ·by_cases h87_97 : op < 64798
     ·by_cases h87_92 : op < 64795
      ·by_cases h87_89 : op < 64794
       ·obtain rfl : op = 64793 := by omega
        exact row_87
       ·obtain rfl : op = 64794 := by omega
        exact row_88
      ·by_cases h89_92 : op < 64796
       ·obtain rfl : op = 64795 := by omega
        exact row_89
       ·by_cases h90_92 : op < 64797
        ·obtain rfl : op = 64796 := by omega
         exact row_90
        ·obtain rfl : op = 64797 := by omega
         exact row_91
     ·by_cases h92_97 : op < 64803
      ·by_cases h92_94 : op < 64799
       ·obtain rfl : op = 64798 := by omega
        exact row_92
       ·exact row_93 op (by omega) (by omega)
      ·by_cases h94_97 : op < 64833
       ·exact row_94 op (by omega) (by omega)
       ·by_cases h95_97 : op < 64845
        ·exact row_95 op (by omega) (by omega)
        ·obtain rfl : op = 64845 := by omega
         exact row_96
   ·by_cases h97_117 : op < 64859
    ·by_cases h97_107 : op < 64854
     ·by_cases h97_102 : op < 64851
      ·by_cases h97_99 : op < 64850
       ·exact row_97 op (by omega) (by omega)
       ·obtain rfl : op = 64850 := by omega
        exact row_98
      ·by_cases h99_102 : op < 64852
       ·obtain rfl : op = 64851 := by omega
        exact row_99
       ·by_cases h100_102 : op < 64853
        ·obtain rfl : op = 64852 := by omega
         exact row_100
        ·obtain rfl : op = 64853 := by omega
         exact row_101
     ·by_cases h102_107 : op < 64856
      ·by_cases h102_104 : op < 64855
       ·obtain rfl : op = 64854 := by omega
        exact row_102
       ·obtain rfl : op = 64855 := by omega
        exact row_103
      ·by_cases h104_107 : op < 64857
       ·obtain rfl : op = 64856 := by omega
        exact row_104
       ·by_cases h105_107 : op < 64858
        ·obtain rfl : op = 64857 := by omega
         exact row_105
        ·obtain rfl : op = 64858 := by omega
         exact row_106
    ·by_cases h107_117 : op < 64867
     ·by_cases h107_112 : op < 64861
      ·by_cases h107_109 : op < 64860
       ·obtain rfl : op = 64859 := by omega
        exact row_107
       ·obtain rfl : op = 64860 := by omega
        exact row_108
      ·by_cases h109_112 : op < 64862
       ·obtain rfl : op = 64861 := by omega
        exact row_109
       ·by_cases h110_112 : op < 64864
        ·exact row_110 op (by omega) (by omega)
        ·exact row_111 op (by omega) (by omega)
     ·by_cases h112_117 : op < 64871
      ·by_cases h112_114 : op < 64869
       ·exact row_112 op (by omega) (by omega)
       ·exact row_113 op (by omega) (by omega)
      ·by_cases h114_117 : op < 64875
       ·exact row_114 op (by omega) (by omega)
       ·by_cases h115_117 : op < 64878
        ·exact row_115 op (by omega) (by omega)
        ·exact row_116 op (by omega) (by omega)
  ·by_cases h117_157 : op < 64939
   ·by_cases h117_137 : op < 64910
    ·by_cases h117_127 : op < 64898
     ·by_cases h117_122 : op < 64890
      ·by_cases h117_119 : op < 64886
       ·exact row_117 op (by omega) (by omega)
       ·exact row_118 op (by omega) (by omega)
      ·by_cases h119_122 : op < 64891
       ·obtain rfl : op = 64890 := by omega
        exact row_119
       ·by_cases h120_122 : op < 64892
        ·obtain rfl : op = 64891 := by omega
         exact row_120
        ·exact row_121 op (by omega) (by omega)
     ·by_cases h122_127 : op < 64901
      ·by_cases h122_124 : op < 64899
       ·obtain rfl : op = 64898 := by omega
        exact row_122
       ·exact row_123 op (by omega) (by omega)
      ·by_cases h124_127 : op < 64903
       ·exact row_124 op (by omega) (by omega)
       ·by_cases h125_127 : op < 64907
        ·exact row_125 op (by omega) (by omega)
        ·exact row_126 op (by omega) (by omega)
    ·by_cases h127_137 : op < 64928
     ·by_cases h127_132 : op < 64917
      ·by_cases h127_129 : op < 64916
       ·exact row_127 op (by omega) (by omega)
       ·obtain rfl : op = 64916 := by omega
        exact row_128
      ·by_cases h129_132 : op < 64922
       ·exact row_129 op (by omega) (by omega)
       ·by_cases h130_132 : op < 64923
        ·obtain rfl : op = 64922 := by omega
         exact row_130
        ·exact row_131 op (by omega) (by omega)
     ·by_cases h132_137 : op < 64931
      ·by_cases h132_134 : op < 64930
       ·exact row_132 op (by omega) (by omega)
       ·obtain rfl : op = 64930 := by omega
        exact row_133
      ·by_cases h134_137 : op < 64933
       ·exact row_134 op (by omega) (by omega)
       ·by_cases h135_137 : op < 64935
        ·exact row_135 op (by omega) (by omega)
        ·exact row_136 op (by omega) (by omega)
   ·by_cases h137_157 : op < 64963
    ·by_cases h137_147 : op < 64949
     ·by_cases h137_142 : op < 64943
      ·by_cases h137_139 : op < 64942
       ·exact row_137 op (by omega) (by omega)
       ·obtain rfl : op = 64942 := by omega
        exact row_138
      ·by_cases h139_142 : op < 64945
       ·exact row_139 op (by omega) (by omega)
       ·by_cases h140_142 : op < 64946
        ·obtain rfl : op = 64945 := by omega
         exact row_140
        ·exact row_141 op (by omega) (by omega)
     ·by_cases h142_147 : op < 64956
      ·by_cases h142_144 : op < 64955
       ·exact row_142 op (by omega) (by omega)
       ·obtain rfl : op = 64955 := by omega
        exact row_143
      ·by_cases h144_147 : op < 64960
       ·exact row_144 op (by omega) (by omega)
       ·by_cases h145_147 : op < 64962
        ·exact row_145 op (by omega) (by omega)
        ·obtain rfl : op = 64962 := by omega
         exact row_146
    ·by_cases h147_157 : op < 64975
     ·by_cases h147_152 : op < 64967
      ·by_cases h147_149 : op < 64965
       ·exact row_147 op (by omega) (by omega)
       ·exact row_148 op (by omega) (by omega)
      ·by_cases h149_152 : op < 64971
       ·exact row_149 op (by omega) (by omega)
       ·by_cases h150_152 : op < 64974
        ·exact row_150 op (by omega) (by omega)
        ·obtain rfl : op = 64974 := by omega
         exact row_151
     ·by_cases h152_157 : op < 64978
      ·by_cases h152_154 : op < 64977
       ·exact row_152 op (by omega) (by omega)
       ·obtain rfl : op = 64977 := by omega
        exact row_153
      ·by_cases h154_157 : op < 64981
       ·exact row_154 op (by omega) (by omega)
       ·by_cases h155_157 : op < 64992
        ·exact row_155 op (by omega) (by omega)
        ·exact row_156 op (by omega) (by omega)
end Tg
end Go.Proofs.Ytifjgocfdnhdeaa
/- TgM -/
namespace Go.Proofs.Ytifjgocfdnhdeaa
open Go.RowKit
namespace Tg
open Ins
structure Ce where
 op : Int
 a : Int
 n : Int
structure Fu where
 host : Int
 sig : Int
 inn : Int
 out : Int
 loc : Int
 cs : List Ce
structure Si where
 i : List Int
 o : List Int
structure FuV where
 f : Fu
 cv : Value
 mv : Value
structure SiV where
 s : Si
 iv : Value
 ov : Value
structure Pr where
 ss : List SiV
 fs : List FuV
def ceA (c : Ce) : Array Value := #[.int .i64 c.op, .int .i64 c.a, .int .u64 c.n]
def fuA (f : FuV) : Array Value := #[.int .i64 f.f.host, .int .i64 f.f.sig, .int .i64 f.f.inn, .int .i64 f.f.out, .int .i64 f.f.loc, f.cv, f.mv]
def siA (s : SiV) : Array Value := #[s.iv, s.ov]
def ivs (l : List Int) : List Value := l.map (Value.int .i64)
def flat {α : Type} (g : α → Array Value) : List α → List Value
 | [] => []
 | x :: r => (g x).toList ++ flat g r
theorem flat_at {α : Type} (g : α → Array Value) (z : Nat) (hz : ∀ x, (g x).size = z) : ∀ (l : List α) (i : Nat) (x : α) (j : Nat), l[i]? = some x → j < z → (flat g l)[i * z + j]? = (g x)[j]?
 | [], _, _, _, h, _ => by cases h
 | q :: r, 0, x, j, h, hj => by
  obtain rfl : q = x := Option.some.inj h
  show ((g q).toList ++ flat g r)[0 * z + j]? = _
  rw [Nat.zero_mul, Nat.zero_add, List.getElem?_append_left (by rw [Array.length_toList, hz]; exact hj), Array.getElem?_toList]
 | q :: r, i + 1, x, j, h, hj => by
  show ((g q).toList ++ flat g r)[(i + 1) * z + j]? = _
  rw [List.getElem?_append_right (by rw [Array.length_toList, hz, Nat.add_mul]; omega), Array.length_toList, hz, show (i + 1) * z + j - z = i * z + j by rw [Nat.add_mul]; omega]
  exact flat_at g z hz r i x j h hj
def RwR (w : World) (v : Value) (n : Nat) (xs : List Value) : Prop :=
 ∃ x c, v = .slice x n c ∧ ∀ j u, xs[j]? = some u → ∃ b off, x = some ⟨b, off, none⟩ ∧ w.cell? ⟨b, off + j, none⟩ = some u
theorem rwR_gr {w w' : World} {v : Value} {n : Nat} {xs : List Value} (h : RwR w v n xs) (hg : Gr w w') : RwR w' v n xs := by
 obtain ⟨x, c, rfl, h⟩ := h
 exact ⟨x, c, rfl, fun j u hu => by obtain ⟨b, off, e, hc⟩ := h j u hu; exact ⟨b, off, e, gr_cell hg hc⟩⟩
def Bd (x : Int) : Prop := -9223372036854775808 ≤ x ∧ x ≤ 9223372036854775807
structure CeB (c : Ce) : Prop where
 op : Bd c.op
 a : Bd c.a
 n : 0 ≤ c.n ∧ c.n ≤ 18446744073709551615
structure FuR (w : World) (f : FuV) : Prop where
 cs : RwR w f.cv f.f.cs.length (flat ceA f.f.cs)
 mv : ∃ x n c, f.mv = .slice x n c
 len : f.f.cs.length ≤ 1099511627776
 host : Bd f.f.host
 sig : Bd f.f.sig
 inn : Bd f.f.inn
 out : Bd f.f.out
 loc : Bd f.f.loc
 ces : ∀ c ∈ f.f.cs, CeB c
structure SiR (w : World) (s : SiV) : Prop where
 iv : RwR w s.iv s.s.i.length (ivs s.s.i)
 ov : RwR w s.ov s.s.o.length (ivs s.s.o)
 li : s.s.i.length ≤ 1099511627776
 lo : s.s.o.length ≤ 1099511627776
structure PrR (w : World) (sv fv : Value) (P : Pr) : Prop where
 ss : RwR w sv P.ss.length (flat siA P.ss)
 fs : RwR w fv P.fs.length (flat fuA P.fs)
 sis : ∀ s ∈ P.ss, SiR w s
 fus : ∀ f ∈ P.fs, FuR w f
 ls : P.ss.length ≤ 1099511627776
 lf : P.fs.length ≤ 1099511627776
theorem fuR_gr {w w' : World} {f : FuV} (h : FuR w f) (hg : Gr w w') : FuR w' f := ⟨rwR_gr h.cs hg, h.mv, h.len, h.host, h.sig, h.inn, h.out, h.loc, h.ces⟩
theorem siR_gr {w w' : World} {s : SiV} (h : SiR w s) (hg : Gr w w') : SiR w' s := ⟨rwR_gr h.iv hg, rwR_gr h.ov hg, h.li, h.lo⟩
theorem prR_gr {w w' : World} {sv fv : Value} {P : Pr} (h : PrR w sv fv P) (hg : Gr w w') : PrR w' sv fv P := ⟨rwR_gr h.ss hg, rwR_gr h.fs hg, fun s hs => siR_gr (h.sis s hs) hg, fun f hf => fuR_gr (h.fus f hf) hg, h.ls, h.lf⟩
theorem rwR_at {α : Type} {g : α → Array Value} {z : Nat} (hz : ∀ x, (g x).size = z) {w : World} {x : Option Addr} {n c : Nat} {l : List α} (h : RwR w (.slice x n c) n (flat g l)) {i : Nat} {e : α} (hi : l[i]? = some e) (h0 : 0 < z) : ∃ b off, x = some ⟨b, off, none⟩ ∧ ∀ j u, (g e)[j]? = some u → w.cell? ⟨b, off + i * z + j, none⟩ = some u := by
 obtain ⟨x', c', he, h⟩ := h
 injection he with he
 subst he
 have h1 : ∀ j u, (g e)[j]? = some u → (flat g l)[i * z + j]? = some u := fun j u hu => by
  have hj : j < z := by have := (Array.getElem?_eq_some_iff.1 hu).1; rw [hz] at this; exact this
  rw [flat_at g z hz l i e j hi hj]; exact hu
 obtain ⟨b, off, hx, _⟩ := h (i * z + 0) ((g e)[0]'(by rw [hz]; exact h0)) (h1 0 _ (Array.getElem?_eq_getElem _))
 refine ⟨b, off, hx, fun j u hu => ?_⟩
 obtain ⟨b', off', hx', hc⟩ := h _ u (h1 j u hu)
 rw [hx] at hx'
 injection hx' with hx'
 injection hx' with hb ho
 subst hb ho
 rw [Nat.add_assoc]
 exact hc
-- what the functions answer
def szI (op : Int) : Int :=
 if op = 44 ∨ op = 45 ∨ op = 48 ∨ op = 49 ∨ op = 58 ∨ op = 60 then 1
 else if op = 46 ∨ op = 47 ∨ op = 50 ∨ op = 51 ∨ op = 59 ∨ op = 61 then 2
 else if op = 40 ∨ op = 52 ∨ op = 53 ∨ op = 54 ∨ op = 62 then 4
 else if op = 41 ∨ op = 55 then 8 else 0
def strB (op : Int) : Bool := decide (54 ≤ op) && (szI op != 0)
def CtlP (op : Int) : Prop := op = 0 ∨ op = 12 ∨ op = 13 ∨ op = 14 ∨ op = 15 ∨ op = 16 ∨ op = 17 ∨ op = 26 ∨ op = 27 ∨ op = 32 ∨ op = 33 ∨ op = 34 ∨ op = 35 ∨ op = 36 ∨ op = 63 ∨ op = 64 ∨ op = 66 ∨ op = 256 ∨ op = 257
instance (op : Int) : Decidable (CtlP op) := by unfold CtlP; infer_instance
def sclB (op : Int) : Bool := decide (CtlP op) || (arI op != 0) || (szI op != 0)
def belB (n e : Int) : Bool := decide (0 ≤ n) && decide (n < e)
def numsB (l : List Int) : Bool := l.all fun t => (t == 127) || (t == 126)
end Tg
end Go.Proofs.Ytifjgocfdnhdeaa
