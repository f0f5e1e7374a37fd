/-
  Texts of this seat, joined: InsOf, InsFl, InsAll, InsLaw, InsAp, InsR1, InsR2, InsTb, InsR3, InsR4. Each says what it proves.
-/
import Derived.Test.YtebkabidojipoaaMk2
import Derived.Test.YtebkabidojipoaaMk3
import Derived.Test.YtebkabidojipoaaMk6
/- InsOf -/
namespace Go.Proofs.Ytebkabidojipoaa
open Go.RowKit
namespace Ins
def Mx (w : World) : Prop := ∃ m, w.cell? ⟨0, 0, none⟩ = some (.int .i64 m)
theorem mx_gr {w w' : World} (h : Mx w) (hg : Gr w w') : Mx w' := by
 obtain ⟨m, hm⟩ := h
 exact ⟨m, gr_cell hg hm⟩
def inf (f l : Int) (p : Bool) (a b : Value) : Array Value := #[.int .i64 f, .int .i64 l, .bool p, a, b]
theorem infoN : (Try.prog.info? 50).map (·.size) = some 5 := by kernel_rfl
theorem cells5 {w : World} {g : Nat} {a b c d e : Value} {t : TypeId} {z : Nat × Nat} (h : w.heap[g]? = some (.cells #[a, b, c, d, e] t z)) :
  w.cell? ⟨g, 0, none⟩ = some a ∧ w.cell? ⟨g, 1, none⟩ = some b ∧ w.cell? ⟨g, 2, none⟩ = some c ∧ w.cell? ⟨g, 3, none⟩ = some d ∧ w.cell? ⟨g, 4, none⟩ = some e :=
 ⟨(cell_of_row _ _ 0 _ _ _ h).trans rfl, (cell_of_row _ _ 1 _ _ _ h).trans rfl, (cell_of_row _ _ 2 _ _ _ h).trans rfl, (cell_of_row _ _ 3 _ _ _ h).trans rfl, (cell_of_row _ _ 4 _ _ _ h).trans rfl⟩
theorem owns_base {w : World} {base base' : Nat} {e : TypeId} {size : Nat} {v : Value} {n : Nat} {xs : List Value} (h : w.ownsRow base e size v n xs) (hb : base' ≤ base) : w.ownsRow base' e size v n xs := by
 refine ⟨h.1, ?_⟩
 rcases h.2 with h | ⟨g, cap, cur, h1, h2, h3⟩
 ·exact .inl h
 ·exact .inr ⟨g, cap, cur, h1, Nat.le_trans hb h2, h3⟩
def cutA (s : ByteArray) : ByteArray := ⟨(Lib.cut s.data.toList [58]).1.toArray⟩
def cutB (s : ByteArray) : ByteArray := ⟨(Lib.cut s.data.toList [58]).2.1.toArray⟩
def cutP (s : ByteArray) : Bool := (Lib.cut s.data.toList [58]).2.2
theorem cut_any (s : ByteArray) (w : World) (hs : s.size < 4294967281) (hm : Mx w) :
  Calls Try.prog 43 #[.string s, .string ⟨#[58]⟩] w fun e w' => e = .returned (.tuple #[.string (cutA s), .string (cutB s), .bool (cutP s)]) ∧ Gr w w' := by
 obtain ⟨m, hm⟩ := hm
 exact (Try.strings_Cut s ⟨#[58]⟩ m w hs hm).mono fun e w' ⟨h, n, hn⟩ => ⟨h, hn ▸ (Gr.refl w).drewN n⟩
theorem owns_slice {w : World} {base : Nat} {e : TypeId} {size : Nat} {v : Value} {n : Nat} {xs : List Value} (h : w.ownsRow base e size v n xs) : ∃ x c, v = .slice x n c := by
 rcases h.2 with ⟨h1, h2⟩ | ⟨g, cap, cur, rfl, _⟩
 ·subst h2; exact ⟨_, _, h1⟩
 ·exact ⟨_, _, rfl⟩
theorem inf_one (f l : Int) (p : Bool) (x y : Option Addr) (n m c d : Nat) : (inf f l p (.slice x n c) (.slice y m d)).all (·.oneCell') = true := by kernel_rfl
theorem owns_setRow {w : World} {base : Nat} {e : TypeId} {size : Nat} {v : Value} {n : Nat} {xs : List Value} (h : w.ownsRow base e size v n xs) {g : Nat} (hg : g < base) (c : Array Value) : (w.setRow g c).ownsRow base e size v n xs :=
 Sep.owns (ex := fun k => k = g) (w := w) ⟨rfl, rfl, rfl, by simp [World.setRow], fun i _ hn => setRow_block_other hn⟩ h (fun k hk e => by have := (h.lt k hk).1; omega)
theorem results_cell_slot {P : Program} {fn : Func} {p q : Tmp} {ty : TypeId} (h : fn.results = #[.cell p ty, .tmp q]) (tmps : Array Value) (w : World) (g : Nat) (t : TypeId) (cs : Array Value) (fr : Nat × Nat) (d : TypeDesc)
  (hp : tmps.getD p undef = .pointer (some ⟨g, 0, none⟩)) (hg : w.heap[g]? = some (.cells cs t fr))
  (hu : P.underlying ty = some d) (hd : (match d with | .struct _ | .array _ _ => true | _ => false) = true) (hi : (P.info? ty).map (·.size) = some cs.size) (b : Value) (hb : tmps.getD q undef = b) :
  (results fn tmps).run P w = .ok (.tuple #[.agg cs, b]) w := by
 have hp' : tmps[p]?.getD undef = .pointer (some ⟨g, 0, none⟩) := by simpa using hp
 have hb' : tmps[q]?.getD undef = b := by simpa using hb
 simp [results, h, hp', hb', asAddr, run_loadVar_row w g t ty cs fr d hg hu hd hi]
def OFS (f l : Int) (p : Bool) (A B : ByteArray) (w : World) (e : Ending) (w' : World) : Prop :=
 ∃ vi vo, e = .returned (.tuple #[.agg (inf f l p vi vo), .bool true]) ∧ Gr w w' ∧ w'.ownsRow w.heap.size 3 1 vi A.size (codes A A.size) ∧ w'.ownsRow w.heap.size 3 1 vo B.size (codes B B.size)
def ΦO (b base : Nat) (f l : Int) (p : Bool) (A B : ByteArray) (k : Nat) (v : Value) (wn : World) : Prop :=
 match k with
 | 0 => v = .pointer (some ⟨b, 0, none⟩)
 | 1 => v = .int .i64 f
 | 2 => v = .pointer (some ⟨b, 1, none⟩)
 | 3 => v = .int .i64 l
 | 4 => v = .bool p
 | 5 => v = .string A
 | 6 => wn.ownsRow base 3 1 v A.size (codes A A.size)
 | 7 => v = .string B
 | 8 => wn.ownsRow base 3 1 v B.size (codes B B.size)
 | 9 => ∃ vi vo, v = .agg (inf f l p vi vo) ∧ wn.ownsRow base 3 1 vi A.size (codes A A.size) ∧ wn.ownsRow base 3 1 vo B.size (codes B B.size)
 | _ => True
theorem ΦO_mono (b base : Nat) (f l : Int) (p : Bool) (A B : ByteArray) : ∀ k v wn wn', Gr wn wn' → ΦO b base f l p A B k v wn → ΦO b base f l p A B k v wn' := by
 intro k v wn wn' hg h
 match k with
 | 0 => exact h
 | 1 => exact h
 | 2 => exact h
 | 3 => exact h
 | 4 => exact h
 | 5 => exact h
 | 6 => exact owns_gr h hg
 | 7 => exact h
 | 8 => exact owns_gr h hg
 | 9 => obtain ⟨vi, vo, h1, h2, h3⟩ := h; exact ⟨vi, vo, h1, owns_gr h2 hg, owns_gr h3 hg⟩
 | k + 10 => trivial
set_option maxHeartbeats 2000000 in
set_option maxRecDepth 100000 in
theorem of_vec (n m f l : Int) (s : ByteArray) (hn : 64768 ≤ n) (hn2 : n - 64768 ≤ 9223372036854775807) (hnm : n - 64768 = m) (hf : (f == 0) = false) (hs : s.size < 1000) (hA : (cutA s).size ≤ 1000) (hB : (cutB s).size ≤ 1000) (h : ∀ w, Calls Try.prog 41 #[.int .i64 m] w (RES f l s w)) (w : World) (hm : Mx w) :
  Calls Try.prog 20 #[.int .i64 n] w (OFS f l (cutP s) (cutA s) (cutB s) w) := by
 subst hnm
 have H := Lib.hid h
 have HM := Lib.hid hm
 have C := fun w (hm : Mx w) => cut_any s w (by omega) hm
 have HC := Lib.hid C
 have T1 := fun w => types_any (cutA s) w (by omega)
 have T2 := fun w => types_any (cutB s) w (by omega)
 have HT1 := Lib.hid T1
 have HT2 := Lib.hid T2
 clear h hm C T1 T2
 generalize cutA s = A at *
 generalize cutB s = B at *
 generalize cutP s = p at *
 go_enter Try.func20, Try.ntmps20
 go_wp2_with fail
 refine (H.out _).mono ?_
 rintro e w1 ⟨rfl, hg⟩
 have hb := gr_block hg (heap_alloc2_new w (.cells (inf 0 0 false (.slice none 0 0) (.slice none 0 0)) 50) (.cells (shp 0 0 zs) 77))
 have hi := gr_block hg (heap_alloc2_old w (.cells (inf 0 0 false (.slice none 0 0) (.slice none 0 0)) 50) (.cells (shp 0 0 zs) 77))
 have HB := Lib.hid hb
 have HI := Lib.hid hi
 have HG := Lib.hid (gr_trans (((Gr.refl w).alloc _ _).alloc _ _) hg)
 have HZ1 := Lib.hid (show w.heap.size + 2 ≤ w1.heap.size by have := hg.size; simp at this; omega)
 clear hb hg hi
 go_wp2_with (refine wpList_store_row rfl 77 _ _ rfl (w.heap.size + 1) (shp _ _ _) rfl rfl 77 (shp 0 0 zs) HB.out infoS rfl (shp_one _ _ _) ?_; focus (have hs2 := setRow_block (c := shp f l s) HB.out; have hi2 := (setRow_block_other (w := w1) (c := shp f l s) (show w.heap.size ≠ w.heap.size + 1 by omega)).trans HI.out; have hg2 := gr_setRow HG.out (g := w.heap.size + 1) (by omega) (shp f l s); have hz2 : (w1.setRow (w.heap.size + 1) (shp f l s)).heap.size = w1.heap.size := (by simp [World.setRow]); generalize w1.setRow (w.heap.size + 1) (shp f l s) = w2 at *; have c0 := (cell_of_row _ _ 0 _ _ _ hs2).trans (show (shp f l s)[0]? = some (.int .i64 f) from rfl); have c1 := (cell_of_row _ _ 1 _ _ _ hs2).trans (show (shp f l s)[1]? = some (.int .i64 l) from rfl); have c2 := (cell_of_row _ _ 2 _ _ _ hs2).trans (show (shp f l s)[2]? = some (.string s) from rfl); have HI2 := Lib.hid hi2; have HG2 := Lib.hid hg2; have HZ2 := Lib.hid (show w.heap.size + 2 ≤ w2.heap.size by rw [hz2]; exact HZ1.out); clear hs2 hi2 hg2 hz2))
 refine (HC.out _ (mx_gr HM.out HG2.out)).mono ?_
 rintro e w3 ⟨rfl, hg3⟩
 have d0 := gr_cell hg3 c0
 have d1 := gr_cell hg3 c1
 have HI3 := Lib.hid (gr_block hg3 HI2.out)
 have HG3 := Lib.hid (gr_trans HG2.out hg3)
 have HZ := Lib.hid (Nat.le_trans HZ2.out hg3.size)
 clear c0 c1 c2 hg3 HI2 HG2
 go_wp2_with fail
 refine wp_region_net_tail 10 (ΦO (w.heap.size + 1) (w.heap.size + 2) f l p A B) (by kernel_rfl) (by kernel_rfl) (ΦO_mono _ _ f l p A B) ?_ ?_
 ·simp only [List.take_succ_cons, List.take_zero]
  refine ⟨?_, ?_, ?_, ?_, ?_, ?_, ?_, ?_, ?_, ?_, trivial⟩
  ·refine NetStep.of rfl fun ρ wx hw hρc hρf hin hdep => ?_
   have e4 : ρ (.tmp 4) = (.pointer (some ⟨w.heap.size + 1, 0, none⟩)) := hin 4 (by kernel_rfl)
   go_simp
   exact ⟨rfl, Gr.refl _⟩
  ·refine NetStep.of rfl fun ρ wx hw hρc hρf hin hdep => ?_
   have e26 : ρ (.tmp 26) = (.pointer (some ⟨w.heap.size + 1, 0, none⟩)) := hdep 0 26 (by kernel_rfl)
   have hcx := gr_cell (gr_trans (Gr.drew (Gr.refl w3)) hw) d0
   go_simp
   exact ⟨rfl, Gr.refl _⟩
  ·refine NetStep.of rfl fun ρ wx hw hρc hρf hin hdep => ?_
   have e4 : ρ (.tmp 4) = (.pointer (some ⟨w.heap.size + 1, 0, none⟩)) := hin 4 (by kernel_rfl)
   go_simp
   exact ⟨rfl, Gr.refl _⟩
  ·refine NetStep.of rfl fun ρ wx hw hρc hρf hin hdep => ?_
   have e28 : ρ (.tmp 28) = (.pointer (some ⟨w.heap.size + 1, 1, none⟩)) := hdep 2 28 (by kernel_rfl)
   have hcx := gr_cell (gr_trans (Gr.drew (Gr.refl w3)) hw) d1
   go_simp
   exact ⟨rfl, Gr.refl _⟩
  ·refine NetStep.of rfl fun ρ wx hw hρc hρf hin hdep => ?_
   have e7 : ρ (.tmp 7) = (.bool p) := hin 7 (by kernel_rfl)
   go_simp
   exact ⟨rfl, Gr.refl _⟩
  ·refine NetStep.of rfl fun ρ wx hw hρc hρf hin hdep => ?_
   have e5 : ρ (.tmp 5) = (.string A) := hin 5 (by kernel_rfl)
   go_simp
   exact ⟨rfl, Gr.refl _⟩
  ·refine NetStep.of rfl fun ρ wx hw hρc hρf hin hdep => ?_
   have e31 : ρ (.tmp 31) = (.string A) := hdep 5 31 (by kernel_rfl)
   go_simp
   exact (HT1.out wx).mono fun e w4 ⟨sv, h1, h2, h3⟩ => ⟨sv, h1, owns_base h3 (Nat.le_trans HZ.out (gr_trans (Gr.drew (Gr.refl w3)) hw).size), h2⟩
  ·refine NetStep.of rfl fun ρ wx hw hρc hρf hin hdep => ?_
   have e6 : ρ (.tmp 6) = (.string B) := hin 6 (by kernel_rfl)
   go_simp
   exact ⟨rfl, Gr.refl _⟩
  ·refine NetStep.of rfl fun ρ wx hw hρc hρf hin hdep => ?_
   have e33 : ρ (.tmp 33) = (.string B) := hdep 7 33 (by kernel_rfl)
   go_simp
   exact (HT2.out wx).mono fun e w4 ⟨sv, h1, h2, h3⟩ => ⟨sv, h1, owns_base h3 (Nat.le_trans HZ.out (gr_trans (Gr.drew (Gr.refl w3)) hw).size), h2⟩
  ·refine NetStep.of rfl fun ρ wx hw hρc hρf hin hdep => ?_
   have e27 : ρ (.tmp 27) = (.int .i64 f) := hdep 1 27 (by kernel_rfl)
   have e29 : ρ (.tmp 29) = (.int .i64 l) := hdep 3 29 (by kernel_rfl)
   have e30 : ρ (.tmp 30) = (.bool p) := hdep 4 30 (by kernel_rfl)
   have e32 := Lib.hid (show wx.ownsRow (w.heap.size + 2) 3 1 (ρ (.tmp 32)) A.size (codes A A.size) from hdep 6 32 (by kernel_rfl))
   have e34 := Lib.hid (show wx.ownsRow (w.heap.size + 2) 3 1 (ρ (.tmp 34)) B.size (codes B B.size) from hdep 8 34 (by kernel_rfl))
   obtain ⟨x32, c32, h32⟩ := owns_slice e32.out
   obtain ⟨x34, c34, h34⟩ := owns_slice e34.out
   have f32 := e32.out
   have f34 := e34.out
   rw [h32] at f32
   rw [h34] at f34
   have F32 := Lib.hid f32
   have F34 := Lib.hid f34
   clear f32 f34 e32 e34
   go_simp
   exact ⟨⟨_, _, rfl, F32.out, F34.out⟩, Gr.refl _⟩
 ·intro V wN hgN hV
  obtain ⟨vi, vo, hs35, hO1, hO2⟩ := hV 9 _ 35 (by decide) rfl rfl
  have HO1 := Lib.hid hO1
  have HO2 := Lib.hid hO2
  obtain ⟨xi, ci, rfl⟩ := owns_slice hO1
  obtain ⟨xo, co, rfl⟩ := owns_slice hO2
  have HN := Lib.hid (gr_trans (Gr.drew (Gr.refl w3)) hgN)
  have HI5 := Lib.hid (gr_block HN.out HI3.out)
  clear hV hgN hO1 hO2
  simp only [List.take_succ_cons, List.take_zero, List.drop_succ_cons, List.drop_zero, putAll, Act.put, Option.map_some, Option.getD_some, List.setIfInBounds_toArray, List.set_cons_succ, List.set_cons_zero]
  rw [hs35]
  clear hs35
  refine wpList_store_row rfl 50 _ _ rfl w.heap.size (inf _ _ _ _ _) rfl rfl 50 (inf 0 0 false (.slice none 0 0) (.slice none 0 0)) HI5.out infoN rfl (inf_one _ _ _ _ _ _ _ _ _) ?_
  have HS := Lib.hid (setRow_block (c := inf f l p (.slice xi A.size ci) (.slice xo B.size co)) HI5.out)
  go_wp2
  exact bodyPost_ret (v := .tuple #[.agg (inf f l p (.slice xi A.size ci) (.slice xo B.size co)), .bool true]) (results_cell_slot Try.results20 _ _ w.heap.size 50 _ (0, 0) _ rfl HS.out Try.underlying50 rfl infoN _ rfl) rfl
   ⟨_, _, rfl, gr_setRow (gr_trans HG3.out HN.out) (Nat.le_refl _) _, owns_base (owns_setRow HO1.out (by omega) _) (by omega), owns_base (owns_setRow HO2.out (by omega) _) (by omega)⟩
set_option maxHeartbeats 2000000 in
set_option maxRecDepth 100000 in
theorem of_sca (n f l : Int) (s : ByteArray) (hn : n < 64768) (hf : (f == 0) = false) (hs : s.size < 1000) (hA : (cutA s).size ≤ 1000) (hB : (cutB s).size ≤ 1000) (h : ∀ w, Calls Try.prog 42 #[.int .i64 n] w (RES f l s w)) (w : World) (hm : Mx w) :
  Calls Try.prog 20 #[.int .i64 n] w (OFS f l (cutP s) (cutA s) (cutB s) w) := by
 have H := Lib.hid h
 have HM := Lib.hid hm
 have C := fun w (hm : Mx w) => cut_any s w (by omega) hm
 have HC := Lib.hid C
 have T1 := fun w => types_any (cutA s) w (by omega)
 have T2 := fun w => types_any (cutB s) w (by omega)
 have HT1 := Lib.hid T1
 have HT2 := Lib.hid T2
 clear h hm C T1 T2
 generalize cutA s = A at *
 generalize cutB s = B at *
 generalize cutP s = p at *
 go_enter Try.func20, Try.ntmps20
 go_wp2_with fail
 refine (H.out _).mono ?_
 rintro e w1 ⟨rfl, hg⟩
 have hb := gr_block hg (heap_alloc2_new w (.cells (inf 0 0 false (.slice none 0 0) (.slice none 0 0)) 50) (.cells (shp 0 0 zs) 77))
 have hi := gr_block hg (heap_alloc2_old w (.cells (inf 0 0 false (.slice none 0 0) (.slice none 0 0)) 50) (.cells (shp 0 0 zs) 77))
 have HB := Lib.hid hb
 have HI := Lib.hid hi
 have HG := Lib.hid (gr_trans (((Gr.refl w).alloc _ _).alloc _ _) hg)
 have HZ1 := Lib.hid (show w.heap.size + 2 ≤ w1.heap.size by have := hg.size; simp at this; omega)
 clear hb hg hi
 go_wp2_with (refine wpList_store_row rfl 77 _ _ rfl (w.heap.size + 1) (shp _ _ _) rfl rfl 77 (shp 0 0 zs) HB.out infoS rfl (shp_one _ _ _) ?_; focus (have hs2 := setRow_block (c := shp f l s) HB.out; have hi2 := (setRow_block_other (w := w1) (c := shp f l s) (show w.heap.size ≠ w.heap.size + 1 by omega)).trans HI.out; have hg2 := gr_setRow HG.out (g := w.heap.size + 1) (by omega) (shp f l s); have hz2 : (w1.setRow (w.heap.size + 1) (shp f l s)).heap.size = w1.heap.size := (by simp [World.setRow]); generalize w1.setRow (w.heap.size + 1) (shp f l s) = w2 at *; have c0 := (cell_of_row _ _ 0 _ _ _ hs2).trans (show (shp f l s)[0]? = some (.int .i64 f) from rfl); have c1 := (cell_of_row _ _ 1 _ _ _ hs2).trans (show (shp f l s)[1]? = some (.int .i64 l) from rfl); have c2 := (cell_of_row _ _ 2 _ _ _ hs2).trans (show (shp f l s)[2]? = some (.string s) from rfl); have HI2 := Lib.hid hi2; have HG2 := Lib.hid hg2; have HZ2 := Lib.hid (show w.heap.size + 2 ≤ w2.heap.size by rw [hz2]; exact HZ1.out); clear hs2 hi2 hg2 hz2))
 refine (HC.out _ (mx_gr HM.out HG2.out)).mono ?_
 rintro e w3 ⟨rfl, hg3⟩
 have d0 := gr_cell hg3 c0
 have d1 := gr_cell hg3 c1
 have HI3 := Lib.hid (gr_block hg3 HI2.out)
 have HG3 := Lib.hid (gr_trans HG2.out hg3)
 have HZ := Lib.hid (Nat.le_trans HZ2.out hg3.size)
 clear c0 c1 c2 hg3 HI2 HG2
 go_wp2_with fail
 refine wp_region_net_tail 10 (ΦO (w.heap.size + 1) (w.heap.size + 2) f l p A B) (by kernel_rfl) (by kernel_rfl) (ΦO_mono _ _ f l p A B) ?_ ?_
 ·simp only [List.take_succ_cons, List.take_zero]
  refine ⟨?_, ?_, ?_, ?_, ?_, ?_, ?_, ?_, ?_, ?_, trivial⟩
  ·refine NetStep.of rfl fun ρ wx hw hρc hρf hin hdep => ?_
   have e4 : ρ (.tmp 4) = (.pointer (some ⟨w.heap.size + 1, 0, none⟩)) := hin 4 (by kernel_rfl)
   go_simp
   exact ⟨rfl, Gr.refl _⟩
  ·refine NetStep.of rfl fun ρ wx hw hρc hρf hin hdep => ?_
   have e26 : ρ (.tmp 26) = (.pointer (some ⟨w.heap.size + 1, 0, none⟩)) := hdep 0 26 (by kernel_rfl)
   have hcx := gr_cell (gr_trans (Gr.drew (Gr.refl w3)) hw) d0
   go_simp
   exact ⟨rfl, Gr.refl _⟩
  ·refine NetStep.of rfl fun ρ wx hw hρc hρf hin hdep => ?_
   have e4 : ρ (.tmp 4) = (.pointer (some ⟨w.heap.size + 1, 0, none⟩)) := hin 4 (by kernel_rfl)
   go_simp
   exact ⟨rfl, Gr.refl _⟩
  ·refine NetStep.of rfl fun ρ wx hw hρc hρf hin hdep => ?_
   have e28 : ρ (.tmp 28) = (.pointer (some ⟨w.heap.size + 1, 1, none⟩)) := hdep 2 28 (by kernel_rfl)
   have hcx := gr_cell (gr_trans (Gr.drew (Gr.refl w3)) hw) d1
   go_simp
   exact ⟨rfl, Gr.refl _⟩
  ·refine NetStep.of rfl fun ρ wx hw hρc hρf hin hdep => ?_
   have e7 : ρ (.tmp 7) = (.bool p) := hin 7 (by kernel_rfl)
   go_simp
   exact ⟨rfl, Gr.refl _⟩
  ·refine NetStep.of rfl fun ρ wx hw hρc hρf hin hdep => ?_
   have e5 : ρ (.tmp 5) = (.string A) := hin 5 (by kernel_rfl)
   go_simp
   exact ⟨rfl, Gr.refl _⟩
  ·refine NetStep.of rfl fun ρ wx hw hρc hρf hin hdep => ?_
   have e31 : ρ (.tmp 31) = (.string A) := hdep 5 31 (by kernel_rfl)
   go_simp
   exact (HT1.out wx).mono fun e w4 ⟨sv, h1, h2, h3⟩ => ⟨sv, h1, owns_base h3 (Nat.le_trans HZ.out (gr_trans (Gr.drew (Gr.refl w3)) hw).size), h2⟩
  ·refine NetStep.of rfl fun ρ wx hw hρc hρf hin hdep => ?_
   have e6 : ρ (.tmp 6) = (.string B) := hin 6 (by kernel_rfl)
   go_simp
   exact ⟨rfl, Gr.refl _⟩
  ·refine NetStep.of rfl fun ρ wx hw hρc hρf hin hdep => ?_
   have e33 : ρ (.tmp 33) = (.string B) := hdep 7 33 (by kernel_rfl)
   go_simp
   exact (HT2.out wx).mono fun e w4 ⟨sv, h1, h2, h3⟩ => ⟨sv, h1, owns_base h3 (Nat.le_trans HZ.out (gr_trans (Gr.drew (Gr.refl w3)) hw).size), h2⟩
  ·refine NetStep.of rfl fun ρ wx hw hρc hρf hin hdep => ?_
   have e27 : ρ (.tmp 27) = (.int .i64 f) := hdep 1 27 (by kernel_rfl)
   have e29 : ρ (.tmp 29) = (.int .i64 l) := hdep 3 29 (by kernel_rfl)
   have e30 : ρ (.tmp 30) = (.bool p) := hdep 4 30 (by kernel_rfl)
   have e32 := Lib.hid (show wx.ownsRow (w.heap.size + 2) 3 1 (ρ (.tmp 32)) A.size (codes A A.size) from hdep 6 32 (by kernel_rfl))
   have e34 := Lib.hid (show wx.ownsRow (w.heap.size + 2) 3 1 (ρ (.tmp 34)) B.size (codes B B.size) from hdep 8 34 (by kernel_rfl))
   obtain ⟨x32, c32, h32⟩ := owns_slice e32.out
   obtain ⟨x34, c34, h34⟩ := owns_slice e34.out
   have f32 := e32.out
   have f34 := e34.out
   rw [h32] at f32
   rw [h34] at f34
   have F32 := Lib.hid f32
   have F34 := Lib.hid f34
   clear f32 f34 e32 e34
   go_simp
   exact ⟨⟨_, _, rfl, F32.out, F34.out⟩, Gr.refl _⟩
 ·intro V wN hgN hV
  obtain ⟨vi, vo, hs35, hO1, hO2⟩ := hV 9 _ 35 (by decide) rfl rfl
  have HO1 := Lib.hid hO1
  have HO2 := Lib.hid hO2
  obtain ⟨xi, ci, rfl⟩ := owns_slice hO1
  obtain ⟨xo, co, rfl⟩ := owns_slice hO2
  have HN := Lib.hid (gr_trans (Gr.drew (Gr.refl w3)) hgN)
  have HI5 := Lib.hid (gr_block HN.out HI3.out)
  clear hV hgN hO1 hO2
  simp only [List.take_succ_cons, List.take_zero, List.drop_succ_cons, List.drop_zero, putAll, Act.put, Option.map_some, Option.getD_some, List.setIfInBounds_toArray, List.set_cons_succ, List.set_cons_zero]
  rw [hs35]
  clear hs35
  refine wpList_store_row rfl 50 _ _ rfl w.heap.size (inf _ _ _ _ _) rfl rfl 50 (inf 0 0 false (.slice none 0 0) (.slice none 0 0)) HI5.out infoN rfl (inf_one _ _ _ _ _ _ _ _ _) ?_
  have HS := Lib.hid (setRow_block (c := inf f l p (.slice xi A.size ci) (.slice xo B.size co)) HI5.out)
  go_wp2
  exact bodyPost_ret (v := .tuple #[.agg (inf f l p (.slice xi A.size ci) (.slice xo B.size co)), .bool true]) (results_cell_slot Try.results20 _ _ w.heap.size 50 _ (0, 0) _ rfl HS.out Try.underlying50 rfl infoN _ rfl) rfl
   ⟨_, _, rfl, gr_setRow (gr_trans HG3.out HN.out) (Nat.le_refl _) _, owns_base (owns_setRow HO1.out (by omega) _) (by omega), owns_base (owns_setRow HO2.out (by omega) _) (by omega)⟩
set_option maxHeartbeats 2000000 in
theorem of_vec0 (n m l : Int) (s : ByteArray) (hn : 64768 ≤ n) (hn2 : n - 64768 ≤ 9223372036854775807) (hnm : n - 64768 = m) (h : ∀ w, Calls Try.prog 41 #[.int .i64 m] w (RES 0 l s w)) (w : World) :
  Calls Try.prog 20 #[.int .i64 n] w fun e w' => e = .returned (.tuple #[.agg (inf 0 0 false (.slice none 0 0) (.slice none 0 0)), .bool false]) ∧ Gr w w' := by
 subst hnm
 have H := Lib.hid h
 clear h
 go_enter Try.func20, Try.ntmps20
 go_wp2_with fail
 refine (H.out _).mono ?_
 rintro e w1 ⟨rfl, hg⟩
 have hb := gr_block hg (heap_alloc2_new w (.cells (inf 0 0 false (.slice none 0 0) (.slice none 0 0)) 50) (.cells (shp 0 0 zs) 77))
 have hi := gr_block hg (heap_alloc2_old w (.cells (inf 0 0 false (.slice none 0 0) (.slice none 0 0)) 50) (.cells (shp 0 0 zs) 77))
 have HB := Lib.hid hb
 have HI := Lib.hid hi
 have HG := Lib.hid (gr_trans (((Gr.refl w).alloc _ _).alloc _ _) hg)
 clear hb hg hi
 go_wp2_with (first | (refine wpList_store_row rfl 77 _ _ rfl (w.heap.size + 1) (shp _ _ _) rfl rfl 77 (shp 0 0 zs) HB.out infoS rfl (shp_one _ _ _) ?_; focus (have hs2 := setRow_block (c := shp 0 l s) HB.out; have hi2 := (setRow_block_other (w := w1) (c := shp 0 l s) (show w.heap.size ≠ w.heap.size + 1 by omega)).trans HI.out; have hg2 := gr_setRow HG.out (g := w.heap.size + 1) (by omega) (shp 0 l s); generalize w1.setRow (w.heap.size + 1) (shp 0 l s) = w2 at *; have c0 := (cell_of_row _ _ 0 _ _ _ hs2).trans (show (shp 0 l s)[0]? = some (.int .i64 0) from rfl); have HI2 := Lib.hid hi2; have HG2 := Lib.hid hg2; clear hs2 hi2 hg2)) | (refine wpList_store_row rfl 50 _ _ rfl w.heap.size (inf 0 0 false (.slice none 0 0) (.slice none 0 0)) rfl rfl 50 (inf 0 0 false (.slice none 0 0) (.slice none 0 0)) HI2.out infoN rfl (inf_one _ _ _ _ _ _ _ _ _) ?_))
 exact bodyPost_ret (v := .tuple #[.agg (inf 0 0 false (.slice none 0 0) (.slice none 0 0)), .bool false]) (results_cell_slot Try.results20 _ _ w.heap.size 50 _ (0, 0) _ rfl (setRow_block (c := inf 0 0 false (.slice none 0 0) (.slice none 0 0)) HI2.out) Try.underlying50 rfl infoN _ rfl) rfl
   ⟨rfl, gr_setRow HG2.out (Nat.le_refl _) _⟩
set_option maxHeartbeats 2000000 in
theorem of_sca0 (n l : Int) (s : ByteArray) (hn : n < 64768) (h : ∀ w, Calls Try.prog 42 #[.int .i64 n] w (RES 0 l s w)) (w : World) :
  Calls Try.prog 20 #[.int .i64 n] w fun e w' => e = .returned (.tuple #[.agg (inf 0 0 false (.slice none 0 0) (.slice none 0 0)), .bool false]) ∧ Gr w w' := by
 have H := Lib.hid h
 clear h
 go_enter Try.func20, Try.ntmps20
 go_wp2_with fail
 refine (H.out _).mono ?_
 rintro e w1 ⟨rfl, hg⟩
 have hb := gr_block hg (heap_alloc2_new w (.cells (inf 0 0 false (.slice none 0 0) (.slice none 0 0)) 50) (.cells (shp 0 0 zs) 77))
 have hi := gr_block hg (heap_alloc2_old w (.cells (inf 0 0 false (.slice none 0 0) (.slice none 0 0)) 50) (.cells (shp 0 0 zs) 77))
 have HB := Lib.hid hb
 have HI := Lib.hid hi
 have HG := Lib.hid (gr_trans (((Gr.refl w).alloc _ _).alloc _ _) hg)
 clear hb hg hi
 go_wp2_with (first | (refine wpList_store_row rfl 77 _ _ rfl (w.heap.size + 1) (shp _ _ _) rfl rfl 77 (shp 0 0 zs) HB.out infoS rfl (shp_one _ _ _) ?_; focus (have hs2 := setRow_block (c := shp 0 l s) HB.out; have hi2 := (setRow_block_other (w := w1) (c := shp 0 l s) (show w.heap.size ≠ w.heap.size + 1 by omega)).trans HI.out; have hg2 := gr_setRow HG.out (g := w.heap.size + 1) (by omega) (shp 0 l s); generalize w1.setRow (w.heap.size + 1) (shp 0 l s) = w2 at *; have c0 := (cell_of_row _ _ 0 _ _ _ hs2).trans (show (shp 0 l s)[0]? = some (.int .i64 0) from rfl); have HI2 := Lib.hid hi2; have HG2 := Lib.hid hg2; clear hs2 hi2 hg2)) | (refine wpList_store_row rfl 50 _ _ rfl w.heap.size (inf 0 0 false (.slice none 0 0) (.slice none 0 0)) rfl rfl 50 (inf 0 0 false (.slice none 0 0) (.slice none 0 0)) HI2.out infoN rfl (inf_one _ _ _ _ _ _ _ _ _) ?_))
 exact bodyPost_ret (v := .tuple #[.agg (inf 0 0 false (.slice none 0 0) (.slice none 0 0)), .bool false]) (results_cell_slot Try.results20 _ _ w.heap.size 50 _ (0, 0) _ rfl (setRow_block (c := inf 0 0 false (.slice none 0 0) (.slice none 0 0)) HI2.out) Try.underlying50 rfl infoN _ rfl) rfl
   ⟨rfl, gr_setRow HG2.out (Nat.le_refl _) _⟩
end Ins
end Go.Proofs.Ytebkabidojipoaa
/- InsFl -/
namespace Go.Proofs.Ytebkabidojipoaa
open Go.RowKit
namespace Ins
def Flt (op : Int) : Prop := (42 ≤ op ∧ op ≤ 43) ∨ (56 ≤ op ∧ op ≤ 57) ∨ (67 ≤ op ∧ op ≤ 68) ∨ (91 ≤ op ∧ op ≤ 102) ∨ (139 ≤ op ∧ op ≤ 166) ∨ (168 ≤ op ∧ op ≤ 171) ∨ (174 ≤ op ∧ op ≤ 191) ∨ (64787 ≤ op ∧ op ≤ 64788) ∨ (64799 ≤ op ∧ op ≤ 64802) ∨ (64833 ≤ op ∧ op ≤ 64844) ∨ (64862 ≤ op ∧ op ≤ 64863) ∨ (64871 ≤ op ∧ op ≤ 64874) ∨ (64884 ≤ op ∧ op ≤ 64885) ∨ (64890 ≤ op ∧ op ≤ 64890) ∨ (64916 ≤ op ∧ op ≤ 64916) ∨ (64992 ≤ op ∧ op ≤ 65023)
instance (op : Int) : Decidable (Flt op) := by unfold Flt; infer_instance
def floatB (op : Int) : Bool := decide (Flt op)
theorem fl_0 (op : Int) (h1 : op ≤ 41) (w : World) : Calls Try.prog 28 #[.int .i64 op] w fun e w' => e = .returned (.bool false) ∧ w = w' := by
 go_enter Try.func28, Try.ntmps28
 go_wp2_with (go_at_call 56; first | refine wY ?_ | refine wN ?_)
 go_ret
 exact ⟨rfl, rfl⟩
theorem fl_1 (w : World) : Calls Try.prog 28 #[.int .i64 42] w fun e w' => e = .returned (.bool true) ∧ w = w' := by
 go_enter Try.func28, Try.ntmps28
 go_wp2_with (go_at_call 56; first | refine wY ?_ | refine wN ?_)
 go_ret
 exact ⟨rfl, rfl⟩
theorem fl_2 (w : World) : Calls Try.prog 28 #[.int .i64 43] w fun e w' => e = .returned (.bool true) ∧ w = w' := by
 go_enter Try.func28, Try.ntmps28
 go_wp2_with (go_at_call 56; first | refine wY ?_ | refine wN ?_)
 go_ret
 exact ⟨rfl, rfl⟩
theorem fl_3 (op : Int) (h0 : 44 ≤ op) (h1 : op ≤ 55) (w : World) : Calls Try.prog 28 #[.int .i64 op] w fun e w' => e = .returned (.bool false) ∧ w = w' := by
 go_enter Try.func28, Try.ntmps28
 go_wp2_with (go_at_call 56; first | refine wY ?_ | refine wN ?_)
 go_ret
 exact ⟨rfl, rfl⟩
theorem fl_4 (w : World) : Calls Try.prog 28 #[.int .i64 56] w fun e w' => e = .returned (.bool true) ∧ w = w' := by
 go_enter Try.func28, Try.ntmps28
 go_wp2_with (go_at_call 56; first | refine wY ?_ | refine wN ?_)
 go_ret
 exact ⟨rfl, rfl⟩
theorem fl_5 (w : World) : Calls Try.prog 28 #[.int .i64 57] w fun e w' => e = .returned (.bool true) ∧ w = w' := by
 go_enter Try.func28, Try.ntmps28
 go_wp2_with (go_at_call 56; first | refine wY ?_ | refine wN ?_)
 go_ret
 exact ⟨rfl, rfl⟩
theorem fl_6 (op : Int) (h0 : 58 ≤ op) (h1 : op ≤ 66) (w : World) : Calls Try.prog 28 #[.int .i64 op] w fun e w' => e = .returned (.bool false) ∧ w = w' := by
 go_enter Try.func28, Try.ntmps28
 go_wp2_with (go_at_call 56; first | refine wY ?_ | refine wN ?_)
 go_ret
 exact ⟨rfl, rfl⟩
theorem fl_7 (w : World) : Calls Try.prog 28 #[.int .i64 67] w fun e w' => e = .returned (.bool true) ∧ w = w' := by
 go_enter Try.func28, Try.ntmps28
 go_wp2_with (go_at_call 56; first | refine wY ?_ | refine wN ?_)
 go_ret
 exact ⟨rfl, rfl⟩
theorem fl_8 (w : World) : Calls Try.prog 28 #[.int .i64 68] w fun e w' => e = .returned (.bool true) ∧ w = w' := by
 go_enter Try.func28, Try.ntmps28
 go_wp2_with (go_at_call 56; first | refine wY ?_ | refine wN ?_)
 go_ret
 exact ⟨rfl, rfl⟩
theorem fl_9 (op : Int) (h0 : 69 ≤ op) (h1 : op ≤ 90) (w : World) : Calls Try.prog 28 #[.int .i64 op] w fun e w' => e = .returned (.bool false) ∧ w = w' := by
 go_enter Try.func28, Try.ntmps28
 go_wp2_with (go_at_call 56; first | refine wY ?_ | refine wN ?_)
 go_ret
 exact ⟨rfl, rfl⟩
theorem fl_10 (op : Int) (h0 : 91 ≤ op) (h1 : op ≤ 102) (w : World) : Calls Try.prog 28 #[.int .i64 op] w fun e w' => e = .returned (.bool true) ∧ w = w' := by
 go_enter Try.func28, Try.ntmps28
 go_wp2_with (go_at_call 56; first | refine wY ?_ | refine wN ?_)
 go_ret
 exact ⟨rfl, rfl⟩
theorem fl_11 (op : Int) (h0 : 103 ≤ op) (h1 : op ≤ 138) (w : World) : Calls Try.prog 28 #[.int .i64 op] w fun e w' => e = .returned (.bool false) ∧ w = w' := by
 go_enter Try.func28, Try.ntmps28
 go_wp2_with (go_at_call 56; first | refine wY ?_ | refine wN ?_)
 go_ret
 exact ⟨rfl, rfl⟩
theorem fl_12 (op : Int) (h0 : 139 ≤ op) (h1 : op ≤ 166) (w : World) : Calls Try.prog 28 #[.int .i64 op] w fun e w' => e = .returned (.bool true) ∧ w = w' := by
 go_enter Try.func28, Try.ntmps28
 go_wp2_with (go_at_call 56; first | refine wY ?_ | refine wN ?_)
 go_ret
 exact ⟨rfl, rfl⟩
theorem fl_13 (w : World) : Calls Try.prog 28 #[.int .i64 167] w fun e w' => e = .returned (.bool false) ∧ w = w' := by
 go_enter Try.func28, Try.ntmps28
 go_wp2_with (go_at_call 56; first | refine wY ?_ | refine wN ?_)
 go_ret
 exact ⟨rfl, rfl⟩
theorem fl_14 (op : Int) (h0 : 168 ≤ op) (h1 : op ≤ 171) (w : World) : Calls Try.prog 28 #[.int .i64 op] w fun e w' => e = .returned (.bool true) ∧ w = w' := by
 go_enter Try.func28, Try.ntmps28
 go_wp2_with (go_at_call 56; first | refine wY ?_ | refine wN ?_)
 go_ret
 exact ⟨rfl, rfl⟩
theorem fl_15 (op : Int) (h0 : 172 ≤ op) (h1 : op ≤ 173) (w : World) : Calls Try.prog 28 #[.int .i64 op] w fun e w' => e = .returned (.bool false) ∧ w = w' := by
 go_enter Try.func28, Try.ntmps28
 go_wp2_with (go_at_call 56; first | refine wY ?_ | refine wN ?_)
 go_ret
 exact ⟨rfl, rfl⟩
theorem fl_16 (op : Int) (h0 : 174 ≤ op) (h1 : op ≤ 191) (w : World) : Calls Try.prog 28 #[.int .i64 op] w fun e w' => e = .returned (.bool true) ∧ w = w' := by
 go_enter Try.func28, Try.ntmps28
 go_wp2_with (go_at_call 56; first | refine wY ?_ | refine wN ?_)
 go_ret
 exact ⟨rfl, rfl⟩
theorem fl_17 (op : Int) (h0 : 192 ≤ op) (h1 : op ≤ 64767) (w : World) : Calls Try.prog 28 #[.int .i64 op] w fun e w' => e = .returned (.bool false) ∧ w = w' := by
 go_enter Try.func28, Try.ntmps28
 go_wp2_with (go_at_call 56; first | refine wY ?_ | refine wN ?_)
 go_ret
 exact ⟨rfl, rfl⟩
theorem fl_18 (op : Int) (h0 : 64768 ≤ op) (h1 : op ≤ 64786) (w : World) : Calls Try.prog 28 #[.int .i64 op] w fun e w' => e = .returned (.bool false) ∧ w = w' := by
 go_enter Try.func28, Try.ntmps28
 go_wp2_with (go_at_call 56; first | refine wY ?_ | refine wN ?_)
 go_ret
 exact ⟨rfl, rfl⟩
theorem fl_19 (w : World) : Calls Try.prog 28 #[.int .i64 64787] w fun e w' => e = .returned (.bool true) ∧ w = w' := by
 go_enter Try.func28, Try.ntmps28
 go_wp2_with (go_at_call 56; first | refine wY ?_ | refine wN ?_)
 go_ret
 exact ⟨rfl, rfl⟩
theorem fl_20 (w : World) : Calls Try.prog 28 #[.int .i64 64788] w fun e w' => e = .returned (.bool true) ∧ w = w' := by
 go_enter Try.func28, Try.ntmps28
 go_wp2_with (go_at_call 56; first | refine wY ?_ | refine wN ?_)
 go_ret
 exact ⟨rfl, rfl⟩
theorem fl_21 (op : Int) (h0 : 64789 ≤ op) (h1 : op ≤ 64798) (w : World) : Calls Try.prog 28 #[.int .i64 op] w fun e w' => e = .returned (.bool false) ∧ w = w' := by
 go_enter Try.func28, Try.ntmps28
 go_wp2_with (go_at_call 56; first | refine wY ?_ | refine wN ?_)
 go_ret
 exact ⟨rfl, rfl⟩
theorem fl_22 (op : Int) (h0 : 64799 ≤ op) (h1 : op ≤ 64802) (w : World) : Calls Try.prog 28 #[.int .i64 op] w fun e w' => e = .returned (.bool true) ∧ w = w' := by
 go_enter Try.func28, Try.ntmps28
 go_wp2_with (go_at_call 56; first | refine wY ?_ | refine wN ?_)
 go_ret
 exact ⟨rfl, rfl⟩
theorem fl_23 (op : Int) (h0 : 64803 ≤ op) (h1 : op ≤ 64832) (w : World) : Calls Try.prog 28 #[.int .i64 op] w fun e w' => e = .returned (.bool false) ∧ w = w' := by
 go_enter Try.func28, Try.ntmps28
 go_wp2_with (go_at_call 56; first | refine wY ?_ | refine wN ?_)
 go_ret
 exact ⟨rfl, rfl⟩
theorem fl_24 (op : Int) (h0 : 64833 ≤ op) (h1 : op ≤ 64844) (w : World) : Calls Try.prog 28 #[.int .i64 op] w fun e w' => e = .returned (.bool true) ∧ w = w' := by
 go_enter Try.func28, Try.ntmps28
 go_wp2_with (go_at_call 56; first | refine wY ?_ | refine wN ?_)
 go_ret
 exact ⟨rfl, rfl⟩
theorem fl_25 (op : Int) (h0 : 64845 ≤ op) (h1 : op ≤ 64861) (w : World) : Calls Try.prog 28 #[.int .i64 op] w fun e w' => e = .returned (.bool false) ∧ w = w' := by
 go_enter Try.func28, Try.ntmps28
 go_wp2_with (go_at_call 56; first | refine wY ?_ | refine wN ?_)
 go_ret
 exact ⟨rfl, rfl⟩
theorem fl_26 (w : World) : Calls Try.prog 28 #[.int .i64 64862] w fun e w' => e = .returned (.bool true) ∧ w = w' := by
 go_enter Try.func28, Try.ntmps28
 go_wp2_with (go_at_call 56; first | refine wY ?_ | refine wN ?_)
 go_ret
 exact ⟨rfl, rfl⟩
theorem fl_27 (w : World) : Calls Try.prog 28 #[.int .i64 64863] w fun e w' => e = .returned (.bool true) ∧ w = w' := by
 go_enter Try.func28, Try.ntmps28
 go_wp2_with (go_at_call 56; first | refine wY ?_ | refine wN ?_)
 go_ret
 exact ⟨rfl, rfl⟩
theorem fl_28 (op : Int) (h0 : 64864 ≤ op) (h1 : op ≤ 64870) (w : World) : Calls Try.prog 28 #[.int .i64 op] w fun e w' => e = .returned (.bool false) ∧ w = w' := by
 go_enter Try.func28, Try.ntmps28
 go_wp2_with (go_at_call 56; first | refine wY ?_ | refine wN ?_)
 go_ret
 exact ⟨rfl, rfl⟩
theorem fl_29 (op : Int) (h0 : 64871 ≤ op) (h1 : op ≤ 64874) (w : World) : Calls Try.prog 28 #[.int .i64 op] w fun e w' => e = .returned (.bool true) ∧ w = w' := by
 go_enter Try.func28, Try.ntmps28
 go_wp2_with (go_at_call 56; first | refine wY ?_ | refine wN ?_)
 go_ret
 exact ⟨rfl, rfl⟩
theorem fl_30 (op : Int) (h0 : 64875 ≤ op) (h1 : op ≤ 64883) (w : World) : Calls Try.prog 28 #[.int .i64 op] w fun e w' => e = .returned (.bool false) ∧ w = w' := by
 go_enter Try.func28, Try.ntmps28
 go_wp2_with (go_at_call 56; first | refine wY ?_ | refine wN ?_)
 go_ret
 exact ⟨rfl, rfl⟩
theorem fl_31 (w : World) : Calls Try.prog 28 #[.int .i64 64884] w fun e w' => e = .returned (.bool true) ∧ w = w' := by
 go_enter Try.func28, Try.ntmps28
 go_wp2_with (go_at_call 56; first | refine wY ?_ | refine wN ?_)
 go_ret
 exact ⟨rfl, rfl⟩
theorem fl_32 (w : World) : Calls Try.prog 28 #[.int .i64 64885] w fun e w' => e = .returned (.bool true) ∧ w = w' := by
 go_enter Try.func28, Try.ntmps28
 go_wp2_with (go_at_call 56; first | refine wY ?_ | refine wN ?_)
 go_ret
 exact ⟨rfl, rfl⟩
theorem fl_33 (op : Int) (h0 : 64886 ≤ op) (h1 : op ≤ 64889) (w : World) : Calls Try.prog 28 #[.int .i64 op] w fun e w' => e = .returned (.bool false) ∧ w = w' := by
 go_enter Try.func28, Try.ntmps28
 go_wp2_with (go_at_call 56; first | refine wY ?_ | refine wN ?_)
 go_ret
 exact ⟨rfl, rfl⟩
theorem fl_34 (w : World) : Calls Try.prog 28 #[.int .i64 64890] w fun e w' => e = .returned (.bool true) ∧ w = w' := by
 go_enter Try.func28, Try.ntmps28
 go_wp2_with (go_at_call 56; first | refine wY ?_ | refine wN ?_)
 go_ret
 exact ⟨rfl, rfl⟩
theorem fl_35 (op : Int) (h0 : 64891 ≤ op) (h1 : op ≤ 64915) (w : World) : Calls Try.prog 28 #[.int .i64 op] w fun e w' => e = .returned (.bool false) ∧ w = w' := by
 go_enter Try.func28, Try.ntmps28
 go_wp2_with (go_at_call 56; first | refine wY ?_ | refine wN ?_)
 go_ret
 exact ⟨rfl, rfl⟩
theorem fl_36 (w : World) : Calls Try.prog 28 #[.int .i64 64916] w fun e w' => e = .returned (.bool true) ∧ w = w' := by
 go_enter Try.func28, Try.ntmps28
 go_wp2_with (go_at_call 56; first | refine wY ?_ | refine wN ?_)
 go_ret
 exact ⟨rfl, rfl⟩
theorem fl_37 (op : Int) (h0 : 64917 ≤ op) (h1 : op ≤ 64991) (w : World) : Calls Try.prog 28 #[.int .i64 op] w fun e w' => e = .returned (.bool false) ∧ w = w' := by
 go_enter Try.func28, Try.ntmps28
 go_wp2_with (go_at_call 56; first | refine wY ?_ | refine wN ?_)
 go_ret
 exact ⟨rfl, rfl⟩
theorem fl_38 (op : Int) (h0 : 64992 ≤ op) (h1 : op ≤ 65023) (w : World) : Calls Try.prog 28 #[.int .i64 op] w fun e w' => e = .returned (.bool true) ∧ w = w' := by
 go_enter Try.func28, Try.ntmps28
 go_wp2_with (go_at_call 56; first | refine wY ?_ | refine wN ?_)
 go_ret
 exact ⟨rfl, rfl⟩
theorem fl_39 (op : Int) (h0 : 65024 ≤ op) (h1 : op ≤ 9223372036854775807) (w : World) : Calls Try.prog 28 #[.int .i64 op] w fun e w' => e = .returned (.bool false) ∧ w = w' := by
 go_enter Try.func28, Try.ntmps28
 go_wp2_with (go_at_call 56; first | refine wY ?_ | refine wN ?_)
 go_ret
 exact ⟨rfl, rfl⟩
theorem float_t (op : Int) (h : floatB op = true) (w : World) (C : Calls Try.prog 28 #[.int .i64 op] w fun e w' => e = .returned (.bool true) ∧ w = w') : Calls Try.prog 28 #[.int .i64 op] w fun e w' => e = .returned (.bool (floatB op)) ∧ w = w' := by rw [h]; exact C
theorem float_f (op : Int) (h : floatB op = false) (w : World) (C : Calls Try.prog 28 #[.int .i64 op] w fun e w' => e = .returned (.bool false) ∧ w = w') : Calls Try.prog 28 #[.int .i64 op] w fun e w' => e = .returned (.bool (floatB op)) ∧ w = w' := by rw [h]; exact C
set_option maxHeartbeats 4000000 in
theorem float_any (op : Int) (hop : op ≤ 9223372036854775807) (w : World) : Calls Try.prog 28 #[.int .i64 op] w fun e w' => e = .returned (.bool (floatB op)) ∧ w = w' := by
 by_cases h0_40 : op < 64788
 ·by_cases h0_20 : op < 91
  ·by_cases h0_10 : op < 57
   ·by_cases h0_5 : op < 43
    ·by_cases h0_2 : op < 42
     ·exact float_f _ (by unfold floatB; exact decide_eq_false (by unfold Flt; omega)) w (fl_0 op (by omega) w)
     ·obtain rfl : op = 42 := by omega
      exact float_t _ (by decide) w (fl_1 w)
    ·by_cases h2_5 : op < 44
     ·obtain rfl : op = 43 := by omega
      exact float_t _ (by decide) w (fl_2 w)
     ·by_cases h3_5 : op < 56
      ·exact float_f _ (by unfold floatB; exact decide_eq_false (by unfold Flt; omega)) w (fl_3 op (by omega) (by omega) w)
      ·obtain rfl : op = 56 := by omega
       exact float_t _ (by decide) w (fl_4 w)
   ·by_cases h5_10 : op < 67
    ·by_cases h5_7 : op < 58
     ·obtain rfl : op = 57 := by omega
      exact float_t _ (by decide) w (fl_5 w)
     ·exact float_f _ (by unfold floatB; exact decide_eq_false (by unfold Flt; omega)) w (fl_6 op (by omega) (by omega) w)
    ·by_cases h7_10 : op < 68
     ·obtain rfl : op = 67 := by omega
      exact float_t _ (by decide) w (fl_7 w)
     ·by_cases h8_10 : op < 69
      ·obtain rfl : op = 68 := by omega
       exact float_t _ (by decide) w (fl_8 w)
      ·exact float_f _ (by unfold floatB; exact decide_eq_false (by unfold Flt; omega)) w (fl_9 op (by omega) (by omega) w)
  ·by_cases h10_20 : op < 172
   ·by_cases h10_15 : op < 139
    ·by_cases h10_12 : op < 103
     ·exact float_t _ (by unfold floatB; exact decide_eq_true (by unfold Flt; omega)) w (fl_10 op (by omega) (by omega) w)
     ·exact float_f _ (by unfold floatB; exact decide_eq_false (by unfold Flt; omega)) w (fl_11 op (by omega) (by omega) w)
    ·by_cases h12_15 : op < 167
     ·exact float_t _ (by unfold floatB; exact decide_eq_true (by unfold Flt; omega)) w (fl_12 op (by omega) (by omega) w)
     ·by_cases h13_15 : op < 168
      ·obtain rfl : op = 167 := by omega
       exact float_f _ (by decide) w (fl_13 w)
      ·exact float_t _ (by unfold floatB; exact decide_eq_true (by unfold Flt; omega)) w (fl_14 op (by omega) (by omega) w)
   ·by_cases h15_20 : op < 192
    ·by_cases h15_17 : op < 174
     ·exact float_f _ (by unfold floatB; exact decide_eq_false (by unfold Flt; omega)) w (fl_15 op (by omega) (by omega) w)
     ·exact float_t _ (by unfold floatB; exact decide_eq_true (by unfold Flt; omega)) w (fl_16 op (by omega) (by omega) w)
    ·by_cases h17_20 : op < 64768
     ·exact float_f _ (by unfold floatB; exact decide_eq_false (by unfold Flt; omega)) w (fl_17 op (by omega) (by omega) w)
     ·by_cases h18_20 : op < 64787
      ·exact float_f _ (by unfold floatB; exact decide_eq_false (by unfold Flt; omega)) w (fl_18 op (by omega) (by omega) w)
      ·obtain rfl : op = 64787 := by omega
       exact float_t _ (by decide) w (fl_19 w)
 ·by_cases h20_40 : op < 64875
  ·by_cases h20_30 : op < 64845
   ·by_cases h20_25 : op < 64799
    ·by_cases h20_22 : op < 64789
     ·obtain rfl : op = 64788 := by omega
      exact float_t _ (by decide) w (fl_20 w)
     ·exact float_f _ (by unfold floatB; exact decide_eq_false (by unfold Flt; omega)) w (fl_21 op (by omega) (by omega) w)
    ·by_cases h22_25 : op < 64803
     ·exact float_t _ (by unfold floatB; exact decide_eq_true (by unfold Flt; omega)) w (fl_22 op (by omega) (by omega) w)
     ·by_cases h23_25 : op < 64833
      ·exact float_f _ (by unfold floatB; exact decide_eq_false (by unfold Flt; omega)) w (fl_23 op (by omega) (by omega) w)
      ·exact float_t _ (by unfold floatB; exact decide_eq_true (by unfold Flt; omega)) w (fl_24 op (by omega) (by omega) w)
   ·by_cases h25_30 : op < 64863
    ·by_cases h25_27 : op < 64862
     ·exact float_f _ (by unfold floatB; exact decide_eq_false (by unfold Flt; omega)) w (fl_25 op (by omega) (by omega) w)
     ·obtain rfl : op = 64862 := by omega
      exact float_t _ (by decide) w (fl_26 w)
    ·by_cases h27_30 : op < 64864
     ·obtain rfl : op = 64863 := by omega
      exact float_t _ (by decide) w (fl_27 w)
     ·by_cases h28_30 : op < 64871
      ·exact float_f _ (by unfold floatB; exact decide_eq_false (by unfold Flt; omega)) w (fl_28 op (by omega) (by omega) w)
      ·exact float_t _ (by unfold floatB; exact decide_eq_true (by unfold Flt; omega)) w (fl_29 op (by omega) (by omega) w)
  ·by_cases h30_40 : op < 64891
   ·by_cases h30_35 : op < 64885
    ·by_cases h30_32 : op < 64884
     ·exact float_f _ (by unfold floatB; exact decide_eq_false (by unfold Flt; omega)) w (fl_30 op (by omega) (by omega) w)
     ·obtain rfl : op = 64884 := by omega
      exact float_t _ (by decide) w (fl_31 w)
    ·by_cases h32_35 : op < 64886
     ·obtain rfl : op = 64885 := by omega
      exact float_t _ (by decide) w (fl_32 w)
     ·by_cases h33_35 : op < 64890
      ·exact float_f _ (by unfold floatB; exact decide_eq_false (by unfold Flt; omega)) w (fl_33 op (by omega) (by omega) w)
      ·obtain rfl : op = 64890 := by omega
       exact float_t _ (by decide) w (fl_34 w)
   ·by_cases h35_40 : op < 64917
    ·by_cases h35_37 : op < 64916
     ·exact float_f _ (by unfold floatB; exact decide_eq_false (by unfold Flt; omega)) w (fl_35 op (by omega) (by omega) w)
     ·obtain rfl : op = 64916 := by omega
      exact float_t _ (by decide) w (fl_36 w)
    ·by_cases h37_40 : op < 64992
     ·exact float_f _ (by unfold floatB; exact decide_eq_false (by unfold Flt; omega)) w (fl_37 op (by omega) (by omega) w)
     ·by_cases h38_40 : op < 65024
      ·exact float_t _ (by unfold floatB; exact decide_eq_true (by unfold Flt; omega)) w (fl_38 op (by omega) (by omega) w)
      ·exact float_f _ (by unfold floatB; exact decide_eq_false (by unfold Flt; omega)) w (fl_39 op (by omega) (by omega) w)
def arI (op : Int) : Int := if op = 69 ∨ op = 80 ∨ op = 103 ∨ op = 104 ∨ op = 105 ∨ op = 121 ∨ op = 122 ∨ op = 123 ∨ op = 167 ∨ op = 172 ∨ op = 173 ∨ op = 192 ∨ op = 193 ∨ op = 194 ∨ op = 195 ∨ op = 196 then 1 else if (70 ≤ op ∧ op ≤ 79) ∨ (81 ≤ op ∧ op ≤ 90) ∨ (106 ≤ op ∧ op ≤ 120) ∨ (124 ≤ op ∧ op ≤ 138) then 2 else 0
end Ins
end Go.Proofs.Ytebkabidojipoaa
/- InsAll -/
namespace Go.Proofs.Ytebkabidojipoaa
open Go.RowKit
namespace Ins
def OFY (op f l : Int) (s : ByteArray) : Prop := ∀ w, Mx w → Calls Try.prog 20 #[.int .i64 op] w (OFS f l (cutP s) (cutA s) (cutB s) w)
def OFN (op : Int) : Prop := ∀ w, Calls Try.prog 20 #[.int .i64 op] w fun e w' => e = .returned (.tuple #[.agg (inf 0 0 false (.slice none 0 0) (.slice none 0 0)), .bool false]) ∧ Gr w w'
def lets (s : ByteArray) : List Int := s.data.toList.map code
def apartB (f l : Int) (s : ByteArray) : Bool :=
 decide (1 ≤ f) && decide (f ≤ 14) && decide ((cutA s).size ≤ 3) && decide ((cutB s).size ≤ 1) && (cutP s || decide ((cutA s).size + (cutB s).size = 0)) &&
 (if f = 7 ∨ f = 8 then cutP s && decide (0 ≤ l) && decide (l ≤ 4) && decide (1 ≤ (cutA s).size) && decide ((lets (cutA s))[0]? = some 127)
  else if f = 13 then cutP s && decide ((lets (cutA s))[0]? = some 123) && decide (1 ≤ (cutA s).size) && (decide (l = 16) || decide (l = 8) || decide (l = 4) || decide (l = 2)) else decide (l = 0))
def numB (low : Bool) (f n : Int) (s : ByteArray) : Bool :=
 if (cutP s && low && decide (f = 1) && decide (0 < (cutA s).size)) then decide (0 < n) && decide (((cutA s).size : Int) = n) && decide ((cutB s).size = 1) else decide (n = 0)
structure Good (op f l : Int) (s : ByteArray) : Prop where
 fit : s.size < 1000 ∧ (cutA s).size ≤ 1000 ∧ (cutB s).size ≤ 1000
 apart : apartB f l s = true
 num : numB (decide (op < 197)) f (arI op) s = true
 float : floatB op = false
theorem g0 : ((⟨#[]⟩ : ByteArray).size < 1000 ∧ (cutA ⟨#[]⟩).size ≤ 1000 ∧ (cutB ⟨#[]⟩).size ≤ 1000) ∧ apartB 1 0 ⟨#[]⟩ = true := ⟨by decide +kernel, by decide +kernel⟩
theorem g1 : ((⟨#[58]⟩ : ByteArray).size < 1000 ∧ (cutA ⟨#[58]⟩).size ≤ 1000 ∧ (cutB ⟨#[58]⟩).size ≤ 1000) ∧ apartB 1 0 ⟨#[58]⟩ = true := ⟨by decide +kernel, by decide +kernel⟩
theorem g2 : ((⟨#[]⟩ : ByteArray).size < 1000 ∧ (cutA ⟨#[]⟩).size ≤ 1000 ∧ (cutB ⟨#[]⟩).size ≤ 1000) ∧ apartB 2 0 ⟨#[]⟩ = true := ⟨by decide +kernel, by decide +kernel⟩
theorem g3 : ((⟨#[]⟩ : ByteArray).size < 1000 ∧ (cutA ⟨#[]⟩).size ≤ 1000 ∧ (cutB ⟨#[]⟩).size ≤ 1000) ∧ apartB 3 0 ⟨#[]⟩ = true := ⟨by decide +kernel, by decide +kernel⟩
theorem g4 : ((⟨#[]⟩ : ByteArray).size < 1000 ∧ (cutA ⟨#[]⟩).size ≤ 1000 ∧ (cutB ⟨#[]⟩).size ≤ 1000) ∧ apartB 4 0 ⟨#[]⟩ = true := ⟨by decide +kernel, by decide +kernel⟩
theorem g5 : ((⟨#[]⟩ : ByteArray).size < 1000 ∧ (cutA ⟨#[]⟩).size ≤ 1000 ∧ (cutB ⟨#[]⟩).size ≤ 1000) ∧ apartB 5 0 ⟨#[]⟩ = true := ⟨by decide +kernel, by decide +kernel⟩
theorem g6 : ((⟨#[]⟩ : ByteArray).size < 1000 ∧ (cutA ⟨#[]⟩).size ≤ 1000 ∧ (cutB ⟨#[]⟩).size ≤ 1000) ∧ apartB 6 0 ⟨#[]⟩ = true := ⟨by decide +kernel, by decide +kernel⟩
theorem g7 : ((⟨#[105, 58, 105]⟩ : ByteArray).size < 1000 ∧ (cutA ⟨#[105, 58, 105]⟩).size ≤ 1000 ∧ (cutB ⟨#[105, 58, 105]⟩).size ≤ 1000) ∧ apartB 7 2 ⟨#[105, 58, 105]⟩ = true := ⟨by decide +kernel, by decide +kernel⟩
theorem g8 : ((⟨#[105, 58, 108]⟩ : ByteArray).size < 1000 ∧ (cutA ⟨#[105, 58, 108]⟩).size ≤ 1000 ∧ (cutB ⟨#[105, 58, 108]⟩).size ≤ 1000) ∧ apartB 7 3 ⟨#[105, 58, 108]⟩ = true := ⟨by decide +kernel, by decide +kernel⟩
theorem g9 : ((⟨#[105, 58, 105]⟩ : ByteArray).size < 1000 ∧ (cutA ⟨#[105, 58, 105]⟩).size ≤ 1000 ∧ (cutB ⟨#[105, 58, 105]⟩).size ≤ 1000) ∧ apartB 7 0 ⟨#[105, 58, 105]⟩ = true := ⟨by decide +kernel, by decide +kernel⟩
theorem g10 : ((⟨#[105, 58, 105]⟩ : ByteArray).size < 1000 ∧ (cutA ⟨#[105, 58, 105]⟩).size ≤ 1000 ∧ (cutB ⟨#[105, 58, 105]⟩).size ≤ 1000) ∧ apartB 7 1 ⟨#[105, 58, 105]⟩ = true := ⟨by decide +kernel, by decide +kernel⟩
theorem g11 : ((⟨#[105, 58, 108]⟩ : ByteArray).size < 1000 ∧ (cutA ⟨#[105, 58, 108]⟩).size ≤ 1000 ∧ (cutB ⟨#[105, 58, 108]⟩).size ≤ 1000) ∧ apartB 7 0 ⟨#[105, 58, 108]⟩ = true := ⟨by decide +kernel, by decide +kernel⟩
theorem g12 : ((⟨#[105, 58, 108]⟩ : ByteArray).size < 1000 ∧ (cutA ⟨#[105, 58, 108]⟩).size ≤ 1000 ∧ (cutB ⟨#[105, 58, 108]⟩).size ≤ 1000) ∧ apartB 7 1 ⟨#[105, 58, 108]⟩ = true := ⟨by decide +kernel, by decide +kernel⟩
theorem g13 : ((⟨#[105, 58, 108]⟩ : ByteArray).size < 1000 ∧ (cutA ⟨#[105, 58, 108]⟩).size ≤ 1000 ∧ (cutB ⟨#[105, 58, 108]⟩).size ≤ 1000) ∧ apartB 7 2 ⟨#[105, 58, 108]⟩ = true := ⟨by decide +kernel, by decide +kernel⟩
theorem g14 : ((⟨#[105, 105, 58]⟩ : ByteArray).size < 1000 ∧ (cutA ⟨#[105, 105, 58]⟩).size ≤ 1000 ∧ (cutB ⟨#[105, 105, 58]⟩).size ≤ 1000) ∧ apartB 7 2 ⟨#[105, 105, 58]⟩ = true := ⟨by decide +kernel, by decide +kernel⟩
theorem g15 : ((⟨#[105, 108, 58]⟩ : ByteArray).size < 1000 ∧ (cutA ⟨#[105, 108, 58]⟩).size ≤ 1000 ∧ (cutB ⟨#[105, 108, 58]⟩).size ≤ 1000) ∧ apartB 7 3 ⟨#[105, 108, 58]⟩ = true := ⟨by decide +kernel, by decide +kernel⟩
theorem g16 : ((⟨#[105, 105, 58]⟩ : ByteArray).size < 1000 ∧ (cutA ⟨#[105, 105, 58]⟩).size ≤ 1000 ∧ (cutB ⟨#[105, 105, 58]⟩).size ≤ 1000) ∧ apartB 7 0 ⟨#[105, 105, 58]⟩ = true := ⟨by decide +kernel, by decide +kernel⟩
theorem g17 : ((⟨#[105, 105, 58]⟩ : ByteArray).size < 1000 ∧ (cutA ⟨#[105, 105, 58]⟩).size ≤ 1000 ∧ (cutB ⟨#[105, 105, 58]⟩).size ≤ 1000) ∧ apartB 7 1 ⟨#[105, 105, 58]⟩ = true := ⟨by decide +kernel, by decide +kernel⟩
theorem g18 : ((⟨#[105, 108, 58]⟩ : ByteArray).size < 1000 ∧ (cutA ⟨#[105, 108, 58]⟩).size ≤ 1000 ∧ (cutB ⟨#[105, 108, 58]⟩).size ≤ 1000) ∧ apartB 7 0 ⟨#[105, 108, 58]⟩ = true := ⟨by decide +kernel, by decide +kernel⟩
theorem g19 : ((⟨#[105, 108, 58]⟩ : ByteArray).size < 1000 ∧ (cutA ⟨#[105, 108, 58]⟩).size ≤ 1000 ∧ (cutB ⟨#[105, 108, 58]⟩).size ≤ 1000) ∧ apartB 7 1 ⟨#[105, 108, 58]⟩ = true := ⟨by decide +kernel, by decide +kernel⟩
theorem g20 : ((⟨#[105, 108, 58]⟩ : ByteArray).size < 1000 ∧ (cutA ⟨#[105, 108, 58]⟩).size ≤ 1000 ∧ (cutB ⟨#[105, 108, 58]⟩).size ≤ 1000) ∧ apartB 7 2 ⟨#[105, 108, 58]⟩ = true := ⟨by decide +kernel, by decide +kernel⟩
theorem g21 : ((⟨#[58, 105]⟩ : ByteArray).size < 1000 ∧ (cutA ⟨#[58, 105]⟩).size ≤ 1000 ∧ (cutB ⟨#[58, 105]⟩).size ≤ 1000) ∧ apartB 14 0 ⟨#[58, 105]⟩ = true := ⟨by decide +kernel, by decide +kernel⟩
theorem g22 : ((⟨#[105, 58, 105]⟩ : ByteArray).size < 1000 ∧ (cutA ⟨#[105, 58, 105]⟩).size ≤ 1000 ∧ (cutB ⟨#[105, 58, 105]⟩).size ≤ 1000) ∧ apartB 14 0 ⟨#[105, 58, 105]⟩ = true := ⟨by decide +kernel, by decide +kernel⟩
theorem g23 : ((⟨#[58, 105]⟩ : ByteArray).size < 1000 ∧ (cutA ⟨#[58, 105]⟩).size ≤ 1000 ∧ (cutB ⟨#[58, 105]⟩).size ≤ 1000) ∧ apartB 9 0 ⟨#[58, 105]⟩ = true := ⟨by decide +kernel, by decide +kernel⟩
theorem g24 : ((⟨#[58, 108]⟩ : ByteArray).size < 1000 ∧ (cutA ⟨#[58, 108]⟩).size ≤ 1000 ∧ (cutB ⟨#[58, 108]⟩).size ≤ 1000) ∧ apartB 10 0 ⟨#[58, 108]⟩ = true := ⟨by decide +kernel, by decide +kernel⟩
theorem g25 : ((⟨#[105, 58, 105]⟩ : ByteArray).size < 1000 ∧ (cutA ⟨#[105, 58, 105]⟩).size ≤ 1000 ∧ (cutB ⟨#[105, 58, 105]⟩).size ≤ 1000) ∧ apartB 1 0 ⟨#[105, 58, 105]⟩ = true := ⟨by decide +kernel, by decide +kernel⟩
theorem g26 : ((⟨#[105, 105, 58, 105]⟩ : ByteArray).size < 1000 ∧ (cutA ⟨#[105, 105, 58, 105]⟩).size ≤ 1000 ∧ (cutB ⟨#[105, 105, 58, 105]⟩).size ≤ 1000) ∧ apartB 1 0 ⟨#[105, 105, 58, 105]⟩ = true := ⟨by decide +kernel, by decide +kernel⟩
theorem g27 : ((⟨#[108, 58, 105]⟩ : ByteArray).size < 1000 ∧ (cutA ⟨#[108, 58, 105]⟩).size ≤ 1000 ∧ (cutB ⟨#[108, 58, 105]⟩).size ≤ 1000) ∧ apartB 1 0 ⟨#[108, 58, 105]⟩ = true := ⟨by decide +kernel, by decide +kernel⟩
theorem g28 : ((⟨#[108, 108, 58, 105]⟩ : ByteArray).size < 1000 ∧ (cutA ⟨#[108, 108, 58, 105]⟩).size ≤ 1000 ∧ (cutB ⟨#[108, 108, 58, 105]⟩).size ≤ 1000) ∧ apartB 1 0 ⟨#[108, 108, 58, 105]⟩ = true := ⟨by decide +kernel, by decide +kernel⟩
theorem g29 : ((⟨#[108, 58, 108]⟩ : ByteArray).size < 1000 ∧ (cutA ⟨#[108, 58, 108]⟩).size ≤ 1000 ∧ (cutB ⟨#[108, 58, 108]⟩).size ≤ 1000) ∧ apartB 1 0 ⟨#[108, 58, 108]⟩ = true := ⟨by decide +kernel, by decide +kernel⟩
theorem g30 : ((⟨#[108, 108, 58, 108]⟩ : ByteArray).size < 1000 ∧ (cutA ⟨#[108, 108, 58, 108]⟩).size ≤ 1000 ∧ (cutB ⟨#[108, 108, 58, 108]⟩).size ≤ 1000) ∧ apartB 1 0 ⟨#[108, 108, 58, 108]⟩ = true := ⟨by decide +kernel, by decide +kernel⟩
theorem g31 : ((⟨#[105, 58, 108]⟩ : ByteArray).size < 1000 ∧ (cutA ⟨#[105, 58, 108]⟩).size ≤ 1000 ∧ (cutB ⟨#[105, 58, 108]⟩).size ≤ 1000) ∧ apartB 1 0 ⟨#[105, 58, 108]⟩ = true := ⟨by decide +kernel, by decide +kernel⟩
theorem g32 : ((⟨#[105, 58, 118]⟩ : ByteArray).size < 1000 ∧ (cutA ⟨#[105, 58, 118]⟩).size ≤ 1000 ∧ (cutB ⟨#[105, 58, 118]⟩).size ≤ 1000) ∧ apartB 7 4 ⟨#[105, 58, 118]⟩ = true := ⟨by decide +kernel, by decide +kernel⟩
theorem g33 : ((⟨#[105, 58, 118]⟩ : ByteArray).size < 1000 ∧ (cutA ⟨#[105, 58, 118]⟩).size ≤ 1000 ∧ (cutB ⟨#[105, 58, 118]⟩).size ≤ 1000) ∧ apartB 7 3 ⟨#[105, 58, 118]⟩ = true := ⟨by decide +kernel, by decide +kernel⟩
theorem g34 : ((⟨#[105, 58, 118]⟩ : ByteArray).size < 1000 ∧ (cutA ⟨#[105, 58, 118]⟩).size ≤ 1000 ∧ (cutB ⟨#[105, 58, 118]⟩).size ≤ 1000) ∧ apartB 7 0 ⟨#[105, 58, 118]⟩ = true := ⟨by decide +kernel, by decide +kernel⟩
theorem g35 : ((⟨#[105, 58, 118]⟩ : ByteArray).size < 1000 ∧ (cutA ⟨#[105, 58, 118]⟩).size ≤ 1000 ∧ (cutB ⟨#[105, 58, 118]⟩).size ≤ 1000) ∧ apartB 7 1 ⟨#[105, 58, 118]⟩ = true := ⟨by decide +kernel, by decide +kernel⟩
theorem g36 : ((⟨#[105, 58, 118]⟩ : ByteArray).size < 1000 ∧ (cutA ⟨#[105, 58, 118]⟩).size ≤ 1000 ∧ (cutB ⟨#[105, 58, 118]⟩).size ≤ 1000) ∧ apartB 7 2 ⟨#[105, 58, 118]⟩ = true := ⟨by decide +kernel, by decide +kernel⟩
theorem g37 : ((⟨#[105, 118, 58]⟩ : ByteArray).size < 1000 ∧ (cutA ⟨#[105, 118, 58]⟩).size ≤ 1000 ∧ (cutB ⟨#[105, 118, 58]⟩).size ≤ 1000) ∧ apartB 7 4 ⟨#[105, 118, 58]⟩ = true := ⟨by decide +kernel, by decide +kernel⟩
theorem g38 : ((⟨#[58, 118]⟩ : ByteArray).size < 1000 ∧ (cutA ⟨#[58, 118]⟩).size ≤ 1000 ∧ (cutB ⟨#[58, 118]⟩).size ≤ 1000) ∧ apartB 11 0 ⟨#[58, 118]⟩ = true := ⟨by decide +kernel, by decide +kernel⟩
theorem g39 : ((⟨#[118, 118, 58, 118]⟩ : ByteArray).size < 1000 ∧ (cutA ⟨#[118, 118, 58, 118]⟩).size ≤ 1000 ∧ (cutB ⟨#[118, 118, 58, 118]⟩).size ≤ 1000) ∧ apartB 12 0 ⟨#[118, 118, 58, 118]⟩ = true := ⟨by decide +kernel, by decide +kernel⟩
theorem g40 : ((⟨#[118, 118, 58, 118]⟩ : ByteArray).size < 1000 ∧ (cutA ⟨#[118, 118, 58, 118]⟩).size ≤ 1000 ∧ (cutB ⟨#[118, 118, 58, 118]⟩).size ≤ 1000) ∧ apartB 1 0 ⟨#[118, 118, 58, 118]⟩ = true := ⟨by decide +kernel, by decide +kernel⟩
theorem g41 : ((⟨#[105, 58, 118]⟩ : ByteArray).size < 1000 ∧ (cutA ⟨#[105, 58, 118]⟩).size ≤ 1000 ∧ (cutB ⟨#[105, 58, 118]⟩).size ≤ 1000) ∧ apartB 1 0 ⟨#[105, 58, 118]⟩ = true := ⟨by decide +kernel, by decide +kernel⟩
theorem g42 : ((⟨#[108, 58, 118]⟩ : ByteArray).size < 1000 ∧ (cutA ⟨#[108, 58, 118]⟩).size ≤ 1000 ∧ (cutB ⟨#[108, 58, 118]⟩).size ≤ 1000) ∧ apartB 1 0 ⟨#[108, 58, 118]⟩ = true := ⟨by decide +kernel, by decide +kernel⟩
theorem g43 : ((⟨#[118, 58, 105]⟩ : ByteArray).size < 1000 ∧ (cutA ⟨#[118, 58, 105]⟩).size ≤ 1000 ∧ (cutB ⟨#[118, 58, 105]⟩).size ≤ 1000) ∧ apartB 13 16 ⟨#[118, 58, 105]⟩ = true := ⟨by decide +kernel, by decide +kernel⟩
theorem g44 : ((⟨#[118, 105, 58, 118]⟩ : ByteArray).size < 1000 ∧ (cutA ⟨#[118, 105, 58, 118]⟩).size ≤ 1000 ∧ (cutB ⟨#[118, 105, 58, 118]⟩).size ≤ 1000) ∧ apartB 13 16 ⟨#[118, 105, 58, 118]⟩ = true := ⟨by decide +kernel, by decide +kernel⟩
theorem g45 : ((⟨#[118, 58, 105]⟩ : ByteArray).size < 1000 ∧ (cutA ⟨#[118, 58, 105]⟩).size ≤ 1000 ∧ (cutB ⟨#[118, 58, 105]⟩).size ≤ 1000) ∧ apartB 13 8 ⟨#[118, 58, 105]⟩ = true := ⟨by decide +kernel, by decide +kernel⟩
theorem g46 : ((⟨#[118, 105, 58, 118]⟩ : ByteArray).size < 1000 ∧ (cutA ⟨#[118, 105, 58, 118]⟩).size ≤ 1000 ∧ (cutB ⟨#[118, 105, 58, 118]⟩).size ≤ 1000) ∧ apartB 13 8 ⟨#[118, 105, 58, 118]⟩ = true := ⟨by decide +kernel, by decide +kernel⟩
theorem g47 : ((⟨#[118, 58, 105]⟩ : ByteArray).size < 1000 ∧ (cutA ⟨#[118, 58, 105]⟩).size ≤ 1000 ∧ (cutB ⟨#[118, 58, 105]⟩).size ≤ 1000) ∧ apartB 13 4 ⟨#[118, 58, 105]⟩ = true := ⟨by decide +kernel, by decide +kernel⟩
theorem g48 : ((⟨#[118, 105, 58, 118]⟩ : ByteArray).size < 1000 ∧ (cutA ⟨#[118, 105, 58, 118]⟩).size ≤ 1000 ∧ (cutB ⟨#[118, 105, 58, 118]⟩).size ≤ 1000) ∧ apartB 13 4 ⟨#[118, 105, 58, 118]⟩ = true := ⟨by decide +kernel, by decide +kernel⟩
theorem g49 : ((⟨#[118, 58, 108]⟩ : ByteArray).size < 1000 ∧ (cutA ⟨#[118, 58, 108]⟩).size ≤ 1000 ∧ (cutB ⟨#[118, 58, 108]⟩).size ≤ 1000) ∧ apartB 13 2 ⟨#[118, 58, 108]⟩ = true := ⟨by decide +kernel, by decide +kernel⟩
theorem g50 : ((⟨#[118, 108, 58, 118]⟩ : ByteArray).size < 1000 ∧ (cutA ⟨#[118, 108, 58, 118]⟩).size ≤ 1000 ∧ (cutB ⟨#[118, 108, 58, 118]⟩).size ≤ 1000) ∧ apartB 13 2 ⟨#[118, 108, 58, 118]⟩ = true := ⟨by decide +kernel, by decide +kernel⟩
theorem g51 : ((⟨#[118, 58, 118]⟩ : ByteArray).size < 1000 ∧ (cutA ⟨#[118, 58, 118]⟩).size ≤ 1000 ∧ (cutB ⟨#[118, 58, 118]⟩).size ≤ 1000) ∧ apartB 1 0 ⟨#[118, 58, 118]⟩ = true := ⟨by decide +kernel, by decide +kernel⟩
theorem g52 : ((⟨#[118, 118, 118, 58, 118]⟩ : ByteArray).size < 1000 ∧ (cutA ⟨#[118, 118, 118, 58, 118]⟩).size ≤ 1000 ∧ (cutB ⟨#[118, 118, 118, 58, 118]⟩).size ≤ 1000) ∧ apartB 1 0 ⟨#[118, 118, 118, 58, 118]⟩ = true := ⟨by decide +kernel, by decide +kernel⟩
theorem g53 : ((⟨#[118, 58, 105]⟩ : ByteArray).size < 1000 ∧ (cutA ⟨#[118, 58, 105]⟩).size ≤ 1000 ∧ (cutB ⟨#[118, 58, 105]⟩).size ≤ 1000) ∧ apartB 1 0 ⟨#[118, 58, 105]⟩ = true := ⟨by decide +kernel, by decide +kernel⟩
theorem g54 : ((⟨#[105, 118, 58, 118]⟩ : ByteArray).size < 1000 ∧ (cutA ⟨#[105, 118, 58, 118]⟩).size ≤ 1000 ∧ (cutB ⟨#[105, 118, 58, 118]⟩).size ≤ 1000) ∧ apartB 8 0 ⟨#[105, 118, 58, 118]⟩ = true := ⟨by decide +kernel, by decide +kernel⟩
theorem g55 : ((⟨#[105, 118, 58, 118]⟩ : ByteArray).size < 1000 ∧ (cutA ⟨#[105, 118, 58, 118]⟩).size ≤ 1000 ∧ (cutB ⟨#[105, 118, 58, 118]⟩).size ≤ 1000) ∧ apartB 8 1 ⟨#[105, 118, 58, 118]⟩ = true := ⟨by decide +kernel, by decide +kernel⟩
theorem g56 : ((⟨#[105, 118, 58, 118]⟩ : ByteArray).size < 1000 ∧ (cutA ⟨#[105, 118, 58, 118]⟩).size ≤ 1000 ∧ (cutB ⟨#[105, 118, 58, 118]⟩).size ≤ 1000) ∧ apartB 8 2 ⟨#[105, 118, 58, 118]⟩ = true := ⟨by decide +kernel, by decide +kernel⟩
theorem g57 : ((⟨#[105, 118, 58, 118]⟩ : ByteArray).size < 1000 ∧ (cutA ⟨#[105, 118, 58, 118]⟩).size ≤ 1000 ∧ (cutB ⟨#[105, 118, 58, 118]⟩).size ≤ 1000) ∧ apartB 8 3 ⟨#[105, 118, 58, 118]⟩ = true := ⟨by decide +kernel, by decide +kernel⟩
theorem g58 : ((⟨#[105, 118, 58]⟩ : ByteArray).size < 1000 ∧ (cutA ⟨#[105, 118, 58]⟩).size ≤ 1000 ∧ (cutB ⟨#[105, 118, 58]⟩).size ≤ 1000) ∧ apartB 8 0 ⟨#[105, 118, 58]⟩ = true := ⟨by decide +kernel, by decide +kernel⟩
theorem g59 : ((⟨#[105, 118, 58]⟩ : ByteArray).size < 1000 ∧ (cutA ⟨#[105, 118, 58]⟩).size ≤ 1000 ∧ (cutB ⟨#[105, 118, 58]⟩).size ≤ 1000) ∧ apartB 8 1 ⟨#[105, 118, 58]⟩ = true := ⟨by decide +kernel, by decide +kernel⟩
theorem g60 : ((⟨#[105, 118, 58]⟩ : ByteArray).size < 1000 ∧ (cutA ⟨#[105, 118, 58]⟩).size ≤ 1000 ∧ (cutB ⟨#[105, 118, 58]⟩).size ≤ 1000) ∧ apartB 8 2 ⟨#[105, 118, 58]⟩ = true := ⟨by decide +kernel, by decide +kernel⟩
theorem g61 : ((⟨#[105, 118, 58]⟩ : ByteArray).size < 1000 ∧ (cutA ⟨#[105, 118, 58]⟩).size ≤ 1000 ∧ (cutB ⟨#[105, 118, 58]⟩).size ≤ 1000) ∧ apartB 8 3 ⟨#[105, 118, 58]⟩ = true := ⟨by decide +kernel, by decide +kernel⟩
theorem g62 : ((⟨#[118, 105, 58, 118]⟩ : ByteArray).size < 1000 ∧ (cutA ⟨#[118, 105, 58, 118]⟩).size ≤ 1000 ∧ (cutB ⟨#[118, 105, 58, 118]⟩).size ≤ 1000) ∧ apartB 1 0 ⟨#[118, 105, 58, 118]⟩ = true := ⟨by decide +kernel, by decide +kernel⟩
theorem n0 : numB true 1 0 ⟨#[]⟩ = true := by decide +kernel
theorem n1 : numB true 1 0 ⟨#[58]⟩ = true := by decide +kernel
theorem n2 : numB true 2 0 ⟨#[]⟩ = true := by decide +kernel
theorem n3 : numB true 3 0 ⟨#[]⟩ = true := by decide +kernel
theorem n4 : numB true 4 0 ⟨#[]⟩ = true := by decide +kernel
theorem n5 : numB true 5 0 ⟨#[]⟩ = true := by decide +kernel
theorem n6 : numB true 6 0 ⟨#[]⟩ = true := by decide +kernel
theorem n7 : numB true 7 0 ⟨#[105, 58, 105]⟩ = true := by decide +kernel
theorem n8 : numB true 7 0 ⟨#[105, 58, 108]⟩ = true := by decide +kernel
theorem n9 : numB true 7 0 ⟨#[105, 105, 58]⟩ = true := by decide +kernel
theorem n10 : numB true 7 0 ⟨#[105, 108, 58]⟩ = true := by decide +kernel
theorem n11 : numB true 14 0 ⟨#[58, 105]⟩ = true := by decide +kernel
theorem n12 : numB true 14 0 ⟨#[105, 58, 105]⟩ = true := by decide +kernel
theorem n13 : numB true 9 0 ⟨#[58, 105]⟩ = true := by decide +kernel
theorem n14 : numB true 10 0 ⟨#[58, 108]⟩ = true := by decide +kernel
theorem n15 : numB true 1 1 ⟨#[105, 58, 105]⟩ = true := by decide +kernel
theorem n16 : numB true 1 2 ⟨#[105, 105, 58, 105]⟩ = true := by decide +kernel
theorem n17 : numB true 1 1 ⟨#[108, 58, 105]⟩ = true := by decide +kernel
theorem n18 : numB true 1 2 ⟨#[108, 108, 58, 105]⟩ = true := by decide +kernel
theorem n19 : numB true 1 1 ⟨#[108, 58, 108]⟩ = true := by decide +kernel
theorem n20 : numB true 1 2 ⟨#[108, 108, 58, 108]⟩ = true := by decide +kernel
theorem n21 : numB true 1 1 ⟨#[105, 58, 108]⟩ = true := by decide +kernel
theorem n22 : numB false 7 0 ⟨#[105, 58, 118]⟩ = true := by decide +kernel
theorem n23 : numB false 7 0 ⟨#[105, 118, 58]⟩ = true := by decide +kernel
theorem n24 : numB false 11 0 ⟨#[58, 118]⟩ = true := by decide +kernel
theorem n25 : numB false 12 0 ⟨#[118, 118, 58, 118]⟩ = true := by decide +kernel
theorem n26 : numB false 1 0 ⟨#[118, 118, 58, 118]⟩ = true := by decide +kernel
theorem n27 : numB false 1 0 ⟨#[105, 58, 118]⟩ = true := by decide +kernel
theorem n28 : numB false 1 0 ⟨#[108, 58, 118]⟩ = true := by decide +kernel
theorem n29 : numB false 13 0 ⟨#[118, 58, 105]⟩ = true := by decide +kernel
theorem n30 : numB false 13 0 ⟨#[118, 105, 58, 118]⟩ = true := by decide +kernel
theorem n31 : numB false 13 0 ⟨#[118, 58, 108]⟩ = true := by decide +kernel
theorem n32 : numB false 13 0 ⟨#[118, 108, 58, 118]⟩ = true := by decide +kernel
theorem n33 : numB false 1 0 ⟨#[118, 58, 118]⟩ = true := by decide +kernel
theorem n34 : numB false 1 0 ⟨#[118, 118, 118, 58, 118]⟩ = true := by decide +kernel
theorem n35 : numB false 1 0 ⟨#[118, 58, 105]⟩ = true := by decide +kernel
theorem n36 : numB false 8 0 ⟨#[105, 118, 58, 118]⟩ = true := by decide +kernel
theorem n37 : numB false 8 0 ⟨#[105, 118, 58]⟩ = true := by decide +kernel
theorem n38 : numB false 1 0 ⟨#[118, 105, 58, 118]⟩ = true := by decide +kernel
end Ins
end Go.Proofs.Ytebkabidojipoaa
/- InsLaw -/
namespace Go.Proofs.Ytebkabidojipoaa
open Go.RowKit
namespace Ins
def Lst (w : World) (x : Option Addr) (s : ByteArray) : Prop := s.size = 0 ∨ ∃ b, x = some ⟨b, 0, none⟩ ∧ ∀ j (h : j < s.size), w.cell? ⟨b, j, none⟩ = some (.int .i64 (code s[j]))
theorem codes_get (s : ByteArray) (j : Nat) (h : j < s.size) : (codes s s.size)[j]? = some (.int .i64 (code s[j])) := by
 unfold codes
 rw [List.getElem?_map, List.getElem?_take, if_pos h]
 have : s.data.toList[j]? = some s[j] := by
  rw [Array.getElem?_toList]
  exact Array.getElem?_eq_getElem (by simpa using h)
 rw [this]; rfl
theorem lst_of_owns {w : World} {base : Nat} {x : Option Addr} {c : Nat} {s : ByteArray} (h : w.ownsRow base 3 1 (.slice x s.size c) s.size (codes s s.size)) : Lst w x s := by
 rcases h.2 with ⟨h1, h2⟩ | ⟨g, cap, cur, h1, hb, hh, hn, hcap, hsz, htk⟩
 ·exact .inl h2
 ·cases h1
  refine .inr ⟨g, rfl, fun j hj => ?_⟩
  rw [cell_of_row _ _ j _ _ _ hh]
  have := codes_get s j hj
  rw [← htk, Nat.mul_one, List.getElem?_take, if_pos hj] at this
  simpa using this
theorem ofy_lit {op f l : Int} {s : ByteArray} (h : OFY op f l s) (w : World) (hm : Mx w) : Calls Try.prog 20 #[.int .i64 op] w fun e w' =>
  ∃ xi ci xo co, e = .returned (.tuple #[.agg #[.int .i64 f, .int .i64 l, .bool (cutP s), .slice xi (cutA s).size ci, .slice xo (cutB s).size co], .bool true]) ∧ Gr w w' ∧ Lst w' xi (cutA s) ∧ Lst w' xo (cutB s) :=
 (h w hm).mono fun e w' ⟨vi, vo, h1, h2, h3, h4⟩ => by
  obtain ⟨xi, ci, rfl⟩ := owns_slice h3
  obtain ⟨xo, co, rfl⟩ := owns_slice h4
  exact ⟨xi, ci, xo, co, h1, h2, lst_of_owns h3, lst_of_owns h4⟩
end Ins
end Go.Proofs.Ytebkabidojipoaa
/- InsAp -/
namespace Go.Proofs.Ytebkabidojipoaa
open Go.RowKit
namespace Ins
inductive Shape : Int → Int → Bool → Nat → Nat → (Nat → Int) → Prop
 | mem (f l : Int) (nA nB : Nat) (zs : Nat → Int) (h : f = 7 ∨ f = 8) (hl : 0 ≤ l ∧ l ≤ 4) (hA : 1 ≤ nA) (hz : zs 0 = 127) : Shape f l true nA nB zs
 | lane (l : Int) (nA nB : Nat) (zs : Nat → Int) (hl : l = 16 ∨ l = 8 ∨ l = 4 ∨ l = 2) (hA : 1 ≤ nA) (hz : zs 0 = 123) : Shape 13 l true nA nB zs
 | plain (f : Int) (nA nB : Nat) (zs : Nat → Int) (h : 1 ≤ f ∧ f ≤ 14) (h7 : f ≠ 7) (h8 : f ≠ 8) (h13 : f ≠ 13) : Shape f 0 true nA nB zs
 | bare (f : Int) (zs : Nat → Int) (h : 1 ≤ f ∧ f ≤ 14) (h7 : f ≠ 7) (h8 : f ≠ 8) (h13 : f ≠ 13) : Shape f 0 false 0 0 zs
end Ins
end Go.Proofs.Ytebkabidojipoaa
/- InsR1 -/
namespace Go.Proofs.Ytebkabidojipoaa
open Go.RowKit
namespace Ins
def dig (c : UInt8) : Int := if 97 ≤ c.toNat then (c.toNat : Int) - 87 else ((c.toNat : Int) - 48) % 256
def numN (s : ByteArray) (b : Int) : Nat → Int
 | 0 => 0
 | k + 1 => numN s b k * b + (if h : k < s.size then dig s[k] else 0)
theorem dig_bd (c : UInt8) : 0 ≤ dig c ∧ dig c ≤ 255 := by
 have := c.toNat_lt
 unfold dig; split <;> omega
theorem numN_bd (s : ByteArray) (b : Int) (hb : b = 10 ∨ b = 16) : ∀ k, 0 ≤ numN s b k ∧ numN s b k ≤ 255 * 17 ^ k
 | 0 => by simp [numN]
 | k + 1 => by
  have ih := numN_bd s b hb k
  have hd : 0 ≤ (if h : k < s.size then dig s[k] else 0) ∧ (if h : k < s.size then dig s[k] else 0) ≤ 255 := by
   split
   ·exact dig_bd _
   ·omega
  have hp : (1 : Int) ≤ 17 ^ k := Int.pow_pos (by decide)
  simp only [numN]
  rw [Int.pow_succ]
  rcases hb with rfl | rfl <;> omega
theorem pow17 (k : Nat) (h : k ≤ 6) : (17 : Int) ^ k ≤ 24137569 := by
 have : ∀ i : Fin 7, (17 : Int) ^ i.val ≤ 24137569 := by decide
 exact this ⟨k, by omega⟩
set_option maxHeartbeats 2000000 in
theorem number_any (s : ByteArray) (b : Int) (hb : b = 10 ∨ b = 16) (hs : s.size ≤ 6) (w : World) :
  Calls Try.prog 35 #[.string s, .int .i64 b] w fun e w' => e = .returned (.int .i64 (numN s b s.size)) ∧ w = w' := by
 have HB := Lib.hid (numN_bd s b hb)
 have hbb : 0 ≤ b ∧ b ≤ 16 := by omega
 clear hb
 go_enter Try.func35, Try.ntmps35
 go_wp2_with fail
 go_loop [6, 5] (fun i nv => ∃ k : Nat, k ≤ s.size ∧ i = .int .i64 k ∧ nv = .int .i64 (numN s b k)) (fun i _ => s.size - (intOf i).toNat)
 case atStart => exact ⟨0, by omega, rfl, rfl⟩
 case round =>
  obtain ⟨k, hk, rfl, rfl⟩ := hrel
  have hN := HB.out k
  have hp := pow17 k (by omega)
  by_cases hlt : k < s.size
  ·have hs' : numN s b (k + 1) = numN s b k * b + dig s[k] := by simp only [numN]; rw [dif_pos hlt]
   have hx : 0 ≤ numN s b k ∧ numN s b k ≤ 10000000000 := by omega
   have hm : 0 ≤ numN s b k * b ∧ numN s b k * b ≤ 160000000000 := by
    have h1 := Int.mul_le_mul hx.2 hbb.2 hbb.1 (by decide)
    exact ⟨Int.mul_nonneg hx.1 hbb.1, by omega⟩
   have hc0 := s[k].toNat_lt
   have HS := Lib.hid hs'
   clear hs' hN hp
   generalize numN s b k = x at *
   by_cases h97 : 97 ≤ s[k].toNat
   ·have hd : dig s[k] = (s[k].toNat : Int) - 87 := by unfold dig; rw [if_pos h97]
    have h97' : (97 : Int) ≤ (s[k].toNat : Int) := by omega
    have HD := Lib.hid hd
    clear hd
    go_wp2
    exact ⟨⟨k + 1, by omega, by go_num, by rw [HS.out, HD.out]; congr 1; omega⟩, by simp [intOf]; omega⟩
   ·have hd : dig s[k] = ((s[k].toNat : Int) - 48) % 256 := by unfold dig; rw [if_neg h97]
    have h97' : ¬ (97 : Int) ≤ (s[k].toNat : Int) := by omega
    have HD := Lib.hid hd
    have hdb : 0 ≤ ((s[k].toNat : Int) - 48) % 256 ∧ ((s[k].toNat : Int) - 48) % 256 ≤ 255 := by omega
    clear hd
    go_wp2
    exact ⟨⟨k + 1, by omega, by go_num, by rw [HS.out, HD.out]⟩, by simp [intOf]; omega⟩
  ·obtain rfl : s.size = k := by omega
   go_wp2
   go_ret
   exact ⟨rfl, rfl⟩
end Ins
end Go.Proofs.Ytebkabidojipoaa
/- InsR2 -/
namespace Go.Proofs.Ytebkabidojipoaa
open Go.RowKit
namespace Ins
def spB (s : ByteArray) (i : Nat) : Bool := if h : i < s.size then s[i].toNat == 32 else true
def wst (s : ByteArray) : Nat → List ByteArray × Nat
 | 0 => ([], 0)
 | i + 1 => if spB s i then ((wst s i).1 ++ [s.extract (wst s i).2 i], i + 1) else wst s i
def strs (l : List ByteArray) : List Value := l.map Value.string
def wds (s : ByteArray) : List ByteArray := (wst s (s.size + 1)).1
theorem infoStr : (Try.prog.info? 9).map (fun i => (i.zero, i.size, i.bytes)) = some (some (.string { data := #[] }), 1, 16) := by kernel_rfl
end Ins
end Go.Proofs.Ytebkabidojipoaa
/- InsTb -/
namespace Go.Proofs.Ytebkabidojipoaa
open Go.RowKit
namespace Ins
def tabL : List ByteArray := [⟨#[48, 32, 48, 32, 49, 32, 48, 32, 45]⟩, ⟨#[49, 32, 49, 32, 49, 32, 48, 32, 58]⟩, ⟨#[50, 32, 52, 32, 50, 32, 48, 32, 45]⟩, ⟨#[53, 32, 53, 32, 49, 32, 48, 32, 45]⟩, ⟨#[98, 32, 98, 32, 49, 32, 48, 32, 45]⟩, ⟨#[99, 32, 100, 32, 51, 32, 48, 32, 45]⟩, ⟨#[101, 32, 101, 32, 52, 32, 48, 32, 45]⟩, ⟨#[102, 32, 102, 32, 49, 32, 48, 32, 45]⟩, ⟨#[49, 48, 32, 49, 48, 32, 53, 32, 48, 32, 45]⟩, ⟨#[49, 49, 32, 49, 49, 32, 54, 32, 48, 32, 45]⟩, ⟨#[49, 97, 32, 49, 98, 32, 49, 32, 48, 32, 45]⟩, ⟨#[50, 48, 32, 50, 52, 32, 53, 32, 48, 32, 45]⟩, ⟨#[50, 56, 32, 50, 56, 32, 55, 32, 50, 32, 105, 58, 105]⟩, ⟨#[50, 57, 32, 50, 57, 32, 55, 32, 51, 32, 105, 58, 108]⟩, ⟨#[50, 99, 32, 50, 100, 32, 55, 32, 48, 32, 105, 58, 105]⟩, ⟨#[50, 101, 32, 50, 102, 32, 55, 32, 49, 32, 105, 58, 105]⟩, ⟨#[51, 48, 32, 51, 49, 32, 55, 32, 48, 32, 105, 58, 108]⟩, ⟨#[51, 50, 32, 51, 51, 32, 55, 32, 49, 32, 105, 58, 108]⟩, ⟨#[51, 52, 32, 51, 53, 32, 55, 32, 50, 32, 105, 58, 108]⟩, ⟨#[51, 54, 32, 51, 54, 32, 55, 32, 50, 32, 105, 105, 58]⟩, ⟨#[51, 55, 32, 51, 55, 32, 55, 32, 51, 32, 105, 108, 58]⟩, ⟨#[51, 97, 32, 51, 97, 32, 55, 32, 48, 32, 105, 105, 58]⟩, ⟨#[51, 98, 32, 51, 98, 32, 55, 32, 49, 32, 105, 105, 58]⟩, ⟨#[51, 99, 32, 51, 99, 32, 55, 32, 48, 32, 105, 108, 58]⟩, ⟨#[51, 100, 32, 51, 100, 32, 55, 32, 49, 32, 105, 108, 58]⟩, ⟨#[51, 101, 32, 51, 101, 32, 55, 32, 50, 32, 105, 108, 58]⟩, ⟨#[51, 102, 32, 51, 102, 32, 49, 52, 32, 48, 32, 58, 105]⟩, ⟨#[52, 48, 32, 52, 48, 32, 49, 52, 32, 48, 32, 105, 58, 105]⟩, ⟨#[52, 49, 32, 52, 49, 32, 57, 32, 48, 32, 58, 105]⟩, ⟨#[52, 50, 32, 52, 50, 32, 49, 48, 32, 48, 32, 58, 108]⟩, ⟨#[52, 53, 32, 52, 53, 32, 49, 32, 48, 32, 105, 58, 105]⟩, ⟨#[52, 54, 32, 52, 102, 32, 49, 32, 48, 32, 105, 105, 58, 105]⟩, ⟨#[53, 48, 32, 53, 48, 32, 49, 32, 48, 32, 108, 58, 105]⟩, ⟨#[53, 49, 32, 53, 97, 32, 49, 32, 48, 32, 108, 108, 58, 105]⟩, ⟨#[54, 55, 32, 54, 57, 32, 49, 32, 48, 32, 105, 58, 105]⟩, ⟨#[54, 97, 32, 55, 56, 32, 49, 32, 48, 32, 105, 105, 58, 105]⟩, ⟨#[55, 57, 32, 55, 98, 32, 49, 32, 48, 32, 108, 58, 108]⟩, ⟨#[55, 99, 32, 56, 97, 32, 49, 32, 48, 32, 108, 108, 58, 108]⟩, ⟨#[97, 55, 32, 97, 55, 32, 49, 32, 48, 32, 108, 58, 105]⟩, ⟨#[97, 99, 32, 97, 100, 32, 49, 32, 48, 32, 105, 58, 108]⟩, ⟨#[99, 48, 32, 99, 49, 32, 49, 32, 48, 32, 105, 58, 105]⟩, ⟨#[99, 50, 32, 99, 52, 32, 49, 32, 48, 32, 108, 58, 108]⟩, ⟨#[102, 100, 48, 48, 32, 102, 100, 48, 48, 32, 55, 32, 52, 32, 105, 58, 118]⟩, ⟨#[102, 100, 48, 49, 32, 102, 100, 48, 54, 32, 55, 32, 51, 32, 105, 58, 118]⟩, ⟨#[102, 100, 48, 55, 32, 102, 100, 48, 55, 32, 55, 32, 48, 32, 105, 58, 118]⟩, ⟨#[102, 100, 48, 56, 32, 102, 100, 48, 56, 32, 55, 32, 49, 32, 105, 58, 118]⟩, ⟨#[102, 100, 48, 57, 32, 102, 100, 48, 57, 32, 55, 32, 50, 32, 105, 58, 118]⟩, ⟨#[102, 100, 48, 97, 32, 102, 100, 48, 97, 32, 55, 32, 51, 32, 105, 58, 118]⟩, ⟨#[102, 100, 48, 98, 32, 102, 100, 48, 98, 32, 55, 32, 52, 32, 105, 118, 58]⟩, ⟨#[102, 100, 48, 99, 32, 102, 100, 48, 99, 32, 49, 49, 32, 48, 32, 58, 118]⟩, ⟨#[102, 100, 48, 100, 32, 102, 100, 48, 100, 32, 49, 50, 32, 48, 32, 118, 118, 58, 118]⟩, ⟨#[102, 100, 48, 101, 32, 102, 100, 48, 101, 32, 49, 32, 48, 32, 118, 118, 58, 118]⟩, ⟨#[102, 100, 48, 102, 32, 102, 100, 49, 49, 32, 49, 32, 48, 32, 105, 58, 118]⟩, ⟨#[102, 100, 49, 50, 32, 102, 100, 49, 50, 32, 49, 32, 48, 32, 108, 58, 118]⟩, ⟨#[102, 100, 49, 53, 32, 102, 100, 49, 54, 32, 49, 51, 32, 49, 54, 32, 118, 58, 105]⟩, ⟨#[102, 100, 49, 55, 32, 102, 100, 49, 55, 32, 49, 51, 32, 49, 54, 32, 118, 105, 58, 118]⟩, ⟨#[102, 100, 49, 56, 32, 102, 100, 49, 57, 32, 49, 51, 32, 56, 32, 118, 58, 105]⟩, ⟨#[102, 100, 49, 97, 32, 102, 100, 49, 97, 32, 49, 51, 32, 56, 32, 118, 105, 58, 118]⟩, ⟨#[102, 100, 49, 98, 32, 102, 100, 49, 98, 32, 49, 51, 32, 52, 32, 118, 58, 105]⟩, ⟨#[102, 100, 49, 99, 32, 102, 100, 49, 99, 32, 49, 51, 32, 52, 32, 118, 105, 58, 118]⟩, ⟨#[102, 100, 49, 100, 32, 102, 100, 49, 100, 32, 49, 51, 32, 50, 32, 118, 58, 108]⟩, ⟨#[102, 100, 49, 101, 32, 102, 100, 49, 101, 32, 49, 51, 32, 50, 32, 118, 108, 58, 118]⟩, ⟨#[102, 100, 50, 51, 32, 102, 100, 52, 48, 32, 49, 32, 48, 32, 118, 118, 58, 118]⟩, ⟨#[102, 100, 52, 100, 32, 102, 100, 52, 100, 32, 49, 32, 48, 32, 118, 58, 118]⟩, ⟨#[102, 100, 52, 101, 32, 102, 100, 53, 49, 32, 49, 32, 48, 32, 118, 118, 58, 118]⟩, ⟨#[102, 100, 53, 50, 32, 102, 100, 53, 50, 32, 49, 32, 48, 32, 118, 118, 118, 58, 118]⟩, ⟨#[102, 100, 53, 51, 32, 102, 100, 53, 51, 32, 49, 32, 48, 32, 118, 58, 105]⟩, ⟨#[102, 100, 53, 52, 32, 102, 100, 53, 52, 32, 56, 32, 48, 32, 105, 118, 58, 118]⟩, ⟨#[102, 100, 53, 53, 32, 102, 100, 53, 53, 32, 56, 32, 49, 32, 105, 118, 58, 118]⟩, ⟨#[102, 100, 53, 54, 32, 102, 100, 53, 54, 32, 56, 32, 50, 32, 105, 118, 58, 118]⟩, ⟨#[102, 100, 53, 55, 32, 102, 100, 53, 55, 32, 56, 32, 51, 32, 105, 118, 58, 118]⟩, ⟨#[102, 100, 53, 56, 32, 102, 100, 53, 56, 32, 56, 32, 48, 32, 105, 118, 58]⟩, ⟨#[102, 100, 53, 57, 32, 102, 100, 53, 57, 32, 56, 32, 49, 32, 105, 118, 58]⟩, ⟨#[102, 100, 53, 97, 32, 102, 100, 53, 97, 32, 56, 32, 50, 32, 105, 118, 58]⟩, ⟨#[102, 100, 53, 98, 32, 102, 100, 53, 98, 32, 56, 32, 51, 32, 105, 118, 58]⟩, ⟨#[102, 100, 53, 99, 32, 102, 100, 53, 99, 32, 55, 32, 50, 32, 105, 58, 118]⟩, ⟨#[102, 100, 53, 100, 32, 102, 100, 53, 100, 32, 55, 32, 51, 32, 105, 58, 118]⟩, ⟨#[102, 100, 54, 48, 32, 102, 100, 54, 50, 32, 49, 32, 48, 32, 118, 58, 118]⟩, ⟨#[102, 100, 54, 51, 32, 102, 100, 54, 52, 32, 49, 32, 48, 32, 118, 58, 105]⟩, ⟨#[102, 100, 54, 53, 32, 102, 100, 54, 54, 32, 49, 32, 48, 32, 118, 118, 58, 118]⟩, ⟨#[102, 100, 54, 98, 32, 102, 100, 54, 100, 32, 49, 32, 48, 32, 118, 105, 58, 118]⟩, ⟨#[102, 100, 54, 101, 32, 102, 100, 55, 51, 32, 49, 32, 48, 32, 118, 118, 58, 118]⟩, ⟨#[102, 100, 55, 54, 32, 102, 100, 55, 57, 32, 49, 32, 48, 32, 118, 118, 58, 118]⟩, ⟨#[102, 100, 55, 98, 32, 102, 100, 55, 98, 32, 49, 32, 48, 32, 118, 118, 58, 118]⟩, ⟨#[102, 100, 55, 99, 32, 102, 100, 56, 49, 32, 49, 32, 48, 32, 118, 58, 118]⟩, ⟨#[102, 100, 56, 50, 32, 102, 100, 56, 50, 32, 49, 32, 48, 32, 118, 118, 58, 118]⟩, ⟨#[102, 100, 56, 51, 32, 102, 100, 56, 52, 32, 49, 32, 48, 32, 118, 58, 105]⟩, ⟨#[102, 100, 56, 53, 32, 102, 100, 56, 54, 32, 49, 32, 48, 32, 118, 118, 58, 118]⟩, ⟨#[102, 100, 56, 55, 32, 102, 100, 56, 97, 32, 49, 32, 48, 32, 118, 58, 118]⟩, ⟨#[102, 100, 56, 98, 32, 102, 100, 56, 100, 32, 49, 32, 48, 32, 118, 105, 58, 118]⟩, ⟨#[102, 100, 56, 101, 32, 102, 100, 57, 51, 32, 49, 32, 48, 32, 118, 118, 58, 118]⟩, ⟨#[102, 100, 57, 53, 32, 102, 100, 57, 57, 32, 49, 32, 48, 32, 118, 118, 58, 118]⟩, ⟨#[102, 100, 57, 98, 32, 102, 100, 57, 102, 32, 49, 32, 48, 32, 118, 118, 58, 118]⟩, ⟨#[102, 100, 97, 48, 32, 102, 100, 97, 49, 32, 49, 32, 48, 32, 118, 58, 118]⟩, ⟨#[102, 100, 97, 51, 32, 102, 100, 97, 52, 32, 49, 32, 48, 32, 118, 58, 105]⟩, ⟨#[102, 100, 97, 55, 32, 102, 100, 97, 97, 32, 49, 32, 48, 32, 118, 58, 118]⟩, ⟨#[102, 100, 97, 98, 32, 102, 100, 97, 100, 32, 49, 32, 48, 32, 118, 105, 58, 118]⟩, ⟨#[102, 100, 97, 101, 32, 102, 100, 97, 101, 32, 49, 32, 48, 32, 118, 118, 58, 118]⟩, ⟨#[102, 100, 98, 49, 32, 102, 100, 98, 49, 32, 49, 32, 48, 32, 118, 118, 58, 118]⟩, ⟨#[102, 100, 98, 53, 32, 102, 100, 98, 97, 32, 49, 32, 48, 32, 118, 118, 58, 118]⟩, ⟨#[102, 100, 98, 99, 32, 102, 100, 98, 102, 32, 49, 32, 48, 32, 118, 118, 58, 118]⟩, ⟨#[102, 100, 99, 48, 32, 102, 100, 99, 49, 32, 49, 32, 48, 32, 118, 58, 118]⟩, ⟨#[102, 100, 99, 51, 32, 102, 100, 99, 52, 32, 49, 32, 48, 32, 118, 58, 105]⟩, ⟨#[102, 100, 99, 55, 32, 102, 100, 99, 97, 32, 49, 32, 48, 32, 118, 58, 118]⟩, ⟨#[102, 100, 99, 98, 32, 102, 100, 99, 100, 32, 49, 32, 48, 32, 118, 105, 58, 118]⟩, ⟨#[102, 100, 99, 101, 32, 102, 100, 99, 101, 32, 49, 32, 48, 32, 118, 118, 58, 118]⟩, ⟨#[102, 100, 100, 49, 32, 102, 100, 100, 49, 32, 49, 32, 48, 32, 118, 118, 58, 118]⟩, ⟨#[102, 100, 100, 53, 32, 102, 100, 100, 102, 32, 49, 32, 48, 32, 118, 118, 58, 118]⟩]
set_option maxRecDepth 100000 in
set_option maxHeartbeats 2000000 in
theorem table_any (w : World) : Calls Try.prog 33 #[] w fun e w' => e = .returned (.slice (some ⟨w.heap.size, 0, none⟩) 108 108) ∧ w' = w.alloc (.cells (strs tabL).toArray 9) := by
 obtain ⟨i0, hi, hz0, hz1, hz2⟩ := info_parts infoStr
 go_enter Try.func33, Try.ntmps33
 go_upto_region 1 with (fail)
 refine wp_region_lit ?_
 refine wpList_buildS rfl 68 9 108 _ rfl i0 (strs tabL).toArray Try.underlying68 hi hz0 hz1 (by decide) (by decide) (Array.replicate 108 (.string { data := #[] })) (by kernel_rfl) (by kernel_rfl) ?_
 go_wp2
 go_ret
 exact ⟨rfl, rfl⟩
end Ins
end Go.Proofs.Ytebkabidojipoaa
/- InsR3 -/
namespace Go.Proofs.Ytebkabidojipoaa
open Go.RowKit
namespace Ins
structure Row where
 lo : Int
 hi : Int
 f : Int
 l : Int
 s : ByteArray
def rowT : List Row := [⟨0, 0, 1, 0, ⟨#[45]⟩⟩, ⟨1, 1, 1, 0, ⟨#[58]⟩⟩, ⟨2, 4, 2, 0, ⟨#[45]⟩⟩, ⟨5, 5, 1, 0, ⟨#[45]⟩⟩, ⟨11, 11, 1, 0, ⟨#[45]⟩⟩, ⟨12, 13, 3, 0, ⟨#[45]⟩⟩, ⟨14, 14, 4, 0, ⟨#[45]⟩⟩, ⟨15, 15, 1, 0, ⟨#[45]⟩⟩, ⟨16, 16, 5, 0, ⟨#[45]⟩⟩, ⟨17, 17, 6, 0, ⟨#[45]⟩⟩, ⟨26, 27, 1, 0, ⟨#[45]⟩⟩, ⟨32, 36, 5, 0, ⟨#[45]⟩⟩, ⟨40, 40, 7, 2, ⟨#[105, 58, 105]⟩⟩, ⟨41, 41, 7, 3, ⟨#[105, 58, 108]⟩⟩, ⟨44, 45, 7, 0, ⟨#[105, 58, 105]⟩⟩, ⟨46, 47, 7, 1, ⟨#[105, 58, 105]⟩⟩, ⟨48, 49, 7, 0, ⟨#[105, 58, 108]⟩⟩, ⟨50, 51, 7, 1, ⟨#[105, 58, 108]⟩⟩, ⟨52, 53, 7, 2, ⟨#[105, 58, 108]⟩⟩, ⟨54, 54, 7, 2, ⟨#[105, 105, 58]⟩⟩, ⟨55, 55, 7, 3, ⟨#[105, 108, 58]⟩⟩, ⟨58, 58, 7, 0, ⟨#[105, 105, 58]⟩⟩, ⟨59, 59, 7, 1, ⟨#[105, 105, 58]⟩⟩, ⟨60, 60, 7, 0, ⟨#[105, 108, 58]⟩⟩, ⟨61, 61, 7, 1, ⟨#[105, 108, 58]⟩⟩, ⟨62, 62, 7, 2, ⟨#[105, 108, 58]⟩⟩, ⟨63, 63, 14, 0, ⟨#[58, 105]⟩⟩, ⟨64, 64, 14, 0, ⟨#[105, 58, 105]⟩⟩, ⟨65, 65, 9, 0, ⟨#[58, 105]⟩⟩, ⟨66, 66, 10, 0, ⟨#[58, 108]⟩⟩, ⟨69, 69, 1, 0, ⟨#[105, 58, 105]⟩⟩, ⟨70, 79, 1, 0, ⟨#[105, 105, 58, 105]⟩⟩, ⟨80, 80, 1, 0, ⟨#[108, 58, 105]⟩⟩, ⟨81, 90, 1, 0, ⟨#[108, 108, 58, 105]⟩⟩, ⟨103, 105, 1, 0, ⟨#[105, 58, 105]⟩⟩, ⟨106, 120, 1, 0, ⟨#[105, 105, 58, 105]⟩⟩, ⟨121, 123, 1, 0, ⟨#[108, 58, 108]⟩⟩, ⟨124, 138, 1, 0, ⟨#[108, 108, 58, 108]⟩⟩, ⟨167, 167, 1, 0, ⟨#[108, 58, 105]⟩⟩, ⟨172, 173, 1, 0, ⟨#[105, 58, 108]⟩⟩, ⟨192, 193, 1, 0, ⟨#[105, 58, 105]⟩⟩, ⟨194, 196, 1, 0, ⟨#[108, 58, 108]⟩⟩, ⟨64768, 64768, 7, 4, ⟨#[105, 58, 118]⟩⟩, ⟨64769, 64774, 7, 3, ⟨#[105, 58, 118]⟩⟩, ⟨64775, 64775, 7, 0, ⟨#[105, 58, 118]⟩⟩, ⟨64776, 64776, 7, 1, ⟨#[105, 58, 118]⟩⟩, ⟨64777, 64777, 7, 2, ⟨#[105, 58, 118]⟩⟩, ⟨64778, 64778, 7, 3, ⟨#[105, 58, 118]⟩⟩, ⟨64779, 64779, 7, 4, ⟨#[105, 118, 58]⟩⟩, ⟨64780, 64780, 11, 0, ⟨#[58, 118]⟩⟩, ⟨64781, 64781, 12, 0, ⟨#[118, 118, 58, 118]⟩⟩, ⟨64782, 64782, 1, 0, ⟨#[118, 118, 58, 118]⟩⟩, ⟨64783, 64785, 1, 0, ⟨#[105, 58, 118]⟩⟩, ⟨64786, 64786, 1, 0, ⟨#[108, 58, 118]⟩⟩, ⟨64789, 64790, 13, 16, ⟨#[118, 58, 105]⟩⟩, ⟨64791, 64791, 13, 16, ⟨#[118, 105, 58, 118]⟩⟩, ⟨64792, 64793, 13, 8, ⟨#[118, 58, 105]⟩⟩, ⟨64794, 64794, 13, 8, ⟨#[118, 105, 58, 118]⟩⟩, ⟨64795, 64795, 13, 4, ⟨#[118, 58, 105]⟩⟩, ⟨64796, 64796, 13, 4, ⟨#[118, 105, 58, 118]⟩⟩, ⟨64797, 64797, 13, 2, ⟨#[118, 58, 108]⟩⟩, ⟨64798, 64798, 13, 2, ⟨#[118, 108, 58, 118]⟩⟩, ⟨64803, 64832, 1, 0, ⟨#[118, 118, 58, 118]⟩⟩, ⟨64845, 64845, 1, 0, ⟨#[118, 58, 118]⟩⟩, ⟨64846, 64849, 1, 0, ⟨#[118, 118, 58, 118]⟩⟩, ⟨64850, 64850, 1, 0, ⟨#[118, 118, 118, 58, 118]⟩⟩, ⟨64851, 64851, 1, 0, ⟨#[118, 58, 105]⟩⟩, ⟨64852, 64852, 8, 0, ⟨#[105, 118, 58, 118]⟩⟩, ⟨64853, 64853, 8, 1, ⟨#[105, 118, 58, 118]⟩⟩, ⟨64854, 64854, 8, 2, ⟨#[105, 118, 58, 118]⟩⟩, ⟨64855, 64855, 8, 3, ⟨#[105, 118, 58, 118]⟩⟩, ⟨64856, 64856, 8, 0, ⟨#[105, 118, 58]⟩⟩, ⟨64857, 64857, 8, 1, ⟨#[105, 118, 58]⟩⟩, ⟨64858, 64858, 8, 2, ⟨#[105, 118, 58]⟩⟩, ⟨64859, 64859, 8, 3, ⟨#[105, 118, 58]⟩⟩, ⟨64860, 64860, 7, 2, ⟨#[105, 58, 118]⟩⟩, ⟨64861, 64861, 7, 3, ⟨#[105, 58, 118]⟩⟩, ⟨64864, 64866, 1, 0, ⟨#[118, 58, 118]⟩⟩, ⟨64867, 64868, 1, 0, ⟨#[118, 58, 105]⟩⟩, ⟨64869, 64870, 1, 0, ⟨#[118, 118, 58, 118]⟩⟩, ⟨64875, 64877, 1, 0, ⟨#[118, 105, 58, 118]⟩⟩, ⟨64878, 64883, 1, 0, ⟨#[118, 118, 58, 118]⟩⟩, ⟨64886, 64889, 1, 0, ⟨#[118, 118, 58, 118]⟩⟩, ⟨64891, 64891, 1, 0, ⟨#[118, 118, 58, 118]⟩⟩, ⟨64892, 64897, 1, 0, ⟨#[118, 58, 118]⟩⟩, ⟨64898, 64898, 1, 0, ⟨#[118, 118, 58, 118]⟩⟩, ⟨64899, 64900, 1, 0, ⟨#[118, 58, 105]⟩⟩, ⟨64901, 64902, 1, 0, ⟨#[118, 118, 58, 118]⟩⟩, ⟨64903, 64906, 1, 0, ⟨#[118, 58, 118]⟩⟩, ⟨64907, 64909, 1, 0, ⟨#[118, 105, 58, 118]⟩⟩, ⟨64910, 64915, 1, 0, ⟨#[118, 118, 58, 118]⟩⟩, ⟨64917, 64921, 1, 0, ⟨#[118, 118, 58, 118]⟩⟩, ⟨64923, 64927, 1, 0, ⟨#[118, 118, 58, 118]⟩⟩, ⟨64928, 64929, 1, 0, ⟨#[118, 58, 118]⟩⟩, ⟨64931, 64932, 1, 0, ⟨#[118, 58, 105]⟩⟩, ⟨64935, 64938, 1, 0, ⟨#[118, 58, 118]⟩⟩, ⟨64939, 64941, 1, 0, ⟨#[118, 105, 58, 118]⟩⟩, ⟨64942, 64942, 1, 0, ⟨#[118, 118, 58, 118]⟩⟩, ⟨64945, 64945, 1, 0, ⟨#[118, 118, 58, 118]⟩⟩, ⟨64949, 64954, 1, 0, ⟨#[118, 118, 58, 118]⟩⟩, ⟨64956, 64959, 1, 0, ⟨#[118, 118, 58, 118]⟩⟩, ⟨64960, 64961, 1, 0, ⟨#[118, 58, 118]⟩⟩, ⟨64963, 64964, 1, 0, ⟨#[118, 58, 105]⟩⟩, ⟨64967, 64970, 1, 0, ⟨#[118, 58, 118]⟩⟩, ⟨64971, 64973, 1, 0, ⟨#[118, 105, 58, 118]⟩⟩, ⟨64974, 64974, 1, 0, ⟨#[118, 118, 58, 118]⟩⟩, ⟨64977, 64977, 1, 0, ⟨#[118, 118, 58, 118]⟩⟩, ⟨64981, 64991, 1, 0, ⟨#[118, 118, 58, 118]⟩⟩]
def rowN (k : Nat) : Row := rowT.getD k ⟨0, 0, 0, 0, ⟨#[]⟩⟩
def beqB (a b : ByteArray) : Bool := a.data.toList == b.data.toList
def bare (r : Row) : Bool := beqB r.s ⟨#[45]⟩
theorem rows_bd : ∀ k : Fin 108, 0 ≤ (rowN k.val).lo ∧ (rowN k.val).hi ≤ 100000 ∧ 0 ≤ (rowN k.val).f ∧ (rowN k.val).f ≤ 14 ∧ 0 ≤ (rowN k.val).l ∧ (rowN k.val).l ≤ 16 := by decide +kernel
theorem rows_len : rowT.length = 108 := by decide +kernel
end Ins
end Go.Proofs.Ytebkabidojipoaa
/- InsR4 -/
namespace Go.Proofs.Ytebkabidojipoaa
open Go.RowKit
namespace Ins
theorem beqB_eq {a b : ByteArray} (h : beqB a b = true) : a = b := by
 have h1 : a.data.toList = b.data.toList := by unfold beqB at h; exact eq_of_beq h
 cases a; cases b
 simp only at h1
 congr 1
 exact Array.toList_inj.1 h1
structure RowF (s : ByteArray) (r : Row) (a b c d : ByteArray) : Prop where
 w : wds s = [a, b, c, d, r.s]
 sz : s.size ≤ 1000 ∧ a.size ≤ 6 ∧ b.size ≤ 6 ∧ c.size ≤ 6 ∧ d.size ≤ 6
 lo : numN a 16 a.size = r.lo
 hi : numN b 16 b.size = r.hi
 f : numN c 10 c.size = r.f
 l : numN d 10 d.size = r.l
def InRow (k : Nat) (op : Int) : Prop := (rowN k).lo ≤ op ∧ op ≤ (rowN k).hi
end Ins
end Go.Proofs.Ytebkabidojipoaa
