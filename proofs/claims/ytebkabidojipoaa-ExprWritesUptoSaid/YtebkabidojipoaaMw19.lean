/-
  Texts of this seat, joined: ExRg, ExRh, ExRi, ExWa. Each says what it proves.
-/
import Derived.Test.YtebkabidojipoaaMw7
import Derived.Test.YtebkabidojipoaaMw18
namespace Go.Proofs.Ytebkabidojipoaa
section
open Go.RowKit VecM LebM
namespace Ex
def RFX (w : World) (r : In × St) (e : Ending) (w' : World) : Prop :=
 (r.2.e = 0 ∧ ∃ Lv, e = .returned (.tuple #[.agg (inV r.1 Lv), .int .i64 r.2.a, .int .i64 0]) ∧ Gr w w' ∧ w'.ownsRow w.heap.size 3 1 Lv r.1.l.length (ivs r.1.l)) ∨
 (r.2.e ≠ 0 ∧ ∃ x0 x1 x2 x3 x4 xs n c to, e = .returned (.tuple #[.agg #[.int .i64 x0, .int .i64 x1, .int .i64 x2, .int .u64 x3, .int .u64 x4, .slice xs n c], .int .i64 to, .int .i64 r.2.e]) ∧ Gr w w')
theorem rfx_ok {w w' : World} {op a b lo hi to : Int} (hg : Gr w w') : RFX w (⟨op, a, b, lo, hi, []⟩, ⟨to, 0⟩) (.returned (.tuple #[.agg #[.int .i64 op, .int .i64 a, .int .i64 b, .int .u64 lo, .int .u64 hi, .slice none 0 0], .int .i64 to, .int .i64 0])) w' :=
 .inl ⟨rfl, .slice none 0 0, rfl, hg, World.ownsRow_nil _ _ _ _⟩
theorem rfx_bad {w w' : World} {d : In} {p er x0 x1 x2 x3 x4 to : Int} {xs : Option Addr} {n c : Nat} (he : er ≠ 0) (hg : Gr w w') : RFX w (d, ⟨p, er⟩) (.returned (.tuple #[.agg #[.int .i64 x0, .int .i64 x1, .int .i64 x2, .int .u64 x3, .int .u64 x4, .slice xs n c], .int .i64 to, .int .i64 er])) w' :=
 .inr ⟨he, _, _, _, _, _, _, _, _, _, rfl, hg⟩
theorem octs_run {f : Nat → Int} {len p : Nat} : ∀ k, p + k ≤ len → octsS f len k ⟨p, 0⟩ = ((List.range k).map (fun i => f (p + i)), ⟨((p + k : Nat) : Int), 0⟩)
 | 0, _ => rfl
 | k + 1, h => by
  unfold octsS
  rw [octs_run k (by omega)]
  unfold octS
  dsimp only
  rw [if_neg (by omega), Int.toNat_natCast, List.range_succ, List.map_append]
  rfl
theorem octs_short {f : Nat → Int} {len p : Nat} (hp : p ≤ len) : ∀ k, len < p + k → (octsS f len k ⟨p, 0⟩).2 = ⟨(len : Int), 10⟩
 | 0, h => by omega
 | k + 1, h => by
  unfold octsS
  dsimp only
  by_cases h1 : p + k = len
  ·rw [octs_run k (by omega)]
   unfold octS
   dsimp only
   rw [if_pos (.inr (by omega)), h1]; rfl
  ·rw [octs_short hp k (by omega)]
   unfold octS
   rw [if_pos (.inl (by simp))]; rfl
theorem hal_run {f : Nat → Int} {len p : Nat} (h : p + 16 ≤ len) : halS f len ⟨p, 0⟩ = ((getI (hvF f p 16) 64 0, getI (hvF f p 16) 64 1), ⟨(p : Int) + 16, 0⟩) := by
 have e : hvB ((List.range 16).map (fun i => f (p + i))) = hvF f p 16 := by
  funext m
  unfold hvB hvF
  rw [List.getD_eq_getElem?_getD, List.getElem?_map]
  by_cases hm : m < 16
  ·rw [List.getElem?_range hm, if_pos hm]; rfl
  ·rw [List.getElem?_eq_none (by simp; omega), if_neg hm]; rfl
 unfold halS
 rw [octs_run 16 h, e]
 rfl
theorem rbytes_any {w : World} {op : Int} {sv : Value} {len p : Nat} {f : Nat → Int} (hl : len ≤ 1099511627776) (hf : By f) (h : U8s w sv len f) (hp : p ≤ len) (form : Int) (hF : form = 11 ∨ form = 12 ∨ form = 13 ∨ form = 14) :
  Calls Try.prog 40 #[sv, .int .i64 p, .agg #[.int .i64 op, .int .i64 0, .int .i64 0, .int .u64 0, .int .u64 0, .slice none 0 0], .int .i64 form] w (RFX w (fldS f len form op ⟨p, 0⟩)) := by
 obtain ⟨x0, c0, e0⟩ := u8s_slice h
 have hoct : ∀ (h : p < len), octS f len ⟨p, 0⟩ = (f p, ⟨(p : Int) + 1, 0⟩) := fun h => by
  unfold octS; dsimp only; rw [if_neg (by omega), Int.toNat_natCast]
 have hocn : ∀ (h : ¬ p < len), octS f len ⟨p, 0⟩ = (0, ⟨p, 10⟩) := fun h => by
  unfold octS; rw [if_pos (.inr (by dsimp only; omega))]; rfl
 by_cases h1 : form = 11 ∨ form = 12
 ·have e1 : fldS f len form op ⟨p, 0⟩ = (⟨op, 0, 0, (halS f len ⟨p, 0⟩).1.1, (halS f len ⟨p, 0⟩).1.2, []⟩, (halS f len ⟨p, 0⟩).2) := by
   rcases h1 with rfl | rfl <;> rfl
  rw [e1]
  by_cases h16 : p + 16 ≤ len
  ·rw [hal_run h16]
   obtain ⟨b, off, c, rfl, hc⟩ := u8s_cell h (by omega)
   dsimp only
   rcases h1 with rfl | rfl
   ·exact (rby_11 hf hl h16 hc).mono fun e w' ⟨h1, h2⟩ => by rw [h1]; exact rfx_ok h2
   ·exact (rby_12 hf hl h16 hc).mono fun e w' ⟨h1, h2⟩ => by rw [h1]; exact rfx_ok h2
  ·have e2 : (halS f len ⟨p, 0⟩).2 = ⟨(len : Int), 10⟩ := octs_short hp 16 (by omega)
   rw [e2]
   subst e0
   rcases h1 with rfl | rfl
   ·exact (rby_11b hl hp (by omega)).mono fun e w' ⟨h1, h2⟩ => by rw [h1]; exact rfx_bad (by decide) h2
   ·exact (rby_12b hl hp (by omega)).mono fun e w' ⟨h1, h2⟩ => by rw [h1]; exact rfx_bad (by decide) h2
 ·by_cases hlt : p < len
  ·obtain ⟨b, off, c, rfl, hc⟩ := u8s_cell h (by omega)
   have hy := hf p
   rcases hF with rfl | rfl | rfl | rfl
   ·omega
   ·omega
   ·have e1 : fldS f len 13 op ⟨p, 0⟩ = (⟨op, f p, 0, 0, 0, []⟩, ⟨(p : Int) + 1, 0⟩) := by
     show ((⟨op, (octS f len ⟨p, 0⟩).1, 0, 0, 0, []⟩ : In), (octS f len ⟨p, 0⟩).2) = _
     rw [hoct hlt]
    rw [e1]
    exact (rby_13 hl hlt hy (hc p hlt)).mono fun e w' ⟨h1, h2⟩ => by rw [h1]; exact rfx_ok h2
   ·have e1 : fldS f len 14 op ⟨p, 0⟩ = (nul op, if f p ≠ 0 then ⟨(p : Int) + 1, 10⟩ else ⟨(p : Int) + 1, 0⟩) := by
     show (nul op, if (octS f len ⟨p, 0⟩).1 ≠ 0 then failS (octS f len ⟨p, 0⟩).2 10 else (octS f len ⟨p, 0⟩).2) = _
     rw [hoct hlt]; rfl
    rw [e1]
    by_cases h0 : f p = 0
    ·rw [if_neg (by simpa using h0)]
     exact (rby_14y hl hlt hy (hc p hlt) h0).mono fun e w' ⟨h1, h2⟩ => by rw [h1]; exact rfx_ok h2
    ·rw [if_pos h0]
     exact (rby_14n hl hlt hy (hc p hlt) h0).mono fun e w' ⟨h1, h2⟩ => by rw [h1]; exact rfx_bad (by decide) h2
  ·subst e0
   rcases hF with rfl | rfl | rfl | rfl
   ·omega
   ·omega
   ·have e1 : fldS f len 13 op ⟨p, 0⟩ = (⟨op, 0, 0, 0, 0, []⟩, ⟨(p : Int), 10⟩) := by
     show ((⟨op, (octS f len ⟨p, 0⟩).1, 0, 0, 0, []⟩ : In), (octS f len ⟨p, 0⟩).2) = _
     rw [hocn hlt]
    rw [e1]
    exact (rby_13e (by omega)).mono fun e w' ⟨h1, h2⟩ => by rw [h1]; exact rfx_bad (by decide) h2
   ·have e1 : fldS f len 14 op ⟨p, 0⟩ = (nul op, ⟨(p : Int), 10⟩) := by
     show (nul op, if (octS f len ⟨p, 0⟩).1 ≠ 0 then failS (octS f len ⟨p, 0⟩).2 10 else (octS f len ⟨p, 0⟩).2) = _
     rw [hocn hlt]; rfl
    rw [e1]
    exact (rby_14e (by omega)).mono fun e w' ⟨h1, h2⟩ => by rw [h1]; exact rfx_bad (by decide) h2
theorem u32_cases {f : Nat → Int} (hf : By f) {len a : Nat} (ha : a ≤ len) : (∃ (n : Int) (to : Nat), numS f len ⟨a, 0⟩ = (n, ⟨to, 0⟩) ∧ u32S f len a = (n, (to : Int)) ∧ 0 ≤ n ∧ n < 4294967296 ∧ to ≤ len) ∨ (numS f len ⟨a, 0⟩ = (0, ⟨a, 10⟩) ∧ u32S f len a = (0, -1)) := by
 have hn := numS_bd hf (len := len) ⟨a, 0⟩
 have hto := numS_ok (f := f) (s := ⟨a, 0⟩) (len := len) ⟨by dsimp only; omega, by dsimp only; omega⟩
 have hu : u32S f len a = if (numS f len ⟨a, 0⟩).2.e = 0 then ((numS f len ⟨a, 0⟩).1, (numS f len ⟨a, 0⟩).2.a) else (0, -1) := rfl
 rw [hu]
 rcases num_cases f len a with ⟨_, h2⟩ | ⟨_, h2⟩
 ·left
  rw [h2] at hn hto ⊢
  have h3 := hto.lo
  have h4 := hto.hi
  dsimp only at hn h3 h4 ⊢
  obtain ⟨t, ht⟩ := Int.eq_ofNat_of_zero_le h3
  rw [ht] at h4 ⊢
  exact ⟨_, t, rfl, rfl, hn.1, hn.2, by omega⟩
 ·right
  rw [h2]
  exact ⟨rfl, rfl⟩
structure RfS (w0 w : World) (C : Array Value) : Prop where
 r6 : w.heap[w0.heap.size]? = some (.cells C 38 (0, 0))
 r8 : w.heap[w0.heap.size + 1]? = some (.cells #[.int .i64 0, .int .i64 0, .int .i64 0, .int .u64 0, .int .u64 0, .slice none 0 0] 38 (0, 0))
 gr : Gr w0 w
theorem RfS.ini (w : World) (D : Array Value) : RfS w ((w.alloc (.cells D 38)).alloc (.cells #[.int .i64 0, .int .i64 0, .int .i64 0, .int .u64 0, .int .u64 0, .slice none 0 0] 38)) D :=
 ⟨heap_alloc2_old w _ _, heap_alloc2_new w _ _, ((Gr.refl w).alloc _ _).alloc _ _⟩
theorem RfS.to {w0 w w' : World} {C : Array Value} (h : RfS w0 w C) (hg : Gr w w') : RfS w0 w' C := ⟨gr_block hg h.r6, gr_block hg h.r8, gr_trans h.gr hg⟩
theorem RfS.set {w0 w : World} {C : Array Value} (h : RfS w0 w C) (i : Nat) (v : Value) : RfS w0 (w.setCell ⟨w0.heap.size, i, none⟩ v) (C.setIfInBounds i v) :=
 ⟨setCell_cell h.r6 i v, row_set h.r8 (show w0.heap.size + 1 ≠ w0.heap.size by omega), Gr.setCell h.gr (p := ⟨w0.heap.size, i, none⟩) (Nat.le_refl _) v⟩
theorem RfS.cal {w0 w1 : World} {C : Array Value} (HS : RfS w0 w1 C) {f : FuncId} {args : Array Value} {r : Value} (hc : Calls Try.prog f args w1 fun e w' => e = .returned r ∧ Gr w1 w') {Q : Ending → World → Prop} (h : ∀ w2, Gr w1 w2 → RfS w0 w2 C → Q (.returned r) w2) : Calls Try.prog f args w1 Q :=
 hc.mono fun e w' ⟨he, hg⟩ => by
  subst he
  exact h w' hg (HS.to hg)
structure RfE (w0 w : World) (R : Array Value) : Prop where
 r8 : w.heap[w0.heap.size + 1]? = some (.cells R 38 (0, 0))
 gr : Gr w0 w
theorem RfS.st {w0 w : World} {C : Array Value} (h : RfS w0 w C) {ops : Array Oper} {Q : Exit → Act → World → Prop} {a : Act} {o : Oper} {rest : List Oper} (hgd : o.guard = none) (x y : Operand) (ho : o.op = .store 38 x y) (hx : a.eval x = .pointer (some ⟨w0.heap.size + 1, 0, none⟩)) {R : Array Value} (hy : a.eval y = .agg R) (hs : R.size = 6) (h1 : R.all (·.oneCell') = true)
  (k : ∀ w9, RfE w0 w9 R → (∀ {base z n : Nat} {e : TypeId} {v : Value} {xs : List Value}, w.ownsRow base e z v n xs → v.ownBlock ≠ some (w0.heap.size + 1) → w9.ownsRow base e z v n xs) → wpList Try.prog ops Q rest (a.put o.dst undef) w9) : wpList Try.prog ops Q (o :: rest) a w :=
 wpList_store_row hgd 38 x y ho (w0.heap.size + 1) R hx hy 38 #[.int .i64 0, .int .i64 0, .int .i64 0, .int .u64 0, .int .u64 0, .slice none 0 0] h.r8 (by rw [hs]; exact infoIn) (by rw [hs]; rfl) h1
  (k _ ⟨setRow_block h.r8, gr_setRow h.gr (by omega) _⟩ fun ho hne => (Sep.setRow (ex := fun q => q = w0.heap.size + 1) w rfl _).owns ho fun q hq e => hne (by rw [hq, show q = w0.heap.size + 1 from e]))
theorem RfE.fin {w0 w : World} {R : Array Value} (h : RfE w0 w R) {a : Act} (hs : R.size = 6) (hp : a.tmps.getD 8 undef = .pointer (some ⟨w0.heap.size + 1, 0, none⟩)) (hd : a.defers = []) {Q : Ending → World → Prop} (hQ : Q (.returned (.tuple #[.agg R, a.tmps.getD 9 undef, a.tmps.getD 10 undef])) w) : bodyPost Try.prog Try.f18 Q .ret a w :=
 bodyPost_ret (results_row3 Try.results18 _ _ (w0.heap.size + 1) 38 R (0, 0) _ hp h.r8 Try.underlying38 rfl (by rw [hs]; exact infoIn)) hd hQ
theorem done_y (op a b lo hi : Int) (x : Option Addr) (n c : Nat) (to : Int) (h : 0 ≤ to) (w : World) :
  Calls Try.prog 38 #[.agg #[.int .i64 op, .int .i64 a, .int .i64 b, .int .u64 lo, .int .u64 hi, .slice x n c], .int .i64 to] w fun e w' => e = .returned (.tuple #[.agg #[.int .i64 op, .int .i64 a, .int .i64 b, .int .u64 lo, .int .u64 hi, .slice x n c], .int .i64 to, .int .i64 0]) ∧ Gr w w' :=
 (done_any op a b lo hi x n c to w).mono fun e w' h1 => by rw [if_neg (by omega)] at h1; exact h1
theorem done_n (op a b lo hi : Int) (x : Option Addr) (n c : Nat) (w : World) :
  Calls Try.prog 38 #[.agg #[.int .i64 op, .int .i64 a, .int .i64 b, .int .u64 lo, .int .u64 hi, .slice x n c], .int .i64 (-1)] w fun e w' => e = .returned (.tuple #[.agg #[.int .i64 0, .int .i64 0, .int .i64 0, .int .u64 0, .int .u64 0, .slice none 0 0], .int .i64 0, .int .i64 10]) ∧ Gr w w' :=
 (done_any op a b lo hi x n c (-1) w).mono fun e w' h1 => by rw [if_pos (by decide)] at h1; exact h1
set_option maxRecDepth 100000 in
set_option maxHeartbeats 4000000 in
theorem rfld_1 {w : World} {op : Int} {sv : Value} {len p : Nat} {f : Nat → Int} (_hl : len ≤ 1099511627776) (_hf : By f) (h : U8s w sv len f) (_hp : p ≤ len) :
  Calls Try.prog 18 #[sv, .int .i64 p, .agg #[.int .i64 op, .int .i64 0, .int .i64 0, .int .u64 0, .int .u64 0, .slice none 0 0], .int .i64 1] w (RFX w (fldS f len 1 op ⟨p, 0⟩)) := by
 have e0 : fldS f len 1 op ⟨p, 0⟩ = (nul op, ⟨p, 0⟩) := rfl
 rw [e0]
 obtain ⟨x, c, rfl⟩ := u8s_slice h
 clear h _hf _hl
 go_enter Try.func18, Try.ntmps18
 go_wp2
 exact bodyPost_ret (results_row3 Try.results18 _ _ (w.heap.size + 1) 38 #[.int .i64 op, .int .i64 0, .int .i64 0, .int .u64 0, .int .u64 0, .slice none 0 0] (0, 0) _ rfl (heap_alloc2_new w (.cells #[.int .i64 op, .int .i64 0, .int .i64 0, .int .u64 0, .int .u64 0, .slice none 0 0] 38) (.cells #[.int .i64 op, .int .i64 0, .int .i64 0, .int .u64 0, .int .u64 0, .slice none 0 0] 38)) Try.underlying38 rfl infoIn) rfl (rfx_ok (((Gr.refl w).alloc _ _).alloc _ _))
set_option maxRecDepth 100000 in
set_option maxHeartbeats 4000000 in
theorem rfld_2 {w : World} {op : Int} {sv : Value} {len p : Nat} {f : Nat → Int} (hl : len ≤ 1099511627776) (hf : By f) (h : U8s w sv len f) (_hp : p ≤ len) :
  Calls Try.prog 18 #[sv, .int .i64 p, .agg #[.int .i64 op, .int .i64 0, .int .i64 0, .int .u64 0, .int .u64 0, .slice none 0 0], .int .i64 2] w (RFX w (fldS f len 2 op ⟨p, 0⟩)) := by
 have e0 : fldS f len 2 op ⟨p, 0⟩ = (⟨op, (blkS f len ⟨p, 0⟩).1, 0, 0, 0, []⟩, (blkS f len ⟨p, 0⟩).2) := rfl
 rw [e0]
 have HK0 : ∀ wx, Gr w wx → Calls Try.prog 37 #[sv, .int .i64 p] wx fun e w' => e = .returned (.tuple #[.int .i64 (kdR f len p).1, .int .i64 (kdR f len p).2.1, .int .i64 (kdR f len p).2.2]) ∧ Gr wx w' := fun wx hg => rkind_any hl hf (u8s_gr h hg) p
 obtain ⟨v, to, er, hb⟩ : ∃ v to er, blkS f len ⟨p, 0⟩ = (v, ⟨to, er⟩) := ⟨_, _, _, rfl⟩
 by_cases he : er = 0
 ·subst he
  rw [kdR_of hb] at HK0
  rw [hb]
  have HK := Lib.hid HK0
  obtain ⟨x, c, rfl⟩ := u8s_slice h
  clear h hf hl hb HK0 e0
  go_enter Try.func18, Try.ntmps18
  go_wp2_with fail
  have HS := Lib.hid (RfS.ini w #[.int .i64 op, .int .i64 0, .int .i64 0, .int .u64 0, .int .u64 0, .slice none 0 0])
  generalize (w.alloc (.cells #[.int .i64 op, .int .i64 0, .int .i64 0, .int .u64 0, .int .u64 0, .slice none 0 0] 38)).alloc (.cells #[.int .i64 0, .int .i64 0, .int .i64 0, .int .u64 0, .int .u64 0, .slice none 0 0] 38) = w1 at *
  refine RfS.cal HS.out (HK.out w1 HS.out.gr) ?_
  intro w2 hg hs
  clear HS
  have HS := Lib.hid hs
  clear hg hs
  obtain ⟨i0, i1, i2, i3, i4, i5⟩ := cells6 HS.out.r6
  have fz0 := froz (HS.out).r6 1
  have R8 := Lib.hid (RfS.set HS.out 1 (.int .i64 v))
  go_wp2_with (refine RfS.st R8.out rfl _ _ rfl rfl rfl rfl (by first | rfl | kernel_rfl) ?_; intro w9 he _; have HE9 := Lib.hid he; clear he)
  exact RfE.fin HE9.out rfl rfl rfl (by exact rfx_ok HE9.out.gr)
 ·rw [kdR_bad hb he] at HK0
  rw [hb]
  have HK := Lib.hid HK0
  have HE := Lib.hid he
  obtain ⟨x, c, rfl⟩ := u8s_slice h
  clear h hf hl hb HK0 e0 he
  go_enter Try.func18, Try.ntmps18
  go_wp2_with fail
  have HS := Lib.hid (RfS.ini w #[.int .i64 op, .int .i64 0, .int .i64 0, .int .u64 0, .int .u64 0, .slice none 0 0])
  generalize (w.alloc (.cells #[.int .i64 op, .int .i64 0, .int .i64 0, .int .u64 0, .int .u64 0, .slice none 0 0] 38)).alloc (.cells #[.int .i64 0, .int .i64 0, .int .i64 0, .int .u64 0, .int .u64 0, .slice none 0 0] 38) = w1 at *
  refine RfS.cal HS.out (HK.out w1 HS.out.gr) ?_
  intro w2 hg hs
  clear HS
  have HS := Lib.hid hs
  clear hg hs
  obtain ⟨i0, i1, i2, i3, i4, i5⟩ := cells6 HS.out.r6
  have fz0 := froz (HS.out).r6 1
  have R8 := Lib.hid (RfS.set HS.out 1 (.int .i64 0))
  go_wp2_with (refine RfS.st R8.out rfl _ _ rfl rfl rfl rfl (by first | rfl | kernel_rfl) ?_; intro w9 he _; have HE9 := Lib.hid he; clear he)
  exact RfE.fin HE9.out rfl rfl rfl (by exact rfx_bad HE.out HE9.out.gr)
set_option maxRecDepth 100000 in
set_option maxHeartbeats 4000000 in
theorem rfld_3 {w : World} {op : Int} {sv : Value} {len p : Nat} {f : Nat → Int} (hl : len ≤ 1099511627776) (hf : By f) (h : U8s w sv len f) (hp : p ≤ len) :
  Calls Try.prog 18 #[sv, .int .i64 p, .agg #[.int .i64 op, .int .i64 0, .int .i64 0, .int .u64 0, .int .u64 0, .slice none 0 0], .int .i64 3] w (RFX w (fldS f len 3 op ⟨p, 0⟩)) := by
 have e0 : fldS f len 3 op ⟨p, 0⟩ = (⟨op, (numS f len ⟨p, 0⟩).1, 0, 0, 0, []⟩, (numS f len ⟨p, 0⟩).2) := rfl
 rw [e0]
 obtain ⟨x, c, rfl⟩ := u8s_slice h
 rcases u32_cases hf hp with ⟨n, to, k1, k2, k3, k4, k5⟩ | ⟨k1, k2⟩
 ·rw [k1]
  have HU1 := Lib.hid (fun wx (hg : Gr w wx) => show Calls Try.prog 31 #[.slice x len c, .int .i64 p] wx fun e w' => e = .returned (.tuple #[.int .i64 n, .int .i64 to]) ∧ Gr wx w' from by have := u32_any hl hf (p : Int) (u8s_gr h hg); rw [k2] at this; exact this)
  have HDY := Lib.hid done_y
  have HDN := Lib.hid done_n
  have HU8 := Lib.hid (fun wx (hg : Gr w wx) => u8s_gr h hg)
  have HP := Lib.hid (And.intro hp hl)
  have HF := Lib.hid hf
  clear h hf hl k1 k2 e0
  go_enter Try.func18, Try.ntmps18
  go_wp2_with fail
  have HS := Lib.hid (RfS.ini w #[.int .i64 op, .int .i64 0, .int .i64 0, .int .u64 0, .int .u64 0, .slice none 0 0])
  generalize (w.alloc (.cells #[.int .i64 op, .int .i64 0, .int .i64 0, .int .u64 0, .int .u64 0, .slice none 0 0] 38)).alloc (.cells #[.int .i64 0, .int .i64 0, .int .i64 0, .int .u64 0, .int .u64 0, .slice none 0 0] 38) = w1 at *
  refine RfS.cal HS.out (HU1.out w1 HS.out.gr) ?_
  intro w2 hg hs
  clear HS
  have HS := Lib.hid hs
  clear hg hs
  obtain ⟨i0, i1, i2, i3, i4, i5⟩ := cells6 HS.out.r6
  have fz0 := froz (HS.out).r6 1
  have R8 := Lib.hid (RfS.set HS.out 1 (.int .i64 n))
  go_wp2_with fail
  refine RfS.cal R8.out (HDY.out _ _ _ _ _ _ _ _ _ (by omega) _) ?_
  intro w8 hg hs
  clear R8
  have R8 := Lib.hid hs
  clear hg hs
  go_wp2_with (refine RfS.st R8.out rfl _ _ rfl rfl rfl rfl (by first | rfl | kernel_rfl) ?_; intro w9 he _; have HE9 := Lib.hid he; clear he)
  exact RfE.fin HE9.out rfl rfl rfl (by exact rfx_ok HE9.out.gr)
 ·rw [k1]
  have HU1 := Lib.hid (fun wx (hg : Gr w wx) => show Calls Try.prog 31 #[.slice x len c, .int .i64 p] wx fun e w' => e = .returned (.tuple #[.int .i64 0, .int .i64 (-1)]) ∧ Gr wx w' from by have := u32_any hl hf (p : Int) (u8s_gr h hg); rw [k2] at this; exact this)
  have HDY := Lib.hid done_y
  have HDN := Lib.hid done_n
  have HU8 := Lib.hid (fun wx (hg : Gr w wx) => u8s_gr h hg)
  have HP := Lib.hid (And.intro hp hl)
  have HF := Lib.hid hf
  clear h hf hl k1 k2 e0
  go_enter Try.func18, Try.ntmps18
  go_wp2_with fail
  have HS := Lib.hid (RfS.ini w #[.int .i64 op, .int .i64 0, .int .i64 0, .int .u64 0, .int .u64 0, .slice none 0 0])
  generalize (w.alloc (.cells #[.int .i64 op, .int .i64 0, .int .i64 0, .int .u64 0, .int .u64 0, .slice none 0 0] 38)).alloc (.cells #[.int .i64 0, .int .i64 0, .int .i64 0, .int .u64 0, .int .u64 0, .slice none 0 0] 38) = w1 at *
  refine RfS.cal HS.out (HU1.out w1 HS.out.gr) ?_
  intro w2 hg hs
  clear HS
  have HS := Lib.hid hs
  clear hg hs
  obtain ⟨i0, i1, i2, i3, i4, i5⟩ := cells6 HS.out.r6
  have fz0 := froz (HS.out).r6 1
  have R8 := Lib.hid (RfS.set HS.out 1 (.int .i64 0))
  go_wp2_with fail
  refine RfS.cal R8.out (HDN.out _ _ _ _ _ _ _ _  _) ?_
  intro w8 hg hs
  clear R8
  have R8 := Lib.hid hs
  clear hg hs
  go_wp2_with (refine RfS.st R8.out rfl _ _ rfl rfl rfl rfl (by first | rfl | kernel_rfl) ?_; intro w9 he _; have HE9 := Lib.hid he; clear he)
  exact RfE.fin HE9.out rfl rfl rfl (by exact rfx_bad (by decide) HE9.out.gr)
set_option maxRecDepth 100000 in
set_option maxHeartbeats 4000000 in
theorem rfld_5 {w : World} {op : Int} {sv : Value} {len p : Nat} {f : Nat → Int} (hl : len ≤ 1099511627776) (hf : By f) (h : U8s w sv len f) (hp : p ≤ len) :
  Calls Try.prog 18 #[sv, .int .i64 p, .agg #[.int .i64 op, .int .i64 0, .int .i64 0, .int .u64 0, .int .u64 0, .slice none 0 0], .int .i64 5] w (RFX w (fldS f len 5 op ⟨p, 0⟩)) := by
 have e0 : fldS f len 5 op ⟨p, 0⟩ = (⟨op, (numS f len ⟨p, 0⟩).1, 0, 0, 0, []⟩, (numS f len ⟨p, 0⟩).2) := rfl
 rw [e0]
 obtain ⟨x, c, rfl⟩ := u8s_slice h
 rcases u32_cases hf hp with ⟨n, to, k1, k2, k3, k4, k5⟩ | ⟨k1, k2⟩
 ·rw [k1]
  have HU1 := Lib.hid (fun wx (hg : Gr w wx) => show Calls Try.prog 31 #[.slice x len c, .int .i64 p] wx fun e w' => e = .returned (.tuple #[.int .i64 n, .int .i64 to]) ∧ Gr wx w' from by have := u32_any hl hf (p : Int) (u8s_gr h hg); rw [k2] at this; exact this)
  have HDY := Lib.hid done_y
  have HDN := Lib.hid done_n
  have HU8 := Lib.hid (fun wx (hg : Gr w wx) => u8s_gr h hg)
  have HP := Lib.hid (And.intro hp hl)
  have HF := Lib.hid hf
  clear h hf hl k1 k2 e0
  go_enter Try.func18, Try.ntmps18
  go_wp2_with fail
  have HS := Lib.hid (RfS.ini w #[.int .i64 op, .int .i64 0, .int .i64 0, .int .u64 0, .int .u64 0, .slice none 0 0])
  generalize (w.alloc (.cells #[.int .i64 op, .int .i64 0, .int .i64 0, .int .u64 0, .int .u64 0, .slice none 0 0] 38)).alloc (.cells #[.int .i64 0, .int .i64 0, .int .i64 0, .int .u64 0, .int .u64 0, .slice none 0 0] 38) = w1 at *
  refine RfS.cal HS.out (HU1.out w1 HS.out.gr) ?_
  intro w2 hg hs
  clear HS
  have HS := Lib.hid hs
  clear hg hs
  obtain ⟨i0, i1, i2, i3, i4, i5⟩ := cells6 HS.out.r6
  have fz0 := froz (HS.out).r6 1
  have R8 := Lib.hid (RfS.set HS.out 1 (.int .i64 n))
  go_wp2_with fail
  refine RfS.cal R8.out (HDY.out _ _ _ _ _ _ _ _ _ (by omega) _) ?_
  intro w8 hg hs
  clear R8
  have R8 := Lib.hid hs
  clear hg hs
  go_wp2_with (refine RfS.st R8.out rfl _ _ rfl rfl rfl rfl (by first | rfl | kernel_rfl) ?_; intro w9 he _; have HE9 := Lib.hid he; clear he)
  exact RfE.fin HE9.out rfl rfl rfl (by exact rfx_ok HE9.out.gr)
 ·rw [k1]
  have HU1 := Lib.hid (fun wx (hg : Gr w wx) => show Calls Try.prog 31 #[.slice x len c, .int .i64 p] wx fun e w' => e = .returned (.tuple #[.int .i64 0, .int .i64 (-1)]) ∧ Gr wx w' from by have := u32_any hl hf (p : Int) (u8s_gr h hg); rw [k2] at this; exact this)
  have HDY := Lib.hid done_y
  have HDN := Lib.hid done_n
  have HU8 := Lib.hid (fun wx (hg : Gr w wx) => u8s_gr h hg)
  have HP := Lib.hid (And.intro hp hl)
  have HF := Lib.hid hf
  clear h hf hl k1 k2 e0
  go_enter Try.func18, Try.ntmps18
  go_wp2_with fail
  have HS := Lib.hid (RfS.ini w #[.int .i64 op, .int .i64 0, .int .i64 0, .int .u64 0, .int .u64 0, .slice none 0 0])
  generalize (w.alloc (.cells #[.int .i64 op, .int .i64 0, .int .i64 0, .int .u64 0, .int .u64 0, .slice none 0 0] 38)).alloc (.cells #[.int .i64 0, .int .i64 0, .int .i64 0, .int .u64 0, .int .u64 0, .slice none 0 0] 38) = w1 at *
  refine RfS.cal HS.out (HU1.out w1 HS.out.gr) ?_
  intro w2 hg hs
  clear HS
  have HS := Lib.hid hs
  clear hg hs
  obtain ⟨i0, i1, i2, i3, i4, i5⟩ := cells6 HS.out.r6
  have fz0 := froz (HS.out).r6 1
  have R8 := Lib.hid (RfS.set HS.out 1 (.int .i64 0))
  go_wp2_with fail
  refine RfS.cal R8.out (HDN.out _ _ _ _ _ _ _ _  _) ?_
  intro w8 hg hs
  clear R8
  have R8 := Lib.hid hs
  clear hg hs
  go_wp2_with (refine RfS.st R8.out rfl _ _ rfl rfl rfl rfl (by first | rfl | kernel_rfl) ?_; intro w9 he _; have HE9 := Lib.hid he; clear he)
  exact RfE.fin HE9.out rfl rfl rfl (by exact rfx_bad (by decide) HE9.out.gr)
set_option maxRecDepth 100000 in
set_option maxHeartbeats 4000000 in
theorem rfld_6 {w : World} {op : Int} {sv : Value} {len p : Nat} {f : Nat → Int} (hl : len ≤ 1099511627776) (hf : By f) (h : U8s w sv len f) (hp : p ≤ len) :
  Calls Try.prog 18 #[sv, .int .i64 p, .agg #[.int .i64 op, .int .i64 0, .int .i64 0, .int .u64 0, .int .u64 0, .slice none 0 0], .int .i64 6] w (RFX w (fldS f len 6 op ⟨p, 0⟩)) := by
 have e0 : fldS f len 6 op ⟨p, 0⟩ = (⟨op, (numS f len ⟨p, 0⟩).1, (numS f len (numS f len ⟨p, 0⟩).2).1, 0, 0, []⟩, (numS f len (numS f len ⟨p, 0⟩).2).2) := rfl
 rw [e0]
 have bn : ∀ (z : Int), numS f len ⟨z, 10⟩ = (0, ⟨z, 10⟩) := fun z => by unfold numS; rw [if_pos (.inl (by simp))]; rfl
 obtain ⟨x, c, rfl⟩ := u8s_slice h
 rcases u32_cases hf hp with ⟨n, to, k1, k2, k3, k4, k5⟩ | ⟨k1, k2⟩
 ·rw [k1]
  dsimp only
  rcases u32_cases hf k5 with ⟨m, t2, g1, g2, g3, g4, g5⟩ | ⟨g1, g2⟩
  ·rw [g1]
   dsimp only
   have HDY := Lib.hid done_y
   have HDN := Lib.hid done_n
   have HU8 := Lib.hid (fun wx (hg : Gr w wx) => u8s_gr h hg)
   have HP := Lib.hid (And.intro hp hl)
   have HF := Lib.hid hf
   have HU1 := Lib.hid (fun wx (hg : Gr w wx) => show Calls Try.prog 31 #[.slice x len c, .int .i64 p] wx fun e w' => e = .returned (.tuple #[.int .i64 n, .int .i64 to]) ∧ Gr wx w' from by have := u32_any hl hf (p : Int) (u8s_gr h hg); rw [k2] at this; exact this)
   have HU2 := Lib.hid (fun wx (hg : Gr w wx) => show Calls Try.prog 31 #[.slice x len c, .int .i64 to] wx fun e w' => e = .returned (.tuple #[.int .i64 m, .int .i64 t2]) ∧ Gr wx w' from by have := u32_any hl hf (to : Int) (u8s_gr h hg); rw [g2] at this; exact this)
   have x1 : decide ((to : Int) ≥ 0) = true := decide_eq_true (by omega)
   have x2 : decide ((t2 : Int) ≥ 0) = true := decide_eq_true (by omega)
   clear h hf hl k1 k2 e0 g1 g2
   go_enter Try.func18, Try.ntmps18
   go_wp2_with fail
   have HS := Lib.hid (RfS.ini w #[.int .i64 op, .int .i64 0, .int .i64 0, .int .u64 0, .int .u64 0, .slice none 0 0])
   generalize (w.alloc (.cells #[.int .i64 op, .int .i64 0, .int .i64 0, .int .u64 0, .int .u64 0, .slice none 0 0] 38)).alloc (.cells #[.int .i64 0, .int .i64 0, .int .i64 0, .int .u64 0, .int .u64 0, .slice none 0 0] 38) = w1 at *
   refine RfS.cal HS.out (HU1.out w1 HS.out.gr) ?_
   intro w2 hg hs
   clear HS
   have HS := Lib.hid hs
   clear hg hs
   go_wp2_with fail
   refine RfS.cal HS.out (HU2.out w2 HS.out.gr) ?_
   intro w3 hg hs
   clear HS
   have HS := Lib.hid hs
   clear hg hs
   obtain ⟨i0, i1, i2, i3, i4, i5⟩ := cells6 HS.out.r6
   have fz0 := froz (HS.out).r6 1
   have fz1 := froz ((RfS.set HS.out 1 (.int .i64 n))).r6 2
   have R8 := Lib.hid (RfS.set (RfS.set HS.out 1 (.int .i64 n)) 2 (.int .i64 m))
   go_wp2_with fail
   refine RfS.cal R8.out (HDY.out _ _ _ _ _ _ _ _ _ (by omega) _) ?_
   intro w8 hg hs
   clear R8
   have R8 := Lib.hid hs
   clear hg hs
   go_wp2_with (refine RfS.st R8.out rfl _ _ rfl rfl rfl rfl (by first | rfl | kernel_rfl) ?_; intro w9 he _; have HE9 := Lib.hid he; clear he)
   exact RfE.fin HE9.out rfl rfl rfl (by exact rfx_ok HE9.out.gr)
  ·rw [g1]
   dsimp only
   have HDY := Lib.hid done_y
   have HDN := Lib.hid done_n
   have HU8 := Lib.hid (fun wx (hg : Gr w wx) => u8s_gr h hg)
   have HP := Lib.hid (And.intro hp hl)
   have HF := Lib.hid hf
   have HU1 := Lib.hid (fun wx (hg : Gr w wx) => show Calls Try.prog 31 #[.slice x len c, .int .i64 p] wx fun e w' => e = .returned (.tuple #[.int .i64 n, .int .i64 to]) ∧ Gr wx w' from by have := u32_any hl hf (p : Int) (u8s_gr h hg); rw [k2] at this; exact this)
   have HU2 := Lib.hid (fun wx (hg : Gr w wx) => show Calls Try.prog 31 #[.slice x len c, .int .i64 to] wx fun e w' => e = .returned (.tuple #[.int .i64 0, .int .i64 (-1)]) ∧ Gr wx w' from by have := u32_any hl hf (to : Int) (u8s_gr h hg); rw [g2] at this; exact this)
   have x1 : decide ((to : Int) ≥ 0) = true := decide_eq_true (by omega)
   clear h hf hl k1 k2 e0 g1 g2
   go_enter Try.func18, Try.ntmps18
   go_wp2_with fail
   have HS := Lib.hid (RfS.ini w #[.int .i64 op, .int .i64 0, .int .i64 0, .int .u64 0, .int .u64 0, .slice none 0 0])
   generalize (w.alloc (.cells #[.int .i64 op, .int .i64 0, .int .i64 0, .int .u64 0, .int .u64 0, .slice none 0 0] 38)).alloc (.cells #[.int .i64 0, .int .i64 0, .int .i64 0, .int .u64 0, .int .u64 0, .slice none 0 0] 38) = w1 at *
   refine RfS.cal HS.out (HU1.out w1 HS.out.gr) ?_
   intro w2 hg hs
   clear HS
   have HS := Lib.hid hs
   clear hg hs
   go_wp2_with fail
   refine RfS.cal HS.out (HU2.out w2 HS.out.gr) ?_
   intro w3 hg hs
   clear HS
   have HS := Lib.hid hs
   clear hg hs
   obtain ⟨i0, i1, i2, i3, i4, i5⟩ := cells6 HS.out.r6
   have fz0 := froz (HS.out).r6 1
   have fz1 := froz ((RfS.set HS.out 1 (.int .i64 n))).r6 2
   have R8 := Lib.hid (RfS.set (RfS.set HS.out 1 (.int .i64 n)) 2 (.int .i64 0))
   go_wp2_with fail
   refine RfS.cal R8.out (HDN.out _ _ _ _ _ _ _ _  _) ?_
   intro w8 hg hs
   clear R8
   have R8 := Lib.hid hs
   clear hg hs
   go_wp2_with (refine RfS.st R8.out rfl _ _ rfl rfl rfl rfl (by first | rfl | kernel_rfl) ?_; intro w9 he _; have HE9 := Lib.hid he; clear he)
   exact RfE.fin HE9.out rfl rfl rfl (by exact rfx_bad (by decide) HE9.out.gr)
 ·rw [k1]
  dsimp only
  rw [bn]
  dsimp only
  have HDY := Lib.hid done_y
  have HDN := Lib.hid done_n
  have HU8 := Lib.hid (fun wx (hg : Gr w wx) => u8s_gr h hg)
  have HP := Lib.hid (And.intro hp hl)
  have HF := Lib.hid hf
  have HU1 := Lib.hid (fun wx (hg : Gr w wx) => show Calls Try.prog 31 #[.slice x len c, .int .i64 p] wx fun e w' => e = .returned (.tuple #[.int .i64 0, .int .i64 (-1)]) ∧ Gr wx w' from by have := u32_any hl hf (p : Int) (u8s_gr h hg); rw [k2] at this; exact this)
  clear h hf hl k1 k2 e0
  go_enter Try.func18, Try.ntmps18
  go_wp2_with fail
  have HS := Lib.hid (RfS.ini w #[.int .i64 op, .int .i64 0, .int .i64 0, .int .u64 0, .int .u64 0, .slice none 0 0])
  generalize (w.alloc (.cells #[.int .i64 op, .int .i64 0, .int .i64 0, .int .u64 0, .int .u64 0, .slice none 0 0] 38)).alloc (.cells #[.int .i64 0, .int .i64 0, .int .i64 0, .int .u64 0, .int .u64 0, .slice none 0 0] 38) = w1 at *
  refine RfS.cal HS.out (HU1.out w1 HS.out.gr) ?_
  intro w2 hg hs
  clear HS
  have HS := Lib.hid hs
  clear hg hs
  obtain ⟨i0, i1, i2, i3, i4, i5⟩ := cells6 HS.out.r6
  have fz0 := froz (HS.out).r6 1
  have fz1 := froz ((RfS.set HS.out 1 (.int .i64 0))).r6 2
  have R8 := Lib.hid (RfS.set (RfS.set HS.out 1 (.int .i64 0)) 2 (.int .i64 0))
  go_wp2_with fail
  refine RfS.cal R8.out (HDN.out _ _ _ _ _ _ _ _  _) ?_
  intro w8 hg hs
  clear R8
  have R8 := Lib.hid hs
  clear hg hs
  go_wp2_with (refine RfS.st R8.out rfl _ _ rfl rfl rfl rfl (by first | rfl | kernel_rfl) ?_; intro w9 he _; have HE9 := Lib.hid he; clear he)
  exact RfE.fin HE9.out rfl rfl rfl (by exact rfx_bad (by decide) HE9.out.gr)
set_option maxRecDepth 100000 in
set_option maxHeartbeats 4000000 in
theorem rfld_7 {w : World} {op : Int} {sv : Value} {len p : Nat} {f : Nat → Int} (hl : len ≤ 1099511627776) (hf : By f) (h : U8s w sv len f) (hp : p ≤ len) :
  Calls Try.prog 18 #[sv, .int .i64 p, .agg #[.int .i64 op, .int .i64 0, .int .i64 0, .int .u64 0, .int .u64 0, .slice none 0 0], .int .i64 7] w (RFX w (fldS f len 7 op ⟨p, 0⟩)) := by
 have e0 : fldS f len 7 op ⟨p, 0⟩ = (⟨op, (numS f len ⟨p, 0⟩).1, (numS f len (numS f len ⟨p, 0⟩).2).1, 0, 0, []⟩, (numS f len (numS f len ⟨p, 0⟩).2).2) := rfl
 rw [e0]
 have bn : ∀ (z : Int), numS f len ⟨z, 10⟩ = (0, ⟨z, 10⟩) := fun z => by unfold numS; rw [if_pos (.inl (by simp))]; rfl
 obtain ⟨x, c, rfl⟩ := u8s_slice h
 rcases u32_cases hf hp with ⟨n, to, k1, k2, k3, k4, k5⟩ | ⟨k1, k2⟩
 ·rw [k1]
  dsimp only
  rcases u32_cases hf k5 with ⟨m, t2, g1, g2, g3, g4, g5⟩ | ⟨g1, g2⟩
  ·rw [g1]
   dsimp only
   have HDY := Lib.hid done_y
   have HDN := Lib.hid done_n
   have HU8 := Lib.hid (fun wx (hg : Gr w wx) => u8s_gr h hg)
   have HP := Lib.hid (And.intro hp hl)
   have HF := Lib.hid hf
   have HU1 := Lib.hid (fun wx (hg : Gr w wx) => show Calls Try.prog 31 #[.slice x len c, .int .i64 p] wx fun e w' => e = .returned (.tuple #[.int .i64 n, .int .i64 to]) ∧ Gr wx w' from by have := u32_any hl hf (p : Int) (u8s_gr h hg); rw [k2] at this; exact this)
   have HU2 := Lib.hid (fun wx (hg : Gr w wx) => show Calls Try.prog 31 #[.slice x len c, .int .i64 to] wx fun e w' => e = .returned (.tuple #[.int .i64 m, .int .i64 t2]) ∧ Gr wx w' from by have := u32_any hl hf (to : Int) (u8s_gr h hg); rw [g2] at this; exact this)
   have x1 : decide ((to : Int) ≥ 0) = true := decide_eq_true (by omega)
   have x2 : decide ((t2 : Int) ≥ 0) = true := decide_eq_true (by omega)
   clear h hf hl k1 k2 e0 g1 g2
   go_enter Try.func18, Try.ntmps18
   go_wp2_with fail
   have HS := Lib.hid (RfS.ini w #[.int .i64 op, .int .i64 0, .int .i64 0, .int .u64 0, .int .u64 0, .slice none 0 0])
   generalize (w.alloc (.cells #[.int .i64 op, .int .i64 0, .int .i64 0, .int .u64 0, .int .u64 0, .slice none 0 0] 38)).alloc (.cells #[.int .i64 0, .int .i64 0, .int .i64 0, .int .u64 0, .int .u64 0, .slice none 0 0] 38) = w1 at *
   refine RfS.cal HS.out (HU1.out w1 HS.out.gr) ?_
   intro w2 hg hs
   clear HS
   have HS := Lib.hid hs
   clear hg hs
   go_wp2_with fail
   refine RfS.cal HS.out (HU2.out w2 HS.out.gr) ?_
   intro w3 hg hs
   clear HS
   have HS := Lib.hid hs
   clear hg hs
   obtain ⟨i0, i1, i2, i3, i4, i5⟩ := cells6 HS.out.r6
   have fz0 := froz (HS.out).r6 1
   have fz1 := froz ((RfS.set HS.out 1 (.int .i64 n))).r6 2
   have R8 := Lib.hid (RfS.set (RfS.set HS.out 1 (.int .i64 n)) 2 (.int .i64 m))
   go_wp2_with fail
   refine RfS.cal R8.out (HDY.out _ _ _ _ _ _ _ _ _ (by omega) _) ?_
   intro w8 hg hs
   clear R8
   have R8 := Lib.hid hs
   clear hg hs
   go_wp2_with (refine RfS.st R8.out rfl _ _ rfl rfl rfl rfl (by first | rfl | kernel_rfl) ?_; intro w9 he _; have HE9 := Lib.hid he; clear he)
   exact RfE.fin HE9.out rfl rfl rfl (by exact rfx_ok HE9.out.gr)
  ·rw [g1]
   dsimp only
   have HDY := Lib.hid done_y
   have HDN := Lib.hid done_n
   have HU8 := Lib.hid (fun wx (hg : Gr w wx) => u8s_gr h hg)
   have HP := Lib.hid (And.intro hp hl)
   have HF := Lib.hid hf
   have HU1 := Lib.hid (fun wx (hg : Gr w wx) => show Calls Try.prog 31 #[.slice x len c, .int .i64 p] wx fun e w' => e = .returned (.tuple #[.int .i64 n, .int .i64 to]) ∧ Gr wx w' from by have := u32_any hl hf (p : Int) (u8s_gr h hg); rw [k2] at this; exact this)
   have HU2 := Lib.hid (fun wx (hg : Gr w wx) => show Calls Try.prog 31 #[.slice x len c, .int .i64 to] wx fun e w' => e = .returned (.tuple #[.int .i64 0, .int .i64 (-1)]) ∧ Gr wx w' from by have := u32_any hl hf (to : Int) (u8s_gr h hg); rw [g2] at this; exact this)
   have x1 : decide ((to : Int) ≥ 0) = true := decide_eq_true (by omega)
   clear h hf hl k1 k2 e0 g1 g2
   go_enter Try.func18, Try.ntmps18
   go_wp2_with fail
   have HS := Lib.hid (RfS.ini w #[.int .i64 op, .int .i64 0, .int .i64 0, .int .u64 0, .int .u64 0, .slice none 0 0])
   generalize (w.alloc (.cells #[.int .i64 op, .int .i64 0, .int .i64 0, .int .u64 0, .int .u64 0, .slice none 0 0] 38)).alloc (.cells #[.int .i64 0, .int .i64 0, .int .i64 0, .int .u64 0, .int .u64 0, .slice none 0 0] 38) = w1 at *
   refine RfS.cal HS.out (HU1.out w1 HS.out.gr) ?_
   intro w2 hg hs
   clear HS
   have HS := Lib.hid hs
   clear hg hs
   go_wp2_with fail
   refine RfS.cal HS.out (HU2.out w2 HS.out.gr) ?_
   intro w3 hg hs
   clear HS
   have HS := Lib.hid hs
   clear hg hs
   obtain ⟨i0, i1, i2, i3, i4, i5⟩ := cells6 HS.out.r6
   have fz0 := froz (HS.out).r6 1
   have fz1 := froz ((RfS.set HS.out 1 (.int .i64 n))).r6 2
   have R8 := Lib.hid (RfS.set (RfS.set HS.out 1 (.int .i64 n)) 2 (.int .i64 0))
   go_wp2_with fail
   refine RfS.cal R8.out (HDN.out _ _ _ _ _ _ _ _  _) ?_
   intro w8 hg hs
   clear R8
   have R8 := Lib.hid hs
   clear hg hs
   go_wp2_with (refine RfS.st R8.out rfl _ _ rfl rfl rfl rfl (by first | rfl | kernel_rfl) ?_; intro w9 he _; have HE9 := Lib.hid he; clear he)
   exact RfE.fin HE9.out rfl rfl rfl (by exact rfx_bad (by decide) HE9.out.gr)
 ·rw [k1]
  dsimp only
  rw [bn]
  dsimp only
  have HDY := Lib.hid done_y
  have HDN := Lib.hid done_n
  have HU8 := Lib.hid (fun wx (hg : Gr w wx) => u8s_gr h hg)
  have HP := Lib.hid (And.intro hp hl)
  have HF := Lib.hid hf
  have HU1 := Lib.hid (fun wx (hg : Gr w wx) => show Calls Try.prog 31 #[.slice x len c, .int .i64 p] wx fun e w' => e = .returned (.tuple #[.int .i64 0, .int .i64 (-1)]) ∧ Gr wx w' from by have := u32_any hl hf (p : Int) (u8s_gr h hg); rw [k2] at this; exact this)
  clear h hf hl k1 k2 e0
  go_enter Try.func18, Try.ntmps18
  go_wp2_with fail
  have HS := Lib.hid (RfS.ini w #[.int .i64 op, .int .i64 0, .int .i64 0, .int .u64 0, .int .u64 0, .slice none 0 0])
  generalize (w.alloc (.cells #[.int .i64 op, .int .i64 0, .int .i64 0, .int .u64 0, .int .u64 0, .slice none 0 0] 38)).alloc (.cells #[.int .i64 0, .int .i64 0, .int .i64 0, .int .u64 0, .int .u64 0, .slice none 0 0] 38) = w1 at *
  refine RfS.cal HS.out (HU1.out w1 HS.out.gr) ?_
  intro w2 hg hs
  clear HS
  have HS := Lib.hid hs
  clear hg hs
  obtain ⟨i0, i1, i2, i3, i4, i5⟩ := cells6 HS.out.r6
  have fz0 := froz (HS.out).r6 1
  have fz1 := froz ((RfS.set HS.out 1 (.int .i64 0))).r6 2
  have R8 := Lib.hid (RfS.set (RfS.set HS.out 1 (.int .i64 0)) 2 (.int .i64 0))
  go_wp2_with fail
  refine RfS.cal R8.out (HDN.out _ _ _ _ _ _ _ _  _) ?_
  intro w8 hg hs
  clear R8
  have R8 := Lib.hid hs
  clear hg hs
  go_wp2_with (refine RfS.st R8.out rfl _ _ rfl rfl rfl rfl (by first | rfl | kernel_rfl) ?_; intro w9 he _; have HE9 := Lib.hid he; clear he)
  exact RfE.fin HE9.out rfl rfl rfl (by exact rfx_bad (by decide) HE9.out.gr)
set_option maxRecDepth 100000 in
set_option maxHeartbeats 4000000 in
theorem rfld_8 {w : World} {op : Int} {sv : Value} {len p : Nat} {f : Nat → Int} (hl : len ≤ 1099511627776) (hf : By f) (h : U8s w sv len f) (hp : p ≤ len) :
  Calls Try.prog 18 #[sv, .int .i64 p, .agg #[.int .i64 op, .int .i64 0, .int .i64 0, .int .u64 0, .int .u64 0, .slice none 0 0], .int .i64 8] w (RFX w (fldS f len 8 op ⟨p, 0⟩)) := by
 have e0 : fldS f len 8 op ⟨p, 0⟩ = (⟨op, (numS f len ⟨p, 0⟩).1, (numS f len (numS f len ⟨p, 0⟩).2).1, (octS f len (numS f len (numS f len ⟨p, 0⟩).2).2).1, 0, []⟩, (octS f len (numS f len (numS f len ⟨p, 0⟩).2).2).2) := rfl
 rw [e0]
 have b8 : ∀ (z : Int), octS f len ⟨z, 10⟩ = (0, ⟨z, 10⟩) := fun z => by unfold octS; rw [if_pos (.inl (by simp))]; rfl
 have bn : ∀ (z : Int), numS f len ⟨z, 10⟩ = (0, ⟨z, 10⟩) := fun z => by unfold numS; rw [if_pos (.inl (by simp))]; rfl
 obtain ⟨x, c, rfl⟩ := u8s_slice h
 rcases u32_cases hf hp with ⟨n, to, k1, k2, k3, k4, k5⟩ | ⟨k1, k2⟩
 ·rw [k1]
  dsimp only
  rcases u32_cases hf k5 with ⟨m, t2, g1, g2, g3, g4, g5⟩ | ⟨g1, g2⟩
  ·rw [g1]
   dsimp only
   by_cases k9 : t2 < len
   ·have HDY := Lib.hid done_y
    have HDN := Lib.hid done_n
    have HU8 := Lib.hid (fun wx (hg : Gr w wx) => u8s_gr h hg)
    have HP := Lib.hid (And.intro hp hl)
    have HF := Lib.hid hf
    have HU1 := Lib.hid (fun wx (hg : Gr w wx) => show Calls Try.prog 31 #[.slice x len c, .int .i64 p] wx fun e w' => e = .returned (.tuple #[.int .i64 n, .int .i64 to]) ∧ Gr wx w' from by have := u32_any hl hf (p : Int) (u8s_gr h hg); rw [k2] at this; exact this)
    have HU2 := Lib.hid (fun wx (hg : Gr w wx) => show Calls Try.prog 31 #[.slice x len c, .int .i64 to] wx fun e w' => e = .returned (.tuple #[.int .i64 m, .int .i64 t2]) ∧ Gr wx w' from by have := u32_any hl hf (to : Int) (u8s_gr h hg); rw [g2] at this; exact this)
    have x1 : decide ((to : Int) ≥ 0) = true := decide_eq_true (by omega)
    have x2 : decide ((t2 : Int) ≥ 0) = true := decide_eq_true (by omega)
    obtain ⟨b, off, c', e', hc⟩ := u8s_cell h (by omega)
    obtain ⟨rfl, _, rfl⟩ := Value.slice.inj e'
    have HC := Lib.hid (hc t2 k9)
    have hbl : b < w.heap.size := block_lt_of_cell (hc t2 k9)
    have hy := hf t2
    have HO := Lib.hid (show octS f len ⟨t2, 0⟩ = (f t2, ⟨(t2 : Int) + 1, 0⟩) from by unfold octS; dsimp only; rw [if_neg (by omega), Int.toNat_natCast])
    rw [HO.out]
    generalize f t2 = y at *
    have x3 : decide ((t2 : Int) ≥ (len : Int)) = false := decide_eq_false (by omega)
    have x4 : (t2 : Int) < (len : Int) := by omega
    have T1 : IntKind.i64.wrap ((t2 : Int) + 1) = (t2 : Int) + 1 := by rw [IntKind.wrap_i64]; omega
    have T2 : IntKind.u64.wrap y = y := by rw [IntKind.wrap_u64]; omega
    clear hc e'
    clear h hf hl k1 k2 e0 g1 g2
    go_enter Try.func18, Try.ntmps18
    go_wp2_with fail
    have HS := Lib.hid (RfS.ini w #[.int .i64 op, .int .i64 0, .int .i64 0, .int .u64 0, .int .u64 0, .slice none 0 0])
    generalize (w.alloc (.cells #[.int .i64 op, .int .i64 0, .int .i64 0, .int .u64 0, .int .u64 0, .slice none 0 0] 38)).alloc (.cells #[.int .i64 0, .int .i64 0, .int .i64 0, .int .u64 0, .int .u64 0, .slice none 0 0] 38) = w1 at *
    refine RfS.cal HS.out (HU1.out w1 HS.out.gr) ?_
    intro w2 hg hs
    clear HS
    have HS := Lib.hid hs
    clear hg hs
    go_wp2_with fail
    refine RfS.cal HS.out (HU2.out w2 HS.out.gr) ?_
    intro w3 hg hs
    clear HS
    have HS := Lib.hid hs
    clear hg hs
    have cb := gr_cell HS.out.gr HC.out
    obtain ⟨i0, i1, i2, i3, i4, i5⟩ := cells6 HS.out.r6
    have fz0 := froz (HS.out).r6 1
    have fz1 := froz ((RfS.set HS.out 1 (.int .i64 n))).r6 2
    have fz2 := froz ((RfS.set (RfS.set HS.out 1 (.int .i64 n)) 2 (.int .i64 m))).r6 3
    have R8 := Lib.hid (RfS.set (RfS.set (RfS.set HS.out 1 (.int .i64 n)) 2 (.int .i64 m)) 3 (.int .u64 y))
    go_wp2_with fail
    refine RfS.cal R8.out (HDY.out _ _ _ _ _ _ _ _ _ (by omega) _) ?_
    intro w8 hg hs
    clear R8
    have R8 := Lib.hid hs
    clear hg hs
    go_wp2_with (refine RfS.st R8.out rfl _ _ rfl rfl rfl rfl (by first | rfl | kernel_rfl) ?_; intro w9 he _; have HE9 := Lib.hid he; clear he)
    exact RfE.fin HE9.out rfl rfl rfl (by exact rfx_ok HE9.out.gr)
   ·have HDY := Lib.hid done_y
    have HDN := Lib.hid done_n
    have HU8 := Lib.hid (fun wx (hg : Gr w wx) => u8s_gr h hg)
    have HP := Lib.hid (And.intro hp hl)
    have HF := Lib.hid hf
    have HU1 := Lib.hid (fun wx (hg : Gr w wx) => show Calls Try.prog 31 #[.slice x len c, .int .i64 p] wx fun e w' => e = .returned (.tuple #[.int .i64 n, .int .i64 to]) ∧ Gr wx w' from by have := u32_any hl hf (p : Int) (u8s_gr h hg); rw [k2] at this; exact this)
    have HU2 := Lib.hid (fun wx (hg : Gr w wx) => show Calls Try.prog 31 #[.slice x len c, .int .i64 to] wx fun e w' => e = .returned (.tuple #[.int .i64 m, .int .i64 t2]) ∧ Gr wx w' from by have := u32_any hl hf (to : Int) (u8s_gr h hg); rw [g2] at this; exact this)
    have x1 : decide ((to : Int) ≥ 0) = true := decide_eq_true (by omega)
    have x2 : decide ((t2 : Int) ≥ 0) = true := decide_eq_true (by omega)
    have x3 : decide ((t2 : Int) ≥ (len : Int)) = true := decide_eq_true (by omega)
    have HO := Lib.hid (show octS f len ⟨t2, 0⟩ = (0, ⟨t2, 10⟩) from by unfold octS; rw [if_pos (.inr (by dsimp only; omega))]; rfl)
    rw [HO.out]
    clear h hf hl k1 k2 e0 g1 g2
    go_enter Try.func18, Try.ntmps18
    go_wp2_with fail
    have HS := Lib.hid (RfS.ini w #[.int .i64 op, .int .i64 0, .int .i64 0, .int .u64 0, .int .u64 0, .slice none 0 0])
    generalize (w.alloc (.cells #[.int .i64 op, .int .i64 0, .int .i64 0, .int .u64 0, .int .u64 0, .slice none 0 0] 38)).alloc (.cells #[.int .i64 0, .int .i64 0, .int .i64 0, .int .u64 0, .int .u64 0, .slice none 0 0] 38) = w1 at *
    refine RfS.cal HS.out (HU1.out w1 HS.out.gr) ?_
    intro w2 hg hs
    clear HS
    have HS := Lib.hid hs
    clear hg hs
    go_wp2_with fail
    refine RfS.cal HS.out (HU2.out w2 HS.out.gr) ?_
    intro w3 hg hs
    clear HS
    have HS := Lib.hid hs
    clear hg hs
    obtain ⟨i0, i1, i2, i3, i4, i5⟩ := cells6 HS.out.r6
    have fz0 := froz (HS.out).r6 1
    have fz1 := froz ((RfS.set HS.out 1 (.int .i64 n))).r6 2
    have R8 := Lib.hid (RfS.set (RfS.set HS.out 1 (.int .i64 n)) 2 (.int .i64 m))
    go_wp2_with (refine RfS.st R8.out rfl _ _ rfl rfl rfl rfl (by first | rfl | kernel_rfl) ?_; intro w9 he _; have HE9 := Lib.hid he; clear he)
    exact RfE.fin HE9.out rfl rfl rfl (by exact rfx_bad (by decide) HE9.out.gr)
  ·rw [g1]
   dsimp only
   rw [b8]
   have HDY := Lib.hid done_y
   have HDN := Lib.hid done_n
   have HU8 := Lib.hid (fun wx (hg : Gr w wx) => u8s_gr h hg)
   have HP := Lib.hid (And.intro hp hl)
   have HF := Lib.hid hf
   have HU1 := Lib.hid (fun wx (hg : Gr w wx) => show Calls Try.prog 31 #[.slice x len c, .int .i64 p] wx fun e w' => e = .returned (.tuple #[.int .i64 n, .int .i64 to]) ∧ Gr wx w' from by have := u32_any hl hf (p : Int) (u8s_gr h hg); rw [k2] at this; exact this)
   have HU2 := Lib.hid (fun wx (hg : Gr w wx) => show Calls Try.prog 31 #[.slice x len c, .int .i64 to] wx fun e w' => e = .returned (.tuple #[.int .i64 0, .int .i64 (-1)]) ∧ Gr wx w' from by have := u32_any hl hf (to : Int) (u8s_gr h hg); rw [g2] at this; exact this)
   have x1 : decide ((to : Int) ≥ 0) = true := decide_eq_true (by omega)
   clear h hf hl k1 k2 e0 g1 g2
   go_enter Try.func18, Try.ntmps18
   go_wp2_with fail
   have HS := Lib.hid (RfS.ini w #[.int .i64 op, .int .i64 0, .int .i64 0, .int .u64 0, .int .u64 0, .slice none 0 0])
   generalize (w.alloc (.cells #[.int .i64 op, .int .i64 0, .int .i64 0, .int .u64 0, .int .u64 0, .slice none 0 0] 38)).alloc (.cells #[.int .i64 0, .int .i64 0, .int .i64 0, .int .u64 0, .int .u64 0, .slice none 0 0] 38) = w1 at *
   refine RfS.cal HS.out (HU1.out w1 HS.out.gr) ?_
   intro w2 hg hs
   clear HS
   have HS := Lib.hid hs
   clear hg hs
   go_wp2_with fail
   refine RfS.cal HS.out (HU2.out w2 HS.out.gr) ?_
   intro w3 hg hs
   clear HS
   have HS := Lib.hid hs
   clear hg hs
   obtain ⟨i0, i1, i2, i3, i4, i5⟩ := cells6 HS.out.r6
   have fz0 := froz (HS.out).r6 1
   have fz1 := froz ((RfS.set HS.out 1 (.int .i64 n))).r6 2
   have R8 := Lib.hid (RfS.set (RfS.set HS.out 1 (.int .i64 n)) 2 (.int .i64 0))
   go_wp2_with fail
   refine RfS.cal R8.out (HDN.out _ _ _ _ _ _ _ _  _) ?_
   intro w8 hg hs
   clear R8
   have R8 := Lib.hid hs
   clear hg hs
   go_wp2_with (refine RfS.st R8.out rfl _ _ rfl rfl rfl rfl (by first | rfl | kernel_rfl) ?_; intro w9 he _; have HE9 := Lib.hid he; clear he)
   exact RfE.fin HE9.out rfl rfl rfl (by exact rfx_bad (by decide) HE9.out.gr)
 ·rw [k1]
  dsimp only
  rw [bn]
  dsimp only
  rw [b8]
  have HDY := Lib.hid done_y
  have HDN := Lib.hid done_n
  have HU8 := Lib.hid (fun wx (hg : Gr w wx) => u8s_gr h hg)
  have HP := Lib.hid (And.intro hp hl)
  have HF := Lib.hid hf
  have HU1 := Lib.hid (fun wx (hg : Gr w wx) => show Calls Try.prog 31 #[.slice x len c, .int .i64 p] wx fun e w' => e = .returned (.tuple #[.int .i64 0, .int .i64 (-1)]) ∧ Gr wx w' from by have := u32_any hl hf (p : Int) (u8s_gr h hg); rw [k2] at this; exact this)
  clear h hf hl k1 k2 e0
  go_enter Try.func18, Try.ntmps18
  go_wp2_with fail
  have HS := Lib.hid (RfS.ini w #[.int .i64 op, .int .i64 0, .int .i64 0, .int .u64 0, .int .u64 0, .slice none 0 0])
  generalize (w.alloc (.cells #[.int .i64 op, .int .i64 0, .int .i64 0, .int .u64 0, .int .u64 0, .slice none 0 0] 38)).alloc (.cells #[.int .i64 0, .int .i64 0, .int .i64 0, .int .u64 0, .int .u64 0, .slice none 0 0] 38) = w1 at *
  refine RfS.cal HS.out (HU1.out w1 HS.out.gr) ?_
  intro w2 hg hs
  clear HS
  have HS := Lib.hid hs
  clear hg hs
  obtain ⟨i0, i1, i2, i3, i4, i5⟩ := cells6 HS.out.r6
  have fz0 := froz (HS.out).r6 1
  have fz1 := froz ((RfS.set HS.out 1 (.int .i64 0))).r6 2
  have R8 := Lib.hid (RfS.set (RfS.set HS.out 1 (.int .i64 0)) 2 (.int .i64 0))
  go_wp2_with fail
  refine RfS.cal R8.out (HDN.out _ _ _ _ _ _ _ _  _) ?_
  intro w8 hg hs
  clear R8
  have R8 := Lib.hid hs
  clear hg hs
  go_wp2_with (refine RfS.st R8.out rfl _ _ rfl rfl rfl rfl (by first | rfl | kernel_rfl) ?_; intro w9 he _; have HE9 := Lib.hid he; clear he)
  exact RfE.fin HE9.out rfl rfl rfl (by exact rfx_bad (by decide) HE9.out.gr)
set_option maxRecDepth 100000 in
set_option maxHeartbeats 4000000 in
theorem rfld_9 {w : World} {op : Int} {sv : Value} {len p : Nat} {f : Nat → Int} (hl : len ≤ 1099511627776) (hf : By f) (h : U8s w sv len f) (hp : p ≤ len) :
  Calls Try.prog 18 #[sv, .int .i64 p, .agg #[.int .i64 op, .int .i64 0, .int .i64 0, .int .u64 0, .int .u64 0, .slice none 0 0], .int .i64 9] w (RFX w (fldS f len 9 op ⟨p, 0⟩)) := by
 have e0 : fldS f len 9 op ⟨p, 0⟩ = (⟨op, 0, 0, (sgnS f len 32 ⟨p, 0⟩).1 % 4294967296, 0, []⟩, (sgnS f len 32 ⟨p, 0⟩).2) := rfl
 rw [e0]
 have hok := sgnS_ok (f := f) (bits := 32) (s := ⟨p, 0⟩) (len := len) ⟨by dsimp only; omega, by dsimp only; omega⟩
 obtain ⟨x, c, rfl⟩ := u8s_slice h
 have hs : ∀ wx, Gr w wx → Calls Try.prog 39 #[.slice x len c, .int .i64 p, .int .i64 32] wx fun e w' => e = .returned (.tuple #[.int .i64 (sval (LebM.read true f len p 32).1 (LebM.read true f len p 32).2.1), .int .i64 (LebM.read true f len p 32).2.2.1, .int .i64 (LebM.read true f len p 32).2.2.2]) ∧ Gr wx w' := fun wx hg => rs_any _ len hl f hf p 32 wx (u8s_gr h hg)
 have hcs := sgn_cases f len p 32
 generalize sgnS f len 32 ⟨p, 0⟩ = q0 at *
 generalize LebM.read true f len p 32 = r at *
 obtain ⟨r1, r2, to, er⟩ := r
 dsimp only at hcs hs
 generalize sval r1 r2 = v at *
 rcases hcs with ⟨rfl, k2⟩ | ⟨k1, k2⟩
 ·subst k2
  have ht : 0 ≤ to := hok.lo
  have k2 := 0
  dsimp only
  have HDY := Lib.hid done_y
  have HDN := Lib.hid done_n
  have HU8 := Lib.hid (fun wx (hg : Gr w wx) => u8s_gr h hg)
  have HP := Lib.hid (And.intro hp hl)
  have HF := Lib.hid hf
  have HSG := Lib.hid (fun wx (hg : Gr w wx) => show Calls Try.prog 39 #[.slice x len c, .int .i64 p, .int .i64 32] wx fun e w' => e = .returned (.tuple #[.int .i64 v, .int .i64 to, .int .i64 0]) ∧ Gr wx w' from hs wx hg)
  have T1 : IntKind.u64.wrap v = v % 18446744073709551616 := by rw [IntKind.wrap_u64]
  have T2 : (v % 18446744073709551616).tmod 4294967296 = v % 4294967296 := by rw [Int.tmod_eq_emod_of_nonneg (by omega)]; omega
  have T3 : IntKind.u64.wrap (v % 4294967296) = v % 4294967296 := by rw [IntKind.wrap_u64]; omega
  have HT := Lib.hid ht
  obtain ⟨q, hq⟩ : ∃ q, v % 4294967296 = q := ⟨_, rfl⟩
  rw [hq] at T2 T3 ⊢
  obtain ⟨m, hm⟩ : ∃ m, v % 18446744073709551616 = m := ⟨_, rfl⟩
  rw [hm] at T1 T2
  clear hm
  clear h hf hl hs hq e0 k2 ht
  go_enter Try.func18, Try.ntmps18
  go_wp2_with fail
  have HS := Lib.hid (RfS.ini w #[.int .i64 op, .int .i64 0, .int .i64 0, .int .u64 0, .int .u64 0, .slice none 0 0])
  generalize (w.alloc (.cells #[.int .i64 op, .int .i64 0, .int .i64 0, .int .u64 0, .int .u64 0, .slice none 0 0] 38)).alloc (.cells #[.int .i64 0, .int .i64 0, .int .i64 0, .int .u64 0, .int .u64 0, .slice none 0 0] 38) = w1 at *
  refine RfS.cal HS.out (HSG.out w1 HS.out.gr) ?_
  intro w2 hg hs
  clear HS
  have HS := Lib.hid hs
  clear hg hs
  obtain ⟨i0, i1, i2, i3, i4, i5⟩ := cells6 HS.out.r6
  have fz0 := froz (HS.out).r6 3
  have R8 := Lib.hid (RfS.set HS.out 3 (.int .u64 q))
  go_wp2_with fail
  refine RfS.cal R8.out (HDY.out _ _ _ _ _ _ _ _ _ HT.out _) ?_
  intro w8 hg hs
  clear R8
  have R8 := Lib.hid hs
  clear hg hs
  go_wp2_with (refine RfS.st R8.out rfl _ _ rfl rfl rfl rfl (by first | rfl | kernel_rfl) ?_; intro w9 he _; have HE9 := Lib.hid he; clear he)
  exact RfE.fin HE9.out rfl rfl rfl (by exact rfx_ok HE9.out.gr)
 ·subst k2
  have k2 := 0
  dsimp only
  have HDY := Lib.hid done_y
  have HDN := Lib.hid done_n
  have HU8 := Lib.hid (fun wx (hg : Gr w wx) => u8s_gr h hg)
  have HP := Lib.hid (And.intro hp hl)
  have HF := Lib.hid hf
  have HSG := Lib.hid (fun wx (hg : Gr w wx) => show Calls Try.prog 39 #[.slice x len c, .int .i64 p, .int .i64 32] wx fun e w' => e = .returned (.tuple #[.int .i64 v, .int .i64 to, .int .i64 er]) ∧ Gr wx w' from hs wx hg)
  have n1 : (er != 0) = true := by simpa using k1
  have T1 : IntKind.u64.wrap v = v % 18446744073709551616 := by rw [IntKind.wrap_u64]
  have T2 : (v % 18446744073709551616).tmod 4294967296 = v % 4294967296 := by rw [Int.tmod_eq_emod_of_nonneg (by omega)]; omega
  have T3 : IntKind.u64.wrap (v % 4294967296) = v % 4294967296 := by rw [IntKind.wrap_u64]; omega
  obtain ⟨q, hq⟩ : ∃ q, v % 4294967296 = q := ⟨_, rfl⟩
  rw [hq] at T2 T3
  obtain ⟨m, hm⟩ : ∃ m, v % 18446744073709551616 = m := ⟨_, rfl⟩
  rw [hm] at T1 T2
  clear hm
  clear h hf hl hs hq e0 k2 k1
  go_enter Try.func18, Try.ntmps18
  go_wp2_with fail
  have HS := Lib.hid (RfS.ini w #[.int .i64 op, .int .i64 0, .int .i64 0, .int .u64 0, .int .u64 0, .slice none 0 0])
  generalize (w.alloc (.cells #[.int .i64 op, .int .i64 0, .int .i64 0, .int .u64 0, .int .u64 0, .slice none 0 0] 38)).alloc (.cells #[.int .i64 0, .int .i64 0, .int .i64 0, .int .u64 0, .int .u64 0, .slice none 0 0] 38) = w1 at *
  refine RfS.cal HS.out (HSG.out w1 HS.out.gr) ?_
  intro w2 hg hs
  clear HS
  have HS := Lib.hid hs
  clear hg hs
  obtain ⟨i0, i1, i2, i3, i4, i5⟩ := cells6 HS.out.r6
  have fz0 := froz (HS.out).r6 3
  have R8 := Lib.hid (RfS.set HS.out 3 (.int .u64 q))
  go_wp2_with fail
  refine RfS.cal R8.out (HDN.out _ _ _ _ _ _ _ _  _) ?_
  intro w8 hg hs
  clear R8
  have R8 := Lib.hid hs
  clear hg hs
  go_wp2_with (refine RfS.st R8.out rfl _ _ rfl rfl rfl rfl (by first | rfl | kernel_rfl) ?_; intro w9 he _; have HE9 := Lib.hid he; clear he)
  exact RfE.fin HE9.out rfl rfl rfl (by exact rfx_bad (by decide) HE9.out.gr)
set_option maxRecDepth 100000 in
set_option maxHeartbeats 4000000 in
theorem rfld_10 {w : World} {op : Int} {sv : Value} {len p : Nat} {f : Nat → Int} (hl : len ≤ 1099511627776) (hf : By f) (h : U8s w sv len f) (hp : p ≤ len) :
  Calls Try.prog 18 #[sv, .int .i64 p, .agg #[.int .i64 op, .int .i64 0, .int .i64 0, .int .u64 0, .int .u64 0, .slice none 0 0], .int .i64 10] w (RFX w (fldS f len 10 op ⟨p, 0⟩)) := by
 have e0 : fldS f len 10 op ⟨p, 0⟩ = (⟨op, 0, 0, (sgnS f len 64 ⟨p, 0⟩).1 % 18446744073709551616, 0, []⟩, (sgnS f len 64 ⟨p, 0⟩).2) := rfl
 rw [e0]
 have hok := sgnS_ok (f := f) (bits := 64) (s := ⟨p, 0⟩) (len := len) ⟨by dsimp only; omega, by dsimp only; omega⟩
 obtain ⟨x, c, rfl⟩ := u8s_slice h
 have hs : ∀ wx, Gr w wx → Calls Try.prog 39 #[.slice x len c, .int .i64 p, .int .i64 64] wx fun e w' => e = .returned (.tuple #[.int .i64 (sval (LebM.read true f len p 64).1 (LebM.read true f len p 64).2.1), .int .i64 (LebM.read true f len p 64).2.2.1, .int .i64 (LebM.read true f len p 64).2.2.2]) ∧ Gr wx w' := fun wx hg => rs_any _ len hl f hf p 64 wx (u8s_gr h hg)
 have hcs := sgn_cases f len p 64
 generalize sgnS f len 64 ⟨p, 0⟩ = q0 at *
 generalize LebM.read true f len p 64 = r at *
 obtain ⟨r1, r2, to, er⟩ := r
 dsimp only at hcs hs
 generalize sval r1 r2 = v at *
 rcases hcs with ⟨rfl, k2⟩ | ⟨k1, k2⟩
 ·subst k2
  have ht : 0 ≤ to := hok.lo
  have k2 := 0
  dsimp only
  have HDY := Lib.hid done_y
  have HDN := Lib.hid done_n
  have HU8 := Lib.hid (fun wx (hg : Gr w wx) => u8s_gr h hg)
  have HP := Lib.hid (And.intro hp hl)
  have HF := Lib.hid hf
  have HSG := Lib.hid (fun wx (hg : Gr w wx) => show Calls Try.prog 39 #[.slice x len c, .int .i64 p, .int .i64 64] wx fun e w' => e = .returned (.tuple #[.int .i64 v, .int .i64 to, .int .i64 0]) ∧ Gr wx w' from hs wx hg)
  have T1 : IntKind.u64.wrap v = v % 18446744073709551616 := by rw [IntKind.wrap_u64]
  have HT := Lib.hid ht
  obtain ⟨q, hq⟩ : ∃ q, v % 18446744073709551616 = q := ⟨_, rfl⟩
  rw [hq] at T1 ⊢
  clear h hf hl hs hq e0 k2 ht
  go_enter Try.func18, Try.ntmps18
  go_wp2_with fail
  have HS := Lib.hid (RfS.ini w #[.int .i64 op, .int .i64 0, .int .i64 0, .int .u64 0, .int .u64 0, .slice none 0 0])
  generalize (w.alloc (.cells #[.int .i64 op, .int .i64 0, .int .i64 0, .int .u64 0, .int .u64 0, .slice none 0 0] 38)).alloc (.cells #[.int .i64 0, .int .i64 0, .int .i64 0, .int .u64 0, .int .u64 0, .slice none 0 0] 38) = w1 at *
  refine RfS.cal HS.out (HSG.out w1 HS.out.gr) ?_
  intro w2 hg hs
  clear HS
  have HS := Lib.hid hs
  clear hg hs
  obtain ⟨i0, i1, i2, i3, i4, i5⟩ := cells6 HS.out.r6
  have fz0 := froz (HS.out).r6 3
  have R8 := Lib.hid (RfS.set HS.out 3 (.int .u64 q))
  go_wp2_with fail
  refine RfS.cal R8.out (HDY.out _ _ _ _ _ _ _ _ _ HT.out _) ?_
  intro w8 hg hs
  clear R8
  have R8 := Lib.hid hs
  clear hg hs
  go_wp2_with (refine RfS.st R8.out rfl _ _ rfl rfl rfl rfl (by first | rfl | kernel_rfl) ?_; intro w9 he _; have HE9 := Lib.hid he; clear he)
  exact RfE.fin HE9.out rfl rfl rfl (by exact rfx_ok HE9.out.gr)
 ·subst k2
  have k2 := 0
  dsimp only
  have HDY := Lib.hid done_y
  have HDN := Lib.hid done_n
  have HU8 := Lib.hid (fun wx (hg : Gr w wx) => u8s_gr h hg)
  have HP := Lib.hid (And.intro hp hl)
  have HF := Lib.hid hf
  have HSG := Lib.hid (fun wx (hg : Gr w wx) => show Calls Try.prog 39 #[.slice x len c, .int .i64 p, .int .i64 64] wx fun e w' => e = .returned (.tuple #[.int .i64 v, .int .i64 to, .int .i64 er]) ∧ Gr wx w' from hs wx hg)
  have n1 : (er != 0) = true := by simpa using k1
  have T1 : IntKind.u64.wrap v = v % 18446744073709551616 := by rw [IntKind.wrap_u64]
  obtain ⟨q, hq⟩ : ∃ q, v % 18446744073709551616 = q := ⟨_, rfl⟩
  rw [hq] at T1
  clear h hf hl hs hq e0 k2 k1
  go_enter Try.func18, Try.ntmps18
  go_wp2_with fail
  have HS := Lib.hid (RfS.ini w #[.int .i64 op, .int .i64 0, .int .i64 0, .int .u64 0, .int .u64 0, .slice none 0 0])
  generalize (w.alloc (.cells #[.int .i64 op, .int .i64 0, .int .i64 0, .int .u64 0, .int .u64 0, .slice none 0 0] 38)).alloc (.cells #[.int .i64 0, .int .i64 0, .int .i64 0, .int .u64 0, .int .u64 0, .slice none 0 0] 38) = w1 at *
  refine RfS.cal HS.out (HSG.out w1 HS.out.gr) ?_
  intro w2 hg hs
  clear HS
  have HS := Lib.hid hs
  clear hg hs
  obtain ⟨i0, i1, i2, i3, i4, i5⟩ := cells6 HS.out.r6
  have fz0 := froz (HS.out).r6 3
  have R8 := Lib.hid (RfS.set HS.out 3 (.int .u64 q))
  go_wp2_with fail
  refine RfS.cal R8.out (HDN.out _ _ _ _ _ _ _ _  _) ?_
  intro w8 hg hs
  clear R8
  have R8 := Lib.hid hs
  clear hg hs
  go_wp2_with (refine RfS.st R8.out rfl _ _ rfl rfl rfl rfl (by first | rfl | kernel_rfl) ?_; intro w9 he _; have HE9 := Lib.hid he; clear he)
  exact RfE.fin HE9.out rfl rfl rfl (by exact rfx_bad (by decide) HE9.out.gr)
set_option maxRecDepth 100000 in
set_option maxHeartbeats 4000000 in
theorem rfld_11 {w : World} {op : Int} {sv : Value} {len p : Nat} {f : Nat → Int} (hl : len ≤ 1099511627776) (hf : By f) (h : U8s w sv len f) (hp : p ≤ len) :
  Calls Try.prog 18 #[sv, .int .i64 p, .agg #[.int .i64 op, .int .i64 0, .int .i64 0, .int .u64 0, .int .u64 0, .slice none 0 0], .int .i64 11] w (RFX w (fldS f len 11 op ⟨p, 0⟩)) := by
 have HB := Lib.hid (fun wx (hg : Gr w wx) => rbytes_any (op := op) hl hf (u8s_gr h hg) hp 11 (by omega))
 obtain ⟨x, c, rfl⟩ := u8s_slice h
 generalize fldS f len 11 op ⟨p, 0⟩ = r at *
 obtain ⟨d, s1⟩ := r
 obtain ⟨sa, se⟩ := s1
 clear h hf hl
 go_enter Try.func18, Try.ntmps18
 go_wp2_with fail
 have HS := Lib.hid (RfS.ini w #[.int .i64 op, .int .i64 0, .int .i64 0, .int .u64 0, .int .u64 0, .slice none 0 0])
 generalize (w.alloc (.cells #[.int .i64 op, .int .i64 0, .int .i64 0, .int .u64 0, .int .u64 0, .slice none 0 0] 38)).alloc (.cells #[.int .i64 0, .int .i64 0, .int .i64 0, .int .u64 0, .int .u64 0, .slice none 0 0] 38) = w1 at *
 obtain ⟨i0, i1, i2, i3, i4, i5⟩ := cells6 HS.out.r6
 go_wp2_with fail
 refine (HB.out w1 HS.out.gr).mono ?_
 rintro e w2 (⟨he, Lv, rfl, hg, ho⟩ | ⟨he, x0, x1, x2, x3, x4, xs, n, c2, to, rfl, hg⟩)
 ·obtain ⟨xL, cL, rfl⟩ := own_slice ho
  have R8 := Lib.hid (HS.out.to hg)
  have HO := Lib.hid (own_base ho (show w.heap.size + 2 ≤ w1.heap.size from by have := (Array.getElem?_eq_some_iff.1 HS.out.r8).1; omega))
  have HE := Lib.hid he
  clear hg ho he
  go_wp2_with (refine RfS.st R8.out (R := inV d (.slice xL d.l.length cL)) rfl _ _ rfl rfl rfl rfl (inV_one _ _ _ _) ?_; intro w9 he hk; have HE9 := Lib.hid he; have HK9 := Lib.hid (hk HO.out (fun e => by have := HO.out.lt _ e; omega)); clear he hk)
  exact RfE.fin (R := inV d (.slice xL d.l.length cL)) HE9.out rfl rfl rfl (.inl ⟨HE.out, .slice xL d.l.length cL, rfl, HE9.out.gr, own_base HK9.out (by omega)⟩)
 ·have R8 := Lib.hid (HS.out.to hg)
  have HE := Lib.hid he
  clear hg he
  go_wp2_with (refine RfS.st R8.out rfl _ _ rfl rfl rfl rfl (by first | rfl | kernel_rfl) ?_; intro w9 he _; have HE9 := Lib.hid he; clear he)
  exact RfE.fin HE9.out rfl rfl rfl (by exact rfx_bad HE.out HE9.out.gr)
set_option maxRecDepth 100000 in
set_option maxHeartbeats 4000000 in
theorem rfld_12 {w : World} {op : Int} {sv : Value} {len p : Nat} {f : Nat → Int} (hl : len ≤ 1099511627776) (hf : By f) (h : U8s w sv len f) (hp : p ≤ len) :
  Calls Try.prog 18 #[sv, .int .i64 p, .agg #[.int .i64 op, .int .i64 0, .int .i64 0, .int .u64 0, .int .u64 0, .slice none 0 0], .int .i64 12] w (RFX w (fldS f len 12 op ⟨p, 0⟩)) := by
 have HB := Lib.hid (fun wx (hg : Gr w wx) => rbytes_any (op := op) hl hf (u8s_gr h hg) hp 12 (by omega))
 obtain ⟨x, c, rfl⟩ := u8s_slice h
 generalize fldS f len 12 op ⟨p, 0⟩ = r at *
 obtain ⟨d, s1⟩ := r
 obtain ⟨sa, se⟩ := s1
 clear h hf hl
 go_enter Try.func18, Try.ntmps18
 go_wp2_with fail
 have HS := Lib.hid (RfS.ini w #[.int .i64 op, .int .i64 0, .int .i64 0, .int .u64 0, .int .u64 0, .slice none 0 0])
 generalize (w.alloc (.cells #[.int .i64 op, .int .i64 0, .int .i64 0, .int .u64 0, .int .u64 0, .slice none 0 0] 38)).alloc (.cells #[.int .i64 0, .int .i64 0, .int .i64 0, .int .u64 0, .int .u64 0, .slice none 0 0] 38) = w1 at *
 obtain ⟨i0, i1, i2, i3, i4, i5⟩ := cells6 HS.out.r6
 go_wp2_with fail
 refine (HB.out w1 HS.out.gr).mono ?_
 rintro e w2 (⟨he, Lv, rfl, hg, ho⟩ | ⟨he, x0, x1, x2, x3, x4, xs, n, c2, to, rfl, hg⟩)
 ·obtain ⟨xL, cL, rfl⟩ := own_slice ho
  have R8 := Lib.hid (HS.out.to hg)
  have HO := Lib.hid (own_base ho (show w.heap.size + 2 ≤ w1.heap.size from by have := (Array.getElem?_eq_some_iff.1 HS.out.r8).1; omega))
  have HE := Lib.hid he
  clear hg ho he
  go_wp2_with (refine RfS.st R8.out (R := inV d (.slice xL d.l.length cL)) rfl _ _ rfl rfl rfl rfl (inV_one _ _ _ _) ?_; intro w9 he hk; have HE9 := Lib.hid he; have HK9 := Lib.hid (hk HO.out (fun e => by have := HO.out.lt _ e; omega)); clear he hk)
  exact RfE.fin (R := inV d (.slice xL d.l.length cL)) HE9.out rfl rfl rfl (.inl ⟨HE.out, .slice xL d.l.length cL, rfl, HE9.out.gr, own_base HK9.out (by omega)⟩)
 ·have R8 := Lib.hid (HS.out.to hg)
  have HE := Lib.hid he
  clear hg he
  go_wp2_with (refine RfS.st R8.out rfl _ _ rfl rfl rfl rfl (by first | rfl | kernel_rfl) ?_; intro w9 he _; have HE9 := Lib.hid he; clear he)
  exact RfE.fin HE9.out rfl rfl rfl (by exact rfx_bad HE.out HE9.out.gr)
set_option maxRecDepth 100000 in
set_option maxHeartbeats 4000000 in
theorem rfld_13 {w : World} {op : Int} {sv : Value} {len p : Nat} {f : Nat → Int} (hl : len ≤ 1099511627776) (hf : By f) (h : U8s w sv len f) (hp : p ≤ len) :
  Calls Try.prog 18 #[sv, .int .i64 p, .agg #[.int .i64 op, .int .i64 0, .int .i64 0, .int .u64 0, .int .u64 0, .slice none 0 0], .int .i64 13] w (RFX w (fldS f len 13 op ⟨p, 0⟩)) := by
 have HB := Lib.hid (fun wx (hg : Gr w wx) => rbytes_any (op := op) hl hf (u8s_gr h hg) hp 13 (by omega))
 obtain ⟨x, c, rfl⟩ := u8s_slice h
 generalize fldS f len 13 op ⟨p, 0⟩ = r at *
 obtain ⟨d, s1⟩ := r
 obtain ⟨sa, se⟩ := s1
 clear h hf hl
 go_enter Try.func18, Try.ntmps18
 go_wp2_with fail
 have HS := Lib.hid (RfS.ini w #[.int .i64 op, .int .i64 0, .int .i64 0, .int .u64 0, .int .u64 0, .slice none 0 0])
 generalize (w.alloc (.cells #[.int .i64 op, .int .i64 0, .int .i64 0, .int .u64 0, .int .u64 0, .slice none 0 0] 38)).alloc (.cells #[.int .i64 0, .int .i64 0, .int .i64 0, .int .u64 0, .int .u64 0, .slice none 0 0] 38) = w1 at *
 obtain ⟨i0, i1, i2, i3, i4, i5⟩ := cells6 HS.out.r6
 go_wp2_with fail
 refine (HB.out w1 HS.out.gr).mono ?_
 rintro e w2 (⟨he, Lv, rfl, hg, ho⟩ | ⟨he, x0, x1, x2, x3, x4, xs, n, c2, to, rfl, hg⟩)
 ·obtain ⟨xL, cL, rfl⟩ := own_slice ho
  have R8 := Lib.hid (HS.out.to hg)
  have HO := Lib.hid (own_base ho (show w.heap.size + 2 ≤ w1.heap.size from by have := (Array.getElem?_eq_some_iff.1 HS.out.r8).1; omega))
  have HE := Lib.hid he
  clear hg ho he
  go_wp2_with (refine RfS.st R8.out (R := inV d (.slice xL d.l.length cL)) rfl _ _ rfl rfl rfl rfl (inV_one _ _ _ _) ?_; intro w9 he hk; have HE9 := Lib.hid he; have HK9 := Lib.hid (hk HO.out (fun e => by have := HO.out.lt _ e; omega)); clear he hk)
  exact RfE.fin (R := inV d (.slice xL d.l.length cL)) HE9.out rfl rfl rfl (.inl ⟨HE.out, .slice xL d.l.length cL, rfl, HE9.out.gr, own_base HK9.out (by omega)⟩)
 ·have R8 := Lib.hid (HS.out.to hg)
  have HE := Lib.hid he
  clear hg he
  go_wp2_with (refine RfS.st R8.out rfl _ _ rfl rfl rfl rfl (by first | rfl | kernel_rfl) ?_; intro w9 he _; have HE9 := Lib.hid he; clear he)
  exact RfE.fin HE9.out rfl rfl rfl (by exact rfx_bad HE.out HE9.out.gr)
set_option maxRecDepth 100000 in
set_option maxHeartbeats 4000000 in
theorem rfld_14 {w : World} {op : Int} {sv : Value} {len p : Nat} {f : Nat → Int} (hl : len ≤ 1099511627776) (hf : By f) (h : U8s w sv len f) (hp : p ≤ len) :
  Calls Try.prog 18 #[sv, .int .i64 p, .agg #[.int .i64 op, .int .i64 0, .int .i64 0, .int .u64 0, .int .u64 0, .slice none 0 0], .int .i64 14] w (RFX w (fldS f len 14 op ⟨p, 0⟩)) := by
 have HB := Lib.hid (fun wx (hg : Gr w wx) => rbytes_any (op := op) hl hf (u8s_gr h hg) hp 14 (by omega))
 obtain ⟨x, c, rfl⟩ := u8s_slice h
 generalize fldS f len 14 op ⟨p, 0⟩ = r at *
 obtain ⟨d, s1⟩ := r
 obtain ⟨sa, se⟩ := s1
 clear h hf hl
 go_enter Try.func18, Try.ntmps18
 go_wp2_with fail
 have HS := Lib.hid (RfS.ini w #[.int .i64 op, .int .i64 0, .int .i64 0, .int .u64 0, .int .u64 0, .slice none 0 0])
 generalize (w.alloc (.cells #[.int .i64 op, .int .i64 0, .int .i64 0, .int .u64 0, .int .u64 0, .slice none 0 0] 38)).alloc (.cells #[.int .i64 0, .int .i64 0, .int .i64 0, .int .u64 0, .int .u64 0, .slice none 0 0] 38) = w1 at *
 obtain ⟨i0, i1, i2, i3, i4, i5⟩ := cells6 HS.out.r6
 go_wp2_with fail
 refine (HB.out w1 HS.out.gr).mono ?_
 rintro e w2 (⟨he, Lv, rfl, hg, ho⟩ | ⟨he, x0, x1, x2, x3, x4, xs, n, c2, to, rfl, hg⟩)
 ·obtain ⟨xL, cL, rfl⟩ := own_slice ho
  have R8 := Lib.hid (HS.out.to hg)
  have HO := Lib.hid (own_base ho (show w.heap.size + 2 ≤ w1.heap.size from by have := (Array.getElem?_eq_some_iff.1 HS.out.r8).1; omega))
  have HE := Lib.hid he
  clear hg ho he
  go_wp2_with (refine RfS.st R8.out (R := inV d (.slice xL d.l.length cL)) rfl _ _ rfl rfl rfl rfl (inV_one _ _ _ _) ?_; intro w9 he hk; have HE9 := Lib.hid he; have HK9 := Lib.hid (hk HO.out (fun e => by have := HO.out.lt _ e; omega)); clear he hk)
  exact RfE.fin (R := inV d (.slice xL d.l.length cL)) HE9.out rfl rfl rfl (.inl ⟨HE.out, .slice xL d.l.length cL, rfl, HE9.out.gr, own_base HK9.out (by omega)⟩)
 ·have R8 := Lib.hid (HS.out.to hg)
  have HE := Lib.hid he
  clear hg he
  go_wp2_with (refine RfS.st R8.out rfl _ _ rfl rfl rfl rfl (by first | rfl | kernel_rfl) ?_; intro w9 he _; have HE9 := Lib.hid he; clear he)
  exact RfE.fin HE9.out rfl rfl rfl (by exact rfx_bad HE.out HE9.out.gr)
def tabR (f : Nat → Int) (len : Nat) : Nat → List Int → Int → List Int × Int
 | 0, l, t => (l, t)
 | k + 1, l, t => if t < 0 then (l, t) else tabR f len k (l ++ [(u32S f len t).1]) (u32S f len t).2
theorem tabR_neg (f : Nat → Int) (len k : Nat) (l : List Int) : tabR f len k l (-1) = (l, -1) := by
 cases k with
 | zero => rfl
 | succ k => rw [tabR, if_pos (by decide)]
theorem tab_rel {f : Nat → Int} (hf : By f) {len : Nat} : ∀ (k : Nat) (l : List Int) (a : Nat), a ≤ len → (∃ (l' : List Int) (t' : Nat), t' ≤ len ∧ tabS f len k l ⟨a, 0⟩ = (l', ⟨t', 0⟩) ∧ tabR f len k l a = (l', (t' : Int))) ∨ ((∃ l' x, tabS f len k l ⟨a, 0⟩ = (l', ⟨x, 10⟩)) ∧ ∃ l', tabR f len k l a = (l', -1))
 | 0, l, a, h => .inl ⟨l, a, h, rfl, rfl⟩
 | k + 1, l, a, h => by
  rw [tabS, tabR]
  dsimp only
  rw [if_pos rfl, if_neg (by omega)]
  rcases u32_cases hf h with ⟨n, to, k1, k2, _, _, k5⟩ | ⟨k1, k2⟩
  ·rw [k1, k2]
   exact tab_rel hf k _ to k5
  ·rw [k1, k2]
   dsimp only
   right
   refine ⟨⟨l ++ [0], a, ?_⟩, l ++ [0], tabR_neg ..⟩
   cases k with
   | zero => rfl
   | succ k => rw [tabS]; exact if_neg (by simp)
set_option maxRecDepth 100000 in
set_option maxHeartbeats 4000000 in
theorem rfld_4 {w : World} {op : Int} {sv : Value} {len p : Nat} {f : Nat → Int} (hl : len ≤ 1099511627776) (hf : By f) (h : U8s w sv len f) (hp : p ≤ len) :
  Calls Try.prog 18 #[sv, .int .i64 p, .agg #[.int .i64 op, .int .i64 0, .int .i64 0, .int .u64 0, .int .u64 0, .slice none 0 0], .int .i64 4] w (RFX w (fldS f len 4 op ⟨p, 0⟩)) := by
 have e0 : fldS f len 4 op ⟨p, 0⟩ = (⟨op, (numS f len (tabS f len (numS f len ⟨p, 0⟩).1.toNat [] (numS f len ⟨p, 0⟩).2).2).1, 0, 0, 0, (tabS f len (numS f len ⟨p, 0⟩).1.toNat [] (numS f len ⟨p, 0⟩).2).1⟩, (numS f len (tabS f len (numS f len ⟨p, 0⟩).1.toNat [] (numS f len ⟨p, 0⟩).2).2).2) := rfl
 have bn : ∀ (z : Int), numS f len ⟨z, 10⟩ = (0, ⟨z, 10⟩) := fun z => by unfold numS; rw [if_pos (.inl (by simp))]; rfl
 obtain ⟨x, c, rfl⟩ := u8s_slice h
 obtain ⟨m, t0, hu, hm, ht0, hfin⟩ : ∃ (m : Nat) (t0 : Int), u32S f len p = ((m : Int), t0) ∧ m < 4294967296 ∧ (t0 = -1 ∨ ∃ tn : Nat, t0 = tn ∧ tn ≤ len) ∧
   ((∃ (l' : List Int) (t' : Nat), tabR f len m [] t0 = (l', (t' : Int)) ∧ fldS f len 4 op ⟨p, 0⟩ = (⟨op, (numS f len ⟨t', 0⟩).1, 0, 0, 0, l'⟩, (numS f len ⟨t', 0⟩).2)) ∨
    ((tabR f len m [] t0).2 = -1 ∧ ∃ d z, fldS f len 4 op ⟨p, 0⟩ = (d, ⟨z, 10⟩))) := by
  rcases u32_cases hf hp with ⟨n, to, k1, k2, k3, k4, k5⟩ | ⟨k1, k2⟩
  ·obtain ⟨m, rfl⟩ := Int.eq_ofNat_of_zero_le k3
   refine ⟨m, to, k2, by omega, .inr ⟨to, rfl, k5⟩, ?_⟩
   rw [e0, k1]
   dsimp only
   rw [Int.toNat_natCast]
   rcases tab_rel hf m [] to k5 with ⟨l', t', h1, h2, h3⟩ | ⟨⟨l1, z, h1⟩, l2, h2⟩
   ·rw [h2, h3]
    exact .inl ⟨l', t', rfl, rfl⟩
   ·rw [h1, h2]
    dsimp only
    rw [bn]
    exact .inr ⟨rfl, _, _, rfl⟩
  ·refine ⟨0, -1, k2, by omega, .inl rfl, .inr ⟨rfl, ?_⟩⟩
   rw [e0, k1]
   dsimp only
   rw [show tabS f len (0 : Int).toNat [] ⟨p, 10⟩ = ([], ⟨(p : Int), 10⟩) from rfl]
   dsimp only
   rw [bn]
   exact ⟨_, _, rfl⟩
 obtain ⟨R, hR⟩ : ∃ R, tabR f len m [] t0 = R := ⟨_, rfl⟩
 rw [hR] at hfin
 obtain ⟨FF, hFF⟩ : ∃ FF, fldS f len 4 op ⟨p, 0⟩ = FF := ⟨_, rfl⟩
 rw [hFF] at hfin ⊢
 have HR0 := Lib.hid hR
 have HM := Lib.hid hm
 have HT0 := Lib.hid ht0
 have HFA := Lib.hid (show ∀ (l : List Int) (t : Nat), t ≤ len → R = (l, (t : Int)) → FF = (⟨op, (numS f len ⟨t, 0⟩).1, 0, 0, 0, l⟩, (numS f len ⟨t, 0⟩).2) from fun l t _ hr => by
  rcases hfin with ⟨l', t', h1, h2⟩ | ⟨h1, _⟩
  ·rw [hr] at h1
   obtain ⟨rfl, h3⟩ := Prod.mk.inj h1
   obtain rfl : t = t' := by omega
   exact h2
  ·rw [hr] at h1; dsimp only at h1; omega)
 have HFC0 : R.2 = -1 → ∃ d z, FF = (d, ⟨z, 10⟩) := fun hr => by
  rcases hfin with ⟨l', t', h1, h2⟩ | ⟨_, h1⟩
  ·rw [h1] at hr; dsimp only at hr; omega
  ·exact h1
 have HU1 := Lib.hid (fun wx (hg : Gr w wx) => show Calls Try.prog 31 #[.slice x len c, .int .i64 p] wx fun e w' => e = .returned (.tuple #[.int .i64 m, .int .i64 t0]) ∧ Gr wx w' from by have := u32_any hl hf (p : Int) (u8s_gr h hg); rw [hu] at this; exact this)
 have HUA := Lib.hid (fun (t : Nat) wx (hg : Gr w wx) => u32_any hl hf (t : Int) (u8s_gr h hg))
 obtain ⟨dB, zB, HFC0'⟩ : ∃ dB zB, R.2 = -1 → FF = (dB, ⟨zB, 10⟩) := by
  by_cases hr : R.2 = -1
  ·obtain ⟨d, z, h⟩ := HFC0 hr
   exact ⟨d, z, fun _ => h⟩
  ·exact ⟨nul 0, 0, fun h => absurd h hr⟩
 have HFC := Lib.hid HFC0'
 have HDY := Lib.hid done_y
 have HDN := Lib.hid done_n
 have HU8 := Lib.hid (fun wx (hg : Gr w wx) => u8s_gr h hg)
 have HP := Lib.hid (And.intro hp hl)
 have HF := Lib.hid hf
 clear h hf hl hp hu hm ht0 hfin hR hFF HFC0 HFC0' e0 bn
 obtain ⟨iz, hi, hz0, hz1, hz2⟩ := info_parts infoZ
 have HI0 := Lib.hid hi
 have HZ00 := Lib.hid hz0
 have HZ10 := Lib.hid hz1
 have HZ20 := Lib.hid hz2
 clear hi hz0 hz1 hz2
 go_enter Try.func18, Try.ntmps18
 go_wp2_with fail
 have HS := Lib.hid (RfS.ini w #[.int .i64 op, .int .i64 0, .int .i64 0, .int .u64 0, .int .u64 0, .slice none 0 0])
 generalize (w.alloc (.cells #[.int .i64 op, .int .i64 0, .int .i64 0, .int .u64 0, .int .u64 0, .slice none 0 0] 38)).alloc (.cells #[.int .i64 0, .int .i64 0, .int .i64 0, .int .u64 0, .int .u64 0, .slice none 0 0] 38) = w1 at *
 refine RfS.cal HS.out (HU1.out w1 HS.out.gr) ?_
 intro w2 hg hs
 clear HS
 have HS := Lib.hid hs
 clear hg hs
 go_wp2_with fail
 go_loopw [15, 16] (fun tv lv wr => ∃ (l : List Int) (t : Int) (xl : Option Addr) (cl : Nat), tv = .int .i64 t ∧ lv = .int .i64 l.length ∧ l.length ≤ m ∧ tabR f len (m - l.length) l t = R ∧ (t = -1 ∨ ∃ tn : Nat, t = tn ∧ tn ≤ len) ∧ RfS w wr #[.int .i64 op, .int .i64 0, .int .i64 0, .int .u64 0, .int .u64 0, .slice xl l.length cl] ∧ wr.ownsRow (w.heap.size + 2) 3 1 (.slice xl l.length cl) l.length (ivs l)) (fun _ lv _ => m - (intOf lv).toNat)
 case atStart => exact ⟨[], t0, none, 0, rfl, rfl, by simp, HR0.out, HT0.out, HS.out, World.ownsRow_nil _ _ _ _⟩
 case round =>
  obtain ⟨l, t, xl, cl, rfl, rfl, hk, htr, ht, hs, hown⟩ := hrel
  by_cases hx : l.length < m ∧ 0 ≤ t
  ·obtain ⟨tn, rfl, htn⟩ : ∃ tn : Nat, t = tn ∧ tn ≤ len := by
    rcases ht with rfl | h
    ·omega
    ·exact h
   have d0 : decide ((l.length : Int) < (m : Int)) = true := decide_eq_true (by omega)
   have dn : decide (l.length < m) = true := decide_eq_true (by omega)
   have d1 : decide ((tn : Int) ≥ 0) = true := decide_eq_true (by omega)
   obtain ⟨j, hj⟩ : ∃ j, m - l.length = j + 1 := ⟨m - l.length - 1, by omega⟩
   rw [hj, tabR, if_neg (by omega)] at htr
   have hcs := u32_cases HF.out htn
   have HUk := Lib.hid (HUA.out tn)
   generalize u32S f len (tn : Int) = q at *
   obtain ⟨y, t2⟩ := q
   have ht2 : t2 = -1 ∨ ∃ tn : Nat, t2 = tn ∧ tn ≤ len := by
    rcases hcs with ⟨n, to, _, k2, _, _, k5⟩ | ⟨_, k2⟩
    ·exact .inr ⟨to, (Prod.mk.inj k2).2, k5⟩
    ·exact .inl (Prod.mk.inj k2).2
   dsimp only at htr
   have HTR := Lib.hid htr
   have HT2 := Lib.hid ht2
   have HX := Lib.hid hx
   have HJ := Lib.hid hj
   have HS := Lib.hid hs
   have HO := Lib.hid hown
   clear htr ht2 hj hs hown hcs ht hk htn
   obtain ⟨hx1, hx2⟩ := hx
   have hx3 : (l.length : Int) < (m : Int) := by omega
   have T3 : IntKind.i64.wrap ((l.length : Int) + 1) = (l.length : Int) + 1 := by have := HM.out; rw [IntKind.wrap_i64]; omega
   have T4 : wrap64 ((l.length : Int) + 1) = (l.length : Int) + 1 := by have := HM.out; unfold wrap64; omega
   go_wp2_with fail
   refine RfS.cal HS.out (HUk.out wr HS.out.gr) ?_
   intro w2 hg hs
   have HO2 := Lib.hid (own_gr HO.out hg)
   clear HS HO
   have HS := Lib.hid hs
   have HO := HO2
   clear hg hs
   obtain ⟨i0, i1, i2, i3, i4, i5⟩ := cells6 HS.out.r6
   go_wp2_with (at_builtin; refine wpList_append_at rfl _ _ 36 rfl (w.heap.size + 2) 3 iz (.int .i64 0) 1 8 Try.underlying36 HI0.out HZ00.out HZ10.out HZ20.out rfl (by decide) (.slice xl l.length cl) l.length (ivs l) rfl (World.ownsRow.alloc HO.out _) (.slice (some ⟨w2.heap.size, 0, none⟩) 1 1) 1 [.int .i64 y] rfl (src_lit w2 #[.int .i64 y] 3 1 1) rfl (fun u hu => by simp at hu; subst hu; rfl) ?c3 ?c4 ?c5 ?_)
   case c3 => have := HX.out; have := HM.out; unfold maxLen; omega
   case c4 => have := HX.out; have := HM.out; omega
   case c5 => have := (Array.getElem?_eq_some_iff.1 HS.out.r8).1; simp; omega
   intro v' w3 hown2 hgb hblk
   obtain ⟨x9, c9, rfl⟩ := own_slice hown2
   have hs3 : Sep (fun q => (Value.slice xl l.length cl).ownBlock = some q) w2 w3 := Sep.trans (Sep.of_gr ((Gr.refl w2).alloc _ _)) (Sep.grown hgb fun q hq => hq)
   have HS3 := Lib.hid (show RfS w w3 _ from ⟨hs3.at_ (fun e => by have := HO.out.lt _ e; omega) HS.out.r6, hs3.at_ (fun e => by have := HO.out.lt _ e; omega) HS.out.r8, Sep.toGr HS.out.gr hs3 (fun q hq => by have := HO.out.lt q hq; omega)⟩)
   obtain ⟨j0, j1, j2, j3, j4, j5⟩ := cells6 HS3.out.r6
   have fz := froz HS3.out.r6 5
   have HKS := Lib.hid (RfS.set HS3.out 5 (.slice x9 (l.length + 1) c9))
   have HKO := Lib.hid ((Sep.setCell (ex := fun q => q = w.heap.size) w3 (p := ⟨w.heap.size, 5, none⟩) rfl (.slice x9 (l.length + 1) c9)).owns hown2 (fun q hq e => by have e' : q = w.heap.size := e; have := hown2.lt q hq; omega))
   clear hown2 hgb hblk hs3 i0 i1 i2 i3 i4 i5
   go_wp2
   have HLL : (l ++ [y]).length = l.length + 1 := by simp
   refine ⟨⟨l ++ [y], t2, x9, c9, rfl, ?_, by rw [HLL]; exact HX.out.1, ?_, HT2.out, by rw [HLL]; exact HKS.out, by rw [HLL, ivs_app]; exact HKO.out⟩, by have := HX.out; have := T4; simp [intOf]; omega⟩
   ·rw [HLL]; first | rfl | (rw [T4]; rfl) | go_num
   ·rw [HLL, show m - (l.length + 1) = j by have := HJ.out; omega]; exact HTR.out
  ·have hre : R = (l, t) := by
    rw [← htr]
    by_cases hlm : l.length < m
    ·have ht1 : t = -1 := by omega
     rw [ht1, tabR_neg]
    ·rw [show m - l.length = 0 by omega]; rfl
   have HS := Lib.hid hs
   have HO := Lib.hid hown
   clear htr hs hown
   by_cases hlm : l.length < m
   ·have d0 : decide ((l.length : Int) < (m : Int)) = true := decide_eq_true (by omega)
    have dn : decide (l.length < m) = true := decide_eq_true (by omega)
    obtain rfl : t = -1 := by omega
    have HBAD := Lib.hid (HFC.out (by rw [hre]))
    clear hre hx hlm hk ht HFC HFA
    obtain ⟨i0, i1, i2, i3, i4, i5⟩ := cells6 HS.out.r6
    have R8 := Lib.hid HS.out
    go_wp2_with fail
    refine RfS.cal R8.out (HDN.out _ _ _ _ _ _ _ _ _) ?_
    intro w8 hg hs
    clear R8
    have R8 := Lib.hid hs
    clear hg hs
    go_wp2_with (refine RfS.st R8.out rfl _ _ rfl rfl rfl rfl (by first | rfl | kernel_rfl) ?_; intro w9 he _; have HE9 := Lib.hid he; clear he)
    rw [HBAD.out]
    exact RfE.fin HE9.out rfl rfl rfl (by exact rfx_bad (by decide) HE9.out.gr)
   ·have d0 : decide ((l.length : Int) < (m : Int)) = false := decide_eq_false (by omega)
    have dn : decide (l.length < m) = false := decide_eq_false (by omega)
    rcases ht with rfl | ⟨tn, rfl, htn⟩
    ·have HBAD := Lib.hid (HFC.out (by rw [hre]))
     clear hre hx hlm hk HFC HFA
     obtain ⟨i0, i1, i2, i3, i4, i5⟩ := cells6 HS.out.r6
     have R8 := Lib.hid HS.out
     go_wp2_with fail
     refine RfS.cal R8.out (HDN.out _ _ _ _ _ _ _ _ _) ?_
     intro w8 hg hs
     clear R8
     have R8 := Lib.hid hs
     clear hg hs
     go_wp2_with (refine RfS.st R8.out rfl _ _ rfl rfl rfl rfl (by first | rfl | kernel_rfl) ?_; intro w9 he _; have HE9 := Lib.hid he; clear he)
     rw [HBAD.out]
     exact RfE.fin HE9.out rfl rfl rfl (by exact rfx_bad (by decide) HE9.out.gr)
    ·have hfa := HFA.out l tn htn hre
     have d1 : decide ((tn : Int) ≥ 0) = true := decide_eq_true (by omega)
     rcases u32_cases HF.out htn with ⟨n2, t2, g1, g2, g3, g4, g5⟩ | ⟨g1, g2⟩
     ·have HU2 := Lib.hid (fun wx (hg : Gr w wx) => show Calls Try.prog 31 #[.slice x len c, .int .i64 tn] wx fun e w' => e = .returned (.tuple #[.int .i64 n2, .int .i64 t2]) ∧ Gr wx w' from by have := HUA.out tn wx hg; rw [g2] at this; exact this)
      rw [g1] at hfa
      have HOKA := Lib.hid hfa
      clear hre hx hlm hk HFC HFA HUA hfa g1 g2 htn
      go_wp2_with fail
      refine RfS.cal HS.out (HU2.out wr HS.out.gr) ?_
      intro w3 hg hs
      have HOb := Lib.hid (own_gr HO.out hg)
      clear HS HO
      have HS := Lib.hid hs
      have HO := HOb
      clear hg hs HOb
      obtain ⟨i0, i1, i2, i3, i4, i5⟩ := cells6 HS.out.r6
      have fz0 := froz (HS.out).r6 1
      have R8 := Lib.hid (RfS.set HS.out 1 (.int .i64 n2))
      have HOS := Lib.hid ((Sep.setCell (ex := fun q => q = w.heap.size) w3 (p := ⟨w.heap.size, 1, none⟩) rfl (.int .i64 n2)).owns HO.out (fun q hq e => by have e' : q = w.heap.size := e; have := HO.out.lt q hq; omega))
      go_wp2_with fail
      refine RfS.cal R8.out (HDY.out _ _ _ _ _ _ _ _ _ (by omega) _) ?_
      intro w8 hg hs
      have HO8 := Lib.hid (own_gr HOS.out hg)
      clear R8
      have R8 := Lib.hid hs
      clear hg hs
      go_wp2_with (refine RfS.st R8.out rfl _ _ rfl rfl rfl rfl (by kernel_rfl) ?_; intro w9 he hk; have HE9 := Lib.hid he; have HK9 := Lib.hid (hk HO8.out (fun e => by have := HO8.out.lt _ e; omega)); clear he hk)
      rw [HOKA.out]
      exact RfE.fin HE9.out rfl rfl rfl (.inl ⟨rfl, .slice xl l.length cl, rfl, HE9.out.gr, own_base HK9.out (by omega)⟩)
     ·have HU2 := Lib.hid (fun wx (hg : Gr w wx) => show Calls Try.prog 31 #[.slice x len c, .int .i64 tn] wx fun e w' => e = .returned (.tuple #[.int .i64 0, .int .i64 (-1)]) ∧ Gr wx w' from by have := HUA.out tn wx hg; rw [g2] at this; exact this)
      rw [g1] at hfa
      have HBAD := Lib.hid hfa
      clear hre hx hlm hk HFC HFA HUA hfa g1 g2 htn
      go_wp2_with fail
      refine RfS.cal HS.out (HU2.out wr HS.out.gr) ?_
      intro w3 hg hs
      have HOb := Lib.hid (own_gr HO.out hg)
      clear HS HO
      have HS := Lib.hid hs
      have HO := HOb
      clear hg hs HOb
      obtain ⟨i0, i1, i2, i3, i4, i5⟩ := cells6 HS.out.r6
      have fz0 := froz (HS.out).r6 1
      have R8 := Lib.hid (RfS.set HS.out 1 (.int .i64 0))
      have HOS := Lib.hid ((Sep.setCell (ex := fun q => q = w.heap.size) w3 (p := ⟨w.heap.size, 1, none⟩) rfl (.int .i64 0)).owns HO.out (fun q hq e => by have e' : q = w.heap.size := e; have := HO.out.lt q hq; omega))
      go_wp2_with fail
      refine RfS.cal R8.out (HDN.out _ _ _ _ _ _ _ _  _) ?_
      intro w8 hg hs
      have HO8 := Lib.hid (own_gr HOS.out hg)
      clear R8
      have R8 := Lib.hid hs
      clear hg hs
      go_wp2_with (refine RfS.st R8.out rfl _ _ rfl rfl rfl rfl (by first | rfl | kernel_rfl) ?_; intro w9 he _; have HE9 := Lib.hid he; clear he)
      rw [HBAD.out]
      exact RfE.fin HE9.out rfl rfl rfl (by exact rfx_bad (by decide) HE9.out.gr)
theorem rfields_any {w : World} {op : Int} {sv : Value} {len p : Nat} {f : Nat → Int} (hl : len ≤ 1099511627776) (hf : By f) (h : U8s w sv len f) (hp : p ≤ len) (form : Int) (hF : 1 ≤ form ∧ form ≤ 14) :
  Calls Try.prog 18 #[sv, .int .i64 p, .agg #[.int .i64 op, .int .i64 0, .int .i64 0, .int .u64 0, .int .u64 0, .slice none 0 0], .int .i64 form] w (RFX w (fldS f len form op ⟨p, 0⟩)) := by
 have hc : form = 1 ∨ form = 2 ∨ form = 3 ∨ form = 4 ∨ form = 5 ∨ form = 6 ∨ form = 7 ∨ form = 8 ∨ form = 9 ∨ form = 10 ∨ form = 11 ∨ form = 12 ∨ form = 13 ∨ form = 14 := by omega
 rcases hc with rfl | rfl | rfl | rfl | rfl | rfl | rfl | rfl | rfl | rfl | rfl | rfl | rfl | rfl
 ·exact rfld_1 hl hf h hp
 ·exact rfld_2 hl hf h hp
 ·exact rfld_3 hl hf h hp
 ·exact rfld_4 hl hf h hp
 ·exact rfld_5 hl hf h hp
 ·exact rfld_6 hl hf h hp
 ·exact rfld_7 hl hf h hp
 ·exact rfld_8 hl hf h hp
 ·exact rfld_9 hl hf h hp
 ·exact rfld_10 hl hf h hp
 ·exact rfld_11 hl hf h hp
 ·exact rfld_12 hl hf h hp
 ·exact rfld_13 hl hf h hp
 ·exact rfld_14 hl hf h hp
end Ex
end
section
open Go.RowKit VecM LebM
namespace Ex
theorem rows_two : (Ins.rowT.all fun r => !(r.f == 2) || (decide (2 ≤ r.lo) && decide (r.hi ≤ 4))) = true := by kernel_rfl
theorem fm_2 : fm 2 = 2 := by kernel_rfl
theorem fm_3 : fm 3 = 2 := by kernel_rfl
theorem fm_4 : fm 4 = 2 := by kernel_rfl
theorem fm_two {op : Int} : fm op = 2 ↔ 2 ≤ op ∧ op ≤ 4 := by
 constructor
 ·intro h
  unfold fm at h
  cases hr : Ins.rowT.find? (fun r => decide (r.lo ≤ op) && decide (op ≤ r.hi)) with
  | none => rw [hr] at h; cases h
  | some r =>
   rw [hr] at h
   have h1 := List.find?_some hr
   have h2 := List.all_eq_true.1 rows_two r (List.mem_of_find?_eq_some hr)
   have h3 : r.f = 2 := h
   rw [h3] at h2
   simp at h1 h2
   omega
 ·intro h
  have : op = 2 ∨ op = 3 ∨ op = 4 := by omega
  rcases this with rfl | rfl | rfl
  ·exact fm_2
  ·exact fm_3
  ·exact fm_4
theorem insR_bad {f : Nat → Int} {len : Nat} {a : Int} {N : List Int} (hf : By f) (h : (opR f len a).2.2 ≠ 0) : (insS f len ⟨a, 0⟩ N false).2.1.e = (opR f len a).2.2 := by
 have hb := opcS_bd hf (len := len) ⟨a, 0⟩
 unfold opR at h ⊢
 unfold insS
 generalize opcS f len ⟨a, 0⟩ = q at *
 obtain ⟨op, sa, se⟩ := q
 dsimp only at *
 by_cases hs : (opSt op ⟨sa, se⟩).e = 0
 ·rw [if_pos hs] at h; exact absurd rfl h
 ·rw [if_neg hs]
  dsimp only
  by_cases he : se = 0
  ·subst he
   rw [if_neg (by decide)]
   have h0 : fm op = 0 := by
    unfold opSt at hs
    by_cases hfl : Ins.floatB op = true
    ·exact Classical.byContradiction fun hne => by
      have := (fm_float (by omega) hne).1
      rw [hfl] at this; cases this
    ·rw [if_neg hfl] at hs
     by_cases hz : fm op = 0
     ·exact hz
     ·rw [if_neg hz] at hs; exact absurd rfl hs
   rw [h0]
   have e : fldS f len 0 op (opSt op ⟨sa, 0⟩) = (nul op, opSt op ⟨sa, 0⟩) := rfl
   rw [e]
   dsimp only
   rw [if_pos hs]
  ·rw [if_pos he]
   dsimp only
   rw [opSt_bad (show (⟨sa, se⟩ : St).e ≠ 0 from he)]
theorem opR_is {f : Nat → Int} {len : Nat} {a : Int} (hf : By f) (h : (opR f len a).2.2 = 0) : ∃ op to, opR f len a = (op, to, 0) ∧ opcS f len ⟨a, 0⟩ = (op, ⟨to, 0⟩) ∧ opSt op ⟨to, 0⟩ = ⟨to, 0⟩ ∧ fm op ≠ 0 ∧ 0 ≤ op ∧ op ≤ 4295032063 := by
 have hb := opcS_bd hf (len := len) ⟨a, 0⟩
 unfold opR at h ⊢
 generalize opcS f len ⟨a, 0⟩ = q at *
 obtain ⟨op, sa, se⟩ := q
 dsimp only at *
 by_cases hs : (opSt op ⟨sa, se⟩).e = 0
 ·rw [if_pos hs]
  have e0 : opSt op ⟨sa, se⟩ = if Ins.floatB op = true then failS ⟨sa, se⟩ 11 else if fm op = 0 then failS ⟨sa, se⟩ 10 else ⟨sa, se⟩ := rfl
  by_cases hfl : Ins.floatB op = true
  ·rw [e0, if_pos hfl] at hs; exact absurd hs (failS_ne _ (by decide))
  ·by_cases hz : fm op = 0
   ·rw [e0, if_neg hfl, if_pos hz] at hs; exact absurd hs (failS_ne _ (by decide))
   ·rw [if_neg hfl, if_neg hz] at e0
    rw [e0] at hs
    obtain rfl : se = 0 := hs
    exact ⟨op, sa, rfl, rfl, e0, hz, hb.1, hb.2⟩
 ·rw [if_neg hs] at h; exact absurd h hs
theorem step_R {f : Nat → Int} {len k : Nat} {a op to a2 : Int} {N : List Int} {acc : List In} {d : In} {R : List In × Int × Int} (h : rdS f len (k + 1) ⟨a, 0⟩ N false acc = R) (h1 : opcS f len ⟨a, 0⟩ = (op, ⟨to, 0⟩)) (h2 : opSt op ⟨to, 0⟩ = ⟨to, 0⟩) (h3 : fldS f len (fm op) op ⟨to, 0⟩ = (d, ⟨a2, 0⟩)) :
  R = if fm op = 2 ∧ N.length = 128 then ([], 0, 3) else if (stepN op (fm op) N false).1 = true then rdS f len k ⟨a2, 0⟩ (stepN op (fm op) N false).2.1 (stepN op (fm op) N false).2.2 (acc ++ [d]) else ([], 0, 10) := by
 have hi : insS f len ⟨a, 0⟩ N false = if fm op = 2 ∧ N.length = 128 then (d, ⟨a2, 3⟩, N, false) else (d, if (stepN op (fm op) N false).1 = true then ⟨a2, 0⟩ else ⟨a2, 10⟩, (stepN op (fm op) N false).2) := by
  unfold insS
  rw [h1]
  dsimp only
  rw [if_neg (by decide), h2, h3]
  dsimp only
  rw [if_neg (by decide)]
  rfl
 rw [← h, rdS, if_neg (by decide), hi]
 by_cases c1 : fm op = 2 ∧ N.length = 128
 ·rw [if_pos c1, if_pos c1]
  rfl
 ·rw [if_neg c1, if_neg c1]
  dsimp only
  by_cases c2 : (stepN op (fm op) N false).1 = true
  ·rw [if_pos c2, if_pos c2]; rfl
  ·rw [if_neg c2, if_neg c2]; rfl
theorem step_bad {f : Nat → Int} {len k : Nat} {a op to a2 e : Int} {N : List Int} {acc : List In} {d : In} {R : List In × Int × Int} (h : rdS f len (k + 1) ⟨a, 0⟩ N false acc = R) (h1 : opcS f len ⟨a, 0⟩ = (op, ⟨to, 0⟩)) (h2 : opSt op ⟨to, 0⟩ = ⟨to, 0⟩) (h3 : fldS f len (fm op) op ⟨to, 0⟩ = (d, ⟨a2, e⟩)) (he : e ≠ 0) : R = ([], 0, e) := by
 have hi : (insS f len ⟨a, 0⟩ N false).2.1.e = e := by
  unfold insS
  rw [h1]
  dsimp only
  rw [if_neg (by decide), h2, h3]
  dsimp only
  rw [if_pos he]
 rw [← h, rdS, if_neg (by decide), hi, if_pos he]
structure RdI (w0 w : World) (cv ov : Value) (P : List (In × Value)) (N : List Int) : Prop where
 cd : CdO w w0.heap.size cv P
 op : w.ownsRow w0.heap.size 3 1 ov N.length (ivs N)
 ap : ∀ p ∈ P, ∀ q, p.2.ownBlock = some q → ov.ownBlock ≠ some q
 gr : Gr w0 w
theorem RdI.to {w0 w w' : World} {cv ov : Value} {P : List (In × Value)} {N : List Int} (h : RdI w0 w cv ov P N) (hg : Gr w w') : RdI w0 w' cv ov P N :=
 ⟨cd_sep (ex := fun _ => False) h.cd (Sep.of_gr hg) (fun _ _ => id) (fun _ _ _ _ => id), own_gr h.op hg, h.ap, gr_trans h.gr hg⟩
theorem RdI.base {w0 w : World} {cv ov : Value} {P : List (In × Value)} {N : List Int} (h : RdI w0 w cv ov P N) : (∀ q, cv.ownBlock = some q → w0.heap.size ≤ q ∧ q < w.heap.size) ∧ (∀ q, ov.ownBlock = some q → w0.heap.size ≤ q ∧ q < w.heap.size) ∧ ∀ q, cv.ownBlock = some q → ov.ownBlock ≠ some q :=
 ⟨fun q hq => h.cd.1.lt q hq, fun q hq => h.op.lt q hq, own_apart h.cd.1 h.op (by decide)⟩
set_option maxRecDepth 100000 in
set_option maxHeartbeats 8000000 in
theorem rread_in {w : World} {sv : Value} {len : Nat} {f : Nat → Int} {a : Nat} (hf : By f) (hb : U8s w sv len f) (ha1 : a ≤ len) (hl : len ≤ 1099511627776) :
  Calls Try.prog 11 #[sv, .int .i64 a] w (RDX w (rdS f len (len + 2) ⟨a, 0⟩ [] false [])) := by
 obtain ⟨xs, cs, rfl⟩ := u8s_slice hb
 have HB := Lib.hid hb
 have HF := Lib.hid hf
 have HL := Lib.hid hl
 have HA := Lib.hid ha1
 have d1 : decide ((a : Int) < 0) = false := decide_eq_false (by omega)
 have d2 : decide ((a : Int) > (len : Int)) = false := decide_eq_false (by omega)
 have d2n : decide (len < a) = false := decide_eq_false (by omega)
 obtain ⟨R, hR⟩ : ∃ R, rdS f len (len + 2) ⟨a, 0⟩ [] false [] = R := ⟨_, rfl⟩
 rw [hR]
 have HR0 := Lib.hid hR
 clear hb hf ha1 hl hR
 obtain ⟨i6, hi, hz0, hz1, hz2⟩ := info_parts infoIns
 have HI6 := Lib.hid hi
 have HZ06 := Lib.hid hz0
 have HZ16 := Lib.hid hz1
 have HZ26 := Lib.hid hz2
 clear hi hz0 hz1 hz2
 obtain ⟨i0, hi, hz0, hz1, hz2⟩ := info_parts infoZ
 have HI0 := Lib.hid hi
 have HZ00 := Lib.hid hz0
 have HZ10 := Lib.hid hz1
 have HZ20 := Lib.hid hz2
 clear hi hz0 hz1 hz2
 go_enter Try.func11, Try.ntmps11
 go_wp2_with fail
 go_loopw [1, 7, 8] (fun av cv ov wr => ∃ (k A : Nat) (N : List Int) (P : List (In × Value)) (xc : Option Addr) (cc : Nat) (xo : Option Addr) (co n m : Nat), cv = .slice xc n cc ∧ n = P.length ∧ av = .int .i64 A ∧ ov = .slice xo m co ∧ m = N.length ∧ rdS f len k ⟨A, 0⟩ N false (P.map (·.1)) = R ∧ len + 2 ≤ A + k ∧ P.length ≤ A ∧ A ≤ len ∧ N.length ≤ 128 ∧ RdI w wr (.slice xc n cc) (.slice xo m co) P N) (fun av _ _ _ => len + 1 - (intOf av).toNat)
 case atStart => exact ⟨len + 2, a, [], [], none, 0, none, 0, 0, 0, rfl, rfl, rfl, rfl, rfl, HR0.out, by omega, by simp, HA.out, by simp, ⟨⟨World.ownsRow_nil _ _ _ _, (fun p hp => by cases hp)⟩, World.ownsRow_nil _ _ _ _, (fun p hp => by cases hp), Gr.refl _⟩⟩
 case round =>
  obtain ⟨k, A, N, P, xc, cc, xo, co, n, m, rfl, rfl, rfl, rfl, hm, hrd, hka, hpa, haa, hN, hi⟩ := hrel
  obtain ⟨k', rfl⟩ : ∃ k', k = k' + 1 := ⟨k - 1, by omega⟩
  have HO := Lib.hid (ropcode_any HL.out HF.out (u8s_gr HB.out hi.gr) A)
  have hHO := HO.out
  by_cases ho : (opR f len A).2.2 = 0
  case neg =>
   have hR := insR_bad (N := N) HF.out ho
   have hR2 : R = ([], 0, (opR f len A).2.2) := by
    rw [← hrd, rdS, if_neg (by decide), hR, if_pos ho]
   generalize opR f len A = q at *
   obtain ⟨q1, q2, er⟩ := q
   dsimp only at ho hR2 hHO
   have HRR := Lib.hid hR2
   have HNE := Lib.hid ho
   have HI := Lib.hid hi
   have HO := Lib.hid hHO
   have n1 : (er != 0) = true := by simpa using ho
   clear hrd hka hpa haa hN hi hR hR2 ho hHO hm
   go_wp2_with fail
   refine HO.out.mono ?_
   rintro e w1 ⟨rfl, hg⟩
   have HG := Lib.hid (gr_trans HI.out.gr hg)
   clear hg
   go_wp2
   go_ret3
   rw [HRR.out]
   exact .inl ⟨HNE.out, rfl, rfl, rfl, HG.out⟩
  obtain ⟨op, to, e0, e1, e2, hfm, hop0, hop1⟩ := opR_is HF.out ho
  rw [e0] at hHO
  have hok1 := opcS_ok (f := f) (s := ⟨A, 0⟩) (len := len) ⟨by dsimp only; omega, by dsimp only; omega⟩
  have hlt := opcS_a (f := f) (len := len) (s := ⟨A, 0⟩) (by rw [e1])
  rw [e1] at hok1 hlt
  have hto0 : 0 ≤ to := hok1.lo
  have hto1 : to ≤ len := hok1.hi
  have hlt' : (A : Int) < to := hlt
  obtain ⟨T, rfl⟩ := Int.eq_ofNat_of_zero_le hto0
  have hform := (fm_float (by omega) hfm).2
  have HOF := Lib.hid (fun wx => (rof_fm op (by omega) wx).mono (show ∀ (e : Ending) (w' : World), OFX op wx e w' → ∃ lv pv xi ni ci xj nj cj, e = .returned (.tuple #[.agg #[.int .i64 (fm op), .int .i64 lv, .bool pv, .slice xi ni ci, .slice xj nj cj], .bool true]) ∧ Gr wx w' from fun e w' ⟨lv, pv, xi, ni, ci, xj, nj, cj, h, hg⟩ => ⟨lv, pv, xi, ni, ci, xj, nj, cj, by rw [h]; rw [show (fm op != 0) = true by simpa using hfm], hg⟩))
  have HFD := Lib.hid (fun wx (hg : Gr w wx) => rfields_any (op := op) HL.out HF.out (u8s_gr HB.out hg) (show T ≤ len by omega) (fm op) hform)
  have hf3 := fldS_ok (f := f) (len := len) (fm op) op (s := ⟨T, 0⟩) ⟨by dsimp only; omega, by dsimp only; omega⟩
  have hf4 := fldS_a (f := f) (len := len) (fm op) op ⟨T, 0⟩
  obtain ⟨d, a2, er, hfl⟩ : ∃ d a2 er, fldS f len (fm op) op ⟨T, 0⟩ = (d, ⟨a2, er⟩) := ⟨_, _, _, rfl⟩
  rw [hfl] at HFD hf3 hf4
  have hS1 := fun he : er ≠ 0 => step_bad hrd e1 e2 hfl he
  have hS2 := fun he : er = 0 => step_R hrd e1 e2 (by rw [hfl, he])
  have ha20 : 0 ≤ a2 := hf3.lo
  have ha21 : a2 ≤ len := hf3.hi
  have ha22 : (T : Int) ≤ a2 := hf4
  obtain ⟨A2, rfl⟩ := Int.eq_ofNat_of_zero_le ha20
  have HS1 := Lib.hid hS1
  have HS2 := Lib.hid hS2
  have HO := Lib.hid hHO
  have HI := Lib.hid hi
  have HLE := Lib.hid (show P.length ≤ A ∧ A < A2 ∧ A2 ≤ len ∧ len + 2 ≤ A + (k' + 1) ∧ len + 2 ≤ A2 + k' from by omega)
  have HN := Lib.hid hN
  have HM := Lib.hid hm
  obtain ⟨FM, hFM⟩ : ∃ FM, fm op = FM := ⟨_, rfl⟩
  have HFM := Lib.hid hFM
  have hop9 : IntKind.i64.wrap op = op := by rw [IntKind.wrap_i64]; omega
  clear hrd hka hpa haa hN hi hHO hok1 hlt hlt' hto0 hto1 hf3 hf4 hfl hS1 hS2 ha20 ha21 ha22 e0 e1 e2 ho hm hform
  rw [hFM] at HOF HFD
  clear hFM
  go_wp2_with fail
  refine HO.out.mono ?_
  rintro e w1 ⟨rfl, hg⟩
  have HI1 := Lib.hid (HI.out.to hg)
  clear hg HI
  go_wp2_with fail
  refine (HOF.out w1).mono ?_
  rintro e w2 ⟨lv, pv, xi, ni, ci, xj, nj, cj, rfl, hg⟩
  have HI2 := Lib.hid (HI1.out.to hg)
  clear hg HI1
  go_upto_region 9 with (refine wpList_store_row rfl 50 _ _ rfl w2.heap.size #[.int .i64 FM, .int .i64 lv, .bool pv, .slice xi ni ci, .slice xj nj cj] rfl rfl 50 #[.int .i64 0, .int .i64 0, .bool false, .slice none 0 0, .slice none 0 0] (heap_alloc_new w2 _) infoIf rfl (by kernel_rfl) ?_)
  have hrw := Sep.setRow (ex := fun b => b = w2.heap.size) (w2.alloc (.cells #[.int .i64 0, .int .i64 0, .bool false, .slice none 0 0, .slice none 0 0] 50)) rfl #[.int .i64 FM, .int .i64 lv, .bool pv, .slice xi ni ci, .slice xj nj cj]
  have hgg : Gr w2 ((w2.alloc (.cells #[.int .i64 0, .int .i64 0, .bool false, .slice none 0 0, .slice none 0 0] 50)).setRow w2.heap.size #[.int .i64 FM, .int .i64 lv, .bool pv, .slice xi ni ci, .slice xj nj cj]) := Sep.toGr ((Gr.refl w2).alloc #[.int .i64 0, .int .i64 0, .bool false, .slice none 0 0, .slice none 0 0] 50) hrw (fun q hq => by have e' : q = w2.heap.size := hq; omega)
  have HB3 := Lib.hid (setRow_block (c := #[.int .i64 FM, .int .i64 lv, .bool pv, .slice xi ni ci, .slice xj nj cj]) (heap_alloc_new w2 (.cells #[.int .i64 0, .int .i64 0, .bool false, .slice none 0 0, .slice none 0 0] 50)))
  have HI3 := Lib.hid (HI2.out.to hgg)
  clear hrw hgg
  generalize (w2.alloc (.cells #[.int .i64 0, .int .i64 0, .bool false, .slice none 0 0, .slice none 0 0] 50)).setRow w2.heap.size #[.int .i64 FM, .int .i64 lv, .bool pv, .slice xi ni ci, .slice xj nj cj] = w3 at *
  generalize w2.heap.size = b2 at *
  have k0 : w3.cell? ⟨b2, 0, none⟩ = some (.int .i64 FM) := (cell_of_row _ _ 0 _ _ _ HB3.out).trans rfl
  go_wp2_with fail
  refine (HFD.out w3 HI3.out.gr).mono ?_
  rintro e w4 (⟨he, Lv, rfl, hg, hown⟩ | ⟨he, x0, x1, x2, x3, x4, xz, nz, cz, tz, rfl, hg⟩)
  case inr =>
   have HRR := Lib.hid (HS1.out he)
   have HNE := Lib.hid he
   have n1 : (er != 0) = true := by simpa using he
   have HG := Lib.hid (gr_trans HI3.out.gr hg)
   clear hg he
   go_wp2_with (refine wpList_store_row rfl 38 _ _ rfl w4.heap.size #[.int .i64 x0, .int .i64 x1, .int .i64 x2, .int .u64 x3, .int .u64 x4, .slice xz nz cz] rfl rfl 38 #[.int .i64 0, .int .i64 0, .int .i64 0, .int .u64 0, .int .u64 0, .slice none 0 0] (heap_alloc_new w4 _) infoIn rfl (by kernel_rfl) ?_)
   go_ret3
   rw [HRR.out]
   exact .inl ⟨HNE.out, rfl, rfl, rfl, gr_setRow (gr_trans HG.out ((Gr.refl w4).alloc _ _)) HG.out.size _⟩
  have hr2 := HS2.out he
  have he0 : er = 0 := he
  clear he
  subst he0
  obtain ⟨xL, cL, rfl⟩ := own_slice hown
  have HI4 := Lib.hid (HI3.out.to hg)
  have HL4 := Lib.hid hown
  have HL4s := Lib.hid HI3.out.base.2.1
  clear hg hown
  go_upto_region 10 with (refine wpList_store_row rfl 38 _ _ rfl w4.heap.size (inV d (.slice xL d.l.length cL)) rfl rfl 38 #[.int .i64 0, .int .i64 0, .int .i64 0, .int .u64 0, .int .u64 0, .slice none 0 0] (heap_alloc_new w4 _) infoIn rfl (inV_one _ _ _ _) ?_)
  have hrw := Sep.setRow (ex := fun b => b = w4.heap.size) (w4.alloc (.cells #[.int .i64 0, .int .i64 0, .int .i64 0, .int .u64 0, .int .u64 0, .slice none 0 0] 38)) rfl (inV d (.slice xL d.l.length cL))
  have hgg : Gr w4 ((w4.alloc (.cells #[.int .i64 0, .int .i64 0, .int .i64 0, .int .u64 0, .int .u64 0, .slice none 0 0] 38)).setRow w4.heap.size (inV d (.slice xL d.l.length cL))) := Sep.toGr ((Gr.refl w4).alloc #[.int .i64 0, .int .i64 0, .int .i64 0, .int .u64 0, .int .u64 0, .slice none 0 0] 38) hrw (fun q hq => by have e' : q = w4.heap.size := hq; omega)
  have HB5 := Lib.hid (setRow_block (c := inV d (.slice xL d.l.length cL)) (heap_alloc_new w4 (.cells #[.int .i64 0, .int .i64 0, .int .i64 0, .int .u64 0, .int .u64 0, .slice none 0 0] 38)))
  have HI5 := Lib.hid (HI4.out.to hgg)
  have HLL := Lib.hid (show ((w4.alloc (.cells #[.int .i64 0, .int .i64 0, .int .i64 0, .int .u64 0, .int .u64 0, .slice none 0 0] 38)).setRow w4.heap.size (inV d (.slice xL d.l.length cL))).ownsRow w.heap.size 3 1 (.slice xL d.l.length cL) d.l.length (ivs d.l) ∧ ∀ q, (Value.slice xL d.l.length cL).ownBlock = some q → (Value.slice xo m co).ownBlock ≠ some q from
   ⟨own_gr (own_base HL4.out HI3.out.gr.size) hgg, fun q hq h => by have := (HL4s.out q h).2; have := (HL4.out.lt q hq).1; omega⟩)
  have HBI := Lib.hid (show w.heap.size ≤ w4.heap.size ∧ w4.heap.size < ((w4.alloc (.cells #[.int .i64 0, .int .i64 0, .int .i64 0, .int .u64 0, .int .u64 0, .slice none 0 0] 38)).setRow w4.heap.size (inV d (.slice xL d.l.length cL))).heap.size from ⟨HI4.out.gr.size, (Array.getElem?_eq_some_iff.1 HB5.out).1⟩)
  have HBO := Lib.hid HI4.out.base.2.1
  clear hrw hgg k0 HI4 HI3 HI2 HL4 HL4s HOF HFD HO HB3 HS1 HS2
  generalize (w4.alloc (.cells #[.int .i64 0, .int .i64 0, .int .i64 0, .int .u64 0, .int .u64 0, .slice none 0 0] 38)).setRow w4.heap.size (inV d (.slice xL d.l.length cL)) = w5 at *
  generalize w4.heap.size = bi at *
  obtain rfl := HM.out
  have hFT : FM = 2 ↔ 2 ≤ op ∧ op ≤ 4 := by rw [← HFM.out]; exact fm_two
  rw [HFM.out] at hr2
  by_cases h24 : 2 ≤ op ∧ op ≤ 4
  ·obtain rfl : FM = 2 := hFT.2 h24
   have t1 : decide (op ≥ 2) = true := decide_eq_true (by omega)
   have t2 : decide (op ≤ 4) = true := decide_eq_true (by omega)
   have t3 : (op == 5) = false := by simp; omega
   have t4 : (op == 11) = false := by simp; omega
   by_cases hfu : N.length = 128
   ·rw [if_pos ⟨rfl, hfu⟩] at hr2
    have HRR := Lib.hid hr2
    have HI := HI5
    have t5 : ((N.length : Int) == 128) = true := by rw [hfu]; rfl
    clear hr2 hFT h24 hfu
    go_wp2
    go_ret3
    rw [HRR.out]
    exact .inl ⟨by decide, rfl, rfl, rfl, HI.out.gr⟩
   ·rw [if_neg (fun h => hfu h.2)] at hr2
    have hst : stepN op 2 N false = (true, N ++ [op], false) := by simp [stepN]
    rw [hst, if_pos rfl] at hr2
    have HRR := Lib.hid hr2
    have HNL := Lib.hid (show (N ++ [op]).length ≤ 128 from by simp; have := HN.out; omega)
    have t5 : ((N.length : Int) == 128) = false := by simp; omega
    clear hr2 hFT h24 hfu hst
    go_upto_region 16 with (at_builtin; refine wpList_append_at rfl _ _ 36 rfl w.heap.size 3 i0 (.int .i64 0) 1 8 Try.underlying36 HI0.out HZ00.out HZ10.out HZ20.out rfl (by decide) (.slice xo N.length co) N.length (ivs N) rfl (World.ownsRow.alloc HI5.out.op _) (.slice (some ⟨w5.heap.size, 0, none⟩) 1 1) 1 [.int .i64 op] rfl (src_lit w5 #[.int .i64 op] 3 1 1) rfl (fun u hu => by simp at hu; subst hu; rfl) ?c3 ?c4 ?c5 ?_)
    case c3 => have := HN.out; unfold maxLen; omega
    case c4 => have := HN.out; omega
    case c5 => have := HI5.out.gr.size; simp; omega
    intro v' w6 hown2 hgb hblk
    have hs6 : Sep (fun q => (Value.slice xo N.length co).ownBlock = some q) w5 w6 := Sep.trans (Sep.of_gr ((Gr.refl w5).alloc _ _)) (Sep.grown hgb fun q hq => hq)
    have hbk : ∀ q, v'.ownBlock = some q → (Value.slice xo N.length co).ownBlock = some q ∨ w5.heap.size ≤ q := fun q hq => (hblk q hq).imp id fun e => by first | omega | (simp at e; omega)
    have HI := Lib.hid (show RdI w w6 (.slice xc P.length cc) v' P (N ++ [op]) from ⟨cd_sep HI5.out.cd hs6 (fun q hq e => HI5.out.base.2.2 q hq e) (fun p hp q hq e => HI5.out.ap p hp q hq e), by rw [ivs_app, List.length_append]; exact hown2, fun p hp q hq h => by
      rcases hbk q h with h | h
      ·exact HI5.out.ap p hp q hq h
      ·have := ((HI5.out.cd.2 p hp).lt q hq).2; omega, Sep.toGr HI5.out.gr hs6 (fun q hq => (HI5.out.base.2.1 q hq).1)⟩)
    have HB6 := Lib.hid (hs6.at_ (fun e => by have := (HBO.out bi e).2; omega) HB5.out)
    have HL6 := Lib.hid (show w6.ownsRow w.heap.size 3 1 (.slice xL d.l.length cL) d.l.length (ivs d.l) ∧ ∀ q, (Value.slice xL d.l.length cL).ownBlock = some q → v'.ownBlock ≠ some q from ⟨hs6.owns HLL.out.1 (fun q hq e => HLL.out.2 q hq e), fun q hq h => by
      rcases hbk q h with h | h
      ·exact HLL.out.2 q hq h
      ·have := (HLL.out.1.lt q hq).2; omega⟩)
    obtain ⟨x6, c6, rfl⟩ := own_slice hown2
    clear hown2 hgb hblk hs6 hbk HB5 HLL HI5
    have HB5 := HB6
    have HLL := HL6
    obtain ⟨NN, hNN⟩ : ∃ NN : List Int, NN = N ++ [op] := ⟨_, rfl⟩
    have HNN := Lib.hid (show NN.length = N.length + 1 from by rw [hNN]; simp)
    rw [← hNN] at HI HRR HNL
    clear hNN
    obtain ⟨OV, hOV⟩ : ∃ OV : Value, OV = .slice x6 (N.length + 1) c6 := ⟨_, rfl⟩
    have hOV' := hOV
    rw [← hOV] at HI HLL
    have HOV := Lib.hid hOV
    clear hOV hOV'
    go_upto_region 21 with (first | (refine wpList_load_row rfl 38 _ rfl bi rfl 38 #[.int .i64 d.op, .int .i64 d.a, .int .i64 d.b, .int .u64 d.lo, .int .u64 d.hi, .slice xL d.l.length cL] (0, 0) _ HB5.out Try.underlying38 rfl infoIn ?_) | (at_builtin; refine wpList_append_at rfl _ _ 24 rfl w.heap.size 38 i6 (.agg #[.int .i64 0, .int .i64 0, .int .i64 0, .int .u64 0, .int .u64 0, .slice none 0 0]) 6 64 Try.underlying24 HI6.out HZ06.out HZ16.out HZ26.out rfl (by decide) (.slice xc P.length cc) P.length (cdV P) rfl (World.ownsRow.alloc HI.out.cd.1 _) (.slice (some ⟨w6.heap.size, 0, none⟩) 1 1) 1 (#[.int .i64 d.op, .int .i64 d.a, .int .i64 d.b, .int .u64 d.lo, .int .u64 d.hi, .slice xL d.l.length cL] : Array Value).toList rfl (src_lit w6 #[.int .i64 d.op, .int .i64 d.a, .int .i64 d.b, .int .u64 d.lo, .int .u64 d.hi, .slice xL d.l.length cL] 38 1 1) rfl (inV_all d (.slice xL d.l.length cL) rfl) ?c3 ?c4 ?c5 ?_))
    case c3 => have := HLE.out; have := HL.out; unfold maxLen; omega
    case c4 => have := HLE.out; have := HL.out; omega
    case c5 => have := HI.out.gr.size; simp; omega
    intro v' w9 hown2 hgb hblk
    have hs9 : Sep (fun q => (Value.slice xc P.length cc).ownBlock = some q) w6 w9 := Sep.trans (Sep.of_gr ((Gr.refl w6).alloc _ _)) (Sep.grown hgb fun q hq => hq)
    have HI9 := Lib.hid (show RdI w w9 v' OV (P ++ [(d, .slice xL d.l.length cL)]) NN from ⟨⟨by
      rw [List.length_append, cdV_app]
      show w9.ownsRow _ _ 6 v' (P.length + 1) (cdV P ++ ((inV d (.slice xL d.l.length cL)).toList ++ []))
      rw [List.append_nil]; exact hown2, fun p hp => by
      rcases List.mem_append.1 hp with hp | hp
      ·exact hs9.owns (HI.out.cd.2 p hp) (fun q hq e => own_apart HI.out.cd.1 (HI.out.cd.2 p hp) (by decide) q e hq)
      ·obtain rfl := List.mem_singleton.1 hp
       exact hs9.owns HLL.out.1 (fun q hq e => own_apart HI.out.cd.1 HLL.out.1 (by decide) q e hq)⟩,
     hs9.owns HI.out.op (fun q hq e => HI.out.base.2.2 q e hq), fun p hp q hq => by
      rcases List.mem_append.1 hp with hp | hp
      ·exact HI.out.ap p hp q hq
      ·obtain rfl := List.mem_singleton.1 hp
       exact HLL.out.2 q hq, Sep.toGr HI.out.gr hs9 (fun q hq => (HI.out.base.1 q hq).1)⟩)
    obtain ⟨x9, c9, rfl⟩ := own_slice hown2
    clear hown2 hgb hblk hs9
    rw [HOV.out] at HI9
    go_wp2
    exact ⟨⟨k', A2, NN, P ++ [(d, .slice xL d.l.length cL)], x9, c9, x6, c6, P.length + 1, N.length + 1, rfl, by simp, by go_num, rfl, HNN.out.symm, by rw [List.map_append]; exact HRR.out.symm, by have := HLE.out; omega, by simp only [List.length_append, List.length_cons, List.length_nil]; have := HLE.out; omega, by have := HLE.out; omega, HNL.out, HI9.out⟩, by have := HLE.out; simp [intOf]; omega⟩
  ·have h2 : FM ≠ 2 := fun e => h24 (hFT.1 e)
   rw [if_neg (fun h => h2 h.1)] at hr2
   have HI := HI5
   by_cases h5 : op = 5
   ·subst h5
    rcases List.eq_nil_or_concat N with rfl | ⟨M, t, rfl⟩
    ·have hst : stepN 5 FM [] false = (false, [], false) := by simp [stepN, h2]
     rw [hst, if_neg (by decide)] at hr2
     have HRR := Lib.hid hr2
     clear hr2 hFT h24 hst h2
     go_wp2
     go_ret3
     rw [HRR.out]
     exact .inl ⟨by decide, rfl, rfl, rfl, HI.out.gr⟩
    ·rw [List.concat_eq_append] at *
     have h1 : w5.ownsRow w.heap.size 3 1 (.slice xo (M ++ [t]).length co) (M.length + 1) (ivs M ++ [.int .i64 t]) := by
      have := HI.out.op
      rw [ivs_app, List.length_append] at this
      rw [List.length_append]
      exact this
     have hll : (M ++ [t]).length = M.length + 1 := by simp
     rw [hll] at h1 HI HLL HBO HN ⊢
     obtain ⟨q, c, e0, hc, hq, hqs, hm⟩ := own_some h1 (by omega)
     obtain ⟨rfl, _, rfl⟩ := Value.slice.inj e0
     have hcell : w5.cell? ⟨q, M.length, none⟩ = some (.int .i64 t) := by
      rw [h1.cellAt M.length (by omega)]
      rw [List.getElem?_append_right (by rw [ivs_len]; exact Nat.le_refl _), ivs_len, Nat.sub_self]; rfl
     have fq := h1.frozenAt M.length
     have HML := Lib.hid HN.out
     have T1 : IntKind.i64.wrap ((M.length : Int) + 1 - 1) = (M.length : Int) := by have := HN.out; rw [IntKind.wrap_i64]; omega
     have T2 : IntKind.i64.wrap (M.length : Int) = (M.length : Int) := by have := HN.out; rw [IntKind.wrap_i64]; omega
     have T3 : decide ((M.length : Int) < 0) = false := decide_eq_false (by omega)
     have T0 : ((M.length : Int) + 1 == 0) = false := by simp; omega
     have HQ := Lib.hid (show M.length + 1 ≤ co ∧ w.heap.size ≤ q ∧ q ≠ bi from ⟨hc, hq, fun e => by have := (HBO.out q rfl).2; omega⟩)
     by_cases h4 : t = 4
     ·subst h4
      have hst : stepN 5 FM (M ++ [4]) false = (true, M ++ [5], false) := by simp [stepN, h2]
      rw [hst, if_pos rfl] at hr2
      have HRR := Lib.hid hr2
      have HO1 := Lib.hid h1
      clear hr2 hFT h24 hst h2 h1 hc hq hqs hm e0
      go_upto_region 20 with fail
      have hs6 : Sep (fun k => (Value.slice (some ⟨q, 0, none⟩) (M.length + 1) co).ownBlock = some k) w5 (w5.setCell ⟨q, M.length, none⟩ (.int .i64 5)) := Sep.setCell (ex := fun k => (Value.slice (some ⟨q, 0, none⟩) (M.length + 1) co).ownBlock = some k) w5 (p := ⟨q, M.length, none⟩) rfl _
      have h9 := HO1.out.stored M.length (.int .i64 5)
      have e9 : (ivs M ++ [Value.int .i64 4]).set M.length (.int .i64 5) = ivs (M ++ [5]) := by
       rw [List.set_append_right _ _ (by rw [ivs_len]; exact Nat.le_refl _), ivs_len, Nat.sub_self, ivs_app]; rfl
      rw [e9] at h9
      have HI6 := Lib.hid (show RdI w (w5.setCell ⟨q, M.length, none⟩ (.int .i64 5)) (.slice xc P.length cc) (.slice (some ⟨q, 0, none⟩) (M.length + 1) co) P (M ++ [5]) from ⟨cd_sep HI.out.cd hs6 (fun q hq e => HI.out.base.2.2 q hq e) (fun p hp q hq e => HI.out.ap p hp q hq e), by rw [List.length_append]; exact h9.1, HI.out.ap, Sep.toGr HI.out.gr hs6 (fun q hq => (HI.out.base.2.1 q hq).1)⟩)
      have HB6 := Lib.hid (hs6.at_ (fun e => by have := (HBO.out bi e).2; omega) HB5.out)
      have HL6 := Lib.hid (show (w5.setCell ⟨q, M.length, none⟩ (.int .i64 5)).ownsRow w.heap.size 3 1 (.slice xL d.l.length cL) d.l.length (ivs d.l) ∧ ∀ q', (Value.slice xL d.l.length cL).ownBlock = some q' → (Value.slice (some ⟨q, 0, none⟩) (M.length + 1) co).ownBlock ≠ some q' from ⟨hs6.owns HLL.out.1 (fun q hq e => HLL.out.2 q hq e), HLL.out.2⟩)
      clear h9 e9 hs6 HI HB5 HLL HI5 HO1 hcell fq
      generalize w5.setCell ⟨q, M.length, none⟩ (.int .i64 5) = w6 at *
      have HB5 := HB6
      have HLL := HL6
      have HI := HI6
      clear HB6 HL6 HI6
      obtain ⟨NN, hNN⟩ : ∃ NN : List Int, NN = M ++ [5] := ⟨_, rfl⟩
      have HNN := Lib.hid (show NN.length = M.length + 1 from by rw [hNN]; simp)
      rw [← hNN] at HI HRR
      clear hNN
      obtain ⟨OV, hOV⟩ : ∃ OV : Value, OV = .slice (some ⟨q, 0, none⟩) (M.length + 1) co := ⟨_, rfl⟩
      rw [← hOV] at HI HLL
      have HOV := Lib.hid hOV
      clear hOV
      go_upto_region 21 with (first | (refine wpList_load_row rfl 38 _ rfl bi rfl 38 #[.int .i64 d.op, .int .i64 d.a, .int .i64 d.b, .int .u64 d.lo, .int .u64 d.hi, .slice xL d.l.length cL] (0, 0) _ HB5.out Try.underlying38 rfl infoIn ?_) | (at_builtin; refine wpList_append_at rfl _ _ 24 rfl w.heap.size 38 i6 (.agg #[.int .i64 0, .int .i64 0, .int .i64 0, .int .u64 0, .int .u64 0, .slice none 0 0]) 6 64 Try.underlying24 HI6.out HZ06.out HZ16.out HZ26.out rfl (by decide) (.slice xc P.length cc) P.length (cdV P) rfl (World.ownsRow.alloc HI.out.cd.1 _) (.slice (some ⟨w6.heap.size, 0, none⟩) 1 1) 1 (#[.int .i64 d.op, .int .i64 d.a, .int .i64 d.b, .int .u64 d.lo, .int .u64 d.hi, .slice xL d.l.length cL] : Array Value).toList rfl (src_lit w6 #[.int .i64 d.op, .int .i64 d.a, .int .i64 d.b, .int .u64 d.lo, .int .u64 d.hi, .slice xL d.l.length cL] 38 1 1) rfl (inV_all d (.slice xL d.l.length cL) rfl) ?c3 ?c4 ?c5 ?_))
      case c3 => have := HLE.out; have := HL.out; unfold maxLen; omega
      case c4 => have := HLE.out; have := HL.out; omega
      case c5 => have := HI.out.gr.size; simp; omega
      intro v' w9 hown2 hgb hblk
      have hs9 : Sep (fun q => (Value.slice xc P.length cc).ownBlock = some q) w6 w9 := Sep.trans (Sep.of_gr ((Gr.refl w6).alloc _ _)) (Sep.grown hgb fun q hq => hq)
      have HI9 := Lib.hid (show RdI w w9 v' OV (P ++ [(d, .slice xL d.l.length cL)]) NN from ⟨⟨by
        rw [List.length_append, cdV_app]
        show w9.ownsRow _ _ 6 v' (P.length + 1) (cdV P ++ ((inV d (.slice xL d.l.length cL)).toList ++ []))
        rw [List.append_nil]; exact hown2, fun p hp => by
        rcases List.mem_append.1 hp with hp | hp
        ·exact hs9.owns (HI.out.cd.2 p hp) (fun q hq e => own_apart HI.out.cd.1 (HI.out.cd.2 p hp) (by decide) q e hq)
        ·obtain rfl := List.mem_singleton.1 hp
         exact hs9.owns HLL.out.1 (fun q hq e => own_apart HI.out.cd.1 HLL.out.1 (by decide) q e hq)⟩,
       hs9.owns HI.out.op (fun q hq e => HI.out.base.2.2 q e hq), fun p hp q hq => by
        rcases List.mem_append.1 hp with hp | hp
        ·exact HI.out.ap p hp q hq
        ·obtain rfl := List.mem_singleton.1 hp
         exact HLL.out.2 q hq, Sep.toGr HI.out.gr hs9 (fun q hq => (HI.out.base.1 q hq).1)⟩)
      obtain ⟨x9, c9, rfl⟩ := own_slice hown2
      clear hown2 hgb hblk hs9
      rw [HOV.out] at HI9
      go_wp2
      exact ⟨⟨k', A2, NN, P ++ [(d, .slice xL d.l.length cL)], x9, c9, some ⟨q, 0, none⟩, co, P.length + 1, M.length + 1, rfl, by simp, by go_num, rfl, HNN.out.symm, by rw [List.map_append]; exact HRR.out.symm, by have := HLE.out; omega, by simp only [List.length_append, List.length_cons, List.length_nil]; have := HLE.out; omega, by have := HLE.out; omega, by rw [HNN.out]; exact HML.out, HI9.out⟩, by have := HLE.out; simp [intOf]; omega⟩
     ·have n4 : (t != 4) = true := by simpa using h4
      have hst : stepN 5 FM (M ++ [t]) false = (false, M ++ [t], false) := by simp [stepN, h2, h4]
      rw [hst, if_neg (by simp)] at hr2
      have HRR := Lib.hid hr2
      clear hr2 hFT h24 hst h2 h1 hc hq hqs hm e0 h4
      go_wp2
      go_ret3
      rw [HRR.out]
      exact .inl ⟨by decide, rfl, rfl, rfl, HI.out.gr⟩
   ·have n5 : (op == 5) = false := by simpa using h5
    by_cases h11 : op = 11
    ·subst h11
     rcases List.eq_nil_or_concat N with rfl | ⟨M, t, rfl⟩
     ·have hst : stepN 11 FM [] false = (true, [], true) := by simp [stepN, h2]
      rw [hst, if_pos rfl] at hr2
      have hr3 : R = (P.map (·.1) ++ [d], (A2 : Int), 0) := by
       obtain ⟨k2, rfl⟩ : ∃ k2, k' = k2 + 1 := ⟨k' - 1, by have := HLE.out; omega⟩
       rw [hr2, rdS]; exact if_pos rfl
      have HRR := Lib.hid hr3
      clear hr2 hFT h24 hst h2 hr3 n5 h5
      obtain ⟨OV, hOV⟩ : ∃ OV : Value, OV = .slice xo ([] : List Int).length co := ⟨_, rfl⟩
      rw [← hOV] at HI HLL
      clear hOV
      obtain ⟨NN, hNN⟩ : ∃ NN : List Int, NN = [] := ⟨_, rfl⟩
      rw [← hNN] at HI
      clear hNN
      go_upto_region 21 with (first | (refine wpList_load_row rfl 38 _ rfl bi rfl 38 #[.int .i64 d.op, .int .i64 d.a, .int .i64 d.b, .int .u64 d.lo, .int .u64 d.hi, .slice xL d.l.length cL] (0, 0) _ HB5.out Try.underlying38 rfl infoIn ?_) | (at_builtin; refine wpList_append_at rfl _ _ 24 rfl w.heap.size 38 i6 (.agg #[.int .i64 0, .int .i64 0, .int .i64 0, .int .u64 0, .int .u64 0, .slice none 0 0]) 6 64 Try.underlying24 HI6.out HZ06.out HZ16.out HZ26.out rfl (by decide) (.slice xc P.length cc) P.length (cdV P) rfl (World.ownsRow.alloc HI.out.cd.1 _) (.slice (some ⟨w5.heap.size, 0, none⟩) 1 1) 1 (#[.int .i64 d.op, .int .i64 d.a, .int .i64 d.b, .int .u64 d.lo, .int .u64 d.hi, .slice xL d.l.length cL] : Array Value).toList rfl (src_lit w5 #[.int .i64 d.op, .int .i64 d.a, .int .i64 d.b, .int .u64 d.lo, .int .u64 d.hi, .slice xL d.l.length cL] 38 1 1) rfl (inV_all d (.slice xL d.l.length cL) rfl) ?c3 ?c4 ?c5 ?_))
      case c3 => have := HLE.out; have := HL.out; unfold maxLen; omega
      case c4 => have := HLE.out; have := HL.out; omega
      case c5 => have := HI.out.gr.size; simp; omega
      intro v' w9 hown2 hgb hblk
      have hs9 : Sep (fun q => (Value.slice xc P.length cc).ownBlock = some q) w5 w9 := Sep.trans (Sep.of_gr ((Gr.refl w5).alloc _ _)) (Sep.grown hgb fun q hq => hq)
      have HI9 := Lib.hid (show RdI w w9 v' OV (P ++ [(d, .slice xL d.l.length cL)]) NN from ⟨⟨by
        rw [List.length_append, cdV_app]
        show w9.ownsRow _ _ 6 v' (P.length + 1) (cdV P ++ ((inV d (.slice xL d.l.length cL)).toList ++ []))
        rw [List.append_nil]; exact hown2, fun p hp => by
        rcases List.mem_append.1 hp with hp | hp
        ·exact hs9.owns (HI.out.cd.2 p hp) (fun q hq e => own_apart HI.out.cd.1 (HI.out.cd.2 p hp) (by decide) q e hq)
        ·obtain rfl := List.mem_singleton.1 hp
         exact hs9.owns HLL.out.1 (fun q hq e => own_apart HI.out.cd.1 HLL.out.1 (by decide) q e hq)⟩,
       hs9.owns HI.out.op (fun q hq e => HI.out.base.2.2 q e hq), fun p hp q hq => by
        rcases List.mem_append.1 hp with hp | hp
        ·exact HI.out.ap p hp q hq
        ·obtain rfl := List.mem_singleton.1 hp
         exact HLL.out.2 q hq, Sep.toGr HI.out.gr hs9 (fun q hq => (HI.out.base.1 q hq).1)⟩)
      obtain ⟨x9, c9, rfl⟩ := own_slice hown2
      clear hown2 hgb hblk hs9
      go_wp2
      go_ret3
      rw [HRR.out]
      exact .inr ⟨rfl, .slice x9 (P.length + 1) c9, P ++ [(d, .slice xL d.l.length cL)], rfl, HI9.out.gr, by rw [List.map_append]; rfl, HI9.out.cd⟩
     ·rw [List.concat_eq_append] at *
      have hst : stepN 11 FM (M ++ [t]) false = (true, M, false) := by simp [stepN, h2]
      rw [hst, if_pos rfl] at hr2
      have HRR := Lib.hid hr2
      have h1 : w5.ownsRow w.heap.size 3 1 (.slice xo (M ++ [t]).length co) (M.length + 1) (ivs M ++ [.int .i64 t]) := by
       have := HI.out.op
       rw [ivs_app, List.length_append] at this
       rw [List.length_append]
       exact this
      have hll : (M ++ [t]).length = M.length + 1 := by simp
      rw [hll] at h1 HI HLL HBO HN ⊢
      obtain ⟨q, c, e0, hc, hq, hqs, hm⟩ := own_some h1 (by omega)
      obtain ⟨rfl, _, rfl⟩ := Value.slice.inj e0
      have HML := Lib.hid HN.out
      have T1 : IntKind.i64.wrap ((M.length : Int) + 1 - 1) = (M.length : Int) := by have := HN.out; rw [IntKind.wrap_i64]; omega
      have T2 : IntKind.i64.wrap (M.length : Int) = (M.length : Int) := by have := HN.out; rw [IntKind.wrap_i64]; omega
      have T3 : decide ((M.length : Int) < 0) = false := decide_eq_false (by omega)
      have T0 : ((M.length : Int) + 1 == 0) = false := by simp; omega
      have T4 : (M.length : Int) ≤ (co : Int) := by omega
      clear hr2 hFT h24 hst h2 n5 h5 h1 hc hq hqs hm e0
      obtain ⟨NN, hNN⟩ : ∃ NN : List Int, NN = M ++ [t] := ⟨_, rfl⟩
      rw [← hNN] at HI
      have HNN := Lib.hid hNN
      clear hNN
      obtain ⟨OV, hOV⟩ : ∃ OV : Value, OV = .slice (some ⟨q, 0, none⟩) (M.length + 1) co := ⟨_, rfl⟩
      rw [← hOV] at HI HLL
      have HOV := Lib.hid hOV
      clear hOV
      go_upto_region 21 with (first | (refine wpList_load_row rfl 38 _ rfl bi rfl 38 #[.int .i64 d.op, .int .i64 d.a, .int .i64 d.b, .int .u64 d.lo, .int .u64 d.hi, .slice xL d.l.length cL] (0, 0) _ HB5.out Try.underlying38 rfl infoIn ?_) | (at_builtin; refine wpList_append_at rfl _ _ 24 rfl w.heap.size 38 i6 (.agg #[.int .i64 0, .int .i64 0, .int .i64 0, .int .u64 0, .int .u64 0, .slice none 0 0]) 6 64 Try.underlying24 HI6.out HZ06.out HZ16.out HZ26.out rfl (by decide) (.slice xc P.length cc) P.length (cdV P) rfl (World.ownsRow.alloc HI.out.cd.1 _) (.slice (some ⟨w5.heap.size, 0, none⟩) 1 1) 1 (#[.int .i64 d.op, .int .i64 d.a, .int .i64 d.b, .int .u64 d.lo, .int .u64 d.hi, .slice xL d.l.length cL] : Array Value).toList rfl (src_lit w5 #[.int .i64 d.op, .int .i64 d.a, .int .i64 d.b, .int .u64 d.lo, .int .u64 d.hi, .slice xL d.l.length cL] 38 1 1) rfl (inV_all d (.slice xL d.l.length cL) rfl) ?c3 ?c4 ?c5 ?_))
      case c3 => have := HLE.out; have := HL.out; unfold maxLen; omega
      case c4 => have := HLE.out; have := HL.out; omega
      case c5 => have := HI.out.gr.size; simp; omega
      intro v' w9 hown2 hgb hblk
      have hs9 : Sep (fun q => (Value.slice xc P.length cc).ownBlock = some q) w5 w9 := Sep.trans (Sep.of_gr ((Gr.refl w5).alloc _ _)) (Sep.grown hgb fun q hq => hq)
      have HI9 := Lib.hid (show RdI w w9 v' OV (P ++ [(d, .slice xL d.l.length cL)]) NN from ⟨⟨by
        rw [List.length_append, cdV_app]
        show w9.ownsRow _ _ 6 v' (P.length + 1) (cdV P ++ ((inV d (.slice xL d.l.length cL)).toList ++ []))
        rw [List.append_nil]; exact hown2, fun p hp => by
        rcases List.mem_append.1 hp with hp | hp
        ·exact hs9.owns (HI.out.cd.2 p hp) (fun q hq e => own_apart HI.out.cd.1 (HI.out.cd.2 p hp) (by decide) q e hq)
        ·obtain rfl := List.mem_singleton.1 hp
         exact hs9.owns HLL.out.1 (fun q hq e => own_apart HI.out.cd.1 HLL.out.1 (by decide) q e hq)⟩,
       hs9.owns HI.out.op (fun q hq e => HI.out.base.2.2 q e hq), fun p hp q hq => by
        rcases List.mem_append.1 hp with hp | hp
        ·exact HI.out.ap p hp q hq
        ·obtain rfl := List.mem_singleton.1 hp
         exact HLL.out.2 q hq, Sep.toGr HI.out.gr hs9 (fun q hq => (HI.out.base.1 q hq).1)⟩)
      obtain ⟨x9, c9, rfl⟩ := own_slice hown2
      clear hown2 hgb hblk hs9
      rw [HOV.out, HNN.out] at HI9
      have HIC := Lib.hid (show RdI w w9 (.slice x9 (P.length + 1) c9) (.slice (some ⟨q, 0, none⟩) M.length co) (P ++ [(d, .slice xL d.l.length cL)]) M from ⟨HI9.out.cd, own_cut (by have := HI9.out.op; rw [ivs_app, List.length_append] at this; exact this), HI9.out.ap, HI9.out.gr⟩)
      go_wp2
      exact ⟨⟨k', A2, M, P ++ [(d, .slice xL d.l.length cL)], x9, c9, some ⟨q, 0, none⟩, co, P.length + 1, M.length, rfl, by simp, by go_num, by first | rfl | go_num, rfl, by rw [List.map_append]; exact HRR.out.symm, by have := HLE.out; omega, by simp only [List.length_append, List.length_cons, List.length_nil]; have := HLE.out; omega, by have := HLE.out; omega, by have := HML.out; omega, HIC.out⟩, by have := HLE.out; simp [intOf]; omega⟩
    ·have n11 : (op == 11) = false := by simpa using h11
     have hst : stepN op FM N false = (true, N, false) := by simp [stepN, h2, h5, h11]
     rw [hst, if_pos rfl] at hr2
     have HRR := Lib.hid hr2
     have hd : decide (op ≥ 2) = false ∨ (decide (op ≥ 2) = true ∧ decide (op ≤ 4) = false) := by
      by_cases h : 2 ≤ op
      ·exact .inr ⟨decide_eq_true h, decide_eq_false (by omega)⟩
      ·exact .inl (decide_eq_false (by omega))
     clear hr2 hFT h24 hst h2 h5 h11
     obtain ⟨OV, hOV⟩ : ∃ OV : Value, OV = .slice xo N.length co := ⟨_, rfl⟩
     rw [← hOV] at HI HLL
     have HOV := Lib.hid hOV
     clear hOV
     obtain ⟨NN, hNN⟩ : ∃ NN : List Int, NN = N := ⟨_, rfl⟩
     rw [← hNN] at HI
     have HNN := Lib.hid hNN
     clear hNN
     rcases hd with t1 | ⟨t1, t2⟩
     ·go_upto_region 21 with (first | (refine wpList_load_row rfl 38 _ rfl bi rfl 38 #[.int .i64 d.op, .int .i64 d.a, .int .i64 d.b, .int .u64 d.lo, .int .u64 d.hi, .slice xL d.l.length cL] (0, 0) _ HB5.out Try.underlying38 rfl infoIn ?_) | (at_builtin; refine wpList_append_at rfl _ _ 24 rfl w.heap.size 38 i6 (.agg #[.int .i64 0, .int .i64 0, .int .i64 0, .int .u64 0, .int .u64 0, .slice none 0 0]) 6 64 Try.underlying24 HI6.out HZ06.out HZ16.out HZ26.out rfl (by decide) (.slice xc P.length cc) P.length (cdV P) rfl (World.ownsRow.alloc HI.out.cd.1 _) (.slice (some ⟨w5.heap.size, 0, none⟩) 1 1) 1 (#[.int .i64 d.op, .int .i64 d.a, .int .i64 d.b, .int .u64 d.lo, .int .u64 d.hi, .slice xL d.l.length cL] : Array Value).toList rfl (src_lit w5 #[.int .i64 d.op, .int .i64 d.a, .int .i64 d.b, .int .u64 d.lo, .int .u64 d.hi, .slice xL d.l.length cL] 38 1 1) rfl (inV_all d (.slice xL d.l.length cL) rfl) ?c3 ?c4 ?c5 ?_))
      case c3 => have := HLE.out; have := HL.out; unfold maxLen; omega
      case c4 => have := HLE.out; have := HL.out; omega
      case c5 => have := HI.out.gr.size; simp; omega
      intro v' w9 hown2 hgb hblk
      have hs9 : Sep (fun q => (Value.slice xc P.length cc).ownBlock = some q) w5 w9 := Sep.trans (Sep.of_gr ((Gr.refl w5).alloc _ _)) (Sep.grown hgb fun q hq => hq)
      have HI9 := Lib.hid (show RdI w w9 v' OV (P ++ [(d, .slice xL d.l.length cL)]) NN from ⟨⟨by
        rw [List.length_append, cdV_app]
        show w9.ownsRow _ _ 6 v' (P.length + 1) (cdV P ++ ((inV d (.slice xL d.l.length cL)).toList ++ []))
        rw [List.append_nil]; exact hown2, fun p hp => by
        rcases List.mem_append.1 hp with hp | hp
        ·exact hs9.owns (HI.out.cd.2 p hp) (fun q hq e => own_apart HI.out.cd.1 (HI.out.cd.2 p hp) (by decide) q e hq)
        ·obtain rfl := List.mem_singleton.1 hp
         exact hs9.owns HLL.out.1 (fun q hq e => own_apart HI.out.cd.1 HLL.out.1 (by decide) q e hq)⟩,
       hs9.owns HI.out.op (fun q hq e => HI.out.base.2.2 q e hq), fun p hp q hq => by
        rcases List.mem_append.1 hp with hp | hp
        ·exact HI.out.ap p hp q hq
        ·obtain rfl := List.mem_singleton.1 hp
         exact HLL.out.2 q hq, Sep.toGr HI.out.gr hs9 (fun q hq => (HI.out.base.1 q hq).1)⟩)
      obtain ⟨x9, c9, rfl⟩ := own_slice hown2
      clear hown2 hgb hblk hs9
      rw [HOV.out, HNN.out] at HI9
      go_wp2
      exact ⟨⟨k', A2, N, P ++ [(d, .slice xL d.l.length cL)], x9, c9, xo, co, P.length + 1, N.length, rfl, by simp, by go_num, rfl, rfl, by rw [List.map_append]; exact HRR.out.symm, by have := HLE.out; omega, by simp only [List.length_append, List.length_cons, List.length_nil]; have := HLE.out; omega, by have := HLE.out; omega, HN.out, HI9.out⟩, by have := HLE.out; simp [intOf]; omega⟩
     ·go_upto_region 21 with (first | (refine wpList_load_row rfl 38 _ rfl bi rfl 38 #[.int .i64 d.op, .int .i64 d.a, .int .i64 d.b, .int .u64 d.lo, .int .u64 d.hi, .slice xL d.l.length cL] (0, 0) _ HB5.out Try.underlying38 rfl infoIn ?_) | (at_builtin; refine wpList_append_at rfl _ _ 24 rfl w.heap.size 38 i6 (.agg #[.int .i64 0, .int .i64 0, .int .i64 0, .int .u64 0, .int .u64 0, .slice none 0 0]) 6 64 Try.underlying24 HI6.out HZ06.out HZ16.out HZ26.out rfl (by decide) (.slice xc P.length cc) P.length (cdV P) rfl (World.ownsRow.alloc HI.out.cd.1 _) (.slice (some ⟨w5.heap.size, 0, none⟩) 1 1) 1 (#[.int .i64 d.op, .int .i64 d.a, .int .i64 d.b, .int .u64 d.lo, .int .u64 d.hi, .slice xL d.l.length cL] : Array Value).toList rfl (src_lit w5 #[.int .i64 d.op, .int .i64 d.a, .int .i64 d.b, .int .u64 d.lo, .int .u64 d.hi, .slice xL d.l.length cL] 38 1 1) rfl (inV_all d (.slice xL d.l.length cL) rfl) ?c3 ?c4 ?c5 ?_))
      case c3 => have := HLE.out; have := HL.out; unfold maxLen; omega
      case c4 => have := HLE.out; have := HL.out; omega
      case c5 => have := HI.out.gr.size; simp; omega
      intro v' w9 hown2 hgb hblk
      have hs9 : Sep (fun q => (Value.slice xc P.length cc).ownBlock = some q) w5 w9 := Sep.trans (Sep.of_gr ((Gr.refl w5).alloc _ _)) (Sep.grown hgb fun q hq => hq)
      have HI9 := Lib.hid (show RdI w w9 v' OV (P ++ [(d, .slice xL d.l.length cL)]) NN from ⟨⟨by
        rw [List.length_append, cdV_app]
        show w9.ownsRow _ _ 6 v' (P.length + 1) (cdV P ++ ((inV d (.slice xL d.l.length cL)).toList ++ []))
        rw [List.append_nil]; exact hown2, fun p hp => by
        rcases List.mem_append.1 hp with hp | hp
        ·exact hs9.owns (HI.out.cd.2 p hp) (fun q hq e => own_apart HI.out.cd.1 (HI.out.cd.2 p hp) (by decide) q e hq)
        ·obtain rfl := List.mem_singleton.1 hp
         exact hs9.owns HLL.out.1 (fun q hq e => own_apart HI.out.cd.1 HLL.out.1 (by decide) q e hq)⟩,
       hs9.owns HI.out.op (fun q hq e => HI.out.base.2.2 q e hq), fun p hp q hq => by
        rcases List.mem_append.1 hp with hp | hp
        ·exact HI.out.ap p hp q hq
        ·obtain rfl := List.mem_singleton.1 hp
         exact HLL.out.2 q hq, Sep.toGr HI.out.gr hs9 (fun q hq => (HI.out.base.1 q hq).1)⟩)
      obtain ⟨x9, c9, rfl⟩ := own_slice hown2
      clear hown2 hgb hblk hs9
      rw [HOV.out, HNN.out] at HI9
      go_wp2
      exact ⟨⟨k', A2, N, P ++ [(d, .slice xL d.l.length cL)], x9, c9, xo, co, P.length + 1, N.length, rfl, by simp, by go_num, rfl, rfl, by rw [List.map_append]; exact HRR.out.symm, by have := HLE.out; omega, by simp only [List.length_append, List.length_cons, List.length_nil]; have := HLE.out; omega, by have := HLE.out; omega, HN.out, HI9.out⟩, by have := HLE.out; simp [intOf]; omega⟩
theorem rread_any {w : World} {sv : Value} {len : Nat} {f : Nat → Int} (a : Int) (hf : By f) (hb : U8s w sv len f) (hl : len ≤ 1099511627776) :
  Calls Try.prog 11 #[sv, .int .i64 a] w (RDX w (readS f len a)) := by
 by_cases h0 : a < 0
 ·have e0 : readS f len a = ([], 0, 1) := if_pos (.inl h0)
  rw [e0]
  obtain ⟨x, c, rfl⟩ := u8s_slice hb
  have d0 : decide (a < 0) = true := decide_eq_true h0
  clear e0 hb
  go_enter Try.func11, Try.ntmps11
  go_wp2
  go_ret3
  exact .inl ⟨by decide, rfl, rfl, rfl, Gr.refl _⟩
 ·by_cases h1 : (len : Int) < a
  ·have e0 : readS f len a = ([], 0, 1) := if_pos (.inr h1)
   rw [e0]
   obtain ⟨x, c, rfl⟩ := u8s_slice hb
   have d0 : decide (a < 0) = false := decide_eq_false h0
   have d1 : decide (a > (len : Int)) = true := decide_eq_true h1
   clear e0 hb
   go_enter Try.func11, Try.ntmps11
   go_wp2
   go_ret3
   exact .inl ⟨by decide, rfl, rfl, rfl, Gr.refl _⟩
  ·have e0 : readS f len a = rdS f len (len + 2) ⟨a, 0⟩ [] false [] := if_neg (by omega)
   rw [e0]
   obtain ⟨n, rfl⟩ := Int.eq_ofNat_of_zero_le (show 0 ≤ a by omega)
   exact rread_in hf hb (by omega) hl
end Ex
end
section
open Go.RowKit VecM LebM
namespace Ex
theorem szP_mem' : ∀ (D : List In), ∀ d ∈ D, d.l.length ≤ szP D
 | [], d, h => by cases h
 | e :: r, d, h => by
  unfold szP
  rcases List.mem_cons.1 h with rfl | h
  ·omega
  ·have := szP_mem' r d h; omega
theorem szP_len' : ∀ (D : List In), D.length ≤ szP D
 | [] => by simp [szP]
 | e :: r => by have := szP_len' r; unfold szP; rw [List.length_cons]; omega
end Ex
end
section
open Go.RowKit VecM LebM
namespace Ex
def uN (n : Int) : Int := if n < 0 ∨ 4294967295 < n then 0 else n
theorem uN_bd (n : Int) : 0 ≤ uN n ∧ uN n < 18446744073709551616 := by unfold uN; split <;> omega
theorem uN_id {n : Int} (h : idxB n = true) : uN n = n := by
 have := (idx_iff).1 h
 unfold uN; rw [if_neg (by omega)]
def BYT (Y : List Int) (B : Nat) (w : World) (e : Ending) (w' : World) : Prop := ∃ x m c, e = .returned (.slice x m c) ∧ Gr w w' ∧ m ≤ B ∧ Src w' (.slice x m c) m (u8s Y) ∧ (u8s Y).length = m * 1
theorem byt_of {Y : List Int} {B base : Nat} {w w' : World} {sv : Value} (hg : Gr w w') (h : w'.ownsRow base 5 1 sv Y.length (u8s Y)) (hB : Y.length ≤ B) : BYT Y B w (.returned sv) w' := by
 obtain ⟨x, c, rfl⟩ := own_slice h
 exact ⟨x, Y.length, c, rfl, hg, hB, src_own h, h.1⟩
theorem rputu1 {w : World} {b : Nat} {n : Int} {t : TypeId} {z : Nat × Nat} (hn : 0 ≤ n ∧ n < 18446744073709551616) (h : w.heap[b]? = some (.cells #[.int .u64 n] t z)) : Calls Try.prog 73 #[.slice (some ⟨b, 0, none⟩) 1 1] w (BYT (formU n) 10 w) := by
 have h1 := rputu_any _ 1 (fun _ => n) (fun _ => hn) (by decide) w (ks1 h)
 rw [forms1 formU n _ rfl] at h1
 refine h1.mono fun e w' ⟨sv, e1, hg, ho⟩ => ?_
 subst e1
 exact byt_of hg ho (formU_len n)
theorem rputs1 {w : World} {b : Nat} {n : Int} {t : TypeId} {z : Nat × Nat} (hn : -9223372036854775808 ≤ n ∧ n ≤ 9223372036854775807) (h : w.heap[b]? = some (.cells #[.int .i64 n] t z)) : Calls Try.prog 51 #[.slice (some ⟨b, 0, none⟩) 1 1] w (BYT (formS n) 10 w) := by
 have h1 := rputs_any _ 1 (fun _ => n) (fun _ => hn) (by decide) w (ks1 h)
 rw [forms1 formS n _ rfl] at h1
 refine h1.mono fun e w' ⟨sv, e1, hg, ho⟩ => ?_
 subst e1
 exact byt_of hg ho (formS_len n)
theorem u_neg (n : Int) (h : n < 0) (w : World) : Calls Try.prog 50 #[.int .i64 n] w (BYT (formU 0) 10 w) := by
 have d0 : decide (n < 0) = true := decide_eq_true h
 have HP := Lib.hid (fun (wx : World) => rputu1 (w := wx.alloc (.cells #[.int .u64 0] 35)) (b := wx.heap.size) (n := 0) (by omega) (heap_alloc_new wx _))
 have T1 : IntKind.u64.wrap 0 = 0 := by rw [IntKind.wrap_u64]; omega
 clear h
 go_enter Try.func50, Try.ntmps50
 go_wp2_with fail
 refine (HP.out _).mono ?_
 rintro e w1 ⟨x, m, c, rfl, hg, hm, hs, hl⟩
 have HE := Lib.hid (And.intro (gr_trans ((Gr.refl w).alloc _ _) hg) (And.intro hm (And.intro hs hl)))
 clear hg hm hs hl
 go_wp2
 go_ret
 exact ⟨x, m, c, rfl, HE.out.1, HE.out.2.1, HE.out.2.2.1, HE.out.2.2.2⟩
theorem u_big (n : Int) (h : 4294967295 < n) (w : World) : Calls Try.prog 50 #[.int .i64 n] w (BYT (formU 0) 10 w) := by
 have d0 : decide (n < 0) = false := decide_eq_false (by omega)
 have d1 : decide (n > 4294967295) = true := decide_eq_true h
 have HP := Lib.hid (fun (wx : World) => rputu1 (w := wx.alloc (.cells #[.int .u64 0] 35)) (b := wx.heap.size) (n := 0) (by omega) (heap_alloc_new wx _))
 have T1 : IntKind.u64.wrap 0 = 0 := by rw [IntKind.wrap_u64]; omega
 clear h
 go_enter Try.func50, Try.ntmps50
 go_wp2_with fail
 refine (HP.out _).mono ?_
 rintro e w1 ⟨x, m, c, rfl, hg, hm, hs, hl⟩
 have HE := Lib.hid (And.intro (gr_trans ((Gr.refl w).alloc _ _) hg) (And.intro hm (And.intro hs hl)))
 clear hg hm hs hl
 go_wp2
 go_ret
 exact ⟨x, m, c, rfl, HE.out.1, HE.out.2.1, HE.out.2.2.1, HE.out.2.2.2⟩
theorem u_fit (n : Int) (h : 0 ≤ n ∧ n ≤ 4294967295) (w : World) : Calls Try.prog 50 #[.int .i64 n] w (BYT (formU n) 10 w) := by
 have d0 : decide (n < 0) = false := decide_eq_false (by omega)
 have d1 : decide (n > 4294967295) = false := decide_eq_false (by omega)
 have HP := Lib.hid (fun (wx : World) => rputu1 (w := wx.alloc (.cells #[.int .u64 n] 35)) (b := wx.heap.size) (n := n) (by omega) (heap_alloc_new wx _))
 have T1 : IntKind.u64.wrap n = n := by rw [IntKind.wrap_u64]; omega
 clear h
 go_enter Try.func50, Try.ntmps50
 go_wp2_with fail
 refine (HP.out _).mono ?_
 rintro e w1 ⟨x, m, c, rfl, hg, hm, hs, hl⟩
 have HE := Lib.hid (And.intro (gr_trans ((Gr.refl w).alloc _ _) hg) (And.intro hm (And.intro hs hl)))
 clear hg hm hs hl
 go_wp2
 go_ret
 exact ⟨x, m, c, rfl, HE.out.1, HE.out.2.1, HE.out.2.2.1, HE.out.2.2.2⟩
theorem u_any (n : Int) (w : World) : Calls Try.prog 50 #[.int .i64 n] w (BYT (formU (uN n)) 10 w) := by
 by_cases h0 : n < 0
 ·have e : uN n = 0 := if_pos (.inl h0)
  rw [e]; exact u_neg n h0 w
 ·by_cases h1 : 4294967295 < n
  ·have e : uN n = 0 := if_pos (.inr h1)
   rw [e]; exact u_big n h1 w
  ·have e : uN n = n := if_neg (by omega)
   rw [e]; exact u_fit n (by omega) w
theorem rsg32 (x : Int) (hx : 0 ≤ x ∧ x < 18446744073709551616) (w : World) : Calls Try.prog 52 #[.int .u64 x, .int .i64 32] w fun e w' => e = .returned (.int .i64 (sg32 x)) ∧ Gr w w' := by
 have T1 : IntKind.u64.wrap (x.tmod 4294967296) = x % 4294967296 := by rw [Int.tmod_eq_emod_of_nonneg hx.1, IntKind.wrap_u64]; omega
 have T2 : x.tmod 4294967296 = x % 4294967296 := Int.tmod_eq_emod_of_nonneg hx.1
 have e : sg32 x = if x % 4294967296 < 2147483648 then x % 4294967296 else x % 4294967296 - 4294967296 := rfl
 rw [e]
 have hb : 0 ≤ x % 4294967296 ∧ x % 4294967296 < 4294967296 := by omega
 generalize x % 4294967296 = y at *
 have T3 : IntKind.u64.wrap y = y := by rw [IntKind.wrap_u64]; omega
 have T4 : IntKind.i64.wrap y = y := by rw [IntKind.wrap_i64]; omega
 have T5 : IntKind.i64.wrap (y - 4294967296) = y - 4294967296 := by rw [IntKind.wrap_i64]; omega
 clear e
 by_cases hc : y < 2147483648
 ·rw [if_pos hc]
  have d0 : decide (y ≥ 2147483648) = false := decide_eq_false (by omega)
  clear hx hb
  go_enter Try.func52, Try.ntmps52
  go_wp2
  go_ret
  exact ⟨rfl, Gr.refl _⟩
 ·rw [if_neg hc]
  have d0 : decide (y ≥ 2147483648) = true := decide_eq_true (by omega)
  clear hx hb hc
  go_enter Try.func52, Try.ntmps52
  go_wp2
  go_ret
  exact ⟨rfl, Gr.refl _⟩
def opcO (op : Int) : List Int := if 64768 ≤ op then [253] ++ formU (uN (op - 64768)) else [op % 256]
def fldO (d : In) (form : Int) : List Int :=
 if form = 2 then (if d.a < 0 then [(d.a + 128) % 256] else formS d.a)
 else if form = 3 ∨ form = 5 then formU (uN d.a)
 else if form = 4 then formU (uN (d.l.length : Int)) ++ (d.l.flatMap fun z => formU (uN z)) ++ formU (uN d.a)
 else if form = 6 ∨ form = 7 then formU (uN d.a) ++ formU (uN d.b)
 else if form = 8 then formU (uN d.a) ++ formU (uN d.b) ++ [d.lo % 256]
 else if form = 9 then formS (sg32 d.lo)
 else if form = 10 then formS (sg64 d.lo)
 else if form = 11 ∨ form = 12 then vecL d.lo d.hi
 else if form = 13 then [d.a % 256]
 else if form = 14 then [0]
 else []
def oneS (d : In) : List Int := opcO d.op ++ fldO d (fm d.op)
theorem opcO_len (op : Int) : (opcO op).length ≤ 11 := by
 have := formU_len (uN (op - 64768))
 unfold opcO; split
 ·simp only [List.length_append, List.length_cons, List.length_nil]; omega
 ·simp
theorem tabO_len : ∀ l : List Int, (l.flatMap fun z => formU (uN z)).length ≤ 10 * l.length
 | [] => by simp
 | z :: l => by
  have h1 := tabO_len l
  have h2 := formU_len (uN z)
  rw [List.flatMap_cons, List.length_append, List.length_cons]; omega
theorem fldO_len (d : In) (form : Int) : (fldO d form).length ≤ 50 + 10 * d.l.length := by
 have h1 := formU_len (uN d.a)
 have h2 := formU_len (uN d.b)
 have h3 := formU_len (uN (d.l.length : Int))
 have h4 := tabO_len d.l
 have h5 := formS_len d.a
 have h6 := formS_len (sg32 d.lo)
 have h7 := formS_len (sg64 d.lo)
 have h8 : (vecL d.lo d.hi).length = 16 := by unfold vecL; simp
 unfold fldO
 repeat' split
 all_goals first | (simp only [List.length_append, List.length_cons, List.length_nil]; omega) | omega
theorem oneS_len (d : In) : (oneS d).length ≤ 64 * (d.l.length + 1) := by
 have h1 := opcO_len d.op
 have h2 := fldO_len d (fm d.op)
 unfold oneS; rw [List.length_append]; omega
theorem opcO_good {op : Int} (h : fm op ≠ 0) : opcO op = opcL op := by
 have hr := fm_rng h
 unfold opcO opcL
 by_cases h1 : op < 64768
 ·rw [if_neg (by omega), if_pos h1]
 ·rw [if_pos (by omega), if_neg h1]
  have e : uN (op - 64768) = op - 64768 := by unfold uN; rw [if_neg (by omega)]
  rw [e]
theorem tabO_good : ∀ l : List Int, l.all idxB = true → (l.flatMap fun z => formU (uN z)) = tabF l
 | [], _ => rfl
 | z :: l, h => by
  simp only [List.all_cons, Bool.and_eq_true] at h
  have e : tabF (z :: l) = formU z ++ tabF l := by unfold tabF; rw [List.flatMap_cons]
  rw [e, List.flatMap_cons, tabO_good l h.2, uN_id h.1]
theorem fS64 : formS (-64) = [64] := by decide
theorem fS1 : formS (-1) = [127] := by decide
theorem fS2 : formS (-2) = [126] := by decide
theorem fS5 : formS (-5) = [123] := by decide
theorem fldO_good {d : In} {form : Int} (h : fitB d form = true) (hl : d.l.length ≤ 4294967295) : fldO d form = fldL d form := by
 unfold fitB at h
 unfold fldO fldL
 by_cases c2 : form = 2
 ·simp only [if_pos c2, Bool.and_eq_true, Bool.or_eq_true, beq_iff_eq] at h ⊢
  rcases h.1.1.1.1 with (((h1 | h1) | h1) | h1) | h1
  ·have := (idx_iff).1 h1
   rw [if_neg (by omega)]
  ·rw [h1, if_pos (by decide), fS64]; rfl
  ·rw [h1, if_pos (by decide), fS1]; rfl
  ·rw [h1, if_pos (by decide), fS2]; rfl
  ·rw [h1, if_pos (by decide), fS5]; rfl
 rw [if_neg c2] at h
 rw [if_neg c2, if_neg c2]
 by_cases c3 : form = 3 ∨ form = 5
 ·simp only [if_pos c3, Bool.and_eq_true] at h ⊢
  rw [uN_id h.1.1.1.1]
 rw [if_neg c3] at h
 rw [if_neg c3, if_neg c3]
 by_cases c4 : form = 4
 ·simp only [if_pos c4, Bool.and_eq_true] at h ⊢
  have e : uN (d.l.length : Int) = d.l.length := by unfold uN; rw [if_neg (by omega)]
  rw [uN_id h.1.1.1.1, tabO_good d.l h.1.1.1.2, e]
 rw [if_neg c4] at h
 rw [if_neg c4, if_neg c4]
 by_cases c6 : form = 6 ∨ form = 7
 ·simp only [if_pos c6, Bool.and_eq_true] at h ⊢
  rw [uN_id h.1.1.1.1, uN_id h.1.1.1.2]
 rw [if_neg c6] at h
 rw [if_neg c6, if_neg c6]
 by_cases c8 : form = 8
 ·simp only [if_pos c8, Bool.and_eq_true] at h ⊢
  rw [uN_id h.1.1.1.1, uN_id h.1.1.1.2]
 rw [if_neg c8, if_neg c8]
theorem oneS_good {d : In} (h1 : fm d.op ≠ 0) (h2 : fitB d (fm d.op) = true) (hl : d.l.length ≤ 4294967295) : oneS d = insB d := by
 unfold oneS insB
 rw [opcO_good h1, fldO_good h2 hl]
theorem oneF_good : ∀ (D : List In) (N : List Int) (cl : Bool), okB D N cl = true → (∀ d ∈ D, d.l.length ≤ 4294967295) → D.flatMap oneS = insF D
 | [], _, _, _, _ => rfl
 | d :: r, N, cl, h, hl => by
  unfold okB at h
  rw [Bool.and_eq_true] at h
  obtain ⟨h1, h2, _⟩ := good_parts h.1
  rw [insF_cons, List.flatMap_cons, oneS_good h1 h2 (hl d (by simp)), oneF_good r _ _ h.2 fun x hx => hl x (by simp [hx])]
theorem fldO_by (d : In) (form : Int) : byL (fldO d form) := by
 have hu : ∀ z, byL (formU (uN z)) := fun z => formU_by (uN_bd z).1
 unfold fldO
 split
 ·split
  ·exact byL.one (by omega)
  ·exact formS_by _
 split
 ·exact hu _
 split
 ·refine ((hu _).app fun x hx => ?_).app (hu _)
  obtain ⟨z, _, hz⟩ := List.mem_flatMap.1 hx
  exact hu z x hz
 split
 ·exact (hu _).app (hu _)
 split
 ·exact ((hu _).app (hu _)).app (byL.one (by omega))
 split
 ·exact formS_by _
 split
 ·exact formS_by _
 split
 ·exact vecL_by _ _
 split
 ·exact byL.one (by omega)
 split
 ·exact byL.one (by decide)
 ·exact fun x hx => by cases hx
theorem oneS_by (d : In) : byL (oneS d) := by
 have hu : ∀ z, byL (formU (uN z)) := fun z => formU_by (uN_bd z).1
 unfold oneS
 refine byL.app ?_ (fldO_by _ _)
 unfold opcO
 split
 ·exact (byL.one (by decide)).app (hu _)
 ·exact byL.one (by omega)
theorem oneF_by : ∀ (D : List In), byL (D.flatMap oneS)
 | [] => fun x hx => by simp at hx
 | d :: r => by rw [List.flatMap_cons]; exact (oneS_by d).app (oneF_by r)
end Ex
end
end Go.Proofs.Ytebkabidojipoaa
