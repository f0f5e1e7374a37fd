/-
 TargetHeights: of every given program the law returns true.
-/
import Derived.Test.YtifjgocfdnhdeaaMt9
import Derived.Test.YtifjgocfdnhdeaaMt11
namespace Go.Proofs.Ytifjgocfdnhdeaa
open Go.RowKit
namespace Tg
open Ins
noncomputable def bB (p : Prop) : Bool := @decide p (Classical.propDecidable p)
theorem bB_t {p : Prop} (h : p) : bB p = true := by unfold bB; exact @decide_eq_true p (Classical.propDecidable p) h
theorem bB_f {p : Prop} (h : ¬ p) : bB p = false := by unfold bB; exact @decide_eq_false p (Classical.propDecidable p) h
theorem bB_iff {p q : Prop} (h : p ↔ q) : bB p = bB q := by rw [propext h]
theorem lt_m1 {k n : Nat} (h : k < n) : k < n * 1 := by omega
theorem wr1 {k n : Nat} (h : k < n) (h1 : n ≤ 1048576) : wrap64 ((k : Int) + 1) = (k : Int) + 1 := by unfold wrap64; omega
theorem lst0 {m k : Nat} (h : m < k + 0 + 1) : (m : Int) ≤ (k : Int) := by omega
theorem lst1 {m k : Nat} (h : m < k + 1 + 1) : (m : Int) ≤ (k : Int) + 1 := by omega
theorem lst14 {m k a : Nat} (h : m < k + (a + 1) + 1) : (m : Int) ≤ (k : Int) + 1 + (a : Int) := by omega
theorem nls0 {k : Nat} : ¬ (((k + 0 + 1 : Nat) : Int) ≤ (k : Int)) := by omega
theorem nls1 {k : Nat} : ¬ (((k + 1 + 1 : Nat) : Int) ≤ (k : Int) + 1) := by omega
theorem nls14 {k a : Nat} : ¬ (((k + (a + 1) + 1 : Nat) : Int) ≤ (k : Int) + 1 + (a : Int)) := by omega
theorem tonat1 {k : Nat} : ((k : Int) + 1).toNat = k + 1 := by omega
theorem wrT {x t gv h2 : Int} (ht : 0 ≤ t) (htx : t ≤ x) (hx : x ≤ 1099511627776) (hg : 0 ≤ gv ∧ gv ≤ 1048576) (e : x - t + gv = h2) : IntKind.i64.wrap (x - t) = x - t ∧ wrap64 (x - t) = x - t ∧ IntKind.i64.wrap (x - t + gv) = h2 ∧ wrap64 (x - t + gv) = h2 ∧ ¬ (x < t) := by
 subst e
 refine ⟨?_, ?_, ?_, ?_, by omega⟩
 ·rw [IntKind.wrap_i64]; omega
 ·unfold wrap64; omega
 ·rw [IntKind.wrap_i64]; omega
 ·unfold wrap64; omega
theorem ne_m1 {x : Int} (h : 0 ≤ x) : x ≠ -1 := by omega
theorem natc (k : Nat) : (k : Int) + 1 = ((k + 1 : Nat) : Int) := by omega
theorem le_kd {k d : Nat} : k + 1 ≤ k + d + 1 := by omega
theorem upto_one {A : Prop} {k m y : Nat} (h : k + 1 ≤ m) : ((A ∨ (k < y ∧ y < m)) ∨ y = m) ↔ A ∨ (k < y ∧ y < m + 1) := by
 constructor
 ·rintro ((h1 | h1) | h1)
  ·exact .inl h1
  ·exact .inr ⟨h1.1, by omega⟩
  ·exact .inr ⟨by omega, by omega⟩
 ·rintro (h1 | h1)
  ·exact .inl (.inl h1)
  ·by_cases e : y = m
   ·exact .inr e
   ·exact .inl (.inr ⟨h1.1, by omega⟩)
theorem gr_set {w w4 w7 : World} {gc : Nat} (_hg : Gr w w4) (hc : w4.heap.size = gc) (h : Gr w4 w7) (m : Nat) : Gr w4 (w7.setCell ⟨gc, m, none⟩ (.bool true)) :=
 Sep.toGr h (Sep.setCell (ex := fun q => q = gc) w7 (p := ⟨gc, m, none⟩) rfl (.bool true)) (fun q hq => by have e' : q = gc := hq; omega)
/-- a row of truths -/
noncomputable def bs (n : Nat) (S : Nat → Prop) : List Value := (List.range n).map fun m => Value.bool (bB (S m))
theorem bs_get {n : Nat} (S : Nat → Prop) {m : Nat} (h : m < n) : (bs n S)[m]? = some (.bool (bB (S m))) := by
 unfold bs
 rw [List.getElem?_map, List.getElem?_range h]
 rfl
theorem bs_set {n : Nat} (S : Nat → Prop) (m : Nat) : (bs n S).set m (.bool true) = bs n (fun y => S y ∨ y = m) := by
 apply List.ext_getElem?
 intro j
 rw [List.getElem?_set]
 have hl : (bs n S).length = n := by unfold bs; simp
 by_cases e : m = j
 ·subst e
  rw [if_pos rfl, hl]
  split
  ·rename_i h
   rw [bs_get _ h, bB_t (.inr rfl)]
  ·rename_i h
   rw [List.getElem?_eq_none]
   unfold bs
   simp
   omega
 ·rw [if_neg e]
  by_cases h : j < n
  ·rw [bs_get _ h, bs_get _ h]
   congr 2
   exact bB_iff ⟨fun h => .inl h, fun h => h.resolve_right (fun e' => e e'.symm)⟩
  ·rw [List.getElem?_eq_none (by unfold bs; simp; omega), List.getElem?_eq_none (by unfold bs; simp; omega)]
@[irreducible] def brow (m : Nat) : Array Value := madeCells #[.bool false] m
theorem brow_size (m : Nat) : (brow m).size = m * 1 := by
 unfold brow madeCells
 simp
theorem brow_bs (m : Nat) : (brow m).toList = bs m (fun _ => False) := by
 apply List.ext_getElem?
 intro j
 unfold brow madeCells
 by_cases h : j < m
 ·rw [bs_get _ h, bB_f (fun h => h)]
  simp [h, Nat.mod_one]
 ·rw [List.getElem?_eq_none (by simp; omega), List.getElem?_eq_none (by unfold bs; simp; omega)]
theorem run_make_b {P : Program} (t e : TypeId) (i : TypeInfo) (ht : P.underlying t = some (.slice e)) (hi : P.info? e = some i) (hz : i.zero = some (.bool false)) (hs : i.size = 1) (hb : i.bytes = 1) (c : Int) (m : Nat) (hc : c = (m : Int)) (hm : m ≤ 1048576) (wx : World) :
  (Instr.makeSlice t (.int .i64 c) (.int .i64 c)).run P wx = .ok (.slice (some ⟨wx.heap.size, 0, none⟩) m m) (wx.alloc (.cells (brow m) e)) := by
 subst hc
 have h := run_makeSlice (P := P) wx t e i (.bool false) ht hi hz .i64 .i64 (m : Int) (m : Int) (by omega) (Int.le_refl _) (by rw [hs, Int.toNat_natCast]; omega) (by rw [hb]; omega) (by omega)
 rw [Int.toNat_natCast, hs, Nat.mul_one] at h
 unfold brow
 exact h
theorem infoB : (Try.prog.info? 4).map (fun i => (i.zero, i.size, i.bytes)) = some (some (.bool false), 1, 1) := by kernel_rfl
/-- a cell with a height leads there -/
def Led (l : List Ce) (hs : List Int) (j m : Nat) : Prop := ∃ x c, hs[j]? = some x ∧ x ≠ -1 ∧ l[j]? = some c ∧ (m : Int) ∈ nbL j c
theorem led_no {l : List Ce} {hs : List Int} {j m : Nat} (h : hs[j]? = some (-1)) : ¬ Led l hs j m := fun ⟨x, c, h1, h2, _⟩ => by
 rw [h] at h1
 exact h2 (Option.some.inj h1).symm
theorem led_iff {l : List Ce} {hs : List Int} {j m : Nat} {x : Int} {c : Ce} (h : hs[j]? = some x) (hx : x ≠ -1) (hc : l[j]? = some c) : Led l hs j m ↔ (m : Int) ∈ nbL j c :=
 ⟨fun ⟨x', c', h1, h2, h3, h4⟩ => by rw [hc] at h3; obtain rfl := Option.some.inj h3; exact h4, fun h4 => ⟨x, c, h, hx, hc, h4⟩⟩
theorem upto_succ {Q : Nat → Prop} {k : Nat} : (∃ j, j < k + 1 ∧ Q j) ↔ (∃ j, j < k ∧ Q j) ∨ Q k :=
 ⟨fun ⟨j, h1, h2⟩ => by
  rcases Nat.lt_succ_iff_lt_or_eq.1 h1 with h | rfl
  ·exact .inl ⟨j, h, h2⟩
  ·exact .inr h2, fun h => h.elim (fun ⟨j, h1, h2⟩ => ⟨j, by omega, h2⟩) (fun h => ⟨k, by omega, h⟩)⟩
theorem nb_12 {k a' y : Nat} {nn : Int} : (y : Int) ∈ nbL k ⟨12, (a' : Nat), nn⟩ ↔ y = a' := by
 unfold nbL
 simp
 omega
theorem nb_13 {k a' y : Nat} {nn : Int} : (y : Int) ∈ nbL k ⟨13, (a' : Nat), nn⟩ ↔ y = a' ∨ y = k + 1 := by
 unfold nbL
 simp
 omega
theorem nb_14 {k a' y : Nat} {nn : Int} : (y : Int) ∈ nbL k ⟨14, (a' : Nat), nn⟩ ↔ k < y ∧ y < k + (a' + 1) + 1 := by
 unfold nbL
 simp
 constructor
 ·rintro ⟨x, h1, h2⟩
  omega
 ·intro h
  exact ⟨y - k - 1, by omega, by omega⟩
theorem nb_0 {k y : Nat} {a nn : Int} : (y : Int) ∈ nbL k ⟨0, a, nn⟩ ↔ False := by
 unfold nbL
 simp
theorem nb_15 {k y : Nat} {a nn : Int} : (y : Int) ∈ nbL k ⟨15, a, nn⟩ ↔ False := by
 unfold nbL
 simp
theorem nb_o {k y : Nat} {op a nn : Int} (h : ¬ op = 0 ∧ ¬ op = 12 ∧ ¬ op = 13 ∧ ¬ op = 14 ∧ ¬ op = 15) : (y : Int) ∈ nbL k ⟨op, a, nn⟩ ↔ y = k + 1 := by
 unfold nbL
 rw [if_neg (by dsimp only; omega), if_neg h.2.1, if_neg h.2.2.1, if_neg h.2.2.2.1, List.mem_singleton]
 omega
theorem fin_12 {A : Prop} {y a k : Nat} : ((A ∨ y = a) ∨ (k < y ∧ y < k + 0 + 1)) ↔ (A ∨ y = a) :=
 ⟨fun h => h.elim id (fun h => by omega), .inl⟩
theorem fin_13 {A : Prop} {y a k : Nat} : ((A ∨ y = a) ∨ (k < y ∧ y < k + 1 + 1)) ↔ (A ∨ y = a ∨ y = k + 1) :=
 ⟨fun h => h.elim (fun h => h.elim .inl (fun h => .inr (.inl h))) (fun h => .inr (.inr (by omega))), fun h => h.elim (fun h => .inl (.inl h)) (fun h => h.elim (fun h => .inl (.inr h)) (fun h => .inr (by omega)))⟩
theorem fin_14 {A : Prop} {y a k : Nat} : (A ∨ (k < y ∧ y < k + (a + 1) + 1)) ↔ (A ∨ (k < y ∧ y < k + (a + 1) + 1)) := Iff.rfl
theorem fin_0 {A : Prop} {y k : Nat} : (A ∨ (k < y ∧ y < k + 0 + 1)) ↔ (A ∨ False) :=
 ⟨fun h => h.elim .inl (fun h => by omega), fun h => h.elim .inl (fun h => h.elim)⟩
theorem fin_1 {A : Prop} {y k : Nat} : (A ∨ (k < y ∧ y < k + 1 + 1)) ↔ (A ∨ y = k + 1) :=
 ⟨fun h => h.elim .inl (fun h => .inr (by omega)), fun h => h.elim .inl (fun h => .inr (by omega))⟩
theorem wrka {k a n : Nat} (h : k + (a + 1) < n) (h1 : n ≤ 1048576) : wrap64 ((k : Int) + 1 + a) = (k : Int) + 1 + a ∧ IntKind.i64.wrap ((k : Int) + 1 + a) = (k : Int) + 1 + a := by
 refine ⟨?_, ?_⟩
 ·unfold wrap64; omega
 ·rw [IntKind.wrap_i64]; omega
/-- those that the cells before k lead to -/
def Sp (l : List Ce) (hs : List Int) (k m : Nat) : Prop := m = 0 ∨ ∃ j, j < k ∧ Led l hs j m
theorem sp_succ {l : List Ce} {hs : List Int} {k m : Nat} : Sp l hs (k + 1) m ↔ Sp l hs k m ∨ Led l hs k m := by
 unfold Sp
 rw [upto_succ, or_assoc]
theorem sp_all {P : Pr} {out : Int} {l : List Ce} {hs : List Int} (hw : Wv P out l hs []) (ck : CkL P out l) {m : Nat} {x : Int} (hx : hs[m]? = some x) : Sp l hs l.length m ↔ x ≠ -1 := by
 constructor
 ·intro h
  rcases h with rfl | ⟨j, _, y, c, h1, h2, h3, h4⟩
  ·rw [hw.zero] at hx
   obtain rfl := Option.some.inj hx
   decide
  ·rcases hw.done j y h1 h2 with h | h
   ·exact (List.not_mem_nil h).elim
   ·obtain ⟨h5, h6⟩ := h c h3
    have h7 := (h6 _ h4).2
    rw [Int.toNat_natCast, hx] at h7
    have h8 := Option.some.inj h7
    have := (ck j c h3).2.1.1
    omega
 ·intro h
  rcases hw.led m x hx h with rfl | ⟨i, c, y, h1, h2, h3, h4⟩
  ·exact .inl rfl
  ·have := (List.getElem?_eq_some_iff.1 h3).1
   exact .inr ⟨i, this, y, c, h1, h2, h3, h4⟩
set_option maxRecDepth 100000 in
set_option maxHeartbeats 16000000 in
theorem heights_law {w : World} {sv fv : Value} {P : Pr} (h : PrR w sv fv P) (hsm : SmP P) (f : Int) : Calls Try.prog 4 #[.agg #[sv, fv], .int .i64 f] w fun e w' => e = .returned (.bool true) ∧ Gr w w' := by
 have HP := Lib.hid (pr_hid h)
 have HT := Lib.hid (fun hs (e : htF P f = some hs) => ht_th e hsm (fun g hg c hc => (h.fus g hg).ces c hc))
 have HSM := Lib.hid hsm
 obtain ⟨xs, cs, rfl, -⟩ := id h.ss
 obtain ⟨xf, cf, rfl, -⟩ := id h.fs
 have HH := Lib.hid h
 obtain ⟨ns, hns⟩ : ∃ n, P.ss.length = n := ⟨_, rfl⟩
 obtain ⟨nf, hnf⟩ : ∃ n, P.fs.length = n := ⟨_, rfl⟩
 have HNF := Lib.hid hnf
 rw [hns, hnf] at HP
 rw [hns, hnf]
 clear h hsm hns
 obtain ⟨iB, hi, hz0, hz1, hz2⟩ := info_parts infoB
 have HIB := Lib.hid hi
 have HZ0B := Lib.hid hz0
 have HZ1B := Lib.hid hz1
 have HZ2B := Lib.hid hz2
 clear hi hz0 hz1 hz2
 go_enter Try.func4, Try.ntmps4
 go_upto_region 1 with fail
 have HG1 := Lib.hid ((Gr.refl w).alloc #[.slice xs ns cs, .slice xf nf cf] 34)
 have HB1 := Lib.hid (heap_alloc_new w (.cells #[.slice xs ns cs, .slice xf nf cf] 34))
 generalize w.alloc (.cells #[.slice xs ns cs, .slice xf nf cf] 34) = w1 at *
 generalize hgp : w.heap.size = gp at *
 go_wp2_with fail
 refine (awake_any _).mono ?_
 rintro e w2 ⟨rfl, hg2⟩
 have HG2 := Lib.hid (gr_trans HG1.out hg2)
 have HB2 := Lib.hid (gr_block hg2 HB1.out)
 clear hg2
 obtain ⟨p0, p1⟩ := cells2 HB2.out
 go_wp2_with fail
 refine (heights_any (HP.out _ HG2.out) HSM.out f).mono ?_
 rintro e w3 (⟨hn, rfl, hg3⟩ | ⟨hs, hv, hh, rfl, ho, hg3⟩)
 ·have HG3 := Lib.hid (gr_trans HG2.out hg3)
  clear hn hg3 p0 p1
  go_wp2
  go_ret
  exact ⟨rfl, HG3.out⟩
 obtain ⟨g, hck, hf0, hgf, hne, ck, hw, hbd⟩ := HT.out hs hh
 obtain ⟨i, rfl⟩ : ∃ i : Nat, f = i := ⟨f.toNat, by omega⟩
 rw [Int.toNat_natCast] at hgf
 obtain ⟨b, off, rfl, hcl⟩ := rwR_at (z := 7) (fun _ => rfl) HH.out.fs hgf (by decide)
 have hfr := HH.out.fus g (List.mem_of_getElem? hgf)
 have hii : (i : Int) < (nf : Int) := by have := (List.getElem?_eq_some_iff.1 hgf).1; rw [HNF.out] at this; omega
 have HGF := Lib.hid hgf
 obtain ⟨⟨host, sig, inn, out, loc, l⟩, cv, mv⟩ := g
 obtain ⟨xc, cc, e1, -⟩ := id hfr.cs
 dsimp only at e1 hne ck hw
 subst e1
 obtain ⟨n, hn⟩ : ∃ n, l.length = n := ⟨_, rfl⟩
 have hnp : 0 < n := by rw [← hn]; exact List.length_pos_iff.2 hne
 have HNL := Lib.hid (show n ≤ 1048576 from hn ▸ HSM.out.cs _ (List.mem_of_getElem? hgf))
 have hlen : hs.length = n := hw.len.trans hn
 rw [hlen] at ho
 obtain ⟨gh, ch, rfl, _⟩ := own_some ho hnp
 have HO := Lib.hid ho
 have HW := Lib.hid hw
 have HCL := Lib.hid ck
 have HBD := Lib.hid hbd
 have HLN := Lib.hid hn
 have HHL := Lib.hid hlen
 have HCB := Lib.hid (fun c hc => hfr.ces c hc)
 have HCS := Lib.hid (fun wx (hg : Gr w wx) => rwR_gr hfr.cs hg)
 dsimp only at HCS
 rw [hn] at HCS
 have HD5 := Lib.hid (show ∀ wx, Gr w wx → wx.cell? ⟨b, off + i * 7 + 5, none⟩ = some (.slice xc n cc) from fun wx hg => gr_cell hg (hcl 5 _ (by rw [← hn]; rfl)))
 have HCH := Lib.hid (fun wx (hg : Gr w wx) => check_any (HP.out wx hg))
 rw [chk_yes hck] at HCH
 have HTE := Lib.hid (fun wx (hg : Gr w wx) c (hcb : CeB c) => teff_any (HP.out wx hg) ((i : Nat) : Int) hcb)
 have HTF := Lib.hid (show ∀ c, teF P ((i : Nat) : Int) c = effF P out c from fun c => by
  unfold teF
  rw [if_pos ⟨hck, by omega⟩, Int.toNat_natCast, HGF.out])
 have HG3 := Lib.hid (gr_trans HG2.out hg3)
 have HB3 := Lib.hid (gr_block hg3 HB2.out)
 have HNP := Lib.hid hnp
 have hi0 : ¬ ((i : Int) < 0) := by omega
 have hi1 : ¬ ((nf : Int) ≤ i) := by omega
 have hi2 : ¬ (nf ≤ i) := by omega
 have hi3 : decide (nf ≤ i) = false := decide_eq_false hi2
 have hn0 : ((n : Int) == 0) = false := by simp; omega
 have hnn : ((n : Int) != (n : Int)) = false := by simp
 have hnz : (0 : Int) < (n : Int) := by omega
 have h00 : w3.cell? ⟨gh, 0, none⟩ = some (.int .i64 0) := by
  rw [HO.out.cellAt 0 (lt_m1 hnp)]
  unfold ivs
  rw [List.getElem?_map, HW.out.zero]
  rfl
 have d5 := HD5.out _ HG3.out
 obtain ⟨q0, q1⟩ := cells2 HB3.out
 clear p0 p1 hh hck hf0 hgf hne ck hw hbd hcl hfr hn hnp hlen ho hg3 hnf
 go_wp2_with fail
 clear h00
 refine (HCH.out _ HG3.out).mono ?_
 rintro e w4 ⟨rfl, hg4⟩
 have HG4 := Lib.hid (gr_trans HG3.out hg4)
 have HB4 := Lib.hid (gr_block hg4 HB3.out)
 have HO4 := Lib.hid ((Sep.of_gr (ex := fun _ => False) hg4).owns HO.out (fun _ _ => id))
 clear hg4 d5 q0 q1 hi0 hi1 hi2 hi3
 have d5 := HD5.out _ HG4.out
 obtain ⟨q0, q1⟩ := cells2 HB4.out
 go_upto_region 9 with fail
 clear d5 q0 q1 hii hn0 hnn
 have mkB : ∀ wx, (Instr.makeSlice 42 (.int .i64 (n : Int)) (.int .i64 (n : Int))).run Try.prog wx = .ok (.slice (some ⟨wx.heap.size, 0, none⟩) n n) (wx.alloc (.cells (brow n) 4)) :=
  fun wx => run_make_b _ 4 iB Try.underlying42 HIB.out HZ0B.out HZ1B.out HZ2B.out _ n rfl HNL.out wx
 go_upto_region 10 with fail
 clear mkB
 have hob := World.ownsRow_lit (base := w4.heap.size) (e := 4) (size := 1) w4 (brow n) n (Nat.le_refl _) (by have := HNL.out; unfold maxLen; omega) (brow_size n)
 rw [brow_bs] at hob
 have HG5 := Lib.hid ((Gr.refl w4).alloc (brow n) 4)
 have hb0 : (w4.alloc (.cells (brow n) 4)).cell? ⟨w4.heap.size, 0, none⟩ = some (.bool false) := by
  rw [hob.cellAt 0 (lt_m1 HNP.out), bs_get _ HNP.out, bB_f (fun h => h)]
 have fz0 := hob.frozenAt 0
 have hst := (hob.stored 0 (.bool true)).1
 rw [bs_set] at hst
 have HST := Lib.hid hst
 clear hob hst
 generalize w4.alloc (.cells (brow n) 4) = w5 at *
 go_upto_region 11 with fail
 clear hb0 fz0
 have HG6 := Lib.hid (Sep.toGr HG5.out (Sep.setCell (ex := fun q => q = w4.heap.size) w5 (p := ⟨w4.heap.size, 0, none⟩) rfl (.bool true)) (fun q hq => by have e' : q = w4.heap.size := hq; omega))
 generalize w5.setCell ⟨w4.heap.size, 0, none⟩ (.bool true) = w6 at *
 generalize hgc : w4.heap.size = gc at *
 have HGC := Lib.hid hgc
 clear hgc
 go_wp2_with fail
 go_loopw [9] (fun i0 wr => ∃ (k : Nat) (S : Nat → Prop), k ≤ n ∧ i0 = .int .i64 k ∧ Gr w4 wr ∧ wr.ownsRow gc 4 1 (.slice (some ⟨gc, 0, none⟩) n n) n (bs n S) ∧ ∀ m, m < n → (S m ↔ Sp l hs k m)) (fun i0 _ => n - (intOf i0).toNat)
 case atStart => exact ⟨0, _, by omega, rfl, HG6.out, HST.out, fun m _ => ⟨fun h => h.elim (fun h => h.elim) (fun h => .inl h), fun h => h.elim .inr (fun ⟨j, hj, _⟩ => by omega)⟩⟩
 case round =>
  obtain ⟨k, S, hk, rfl, hgr, hown, hS⟩ := hrel
  have HGR := Lib.hid hgr
  have HOW := Lib.hid hown
  have HS := Lib.hid hS
  clear hgr hown hS
  by_cases hlt : k < n
  ·have HLT := Lib.hid hlt
   obtain ⟨x, hx⟩ : ∃ x, hs[k]? = some x := ⟨_, List.getElem?_eq_getElem (by rw [HHL.out]; exact hlt)⟩
   obtain ⟨c, hc⟩ : ∃ c, l[k]? = some c := ⟨_, List.getElem?_eq_getElem (by rw [HLN.out]; exact hlt)⟩
   have HX := Lib.hid hx
   have HC := Lib.hid hc
   have hki : (k : Int) < (n : Int) := Int.ofNat_lt.2 hlt
   have TI : wrap64 ((k : Int) + 1) = (k : Int) + 1 := wr1 hlt HNL.out
   have hcell : w4.cell? ⟨gh, k, none⟩ = some (.int .i64 x) := by
    rw [HO4.out.cellAt k (lt_m1 hlt)]
    unfold ivs
    rw [List.getElem?_map, hx]
    rfl
   have hq := gr_cell HGR.out hcell
   have HQ := Lib.hid (fun wx (hg : Gr w4 wx) => gr_cell hg hcell)
   rcases HW.out.val k x hx with rfl | hx0
   ·clear hx hc hcell
    go_wp2
    exact ⟨⟨k + 1, S, HLT.out, by first | rfl | (rw [TI]; rfl), HGR.out, HOW.out, fun m hm => by rw [sp_succ, HS.out m hm]; exact ⟨.inl, fun h => h.resolve_right (led_no HX.out)⟩⟩, by first | exact meas_lt HLT.out | (rw [TI]; exact meas_lt HLT.out)⟩
   ·have hxn : x ≠ -1 := ne_m1 hx0
    have hxl : ¬ (x < 0) := Int.not_lt.2 hx0
    have hdn := (HW.out.done k x hx hxn).resolve_left (fun h => List.not_mem_nil h) c hc
    have hck := HCL.out k c hc
    have hled := fun m => led_iff (m := m) hx hxn hc
    have HLED := Lib.hid hled
    have HX0 := Lib.hid hx0
    have hxb := HBD.out k x hx
    have HCBc := Lib.hid (HCB.out c (List.mem_of_getElem? hc))
    have hef := HTF.out c
    obtain ⟨bc, oc, rfl, hcel⟩ := rwR_at (g := ceA) (z := 3) (fun _ => rfl) (HCS.out w4 HG4.out) hc (by decide)
    have HTC := Lib.hid (fun wx (hg : Gr w wx) => HTE.out wx hg c HCBc.out)
    rw [hef] at HTC
    obtain ⟨t, ht⟩ : ∃ t, (effF P out c).1 = t := ⟨_, rfl⟩
    obtain ⟨gv, hgv⟩ : ∃ t, (effF P out c).2 = t := ⟨_, rfl⟩
    rw [ht, hgv] at HTC hdn hck
    have HDN := Lib.hid hdn
    have HCK := Lib.hid hck
    obtain ⟨op, a, nn⟩ := c
    have HHD := Lib.hid (show ∀ wx, Gr w4 wx → ∀ j u, (#[.int .i64 op, .int .i64 a, .int .u64 nn] : Array Value).toList[j]? = some u → wx.cell? ⟨bc, oc + k * 3 + j, none⟩ = some u from fun wx hg j u hu => gr_cell hg (hcel j u (by rw [← hu]; unfold ceA; rw [Array.getElem?_toList])))
    have HPC := Lib.hid (show ∀ wx, Gr w4 wx → ∀ j u, (#[.slice xs ns cs, .slice (some ⟨b, off, none⟩) nf cf] : Array Value).toList[j]? = some u → wx.cell? ⟨gp, 0 + j, none⟩ = some u from fun wx hg j u hu => by
     obtain ⟨a0, a1⟩ := cells2 (gr_block hg HB4.out)
     match j, hu with
     | 0, hu => obtain rfl := Option.some.inj hu; exact a0
     | 1, hu => obtain rfl := Option.some.inj hu; exact a1
     | j + 2, hu => cases hu)
    unfold ceA at HTC
    dsimp only at HTC hck
    obtain ⟨h2, hh2⟩ : ∃ h2, x - t + gv = h2 := ⟨_, rfl⟩
    have HTT := Lib.hid (wrT hck.1 hdn.1 hxb hck.2.1 hh2)
    rw [hh2] at HDN
    clear hx hc hcell hdn hck hled hef hcel hx0 hxb ht hgv hxn hh2
    go_upto_region 17 with fail
    refine wp_region_steady (by kernel_rfl) (by kernel_rfl) ?_
    refine steady_step (fun K hK => ?_)
    refine steady_load_cells rfl 34 _ rfl gp 0 rfl #[.slice xs ns cs, .slice (some ⟨b, off, none⟩) nf cf] _ (HPC.out _ (gr_trans HGR.out (Gr.drew (Gr.refl _)))) Try.underlying34 rfl infoPr ?_
    go_simp; refine hK _ ?_; clear hK K
    refine steady_step (fun K hK => ?_); apply steady_op rfl; (focus (intro wx hw; go_simp; exact ⟨rfl, hw⟩)); go_simp; refine hK _ ?_; clear hK K
    refine steady_step (fun K hK => ?_); apply steady_op rfl; (focus (intro wx hw; go_simp; exact ⟨rfl, hw⟩)); go_simp; refine hK _ ?_; clear hK K
    refine steady_step (fun K hK => ?_); apply steady_op rfl; (focus (intro wx hw; go_simp; exact ⟨rfl, hw⟩)); go_simp; refine hK _ ?_; clear hK K
    refine steady_step (fun K hK => ?_); apply steady_op rfl; (focus (intro wx hw; go_simp; exact ⟨rfl, hw⟩)); go_simp; refine hK _ ?_; clear hK K
    refine steady_step (fun K hK => ?_)
    refine steady_load_cells rfl 47 _ rfl bc (oc + k * 3) rfl #[.int .i64 op, .int .i64 a, .int .u64 nn] _ (HHD.out _ (gr_trans HGR.out (Gr.drew (Gr.refl _)))) Try.underlying47 rfl infoCe ?_
    go_simp; refine hK _ ?_; clear hK K
    refine steady_step (fun K hK => ?_)
    apply steady_op rfl
    ·intro wx hw; go_simp; exact (HTC.out wx (gr_trans HG4.out (gr_trans HGR.out (gr_trans (Gr.drew (Gr.refl _)) hw)))).mono fun e w3 h => ⟨h.1, gr_trans hw h.2⟩
    go_simp; refine hK _ ?_; clear hK K
    refine steady_step (fun K hK => ?_); apply steady_op rfl; (focus (intro wx hw; go_simp; exact ⟨rfl, hw⟩)); go_simp; refine hK _ ?_; clear hK K
    refine steady_step (fun K hK => ?_); apply steady_op rfl; (focus (intro wx hw; go_simp; exact ⟨rfl, hw⟩)); go_simp; refine hK _ ?_; clear hK K
    refine steady_step (fun K hK => ?_); apply steady_op rfl; (focus (intro wx hw; go_simp; exact ⟨rfl, hw⟩)); go_simp; refine hK _ ?_; clear hK K
    refine steady_step (fun K hK => ?_); apply steady_op rfl; (focus (intro wx hw; go_simp; exact ⟨rfl, hw⟩)); go_simp; refine hK _ ?_; clear hK K
    refine steady_step (fun K hK => ?_); apply steady_op rfl; (focus (intro wx hw; go_simp; exact ⟨rfl, hw⟩)); go_simp; refine hK _ ?_; clear hK K
    refine steady_nil ?_
    intro w7 hg7
    have HG7 := Lib.hid (gr_trans HGR.out (gr_trans (Gr.drew (Gr.refl _)) hg7))
    have HOW7 := Lib.hid (owns_gr HOW.out (gr_trans (Gr.drew (Gr.refl _)) hg7))
    clear hg7 hq
    obtain ⟨T1, T1', T2, T2', htx⟩ := HTT.out
    have hq := HQ.out w7 HG7.out
    have hk0 : w7.cell? ⟨bc, oc + k * 3, none⟩ = some (.int .i64 op) := HHD.out w7 HG7.out 0 _ rfl
    have hk1 : w7.cell? ⟨bc, oc + k * 3 + 1, none⟩ = some (.int .i64 a) := HHD.out w7 HG7.out 1 _ rfl
    go_upto_region 21 with fail
    clear T1 T1' T2 T2' htx hq
    by_cases h12 : op = 12
    ·subst h12
     as_aux_lemma =>
      obtain ⟨ha0, hsa⟩ := HDN.out.2 a (by unfold nbL; simp)
      obtain ⟨a', rfl⟩ : ∃ a' : Nat, a = a' := ⟨a.toNat, (Int.toNat_of_nonneg ha0).symm⟩
      rw [Int.toNat_natCast] at hsa
      have han : a' < n := by rw [← HHL.out]; exact (List.getElem?_eq_some_iff.1 hsa).1
      have hai : (a' : Int) < (n : Int) := Int.ofNat_lt.2 han
      have nee : (h2 != h2) = false := bne_self_eq_false h2
      have hcell : w4.cell? ⟨gh, a', none⟩ = some (.int .i64 h2) := by
       rw [HO4.out.cellAt a' (lt_m1 han)]
       unfold ivs
       rw [List.getElem?_map, hsa]
       rfl
      have hq := gr_cell HG7.out hcell
      have hcc := HOW7.out.cellAt a' (lt_m1 han)
      rw [bs_get _ han] at hcc
      have fz := HOW7.out.frozenAt a'
      have hst := (HOW7.out.stored a' (.bool true)).1
      rw [bs_set] at hst
      have HOW8 := Lib.hid hst
      have HG8 := Lib.hid (gr_set HG4.out HGC.out HG7.out a')
      generalize bB (S a') = bv at hcc
      clear hcell hsa ha0 hst han
      go_upto_region 26 with fail
      clear hq hcc fz hk0 hk1
      generalize w7.setCell ⟨gc, a', none⟩ (.bool true) = w8 at *
      have HNB := Lib.hid (show ∀ y, k < y → y ≤ k + 0 → hs[y]? = some h2 from fun y h1 h3 => absurd h1 (Nat.not_lt.2 h3))
      go_wp2_with fail
      go_loopw [15] (fun q wx => ∃ (m : Nat) (S2 : Nat → Prop), k + 1 ≤ m ∧ m ≤ k + 0 + 1 ∧ q = .int .i64 m ∧ Gr w4 wx ∧ wx.ownsRow gc 4 1 (.slice (some ⟨gc, 0, none⟩) n n) n (bs n S2) ∧ ∀ y, y < n → (S2 y ↔ (S y ∨ y = a') ∨ (k < y ∧ y < m))) (fun q _ => k + 0 + 1 - (intOf q).toNat)
      case atStart => exact ⟨k + 1, _, Nat.le_refl _, le_kd (k := k) (d := 0), by first | rfl | (rw [TI]; rfl) | (rw [TI, natc]), HG8.out, HOW8.out, fun y _ => ⟨.inl, fun h => h.elim id (fun h => absurd h.2 (Nat.not_lt.2 h.1))⟩⟩
      case round =>
       obtain ⟨m, S2, hm1, hm2, rfl, hgr2, hown2, hS2⟩ := hrel
       have HGR2 := Lib.hid hgr2
       have HOW2 := Lib.hid hown2
       have HS2 := Lib.hid hS2
       have HM1 := Lib.hid hm1
       clear hgr2 hown2 hS2
       by_cases hml : m < k + 0 + 1
       ·have hsm := HNB.out m hm1 (Nat.le_of_lt_succ hml)
        have hmn : m < n := by rw [← HHL.out]; exact (List.getElem?_eq_some_iff.1 hsm).1
        have HMN := Lib.hid hmn
        have HML := Lib.hid hml
        have hmi : (m : Int) < (n : Int) := Int.ofNat_lt.2 hmn
        have hmg : ¬ ((n : Int) ≤ m) := Int.not_le.2 (Int.ofNat_lt.2 hmn)
        have hml2 : (m : Int) ≤ (k : Int) := lst0 hml
        have nee : (h2 != h2) = false := bne_self_eq_false h2
        have TI2 : wrap64 ((m : Int) + 1) = (m : Int) + 1 := wr1 hmn HNL.out
        have hcell : w4.cell? ⟨gh, m, none⟩ = some (.int .i64 h2) := by
         rw [HO4.out.cellAt m (lt_m1 hmn)]
         unfold ivs
         rw [List.getElem?_map, hsm]
         rfl
        have hq := gr_cell HGR2.out hcell
        have hcc := HOW2.out.cellAt m (lt_m1 hmn)
        rw [bs_get _ hmn] at hcc
        have fz := HOW2.out.frozenAt m
        have hst := (HOW2.out.stored m (.bool true)).1
        rw [bs_set] at hst
        have HST2 := Lib.hid hst
        have HGS2 := Lib.hid (gr_set HG4.out HGC.out HGR2.out m)
        generalize bB (S2 m) = bv at hcc
        clear hcell hsm hmn hml hst hm1 hm2
        go_upto_region 33 with fail
        clear hq hcc fz
        go_wp2
        exact ⟨⟨m + 1, _, Nat.le_succ_of_le HM1.out, HML.out, by first | rfl | (rw [TI2]; rfl), HGS2.out, HST2.out, fun y hy => by rw [HS2.out y hy]; exact upto_one HM1.out⟩, by first | exact meas_lt HML.out | (rw [TI2]; exact meas_lt HML.out)⟩
       ·obtain rfl : m = k + 0 + 1 := Nat.le_antisymm hm2 (Nat.le_of_not_lt hml)
        have hml2 : ¬ (((k + 0 + 1 : Nat) : Int) ≤ (k : Int)) := nls0
        clear hml hm1 hm2 HM1
        go_wp2
        exact ⟨⟨k + 1, S2, HLT.out, by first | rfl | (rw [TI]; rfl), HGR2.out, HOW2.out, fun y hy => by
         rw [HS2.out y hy, sp_succ, HLED.out y, nb_12, ← HS.out y hy]
         first | done | exact fin_12⟩, by first | exact meas_lt HLT.out | (rw [TI]; exact meas_lt HLT.out)⟩
    ·by_cases h13 : op = 13
     ·subst h13
      as_aux_lemma =>
       obtain ⟨ha0, hsa⟩ := HDN.out.2 a (by unfold nbL; simp)
       obtain ⟨a', rfl⟩ : ∃ a' : Nat, a = a' := ⟨a.toNat, (Int.toNat_of_nonneg ha0).symm⟩
       rw [Int.toNat_natCast] at hsa
       have han : a' < n := by rw [← HHL.out]; exact (List.getElem?_eq_some_iff.1 hsa).1
       have hai : (a' : Int) < (n : Int) := Int.ofNat_lt.2 han
       have nee : (h2 != h2) = false := bne_self_eq_false h2
       have hcell : w4.cell? ⟨gh, a', none⟩ = some (.int .i64 h2) := by
        rw [HO4.out.cellAt a' (lt_m1 han)]
        unfold ivs
        rw [List.getElem?_map, hsa]
        rfl
       have hq := gr_cell HG7.out hcell
       have hcc := HOW7.out.cellAt a' (lt_m1 han)
       rw [bs_get _ han] at hcc
       have fz := HOW7.out.frozenAt a'
       have hst := (HOW7.out.stored a' (.bool true)).1
       rw [bs_set] at hst
       have HOW8 := Lib.hid hst
       have HG8 := Lib.hid (gr_set HG4.out HGC.out HG7.out a')
       generalize bB (S a') = bv at hcc
       clear hcell hsa ha0 hst han
       go_upto_region 26 with fail
       clear hq hcc fz hk0 hk1
       generalize w7.setCell ⟨gc, a', none⟩ (.bool true) = w8 at *
       have HNB := Lib.hid (show ∀ y, k < y → y ≤ k + 1 → hs[y]? = some h2 from fun y h1 h3 => by
        have h4 := (HDN.out.2 ((k : Int) + 1) (by unfold nbL; simp)).2
        rw [tonat1] at h4
        obtain rfl : y = k + 1 := Nat.le_antisymm h3 h1
        exact h4)
       go_wp2_with fail
       go_loopw [15] (fun q wx => ∃ (m : Nat) (S2 : Nat → Prop), k + 1 ≤ m ∧ m ≤ k + 1 + 1 ∧ q = .int .i64 m ∧ Gr w4 wx ∧ wx.ownsRow gc 4 1 (.slice (some ⟨gc, 0, none⟩) n n) n (bs n S2) ∧ ∀ y, y < n → (S2 y ↔ (S y ∨ y = a') ∨ (k < y ∧ y < m))) (fun q _ => k + 1 + 1 - (intOf q).toNat)
       case atStart => exact ⟨k + 1, _, Nat.le_refl _, le_kd (k := k) (d := 1), by first | rfl | (rw [TI]; rfl) | (rw [TI, natc]), HG8.out, HOW8.out, fun y _ => ⟨.inl, fun h => h.elim id (fun h => absurd h.2 (Nat.not_lt.2 h.1))⟩⟩
       case round =>
        obtain ⟨m, S2, hm1, hm2, rfl, hgr2, hown2, hS2⟩ := hrel
        have HGR2 := Lib.hid hgr2
        have HOW2 := Lib.hid hown2
        have HS2 := Lib.hid hS2
        have HM1 := Lib.hid hm1
        clear hgr2 hown2 hS2
        by_cases hml : m < k + 1 + 1
        ·have hsm := HNB.out m hm1 (Nat.le_of_lt_succ hml)
         have hmn : m < n := by rw [← HHL.out]; exact (List.getElem?_eq_some_iff.1 hsm).1
         have HMN := Lib.hid hmn
         have HML := Lib.hid hml
         have hmi : (m : Int) < (n : Int) := Int.ofNat_lt.2 hmn
         have hmg : ¬ ((n : Int) ≤ m) := Int.not_le.2 (Int.ofNat_lt.2 hmn)
         have hml2 : (m : Int) ≤ (k : Int) + 1 := lst1 hml
         have nee : (h2 != h2) = false := bne_self_eq_false h2
         have TI2 : wrap64 ((m : Int) + 1) = (m : Int) + 1 := wr1 hmn HNL.out
         have hcell : w4.cell? ⟨gh, m, none⟩ = some (.int .i64 h2) := by
          rw [HO4.out.cellAt m (lt_m1 hmn)]
          unfold ivs
          rw [List.getElem?_map, hsm]
          rfl
         have hq := gr_cell HGR2.out hcell
         have hcc := HOW2.out.cellAt m (lt_m1 hmn)
         rw [bs_get _ hmn] at hcc
         have fz := HOW2.out.frozenAt m
         have hst := (HOW2.out.stored m (.bool true)).1
         rw [bs_set] at hst
         have HST2 := Lib.hid hst
         have HGS2 := Lib.hid (gr_set HG4.out HGC.out HGR2.out m)
         generalize bB (S2 m) = bv at hcc
         clear hcell hsm hmn hml hst hm1 hm2
         go_upto_region 33 with fail
         clear hq hcc fz
         go_wp2
         exact ⟨⟨m + 1, _, Nat.le_succ_of_le HM1.out, HML.out, by first | rfl | (rw [TI2]; rfl), HGS2.out, HST2.out, fun y hy => by rw [HS2.out y hy]; exact upto_one HM1.out⟩, by first | exact meas_lt HML.out | (rw [TI2]; exact meas_lt HML.out)⟩
        ·obtain rfl : m = k + 1 + 1 := Nat.le_antisymm hm2 (Nat.le_of_not_lt hml)
         have hml2 : ¬ (((k + 1 + 1 : Nat) : Int) ≤ (k : Int) + 1) := nls1
         clear hml hm1 hm2 HM1
         go_wp2
         exact ⟨⟨k + 1, S2, HLT.out, by first | rfl | (rw [TI]; rfl), HGR2.out, HOW2.out, fun y hy => by
          rw [HS2.out y hy, sp_succ, HLED.out y, nb_13, ← HS.out y hy]
          first | done | exact fin_13⟩, by first | exact meas_lt HLT.out | (rw [TI]; exact meas_lt HLT.out)⟩
     ·by_cases h14 : op = 14
      ·subst h14
       as_aux_lemma =>
        obtain ⟨a', rfl⟩ : ∃ a' : Nat, a = a' := ⟨a.toNat, (Int.toNat_of_nonneg (HCK.out.2.2 (.inr (.inr rfl)))).symm⟩
        have hnb : ∀ y, k < y → y ≤ k + (a' + 1) → hs[y]? = some h2 := fun y h1 h3 => by
         have h4 := (HDN.out.2 (y : Int) (nb_14.2 ⟨h1, Nat.lt_succ_of_le h3⟩)).2
         rw [Int.toNat_natCast] at h4
         exact h4
        have hka : k + (a' + 1) < n := by rw [← HHL.out]; exact (List.getElem?_eq_some_iff.1 (hnb (k + (a' + 1)) (Nat.lt_add_of_pos_right (Nat.succ_pos a')) (Nat.le_refl _))).1
        obtain ⟨t1, t2⟩ := wrka hka HNL.out
        have HNB0 := Lib.hid hnb
        clear hnb hka
        have HG8 := HG7
        have HOW8 := HOW7
        have HNB := Lib.hid (show ∀ y, k < y → y ≤ k + (a' + 1) → hs[y]? = some h2 from HNB0.out)
        go_wp2_with fail
        go_loopw [15] (fun q wx => ∃ (m : Nat) (S2 : Nat → Prop), k + 1 ≤ m ∧ m ≤ k + (a' + 1) + 1 ∧ q = .int .i64 m ∧ Gr w4 wx ∧ wx.ownsRow gc 4 1 (.slice (some ⟨gc, 0, none⟩) n n) n (bs n S2) ∧ ∀ y, y < n → (S2 y ↔ S y ∨ (k < y ∧ y < m))) (fun q _ => k + (a' + 1) + 1 - (intOf q).toNat)
        case atStart => exact ⟨k + 1, _, Nat.le_refl _, le_kd (k := k) (d := (a' + 1)), by first | rfl | (rw [TI]; rfl) | (rw [TI, natc]), HG8.out, HOW8.out, fun y _ => ⟨.inl, fun h => h.elim id (fun h => absurd h.2 (Nat.not_lt.2 h.1))⟩⟩
        case round =>
         obtain ⟨m, S2, hm1, hm2, rfl, hgr2, hown2, hS2⟩ := hrel
         have HGR2 := Lib.hid hgr2
         have HOW2 := Lib.hid hown2
         have HS2 := Lib.hid hS2
         have HM1 := Lib.hid hm1
         clear hgr2 hown2 hS2
         by_cases hml : m < k + (a' + 1) + 1
         ·have hsm := HNB.out m hm1 (Nat.le_of_lt_succ hml)
          have hmn : m < n := by rw [← HHL.out]; exact (List.getElem?_eq_some_iff.1 hsm).1
          have HMN := Lib.hid hmn
          have HML := Lib.hid hml
          have hmi : (m : Int) < (n : Int) := Int.ofNat_lt.2 hmn
          have hmg : ¬ ((n : Int) ≤ m) := Int.not_le.2 (Int.ofNat_lt.2 hmn)
          have hml2 : (m : Int) ≤ (k : Int) + 1 + (a' : Int) := lst14 hml
          have nee : (h2 != h2) = false := bne_self_eq_false h2
          have TI2 : wrap64 ((m : Int) + 1) = (m : Int) + 1 := wr1 hmn HNL.out
          have hcell : w4.cell? ⟨gh, m, none⟩ = some (.int .i64 h2) := by
           rw [HO4.out.cellAt m (lt_m1 hmn)]
           unfold ivs
           rw [List.getElem?_map, hsm]
           rfl
          have hq := gr_cell HGR2.out hcell
          have hcc := HOW2.out.cellAt m (lt_m1 hmn)
          rw [bs_get _ hmn] at hcc
          have fz := HOW2.out.frozenAt m
          have hst := (HOW2.out.stored m (.bool true)).1
          rw [bs_set] at hst
          have HST2 := Lib.hid hst
          have HGS2 := Lib.hid (gr_set HG4.out HGC.out HGR2.out m)
          generalize bB (S2 m) = bv at hcc
          clear hcell hsm hmn hml hst hm1 hm2
          go_upto_region 33 with fail
          clear hq hcc fz
          go_wp2
          exact ⟨⟨m + 1, _, Nat.le_succ_of_le HM1.out, HML.out, by first | rfl | (rw [TI2]; rfl), HGS2.out, HST2.out, fun y hy => by rw [HS2.out y hy]; exact upto_one HM1.out⟩, by first | exact meas_lt HML.out | (rw [TI2]; exact meas_lt HML.out)⟩
         ·obtain rfl : m = k + (a' + 1) + 1 := Nat.le_antisymm hm2 (Nat.le_of_not_lt hml)
          have hml2 : ¬ (((k + (a' + 1) + 1 : Nat) : Int) ≤ (k : Int) + 1 + (a' : Int)) := nls14
          clear hml hm1 hm2 HM1
          go_wp2
          exact ⟨⟨k + 1, S2, HLT.out, by first | rfl | (rw [TI]; rfl), HGR2.out, HOW2.out, fun y hy => by
           rw [HS2.out y hy, sp_succ, HLED.out y, nb_14, ← HS.out y hy]
           first | done | exact fin_14⟩, by first | exact meas_lt HLT.out | (rw [TI]; exact meas_lt HLT.out)⟩
      ·by_cases h0 : op = 0
       ·subst h0
        as_aux_lemma =>
         have HG8 := HG7
         have HOW8 := HOW7
         have HNB := Lib.hid (show ∀ y, k < y → y ≤ k + 0 → hs[y]? = some h2 from fun y h1 h3 => absurd h1 (Nat.not_lt.2 h3))
         go_wp2_with fail
         go_loopw [15] (fun q wx => ∃ (m : Nat) (S2 : Nat → Prop), k + 1 ≤ m ∧ m ≤ k + 0 + 1 ∧ q = .int .i64 m ∧ Gr w4 wx ∧ wx.ownsRow gc 4 1 (.slice (some ⟨gc, 0, none⟩) n n) n (bs n S2) ∧ ∀ y, y < n → (S2 y ↔ S y ∨ (k < y ∧ y < m))) (fun q _ => k + 0 + 1 - (intOf q).toNat)
         case atStart => exact ⟨k + 1, _, Nat.le_refl _, le_kd (k := k) (d := 0), by first | rfl | (rw [TI]; rfl) | (rw [TI, natc]), HG8.out, HOW8.out, fun y _ => ⟨.inl, fun h => h.elim id (fun h => absurd h.2 (Nat.not_lt.2 h.1))⟩⟩
         case round =>
          obtain ⟨m, S2, hm1, hm2, rfl, hgr2, hown2, hS2⟩ := hrel
          have HGR2 := Lib.hid hgr2
          have HOW2 := Lib.hid hown2
          have HS2 := Lib.hid hS2
          have HM1 := Lib.hid hm1
          clear hgr2 hown2 hS2
          by_cases hml : m < k + 0 + 1
          ·have hsm := HNB.out m hm1 (Nat.le_of_lt_succ hml)
           have hmn : m < n := by rw [← HHL.out]; exact (List.getElem?_eq_some_iff.1 hsm).1
           have HMN := Lib.hid hmn
           have HML := Lib.hid hml
           have hmi : (m : Int) < (n : Int) := Int.ofNat_lt.2 hmn
           have hmg : ¬ ((n : Int) ≤ m) := Int.not_le.2 (Int.ofNat_lt.2 hmn)
           have hml2 : (m : Int) ≤ (k : Int) := lst0 hml
           have nee : (h2 != h2) = false := bne_self_eq_false h2
           have TI2 : wrap64 ((m : Int) + 1) = (m : Int) + 1 := wr1 hmn HNL.out
           have hcell : w4.cell? ⟨gh, m, none⟩ = some (.int .i64 h2) := by
            rw [HO4.out.cellAt m (lt_m1 hmn)]
            unfold ivs
            rw [List.getElem?_map, hsm]
            rfl
           have hq := gr_cell HGR2.out hcell
           have hcc := HOW2.out.cellAt m (lt_m1 hmn)
           rw [bs_get _ hmn] at hcc
           have fz := HOW2.out.frozenAt m
           have hst := (HOW2.out.stored m (.bool true)).1
           rw [bs_set] at hst
           have HST2 := Lib.hid hst
           have HGS2 := Lib.hid (gr_set HG4.out HGC.out HGR2.out m)
           generalize bB (S2 m) = bv at hcc
           clear hcell hsm hmn hml hst hm1 hm2
           go_upto_region 33 with fail
           clear hq hcc fz
           go_wp2
           exact ⟨⟨m + 1, _, Nat.le_succ_of_le HM1.out, HML.out, by first | rfl | (rw [TI2]; rfl), HGS2.out, HST2.out, fun y hy => by rw [HS2.out y hy]; exact upto_one HM1.out⟩, by first | exact meas_lt HML.out | (rw [TI2]; exact meas_lt HML.out)⟩
          ·obtain rfl : m = k + 0 + 1 := Nat.le_antisymm hm2 (Nat.le_of_not_lt hml)
           have hml2 : ¬ (((k + 0 + 1 : Nat) : Int) ≤ (k : Int)) := nls0
           clear hml hm1 hm2 HM1
           go_wp2
           exact ⟨⟨k + 1, S2, HLT.out, by first | rfl | (rw [TI]; rfl), HGR2.out, HOW2.out, fun y hy => by
            rw [HS2.out y hy, sp_succ, HLED.out y, nb_0, ← HS.out y hy]
            first | done | exact fin_0⟩, by first | exact meas_lt HLT.out | (rw [TI]; exact meas_lt HLT.out)⟩
       ·by_cases h15 : op = 15
        ·subst h15
         as_aux_lemma =>
          have HG8 := HG7
          have HOW8 := HOW7
          have HNB := Lib.hid (show ∀ y, k < y → y ≤ k + 0 → hs[y]? = some h2 from fun y h1 h3 => absurd h1 (Nat.not_lt.2 h3))
          go_wp2_with fail
          go_loopw [15] (fun q wx => ∃ (m : Nat) (S2 : Nat → Prop), k + 1 ≤ m ∧ m ≤ k + 0 + 1 ∧ q = .int .i64 m ∧ Gr w4 wx ∧ wx.ownsRow gc 4 1 (.slice (some ⟨gc, 0, none⟩) n n) n (bs n S2) ∧ ∀ y, y < n → (S2 y ↔ S y ∨ (k < y ∧ y < m))) (fun q _ => k + 0 + 1 - (intOf q).toNat)
          case atStart => exact ⟨k + 1, _, Nat.le_refl _, le_kd (k := k) (d := 0), by first | rfl | (rw [TI]; rfl) | (rw [TI, natc]), HG8.out, HOW8.out, fun y _ => ⟨.inl, fun h => h.elim id (fun h => absurd h.2 (Nat.not_lt.2 h.1))⟩⟩
          case round =>
           obtain ⟨m, S2, hm1, hm2, rfl, hgr2, hown2, hS2⟩ := hrel
           have HGR2 := Lib.hid hgr2
           have HOW2 := Lib.hid hown2
           have HS2 := Lib.hid hS2
           have HM1 := Lib.hid hm1
           clear hgr2 hown2 hS2
           by_cases hml : m < k + 0 + 1
           ·have hsm := HNB.out m hm1 (Nat.le_of_lt_succ hml)
            have hmn : m < n := by rw [← HHL.out]; exact (List.getElem?_eq_some_iff.1 hsm).1
            have HMN := Lib.hid hmn
            have HML := Lib.hid hml
            have hmi : (m : Int) < (n : Int) := Int.ofNat_lt.2 hmn
            have hmg : ¬ ((n : Int) ≤ m) := Int.not_le.2 (Int.ofNat_lt.2 hmn)
            have hml2 : (m : Int) ≤ (k : Int) := lst0 hml
            have nee : (h2 != h2) = false := bne_self_eq_false h2
            have TI2 : wrap64 ((m : Int) + 1) = (m : Int) + 1 := wr1 hmn HNL.out
            have hcell : w4.cell? ⟨gh, m, none⟩ = some (.int .i64 h2) := by
             rw [HO4.out.cellAt m (lt_m1 hmn)]
             unfold ivs
             rw [List.getElem?_map, hsm]
             rfl
            have hq := gr_cell HGR2.out hcell
            have hcc := HOW2.out.cellAt m (lt_m1 hmn)
            rw [bs_get _ hmn] at hcc
            have fz := HOW2.out.frozenAt m
            have hst := (HOW2.out.stored m (.bool true)).1
            rw [bs_set] at hst
            have HST2 := Lib.hid hst
            have HGS2 := Lib.hid (gr_set HG4.out HGC.out HGR2.out m)
            generalize bB (S2 m) = bv at hcc
            clear hcell hsm hmn hml hst hm1 hm2
            go_upto_region 33 with fail
            clear hq hcc fz
            go_wp2
            exact ⟨⟨m + 1, _, Nat.le_succ_of_le HM1.out, HML.out, by first | rfl | (rw [TI2]; rfl), HGS2.out, HST2.out, fun y hy => by rw [HS2.out y hy]; exact upto_one HM1.out⟩, by first | exact meas_lt HML.out | (rw [TI2]; exact meas_lt HML.out)⟩
           ·obtain rfl : m = k + 0 + 1 := Nat.le_antisymm hm2 (Nat.le_of_not_lt hml)
            have hml2 : ¬ (((k + 0 + 1 : Nat) : Int) ≤ (k : Int)) := nls0
            clear hml hm1 hm2 HM1
            go_wp2
            exact ⟨⟨k + 1, S2, HLT.out, by first | rfl | (rw [TI]; rfl), HGR2.out, HOW2.out, fun y hy => by
             rw [HS2.out y hy, sp_succ, HLED.out y, nb_15, ← HS.out y hy]
             first | done | exact fin_0⟩, by first | exact meas_lt HLT.out | (rw [TI]; exact meas_lt HLT.out)⟩
        ·as_aux_lemma =>
          have e0 : (op == 0) = false := beq_eq_false_iff_ne.2 h0
          have e12 : (op == 12) = false := beq_eq_false_iff_ne.2 h12
          have e13 : (op == 13) = false := beq_eq_false_iff_ne.2 h13
          have e14 : (op == 14) = false := beq_eq_false_iff_ne.2 h14
          have e15 : (op == 15) = false := beq_eq_false_iff_ne.2 h15
          have HN5 := Lib.hid (And.intro h0 (And.intro h12 (And.intro h13 (And.intro h14 h15))))
          clear h0 h12 h13 h14 h15
          have HG8 := HG7
          have HOW8 := HOW7
          have HNB := Lib.hid (show ∀ y, k < y → y ≤ k + 1 → hs[y]? = some h2 from fun y h1 h3 => by
           have h4 := (HDN.out.2 ((k : Int) + 1) (by unfold nbL; rw [if_neg (fun h => h.elim HN5.out.1 HN5.out.2.2.2.2), if_neg HN5.out.2.1, if_neg HN5.out.2.2.1, if_neg HN5.out.2.2.2.1]; exact List.mem_singleton.2 rfl)).2
           rw [tonat1] at h4
           obtain rfl : y = k + 1 := Nat.le_antisymm h3 h1
           exact h4)
          go_wp2_with fail
          go_loopw [15] (fun q wx => ∃ (m : Nat) (S2 : Nat → Prop), k + 1 ≤ m ∧ m ≤ k + 1 + 1 ∧ q = .int .i64 m ∧ Gr w4 wx ∧ wx.ownsRow gc 4 1 (.slice (some ⟨gc, 0, none⟩) n n) n (bs n S2) ∧ ∀ y, y < n → (S2 y ↔ S y ∨ (k < y ∧ y < m))) (fun q _ => k + 1 + 1 - (intOf q).toNat)
          case atStart => exact ⟨k + 1, _, Nat.le_refl _, le_kd (k := k) (d := 1), by first | rfl | (rw [TI]; rfl) | (rw [TI, natc]), HG8.out, HOW8.out, fun y _ => ⟨.inl, fun h => h.elim id (fun h => absurd h.2 (Nat.not_lt.2 h.1))⟩⟩
          case round =>
           obtain ⟨m, S2, hm1, hm2, rfl, hgr2, hown2, hS2⟩ := hrel
           have HGR2 := Lib.hid hgr2
           have HOW2 := Lib.hid hown2
           have HS2 := Lib.hid hS2
           have HM1 := Lib.hid hm1
           clear hgr2 hown2 hS2
           by_cases hml : m < k + 1 + 1
           ·have hsm := HNB.out m hm1 (Nat.le_of_lt_succ hml)
            have hmn : m < n := by rw [← HHL.out]; exact (List.getElem?_eq_some_iff.1 hsm).1
            have HMN := Lib.hid hmn
            have HML := Lib.hid hml
            have hmi : (m : Int) < (n : Int) := Int.ofNat_lt.2 hmn
            have hmg : ¬ ((n : Int) ≤ m) := Int.not_le.2 (Int.ofNat_lt.2 hmn)
            have hml2 : (m : Int) ≤ (k : Int) + 1 := lst1 hml
            have nee : (h2 != h2) = false := bne_self_eq_false h2
            have TI2 : wrap64 ((m : Int) + 1) = (m : Int) + 1 := wr1 hmn HNL.out
            have hcell : w4.cell? ⟨gh, m, none⟩ = some (.int .i64 h2) := by
             rw [HO4.out.cellAt m (lt_m1 hmn)]
             unfold ivs
             rw [List.getElem?_map, hsm]
             rfl
            have hq := gr_cell HGR2.out hcell
            have hcc := HOW2.out.cellAt m (lt_m1 hmn)
            rw [bs_get _ hmn] at hcc
            have fz := HOW2.out.frozenAt m
            have hst := (HOW2.out.stored m (.bool true)).1
            rw [bs_set] at hst
            have HST2 := Lib.hid hst
            have HGS2 := Lib.hid (gr_set HG4.out HGC.out HGR2.out m)
            generalize bB (S2 m) = bv at hcc
            clear hcell hsm hmn hml hst hm1 hm2
            go_upto_region 33 with fail
            clear hq hcc fz
            go_wp2
            exact ⟨⟨m + 1, _, Nat.le_succ_of_le HM1.out, HML.out, by first | rfl | (rw [TI2]; rfl), HGS2.out, HST2.out, fun y hy => by rw [HS2.out y hy]; exact upto_one HM1.out⟩, by first | exact meas_lt HML.out | (rw [TI2]; exact meas_lt HML.out)⟩
           ·obtain rfl : m = k + 1 + 1 := Nat.le_antisymm hm2 (Nat.le_of_not_lt hml)
            have hml2 : ¬ (((k + 1 + 1 : Nat) : Int) ≤ (k : Int) + 1) := nls1
            clear hml hm1 hm2 HM1
            go_wp2
            exact ⟨⟨k + 1, S2, HLT.out, by first | rfl | (rw [TI]; rfl), HGR2.out, HOW2.out, fun y hy => by
             rw [HS2.out y hy, sp_succ, HLED.out y, nb_o HN5.out, ← HS.out y hy]
             first | done | exact fin_1⟩, by first | exact meas_lt HLT.out | (rw [TI]; exact meas_lt HLT.out)⟩
  ·obtain rfl : n = k := Nat.le_antisymm (Nat.le_of_not_lt hlt) hk
   have HSN := Lib.hid (show ∀ m x, hs[m]? = some x → wr.cell? ⟨gc, m, none⟩ = some (.bool (decide (x ≠ -1))) from fun m x hx => by
    have h1 := (List.getElem?_eq_some_iff.1 hx).1
    rw [HHL.out] at h1
    rw [HOW.out.cellAt m (lt_m1 h1), bs_get _ h1]
    have h2 := HS.out m h1
    have h3 := sp_all HW.out HCL.out hx
    rw [HLN.out] at h3
    by_cases h4 : x = -1
    ·rw [bB_f (fun h => (h3.1 (h2.1 h)) h4)]
     simp [h4]
    ·rw [bB_t (h2.2 (h3.2 h4))]
     simp [h4])
   clear hlt hk
   go_wp2_with fail
   go_loopw [16] (fun q wx => ∃ m : Nat, m ≤ n ∧ q = .int .i64 m ∧ Gr wr wx) (fun q _ => n - (intOf q).toNat)
   case atStart => exact ⟨0, Nat.zero_le _, rfl, Gr.refl _⟩
   case round =>
    obtain ⟨m, hm, rfl, hg⟩ := hrel
    have HGm := Lib.hid hg
    clear hg
    by_cases hlt : m < n
    ·have HLT := Lib.hid hlt
     obtain ⟨x, hx⟩ : ∃ x, hs[m]? = some x := ⟨_, List.getElem?_eq_getElem (by rw [HHL.out]; exact hlt)⟩
     have hmi : (m : Int) < (n : Int) := Int.ofNat_lt.2 hlt
     have TI : wrap64 ((m : Int) + 1) = (m : Int) + 1 := wr1 hlt HNL.out
     have hcell : w4.cell? ⟨gh, m, none⟩ = some (.int .i64 x) := by
      rw [HO4.out.cellAt m (lt_m1 hlt)]
      unfold ivs
      rw [List.getElem?_map, hx]
      rfl
     have hq := gr_cell (gr_trans HGR.out HGm.out) hcell
     have hcc := gr_cell HGm.out (HSN.out m x hx)
     have hv := HW.out.val m x hx
     clear hx hcell hlt
     rcases hv with rfl | hx0
     ·rw [show decide ((-1 : Int) ≠ -1) = false from rfl] at hcc
      go_wp2_with fail
      go_quiet (fail)
      go_wp2
      exact ⟨⟨m + 1, HLT.out, by first | rfl | (rw [TI]; rfl), HGm.out.drewN _⟩, by first | exact meas_lt HLT.out | (rw [TI]; exact meas_lt HLT.out)⟩
     ·rw [show decide (x ≠ -1) = true from decide_eq_true (ne_m1 hx0)] at hcc
      have hx1 : (0 : Int) ≤ x := hx0
      clear hx0
      go_wp2_with fail
      go_quiet (fail)
      go_wp2
      exact ⟨⟨m + 1, HLT.out, by first | rfl | (rw [TI]; rfl), HGm.out.drewN _⟩, by first | exact meas_lt HLT.out | (rw [TI]; exact meas_lt HLT.out)⟩
    ·obtain rfl : n = m := Nat.le_antisymm (Nat.le_of_not_lt hlt) hm
     go_wp2
     go_ret
     exact ⟨rfl, gr_trans HG4.out (gr_trans HGR.out HGm.out)⟩
end Tg
end Go.Proofs.Ytifjgocfdnhdeaa
