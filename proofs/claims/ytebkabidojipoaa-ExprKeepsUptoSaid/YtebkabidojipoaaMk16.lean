/-
  Texts of this seat, joined: ExI, ExN, ExP, ExQ, ExJ, ExK, ExN2, ExN3, ExN4, ExN5, ExN6, ExN7, ExNz. Each says what it proves.
-/
import Derived.Test.YtebkabidojipoaaMk3
import Derived.Test.YtebkabidojipoaaMk5
import Derived.Test.YtebkabidojipoaaMk6
import Derived.Test.YtebkabidojipoaaMk9
import Derived.Test.YtebkabidojipoaaMk10
import Derived.Test.YtebkabidojipoaaMk15
/- ExI -/
namespace Go.Proofs.Ytebkabidojipoaa
open Go.RowKit VecM LebM
namespace Ex
theorem infoIn : (Try.prog.info? 38).map (·.size) = some 6 := by kernel_rfl
theorem infoIf : (Try.prog.info? 50).map (·.size) = some 5 := by kernel_rfl
theorem opcS_bd {f : Nat → Int} (hf : By f) {len : Nat} (s : St) : 0 ≤ (opcS f len s).1 ∧ (opcS f len s).1 ≤ 4295032063 := by
 have h1 := octS_bd hf (len := len) s
 have h2 := numS_bd hf (len := len) (octS f len s).2
 unfold opcS; split
 ·dsimp only; omega
 ·split
  ·simp
  ·omega
def opSt (op : Int) (s : St) : St := if Ins.floatB op = true then failS s 11 else if fm op = 0 then failS s 10 else s
def insS (f : Nat → Int) (len : Nat) (s : St) (N : List Int) (cl : Bool) : In × St × List Int × Bool :=
 if (opcS f len s).2.e ≠ 0 then (⟨0, 0, 0, 0, 0, []⟩, (opcS f len s).2, N, cl)
 else
  let r := fldS f len (fm (opcS f len s).1) (opcS f len s).1 (opSt (opcS f len s).1 (opcS f len s).2)
  if r.2.e ≠ 0 then (r.1, r.2, N, cl)
  else if fm (opcS f len s).1 = 2 ∧ N.length = 128 then (r.1, failS r.2 3, N, cl)
  else (r.1, if (stepN (opcS f len s).1 (fm (opcS f len s).1) N cl).1 = true then r.2 else failS r.2 10, (stepN (opcS f len s).1 (fm (opcS f len s).1) N cl).2)
def INS (w : World) (g : Nat) (sv ov : Value) (r : In × St × List Int × Bool) (e : Ending) (w' : World) : Prop :=
 ∃ Lv ov', e = .returned (.agg (inV r.1 Lv)) ∧ RS w' g sv r.2.1 ov' r.2.2.2 ∧ NS w' g ov' r.2.2.1 ∧ w'.ownsRow w.heap.size 3 1 Lv r.1.l.length (ivs r.1.l) ∧
  (∀ k, ov'.ownBlock = some k → ov.ownBlock = some k ∨ w.heap.size ≤ k) ∧ (∀ k, Lv.ownBlock = some k → ov'.ownBlock ≠ some k) ∧ Sep (Two g ov) w w'
theorem mx_sep {ex : Nat → Prop} {w w' : World} (h : Ins.Mx w) (hs : Sep ex w w') (hx : ¬ ex 0) : Ins.Mx w' := by
 obtain ⟨m, hm⟩ := h
 exact ⟨m, hs.cell hx hm⟩
theorem own_base {w : World} {base base' : Nat} {e : TypeId} {size : Nat} {v : Value} {n : Nat} {xs : List Value} (h : w.ownsRow base e size v n xs) (hb : base' ≤ base) : w.ownsRow base' e size v n xs := by
 refine ⟨h.1, ?_⟩
 rcases h.2 with hn | ⟨g, cap, cur, hv, hb', hg, rest⟩
 ·exact .inl hn
 ·exact .inr ⟨g, cap, cur, hv, by omega, hg, rest⟩
theorem inV_one (d : In) (x : Option Addr) (n c : Nat) : (inV d (.slice x n c)).all (·.oneCell') = true := by kernel_rfl
set_option maxRecDepth 100000 in
set_option maxHeartbeats 2000000 in
theorem ins_fails {w : World} {g : Nat} {sv ov : Value} {s : St} {cl : Bool} {len : Nat} {f : Nat → Int} {N : List Int} (hf : By f) (hm : Ins.Mx w) (hg : 0 < g) (h : RS w g sv s ov cl) (hn : NS w g ov N) (hb : Bys w g sv len f) (hok : Ok len s) (_hsv : ∀ k, sv.ownBlock = some k → k < w.heap.size) (_hN : N.length ≤ 100000) (he : (opcS f len s).2.e ≠ 0) :
  Calls Try.prog 15 #[.pointer (some ⟨g, 0, none⟩)] w (INS w g sv ov (⟨0, 0, 0, 0, 0, []⟩, (opcS f len s).2, N, cl)) := by
 have hs0 : Sep (One g) w (w.alloc (.cells #[.int .i64 0, .int .i64 0, .int .i64 0, .int .u64 0, .int .u64 0, .slice none 0 0] 38)) := Sep.of_gr ((Gr.refl w).alloc _ _)
 have HO := Lib.hid (opcode_any hf (rs_sep (ex := fun _ => False) h (Sep.of_gr ((Gr.refl w).alloc #[.int .i64 0, .int .i64 0, .int .i64 0, .int .u64 0, .int .u64 0, .slice none 0 0] 38)) id) (bys_one hb hs0) hok)
 have HF := Lib.hid (fun op (hop : op ≤ 9223372036854775807) wx hmx => of_fm op hop wx hmx)
 have HMX := Lib.hid (mx_sep hm hs0 (show ¬ One g 0 from fun e => by have e' : 0 = g := e; omega))
 have HN := Lib.hid hn
 have HS0 := Lib.hid hs0
 have hbd := opcS_bd hf (len := len) s
 have HLT := Lib.hid (rs_lt h)
 have HGP := Lib.hid hg
 generalize opcS f len s = r at *
 obtain ⟨op, s1⟩ := r
 obtain ⟨sa, se⟩ := s1
 dsimp only at he hbd
 have n1 : (se != 0) = true := by simpa using he
 have HF1 := Lib.hid (HF.out op (by omega))
 clear h hn hb hok _hsv _hN hm hg hs0 hbd HF he
 go_enter Try.func15, Try.ntmps15
 go_wp2_with fail
 refine HO.out.mono ?_
 rintro e w1 ⟨rfl, h1, h2⟩
 have HR1 := Lib.hid h1
 have HS1 := Lib.hid (Sep.trans HS0.out h2)
 have HMX1 := Lib.hid (mx_sep HMX.out h2 (show ¬ One g 0 from fun e => by have e' : 0 = g := e; have := HGP.out; omega))
 have HZ1 := Lib.hid (h2.at_ (show ¬ One g w.heap.size from fun e => by have e' : w.heap.size = g := e; have := HLT.out; omega) (heap_alloc_new w (.cells #[.int .i64 0, .int .i64 0, .int .i64 0, .int .u64 0, .int .u64 0, .slice none 0 0] 38)))
 clear h1 h2
 go_wp2_with fail
 refine (HF1.out w1 HMX1.out).mono ?_
 rintro e w2 ⟨l, p, xi, ni, ci, xo, no, co, rfl, hg2⟩
 have HR2 := Lib.hid (rs_sep (ex := fun _ => False) HR1.out (Sep.of_gr hg2) id)
 have HS2 := Lib.hid (Sep.trans HS1.out (Sep.of_gr hg2))
 have HZ2 := Lib.hid (gr_block hg2 HZ1.out)
 clear hg2
 go_upto_region 3 with (refine wpList_store_row rfl 50 _ _ rfl w2.heap.size #[.int .i64 (fm op), .int .i64 l, .bool p, .slice xi ni ci, .slice xo no co] rfl rfl 50 #[.int .i64 0, .int .i64 0, .bool false, .slice none 0 0, .slice none 0 0] (heap_alloc_new w2 _) infoIf rfl (by kernel_rfl) ?_)
 have hw := HS2.out.size
 have hrw := Sep.setRow (ex := fun b => b = w2.heap.size) (w2.alloc (.cells #[.int .i64 0, .int .i64 0, .bool false, .slice none 0 0, .slice none 0 0] 50)) rfl #[.int .i64 (fm op), .int .i64 l, .bool p, .slice xi ni ci, .slice xo no co]
 have hal : Sep (One g) w (w2.alloc (.cells #[.int .i64 0, .int .i64 0, .bool false, .slice none 0 0, .slice none 0 0] 50)) := Sep.trans HS2.out (Sep.of_gr ((Gr.refl w2).alloc _ _))
 have HS3 := Lib.hid (sep_new hal hrw (fun b hb e => by have e' : b = w2.heap.size := e; omega))
 have hr3 := rs_sep (rs_sep (ex := fun _ => False) HR2.out (Sep.of_gr ((Gr.refl w2).alloc #[.int .i64 0, .int .i64 0, .bool false, .slice none 0 0, .slice none 0 0] 50)) id) hrw (show ¬ g = w2.heap.size by have := HLT.out; omega)
 have HR3 := Lib.hid hr3
 have hZ : w.heap.size < w2.heap.size := (Array.getElem?_eq_some_iff.1 HZ2.out).1
 have HZ3 := Lib.hid (hrw.at_ (show ¬ w.heap.size = w2.heap.size by omega) (gr_block ((Gr.refl w2).alloc #[.int .i64 0, .int .i64 0, .bool false, .slice none 0 0, .slice none 0 0] 50) HZ2.out))
 obtain ⟨_, _, a2, _, _⟩ := cells5 hr3
 dsimp only at a2
 clear hw hrw hal hr3 hZ
 generalize (w2.alloc (.cells #[.int .i64 0, .int .i64 0, .bool false, .slice none 0 0, .slice none 0 0] 50)).setRow w2.heap.size #[.int .i64 (fm op), .int .i64 l, .bool p, .slice xi ni ci, .slice xo no co] = w3 at *
 go_wp2_with (refine wpList_store_row rfl 38 _ _ rfl w.heap.size #[.int .i64 0, .int .i64 0, .int .i64 0, .int .u64 0, .int .u64 0, .slice none 0 0] rfl rfl 38 #[.int .i64 0, .int .i64 0, .int .i64 0, .int .u64 0, .int .u64 0, .slice none 0 0] HZ3.out infoIn rfl (by kernel_rfl) ?_)
 have hrz := Sep.setRow (ex := fun b => b = w.heap.size) w3 rfl #[.int .i64 0, .int .i64 0, .int .i64 0, .int .u64 0, .int .u64 0, .slice none 0 0]
 have HZ4 := Lib.hid (setRow_block (c := #[.int .i64 0, .int .i64 0, .int .i64 0, .int .u64 0, .int .u64 0, .slice none 0 0]) HZ3.out)
 have HS4 := Lib.hid (sep_new HS3.out hrz (fun b hb e => by have e' : b = w.heap.size := e; omega))
 have HR4 := Lib.hid (rs_sep HR3.out hrz (show ¬ g = w.heap.size by have := HLT.out; omega))
 clear hrz a2
 go_wp2
 exact bodyPost_ret (v := .agg #[.int .i64 0, .int .i64 0, .int .i64 0, .int .u64 0, .int .u64 0, .slice none 0 0]) (results_cell_row Try.results15 _ _ w.heap.size 38 _ (0, 0) _ rfl HZ4.out Try.underlying38 rfl infoIn) rfl
  ⟨.slice none 0 0, ov, rfl, HR4.out, ns_one HN.out HS4.out, World.ownsRow_nil _ _ _ _, fun k hk => .inl hk, (fun k hk => by cases hk), HS4.out.mono fun k hk => .inl hk⟩
theorem sep_join {ex ex' : Nat → Prop} {a w w' : World} (h : Sep ex a w) (h' : Sep ex' w w') (hn : ∀ b, b < a.heap.size → ex' b → ex b) : Sep ex a w' :=
 ⟨h'.os.trans h.os, h'.tape.trans h.tape, h'.output.trans h.output, Nat.le_trans h.size h'.size, fun b hb hx => (h'.block b (Nat.lt_of_lt_of_le hb h.size) (fun e => hx (hn b hb e))).trans (h.block b hb hx)⟩
theorem ins_end {w wF : World} {g b : Nat} {sv ov ov' Lv : Value} {s : St} {cl : Bool} {N N' : List Int} {d : In} (hgw : g < w.heap.size) (hn : NS w g ov N) (hR : RS wF g sv s ov' cl) (hN : NS wF g ov' N') (hL : wF.ownsRow b 3 1 Lv d.l.length (ivs d.l)) (hb : w.heap.size < b)
  (hk : ∀ k, ov'.ownBlock = some k → ov.ownBlock = some k ∨ w.heap.size < k) (hLo : ∀ k, Lv.ownBlock = some k → ov'.ownBlock ≠ some k) (hS : Sep (Two g ov) w wF) (c : Array Value) : INS w g sv ov (d, s, N', cl) (.returned (.agg (inV d Lv))) (wF.setRow w.heap.size c) := by
 have hr := Sep.setRow (ex := fun b => b = w.heap.size) wF rfl c
 refine ⟨Lv, ov', rfl, rs_sep hR hr (by show ¬ g = w.heap.size; omega), ns_sep hN hr (fun k hk' e => ?_), own_base (hr.owns hL (fun k hk' e => ?_)) (by omega), fun k hk' => (hk k hk').imp id Nat.le_of_lt, hLo, sep_new hS hr (fun b hb e => by have e' : b = w.heap.size := e; omega)⟩
 ·have e' : k = w.heap.size := e
  rcases hk k hk' with h | h
  ·have := hn.lt k h; omega
  ·omega
 ·have e' : k = w.heap.size := e
  have := hL.lt k hk'; omega
set_option maxRecDepth 100000 in
set_option maxHeartbeats 4000000 in
theorem ins_float {w : World} {g : Nat} {sv ov : Value} {s : St} {cl : Bool} {len : Nat} {f : Nat → Int} {N : List Int} (hf : By f) (hm : Ins.Mx w) (hg : 0 < g) (h : RS w g sv s ov cl) (hn : NS w g ov N) (hb : Bys w g sv len f) (hok : Ok len s) (hsv : ∀ k, sv.ownBlock = some k → k < w.heap.size) (hN : N.length ≤ 100000) (sa : Int) (op : Int) (ho : opcS f len s = (op, ⟨sa, 0⟩)) (hfl : Ins.floatB op = true) (d : In) (s2 : St) (hr : fldS f len (fm op) op ⟨sa, 11⟩ = (d, s2)) (he2 : s2.e ≠ 0) :
  Calls Try.prog 15 #[.pointer (some ⟨g, 0, none⟩)] w (INS w g sv ov (d, s2, N, cl)) := by
 have hs0 : Sep (One g) w (w.alloc (.cells #[.int .i64 0, .int .i64 0, .int .i64 0, .int .u64 0, .int .u64 0, .slice none 0 0] 38)) := Sep.of_gr ((Gr.refl w).alloc _ _)
 have HO := Lib.hid (opcode_any hf (rs_sep (ex := fun _ => False) h (Sep.of_gr ((Gr.refl w).alloc #[.int .i64 0, .int .i64 0, .int .i64 0, .int .u64 0, .int .u64 0, .slice none 0 0] 38)) id) (bys_one hb hs0) hok)
 have HF := Lib.hid (fun op (hop : op ≤ 9223372036854775807) wx hmx => of_fm op hop wx hmx)
 have HMX := Lib.hid (mx_sep hm hs0 (show ¬ One g 0 from fun e => by have e' : 0 = g := e; omega))
 have HN := Lib.hid hn
 have HB := Lib.hid hb
 have HSV := Lib.hid hsv
 have HNL := Lib.hid hN
 have HS0 := Lib.hid hs0
 have hbd := opcS_bd hf (len := len) s
 have hok1 := opcS_ok (f := f) hok
 have HLT := Lib.hid (rs_lt h)
 have HGP := Lib.hid hg
 rw [ho] at HO hbd hok1
 dsimp only at hbd hok1
 have HF1 := Lib.hid (HF.out op (by omega))
 have HFL0 := Lib.hid (fun wx => Ins.float_any op (by omega) wx)
 have HOK1 := Lib.hid hok1
 clear h hn hb hok hsv hN hm hg hs0 hbd HF hok1
 go_enter Try.func15, Try.ntmps15
 go_wp2_with fail
 refine HO.out.mono ?_
 rintro e w1 ⟨rfl, h1, h2⟩
 have HR1 := Lib.hid h1
 have HS1 := Lib.hid (Sep.trans HS0.out h2)
 have HMX1 := Lib.hid (mx_sep HMX.out h2 (show ¬ One g 0 from fun e => by have e' : 0 = g := e; have := HGP.out; omega))
 have HZ1 := Lib.hid (h2.at_ (show ¬ One g w.heap.size from fun e => by have e' : w.heap.size = g := e; have := HLT.out; omega) (heap_alloc_new w (.cells #[.int .i64 0, .int .i64 0, .int .i64 0, .int .u64 0, .int .u64 0, .slice none 0 0] 38)))
 clear h1 h2
 go_wp2_with fail
 refine (HF1.out w1 HMX1.out).mono ?_
 rintro e w2 ⟨l, p, xi, ni, ci, xo, no, co, rfl, hg2⟩
 have HR2 := Lib.hid (rs_sep (ex := fun _ => False) HR1.out (Sep.of_gr hg2) id)
 have HS2 := Lib.hid (Sep.trans HS1.out (Sep.of_gr hg2))
 have HZ2 := Lib.hid (gr_block hg2 HZ1.out)
 clear hg2
 go_upto_region 3 with (refine wpList_store_row rfl 50 _ _ rfl w2.heap.size #[.int .i64 (fm op), .int .i64 l, .bool p, .slice xi ni ci, .slice xo no co] rfl rfl 50 #[.int .i64 0, .int .i64 0, .bool false, .slice none 0 0, .slice none 0 0] (heap_alloc_new w2 _) infoIf rfl (by kernel_rfl) ?_)
 have hw := HS2.out.size
 have hi3 := setRow_block (c := #[.int .i64 (fm op), .int .i64 l, .bool p, .slice xi ni ci, .slice xo no co]) (heap_alloc_new w2 (.cells #[.int .i64 0, .int .i64 0, .bool false, .slice none 0 0, .slice none 0 0] 50))
 have hrw := Sep.setRow (ex := fun b => b = w2.heap.size) (w2.alloc (.cells #[.int .i64 0, .int .i64 0, .bool false, .slice none 0 0, .slice none 0 0] 50)) rfl #[.int .i64 (fm op), .int .i64 l, .bool p, .slice xi ni ci, .slice xo no co]
 have hal : Sep (One g) w (w2.alloc (.cells #[.int .i64 0, .int .i64 0, .bool false, .slice none 0 0, .slice none 0 0] 50)) := Sep.trans HS2.out (Sep.of_gr ((Gr.refl w2).alloc _ _))
 have HS3 := Lib.hid (sep_new hal hrw (fun b hb e => by have e' : b = w2.heap.size := e; omega))
 have hr3 := rs_sep (rs_sep (ex := fun _ => False) HR2.out (Sep.of_gr ((Gr.refl w2).alloc #[.int .i64 0, .int .i64 0, .bool false, .slice none 0 0, .slice none 0 0] 50)) id) hrw (show ¬ g = w2.heap.size by have := HLT.out; omega)
 have HR3 := Lib.hid hr3
 have hZ : w.heap.size < w2.heap.size := (Array.getElem?_eq_some_iff.1 HZ2.out).1
 have HZ3 := Lib.hid (hrw.at_ (show ¬ w.heap.size = w2.heap.size by omega) (gr_block ((Gr.refl w2).alloc #[.int .i64 0, .int .i64 0, .bool false, .slice none 0 0, .slice none 0 0] 50) HZ2.out))
 have HI3 := Lib.hid hi3
 have HB3 := Lib.hid hZ
 obtain ⟨_, _, a2, _, _⟩ := cells5 hr3
 dsimp only at a2
 clear hw hrw hal hr3 hZ hi3
 generalize (w2.alloc (.cells #[.int .i64 0, .int .i64 0, .bool false, .slice none 0 0, .slice none 0 0] 50)).setRow w2.heap.size #[.int .i64 (fm op), .int .i64 l, .bool p, .slice xi ni ci, .slice xo no co] = w3 at *
 generalize w2.heap.size = b3 at *
 have HFL := Lib.hid (show Calls Try.prog 28 #[.int .i64 op] w3 fun e w' => e = .returned (.bool true) ∧ w3 = w' from hfl ▸ HFL0.out w3)
 have HOK := Lib.hid (show Ok len ⟨sa, 11⟩ from ⟨HOK1.out.lo, HOK1.out.hi⟩)
 go_wp2_with fail
 refine HFL.out.mono ?_
 rintro e w4 ⟨rfl, rfl⟩
 go_wp2_with fail
 refine (fail_any HR3.out 11).mono ?_
 rintro e w4 ⟨rfl, h1, h2⟩
 have HR4 := Lib.hid (show RS w4 g sv ⟨sa, 11⟩ ov cl from h1)
 have HI4 := Lib.hid (h2.at_ (show ¬ One g b3 from fun e => by have e' : b3 = g := e; have := HLT.out; have := HB3.out; omega) HI3.out)
 have HZ4 := Lib.hid (h2.at_ (show ¬ One g w.heap.size from fun e => by have e' : w.heap.size = g := e; have := HLT.out; omega) HZ3.out)
 have HS4 := Lib.hid (Sep.trans HS3.out h2)
 clear h1 h2
 go_upto_region 10 with (refine wpList_store_row rfl 38 _ _ rfl w4.heap.size (inV (nul op) (.slice none 0 0)) rfl rfl 38 #[.int .i64 0, .int .i64 0, .int .i64 0, .int .u64 0, .int .u64 0, .slice none 0 0] (heap_alloc_new w4 _) infoIn rfl (by kernel_rfl) ?_)
 have hal : Gr w4 (w4.alloc (.cells #[.int .i64 0, .int .i64 0, .int .i64 0, .int .u64 0, .int .u64 0, .slice none 0 0] 38)) := (Gr.refl w4).alloc _ _
 have hrw := Sep.setRow (ex := fun b => b = w4.heap.size) (w4.alloc (.cells #[.int .i64 0, .int .i64 0, .int .i64 0, .int .u64 0, .int .u64 0, .slice none 0 0] 38)) rfl (inV (nul op) (.slice none 0 0))
 have hi := setRow_block (c := (inV (nul op) (.slice none 0 0))) (heap_alloc_new w4 (.cells #[.int .i64 0, .int .i64 0, .int .i64 0, .int .u64 0, .int .u64 0, .slice none 0 0] 38))
 have hzl : w.heap.size < w4.heap.size := (Array.getElem?_eq_some_iff.1 HZ4.out).1
 have hbl : b3 < w4.heap.size := (Array.getElem?_eq_some_iff.1 HI4.out).1
 have HR8 := Lib.hid (rs_sep (rs_sep (ex := fun _ => False) HR4.out (Sep.of_gr hal) id) hrw (show ¬ g = w4.heap.size by have := HLT.out; omega))
 have HZ8 := Lib.hid (hrw.at_ (show ¬ w.heap.size = w4.heap.size by omega) (gr_block hal HZ4.out))
 have hi8 := hrw.at_ (show ¬ b3 = w4.heap.size by omega) (gr_block hal HI4.out)
 have HI8 := Lib.hid hi8
 have HS8 := Lib.hid (sep_join (Sep.trans HS4.out (Sep.of_gr hal)) hrw (fun b hb e => by have e' : b = w4.heap.size := e; omega))
 have HE8 := Lib.hid (show IB _ w4.heap.size (inV (nul op) (.slice none 0 0)) from hi)
 have HLi := Lib.hid hzl
 have HLb := Lib.hid hbl
 obtain ⟨f0, _, _, _, _⟩ := cells5 hi8
 clear hal hrw hi hzl hbl hi8 a2
 generalize (w4.alloc (.cells #[.int .i64 0, .int .i64 0, .int .i64 0, .int .u64 0, .int .u64 0, .slice none 0 0] 38)).setRow w4.heap.size (inV (nul op) (.slice none 0 0)) = w8 at *
 generalize w4.heap.size = i at *
 have HFD := Lib.hid (fields_any hf HR8.out HE8.out (show i ≠ g by have := HLT.out; have := HLi.out; omega) ⟨bys_one HB.out HS8.out, fun k hk e => by have := HSV.out k hk; have := HLi.out; omega⟩ HOK.out (fun k hk => Nat.lt_of_lt_of_le (HSV.out k hk) HS8.out.size) (fm op))
 rw [hr] at HFD
 go_wp2_with fail
 refine HFD.out.mono ?_
 rintro e w9 ⟨Lv, rfl, h1, h2, h3, h4⟩
 have HR9 := Lib.hid h1
 have HE9 := Lib.hid h2
 have HL9 := Lib.hid h3
 have hi9 := h4.at_ (show ¬ Pr g i b3 from fun e => by have e' : b3 = g ∨ b3 = i := e; have := HLT.out; have := HB3.out; have := HLb.out; omega) HI8.out
 have HZ9 := Lib.hid (h4.at_ (show ¬ Pr g i w.heap.size from fun e => by have e' : w.heap.size = g ∨ w.heap.size = i := e; have := HLT.out; have := HLi.out; omega) HZ8.out)
 have HS9 := Lib.hid (sep_join HS8.out h4 (fun b hb e => by have e' : b = g ∨ b = i := e; have := HLi.out; exact e'.elim id (fun e => by omega)))
 have HW8 := Lib.hid (show w.heap.size < w8.heap.size from (Array.getElem?_eq_some_iff.1 HZ8.out).1)
 have hiL : i < w8.heap.size := (Array.getElem?_eq_some_iff.1 HE8.out).1
 have HIL := Lib.hid hiL
 have HSZ := Lib.hid h4.size
 obtain ⟨xL, cL, rfl⟩ := own_slice h3
 obtain ⟨f0', _, _, _, _⟩ := cells5 hi9
 obtain ⟨_, _, e2, _, _⟩ := cells5 h1
 clear h1 h2 h3 h4 hi9 f0 hiL
 have n9 : (s2.e == 0) = false := by simpa using he2
 go_wp2_with fail
 go_quiet (fail)
 go_wp2_with (first | (refine wpList_load_row rfl 38 _ rfl i rfl 38 (inV d (.slice xL d.l.length cL)) (0, 0) _ HE9.out Try.underlying38 rfl infoIn ?_) | (refine wpList_store_row rfl 38 _ _ rfl w.heap.size (inV d (.slice xL d.l.length cL)) rfl rfl 38 #[.int .i64 0, .int .i64 0, .int .i64 0, .int .u64 0, .int .u64 0, .slice none 0 0] HZ9.out infoIn rfl (inV_one _ _ _ _) ?_))
 exact bodyPost_ret (v := .agg (inV d (.slice xL d.l.length cL))) (results_cell_row Try.results15 _ _ w.heap.size 38 _ (0, 0) _ rfl (setRow_block (c := inV d (.slice xL d.l.length cL)) HZ9.out) Try.underlying38 rfl infoIn) rfl
  (ins_end HLT.out HN.out (rs_drew HR9.out nq) (ns_one HN.out (HS9.out.drewN nq)) HL9.out HW8.out (fun k hk => .inl hk) (fun k hk h => by have := HL9.out.lt k hk; have := HN.out.lt k h; have := HW8.out; omega) ((HS9.out.drewN nq).mono fun k hk => .inl hk) _)
set_option maxRecDepth 100000 in
set_option maxHeartbeats 4000000 in
theorem ins_none {w : World} {g : Nat} {sv ov : Value} {s : St} {cl : Bool} {len : Nat} {f : Nat → Int} {N : List Int} (hf : By f) (hm : Ins.Mx w) (hg : 0 < g) (h : RS w g sv s ov cl) (hn : NS w g ov N) (hb : Bys w g sv len f) (hok : Ok len s) (hsv : ∀ k, sv.ownBlock = some k → k < w.heap.size) (hN : N.length ≤ 100000) (sa : Int) (op : Int) (ho : opcS f len s = (op, ⟨sa, 0⟩)) (hfl : Ins.floatB op = false) (hfm : fm op = 0) (d : In) (s2 : St) (hr : fldS f len (fm op) op ⟨sa, 10⟩ = (d, s2)) (he2 : s2.e ≠ 0) :
  Calls Try.prog 15 #[.pointer (some ⟨g, 0, none⟩)] w (INS w g sv ov (d, s2, N, cl)) := by
 have hs0 : Sep (One g) w (w.alloc (.cells #[.int .i64 0, .int .i64 0, .int .i64 0, .int .u64 0, .int .u64 0, .slice none 0 0] 38)) := Sep.of_gr ((Gr.refl w).alloc _ _)
 have HO := Lib.hid (opcode_any hf (rs_sep (ex := fun _ => False) h (Sep.of_gr ((Gr.refl w).alloc #[.int .i64 0, .int .i64 0, .int .i64 0, .int .u64 0, .int .u64 0, .slice none 0 0] 38)) id) (bys_one hb hs0) hok)
 have HF := Lib.hid (fun op (hop : op ≤ 9223372036854775807) wx hmx => of_fm op hop wx hmx)
 have HMX := Lib.hid (mx_sep hm hs0 (show ¬ One g 0 from fun e => by have e' : 0 = g := e; omega))
 have HN := Lib.hid hn
 have HB := Lib.hid hb
 have HSV := Lib.hid hsv
 have HNL := Lib.hid hN
 have HS0 := Lib.hid hs0
 have hbd := opcS_bd hf (len := len) s
 have hok1 := opcS_ok (f := f) hok
 have HLT := Lib.hid (rs_lt h)
 have HGP := Lib.hid hg
 rw [ho] at HO hbd hok1
 dsimp only at hbd hok1
 have HFM := Lib.hid hfm
 clear hfm
 have HF1 := Lib.hid (HF.out op (by omega))
 have HFL0 := Lib.hid (fun wx => Ins.float_any op (by omega) wx)
 have HOK1 := Lib.hid hok1
 clear h hn hb hok hsv hN hm hg hs0 hbd HF hok1
 go_enter Try.func15, Try.ntmps15
 go_wp2_with fail
 refine HO.out.mono ?_
 rintro e w1 ⟨rfl, h1, h2⟩
 have HR1 := Lib.hid h1
 have HS1 := Lib.hid (Sep.trans HS0.out h2)
 have HMX1 := Lib.hid (mx_sep HMX.out h2 (show ¬ One g 0 from fun e => by have e' : 0 = g := e; have := HGP.out; omega))
 have HZ1 := Lib.hid (h2.at_ (show ¬ One g w.heap.size from fun e => by have e' : w.heap.size = g := e; have := HLT.out; omega) (heap_alloc_new w (.cells #[.int .i64 0, .int .i64 0, .int .i64 0, .int .u64 0, .int .u64 0, .slice none 0 0] 38)))
 clear h1 h2
 go_wp2_with fail
 refine (HF1.out w1 HMX1.out).mono ?_
 rintro e w2 ⟨l, p, xi, ni, ci, xo, no, co, rfl, hg2⟩
 have HR2 := Lib.hid (rs_sep (ex := fun _ => False) HR1.out (Sep.of_gr hg2) id)
 have HS2 := Lib.hid (Sep.trans HS1.out (Sep.of_gr hg2))
 have HZ2 := Lib.hid (gr_block hg2 HZ1.out)
 clear hg2
 go_upto_region 3 with (refine wpList_store_row rfl 50 _ _ rfl w2.heap.size #[.int .i64 (fm op), .int .i64 l, .bool p, .slice xi ni ci, .slice xo no co] rfl rfl 50 #[.int .i64 0, .int .i64 0, .bool false, .slice none 0 0, .slice none 0 0] (heap_alloc_new w2 _) infoIf rfl (by kernel_rfl) ?_)
 have hw := HS2.out.size
 have hi3 := setRow_block (c := #[.int .i64 (fm op), .int .i64 l, .bool p, .slice xi ni ci, .slice xo no co]) (heap_alloc_new w2 (.cells #[.int .i64 0, .int .i64 0, .bool false, .slice none 0 0, .slice none 0 0] 50))
 have hrw := Sep.setRow (ex := fun b => b = w2.heap.size) (w2.alloc (.cells #[.int .i64 0, .int .i64 0, .bool false, .slice none 0 0, .slice none 0 0] 50)) rfl #[.int .i64 (fm op), .int .i64 l, .bool p, .slice xi ni ci, .slice xo no co]
 have hal : Sep (One g) w (w2.alloc (.cells #[.int .i64 0, .int .i64 0, .bool false, .slice none 0 0, .slice none 0 0] 50)) := Sep.trans HS2.out (Sep.of_gr ((Gr.refl w2).alloc _ _))
 have HS3 := Lib.hid (sep_new hal hrw (fun b hb e => by have e' : b = w2.heap.size := e; omega))
 have hr3 := rs_sep (rs_sep (ex := fun _ => False) HR2.out (Sep.of_gr ((Gr.refl w2).alloc #[.int .i64 0, .int .i64 0, .bool false, .slice none 0 0, .slice none 0 0] 50)) id) hrw (show ¬ g = w2.heap.size by have := HLT.out; omega)
 have HR3 := Lib.hid hr3
 have hZ : w.heap.size < w2.heap.size := (Array.getElem?_eq_some_iff.1 HZ2.out).1
 have HZ3 := Lib.hid (hrw.at_ (show ¬ w.heap.size = w2.heap.size by omega) (gr_block ((Gr.refl w2).alloc #[.int .i64 0, .int .i64 0, .bool false, .slice none 0 0, .slice none 0 0] 50) HZ2.out))
 have HI3 := Lib.hid hi3
 have HB3 := Lib.hid hZ
 obtain ⟨_, _, a2, _, _⟩ := cells5 hr3
 dsimp only at a2
 clear hw hrw hal hr3 hZ hi3
 generalize (w2.alloc (.cells #[.int .i64 0, .int .i64 0, .bool false, .slice none 0 0, .slice none 0 0] 50)).setRow w2.heap.size #[.int .i64 (fm op), .int .i64 l, .bool p, .slice xi ni ci, .slice xo no co] = w3 at *
 generalize w2.heap.size = b3 at *
 have HFL := Lib.hid (show Calls Try.prog 28 #[.int .i64 op] w3 fun e w' => e = .returned (.bool false) ∧ w3 = w' from hfl ▸ HFL0.out w3)
 have HOK := Lib.hid (show Ok len ⟨sa, 10⟩ from ⟨HOK1.out.lo, HOK1.out.hi⟩)
 have n5 : (fm op != 0) = false := by rw [HFM.out]; rfl
 go_wp2_with fail
 refine HFL.out.mono ?_
 rintro e w4 ⟨rfl, rfl⟩
 go_wp2_with fail
 refine (fail_any HR3.out 10).mono ?_
 rintro e w4 ⟨rfl, h1, h2⟩
 have HR4 := Lib.hid (show RS w4 g sv ⟨sa, 10⟩ ov cl from h1)
 have HI4 := Lib.hid (h2.at_ (show ¬ One g b3 from fun e => by have e' : b3 = g := e; have := HLT.out; have := HB3.out; omega) HI3.out)
 have HZ4 := Lib.hid (h2.at_ (show ¬ One g w.heap.size from fun e => by have e' : w.heap.size = g := e; have := HLT.out; omega) HZ3.out)
 have HS4 := Lib.hid (Sep.trans HS3.out h2)
 clear h1 h2
 go_upto_region 10 with (refine wpList_store_row rfl 38 _ _ rfl w4.heap.size (inV (nul op) (.slice none 0 0)) rfl rfl 38 #[.int .i64 0, .int .i64 0, .int .i64 0, .int .u64 0, .int .u64 0, .slice none 0 0] (heap_alloc_new w4 _) infoIn rfl (by kernel_rfl) ?_)
 have hal : Gr w4 (w4.alloc (.cells #[.int .i64 0, .int .i64 0, .int .i64 0, .int .u64 0, .int .u64 0, .slice none 0 0] 38)) := (Gr.refl w4).alloc _ _
 have hrw := Sep.setRow (ex := fun b => b = w4.heap.size) (w4.alloc (.cells #[.int .i64 0, .int .i64 0, .int .i64 0, .int .u64 0, .int .u64 0, .slice none 0 0] 38)) rfl (inV (nul op) (.slice none 0 0))
 have hi := setRow_block (c := (inV (nul op) (.slice none 0 0))) (heap_alloc_new w4 (.cells #[.int .i64 0, .int .i64 0, .int .i64 0, .int .u64 0, .int .u64 0, .slice none 0 0] 38))
 have hzl : w.heap.size < w4.heap.size := (Array.getElem?_eq_some_iff.1 HZ4.out).1
 have hbl : b3 < w4.heap.size := (Array.getElem?_eq_some_iff.1 HI4.out).1
 have HR8 := Lib.hid (rs_sep (rs_sep (ex := fun _ => False) HR4.out (Sep.of_gr hal) id) hrw (show ¬ g = w4.heap.size by have := HLT.out; omega))
 have HZ8 := Lib.hid (hrw.at_ (show ¬ w.heap.size = w4.heap.size by omega) (gr_block hal HZ4.out))
 have hi8 := hrw.at_ (show ¬ b3 = w4.heap.size by omega) (gr_block hal HI4.out)
 have HI8 := Lib.hid hi8
 have HS8 := Lib.hid (sep_join (Sep.trans HS4.out (Sep.of_gr hal)) hrw (fun b hb e => by have e' : b = w4.heap.size := e; omega))
 have HE8 := Lib.hid (show IB _ w4.heap.size (inV (nul op) (.slice none 0 0)) from hi)
 have HLi := Lib.hid hzl
 have HLb := Lib.hid hbl
 obtain ⟨f0, _, _, _, _⟩ := cells5 hi8
 clear hal hrw hi hzl hbl hi8 a2
 generalize (w4.alloc (.cells #[.int .i64 0, .int .i64 0, .int .i64 0, .int .u64 0, .int .u64 0, .slice none 0 0] 38)).setRow w4.heap.size (inV (nul op) (.slice none 0 0)) = w8 at *
 generalize w4.heap.size = i at *
 have HFD := Lib.hid (fields_any hf HR8.out HE8.out (show i ≠ g by have := HLT.out; have := HLi.out; omega) ⟨bys_one HB.out HS8.out, fun k hk e => by have := HSV.out k hk; have := HLi.out; omega⟩ HOK.out (fun k hk => Nat.lt_of_lt_of_le (HSV.out k hk) HS8.out.size) (fm op))
 rw [hr] at HFD
 go_wp2_with fail
 refine HFD.out.mono ?_
 rintro e w9 ⟨Lv, rfl, h1, h2, h3, h4⟩
 have HR9 := Lib.hid h1
 have HE9 := Lib.hid h2
 have HL9 := Lib.hid h3
 have hi9 := h4.at_ (show ¬ Pr g i b3 from fun e => by have e' : b3 = g ∨ b3 = i := e; have := HLT.out; have := HB3.out; have := HLb.out; omega) HI8.out
 have HZ9 := Lib.hid (h4.at_ (show ¬ Pr g i w.heap.size from fun e => by have e' : w.heap.size = g ∨ w.heap.size = i := e; have := HLT.out; have := HLi.out; omega) HZ8.out)
 have HS9 := Lib.hid (sep_join HS8.out h4 (fun b hb e => by have e' : b = g ∨ b = i := e; have := HLi.out; exact e'.elim id (fun e => by omega)))
 have HW8 := Lib.hid (show w.heap.size < w8.heap.size from (Array.getElem?_eq_some_iff.1 HZ8.out).1)
 have hiL : i < w8.heap.size := (Array.getElem?_eq_some_iff.1 HE8.out).1
 have HIL := Lib.hid hiL
 have HSZ := Lib.hid h4.size
 obtain ⟨xL, cL, rfl⟩ := own_slice h3
 obtain ⟨f0', _, _, _, _⟩ := cells5 hi9
 obtain ⟨_, _, e2, _, _⟩ := cells5 h1
 clear h1 h2 h3 h4 hi9 f0 hiL
 have n9 : (s2.e == 0) = false := by simpa using he2
 go_wp2_with fail
 go_quiet (fail)
 go_wp2_with (first | (refine wpList_load_row rfl 38 _ rfl i rfl 38 (inV d (.slice xL d.l.length cL)) (0, 0) _ HE9.out Try.underlying38 rfl infoIn ?_) | (refine wpList_store_row rfl 38 _ _ rfl w.heap.size (inV d (.slice xL d.l.length cL)) rfl rfl 38 #[.int .i64 0, .int .i64 0, .int .i64 0, .int .u64 0, .int .u64 0, .slice none 0 0] HZ9.out infoIn rfl (inV_one _ _ _ _) ?_))
 exact bodyPost_ret (v := .agg (inV d (.slice xL d.l.length cL))) (results_cell_row Try.results15 _ _ w.heap.size 38 _ (0, 0) _ rfl (setRow_block (c := inV d (.slice xL d.l.length cL)) HZ9.out) Try.underlying38 rfl infoIn) rfl
  (ins_end HLT.out HN.out (rs_drew HR9.out nq) (ns_one HN.out (HS9.out.drewN nq)) HL9.out HW8.out (fun k hk => .inl hk) (fun k hk h => by have := HL9.out.lt k hk; have := HN.out.lt k h; have := HW8.out; omega) ((HS9.out.drewN nq).mono fun k hk => .inl hk) _)
set_option maxRecDepth 100000 in
set_option maxHeartbeats 16000000 in
theorem ins_known {w : World} {g : Nat} {sv ov : Value} {s : St} {cl : Bool} {len : Nat} {f : Nat → Int} {N : List Int} (hf : By f) (hm : Ins.Mx w) (hg : 0 < g) (h : RS w g sv s ov cl) (hn : NS w g ov N) (hb : Bys w g sv len f) (hok : Ok len s) (hsv : ∀ k, sv.ownBlock = some k → k < w.heap.size) (hN : N.length ≤ 100000) (sa : Int) (op : Int) (ho : opcS f len s = (op, ⟨sa, 0⟩)) (hfl : Ins.floatB op = false) (hfm : fm op ≠ 0) (d : In) (s2 : St) (hr : fldS f len (fm op) op ⟨sa, 0⟩ = (d, s2)) (R : In × St × List Int × Bool)
  (hR : (s2.e ≠ 0 ∧ R = (d, s2, N, cl)) ∨ (s2.e = 0 ∧ fm op = 2 ∧ ((N.length : Int) == 128) = true ∧ R = (d, failS s2 3, N, cl)) ∨ (∃ (N1 : List Int) (cl1 : Bool), s2.e = 0 ∧ fm op = 2 ∧ ((N.length : Int) == 128) = false ∧ stepN op (fm op) N cl = (true, N1, cl1) ∧ R = (d, s2, N1, cl1)) ∨ (∃ (N1 : List Int) (cl1 : Bool), s2.e = 0 ∧ fm op = 2 ∧ ((N.length : Int) == 128) = false ∧ stepN op (fm op) N cl = (false, N1, cl1) ∧ R = (d, failS s2 10, N1, cl1)) ∨ (∃ (N1 : List Int) (cl1 : Bool), s2.e = 0 ∧ fm op ≠ 2 ∧ stepN op (fm op) N cl = (true, N1, cl1) ∧ R = (d, s2, N1, cl1)) ∨ (∃ (N1 : List Int) (cl1 : Bool), s2.e = 0 ∧ fm op ≠ 2 ∧ stepN op (fm op) N cl = (false, N1, cl1) ∧ R = (d, failS s2 10, N1, cl1))) :
  Calls Try.prog 15 #[.pointer (some ⟨g, 0, none⟩)] w (INS w g sv ov R) := by
 have hs0 : Sep (One g) w (w.alloc (.cells #[.int .i64 0, .int .i64 0, .int .i64 0, .int .u64 0, .int .u64 0, .slice none 0 0] 38)) := Sep.of_gr ((Gr.refl w).alloc _ _)
 have HO := Lib.hid (opcode_any hf (rs_sep (ex := fun _ => False) h (Sep.of_gr ((Gr.refl w).alloc #[.int .i64 0, .int .i64 0, .int .i64 0, .int .u64 0, .int .u64 0, .slice none 0 0] 38)) id) (bys_one hb hs0) hok)
 have HF := Lib.hid (fun op (hop : op ≤ 9223372036854775807) wx hmx => of_fm op hop wx hmx)
 have HMX := Lib.hid (mx_sep hm hs0 (show ¬ One g 0 from fun e => by have e' : 0 = g := e; omega))
 have HN := Lib.hid hn
 have HB := Lib.hid hb
 have HSV := Lib.hid hsv
 have HNL := Lib.hid hN
 have HS0 := Lib.hid hs0
 have hbd := opcS_bd hf (len := len) s
 have hok1 := opcS_ok (f := f) hok
 have HLT := Lib.hid (rs_lt h)
 have HGP := Lib.hid hg
 rw [ho] at HO hbd hok1
 dsimp only at hbd hok1
 have HRR := Lib.hid hR
 clear hR
 have HF1 := Lib.hid (HF.out op (by omega))
 have HFL0 := Lib.hid (fun wx => Ins.float_any op (by omega) wx)
 have HOK1 := Lib.hid hok1
 clear h hn hb hok hsv hN hm hg hs0 hbd HF hok1
 go_enter Try.func15, Try.ntmps15
 go_wp2_with fail
 refine HO.out.mono ?_
 rintro e w1 ⟨rfl, h1, h2⟩
 have HR1 := Lib.hid h1
 have HS1 := Lib.hid (Sep.trans HS0.out h2)
 have HMX1 := Lib.hid (mx_sep HMX.out h2 (show ¬ One g 0 from fun e => by have e' : 0 = g := e; have := HGP.out; omega))
 have HZ1 := Lib.hid (h2.at_ (show ¬ One g w.heap.size from fun e => by have e' : w.heap.size = g := e; have := HLT.out; omega) (heap_alloc_new w (.cells #[.int .i64 0, .int .i64 0, .int .i64 0, .int .u64 0, .int .u64 0, .slice none 0 0] 38)))
 clear h1 h2
 go_wp2_with fail
 refine (HF1.out w1 HMX1.out).mono ?_
 rintro e w2 ⟨l, p, xi, ni, ci, xo, no, co, rfl, hg2⟩
 have HR2 := Lib.hid (rs_sep (ex := fun _ => False) HR1.out (Sep.of_gr hg2) id)
 have HS2 := Lib.hid (Sep.trans HS1.out (Sep.of_gr hg2))
 have HZ2 := Lib.hid (gr_block hg2 HZ1.out)
 clear hg2
 go_upto_region 3 with (refine wpList_store_row rfl 50 _ _ rfl w2.heap.size #[.int .i64 (fm op), .int .i64 l, .bool p, .slice xi ni ci, .slice xo no co] rfl rfl 50 #[.int .i64 0, .int .i64 0, .bool false, .slice none 0 0, .slice none 0 0] (heap_alloc_new w2 _) infoIf rfl (by kernel_rfl) ?_)
 have hw := HS2.out.size
 have hi3 := setRow_block (c := #[.int .i64 (fm op), .int .i64 l, .bool p, .slice xi ni ci, .slice xo no co]) (heap_alloc_new w2 (.cells #[.int .i64 0, .int .i64 0, .bool false, .slice none 0 0, .slice none 0 0] 50))
 have hrw := Sep.setRow (ex := fun b => b = w2.heap.size) (w2.alloc (.cells #[.int .i64 0, .int .i64 0, .bool false, .slice none 0 0, .slice none 0 0] 50)) rfl #[.int .i64 (fm op), .int .i64 l, .bool p, .slice xi ni ci, .slice xo no co]
 have hal : Sep (One g) w (w2.alloc (.cells #[.int .i64 0, .int .i64 0, .bool false, .slice none 0 0, .slice none 0 0] 50)) := Sep.trans HS2.out (Sep.of_gr ((Gr.refl w2).alloc _ _))
 have HS3 := Lib.hid (sep_new hal hrw (fun b hb e => by have e' : b = w2.heap.size := e; omega))
 have hr3 := rs_sep (rs_sep (ex := fun _ => False) HR2.out (Sep.of_gr ((Gr.refl w2).alloc #[.int .i64 0, .int .i64 0, .bool false, .slice none 0 0, .slice none 0 0] 50)) id) hrw (show ¬ g = w2.heap.size by have := HLT.out; omega)
 have HR3 := Lib.hid hr3
 have hZ : w.heap.size < w2.heap.size := (Array.getElem?_eq_some_iff.1 HZ2.out).1
 have HZ3 := Lib.hid (hrw.at_ (show ¬ w.heap.size = w2.heap.size by omega) (gr_block ((Gr.refl w2).alloc #[.int .i64 0, .int .i64 0, .bool false, .slice none 0 0, .slice none 0 0] 50) HZ2.out))
 have HI3 := Lib.hid hi3
 have HB3 := Lib.hid hZ
 obtain ⟨_, _, a2, _, _⟩ := cells5 hr3
 dsimp only at a2
 clear hw hrw hal hr3 hZ hi3
 generalize (w2.alloc (.cells #[.int .i64 0, .int .i64 0, .bool false, .slice none 0 0, .slice none 0 0] 50)).setRow w2.heap.size #[.int .i64 (fm op), .int .i64 l, .bool p, .slice xi ni ci, .slice xo no co] = w3 at *
 generalize w2.heap.size = b3 at *
 have HFL := Lib.hid (show Calls Try.prog 28 #[.int .i64 op] w3 fun e w' => e = .returned (.bool false) ∧ w3 = w' from hfl ▸ HFL0.out w3)
 have HOK := Lib.hid (show Ok len ⟨sa, 0⟩ from ⟨HOK1.out.lo, HOK1.out.hi⟩)
 have n5 : (fm op != 0) = true := by simpa using hfm
 go_wp2_with fail
 refine HFL.out.mono ?_
 rintro e w4 ⟨rfl, rfl⟩
 go_upto_region 10 with (refine wpList_store_row rfl 38 _ _ rfl w3.heap.size (inV (nul op) (.slice none 0 0)) rfl rfl 38 #[.int .i64 0, .int .i64 0, .int .i64 0, .int .u64 0, .int .u64 0, .slice none 0 0] (heap_alloc_new w3 _) infoIn rfl (by kernel_rfl) ?_)
 have hal : Gr w3 (w3.alloc (.cells #[.int .i64 0, .int .i64 0, .int .i64 0, .int .u64 0, .int .u64 0, .slice none 0 0] 38)) := (Gr.refl w3).alloc _ _
 have hrw := Sep.setRow (ex := fun b => b = w3.heap.size) (w3.alloc (.cells #[.int .i64 0, .int .i64 0, .int .i64 0, .int .u64 0, .int .u64 0, .slice none 0 0] 38)) rfl (inV (nul op) (.slice none 0 0))
 have hi := setRow_block (c := (inV (nul op) (.slice none 0 0))) (heap_alloc_new w3 (.cells #[.int .i64 0, .int .i64 0, .int .i64 0, .int .u64 0, .int .u64 0, .slice none 0 0] 38))
 have hzl : w.heap.size < w3.heap.size := (Array.getElem?_eq_some_iff.1 HZ3.out).1
 have hbl : b3 < w3.heap.size := (Array.getElem?_eq_some_iff.1 HI3.out).1
 have HR8 := Lib.hid (rs_sep (rs_sep (ex := fun _ => False) HR3.out (Sep.of_gr hal) id) hrw (show ¬ g = w3.heap.size by have := HLT.out; omega))
 have HZ8 := Lib.hid (hrw.at_ (show ¬ w.heap.size = w3.heap.size by omega) (gr_block hal HZ3.out))
 have hi8 := hrw.at_ (show ¬ b3 = w3.heap.size by omega) (gr_block hal HI3.out)
 have HI8 := Lib.hid hi8
 have HS8 := Lib.hid (sep_join (Sep.trans HS3.out (Sep.of_gr hal)) hrw (fun b hb e => by have e' : b = w3.heap.size := e; omega))
 have HE8 := Lib.hid (show IB _ w3.heap.size (inV (nul op) (.slice none 0 0)) from hi)
 have HLi := Lib.hid hzl
 have HLb := Lib.hid hbl
 obtain ⟨f0, _, _, _, _⟩ := cells5 hi8
 clear hal hrw hi hzl hbl hi8 a2
 generalize (w3.alloc (.cells #[.int .i64 0, .int .i64 0, .int .i64 0, .int .u64 0, .int .u64 0, .slice none 0 0] 38)).setRow w3.heap.size (inV (nul op) (.slice none 0 0)) = w8 at *
 generalize w3.heap.size = i at *
 have HFD := Lib.hid (fields_any hf HR8.out HE8.out (show i ≠ g by have := HLT.out; have := HLi.out; omega) ⟨bys_one HB.out HS8.out, fun k hk e => by have := HSV.out k hk; have := HLi.out; omega⟩ HOK.out (fun k hk => Nat.lt_of_lt_of_le (HSV.out k hk) HS8.out.size) (fm op))
 rw [hr] at HFD
 go_wp2_with fail
 refine HFD.out.mono ?_
 rintro e w9 ⟨Lv, rfl, h1, h2, h3, h4⟩
 have HR9 := Lib.hid h1
 have HE9 := Lib.hid h2
 have HL9 := Lib.hid h3
 have hi9 := h4.at_ (show ¬ Pr g i b3 from fun e => by have e' : b3 = g ∨ b3 = i := e; have := HLT.out; have := HB3.out; have := HLb.out; omega) HI8.out
 have HZ9 := Lib.hid (h4.at_ (show ¬ Pr g i w.heap.size from fun e => by have e' : w.heap.size = g ∨ w.heap.size = i := e; have := HLT.out; have := HLi.out; omega) HZ8.out)
 have HS9 := Lib.hid (sep_join HS8.out h4 (fun b hb e => by have e' : b = g ∨ b = i := e; have := HLi.out; exact e'.elim id (fun e => by omega)))
 have HW8 := Lib.hid (show w.heap.size < w8.heap.size from (Array.getElem?_eq_some_iff.1 HZ8.out).1)
 have hiL : i < w8.heap.size := (Array.getElem?_eq_some_iff.1 HE8.out).1
 have HIL := Lib.hid hiL
 have HSZ := Lib.hid h4.size
 obtain ⟨xL, cL, rfl⟩ := own_slice h3
 obtain ⟨f0', _, _, _, _⟩ := cells5 hi9
 obtain ⟨_, _, e2, _, _⟩ := cells5 h1
 clear h1 h2 h3 h4 hi9 f0 hiL
 rcases HRR.out with ⟨he2, rfl⟩ | ⟨he2, hf2, hful, rfl⟩ | ⟨N1, cl1, he2, hf2, hful, hst, rfl⟩ | ⟨N1, cl1, he2, hf2, hful, hst, rfl⟩ | ⟨N1, cl1, he2, hf2, hst, rfl⟩ | ⟨N1, cl1, he2, hf2, hst, rfl⟩
 ·clear HRR
  as_aux_lemma =>
   have n9 : (s2.e == 0) = false := by simpa using he2
   go_wp2_with fail
   go_quiet (fail)
   go_wp2_with (first | (refine wpList_load_row rfl 38 _ rfl i rfl 38 (inV d (.slice xL d.l.length cL)) (0, 0) _ HE9.out Try.underlying38 rfl infoIn ?_) | (refine wpList_store_row rfl 38 _ _ rfl w.heap.size (inV d (.slice xL d.l.length cL)) rfl rfl 38 #[.int .i64 0, .int .i64 0, .int .i64 0, .int .u64 0, .int .u64 0, .slice none 0 0] HZ9.out infoIn rfl (inV_one _ _ _ _) ?_))
   exact bodyPost_ret (v := .agg (inV d (.slice xL d.l.length cL))) (results_cell_row Try.results15 _ _ w.heap.size 38 _ (0, 0) _ rfl (setRow_block (c := inV d (.slice xL d.l.length cL)) HZ9.out) Try.underlying38 rfl infoIn) rfl
    (ins_end HLT.out HN.out (rs_drew HR9.out nq) (ns_one HN.out (HS9.out.drewN nq)) HL9.out HW8.out (fun k hk => .inl hk) (fun k hk h => by have := HL9.out.lt k hk; have := HN.out.lt k h; have := HW8.out; omega) ((HS9.out.drewN nq).mono fun k hk => .inl hk) _)
 ·clear HRR
  as_aux_lemma =>
   have HF2 := Lib.hid hf2
   clear hf2
   rw [he2] at e2
   rw [HF2.out] at f0'
   have HFU := Lib.hid (show Calls Try.prog 22 #[.pointer (some ⟨g, 3, none⟩)] w9 fun e w' => e = .returned (.bool true) ∧ w9 = w' from hful ▸ full_any HR9.out (ns_one HN.out HS9.out))
   go_wp2_with fail
   refine HFU.out.mono ?_
   rintro e wx ⟨rfl, rfl⟩
   go_wp2_with fail
   refine (fail_any HR9.out 3).mono ?_
   rintro e wA ⟨rfl, h1, h2⟩
   have hz := h2.at_ (show ¬ One g w.heap.size from fun e => by have e' : w.heap.size = g := e; have := HLT.out; omega) HZ9.out
   have he := h2.at_ (show ¬ One g i from fun e => by have e' : i = g := e; have := HLT.out; have := HLi.out; omega) HE9.out
   have HLA := Lib.hid (h2.owns HL9.out (fun k hk e => by have e' : k = g := e; have := HL9.out.lt k hk; have := HLT.out; have := HW8.out; omega))
   have HSA := Lib.hid (Sep.trans HS9.out h2)
   have HRA := Lib.hid h1
   have HZA := Lib.hid hz
   have HEA := Lib.hid he
   have e3 : (failS s2 3).e = 3 := by unfold failS; rw [if_pos he2]
   obtain ⟨_, _, e2, _, _⟩ := cells5 h1
   rw [e3] at e2
   clear h1 h2 hz he
   go_wp2_with fail
   go_quiet (fail)
   go_wp2_with (first | (refine wpList_load_row rfl 38 _ rfl i rfl 38 (inV d (.slice xL d.l.length cL)) (0, 0) _ HEA.out Try.underlying38 rfl infoIn ?_) | (refine wpList_store_row rfl 38 _ _ rfl w.heap.size (inV d (.slice xL d.l.length cL)) rfl rfl 38 #[.int .i64 0, .int .i64 0, .int .i64 0, .int .u64 0, .int .u64 0, .slice none 0 0] HZA.out infoIn rfl (inV_one _ _ _ _) ?_))
   exact bodyPost_ret (v := .agg (inV d (.slice xL d.l.length cL))) (results_cell_row Try.results15 _ _ w.heap.size 38 _ (0, 0) _ rfl (setRow_block (c := inV d (.slice xL d.l.length cL)) HZA.out) Try.underlying38 rfl infoIn) rfl
    (ins_end HLT.out HN.out (rs_drew HRA.out nq) (ns_one HN.out (HSA.out.drewN nq)) HLA.out HW8.out (fun k hk => .inl hk) (fun k hk h => by have := HL9.out.lt k hk; have := HN.out.lt k h; have := HW8.out; omega) ((HSA.out.drewN nq).mono fun k hk => .inl hk) _)
 ·clear HRR
  as_aux_lemma =>
   have HF2 := Lib.hid hf2
   clear hf2
   rw [he2] at e2
   have HW98 := Lib.hid (show w8.heap.size ≤ w9.heap.size from HSZ.out)
   have hff := f0'
   rw [HF2.out] at hff
   clear f0'
   have f0' := hff
   clear hff
   rw [HF2.out] at hst
   have HFU := Lib.hid (show Calls Try.prog 22 #[.pointer (some ⟨g, 3, none⟩)] w9 fun e w' => e = .returned (.bool false) ∧ w9 = w' from hful ▸ full_any HR9.out (ns_one HN.out HS9.out))
   go_wp2_with fail
   refine HFU.out.mono ?_
   rintro e wx ⟨rfl, rfl⟩
   go_wp2_with fail
   refine wp_region_steady_tail 12 (by kernel_rfl) (by kernel_rfl) ?_
   refine steady_step (fun K hK => ?_); apply steady_op rfl; (focus (intro wx hw; go_simp; exact ⟨rfl, hw⟩)); go_simp; refine hK _ ?_; clear hK K
   refine steady_step (fun K hK => ?_); apply steady_op rfl; (focus (intro wx hw; go_simp; exact ⟨rfl, hw⟩)); go_simp; refine hK _ ?_; clear hK K
   refine steady_step (fun K hK => ?_); apply steady_op rfl; (focus (intro wx hw; go_simp; exact ⟨rfl, hw⟩)); go_simp; refine hK _ ?_; clear hK K
   refine steady_step (fun K hK => ?_); apply steady_op rfl; (focus (intro wx hw; have hcx := gr_cell (gr_trans (Gr.drew (Gr.refl _)) hw) e2; go_simp; exact ⟨rfl, hw⟩)); go_simp; refine hK _ ?_; clear hK K
   refine steady_step (fun K hK => ?_); apply steady_op rfl; (focus (intro wx hw; go_simp; exact ⟨rfl, hw⟩)); go_simp; refine hK _ ?_; clear hK K
   refine steady_step (fun K hK => ?_); apply steady_op rfl; (focus (intro wx hw; go_simp; exact ⟨rfl, hw⟩)); go_simp; refine hK _ ?_; clear hK K
   refine steady_step (fun K hK => ?_); apply steady_yes (by kernel_rfl); (focus (intro wx hw; go_simp; exact ⟨rfl, hw⟩)); go_simp; refine hK _ ?_; clear hK K
   refine steady_step (fun K hK => ?_); apply steady_yes (by kernel_rfl); (focus (intro wx hw; go_simp; exact ⟨rfl, hw⟩)); go_simp; refine hK _ ?_; clear hK K
   refine steady_step (fun K hK => ?_); apply steady_yes (by kernel_rfl); (focus (intro wx hw; go_simp; exact ⟨rfl, hw⟩)); go_simp; refine hK _ ?_; clear hK K
   refine steady_step (fun K hK => ?_); apply steady_yes (by kernel_rfl); (focus (intro wx hw; go_simp; exact ⟨rfl, hw⟩)); go_simp; refine hK _ ?_; clear hK K
   refine steady_step (fun K hK => ?_); apply steady_yes (by kernel_rfl); (focus (intro wx hw; go_simp; exact ⟨rfl, hw⟩)); go_simp; refine hK _ ?_; clear hK K
   refine steady_step (fun K hK => ?_); apply steady_yes (by kernel_rfl); (focus (intro wx hw; have hcx := gr_cell (gr_trans (Gr.drew (Gr.refl _)) hw) f0'; go_simp; exact ⟨rfl, hw⟩)); go_simp; refine hK _ ?_; clear hK K
   refine steady_nil ?_
   intro wB hgB
   have hgB2 := gr_trans (Gr.drew (Gr.refl w9)) hgB
   have HRB := Lib.hid (rs_sep (ex := fun _ => False) HR9.out (Sep.of_gr hgB2) id)
   have HSB := Lib.hid (Sep.trans HS9.out (Sep.of_gr hgB2))
   have HZB := Lib.hid (gr_block hgB2 HZ9.out)
   have HEB := Lib.hid (show IB wB i _ from gr_block hgB2 HE9.out)
   have HLB := Lib.hid (own_gr HL9.out hgB2)
   have HNB := Lib.hid (ns_one HN.out HSB.out)
   have HST := Lib.hid (step_any HRB.out HNB.out op 2 HNL.out)
   rw [hst] at HST
   have HW9 := Lib.hid (show w8.heap.size ≤ wB.heap.size from Nat.le_trans HW98.out hgB2.size)
   clear hgB hgB2 e2 f0'
   go_wp2_with fail
   refine HST.out.mono ?_
   rintro e wC ⟨ov', rfl, h1, h2, h3, h4⟩
   have HRC := Lib.hid h1
   have HNC := Lib.hid h2
   have HKC := Lib.hid (show ∀ k, ov'.ownBlock = some k → ov.ownBlock = some k ∨ w.heap.size < k from fun k hk => (h3 k hk).imp id fun h => by have := HW8.out; have := HW9.out; omega)
   have HKD := Lib.hid (show ∀ k, (Value.slice xL d.l.length cL).ownBlock = some k → ov'.ownBlock ≠ some k from fun k hk h => by
    rcases h3 k h with h | h
    ·have := HL9.out.lt k hk; have := HN.out.lt k h; have := HW8.out; omega
    ·have := HLB.out.lt k hk; omega)
   have hnx : ∀ k, w.heap.size ≤ k → ¬ Two g ov k := fun k hk e => by
    have e' : k = g ∨ ov.ownBlock = some k := e
    rcases e' with e' | e'
    ·have := HLT.out; omega
    ·have := HN.out.lt k e'; omega
   have HZC := Lib.hid (h4.at_ (hnx _ (Nat.le_refl _)) HZB.out)
   have HEC := Lib.hid (show IB wC i _ from h4.at_ (hnx _ (Nat.le_of_lt HLi.out)) HEB.out)
   have HLC := Lib.hid (h4.owns HLB.out (fun k hk => hnx k (by have := HL9.out.lt k hk; have := HW8.out; omega)))
   have HSC := Lib.hid (Sep.trans (HSB.out.mono fun k hk => (.inl hk : Two g ov k)) h4)
   clear h1 h2 h3 h4 hnx
   go_wp2_with (first | (refine wpList_load_row rfl 38 _ rfl i rfl 38 (inV d (.slice xL d.l.length cL)) (0, 0) _ HEC.out Try.underlying38 rfl infoIn ?_) | (refine wpList_store_row rfl 38 _ _ rfl w.heap.size (inV d (.slice xL d.l.length cL)) rfl rfl 38 #[.int .i64 0, .int .i64 0, .int .i64 0, .int .u64 0, .int .u64 0, .slice none 0 0] HZC.out infoIn rfl (inV_one _ _ _ _) ?_))
   exact bodyPost_ret (v := .agg (inV d (.slice xL d.l.length cL))) (results_cell_row Try.results15 _ _ w.heap.size 38 _ (0, 0) _ rfl (setRow_block (c := inV d (.slice xL d.l.length cL)) HZC.out) Try.underlying38 rfl infoIn) rfl
    (ins_end HLT.out HN.out HRC.out HNC.out HLC.out HW8.out HKC.out HKD.out HSC.out _)
 ·clear HRR
  as_aux_lemma =>
   have HF2 := Lib.hid hf2
   clear hf2
   rw [he2] at e2
   have HW98 := Lib.hid (show w8.heap.size ≤ w9.heap.size from HSZ.out)
   have hff := f0'
   rw [HF2.out] at hff
   clear f0'
   have f0' := hff
   clear hff
   rw [HF2.out] at hst
   have HFU := Lib.hid (show Calls Try.prog 22 #[.pointer (some ⟨g, 3, none⟩)] w9 fun e w' => e = .returned (.bool false) ∧ w9 = w' from hful ▸ full_any HR9.out (ns_one HN.out HS9.out))
   go_wp2_with fail
   refine HFU.out.mono ?_
   rintro e wx ⟨rfl, rfl⟩
   go_wp2_with fail
   refine wp_region_steady_tail 12 (by kernel_rfl) (by kernel_rfl) ?_
   refine steady_step (fun K hK => ?_); apply steady_op rfl; (focus (intro wx hw; go_simp; exact ⟨rfl, hw⟩)); go_simp; refine hK _ ?_; clear hK K
   refine steady_step (fun K hK => ?_); apply steady_op rfl; (focus (intro wx hw; go_simp; exact ⟨rfl, hw⟩)); go_simp; refine hK _ ?_; clear hK K
   refine steady_step (fun K hK => ?_); apply steady_op rfl; (focus (intro wx hw; go_simp; exact ⟨rfl, hw⟩)); go_simp; refine hK _ ?_; clear hK K
   refine steady_step (fun K hK => ?_); apply steady_op rfl; (focus (intro wx hw; have hcx := gr_cell (gr_trans (Gr.drew (Gr.refl _)) hw) e2; go_simp; exact ⟨rfl, hw⟩)); go_simp; refine hK _ ?_; clear hK K
   refine steady_step (fun K hK => ?_); apply steady_op rfl; (focus (intro wx hw; go_simp; exact ⟨rfl, hw⟩)); go_simp; refine hK _ ?_; clear hK K
   refine steady_step (fun K hK => ?_); apply steady_op rfl; (focus (intro wx hw; go_simp; exact ⟨rfl, hw⟩)); go_simp; refine hK _ ?_; clear hK K
   refine steady_step (fun K hK => ?_); apply steady_yes (by kernel_rfl); (focus (intro wx hw; go_simp; exact ⟨rfl, hw⟩)); go_simp; refine hK _ ?_; clear hK K
   refine steady_step (fun K hK => ?_); apply steady_yes (by kernel_rfl); (focus (intro wx hw; go_simp; exact ⟨rfl, hw⟩)); go_simp; refine hK _ ?_; clear hK K
   refine steady_step (fun K hK => ?_); apply steady_yes (by kernel_rfl); (focus (intro wx hw; go_simp; exact ⟨rfl, hw⟩)); go_simp; refine hK _ ?_; clear hK K
   refine steady_step (fun K hK => ?_); apply steady_yes (by kernel_rfl); (focus (intro wx hw; go_simp; exact ⟨rfl, hw⟩)); go_simp; refine hK _ ?_; clear hK K
   refine steady_step (fun K hK => ?_); apply steady_yes (by kernel_rfl); (focus (intro wx hw; go_simp; exact ⟨rfl, hw⟩)); go_simp; refine hK _ ?_; clear hK K
   refine steady_step (fun K hK => ?_); apply steady_yes (by kernel_rfl); (focus (intro wx hw; have hcx := gr_cell (gr_trans (Gr.drew (Gr.refl _)) hw) f0'; go_simp; exact ⟨rfl, hw⟩)); go_simp; refine hK _ ?_; clear hK K
   refine steady_nil ?_
   intro wB hgB
   have hgB2 := gr_trans (Gr.drew (Gr.refl w9)) hgB
   have HRB := Lib.hid (rs_sep (ex := fun _ => False) HR9.out (Sep.of_gr hgB2) id)
   have HSB := Lib.hid (Sep.trans HS9.out (Sep.of_gr hgB2))
   have HZB := Lib.hid (gr_block hgB2 HZ9.out)
   have HEB := Lib.hid (show IB wB i _ from gr_block hgB2 HE9.out)
   have HLB := Lib.hid (own_gr HL9.out hgB2)
   have HNB := Lib.hid (ns_one HN.out HSB.out)
   have HST := Lib.hid (step_any HRB.out HNB.out op 2 HNL.out)
   rw [hst] at HST
   have HW9 := Lib.hid (show w8.heap.size ≤ wB.heap.size from Nat.le_trans HW98.out hgB2.size)
   clear hgB hgB2 e2 f0'
   go_wp2_with fail
   refine HST.out.mono ?_
   rintro e wC ⟨ov', rfl, h1, h2, h3, h4⟩
   have HRC := Lib.hid h1
   have HNC := Lib.hid h2
   have HKC := Lib.hid (show ∀ k, ov'.ownBlock = some k → ov.ownBlock = some k ∨ w.heap.size < k from fun k hk => (h3 k hk).imp id fun h => by have := HW8.out; have := HW9.out; omega)
   have HKD := Lib.hid (show ∀ k, (Value.slice xL d.l.length cL).ownBlock = some k → ov'.ownBlock ≠ some k from fun k hk h => by
    rcases h3 k h with h | h
    ·have := HL9.out.lt k hk; have := HN.out.lt k h; have := HW8.out; omega
    ·have := HLB.out.lt k hk; omega)
   have hnx : ∀ k, w.heap.size ≤ k → ¬ Two g ov k := fun k hk e => by
    have e' : k = g ∨ ov.ownBlock = some k := e
    rcases e' with e' | e'
    ·have := HLT.out; omega
    ·have := HN.out.lt k e'; omega
   have HZC := Lib.hid (h4.at_ (hnx _ (Nat.le_refl _)) HZB.out)
   have HEC := Lib.hid (show IB wC i _ from h4.at_ (hnx _ (Nat.le_of_lt HLi.out)) HEB.out)
   have HLC := Lib.hid (h4.owns HLB.out (fun k hk => hnx k (by have := HL9.out.lt k hk; have := HW8.out; omega)))
   have HSC := Lib.hid (Sep.trans (HSB.out.mono fun k hk => (.inl hk : Two g ov k)) h4)
   clear h1 h2 h3 h4 hnx
   go_wp2_with fail
   refine (fail_any HRC.out 10).mono ?_
   rintro e wD ⟨rfl, h1, h2⟩
   have HRD := Lib.hid h1
   have HND := Lib.hid (ns_one HNC.out h2)
   have HZD := Lib.hid (h2.at_ (show ¬ One g w.heap.size from fun e => by have e' : w.heap.size = g := e; have := HLT.out; omega) HZC.out)
   have HED := Lib.hid (show IB wD i _ from h2.at_ (show ¬ One g i from fun e => by have e' : i = g := e; have := HLT.out; have := HLi.out; omega) HEC.out)
   have HLD := Lib.hid (h2.owns HLC.out (fun k hk e => by have e' : k = g := e; have := HL9.out.lt k hk; have := HLT.out; have := HW8.out; omega))
   have HSD := Lib.hid (Sep.trans HSC.out (h2.mono fun k hk => (.inl hk : Two g ov k)))
   clear h1 h2
   go_wp2_with (first | (refine wpList_load_row rfl 38 _ rfl i rfl 38 (inV d (.slice xL d.l.length cL)) (0, 0) _ HED.out Try.underlying38 rfl infoIn ?_) | (refine wpList_store_row rfl 38 _ _ rfl w.heap.size (inV d (.slice xL d.l.length cL)) rfl rfl 38 #[.int .i64 0, .int .i64 0, .int .i64 0, .int .u64 0, .int .u64 0, .slice none 0 0] HZD.out infoIn rfl (inV_one _ _ _ _) ?_))
   exact bodyPost_ret (v := .agg (inV d (.slice xL d.l.length cL))) (results_cell_row Try.results15 _ _ w.heap.size 38 _ (0, 0) _ rfl (setRow_block (c := inV d (.slice xL d.l.length cL)) HZD.out) Try.underlying38 rfl infoIn) rfl
    (ins_end HLT.out HN.out HRD.out HND.out HLD.out HW8.out HKC.out HKD.out HSD.out _)
 ·clear HRR
  as_aux_lemma =>
   rw [he2] at e2
   have HW98 := Lib.hid (show w8.heap.size ≤ w9.heap.size from HSZ.out)
   have n2 : (fm op == 2) = false := by simpa using hf2
   go_wp2_with fail
   refine wp_region_steady_tail 12 (by kernel_rfl) (by kernel_rfl) ?_
   refine steady_step (fun K hK => ?_); apply steady_op rfl; (focus (intro wx hw; go_simp; exact ⟨rfl, hw⟩)); go_simp; refine hK _ ?_; clear hK K
   refine steady_step (fun K hK => ?_); apply steady_op rfl; (focus (intro wx hw; go_simp; exact ⟨rfl, hw⟩)); go_simp; refine hK _ ?_; clear hK K
   refine steady_step (fun K hK => ?_); apply steady_op rfl; (focus (intro wx hw; go_simp; exact ⟨rfl, hw⟩)); go_simp; refine hK _ ?_; clear hK K
   refine steady_step (fun K hK => ?_); apply steady_op rfl; (focus (intro wx hw; have hcx := gr_cell (gr_trans (Gr.drew (Gr.refl _)) hw) e2; go_simp; exact ⟨rfl, hw⟩)); go_simp; refine hK _ ?_; clear hK K
   refine steady_step (fun K hK => ?_); apply steady_op rfl; (focus (intro wx hw; go_simp; exact ⟨rfl, hw⟩)); go_simp; refine hK _ ?_; clear hK K
   refine steady_step (fun K hK => ?_); apply steady_op rfl; (focus (intro wx hw; go_simp; exact ⟨rfl, hw⟩)); go_simp; refine hK _ ?_; clear hK K
   refine steady_step (fun K hK => ?_); apply steady_yes (by kernel_rfl); (focus (intro wx hw; go_simp; exact ⟨rfl, hw⟩)); go_simp; refine hK _ ?_; clear hK K
   refine steady_step (fun K hK => ?_); apply steady_yes (by kernel_rfl); (focus (intro wx hw; go_simp; exact ⟨rfl, hw⟩)); go_simp; refine hK _ ?_; clear hK K
   refine steady_step (fun K hK => ?_); apply steady_yes (by kernel_rfl); (focus (intro wx hw; go_simp; exact ⟨rfl, hw⟩)); go_simp; refine hK _ ?_; clear hK K
   refine steady_step (fun K hK => ?_); apply steady_yes (by kernel_rfl); (focus (intro wx hw; go_simp; exact ⟨rfl, hw⟩)); go_simp; refine hK _ ?_; clear hK K
   refine steady_step (fun K hK => ?_); apply steady_yes (by kernel_rfl); (focus (intro wx hw; go_simp; exact ⟨rfl, hw⟩)); go_simp; refine hK _ ?_; clear hK K
   refine steady_step (fun K hK => ?_); apply steady_yes (by kernel_rfl); (focus (intro wx hw; have hcx := gr_cell (gr_trans (Gr.drew (Gr.refl _)) hw) f0'; go_simp; exact ⟨rfl, hw⟩)); go_simp; refine hK _ ?_; clear hK K
   refine steady_nil ?_
   intro wB hgB
   have hgB2 := gr_trans (Gr.drew (Gr.refl w9)) hgB
   have HRB := Lib.hid (rs_sep (ex := fun _ => False) HR9.out (Sep.of_gr hgB2) id)
   have HSB := Lib.hid (Sep.trans HS9.out (Sep.of_gr hgB2))
   have HZB := Lib.hid (gr_block hgB2 HZ9.out)
   have HEB := Lib.hid (show IB wB i _ from gr_block hgB2 HE9.out)
   have HLB := Lib.hid (own_gr HL9.out hgB2)
   have HNB := Lib.hid (ns_one HN.out HSB.out)
   have HST := Lib.hid (step_any HRB.out HNB.out op (fm op) HNL.out)
   rw [hst] at HST
   have HW9 := Lib.hid (show w8.heap.size ≤ wB.heap.size from Nat.le_trans HW98.out hgB2.size)
   clear hgB hgB2 e2 f0'
   go_wp2_with fail
   refine HST.out.mono ?_
   rintro e wC ⟨ov', rfl, h1, h2, h3, h4⟩
   have HRC := Lib.hid h1
   have HNC := Lib.hid h2
   have HKC := Lib.hid (show ∀ k, ov'.ownBlock = some k → ov.ownBlock = some k ∨ w.heap.size < k from fun k hk => (h3 k hk).imp id fun h => by have := HW8.out; have := HW9.out; omega)
   have HKD := Lib.hid (show ∀ k, (Value.slice xL d.l.length cL).ownBlock = some k → ov'.ownBlock ≠ some k from fun k hk h => by
    rcases h3 k h with h | h
    ·have := HL9.out.lt k hk; have := HN.out.lt k h; have := HW8.out; omega
    ·have := HLB.out.lt k hk; omega)
   have hnx : ∀ k, w.heap.size ≤ k → ¬ Two g ov k := fun k hk e => by
    have e' : k = g ∨ ov.ownBlock = some k := e
    rcases e' with e' | e'
    ·have := HLT.out; omega
    ·have := HN.out.lt k e'; omega
   have HZC := Lib.hid (h4.at_ (hnx _ (Nat.le_refl _)) HZB.out)
   have HEC := Lib.hid (show IB wC i _ from h4.at_ (hnx _ (Nat.le_of_lt HLi.out)) HEB.out)
   have HLC := Lib.hid (h4.owns HLB.out (fun k hk => hnx k (by have := HL9.out.lt k hk; have := HW8.out; omega)))
   have HSC := Lib.hid (Sep.trans (HSB.out.mono fun k hk => (.inl hk : Two g ov k)) h4)
   clear h1 h2 h3 h4 hnx
   go_wp2_with (first | (refine wpList_load_row rfl 38 _ rfl i rfl 38 (inV d (.slice xL d.l.length cL)) (0, 0) _ HEC.out Try.underlying38 rfl infoIn ?_) | (refine wpList_store_row rfl 38 _ _ rfl w.heap.size (inV d (.slice xL d.l.length cL)) rfl rfl 38 #[.int .i64 0, .int .i64 0, .int .i64 0, .int .u64 0, .int .u64 0, .slice none 0 0] HZC.out infoIn rfl (inV_one _ _ _ _) ?_))
   exact bodyPost_ret (v := .agg (inV d (.slice xL d.l.length cL))) (results_cell_row Try.results15 _ _ w.heap.size 38 _ (0, 0) _ rfl (setRow_block (c := inV d (.slice xL d.l.length cL)) HZC.out) Try.underlying38 rfl infoIn) rfl
    (ins_end HLT.out HN.out HRC.out HNC.out HLC.out HW8.out HKC.out HKD.out HSC.out _)
 ·clear HRR
  as_aux_lemma =>
   rw [he2] at e2
   have HW98 := Lib.hid (show w8.heap.size ≤ w9.heap.size from HSZ.out)
   have n2 : (fm op == 2) = false := by simpa using hf2
   go_wp2_with fail
   refine wp_region_steady_tail 12 (by kernel_rfl) (by kernel_rfl) ?_
   refine steady_step (fun K hK => ?_); apply steady_op rfl; (focus (intro wx hw; go_simp; exact ⟨rfl, hw⟩)); go_simp; refine hK _ ?_; clear hK K
   refine steady_step (fun K hK => ?_); apply steady_op rfl; (focus (intro wx hw; go_simp; exact ⟨rfl, hw⟩)); go_simp; refine hK _ ?_; clear hK K
   refine steady_step (fun K hK => ?_); apply steady_op rfl; (focus (intro wx hw; go_simp; exact ⟨rfl, hw⟩)); go_simp; refine hK _ ?_; clear hK K
   refine steady_step (fun K hK => ?_); apply steady_op rfl; (focus (intro wx hw; have hcx := gr_cell (gr_trans (Gr.drew (Gr.refl _)) hw) e2; go_simp; exact ⟨rfl, hw⟩)); go_simp; refine hK _ ?_; clear hK K
   refine steady_step (fun K hK => ?_); apply steady_op rfl; (focus (intro wx hw; go_simp; exact ⟨rfl, hw⟩)); go_simp; refine hK _ ?_; clear hK K
   refine steady_step (fun K hK => ?_); apply steady_op rfl; (focus (intro wx hw; go_simp; exact ⟨rfl, hw⟩)); go_simp; refine hK _ ?_; clear hK K
   refine steady_step (fun K hK => ?_); apply steady_yes (by kernel_rfl); (focus (intro wx hw; go_simp; exact ⟨rfl, hw⟩)); go_simp; refine hK _ ?_; clear hK K
   refine steady_step (fun K hK => ?_); apply steady_yes (by kernel_rfl); (focus (intro wx hw; go_simp; exact ⟨rfl, hw⟩)); go_simp; refine hK _ ?_; clear hK K
   refine steady_step (fun K hK => ?_); apply steady_yes (by kernel_rfl); (focus (intro wx hw; go_simp; exact ⟨rfl, hw⟩)); go_simp; refine hK _ ?_; clear hK K
   refine steady_step (fun K hK => ?_); apply steady_yes (by kernel_rfl); (focus (intro wx hw; go_simp; exact ⟨rfl, hw⟩)); go_simp; refine hK _ ?_; clear hK K
   refine steady_step (fun K hK => ?_); apply steady_yes (by kernel_rfl); (focus (intro wx hw; go_simp; exact ⟨rfl, hw⟩)); go_simp; refine hK _ ?_; clear hK K
   refine steady_step (fun K hK => ?_); apply steady_yes (by kernel_rfl); (focus (intro wx hw; have hcx := gr_cell (gr_trans (Gr.drew (Gr.refl _)) hw) f0'; go_simp; exact ⟨rfl, hw⟩)); go_simp; refine hK _ ?_; clear hK K
   refine steady_nil ?_
   intro wB hgB
   have hgB2 := gr_trans (Gr.drew (Gr.refl w9)) hgB
   have HRB := Lib.hid (rs_sep (ex := fun _ => False) HR9.out (Sep.of_gr hgB2) id)
   have HSB := Lib.hid (Sep.trans HS9.out (Sep.of_gr hgB2))
   have HZB := Lib.hid (gr_block hgB2 HZ9.out)
   have HEB := Lib.hid (show IB wB i _ from gr_block hgB2 HE9.out)
   have HLB := Lib.hid (own_gr HL9.out hgB2)
   have HNB := Lib.hid (ns_one HN.out HSB.out)
   have HST := Lib.hid (step_any HRB.out HNB.out op (fm op) HNL.out)
   rw [hst] at HST
   have HW9 := Lib.hid (show w8.heap.size ≤ wB.heap.size from Nat.le_trans HW98.out hgB2.size)
   clear hgB hgB2 e2 f0'
   go_wp2_with fail
   refine HST.out.mono ?_
   rintro e wC ⟨ov', rfl, h1, h2, h3, h4⟩
   have HRC := Lib.hid h1
   have HNC := Lib.hid h2
   have HKC := Lib.hid (show ∀ k, ov'.ownBlock = some k → ov.ownBlock = some k ∨ w.heap.size < k from fun k hk => (h3 k hk).imp id fun h => by have := HW8.out; have := HW9.out; omega)
   have HKD := Lib.hid (show ∀ k, (Value.slice xL d.l.length cL).ownBlock = some k → ov'.ownBlock ≠ some k from fun k hk h => by
    rcases h3 k h with h | h
    ·have := HL9.out.lt k hk; have := HN.out.lt k h; have := HW8.out; omega
    ·have := HLB.out.lt k hk; omega)
   have hnx : ∀ k, w.heap.size ≤ k → ¬ Two g ov k := fun k hk e => by
    have e' : k = g ∨ ov.ownBlock = some k := e
    rcases e' with e' | e'
    ·have := HLT.out; omega
    ·have := HN.out.lt k e'; omega
   have HZC := Lib.hid (h4.at_ (hnx _ (Nat.le_refl _)) HZB.out)
   have HEC := Lib.hid (show IB wC i _ from h4.at_ (hnx _ (Nat.le_of_lt HLi.out)) HEB.out)
   have HLC := Lib.hid (h4.owns HLB.out (fun k hk => hnx k (by have := HL9.out.lt k hk; have := HW8.out; omega)))
   have HSC := Lib.hid (Sep.trans (HSB.out.mono fun k hk => (.inl hk : Two g ov k)) h4)
   clear h1 h2 h3 h4 hnx
   go_wp2_with fail
   refine (fail_any HRC.out 10).mono ?_
   rintro e wD ⟨rfl, h1, h2⟩
   have HRD := Lib.hid h1
   have HND := Lib.hid (ns_one HNC.out h2)
   have HZD := Lib.hid (h2.at_ (show ¬ One g w.heap.size from fun e => by have e' : w.heap.size = g := e; have := HLT.out; omega) HZC.out)
   have HED := Lib.hid (show IB wD i _ from h2.at_ (show ¬ One g i from fun e => by have e' : i = g := e; have := HLT.out; have := HLi.out; omega) HEC.out)
   have HLD := Lib.hid (h2.owns HLC.out (fun k hk e => by have e' : k = g := e; have := HL9.out.lt k hk; have := HLT.out; have := HW8.out; omega))
   have HSD := Lib.hid (Sep.trans HSC.out (h2.mono fun k hk => (.inl hk : Two g ov k)))
   clear h1 h2
   go_wp2_with (first | (refine wpList_load_row rfl 38 _ rfl i rfl 38 (inV d (.slice xL d.l.length cL)) (0, 0) _ HED.out Try.underlying38 rfl infoIn ?_) | (refine wpList_store_row rfl 38 _ _ rfl w.heap.size (inV d (.slice xL d.l.length cL)) rfl rfl 38 #[.int .i64 0, .int .i64 0, .int .i64 0, .int .u64 0, .int .u64 0, .slice none 0 0] HZD.out infoIn rfl (inV_one _ _ _ _) ?_))
   exact bodyPost_ret (v := .agg (inV d (.slice xL d.l.length cL))) (results_cell_row Try.results15 _ _ w.heap.size 38 _ (0, 0) _ rfl (setRow_block (c := inV d (.slice xL d.l.length cL)) HZD.out) Try.underlying38 rfl infoIn) rfl
    (ins_end HLT.out HN.out HRD.out HND.out HLD.out HW8.out HKC.out HKD.out HSD.out _)
theorem ins_err {w : World} {g : Nat} {sv ov : Value} {s : St} {cl : Bool} {len : Nat} {f : Nat → Int} {N : List Int} (hf : By f) (hm : Ins.Mx w) (hg : 0 < g) (h : RS w g sv s ov cl) (hn : NS w g ov N) (hb : Bys w g sv len f) (hok : Ok len s) (hsv : ∀ k, sv.ownBlock = some k → k < w.heap.size) (hN : N.length ≤ 100000) (sa : Int) (op : Int) (ho : opcS f len s = (op, ⟨sa, 0⟩)) (hfl : Ins.floatB op = false) (hfm : fm op ≠ 0) (d : In) (s2 : St) (hr : fldS f len (fm op) op ⟨sa, 0⟩ = (d, s2)) (he2 : s2.e ≠ 0) :
  Calls Try.prog 15 #[.pointer (some ⟨g, 0, none⟩)] w (INS w g sv ov (d, s2, N, cl)) :=
 ins_known hf hm hg h hn hb hok hsv hN sa op ho hfl hfm d s2 hr _ (.inl ⟨he2, rfl⟩)
theorem ins_full {w : World} {g : Nat} {sv ov : Value} {s : St} {cl : Bool} {len : Nat} {f : Nat → Int} {N : List Int} (hf : By f) (hm : Ins.Mx w) (hg : 0 < g) (h : RS w g sv s ov cl) (hn : NS w g ov N) (hb : Bys w g sv len f) (hok : Ok len s) (hsv : ∀ k, sv.ownBlock = some k → k < w.heap.size) (hN : N.length ≤ 100000) (sa : Int) (op : Int) (ho : opcS f len s = (op, ⟨sa, 0⟩)) (hfl : Ins.floatB op = false) (hfm : fm op ≠ 0) (d : In) (s2 : St) (hr : fldS f len (fm op) op ⟨sa, 0⟩ = (d, s2)) (he2 : s2.e = 0) (hf2 : fm op = 2) (hful : ((N.length : Int) == 128) = true) :
  Calls Try.prog 15 #[.pointer (some ⟨g, 0, none⟩)] w (INS w g sv ov (d, failS s2 3, N, cl)) :=
 ins_known hf hm hg h hn hb hok hsv hN sa op ho hfl hfm d s2 hr _ (.inr (.inl ⟨he2, hf2, hful, rfl⟩))
theorem ins_roomY {w : World} {g : Nat} {sv ov : Value} {s : St} {cl : Bool} {len : Nat} {f : Nat → Int} {N : List Int} (hf : By f) (hm : Ins.Mx w) (hg : 0 < g) (h : RS w g sv s ov cl) (hn : NS w g ov N) (hb : Bys w g sv len f) (hok : Ok len s) (hsv : ∀ k, sv.ownBlock = some k → k < w.heap.size) (hN : N.length ≤ 100000) (sa : Int) (op : Int) (ho : opcS f len s = (op, ⟨sa, 0⟩)) (hfl : Ins.floatB op = false) (hfm : fm op ≠ 0) (d : In) (s2 : St) (hr : fldS f len (fm op) op ⟨sa, 0⟩ = (d, s2)) (he2 : s2.e = 0) (hf2 : fm op = 2) (hful : ((N.length : Int) == 128) = false) (N1 : List Int) (cl1 : Bool) (hst : stepN op (fm op) N cl = (true, N1, cl1)) :
  Calls Try.prog 15 #[.pointer (some ⟨g, 0, none⟩)] w (INS w g sv ov (d, s2, N1, cl1)) :=
 ins_known hf hm hg h hn hb hok hsv hN sa op ho hfl hfm d s2 hr _ (.inr (.inr (.inl ⟨N1, cl1, he2, hf2, hful, hst, rfl⟩)))
theorem ins_roomN {w : World} {g : Nat} {sv ov : Value} {s : St} {cl : Bool} {len : Nat} {f : Nat → Int} {N : List Int} (hf : By f) (hm : Ins.Mx w) (hg : 0 < g) (h : RS w g sv s ov cl) (hn : NS w g ov N) (hb : Bys w g sv len f) (hok : Ok len s) (hsv : ∀ k, sv.ownBlock = some k → k < w.heap.size) (hN : N.length ≤ 100000) (sa : Int) (op : Int) (ho : opcS f len s = (op, ⟨sa, 0⟩)) (hfl : Ins.floatB op = false) (hfm : fm op ≠ 0) (d : In) (s2 : St) (hr : fldS f len (fm op) op ⟨sa, 0⟩ = (d, s2)) (he2 : s2.e = 0) (hf2 : fm op = 2) (hful : ((N.length : Int) == 128) = false) (N1 : List Int) (cl1 : Bool) (hst : stepN op (fm op) N cl = (false, N1, cl1)) :
  Calls Try.prog 15 #[.pointer (some ⟨g, 0, none⟩)] w (INS w g sv ov (d, failS s2 10, N1, cl1)) :=
 ins_known hf hm hg h hn hb hok hsv hN sa op ho hfl hfm d s2 hr _ (.inr (.inr (.inr (.inl ⟨N1, cl1, he2, hf2, hful, hst, rfl⟩))))
theorem ins_plainY {w : World} {g : Nat} {sv ov : Value} {s : St} {cl : Bool} {len : Nat} {f : Nat → Int} {N : List Int} (hf : By f) (hm : Ins.Mx w) (hg : 0 < g) (h : RS w g sv s ov cl) (hn : NS w g ov N) (hb : Bys w g sv len f) (hok : Ok len s) (hsv : ∀ k, sv.ownBlock = some k → k < w.heap.size) (hN : N.length ≤ 100000) (sa : Int) (op : Int) (ho : opcS f len s = (op, ⟨sa, 0⟩)) (hfl : Ins.floatB op = false) (hfm : fm op ≠ 0) (d : In) (s2 : St) (hr : fldS f len (fm op) op ⟨sa, 0⟩ = (d, s2)) (he2 : s2.e = 0) (hf2 : fm op ≠ 2) (N1 : List Int) (cl1 : Bool) (hst : stepN op (fm op) N cl = (true, N1, cl1)) :
  Calls Try.prog 15 #[.pointer (some ⟨g, 0, none⟩)] w (INS w g sv ov (d, s2, N1, cl1)) :=
 ins_known hf hm hg h hn hb hok hsv hN sa op ho hfl hfm d s2 hr _ (.inr (.inr (.inr (.inr (.inl ⟨N1, cl1, he2, hf2, hst, rfl⟩)))))
theorem ins_plainN {w : World} {g : Nat} {sv ov : Value} {s : St} {cl : Bool} {len : Nat} {f : Nat → Int} {N : List Int} (hf : By f) (hm : Ins.Mx w) (hg : 0 < g) (h : RS w g sv s ov cl) (hn : NS w g ov N) (hb : Bys w g sv len f) (hok : Ok len s) (hsv : ∀ k, sv.ownBlock = some k → k < w.heap.size) (hN : N.length ≤ 100000) (sa : Int) (op : Int) (ho : opcS f len s = (op, ⟨sa, 0⟩)) (hfl : Ins.floatB op = false) (hfm : fm op ≠ 0) (d : In) (s2 : St) (hr : fldS f len (fm op) op ⟨sa, 0⟩ = (d, s2)) (he2 : s2.e = 0) (hf2 : fm op ≠ 2) (N1 : List Int) (cl1 : Bool) (hst : stepN op (fm op) N cl = (false, N1, cl1)) :
  Calls Try.prog 15 #[.pointer (some ⟨g, 0, none⟩)] w (INS w g sv ov (d, failS s2 10, N1, cl1)) :=
 ins_known hf hm hg h hn hb hok hsv hN sa op ho hfl hfm d s2 hr _ (.inr (.inr (.inr (.inr (.inr (⟨N1, cl1, he2, hf2, hst, rfl⟩))))))
end Ex
end Go.Proofs.Ytebkabidojipoaa
/- ExN -/
namespace Go.Proofs.Ytebkabidojipoaa
open Go.RowKit VecM LebM
namespace Ex
def idxB (n : Int) : Bool := decide (0 ≤ n) && decide (n ≤ 4294967295)
theorem index_any (n : Int) (w : World) : Calls Try.prog 45 #[.int .i64 n] w fun e w' => e = .returned (.bool (idxB n)) ∧ w = w' := by
 by_cases h0 : 0 ≤ n
 ·have d0 : decide (n ≥ 0) = true := decide_eq_true h0
  by_cases h1 : n ≤ 4294967295
  ·have d1 : decide (n ≤ 4294967295) = true := decide_eq_true h1
   have e0 : idxB n = true := by unfold idxB; rw [decide_eq_true h0, d1]; rfl
   rw [e0]
   clear e0
   go_enter Try.func45, Try.ntmps45
   go_wp2
   go_ret
   exact ⟨rfl, rfl⟩
  ·have d1 : decide (n ≤ 4294967295) = false := decide_eq_false h1
   have e0 : idxB n = false := by unfold idxB; rw [decide_eq_true h0, d1]; rfl
   rw [e0]
   clear e0 h1
   go_enter Try.func45, Try.ntmps45
   go_wp2
   go_ret
   exact ⟨rfl, rfl⟩
 ·have d0 : decide (n ≥ 0) = false := decide_eq_false h0
  have e0 : idxB n = false := by unfold idxB; rw [decide_eq_false h0]; rfl
  rw [e0]
  clear e0 h0
  go_enter Try.func45, Try.ntmps45
  go_wp2
  go_ret
  exact ⟨rfl, rfl⟩
def LsR (w : World) (v : Value) (l : List Int) : Prop := ∃ x c, v = .slice x l.length c ∧ ∀ j, j < l.length → ∃ b off, x = some ⟨b, off, none⟩ ∧ w.cell? ⟨b, off + j, none⟩ = some (.int .i64 (l.getD j 0))
theorem lsR_gr {w w' : World} {v : Value} {l : List Int} (h : LsR w v l) (hg : Gr w w') : LsR w' v l := by
 obtain ⟨x, c, rfl, h⟩ := h
 exact ⟨x, c, rfl, fun j hj => by obtain ⟨b, off, h1, h2⟩ := h j hj; exact ⟨b, off, h1, gr_cell hg h2⟩⟩
def fitB (d : In) (form : Int) : Bool :=
 if form = 2 then (idxB d.a || d.a == -64 || d.a == -1 || d.a == -2 || d.a == -5) && (d.b == 0) && (d.lo == 0) && (d.hi == 0) && (d.l.length == 0)
 else if form = 3 ∨ form = 5 then idxB d.a && (d.b == 0) && (d.lo == 0) && (d.hi == 0) && (d.l.length == 0)
 else if form = 4 then idxB d.a && d.l.all idxB && (d.b == 0) && (d.lo == 0) && (d.hi == 0)
 else if form = 6 ∨ form = 7 then idxB d.a && idxB d.b && (d.lo == 0) && (d.hi == 0) && (d.l.length == 0)
 else if form = 8 then idxB d.a && idxB d.b && decide (d.lo ≤ 255) && (d.hi == 0) && (d.l.length == 0)
 else if form = 9 then decide (d.lo ≤ 4294967295) && (d.a == 0) && (d.b == 0) && (d.hi == 0) && (d.l.length == 0)
 else if form = 10 then (d.a == 0) && (d.b == 0) && (d.hi == 0) && (d.l.length == 0)
 else if form = 11 ∨ form = 12 then (d.a == 0) && (d.b == 0) && (d.l.length == 0)
 else if form = 13 then decide (0 ≤ d.a) && decide (d.a ≤ 255) && (d.b == 0) && (d.lo == 0) && (d.hi == 0) && (d.l.length == 0)
 else (d.a == 0) && (d.b == 0) && (d.lo == 0) && (d.hi == 0) && (d.l.length == 0)
end Ex
end Go.Proofs.Ytebkabidojipoaa
/- ExP -/
namespace Go.Proofs.Ytebkabidojipoaa
open Go.RowKit VecM LebM
namespace Ex
def BYO (L : List Int) (w : World) (e : Ending) (w' : World) : Prop := ∃ sv, e = .returned sv ∧ Gr w w' ∧ w'.ownsRow w.heap.size 5 1 sv L.length (u8s L)
theorem forms1 (f : Int → List Int) (n : Int) (zs : Nat → Int) (h : zs 0 = n) : forms f zs 1 = f n := by simp [forms, h]
theorem forms2 (f : Int → List Int) (m n : Int) (zs : Nat → Int) (h : zs 0 = m) (h1 : zs 1 = n) : forms f zs 2 = f m ++ f n := by simp [forms, h, h1]
theorem ks1 {k : IntKind} {w : World} {b : Nat} {n : Int} {t : TypeId} {z : Nat × Nat} (h : w.heap[b]? = some (.cells #[.int k n] t z)) : Ks k w (.slice (some ⟨b, 0, none⟩) 1 1) 1 (fun _ => n) :=
 .inr ⟨by decide, b, 0, 1, rfl, fun j hj => by
  obtain rfl : j = 0 := by omega
  exact (cell_of_row _ _ 0 _ _ _ h).trans rfl⟩
theorem ks2 {k : IntKind} {w : World} {b : Nat} {m n : Int} {t : TypeId} {z : Nat × Nat} (h : w.heap[b]? = some (.cells #[.int k m, .int k n] t z)) : Ks k w (.slice (some ⟨b, 0, none⟩) 2 2) 2 (fun j => if j = 0 then m else n) :=
 .inr ⟨by decide, b, 0, 2, rfl, fun j hj => by
  have : j = 0 ∨ j = 1 := by omega
  rcases this with rfl | rfl
  ·exact (cell_of_row _ _ 0 _ _ _ h).trans rfl
  ·exact (cell_of_row _ _ 1 _ _ _ h).trans rfl⟩
theorem putu1 {w : World} {b : Nat} {n : Int} {t : TypeId} {z : Nat × Nat} (hn : 0 ≤ n ∧ n < 18446744073709551616) (h : w.heap[b]? = some (.cells #[.int .u64 n] t z)) : Calls Try.prog 46 #[.slice (some ⟨b, 0, none⟩) 1 1] w (BYO (formU n) w) := by
 have h1 := putu_any _ 1 (fun _ => n) (fun _ => hn) (by decide) w (ks1 h)
 rw [forms1 formU n _ rfl] at h1
 exact h1
theorem putu2 {w : World} {b : Nat} {m n : Int} {t : TypeId} {z : Nat × Nat} (hm : 0 ≤ m ∧ m < 18446744073709551616) (hn : 0 ≤ n ∧ n < 18446744073709551616) (h : w.heap[b]? = some (.cells #[.int .u64 m, .int .u64 n] t z)) : Calls Try.prog 46 #[.slice (some ⟨b, 0, none⟩) 2 2] w (BYO (formU m ++ formU n) w) := by
 have h1 := putu_any _ 2 (fun j => if j = 0 then m else n) (fun j => by split <;> assumption) (by decide) w (ks2 h)
 rw [forms2 formU m n _ rfl rfl] at h1
 exact h1
theorem puts1 {w : World} {b : Nat} {n : Int} {t : TypeId} {z : Nat × Nat} (hn : -9223372036854775808 ≤ n ∧ n ≤ 9223372036854775807) (h : w.heap[b]? = some (.cells #[.int .i64 n] t z)) : Calls Try.prog 47 #[.slice (some ⟨b, 0, none⟩) 1 1] w (BYO (formS n) w) := by
 have h1 := puts_any _ 1 (fun _ => n) (fun _ => hn) (by decide) w (ks1 h)
 rw [forms1 formS n _ rfl] at h1
 exact h1
theorem formU_len (n : Int) : (formU n).length ≤ 10 := lebU_len 9 n
theorem formS_len (n : Int) : (formS n).length ≤ 10 := lebS_len 9 n
theorem src_own {w : World} {base n : Nat} {e : TypeId} {v : Value} {xs : List Value} (h : w.ownsRow base e 1 v n xs) : Src w v n xs := by
 rcases h.2 with ⟨h1, h2⟩ | ⟨g, cap, cur, rfl, hb, hh, hn, hcap, hsz, htk⟩
 ·refine .inl ⟨h1, h2, List.eq_nil_of_length_eq_zero ?_⟩
  rw [h.1, h2]
 ·exact .inr ⟨_, cap, rfl, fun j u hu => h.cells rfl j u hu⟩
theorem u8s_one (l : List Int) : ∀ u ∈ u8s l, u.oneCell' = true := fun u hu => by
 unfold u8s at hu
 obtain ⟨x, _, rfl⟩ := List.mem_map.1 hu
 rfl
def opcL (op : Int) : List Int := if op < 64768 then [op % 256] else [253] ++ formU (op - 64768)
set_option maxRecDepth 100000 in
set_option maxHeartbeats 1000000 in
theorem opcode_w (op : Int) (hop : op ≤ 9223372036854775807) (w : World) : Calls Try.prog 24 #[.int .i64 op] w (BYO (opcL op) w) := by
 by_cases h : op < 64768
 ·have e0 : opcL op = [op % 256] := if_pos h
  rw [e0]
  have T1 : IntKind.u8.wrap op = op % 256 := by rw [IntKind.wrap_u8]
  clear e0 hop
  go_enter Try.func24, Try.ntmps24
  go_wp2
  go_ret
  exact ⟨_, rfl, (Gr.refl w).alloc _ _, World.ownsRow_lit w #[.int .u8 (op % 256)] 1 (Nat.le_refl _) (by decide) rfl⟩
 ·have e0 : opcL op = [253] ++ formU (op - 64768) := if_neg h
  rw [e0]
  have d0 : decide (op < 64768) = false := decide_eq_false h
  have T1 : IntKind.i64.wrap (op - 64768) = op - 64768 := by rw [IntKind.wrap_i64]; omega
  have T2 : IntKind.u64.wrap (op - 64768) = op - 64768 := by rw [IntKind.wrap_u64]; omega
  have HP := Lib.hid (fun wx b t z (hb : wx.heap[b]? = some (.cells #[.int .u64 (op - 64768)] t z)) => putu1 (w := wx) (b := b) (t := t) (z := z) (show 0 ≤ op - 64768 ∧ op - 64768 < 18446744073709551616 by omega) hb)
  have HLn := Lib.hid (formU_len (op - 64768))
  clear e0 hop h
  obtain ⟨i0, hi, hz0, hz1, hz2⟩ := info_parts info8
  have HI := Lib.hid hi
  have HZ0 := Lib.hid hz0
  have HZ1 := Lib.hid hz1
  have HZ2 := Lib.hid hz2
  clear hi hz0 hz1 hz2
  have HO := Lib.hid (World.ownsRow_lit (base := w.heap.size) (e := 5) (size := 1) w #[.int .u8 253] 1 (Nat.le_refl _) (by decide) rfl)
  go_enter Try.func24, Try.ntmps24
  go_wp2_with (first | (go_at_call 46; refine (HP.out _ _ _ _ (heap_alloc2_new w (.cells #[.int .u8 253] 5) (.cells #[.int .u64 (op - 64768)] 35))).mono ?_; rintro e w1 ⟨sv, rfl, hg1, ho1⟩; have HG1 := Lib.hid (gr_trans (((Gr.refl w).alloc _ _).alloc _ _) hg1); have HO1 := Lib.hid ho1; have HOo := Lib.hid (own_gr (own_gr HO.out ((Gr.refl _).alloc _ _)) hg1); obtain ⟨x9, c9, rfl⟩ := own_slice ho1; clear hg1 ho1) | (at_builtin; refine wpList_append_at rfl _ _ 22 rfl w.heap.size 5 i0 (.int .u8 0) 1 1 Try.underlying22 HI.out HZ0.out HZ1.out HZ2.out rfl (by decide) (.slice (some ⟨w.heap.size, 0, none⟩) 1 1) 1 [.int .u8 253] rfl HOo.out (.slice x9 (formU (op - 64768)).length c9) (formU (op - 64768)).length (u8s (formU (op - 64768))) rfl (src_own HO1.out) (by rw [_root_.Go.Proofs.Ytebkabidojipoaa.u8s_len, Nat.mul_one]) (u8s_one _) ?c3 ?c4 ?c5 ?_))
  case c3 => have := HLn.out; unfold maxLen; omega
  case c4 => have := HLn.out; omega
  case c5 => exact HG1.out.size
  intro v' w3 hown2 hgb hblk
  have HE := Lib.hid (show Gr w w3 ∧ w3.ownsRow w.heap.size 5 1 v' ([253] ++ formU (op - 64768)).length (u8s ([253] ++ formU (op - 64768))) from ⟨HG1.out.grown hgb (fun q hq => (HOo.out.lt q hq).1), by rw [u8s_app, List.length_append]; exact hown2⟩)
  clear hown2 hgb hblk
  go_wp2
  go_ret
  exact ⟨v', rfl, HE.out⟩
def tabF (l : List Int) : List Int := l.flatMap formU
theorem tabF_len : ∀ l : List Int, (tabF l).length ≤ 10 * l.length
 | [] => by simp [tabF]
 | x :: l => by
  have h1 := tabF_len l
  have h2 := formU_len x
  simp only [tabF, List.flatMap_cons, List.length_append, List.length_cons] at h1 ⊢
  omega
theorem tabF_snoc {l : List Int} {k : Nat} {z : Int} (h : l[k]? = some z) : tabF (l.take (k + 1)) = tabF (l.take k) ++ formU z := by
 unfold tabF
 rw [List.take_add_one, h, List.flatMap_append]; simp
set_option maxRecDepth 100000 in
set_option maxHeartbeats 2000000 in
theorem table_any (op a b lo hi : Int) (l : List Int) (x : Option Addr) (n c : Nat) (hn : l.length = n) (w : World) (hl : n ≤ 4294967296) (hr : LsR w (.slice x n c) l) (hlv : ∀ z ∈ l, 0 ≤ z ∧ z ≤ 4294967295) (ha : 0 ≤ a ∧ a ≤ 4294967295) : Calls Try.prog 48 #[.agg #[.int .i64 op, .int .i64 a, .int .i64 b, .int .u64 lo, .int .u64 hi, .slice x n c]] w (BYO (formU (n : Int) ++ tabF l ++ formU a) w) := by
 have HLR := Lib.hid (fun wx (hg : Gr w wx) => lsR_gr hr hg)
 have HNN := Lib.hid hn
 have HLL := Lib.hid hl
 have HLV := Lib.hid hlv
 have T1 : IntKind.u64.wrap (n : Int) = (n : Int) := by rw [IntKind.wrap_u64]; omega
 have T2 : IntKind.u64.wrap a = a := by rw [IntKind.wrap_u64]; omega
 have HP := Lib.hid (fun z (hz : 0 ≤ z ∧ z ≤ 4294967295) wx b t y (hb : wx.heap[b]? = some (.cells #[.int .u64 z] t y)) => putu1 (w := wx) (b := b) (t := t) (z := y) (show 0 ≤ z ∧ z < 18446744073709551616 by omega) hb)
 have HPn := Lib.hid (fun wx b t y (hb : wx.heap[b]? = some (.cells #[.int .u64 (n : Int)] t y)) => putu1 (w := wx) (b := b) (t := t) (z := y) (show 0 ≤ (n : Int) ∧ (n : Int) < 18446744073709551616 by omega) hb)
 have HLn := Lib.hid (And.intro (formU_len (n : Int)) (And.intro (formU_len a) (tabF_len l)))
 have HA := Lib.hid ha
 have hin := heap_alloc_new w (.cells #[.int .i64 op, .int .i64 a, .int .i64 b, .int .u64 lo, .int .u64 hi, .slice x n c] 38)
 have i1 := (cells6 hin).2.1
 have i5 := (cells6 hin).2.2.2.2.2
 have HG0 := Lib.hid ((Gr.refl w).alloc #[.int .i64 op, .int .i64 a, .int .i64 b, .int .u64 lo, .int .u64 hi, .slice x n c] 38)
 have HIN := Lib.hid hin
 clear hr hl hlv hn ha hin
 obtain ⟨i0, hi, hz0, hz1, hz2⟩ := info_parts info8
 have HI := Lib.hid hi
 have HZ0 := Lib.hid hz0
 have HZ1 := Lib.hid hz1
 have HZ2 := Lib.hid hz2
 clear hi hz0 hz1 hz2
 go_enter Try.func48, Try.ntmps48
 go_wp2_with (go_at_call 46; refine (HPn.out _ _ _ _ (heap_alloc2_new w (.cells #[.int .i64 op, .int .i64 a, .int .i64 b, .int .u64 lo, .int .u64 hi, .slice x n c] 38) (.cells #[.int .u64 (n : Int)] 35))).mono ?_; rintro e w1 ⟨sv, rfl, hg1, ho1⟩; have HG1 := Lib.hid (gr_trans (((Gr.refl w).alloc _ _).alloc _ _) hg1); have HO1 := Lib.hid ho1; have HIN1 := Lib.hid (gr_block hg1 (heap_alloc2_old w (.cells #[.int .i64 op, .int .i64 a, .int .i64 b, .int .u64 lo, .int .u64 hi, .slice x n c] 38) (.cells #[.int .u64 (n : Int)] 35))); have j1 := (cells6 HIN1.out).2.1; have j5 := (cells6 HIN1.out).2.2.2.2.2; clear hg1 ho1 i1 i5)
 go_loopw [3, 15] (fun sv i wr => ∃ k : Nat, k ≤ n ∧ i = .int .i64 k ∧ Gr w wr ∧ IB wr w.heap.size #[.int .i64 op, .int .i64 a, .int .i64 b, .int .u64 lo, .int .u64 hi, .slice x n c] ∧ wr.ownsRow (w.heap.size + 1) 5 1 sv (formU (n : Int) ++ tabF (l.take k)).length (u8s (formU (n : Int) ++ tabF (l.take k)))) (fun _ i _ => n - (intOf i).toNat)
 case atStart => exact ⟨0, by omega, rfl, HG1.out, HIN1.out, by simp only [List.take_zero, tabF, List.flatMap_nil, List.append_nil]; exact own_base HO1.out (by simp)⟩
 case round =>
  obtain ⟨k, hk, rfl, hg, hin, hown⟩ := hrel
  have HIN := Lib.hid hin
  have HO := Lib.hid hown
  have HGw := Lib.hid hg
  have HFL := Lib.hid (show (formU (n : Int) ++ tabF (l.take k)).length ≤ 10 + 10 * n from by
   have h1 := HLn.out.1
   have h2 := tabF_len (l.take k)
   have h3 : (l.take k).length ≤ n := by rw [List.length_take, HNN.out]; omega
   simp only [List.length_append]; omega)
  obtain ⟨xs, cs, rfl⟩ := own_slice hown
  clear hg hown hin j1 j5
  have j1 := (cells6 HIN.out).2.1
  have j5 := (cells6 HIN.out).2.2.2.2.2
  by_cases hlt : k < n
  ·obtain ⟨x', c', he, hcell⟩ := HLR.out _ HGw.out
   have hln := HNN.out
   obtain ⟨rfl, -, rfl⟩ := Value.slice.inj he
   obtain ⟨b', off, rfl, hc⟩ := hcell k (by omega)
   obtain ⟨z, hz⟩ : ∃ z, l.getD k 0 = z := ⟨_, rfl⟩
   rw [hz] at hc
   have hg : l[k]? = some z := by
    rw [List.getD_eq_getElem?_getD, List.getElem?_eq_getElem (by omega)] at hz
    rw [List.getElem?_eq_getElem (by omega)]
    simpa using hz
   have HZ := Lib.hid (HLV.out z (List.mem_of_getElem? hg))
   have HSN := Lib.hid (show formU (n : Int) ++ tabF (l.take (k + 1)) = (formU (n : Int) ++ tabF (l.take k)) ++ formU z from by rw [tabF_snoc hg, List.append_assoc])
   have T3 : IntKind.u64.wrap z = z := by have := HZ.out; rw [IntKind.wrap_u64]; omega
   have TK : IntKind.i64.wrap ((k : Int) + 1) = (k : Int) + 1 := by have := HLL.out; rw [IntKind.wrap_i64]; omega
   have HZL := Lib.hid (formU_len z)
   clear hcell hln he hz hg
   generalize hF : (formU (n : Int) ++ tabF (l.take k)) = F at *
   clear hF
   generalize hFn : F.length = m at *
   have HFn := Lib.hid hFn
   clear hFn
   go_wp2_with (first | (go_at_call 46; refine (HP.out z HZ.out _ _ _ _ (heap_alloc_new wr (.cells #[.int .u64 z] 35))).mono ?_; rintro e w5 ⟨sv, rfl, hg5, ho5⟩; have HG5 := Lib.hid (gr_trans ((Gr.refl wr).alloc _ _) hg5); have HO5 := Lib.hid ho5; have HOo := Lib.hid (own_gr HO.out HG5.out); obtain ⟨x9, c9, rfl⟩ := own_slice ho5; clear hg5 ho5) | (at_builtin; refine wpList_append_at rfl _ _ 22 rfl (w.heap.size + 1) 5 i0 (.int .u8 0) 1 1 Try.underlying22 HI.out HZ0.out HZ1.out HZ2.out rfl (by decide) (.slice xs m cs) m (u8s F) rfl HOo.out (.slice x9 (formU z).length c9) (formU z).length (u8s (formU z)) rfl (src_own HO5.out) (by rw [_root_.Go.Proofs.Ytebkabidojipoaa.u8s_len, Nat.mul_one]) (u8s_one _) ?c3 ?c4 ?c5 ?_))
   case c3 => have := HFL.out; have := HLL.out; have := HZL.out; unfold maxLen; omega
   case c4 => have := HFL.out; have := HLL.out; have := HZL.out; omega
   case c5 => have := (Array.getElem?_eq_some_iff.1 HIN.out).1; have := HG5.out.size; omega
   intro v' w6 hown2 hgb hblk
   have HSq := Sep.grown (ex := fun q => (Value.slice xs m cs).ownBlock = some q) hgb (fun q hq => hq)
   have HE := Lib.hid (show Gr w w6 from Sep.toGr (gr_trans HGw.out HG5.out) HSq (fun q hq => by have := HOo.out.lt q hq; omega))
   have HE3 := Lib.hid (show IB w6 w.heap.size _ from HSq.at_ (fun e => by have := HOo.out.lt _ e; omega) (gr_block HG5.out HIN.out))
   have HE2 := Lib.hid (show w6.ownsRow (w.heap.size + 1) 5 1 v' (F ++ formU z).length (u8s (F ++ formU z)) from by rw [u8s_app, List.length_append, HFn.out]; exact hown2)
   clear hown2 hgb hblk HSq
   go_wp2
   exact ⟨⟨k + 1, by omega, by first | rfl | go_num, HE.out, HE3.out, by rw [HSN.out]; exact HE2.out⟩, by simp [intOf]; omega⟩
  ·obtain rfl : k = n := by omega
   have HTK := Lib.hid (show tabF (l.take k) = tabF l from by rw [List.take_of_length_le (by have := HNN.out; omega)])
   generalize hF : (formU (k : Int) ++ tabF (l.take k)) = F at *
   have HF := Lib.hid hF
   clear hF
   generalize hFn : F.length = m at *
   have HFn := Lib.hid hFn
   clear hFn hlt
   go_wp2_with (first | (go_at_call 46; refine (HP.out a HA.out _ _ _ _ (heap_alloc_new wr (.cells #[.int .u64 a] 35))).mono ?_; rintro e w5 ⟨sv, rfl, hg5, ho5⟩; have HG5 := Lib.hid (gr_trans ((Gr.refl wr).alloc _ _) hg5); have HO5 := Lib.hid ho5; have HOo := Lib.hid (own_gr HO.out HG5.out); obtain ⟨x9, c9, rfl⟩ := own_slice ho5; clear hg5 ho5) | (at_builtin; refine wpList_append_at rfl _ _ 22 rfl (w.heap.size + 1) 5 i0 (.int .u8 0) 1 1 Try.underlying22 HI.out HZ0.out HZ1.out HZ2.out rfl (by decide) (.slice xs m cs) m (u8s F) rfl HOo.out (.slice x9 (formU a).length c9) (formU a).length (u8s (formU a)) rfl (src_own HO5.out) (by rw [_root_.Go.Proofs.Ytebkabidojipoaa.u8s_len, Nat.mul_one]) (u8s_one _) ?c3 ?c4 ?c5 ?_))
   case c3 => have := HFL.out; have := HLL.out; have := HLn.out.2.1; unfold maxLen; omega
   case c4 => have := HFL.out; have := HLL.out; have := HLn.out.2.1; omega
   case c5 => have := (Array.getElem?_eq_some_iff.1 HIN.out).1; have := HG5.out.size; omega
   intro v' w6 hown2 hgb hblk
   have HSq := Sep.grown (ex := fun q => (Value.slice xs m cs).ownBlock = some q) hgb (fun q hq => hq)
   have HE := Lib.hid (show Gr w w6 from Sep.toGr (gr_trans HGw.out HG5.out) HSq (fun q hq => by have := HOo.out.lt q hq; omega))
   have HE2 := Lib.hid (show w6.ownsRow (w.heap.size + 1) 5 1 v' (F ++ formU a).length (u8s (F ++ formU a)) from by rw [u8s_app, List.length_append, HFn.out]; exact hown2)
   clear hown2 hgb hblk HSq
   go_wp2
   go_ret
   refine ⟨v', rfl, HE.out, own_base ?_ (Nat.le_succ _)⟩
   have := HE2.out
   rw [← HF.out, HTK.out] at this
   exact this
end Ex
end Go.Proofs.Ytebkabidojipoaa
/- ExQ -/
namespace Go.Proofs.Ytebkabidojipoaa
open Go.RowKit VecM LebM
namespace Ex
def BYS (L : List Int) (w : World) (e : Ending) (w' : World) : Prop := ∃ x c, e = .returned (.slice x L.length c) ∧ Gr w w' ∧ Src w' (.slice x L.length c) L.length (u8s L)
theorem bys_of {L : List Int} {w : World} {e : Ending} {w' : World} (h : BYO L w e w') : BYS L w e w' := by
 obtain ⟨sv, h1, h2, h3⟩ := h
 obtain ⟨x, c, rfl⟩ := own_slice h3
 exact ⟨x, c, h1, h2, src_own h3⟩
def sg32 (x : Int) : Int := if x % 4294967296 < 2147483648 then x % 4294967296 else x % 4294967296 - 4294967296
def sg64 (x : Int) : Int := if x < 9223372036854775808 then x else x - 18446744073709551616
def vecB (lo hi : Int) : Nat → Int := ofK (fun _ => 0) 64 (fun j => if j = 0 then lo else hi) 2
def vecL (lo hi : Int) : List Int := (List.range 16).map (vecB lo hi)
theorem vecL_bs (lo hi : Int) : u8s (vecL lo hi) = (bs (vecB lo hi)).toList := by unfold u8s vecL; rfl
def fldL (d : In) (form : Int) : List Int :=
 if form = 2 then formS d.a
 else if form = 3 ∨ form = 5 then formU d.a
 else if form = 4 then formU (d.l.length : Int) ++ tabF d.l ++ formU d.a
 else if form = 6 ∨ form = 7 then formU d.a ++ formU d.b
 else if form = 8 then formU d.a ++ formU d.b ++ [d.lo % 256]
 else if form = 9 then formS (sg32 d.lo)
 else if form = 10 then formS (sg64 d.lo)
 else if form = 11 ∨ form = 12 then vecL d.lo d.hi
 else if form = 13 then [d.a % 256]
 else if form = 14 then [0]
 else []
set_option maxRecDepth 100000 in
set_option maxHeartbeats 2000000 in
theorem fldw_2 (op a b lo hi : Int) (l : List Int) (x : Option Addr) (n c : Nat) (w : World) (ha : -9223372036854775808 ≤ a ∧ a ≤ 9223372036854775807) : Calls Try.prog 25 #[.agg #[.int .i64 op, .int .i64 a, .int .i64 b, .int .u64 lo, .int .u64 hi, .slice x n c], .int .i64 2] w (BYS (fldL ⟨op, a, b, lo, hi, l⟩ 2) w) := by
 obtain ⟨ua, hua⟩ : ∃ u, IntKind.u64.wrap a = u := ⟨_, rfl⟩
 obtain ⟨ub, hub⟩ : ∃ u, IntKind.u64.wrap b = u := ⟨_, rfl⟩
 have hin := heap_alloc_new w (.cells #[.int .i64 op, .int .i64 a, .int .i64 b, .int .u64 lo, .int .u64 hi, .slice x n c] 38)
 have HIN := Lib.hid hin
 have HG0 := Lib.hid ((Gr.refl w).alloc #[.int .i64 op, .int .i64 a, .int .i64 b, .int .u64 lo, .int .u64 hi, .slice x n c] 38)
 have i1 := (cells6 hin).2.1
 have i2 := (cells6 hin).2.2.1
 have i3 := (cells6 hin).2.2.2.1
 have i4 := (cells6 hin).2.2.2.2.1
 have HA := Lib.hid ha
 clear ha
 clear hin
 go_enter Try.func25, Try.ntmps25
 go_wp2_with fail
 generalize w.alloc (.cells #[.int .i64 op, .int .i64 a, .int .i64 b, .int .u64 lo, .int .u64 hi, .slice x n c] 38) = w1 at *
 go_quiet (fail)
 go_wp2_with fail
 refine (puts1 HA.out (heap_alloc_new (w1.drewN nq) (.cells #[.int .i64 a] 2))).mono ?_
 rintro e w9 hb9
 obtain ⟨x9, c9, rfl, hg9, hs9⟩ := bys_of hb9
 have HE := Lib.hid (And.intro (gr_trans (gr_trans HG0.out ((Gr.refl w1).drewN _)) (gr_trans ((Gr.refl (w1.drewN _)).alloc _ _) hg9)) hs9)
 clear hb9 hg9 hs9
 go_wp2
 go_ret
 exact ⟨x9, c9, rfl, HE.out⟩
set_option maxRecDepth 100000 in
set_option maxHeartbeats 2000000 in
theorem fldw_3 (op a b lo hi : Int) (l : List Int) (x : Option Addr) (n c : Nat) (w : World) (ha : 0 ≤ a ∧ a < 18446744073709551616) : Calls Try.prog 25 #[.agg #[.int .i64 op, .int .i64 a, .int .i64 b, .int .u64 lo, .int .u64 hi, .slice x n c], .int .i64 3] w (BYS (fldL ⟨op, a, b, lo, hi, l⟩ 3) w) := by
 obtain ⟨ua, hua⟩ : ∃ u, IntKind.u64.wrap a = u := ⟨_, rfl⟩
 obtain ⟨ub, hub⟩ : ∃ u, IntKind.u64.wrap b = u := ⟨_, rfl⟩
 have hin := heap_alloc_new w (.cells #[.int .i64 op, .int .i64 a, .int .i64 b, .int .u64 lo, .int .u64 hi, .slice x n c] 38)
 have HIN := Lib.hid hin
 have HG0 := Lib.hid ((Gr.refl w).alloc #[.int .i64 op, .int .i64 a, .int .i64 b, .int .u64 lo, .int .u64 hi, .slice x n c] 38)
 have i1 := (cells6 hin).2.1
 have i2 := (cells6 hin).2.2.1
 have i3 := (cells6 hin).2.2.2.1
 have i4 := (cells6 hin).2.2.2.2.1
 have eua : ua = a := by rw [← hua, IntKind.wrap_u64]; omega
 rw [eua] at hua
 clear eua
 have HA := Lib.hid ha
 clear ha
 clear hin
 go_enter Try.func25, Try.ntmps25
 go_wp2_with fail
 generalize w.alloc (.cells #[.int .i64 op, .int .i64 a, .int .i64 b, .int .u64 lo, .int .u64 hi, .slice x n c] 38) = w1 at *
 go_quiet (fail)
 go_wp2_with fail
 refine (putu1 HA.out (heap_alloc_new (w1.drewN nq) (.cells #[.int .u64 a] 35))).mono ?_
 rintro e w9 hb9
 obtain ⟨x9, c9, rfl, hg9, hs9⟩ := bys_of hb9
 have HE := Lib.hid (And.intro (gr_trans (gr_trans HG0.out ((Gr.refl w1).drewN _)) (gr_trans ((Gr.refl (w1.drewN _)).alloc _ _) hg9)) hs9)
 clear hb9 hg9 hs9
 go_wp2
 go_ret
 exact ⟨x9, c9, rfl, HE.out⟩
set_option maxRecDepth 100000 in
set_option maxHeartbeats 2000000 in
theorem fldw_5 (op a b lo hi : Int) (l : List Int) (x : Option Addr) (n c : Nat) (w : World) (ha : 0 ≤ a ∧ a < 18446744073709551616) : Calls Try.prog 25 #[.agg #[.int .i64 op, .int .i64 a, .int .i64 b, .int .u64 lo, .int .u64 hi, .slice x n c], .int .i64 5] w (BYS (fldL ⟨op, a, b, lo, hi, l⟩ 5) w) := by
 obtain ⟨ua, hua⟩ : ∃ u, IntKind.u64.wrap a = u := ⟨_, rfl⟩
 obtain ⟨ub, hub⟩ : ∃ u, IntKind.u64.wrap b = u := ⟨_, rfl⟩
 have hin := heap_alloc_new w (.cells #[.int .i64 op, .int .i64 a, .int .i64 b, .int .u64 lo, .int .u64 hi, .slice x n c] 38)
 have HIN := Lib.hid hin
 have HG0 := Lib.hid ((Gr.refl w).alloc #[.int .i64 op, .int .i64 a, .int .i64 b, .int .u64 lo, .int .u64 hi, .slice x n c] 38)
 have i1 := (cells6 hin).2.1
 have i2 := (cells6 hin).2.2.1
 have i3 := (cells6 hin).2.2.2.1
 have i4 := (cells6 hin).2.2.2.2.1
 have eua : ua = a := by rw [← hua, IntKind.wrap_u64]; omega
 rw [eua] at hua
 clear eua
 have HA := Lib.hid ha
 clear ha
 clear hin
 go_enter Try.func25, Try.ntmps25
 go_wp2_with fail
 generalize w.alloc (.cells #[.int .i64 op, .int .i64 a, .int .i64 b, .int .u64 lo, .int .u64 hi, .slice x n c] 38) = w1 at *
 go_quiet (fail)
 go_wp2_with fail
 refine (putu1 HA.out (heap_alloc_new (w1.drewN nq) (.cells #[.int .u64 a] 35))).mono ?_
 rintro e w9 hb9
 obtain ⟨x9, c9, rfl, hg9, hs9⟩ := bys_of hb9
 have HE := Lib.hid (And.intro (gr_trans (gr_trans HG0.out ((Gr.refl w1).drewN _)) (gr_trans ((Gr.refl (w1.drewN _)).alloc _ _) hg9)) hs9)
 clear hb9 hg9 hs9
 go_wp2
 go_ret
 exact ⟨x9, c9, rfl, HE.out⟩
set_option maxRecDepth 100000 in
set_option maxHeartbeats 2000000 in
theorem fldw_6 (op a b lo hi : Int) (l : List Int) (x : Option Addr) (n c : Nat) (w : World) (ha : 0 ≤ a ∧ a < 18446744073709551616) (hb : 0 ≤ b ∧ b < 18446744073709551616) : Calls Try.prog 25 #[.agg #[.int .i64 op, .int .i64 a, .int .i64 b, .int .u64 lo, .int .u64 hi, .slice x n c], .int .i64 6] w (BYS (fldL ⟨op, a, b, lo, hi, l⟩ 6) w) := by
 obtain ⟨ua, hua⟩ : ∃ u, IntKind.u64.wrap a = u := ⟨_, rfl⟩
 obtain ⟨ub, hub⟩ : ∃ u, IntKind.u64.wrap b = u := ⟨_, rfl⟩
 have hin := heap_alloc_new w (.cells #[.int .i64 op, .int .i64 a, .int .i64 b, .int .u64 lo, .int .u64 hi, .slice x n c] 38)
 have HIN := Lib.hid hin
 have HG0 := Lib.hid ((Gr.refl w).alloc #[.int .i64 op, .int .i64 a, .int .i64 b, .int .u64 lo, .int .u64 hi, .slice x n c] 38)
 have i1 := (cells6 hin).2.1
 have i2 := (cells6 hin).2.2.1
 have i3 := (cells6 hin).2.2.2.1
 have i4 := (cells6 hin).2.2.2.2.1
 have eua : ua = a := by rw [← hua, IntKind.wrap_u64]; omega
 rw [eua] at hua
 clear eua
 have eub : ub = b := by rw [← hub, IntKind.wrap_u64]; omega
 rw [eub] at hub
 clear eub
 have HA := Lib.hid ha
 have HB := Lib.hid hb
 obtain ⟨L, hL⟩ : ∃ L, formU a ++ formU b = L := ⟨_, rfl⟩
 have HLe := Lib.hid hL
 clear ha hb hL
 clear hin
 go_enter Try.func25, Try.ntmps25
 go_wp2_with fail
 generalize w.alloc (.cells #[.int .i64 op, .int .i64 a, .int .i64 b, .int .u64 lo, .int .u64 hi, .slice x n c] 38) = w1 at *
 go_quiet (fail)
 go_wp2_with fail
 refine ((HLe.out ▸ putu2 HA.out HB.out (heap_alloc_new (w1.drewN nq) (.cells #[.int .u64 a, .int .u64 b] 35)) : Calls Try.prog 46 _ _ (BYO L _))).mono ?_
 rintro e w9 hb9
 obtain ⟨x9, c9, rfl, hg9, hs9⟩ := bys_of hb9
 have HE := Lib.hid (And.intro (gr_trans (gr_trans HG0.out ((Gr.refl w1).drewN _)) (gr_trans ((Gr.refl (w1.drewN _)).alloc _ _) hg9)) hs9)
 clear hb9 hg9 hs9
 go_wp2
 go_ret
 rw [show fldL ⟨op, a, b, lo, hi, l⟩ 6 = L from HLe.out]
 exact ⟨x9, c9, rfl, HE.out⟩
set_option maxRecDepth 100000 in
set_option maxHeartbeats 2000000 in
theorem fldw_7 (op a b lo hi : Int) (l : List Int) (x : Option Addr) (n c : Nat) (w : World) (ha : 0 ≤ a ∧ a < 18446744073709551616) (hb : 0 ≤ b ∧ b < 18446744073709551616) : Calls Try.prog 25 #[.agg #[.int .i64 op, .int .i64 a, .int .i64 b, .int .u64 lo, .int .u64 hi, .slice x n c], .int .i64 7] w (BYS (fldL ⟨op, a, b, lo, hi, l⟩ 7) w) := by
 obtain ⟨ua, hua⟩ : ∃ u, IntKind.u64.wrap a = u := ⟨_, rfl⟩
 obtain ⟨ub, hub⟩ : ∃ u, IntKind.u64.wrap b = u := ⟨_, rfl⟩
 have hin := heap_alloc_new w (.cells #[.int .i64 op, .int .i64 a, .int .i64 b, .int .u64 lo, .int .u64 hi, .slice x n c] 38)
 have HIN := Lib.hid hin
 have HG0 := Lib.hid ((Gr.refl w).alloc #[.int .i64 op, .int .i64 a, .int .i64 b, .int .u64 lo, .int .u64 hi, .slice x n c] 38)
 have i1 := (cells6 hin).2.1
 have i2 := (cells6 hin).2.2.1
 have i3 := (cells6 hin).2.2.2.1
 have i4 := (cells6 hin).2.2.2.2.1
 have eua : ua = a := by rw [← hua, IntKind.wrap_u64]; omega
 rw [eua] at hua
 clear eua
 have eub : ub = b := by rw [← hub, IntKind.wrap_u64]; omega
 rw [eub] at hub
 clear eub
 have HA := Lib.hid ha
 have HB := Lib.hid hb
 obtain ⟨L, hL⟩ : ∃ L, formU a ++ formU b = L := ⟨_, rfl⟩
 have HLe := Lib.hid hL
 clear ha hb hL
 clear hin
 go_enter Try.func25, Try.ntmps25
 go_wp2_with fail
 generalize w.alloc (.cells #[.int .i64 op, .int .i64 a, .int .i64 b, .int .u64 lo, .int .u64 hi, .slice x n c] 38) = w1 at *
 go_quiet (fail)
 go_wp2_with fail
 refine ((HLe.out ▸ putu2 HA.out HB.out (heap_alloc_new (w1.drewN nq) (.cells #[.int .u64 a, .int .u64 b] 35)) : Calls Try.prog 46 _ _ (BYO L _))).mono ?_
 rintro e w9 hb9
 obtain ⟨x9, c9, rfl, hg9, hs9⟩ := bys_of hb9
 have HE := Lib.hid (And.intro (gr_trans (gr_trans HG0.out ((Gr.refl w1).drewN _)) (gr_trans ((Gr.refl (w1.drewN _)).alloc _ _) hg9)) hs9)
 clear hb9 hg9 hs9
 go_wp2
 go_ret
 rw [show fldL ⟨op, a, b, lo, hi, l⟩ 7 = L from HLe.out]
 exact ⟨x9, c9, rfl, HE.out⟩
set_option maxRecDepth 100000 in
set_option maxHeartbeats 2000000 in
theorem fldw_9 (op a b lo hi : Int) (l : List Int) (x : Option Addr) (n c : Nat) (w : World) (_hl : 0 ≤ lo ∧ lo < 18446744073709551616) : Calls Try.prog 25 #[.agg #[.int .i64 op, .int .i64 a, .int .i64 b, .int .u64 lo, .int .u64 hi, .slice x n c], .int .i64 9] w (BYS (fldL ⟨op, a, b, lo, hi, l⟩ 9) w) := by
 obtain ⟨ua, hua⟩ : ∃ u, IntKind.u64.wrap a = u := ⟨_, rfl⟩
 obtain ⟨ub, hub⟩ : ∃ u, IntKind.u64.wrap b = u := ⟨_, rfl⟩
 have hin := heap_alloc_new w (.cells #[.int .i64 op, .int .i64 a, .int .i64 b, .int .u64 lo, .int .u64 hi, .slice x n c] 38)
 have HIN := Lib.hid hin
 have HG0 := Lib.hid ((Gr.refl w).alloc #[.int .i64 op, .int .i64 a, .int .i64 b, .int .u64 lo, .int .u64 hi, .slice x n c] 38)
 have i1 := (cells6 hin).2.1
 have i2 := (cells6 hin).2.2.1
 have i3 := (cells6 hin).2.2.2.1
 have i4 := (cells6 hin).2.2.2.2.1
 have T3 : wrap64 (wrap32 lo) = sg32 lo := by unfold sg32; simp only [wrap64, wrap32]; split <;> omega
 have HA := Lib.hid (show -9223372036854775808 ≤ sg32 lo ∧ sg32 lo ≤ 9223372036854775807 from by unfold sg32; split <;> omega)
 clear _hl
 clear hin
 go_enter Try.func25, Try.ntmps25
 go_wp2_with fail
 generalize w.alloc (.cells #[.int .i64 op, .int .i64 a, .int .i64 b, .int .u64 lo, .int .u64 hi, .slice x n c] 38) = w1 at *
 go_quiet (fail)
 go_wp2_with fail
 refine (puts1 HA.out (heap_alloc_new (w1.drewN nq) (.cells #[.int .i64 (sg32 lo)] 2))).mono ?_
 rintro e w9 hb9
 obtain ⟨x9, c9, rfl, hg9, hs9⟩ := bys_of hb9
 have HE := Lib.hid (And.intro (gr_trans (gr_trans HG0.out ((Gr.refl w1).drewN _)) (gr_trans ((Gr.refl (w1.drewN _)).alloc _ _) hg9)) hs9)
 clear hb9 hg9 hs9
 go_wp2
 go_ret
 exact ⟨x9, c9, rfl, HE.out⟩
set_option maxRecDepth 100000 in
set_option maxHeartbeats 2000000 in
theorem fldw_10 (op a b lo hi : Int) (l : List Int) (x : Option Addr) (n c : Nat) (w : World) (hl : 0 ≤ lo ∧ lo < 18446744073709551616) : Calls Try.prog 25 #[.agg #[.int .i64 op, .int .i64 a, .int .i64 b, .int .u64 lo, .int .u64 hi, .slice x n c], .int .i64 10] w (BYS (fldL ⟨op, a, b, lo, hi, l⟩ 10) w) := by
 obtain ⟨ua, hua⟩ : ∃ u, IntKind.u64.wrap a = u := ⟨_, rfl⟩
 obtain ⟨ub, hub⟩ : ∃ u, IntKind.u64.wrap b = u := ⟨_, rfl⟩
 have hin := heap_alloc_new w (.cells #[.int .i64 op, .int .i64 a, .int .i64 b, .int .u64 lo, .int .u64 hi, .slice x n c] 38)
 have HIN := Lib.hid hin
 have HG0 := Lib.hid ((Gr.refl w).alloc #[.int .i64 op, .int .i64 a, .int .i64 b, .int .u64 lo, .int .u64 hi, .slice x n c] 38)
 have i1 := (cells6 hin).2.1
 have i2 := (cells6 hin).2.2.1
 have i3 := (cells6 hin).2.2.2.1
 have i4 := (cells6 hin).2.2.2.2.1
 have T3 : IntKind.i64.wrap lo = sg64 lo := by unfold sg64; simp only [IntKind.wrap_i64]; split <;> omega
 have HA := Lib.hid (show -9223372036854775808 ≤ sg64 lo ∧ sg64 lo ≤ 9223372036854775807 from by unfold sg64; split <;> omega)
 clear hl
 clear hin
 go_enter Try.func25, Try.ntmps25
 go_wp2_with fail
 generalize w.alloc (.cells #[.int .i64 op, .int .i64 a, .int .i64 b, .int .u64 lo, .int .u64 hi, .slice x n c] 38) = w1 at *
 go_quiet (fail)
 go_wp2_with fail
 refine (puts1 HA.out (heap_alloc_new (w1.drewN nq) (.cells #[.int .i64 (sg64 lo)] 2))).mono ?_
 rintro e w9 hb9
 obtain ⟨x9, c9, rfl, hg9, hs9⟩ := bys_of hb9
 have HE := Lib.hid (And.intro (gr_trans (gr_trans HG0.out ((Gr.refl w1).drewN _)) (gr_trans ((Gr.refl (w1.drewN _)).alloc _ _) hg9)) hs9)
 clear hb9 hg9 hs9
 go_wp2
 go_ret
 exact ⟨x9, c9, rfl, HE.out⟩
set_option maxRecDepth 100000 in
set_option maxHeartbeats 2000000 in
theorem fldw_13 (op a b lo hi : Int) (l : List Int) (x : Option Addr) (n c : Nat) (w : World)  : Calls Try.prog 25 #[.agg #[.int .i64 op, .int .i64 a, .int .i64 b, .int .u64 lo, .int .u64 hi, .slice x n c], .int .i64 13] w (BYS (fldL ⟨op, a, b, lo, hi, l⟩ 13) w) := by
 obtain ⟨ua, hua⟩ : ∃ u, IntKind.u64.wrap a = u := ⟨_, rfl⟩
 obtain ⟨ub, hub⟩ : ∃ u, IntKind.u64.wrap b = u := ⟨_, rfl⟩
 have hin := heap_alloc_new w (.cells #[.int .i64 op, .int .i64 a, .int .i64 b, .int .u64 lo, .int .u64 hi, .slice x n c] 38)
 have HIN := Lib.hid hin
 have HG0 := Lib.hid ((Gr.refl w).alloc #[.int .i64 op, .int .i64 a, .int .i64 b, .int .u64 lo, .int .u64 hi, .slice x n c] 38)
 have i1 := (cells6 hin).2.1
 have i2 := (cells6 hin).2.2.1
 have i3 := (cells6 hin).2.2.2.1
 have i4 := (cells6 hin).2.2.2.2.1
 have T3 : IntKind.u8.wrap a = a % 256 := by rw [IntKind.wrap_u8]
 clear hin
 go_enter Try.func25, Try.ntmps25
 go_wp2_with fail
 generalize w.alloc (.cells #[.int .i64 op, .int .i64 a, .int .i64 b, .int .u64 lo, .int .u64 hi, .slice x n c] 38) = w1 at *
 go_quiet (fail)
 go_wp2
 go_ret
 exact ⟨some ⟨w1.heap.size, 0, none⟩, 1, rfl, gr_trans (gr_trans HG0.out ((Gr.refl w1).drewN _)) ((Gr.refl (w1.drewN _)).alloc _ _), src_lit (w1.drewN _) #[.int .u8 (a % 256)] 5 1 1⟩
set_option maxRecDepth 100000 in
set_option maxHeartbeats 2000000 in
theorem fldw_14 (op a b lo hi : Int) (l : List Int) (x : Option Addr) (n c : Nat) (w : World)  : Calls Try.prog 25 #[.agg #[.int .i64 op, .int .i64 a, .int .i64 b, .int .u64 lo, .int .u64 hi, .slice x n c], .int .i64 14] w (BYS (fldL ⟨op, a, b, lo, hi, l⟩ 14) w) := by
 obtain ⟨ua, hua⟩ : ∃ u, IntKind.u64.wrap a = u := ⟨_, rfl⟩
 obtain ⟨ub, hub⟩ : ∃ u, IntKind.u64.wrap b = u := ⟨_, rfl⟩
 have hin := heap_alloc_new w (.cells #[.int .i64 op, .int .i64 a, .int .i64 b, .int .u64 lo, .int .u64 hi, .slice x n c] 38)
 have HIN := Lib.hid hin
 have HG0 := Lib.hid ((Gr.refl w).alloc #[.int .i64 op, .int .i64 a, .int .i64 b, .int .u64 lo, .int .u64 hi, .slice x n c] 38)
 have i1 := (cells6 hin).2.1
 have i2 := (cells6 hin).2.2.1
 have i3 := (cells6 hin).2.2.2.1
 have i4 := (cells6 hin).2.2.2.2.1
 clear hin
 go_enter Try.func25, Try.ntmps25
 go_wp2_with fail
 generalize w.alloc (.cells #[.int .i64 op, .int .i64 a, .int .i64 b, .int .u64 lo, .int .u64 hi, .slice x n c] 38) = w1 at *
 go_quiet (fail)
 go_wp2
 go_ret
 exact ⟨some ⟨w1.heap.size, 0, none⟩, 1, rfl, gr_trans (gr_trans HG0.out ((Gr.refl w1).drewN _)) ((Gr.refl (w1.drewN _)).alloc _ _), src_lit (w1.drewN _) #[.int .u8 0] 5 1 1⟩
set_option maxRecDepth 100000 in
set_option maxHeartbeats 2000000 in
theorem fldw_no (op a b lo hi : Int) (l : List Int) (x : Option Addr) (n c : Nat) (w : World) (form : Int) (hf : form ≤ 1 ∨ 14 < form) : Calls Try.prog 25 #[.agg #[.int .i64 op, .int .i64 a, .int .i64 b, .int .u64 lo, .int .u64 hi, .slice x n c], .int .i64 form] w (BYS (fldL ⟨op, a, b, lo, hi, l⟩ form) w) := by
 obtain ⟨ua, hua⟩ : ∃ u, IntKind.u64.wrap a = u := ⟨_, rfl⟩
 obtain ⟨ub, hub⟩ : ∃ u, IntKind.u64.wrap b = u := ⟨_, rfl⟩
 have hin := heap_alloc_new w (.cells #[.int .i64 op, .int .i64 a, .int .i64 b, .int .u64 lo, .int .u64 hi, .slice x n c] 38)
 have HIN := Lib.hid hin
 have HG0 := Lib.hid ((Gr.refl w).alloc #[.int .i64 op, .int .i64 a, .int .i64 b, .int .u64 lo, .int .u64 hi, .slice x n c] 38)
 have i1 := (cells6 hin).2.1
 have i2 := (cells6 hin).2.2.1
 have i3 := (cells6 hin).2.2.2.1
 have i4 := (cells6 hin).2.2.2.2.1
 have n2 : (form == 2) = false := by simp; omega
 have n3 : (form == 3) = false := by simp; omega
 have n4 : (form == 4) = false := by simp; omega
 have n5 : (form == 5) = false := by simp; omega
 have n6 : (form == 6) = false := by simp; omega
 have n7 : (form == 7) = false := by simp; omega
 have n8 : (form == 8) = false := by simp; omega
 have n9 : (form == 9) = false := by simp; omega
 have n10 : (form == 10) = false := by simp; omega
 have n11 : (form == 11) = false := by simp; omega
 have n12 : (form == 12) = false := by simp; omega
 have n13 : (form == 13) = false := by simp; omega
 have n14 : (form == 14) = false := by simp; omega
 have HF0 := Lib.hid (show fldL ⟨op, a, b, lo, hi, l⟩ form = [] from by
  unfold fldL
  rw [if_neg (by omega), if_neg (by omega), if_neg (by omega), if_neg (by omega), if_neg (by omega), if_neg (by omega), if_neg (by omega), if_neg (by omega), if_neg (by omega), if_neg (by omega)])
 clear hf
 clear hin
 go_enter Try.func25, Try.ntmps25
 go_wp2_with fail
 generalize w.alloc (.cells #[.int .i64 op, .int .i64 a, .int .i64 b, .int .u64 lo, .int .u64 hi, .slice x n c] 38) = w1 at *
 go_quiet (fail)
 go_wp2
 go_ret
 rw [HF0.out]
 exact ⟨none, 0, rfl, gr_trans HG0.out ((Gr.refl w1).drewN _), .inl ⟨rfl, rfl, rfl⟩⟩
set_option maxRecDepth 100000 in
set_option maxHeartbeats 2000000 in
theorem fldw_4 (op a b lo hi : Int) (l : List Int) (x : Option Addr) (n c : Nat) (w : World) (hn : l.length = n) (hl : n ≤ 4294967296) (hr : LsR w (.slice x n c) l) (hlv : ∀ z ∈ l, 0 ≤ z ∧ z ≤ 4294967295) (ha : 0 ≤ a ∧ a ≤ 4294967295) : Calls Try.prog 25 #[.agg #[.int .i64 op, .int .i64 a, .int .i64 b, .int .u64 lo, .int .u64 hi, .slice x n c], .int .i64 4] w (BYS (fldL ⟨op, a, b, lo, hi, l⟩ 4) w) := by
 obtain ⟨ua, hua⟩ : ∃ u, IntKind.u64.wrap a = u := ⟨_, rfl⟩
 obtain ⟨ub, hub⟩ : ∃ u, IntKind.u64.wrap b = u := ⟨_, rfl⟩
 have hin := heap_alloc_new w (.cells #[.int .i64 op, .int .i64 a, .int .i64 b, .int .u64 lo, .int .u64 hi, .slice x n c] 38)
 have HIN := Lib.hid hin
 have HG0 := Lib.hid ((Gr.refl w).alloc #[.int .i64 op, .int .i64 a, .int .i64 b, .int .u64 lo, .int .u64 hi, .slice x n c] 38)
 have i1 := (cells6 hin).2.1
 have i2 := (cells6 hin).2.2.1
 have i3 := (cells6 hin).2.2.2.1
 have i4 := (cells6 hin).2.2.2.2.1
 obtain ⟨L, hL⟩ : ∃ L, formU (n : Int) ++ tabF l ++ formU a = L := ⟨_, rfl⟩
 have HT := Lib.hid (show ∀ wx, Gr w wx → Calls Try.prog 48 #[.agg #[.int .i64 op, .int .i64 a, .int .i64 b, .int .u64 lo, .int .u64 hi, .slice x n c]] wx (BYO L wx) from fun wx hg => hL ▸ table_any op a b lo hi l x n c hn wx hl (lsR_gr hr hg) hlv ha)
 have HLe := Lib.hid hL
 clear hL
 have HNN := Lib.hid hn
 clear hn hl hr hlv ha
 clear hin
 go_enter Try.func25, Try.ntmps25
 go_wp2_with fail
 generalize w.alloc (.cells #[.int .i64 op, .int .i64 a, .int .i64 b, .int .u64 lo, .int .u64 hi, .slice x n c] 38) = w1 at *
 go_quiet (fail)
 have hrow := gr_block ((Gr.refl w1).drewN nq) HIN.out
 go_wp2_with (refine wpList_load_row rfl 38 _ rfl w.heap.size rfl 38 #[.int .i64 op, .int .i64 a, .int .i64 b, .int .u64 lo, .int .u64 hi, .slice x n c] (0, 0) _ hrow Try.underlying38 rfl infoIn ?_)
 refine (HT.out _ (gr_trans HG0.out ((Gr.refl w1).drewN _))).mono ?_
 rintro e w9 hb9
 obtain ⟨x9, c9, rfl, hg9, hs9⟩ := bys_of hb9
 have HE := Lib.hid (And.intro (gr_trans (gr_trans HG0.out ((Gr.refl w1).drewN _)) hg9) hs9)
 clear hb9 hg9 hs9
 go_wp2
 go_ret
 have e0 : fldL ⟨op, a, b, lo, hi, l⟩ 4 = L := by rw [← HLe.out, ← HNN.out]; rfl
 rw [e0]
 exact ⟨x9, c9, rfl, HE.out⟩
set_option maxRecDepth 100000 in
set_option maxHeartbeats 2000000 in
theorem fldw_11 (op a b lo hi : Int) (l : List Int) (x : Option Addr) (n c : Nat) (w : World)  : Calls Try.prog 25 #[.agg #[.int .i64 op, .int .i64 a, .int .i64 b, .int .u64 lo, .int .u64 hi, .slice x n c], .int .i64 11] w (BYS (fldL ⟨op, a, b, lo, hi, l⟩ 11) w) := by
 obtain ⟨ua, hua⟩ : ∃ u, IntKind.u64.wrap a = u := ⟨_, rfl⟩
 obtain ⟨ub, hub⟩ : ∃ u, IntKind.u64.wrap b = u := ⟨_, rfl⟩
 have hin := heap_alloc_new w (.cells #[.int .i64 op, .int .i64 a, .int .i64 b, .int .u64 lo, .int .u64 hi, .slice x n c] 38)
 have HIN := Lib.hid hin
 have HG0 := Lib.hid ((Gr.refl w).alloc #[.int .i64 op, .int .i64 a, .int .i64 b, .int .u64 lo, .int .u64 hi, .slice x n c] 38)
 have i1 := (cells6 hin).2.1
 have i2 := (cells6 hin).2.2.1
 have i3 := (cells6 hin).2.2.2.1
 have i4 := (cells6 hin).2.2.2.2.1
 have HJ := Lib.hid (fun wx => join_any lo hi wx)
 clear hin
 go_enter Try.func25, Try.ntmps25
 go_wp2_with fail
 generalize w.alloc (.cells #[.int .i64 op, .int .i64 a, .int .i64 b, .int .u64 lo, .int .u64 hi, .slice x n c] 38) = w1 at *
 go_quiet (fail)
 go_wp2_with fail
 refine (HJ.out _).mono ?_
 rintro e w9 ⟨rfl, hg9⟩
 have HG9 := Lib.hid (gr_trans (gr_trans HG0.out ((Gr.refl w1).drewN _)) hg9)
 clear hg9
 go_upto_region 22 with (refine wpList_store_row rfl 85 _ _ rfl w9.heap.size (bs (vecB lo hi)) rfl rfl 85 (bs fun _ => 0) (heap_alloc_new w9 _) infoV rfl (bs_one _) ?_)
 have HV := Lib.hid (setRow_block (c := bs (vecB lo hi)) (heap_alloc_new w9 (.cells (bs fun _ => 0) 85)))
 have HGA := Lib.hid (gr_setRow (gr_trans HG9.out ((Gr.refl w9).alloc (bs fun _ => 0) 85)) (g := w9.heap.size) HG9.out.size (bs (vecB lo hi)))
 generalize (w9.alloc (.cells (bs fun _ => 0) 85)).setRow w9.heap.size (bs (vecB lo hi)) = wA at *
 go_wp2
 go_ret
 refine ⟨some ⟨w9.heap.size, 0, none⟩, 16, rfl, HGA.out, .inr ⟨_, 16, rfl, fun j u hu => ?_⟩⟩
 have hj : j < 16 := by
  have := (List.getElem?_eq_some_iff.1 hu).1
  simpa [u8s, vecL, fldL] using this
 have hu2 : (bs (vecB lo hi)).toList[j]? = some u := by rw [← vecL_bs]; exact hu
 rw [add_at, Nat.zero_add, cell_of_row _ _ j _ _ _ HV.out]
 rw [Array.getElem?_toList] at hu2
 exact hu2
set_option maxRecDepth 100000 in
set_option maxHeartbeats 2000000 in
theorem fldw_12 (op a b lo hi : Int) (l : List Int) (x : Option Addr) (n c : Nat) (w : World)  : Calls Try.prog 25 #[.agg #[.int .i64 op, .int .i64 a, .int .i64 b, .int .u64 lo, .int .u64 hi, .slice x n c], .int .i64 12] w (BYS (fldL ⟨op, a, b, lo, hi, l⟩ 12) w) := by
 obtain ⟨ua, hua⟩ : ∃ u, IntKind.u64.wrap a = u := ⟨_, rfl⟩
 obtain ⟨ub, hub⟩ : ∃ u, IntKind.u64.wrap b = u := ⟨_, rfl⟩
 have hin := heap_alloc_new w (.cells #[.int .i64 op, .int .i64 a, .int .i64 b, .int .u64 lo, .int .u64 hi, .slice x n c] 38)
 have HIN := Lib.hid hin
 have HG0 := Lib.hid ((Gr.refl w).alloc #[.int .i64 op, .int .i64 a, .int .i64 b, .int .u64 lo, .int .u64 hi, .slice x n c] 38)
 have i1 := (cells6 hin).2.1
 have i2 := (cells6 hin).2.2.1
 have i3 := (cells6 hin).2.2.2.1
 have i4 := (cells6 hin).2.2.2.2.1
 have HJ := Lib.hid (fun wx => join_any lo hi wx)
 clear hin
 go_enter Try.func25, Try.ntmps25
 go_wp2_with fail
 generalize w.alloc (.cells #[.int .i64 op, .int .i64 a, .int .i64 b, .int .u64 lo, .int .u64 hi, .slice x n c] 38) = w1 at *
 go_quiet (fail)
 go_wp2_with fail
 refine (HJ.out _).mono ?_
 rintro e w9 ⟨rfl, hg9⟩
 have HG9 := Lib.hid (gr_trans (gr_trans HG0.out ((Gr.refl w1).drewN _)) hg9)
 clear hg9
 go_upto_region 22 with (refine wpList_store_row rfl 85 _ _ rfl w9.heap.size (bs (vecB lo hi)) rfl rfl 85 (bs fun _ => 0) (heap_alloc_new w9 _) infoV rfl (bs_one _) ?_)
 have HV := Lib.hid (setRow_block (c := bs (vecB lo hi)) (heap_alloc_new w9 (.cells (bs fun _ => 0) 85)))
 have HGA := Lib.hid (gr_setRow (gr_trans HG9.out ((Gr.refl w9).alloc (bs fun _ => 0) 85)) (g := w9.heap.size) HG9.out.size (bs (vecB lo hi)))
 generalize (w9.alloc (.cells (bs fun _ => 0) 85)).setRow w9.heap.size (bs (vecB lo hi)) = wA at *
 go_wp2
 go_ret
 refine ⟨some ⟨w9.heap.size, 0, none⟩, 16, rfl, HGA.out, .inr ⟨_, 16, rfl, fun j u hu => ?_⟩⟩
 have hj : j < 16 := by
  have := (List.getElem?_eq_some_iff.1 hu).1
  simpa [u8s, vecL, fldL] using this
 have hu2 : (bs (vecB lo hi)).toList[j]? = some u := by rw [← vecL_bs]; exact hu
 rw [add_at, Nat.zero_add, cell_of_row _ _ j _ _ _ HV.out]
 rw [Array.getElem?_toList] at hu2
 exact hu2
set_option maxRecDepth 100000 in
set_option maxHeartbeats 2000000 in
theorem fldw_8 (op a b lo hi : Int) (l : List Int) (x : Option Addr) (n c : Nat) (w : World) (ha : 0 ≤ a ∧ a < 18446744073709551616) (hb : 0 ≤ b ∧ b < 18446744073709551616) : Calls Try.prog 25 #[.agg #[.int .i64 op, .int .i64 a, .int .i64 b, .int .u64 lo, .int .u64 hi, .slice x n c], .int .i64 8] w (BYS (fldL ⟨op, a, b, lo, hi, l⟩ 8) w) := by
 obtain ⟨ua, hua⟩ : ∃ u, IntKind.u64.wrap a = u := ⟨_, rfl⟩
 obtain ⟨ub, hub⟩ : ∃ u, IntKind.u64.wrap b = u := ⟨_, rfl⟩
 have hin := heap_alloc_new w (.cells #[.int .i64 op, .int .i64 a, .int .i64 b, .int .u64 lo, .int .u64 hi, .slice x n c] 38)
 have HIN := Lib.hid hin
 have HG0 := Lib.hid ((Gr.refl w).alloc #[.int .i64 op, .int .i64 a, .int .i64 b, .int .u64 lo, .int .u64 hi, .slice x n c] 38)
 have i1 := (cells6 hin).2.1
 have i2 := (cells6 hin).2.2.1
 have i3 := (cells6 hin).2.2.2.1
 have i4 := (cells6 hin).2.2.2.2.1
 have eua : ua = a := by rw [← hua, IntKind.wrap_u64]; omega
 rw [eua] at hua
 clear eua
 have eub : ub = b := by rw [← hub, IntKind.wrap_u64]; omega
 rw [eub] at hub
 clear eub
 have HP := Lib.hid (fun (wx : World) (g2 : Nat) (t : TypeId) (z : Nat × Nat) (hr : wx.heap[g2]? = some (.cells #[.int .u64 a, .int .u64 b] t z)) => putu2 ha hb hr)
 obtain ⟨M, hM⟩ : ∃ M, formU a ++ formU b = M := ⟨_, rfl⟩
 obtain ⟨m, hm⟩ : ∃ m, M.length = m := ⟨_, rfl⟩
 have HF8 := Lib.hid (show fldL ⟨op, a, b, lo, hi, l⟩ 8 = M ++ [lo % 256] from hM ▸ rfl)
 have HML := Lib.hid (show m ≤ 20 from by rw [← hm, ← hM, List.length_append]; have := formU_len a; have := formU_len b; omega)
 rw [hM] at HP
 have HM := Lib.hid hm
 clear ha hb hM hm
 obtain ⟨i0, hi, hz0, hz1, hz2⟩ := info_parts info8
 have HI := Lib.hid hi
 have HZ0 := Lib.hid hz0
 have HZ1 := Lib.hid hz1
 have HZ2 := Lib.hid hz2
 clear hi hz0 hz1 hz2
 clear hin
 go_enter Try.func25, Try.ntmps25
 go_wp2_with fail
 generalize w.alloc (.cells #[.int .i64 op, .int .i64 a, .int .i64 b, .int .u64 lo, .int .u64 hi, .slice x n c] 38) = w1 at *
 go_quiet (fail)
 have HC0 := Lib.hid ((cells6 (gr_block ((Gr.refl w1).drewN nq) HIN.out)).2.2.2.1)
 have HG1 := Lib.hid (gr_trans HG0.out ((Gr.refl w1).drewN nq))
 have hlt1 : w.heap.size < (w1.drewN nq).heap.size := (Array.getElem?_eq_some_iff.1 (gr_block ((Gr.refl w1).drewN nq) HIN.out)).1
 have HSZ := Lib.hid hlt1
 clear hlt1
 go_wp2_with fail
 generalize w1.drewN nq = wq at *
 have HC := HC0
 refine wp_region_facs [0, 0, 3, 7, 0, 16, 48, 112, 255, 511] [(fun wx => wx.cell? ⟨w.heap.size, 3, none⟩ = some (.int .u64 lo), [])] (fun jφ => match jφ with | 2 => [8] | 3 => [8] | 7 => [8] | _ => []) (fun kx q => kx = 8 ∧ wq.heap.size ≤ q) (fun jφ v wn => match jφ with | 0 => v = .int .u64 a | 1 => v = .int .u64 b | 2 => ∃ g2, v = .slice (some ⟨g2, 0, none⟩) 2 2 ∧ wn.heap[g2]? = some (.cells #[.int .u64 a, .int .u64 b] 35 (0, 0)) | 3 => ∃ x c, v = .slice x m c ∧ wn.ownsRow wq.heap.size 5 1 (.slice x m c) m (u8s M) | 4 => v = .pointer (some ⟨w.heap.size, 3, none⟩) | 5 => v = .int .u64 lo | 6 => v = .int .u8 (lo % 256) | 7 => ∃ g2, v = .slice (some ⟨g2, 0, none⟩) 1 1 ∧ wn.heap[g2]? = some (.cells #[.int .u8 (lo % 256)] 5 (0, 0)) | 8 => ∃ x c, v = .slice x (m + 1) c ∧ wn.ownsRow wq.heap.size 5 1 (.slice x (m + 1) c) (m + 1) (u8s (M ++ [lo % 256])) | 9 => ∃ x c, v = .slice x (m + 1) c ∧ wn.ownsRow wq.heap.size 5 1 (.slice x (m + 1) c) (m + 1) (u8s (M ++ [lo % 256])) | _ => True) (by kernel_rfl) (by kernel_rfl) (by kernel_rfl) ?_ ?_ ?_ ?_ ?_
 ·exact ⟨HC.out, trivial⟩
 ·exact ⟨(fun k hk w1 w2 hs h => hs.cell (fun hx => by have := HSZ.out; omega) h), trivial⟩
 ·intro j k hjk hb haf v w1 w2 hS h
  match j, hjk, hb, haf, h with
  | 0, hjk, hb, haf, h => exact h
  | 1, hjk, hb, haf, h => exact h
  | 2, hjk, hb, haf, h => have hg := gr_of_sep (hS.mono fun q hq => hb (by simp [hq.1])); obtain ⟨g2, h1, h2⟩ := h; exact ⟨g2, h1, gr_block hg h2⟩
  | 3, hjk, hb, haf, h => have hg := gr_of_sep (hS.mono fun q hq => hb (by simp [hq.1])); obtain ⟨x, c, h1, h2⟩ := h; exact ⟨x, c, h1, own_gr h2 hg⟩
  | 4, hjk, hb, haf, h => exact h
  | 5, hjk, hb, haf, h => exact h
  | 6, hjk, hb, haf, h => exact h
  | 7, hjk, hb, haf, h => have hg := gr_of_sep (hS.mono fun q hq => hb (by simp [hq.1])); obtain ⟨g2, h1, h2⟩ := h; exact ⟨g2, h1, gr_block hg h2⟩
  | 8, hjk, hb, haf, h => have hg := gr_of_sep (hS.mono fun q hq => hjk hq.1); obtain ⟨x, c, h1, h2⟩ := h; exact ⟨x, c, h1, own_gr h2 hg⟩
  | 9, hjk, hb, haf, h => have hg := gr_of_sep (hS.mono fun q hq => not_aft haf (m := 8) (by kernel_rfl) hq.1); obtain ⟨x, c, h1, h2⟩ := h; exact ⟨x, c, h1, own_gr h2 hg⟩
  | _ + 10, _, _, _, _ => trivial
 ·refine ⟨?_, ?_, ?_, ?_, ?_, ?_, ?_, ?_, ?_, ?_, trivial⟩
  ·refine FacStep.of rfl fun ρ wx hu => ?_
   have e5 : ρ (.tmp 5) = (.int .u64 a) := hu.slot 5 (by kernel_rfl)
   go_simp
   exact ⟨rfl, Sep.refl _⟩
  ·refine FacStep.of rfl fun ρ wx hu => ?_
   have e6 : ρ (.tmp 6) = (.int .u64 b) := hu.slot 6 (by kernel_rfl)
   go_simp
   exact ⟨rfl, Sep.refl _⟩
  ·refine FacStep.of rfl fun ρ wx hu => ?_
   have e40 : ρ (.tmp 40) = (.int .u64 a) := hu.dep 0 40 (by kernel_rfl)
   have e41 : ρ (.tmp 41) = (.int .u64 b) := hu.dep 1 41 (by kernel_rfl)
   go_simp
   exact ⟨⟨_, rfl, heap_alloc_new _ _⟩, Sep.of_gr ((Gr.refl _).allocO _)⟩
  ·refine FacStep.of rfl fun ρ wx hu => ?_
   have ef46 : ρ (.func 46) = .func (.func 46) #[] #[] := hu.fn 46
   obtain ⟨g2, e42, hb42⟩ : ∃ g2, ρ (.tmp 42) = .slice (some ⟨g2, 0, none⟩) 2 2 ∧ wx.heap[g2]? = some (.cells #[.int .u64 a, .int .u64 b] 35 (0, 0)) := hu.dep 2 42 (by kernel_rfl)
   have hsz := hu.sep.size
   have HHb := Lib.hid hb42
   clear hb42
   go_simp
   exact (HP.out wx g2 _ _ HHb.out).mono fun e w5 ⟨sv, h1, h2, h3⟩ => by
    obtain ⟨x9, c9, rfl⟩ := own_slice h3
    rw [HM.out] at h3 h1
    exact ⟨_, h1, ⟨x9, c9, rfl, own_base h3 hsz⟩, Sep.of_gr h2⟩
  ·refine FacStep.of rfl fun ρ wx hu => ?_
   have e2 : ρ (.tmp 2) = (.pointer (some ⟨w.heap.size, 0, none⟩)) := hu.slot 2 (by kernel_rfl)
   go_simp
   exact ⟨rfl, Sep.refl _⟩
  ·refine FacStep.of rfl fun ρ wx hu => ?_
   have e44 : ρ (.tmp 44) = (.pointer (some ⟨w.heap.size, 3, none⟩)) := hu.dep 4 44 (by kernel_rfl)
   have hc := hu.fac 0 _ _ rfl (by kernel_rfl)
   go_simp
   exact ⟨rfl, Sep.refl _⟩
  ·refine FacStep.of rfl fun ρ wx hu => ?_
   have e45 : ρ (.tmp 45) = (.int .u64 lo) := hu.dep 5 45 (by kernel_rfl)
   have T9 : IntKind.u8.wrap lo = lo % 256 := by rw [IntKind.wrap_u8]
   go_simp
   exact ⟨rfl, Sep.refl _⟩
  ·refine FacStep.of rfl fun ρ wx hu => ?_
   have e46 : ρ (.tmp 46) = (.int .u8 (lo % 256)) := hu.dep 6 46 (by kernel_rfl)
   go_simp
   exact ⟨⟨_, rfl, heap_alloc_new _ _⟩, Sep.of_gr ((Gr.refl _).allocO _)⟩
  ·refine FacStep.of rfl fun ρ wx hu => ?_
   obtain ⟨x3, c3, e43, ho⟩ : ∃ x c, ρ (.tmp 43) = .slice x m c ∧ wx.ownsRow wq.heap.size 5 1 (.slice x m c) m (u8s M) := hu.dep 3 43 (by kernel_rfl)
   obtain ⟨g7, e47, hb47⟩ : ∃ g2, ρ (.tmp 47) = .slice (some ⟨g2, 0, none⟩) 1 1 ∧ wx.heap[g2]? = some (.cells #[.int .u8 (lo % 256)] 5 (0, 0)) := hu.dep 7 47 (by kernel_rfl)
   have hsz := hu.sep.size
   refine fac_append _ _ 22 rfl wq.heap.size 5 i0 (.int .u8 0) 1 1 Try.underlying22 HI.out HZ0.out HZ1.out HZ2.out rfl (by decide) (.slice x3 m c3) m (u8s M) e43 ho _ 1 (u8s [lo % 256]) e47 ?_ rfl (u8s_one _) (by unfold maxLen; have := HML.out; omega) (by have := HML.out; omega) hsz (fun q hq => ⟨rfl, (ho.lt q hq).1⟩) ?_
   ·exact .inr ⟨_, _, rfl, fun j u hu => by
     rw [add_at, Nat.zero_add, cell_of_row _ _ j _ _ _ hb47]
     exact (Array.getElem?_toList ..).symm.trans hu⟩
   ·intro v2 w2 h2 h3 h4
    obtain ⟨x2, c2, rfl⟩ := own_slice h2
    exact ⟨x2, c2, rfl, by rw [u8s_app]; exact h2⟩
  ·refine FacStep.of rfl fun ρ wx hu => ?_
   have h48 := Lib.hid (hu.dep 8 48 (by kernel_rfl))
   go_simp
   exact ⟨h48.out, Sep.refl _⟩
 ·intro V wN hS hV hC
  obtain ⟨x2, c2, b1, b2⟩ := hV 9 _ rfl rfl
  have HE := Lib.hid (show Gr w wN from Sep.toGr (gr_trans HG1.out (Gr.drew (Gr.refl wq))) (hS.mono fun q ⟨_, hq⟩ => (hq.2 : (fun q => wq.heap.size ≤ q) q)) (fun q hq => Nat.le_trans HG1.out.size hq))
  have HB2 := Lib.hid b2
  have e4 : V 4 = .slice x2 (m + 1) c2 := b1
  clear hV hC hS b1 b2
  simp only [putAll, Act.put, Option.map_some, Option.getD_some, List.setIfInBounds_toArray, List.set_cons_succ, List.set_cons_zero]
  rw [e4]
  go_wp2
  go_ret
  rw [HF8.out]
  have hl9 : (M ++ [lo % 256]).length = m + 1 := by rw [List.length_append, HM.out]; rfl
  unfold BYS
  rw [hl9]
  exact ⟨x2, c2, rfl, HE.out, src_own HB2.out⟩
structure InOk (d : In) : Prop where
 op : -9223372036854775808 ≤ d.op ∧ d.op ≤ 9223372036854775807
 a : -9223372036854775808 ≤ d.a ∧ d.a ≤ 9223372036854775807
 lo : 0 ≤ d.lo ∧ d.lo < 18446744073709551616
 hi : 0 ≤ d.hi ∧ d.hi < 18446744073709551616
 l : d.l.length ≤ 4294967296
theorem idx_bd {n : Int} (h : idxB n = true) : 0 ≤ n ∧ n ≤ 4294967295 := by
 unfold idxB at h
 simpa using h
theorem fldw_any (op a b lo hi : Int) (l : List Int) (x : Option Addr) (n c : Nat) (w : World) (hok : InOk ⟨op, a, b, lo, hi, l⟩) (hn : l.length = n) (hr : LsR w (.slice x n c) l) (form : Int) (hfit : fitB ⟨op, a, b, lo, hi, l⟩ form = true) :
  Calls Try.prog 25 #[.agg #[.int .i64 op, .int .i64 a, .int .i64 b, .int .u64 lo, .int .u64 hi, .slice x n c], .int .i64 form] w (BYS (fldL ⟨op, a, b, lo, hi, l⟩ form) w) := by
 by_cases hf : form ≤ 1 ∨ 14 < form
 ·exact fldw_no op a b lo hi l x n c w form hf
 ·have hc : form = 2 ∨ form = 3 ∨ form = 4 ∨ form = 5 ∨ form = 6 ∨ form = 7 ∨ form = 8 ∨ form = 9 ∨ form = 10 ∨ form = 11 ∨ form = 12 ∨ form = 13 ∨ form = 14 := by omega
  have hi64 : ∀ {z : Int}, idxB z = true → 0 ≤ z ∧ z < 18446744073709551616 := fun h => by have := idx_bd h; omega
  rcases hc with rfl | rfl | rfl | rfl | rfl | rfl | rfl | rfl | rfl | rfl | rfl | rfl | rfl
  ·exact fldw_2 op a b lo hi l x n c w hok.a
  ·have h : (idxB a && (b == 0) && (lo == 0) && (hi == 0) && (l.length == 0)) = true := hfit
   simp only [Bool.and_eq_true] at h
   exact fldw_3 op a b lo hi l x n c w (hi64 h.1.1.1.1)
  ·have h : (idxB a && l.all idxB && (b == 0) && (lo == 0) && (hi == 0)) = true := hfit
   simp only [Bool.and_eq_true] at h
   exact fldw_4 op a b lo hi l x n c w hn (hn ▸ hok.l) hr (fun z hz => idx_bd (List.all_eq_true.1 h.1.1.1.2 z hz)) (idx_bd h.1.1.1.1)
  ·have h : (idxB a && (b == 0) && (lo == 0) && (hi == 0) && (l.length == 0)) = true := hfit
   simp only [Bool.and_eq_true] at h
   exact fldw_5 op a b lo hi l x n c w (hi64 h.1.1.1.1)
  ·have h : (idxB a && idxB b && (lo == 0) && (hi == 0) && (l.length == 0)) = true := hfit
   simp only [Bool.and_eq_true] at h
   exact fldw_6 op a b lo hi l x n c w (hi64 h.1.1.1.1) (hi64 h.1.1.1.2)
  ·have h : (idxB a && idxB b && (lo == 0) && (hi == 0) && (l.length == 0)) = true := hfit
   simp only [Bool.and_eq_true] at h
   exact fldw_7 op a b lo hi l x n c w (hi64 h.1.1.1.1) (hi64 h.1.1.1.2)
  ·have h : (idxB a && idxB b && decide (lo ≤ 255) && (hi == 0) && (l.length == 0)) = true := hfit
   simp only [Bool.and_eq_true] at h
   exact fldw_8 op a b lo hi l x n c w (hi64 h.1.1.1.1) (hi64 h.1.1.1.2)
  ·exact fldw_9 op a b lo hi l x n c w hok.lo
  ·exact fldw_10 op a b lo hi l x n c w hok.lo
  ·exact fldw_11 op a b lo hi l x n c w
  ·exact fldw_12 op a b lo hi l x n c w
  ·exact fldw_13 op a b lo hi l x n c w
  ·exact fldw_14 op a b lo hi l x n c w
end Ex
end Go.Proofs.Ytebkabidojipoaa
/- ExJ -/
namespace Go.Proofs.Ytebkabidojipoaa
open Go.RowKit VecM LebM
namespace Ex
theorem instruction_any {w : World} {g : Nat} {sv ov : Value} {s : St} {cl : Bool} {len : Nat} {f : Nat → Int} {N : List Int} (hf : By f) (hm : Ins.Mx w) (hg : 0 < g) (h : RS w g sv s ov cl) (hn : NS w g ov N) (hb : Bys w g sv len f) (hok : Ok len s) (hsv : ∀ k, sv.ownBlock = some k → k < w.heap.size) (hN : N.length ≤ 100000) :
  Calls Try.prog 15 #[.pointer (some ⟨g, 0, none⟩)] w (INS w g sv ov (insS f len s N cl)) := by
 by_cases he : (opcS f len s).2.e = 0
 ·have hbd := opcS_bd hf (len := len) s
  unfold insS
  rw [if_neg (by simpa using he)]
  obtain ⟨op, sa, ho⟩ : ∃ op sa, opcS f len s = (op, ⟨sa, 0⟩) := ⟨(opcS f len s).1, (opcS f len s).2.a, by rw [← he]⟩
  rw [ho] at hbd ⊢
  dsimp only at hbd ⊢
  by_cases hfl : Ins.floatB op = true
  ·have e1 : opSt op ⟨sa, 0⟩ = ⟨sa, 11⟩ := by unfold opSt; rw [if_pos hfl]; rfl
   rw [e1]
   have he2 : (fldS f len (fm op) op ⟨sa, 11⟩).2.e ≠ 0 := by
    have h0 : fm op = 0 := Classical.byContradiction fun hne => by
     have := (fm_float (by omega) hne).1
     rw [hfl] at this; cases this
    rw [h0]; show (11 : Int) ≠ 0; decide
   rw [if_pos he2]
   exact ins_float hf hm hg h hn hb hok hsv hN sa op ho hfl _ _ rfl he2
  ·have hfl' : Ins.floatB op = false := by simpa using hfl
   by_cases hfm : fm op = 0
   ·have e1 : opSt op ⟨sa, 0⟩ = ⟨sa, 10⟩ := by unfold opSt; rw [if_neg hfl, if_pos hfm]; rfl
    rw [e1]
    have he2 : (fldS f len (fm op) op ⟨sa, 10⟩).2.e ≠ 0 := by
     rw [hfm]; show (10 : Int) ≠ 0; decide
    rw [if_pos he2]
    exact ins_none hf hm hg h hn hb hok hsv hN sa op ho hfl' hfm _ _ rfl he2
   ·have e1 : opSt op ⟨sa, 0⟩ = ⟨sa, 0⟩ := by unfold opSt; rw [if_neg hfl, if_neg hfm]
    rw [e1]
    obtain ⟨d, s2, hr⟩ : ∃ d s2, fldS f len (fm op) op ⟨sa, 0⟩ = (d, s2) := ⟨_, _, rfl⟩
    rw [hr]
    dsimp only
    by_cases he2 : s2.e = 0
    ·rw [if_neg (by simpa using he2)]
     obtain ⟨b, N1, cl1, hst⟩ : ∃ b N1 cl1, stepN op (fm op) N cl = (b, N1, cl1) := ⟨_, _, _, rfl⟩
     rw [hst]
     dsimp only
     by_cases hf2 : fm op = 2
     ·by_cases hfu : N.length = 128
      ·rw [if_pos ⟨hf2, hfu⟩]
       exact ins_full hf hm hg h hn hb hok hsv hN sa op ho hfl' hfm d s2 hr he2 hf2 (by rw [hfu]; rfl)
      ·rw [if_neg (fun e => hfu e.2)]
       have hful : ((N.length : Int) == 128) = false := by simp; omega
       cases b with
       | true =>
        rw [if_pos rfl]
        exact ins_roomY hf hm hg h hn hb hok hsv hN sa op ho hfl' hfm d s2 hr he2 hf2 hful N1 cl1 hst
       | false =>
        rw [if_neg (by decide)]
        exact ins_roomN hf hm hg h hn hb hok hsv hN sa op ho hfl' hfm d s2 hr he2 hf2 hful N1 cl1 hst
     ·rw [if_neg (fun e => hf2 e.1)]
      cases b with
      | true =>
       rw [if_pos rfl]
       exact ins_plainY hf hm hg h hn hb hok hsv hN sa op ho hfl' hfm d s2 hr he2 hf2 N1 cl1 hst
      | false =>
       rw [if_neg (by decide)]
       exact ins_plainN hf hm hg h hn hb hok hsv hN sa op ho hfl' hfm d s2 hr he2 hf2 N1 cl1 hst
    ·rw [if_pos he2]
     exact ins_err hf hm hg h hn hb hok hsv hN sa op ho hfl' hfm d s2 hr he2
 ·have e1 : insS f len s N cl = (⟨0, 0, 0, 0, 0, []⟩, (opcS f len s).2, N, cl) := by unfold insS; rw [if_pos he]
  rw [e1]
  exact ins_fails hf hm hg h hn hb hok hsv hN he
theorem failS_a (s : St) (x : Int) : (failS s x).a = s.a := by unfold failS; split <;> rfl
theorem failS_e {s : St} {x : Int} (hx : x ≠ 0) : (failS s x).e ≠ 0 := by
 unfold failS; split
 ·exact hx
 ·assumption
theorem numS_a {f : Nat → Int} {len : Nat} (s : St) : s.a ≤ (numS f len s).2.a := by
 unfold numS; split
 ·rw [failS_a]; exact Int.le_refl _
 ·rename_i h1
  have := read_to (sg := false) (f := f) (len := len) (a := s.a) (bits := 32) (by simp at h1; exact h1.2)
  exact Int.le_of_lt this.2.1
theorem sgnS_a {f : Nat → Int} {len : Nat} {bits : Int} (s : St) : s.a ≤ (sgnS f len bits s).2.a := by
 unfold sgnS; split
 ·rw [failS_a]; exact Int.le_refl _
 ·rename_i h1
  have := read_to (sg := true) (f := f) (len := len) (a := s.a) (bits := bits) (by simp at h1; exact h1.2)
  exact Int.le_of_lt this.2.1
theorem octS_a {f : Nat → Int} {len : Nat} (s : St) : s.a ≤ (octS f len s).2.a := by
 unfold octS; split
 ·rw [failS_a]; exact Int.le_refl _
 ·show s.a ≤ s.a + 1; omega
theorem typS_a {f : Nat → Int} {len : Nat} (s : St) : s.a ≤ (typS f len s).2.a := by
 unfold typS; dsimp only; split
 ·rw [failS_a]; exact sgnS_a s
 ·exact sgnS_a s
theorem blkS_a {f : Nat → Int} {len : Nat} (s : St) : s.a ≤ (blkS f len s).2.a := by
 unfold blkS; split
 ·split
  ·exact sgnS_a s
  ·split
   ·have := typS_a (f := f) (len := len) (failS s 11)
    rwa [failS_a] at this
   ·exact typS_a s
 ·exact typS_a s
theorem octsS_a {f : Nat → Int} {len : Nat} : ∀ (k : Nat) (s : St), s.a ≤ (octsS f len k s).2.a
 | 0, _ => Int.le_refl _
 | k + 1, s => Int.le_trans (octsS_a k s) (octS_a _)
theorem tabS_a {f : Nat → Int} {len : Nat} : ∀ (k : Nat) (l : List Int) (s : St), s.a ≤ (tabS f len k l s).2.a
 | 0, _, _ => Int.le_refl _
 | k + 1, l, s => by
  unfold tabS; split
  ·exact Int.le_trans (numS_a s) (tabS_a k _ _)
  ·exact Int.le_refl _
theorem halS_st (f : Nat → Int) (len : Nat) (s : St) : (halS f len s).2 = (octsS f len 16 s).2 := by unfold halS; rfl
theorem fldS_a {f : Nat → Int} {len : Nat} (form op : Int) (s : St) : s.a ≤ (fldS f len form op s).2.a := by
 unfold fldS
 split
 ·exact blkS_a s
 split
 ·exact numS_a s
 split
 ·exact Int.le_trans (numS_a s) (Int.le_trans (tabS_a _ _ _) (numS_a _))
 split
 ·exact Int.le_trans (numS_a s) (numS_a _)
 split
 ·exact Int.le_trans (numS_a s) (Int.le_trans (numS_a _) (octS_a _))
 split
 ·exact sgnS_a s
 split
 ·exact sgnS_a s
 split
 ·dsimp only; rw [halS_st]; exact octsS_a 16 s
 split
 ·exact octS_a s
 split
 ·dsimp only; split
  ·rw [failS_a]; exact octS_a s
  ·exact octS_a s
 ·exact Int.le_refl _
theorem fldS_ok {f : Nat → Int} {len : Nat} (form op : Int) {s : St} (h : Ok len s) : Ok len (fldS f len form op s).2 := by
 unfold fldS
 split
 ·exact blkS_ok h
 split
 ·exact numS_ok h
 split
 ·exact numS_ok (tabS_ok _ _ (numS_ok h))
 split
 ·exact numS_ok (numS_ok h)
 split
 ·exact octS_ok (numS_ok (numS_ok h))
 split
 ·exact sgnS_ok h
 split
 ·exact sgnS_ok h
 split
 ·dsimp only; rw [halS_st]; exact octsS_ok 16 h
 split
 ·exact octS_ok h
 split
 ·dsimp only; split
  ·exact (octS_ok h).fail _
  ·exact octS_ok h
 ·exact h
theorem opcS_a {f : Nat → Int} {len : Nat} {s : St} (h : (opcS f len s).2.e = 0) : s.a < (opcS f len s).2.a := by
 have hoct : (octS f len s).2.e = 0 → s.a < (octS f len s).2.a := by
  intro h1
  unfold octS at h1 ⊢
  split at h1
  ·exact absurd h1 (failS_e (by decide))
  ·rename_i h2
   rw [if_neg h2]
   show s.a < s.a + 1; omega
 unfold opcS at h ⊢
 split at h
 ·rename_i h1
  rw [if_pos h1]
  have h3 : (octS f len s).2.e = 0 := by
   refine Classical.byContradiction fun hne => ?_
   have : (numS f len (octS f len s).2).2.e ≠ 0 := by
    unfold numS; rw [if_pos (.inl hne)]; exact failS_e (by decide)
   exact this h
  exact Int.lt_of_lt_of_le (hoct h3) (numS_a _)
 ·rename_i h1
  rw [if_neg h1]
  split at h
  ·exact absurd h (failS_e (by decide))
  ·rename_i h2
   rw [if_neg h2]
   exact hoct h
theorem opSt_ok {len : Nat} {op : Int} {s : St} (h : Ok len s) : Ok len (opSt op s) := by
 unfold opSt; split
 ·exact h.fail _
 ·split
  ·exact h.fail _
  ·exact h
theorem opSt_a (op : Int) (s : St) : (opSt op s).a = s.a := by
 unfold opSt; split
 ·exact failS_a _ _
 ·split
  ·exact failS_a _ _
  ·rfl
theorem insS_ok {f : Nat → Int} {len : Nat} {s : St} {N : List Int} {cl : Bool} (h : Ok len s) : Ok len (insS f len s N cl).2.1 := by
 unfold insS
 split
 ·exact opcS_ok h
 ·have h2 := fldS_ok (f := f) (fm (opcS f len s).1) (opcS f len s).1 (opSt_ok (op := (opcS f len s).1) (opcS_ok (f := f) h))
  dsimp only
  split
  ·exact h2
  ·split
   ·exact h2.fail _
   ·dsimp only; split
    ·exact h2
    ·exact h2.fail _
theorem insS_a {f : Nat → Int} {len : Nat} {s : St} {N : List Int} {cl : Bool} (h : (insS f len s N cl).2.1.e = 0) : s.a < (insS f len s N cl).2.1.a := by
 unfold insS at h ⊢
 split at h
 ·rename_i h1; exact absurd h h1
 ·rename_i h1
  rw [if_neg h1]
  have h2 : s.a < (fldS f len (fm (opcS f len s).1) (opcS f len s).1 (opSt (opcS f len s).1 (opcS f len s).2)).2.a := by
   have h3 := opcS_a (f := f) (len := len) (s := s) (by simpa using h1)
   have h4 := fldS_a (f := f) (len := len) (fm (opcS f len s).1) (opcS f len s).1 (opSt (opcS f len s).1 (opcS f len s).2)
   rw [opSt_a] at h4
   omega
  dsimp only at h ⊢
  split at h
  ·rename_i h3; exact absurd h h3
  ·rename_i h3
   rw [if_neg h3]
   split at h
   ·exact absurd h (failS_e (by decide))
   ·rename_i h4
    rw [if_neg h4]
    dsimp only at h ⊢
    split
    ·exact h2
    ·rw [failS_a]; exact h2
theorem insS_N {f : Nat → Int} {len : Nat} {s : St} {N : List Int} {cl : Bool} (h : N.length ≤ 128) : (insS f len s N cl).2.2.1.length ≤ 128 := by
 unfold insS
 split
 ·exact h
 ·dsimp only
  split
  ·exact h
  ·split
   ·exact h
   ·rename_i h4
    dsimp only
    unfold stepN
    split
    ·exact h
    ·split
     ·rename_i h5
      have : N.length ≠ 128 := fun e => h4 ⟨h5, e⟩
      simp only [List.length_append, List.length_cons, List.length_nil]; omega
     ·split
      ·split
       ·simp only [List.length_append, List.length_dropLast, List.length_cons, List.length_nil]; omega
       ·exact h
      ·split
       ·split
        ·exact h
        ·simp only [List.length_dropLast]; omega
       ·exact h
def rdS (f : Nat → Int) (len : Nat) : Nat → St → List Int → Bool → List In → List In × Int × Int
 | 0, _, _, _, _ => ([], 0, 10)
 | k + 1, s, N, cl, acc =>
  if cl = true then (acc, s.a, 0)
  else if (insS f len s N cl).2.1.e ≠ 0 then ([], 0, (insS f len s N cl).2.1.e)
  else rdS f len k (insS f len s N cl).2.1 (insS f len s N cl).2.2.1 (insS f len s N cl).2.2.2 (acc ++ [(insS f len s N cl).1])
def readS (f : Nat → Int) (len : Nat) (a : Int) : List In × Int × Int :=
 if a < 0 ∨ (len : Int) < a then ([], 0, 1) else rdS f len (len + 2) ⟨a, 0⟩ [] false []
end Ex
end Go.Proofs.Ytebkabidojipoaa
/- ExK -/
namespace Go.Proofs.Ytebkabidojipoaa
open Go.RowKit VecM LebM
namespace Ex
def cdV : List (In × Value) → List Value
 | [] => []
 | p :: r => (inV p.1 p.2).toList ++ cdV r
theorem cdV_len : ∀ P, (cdV P).length = P.length * 6
 | [] => rfl
 | p :: r => by simp only [cdV, List.length_append, cdV_len r, List.length_cons]; simp [inV]; omega
theorem cdV_app : ∀ P Q, cdV (P ++ Q) = cdV P ++ cdV Q
 | [], Q => rfl
 | p :: r, Q => by simp only [cdV, List.cons_append, cdV_app r Q, List.append_assoc]
def CdO (w : World) (base : Nat) (v : Value) (P : List (In × Value)) : Prop :=
 w.ownsRow base 38 6 v P.length (cdV P) ∧ ∀ p ∈ P, w.ownsRow base 3 1 p.2 p.1.l.length (ivs p.1.l)
theorem own_apart {w : World} {b1 b2 n1 n2 z1 z2 : Nat} {e1 e2 : TypeId} {v1 v2 : Value} {x1 x2 : List Value} (h1 : w.ownsRow b1 e1 z1 v1 n1 x1) (h2 : w.ownsRow b2 e2 z2 v2 n2 x2) (hne : e1 ≠ e2) : ∀ k, v1.ownBlock = some k → v2.ownBlock ≠ some k := by
 intro k hk hk2
 rcases h1.2 with ⟨rfl, _⟩ | ⟨g, cap, cur, rfl, _, hg, _⟩
 ·cases hk
 ·rcases h2.2 with ⟨rfl, _⟩ | ⟨g2, cap2, cur2, rfl, _, hg2, _⟩
  ·cases hk2
  ·obtain rfl : g = k := by simpa [Value.ownBlock] using hk
   obtain rfl : g2 = g := by simpa [Value.ownBlock] using hk2
   rw [hg] at hg2
   injection hg2 with hg2
   injection hg2 with _ h _
   exact hne h
theorem cd_sep {ex : Nat → Prop} {w w' : World} {base : Nat} {v : Value} {P : List (In × Value)} (h : CdO w base v P) (hs : Sep ex w w') (h1 : ∀ k, v.ownBlock = some k → ¬ ex k) (h2 : ∀ p ∈ P, ∀ k, p.2.ownBlock = some k → ¬ ex k) : CdO w' base v P :=
 ⟨hs.owns h.1 h1, fun p hp => hs.owns (h.2 p hp) (h2 p hp)⟩
theorem inV_all (d : In) (Lv : Value) (h : Lv.oneCell' = true) : ∀ u ∈ (inV d Lv).toList, u.oneCell' = true := by
 intro u hu
 simp [inV] at hu
 rcases hu with rfl | rfl | rfl | rfl | rfl | rfl <;> first | rfl | exact h
def RDX (w : World) (r : List In × Int × Int) (e : Ending) (w' : World) : Prop :=
 (r.2.2 ≠ 0 ∧ r.1 = [] ∧ r.2.1 = 0 ∧ e = .returned (.tuple #[.slice none 0 0, .int .i64 0, .int .i64 r.2.2]) ∧ Gr w w') ∨
 (r.2.2 = 0 ∧ ∃ cv P, e = .returned (.tuple #[cv, .int .i64 r.2.1, .int .i64 0]) ∧ Gr w w' ∧ P.map (·.1) = r.1 ∧ CdO w' w.heap.size cv P)
def lenV : Value → Nat
 | .slice _ n _ => n
 | _ => 0
theorem infoIns : (Try.prog.info? 38).map (fun i => (i.zero, i.size, i.bytes)) = some (some (.agg #[.int .i64 0, .int .i64 0, .int .i64 0, .int .u64 0, .int .u64 0, .slice none 0 0]), 6, 64) := by kernel_rfl
set_option maxRecDepth 100000 in
set_option maxHeartbeats 4000000 in
theorem read_in {w : World} {sv : Value} {len : Nat} {f : Nat → Int} {a : Int} (hf : By f) (hm : Ins.Mx w) (hb : U8s w sv len f) (hsv : ∀ k, sv.ownBlock = some k → k < w.heap.size) (ha0 : 0 ≤ a) (ha1 : a ≤ len) (hl : len ≤ 1099511627776) (hwz : 0 < w.heap.size) :
  Calls Try.prog 10 #[sv, .int .i64 a] w (RDX w (rdS f len (len + 2) ⟨a, 0⟩ [] false [])) := by
 obtain ⟨xs, cs, rfl⟩ := u8s_slice hb
 have HB := Lib.hid hb
 have HSV := Lib.hid hsv
 have HM := Lib.hid hm
 have HOK := Lib.hid (show Ok len ⟨a, 0⟩ from ⟨ha0, ha1⟩)
 have HL := Lib.hid hl
 have HWZ := Lib.hid hwz
 have d1 : decide (a < 0) = false := decide_eq_false (by omega)
 have d2 : decide (a > (len : Int)) = false := decide_eq_false (by omega)
 obtain ⟨R, hR⟩ : ∃ R, rdS f len (len + 2) ⟨a, 0⟩ [] false [] = R := ⟨_, rfl⟩
 rw [hR]
 have HR0 := Lib.hid hR
 clear hb hsv hm ha0 ha1 hl hR hwz
 obtain ⟨i6, hi, hq0, hq1, hq2⟩ := info_parts infoIns
 have HI6 := Lib.hid hi
 have HZ06 := Lib.hid hq0
 have HZ16 := Lib.hid hq1
 have HZ26 := Lib.hid hq2
 clear hi hq0 hq1 hq2
 go_enter Try.func10, Try.ntmps10
 go_wp2_with fail
 have HG0 := Lib.hid (heap_alloc_new w (.cells #[.slice xs len cs, .int .i64 a, .int .i64 0, .slice none 0 0, .bool false] 45))
 have HA0 := Lib.hid ((Gr.refl w).alloc #[.slice xs len cs, .int .i64 a, .int .i64 0, .slice none 0 0, .bool false] 45)
 go_loopw [8] (fun cv wr => ∃ (k : Nat) (s1 : St) (N : List Int) (cl : Bool) (ov : Value) (P : List (In × Value)), rdS f len k s1 N cl (P.map (·.1)) = R ∧ (len : Int) + 2 ≤ s1.a + k ∧ (P.length : Int) ≤ s1.a ∧ s1.e = 0 ∧ Ok len s1 ∧ N.length ≤ 128 ∧ RS wr w.heap.size (.slice xs len cs) s1 ov cl ∧ NS wr w.heap.size ov N ∧ CdO wr (w.heap.size + 1) cv P ∧ (∀ p ∈ P, ∀ q, p.2.ownBlock = some q → ov.ownBlock ≠ some q) ∧ Gr w wr) (fun cv _ => len + 1 - lenV cv)
 case atStart => exact ⟨len + 2, ⟨a, 0⟩, [], false, .slice none 0 0, [], HR0.out, by have := HOK.out.lo; dsimp only at this ⊢; omega, by have := HOK.out.lo; dsimp only at this ⊢; simpa using this, rfl, HOK.out, by simp, HG0.out, World.ownsRow_nil _ _ _ _, ⟨World.ownsRow_nil _ _ _ _, (fun p hp => by cases hp)⟩, (fun p hp => by cases hp), HA0.out⟩
 case round =>
  obtain ⟨k, s1, N, cl, ov, P, hrd, hka, hpa, hse, hok1, hN, hr, hns, hcd, hap, hgr⟩ := hrel
  have HR := Lib.hid hr
  have HNS := Lib.hid hns
  have HCD := Lib.hid hcd
  have HAP := Lib.hid hap
  have HGR := Lib.hid hgr
  have HOK1 := Lib.hid hok1
  have HPA := Lib.hid hpa
  have HKA := Lib.hid hka
  obtain ⟨xc, cc, rfl⟩ := own_slice hcd.1
  obtain ⟨k', rfl⟩ : ∃ k', k = k' + 1 := ⟨k - 1, by have := hok1.hi; omega⟩
  obtain ⟨_, b1, _, _, b4⟩ := cells5 hr
  cases cl with
  | true =>
   have HE := Lib.hid (show R = (P.map (·.1), s1.a, 0) from hrd ▸ rfl)
   clear hr hns hcd hap hgr hok1 hpa hka hrd
   go_wp2_with fail
   go_quiet (fail)
   go_wp2
   go_ret3
   rw [HE.out]
   exact .inr ⟨rfl, .slice xc P.length cc, P, rfl, HGR.out.drewN _, rfl, ⟨own_base (HCD.out.1) (Nat.le_succ _), fun p hp => own_base (HCD.out.2 p hp) (Nat.le_succ _)⟩⟩
  | false =>
   have hsz := hgr.size
   have HI := Lib.hid (instruction_any hf (show Ins.Mx wr from Ins.mx_gr HM.out hgr) (show 0 < w.heap.size from HWZ.out) hr hns ⟨u8s_gr HB.out hgr, fun q hq e => by have := HSV.out q hq; omega⟩ hok1 (fun q hq => Nat.lt_of_lt_of_le (HSV.out q hq) hsz) (by omega))
   have hrd2 : (if (insS f len s1 N false).2.1.e ≠ 0 then (([], 0, (insS f len s1 N false).2.1.e) : List In × Int × Int) else rdS f len k' (insS f len s1 N false).2.1 (insS f len s1 N false).2.2.1 (insS f len s1 N false).2.2.2 (P.map (·.1) ++ [(insS f len s1 N false).1])) = R := by
    rw [← hrd]; rfl
   have hok2 := insS_ok (f := f) (N := N) (cl := false) hok1
   have hna := insS_a (f := f) (len := len) (s := s1) (N := N) (cl := false)
   have hn2 := insS_N (f := f) (len := len) (s := s1) (cl := false) hN
   generalize insS f len s1 N false = r at *
   obtain ⟨d, s2, N2, cl2⟩ := r
   dsimp only at hrd2 hok2 hna hn2
   have HRD2 := Lib.hid hrd2
   have HOK2 := Lib.hid hok2
   have HNA := Lib.hid hna
   have HN2 := Lib.hid hn2
   clear hr hns hcd hap hgr hok1 hpa hka hrd hrd2 hok2 hna hn2 hsz hN b1
   go_wp2_with fail
   refine HI.out.mono ?_
   rintro e w1 ⟨Lv, ov', rfl, h1, h2, h3, h4, h5, h6⟩
   obtain ⟨xL, cL, rfl⟩ := own_slice h3
   have hex : ∀ q, Two w.heap.size ov q → w.heap.size ≤ q := fun q hq => by
    have e' : q = w.heap.size ∨ ov.ownBlock = some q := hq
    rcases e' with e' | e'
    ·omega
    ·have := HNS.out.lt q e'; omega
   have HG1 := Lib.hid (Sep.toGr HGR.out h6 hex)
   have HC1 := Lib.hid (cd_sep HCD.out h6 (fun q hq e => by
    have e' : q = w.heap.size ∨ ov.ownBlock = some q := e
    rcases e' with e' | e'
    ·have := HCD.out.1.lt q hq; omega
    ·exact own_apart HCD.out.1 HNS.out (by decide) q hq e') (fun p hp q hq e => by
    have e' : q = w.heap.size ∨ ov.ownBlock = some q := e
    rcases e' with e' | e'
    ·have := (HCD.out.2 p hp).lt q hq; omega
    ·exact HAP.out p hp q hq e'))
   have HAP1 := Lib.hid (show ∀ p ∈ P, ∀ q, p.2.ownBlock = some q → ov'.ownBlock ≠ some q from fun p hp q hq h => by
    rcases h4 q h with h | h
    ·exact HAP.out p hp q hq h
    ·have := (HCD.out.2 p hp).lt q hq; omega)
   have HR1 := Lib.hid h1
   have HN1 := Lib.hid h2
   have hsw := HGR.out.size
   have HL1 := Lib.hid (own_base h3 (show w.heap.size + 1 ≤ wr.heap.size from rs_lt HR.out))
   have HLO := Lib.hid h5
   clear h1 h2 h3 h4 h5 h6 hex hsw b4
   go_upto_region 7 with (refine wpList_store_row rfl 38 _ _ rfl w1.heap.size (inV d (.slice xL d.l.length cL)) rfl rfl 38 #[.int .i64 0, .int .i64 0, .int .i64 0, .int .u64 0, .int .u64 0, .slice none 0 0] (heap_alloc_new w1 _) infoIn rfl (inV_one _ _ _ _) ?_)
   have hal : Gr w1 (w1.alloc (.cells #[.int .i64 0, .int .i64 0, .int .i64 0, .int .u64 0, .int .u64 0, .slice none 0 0] 38)) := (Gr.refl w1).alloc _ _
   have hrw := Sep.setRow (ex := fun b => b = w1.heap.size) (w1.alloc (.cells #[.int .i64 0, .int .i64 0, .int .i64 0, .int .u64 0, .int .u64 0, .slice none 0 0] 38)) rfl (inV d (.slice xL d.l.length cL))
   have h12 : Gr w1 ((w1.alloc (.cells #[.int .i64 0, .int .i64 0, .int .i64 0, .int .u64 0, .int .u64 0, .slice none 0 0] 38)).setRow w1.heap.size (inV d (.slice xL d.l.length cL))) := Sep.toGr hal hrw (fun q hq => by have e' : q = w1.heap.size := hq; omega)
   have HI2 := Lib.hid (setRow_block (c := inV d (.slice xL d.l.length cL)) (heap_alloc_new w1 (.cells #[.int .i64 0, .int .i64 0, .int .i64 0, .int .u64 0, .int .u64 0, .slice none 0 0] 38)))
   have HG2 := Lib.hid (gr_trans HG1.out h12)
   have HH := Lib.hid h12
   generalize hb2 : (w1.alloc (.cells #[.int .i64 0, .int .i64 0, .int .i64 0, .int .u64 0, .int .u64 0, .slice none 0 0] 38)).setRow w1.heap.size (inV d (.slice xL d.l.length cL)) = w2 at *
   have HR2 := Lib.hid (rs_sep (ex := fun _ => False) HR1.out (Sep.of_gr HH.out) id)
   have HN2' := Lib.hid (ns_sep (ex := fun _ => False) HN1.out (Sep.of_gr HH.out) (fun _ _ => id))
   have HC2 := Lib.hid (cd_sep (ex := fun _ => False) HC1.out (Sep.of_gr HH.out) (fun _ _ => id) (fun _ _ _ _ => id))
   have HL2 := Lib.hid (own_gr HL1.out HH.out)
   generalize hb3 : w1.heap.size = bi at *
   obtain ⟨_, _, e2, _, _⟩ := cells5 HR2.out
   clear hal hrw h12 hb2 hb3
   by_cases he2 : s2.e = 0
   ·rw [he2] at e2
    have HE2 := Lib.hid he2
    clear he2
    have HLE := Lib.hid (show P.length + 1 ≤ len ∧ (len : Int) + 2 ≤ s2.a + k' ∧ ((P.length + 1 : Nat) : Int) ≤ s2.a from by
     have h1 := HNA.out HE2.out
     have h2 := HOK2.out.hi
     have h3 := HPA.out
     have h4 := HKA.out
     omega)
    go_wp2_with (first | (refine wpList_load_row rfl 38 _ rfl bi rfl 38 #[.int .i64 d.op, .int .i64 d.a, .int .i64 d.b, .int .u64 d.lo, .int .u64 d.hi, .slice xL d.l.length cL] (0, 0) _ HI2.out Try.underlying38 rfl infoIn ?_) | (at_builtin; refine wpList_append_at rfl _ _ 24 rfl (w.heap.size + 1) 38 i6 (.agg #[.int .i64 0, .int .i64 0, .int .i64 0, .int .u64 0, .int .u64 0, .slice none 0 0]) 6 64 Try.underlying24 HI6.out HZ06.out HZ16.out HZ26.out rfl (by decide) (.slice xc P.length cc) P.length (cdV P) rfl (World.ownsRow.alloc HC2.out.1 _) (.slice (some ⟨w2.heap.size, 0, none⟩) 1 1) 1 (#[.int .i64 d.op, .int .i64 d.a, .int .i64 d.b, .int .u64 d.lo, .int .u64 d.hi, .slice xL d.l.length cL] : Array Value).toList rfl (src_lit w2 #[.int .i64 d.op, .int .i64 d.a, .int .i64 d.b, .int .u64 d.lo, .int .u64 d.hi, .slice xL d.l.length cL] 38 1 1) rfl (inV_all d (.slice xL d.l.length cL) rfl) ?c3 ?c4 ?c5 ?_))
    case c3 => have := HLE.out; have := HL.out; unfold maxLen; omega
    case c4 => have := HLE.out; have := HL.out; omega
    case c5 => have := rs_lt HR2.out; simp; omega
    intro v' w3 hown2 hgb hblk
    have hs3 : Sep (fun q => (Value.slice xc P.length cc).ownBlock = some q) w2 w3 := Sep.trans (Sep.of_gr ((Gr.refl w2).alloc _ _)) (Sep.grown hgb fun q hq => hq)
    have HR3 := Lib.hid (rs_sep HR2.out hs3 (fun e => by have := HC2.out.1.lt _ e; omega))
    have HN3 := Lib.hid (ns_sep HN2'.out hs3 (fun q hq e => own_apart HC2.out.1 HN2'.out (by decide) q e hq))
    have HC3 := Lib.hid (show CdO w3 (w.heap.size + 1) v' (P ++ [(d, .slice xL d.l.length cL)]) from ⟨by
      rw [List.length_append, cdV_app]
      show w3.ownsRow _ _ 6 v' (P.length + 1) (cdV P ++ ((inV d (.slice xL d.l.length cL)).toList ++ []))
      rw [List.append_nil]; exact hown2, fun p hp => by
      rcases List.mem_append.1 hp with hp | hp
      ·exact hs3.owns (HC2.out.2 p hp) (fun q hq e => own_apart HC2.out.1 (HC2.out.2 p hp) (by decide) q e hq)
      ·obtain rfl := List.mem_singleton.1 hp
       exact hs3.owns HL2.out (fun q hq e => own_apart HC2.out.1 HL2.out (by decide) q e hq)⟩)
    have HAP3 := Lib.hid (show ∀ p ∈ P ++ [(d, Value.slice xL d.l.length cL)], ∀ q, p.2.ownBlock = some q → ov'.ownBlock ≠ some q from fun p hp q hq => by
      rcases List.mem_append.1 hp with hp | hp
      ·exact HAP1.out p hp q hq
      ·obtain rfl := List.mem_singleton.1 hp
       exact HLO.out q hq)
    have HG3 := Lib.hid (Sep.toGr HG2.out hs3 (fun q hq => by have := HC2.out.1.lt q hq; omega))
    have HLV := Lib.hid (show lenV v' = P.length + 1 from by obtain ⟨x, c, e⟩ := own_slice hown2; rw [e]; rfl)
    clear hown2 hgb hblk hs3
    go_wp2
    exact ⟨⟨k', s2, N2, cl2, ov', P ++ [(d, .slice xL d.l.length cL)], by rw [List.map_append, ← HRD2.out, if_neg (by rw [HE2.out]; decide)]; rfl, HLE.out.2.1, by rw [List.length_append]; exact HLE.out.2.2, HE2.out, HOK2.out, HN2.out, HR3.out, HN3.out, HC3.out, HAP3.out, HG3.out⟩, by rw [HLV.out]; have := HLE.out.1; show len + 1 - (P.length + 1) < len + 1 - P.length; omega⟩
   ·have n2 : (s2.e != 0) = true := by simpa using he2
    have HE2 := Lib.hid (show R = ([], 0, s2.e) from by rw [← HRD2.out, if_pos he2])
    have HNE := Lib.hid he2
    clear he2
    go_wp2_with fail
    go_quiet (fail)
    go_wp2
    go_ret3
    rw [HE2.out]
    exact .inl ⟨HNE.out, rfl, rfl, rfl, HG2.out.drewN _⟩
end Ex
end Go.Proofs.Ytebkabidojipoaa
/- ExN2 -/
namespace Go.Proofs.Ytebkabidojipoaa
open Go.RowKit VecM LebM
namespace Ex
set_option maxRecDepth 100000 in
set_option maxHeartbeats 4000000 in
theorem fits_2 (op a b lo hi : Int) (l : List Int) (x : Option Addr) (n c : Nat) (hn : l.length = n) (w : World) : Calls Try.prog 21 #[.agg #[.int .i64 op, .int .i64 a, .int .i64 b, .int .u64 lo, .int .u64 hi, .slice x n c], .int .i64 2] w fun e w' => e = .returned (.bool (fitB ⟨op, a, b, lo, hi, l⟩ 2)) ∧ Gr w w' := by
 go_enter Try.func21, Try.ntmps21
 go_upto_region 2 with (first | (refine wpList_load_row rfl 38 _ rfl w.heap.size rfl 38 #[.int .i64 op, .int .i64 a, .int .i64 b, .int .u64 lo, .int .u64 hi, .slice x n c] (0, 0) _ (by first | exact heap_alloc_new w _ | exact heap_alloc2_old w _ _) Try.underlying38 rfl infoIn ?_) | (refine wpList_store_row rfl 38 _ _ rfl (w.heap.size + 1) #[.int .i64 op, .int .i64 a, .int .i64 b, .int .u64 lo, .int .u64 hi, .slice x n c] rfl rfl 38 #[.int .i64 0, .int .i64 0, .int .i64 0, .int .u64 0, .int .u64 0, .slice none 0 0] (heap_alloc2_new w _ _) infoIn rfl (by kernel_rfl) ?_))
 have HI := (setRow_block_other (w := (w.alloc (.cells #[.int .i64 op, .int .i64 a, .int .i64 b, .int .u64 lo, .int .u64 hi, .slice x n c] 38)).alloc (.cells #[.int .i64 0, .int .i64 0, .int .i64 0, .int .u64 0, .int .u64 0, .slice none 0 0] 38)) (c := #[.int .i64 op, .int .i64 a, .int .i64 b, .int .u64 lo, .int .u64 hi, .slice x n c]) (show w.heap.size ≠ w.heap.size + 1 by omega)).trans (heap_alloc2_old w (.cells #[.int .i64 op, .int .i64 a, .int .i64 b, .int .u64 lo, .int .u64 hi, .slice x n c] 38) (.cells #[.int .i64 0, .int .i64 0, .int .i64 0, .int .u64 0, .int .u64 0, .slice none 0 0] 38))
 have HJ := setRow_block (c := #[.int .i64 op, .int .i64 a, .int .i64 b, .int .u64 lo, .int .u64 hi, .slice x n c]) (heap_alloc2_new w (.cells #[.int .i64 op, .int .i64 a, .int .i64 b, .int .u64 lo, .int .u64 hi, .slice x n c] 38) (.cells #[.int .i64 0, .int .i64 0, .int .i64 0, .int .u64 0, .int .u64 0, .slice none 0 0] 38))
 have HG := Lib.hid (gr_setRow (((Gr.refl w).alloc #[.int .i64 op, .int .i64 a, .int .i64 b, .int .u64 lo, .int .u64 hi, .slice x n c] 38).alloc #[.int .i64 0, .int .i64 0, .int .i64 0, .int .u64 0, .int .u64 0, .slice none 0 0] 38) (g := w.heap.size + 1) (by omega) #[.int .i64 op, .int .i64 a, .int .i64 b, .int .u64 lo, .int .u64 hi, .slice x n c])
 generalize ((w.alloc (.cells #[.int .i64 op, .int .i64 a, .int .i64 b, .int .u64 lo, .int .u64 hi, .slice x n c] 38)).alloc (.cells #[.int .i64 0, .int .i64 0, .int .i64 0, .int .u64 0, .int .u64 0, .slice none 0 0] 38)).setRow (w.heap.size + 1) #[.int .i64 op, .int .i64 a, .int .i64 b, .int .u64 lo, .int .u64 hi, .slice x n c] = w2 at *
 have i1 := (cells6 HI).2.1
 have i2 := (cells6 HI).2.2.1
 have i3 := (cells6 HI).2.2.2.1
 have i5 := (cells6 HI).2.2.2.2.2
 have r1 := (cells6 HJ).2.1
 have r2 := (cells6 HJ).2.2.1
 have r3 := (cells6 HJ).2.2.2.1
 have r4 := (cells6 HJ).2.2.2.2.1
 have r5 := (cells6 HJ).2.2.2.2.2
 have z1 := froz HJ 1
 have z2 := froz HJ 2
 have z3 := froz HJ 3
 have z4 := froz HJ 4
 have z5 := froz HJ 5
 clear HI HJ
 cases ha : idxB a with
 | true =>
  by_cases cb : b = 0
  ·subst cb
   by_cases cl : lo = 0
   ·subst cl
    by_cases ch : hi = 0
    ·subst ch
     by_cases cn : n = 0
     ·subst cn
      go_wp2_with (go_at_call 45; refine (index_any _ _).mono ?_; rintro e w9 ⟨rfl, rfl⟩)
      go_ret
      exact ⟨by simp [fitB, hn, ha], (Gr.setCell HG.out (show w.heap.size ≤ w.heap.size + 1 by omega) _)⟩
     ·have cnf : ((n : Int) == 0) = false := by simpa using cn
      have cng : (n == 0) = false := by simpa using cn
      clear cn
      go_wp2_with (go_at_call 45; refine (index_any _ _).mono ?_; rintro e w9 ⟨rfl, rfl⟩)
      go_ret
      exact ⟨by simp [fitB, hn, ha, cng], (Gr.setCell HG.out (show w.heap.size ≤ w.heap.size + 1 by omega) _)⟩
    ·have chf : (hi == 0) = false := by simpa using ch
     clear ch
     go_wp2_with (go_at_call 45; refine (index_any _ _).mono ?_; rintro e w9 ⟨rfl, rfl⟩)
     go_ret
     exact ⟨by simp [fitB, hn, ha, chf], (Gr.setCell HG.out (show w.heap.size ≤ w.heap.size + 1 by omega) _)⟩
   ·have clf : (lo == 0) = false := by simpa using cl
    clear cl
    go_wp2_with (go_at_call 45; refine (index_any _ _).mono ?_; rintro e w9 ⟨rfl, rfl⟩)
    go_ret
    exact ⟨by simp [fitB, hn, ha, clf], (Gr.setCell HG.out (show w.heap.size ≤ w.heap.size + 1 by omega) _)⟩
  ·have cbf : (b == 0) = false := by simpa using cb
   clear cb
   go_wp2_with (go_at_call 45; refine (index_any _ _).mono ?_; rintro e w9 ⟨rfl, rfl⟩)
   go_ret
   exact ⟨by simp [fitB, hn, ha, cbf], (Gr.setCell HG.out (show w.heap.size ≤ w.heap.size + 1 by omega) _)⟩
 | false =>
  by_cases e1 : a = (-64)
  ·subst e1
   by_cases cb : b = 0
   ·subst cb
    by_cases cl : lo = 0
    ·subst cl
     by_cases ch : hi = 0
     ·subst ch
      by_cases cn : n = 0
      ·subst cn
       go_wp2_with (go_at_call 45; refine (index_any _ _).mono ?_; rintro e w9 ⟨rfl, rfl⟩)
       go_ret
       exact ⟨by simp [fitB, hn, idxB], (Gr.setCell HG.out (show w.heap.size ≤ w.heap.size + 1 by omega) _)⟩
      ·have cnf : ((n : Int) == 0) = false := by simpa using cn
       have cng : (n == 0) = false := by simpa using cn
       clear cn
       go_wp2_with (go_at_call 45; refine (index_any _ _).mono ?_; rintro e w9 ⟨rfl, rfl⟩)
       go_ret
       exact ⟨by simp [fitB, hn, idxB, cng], (Gr.setCell HG.out (show w.heap.size ≤ w.heap.size + 1 by omega) _)⟩
     ·have chf : (hi == 0) = false := by simpa using ch
      clear ch
      go_wp2_with (go_at_call 45; refine (index_any _ _).mono ?_; rintro e w9 ⟨rfl, rfl⟩)
      go_ret
      exact ⟨by simp [fitB, hn, idxB, chf], (Gr.setCell HG.out (show w.heap.size ≤ w.heap.size + 1 by omega) _)⟩
    ·have clf : (lo == 0) = false := by simpa using cl
     clear cl
     go_wp2_with (go_at_call 45; refine (index_any _ _).mono ?_; rintro e w9 ⟨rfl, rfl⟩)
     go_ret
     exact ⟨by simp [fitB, hn, idxB, clf], (Gr.setCell HG.out (show w.heap.size ≤ w.heap.size + 1 by omega) _)⟩
   ·have cbf : (b == 0) = false := by simpa using cb
    clear cb
    go_wp2_with (go_at_call 45; refine (index_any _ _).mono ?_; rintro e w9 ⟨rfl, rfl⟩)
    go_ret
    exact ⟨by simp [fitB, hn, idxB, cbf], (Gr.setCell HG.out (show w.heap.size ≤ w.heap.size + 1 by omega) _)⟩
  ·have e1f : (a == (-64)) = false := by simpa using e1
   clear e1
   by_cases e2 : a = (-1)
   ·subst e2
    by_cases cb : b = 0
    ·subst cb
     by_cases cl : lo = 0
     ·subst cl
      by_cases ch : hi = 0
      ·subst ch
       by_cases cn : n = 0
       ·subst cn
        go_wp2_with (go_at_call 45; refine (index_any _ _).mono ?_; rintro e w9 ⟨rfl, rfl⟩)
        go_ret
        exact ⟨by simp [fitB, hn, e1f, idxB], (Gr.setCell HG.out (show w.heap.size ≤ w.heap.size + 1 by omega) _)⟩
       ·have cnf : ((n : Int) == 0) = false := by simpa using cn
        have cng : (n == 0) = false := by simpa using cn
        clear cn
        go_wp2_with (go_at_call 45; refine (index_any _ _).mono ?_; rintro e w9 ⟨rfl, rfl⟩)
        go_ret
        exact ⟨by simp [fitB, hn, e1f, idxB, cng], (Gr.setCell HG.out (show w.heap.size ≤ w.heap.size + 1 by omega) _)⟩
      ·have chf : (hi == 0) = false := by simpa using ch
       clear ch
       go_wp2_with (go_at_call 45; refine (index_any _ _).mono ?_; rintro e w9 ⟨rfl, rfl⟩)
       go_ret
       exact ⟨by simp [fitB, hn, e1f, idxB, chf], (Gr.setCell HG.out (show w.heap.size ≤ w.heap.size + 1 by omega) _)⟩
     ·have clf : (lo == 0) = false := by simpa using cl
      clear cl
      go_wp2_with (go_at_call 45; refine (index_any _ _).mono ?_; rintro e w9 ⟨rfl, rfl⟩)
      go_ret
      exact ⟨by simp [fitB, hn, e1f, idxB, clf], (Gr.setCell HG.out (show w.heap.size ≤ w.heap.size + 1 by omega) _)⟩
    ·have cbf : (b == 0) = false := by simpa using cb
     clear cb
     go_wp2_with (go_at_call 45; refine (index_any _ _).mono ?_; rintro e w9 ⟨rfl, rfl⟩)
     go_ret
     exact ⟨by simp [fitB, hn, e1f, idxB, cbf], (Gr.setCell HG.out (show w.heap.size ≤ w.heap.size + 1 by omega) _)⟩
   ·have e2f : (a == (-1)) = false := by simpa using e2
    clear e2
    by_cases e3 : a = (-2)
    ·subst e3
     by_cases cb : b = 0
     ·subst cb
      by_cases cl : lo = 0
      ·subst cl
       by_cases ch : hi = 0
       ·subst ch
        by_cases cn : n = 0
        ·subst cn
         go_wp2_with (go_at_call 45; refine (index_any _ _).mono ?_; rintro e w9 ⟨rfl, rfl⟩)
         go_ret
         exact ⟨by simp [fitB, hn, e1f, e2f, idxB], (Gr.setCell HG.out (show w.heap.size ≤ w.heap.size + 1 by omega) _)⟩
        ·have cnf : ((n : Int) == 0) = false := by simpa using cn
         have cng : (n == 0) = false := by simpa using cn
         clear cn
         go_wp2_with (go_at_call 45; refine (index_any _ _).mono ?_; rintro e w9 ⟨rfl, rfl⟩)
         go_ret
         exact ⟨by simp [fitB, hn, e1f, e2f, idxB, cng], (Gr.setCell HG.out (show w.heap.size ≤ w.heap.size + 1 by omega) _)⟩
       ·have chf : (hi == 0) = false := by simpa using ch
        clear ch
        go_wp2_with (go_at_call 45; refine (index_any _ _).mono ?_; rintro e w9 ⟨rfl, rfl⟩)
        go_ret
        exact ⟨by simp [fitB, hn, e1f, e2f, idxB, chf], (Gr.setCell HG.out (show w.heap.size ≤ w.heap.size + 1 by omega) _)⟩
      ·have clf : (lo == 0) = false := by simpa using cl
       clear cl
       go_wp2_with (go_at_call 45; refine (index_any _ _).mono ?_; rintro e w9 ⟨rfl, rfl⟩)
       go_ret
       exact ⟨by simp [fitB, hn, e1f, e2f, idxB, clf], (Gr.setCell HG.out (show w.heap.size ≤ w.heap.size + 1 by omega) _)⟩
     ·have cbf : (b == 0) = false := by simpa using cb
      clear cb
      go_wp2_with (go_at_call 45; refine (index_any _ _).mono ?_; rintro e w9 ⟨rfl, rfl⟩)
      go_ret
      exact ⟨by simp [fitB, hn, e1f, e2f, idxB, cbf], (Gr.setCell HG.out (show w.heap.size ≤ w.heap.size + 1 by omega) _)⟩
    ·have e3f : (a == (-2)) = false := by simpa using e3
     clear e3
     by_cases e4 : a = (-5)
     ·subst e4
      by_cases cb : b = 0
      ·subst cb
       by_cases cl : lo = 0
       ·subst cl
        by_cases ch : hi = 0
        ·subst ch
         by_cases cn : n = 0
         ·subst cn
          go_wp2_with (go_at_call 45; refine (index_any _ _).mono ?_; rintro e w9 ⟨rfl, rfl⟩)
          go_ret
          exact ⟨by simp [fitB, hn, e1f, e2f, e3f, idxB], (Gr.setCell HG.out (show w.heap.size ≤ w.heap.size + 1 by omega) _)⟩
         ·have cnf : ((n : Int) == 0) = false := by simpa using cn
          have cng : (n == 0) = false := by simpa using cn
          clear cn
          go_wp2_with (go_at_call 45; refine (index_any _ _).mono ?_; rintro e w9 ⟨rfl, rfl⟩)
          go_ret
          exact ⟨by simp [fitB, hn, e1f, e2f, e3f, idxB, cng], (Gr.setCell HG.out (show w.heap.size ≤ w.heap.size + 1 by omega) _)⟩
        ·have chf : (hi == 0) = false := by simpa using ch
         clear ch
         go_wp2_with (go_at_call 45; refine (index_any _ _).mono ?_; rintro e w9 ⟨rfl, rfl⟩)
         go_ret
         exact ⟨by simp [fitB, hn, e1f, e2f, e3f, idxB, chf], (Gr.setCell HG.out (show w.heap.size ≤ w.heap.size + 1 by omega) _)⟩
       ·have clf : (lo == 0) = false := by simpa using cl
        clear cl
        go_wp2_with (go_at_call 45; refine (index_any _ _).mono ?_; rintro e w9 ⟨rfl, rfl⟩)
        go_ret
        exact ⟨by simp [fitB, hn, e1f, e2f, e3f, idxB, clf], (Gr.setCell HG.out (show w.heap.size ≤ w.heap.size + 1 by omega) _)⟩
      ·have cbf : (b == 0) = false := by simpa using cb
       clear cb
       go_wp2_with (go_at_call 45; refine (index_any _ _).mono ?_; rintro e w9 ⟨rfl, rfl⟩)
       go_ret
       exact ⟨by simp [fitB, hn, e1f, e2f, e3f, idxB, cbf], (Gr.setCell HG.out (show w.heap.size ≤ w.heap.size + 1 by omega) _)⟩
     ·have e4f : (a == (-5)) = false := by simpa using e4
      clear e4
      go_wp2_with (go_at_call 45; refine (index_any _ _).mono ?_; rintro e w9 ⟨rfl, rfl⟩)
      go_ret
      exact ⟨by simp [fitB, hn, ha, e1f, e2f, e3f, e4f], (Gr.setCell HG.out (show w.heap.size ≤ w.heap.size + 1 by omega) _)⟩
end Ex
end Go.Proofs.Ytebkabidojipoaa
/- ExN3 -/
namespace Go.Proofs.Ytebkabidojipoaa
open Go.RowKit VecM LebM
namespace Ex
set_option maxRecDepth 100000 in
set_option maxHeartbeats 4000000 in
theorem fits_3 (op a b lo hi : Int) (l : List Int) (x : Option Addr) (n c : Nat) (hn : l.length = n) (w : World) : Calls Try.prog 21 #[.agg #[.int .i64 op, .int .i64 a, .int .i64 b, .int .u64 lo, .int .u64 hi, .slice x n c], .int .i64 3] w fun e w' => e = .returned (.bool (fitB ⟨op, a, b, lo, hi, l⟩ 3)) ∧ Gr w w' := by
 go_enter Try.func21, Try.ntmps21
 go_upto_region 2 with (first | (refine wpList_load_row rfl 38 _ rfl w.heap.size rfl 38 #[.int .i64 op, .int .i64 a, .int .i64 b, .int .u64 lo, .int .u64 hi, .slice x n c] (0, 0) _ (by first | exact heap_alloc_new w _ | exact heap_alloc2_old w _ _) Try.underlying38 rfl infoIn ?_) | (refine wpList_store_row rfl 38 _ _ rfl (w.heap.size + 1) #[.int .i64 op, .int .i64 a, .int .i64 b, .int .u64 lo, .int .u64 hi, .slice x n c] rfl rfl 38 #[.int .i64 0, .int .i64 0, .int .i64 0, .int .u64 0, .int .u64 0, .slice none 0 0] (heap_alloc2_new w _ _) infoIn rfl (by kernel_rfl) ?_))
 have HI := (setRow_block_other (w := (w.alloc (.cells #[.int .i64 op, .int .i64 a, .int .i64 b, .int .u64 lo, .int .u64 hi, .slice x n c] 38)).alloc (.cells #[.int .i64 0, .int .i64 0, .int .i64 0, .int .u64 0, .int .u64 0, .slice none 0 0] 38)) (c := #[.int .i64 op, .int .i64 a, .int .i64 b, .int .u64 lo, .int .u64 hi, .slice x n c]) (show w.heap.size ≠ w.heap.size + 1 by omega)).trans (heap_alloc2_old w (.cells #[.int .i64 op, .int .i64 a, .int .i64 b, .int .u64 lo, .int .u64 hi, .slice x n c] 38) (.cells #[.int .i64 0, .int .i64 0, .int .i64 0, .int .u64 0, .int .u64 0, .slice none 0 0] 38))
 have HJ := setRow_block (c := #[.int .i64 op, .int .i64 a, .int .i64 b, .int .u64 lo, .int .u64 hi, .slice x n c]) (heap_alloc2_new w (.cells #[.int .i64 op, .int .i64 a, .int .i64 b, .int .u64 lo, .int .u64 hi, .slice x n c] 38) (.cells #[.int .i64 0, .int .i64 0, .int .i64 0, .int .u64 0, .int .u64 0, .slice none 0 0] 38))
 have HG := Lib.hid (gr_setRow (((Gr.refl w).alloc #[.int .i64 op, .int .i64 a, .int .i64 b, .int .u64 lo, .int .u64 hi, .slice x n c] 38).alloc #[.int .i64 0, .int .i64 0, .int .i64 0, .int .u64 0, .int .u64 0, .slice none 0 0] 38) (g := w.heap.size + 1) (by omega) #[.int .i64 op, .int .i64 a, .int .i64 b, .int .u64 lo, .int .u64 hi, .slice x n c])
 generalize ((w.alloc (.cells #[.int .i64 op, .int .i64 a, .int .i64 b, .int .u64 lo, .int .u64 hi, .slice x n c] 38)).alloc (.cells #[.int .i64 0, .int .i64 0, .int .i64 0, .int .u64 0, .int .u64 0, .slice none 0 0] 38)).setRow (w.heap.size + 1) #[.int .i64 op, .int .i64 a, .int .i64 b, .int .u64 lo, .int .u64 hi, .slice x n c] = w2 at *
 have i1 := (cells6 HI).2.1
 have i2 := (cells6 HI).2.2.1
 have i3 := (cells6 HI).2.2.2.1
 have i5 := (cells6 HI).2.2.2.2.2
 have r1 := (cells6 HJ).2.1
 have r2 := (cells6 HJ).2.2.1
 have r3 := (cells6 HJ).2.2.2.1
 have r4 := (cells6 HJ).2.2.2.2.1
 have r5 := (cells6 HJ).2.2.2.2.2
 have z1 := froz HJ 1
 have z2 := froz HJ 2
 have z3 := froz HJ 3
 have z4 := froz HJ 4
 have z5 := froz HJ 5
 clear HI HJ
 cases ha : idxB a with
 | true =>
  by_cases cb : b = 0
  ·subst cb
   by_cases cl : lo = 0
   ·subst cl
    by_cases ch : hi = 0
    ·subst ch
     by_cases cn : n = 0
     ·subst cn
      go_wp2_with (go_at_call 45; refine (index_any _ _).mono ?_; rintro e w9 ⟨rfl, rfl⟩)
      go_ret
      exact ⟨by simp [fitB, hn, ha], (Gr.setCell HG.out (show w.heap.size ≤ w.heap.size + 1 by omega) _)⟩
     ·have cnf : ((n : Int) == 0) = false := by simpa using cn
      have cng : (n == 0) = false := by simpa using cn
      clear cn
      go_wp2_with (go_at_call 45; refine (index_any _ _).mono ?_; rintro e w9 ⟨rfl, rfl⟩)
      go_ret
      exact ⟨by simp [fitB, hn, ha, cng], (Gr.setCell HG.out (show w.heap.size ≤ w.heap.size + 1 by omega) _)⟩
    ·have chf : (hi == 0) = false := by simpa using ch
     clear ch
     go_wp2_with (go_at_call 45; refine (index_any _ _).mono ?_; rintro e w9 ⟨rfl, rfl⟩)
     go_ret
     exact ⟨by simp [fitB, hn, ha, chf], (Gr.setCell HG.out (show w.heap.size ≤ w.heap.size + 1 by omega) _)⟩
   ·have clf : (lo == 0) = false := by simpa using cl
    clear cl
    go_wp2_with (go_at_call 45; refine (index_any _ _).mono ?_; rintro e w9 ⟨rfl, rfl⟩)
    go_ret
    exact ⟨by simp [fitB, hn, ha, clf], (Gr.setCell HG.out (show w.heap.size ≤ w.heap.size + 1 by omega) _)⟩
  ·have cbf : (b == 0) = false := by simpa using cb
   clear cb
   go_wp2_with (go_at_call 45; refine (index_any _ _).mono ?_; rintro e w9 ⟨rfl, rfl⟩)
   go_ret
   exact ⟨by simp [fitB, hn, ha, cbf], (Gr.setCell HG.out (show w.heap.size ≤ w.heap.size + 1 by omega) _)⟩
 | false =>
  go_wp2_with (go_at_call 45; refine (index_any _ _).mono ?_; rintro e w9 ⟨rfl, rfl⟩)
  go_ret
  exact ⟨by simp [fitB, hn, ha], (Gr.setCell HG.out (show w.heap.size ≤ w.heap.size + 1 by omega) _)⟩
set_option maxRecDepth 100000 in
set_option maxHeartbeats 4000000 in
theorem fits_5 (op a b lo hi : Int) (l : List Int) (x : Option Addr) (n c : Nat) (hn : l.length = n) (w : World) : Calls Try.prog 21 #[.agg #[.int .i64 op, .int .i64 a, .int .i64 b, .int .u64 lo, .int .u64 hi, .slice x n c], .int .i64 5] w fun e w' => e = .returned (.bool (fitB ⟨op, a, b, lo, hi, l⟩ 5)) ∧ Gr w w' := by
 go_enter Try.func21, Try.ntmps21
 go_upto_region 2 with (first | (refine wpList_load_row rfl 38 _ rfl w.heap.size rfl 38 #[.int .i64 op, .int .i64 a, .int .i64 b, .int .u64 lo, .int .u64 hi, .slice x n c] (0, 0) _ (by first | exact heap_alloc_new w _ | exact heap_alloc2_old w _ _) Try.underlying38 rfl infoIn ?_) | (refine wpList_store_row rfl 38 _ _ rfl (w.heap.size + 1) #[.int .i64 op, .int .i64 a, .int .i64 b, .int .u64 lo, .int .u64 hi, .slice x n c] rfl rfl 38 #[.int .i64 0, .int .i64 0, .int .i64 0, .int .u64 0, .int .u64 0, .slice none 0 0] (heap_alloc2_new w _ _) infoIn rfl (by kernel_rfl) ?_))
 have HI := (setRow_block_other (w := (w.alloc (.cells #[.int .i64 op, .int .i64 a, .int .i64 b, .int .u64 lo, .int .u64 hi, .slice x n c] 38)).alloc (.cells #[.int .i64 0, .int .i64 0, .int .i64 0, .int .u64 0, .int .u64 0, .slice none 0 0] 38)) (c := #[.int .i64 op, .int .i64 a, .int .i64 b, .int .u64 lo, .int .u64 hi, .slice x n c]) (show w.heap.size ≠ w.heap.size + 1 by omega)).trans (heap_alloc2_old w (.cells #[.int .i64 op, .int .i64 a, .int .i64 b, .int .u64 lo, .int .u64 hi, .slice x n c] 38) (.cells #[.int .i64 0, .int .i64 0, .int .i64 0, .int .u64 0, .int .u64 0, .slice none 0 0] 38))
 have HJ := setRow_block (c := #[.int .i64 op, .int .i64 a, .int .i64 b, .int .u64 lo, .int .u64 hi, .slice x n c]) (heap_alloc2_new w (.cells #[.int .i64 op, .int .i64 a, .int .i64 b, .int .u64 lo, .int .u64 hi, .slice x n c] 38) (.cells #[.int .i64 0, .int .i64 0, .int .i64 0, .int .u64 0, .int .u64 0, .slice none 0 0] 38))
 have HG := Lib.hid (gr_setRow (((Gr.refl w).alloc #[.int .i64 op, .int .i64 a, .int .i64 b, .int .u64 lo, .int .u64 hi, .slice x n c] 38).alloc #[.int .i64 0, .int .i64 0, .int .i64 0, .int .u64 0, .int .u64 0, .slice none 0 0] 38) (g := w.heap.size + 1) (by omega) #[.int .i64 op, .int .i64 a, .int .i64 b, .int .u64 lo, .int .u64 hi, .slice x n c])
 generalize ((w.alloc (.cells #[.int .i64 op, .int .i64 a, .int .i64 b, .int .u64 lo, .int .u64 hi, .slice x n c] 38)).alloc (.cells #[.int .i64 0, .int .i64 0, .int .i64 0, .int .u64 0, .int .u64 0, .slice none 0 0] 38)).setRow (w.heap.size + 1) #[.int .i64 op, .int .i64 a, .int .i64 b, .int .u64 lo, .int .u64 hi, .slice x n c] = w2 at *
 have i1 := (cells6 HI).2.1
 have i2 := (cells6 HI).2.2.1
 have i3 := (cells6 HI).2.2.2.1
 have i5 := (cells6 HI).2.2.2.2.2
 have r1 := (cells6 HJ).2.1
 have r2 := (cells6 HJ).2.2.1
 have r3 := (cells6 HJ).2.2.2.1
 have r4 := (cells6 HJ).2.2.2.2.1
 have r5 := (cells6 HJ).2.2.2.2.2
 have z1 := froz HJ 1
 have z2 := froz HJ 2
 have z3 := froz HJ 3
 have z4 := froz HJ 4
 have z5 := froz HJ 5
 clear HI HJ
 cases ha : idxB a with
 | true =>
  by_cases cb : b = 0
  ·subst cb
   by_cases cl : lo = 0
   ·subst cl
    by_cases ch : hi = 0
    ·subst ch
     by_cases cn : n = 0
     ·subst cn
      go_wp2_with (go_at_call 45; refine (index_any _ _).mono ?_; rintro e w9 ⟨rfl, rfl⟩)
      go_ret
      exact ⟨by simp [fitB, hn, ha], (Gr.setCell HG.out (show w.heap.size ≤ w.heap.size + 1 by omega) _)⟩
     ·have cnf : ((n : Int) == 0) = false := by simpa using cn
      have cng : (n == 0) = false := by simpa using cn
      clear cn
      go_wp2_with (go_at_call 45; refine (index_any _ _).mono ?_; rintro e w9 ⟨rfl, rfl⟩)
      go_ret
      exact ⟨by simp [fitB, hn, ha, cng], (Gr.setCell HG.out (show w.heap.size ≤ w.heap.size + 1 by omega) _)⟩
    ·have chf : (hi == 0) = false := by simpa using ch
     clear ch
     go_wp2_with (go_at_call 45; refine (index_any _ _).mono ?_; rintro e w9 ⟨rfl, rfl⟩)
     go_ret
     exact ⟨by simp [fitB, hn, ha, chf], (Gr.setCell HG.out (show w.heap.size ≤ w.heap.size + 1 by omega) _)⟩
   ·have clf : (lo == 0) = false := by simpa using cl
    clear cl
    go_wp2_with (go_at_call 45; refine (index_any _ _).mono ?_; rintro e w9 ⟨rfl, rfl⟩)
    go_ret
    exact ⟨by simp [fitB, hn, ha, clf], (Gr.setCell HG.out (show w.heap.size ≤ w.heap.size + 1 by omega) _)⟩
  ·have cbf : (b == 0) = false := by simpa using cb
   clear cb
   go_wp2_with (go_at_call 45; refine (index_any _ _).mono ?_; rintro e w9 ⟨rfl, rfl⟩)
   go_ret
   exact ⟨by simp [fitB, hn, ha, cbf], (Gr.setCell HG.out (show w.heap.size ≤ w.heap.size + 1 by omega) _)⟩
 | false =>
  go_wp2_with (go_at_call 45; refine (index_any _ _).mono ?_; rintro e w9 ⟨rfl, rfl⟩)
  go_ret
  exact ⟨by simp [fitB, hn, ha], (Gr.setCell HG.out (show w.heap.size ≤ w.heap.size + 1 by omega) _)⟩
set_option maxRecDepth 100000 in
set_option maxHeartbeats 4000000 in
theorem fits_6 (op a b lo hi : Int) (l : List Int) (x : Option Addr) (n c : Nat) (hn : l.length = n) (w : World) : Calls Try.prog 21 #[.agg #[.int .i64 op, .int .i64 a, .int .i64 b, .int .u64 lo, .int .u64 hi, .slice x n c], .int .i64 6] w fun e w' => e = .returned (.bool (fitB ⟨op, a, b, lo, hi, l⟩ 6)) ∧ Gr w w' := by
 go_enter Try.func21, Try.ntmps21
 go_upto_region 2 with (first | (refine wpList_load_row rfl 38 _ rfl w.heap.size rfl 38 #[.int .i64 op, .int .i64 a, .int .i64 b, .int .u64 lo, .int .u64 hi, .slice x n c] (0, 0) _ (by first | exact heap_alloc_new w _ | exact heap_alloc2_old w _ _) Try.underlying38 rfl infoIn ?_) | (refine wpList_store_row rfl 38 _ _ rfl (w.heap.size + 1) #[.int .i64 op, .int .i64 a, .int .i64 b, .int .u64 lo, .int .u64 hi, .slice x n c] rfl rfl 38 #[.int .i64 0, .int .i64 0, .int .i64 0, .int .u64 0, .int .u64 0, .slice none 0 0] (heap_alloc2_new w _ _) infoIn rfl (by kernel_rfl) ?_))
 have HI := (setRow_block_other (w := (w.alloc (.cells #[.int .i64 op, .int .i64 a, .int .i64 b, .int .u64 lo, .int .u64 hi, .slice x n c] 38)).alloc (.cells #[.int .i64 0, .int .i64 0, .int .i64 0, .int .u64 0, .int .u64 0, .slice none 0 0] 38)) (c := #[.int .i64 op, .int .i64 a, .int .i64 b, .int .u64 lo, .int .u64 hi, .slice x n c]) (show w.heap.size ≠ w.heap.size + 1 by omega)).trans (heap_alloc2_old w (.cells #[.int .i64 op, .int .i64 a, .int .i64 b, .int .u64 lo, .int .u64 hi, .slice x n c] 38) (.cells #[.int .i64 0, .int .i64 0, .int .i64 0, .int .u64 0, .int .u64 0, .slice none 0 0] 38))
 have HJ := setRow_block (c := #[.int .i64 op, .int .i64 a, .int .i64 b, .int .u64 lo, .int .u64 hi, .slice x n c]) (heap_alloc2_new w (.cells #[.int .i64 op, .int .i64 a, .int .i64 b, .int .u64 lo, .int .u64 hi, .slice x n c] 38) (.cells #[.int .i64 0, .int .i64 0, .int .i64 0, .int .u64 0, .int .u64 0, .slice none 0 0] 38))
 have HG := Lib.hid (gr_setRow (((Gr.refl w).alloc #[.int .i64 op, .int .i64 a, .int .i64 b, .int .u64 lo, .int .u64 hi, .slice x n c] 38).alloc #[.int .i64 0, .int .i64 0, .int .i64 0, .int .u64 0, .int .u64 0, .slice none 0 0] 38) (g := w.heap.size + 1) (by omega) #[.int .i64 op, .int .i64 a, .int .i64 b, .int .u64 lo, .int .u64 hi, .slice x n c])
 generalize ((w.alloc (.cells #[.int .i64 op, .int .i64 a, .int .i64 b, .int .u64 lo, .int .u64 hi, .slice x n c] 38)).alloc (.cells #[.int .i64 0, .int .i64 0, .int .i64 0, .int .u64 0, .int .u64 0, .slice none 0 0] 38)).setRow (w.heap.size + 1) #[.int .i64 op, .int .i64 a, .int .i64 b, .int .u64 lo, .int .u64 hi, .slice x n c] = w2 at *
 have i1 := (cells6 HI).2.1
 have i2 := (cells6 HI).2.2.1
 have i3 := (cells6 HI).2.2.2.1
 have i5 := (cells6 HI).2.2.2.2.2
 have r1 := (cells6 HJ).2.1
 have r2 := (cells6 HJ).2.2.1
 have r3 := (cells6 HJ).2.2.2.1
 have r4 := (cells6 HJ).2.2.2.2.1
 have r5 := (cells6 HJ).2.2.2.2.2
 have z1 := froz HJ 1
 have z2 := froz HJ 2
 have z3 := froz HJ 3
 have z4 := froz HJ 4
 have z5 := froz HJ 5
 clear HI HJ
 cases ha : idxB a with
 | true =>
  cases hb : idxB b with
  | true =>
   by_cases cl : lo = 0
   ·subst cl
    by_cases ch : hi = 0
    ·subst ch
     by_cases cn : n = 0
     ·subst cn
      go_wp2_with (go_at_call 45; refine (index_any _ _).mono ?_; rintro e w9 ⟨rfl, rfl⟩)
      go_ret
      exact ⟨by simp [fitB, hn, ha, hb], (Gr.setCell (Gr.setCell HG.out (show w.heap.size ≤ w.heap.size + 1 by omega) _) (show w.heap.size ≤ w.heap.size + 1 by omega) _)⟩
     ·have cnf : ((n : Int) == 0) = false := by simpa using cn
      have cng : (n == 0) = false := by simpa using cn
      clear cn
      go_wp2_with (go_at_call 45; refine (index_any _ _).mono ?_; rintro e w9 ⟨rfl, rfl⟩)
      go_ret
      exact ⟨by simp [fitB, hn, ha, hb, cng], (Gr.setCell (Gr.setCell HG.out (show w.heap.size ≤ w.heap.size + 1 by omega) _) (show w.heap.size ≤ w.heap.size + 1 by omega) _)⟩
    ·have chf : (hi == 0) = false := by simpa using ch
     clear ch
     go_wp2_with (go_at_call 45; refine (index_any _ _).mono ?_; rintro e w9 ⟨rfl, rfl⟩)
     go_ret
     exact ⟨by simp [fitB, hn, ha, hb, chf], (Gr.setCell (Gr.setCell HG.out (show w.heap.size ≤ w.heap.size + 1 by omega) _) (show w.heap.size ≤ w.heap.size + 1 by omega) _)⟩
   ·have clf : (lo == 0) = false := by simpa using cl
    clear cl
    go_wp2_with (go_at_call 45; refine (index_any _ _).mono ?_; rintro e w9 ⟨rfl, rfl⟩)
    go_ret
    exact ⟨by simp [fitB, hn, ha, hb, clf], (Gr.setCell (Gr.setCell HG.out (show w.heap.size ≤ w.heap.size + 1 by omega) _) (show w.heap.size ≤ w.heap.size + 1 by omega) _)⟩
  | false =>
   go_wp2_with (go_at_call 45; refine (index_any _ _).mono ?_; rintro e w9 ⟨rfl, rfl⟩)
   go_ret
   exact ⟨by simp [fitB, hn, ha, hb], (Gr.setCell (Gr.setCell HG.out (show w.heap.size ≤ w.heap.size + 1 by omega) _) (show w.heap.size ≤ w.heap.size + 1 by omega) _)⟩
 | false =>
  go_wp2_with (go_at_call 45; refine (index_any _ _).mono ?_; rintro e w9 ⟨rfl, rfl⟩)
  go_ret
  exact ⟨by simp [fitB, hn, ha], (Gr.setCell (Gr.setCell HG.out (show w.heap.size ≤ w.heap.size + 1 by omega) _) (show w.heap.size ≤ w.heap.size + 1 by omega) _)⟩
end Ex
end Go.Proofs.Ytebkabidojipoaa
/- ExN4 -/
namespace Go.Proofs.Ytebkabidojipoaa
open Go.RowKit VecM LebM
namespace Ex
set_option maxRecDepth 100000 in
set_option maxHeartbeats 4000000 in
theorem fits_7 (op a b lo hi : Int) (l : List Int) (x : Option Addr) (n c : Nat) (hn : l.length = n) (w : World) : Calls Try.prog 21 #[.agg #[.int .i64 op, .int .i64 a, .int .i64 b, .int .u64 lo, .int .u64 hi, .slice x n c], .int .i64 7] w fun e w' => e = .returned (.bool (fitB ⟨op, a, b, lo, hi, l⟩ 7)) ∧ Gr w w' := by
 go_enter Try.func21, Try.ntmps21
 go_upto_region 2 with (first | (refine wpList_load_row rfl 38 _ rfl w.heap.size rfl 38 #[.int .i64 op, .int .i64 a, .int .i64 b, .int .u64 lo, .int .u64 hi, .slice x n c] (0, 0) _ (by first | exact heap_alloc_new w _ | exact heap_alloc2_old w _ _) Try.underlying38 rfl infoIn ?_) | (refine wpList_store_row rfl 38 _ _ rfl (w.heap.size + 1) #[.int .i64 op, .int .i64 a, .int .i64 b, .int .u64 lo, .int .u64 hi, .slice x n c] rfl rfl 38 #[.int .i64 0, .int .i64 0, .int .i64 0, .int .u64 0, .int .u64 0, .slice none 0 0] (heap_alloc2_new w _ _) infoIn rfl (by kernel_rfl) ?_))
 have HI := (setRow_block_other (w := (w.alloc (.cells #[.int .i64 op, .int .i64 a, .int .i64 b, .int .u64 lo, .int .u64 hi, .slice x n c] 38)).alloc (.cells #[.int .i64 0, .int .i64 0, .int .i64 0, .int .u64 0, .int .u64 0, .slice none 0 0] 38)) (c := #[.int .i64 op, .int .i64 a, .int .i64 b, .int .u64 lo, .int .u64 hi, .slice x n c]) (show w.heap.size ≠ w.heap.size + 1 by omega)).trans (heap_alloc2_old w (.cells #[.int .i64 op, .int .i64 a, .int .i64 b, .int .u64 lo, .int .u64 hi, .slice x n c] 38) (.cells #[.int .i64 0, .int .i64 0, .int .i64 0, .int .u64 0, .int .u64 0, .slice none 0 0] 38))
 have HJ := setRow_block (c := #[.int .i64 op, .int .i64 a, .int .i64 b, .int .u64 lo, .int .u64 hi, .slice x n c]) (heap_alloc2_new w (.cells #[.int .i64 op, .int .i64 a, .int .i64 b, .int .u64 lo, .int .u64 hi, .slice x n c] 38) (.cells #[.int .i64 0, .int .i64 0, .int .i64 0, .int .u64 0, .int .u64 0, .slice none 0 0] 38))
 have HG := Lib.hid (gr_setRow (((Gr.refl w).alloc #[.int .i64 op, .int .i64 a, .int .i64 b, .int .u64 lo, .int .u64 hi, .slice x n c] 38).alloc #[.int .i64 0, .int .i64 0, .int .i64 0, .int .u64 0, .int .u64 0, .slice none 0 0] 38) (g := w.heap.size + 1) (by omega) #[.int .i64 op, .int .i64 a, .int .i64 b, .int .u64 lo, .int .u64 hi, .slice x n c])
 generalize ((w.alloc (.cells #[.int .i64 op, .int .i64 a, .int .i64 b, .int .u64 lo, .int .u64 hi, .slice x n c] 38)).alloc (.cells #[.int .i64 0, .int .i64 0, .int .i64 0, .int .u64 0, .int .u64 0, .slice none 0 0] 38)).setRow (w.heap.size + 1) #[.int .i64 op, .int .i64 a, .int .i64 b, .int .u64 lo, .int .u64 hi, .slice x n c] = w2 at *
 have i1 := (cells6 HI).2.1
 have i2 := (cells6 HI).2.2.1
 have i3 := (cells6 HI).2.2.2.1
 have i5 := (cells6 HI).2.2.2.2.2
 have r1 := (cells6 HJ).2.1
 have r2 := (cells6 HJ).2.2.1
 have r3 := (cells6 HJ).2.2.2.1
 have r4 := (cells6 HJ).2.2.2.2.1
 have r5 := (cells6 HJ).2.2.2.2.2
 have z1 := froz HJ 1
 have z2 := froz HJ 2
 have z3 := froz HJ 3
 have z4 := froz HJ 4
 have z5 := froz HJ 5
 clear HI HJ
 cases ha : idxB a with
 | true =>
  cases hb : idxB b with
  | true =>
   by_cases cl : lo = 0
   ·subst cl
    by_cases ch : hi = 0
    ·subst ch
     by_cases cn : n = 0
     ·subst cn
      go_wp2_with (go_at_call 45; refine (index_any _ _).mono ?_; rintro e w9 ⟨rfl, rfl⟩)
      go_ret
      exact ⟨by simp [fitB, hn, ha, hb], (Gr.setCell (Gr.setCell HG.out (show w.heap.size ≤ w.heap.size + 1 by omega) _) (show w.heap.size ≤ w.heap.size + 1 by omega) _)⟩
     ·have cnf : ((n : Int) == 0) = false := by simpa using cn
      have cng : (n == 0) = false := by simpa using cn
      clear cn
      go_wp2_with (go_at_call 45; refine (index_any _ _).mono ?_; rintro e w9 ⟨rfl, rfl⟩)
      go_ret
      exact ⟨by simp [fitB, hn, ha, hb, cng], (Gr.setCell (Gr.setCell HG.out (show w.heap.size ≤ w.heap.size + 1 by omega) _) (show w.heap.size ≤ w.heap.size + 1 by omega) _)⟩
    ·have chf : (hi == 0) = false := by simpa using ch
     clear ch
     go_wp2_with (go_at_call 45; refine (index_any _ _).mono ?_; rintro e w9 ⟨rfl, rfl⟩)
     go_ret
     exact ⟨by simp [fitB, hn, ha, hb, chf], (Gr.setCell (Gr.setCell HG.out (show w.heap.size ≤ w.heap.size + 1 by omega) _) (show w.heap.size ≤ w.heap.size + 1 by omega) _)⟩
   ·have clf : (lo == 0) = false := by simpa using cl
    clear cl
    go_wp2_with (go_at_call 45; refine (index_any _ _).mono ?_; rintro e w9 ⟨rfl, rfl⟩)
    go_ret
    exact ⟨by simp [fitB, hn, ha, hb, clf], (Gr.setCell (Gr.setCell HG.out (show w.heap.size ≤ w.heap.size + 1 by omega) _) (show w.heap.size ≤ w.heap.size + 1 by omega) _)⟩
  | false =>
   go_wp2_with (go_at_call 45; refine (index_any _ _).mono ?_; rintro e w9 ⟨rfl, rfl⟩)
   go_ret
   exact ⟨by simp [fitB, hn, ha, hb], (Gr.setCell (Gr.setCell HG.out (show w.heap.size ≤ w.heap.size + 1 by omega) _) (show w.heap.size ≤ w.heap.size + 1 by omega) _)⟩
 | false =>
  go_wp2_with (go_at_call 45; refine (index_any _ _).mono ?_; rintro e w9 ⟨rfl, rfl⟩)
  go_ret
  exact ⟨by simp [fitB, hn, ha], (Gr.setCell (Gr.setCell HG.out (show w.heap.size ≤ w.heap.size + 1 by omega) _) (show w.heap.size ≤ w.heap.size + 1 by omega) _)⟩
set_option maxRecDepth 100000 in
set_option maxHeartbeats 4000000 in
theorem fits_8 (op a b lo hi : Int) (l : List Int) (x : Option Addr) (n c : Nat) (hn : l.length = n) (w : World) : Calls Try.prog 21 #[.agg #[.int .i64 op, .int .i64 a, .int .i64 b, .int .u64 lo, .int .u64 hi, .slice x n c], .int .i64 8] w fun e w' => e = .returned (.bool (fitB ⟨op, a, b, lo, hi, l⟩ 8)) ∧ Gr w w' := by
 go_enter Try.func21, Try.ntmps21
 go_upto_region 2 with (first | (refine wpList_load_row rfl 38 _ rfl w.heap.size rfl 38 #[.int .i64 op, .int .i64 a, .int .i64 b, .int .u64 lo, .int .u64 hi, .slice x n c] (0, 0) _ (by first | exact heap_alloc_new w _ | exact heap_alloc2_old w _ _) Try.underlying38 rfl infoIn ?_) | (refine wpList_store_row rfl 38 _ _ rfl (w.heap.size + 1) #[.int .i64 op, .int .i64 a, .int .i64 b, .int .u64 lo, .int .u64 hi, .slice x n c] rfl rfl 38 #[.int .i64 0, .int .i64 0, .int .i64 0, .int .u64 0, .int .u64 0, .slice none 0 0] (heap_alloc2_new w _ _) infoIn rfl (by kernel_rfl) ?_))
 have HI := (setRow_block_other (w := (w.alloc (.cells #[.int .i64 op, .int .i64 a, .int .i64 b, .int .u64 lo, .int .u64 hi, .slice x n c] 38)).alloc (.cells #[.int .i64 0, .int .i64 0, .int .i64 0, .int .u64 0, .int .u64 0, .slice none 0 0] 38)) (c := #[.int .i64 op, .int .i64 a, .int .i64 b, .int .u64 lo, .int .u64 hi, .slice x n c]) (show w.heap.size ≠ w.heap.size + 1 by omega)).trans (heap_alloc2_old w (.cells #[.int .i64 op, .int .i64 a, .int .i64 b, .int .u64 lo, .int .u64 hi, .slice x n c] 38) (.cells #[.int .i64 0, .int .i64 0, .int .i64 0, .int .u64 0, .int .u64 0, .slice none 0 0] 38))
 have HJ := setRow_block (c := #[.int .i64 op, .int .i64 a, .int .i64 b, .int .u64 lo, .int .u64 hi, .slice x n c]) (heap_alloc2_new w (.cells #[.int .i64 op, .int .i64 a, .int .i64 b, .int .u64 lo, .int .u64 hi, .slice x n c] 38) (.cells #[.int .i64 0, .int .i64 0, .int .i64 0, .int .u64 0, .int .u64 0, .slice none 0 0] 38))
 have HG := Lib.hid (gr_setRow (((Gr.refl w).alloc #[.int .i64 op, .int .i64 a, .int .i64 b, .int .u64 lo, .int .u64 hi, .slice x n c] 38).alloc #[.int .i64 0, .int .i64 0, .int .i64 0, .int .u64 0, .int .u64 0, .slice none 0 0] 38) (g := w.heap.size + 1) (by omega) #[.int .i64 op, .int .i64 a, .int .i64 b, .int .u64 lo, .int .u64 hi, .slice x n c])
 generalize ((w.alloc (.cells #[.int .i64 op, .int .i64 a, .int .i64 b, .int .u64 lo, .int .u64 hi, .slice x n c] 38)).alloc (.cells #[.int .i64 0, .int .i64 0, .int .i64 0, .int .u64 0, .int .u64 0, .slice none 0 0] 38)).setRow (w.heap.size + 1) #[.int .i64 op, .int .i64 a, .int .i64 b, .int .u64 lo, .int .u64 hi, .slice x n c] = w2 at *
 have i1 := (cells6 HI).2.1
 have i2 := (cells6 HI).2.2.1
 have i3 := (cells6 HI).2.2.2.1
 have i5 := (cells6 HI).2.2.2.2.2
 have r1 := (cells6 HJ).2.1
 have r2 := (cells6 HJ).2.2.1
 have r3 := (cells6 HJ).2.2.2.1
 have r4 := (cells6 HJ).2.2.2.2.1
 have r5 := (cells6 HJ).2.2.2.2.2
 have z1 := froz HJ 1
 have z2 := froz HJ 2
 have z3 := froz HJ 3
 have z4 := froz HJ 4
 have z5 := froz HJ 5
 clear HI HJ
 cases ha : idxB a with
 | true =>
  cases hb : idxB b with
  | true =>
   by_cases hlop : lo ≤ 255
   ·have hlo : decide (lo ≤ 255) = true := decide_eq_true hlop
    by_cases ch : hi = 0
    ·subst ch
     by_cases cn : n = 0
     ·subst cn
      go_wp2_with (go_at_call 45; refine (index_any _ _).mono ?_; rintro e w9 ⟨rfl, rfl⟩)
      go_ret
      exact ⟨by simp [fitB, hn, ha, hb, hlo], (Gr.setCell (Gr.setCell (Gr.setCell HG.out (show w.heap.size ≤ w.heap.size + 1 by omega) _) (show w.heap.size ≤ w.heap.size + 1 by omega) _) (show w.heap.size ≤ w.heap.size + 1 by omega) _)⟩
     ·have cnf : ((n : Int) == 0) = false := by simpa using cn
      have cng : (n == 0) = false := by simpa using cn
      clear cn
      go_wp2_with (go_at_call 45; refine (index_any _ _).mono ?_; rintro e w9 ⟨rfl, rfl⟩)
      go_ret
      exact ⟨by simp [fitB, hn, ha, hb, hlo, cng], (Gr.setCell (Gr.setCell (Gr.setCell HG.out (show w.heap.size ≤ w.heap.size + 1 by omega) _) (show w.heap.size ≤ w.heap.size + 1 by omega) _) (show w.heap.size ≤ w.heap.size + 1 by omega) _)⟩
    ·have chf : (hi == 0) = false := by simpa using ch
     clear ch
     go_wp2_with (go_at_call 45; refine (index_any _ _).mono ?_; rintro e w9 ⟨rfl, rfl⟩)
     go_ret
     exact ⟨by simp [fitB, hn, ha, hb, hlo, chf], (Gr.setCell (Gr.setCell (Gr.setCell HG.out (show w.heap.size ≤ w.heap.size + 1 by omega) _) (show w.heap.size ≤ w.heap.size + 1 by omega) _) (show w.heap.size ≤ w.heap.size + 1 by omega) _)⟩
   ·have hlo : decide (lo ≤ 255) = false := decide_eq_false hlop
    clear hlop
    go_wp2_with (go_at_call 45; refine (index_any _ _).mono ?_; rintro e w9 ⟨rfl, rfl⟩)
    go_ret
    exact ⟨by simp [fitB, hn, ha, hb, hlo], (Gr.setCell (Gr.setCell (Gr.setCell HG.out (show w.heap.size ≤ w.heap.size + 1 by omega) _) (show w.heap.size ≤ w.heap.size + 1 by omega) _) (show w.heap.size ≤ w.heap.size + 1 by omega) _)⟩
  | false =>
   go_wp2_with (go_at_call 45; refine (index_any _ _).mono ?_; rintro e w9 ⟨rfl, rfl⟩)
   go_ret
   exact ⟨by simp [fitB, hn, ha, hb], (Gr.setCell (Gr.setCell (Gr.setCell HG.out (show w.heap.size ≤ w.heap.size + 1 by omega) _) (show w.heap.size ≤ w.heap.size + 1 by omega) _) (show w.heap.size ≤ w.heap.size + 1 by omega) _)⟩
 | false =>
  go_wp2_with (go_at_call 45; refine (index_any _ _).mono ?_; rintro e w9 ⟨rfl, rfl⟩)
  go_ret
  exact ⟨by simp [fitB, hn, ha], (Gr.setCell (Gr.setCell (Gr.setCell HG.out (show w.heap.size ≤ w.heap.size + 1 by omega) _) (show w.heap.size ≤ w.heap.size + 1 by omega) _) (show w.heap.size ≤ w.heap.size + 1 by omega) _)⟩
end Ex
end Go.Proofs.Ytebkabidojipoaa
/- ExN5 -/
namespace Go.Proofs.Ytebkabidojipoaa
open Go.RowKit VecM LebM
namespace Ex
set_option maxRecDepth 100000 in
set_option maxHeartbeats 4000000 in
theorem fits_9 (op a b lo hi : Int) (l : List Int) (x : Option Addr) (n c : Nat) (hn : l.length = n) (w : World) : Calls Try.prog 21 #[.agg #[.int .i64 op, .int .i64 a, .int .i64 b, .int .u64 lo, .int .u64 hi, .slice x n c], .int .i64 9] w fun e w' => e = .returned (.bool (fitB ⟨op, a, b, lo, hi, l⟩ 9)) ∧ Gr w w' := by
 go_enter Try.func21, Try.ntmps21
 go_upto_region 2 with (first | (refine wpList_load_row rfl 38 _ rfl w.heap.size rfl 38 #[.int .i64 op, .int .i64 a, .int .i64 b, .int .u64 lo, .int .u64 hi, .slice x n c] (0, 0) _ (by first | exact heap_alloc_new w _ | exact heap_alloc2_old w _ _) Try.underlying38 rfl infoIn ?_) | (refine wpList_store_row rfl 38 _ _ rfl (w.heap.size + 1) #[.int .i64 op, .int .i64 a, .int .i64 b, .int .u64 lo, .int .u64 hi, .slice x n c] rfl rfl 38 #[.int .i64 0, .int .i64 0, .int .i64 0, .int .u64 0, .int .u64 0, .slice none 0 0] (heap_alloc2_new w _ _) infoIn rfl (by kernel_rfl) ?_))
 have HI := (setRow_block_other (w := (w.alloc (.cells #[.int .i64 op, .int .i64 a, .int .i64 b, .int .u64 lo, .int .u64 hi, .slice x n c] 38)).alloc (.cells #[.int .i64 0, .int .i64 0, .int .i64 0, .int .u64 0, .int .u64 0, .slice none 0 0] 38)) (c := #[.int .i64 op, .int .i64 a, .int .i64 b, .int .u64 lo, .int .u64 hi, .slice x n c]) (show w.heap.size ≠ w.heap.size + 1 by omega)).trans (heap_alloc2_old w (.cells #[.int .i64 op, .int .i64 a, .int .i64 b, .int .u64 lo, .int .u64 hi, .slice x n c] 38) (.cells #[.int .i64 0, .int .i64 0, .int .i64 0, .int .u64 0, .int .u64 0, .slice none 0 0] 38))
 have HJ := setRow_block (c := #[.int .i64 op, .int .i64 a, .int .i64 b, .int .u64 lo, .int .u64 hi, .slice x n c]) (heap_alloc2_new w (.cells #[.int .i64 op, .int .i64 a, .int .i64 b, .int .u64 lo, .int .u64 hi, .slice x n c] 38) (.cells #[.int .i64 0, .int .i64 0, .int .i64 0, .int .u64 0, .int .u64 0, .slice none 0 0] 38))
 have HG := Lib.hid (gr_setRow (((Gr.refl w).alloc #[.int .i64 op, .int .i64 a, .int .i64 b, .int .u64 lo, .int .u64 hi, .slice x n c] 38).alloc #[.int .i64 0, .int .i64 0, .int .i64 0, .int .u64 0, .int .u64 0, .slice none 0 0] 38) (g := w.heap.size + 1) (by omega) #[.int .i64 op, .int .i64 a, .int .i64 b, .int .u64 lo, .int .u64 hi, .slice x n c])
 generalize ((w.alloc (.cells #[.int .i64 op, .int .i64 a, .int .i64 b, .int .u64 lo, .int .u64 hi, .slice x n c] 38)).alloc (.cells #[.int .i64 0, .int .i64 0, .int .i64 0, .int .u64 0, .int .u64 0, .slice none 0 0] 38)).setRow (w.heap.size + 1) #[.int .i64 op, .int .i64 a, .int .i64 b, .int .u64 lo, .int .u64 hi, .slice x n c] = w2 at *
 have i1 := (cells6 HI).2.1
 have i2 := (cells6 HI).2.2.1
 have i3 := (cells6 HI).2.2.2.1
 have i5 := (cells6 HI).2.2.2.2.2
 have r1 := (cells6 HJ).2.1
 have r2 := (cells6 HJ).2.2.1
 have r3 := (cells6 HJ).2.2.2.1
 have r4 := (cells6 HJ).2.2.2.2.1
 have r5 := (cells6 HJ).2.2.2.2.2
 have z1 := froz HJ 1
 have z2 := froz HJ 2
 have z3 := froz HJ 3
 have z4 := froz HJ 4
 have z5 := froz HJ 5
 clear HI HJ
 by_cases hlop : lo ≤ 4294967295
 ·have hlo : decide (lo ≤ 4294967295) = true := decide_eq_true hlop
  by_cases ca : a = 0
  ·subst ca
   by_cases cb : b = 0
   ·subst cb
    by_cases ch : hi = 0
    ·subst ch
     by_cases cn : n = 0
     ·subst cn
      go_wp2_with (go_at_call 45; refine (index_any _ _).mono ?_; rintro e w9 ⟨rfl, rfl⟩)
      go_ret
      exact ⟨by simp [fitB, hn, hlo], (Gr.setCell HG.out (show w.heap.size ≤ w.heap.size + 1 by omega) _)⟩
     ·have cnf : ((n : Int) == 0) = false := by simpa using cn
      have cng : (n == 0) = false := by simpa using cn
      clear cn
      go_wp2_with (go_at_call 45; refine (index_any _ _).mono ?_; rintro e w9 ⟨rfl, rfl⟩)
      go_ret
      exact ⟨by simp [fitB, hn, hlo, cng], (Gr.setCell HG.out (show w.heap.size ≤ w.heap.size + 1 by omega) _)⟩
    ·have chf : (hi == 0) = false := by simpa using ch
     clear ch
     go_wp2_with (go_at_call 45; refine (index_any _ _).mono ?_; rintro e w9 ⟨rfl, rfl⟩)
     go_ret
     exact ⟨by simp [fitB, hn, hlo, chf], (Gr.setCell HG.out (show w.heap.size ≤ w.heap.size + 1 by omega) _)⟩
   ·have cbf : (b == 0) = false := by simpa using cb
    clear cb
    go_wp2_with (go_at_call 45; refine (index_any _ _).mono ?_; rintro e w9 ⟨rfl, rfl⟩)
    go_ret
    exact ⟨by simp [fitB, hn, hlo, cbf], (Gr.setCell HG.out (show w.heap.size ≤ w.heap.size + 1 by omega) _)⟩
  ·have caf : (a == 0) = false := by simpa using ca
   clear ca
   go_wp2_with (go_at_call 45; refine (index_any _ _).mono ?_; rintro e w9 ⟨rfl, rfl⟩)
   go_ret
   exact ⟨by simp [fitB, hn, hlo, caf], (Gr.setCell HG.out (show w.heap.size ≤ w.heap.size + 1 by omega) _)⟩
 ·have hlo : decide (lo ≤ 4294967295) = false := decide_eq_false hlop
  clear hlop
  go_wp2_with (go_at_call 45; refine (index_any _ _).mono ?_; rintro e w9 ⟨rfl, rfl⟩)
  go_ret
  exact ⟨by simp [fitB, hn, hlo], (Gr.setCell HG.out (show w.heap.size ≤ w.heap.size + 1 by omega) _)⟩
set_option maxRecDepth 100000 in
set_option maxHeartbeats 4000000 in
theorem fits_10 (op a b lo hi : Int) (l : List Int) (x : Option Addr) (n c : Nat) (hn : l.length = n) (w : World) : Calls Try.prog 21 #[.agg #[.int .i64 op, .int .i64 a, .int .i64 b, .int .u64 lo, .int .u64 hi, .slice x n c], .int .i64 10] w fun e w' => e = .returned (.bool (fitB ⟨op, a, b, lo, hi, l⟩ 10)) ∧ Gr w w' := by
 go_enter Try.func21, Try.ntmps21
 go_upto_region 2 with (first | (refine wpList_load_row rfl 38 _ rfl w.heap.size rfl 38 #[.int .i64 op, .int .i64 a, .int .i64 b, .int .u64 lo, .int .u64 hi, .slice x n c] (0, 0) _ (by first | exact heap_alloc_new w _ | exact heap_alloc2_old w _ _) Try.underlying38 rfl infoIn ?_) | (refine wpList_store_row rfl 38 _ _ rfl (w.heap.size + 1) #[.int .i64 op, .int .i64 a, .int .i64 b, .int .u64 lo, .int .u64 hi, .slice x n c] rfl rfl 38 #[.int .i64 0, .int .i64 0, .int .i64 0, .int .u64 0, .int .u64 0, .slice none 0 0] (heap_alloc2_new w _ _) infoIn rfl (by kernel_rfl) ?_))
 have HI := (setRow_block_other (w := (w.alloc (.cells #[.int .i64 op, .int .i64 a, .int .i64 b, .int .u64 lo, .int .u64 hi, .slice x n c] 38)).alloc (.cells #[.int .i64 0, .int .i64 0, .int .i64 0, .int .u64 0, .int .u64 0, .slice none 0 0] 38)) (c := #[.int .i64 op, .int .i64 a, .int .i64 b, .int .u64 lo, .int .u64 hi, .slice x n c]) (show w.heap.size ≠ w.heap.size + 1 by omega)).trans (heap_alloc2_old w (.cells #[.int .i64 op, .int .i64 a, .int .i64 b, .int .u64 lo, .int .u64 hi, .slice x n c] 38) (.cells #[.int .i64 0, .int .i64 0, .int .i64 0, .int .u64 0, .int .u64 0, .slice none 0 0] 38))
 have HJ := setRow_block (c := #[.int .i64 op, .int .i64 a, .int .i64 b, .int .u64 lo, .int .u64 hi, .slice x n c]) (heap_alloc2_new w (.cells #[.int .i64 op, .int .i64 a, .int .i64 b, .int .u64 lo, .int .u64 hi, .slice x n c] 38) (.cells #[.int .i64 0, .int .i64 0, .int .i64 0, .int .u64 0, .int .u64 0, .slice none 0 0] 38))
 have HG := Lib.hid (gr_setRow (((Gr.refl w).alloc #[.int .i64 op, .int .i64 a, .int .i64 b, .int .u64 lo, .int .u64 hi, .slice x n c] 38).alloc #[.int .i64 0, .int .i64 0, .int .i64 0, .int .u64 0, .int .u64 0, .slice none 0 0] 38) (g := w.heap.size + 1) (by omega) #[.int .i64 op, .int .i64 a, .int .i64 b, .int .u64 lo, .int .u64 hi, .slice x n c])
 generalize ((w.alloc (.cells #[.int .i64 op, .int .i64 a, .int .i64 b, .int .u64 lo, .int .u64 hi, .slice x n c] 38)).alloc (.cells #[.int .i64 0, .int .i64 0, .int .i64 0, .int .u64 0, .int .u64 0, .slice none 0 0] 38)).setRow (w.heap.size + 1) #[.int .i64 op, .int .i64 a, .int .i64 b, .int .u64 lo, .int .u64 hi, .slice x n c] = w2 at *
 have i1 := (cells6 HI).2.1
 have i2 := (cells6 HI).2.2.1
 have i3 := (cells6 HI).2.2.2.1
 have i5 := (cells6 HI).2.2.2.2.2
 have r1 := (cells6 HJ).2.1
 have r2 := (cells6 HJ).2.2.1
 have r3 := (cells6 HJ).2.2.2.1
 have r4 := (cells6 HJ).2.2.2.2.1
 have r5 := (cells6 HJ).2.2.2.2.2
 have z1 := froz HJ 1
 have z2 := froz HJ 2
 have z3 := froz HJ 3
 have z4 := froz HJ 4
 have z5 := froz HJ 5
 clear HI HJ
 by_cases ca : a = 0
 ·subst ca
  by_cases cb : b = 0
  ·subst cb
   by_cases ch : hi = 0
   ·subst ch
    by_cases cn : n = 0
    ·subst cn
     go_wp2_with (go_at_call 45; refine (index_any _ _).mono ?_; rintro e w9 ⟨rfl, rfl⟩)
     go_ret
     exact ⟨by simp [fitB, hn], (Gr.setCell HG.out (show w.heap.size ≤ w.heap.size + 1 by omega) _)⟩
    ·have cnf : ((n : Int) == 0) = false := by simpa using cn
     have cng : (n == 0) = false := by simpa using cn
     clear cn
     go_wp2_with (go_at_call 45; refine (index_any _ _).mono ?_; rintro e w9 ⟨rfl, rfl⟩)
     go_ret
     exact ⟨by simp [fitB, hn, cng], (Gr.setCell HG.out (show w.heap.size ≤ w.heap.size + 1 by omega) _)⟩
   ·have chf : (hi == 0) = false := by simpa using ch
    clear ch
    go_wp2_with (go_at_call 45; refine (index_any _ _).mono ?_; rintro e w9 ⟨rfl, rfl⟩)
    go_ret
    exact ⟨by simp [fitB, hn, chf], (Gr.setCell HG.out (show w.heap.size ≤ w.heap.size + 1 by omega) _)⟩
  ·have cbf : (b == 0) = false := by simpa using cb
   clear cb
   go_wp2_with (go_at_call 45; refine (index_any _ _).mono ?_; rintro e w9 ⟨rfl, rfl⟩)
   go_ret
   exact ⟨by simp [fitB, hn, cbf], (Gr.setCell HG.out (show w.heap.size ≤ w.heap.size + 1 by omega) _)⟩
 ·have caf : (a == 0) = false := by simpa using ca
  clear ca
  go_wp2_with (go_at_call 45; refine (index_any _ _).mono ?_; rintro e w9 ⟨rfl, rfl⟩)
  go_ret
  exact ⟨by simp [fitB, hn, caf], (Gr.setCell HG.out (show w.heap.size ≤ w.heap.size + 1 by omega) _)⟩
set_option maxRecDepth 100000 in
set_option maxHeartbeats 4000000 in
theorem fits_11 (op a b lo hi : Int) (l : List Int) (x : Option Addr) (n c : Nat) (hn : l.length = n) (w : World) : Calls Try.prog 21 #[.agg #[.int .i64 op, .int .i64 a, .int .i64 b, .int .u64 lo, .int .u64 hi, .slice x n c], .int .i64 11] w fun e w' => e = .returned (.bool (fitB ⟨op, a, b, lo, hi, l⟩ 11)) ∧ Gr w w' := by
 go_enter Try.func21, Try.ntmps21
 go_upto_region 2 with (first | (refine wpList_load_row rfl 38 _ rfl w.heap.size rfl 38 #[.int .i64 op, .int .i64 a, .int .i64 b, .int .u64 lo, .int .u64 hi, .slice x n c] (0, 0) _ (by first | exact heap_alloc_new w _ | exact heap_alloc2_old w _ _) Try.underlying38 rfl infoIn ?_) | (refine wpList_store_row rfl 38 _ _ rfl (w.heap.size + 1) #[.int .i64 op, .int .i64 a, .int .i64 b, .int .u64 lo, .int .u64 hi, .slice x n c] rfl rfl 38 #[.int .i64 0, .int .i64 0, .int .i64 0, .int .u64 0, .int .u64 0, .slice none 0 0] (heap_alloc2_new w _ _) infoIn rfl (by kernel_rfl) ?_))
 have HI := (setRow_block_other (w := (w.alloc (.cells #[.int .i64 op, .int .i64 a, .int .i64 b, .int .u64 lo, .int .u64 hi, .slice x n c] 38)).alloc (.cells #[.int .i64 0, .int .i64 0, .int .i64 0, .int .u64 0, .int .u64 0, .slice none 0 0] 38)) (c := #[.int .i64 op, .int .i64 a, .int .i64 b, .int .u64 lo, .int .u64 hi, .slice x n c]) (show w.heap.size ≠ w.heap.size + 1 by omega)).trans (heap_alloc2_old w (.cells #[.int .i64 op, .int .i64 a, .int .i64 b, .int .u64 lo, .int .u64 hi, .slice x n c] 38) (.cells #[.int .i64 0, .int .i64 0, .int .i64 0, .int .u64 0, .int .u64 0, .slice none 0 0] 38))
 have HJ := setRow_block (c := #[.int .i64 op, .int .i64 a, .int .i64 b, .int .u64 lo, .int .u64 hi, .slice x n c]) (heap_alloc2_new w (.cells #[.int .i64 op, .int .i64 a, .int .i64 b, .int .u64 lo, .int .u64 hi, .slice x n c] 38) (.cells #[.int .i64 0, .int .i64 0, .int .i64 0, .int .u64 0, .int .u64 0, .slice none 0 0] 38))
 have HG := Lib.hid (gr_setRow (((Gr.refl w).alloc #[.int .i64 op, .int .i64 a, .int .i64 b, .int .u64 lo, .int .u64 hi, .slice x n c] 38).alloc #[.int .i64 0, .int .i64 0, .int .i64 0, .int .u64 0, .int .u64 0, .slice none 0 0] 38) (g := w.heap.size + 1) (by omega) #[.int .i64 op, .int .i64 a, .int .i64 b, .int .u64 lo, .int .u64 hi, .slice x n c])
 generalize ((w.alloc (.cells #[.int .i64 op, .int .i64 a, .int .i64 b, .int .u64 lo, .int .u64 hi, .slice x n c] 38)).alloc (.cells #[.int .i64 0, .int .i64 0, .int .i64 0, .int .u64 0, .int .u64 0, .slice none 0 0] 38)).setRow (w.heap.size + 1) #[.int .i64 op, .int .i64 a, .int .i64 b, .int .u64 lo, .int .u64 hi, .slice x n c] = w2 at *
 have i1 := (cells6 HI).2.1
 have i2 := (cells6 HI).2.2.1
 have i3 := (cells6 HI).2.2.2.1
 have i5 := (cells6 HI).2.2.2.2.2
 have r1 := (cells6 HJ).2.1
 have r2 := (cells6 HJ).2.2.1
 have r3 := (cells6 HJ).2.2.2.1
 have r4 := (cells6 HJ).2.2.2.2.1
 have r5 := (cells6 HJ).2.2.2.2.2
 have z1 := froz HJ 1
 have z2 := froz HJ 2
 have z3 := froz HJ 3
 have z4 := froz HJ 4
 have z5 := froz HJ 5
 clear HI HJ
 by_cases ca : a = 0
 ·subst ca
  by_cases cb : b = 0
  ·subst cb
   by_cases cn : n = 0
   ·subst cn
    go_wp2_with (go_at_call 45; refine (index_any _ _).mono ?_; rintro e w9 ⟨rfl, rfl⟩)
    go_ret
    exact ⟨by simp [fitB, hn], (Gr.setCell (Gr.setCell HG.out (show w.heap.size ≤ w.heap.size + 1 by omega) _) (show w.heap.size ≤ w.heap.size + 1 by omega) _)⟩
   ·have cnf : ((n : Int) == 0) = false := by simpa using cn
    have cng : (n == 0) = false := by simpa using cn
    clear cn
    go_wp2_with (go_at_call 45; refine (index_any _ _).mono ?_; rintro e w9 ⟨rfl, rfl⟩)
    go_ret
    exact ⟨by simp [fitB, hn, cng], (Gr.setCell (Gr.setCell HG.out (show w.heap.size ≤ w.heap.size + 1 by omega) _) (show w.heap.size ≤ w.heap.size + 1 by omega) _)⟩
  ·have cbf : (b == 0) = false := by simpa using cb
   clear cb
   go_wp2_with (go_at_call 45; refine (index_any _ _).mono ?_; rintro e w9 ⟨rfl, rfl⟩)
   go_ret
   exact ⟨by simp [fitB, hn, cbf], (Gr.setCell (Gr.setCell HG.out (show w.heap.size ≤ w.heap.size + 1 by omega) _) (show w.heap.size ≤ w.heap.size + 1 by omega) _)⟩
 ·have caf : (a == 0) = false := by simpa using ca
  clear ca
  go_wp2_with (go_at_call 45; refine (index_any _ _).mono ?_; rintro e w9 ⟨rfl, rfl⟩)
  go_ret
  exact ⟨by simp [fitB, hn, caf], (Gr.setCell (Gr.setCell HG.out (show w.heap.size ≤ w.heap.size + 1 by omega) _) (show w.heap.size ≤ w.heap.size + 1 by omega) _)⟩
end Ex
end Go.Proofs.Ytebkabidojipoaa
/- ExN6 -/
namespace Go.Proofs.Ytebkabidojipoaa
open Go.RowKit VecM LebM
namespace Ex
set_option maxRecDepth 100000 in
set_option maxHeartbeats 4000000 in
theorem fits_12 (op a b lo hi : Int) (l : List Int) (x : Option Addr) (n c : Nat) (hn : l.length = n) (w : World) : Calls Try.prog 21 #[.agg #[.int .i64 op, .int .i64 a, .int .i64 b, .int .u64 lo, .int .u64 hi, .slice x n c], .int .i64 12] w fun e w' => e = .returned (.bool (fitB ⟨op, a, b, lo, hi, l⟩ 12)) ∧ Gr w w' := by
 go_enter Try.func21, Try.ntmps21
 go_upto_region 2 with (first | (refine wpList_load_row rfl 38 _ rfl w.heap.size rfl 38 #[.int .i64 op, .int .i64 a, .int .i64 b, .int .u64 lo, .int .u64 hi, .slice x n c] (0, 0) _ (by first | exact heap_alloc_new w _ | exact heap_alloc2_old w _ _) Try.underlying38 rfl infoIn ?_) | (refine wpList_store_row rfl 38 _ _ rfl (w.heap.size + 1) #[.int .i64 op, .int .i64 a, .int .i64 b, .int .u64 lo, .int .u64 hi, .slice x n c] rfl rfl 38 #[.int .i64 0, .int .i64 0, .int .i64 0, .int .u64 0, .int .u64 0, .slice none 0 0] (heap_alloc2_new w _ _) infoIn rfl (by kernel_rfl) ?_))
 have HI := (setRow_block_other (w := (w.alloc (.cells #[.int .i64 op, .int .i64 a, .int .i64 b, .int .u64 lo, .int .u64 hi, .slice x n c] 38)).alloc (.cells #[.int .i64 0, .int .i64 0, .int .i64 0, .int .u64 0, .int .u64 0, .slice none 0 0] 38)) (c := #[.int .i64 op, .int .i64 a, .int .i64 b, .int .u64 lo, .int .u64 hi, .slice x n c]) (show w.heap.size ≠ w.heap.size + 1 by omega)).trans (heap_alloc2_old w (.cells #[.int .i64 op, .int .i64 a, .int .i64 b, .int .u64 lo, .int .u64 hi, .slice x n c] 38) (.cells #[.int .i64 0, .int .i64 0, .int .i64 0, .int .u64 0, .int .u64 0, .slice none 0 0] 38))
 have HJ := setRow_block (c := #[.int .i64 op, .int .i64 a, .int .i64 b, .int .u64 lo, .int .u64 hi, .slice x n c]) (heap_alloc2_new w (.cells #[.int .i64 op, .int .i64 a, .int .i64 b, .int .u64 lo, .int .u64 hi, .slice x n c] 38) (.cells #[.int .i64 0, .int .i64 0, .int .i64 0, .int .u64 0, .int .u64 0, .slice none 0 0] 38))
 have HG := Lib.hid (gr_setRow (((Gr.refl w).alloc #[.int .i64 op, .int .i64 a, .int .i64 b, .int .u64 lo, .int .u64 hi, .slice x n c] 38).alloc #[.int .i64 0, .int .i64 0, .int .i64 0, .int .u64 0, .int .u64 0, .slice none 0 0] 38) (g := w.heap.size + 1) (by omega) #[.int .i64 op, .int .i64 a, .int .i64 b, .int .u64 lo, .int .u64 hi, .slice x n c])
 generalize ((w.alloc (.cells #[.int .i64 op, .int .i64 a, .int .i64 b, .int .u64 lo, .int .u64 hi, .slice x n c] 38)).alloc (.cells #[.int .i64 0, .int .i64 0, .int .i64 0, .int .u64 0, .int .u64 0, .slice none 0 0] 38)).setRow (w.heap.size + 1) #[.int .i64 op, .int .i64 a, .int .i64 b, .int .u64 lo, .int .u64 hi, .slice x n c] = w2 at *
 have i1 := (cells6 HI).2.1
 have i2 := (cells6 HI).2.2.1
 have i3 := (cells6 HI).2.2.2.1
 have i5 := (cells6 HI).2.2.2.2.2
 have r1 := (cells6 HJ).2.1
 have r2 := (cells6 HJ).2.2.1
 have r3 := (cells6 HJ).2.2.2.1
 have r4 := (cells6 HJ).2.2.2.2.1
 have r5 := (cells6 HJ).2.2.2.2.2
 have z1 := froz HJ 1
 have z2 := froz HJ 2
 have z3 := froz HJ 3
 have z4 := froz HJ 4
 have z5 := froz HJ 5
 clear HI HJ
 by_cases ca : a = 0
 ·subst ca
  by_cases cb : b = 0
  ·subst cb
   by_cases cn : n = 0
   ·subst cn
    go_wp2_with (go_at_call 45; refine (index_any _ _).mono ?_; rintro e w9 ⟨rfl, rfl⟩)
    go_ret
    exact ⟨by simp [fitB, hn], (Gr.setCell (Gr.setCell HG.out (show w.heap.size ≤ w.heap.size + 1 by omega) _) (show w.heap.size ≤ w.heap.size + 1 by omega) _)⟩
   ·have cnf : ((n : Int) == 0) = false := by simpa using cn
    have cng : (n == 0) = false := by simpa using cn
    clear cn
    go_wp2_with (go_at_call 45; refine (index_any _ _).mono ?_; rintro e w9 ⟨rfl, rfl⟩)
    go_ret
    exact ⟨by simp [fitB, hn, cng], (Gr.setCell (Gr.setCell HG.out (show w.heap.size ≤ w.heap.size + 1 by omega) _) (show w.heap.size ≤ w.heap.size + 1 by omega) _)⟩
  ·have cbf : (b == 0) = false := by simpa using cb
   clear cb
   go_wp2_with (go_at_call 45; refine (index_any _ _).mono ?_; rintro e w9 ⟨rfl, rfl⟩)
   go_ret
   exact ⟨by simp [fitB, hn, cbf], (Gr.setCell (Gr.setCell HG.out (show w.heap.size ≤ w.heap.size + 1 by omega) _) (show w.heap.size ≤ w.heap.size + 1 by omega) _)⟩
 ·have caf : (a == 0) = false := by simpa using ca
  clear ca
  go_wp2_with (go_at_call 45; refine (index_any _ _).mono ?_; rintro e w9 ⟨rfl, rfl⟩)
  go_ret
  exact ⟨by simp [fitB, hn, caf], (Gr.setCell (Gr.setCell HG.out (show w.heap.size ≤ w.heap.size + 1 by omega) _) (show w.heap.size ≤ w.heap.size + 1 by omega) _)⟩
set_option maxRecDepth 100000 in
set_option maxHeartbeats 4000000 in
theorem fits_13 (op a b lo hi : Int) (l : List Int) (x : Option Addr) (n c : Nat) (hn : l.length = n) (w : World) : Calls Try.prog 21 #[.agg #[.int .i64 op, .int .i64 a, .int .i64 b, .int .u64 lo, .int .u64 hi, .slice x n c], .int .i64 13] w fun e w' => e = .returned (.bool (fitB ⟨op, a, b, lo, hi, l⟩ 13)) ∧ Gr w w' := by
 go_enter Try.func21, Try.ntmps21
 go_upto_region 2 with (first | (refine wpList_load_row rfl 38 _ rfl w.heap.size rfl 38 #[.int .i64 op, .int .i64 a, .int .i64 b, .int .u64 lo, .int .u64 hi, .slice x n c] (0, 0) _ (by first | exact heap_alloc_new w _ | exact heap_alloc2_old w _ _) Try.underlying38 rfl infoIn ?_) | (refine wpList_store_row rfl 38 _ _ rfl (w.heap.size + 1) #[.int .i64 op, .int .i64 a, .int .i64 b, .int .u64 lo, .int .u64 hi, .slice x n c] rfl rfl 38 #[.int .i64 0, .int .i64 0, .int .i64 0, .int .u64 0, .int .u64 0, .slice none 0 0] (heap_alloc2_new w _ _) infoIn rfl (by kernel_rfl) ?_))
 have HI := (setRow_block_other (w := (w.alloc (.cells #[.int .i64 op, .int .i64 a, .int .i64 b, .int .u64 lo, .int .u64 hi, .slice x n c] 38)).alloc (.cells #[.int .i64 0, .int .i64 0, .int .i64 0, .int .u64 0, .int .u64 0, .slice none 0 0] 38)) (c := #[.int .i64 op, .int .i64 a, .int .i64 b, .int .u64 lo, .int .u64 hi, .slice x n c]) (show w.heap.size ≠ w.heap.size + 1 by omega)).trans (heap_alloc2_old w (.cells #[.int .i64 op, .int .i64 a, .int .i64 b, .int .u64 lo, .int .u64 hi, .slice x n c] 38) (.cells #[.int .i64 0, .int .i64 0, .int .i64 0, .int .u64 0, .int .u64 0, .slice none 0 0] 38))
 have HJ := setRow_block (c := #[.int .i64 op, .int .i64 a, .int .i64 b, .int .u64 lo, .int .u64 hi, .slice x n c]) (heap_alloc2_new w (.cells #[.int .i64 op, .int .i64 a, .int .i64 b, .int .u64 lo, .int .u64 hi, .slice x n c] 38) (.cells #[.int .i64 0, .int .i64 0, .int .i64 0, .int .u64 0, .int .u64 0, .slice none 0 0] 38))
 have HG := Lib.hid (gr_setRow (((Gr.refl w).alloc #[.int .i64 op, .int .i64 a, .int .i64 b, .int .u64 lo, .int .u64 hi, .slice x n c] 38).alloc #[.int .i64 0, .int .i64 0, .int .i64 0, .int .u64 0, .int .u64 0, .slice none 0 0] 38) (g := w.heap.size + 1) (by omega) #[.int .i64 op, .int .i64 a, .int .i64 b, .int .u64 lo, .int .u64 hi, .slice x n c])
 generalize ((w.alloc (.cells #[.int .i64 op, .int .i64 a, .int .i64 b, .int .u64 lo, .int .u64 hi, .slice x n c] 38)).alloc (.cells #[.int .i64 0, .int .i64 0, .int .i64 0, .int .u64 0, .int .u64 0, .slice none 0 0] 38)).setRow (w.heap.size + 1) #[.int .i64 op, .int .i64 a, .int .i64 b, .int .u64 lo, .int .u64 hi, .slice x n c] = w2 at *
 have i1 := (cells6 HI).2.1
 have i2 := (cells6 HI).2.2.1
 have i3 := (cells6 HI).2.2.2.1
 have i5 := (cells6 HI).2.2.2.2.2
 have r1 := (cells6 HJ).2.1
 have r2 := (cells6 HJ).2.2.1
 have r3 := (cells6 HJ).2.2.2.1
 have r4 := (cells6 HJ).2.2.2.2.1
 have r5 := (cells6 HJ).2.2.2.2.2
 have z1 := froz HJ 1
 have z2 := froz HJ 2
 have z3 := froz HJ 3
 have z4 := froz HJ 4
 have z5 := froz HJ 5
 clear HI HJ
 by_cases h0p : a ≥ 0
 ·have h0 : decide (a ≥ 0) = true := decide_eq_true h0p
  by_cases h1p : a ≤ 255
  ·have h1 : decide (a ≤ 255) = true := decide_eq_true h1p
   by_cases cb : b = 0
   ·subst cb
    by_cases cl : lo = 0
    ·subst cl
     by_cases ch : hi = 0
     ·subst ch
      by_cases cn : n = 0
      ·subst cn
       go_wp2_with (go_at_call 45; refine (index_any _ _).mono ?_; rintro e w9 ⟨rfl, rfl⟩)
       go_ret
       exact ⟨by simp [fitB, hn, h0, h1], (Gr.setCell HG.out (show w.heap.size ≤ w.heap.size + 1 by omega) _)⟩
      ·have cnf : ((n : Int) == 0) = false := by simpa using cn
       have cng : (n == 0) = false := by simpa using cn
       clear cn
       go_wp2_with (go_at_call 45; refine (index_any _ _).mono ?_; rintro e w9 ⟨rfl, rfl⟩)
       go_ret
       exact ⟨by simp [fitB, hn, h0, h1, cng], (Gr.setCell HG.out (show w.heap.size ≤ w.heap.size + 1 by omega) _)⟩
     ·have chf : (hi == 0) = false := by simpa using ch
      clear ch
      go_wp2_with (go_at_call 45; refine (index_any _ _).mono ?_; rintro e w9 ⟨rfl, rfl⟩)
      go_ret
      exact ⟨by simp [fitB, hn, h0, h1, chf], (Gr.setCell HG.out (show w.heap.size ≤ w.heap.size + 1 by omega) _)⟩
    ·have clf : (lo == 0) = false := by simpa using cl
     clear cl
     go_wp2_with (go_at_call 45; refine (index_any _ _).mono ?_; rintro e w9 ⟨rfl, rfl⟩)
     go_ret
     exact ⟨by simp [fitB, hn, h0, h1, clf], (Gr.setCell HG.out (show w.heap.size ≤ w.heap.size + 1 by omega) _)⟩
   ·have cbf : (b == 0) = false := by simpa using cb
    clear cb
    go_wp2_with (go_at_call 45; refine (index_any _ _).mono ?_; rintro e w9 ⟨rfl, rfl⟩)
    go_ret
    exact ⟨by simp [fitB, hn, h0, h1, cbf], (Gr.setCell HG.out (show w.heap.size ≤ w.heap.size + 1 by omega) _)⟩
  ·have h1 : decide (a ≤ 255) = false := decide_eq_false h1p
   clear h1p
   go_wp2_with (go_at_call 45; refine (index_any _ _).mono ?_; rintro e w9 ⟨rfl, rfl⟩)
   go_ret
   exact ⟨by simp [fitB, hn, h0, h1], (Gr.setCell HG.out (show w.heap.size ≤ w.heap.size + 1 by omega) _)⟩
 ·have h0 : decide (a ≥ 0) = false := decide_eq_false h0p
  clear h0p
  go_wp2_with (go_at_call 45; refine (index_any _ _).mono ?_; rintro e w9 ⟨rfl, rfl⟩)
  go_ret
  exact ⟨by simp [fitB, hn, h0], (Gr.setCell HG.out (show w.heap.size ≤ w.heap.size + 1 by omega) _)⟩
set_option maxRecDepth 100000 in
set_option maxHeartbeats 4000000 in
theorem fits_no (op a b lo hi : Int) (l : List Int) (x : Option Addr) (n c : Nat) (hn : l.length = n) (w : World) (form : Int) (hf : form ≤ 1 ∨ 13 < form) : Calls Try.prog 21 #[.agg #[.int .i64 op, .int .i64 a, .int .i64 b, .int .u64 lo, .int .u64 hi, .slice x n c], .int .i64 form] w fun e w' => e = .returned (.bool (fitB ⟨op, a, b, lo, hi, l⟩ form)) ∧ Gr w w' := by
 have n2 : (form == 2) = false := by simp; omega
 have n3 : (form == 3) = false := by simp; omega
 have n4 : (form == 4) = false := by simp; omega
 have n5 : (form == 5) = false := by simp; omega
 have n6 : (form == 6) = false := by simp; omega
 have n7 : (form == 7) = false := by simp; omega
 have n8 : (form == 8) = false := by simp; omega
 have n9 : (form == 9) = false := by simp; omega
 have n10 : (form == 10) = false := by simp; omega
 have n11 : (form == 11) = false := by simp; omega
 have n12 : (form == 12) = false := by simp; omega
 have n13 : (form == 13) = false := by simp; omega
 have e0 : fitB ⟨op, a, b, lo, hi, l⟩ form = ((a == 0) && (b == 0) && (lo == 0) && (hi == 0) && (l.length == 0)) := by
  unfold fitB
  rw [if_neg (by omega), if_neg (by omega), if_neg (by omega), if_neg (by omega), if_neg (by omega), if_neg (by omega), if_neg (by omega), if_neg (by omega), if_neg (by omega)]
 rw [e0]
 clear e0 hf
 go_enter Try.func21, Try.ntmps21
 go_upto_region 2 with (first | (refine wpList_load_row rfl 38 _ rfl w.heap.size rfl 38 #[.int .i64 op, .int .i64 a, .int .i64 b, .int .u64 lo, .int .u64 hi, .slice x n c] (0, 0) _ (by first | exact heap_alloc_new w _ | exact heap_alloc2_old w _ _) Try.underlying38 rfl infoIn ?_) | (refine wpList_store_row rfl 38 _ _ rfl (w.heap.size + 1) #[.int .i64 op, .int .i64 a, .int .i64 b, .int .u64 lo, .int .u64 hi, .slice x n c] rfl rfl 38 #[.int .i64 0, .int .i64 0, .int .i64 0, .int .u64 0, .int .u64 0, .slice none 0 0] (heap_alloc2_new w _ _) infoIn rfl (by kernel_rfl) ?_))
 have HI := (setRow_block_other (w := (w.alloc (.cells #[.int .i64 op, .int .i64 a, .int .i64 b, .int .u64 lo, .int .u64 hi, .slice x n c] 38)).alloc (.cells #[.int .i64 0, .int .i64 0, .int .i64 0, .int .u64 0, .int .u64 0, .slice none 0 0] 38)) (c := #[.int .i64 op, .int .i64 a, .int .i64 b, .int .u64 lo, .int .u64 hi, .slice x n c]) (show w.heap.size ≠ w.heap.size + 1 by omega)).trans (heap_alloc2_old w (.cells #[.int .i64 op, .int .i64 a, .int .i64 b, .int .u64 lo, .int .u64 hi, .slice x n c] 38) (.cells #[.int .i64 0, .int .i64 0, .int .i64 0, .int .u64 0, .int .u64 0, .slice none 0 0] 38))
 have HJ := setRow_block (c := #[.int .i64 op, .int .i64 a, .int .i64 b, .int .u64 lo, .int .u64 hi, .slice x n c]) (heap_alloc2_new w (.cells #[.int .i64 op, .int .i64 a, .int .i64 b, .int .u64 lo, .int .u64 hi, .slice x n c] 38) (.cells #[.int .i64 0, .int .i64 0, .int .i64 0, .int .u64 0, .int .u64 0, .slice none 0 0] 38))
 have HG := Lib.hid (gr_setRow (((Gr.refl w).alloc #[.int .i64 op, .int .i64 a, .int .i64 b, .int .u64 lo, .int .u64 hi, .slice x n c] 38).alloc #[.int .i64 0, .int .i64 0, .int .i64 0, .int .u64 0, .int .u64 0, .slice none 0 0] 38) (g := w.heap.size + 1) (by omega) #[.int .i64 op, .int .i64 a, .int .i64 b, .int .u64 lo, .int .u64 hi, .slice x n c])
 generalize ((w.alloc (.cells #[.int .i64 op, .int .i64 a, .int .i64 b, .int .u64 lo, .int .u64 hi, .slice x n c] 38)).alloc (.cells #[.int .i64 0, .int .i64 0, .int .i64 0, .int .u64 0, .int .u64 0, .slice none 0 0] 38)).setRow (w.heap.size + 1) #[.int .i64 op, .int .i64 a, .int .i64 b, .int .u64 lo, .int .u64 hi, .slice x n c] = w2 at *
 have i1 := (cells6 HI).2.1
 have i2 := (cells6 HI).2.2.1
 have i3 := (cells6 HI).2.2.2.1
 have i5 := (cells6 HI).2.2.2.2.2
 have r1 := (cells6 HJ).2.1
 have r2 := (cells6 HJ).2.2.1
 have r3 := (cells6 HJ).2.2.2.1
 have r4 := (cells6 HJ).2.2.2.2.1
 have r5 := (cells6 HJ).2.2.2.2.2
 have z1 := froz HJ 1
 have z2 := froz HJ 2
 have z3 := froz HJ 3
 have z4 := froz HJ 4
 have z5 := froz HJ 5
 clear HI HJ
 by_cases ca : a = 0
 ·subst ca
  by_cases cb : b = 0
  ·subst cb
   by_cases cl : lo = 0
   ·subst cl
    by_cases ch : hi = 0
    ·subst ch
     by_cases cn : n = 0
     ·subst cn
      go_wp2_with (go_at_call 45; refine (index_any _ _).mono ?_; rintro e w9 ⟨rfl, rfl⟩)
      go_ret
      exact ⟨by simp [hn], HG.out⟩
     ·have cnf : ((n : Int) == 0) = false := by simpa using cn
      have cng : (n == 0) = false := by simpa using cn
      clear cn
      go_wp2_with (go_at_call 45; refine (index_any _ _).mono ?_; rintro e w9 ⟨rfl, rfl⟩)
      go_ret
      exact ⟨by simp [hn, cng], HG.out⟩
    ·have chf : (hi == 0) = false := by simpa using ch
     clear ch
     go_wp2_with (go_at_call 45; refine (index_any _ _).mono ?_; rintro e w9 ⟨rfl, rfl⟩)
     go_ret
     exact ⟨by simp [hn, chf], HG.out⟩
   ·have clf : (lo == 0) = false := by simpa using cl
    clear cl
    go_wp2_with (go_at_call 45; refine (index_any _ _).mono ?_; rintro e w9 ⟨rfl, rfl⟩)
    go_ret
    exact ⟨by simp [hn, clf], HG.out⟩
  ·have cbf : (b == 0) = false := by simpa using cb
   clear cb
   go_wp2_with (go_at_call 45; refine (index_any _ _).mono ?_; rintro e w9 ⟨rfl, rfl⟩)
   go_ret
   exact ⟨by simp [hn, cbf], HG.out⟩
 ·have caf : (a == 0) = false := by simpa using ca
  clear ca
  go_wp2_with (go_at_call 45; refine (index_any _ _).mono ?_; rintro e w9 ⟨rfl, rfl⟩)
  go_ret
  exact ⟨by simp [hn, caf], HG.out⟩
end Ex
end Go.Proofs.Ytebkabidojipoaa
/- ExN7 -/
namespace Go.Proofs.Ytebkabidojipoaa
open Go.RowKit VecM LebM
namespace Ex
set_option maxRecDepth 100000 in
set_option maxHeartbeats 4000000 in
theorem fits_4 (op a b lo hi : Int) (l : List Int) (x : Option Addr) (n c : Nat) (hn : l.length = n) (w : World) (hl : n ≤ 1099511627776) (hr : LsR w (.slice x n c) l) : Calls Try.prog 21 #[.agg #[.int .i64 op, .int .i64 a, .int .i64 b, .int .u64 lo, .int .u64 hi, .slice x n c], .int .i64 4] w fun e w' => e = .returned (.bool (fitB ⟨op, a, b, lo, hi, l⟩ 4)) ∧ Gr w w' := by
 have HLR := Lib.hid (fun wx (hg : Gr w wx) => lsR_gr hr hg)
 have HNN := Lib.hid hn
 have HLL := Lib.hid hl
 clear hr
 obtain ⟨bA, hbA⟩ : ∃ v, idxB a = v := ⟨_, rfl⟩
 have HIA := Lib.hid (show ∀ wx, Calls Try.prog 45 #[.int .i64 a] wx fun e w' => e = .returned (.bool bA) ∧ wx = w' from fun wx => hbA ▸ index_any a wx)
 have HBA := Lib.hid hbA
 clear hbA hn hl
 go_enter Try.func21, Try.ntmps21
 go_upto_region 2 with (first | (refine wpList_load_row rfl 38 _ rfl w.heap.size rfl 38 #[.int .i64 op, .int .i64 a, .int .i64 b, .int .u64 lo, .int .u64 hi, .slice x n c] (0, 0) _ (by first | exact heap_alloc_new w _ | exact heap_alloc2_old w _ _) Try.underlying38 rfl infoIn ?_) | (refine wpList_store_row rfl 38 _ _ rfl (w.heap.size + 1) #[.int .i64 op, .int .i64 a, .int .i64 b, .int .u64 lo, .int .u64 hi, .slice x n c] rfl rfl 38 #[.int .i64 0, .int .i64 0, .int .i64 0, .int .u64 0, .int .u64 0, .slice none 0 0] (heap_alloc2_new w _ _) infoIn rfl (by kernel_rfl) ?_))
 have HI := (setRow_block_other (w := (w.alloc (.cells #[.int .i64 op, .int .i64 a, .int .i64 b, .int .u64 lo, .int .u64 hi, .slice x n c] 38)).alloc (.cells #[.int .i64 0, .int .i64 0, .int .i64 0, .int .u64 0, .int .u64 0, .slice none 0 0] 38)) (c := #[.int .i64 op, .int .i64 a, .int .i64 b, .int .u64 lo, .int .u64 hi, .slice x n c]) (show w.heap.size ≠ w.heap.size + 1 by omega)).trans (heap_alloc2_old w (.cells #[.int .i64 op, .int .i64 a, .int .i64 b, .int .u64 lo, .int .u64 hi, .slice x n c] 38) (.cells #[.int .i64 0, .int .i64 0, .int .i64 0, .int .u64 0, .int .u64 0, .slice none 0 0] 38))
 have HJ := setRow_block (c := #[.int .i64 op, .int .i64 a, .int .i64 b, .int .u64 lo, .int .u64 hi, .slice x n c]) (heap_alloc2_new w (.cells #[.int .i64 op, .int .i64 a, .int .i64 b, .int .u64 lo, .int .u64 hi, .slice x n c] 38) (.cells #[.int .i64 0, .int .i64 0, .int .i64 0, .int .u64 0, .int .u64 0, .slice none 0 0] 38))
 have HG := Lib.hid (gr_setRow (((Gr.refl w).alloc #[.int .i64 op, .int .i64 a, .int .i64 b, .int .u64 lo, .int .u64 hi, .slice x n c] 38).alloc #[.int .i64 0, .int .i64 0, .int .i64 0, .int .u64 0, .int .u64 0, .slice none 0 0] 38) (g := w.heap.size + 1) (by omega) #[.int .i64 op, .int .i64 a, .int .i64 b, .int .u64 lo, .int .u64 hi, .slice x n c])
 generalize ((w.alloc (.cells #[.int .i64 op, .int .i64 a, .int .i64 b, .int .u64 lo, .int .u64 hi, .slice x n c] 38)).alloc (.cells #[.int .i64 0, .int .i64 0, .int .i64 0, .int .u64 0, .int .u64 0, .slice none 0 0] 38)).setRow (w.heap.size + 1) #[.int .i64 op, .int .i64 a, .int .i64 b, .int .u64 lo, .int .u64 hi, .slice x n c] = w2 at *
 have i1 := (cells6 HI).2.1
 have i2 := (cells6 HI).2.2.1
 have i3 := (cells6 HI).2.2.2.1
 have i5 := (cells6 HI).2.2.2.2.2
 have r1 := (cells6 HJ).2.1
 have r2 := (cells6 HJ).2.2.1
 have r3 := (cells6 HJ).2.2.2.1
 have r4 := (cells6 HJ).2.2.2.2.1
 have r5 := (cells6 HJ).2.2.2.2.2
 have z1 := froz HJ 1
 have z2 := froz HJ 2
 have z3 := froz HJ 3
 have z4 := froz HJ 4
 have z5 := froz HJ 5
 clear HI HJ
 go_wp2_with (go_at_call 45; refine (HIA.out _).mono ?_; rintro e w9 ⟨rfl, rfl⟩)
 go_loopw [6, 52] (fun okv i wr => ∃ k : Nat, k ≤ n ∧ i = .int .i64 k ∧ okv = .bool (bA && (l.take k).all idxB) ∧ wr = w2) (fun _ i _ => n - (intOf i).toNat)
 case atStart => exact ⟨0, by omega, rfl, by simp, rfl⟩
 case round =>
  obtain ⟨k, hk, rfl, rfl, rfl⟩ := hrel
  by_cases hlt : k < n
  ·obtain ⟨x', c', he, hcell⟩ := HLR.out _ HG.out
   have hln := HNN.out
   obtain ⟨rfl, -, rfl⟩ := Value.slice.inj he
   obtain ⟨b', off, rfl, hc⟩ := hcell k (by omega)
   obtain ⟨z, hz⟩ : ∃ z, l.getD k 0 = z := ⟨_, rfl⟩
   rw [hz] at hc
   have HK := Lib.hid (show (bA && (l.take (k + 1)).all idxB) = (bA && (l.take k).all idxB && idxB z) from by
    have hg : l[k]? = some z := by
     rw [List.getD_eq_getElem?_getD, List.getElem?_eq_getElem (by omega)] at hz
     rw [List.getElem?_eq_getElem (by omega)]
     simpa using hz
    rw [List.take_add_one, hg, List.all_append]; simp [Bool.and_assoc])
   have TK : IntKind.i64.wrap ((k : Int) + 1) = (k : Int) + 1 := by have := HLL.out; rw [IntKind.wrap_i64]; omega
   clear hcell hln he hz
   cases hb : (bA && (l.take k).all idxB) with
   | true =>
    as_aux_lemma =>
     go_wp2_with (go_at_call 45; refine (index_any _ _).mono ?_; rintro e w9 ⟨rfl, rfl⟩)
     exact ⟨⟨k + 1, by omega, by first | rfl | go_num, by rw [HK.out, hb]; rfl, trivial⟩, by simp [intOf]; omega⟩
   | false =>
    as_aux_lemma =>
     go_wp2
     exact ⟨⟨k + 1, by omega, by first | rfl | go_num, by rw [HK.out, hb]; rfl, trivial⟩, by simp [intOf]; omega⟩
  ·obtain rfl : k = n := by omega
   have e0 : fitB ⟨op, a, b, lo, hi, l⟩ 4 = ((bA && (l.take k).all idxB) && (b == 0) && (lo == 0) && (hi == 0)) := by
    have h1 := HNN.out
    have h2 := HBA.out
    show (idxB a && l.all idxB && (b == 0) && (lo == 0) && (hi == 0)) = _
    rw [h2, List.take_of_length_le (by omega)]
   have HE0 := Lib.hid e0
   clear e0 hlt
   generalize hokv : (bA && (l.take k).all idxB) = okv at *
   clear hokv
   cases hok : okv with
   | true =>
    by_cases cb : b = 0
    ·subst cb
     by_cases cl : lo = 0
     ·subst cl
      by_cases ch : hi = 0
      ·subst ch
       as_aux_lemma =>
        go_wp2
        go_ret
        exact ⟨by rw [HE0.out]; simp [hok], (Gr.setCell (Gr.setCell HG.out (show w.heap.size ≤ w.heap.size + 1 by omega) _) (show w.heap.size ≤ w.heap.size + 1 by omega) _)⟩
      ·have chf : (hi == 0) = false := by simpa using ch
       clear ch
       as_aux_lemma =>
        go_wp2
        go_ret
        exact ⟨by rw [HE0.out]; simp [hok, chf], (Gr.setCell (Gr.setCell HG.out (show w.heap.size ≤ w.heap.size + 1 by omega) _) (show w.heap.size ≤ w.heap.size + 1 by omega) _)⟩
     ·have clf : (lo == 0) = false := by simpa using cl
      clear cl
      as_aux_lemma =>
       go_wp2
       go_ret
       exact ⟨by rw [HE0.out]; simp [hok, clf], (Gr.setCell (Gr.setCell HG.out (show w.heap.size ≤ w.heap.size + 1 by omega) _) (show w.heap.size ≤ w.heap.size + 1 by omega) _)⟩
    ·have cbf : (b == 0) = false := by simpa using cb
     clear cb
     as_aux_lemma =>
      go_wp2
      go_ret
      exact ⟨by rw [HE0.out]; simp [hok, cbf], (Gr.setCell (Gr.setCell HG.out (show w.heap.size ≤ w.heap.size + 1 by omega) _) (show w.heap.size ≤ w.heap.size + 1 by omega) _)⟩
   | false =>
    as_aux_lemma =>
     go_wp2
     go_ret
     exact ⟨by rw [HE0.out]; simp [hok], (Gr.setCell (Gr.setCell HG.out (show w.heap.size ≤ w.heap.size + 1 by omega) _) (show w.heap.size ≤ w.heap.size + 1 by omega) _)⟩
end Ex
end Go.Proofs.Ytebkabidojipoaa
/- ExNz -/
namespace Go.Proofs.Ytebkabidojipoaa
open Go.RowKit VecM LebM
namespace Ex
theorem fits_any (op a b lo hi : Int) (l : List Int) (x : Option Addr) (n c : Nat) (hn : l.length = n) (w : World) (hl : n ≤ 1099511627776) (hr : LsR w (.slice x n c) l) (form : Int) : Calls Try.prog 21 #[.agg #[.int .i64 op, .int .i64 a, .int .i64 b, .int .u64 lo, .int .u64 hi, .slice x n c], .int .i64 form] w fun e w' => e = .returned (.bool (fitB ⟨op, a, b, lo, hi, l⟩ form)) ∧ Gr w w' := by
 by_cases hf : form ≤ 1 ∨ 13 < form
 ·exact fits_no op a b lo hi l x n c hn w form hf
 ·have hc : form = 2 ∨ form = 3 ∨ form = 4 ∨ form = 5 ∨ form = 6 ∨ form = 7 ∨ form = 8 ∨ form = 9 ∨ form = 10 ∨ form = 11 ∨ form = 12 ∨ form = 13 := by omega
  rcases hc with rfl | rfl | rfl | rfl | rfl | rfl | rfl | rfl | rfl | rfl | rfl | rfl
  ·exact fits_2 op a b lo hi l x n c hn w
  ·exact fits_3 op a b lo hi l x n c hn w
  ·exact fits_4 op a b lo hi l x n c hn w hl hr
  ·exact fits_5 op a b lo hi l x n c hn w
  ·exact fits_6 op a b lo hi l x n c hn w
  ·exact fits_7 op a b lo hi l x n c hn w
  ·exact fits_8 op a b lo hi l x n c hn w
  ·exact fits_9 op a b lo hi l x n c hn w
  ·exact fits_10 op a b lo hi l x n c hn w
  ·exact fits_11 op a b lo hi l x n c hn w
  ·exact fits_12 op a b lo hi l x n c hn w
  ·exact fits_13 op a b lo hi l x n c hn w
end Ex
end Go.Proofs.Ytebkabidojipoaa
