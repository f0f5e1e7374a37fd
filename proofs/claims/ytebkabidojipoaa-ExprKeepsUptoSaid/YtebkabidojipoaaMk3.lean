/-
  Texts of this seat, joined: Kit, LebM, LebFit, LebRead, LebUS, ExM, Steady, Net, InsSh, InsTy, NetTail, BuildS. Each says what it proves.
-/
import Derived.Test.YtebkabidojipoaaMk1
import Derived.Test.YtebkabidojipoaaRows
import Derived.WalkKit
import Derived.WalkSpells
import Derived.WalkLawsBesides
import Derived.Lib.Hide
import Derived.Deep.Cut
import Derived.Deep.WholeRow
import Derived.Deep.RegionWith
import Derived.Deep.RegionHeld3
import Derived.StillTailTactics
import Derived.BigQuiet
import Derived.Laws.Bits64b
import Derived.Laws.AppendOwn
import Derived.Below
import Derived.Carry
/- Kit -/
namespace Go.Proofs.Ytebkabidojipoaa
open Go.RowKit VecM
def Gr (w w' : World) : Prop := Below w.heap.size w w'
theorem Gr.refl (w : World) : Gr w w := Below.refl _ _
theorem gr_trans {a b c : World} (h : Gr a b) (h' : Gr b c) : Gr a c := Below.trans h (Below.mono h' h.size)
theorem Gr.drew {a w : World} (h : Gr a w) : Gr a w.drew := Below.drew h
theorem Gr.drewN {a w : World} (h : Gr a w) (n : Nat) : Gr a (w.drewN n) := ⟨h.os, h.tape, h.output, h.size, h.block⟩
theorem Gr.allocO {a w : World} (h : Gr a w) (o : Obj) : Gr a (w.alloc o) := Below.alloc h h.size o
theorem Gr.alloc {a w : World} (h : Gr a w) (c : Array Value) (t : TypeId) : Gr a (w.alloc (.cells c t)) := h.allocO _
theorem Gr.setCell {a w : World} (h : Gr a w) {p : Addr} (hp : a.heap.size ≤ p.block) (u : Value) : Gr a (w.setCell p u) := Below.setCell h hp u
theorem Gr.grown {a w w' : World} {row : Option Nat} (h : Gr a w) (hg : w.grownBy w' row) (hr : ∀ k, row = some k → a.heap.size ≤ k) : Gr a w' := Below.grown h hg h.size hr
theorem gr_block {w w' : World} (h : Gr w w') {i : Nat} {o : Obj} (hi : w.heap[i]? = some o) : w'.heap[i]? = some o := by
 have hlt : i < w.heap.size := by
  apply Nat.lt_of_not_le; intro hle
  rw [Array.getElem?_eq_none hle] at hi; cases hi
 rw [h.block i hlt]; exact hi
theorem gr_cell {w w' : World} (h : Gr w w') {b o : Nat} {v : Value} (hc : w.cell? ⟨b, o, none⟩ = some v) : w'.cell? ⟨b, o, none⟩ = some v := by
 rw [Below.cell h (block_lt_of_cell hc)]; exact hc
theorem gr_setRow {W w' : World} (h : Gr W w') {g : Nat} (hg : W.heap.size ≤ g) (c : Array Value) : Gr W (w'.setRow g c) :=
 Below.trans h ⟨rfl, rfl, rfl, by simp [World.setRow], fun i hi => by
  simp only [World.setRow, Array.getElem?_modify]
  rw [if_neg (by omega)]⟩
theorem setRow_block {w : World} {g : Nat} {old c : Array Value} {t : TypeId} {z : Nat × Nat} (h : w.heap[g]? = some (.cells old t z)) : (w.setRow g c).heap[g]? = some (.cells c t z) := by
 simp only [World.setRow, Array.getElem?_modify, if_true, h]; rfl
theorem setRow_block_other {w : World} {g i : Nat} {c : Array Value} (h : i ≠ g) : (w.setRow g c).heap[i]? = w.heap[i]? := by
 simp only [World.setRow, Array.getElem?_modify]
 rw [if_neg (fun e => h e.symm)]
section
variable {P : Program} {ops : Array Oper} {w : World} {Q : Act → Prop} {a : Act} {o : Oper} {rest : List Oper}
end
end Go.Proofs.Ytebkabidojipoaa
/- LebM -/
namespace Go.Proofs.Ytebkabidojipoaa
open Go.RowKit
namespace LebM
def By (f : Nat → Int) : Prop := ∀ j, 0 ≤ f j ∧ f j < 256
def fitU (c left : Int) : Bool := decide (7 ≤ left) || decide (c < 2 ^ left.toNat)
def fitS (c left : Int) : Bool := decide (7 < left) || decide (c < 2 ^ (left - 1).toNat) || decide (c / 2 ^ (left - 1).toNat = 127 / 2 ^ (left - 1).toNat)
def fitB (s : Bool) (c left : Int) : Bool := if s then fitS c left else fitU c left
def lowI (c : Int) : Int := c % 128
def rd (s : Bool) (f : Nat → Int) (len : Nat) (bits : Int) (at0 : Nat) : Nat → Nat → Int → Int × Int × Int × Int
 | 0, _, _ => (0, 0, 0, 6)
 | m + 1, k, x =>
  if at0 + k = len then (0, 0, 0, 5) else
  let c := f (at0 + k)
  let left := bits - 7 * k
  if fitB s (lowI c) left = false ∨ (left ≤ 7 ∧ 128 ≤ c) then (0, 0, 0, 6) else
  let y := x + lowI c * 128 ^ k % 18446744073709551616
  if c < 128 then (y, 7 * k + 7, at0 + k + 1, 0) else rd s f len bits at0 m (k + 1) y
def read (s : Bool) (f : Nat → Int) (len : Nat) (at0 bits : Int) : Int × Int × Int × Int :=
 if bits < 1 ∨ 64 < bits ∨ at0 < 0 ∨ (len : Int) < at0 then (0, 0, 0, 1) else rd s f len bits at0.toNat 10 0 0
end LebM
end Go.Proofs.Ytebkabidojipoaa
/- LebFit -/
namespace Go.Proofs.Ytebkabidojipoaa
open Go.RowKit LebM
theorem ret_bool {x y : Bool} (h : x = y) : Ending.returned (.bool x) = .returned (.bool y) := by rw [h]
theorem fits_u (c left : Int) (hc : 0 ≤ c ∧ c < 128) (hl : 1 ≤ left ∧ left ≤ 64) (w : World) :
  Calls Try.prog 89 #[.int .u8 c, .int .i64 left] w fun e w' => e = .returned (.bool (fitU c left)) ∧ w = w' := by
 by_cases h : 7 ≤ left
 ·rw [show fitU c left = true by unfold fitU; simp [h]]
  go_enter Try.func89, Try.ntmps89
  go_wp2
  go_ret
  exact ⟨rfl, rfl⟩
 ·have h6 : left = 1 ∨ left = 2 ∨ left = 3 ∨ left = 4 ∨ left = 5 ∨ left = 6 := by omega
  rcases h6 with rfl | rfl | rfl | rfl | rfl | rfl
  all_goals
   clear h hl
   go_enter Try.func89, Try.ntmps89
   go_wp2
   go_ret
   refine ⟨ret_bool ?_, rfl⟩
   unfold fitU
   rw [Bool.eq_iff_iff]
   simp
   omega
theorem fits_s (c left : Int) (hc : 0 ≤ c ∧ c < 128) (hl : 1 ≤ left ∧ left ≤ 64) (w : World) :
  Calls Try.prog 90 #[.int .u8 c, .int .i64 left] w fun e w' => e = .returned (.bool (fitS c left)) ∧ w = w' := by
 by_cases h : 7 < left
 ·rw [show fitS c left = true by unfold fitS; simp [h]]
  have h0 : (0 : Int) ≤ left - 1 := by omega
  go_enter Try.func90, Try.ntmps90
  go_wp2
  go_ret
  exact ⟨rfl, rfl⟩
 ·have h6 : left = 1 ∨ left = 2 ∨ left = 3 ∨ left = 4 ∨ left = 5 ∨ left = 6 ∨ left = 7 := by omega
  rcases h6 with rfl | rfl | rfl | rfl | rfl | rfl | rfl
  all_goals
   clear h hl
   go_enter Try.func90, Try.ntmps90
   go_wp2
   all_goals go_ret
   all_goals
    refine ⟨ret_bool ?_, rfl⟩
    unfold fitS
    rw [Bool.eq_iff_iff]
    simp
    try omega
end Go.Proofs.Ytebkabidojipoaa
/- LebRead -/
namespace Go.Proofs.Ytebkabidojipoaa
open Go.RowKit LebM
def U8s (w : World) (sv : Value) (len : Nat) (f : Nat → Int) : Prop :=
 (len = 0 ∧ ∃ x c, sv = .slice x 0 c) ∨ (len ≤ 9223372036854775807 ∧ ∃ b off cap, sv = .slice (some ⟨b, off, none⟩) len cap ∧ ∀ j, j < len → w.cell? ⟨b, off + j, none⟩ = some (.int .u8 (f j)))
theorem u8s_gr {w w' : World} {sv : Value} {len : Nat} {f : Nat → Int} (h : U8s w sv len f) (hg : Gr w w') : U8s w' sv len f := by
 rcases h with h | ⟨hl, b, off, cap, rfl, hc⟩
 ·exact .inl h
 ·exact .inr ⟨hl, b, off, cap, rfl, fun j hj => gr_cell hg (hc j hj)⟩
theorem slice_u8s {w : World} {sv : Value} {n : Nat} {f : Nat → Int} (h : U8s w sv n f) : ∃ a c, sv = .slice a n c := by
 rcases h with ⟨rfl, x, c, rfl⟩ | ⟨_, b, o, c, rfl, _⟩
 ·exact ⟨_, _, rfl⟩
 ·exact ⟨_, _, rfl⟩
theorem low_eq (c : Int) (h : 0 ≤ c ∧ c < 256) : bits .and .u8 c 127 = c % 128 := by
 obtain ⟨n, rfl⟩ := Int.eq_ofNat_of_zero_le h.1
 have hn : n < 256 := by omega
 have : ∀ n : Fin 256, bits .and .u8 ((n.val : Nat) : Int) 127 = ((n.val : Nat) : Int) % 128 := by decide +kernel
 exact this ⟨n, hn⟩
theorem top_eq (c : Int) (h : 0 ≤ c ∧ c < 256) : bits .and .u8 c 128 = if c < 128 then 0 else 128 := by
 obtain ⟨n, rfl⟩ := Int.eq_ofNat_of_zero_le h.1
 have hn : n < 256 := by omega
 have : ∀ n : Fin 256, bits .and .u8 ((n.val : Nat) : Int) 128 = if ((n.val : Nat) : Int) < 128 then 0 else 128 := by decide +kernel
 exact this ⟨n, hn⟩
theorem or_step (x lo : Int) (q : Nat) (hx : 0 ≤ x ∧ x < 2 ^ q) (hlo : 0 ≤ lo) (hq : q ≤ 63) : bits .or .u64 x (IntKind.u64.wrap (lo * 2 ^ q)) = x + lo * 2 ^ q % 18446744073709551616 := by
 obtain ⟨a, rfl⟩ := Int.eq_ofNat_of_zero_le hx.1
 obtain ⟨y, rfl⟩ := Int.eq_ofNat_of_zero_le hlo
 have ha : a < 2 ^ q := by have := hx.2; exact_mod_cast this
 have h64 : (2 : Nat) ^ q ≤ 2 ^ 63 := Nat.pow_le_pow_right (by decide) hq
 have hsplit : 2 ^ (64 - q) * 2 ^ q = 18446744073709551616 := by rw [← Nat.pow_add, show 64 - q + q = 64 by omega]
 have e1 : y * 2 ^ q % 18446744073709551616 = y % 2 ^ (64 - q) * 2 ^ q := by rw [← hsplit, Nat.mul_mod_mul_right]
 have h1 : y % 2 ^ (64 - q) * 2 ^ q < 18446744073709551616 := by rw [← e1]; exact Nat.mod_lt _ (by decide)
 have e0 : ∀ t : Nat, ((t : Int) % 18446744073709551616) = ((t % 18446744073709551616 : Nat) : Int) := fun t => by omega
 rw [IntKind.wrap_u64, show (y : Int) * 2 ^ q = ((y * 2 ^ q : Nat) : Int) by push_cast; rfl, e0 (y * 2 ^ q), e1, bits_or_u64_nat _ _ (by omega) h1]
 have := Nat.two_pow_add_eq_or_of_lt ha (y % 2 ^ (64 - q))
 rw [Nat.or_comm, Nat.mul_comm (y % 2 ^ (64 - q)), ← this, Nat.add_comm]; push_cast; rfl
theorem step_bd {x lo : Int} {q : Nat} (hx : 0 ≤ x ∧ x < 2 ^ q) (hlo : 0 ≤ lo ∧ lo < 128) : 0 ≤ x + lo * 2 ^ q % 18446744073709551616 ∧ x + lo * 2 ^ q % 18446744073709551616 < 2 ^ (q + 7) := by
 have hp : (0 : Int) < 2 ^ q := Int.pow_pos (by decide)
 have h0 : 0 ≤ lo * 2 ^ q := Int.mul_nonneg hlo.1 (by omega)
 have h1 : lo * 2 ^ q ≤ 127 * 2 ^ q := Int.mul_le_mul_of_nonneg_right (by omega) (by omega)
 have h2 : (2 : Int) ^ (q + 7) = 128 * 2 ^ q := by rw [Int.pow_add, Int.mul_comm]; rfl
 rw [h2]
 generalize lo * 2 ^ q = t at *
 generalize (2 : Int) ^ q = u at *
 omega
theorem pow7 (k : Nat) : (2 : Int) ^ (7 * k) = 128 ^ k := by rw [Int.pow_mul]; rfl
theorem results_tmp4 {fn : Func} {t u v z : Tmp} (h : fn.results = #[.tmp t, .tmp u, .tmp v, .tmp z]) (tmps : Array Value) (P : Program) (w : World) :
  (results fn tmps).run P w = .ok (.tuple #[tmps.getD t undef, tmps.getD u undef, tmps.getD v undef, tmps.getD z undef]) w := by
 simp [results, h]
def out4 (r : Int × Int × Int × Int) : Value := .tuple #[.int .u64 r.1, .int .i64 r.2.1, .int .i64 r.2.2.1, .int .i64 r.2.2.2]
theorem ret_out4 {a b c d : Int} {r : Int × Int × Int × Int} (h : r = (a, b, c, d)) : Ending.returned (.tuple #[.int .u64 a, .int .i64 b, .int .i64 c, .int .i64 d]) = .returned (out4 r) := by rw [h]; rfl
theorem rd_short {s : Bool} {f : Nat → Int} {len : Nat} {bits : Int} {a m k : Nat} {x : Int} (h : a + k = len) : rd s f len bits a (m + 1) k x = (0, 0, 0, 5) := by
 rw [rd, if_pos h]
theorem rd_bad {s : Bool} {f : Nat → Int} {len : Nat} {bits : Int} {a m k : Nat} {x : Int} (h : a + k ≠ len) (hb : fitB s (lowI (f (a + k))) (bits - 7 * k) = false ∨ (bits - 7 * k ≤ 7 ∧ 128 ≤ f (a + k))) : rd s f len bits a (m + 1) k x = (0, 0, 0, 6) := by
 rw [rd, if_neg h]; exact if_pos hb
theorem rd_end {s : Bool} {f : Nat → Int} {len : Nat} {bits : Int} {a m k : Nat} {x : Int} (h : a + k ≠ len) (hf : fitB s (lowI (f (a + k))) (bits - 7 * k) = true) (hc : f (a + k) < 128) : rd s f len bits a (m + 1) k x = (x + lowI (f (a + k)) * 128 ^ k % 18446744073709551616, 7 * (k : Int) + 7, (a : Int) + k + 1, 0) := by
 rw [rd, if_neg h]
 refine (if_neg ?_).trans (if_pos hc)
 rintro (h | h)
 ·rw [hf] at h; cases h
 ·omega
theorem rd_more {s : Bool} {f : Nat → Int} {len : Nat} {bits : Int} {a m k : Nat} {x : Int} (h : a + k ≠ len) (hf : fitB s (lowI (f (a + k))) (bits - 7 * k) = true) (hl : 7 < bits - 7 * k) (hc : 128 ≤ f (a + k)) : rd s f len bits a (m + 1) k x = rd s f len bits a m (k + 1) (x + lowI (f (a + k)) * 128 ^ k % 18446744073709551616) := by
 rw [rd, if_neg h]
 refine (if_neg ?_).trans (if_neg (by omega))
 rintro (h | h)
 ·rw [hf] at h; cases h
 ·omega
set_option maxHeartbeats 2000000 in
theorem read_u_bad (sv : Value) (a bits : Int) (xa : Option Addr) (len cap : Nat) (hsv : sv = .slice xa len cap) (h : bits < 1 ∨ 64 < bits ∨ a < 0 ∨ (len : Int) < a) (w : World) :
  Calls Try.prog 88 #[sv, .int .i64 a, .int .i64 bits, .func (.func 89) #[] #[]] w fun e w' => e = .returned (out4 (0, 0, 0, 1)) ∧ w = w' := by
 subst hsv
 by_cases h1 : bits < 1
 ·clear h
  go_enter Try.func88, Try.ntmps88
  go_wp2
  (try simp only [Exit.inBlock, Exit.then]); refine bodyPost_ret (results_tmp4 rfl _ _ _) rfl ?_
  exact ⟨rfl, rfl⟩
 ·by_cases h2 : 64 < bits
  ·clear h
   go_enter Try.func88, Try.ntmps88
   go_wp2
   (try simp only [Exit.inBlock, Exit.then]); refine bodyPost_ret (results_tmp4 rfl _ _ _) rfl ?_
   exact ⟨rfl, rfl⟩
  ·by_cases h3 : a < 0
   ·clear h
    go_enter Try.func88, Try.ntmps88
    go_wp2
    (try simp only [Exit.inBlock, Exit.then]); refine bodyPost_ret (results_tmp4 rfl _ _ _) rfl ?_
    exact ⟨rfl, rfl⟩
   ·have h4 : (len : Int) < a := by omega
    clear h
    go_enter Try.func88, Try.ntmps88
    go_wp2
    (try simp only [Exit.inBlock, Exit.then]); refine bodyPost_ret (results_tmp4 rfl _ _ _) rfl ?_
    exact ⟨rfl, rfl⟩
set_option maxHeartbeats 2000000 in
theorem read_u_zero (a0 : Option Addr) (cap : Nat) (bits : Int) (hb1 : 1 ≤ bits) (hb2 : bits ≤ 64) (w : World) :
  Calls Try.prog 88 #[.slice a0 0 cap, .int .i64 0, .int .i64 bits, .func (.func 89) #[] #[]] w fun e w' => e = .returned (out4 (0, 0, 0, 5)) ∧ w = w' := by
 have g1 : ¬ bits < 1 := by omega
 have g2 : ¬ 64 < bits := by omega
 go_enter Try.func88, Try.ntmps88
 go_wp2
 refine wp_loop_rounds 1 ?_
 rw [rounds_succ]
 go_wp2
 (try simp only [Exit.inBlock, Exit.then]); refine bodyPost_ret (results_tmp4 rfl _ _ _) rfl ?_
 exact ⟨rfl, rfl⟩
set_option maxHeartbeats 4000000 in
theorem read_u_some (b off cap len a : Nat) (f : Nat → Int) (hf : By f) (bits : Int) (hb1 : 1 ≤ bits) (hb2 : bits ≤ 64) (hal : a ≤ len) (hl : len ≤ 9223372036854775807) (w : World) (hc : ∀ j, j < len → w.cell? ⟨b, off + j, none⟩ = some (.int .u8 (f j))) :
  Calls Try.prog 88 #[.slice (some ⟨b, off, none⟩) len cap, .int .i64 a, .int .i64 bits, .func (.func 89) #[] #[]] w fun e w' => e = .returned (out4 (rd false f len bits a 10 0 0)) ∧ w = w' := by
 have HC := Lib.hid hc
 have HF := Lib.hid hf
 have g1 : ¬ bits < 1 := by omega
 have g2 : ¬ 64 < bits := by omega
 have g3 : ¬ (len : Int) < (a : Int) := by omega
 clear hc hf
 generalize hR : rd false f len bits a 10 0 0 = R
 have HR := Lib.hid hR
 clear hR
 go_enter Try.func88, Try.ntmps88
 go_wp2_with fail
 go_loop [1, 12, 13] (fun at' x i => ∃ (p k q : Nat) (xv : Int), p = a + k ∧ q = 7 * k ∧ p ≤ len ∧ k ≤ 9 ∧ (q : Int) < bits ∧ at' = .int .i64 p ∧ i = .int .i64 q ∧ x = .int .u64 xv ∧ 0 ≤ xv ∧ xv < 2 ^ q ∧ rd false f len bits a (10 - k) k xv = R) (fun _ _ i => 64 - (intOf i).toNat)
 case atStart => exact ⟨a, 0, 0, 0, rfl, rfl, hal, by decide, by omega, rfl, rfl, rfl, by decide, by decide, HR.out⟩
 case round =>
  obtain ⟨p, k, q, xv, hp, hq, hpl, hk, hqb, rfl, rfl, rfl, hx0, hx1, hr⟩ := hrel
  obtain ⟨m, hm⟩ : ∃ m, 10 - k = m + 1 := ⟨9 - k, by omega⟩
  rw [hm] at hr
  have HP := Lib.hid hp
  have HQ := Lib.hid hq
  have HX := Lib.hid (show 0 ≤ xv ∧ xv < 2 ^ q from ⟨hx0, hx1⟩)
  have HRr := Lib.hid hr
  have HM := Lib.hid hm
  have hq63 : q ≤ 63 := by omega
  clear hp hq hr hm hx0 hx1
  by_cases hlt : p = len
  ·have hpi : ((p : Int) == (len : Int)) = true := beq_iff_eq.2 (by omega)
   have HPl := Lib.hid hlt
   clear hlt
   go_wp2
   (try simp only [Exit.inBlock, Exit.then]); refine bodyPost_ret (results_tmp4 rfl _ _ _) rfl ?_
   refine ⟨ret_out4 ?_, rfl⟩
   rw [← HRr.out, rd_short (by have := HP.out; have := HPl.out; omega)]
  ·have hpi : ((p : Int) == (len : Int)) = false := beq_eq_false_iff_ne.2 (by omega)
   have hlt2 : p < len := by omega
   have h1 := HC.out p hlt2
   have HNe := Lib.hid (show a + k ≠ len by have := HP.out; omega)
   have hbd := HF.out p
   have hA := low_eq (f p) hbd
   have hB := top_eq (f p) hbd
   have HLo := Lib.hid (show 0 ≤ f p % 128 ∧ f p % 128 < 128 by omega)
   have HFt := Lib.hid (fits_u (f p % 128) (bits - q) HLo.out ⟨by omega, by omega⟩)
   have HFe := Lib.hid (show lowI (f (a + k)) = f p % 128 by rw [← HP.out]; rfl)
   have HQe := Lib.hid (show bits - 7 * (k : Int) = bits - q by have := HQ.out; omega)
   have HBk := Lib.hid (show f (a + k) = f p by rw [← HP.out])
   clear hlt
   generalize f p = c at *
   generalize hlo : c % 128 = lo at *
   have HLe := Lib.hid hlo
   clear hlo
   have hwl : IntKind.u64.wrap lo = lo := by rw [IntKind.wrap_u64]; have := HLo.out; omega
   generalize hfv : fitU lo (bits - q) = fv at *
   have HFv := Lib.hid (show fitB false (lowI (f (a + k))) (bits - 7 * (k : Int)) = fv by rw [HFe.out, HQe.out]; exact hfv)
   clear hfv
   cases fv
   ·go_wp2_with (go_at_call 89; refine (HFt.out _).mono ?_; rintro e w' ⟨rfl, rfl⟩)
    (try simp only [Exit.inBlock, Exit.then]); refine bodyPost_ret (results_tmp4 rfl _ _ _) rfl ?_
    refine ⟨ret_out4 ?_, rfl⟩
    rw [← HRr.out, rd_bad HNe.out (.inl HFv.out)]
   ·by_cases hc : c < 128
    ·rw [if_pos hc] at hB
     have HCl := Lib.hid (show f (a + k) < 128 by rw [HBk.out]; exact hc)
     have HS := Lib.hid (or_step xv lo q HX.out HLo.out.1 hq63)
     have HE := Lib.hid (rd_end (m := m) (x := xv) HNe.out HFv.out HCl.out)
     clear hc
     by_cases hl7 : bits - q ≤ 7
     ·go_wp2_with (go_at_call 89; refine (HFt.out _).mono ?_; rintro e w' ⟨rfl, rfl⟩)
      (try simp only [Exit.inBlock, Exit.then]); refine bodyPost_ret (results_tmp4 rfl _ _ _) rfl ?_
      refine ⟨ret_out4 ?_, rfl⟩
      rw [← HRr.out, HE.out, HFe.out, HS.out, HQ.out, pow7, HP.out]; push_cast; rfl
     ·go_wp2_with (go_at_call 89; refine (HFt.out _).mono ?_; rintro e w' ⟨rfl, rfl⟩)
      (try simp only [Exit.inBlock, Exit.then]); refine bodyPost_ret (results_tmp4 rfl _ _ _) rfl ?_
      refine ⟨ret_out4 ?_, rfl⟩
      rw [← HRr.out, HE.out, HFe.out, HS.out, HQ.out, pow7, HP.out]; push_cast; rfl
    ·rw [if_neg hc] at hB
     have HCl := Lib.hid (show 128 ≤ f (a + k) by rw [HBk.out]; omega)
     clear hc
     by_cases hl7 : bits - q ≤ 7
     ·have HE := Lib.hid (rd_bad (s := false) (m := m) (x := xv) HNe.out (.inr ⟨by rw [HQe.out]; exact hl7, HCl.out⟩))
      go_wp2_with (go_at_call 89; refine (HFt.out _).mono ?_; rintro e w' ⟨rfl, rfl⟩)
      (try simp only [Exit.inBlock, Exit.then]); refine bodyPost_ret (results_tmp4 rfl _ _ _) rfl ?_
      refine ⟨ret_out4 ?_, rfl⟩
      rw [← HRr.out, HE.out]
     ·have HS := Lib.hid (or_step xv lo q HX.out HLo.out.1 hq63)
      have HE := Lib.hid (rd_more (m := m) (x := xv) HNe.out HFv.out (by rw [HQe.out]; omega) HCl.out)
      go_wp2_with (go_at_call 89; refine (HFt.out _).mono ?_; rintro e w' ⟨rfl, rfl⟩)
      exact ⟨⟨p + 1, k + 1, q + 7, xv + lo * 2 ^ q % 18446744073709551616, by have := HP.out; omega, by have := HQ.out; omega, by omega, by have := HQ.out; omega, by push_cast; omega, by push_cast; rfl, by push_cast; rfl, by rw [HS.out], (step_bd HX.out HLo.out).1, (step_bd HX.out HLo.out).2, by
       rw [show 10 - (k + 1) = m by have := HM.out; omega, ← HRr.out, HE.out, HFe.out, HQ.out, pow7]⟩, by simp [intOf]; omega⟩
set_option maxHeartbeats 2000000 in
theorem read_s_bad (sv : Value) (a bits : Int) (xa : Option Addr) (len cap : Nat) (hsv : sv = .slice xa len cap) (h : bits < 1 ∨ 64 < bits ∨ a < 0 ∨ (len : Int) < a) (w : World) :
  Calls Try.prog 88 #[sv, .int .i64 a, .int .i64 bits, .func (.func 90) #[] #[]] w fun e w' => e = .returned (out4 (0, 0, 0, 1)) ∧ w = w' := by
 subst hsv
 by_cases h1 : bits < 1
 ·clear h
  go_enter Try.func88, Try.ntmps88
  go_wp2
  (try simp only [Exit.inBlock, Exit.then]); refine bodyPost_ret (results_tmp4 rfl _ _ _) rfl ?_
  exact ⟨rfl, rfl⟩
 ·by_cases h2 : 64 < bits
  ·clear h
   go_enter Try.func88, Try.ntmps88
   go_wp2
   (try simp only [Exit.inBlock, Exit.then]); refine bodyPost_ret (results_tmp4 rfl _ _ _) rfl ?_
   exact ⟨rfl, rfl⟩
  ·by_cases h3 : a < 0
   ·clear h
    go_enter Try.func88, Try.ntmps88
    go_wp2
    (try simp only [Exit.inBlock, Exit.then]); refine bodyPost_ret (results_tmp4 rfl _ _ _) rfl ?_
    exact ⟨rfl, rfl⟩
   ·have h4 : (len : Int) < a := by omega
    clear h
    go_enter Try.func88, Try.ntmps88
    go_wp2
    (try simp only [Exit.inBlock, Exit.then]); refine bodyPost_ret (results_tmp4 rfl _ _ _) rfl ?_
    exact ⟨rfl, rfl⟩
set_option maxHeartbeats 2000000 in
theorem read_s_zero (a0 : Option Addr) (cap : Nat) (bits : Int) (hb1 : 1 ≤ bits) (hb2 : bits ≤ 64) (w : World) :
  Calls Try.prog 88 #[.slice a0 0 cap, .int .i64 0, .int .i64 bits, .func (.func 90) #[] #[]] w fun e w' => e = .returned (out4 (0, 0, 0, 5)) ∧ w = w' := by
 have g1 : ¬ bits < 1 := by omega
 have g2 : ¬ 64 < bits := by omega
 go_enter Try.func88, Try.ntmps88
 go_wp2
 refine wp_loop_rounds 1 ?_
 rw [rounds_succ]
 go_wp2
 (try simp only [Exit.inBlock, Exit.then]); refine bodyPost_ret (results_tmp4 rfl _ _ _) rfl ?_
 exact ⟨rfl, rfl⟩
set_option maxHeartbeats 4000000 in
theorem read_s_some (b off cap len a : Nat) (f : Nat → Int) (hf : By f) (bits : Int) (hb1 : 1 ≤ bits) (hb2 : bits ≤ 64) (hal : a ≤ len) (hl : len ≤ 9223372036854775807) (w : World) (hc : ∀ j, j < len → w.cell? ⟨b, off + j, none⟩ = some (.int .u8 (f j))) :
  Calls Try.prog 88 #[.slice (some ⟨b, off, none⟩) len cap, .int .i64 a, .int .i64 bits, .func (.func 90) #[] #[]] w fun e w' => e = .returned (out4 (rd true f len bits a 10 0 0)) ∧ w = w' := by
 have HC := Lib.hid hc
 have HF := Lib.hid hf
 have g1 : ¬ bits < 1 := by omega
 have g2 : ¬ 64 < bits := by omega
 have g3 : ¬ (len : Int) < (a : Int) := by omega
 clear hc hf
 generalize hR : rd true f len bits a 10 0 0 = R
 have HR := Lib.hid hR
 clear hR
 go_enter Try.func88, Try.ntmps88
 go_wp2_with fail
 go_loop [1, 12, 13] (fun at' x i => ∃ (p k q : Nat) (xv : Int), p = a + k ∧ q = 7 * k ∧ p ≤ len ∧ k ≤ 9 ∧ (q : Int) < bits ∧ at' = .int .i64 p ∧ i = .int .i64 q ∧ x = .int .u64 xv ∧ 0 ≤ xv ∧ xv < 2 ^ q ∧ rd true f len bits a (10 - k) k xv = R) (fun _ _ i => 64 - (intOf i).toNat)
 case atStart => exact ⟨a, 0, 0, 0, rfl, rfl, hal, by decide, by omega, rfl, rfl, rfl, by decide, by decide, HR.out⟩
 case round =>
  obtain ⟨p, k, q, xv, hp, hq, hpl, hk, hqb, rfl, rfl, rfl, hx0, hx1, hr⟩ := hrel
  obtain ⟨m, hm⟩ : ∃ m, 10 - k = m + 1 := ⟨9 - k, by omega⟩
  rw [hm] at hr
  have HP := Lib.hid hp
  have HQ := Lib.hid hq
  have HX := Lib.hid (show 0 ≤ xv ∧ xv < 2 ^ q from ⟨hx0, hx1⟩)
  have HRr := Lib.hid hr
  have HM := Lib.hid hm
  have hq63 : q ≤ 63 := by omega
  clear hp hq hr hm hx0 hx1
  by_cases hlt : p = len
  ·have hpi : ((p : Int) == (len : Int)) = true := beq_iff_eq.2 (by omega)
   have HPl := Lib.hid hlt
   clear hlt
   go_wp2
   (try simp only [Exit.inBlock, Exit.then]); refine bodyPost_ret (results_tmp4 rfl _ _ _) rfl ?_
   refine ⟨ret_out4 ?_, rfl⟩
   rw [← HRr.out, rd_short (by have := HP.out; have := HPl.out; omega)]
  ·have hpi : ((p : Int) == (len : Int)) = false := beq_eq_false_iff_ne.2 (by omega)
   have hlt2 : p < len := by omega
   have h1 := HC.out p hlt2
   have HNe := Lib.hid (show a + k ≠ len by have := HP.out; omega)
   have hbd := HF.out p
   have hA := low_eq (f p) hbd
   have hB := top_eq (f p) hbd
   have HLo := Lib.hid (show 0 ≤ f p % 128 ∧ f p % 128 < 128 by omega)
   have HFt := Lib.hid (fits_s (f p % 128) (bits - q) HLo.out ⟨by omega, by omega⟩)
   have HFe := Lib.hid (show lowI (f (a + k)) = f p % 128 by rw [← HP.out]; rfl)
   have HQe := Lib.hid (show bits - 7 * (k : Int) = bits - q by have := HQ.out; omega)
   have HBk := Lib.hid (show f (a + k) = f p by rw [← HP.out])
   clear hlt
   generalize f p = c at *
   generalize hlo : c % 128 = lo at *
   have HLe := Lib.hid hlo
   clear hlo
   have hwl : IntKind.u64.wrap lo = lo := by rw [IntKind.wrap_u64]; have := HLo.out; omega
   generalize hfv : fitS lo (bits - q) = fv at *
   have HFv := Lib.hid (show fitB true (lowI (f (a + k))) (bits - 7 * (k : Int)) = fv by rw [HFe.out, HQe.out]; exact hfv)
   clear hfv
   cases fv
   ·go_wp2_with (go_at_call 90; refine (HFt.out _).mono ?_; rintro e w' ⟨rfl, rfl⟩)
    (try simp only [Exit.inBlock, Exit.then]); refine bodyPost_ret (results_tmp4 rfl _ _ _) rfl ?_
    refine ⟨ret_out4 ?_, rfl⟩
    rw [← HRr.out, rd_bad HNe.out (.inl HFv.out)]
   ·by_cases hc : c < 128
    ·rw [if_pos hc] at hB
     have HCl := Lib.hid (show f (a + k) < 128 by rw [HBk.out]; exact hc)
     have HS := Lib.hid (or_step xv lo q HX.out HLo.out.1 hq63)
     have HE := Lib.hid (rd_end (m := m) (x := xv) HNe.out HFv.out HCl.out)
     clear hc
     by_cases hl7 : bits - q ≤ 7
     ·go_wp2_with (go_at_call 90; refine (HFt.out _).mono ?_; rintro e w' ⟨rfl, rfl⟩)
      (try simp only [Exit.inBlock, Exit.then]); refine bodyPost_ret (results_tmp4 rfl _ _ _) rfl ?_
      refine ⟨ret_out4 ?_, rfl⟩
      rw [← HRr.out, HE.out, HFe.out, HS.out, HQ.out, pow7, HP.out]; push_cast; rfl
     ·go_wp2_with (go_at_call 90; refine (HFt.out _).mono ?_; rintro e w' ⟨rfl, rfl⟩)
      (try simp only [Exit.inBlock, Exit.then]); refine bodyPost_ret (results_tmp4 rfl _ _ _) rfl ?_
      refine ⟨ret_out4 ?_, rfl⟩
      rw [← HRr.out, HE.out, HFe.out, HS.out, HQ.out, pow7, HP.out]; push_cast; rfl
    ·rw [if_neg hc] at hB
     have HCl := Lib.hid (show 128 ≤ f (a + k) by rw [HBk.out]; omega)
     clear hc
     by_cases hl7 : bits - q ≤ 7
     ·have HE := Lib.hid (rd_bad (s := true) (m := m) (x := xv) HNe.out (.inr ⟨by rw [HQe.out]; exact hl7, HCl.out⟩))
      go_wp2_with (go_at_call 90; refine (HFt.out _).mono ?_; rintro e w' ⟨rfl, rfl⟩)
      (try simp only [Exit.inBlock, Exit.then]); refine bodyPost_ret (results_tmp4 rfl _ _ _) rfl ?_
      refine ⟨ret_out4 ?_, rfl⟩
      rw [← HRr.out, HE.out]
     ·have HS := Lib.hid (or_step xv lo q HX.out HLo.out.1 hq63)
      have HE := Lib.hid (rd_more (m := m) (x := xv) HNe.out HFv.out (by rw [HQe.out]; omega) HCl.out)
      go_wp2_with (go_at_call 90; refine (HFt.out _).mono ?_; rintro e w' ⟨rfl, rfl⟩)
      exact ⟨⟨p + 1, k + 1, q + 7, xv + lo * 2 ^ q % 18446744073709551616, by have := HP.out; omega, by have := HQ.out; omega, by omega, by have := HQ.out; omega, by push_cast; omega, by push_cast; rfl, by push_cast; rfl, by rw [HS.out], (step_bd HX.out HLo.out).1, (step_bd HX.out HLo.out).2, by
       rw [show 10 - (k + 1) = m by have := HM.out; omega, ← HRr.out, HE.out, HFe.out, HQ.out, pow7]⟩, by simp [intOf]; omega⟩
theorem read_u_any (sv : Value) (len : Nat) (f : Nat → Int) (hf : By f) (a bits : Int) (w : World) (h : U8s w sv len f) :
  Calls Try.prog 88 #[sv, .int .i64 a, .int .i64 bits, .func (.func 89) #[] #[]] w fun e w' => e = .returned (out4 (LebM.read false f len a bits)) ∧ w = w' := by
 obtain ⟨xa, cap, hsv⟩ := slice_u8s h
 unfold LebM.read
 by_cases hb : bits < 1 ∨ 64 < bits ∨ a < 0 ∨ (len : Int) < a
 ·rw [if_pos hb]
  exact read_u_bad sv a bits xa len cap hsv hb w
 ·rw [if_neg hb]
  obtain ⟨n, rfl⟩ := Int.eq_ofNat_of_zero_le (show 0 ≤ a by omega)
  rw [Int.toNat_natCast]
  rcases h with ⟨rfl, x, c, rfl⟩ | ⟨hl, b, off, c, rfl, hc⟩
  ·obtain rfl : n = 0 := by omega
   rw [show rd false f 0 bits 0 10 0 0 = (0, 0, 0, 5) from rd_short rfl]
   exact read_u_zero x c bits (by omega) (by omega) w
  ·exact read_u_some b off c len n f hf bits (by omega) (by omega) (by omega) hl w hc
theorem read_s_any (sv : Value) (len : Nat) (f : Nat → Int) (hf : By f) (a bits : Int) (w : World) (h : U8s w sv len f) :
  Calls Try.prog 88 #[sv, .int .i64 a, .int .i64 bits, .func (.func 90) #[] #[]] w fun e w' => e = .returned (out4 (LebM.read true f len a bits)) ∧ w = w' := by
 obtain ⟨xa, cap, hsv⟩ := slice_u8s h
 unfold LebM.read
 by_cases hb : bits < 1 ∨ 64 < bits ∨ a < 0 ∨ (len : Int) < a
 ·rw [if_pos hb]
  exact read_s_bad sv a bits xa len cap hsv hb w
 ·rw [if_neg hb]
  obtain ⟨n, rfl⟩ := Int.eq_ofNat_of_zero_le (show 0 ≤ a by omega)
  rw [Int.toNat_natCast]
  rcases h with ⟨rfl, x, c, rfl⟩ | ⟨hl, b, off, c, rfl, hc⟩
  ·obtain rfl : n = 0 := by omega
   rw [show rd true f 0 bits 0 10 0 0 = (0, 0, 0, 5) from rd_short rfl]
   exact read_s_zero x c bits (by omega) (by omega) w
  ·exact read_s_some b off c len n f hf bits (by omega) (by omega) (by omega) hl w hc
end Go.Proofs.Ytebkabidojipoaa
/- LebUS -/
namespace Go.Proofs.Ytebkabidojipoaa
open Go.RowKit LebM
theorem step_64 {x lo : Int} {q : Nat} (hx : 0 ≤ x ∧ x < 2 ^ q) (hlo : 0 ≤ lo ∧ lo < 128) (hq : q ≤ 63) : x + lo * 2 ^ q % 18446744073709551616 < 18446744073709551616 := by
 obtain ⟨y, rfl⟩ := Int.eq_ofNat_of_zero_le hlo.1
 have hsplit : 2 ^ (64 - q) * 2 ^ q = 18446744073709551616 := by rw [← Nat.pow_add, show 64 - q + q = 64 by omega]
 have e1 : y * 2 ^ q % 18446744073709551616 = y % 2 ^ (64 - q) * 2 ^ q := by rw [← hsplit, Nat.mul_mod_mul_right]
 have h1 : y % 2 ^ (64 - q) + 1 ≤ 2 ^ (64 - q) := Nat.mod_lt _ (Nat.pow_pos (by decide))
 have h2 := Nat.mul_le_mul_right (2 ^ q) h1
 rw [hsplit, Nat.add_mul, ← e1] at h2
 have e0 : ∀ t : Nat, ((t : Int) % 18446744073709551616) = ((t % 18446744073709551616 : Nat) : Int) := fun t => by omega
 have e2 : ((y : Int) * 2 ^ q) = ((y * 2 ^ q : Nat) : Int) := by push_cast; rfl
 have hx2 := hx.2
 have e3 : ((2 : Int) ^ q) = ((2 ^ q : Nat) : Int) := by push_cast; rfl
 rw [e3] at hx2
 rw [e2, e0]
 omega
def Fine (r : Int × Int × Int × Int) : Prop := (r.1 = 0 ∧ r.2.1 = 0) ∨ ∃ j : Nat, j ≤ 9 ∧ r.2.1 = 7 * j + 7 ∧ 0 ≤ r.1 ∧ r.1 < 2 ^ (7 * j + 7) ∧ r.1 < 18446744073709551616
theorem rd_fine (s : Bool) {f : Nat → Int} (hf : By f) (len : Nat) (bits : Int) (a : Nat) : ∀ m k x, m + k = 10 → 0 ≤ x ∧ x < 2 ^ (7 * k) → Fine (rd s f len bits a m k x)
 | 0, _, _, _, _ => .inl ⟨rfl, rfl⟩
 | m + 1, k, x, hm, hx => by
  rw [rd]
  have hb := hf (a + k)
  have hlo : 0 ≤ lowI (f (a + k)) ∧ lowI (f (a + k)) < 128 := by unfold lowI; omega
  have h1 := step_bd hx hlo
  have h2 := step_64 hx hlo (by omega)
  rw [pow7] at h1 h2
  split
  ·exact .inl ⟨rfl, rfl⟩
  ·simp only []
   split
   ·exact .inl ⟨rfl, rfl⟩
   ·split
    ·exact .inr ⟨k, by omega, rfl, h1.1, h1.2, h2⟩
    ·exact rd_fine s hf len bits a m (k + 1) _ (by omega) ⟨h1.1, h1.2⟩
theorem read_fine (s : Bool) {f : Nat → Int} (hf : By f) (len : Nat) (a bits : Int) : Fine (LebM.read s f len a bits) := by
 unfold LebM.read
 split
 ·exact .inl ⟨rfl, rfl⟩
 ·exact rd_fine s hf len bits _ 10 0 0 rfl ⟨by decide, by decide⟩
def sval (x wd : Int) : Int := if 0 < wd ∧ wd < 64 ∧ 2 ^ (wd - 1).toNat ≤ x then x - 2 ^ wd.toNat else if x < 9223372036854775808 then x else x - 18446744073709551616
theorem or_top (x : Int) (q : Nat) (hq : q ≤ 63) (hx : 0 ≤ x ∧ x < 2 ^ q) : bits .or .u64 x (18446744073709551616 - 2 ^ q) = x + (18446744073709551616 - 2 ^ q) := by
 obtain ⟨a, rfl⟩ := Int.eq_ofNat_of_zero_le hx.1
 have ha : a < 2 ^ q := by have := hx.2; exact_mod_cast this
 have h64 : (2 : Nat) ^ q ≤ 2 ^ 63 := Nat.pow_le_pow_right (by decide) hq
 have hsplit : 2 ^ (64 - q) * 2 ^ q = 18446744073709551616 := by rw [← Nat.pow_add, show 64 - q + q = 64 by omega]
 have e1 : (2 ^ (64 - q) - 1) * 2 ^ q = 18446744073709551616 - 2 ^ q := by rw [Nat.sub_mul, hsplit, Nat.one_mul]
 have e3 : ((2 : Int) ^ q) = ((2 ^ q : Nat) : Int) := by rw [Int.natCast_pow]; rfl
 have e2 : (18446744073709551616 : Int) - 2 ^ q = ((18446744073709551616 - 2 ^ q : Nat) : Int) := by rw [e3]; omega
 have hp : 0 < 2 ^ q := Nat.pow_pos (by decide)
 rw [e2, bits_or_u64_nat _ _ (by omega) (by omega), ← e1]
 have := Nat.two_pow_add_eq_or_of_lt ha (2 ^ (64 - q) - 1)
 rw [Nat.or_comm, Nat.mul_comm (2 ^ (64 - q) - 1), ← this, Nat.add_comm]; push_cast; rfl
theorem u_any (sv : Value) (len : Nat) (f : Nat → Int) (hf : By f) (a bits : Int) (w : World) (h : U8s w sv len f) :
  Calls Try.prog 76 #[sv, .int .i64 a, .int .i64 bits] w fun e w' => e = .returned (.tuple #[.int .u64 (LebM.read false f len a bits).1, .int .i64 (LebM.read false f len a bits).2.2.1, .int .i64 (LebM.read false f len a bits).2.2.2]) ∧ w = w' := by
 have C := read_u_any sv len f hf a bits w h
 generalize LebM.read false f len a bits = r at *
 obtain ⟨x, wd, to, er⟩ := r
 have HC := Lib.hid (show Calls Try.prog 88 #[sv, .int .i64 a, .int .i64 bits, .func (.func 89) #[] #[]] w fun e w' => e = .returned (.tuple #[.int .u64 x, .int .i64 wd, .int .i64 to, .int .i64 er]) ∧ w = w' from C)
 clear C h
 go_enter Try.func76, Try.ntmps76
 go_wp2_with (go_at_call 88; refine HC.out.mono ?_; rintro e w' ⟨rfl, rfl⟩)
 go_ret3
 exact ⟨rfl, rfl⟩
theorem ret3 {a b c a' : Int} (h : a = a') : Ending.returned (.tuple #[.int .i64 a, .int .i64 b, .int .i64 c]) = .returned (.tuple #[.int .i64 a', .int .i64 b, .int .i64 c]) := by rw [h]
theorem s_any (sv : Value) (len : Nat) (f : Nat → Int) (hf : By f) (a bits : Int) (w : World) (h : U8s w sv len f) :
  Calls Try.prog 77 #[sv, .int .i64 a, .int .i64 bits] w fun e w' => e = .returned (.tuple #[.int .i64 (sval (LebM.read true f len a bits).1 (LebM.read true f len a bits).2.1), .int .i64 (LebM.read true f len a bits).2.2.1, .int .i64 (LebM.read true f len a bits).2.2.2]) ∧ w = w' := by
 have C := read_s_any sv len f hf a bits w h
 have hfine := read_fine true hf len a bits
 generalize LebM.read true f len a bits = r at *
 obtain ⟨x, wd, to, er⟩ := r
 have HC := Lib.hid (show Calls Try.prog 88 #[sv, .int .i64 a, .int .i64 bits, .func (.func 90) #[] #[]] w fun e w' => e = .returned (.tuple #[.int .u64 x, .int .i64 wd, .int .i64 to, .int .i64 er]) ∧ w = w' from C)
 clear C h
 simp only [Fine] at hfine
 rcases hfine with ⟨rfl, rfl⟩ | ⟨j, hj, rfl, hx0, hx1, hx2⟩
 ·go_enter Try.func77, Try.ntmps77
  go_wp2_with (go_at_call 88; refine HC.out.mono ?_; rintro e w' ⟨rfl, rfl⟩)
  go_ret3
  exact ⟨rfl, rfl⟩
 ·have hj' : j = 0 ∨ j = 1 ∨ j = 2 ∨ j = 3 ∨ j = 4 ∨ j = 5 ∨ j = 6 ∨ j = 7 ∨ j = 8 ∨ j = 9 := by omega
  clear hj
  rcases hj' with rfl | rfl | rfl | rfl | rfl | rfl | rfl | rfl | rfl | rfl
  ·have hxb : x < 128 := hx1
   clear hx1
   have HC2 := Lib.hid (show Calls Try.prog 88 #[sv, .int .i64 a, .int .i64 bits, .func (.func 90) #[] #[]] w fun e w' => e = .returned (.tuple #[.int .u64 x, .int .i64 7, .int .i64 to, .int .i64 er]) ∧ w = w' from HC.out)
   clear HC
   by_cases hs : 64 ≤ x
   ·have hd : (x / 64 == 1) = true := beq_iff_eq.2 (by omega)
    have hor : Go.bits .or .u64 x 18446744073709551488 = x + 18446744073709551488 := or_top x 7 (by decide) ⟨hx0, hxb⟩
    have HV := Lib.hid (show wrap64 (Go.bits .or .u64 x (IntKind.u64.wrap 2361183241434822606720)) = sval x (7 * (((0 : Nat)) : Int) + 7) by
     unfold sval
     rw [if_pos ⟨by decide, by decide, hs⟩, show IntKind.u64.wrap 2361183241434822606720 = 18446744073709551488 by rw [IntKind.wrap_u64]; rfl, hor]
     show _ = x - 128
     unfold wrap64
     omega)
    clear hs hor
    go_enter Try.func77, Try.ntmps77
    go_wp2_with (go_at_call 88; refine HC2.out.mono ?_; rintro e w' ⟨rfl, rfl⟩)
    go_ret3
    exact ⟨ret3 HV.out, rfl⟩
   ·have hd : (x / 64 == 1) = false := beq_eq_false_iff_ne.2 (by omega)
    have HV := Lib.hid (show x = sval x (7 * (((0 : Nat)) : Int) + 7) by
     unfold sval
     rw [if_neg (fun h => hs h.2.2), if_pos (by omega)])
    clear hs
    go_enter Try.func77, Try.ntmps77
    go_wp2_with (go_at_call 88; refine HC2.out.mono ?_; rintro e w' ⟨rfl, rfl⟩)
    go_ret3
    exact ⟨ret3 HV.out, rfl⟩
  ·have hxb : x < 16384 := hx1
   clear hx1
   have HC2 := Lib.hid (show Calls Try.prog 88 #[sv, .int .i64 a, .int .i64 bits, .func (.func 90) #[] #[]] w fun e w' => e = .returned (.tuple #[.int .u64 x, .int .i64 14, .int .i64 to, .int .i64 er]) ∧ w = w' from HC.out)
   clear HC
   by_cases hs : 8192 ≤ x
   ·have hd : (x / 8192 == 1) = true := beq_iff_eq.2 (by omega)
    have hor : Go.bits .or .u64 x 18446744073709535232 = x + 18446744073709535232 := or_top x 14 (by decide) ⟨hx0, hxb⟩
    have HV := Lib.hid (show wrap64 (Go.bits .or .u64 x (IntKind.u64.wrap 302231454903657293660160)) = sval x (7 * (((1 : Nat)) : Int) + 7) by
     unfold sval
     rw [if_pos ⟨by decide, by decide, hs⟩, show IntKind.u64.wrap 302231454903657293660160 = 18446744073709535232 by rw [IntKind.wrap_u64]; rfl, hor]
     show _ = x - 16384
     unfold wrap64
     omega)
    clear hs hor
    go_enter Try.func77, Try.ntmps77
    go_wp2_with (go_at_call 88; refine HC2.out.mono ?_; rintro e w' ⟨rfl, rfl⟩)
    go_ret3
    exact ⟨ret3 HV.out, rfl⟩
   ·have hd : (x / 8192 == 1) = false := beq_eq_false_iff_ne.2 (by omega)
    have HV := Lib.hid (show x = sval x (7 * (((1 : Nat)) : Int) + 7) by
     unfold sval
     rw [if_neg (fun h => hs h.2.2), if_pos (by omega)])
    clear hs
    go_enter Try.func77, Try.ntmps77
    go_wp2_with (go_at_call 88; refine HC2.out.mono ?_; rintro e w' ⟨rfl, rfl⟩)
    go_ret3
    exact ⟨ret3 HV.out, rfl⟩
  ·have hxb : x < 2097152 := hx1
   clear hx1
   have HC2 := Lib.hid (show Calls Try.prog 88 #[sv, .int .i64 a, .int .i64 bits, .func (.func 90) #[] #[]] w fun e w' => e = .returned (.tuple #[.int .u64 x, .int .i64 21, .int .i64 to, .int .i64 er]) ∧ w = w' from HC.out)
   clear HC
   by_cases hs : 1048576 ≤ x
   ·have hd : (x / 1048576 == 1) = true := beq_iff_eq.2 (by omega)
    have hor : Go.bits .or .u64 x 18446744073707454464 = x + 18446744073707454464 := or_top x 21 (by decide) ⟨hx0, hxb⟩
    have HV := Lib.hid (show wrap64 (Go.bits .or .u64 x (IntKind.u64.wrap 38685626227668133588500480)) = sval x (7 * (((2 : Nat)) : Int) + 7) by
     unfold sval
     rw [if_pos ⟨by decide, by decide, hs⟩, show IntKind.u64.wrap 38685626227668133588500480 = 18446744073707454464 by rw [IntKind.wrap_u64]; rfl, hor]
     show _ = x - 2097152
     unfold wrap64
     omega)
    clear hs hor
    go_enter Try.func77, Try.ntmps77
    go_wp2_with (go_at_call 88; refine HC2.out.mono ?_; rintro e w' ⟨rfl, rfl⟩)
    go_ret3
    exact ⟨ret3 HV.out, rfl⟩
   ·have hd : (x / 1048576 == 1) = false := beq_eq_false_iff_ne.2 (by omega)
    have HV := Lib.hid (show x = sval x (7 * (((2 : Nat)) : Int) + 7) by
     unfold sval
     rw [if_neg (fun h => hs h.2.2), if_pos (by omega)])
    clear hs
    go_enter Try.func77, Try.ntmps77
    go_wp2_with (go_at_call 88; refine HC2.out.mono ?_; rintro e w' ⟨rfl, rfl⟩)
    go_ret3
    exact ⟨ret3 HV.out, rfl⟩
  ·have hxb : x < 268435456 := hx1
   clear hx1
   have HC2 := Lib.hid (show Calls Try.prog 88 #[sv, .int .i64 a, .int .i64 bits, .func (.func 90) #[] #[]] w fun e w' => e = .returned (.tuple #[.int .u64 x, .int .i64 28, .int .i64 to, .int .i64 er]) ∧ w = w' from HC.out)
   clear HC
   by_cases hs : 134217728 ≤ x
   ·have hd : (x / 134217728 == 1) = true := beq_iff_eq.2 (by omega)
    have hor : Go.bits .or .u64 x 18446744073441116160 = x + 18446744073441116160 := or_top x 28 (by decide) ⟨hx0, hxb⟩
    have HV := Lib.hid (show wrap64 (Go.bits .or .u64 x (IntKind.u64.wrap 4951760157141521099328061440)) = sval x (7 * (((3 : Nat)) : Int) + 7) by
     unfold sval
     rw [if_pos ⟨by decide, by decide, hs⟩, show IntKind.u64.wrap 4951760157141521099328061440 = 18446744073441116160 by rw [IntKind.wrap_u64]; rfl, hor]
     show _ = x - 268435456
     unfold wrap64
     omega)
    clear hs hor
    go_enter Try.func77, Try.ntmps77
    go_wp2_with (go_at_call 88; refine HC2.out.mono ?_; rintro e w' ⟨rfl, rfl⟩)
    go_ret3
    exact ⟨ret3 HV.out, rfl⟩
   ·have hd : (x / 134217728 == 1) = false := beq_eq_false_iff_ne.2 (by omega)
    have HV := Lib.hid (show x = sval x (7 * (((3 : Nat)) : Int) + 7) by
     unfold sval
     rw [if_neg (fun h => hs h.2.2), if_pos (by omega)])
    clear hs
    go_enter Try.func77, Try.ntmps77
    go_wp2_with (go_at_call 88; refine HC2.out.mono ?_; rintro e w' ⟨rfl, rfl⟩)
    go_ret3
    exact ⟨ret3 HV.out, rfl⟩
  ·have hxb : x < 34359738368 := hx1
   clear hx1
   have HC2 := Lib.hid (show Calls Try.prog 88 #[sv, .int .i64 a, .int .i64 bits, .func (.func 90) #[] #[]] w fun e w' => e = .returned (.tuple #[.int .u64 x, .int .i64 35, .int .i64 to, .int .i64 er]) ∧ w = w' from HC.out)
   clear HC
   by_cases hs : 17179869184 ≤ x
   ·have hd : (x / 17179869184 == 1) = true := beq_iff_eq.2 (by omega)
    have hor : Go.bits .or .u64 x 18446744039349813248 = x + 18446744039349813248 := or_top x 35 (by decide) ⟨hx0, hxb⟩
    have HV := Lib.hid (show wrap64 (Go.bits .or .u64 x (IntKind.u64.wrap 633825300114114700713991864320)) = sval x (7 * (((4 : Nat)) : Int) + 7) by
     unfold sval
     rw [if_pos ⟨by decide, by decide, hs⟩, show IntKind.u64.wrap 633825300114114700713991864320 = 18446744039349813248 by rw [IntKind.wrap_u64]; rfl, hor]
     show _ = x - 34359738368
     unfold wrap64
     omega)
    clear hs hor
    go_enter Try.func77, Try.ntmps77
    go_wp2_with (go_at_call 88; refine HC2.out.mono ?_; rintro e w' ⟨rfl, rfl⟩)
    go_ret3
    exact ⟨ret3 HV.out, rfl⟩
   ·have hd : (x / 17179869184 == 1) = false := beq_eq_false_iff_ne.2 (by omega)
    have HV := Lib.hid (show x = sval x (7 * (((4 : Nat)) : Int) + 7) by
     unfold sval
     rw [if_neg (fun h => hs h.2.2), if_pos (by omega)])
    clear hs
    go_enter Try.func77, Try.ntmps77
    go_wp2_with (go_at_call 88; refine HC2.out.mono ?_; rintro e w' ⟨rfl, rfl⟩)
    go_ret3
    exact ⟨ret3 HV.out, rfl⟩
  ·have hxb : x < 4398046511104 := hx1
   clear hx1
   have HC2 := Lib.hid (show Calls Try.prog 88 #[sv, .int .i64 a, .int .i64 bits, .func (.func 90) #[] #[]] w fun e w' => e = .returned (.tuple #[.int .u64 x, .int .i64 42, .int .i64 to, .int .i64 er]) ∧ w = w' from HC.out)
   clear HC
   by_cases hs : 2199023255552 ≤ x
   ·have hd : (x / 2199023255552 == 1) = true := beq_iff_eq.2 (by omega)
    have hor : Go.bits .or .u64 x 18446739675663040512 = x + 18446739675663040512 := or_top x 42 (by decide) ⟨hx0, hxb⟩
    have HV := Lib.hid (show wrap64 (Go.bits .or .u64 x (IntKind.u64.wrap 81129638414606681691390958632960)) = sval x (7 * (((5 : Nat)) : Int) + 7) by
     unfold sval
     rw [if_pos ⟨by decide, by decide, hs⟩, show IntKind.u64.wrap 81129638414606681691390958632960 = 18446739675663040512 by rw [IntKind.wrap_u64]; rfl, hor]
     show _ = x - 4398046511104
     unfold wrap64
     omega)
    clear hs hor
    go_enter Try.func77, Try.ntmps77
    go_wp2_with (go_at_call 88; refine HC2.out.mono ?_; rintro e w' ⟨rfl, rfl⟩)
    go_ret3
    exact ⟨ret3 HV.out, rfl⟩
   ·have hd : (x / 2199023255552 == 1) = false := beq_eq_false_iff_ne.2 (by omega)
    have HV := Lib.hid (show x = sval x (7 * (((5 : Nat)) : Int) + 7) by
     unfold sval
     rw [if_neg (fun h => hs h.2.2), if_pos (by omega)])
    clear hs
    go_enter Try.func77, Try.ntmps77
    go_wp2_with (go_at_call 88; refine HC2.out.mono ?_; rintro e w' ⟨rfl, rfl⟩)
    go_ret3
    exact ⟨ret3 HV.out, rfl⟩
  ·have hxb : x < 562949953421312 := hx1
   clear hx1
   have HC2 := Lib.hid (show Calls Try.prog 88 #[sv, .int .i64 a, .int .i64 bits, .func (.func 90) #[] #[]] w fun e w' => e = .returned (.tuple #[.int .u64 x, .int .i64 49, .int .i64 to, .int .i64 er]) ∧ w = w' from HC.out)
   clear HC
   by_cases hs : 281474976710656 ≤ x
   ·have hd : (x / 281474976710656 == 1) = true := beq_iff_eq.2 (by omega)
    have hor : Go.bits .or .u64 x 18446181123756130304 = x + 18446181123756130304 := or_top x 49 (by decide) ⟨hx0, hxb⟩
    have HV := Lib.hid (show wrap64 (Go.bits .or .u64 x (IntKind.u64.wrap 10384593717069655256498042705018880)) = sval x (7 * (((6 : Nat)) : Int) + 7) by
     unfold sval
     rw [if_pos ⟨by decide, by decide, hs⟩, show IntKind.u64.wrap 10384593717069655256498042705018880 = 18446181123756130304 by rw [IntKind.wrap_u64]; rfl, hor]
     show _ = x - 562949953421312
     unfold wrap64
     omega)
    clear hs hor
    go_enter Try.func77, Try.ntmps77
    go_wp2_with (go_at_call 88; refine HC2.out.mono ?_; rintro e w' ⟨rfl, rfl⟩)
    go_ret3
    exact ⟨ret3 HV.out, rfl⟩
   ·have hd : (x / 281474976710656 == 1) = false := beq_eq_false_iff_ne.2 (by omega)
    have HV := Lib.hid (show x = sval x (7 * (((6 : Nat)) : Int) + 7) by
     unfold sval
     rw [if_neg (fun h => hs h.2.2), if_pos (by omega)])
    clear hs
    go_enter Try.func77, Try.ntmps77
    go_wp2_with (go_at_call 88; refine HC2.out.mono ?_; rintro e w' ⟨rfl, rfl⟩)
    go_ret3
    exact ⟨ret3 HV.out, rfl⟩
  ·have hxb : x < 72057594037927936 := hx1
   clear hx1
   have HC2 := Lib.hid (show Calls Try.prog 88 #[sv, .int .i64 a, .int .i64 bits, .func (.func 90) #[] #[]] w fun e w' => e = .returned (.tuple #[.int .u64 x, .int .i64 56, .int .i64 to, .int .i64 er]) ∧ w = w' from HC.out)
   clear HC
   by_cases hs : 36028797018963968 ≤ x
   ·have hd : (x / 36028797018963968 == 1) = true := beq_iff_eq.2 (by omega)
    have hor : Go.bits .or .u64 x 18374686479671623680 = x + 18374686479671623680 := or_top x 56 (by decide) ⟨hx0, hxb⟩
    have HV := Lib.hid (show wrap64 (Go.bits .or .u64 x (IntKind.u64.wrap 1329227995784915872831749466242416640)) = sval x (7 * (((7 : Nat)) : Int) + 7) by
     unfold sval
     rw [if_pos ⟨by decide, by decide, hs⟩, show IntKind.u64.wrap 1329227995784915872831749466242416640 = 18374686479671623680 by rw [IntKind.wrap_u64]; rfl, hor]
     show _ = x - 72057594037927936
     unfold wrap64
     omega)
    clear hs hor
    go_enter Try.func77, Try.ntmps77
    go_wp2_with (go_at_call 88; refine HC2.out.mono ?_; rintro e w' ⟨rfl, rfl⟩)
    go_ret3
    exact ⟨ret3 HV.out, rfl⟩
   ·have hd : (x / 36028797018963968 == 1) = false := beq_eq_false_iff_ne.2 (by omega)
    have HV := Lib.hid (show x = sval x (7 * (((7 : Nat)) : Int) + 7) by
     unfold sval
     rw [if_neg (fun h => hs h.2.2), if_pos (by omega)])
    clear hs
    go_enter Try.func77, Try.ntmps77
    go_wp2_with (go_at_call 88; refine HC2.out.mono ?_; rintro e w' ⟨rfl, rfl⟩)
    go_ret3
    exact ⟨ret3 HV.out, rfl⟩
  ·have hxb : x < 9223372036854775808 := hx1
   clear hx1
   have HC2 := Lib.hid (show Calls Try.prog 88 #[sv, .int .i64 a, .int .i64 bits, .func (.func 90) #[] #[]] w fun e w' => e = .returned (.tuple #[.int .u64 x, .int .i64 63, .int .i64 to, .int .i64 er]) ∧ w = w' from HC.out)
   clear HC
   by_cases hs : 4611686018427387904 ≤ x
   ·have hd : (x / 4611686018427387904 == 1) = true := beq_iff_eq.2 (by omega)
    have hor : Go.bits .or .u64 x 9223372036854775808 = x + 9223372036854775808 := or_top x 63 (by decide) ⟨hx0, hxb⟩
    have HV := Lib.hid (show wrap64 (Go.bits .or .u64 x (IntKind.u64.wrap 170141183460469231722463931679029329920)) = sval x (7 * (((8 : Nat)) : Int) + 7) by
     unfold sval
     rw [if_pos ⟨by decide, by decide, hs⟩, show IntKind.u64.wrap 170141183460469231722463931679029329920 = 9223372036854775808 by rw [IntKind.wrap_u64]; rfl, hor]
     show _ = x - 9223372036854775808
     unfold wrap64
     omega)
    clear hs hor
    go_enter Try.func77, Try.ntmps77
    go_wp2_with (go_at_call 88; refine HC2.out.mono ?_; rintro e w' ⟨rfl, rfl⟩)
    go_ret3
    exact ⟨ret3 HV.out, rfl⟩
   ·have hd : (x / 4611686018427387904 == 1) = false := beq_eq_false_iff_ne.2 (by omega)
    have HV := Lib.hid (show x = sval x (7 * (((8 : Nat)) : Int) + 7) by
     unfold sval
     rw [if_neg (fun h => hs h.2.2), if_pos (by omega)])
    clear hs
    go_enter Try.func77, Try.ntmps77
    go_wp2_with (go_at_call 88; refine HC2.out.mono ?_; rintro e w' ⟨rfl, rfl⟩)
    go_ret3
    exact ⟨ret3 HV.out, rfl⟩
  ·have HC2 := Lib.hid (show Calls Try.prog 88 #[sv, .int .i64 a, .int .i64 bits, .func (.func 90) #[] #[]] w fun e w' => e = .returned (.tuple #[.int .u64 x, .int .i64 70, .int .i64 to, .int .i64 er]) ∧ w = w' from HC.out)
   have HV := Lib.hid (show wrap64 x = sval x (7 * (((9 : Nat)) : Int) + 7) by
    unfold sval
    rw [if_neg (fun h => absurd h.2.1 (by decide))]
    unfold wrap64
    split <;> omega)
   clear HC hx1
   go_enter Try.func77, Try.ntmps77
   go_wp2_with (go_at_call 88; refine HC2.out.mono ?_; rintro e w' ⟨rfl, rfl⟩)
   go_ret3
   exact ⟨ret3 HV.out, rfl⟩
end Go.Proofs.Ytebkabidojipoaa
/- ExM -/
namespace Go.Proofs.Ytebkabidojipoaa
open Go.RowKit LebM
namespace Ex
structure In where
 op : Int
 a : Int
 b : Int
 lo : Int
 hi : Int
 l : List Int
structure St where
 a : Int
 e : Int
def nul (op : Int) : In := ⟨op, 0, 0, 0, 0, []⟩
section
variable (f : Nat → Int) (len : Nat)
def failS (s : St) (x : Int) : St := if s.e = 0 then ⟨s.a, x⟩ else s
def octS (s : St) : Int × St := if s.e ≠ 0 ∨ (len : Int) ≤ s.a then (0, failS s 10) else (f s.a.toNat, ⟨s.a + 1, s.e⟩)
def numS (s : St) : Int × St := if s.e ≠ 0 ∨ (LebM.read false f len s.a 32).2.2.2 ≠ 0 then (0, failS s 10) else ((LebM.read false f len s.a 32).1, ⟨(LebM.read false f len s.a 32).2.2.1, s.e⟩)
def sgnS (bits : Int) (s : St) : Int × St := if s.e ≠ 0 ∨ (LebM.read true f len s.a bits).2.2.2 ≠ 0 then (0, failS s 10) else (sval (LebM.read true f len s.a bits).1 (LebM.read true f len s.a bits).2.1, ⟨(LebM.read true f len s.a bits).2.2.1, s.e⟩)
def opcS (s : St) : Int × St :=
 if (octS f len s).1 = 253 then (64768 + (numS f len (octS f len s).2).1, (numS f len (octS f len s).2).2)
 else if (octS f len s).1 = 252 then (0, failS (if (numS f len (octS f len s).2).1 < 8 ∧ (numS f len (octS f len s).2).2.e = 0 then failS (numS f len (octS f len s).2).2 11 else (numS f len (octS f len s).2).2) 10)
 else octS f len s
def typS (s : St) : Int × St := ((sgnS f len 33 s).1, if (sgnS f len 33 s).1 < 0 then failS (sgnS f len 33 s).2 10 else (sgnS f len 33 s).2)
def blkS (s : St) : Int × St :=
 if s.e = 0 ∧ s.a < len then
  if f s.a.toNat = 64 ∨ f s.a.toNat = 127 ∨ f s.a.toNat = 126 ∨ f s.a.toNat = 123 then sgnS f len 7 s
  else if f s.a.toNat = 125 ∨ f s.a.toNat = 124 then typS f len (failS s 11)
  else typS f len s
 else typS f len s
def octsS : Nat → St → List Int × St
 | 0, s => ([], s)
 | k + 1, s => ((octsS k s).1 ++ [(octS f len (octsS k s).2).1], (octS f len (octsS k s).2).2)
def tabS : Nat → List Int → St → List Int × St
 | 0, l, s => (l, s)
 | k + 1, l, s => if s.e = 0 then tabS k (l ++ [(numS f len s).1]) (numS f len s).2 else (l, s)
end
structure Ok (len : Nat) (s : St) : Prop where
 lo : 0 ≤ s.a
 hi : s.a ≤ len
theorem Ok.fail {len : Nat} {s : St} (h : Ok len s) (x : Int) : Ok len (failS s x) := by
 unfold failS; split
 ·exact ⟨h.1, h.2⟩
 ·exact h
theorem rd_to {sg : Bool} {f : Nat → Int} {len : Nat} {bits : Int} {a : Nat} : ∀ (m k : Nat) (x : Int), a + k ≤ len → (rd sg f len bits a m k x).2.2.2 = 0 → (a : Int) + k < (rd sg f len bits a m k x).2.2.1 ∧ (rd sg f len bits a m k x).2.2.1 ≤ len
 | 0, k, x, _, h => by simp [rd] at h
 | m + 1, k, x, hk, h => by
  by_cases h1 : a + k = len
  ·rw [rd_short h1] at h; simp at h
  ·unfold rd at h ⊢
   rw [if_neg h1] at h ⊢
   dsimp only at h ⊢
   split at h
   ·simp at h
   ·rename_i h2
    rw [if_neg h2]
    split at h
    ·rename_i h3
     rw [if_pos h3]
     dsimp only
     omega
    ·rename_i h3
     rw [if_neg h3]
     have := rd_to m (k + 1) _ (by omega) h
     omega
theorem read_to {sg : Bool} {f : Nat → Int} {len : Nat} {a bits : Int} (h : (LebM.read sg f len a bits).2.2.2 = 0) : 0 ≤ a ∧ a < (LebM.read sg f len a bits).2.2.1 ∧ (LebM.read sg f len a bits).2.2.1 ≤ len := by
 unfold LebM.read at h ⊢
 split at h
 ·simp at h
 ·rename_i h1
  rw [if_neg h1]
  have := rd_to 10 0 0 (by omega) h
  omega
theorem rd_lt {f : Nat → Int} (hf : By f) {len : Nat} {a : Nat} : ∀ (m k : Nat) (x : Int), 0 ≤ x → x < 128 ^ k → k ≤ 4 → 0 ≤ (rd false f len 32 a m k x).1 ∧ (rd false f len 32 a m k x).1 < 4294967296
 | 0, k, x, _, _, _ => by simp [rd]
 | m + 1, k, x, h0, hx, hk => by
  by_cases h1 : a + k = len
  ·rw [rd_short h1]; simp
  ·unfold rd
   rw [if_neg h1]
   dsimp only
   split
   ·simp
   ·rename_i h2
    have hc := hf (a + k)
    have hl : 0 ≤ lowI (f (a + k)) ∧ lowI (f (a + k)) < 128 := by unfold lowI; omega
    generalize lowI (f (a + k)) = c at *
    have h2' : fitU c (32 - 7 * (k : Int)) = true ∧ (7 < 32 - 7 * (k : Int) ∨ f (a + k) < 128) := by
     refine ⟨?_, ?_⟩
     ·have : ¬ fitB false c (32 - 7 * (k : Int)) = false := fun e => h2 (.inl e)
      simpa [fitB] using this
     ·by_cases h7 : 7 < 32 - 7 * (k : Int)
      ·exact .inl h7
      ·exact .inr (Int.not_le.1 fun e => h2 (.inr ⟨by omega, e⟩))
    obtain ⟨h3, h4⟩ := h2'
    have hcases : k = 0 ∨ k = 1 ∨ k = 2 ∨ k = 3 ∨ k = 4 := by omega
    have hy : 0 ≤ x + c * 128 ^ k % 18446744073709551616 ∧ x + c * 128 ^ k % 18446744073709551616 < 128 ^ (k + 1) ∧ (k = 4 → x + c * 128 ^ k % 18446744073709551616 < 4294967296) := by
     rcases hcases with rfl | rfl | rfl | rfl | rfl
     ·simp only [Int.pow_zero] at *; omega
     ·simp only [show (128 : Int) ^ 1 = 128 from rfl, show (128 : Int) ^ (1 + 1) = 16384 from rfl] at *; omega
     ·simp only [show (128 : Int) ^ 2 = 16384 from rfl, show (128 : Int) ^ (2 + 1) = 2097152 from rfl] at *; omega
     ·simp only [show (128 : Int) ^ 3 = 2097152 from rfl, show (128 : Int) ^ (3 + 1) = 268435456 from rfl] at *; omega
     ·have h16 : c < 16 := by
       simp only [fitU, Bool.or_eq_true, decide_eq_true_eq] at h3
       rcases h3 with h3 | h3
       ·omega
       ·have e : (32 - 7 * ((4 : Nat) : Int)).toNat = 4 := by decide
        rw [e] at h3
        exact h3
      simp only [show (128 : Int) ^ 4 = 268435456 from rfl, show (128 : Int) ^ (4 + 1) = 34359738368 from rfl] at *; omega
    split
    ·dsimp only
     rcases hcases with rfl | rfl | rfl | rfl | rfl
     ·have e : (128 : Int) ^ (0 + 1) = 128 := rfl
      omega
     ·have e : (128 : Int) ^ (1 + 1) = 16384 := rfl
      omega
     ·have e : (128 : Int) ^ (2 + 1) = 2097152 := rfl
      omega
     ·have e : (128 : Int) ^ (3 + 1) = 268435456 := rfl
      omega
     ·exact ⟨hy.1, hy.2.2 rfl⟩
    ·rename_i h5
     exact rd_lt hf m (k + 1) _ hy.1 hy.2.1 (by omega)
theorem read32 {f : Nat → Int} (hf : By f) {len : Nat} {a : Int} : 0 ≤ (LebM.read false f len a 32).1 ∧ (LebM.read false f len a 32).1 < 4294967296 := by
 unfold LebM.read
 split
 ·simp
 ·exact rd_lt hf 10 0 0 (by decide) (by decide) (by decide)
theorem numS_bd {f : Nat → Int} (hf : By f) {len : Nat} (s : St) : 0 ≤ (numS f len s).1 ∧ (numS f len s).1 < 4294967296 := by
 unfold numS; split
 ·simp
 ·exact read32 hf
theorem numS_ok {f : Nat → Int} {len : Nat} {s : St} (h : Ok len s) : Ok len (numS f len s).2 := by
 unfold numS; split
 ·exact h.fail _
 ·rename_i h1
  have := read_to (sg := false) (f := f) (len := len) (a := s.a) (bits := 32) (by simp at h1; exact h1.2)
  exact ⟨by show 0 ≤ (LebM.read false f len s.a 32).2.2.1; omega, this.2.2⟩
theorem sgnS_ok {f : Nat → Int} {len : Nat} {s : St} {bits : Int} (h : Ok len s) : Ok len (sgnS f len bits s).2 := by
 unfold sgnS; split
 ·exact h.fail _
 ·rename_i h1
  have := read_to (sg := true) (f := f) (len := len) (a := s.a) (bits := bits) (by simp at h1; exact h1.2)
  exact ⟨by show 0 ≤ (LebM.read true f len s.a bits).2.2.1; omega, this.2.2⟩
theorem octS_ok {f : Nat → Int} {len : Nat} {s : St} (h : Ok len s) : Ok len (octS f len s).2 := by
 unfold octS; split
 ·exact h.fail _
 ·rename_i h1
  have := h.lo
  exact ⟨by show 0 ≤ s.a + 1; omega, by show s.a + 1 ≤ len; omega⟩
theorem octS_bd {f : Nat → Int} (hf : By f) {len : Nat} (s : St) : 0 ≤ (octS f len s).1 ∧ (octS f len s).1 < 256 := by
 unfold octS; split
 ·simp
 ·exact hf _
theorem opcS_ok {f : Nat → Int} {len : Nat} {s : St} (h : Ok len s) : Ok len (opcS f len s).2 := by
 have h1 := octS_ok (f := f) h
 have h2 := numS_ok (f := f) h1
 unfold opcS; split
 ·exact h2
 ·split
  ·apply Ok.fail
   split
   ·exact h2.fail _
   ·exact h2
  ·exact h1
theorem typS_ok {f : Nat → Int} {len : Nat} {s : St} (h : Ok len s) : Ok len (typS f len s).2 := by
 have h1 := sgnS_ok (f := f) (bits := 33) h
 unfold typS; dsimp only; split
 ·exact h1.fail _
 ·exact h1
theorem blkS_ok {f : Nat → Int} {len : Nat} {s : St} (h : Ok len s) : Ok len (blkS f len s).2 := by
 unfold blkS
 split
 ·split
  ·exact sgnS_ok h
  ·split
   ·exact typS_ok (h.fail _)
   ·exact typS_ok h
 ·exact typS_ok h
theorem octsS_ok {f : Nat → Int} {len : Nat} : ∀ (k : Nat) {s : St}, Ok len s → Ok len (octsS f len k s).2
 | 0, _, h => h
 | k + 1, _, h => octS_ok (octsS_ok k h)
theorem octsS_len {f : Nat → Int} {len : Nat} : ∀ (k : Nat) (s : St), (octsS f len k s).1.length = k
 | 0, _ => rfl
 | k + 1, s => by simp only [octsS, List.length_append, octsS_len k s, List.length_cons, List.length_nil]
theorem tabS_ok {f : Nat → Int} {len : Nat} : ∀ (k : Nat) (l : List Int) {s : St}, Ok len s → Ok len (tabS f len k l s).2
 | 0, _, _, h => h
 | k + 1, l, s, h => by
  unfold tabS; split
  ·exact tabS_ok k _ (numS_ok h)
  ·exact h
end Ex
end Go.Proofs.Ytebkabidojipoaa
/- Steady -/
namespace Go.Proofs.Ytebkabidojipoaa
open Go.RowKit
section
variable {P : Program} {ops : Array Oper} {md : Region.Mode} {w0 : World}
def yieldsUpon (P : Program) (w0 : World) (v : Value) : Result Next → Prop
 | .ok (.value u) w' => v = u ∧ Gr w0 w'
 | .ok .skip w' => v = undef ∧ Gr w0 w'
 | .ok (.enter f args) w' => Calls P f args w' (fun e w'' => e = .returned v ∧ Gr w0 w'')
 | _ => False
def Steady (P : Program) (w0 : World) (o : Oper) (a : Act) (v : Value) : Prop := ∀ w, Gr w0 w → yieldsUpon P w0 v ((execOp a.eval o).run P w)
def YieldsG (P : Program) (ops : Array Oper) (w0 : World) (o : Oper) (v : Value) (a : Act) : Prop :=
 (Region.wanted o (yielded ops a.tmps) = true ∧ Steady P w0 o a v) ∨ (Region.wanted o (yielded ops a.tmps) = false ∧ v = undef)
theorem YieldsG.of_same {o : Oper} {v : Value} {a a' : Act} (hy : YieldsG P ops w0 o v a) (he : execOp a'.eval o = execOp a.eval o)
  (hw : Region.wanted o (yielded ops a'.tmps) = Region.wanted o (yielded ops a.tmps)) : YieldsG P ops w0 o v a' := by
 unfold YieldsG Steady at *
 rw [he, hw]
 exact hy
def stG (P : Program) (ops : Array Oper) (w0 : World) (i : Nat) (K : Act → Prop) (a : Act) : Prop :=
 match ops[i]? with
 | none => K a
 | some o => ∃ v, YieldsG P ops w0 o v a ∧ K (a.put o.dst v)
theorem stG_mono {i : Nat} {a : Act} {K K' : Act → Prop} (h : ∀ a, K a → K' a) (hh : stG P ops w0 i K a) : stG P ops w0 i K' a := by
 unfold stG at *
 split
 ·exact h _ (by simpa [*] using hh)
 ·rename_i o ho
  simp only [ho] at hh
  obtain ⟨v, hy, hk⟩ := hh
  exact ⟨v, hy, h _ hk⟩
theorem wpOp_of_stG {i : Nat} {a : Act} {K : Act → Prop} {K' : Act → World → Prop} {Q' : Exit → Act → World → Prop} (h : ∀ a w, Gr w0 w → K a → K' a w) (hh : stG P ops w0 i K a) {w : World} (hw : Gr w0 w) :
  wpOp P ops Q' i K' a w := by
 unfold stG at hh
 unfold wpOp
 split
 ·rename_i ho; simp only [ho] at hh; exact h _ _ hw hh
 ·rename_i o ho
  simp only [ho] at hh
  obtain ⟨v, hy, hk⟩ := hh
  rcases hy with ⟨hwt, hs⟩ | ⟨hwt, rfl⟩
  ·rw [if_pos hwt]
   left
   have hr := hs w hw
   unfold Oper.wp
   generalize (execOp a.eval o).run P w = r at *
   cases r with
   | ok n w' =>
    cases n <;> simp only [yieldsUpon] at hr <;> simp only [Oper.upon]
    case value u => obtain ⟨rfl, hg⟩ := hr; exact h _ _ hg hk
    case skip => obtain ⟨rfl, hg⟩ := hr; exact h _ _ hg hk
    case enter f args => exact hr.mono fun e w'' ⟨he, hg⟩ => by subst he; exact h _ _ hg hk
   | halt x w' => simp only [yieldsUpon] at hr
  ·rw [if_neg (by rw [hwt]; decide)]
   exact h _ _ hw hk
theorem stG_put {j : Nat} {oi oj : Oper} {v : Value} (hj : ops[j]? = some oj) (hap : oi.apart ops oj = true)
  (hsi : ∀ cs b, oi.op ≠ .select cs b) (hsj : ∀ cs b, oj.op ≠ .select cs b) {K : Act → Prop} {a : Act}
  (hy : YieldsG P ops w0 oi v a) (h : stG P ops w0 j K (a.put oi.dst v)) :
  stG P ops w0 j (fun a' => YieldsG P ops w0 oi v a' ∧ K (a'.put oi.dst v)) a := by
 obtain ⟨h1, h2, h3⟩ := Oper.apart_spec hap
 unfold stG at *
 simp only [hj] at *
 obtain ⟨u, hyu, hk⟩ := h
 refine ⟨u, ?_, hy.of_same (execOp_put oi hsi a oj.dst u h3) (wanted_put oi a oj.dst u h3), by rw [← Act.put_comm a v u h2]; exact hk⟩
 exact hyu.of_same (execOp_put oj hsj a oi.dst v h1).symm (wanted_put oj a oi.dst v h1).symm
def wpAnyG (P : Program) (md : Region.Mode) (ops : Array Oper) (w0 : World) (n : Nat) (L : Array Bool → Act → Prop) : Nat → Array Bool → Act → Prop
 | 0, listed, a => L listed a
 | f + 1, listed, a =>
  Region.ready md ops listed ≠ [] ∧ ∀ i ∈ Region.ready md ops listed, i < n ∧ stG P ops w0 i (wpAnyG P md ops w0 n L f (listed.setIfInBounds i true)) a
theorem wpAny_of_headG {n g : Nat} {L : Array Bool → Act → Prop} {Q' : Exit → Act → World → Prop} (hL : ∀ listed a w, Gr w0 w → L listed a → wpAny P md ops Q' g listed a w) :
  ∀ (f : Nat) (listed : Array Bool) (a : Act) (w : World), Gr w0 w → wpAnyG P md ops w0 n L f listed a → wpAny P md ops Q' (f + g) listed a w
 | 0, listed, a, w, hw, h => by rw [Nat.zero_add]; exact hL _ _ _ hw h
 | f + 1, listed, a, w, hw, h => by
  rw [show f + 1 + g = (f + g) + 1 by omega]
  exact ⟨fun h0 => absurd h0 h.1, fun i hi => wpOp_of_stG (fun a' w' hw' h' => wpAny_of_headG hL f _ a' w' hw' h') (h.2 i hi).2 hw⟩
theorem wpAnyG_first {n i : Nat} {oi : Oper} {v : Value} {L : Array Bool → Act → Prop} (hi : ops[i]? = some oi) (hsel : ∀ (j : Nat) (o : Oper) cs b, ops[j]? = some o → o.op ≠ .select cs b)
  (hin : i < n) (htw : ∀ listed i, HeadInv md ops n listed → i < n → listed.getD i true = false → ∀ t, n ≤ t → t ∉ Region.ready md ops listed)
  (hdone : ∀ listed a, L listed a → ∀ j ∈ Region.ready md ops listed, n ≤ j) :
  ∀ (f : Nat) (listed : Array Bool) (a : Act), HeadInv md ops n listed →
   (∀ j oj, ops[j]? = some oj → j ≠ i → listed.getD j true = false → (∀ e ∈ oj.after, Region.binds md e = true → e.on ≠ i) → oi.apart ops oj = true) →
   i ∈ Region.ready md ops listed → YieldsG P ops w0 oi v a →
   wpAnyG P md ops w0 n L f (listed.setIfInBounds i true) (a.put oi.dst v) → wpAnyG P md ops w0 n L (f + 1) listed a := by
 intro f
 induction f with
 | zero =>
  intro listed a inv _ hr hy H
  have hun := (mem_ready.1 hr).1
  refine ⟨fun h => (by rw [h] at hr; cases hr), fun j hj => ?_⟩
  have hjn : j < n := by
   rcases Nat.lt_or_ge j n with h | h
   ·exact h
   ·exact absurd hj (htw _ i inv hin hun j h)
  refine ⟨hjn, ?_⟩
  by_cases hji : j = i
  ·subst hji
   unfold stG; rw [hi]; exact ⟨v, hy, H⟩
  ·have := hdone _ _ H j (ready_mono hj hji)
   omega
 | succ f ih =>
  intro listed a inv hfree hr hy H
  have hun := (mem_ready.1 hr).1
  refine ⟨fun h => (by rw [h] at hr; cases hr), fun j hj => ?_⟩
  have hjn : j < n := by
   rcases Nat.lt_or_ge j n with h | h
   ·exact h
   ·exact absurd hj (htw _ i inv hin hun j h)
  refine ⟨hjn, ?_⟩
  by_cases hji : j = i
  ·subst hji
   unfold stG; rw [hi]; exact ⟨v, hy, H⟩
  ·have h1 := (H.2 j (ready_mono hj hji)).2
   obtain ⟨hjun, oj, hoj, hall⟩ := mem_ready.1 hj
   have hnot : ∀ e ∈ oj.after, Region.binds md e = true → e.on ≠ i := fun e he hb heq => by
    have h1 := hall e he hb
    rw [heq, getD_both hun] at h1
    cases h1
   have h2 := stG_put hoj (hfree j oj hoj hji hjun hnot) (fun cs b => hsel i oi cs b hi) (fun cs b => hsel j oj cs b hoj) hy h1
   have hfree' : ∀ k ok, ops[k]? = some ok → k ≠ i → (listed.setIfInBounds j true).getD k true = false →
     (∀ e ∈ ok.after, Region.binds md e = true → e.on ≠ i) → oi.apart ops ok = true := fun k ok hk hki hun hno => by
    refine hfree k ok hk hki ?_ hno
    by_cases hjk : j = k
    ·subst hjk; exact hjun
    ·rw [getD_set_ne true hjk] at hun; exact hun
   refine stG_mono (fun a' h3 => ih (listed.setIfInBounds j true) a' (inv.set hj hjn) hfree' (ready_mono hr (Ne.symm hji)) h3.1 ?_) h2
   rw [Array.setIfInBounds_comm _ _ hji]
   exact h3.2
def wpSteady (P : Program) (ops : Array Oper) (w0 : World) (Q : Act → Prop) : List Oper → Act → Prop
 | [], a => Q a
 | o :: rest, a => ∃ v, YieldsG P ops w0 o v a ∧ wpSteady P ops w0 Q rest (a.put o.dst v)
theorem wpAnyG_lex {n g : Nat} {Lq : Act → Prop} (hsel : Region.noSelect ops = true) (htw : ∀ listed i, HeadInv md ops n listed → i < n → listed.getD i true = false → ∀ t, n ≤ t → t ∉ Region.ready md ops listed) :
  ∀ (l : List Oper) (k : Nat) (listed : Array Bool) (a : Act), (∀ j, j < l.length → l[j]? = ops[k + j]?) → k + l.length = n → HeadInv md ops n listed →
  Region.lexHead md ops g l.length k listed = true → wpSteady P ops w0 Lq l a →
  wpAnyG P md ops w0 n (fun listed' a' => Region.seqB md ops g n listed' = true ∧ Lq a') l.length listed a
 | [], k, listed, a, _, hk, _, hB, h => by
  have : k = n := by simpa using hk
  subst this
  exact ⟨by simpa [Region.lexHead] using hB, h⟩
 | o :: l, k, listed, a, hl, hk, inv, hB, h => by
  have h0 : ops[k]? = some o := by simpa using (hl 0 (by simp)).symm
  simp only [List.length_cons, Region.lexHead, Bool.and_eq_true] at hB
  obtain ⟨⟨hr, hf⟩, hB'⟩ := hB
  have hkn : k < n := by simp only [List.length_cons] at hk; omega
  have hr' : k ∈ Region.ready md ops listed := by simpa using hr
  obtain ⟨v, hy, hK⟩ := h
  exact wpAnyG_first h0 (Region.noSelect_spec hsel) hkn htw (fun listed' a' hL => seqB_ready hL.1) l.length listed a inv (Region.free_spec h0 hf) hr' hy
   (wpAnyG_lex hsel htw l (k + 1) _ _ (fun j hj => by have := hl (j + 1) (by simp; omega); simpa [Nat.add_assoc, Nat.add_comm 1 j] using this) (by simp only [List.length_cons] at hk; omega) (inv.set hr' hkn) hB' hK)
theorem wp_region_steady_tail {id : Nat} {Q : Exit → Act → World → Prop} {a : Act} {w : World} {l : List Oper} (n : Nat) (hm : P.follows .mixedOrders = true) (hB : Region.lexTailB .any l.toArray n = true)
  (h : wpSteady P l.toArray w.drew (fun a' => ∀ w', Gr w.drew w' → wpList P l.toArray Q (l.drop n) a' w') (l.take n) a) : (Code.region id l.toArray true).wp P Q a w := by
 simp only [Region.lexTailB, Bool.and_eq_true, decide_eq_true_eq] at hB
 obtain ⟨⟨⟨⟨hsel, hn⟩, hs⟩, hc⟩, hlex⟩ := hB
 have hn' : n < l.length := by simpa using hn
 have htl : (l.take n).length = n := by simp; omega
 have hdl : (l.drop n).length = l.toArray.size - n := by simp
 have inv0 : HeadInv .any l.toArray n (Array.replicate l.toArray.size false) :=
  ⟨by simp, fun j oj _ hl => (by rw [getD_replicate_false] at hl; cases hl), fun t _ ht => getD_in (by simpa using ht) (getD_replicate_false _ _)⟩
 have H := wpAnyG_lex (md := .any) (g := l.toArray.size - n) hsel (fun listed i inv hi hun t ht => tail_waits hs hc hn inv _ i rfl hi hun t ht) (l.take n) 0 _ a (fun j hj => by
  have hj' : j < n := by rw [htl] at hj; exact hj
  simp [hj']) (by simpa using htl) inv0 (by rw [htl]; exact hlex) h
 refine wp_region_any hm ?_
 have := wpAny_of_headG (Q' := Q) (g := l.toArray.size - n) (fun listed a' w' hw hL => by
  have := wpAny_of_seq (md := .any) (Q' := Q) (l.drop n) n listed a' w' (fun j => by simp [List.getElem?_drop]) (by rw [hdl]; exact hL.1) (hL.2 w' hw)
  rwa [hdl] at this) _ _ _ w.drew (Gr.refl _) H
 rw [htl, show n + (l.toArray.size - n) = l.toArray.size by omega] at this
 exact this
def lexAllB (md : Region.Mode) (ops : Array Oper) : Bool := Region.noSelect ops && Region.lexHead md ops 0 ops.size 0 (Array.replicate ops.size false)
theorem wp_region_steady {id : Nat} {Q : Exit → Act → World → Prop} {a : Act} {w : World} {l : List Oper} (hm : P.follows .mixedOrders = true) (hB : lexAllB .any l.toArray = true)
  (h : wpSteady P l.toArray w.drew (fun a' => ∀ w', Gr w.drew w' → Q .normal a' w') l a) : (Code.region id l.toArray true).wp P Q a w := by
 simp only [lexAllB, Bool.and_eq_true] at hB
 have inv0 : HeadInv .any l.toArray l.toArray.size (Array.replicate l.toArray.size false) :=
  ⟨by simp, fun j oj _ hl => (by rw [getD_replicate_false] at hl; cases hl), fun t _ ht => getD_in (by simpa using ht) (getD_replicate_false _ _)⟩
 have H := wpAnyG_lex (md := .any) (g := 0) (n := l.toArray.size) hB.1 (fun listed i inv hi hun t ht hr => by
  obtain ⟨_, ot, hot, _⟩ := mem_ready.1 hr
  have := (Array.getElem?_eq_some_iff.1 hot).1
  omega) l 0 _ a (fun j _ => by simp) (by simp) inv0 (by simpa using hB.2) h
 refine wp_region_any hm ?_
 have := wpAny_of_headG (Q' := Q) (g := 0) (fun listed a' w' hw hL => ⟨by simpa [Region.seqB] using hL.1, hL.2 w' hw⟩) _ _ _ w.drew (Gr.refl _) H
 simpa using this
variable {Q : Act → Prop} {a : Act} {o : Oper} {rest : List Oper}
theorem steady_nil (h : Q a) : wpSteady P ops w0 Q [] a := h
theorem steady_step (h : ∀ K : Act → Prop, (∀ a, wpSteady P ops w0 Q rest a → K a) → ∃ v, YieldsG P ops w0 o v a ∧ K (a.put o.dst v)) : wpSteady P ops w0 Q (o :: rest) a :=
 h _ (fun _ h => h)
theorem steady_op {K : Act → Prop} (hgd : o.guard = none) {v : Value} (hs : Steady P w0 o a v) (h : K (a.put o.dst v)) : ∃ v, YieldsG P ops w0 o v a ∧ K (a.put o.dst v) :=
 ⟨v, .inl ⟨by simp [Region.wanted, hgd], hs⟩, h⟩
theorem steady_yes {K : Act → Prop} (hw : Region.wanted o (yielded ops a.tmps) = true) {v : Value} (hs : Steady P w0 o a v) (h : K (a.put o.dst v)) : ∃ v, YieldsG P ops w0 o v a ∧ K (a.put o.dst v) :=
 ⟨v, .inl ⟨hw, hs⟩, h⟩
theorem steady_load_row_at (ty : TypeId) (x : Operand) (ho : o.op = .load ty x)
  (g : Nat) (hx : a.eval x = .pointer (some ⟨g, 0, none⟩)) (t : TypeId) (cs : Array Value) (fr : Nat × Nat) (d : TypeDesc) (hg : w0.heap[g]? = some (.cells cs t fr))
  (hu : P.underlying ty = some d) (hd : (match d with | .struct _ | .array _ _ => true | _ => false) = true) (hi : (P.info? ty).map (·.size) = some cs.size) : Steady P w0 o a (.agg cs) := by
 intro w hw
 have hlt : g < w0.heap.size := by
  apply Nat.lt_of_not_le; intro hle
  rw [Array.getElem?_eq_none hle] at hg; cases hg
 have hg' : w.heap[g]? = some (.cells cs t fr) := by rw [hw.block g hlt]; exact hg
 unfold execOp
 simp only [ho, hx, Instr.loadAt, Instr.sureAddr, Sem.run_bind, Sem.run_pure, Result.andThen_ok, run_loadVar_row w g t ty cs fr d hg' hu hd hi]
 exact ⟨rfl, hw⟩
theorem steady_load_row {K : Act → Prop} (hgd : o.guard = none) (ty : TypeId) (x : Operand) (ho : o.op = .load ty x)
  (g : Nat) (hx : a.eval x = .pointer (some ⟨g, 0, none⟩)) (t : TypeId) (cs : Array Value) (fr : Nat × Nat) (d : TypeDesc) (hg : w0.heap[g]? = some (.cells cs t fr))
  (hu : P.underlying ty = some d) (hd : (match d with | .struct _ | .array _ _ => true | _ => false) = true) (hi : (P.info? ty).map (·.size) = some cs.size)
  (h : K (a.put o.dst (.agg cs))) : ∃ v, YieldsG P ops w0 o v a ∧ K (a.put o.dst v) :=
 steady_op hgd (steady_load_row_at ty x ho g hx t cs fr d hg hu hd hi) h
theorem steady_build {K : Act → Prop} (hgd : o.guard = none) (t : TypeId) (parts : Array (Nat × Operand)) (ho : o.op = .build t parts) (cells : Array Value)
  (hc : P.built t (parts.map fun (i, x) => (i, a.eval x)).toList = some cells)
  (h : K (a.put o.dst (.agg cells))) : ∃ v, YieldsG P ops w0 o v a ∧ K (a.put o.dst v) := by
 refine steady_op hgd (v := .agg cells) (fun w hw => ?_) h
 unfold execOp
 simp only [ho, Sem.run_bind, run_build w t _ cells hc, Result.andThen_ok]
 exact ⟨rfl, hw⟩
theorem run_loadVar_cells (w : World) (g off : Nat) (ty : TypeId) (cs : Array Value) (d : TypeDesc) (hc : ∀ j v, cs.toList[j]? = some v → w.cell? ⟨g, off + j, none⟩ = some v)
  (hu : P.underlying ty = some d) (hd : (match d with | .struct _ | .array _ _ => true | _ => false) = true) (hi : (P.info? ty).map (·.size) = some cs.size) :
  (loadVar ty ⟨g, off, none⟩).run P w = .ok (.agg cs) w := by
 have hl : (loadCells ⟨g, off, none⟩ cs.toList.length).run P w = .ok cs.toList.toArray w :=
  run_loadCells_list (P := P) w ⟨g, off, none⟩ cs.toList (fun j v hv => by
   have hadd : (⟨g, off, none⟩ : Addr).add j = ⟨g, off + j, none⟩ := by unfold Addr.add; split <;> simp_all
   rw [hadd]; exact hc j v hv)
 cases hq : P.info? ty with
 | none => simp [hq] at hi
 | some i =>
  have hs : i.size = cs.size := by simpa [hq] using hi
  have hagg : (isAgg ty).run P w = .ok true w := by
   unfold isAgg
   rw [Sem.run_bind, run_underlying hu w]
   cases d <;> simp_all
  simp only [Array.length_toList, Array.toArray_toList] at hl
  simp [loadVar, Sem.run_bind, hagg, sizeOf, typeInfo, hq, hs, hl]
theorem wpList_load_cells {Q : Exit → Act → World → Prop} {w : World} (hgd : o.guard = none) (ty : TypeId) (x : Operand) (ho : o.op = .load ty x)
  (g off : Nat) (hx : a.eval x = .pointer (some ⟨g, off, none⟩)) (cs : Array Value) (d : TypeDesc) (hc : ∀ j v, cs.toList[j]? = some v → w.cell? ⟨g, off + j, none⟩ = some v)
  (hu : P.underlying ty = some d) (hd : (match d with | .struct _ | .array _ _ => true | _ => false) = true) (hi : (P.info? ty).map (·.size) = some cs.size)
  (h : wpList P ops Q rest (a.put o.dst (.agg cs)) w) : wpList P ops Q (o :: rest) a w :=
 wpList_plain hgd fun K hK => by
  unfold Oper.wp execOp
  simp only [ho, hx, Instr.loadAt, Instr.sureAddr, Sem.run_bind, Sem.run_pure, Result.andThen_ok, run_loadVar_cells w g off ty cs d hc hu hd hi]
  exact hK _ _ h
theorem steady_load_cells {K : Act → Prop} (hgd : o.guard = none) (ty : TypeId) (x : Operand) (ho : o.op = .load ty x)
  (g off : Nat) (hx : a.eval x = .pointer (some ⟨g, off, none⟩)) (cs : Array Value) (d : TypeDesc) (hc : ∀ j v, cs.toList[j]? = some v → w0.cell? ⟨g, off + j, none⟩ = some v)
  (hu : P.underlying ty = some d) (hd : (match d with | .struct _ | .array _ _ => true | _ => false) = true) (hi : (P.info? ty).map (·.size) = some cs.size)
  (h : K (a.put o.dst (.agg cs))) : ∃ v, YieldsG P ops w0 o v a ∧ K (a.put o.dst v) :=
 steady_op hgd (v := .agg cs) (fun w hw => by
  unfold execOp
  simp only [ho, hx, Instr.loadAt, Instr.sureAddr, Sem.run_bind, Sem.run_pure, Result.andThen_ok, run_loadVar_cells w g off ty cs d (fun j v hv => gr_cell hw (hc j v hv)) hu hd hi]
  exact ⟨rfl, hw⟩) h
end
end Go.Proofs.Ytebkabidojipoaa
/- Net -/
namespace Go.Proofs.Ytebkabidojipoaa
open Go.RowKit
section
variable {P : Program} {ops : Array Oper} {md : Region.Mode} {w0 : World}
def netUpon (P : Program) (Φ : Value → World → Prop) (w : World) : Result Next → Prop
 | .ok (.value u) w' => Φ u w' ∧ Gr w w'
 | .ok .skip w' => Φ undef w' ∧ Gr w w'
 | .ok (.enter f args) w' => Calls P f args w' (fun e w'' => ∃ u, e = .returned u ∧ Φ u w'' ∧ Gr w w'')
 | _ => False
def NetStep (P : Program) (md : Region.Mode) (ops : Array Oper) (w0 : World) (a0 : Act) (Φ : Nat → Value → World → Prop) (k : Nat) (o : Oper) : Prop :=
 ∀ (a : Act) (w : World), Gr w0 w → (∀ d, (∀ (j : Nat) (oj : Oper), ops[j]? = some oj → oj.dst ≠ some d) → a.tmps[d]? = a0.tmps[d]?) →
  (∀ e ∈ o.after, Region.binds md e = true → ∀ (oj : Oper) (d : Tmp), ops[e.on]? = some oj → oj.dst = some d → Φ e.on (a.eval (.tmp d)) w) →
  (Region.wanted o (yielded ops a.tmps) = true → netUpon P (Φ k) w ((execOp a.eval o).run P w)) ∧ (Region.wanted o (yielded ops a.tmps) = false → Φ k undef w)
structure NetInv (ops : Array Oper) (w0 : World) (a0 : Act) (Φ : Nat → Value → World → Prop) (listed : Array Bool) (a : Act) (w : World) : Prop where
 gr : Gr w0 w
 defers : a.defers = a0.defers
 size : a.tmps.size = a0.tmps.size
 keep : ∀ d, (∀ (k : Nat) (o : Oper), ops[k]? = some o → listed.getD k false = true → o.dst ≠ some d) → a.tmps[d]? = a0.tmps[d]?
 ok : ∀ (k : Nat) (o : Oper) (d : Tmp), ops[k]? = some o → listed.getD k false = true → o.dst = some d → Φ k (a.eval (.tmp d)) w
def netB (md : Region.Mode) (ops : Array Oper) (n : Nat) : Bool :=
 (List.range ops.size).all fun i => (match (ops[i]?).bind (·.dst) with
  | some d => decide (d < n) && (List.range ops.size).all fun j => decide (i = j) || decide ((ops[j]?).bind (·.dst) ≠ some d)
  | none => true) && ((ops[i]?).map fun o => o.after.all fun e => !Region.binds md e || decide (e.on < i)).getD true
theorem netB_spec {n : Nat} (h : netB md ops n = true) : (∀ (i : Nat) (o : Oper) (d : Tmp), ops[i]? = some o → o.dst = some d → d < n ∧ ∀ (j : Nat) (oj : Oper), ops[j]? = some oj → oj.dst = some d → j = i) ∧ ∀ (i : Nat) (o : Oper), ops[i]? = some o → ∀ e ∈ o.after, Region.binds md e = true → e.on < i := by
 have h1 : ∀ i, i < ops.size → _ := fun i hi => List.all_eq_true.1 h i (List.mem_range.2 hi)
 refine ⟨fun i o d hi hd => ?_, fun i o hi e he hb => ?_⟩
 ·have hlt := (Array.getElem?_eq_some_iff.1 hi).1
  have h2 := h1 i hlt
  simp only [hi, Option.bind_some, hd, Bool.and_eq_true, decide_eq_true_eq, List.all_eq_true, Bool.or_eq_true] at h2
  refine ⟨h2.1.1, fun j oj hj hdj => ?_⟩
  have h3 := h2.1.2 j (List.mem_range.2 (Array.getElem?_eq_some_iff.1 hj).1)
  rcases h3 with h3 | h3
  ·exact h3.symm
  ·exact absurd (by rw [hj]; exact hdj) h3
 ·have hlt := (Array.getElem?_eq_some_iff.1 hi).1
  have h2 := h1 i hlt
  simp only [hi, Option.map_some, Option.getD_some, Bool.and_eq_true] at h2
  have h3 := Array.all_eq_true'.1 h2.2 e he
  simpa [hb] using h3
theorem eval_put_same {a : Act} {d : Tmp} {v : Value} (h : d < a.tmps.size) : (a.put (some d) v).eval (.tmp d) = v := by
 simp [Act.put, Act.eval, h]
theorem eval_put_ne {a : Act} {d d' : Tmp} {v : Value} (h : d ≠ d') : (a.put (some d) v).eval (.tmp d') = a.eval (.tmp d') := by
 simp [Act.put, Act.eval, Array.getElem?_setIfInBounds_ne h]
theorem cnt_lt {p p' : Nat → Bool} {i : Nat} (hp : p i = true) (hp' : p' i = false) (hle : ∀ k, p' k = true → p k = true) : ∀ l : List Nat, i ∈ l → l.countP p' + 1 ≤ l.countP p
 | [], h => by cases h
 | x :: l, h => by
  have mono : ∀ l : List Nat, l.countP p' ≤ l.countP p := fun l => List.countP_mono_left (fun k _ hk => hle k hk)
  by_cases hx : x = i
  ·subst hx
   rw [List.countP_cons_of_pos hp, List.countP_cons_of_neg (by rw [hp']; decide)]
   have := mono l
   omega
  ·have hl : i ∈ l := by
    rcases List.mem_cons.1 h with h | h
    ·exact absurd h.symm hx
    ·exact h
   have ih := cnt_lt hp hp' hle l hl
   rw [List.countP_cons, List.countP_cons]
   have : (if p' x = true then 1 else 0) ≤ (if p x = true then 1 else 0) := by
    by_cases hq : p' x = true
    ·rw [if_pos hq, if_pos (hle x hq)]; exact Nat.le_refl _
    ·rw [if_neg hq]; exact Nat.zero_le _
   omega
def unl (ops : Array Oper) (listed : Array Bool) : Nat := (List.range ops.size).countP fun k => !listed.getD k true
def netSteps (P : Program) (ops : Array Oper) (w0 : World) (a0 : Act) (Φ : Nat → Value → World → Prop) : List Oper → Nat → Prop
 | [], _ => True
 | o :: l, k => NetStep P .any ops w0 a0 Φ k o ∧ netSteps P ops w0 a0 Φ l (k + 1)
theorem netSteps_spec {a0 : Act} {Φ : Nat → Value → World → Prop} : ∀ (l : List Oper) (k : Nat), netSteps P ops w0 a0 Φ l k → ∀ j o, l[j]? = some o → NetStep P .any ops w0 a0 Φ (k + j) o
 | [], _, _, j, o, h => by simp at h
 | x :: l, k, hs, 0, o, h => by
  obtain rfl : x = o := by simpa using h
  exact hs.1
 | x :: l, k, hs, j + 1, o, h => by
  have := netSteps_spec l (k + 1) hs.2 j o (by simpa using h)
  rwa [show k + 1 + j = k + (j + 1) by omega] at this
def putAll (a : Act) (V : Nat → Value) : List Oper → Act
 | [] => a
 | o :: l => putAll (a.put o.dst ((o.dst.map V).getD undef)) V l
theorem putAll_size (V : Nat → Value) : ∀ (l : List Oper) (a : Act), (putAll a V l).tmps.size = a.tmps.size
 | [], _ => rfl
 | o :: l, a => by
  rw [putAll, putAll_size V l]; unfold Act.put; split
  ·exact Array.size_setIfInBounds
  ·rfl
theorem putAll_defers (V : Nat → Value) : ∀ (l : List Oper) (a : Act), (putAll a V l).defers = a.defers
 | [], _ => rfl
 | o :: l, a => by rw [putAll, putAll_defers V l]; unfold Act.put; split <;> rfl
theorem putAll_get (V : Nat → Value) (d : Nat) : ∀ (l : List Oper) (a : Act), d < a.tmps.size → (putAll a V l).tmps[d]? = if l.any (fun o => o.dst == some d) then some (V d) else a.tmps[d]?
 | [], _, _ => rfl
 | o :: l, a, hd => by
  have hs : (a.put o.dst ((o.dst.map V).getD undef)).tmps.size = a.tmps.size := by unfold Act.put; split <;> simp
  rw [putAll, putAll_get V d l _ (by rw [hs]; exact hd)]
  by_cases hl : l.any (fun o => o.dst == some d) = true
  ·rw [if_pos hl, if_pos (by rw [List.any_cons, hl]; simp)]
  ·rw [if_neg hl]
   by_cases ho : o.dst = some d
   ·rw [if_pos (by simp [ho]), ho]
    simp [Act.put, hd]
   ·have hl' : l.any (fun o => o.dst == some d) = false := by simpa using hl
    rw [if_neg (by simp only [List.any_cons, hl', Bool.or_false, beq_iff_eq]; exact ho)]
    cases hod : o.dst with
    | none => rfl
    | some d' =>
     have hne : d' ≠ d := fun e => ho (by rw [hod, e])
     simp [Act.put, Array.getElem?_setIfInBounds_ne hne]
def notDst (ops : Array Oper) (d : Tmp) : Bool := (List.range ops.size).all fun j => decide ((ops[j]?).bind (·.dst) ≠ some d)
def depOn (ops : Array Oper) (o : Oper) (j : Nat) (d : Tmp) : Bool := (o.after.any fun e => Region.binds .any e && e.on == j) && decide ((ops[j]?).bind (·.dst) = some d)
theorem NetStep.of {a0 : Act} {Φ : Nat → Value → World → Prop} {k : Nat} {o : Oper} (hgd : o.guard = none)
  (h : ∀ (ρ : Operand → Value) (w : World), Gr w0 w → (∀ v, ρ (.const v) = v) → (∀ f, ρ (.func f) = .func (.func f) #[] #[]) → (∀ d, notDst ops d = true → ρ (.tmp d) = a0.eval (.tmp d)) →
   (∀ j d, depOn ops o j d = true → Φ j (ρ (.tmp d)) w) → netUpon P (Φ k) w ((execOp ρ o).run P w)) : NetStep P .any ops w0 a0 Φ k o := by
 intro a w hw hin hdep
 refine ⟨fun _ => h a.eval w hw (fun _ => rfl) (fun _ => rfl) (fun d hd => ?_) (fun j d hj => ?_), fun hn => ?_⟩
 ·have h1 := hin d fun j oj hj he => by
   have hlt := (Array.getElem?_eq_some_iff.1 hj).1
   have := List.all_eq_true.1 hd j (List.mem_range.2 hlt)
   rw [hj] at this
   simp [he] at this
  simp [Act.eval, h1]
 ·unfold depOn at hj
  simp only [Bool.and_eq_true, decide_eq_true_eq] at hj
  obtain ⟨e, he, hb⟩ := Array.any_eq_true'.1 hj.1
  simp only [Bool.and_eq_true, beq_iff_eq] at hb
  obtain ⟨hb1, rfl⟩ := hb
  cases hoj : ops[e.on]? with
  | none => rw [hoj] at hj; simp at hj
  | some oj =>
   rw [hoj] at hj
   exact hdep e he hb1 oj d hoj (by simpa using hj.2)
 ·simp [Region.wanted, hgd] at hn
theorem yielded_of_eval {a : Act} {g : Nat} {d : Tmp} {b : Bool} (hd : (ops[g]?).bind (·.dst) = some d) (h : a.eval (.tmp d) = .bool b) : yielded ops a.tmps g = some b := by
 unfold yielded
 rw [hd]
 have : a.tmps[d]? = some (.bool b) := by
  have h : a.tmps.getD d undef = .bool b := h
  cases hq : a.tmps[d]? with
  | none =>
   rw [Array.getD_eq_getD_getElem?, hq] at h
   simp [undef] at h
  | some v =>
   rw [Array.getD_eq_getD_getElem?, hq] at h
   simp at h
   rw [h]
 simp [this]
end
end Go.Proofs.Ytebkabidojipoaa
/- InsSh -/
namespace Go.Proofs.Ytebkabidojipoaa
open Go.RowKit
namespace Ins
def shp (f l : Int) (s : ByteArray) : Array Value := #[.int .i64 f, .int .i64 l, .string s]
def RES (f l : Int) (s : ByteArray) (w : World) (e : Ending) (w' : World) : Prop := e = .returned (.agg (shp f l s)) ∧ Gr w w'
theorem infoS : (Try.prog.info? 77).map (·.size) = some 3 := by kernel_rfl
theorem shp_one (f l : Int) (s : ByteArray) : (shp f l s).all (·.oneCell') = true := by kernel_rfl
def zs : ByteArray := { data := #[] }
theorem within_yes (n a b : Int) (h0 : a ≤ n) (h1 : n ≤ b) (w : World) : Calls Try.prog 56 #[.int .i64 n, .int .i64 a, .int .i64 b] w fun e w' => e = .returned (.bool true) ∧ w = w' := by
 go_enter Try.func56, Try.ntmps56
 go_wp2
 go_ret
 exact ⟨rfl, rfl⟩
theorem within_no (n a b : Int) (h : n < a ∨ b < n) (w : World) : Calls Try.prog 56 #[.int .i64 n, .int .i64 a, .int .i64 b] w fun e w' => e = .returned (.bool false) ∧ w = w' := by
 by_cases h0 : a ≤ n
 ·have h1 : decide (n ≤ b) = false := decide_eq_false (by omega)
  clear h
  go_enter Try.func56, Try.ntmps56
  go_wp2
  go_ret
  exact ⟨rfl, rfl⟩
 ·clear h
  go_enter Try.func56, Try.ntmps56
  go_wp2
  go_ret
  exact ⟨rfl, rfl⟩
theorem wY {n a b : Int} {w : World} {Q : Ending → World → Prop} (h : Q (.returned (.bool true)) w) (h0 : a ≤ n := by omega) (h1 : n ≤ b := by omega) : Calls Try.prog 56 #[.int .i64 n, .int .i64 a, .int .i64 b] w Q :=
 (within_yes n a b h0 h1 w).mono fun e w' ⟨h2, h3⟩ => by subst h2 h3; exact h
theorem wN {n a b : Int} {w : World} {Q : Ending → World → Prop} (h : Q (.returned (.bool false)) w) (h0 : n < a ∨ b < n := by omega) : Calls Try.prog 56 #[.int .i64 n, .int .i64 a, .int .i64 b] w Q :=
 (within_no n a b h0 w).mono fun e w' ⟨h2, h3⟩ => by subst h2 h3; exact h
theorem shB {w w1 : World} (hg : Gr (w.alloc (.cells (shp 0 0 zs) 77)) w1) : Go.RowKit.Hid (w1.heap[w.heap.size]? = some (.cells (shp 0 0 zs) 77 (0, 0))) ∧ Go.RowKit.Hid (Gr w w1) :=
 ⟨Lib.hid (gr_block hg (heap_alloc_new w (.cells (shp 0 0 zs) 77))), Lib.hid (gr_trans ((Gr.refl w).alloc _ _) hg)⟩
theorem st3 {ops : Array Oper} {Q : Exit → Act → World → Prop} {a : Act} {o : Oper} {rest : List Oper} {w : World} {g : Nat} {f l : Int} {s : ByteArray} (HB : Go.RowKit.Hid (w.heap[g]? = some (.cells (shp 0 0 zs) 77 (0, 0)))) (hgd : o.guard = none) (x y : Operand) (ho : o.op = .store 77 x y) (hx : a.eval x = .pointer (some ⟨g, 0, none⟩)) (hy : a.eval y = .agg (shp f l s)) (h : wpList Try.prog ops Q rest (a.put o.dst undef) (w.setRow g (shp f l s))) : wpList Try.prog ops Q (o :: rest) a w :=
 wpList_store_row hgd 77 x y ho g (shp f l s) hx hy 77 (shp 0 0 zs) HB.out infoS rfl (shp_one _ _ _) h
theorem sE {fn : Func} {p : Tmp} (hr : fn.results = #[.cell p 77]) {a : Act} {w w0 : World} {g : Nat} {f l : Int} {s : ByteArray} (HB : Go.RowKit.Hid (w.heap[g]? = some (.cells (shp 0 0 zs) 77 (0, 0)))) (HG : Go.RowKit.Hid (Gr w0 w)) (hp : a.tmps.getD p undef = .pointer (some ⟨g, 0, none⟩)) (hd : a.defers = []) (hg : w0.heap.size ≤ g) : bodyPost Try.prog fn (RES f l s w0) .ret a (w.setRow g (shp f l s)) :=
 bodyPost_ret (v := .agg (shp f l s)) (results_cell_row hr _ _ g 77 _ (0, 0) _ hp (setRow_block HB.out) Try.underlying77 rfl infoS) hd ⟨rfl, gr_setRow HG.out hg _⟩
theorem plain_any (s : ByteArray) (w : World) : Calls Try.prog 82 #[.string s] w (RES 1 0 s w) := by
 go_enter Try.func82, Try.ntmps82
 go_wp2
 exact bodyPost_ret (v := .agg (shp 1 0 s)) (by simp [results, Try.results82, go_sem, shp]) rfl ⟨rfl, (Gr.refl _).alloc _ _⟩
theorem memory_any (l : Int) (s : ByteArray) (w : World) : Calls Try.prog 81 #[.int .i64 l, .string s] w (RES 7 l s w) := by
 go_enter Try.func81, Try.ntmps81
 go_wp2
 exact bodyPost_ret (v := .agg (shp 7 l s)) (by simp [results, Try.results81, go_sem, shp]) rfl ⟨rfl, (Gr.refl _).alloc _ _⟩
theorem lane_any (l : Int) (s : ByteArray) (w : World) : Calls Try.prog 83 #[.int .i64 l, .string s] w (RES 13 l s w) := by
 go_enter Try.func83, Try.ntmps83
 go_wp2
 exact bodyPost_ret (v := .agg (shp 13 l s)) (by simp [results, Try.results83, go_sem, shp]) rfl ⟨rfl, (Gr.refl _).alloc _ _⟩
theorem access_0 (w : World) : Calls Try.prog 68 #[.int .i64 40] w (RES 7 2 ⟨#[105, 58, 105]⟩ w) := by
 go_enter Try.func68, Try.ntmps68
 go_wp2_with (go_at_call 56; first | refine wY ?_ | refine wN ?_)
 refine (memory_any _ _ _).mono ?_
 rintro e w1 ⟨rfl, hg⟩
 obtain ⟨HB, HG⟩ := shB hg
 clear hg
 go_wp2_with (refine st3 HB rfl _ _ rfl rfl rfl ?_)
 exact sE Try.results68 HB HG rfl rfl (by omega)
theorem access_1 (w : World) : Calls Try.prog 68 #[.int .i64 41] w (RES 7 3 ⟨#[105, 58, 108]⟩ w) := by
 go_enter Try.func68, Try.ntmps68
 go_wp2_with (go_at_call 56; first | refine wY ?_ | refine wN ?_)
 refine (memory_any _ _ _).mono ?_
 rintro e w1 ⟨rfl, hg⟩
 obtain ⟨HB, HG⟩ := shB hg
 clear hg
 go_wp2_with (refine st3 HB rfl _ _ rfl rfl rfl ?_)
 exact sE Try.results68 HB HG rfl rfl (by omega)
theorem access_2 (n : Int) (h0 : 42 ≤ n) (h1 : n ≤ 43) (w : World) : Calls Try.prog 68 #[.int .i64 n] w (RES 0 0 ⟨#[]⟩ w) := by
 go_enter Try.func68, Try.ntmps68
 go_wp2_with (go_at_call 56; first | refine wY ?_ | refine wN ?_)
 exact bodyPost_ret (v := .agg (shp _ _ _)) (by simp [results, Try.results68, go_sem, shp] <;> rfl) rfl ⟨rfl, (Gr.refl _).alloc _ _⟩
theorem access_3 (w : World) : Calls Try.prog 68 #[.int .i64 44] w (RES 7 0 ⟨#[105, 58, 105]⟩ w) := by
 go_enter Try.func68, Try.ntmps68
 go_wp2_with (go_at_call 56; first | refine wY ?_ | refine wN ?_)
 refine (memory_any _ _ _).mono ?_
 rintro e w1 ⟨rfl, hg⟩
 obtain ⟨HB, HG⟩ := shB hg
 clear hg
 go_wp2_with (refine st3 HB rfl _ _ rfl rfl rfl ?_)
 exact sE Try.results68 HB HG rfl rfl (by omega)
theorem access_4 (w : World) : Calls Try.prog 68 #[.int .i64 45] w (RES 7 0 ⟨#[105, 58, 105]⟩ w) := by
 go_enter Try.func68, Try.ntmps68
 go_wp2_with (go_at_call 56; first | refine wY ?_ | refine wN ?_)
 refine (memory_any _ _ _).mono ?_
 rintro e w1 ⟨rfl, hg⟩
 obtain ⟨HB, HG⟩ := shB hg
 clear hg
 go_wp2_with (refine st3 HB rfl _ _ rfl rfl rfl ?_)
 exact sE Try.results68 HB HG rfl rfl (by omega)
theorem access_5 (w : World) : Calls Try.prog 68 #[.int .i64 46] w (RES 7 1 ⟨#[105, 58, 105]⟩ w) := by
 go_enter Try.func68, Try.ntmps68
 go_wp2_with (go_at_call 56; first | refine wY ?_ | refine wN ?_)
 refine (memory_any _ _ _).mono ?_
 rintro e w1 ⟨rfl, hg⟩
 obtain ⟨HB, HG⟩ := shB hg
 clear hg
 go_wp2_with (refine st3 HB rfl _ _ rfl rfl rfl ?_)
 exact sE Try.results68 HB HG rfl rfl (by omega)
theorem access_6 (w : World) : Calls Try.prog 68 #[.int .i64 47] w (RES 7 1 ⟨#[105, 58, 105]⟩ w) := by
 go_enter Try.func68, Try.ntmps68
 go_wp2_with (go_at_call 56; first | refine wY ?_ | refine wN ?_)
 refine (memory_any _ _ _).mono ?_
 rintro e w1 ⟨rfl, hg⟩
 obtain ⟨HB, HG⟩ := shB hg
 clear hg
 go_wp2_with (refine st3 HB rfl _ _ rfl rfl rfl ?_)
 exact sE Try.results68 HB HG rfl rfl (by omega)
theorem access_7 (w : World) : Calls Try.prog 68 #[.int .i64 48] w (RES 7 0 ⟨#[105, 58, 108]⟩ w) := by
 go_enter Try.func68, Try.ntmps68
 go_wp2_with (go_at_call 56; first | refine wY ?_ | refine wN ?_)
 refine (memory_any _ _ _).mono ?_
 rintro e w1 ⟨rfl, hg⟩
 obtain ⟨HB, HG⟩ := shB hg
 clear hg
 go_wp2_with (refine st3 HB rfl _ _ rfl rfl rfl ?_)
 exact sE Try.results68 HB HG rfl rfl (by omega)
theorem access_8 (w : World) : Calls Try.prog 68 #[.int .i64 49] w (RES 7 0 ⟨#[105, 58, 108]⟩ w) := by
 go_enter Try.func68, Try.ntmps68
 go_wp2_with (go_at_call 56; first | refine wY ?_ | refine wN ?_)
 refine (memory_any _ _ _).mono ?_
 rintro e w1 ⟨rfl, hg⟩
 obtain ⟨HB, HG⟩ := shB hg
 clear hg
 go_wp2_with (refine st3 HB rfl _ _ rfl rfl rfl ?_)
 exact sE Try.results68 HB HG rfl rfl (by omega)
theorem access_9 (w : World) : Calls Try.prog 68 #[.int .i64 50] w (RES 7 1 ⟨#[105, 58, 108]⟩ w) := by
 go_enter Try.func68, Try.ntmps68
 go_wp2_with (go_at_call 56; first | refine wY ?_ | refine wN ?_)
 refine (memory_any _ _ _).mono ?_
 rintro e w1 ⟨rfl, hg⟩
 obtain ⟨HB, HG⟩ := shB hg
 clear hg
 go_wp2_with (refine st3 HB rfl _ _ rfl rfl rfl ?_)
 exact sE Try.results68 HB HG rfl rfl (by omega)
theorem access_10 (w : World) : Calls Try.prog 68 #[.int .i64 51] w (RES 7 1 ⟨#[105, 58, 108]⟩ w) := by
 go_enter Try.func68, Try.ntmps68
 go_wp2_with (go_at_call 56; first | refine wY ?_ | refine wN ?_)
 refine (memory_any _ _ _).mono ?_
 rintro e w1 ⟨rfl, hg⟩
 obtain ⟨HB, HG⟩ := shB hg
 clear hg
 go_wp2_with (refine st3 HB rfl _ _ rfl rfl rfl ?_)
 exact sE Try.results68 HB HG rfl rfl (by omega)
theorem access_11 (w : World) : Calls Try.prog 68 #[.int .i64 52] w (RES 7 2 ⟨#[105, 58, 108]⟩ w) := by
 go_enter Try.func68, Try.ntmps68
 go_wp2_with (go_at_call 56; first | refine wY ?_ | refine wN ?_)
 refine (memory_any _ _ _).mono ?_
 rintro e w1 ⟨rfl, hg⟩
 obtain ⟨HB, HG⟩ := shB hg
 clear hg
 go_wp2_with (refine st3 HB rfl _ _ rfl rfl rfl ?_)
 exact sE Try.results68 HB HG rfl rfl (by omega)
theorem access_12 (w : World) : Calls Try.prog 68 #[.int .i64 53] w (RES 7 2 ⟨#[105, 58, 108]⟩ w) := by
 go_enter Try.func68, Try.ntmps68
 go_wp2_with (go_at_call 56; first | refine wY ?_ | refine wN ?_)
 refine (memory_any _ _ _).mono ?_
 rintro e w1 ⟨rfl, hg⟩
 obtain ⟨HB, HG⟩ := shB hg
 clear hg
 go_wp2_with (refine st3 HB rfl _ _ rfl rfl rfl ?_)
 exact sE Try.results68 HB HG rfl rfl (by omega)
theorem access_13 (w : World) : Calls Try.prog 68 #[.int .i64 54] w (RES 7 2 ⟨#[105, 105, 58]⟩ w) := by
 go_enter Try.func68, Try.ntmps68
 go_wp2_with (go_at_call 56; first | refine wY ?_ | refine wN ?_)
 refine (memory_any _ _ _).mono ?_
 rintro e w1 ⟨rfl, hg⟩
 obtain ⟨HB, HG⟩ := shB hg
 clear hg
 go_wp2_with (refine st3 HB rfl _ _ rfl rfl rfl ?_)
 exact sE Try.results68 HB HG rfl rfl (by omega)
theorem access_14 (w : World) : Calls Try.prog 68 #[.int .i64 55] w (RES 7 3 ⟨#[105, 108, 58]⟩ w) := by
 go_enter Try.func68, Try.ntmps68
 go_wp2_with (go_at_call 56; first | refine wY ?_ | refine wN ?_)
 refine (memory_any _ _ _).mono ?_
 rintro e w1 ⟨rfl, hg⟩
 obtain ⟨HB, HG⟩ := shB hg
 clear hg
 go_wp2_with (refine st3 HB rfl _ _ rfl rfl rfl ?_)
 exact sE Try.results68 HB HG rfl rfl (by omega)
theorem access_15 (n : Int) (h0 : 56 ≤ n) (h1 : n ≤ 57) (w : World) : Calls Try.prog 68 #[.int .i64 n] w (RES 0 0 ⟨#[]⟩ w) := by
 go_enter Try.func68, Try.ntmps68
 go_wp2_with (go_at_call 56; first | refine wY ?_ | refine wN ?_)
 exact bodyPost_ret (v := .agg (shp _ _ _)) (by simp [results, Try.results68, go_sem, shp] <;> rfl) rfl ⟨rfl, (Gr.refl _).alloc _ _⟩
theorem access_16 (w : World) : Calls Try.prog 68 #[.int .i64 58] w (RES 7 0 ⟨#[105, 105, 58]⟩ w) := by
 go_enter Try.func68, Try.ntmps68
 go_wp2_with (go_at_call 56; first | refine wY ?_ | refine wN ?_)
 refine (memory_any _ _ _).mono ?_
 rintro e w1 ⟨rfl, hg⟩
 obtain ⟨HB, HG⟩ := shB hg
 clear hg
 go_wp2_with (refine st3 HB rfl _ _ rfl rfl rfl ?_)
 exact sE Try.results68 HB HG rfl rfl (by omega)
theorem access_17 (w : World) : Calls Try.prog 68 #[.int .i64 59] w (RES 7 1 ⟨#[105, 105, 58]⟩ w) := by
 go_enter Try.func68, Try.ntmps68
 go_wp2_with (go_at_call 56; first | refine wY ?_ | refine wN ?_)
 refine (memory_any _ _ _).mono ?_
 rintro e w1 ⟨rfl, hg⟩
 obtain ⟨HB, HG⟩ := shB hg
 clear hg
 go_wp2_with (refine st3 HB rfl _ _ rfl rfl rfl ?_)
 exact sE Try.results68 HB HG rfl rfl (by omega)
theorem access_18 (w : World) : Calls Try.prog 68 #[.int .i64 60] w (RES 7 0 ⟨#[105, 108, 58]⟩ w) := by
 go_enter Try.func68, Try.ntmps68
 go_wp2_with (go_at_call 56; first | refine wY ?_ | refine wN ?_)
 refine (memory_any _ _ _).mono ?_
 rintro e w1 ⟨rfl, hg⟩
 obtain ⟨HB, HG⟩ := shB hg
 clear hg
 go_wp2_with (refine st3 HB rfl _ _ rfl rfl rfl ?_)
 exact sE Try.results68 HB HG rfl rfl (by omega)
theorem access_19 (w : World) : Calls Try.prog 68 #[.int .i64 61] w (RES 7 1 ⟨#[105, 108, 58]⟩ w) := by
 go_enter Try.func68, Try.ntmps68
 go_wp2_with (go_at_call 56; first | refine wY ?_ | refine wN ?_)
 refine (memory_any _ _ _).mono ?_
 rintro e w1 ⟨rfl, hg⟩
 obtain ⟨HB, HG⟩ := shB hg
 clear hg
 go_wp2_with (refine st3 HB rfl _ _ rfl rfl rfl ?_)
 exact sE Try.results68 HB HG rfl rfl (by omega)
theorem access_20 (w : World) : Calls Try.prog 68 #[.int .i64 62] w (RES 7 2 ⟨#[105, 108, 58]⟩ w) := by
 go_enter Try.func68, Try.ntmps68
 go_wp2_with (go_at_call 56; first | refine wY ?_ | refine wN ?_)
 refine (memory_any _ _ _).mono ?_
 rintro e w1 ⟨rfl, hg⟩
 obtain ⟨HB, HG⟩ := shB hg
 clear hg
 go_wp2_with (refine st3 HB rfl _ _ rfl rfl rfl ?_)
 exact sE Try.results68 HB HG rfl rfl (by omega)
theorem operator_0 (w : World) : Calls Try.prog 69 #[.int .i64 69] w (RES 1 0 ⟨#[105, 58, 105]⟩ w) := by
 go_enter Try.func69, Try.ntmps69
 go_wp2_with (go_at_call 56; first | refine wY ?_ | refine wN ?_)
 refine (plain_any _ _).mono ?_
 rintro e w1 ⟨rfl, hg⟩
 obtain ⟨HB, HG⟩ := shB hg
 clear hg
 go_wp2_with (refine st3 HB rfl _ _ rfl rfl rfl ?_)
 exact sE Try.results69 HB HG rfl rfl (by omega)
theorem operator_1 (n : Int) (h0 : 70 ≤ n) (h1 : n ≤ 79) (w : World) : Calls Try.prog 69 #[.int .i64 n] w (RES 1 0 ⟨#[105, 105, 58, 105]⟩ w) := by
 go_enter Try.func69, Try.ntmps69
 go_wp2_with (go_at_call 56; first | refine wY ?_ | refine wN ?_)
 refine (plain_any _ _).mono ?_
 rintro e w1 ⟨rfl, hg⟩
 obtain ⟨HB, HG⟩ := shB hg
 clear hg
 go_wp2_with (refine st3 HB rfl _ _ rfl rfl rfl ?_)
 exact sE Try.results69 HB HG rfl rfl (by omega)
theorem operator_2 (w : World) : Calls Try.prog 69 #[.int .i64 80] w (RES 1 0 ⟨#[108, 58, 105]⟩ w) := by
 go_enter Try.func69, Try.ntmps69
 go_wp2_with (go_at_call 56; first | refine wY ?_ | refine wN ?_)
 refine (plain_any _ _).mono ?_
 rintro e w1 ⟨rfl, hg⟩
 obtain ⟨HB, HG⟩ := shB hg
 clear hg
 go_wp2_with (refine st3 HB rfl _ _ rfl rfl rfl ?_)
 exact sE Try.results69 HB HG rfl rfl (by omega)
theorem operator_3 (n : Int) (h0 : 81 ≤ n) (h1 : n ≤ 90) (w : World) : Calls Try.prog 69 #[.int .i64 n] w (RES 1 0 ⟨#[108, 108, 58, 105]⟩ w) := by
 go_enter Try.func69, Try.ntmps69
 go_wp2_with (go_at_call 56; first | refine wY ?_ | refine wN ?_)
 refine (plain_any _ _).mono ?_
 rintro e w1 ⟨rfl, hg⟩
 obtain ⟨HB, HG⟩ := shB hg
 clear hg
 go_wp2_with (refine st3 HB rfl _ _ rfl rfl rfl ?_)
 exact sE Try.results69 HB HG rfl rfl (by omega)
theorem operator_4 (n : Int) (h0 : 91 ≤ n) (h1 : n ≤ 102) (w : World) : Calls Try.prog 69 #[.int .i64 n] w (RES 0 0 ⟨#[]⟩ w) := by
 go_enter Try.func69, Try.ntmps69
 go_wp2_with (go_at_call 56; first | refine wY ?_ | refine wN ?_)
 exact bodyPost_ret (v := .agg (shp _ _ _)) (by simp [results, Try.results69, go_sem, shp] <;> rfl) rfl ⟨rfl, (Gr.refl _).alloc _ _⟩
theorem operator_5 (n : Int) (h0 : 103 ≤ n) (h1 : n ≤ 105) (w : World) : Calls Try.prog 69 #[.int .i64 n] w (RES 1 0 ⟨#[105, 58, 105]⟩ w) := by
 go_enter Try.func69, Try.ntmps69
 go_wp2_with (go_at_call 56; first | refine wY ?_ | refine wN ?_)
 refine (plain_any _ _).mono ?_
 rintro e w1 ⟨rfl, hg⟩
 obtain ⟨HB, HG⟩ := shB hg
 clear hg
 go_wp2_with (refine st3 HB rfl _ _ rfl rfl rfl ?_)
 exact sE Try.results69 HB HG rfl rfl (by omega)
theorem operator_6 (n : Int) (h0 : 106 ≤ n) (h1 : n ≤ 120) (w : World) : Calls Try.prog 69 #[.int .i64 n] w (RES 1 0 ⟨#[105, 105, 58, 105]⟩ w) := by
 go_enter Try.func69, Try.ntmps69
 go_wp2_with (go_at_call 56; first | refine wY ?_ | refine wN ?_)
 refine (plain_any _ _).mono ?_
 rintro e w1 ⟨rfl, hg⟩
 obtain ⟨HB, HG⟩ := shB hg
 clear hg
 go_wp2_with (refine st3 HB rfl _ _ rfl rfl rfl ?_)
 exact sE Try.results69 HB HG rfl rfl (by omega)
theorem operator_7 (n : Int) (h0 : 121 ≤ n) (h1 : n ≤ 123) (w : World) : Calls Try.prog 69 #[.int .i64 n] w (RES 1 0 ⟨#[108, 58, 108]⟩ w) := by
 go_enter Try.func69, Try.ntmps69
 go_wp2_with (go_at_call 56; first | refine wY ?_ | refine wN ?_)
 refine (plain_any _ _).mono ?_
 rintro e w1 ⟨rfl, hg⟩
 obtain ⟨HB, HG⟩ := shB hg
 clear hg
 go_wp2_with (refine st3 HB rfl _ _ rfl rfl rfl ?_)
 exact sE Try.results69 HB HG rfl rfl (by omega)
theorem operator_8 (n : Int) (h0 : 124 ≤ n) (h1 : n ≤ 138) (w : World) : Calls Try.prog 69 #[.int .i64 n] w (RES 1 0 ⟨#[108, 108, 58, 108]⟩ w) := by
 go_enter Try.func69, Try.ntmps69
 go_wp2_with (go_at_call 56; first | refine wY ?_ | refine wN ?_)
 refine (plain_any _ _).mono ?_
 rintro e w1 ⟨rfl, hg⟩
 obtain ⟨HB, HG⟩ := shB hg
 clear hg
 go_wp2_with (refine st3 HB rfl _ _ rfl rfl rfl ?_)
 exact sE Try.results69 HB HG rfl rfl (by omega)
theorem operator_9 (n : Int) (h0 : 139 ≤ n) (h1 : n ≤ 166) (w : World) : Calls Try.prog 69 #[.int .i64 n] w (RES 0 0 ⟨#[]⟩ w) := by
 go_enter Try.func69, Try.ntmps69
 go_wp2_with (go_at_call 56; first | refine wY ?_ | refine wN ?_)
 exact bodyPost_ret (v := .agg (shp _ _ _)) (by simp [results, Try.results69, go_sem, shp] <;> rfl) rfl ⟨rfl, (Gr.refl _).alloc _ _⟩
theorem operator_10 (w : World) : Calls Try.prog 69 #[.int .i64 167] w (RES 1 0 ⟨#[108, 58, 105]⟩ w) := by
 go_enter Try.func69, Try.ntmps69
 go_wp2_with (go_at_call 56; first | refine wY ?_ | refine wN ?_)
 refine (plain_any _ _).mono ?_
 rintro e w1 ⟨rfl, hg⟩
 obtain ⟨HB, HG⟩ := shB hg
 clear hg
 go_wp2_with (refine st3 HB rfl _ _ rfl rfl rfl ?_)
 exact sE Try.results69 HB HG rfl rfl (by omega)
theorem operator_11 (n : Int) (h0 : 168 ≤ n) (h1 : n ≤ 171) (w : World) : Calls Try.prog 69 #[.int .i64 n] w (RES 0 0 ⟨#[]⟩ w) := by
 go_enter Try.func69, Try.ntmps69
 go_wp2_with (go_at_call 56; first | refine wY ?_ | refine wN ?_)
 exact bodyPost_ret (v := .agg (shp _ _ _)) (by simp [results, Try.results69, go_sem, shp] <;> rfl) rfl ⟨rfl, (Gr.refl _).alloc _ _⟩
theorem operator_12 (n : Int) (h0 : 172 ≤ n) (h1 : n ≤ 173) (w : World) : Calls Try.prog 69 #[.int .i64 n] w (RES 1 0 ⟨#[105, 58, 108]⟩ w) := by
 go_enter Try.func69, Try.ntmps69
 go_wp2_with (go_at_call 56; first | refine wY ?_ | refine wN ?_)
 refine (plain_any _ _).mono ?_
 rintro e w1 ⟨rfl, hg⟩
 obtain ⟨HB, HG⟩ := shB hg
 clear hg
 go_wp2_with (refine st3 HB rfl _ _ rfl rfl rfl ?_)
 exact sE Try.results69 HB HG rfl rfl (by omega)
theorem operator_13 (n : Int) (h0 : 174 ≤ n) (h1 : n ≤ 191) (w : World) : Calls Try.prog 69 #[.int .i64 n] w (RES 0 0 ⟨#[]⟩ w) := by
 go_enter Try.func69, Try.ntmps69
 go_wp2_with (go_at_call 56; first | refine wY ?_ | refine wN ?_)
 exact bodyPost_ret (v := .agg (shp _ _ _)) (by simp [results, Try.results69, go_sem, shp] <;> rfl) rfl ⟨rfl, (Gr.refl _).alloc _ _⟩
theorem operator_14 (n : Int) (h0 : 192 ≤ n) (h1 : n ≤ 193) (w : World) : Calls Try.prog 69 #[.int .i64 n] w (RES 1 0 ⟨#[105, 58, 105]⟩ w) := by
 go_enter Try.func69, Try.ntmps69
 go_wp2_with (go_at_call 56; first | refine wY ?_ | refine wN ?_)
 refine (plain_any _ _).mono ?_
 rintro e w1 ⟨rfl, hg⟩
 obtain ⟨HB, HG⟩ := shB hg
 clear hg
 go_wp2_with (refine st3 HB rfl _ _ rfl rfl rfl ?_)
 exact sE Try.results69 HB HG rfl rfl (by omega)
theorem operator_15 (n : Int) (h0 : 194 ≤ n) (h1 : n ≤ 196) (w : World) : Calls Try.prog 69 #[.int .i64 n] w (RES 1 0 ⟨#[108, 58, 108]⟩ w) := by
 go_enter Try.func69, Try.ntmps69
 go_wp2_with (go_at_call 56; first | refine wY ?_ | refine wN ?_)
 refine (plain_any _ _).mono ?_
 rintro e w1 ⟨rfl, hg⟩
 obtain ⟨HB, HG⟩ := shB hg
 clear hg
 go_wp2_with (refine st3 HB rfl _ _ rfl rfl rfl ?_)
 exact sE Try.results69 HB HG rfl rfl (by omega)
theorem operator_16 (n : Int) (h0 : 197 ≤ n) (w : World) : Calls Try.prog 69 #[.int .i64 n] w (RES 0 0 ⟨#[]⟩ w) := by
 go_enter Try.func69, Try.ntmps69
 go_wp2_with (go_at_call 56; first | refine wY ?_ | refine wN ?_)
 exact bodyPost_ret (v := .agg (shp _ _ _)) (by simp [results, Try.results69, go_sem, shp] <;> rfl) rfl ⟨rfl, (Gr.refl _).alloc _ _⟩
theorem control_0 (n : Int) (h1 : n ≤ -1) (w : World) : Calls Try.prog 70 #[.int .i64 n] w (RES 0 0 ⟨#[]⟩ w) := by
 go_enter Try.func70, Try.ntmps70
 go_wp2_with (go_at_call 56; first | refine wY ?_ | refine wN ?_)
 exact bodyPost_ret (v := .agg (shp _ _ _)) (by simp [results, Try.results70, go_sem, shp] <;> rfl) rfl ⟨rfl, (Gr.refl _).alloc _ _⟩
theorem control_1 (w : World) : Calls Try.prog 70 #[.int .i64 0] w (RES 1 0 ⟨#[]⟩ w) := by
 go_enter Try.func70, Try.ntmps70
 go_wp2_with (go_at_call 56; first | refine wY ?_ | refine wN ?_)
 refine (plain_any _ _).mono ?_
 rintro e w1 ⟨rfl, hg⟩
 obtain ⟨HB, HG⟩ := shB hg
 clear hg
 go_wp2_with (refine st3 HB rfl _ _ rfl rfl rfl ?_)
 exact sE Try.results70 HB HG rfl rfl (by omega)
theorem control_2 (w : World) : Calls Try.prog 70 #[.int .i64 1] w (RES 1 0 ⟨#[58]⟩ w) := by
 go_enter Try.func70, Try.ntmps70
 go_wp2_with (go_at_call 56; first | refine wY ?_ | refine wN ?_)
 refine (plain_any _ _).mono ?_
 rintro e w1 ⟨rfl, hg⟩
 obtain ⟨HB, HG⟩ := shB hg
 clear hg
 go_wp2_with (refine st3 HB rfl _ _ rfl rfl rfl ?_)
 exact sE Try.results70 HB HG rfl rfl (by omega)
theorem control_3 (w : World) : Calls Try.prog 70 #[.int .i64 2] w (RES 2 0 ⟨#[]⟩ w) := by
 go_enter Try.func70, Try.ntmps70
 go_wp2_with (go_at_call 56; first | refine wY ?_ | refine wN ?_)
 exact bodyPost_ret (v := .agg (shp _ _ _)) (by simp [results, Try.results70, go_sem, shp] <;> rfl) rfl ⟨rfl, (Gr.refl _).alloc _ _⟩
theorem control_4 (w : World) : Calls Try.prog 70 #[.int .i64 3] w (RES 2 0 ⟨#[]⟩ w) := by
 go_enter Try.func70, Try.ntmps70
 go_wp2_with (go_at_call 56; first | refine wY ?_ | refine wN ?_)
 exact bodyPost_ret (v := .agg (shp _ _ _)) (by simp [results, Try.results70, go_sem, shp] <;> rfl) rfl ⟨rfl, (Gr.refl _).alloc _ _⟩
theorem control_5 (w : World) : Calls Try.prog 70 #[.int .i64 4] w (RES 2 0 ⟨#[]⟩ w) := by
 go_enter Try.func70, Try.ntmps70
 go_wp2_with (go_at_call 56; first | refine wY ?_ | refine wN ?_)
 exact bodyPost_ret (v := .agg (shp _ _ _)) (by simp [results, Try.results70, go_sem, shp] <;> rfl) rfl ⟨rfl, (Gr.refl _).alloc _ _⟩
theorem control_6 (w : World) : Calls Try.prog 70 #[.int .i64 5] w (RES 1 0 ⟨#[]⟩ w) := by
 go_enter Try.func70, Try.ntmps70
 go_wp2_with (go_at_call 56; first | refine wY ?_ | refine wN ?_)
 refine (plain_any _ _).mono ?_
 rintro e w1 ⟨rfl, hg⟩
 obtain ⟨HB, HG⟩ := shB hg
 clear hg
 go_wp2_with (refine st3 HB rfl _ _ rfl rfl rfl ?_)
 exact sE Try.results70 HB HG rfl rfl (by omega)
theorem control_7 (n : Int) (h0 : 6 ≤ n) (h1 : n ≤ 10) (w : World) : Calls Try.prog 70 #[.int .i64 n] w (RES 0 0 ⟨#[]⟩ w) := by
 go_enter Try.func70, Try.ntmps70
 go_wp2_with (go_at_call 56; first | refine wY ?_ | refine wN ?_)
 exact bodyPost_ret (v := .agg (shp _ _ _)) (by simp [results, Try.results70, go_sem, shp] <;> rfl) rfl ⟨rfl, (Gr.refl _).alloc _ _⟩
theorem control_8 (w : World) : Calls Try.prog 70 #[.int .i64 11] w (RES 1 0 ⟨#[]⟩ w) := by
 go_enter Try.func70, Try.ntmps70
 go_wp2_with (go_at_call 56; first | refine wY ?_ | refine wN ?_)
 refine (plain_any _ _).mono ?_
 rintro e w1 ⟨rfl, hg⟩
 obtain ⟨HB, HG⟩ := shB hg
 clear hg
 go_wp2_with (refine st3 HB rfl _ _ rfl rfl rfl ?_)
 exact sE Try.results70 HB HG rfl rfl (by omega)
theorem control_9 (w : World) : Calls Try.prog 70 #[.int .i64 12] w (RES 3 0 ⟨#[]⟩ w) := by
 go_enter Try.func70, Try.ntmps70
 go_wp2_with (go_at_call 56; first | refine wY ?_ | refine wN ?_)
 exact bodyPost_ret (v := .agg (shp _ _ _)) (by simp [results, Try.results70, go_sem, shp] <;> rfl) rfl ⟨rfl, (Gr.refl _).alloc _ _⟩
theorem control_10 (w : World) : Calls Try.prog 70 #[.int .i64 13] w (RES 3 0 ⟨#[]⟩ w) := by
 go_enter Try.func70, Try.ntmps70
 go_wp2_with (go_at_call 56; first | refine wY ?_ | refine wN ?_)
 exact bodyPost_ret (v := .agg (shp _ _ _)) (by simp [results, Try.results70, go_sem, shp] <;> rfl) rfl ⟨rfl, (Gr.refl _).alloc _ _⟩
theorem control_11 (w : World) : Calls Try.prog 70 #[.int .i64 14] w (RES 4 0 ⟨#[]⟩ w) := by
 go_enter Try.func70, Try.ntmps70
 go_wp2_with (go_at_call 56; first | refine wY ?_ | refine wN ?_)
 exact bodyPost_ret (v := .agg (shp _ _ _)) (by simp [results, Try.results70, go_sem, shp] <;> rfl) rfl ⟨rfl, (Gr.refl _).alloc _ _⟩
theorem control_12 (w : World) : Calls Try.prog 70 #[.int .i64 15] w (RES 1 0 ⟨#[]⟩ w) := by
 go_enter Try.func70, Try.ntmps70
 go_wp2_with (go_at_call 56; first | refine wY ?_ | refine wN ?_)
 refine (plain_any _ _).mono ?_
 rintro e w1 ⟨rfl, hg⟩
 obtain ⟨HB, HG⟩ := shB hg
 clear hg
 go_wp2_with (refine st3 HB rfl _ _ rfl rfl rfl ?_)
 exact sE Try.results70 HB HG rfl rfl (by omega)
theorem control_13 (w : World) : Calls Try.prog 70 #[.int .i64 16] w (RES 5 0 ⟨#[]⟩ w) := by
 go_enter Try.func70, Try.ntmps70
 go_wp2_with (go_at_call 56; first | refine wY ?_ | refine wN ?_)
 exact bodyPost_ret (v := .agg (shp _ _ _)) (by simp [results, Try.results70, go_sem, shp] <;> rfl) rfl ⟨rfl, (Gr.refl _).alloc _ _⟩
theorem control_14 (w : World) : Calls Try.prog 70 #[.int .i64 17] w (RES 6 0 ⟨#[]⟩ w) := by
 go_enter Try.func70, Try.ntmps70
 go_wp2_with (go_at_call 56; first | refine wY ?_ | refine wN ?_)
 exact bodyPost_ret (v := .agg (shp _ _ _)) (by simp [results, Try.results70, go_sem, shp] <;> rfl) rfl ⟨rfl, (Gr.refl _).alloc _ _⟩
theorem control_15 (n : Int) (h0 : 18 ≤ n) (h1 : n ≤ 25) (w : World) : Calls Try.prog 70 #[.int .i64 n] w (RES 0 0 ⟨#[]⟩ w) := by
 go_enter Try.func70, Try.ntmps70
 go_wp2_with (go_at_call 56; first | refine wY ?_ | refine wN ?_)
 exact bodyPost_ret (v := .agg (shp _ _ _)) (by simp [results, Try.results70, go_sem, shp] <;> rfl) rfl ⟨rfl, (Gr.refl _).alloc _ _⟩
theorem control_16 (w : World) : Calls Try.prog 70 #[.int .i64 26] w (RES 1 0 ⟨#[]⟩ w) := by
 go_enter Try.func70, Try.ntmps70
 go_wp2_with (go_at_call 56; first | refine wY ?_ | refine wN ?_)
 refine (plain_any _ _).mono ?_
 rintro e w1 ⟨rfl, hg⟩
 obtain ⟨HB, HG⟩ := shB hg
 clear hg
 go_wp2_with (refine st3 HB rfl _ _ rfl rfl rfl ?_)
 exact sE Try.results70 HB HG rfl rfl (by omega)
theorem control_17 (w : World) : Calls Try.prog 70 #[.int .i64 27] w (RES 1 0 ⟨#[]⟩ w) := by
 go_enter Try.func70, Try.ntmps70
 go_wp2_with (go_at_call 56; first | refine wY ?_ | refine wN ?_)
 refine (plain_any _ _).mono ?_
 rintro e w1 ⟨rfl, hg⟩
 obtain ⟨HB, HG⟩ := shB hg
 clear hg
 go_wp2_with (refine st3 HB rfl _ _ rfl rfl rfl ?_)
 exact sE Try.results70 HB HG rfl rfl (by omega)
theorem control_18 (n : Int) (h0 : 28 ≤ n) (h1 : n ≤ 31) (w : World) : Calls Try.prog 70 #[.int .i64 n] w (RES 0 0 ⟨#[]⟩ w) := by
 go_enter Try.func70, Try.ntmps70
 go_wp2_with (go_at_call 56; first | refine wY ?_ | refine wN ?_)
 exact bodyPost_ret (v := .agg (shp _ _ _)) (by simp [results, Try.results70, go_sem, shp] <;> rfl) rfl ⟨rfl, (Gr.refl _).alloc _ _⟩
theorem control_19 (w : World) : Calls Try.prog 70 #[.int .i64 32] w (RES 5 0 ⟨#[]⟩ w) := by
 go_enter Try.func70, Try.ntmps70
 go_wp2_with (go_at_call 56; first | refine wY ?_ | refine wN ?_)
 exact bodyPost_ret (v := .agg (shp _ _ _)) (by simp [results, Try.results70, go_sem, shp] <;> rfl) rfl ⟨rfl, (Gr.refl _).alloc _ _⟩
theorem control_20 (w : World) : Calls Try.prog 70 #[.int .i64 33] w (RES 5 0 ⟨#[]⟩ w) := by
 go_enter Try.func70, Try.ntmps70
 go_wp2_with (go_at_call 56; first | refine wY ?_ | refine wN ?_)
 exact bodyPost_ret (v := .agg (shp _ _ _)) (by simp [results, Try.results70, go_sem, shp] <;> rfl) rfl ⟨rfl, (Gr.refl _).alloc _ _⟩
theorem control_21 (w : World) : Calls Try.prog 70 #[.int .i64 34] w (RES 5 0 ⟨#[]⟩ w) := by
 go_enter Try.func70, Try.ntmps70
 go_wp2_with (go_at_call 56; first | refine wY ?_ | refine wN ?_)
 exact bodyPost_ret (v := .agg (shp _ _ _)) (by simp [results, Try.results70, go_sem, shp] <;> rfl) rfl ⟨rfl, (Gr.refl _).alloc _ _⟩
theorem control_22 (w : World) : Calls Try.prog 70 #[.int .i64 35] w (RES 5 0 ⟨#[]⟩ w) := by
 go_enter Try.func70, Try.ntmps70
 go_wp2_with (go_at_call 56; first | refine wY ?_ | refine wN ?_)
 exact bodyPost_ret (v := .agg (shp _ _ _)) (by simp [results, Try.results70, go_sem, shp] <;> rfl) rfl ⟨rfl, (Gr.refl _).alloc _ _⟩
theorem control_23 (w : World) : Calls Try.prog 70 #[.int .i64 36] w (RES 5 0 ⟨#[]⟩ w) := by
 go_enter Try.func70, Try.ntmps70
 go_wp2_with (go_at_call 56; first | refine wY ?_ | refine wN ?_)
 exact bodyPost_ret (v := .agg (shp _ _ _)) (by simp [results, Try.results70, go_sem, shp] <;> rfl) rfl ⟨rfl, (Gr.refl _).alloc _ _⟩
theorem control_24 (n : Int) (h0 : 37 ≤ n) (h1 : n ≤ 39) (w : World) : Calls Try.prog 70 #[.int .i64 n] w (RES 0 0 ⟨#[]⟩ w) := by
 go_enter Try.func70, Try.ntmps70
 go_wp2_with (go_at_call 56; first | refine wY ?_ | refine wN ?_)
 exact bodyPost_ret (v := .agg (shp _ _ _)) (by simp [results, Try.results70, go_sem, shp] <;> rfl) rfl ⟨rfl, (Gr.refl _).alloc _ _⟩
theorem control_25 (n : Int) (h0 : 67 ≤ n) (h1 : n ≤ 68) (w : World) : Calls Try.prog 70 #[.int .i64 n] w (RES 0 0 ⟨#[]⟩ w) := by
 go_enter Try.func70, Try.ntmps70
 go_wp2_with (go_at_call 56; first | refine wY ?_ | refine wN ?_)
 exact bodyPost_ret (v := .agg (shp _ _ _)) (by simp [results, Try.results70, go_sem, shp] <;> rfl) rfl ⟨rfl, (Gr.refl _).alloc _ _⟩
theorem va_0 (w : World) : Calls Try.prog 63 #[.int .i64 0] w (RES 7 4 ⟨#[105, 58, 118]⟩ w) := by
 go_enter Try.func63, Try.ntmps63
 go_wp2_with (go_at_call 56; first | refine wY ?_ | refine wN ?_)
 refine (memory_any _ _ _).mono ?_
 rintro e w1 ⟨rfl, hg⟩
 obtain ⟨HB, HG⟩ := shB hg
 clear hg
 go_wp2_with (refine st3 HB rfl _ _ rfl rfl rfl ?_)
 exact sE Try.results63 HB HG rfl rfl (by omega)
theorem va_1 (n : Int) (h0 : 1 ≤ n) (h1 : n ≤ 6) (w : World) : Calls Try.prog 63 #[.int .i64 n] w (RES 7 3 ⟨#[105, 58, 118]⟩ w) := by
 go_enter Try.func63, Try.ntmps63
 go_wp2_with (go_at_call 56; first | refine wY ?_ | refine wN ?_)
 refine (memory_any _ _ _).mono ?_
 rintro e w1 ⟨rfl, hg⟩
 obtain ⟨HB, HG⟩ := shB hg
 clear hg
 go_wp2_with (refine st3 HB rfl _ _ rfl rfl rfl ?_)
 exact sE Try.results63 HB HG rfl rfl (by omega)
theorem va_2 (w : World) : Calls Try.prog 63 #[.int .i64 7] w (RES 7 0 ⟨#[105, 58, 118]⟩ w) := by
 go_enter Try.func63, Try.ntmps63
 go_wp2_with (go_at_call 56; first | refine wY ?_ | refine wN ?_)
 refine (memory_any _ _ _).mono ?_
 rintro e w1 ⟨rfl, hg⟩
 obtain ⟨HB, HG⟩ := shB hg
 clear hg
 go_wp2_with (refine st3 HB rfl _ _ rfl rfl rfl ?_)
 exact sE Try.results63 HB HG rfl rfl (by omega)
theorem va_3 (w : World) : Calls Try.prog 63 #[.int .i64 8] w (RES 7 1 ⟨#[105, 58, 118]⟩ w) := by
 go_enter Try.func63, Try.ntmps63
 go_wp2_with (go_at_call 56; first | refine wY ?_ | refine wN ?_)
 refine (memory_any _ _ _).mono ?_
 rintro e w1 ⟨rfl, hg⟩
 obtain ⟨HB, HG⟩ := shB hg
 clear hg
 go_wp2_with (refine st3 HB rfl _ _ rfl rfl rfl ?_)
 exact sE Try.results63 HB HG rfl rfl (by omega)
theorem va_4 (w : World) : Calls Try.prog 63 #[.int .i64 9] w (RES 7 2 ⟨#[105, 58, 118]⟩ w) := by
 go_enter Try.func63, Try.ntmps63
 go_wp2_with (go_at_call 56; first | refine wY ?_ | refine wN ?_)
 refine (memory_any _ _ _).mono ?_
 rintro e w1 ⟨rfl, hg⟩
 obtain ⟨HB, HG⟩ := shB hg
 clear hg
 go_wp2_with (refine st3 HB rfl _ _ rfl rfl rfl ?_)
 exact sE Try.results63 HB HG rfl rfl (by omega)
theorem va_5 (w : World) : Calls Try.prog 63 #[.int .i64 10] w (RES 7 3 ⟨#[105, 58, 118]⟩ w) := by
 go_enter Try.func63, Try.ntmps63
 go_wp2_with (go_at_call 56; first | refine wY ?_ | refine wN ?_)
 refine (memory_any _ _ _).mono ?_
 rintro e w1 ⟨rfl, hg⟩
 obtain ⟨HB, HG⟩ := shB hg
 clear hg
 go_wp2_with (refine st3 HB rfl _ _ rfl rfl rfl ?_)
 exact sE Try.results63 HB HG rfl rfl (by omega)
theorem va_6 (w : World) : Calls Try.prog 63 #[.int .i64 11] w (RES 7 4 ⟨#[105, 118, 58]⟩ w) := by
 go_enter Try.func63, Try.ntmps63
 go_wp2_with (go_at_call 56; first | refine wY ?_ | refine wN ?_)
 refine (memory_any _ _ _).mono ?_
 rintro e w1 ⟨rfl, hg⟩
 obtain ⟨HB, HG⟩ := shB hg
 clear hg
 go_wp2_with (refine st3 HB rfl _ _ rfl rfl rfl ?_)
 exact sE Try.results63 HB HG rfl rfl (by omega)
theorem va_7 (w : World) : Calls Try.prog 63 #[.int .i64 84] w (RES 8 0 ⟨#[105, 118, 58, 118]⟩ w) := by
 go_enter Try.func63, Try.ntmps63
 go_wp2_with (go_at_call 56; first | refine wY ?_ | refine wN ?_)
 exact bodyPost_ret (v := .agg (shp _ _ _)) (by simp [results, Try.results63, go_sem, shp] <;> rfl) rfl ⟨rfl, (Gr.refl _).alloc _ _⟩
theorem va_8 (w : World) : Calls Try.prog 63 #[.int .i64 85] w (RES 8 1 ⟨#[105, 118, 58, 118]⟩ w) := by
 go_enter Try.func63, Try.ntmps63
 go_wp2_with (go_at_call 56; first | refine wY ?_ | refine wN ?_)
 exact bodyPost_ret (v := .agg (shp _ _ _)) (by simp [results, Try.results63, go_sem, shp] <;> rfl) rfl ⟨rfl, (Gr.refl _).alloc _ _⟩
theorem va_9 (w : World) : Calls Try.prog 63 #[.int .i64 86] w (RES 8 2 ⟨#[105, 118, 58, 118]⟩ w) := by
 go_enter Try.func63, Try.ntmps63
 go_wp2_with (go_at_call 56; first | refine wY ?_ | refine wN ?_)
 exact bodyPost_ret (v := .agg (shp _ _ _)) (by simp [results, Try.results63, go_sem, shp] <;> rfl) rfl ⟨rfl, (Gr.refl _).alloc _ _⟩
theorem va_10 (w : World) : Calls Try.prog 63 #[.int .i64 87] w (RES 8 3 ⟨#[105, 118, 58, 118]⟩ w) := by
 go_enter Try.func63, Try.ntmps63
 go_wp2_with (go_at_call 56; first | refine wY ?_ | refine wN ?_)
 exact bodyPost_ret (v := .agg (shp _ _ _)) (by simp [results, Try.results63, go_sem, shp] <;> rfl) rfl ⟨rfl, (Gr.refl _).alloc _ _⟩
theorem va_11 (w : World) : Calls Try.prog 63 #[.int .i64 88] w (RES 8 0 ⟨#[105, 118, 58]⟩ w) := by
 go_enter Try.func63, Try.ntmps63
 go_wp2_with (go_at_call 56; first | refine wY ?_ | refine wN ?_)
 exact bodyPost_ret (v := .agg (shp _ _ _)) (by simp [results, Try.results63, go_sem, shp] <;> rfl) rfl ⟨rfl, (Gr.refl _).alloc _ _⟩
theorem va_12 (w : World) : Calls Try.prog 63 #[.int .i64 89] w (RES 8 1 ⟨#[105, 118, 58]⟩ w) := by
 go_enter Try.func63, Try.ntmps63
 go_wp2_with (go_at_call 56; first | refine wY ?_ | refine wN ?_)
 exact bodyPost_ret (v := .agg (shp _ _ _)) (by simp [results, Try.results63, go_sem, shp] <;> rfl) rfl ⟨rfl, (Gr.refl _).alloc _ _⟩
theorem va_13 (w : World) : Calls Try.prog 63 #[.int .i64 90] w (RES 8 2 ⟨#[105, 118, 58]⟩ w) := by
 go_enter Try.func63, Try.ntmps63
 go_wp2_with (go_at_call 56; first | refine wY ?_ | refine wN ?_)
 exact bodyPost_ret (v := .agg (shp _ _ _)) (by simp [results, Try.results63, go_sem, shp] <;> rfl) rfl ⟨rfl, (Gr.refl _).alloc _ _⟩
theorem va_14 (w : World) : Calls Try.prog 63 #[.int .i64 91] w (RES 8 3 ⟨#[105, 118, 58]⟩ w) := by
 go_enter Try.func63, Try.ntmps63
 go_wp2_with (go_at_call 56; first | refine wY ?_ | refine wN ?_)
 exact bodyPost_ret (v := .agg (shp _ _ _)) (by simp [results, Try.results63, go_sem, shp] <;> rfl) rfl ⟨rfl, (Gr.refl _).alloc _ _⟩
theorem va_15 (w : World) : Calls Try.prog 63 #[.int .i64 92] w (RES 7 2 ⟨#[105, 58, 118]⟩ w) := by
 go_enter Try.func63, Try.ntmps63
 go_wp2_with (go_at_call 56; first | refine wY ?_ | refine wN ?_)
 refine (memory_any _ _ _).mono ?_
 rintro e w1 ⟨rfl, hg⟩
 obtain ⟨HB, HG⟩ := shB hg
 clear hg
 go_wp2_with (refine st3 HB rfl _ _ rfl rfl rfl ?_)
 exact sE Try.results63 HB HG rfl rfl (by omega)
theorem va_16 (w : World) : Calls Try.prog 63 #[.int .i64 93] w (RES 7 3 ⟨#[105, 58, 118]⟩ w) := by
 go_enter Try.func63, Try.ntmps63
 go_wp2_with (go_at_call 56; first | refine wY ?_ | refine wN ?_)
 refine (memory_any _ _ _).mono ?_
 rintro e w1 ⟨rfl, hg⟩
 obtain ⟨HB, HG⟩ := shB hg
 clear hg
 go_wp2_with (refine st3 HB rfl _ _ rfl rfl rfl ?_)
 exact sE Try.results63 HB HG rfl rfl (by omega)
theorem vm_0 (w : World) : Calls Try.prog 64 #[.int .i64 12] w (RES 11 0 ⟨#[58, 118]⟩ w) := by
 go_enter Try.func64, Try.ntmps64
 go_wp2_with (go_at_call 56; first | refine wY ?_ | refine wN ?_)
 exact bodyPost_ret (v := .agg (shp _ _ _)) (by simp [results, Try.results64, go_sem, shp] <;> rfl) rfl ⟨rfl, (Gr.refl _).alloc _ _⟩
theorem vm_1 (w : World) : Calls Try.prog 64 #[.int .i64 13] w (RES 12 0 ⟨#[118, 118, 58, 118]⟩ w) := by
 go_enter Try.func64, Try.ntmps64
 go_wp2_with (go_at_call 56; first | refine wY ?_ | refine wN ?_)
 exact bodyPost_ret (v := .agg (shp _ _ _)) (by simp [results, Try.results64, go_sem, shp] <;> rfl) rfl ⟨rfl, (Gr.refl _).alloc _ _⟩
theorem vm_2 (w : World) : Calls Try.prog 64 #[.int .i64 14] w (RES 1 0 ⟨#[118, 118, 58, 118]⟩ w) := by
 go_enter Try.func64, Try.ntmps64
 go_wp2_with (go_at_call 56; first | refine wY ?_ | refine wN ?_)
 refine (plain_any _ _).mono ?_
 rintro e w1 ⟨rfl, hg⟩
 obtain ⟨HB, HG⟩ := shB hg
 clear hg
 go_wp2_with (refine st3 HB rfl _ _ rfl rfl rfl ?_)
 exact sE Try.results64 HB HG rfl rfl (by omega)
theorem vm_3 (w : World) : Calls Try.prog 64 #[.int .i64 15] w (RES 1 0 ⟨#[105, 58, 118]⟩ w) := by
 go_enter Try.func64, Try.ntmps64
 go_wp2_with (go_at_call 56; first | refine wY ?_ | refine wN ?_)
 refine (plain_any _ _).mono ?_
 rintro e w1 ⟨rfl, hg⟩
 obtain ⟨HB, HG⟩ := shB hg
 clear hg
 go_wp2_with (refine st3 HB rfl _ _ rfl rfl rfl ?_)
 exact sE Try.results64 HB HG rfl rfl (by omega)
theorem vm_4 (w : World) : Calls Try.prog 64 #[.int .i64 16] w (RES 1 0 ⟨#[105, 58, 118]⟩ w) := by
 go_enter Try.func64, Try.ntmps64
 go_wp2_with (go_at_call 56; first | refine wY ?_ | refine wN ?_)
 refine (plain_any _ _).mono ?_
 rintro e w1 ⟨rfl, hg⟩
 obtain ⟨HB, HG⟩ := shB hg
 clear hg
 go_wp2_with (refine st3 HB rfl _ _ rfl rfl rfl ?_)
 exact sE Try.results64 HB HG rfl rfl (by omega)
theorem vm_5 (w : World) : Calls Try.prog 64 #[.int .i64 17] w (RES 1 0 ⟨#[105, 58, 118]⟩ w) := by
 go_enter Try.func64, Try.ntmps64
 go_wp2_with (go_at_call 56; first | refine wY ?_ | refine wN ?_)
 refine (plain_any _ _).mono ?_
 rintro e w1 ⟨rfl, hg⟩
 obtain ⟨HB, HG⟩ := shB hg
 clear hg
 go_wp2_with (refine st3 HB rfl _ _ rfl rfl rfl ?_)
 exact sE Try.results64 HB HG rfl rfl (by omega)
theorem vm_6 (w : World) : Calls Try.prog 64 #[.int .i64 18] w (RES 1 0 ⟨#[108, 58, 118]⟩ w) := by
 go_enter Try.func64, Try.ntmps64
 go_wp2_with (go_at_call 56; first | refine wY ?_ | refine wN ?_)
 refine (plain_any _ _).mono ?_
 rintro e w1 ⟨rfl, hg⟩
 obtain ⟨HB, HG⟩ := shB hg
 clear hg
 go_wp2_with (refine st3 HB rfl _ _ rfl rfl rfl ?_)
 exact sE Try.results64 HB HG rfl rfl (by omega)
theorem vm_7 (n : Int) (h0 : 19 ≤ n) (h1 : n ≤ 20) (w : World) : Calls Try.prog 64 #[.int .i64 n] w (RES 0 0 ⟨#[]⟩ w) := by
 go_enter Try.func64, Try.ntmps64
 go_wp2_with (go_at_call 56; first | refine wY ?_ | refine wN ?_)
 exact bodyPost_ret (v := .agg (shp _ _ _)) (by simp [results, Try.results64, go_sem, shp] <;> rfl) rfl ⟨rfl, (Gr.refl _).alloc _ _⟩
theorem vm_8 (w : World) : Calls Try.prog 64 #[.int .i64 21] w (RES 13 16 ⟨#[118, 58, 105]⟩ w) := by
 go_enter Try.func64, Try.ntmps64
 go_wp2_with (go_at_call 56; first | refine wY ?_ | refine wN ?_)
 refine (lane_any _ _ _).mono ?_
 rintro e w1 ⟨rfl, hg⟩
 obtain ⟨HB, HG⟩ := shB hg
 clear hg
 go_wp2_with (refine st3 HB rfl _ _ rfl rfl rfl ?_)
 exact sE Try.results64 HB HG rfl rfl (by omega)
theorem vm_9 (w : World) : Calls Try.prog 64 #[.int .i64 22] w (RES 13 16 ⟨#[118, 58, 105]⟩ w) := by
 go_enter Try.func64, Try.ntmps64
 go_wp2_with (go_at_call 56; first | refine wY ?_ | refine wN ?_)
 refine (lane_any _ _ _).mono ?_
 rintro e w1 ⟨rfl, hg⟩
 obtain ⟨HB, HG⟩ := shB hg
 clear hg
 go_wp2_with (refine st3 HB rfl _ _ rfl rfl rfl ?_)
 exact sE Try.results64 HB HG rfl rfl (by omega)
theorem vm_10 (w : World) : Calls Try.prog 64 #[.int .i64 23] w (RES 13 16 ⟨#[118, 105, 58, 118]⟩ w) := by
 go_enter Try.func64, Try.ntmps64
 go_wp2_with (go_at_call 56; first | refine wY ?_ | refine wN ?_)
 refine (lane_any _ _ _).mono ?_
 rintro e w1 ⟨rfl, hg⟩
 obtain ⟨HB, HG⟩ := shB hg
 clear hg
 go_wp2_with (refine st3 HB rfl _ _ rfl rfl rfl ?_)
 exact sE Try.results64 HB HG rfl rfl (by omega)
theorem vm_11 (w : World) : Calls Try.prog 64 #[.int .i64 24] w (RES 13 8 ⟨#[118, 58, 105]⟩ w) := by
 go_enter Try.func64, Try.ntmps64
 go_wp2_with (go_at_call 56; first | refine wY ?_ | refine wN ?_)
 refine (lane_any _ _ _).mono ?_
 rintro e w1 ⟨rfl, hg⟩
 obtain ⟨HB, HG⟩ := shB hg
 clear hg
 go_wp2_with (refine st3 HB rfl _ _ rfl rfl rfl ?_)
 exact sE Try.results64 HB HG rfl rfl (by omega)
theorem vm_12 (w : World) : Calls Try.prog 64 #[.int .i64 25] w (RES 13 8 ⟨#[118, 58, 105]⟩ w) := by
 go_enter Try.func64, Try.ntmps64
 go_wp2_with (go_at_call 56; first | refine wY ?_ | refine wN ?_)
 refine (lane_any _ _ _).mono ?_
 rintro e w1 ⟨rfl, hg⟩
 obtain ⟨HB, HG⟩ := shB hg
 clear hg
 go_wp2_with (refine st3 HB rfl _ _ rfl rfl rfl ?_)
 exact sE Try.results64 HB HG rfl rfl (by omega)
theorem vm_13 (w : World) : Calls Try.prog 64 #[.int .i64 26] w (RES 13 8 ⟨#[118, 105, 58, 118]⟩ w) := by
 go_enter Try.func64, Try.ntmps64
 go_wp2_with (go_at_call 56; first | refine wY ?_ | refine wN ?_)
 refine (lane_any _ _ _).mono ?_
 rintro e w1 ⟨rfl, hg⟩
 obtain ⟨HB, HG⟩ := shB hg
 clear hg
 go_wp2_with (refine st3 HB rfl _ _ rfl rfl rfl ?_)
 exact sE Try.results64 HB HG rfl rfl (by omega)
theorem vm_14 (w : World) : Calls Try.prog 64 #[.int .i64 27] w (RES 13 4 ⟨#[118, 58, 105]⟩ w) := by
 go_enter Try.func64, Try.ntmps64
 go_wp2_with (go_at_call 56; first | refine wY ?_ | refine wN ?_)
 refine (lane_any _ _ _).mono ?_
 rintro e w1 ⟨rfl, hg⟩
 obtain ⟨HB, HG⟩ := shB hg
 clear hg
 go_wp2_with (refine st3 HB rfl _ _ rfl rfl rfl ?_)
 exact sE Try.results64 HB HG rfl rfl (by omega)
theorem vm_15 (w : World) : Calls Try.prog 64 #[.int .i64 28] w (RES 13 4 ⟨#[118, 105, 58, 118]⟩ w) := by
 go_enter Try.func64, Try.ntmps64
 go_wp2_with (go_at_call 56; first | refine wY ?_ | refine wN ?_)
 refine (lane_any _ _ _).mono ?_
 rintro e w1 ⟨rfl, hg⟩
 obtain ⟨HB, HG⟩ := shB hg
 clear hg
 go_wp2_with (refine st3 HB rfl _ _ rfl rfl rfl ?_)
 exact sE Try.results64 HB HG rfl rfl (by omega)
theorem vm_16 (w : World) : Calls Try.prog 64 #[.int .i64 29] w (RES 13 2 ⟨#[118, 58, 108]⟩ w) := by
 go_enter Try.func64, Try.ntmps64
 go_wp2_with (go_at_call 56; first | refine wY ?_ | refine wN ?_)
 refine (lane_any _ _ _).mono ?_
 rintro e w1 ⟨rfl, hg⟩
 obtain ⟨HB, HG⟩ := shB hg
 clear hg
 go_wp2_with (refine st3 HB rfl _ _ rfl rfl rfl ?_)
 exact sE Try.results64 HB HG rfl rfl (by omega)
theorem vm_17 (w : World) : Calls Try.prog 64 #[.int .i64 30] w (RES 13 2 ⟨#[118, 108, 58, 118]⟩ w) := by
 go_enter Try.func64, Try.ntmps64
 go_wp2_with (go_at_call 56; first | refine wY ?_ | refine wN ?_)
 refine (lane_any _ _ _).mono ?_
 rintro e w1 ⟨rfl, hg⟩
 obtain ⟨HB, HG⟩ := shB hg
 clear hg
 go_wp2_with (refine st3 HB rfl _ _ rfl rfl rfl ?_)
 exact sE Try.results64 HB HG rfl rfl (by omega)
theorem vm_18 (n : Int) (h0 : 31 ≤ n) (h1 : n ≤ 34) (w : World) : Calls Try.prog 64 #[.int .i64 n] w (RES 0 0 ⟨#[]⟩ w) := by
 go_enter Try.func64, Try.ntmps64
 go_wp2_with (go_at_call 56; first | refine wY ?_ | refine wN ?_)
 exact bodyPost_ret (v := .agg (shp _ _ _)) (by simp [results, Try.results64, go_sem, shp] <;> rfl) rfl ⟨rfl, (Gr.refl _).alloc _ _⟩
theorem vb_0 (n : Int) (h0 : 35 ≤ n) (h1 : n ≤ 64) (w : World) : Calls Try.prog 65 #[.int .i64 n] w (RES 1 0 ⟨#[118, 118, 58, 118]⟩ w) := by
 go_enter Try.func65, Try.ntmps65
 go_wp2_with (go_at_call 56; first | refine wY ?_ | refine wN ?_)
 refine (plain_any _ _).mono ?_
 rintro e w1 ⟨rfl, hg⟩
 obtain ⟨HB, HG⟩ := shB hg
 clear hg
 go_wp2_with (refine st3 HB rfl _ _ rfl rfl rfl ?_)
 exact sE Try.results65 HB HG rfl rfl (by omega)
theorem vb_1 (n : Int) (h0 : 65 ≤ n) (h1 : n ≤ 76) (w : World) : Calls Try.prog 65 #[.int .i64 n] w (RES 0 0 ⟨#[]⟩ w) := by
 go_enter Try.func65, Try.ntmps65
 go_wp2_with (go_at_call 56; first | refine wY ?_ | refine wN ?_)
 exact bodyPost_ret (v := .agg (shp _ _ _)) (by simp [results, Try.results65, go_sem, shp] <;> rfl) rfl ⟨rfl, (Gr.refl _).alloc _ _⟩
theorem vb_2 (w : World) : Calls Try.prog 65 #[.int .i64 77] w (RES 1 0 ⟨#[118, 58, 118]⟩ w) := by
 go_enter Try.func65, Try.ntmps65
 go_wp2_with (go_at_call 56; first | refine wY ?_ | refine wN ?_)
 refine (plain_any _ _).mono ?_
 rintro e w1 ⟨rfl, hg⟩
 obtain ⟨HB, HG⟩ := shB hg
 clear hg
 go_wp2_with (refine st3 HB rfl _ _ rfl rfl rfl ?_)
 exact sE Try.results65 HB HG rfl rfl (by omega)
theorem vb_3 (n : Int) (h0 : 78 ≤ n) (h1 : n ≤ 81) (w : World) : Calls Try.prog 65 #[.int .i64 n] w (RES 1 0 ⟨#[118, 118, 58, 118]⟩ w) := by
 go_enter Try.func65, Try.ntmps65
 go_wp2_with (go_at_call 56; first | refine wY ?_ | refine wN ?_)
 refine (plain_any _ _).mono ?_
 rintro e w1 ⟨rfl, hg⟩
 obtain ⟨HB, HG⟩ := shB hg
 clear hg
 go_wp2_with (refine st3 HB rfl _ _ rfl rfl rfl ?_)
 exact sE Try.results65 HB HG rfl rfl (by omega)
theorem vb_4 (w : World) : Calls Try.prog 65 #[.int .i64 82] w (RES 1 0 ⟨#[118, 118, 118, 58, 118]⟩ w) := by
 go_enter Try.func65, Try.ntmps65
 go_wp2_with (go_at_call 56; first | refine wY ?_ | refine wN ?_)
 refine (plain_any _ _).mono ?_
 rintro e w1 ⟨rfl, hg⟩
 obtain ⟨HB, HG⟩ := shB hg
 clear hg
 go_wp2_with (refine st3 HB rfl _ _ rfl rfl rfl ?_)
 exact sE Try.results65 HB HG rfl rfl (by omega)
theorem vb_5 (w : World) : Calls Try.prog 65 #[.int .i64 83] w (RES 1 0 ⟨#[118, 58, 105]⟩ w) := by
 go_enter Try.func65, Try.ntmps65
 go_wp2_with (go_at_call 56; first | refine wY ?_ | refine wN ?_)
 refine (plain_any _ _).mono ?_
 rintro e w1 ⟨rfl, hg⟩
 obtain ⟨HB, HG⟩ := shB hg
 clear hg
 go_wp2_with (refine st3 HB rfl _ _ rfl rfl rfl ?_)
 exact sE Try.results65 HB HG rfl rfl (by omega)
theorem vn_0 (n : Int) (h0 : 94 ≤ n) (h1 : n ≤ 95) (w : World) : Calls Try.prog 66 #[.int .i64 n] w (RES 0 0 ⟨#[]⟩ w) := by
 go_enter Try.func66, Try.ntmps66
 go_wp2_with (go_at_call 56; first | refine wY ?_ | refine wN ?_)
 exact bodyPost_ret (v := .agg (shp _ _ _)) (by simp [results, Try.results66, go_sem, shp] <;> rfl) rfl ⟨rfl, (Gr.refl _).alloc _ _⟩
theorem vn_1 (n : Int) (h0 : 96 ≤ n) (h1 : n ≤ 98) (w : World) : Calls Try.prog 66 #[.int .i64 n] w (RES 1 0 ⟨#[118, 58, 118]⟩ w) := by
 go_enter Try.func66, Try.ntmps66
 go_wp2_with (go_at_call 56; first | refine wY ?_ | refine wN ?_)
 refine (plain_any _ _).mono ?_
 rintro e w1 ⟨rfl, hg⟩
 obtain ⟨HB, HG⟩ := shB hg
 clear hg
 go_wp2_with (refine st3 HB rfl _ _ rfl rfl rfl ?_)
 exact sE Try.results66 HB HG rfl rfl (by omega)
theorem vn_2 (n : Int) (h0 : 99 ≤ n) (h1 : n ≤ 100) (w : World) : Calls Try.prog 66 #[.int .i64 n] w (RES 1 0 ⟨#[118, 58, 105]⟩ w) := by
 go_enter Try.func66, Try.ntmps66
 go_wp2_with (go_at_call 56; first | refine wY ?_ | refine wN ?_)
 refine (plain_any _ _).mono ?_
 rintro e w1 ⟨rfl, hg⟩
 obtain ⟨HB, HG⟩ := shB hg
 clear hg
 go_wp2_with (refine st3 HB rfl _ _ rfl rfl rfl ?_)
 exact sE Try.results66 HB HG rfl rfl (by omega)
theorem vn_3 (n : Int) (h0 : 101 ≤ n) (h1 : n ≤ 102) (w : World) : Calls Try.prog 66 #[.int .i64 n] w (RES 1 0 ⟨#[118, 118, 58, 118]⟩ w) := by
 go_enter Try.func66, Try.ntmps66
 go_wp2_with (go_at_call 56; first | refine wY ?_ | refine wN ?_)
 refine (plain_any _ _).mono ?_
 rintro e w1 ⟨rfl, hg⟩
 obtain ⟨HB, HG⟩ := shB hg
 clear hg
 go_wp2_with (refine st3 HB rfl _ _ rfl rfl rfl ?_)
 exact sE Try.results66 HB HG rfl rfl (by omega)
theorem vn_4 (n : Int) (h0 : 103 ≤ n) (h1 : n ≤ 106) (w : World) : Calls Try.prog 66 #[.int .i64 n] w (RES 0 0 ⟨#[]⟩ w) := by
 go_enter Try.func66, Try.ntmps66
 go_wp2_with (go_at_call 56; first | refine wY ?_ | refine wN ?_)
 exact bodyPost_ret (v := .agg (shp _ _ _)) (by simp [results, Try.results66, go_sem, shp] <;> rfl) rfl ⟨rfl, (Gr.refl _).alloc _ _⟩
theorem vn_5 (n : Int) (h0 : 107 ≤ n) (h1 : n ≤ 109) (w : World) : Calls Try.prog 66 #[.int .i64 n] w (RES 1 0 ⟨#[118, 105, 58, 118]⟩ w) := by
 go_enter Try.func66, Try.ntmps66
 go_wp2_with (go_at_call 56; first | refine wY ?_ | refine wN ?_)
 refine (plain_any _ _).mono ?_
 rintro e w1 ⟨rfl, hg⟩
 obtain ⟨HB, HG⟩ := shB hg
 clear hg
 go_wp2_with (refine st3 HB rfl _ _ rfl rfl rfl ?_)
 exact sE Try.results66 HB HG rfl rfl (by omega)
theorem vn_6 (n : Int) (h0 : 110 ≤ n) (h1 : n ≤ 115) (w : World) : Calls Try.prog 66 #[.int .i64 n] w (RES 1 0 ⟨#[118, 118, 58, 118]⟩ w) := by
 go_enter Try.func66, Try.ntmps66
 go_wp2_with (go_at_call 56; first | refine wY ?_ | refine wN ?_)
 refine (plain_any _ _).mono ?_
 rintro e w1 ⟨rfl, hg⟩
 obtain ⟨HB, HG⟩ := shB hg
 clear hg
 go_wp2_with (refine st3 HB rfl _ _ rfl rfl rfl ?_)
 exact sE Try.results66 HB HG rfl rfl (by omega)
theorem vn_7 (n : Int) (h0 : 116 ≤ n) (h1 : n ≤ 117) (w : World) : Calls Try.prog 66 #[.int .i64 n] w (RES 0 0 ⟨#[]⟩ w) := by
 go_enter Try.func66, Try.ntmps66
 go_wp2_with (go_at_call 56; first | refine wY ?_ | refine wN ?_)
 exact bodyPost_ret (v := .agg (shp _ _ _)) (by simp [results, Try.results66, go_sem, shp] <;> rfl) rfl ⟨rfl, (Gr.refl _).alloc _ _⟩
theorem vn_8 (n : Int) (h0 : 118 ≤ n) (h1 : n ≤ 121) (w : World) : Calls Try.prog 66 #[.int .i64 n] w (RES 1 0 ⟨#[118, 118, 58, 118]⟩ w) := by
 go_enter Try.func66, Try.ntmps66
 go_wp2_with (go_at_call 56; first | refine wY ?_ | refine wN ?_)
 refine (plain_any _ _).mono ?_
 rintro e w1 ⟨rfl, hg⟩
 obtain ⟨HB, HG⟩ := shB hg
 clear hg
 go_wp2_with (refine st3 HB rfl _ _ rfl rfl rfl ?_)
 exact sE Try.results66 HB HG rfl rfl (by omega)
theorem vn_9 (w : World) : Calls Try.prog 66 #[.int .i64 122] w (RES 0 0 ⟨#[]⟩ w) := by
 go_enter Try.func66, Try.ntmps66
 go_wp2_with (go_at_call 56; first | refine wY ?_ | refine wN ?_)
 exact bodyPost_ret (v := .agg (shp _ _ _)) (by simp [results, Try.results66, go_sem, shp] <;> rfl) rfl ⟨rfl, (Gr.refl _).alloc _ _⟩
theorem vn_10 (w : World) : Calls Try.prog 66 #[.int .i64 123] w (RES 1 0 ⟨#[118, 118, 58, 118]⟩ w) := by
 go_enter Try.func66, Try.ntmps66
 go_wp2_with (go_at_call 56; first | refine wY ?_ | refine wN ?_)
 refine (plain_any _ _).mono ?_
 rintro e w1 ⟨rfl, hg⟩
 obtain ⟨HB, HG⟩ := shB hg
 clear hg
 go_wp2_with (refine st3 HB rfl _ _ rfl rfl rfl ?_)
 exact sE Try.results66 HB HG rfl rfl (by omega)
theorem vn_11 (n : Int) (h0 : 124 ≤ n) (h1 : n ≤ 129) (w : World) : Calls Try.prog 66 #[.int .i64 n] w (RES 1 0 ⟨#[118, 58, 118]⟩ w) := by
 go_enter Try.func66, Try.ntmps66
 go_wp2_with (go_at_call 56; first | refine wY ?_ | refine wN ?_)
 refine (plain_any _ _).mono ?_
 rintro e w1 ⟨rfl, hg⟩
 obtain ⟨HB, HG⟩ := shB hg
 clear hg
 go_wp2_with (refine st3 HB rfl _ _ rfl rfl rfl ?_)
 exact sE Try.results66 HB HG rfl rfl (by omega)
theorem vn_12 (w : World) : Calls Try.prog 66 #[.int .i64 130] w (RES 1 0 ⟨#[118, 118, 58, 118]⟩ w) := by
 go_enter Try.func66, Try.ntmps66
 go_wp2_with (go_at_call 56; first | refine wY ?_ | refine wN ?_)
 refine (plain_any _ _).mono ?_
 rintro e w1 ⟨rfl, hg⟩
 obtain ⟨HB, HG⟩ := shB hg
 clear hg
 go_wp2_with (refine st3 HB rfl _ _ rfl rfl rfl ?_)
 exact sE Try.results66 HB HG rfl rfl (by omega)
theorem vn_13 (n : Int) (h0 : 131 ≤ n) (h1 : n ≤ 132) (w : World) : Calls Try.prog 66 #[.int .i64 n] w (RES 1 0 ⟨#[118, 58, 105]⟩ w) := by
 go_enter Try.func66, Try.ntmps66
 go_wp2_with (go_at_call 56; first | refine wY ?_ | refine wN ?_)
 refine (plain_any _ _).mono ?_
 rintro e w1 ⟨rfl, hg⟩
 obtain ⟨HB, HG⟩ := shB hg
 clear hg
 go_wp2_with (refine st3 HB rfl _ _ rfl rfl rfl ?_)
 exact sE Try.results66 HB HG rfl rfl (by omega)
theorem vn_14 (n : Int) (h0 : 133 ≤ n) (h1 : n ≤ 134) (w : World) : Calls Try.prog 66 #[.int .i64 n] w (RES 1 0 ⟨#[118, 118, 58, 118]⟩ w) := by
 go_enter Try.func66, Try.ntmps66
 go_wp2_with (go_at_call 56; first | refine wY ?_ | refine wN ?_)
 refine (plain_any _ _).mono ?_
 rintro e w1 ⟨rfl, hg⟩
 obtain ⟨HB, HG⟩ := shB hg
 clear hg
 go_wp2_with (refine st3 HB rfl _ _ rfl rfl rfl ?_)
 exact sE Try.results66 HB HG rfl rfl (by omega)
theorem vn_15 (n : Int) (h0 : 135 ≤ n) (h1 : n ≤ 138) (w : World) : Calls Try.prog 66 #[.int .i64 n] w (RES 1 0 ⟨#[118, 58, 118]⟩ w) := by
 go_enter Try.func66, Try.ntmps66
 go_wp2_with (go_at_call 56; first | refine wY ?_ | refine wN ?_)
 refine (plain_any _ _).mono ?_
 rintro e w1 ⟨rfl, hg⟩
 obtain ⟨HB, HG⟩ := shB hg
 clear hg
 go_wp2_with (refine st3 HB rfl _ _ rfl rfl rfl ?_)
 exact sE Try.results66 HB HG rfl rfl (by omega)
theorem vn_16 (n : Int) (h0 : 139 ≤ n) (h1 : n ≤ 141) (w : World) : Calls Try.prog 66 #[.int .i64 n] w (RES 1 0 ⟨#[118, 105, 58, 118]⟩ w) := by
 go_enter Try.func66, Try.ntmps66
 go_wp2_with (go_at_call 56; first | refine wY ?_ | refine wN ?_)
 refine (plain_any _ _).mono ?_
 rintro e w1 ⟨rfl, hg⟩
 obtain ⟨HB, HG⟩ := shB hg
 clear hg
 go_wp2_with (refine st3 HB rfl _ _ rfl rfl rfl ?_)
 exact sE Try.results66 HB HG rfl rfl (by omega)
theorem vn_17 (n : Int) (h0 : 142 ≤ n) (h1 : n ≤ 147) (w : World) : Calls Try.prog 66 #[.int .i64 n] w (RES 1 0 ⟨#[118, 118, 58, 118]⟩ w) := by
 go_enter Try.func66, Try.ntmps66
 go_wp2_with (go_at_call 56; first | refine wY ?_ | refine wN ?_)
 refine (plain_any _ _).mono ?_
 rintro e w1 ⟨rfl, hg⟩
 obtain ⟨HB, HG⟩ := shB hg
 clear hg
 go_wp2_with (refine st3 HB rfl _ _ rfl rfl rfl ?_)
 exact sE Try.results66 HB HG rfl rfl (by omega)
theorem vn_18 (w : World) : Calls Try.prog 66 #[.int .i64 148] w (RES 0 0 ⟨#[]⟩ w) := by
 go_enter Try.func66, Try.ntmps66
 go_wp2_with (go_at_call 56; first | refine wY ?_ | refine wN ?_)
 exact bodyPost_ret (v := .agg (shp _ _ _)) (by simp [results, Try.results66, go_sem, shp] <;> rfl) rfl ⟨rfl, (Gr.refl _).alloc _ _⟩
theorem vn_19 (n : Int) (h0 : 149 ≤ n) (h1 : n ≤ 153) (w : World) : Calls Try.prog 66 #[.int .i64 n] w (RES 1 0 ⟨#[118, 118, 58, 118]⟩ w) := by
 go_enter Try.func66, Try.ntmps66
 go_wp2_with (go_at_call 56; first | refine wY ?_ | refine wN ?_)
 refine (plain_any _ _).mono ?_
 rintro e w1 ⟨rfl, hg⟩
 obtain ⟨HB, HG⟩ := shB hg
 clear hg
 go_wp2_with (refine st3 HB rfl _ _ rfl rfl rfl ?_)
 exact sE Try.results66 HB HG rfl rfl (by omega)
theorem vn_20 (w : World) : Calls Try.prog 66 #[.int .i64 154] w (RES 0 0 ⟨#[]⟩ w) := by
 go_enter Try.func66, Try.ntmps66
 go_wp2_with (go_at_call 56; first | refine wY ?_ | refine wN ?_)
 exact bodyPost_ret (v := .agg (shp _ _ _)) (by simp [results, Try.results66, go_sem, shp] <;> rfl) rfl ⟨rfl, (Gr.refl _).alloc _ _⟩
theorem vn_21 (n : Int) (h0 : 155 ≤ n) (h1 : n ≤ 159) (w : World) : Calls Try.prog 66 #[.int .i64 n] w (RES 1 0 ⟨#[118, 118, 58, 118]⟩ w) := by
 go_enter Try.func66, Try.ntmps66
 go_wp2_with (go_at_call 56; first | refine wY ?_ | refine wN ?_)
 refine (plain_any _ _).mono ?_
 rintro e w1 ⟨rfl, hg⟩
 obtain ⟨HB, HG⟩ := shB hg
 clear hg
 go_wp2_with (refine st3 HB rfl _ _ rfl rfl rfl ?_)
 exact sE Try.results66 HB HG rfl rfl (by omega)
theorem vw_0 (n : Int) (h0 : 160 ≤ n) (h1 : n ≤ 161) (w : World) : Calls Try.prog 67 #[.int .i64 n] w (RES 1 0 ⟨#[118, 58, 118]⟩ w) := by
 go_enter Try.func67, Try.ntmps67
 go_wp2_with (go_at_call 56; first | refine wY ?_ | refine wN ?_)
 refine (plain_any _ _).mono ?_
 rintro e w1 ⟨rfl, hg⟩
 obtain ⟨HB, HG⟩ := shB hg
 clear hg
 go_wp2_with (refine st3 HB rfl _ _ rfl rfl rfl ?_)
 exact sE Try.results67 HB HG rfl rfl (by omega)
theorem vw_1 (w : World) : Calls Try.prog 67 #[.int .i64 162] w (RES 0 0 ⟨#[]⟩ w) := by
 go_enter Try.func67, Try.ntmps67
 go_wp2_with (go_at_call 56; first | refine wY ?_ | refine wN ?_)
 exact bodyPost_ret (v := .agg (shp _ _ _)) (by simp [results, Try.results67, go_sem, shp] <;> rfl) rfl ⟨rfl, (Gr.refl _).alloc _ _⟩
theorem vw_2 (n : Int) (h0 : 163 ≤ n) (h1 : n ≤ 164) (w : World) : Calls Try.prog 67 #[.int .i64 n] w (RES 1 0 ⟨#[118, 58, 105]⟩ w) := by
 go_enter Try.func67, Try.ntmps67
 go_wp2_with (go_at_call 56; first | refine wY ?_ | refine wN ?_)
 refine (plain_any _ _).mono ?_
 rintro e w1 ⟨rfl, hg⟩
 obtain ⟨HB, HG⟩ := shB hg
 clear hg
 go_wp2_with (refine st3 HB rfl _ _ rfl rfl rfl ?_)
 exact sE Try.results67 HB HG rfl rfl (by omega)
theorem vw_3 (n : Int) (h0 : 165 ≤ n) (h1 : n ≤ 166) (w : World) : Calls Try.prog 67 #[.int .i64 n] w (RES 0 0 ⟨#[]⟩ w) := by
 go_enter Try.func67, Try.ntmps67
 go_wp2_with (go_at_call 56; first | refine wY ?_ | refine wN ?_)
 exact bodyPost_ret (v := .agg (shp _ _ _)) (by simp [results, Try.results67, go_sem, shp] <;> rfl) rfl ⟨rfl, (Gr.refl _).alloc _ _⟩
theorem vw_4 (n : Int) (h0 : 167 ≤ n) (h1 : n ≤ 170) (w : World) : Calls Try.prog 67 #[.int .i64 n] w (RES 1 0 ⟨#[118, 58, 118]⟩ w) := by
 go_enter Try.func67, Try.ntmps67
 go_wp2_with (go_at_call 56; first | refine wY ?_ | refine wN ?_)
 refine (plain_any _ _).mono ?_
 rintro e w1 ⟨rfl, hg⟩
 obtain ⟨HB, HG⟩ := shB hg
 clear hg
 go_wp2_with (refine st3 HB rfl _ _ rfl rfl rfl ?_)
 exact sE Try.results67 HB HG rfl rfl (by omega)
theorem vw_5 (n : Int) (h0 : 171 ≤ n) (h1 : n ≤ 173) (w : World) : Calls Try.prog 67 #[.int .i64 n] w (RES 1 0 ⟨#[118, 105, 58, 118]⟩ w) := by
 go_enter Try.func67, Try.ntmps67
 go_wp2_with (go_at_call 56; first | refine wY ?_ | refine wN ?_)
 refine (plain_any _ _).mono ?_
 rintro e w1 ⟨rfl, hg⟩
 obtain ⟨HB, HG⟩ := shB hg
 clear hg
 go_wp2_with (refine st3 HB rfl _ _ rfl rfl rfl ?_)
 exact sE Try.results67 HB HG rfl rfl (by omega)
theorem vw_6 (w : World) : Calls Try.prog 67 #[.int .i64 174] w (RES 1 0 ⟨#[118, 118, 58, 118]⟩ w) := by
 go_enter Try.func67, Try.ntmps67
 go_wp2_with (go_at_call 56; first | refine wY ?_ | refine wN ?_)
 refine (plain_any _ _).mono ?_
 rintro e w1 ⟨rfl, hg⟩
 obtain ⟨HB, HG⟩ := shB hg
 clear hg
 go_wp2_with (refine st3 HB rfl _ _ rfl rfl rfl ?_)
 exact sE Try.results67 HB HG rfl rfl (by omega)
theorem vw_7 (n : Int) (h0 : 175 ≤ n) (h1 : n ≤ 176) (w : World) : Calls Try.prog 67 #[.int .i64 n] w (RES 0 0 ⟨#[]⟩ w) := by
 go_enter Try.func67, Try.ntmps67
 go_wp2_with (go_at_call 56; first | refine wY ?_ | refine wN ?_)
 exact bodyPost_ret (v := .agg (shp _ _ _)) (by simp [results, Try.results67, go_sem, shp] <;> rfl) rfl ⟨rfl, (Gr.refl _).alloc _ _⟩
theorem vw_8 (w : World) : Calls Try.prog 67 #[.int .i64 177] w (RES 1 0 ⟨#[118, 118, 58, 118]⟩ w) := by
 go_enter Try.func67, Try.ntmps67
 go_wp2_with (go_at_call 56; first | refine wY ?_ | refine wN ?_)
 refine (plain_any _ _).mono ?_
 rintro e w1 ⟨rfl, hg⟩
 obtain ⟨HB, HG⟩ := shB hg
 clear hg
 go_wp2_with (refine st3 HB rfl _ _ rfl rfl rfl ?_)
 exact sE Try.results67 HB HG rfl rfl (by omega)
theorem vw_9 (n : Int) (h0 : 178 ≤ n) (h1 : n ≤ 180) (w : World) : Calls Try.prog 67 #[.int .i64 n] w (RES 0 0 ⟨#[]⟩ w) := by
 go_enter Try.func67, Try.ntmps67
 go_wp2_with (go_at_call 56; first | refine wY ?_ | refine wN ?_)
 exact bodyPost_ret (v := .agg (shp _ _ _)) (by simp [results, Try.results67, go_sem, shp] <;> rfl) rfl ⟨rfl, (Gr.refl _).alloc _ _⟩
theorem vw_10 (n : Int) (h0 : 181 ≤ n) (h1 : n ≤ 186) (w : World) : Calls Try.prog 67 #[.int .i64 n] w (RES 1 0 ⟨#[118, 118, 58, 118]⟩ w) := by
 go_enter Try.func67, Try.ntmps67
 go_wp2_with (go_at_call 56; first | refine wY ?_ | refine wN ?_)
 refine (plain_any _ _).mono ?_
 rintro e w1 ⟨rfl, hg⟩
 obtain ⟨HB, HG⟩ := shB hg
 clear hg
 go_wp2_with (refine st3 HB rfl _ _ rfl rfl rfl ?_)
 exact sE Try.results67 HB HG rfl rfl (by omega)
theorem vw_11 (w : World) : Calls Try.prog 67 #[.int .i64 187] w (RES 0 0 ⟨#[]⟩ w) := by
 go_enter Try.func67, Try.ntmps67
 go_wp2_with (go_at_call 56; first | refine wY ?_ | refine wN ?_)
 exact bodyPost_ret (v := .agg (shp _ _ _)) (by simp [results, Try.results67, go_sem, shp] <;> rfl) rfl ⟨rfl, (Gr.refl _).alloc _ _⟩
theorem vw_12 (n : Int) (h0 : 188 ≤ n) (h1 : n ≤ 191) (w : World) : Calls Try.prog 67 #[.int .i64 n] w (RES 1 0 ⟨#[118, 118, 58, 118]⟩ w) := by
 go_enter Try.func67, Try.ntmps67
 go_wp2_with (go_at_call 56; first | refine wY ?_ | refine wN ?_)
 refine (plain_any _ _).mono ?_
 rintro e w1 ⟨rfl, hg⟩
 obtain ⟨HB, HG⟩ := shB hg
 clear hg
 go_wp2_with (refine st3 HB rfl _ _ rfl rfl rfl ?_)
 exact sE Try.results67 HB HG rfl rfl (by omega)
theorem vw_13 (n : Int) (h0 : 192 ≤ n) (h1 : n ≤ 193) (w : World) : Calls Try.prog 67 #[.int .i64 n] w (RES 1 0 ⟨#[118, 58, 118]⟩ w) := by
 go_enter Try.func67, Try.ntmps67
 go_wp2_with (go_at_call 56; first | refine wY ?_ | refine wN ?_)
 refine (plain_any _ _).mono ?_
 rintro e w1 ⟨rfl, hg⟩
 obtain ⟨HB, HG⟩ := shB hg
 clear hg
 go_wp2_with (refine st3 HB rfl _ _ rfl rfl rfl ?_)
 exact sE Try.results67 HB HG rfl rfl (by omega)
theorem vw_14 (w : World) : Calls Try.prog 67 #[.int .i64 194] w (RES 0 0 ⟨#[]⟩ w) := by
 go_enter Try.func67, Try.ntmps67
 go_wp2_with (go_at_call 56; first | refine wY ?_ | refine wN ?_)
 exact bodyPost_ret (v := .agg (shp _ _ _)) (by simp [results, Try.results67, go_sem, shp] <;> rfl) rfl ⟨rfl, (Gr.refl _).alloc _ _⟩
theorem vw_15 (n : Int) (h0 : 195 ≤ n) (h1 : n ≤ 196) (w : World) : Calls Try.prog 67 #[.int .i64 n] w (RES 1 0 ⟨#[118, 58, 105]⟩ w) := by
 go_enter Try.func67, Try.ntmps67
 go_wp2_with (go_at_call 56; first | refine wY ?_ | refine wN ?_)
 refine (plain_any _ _).mono ?_
 rintro e w1 ⟨rfl, hg⟩
 obtain ⟨HB, HG⟩ := shB hg
 clear hg
 go_wp2_with (refine st3 HB rfl _ _ rfl rfl rfl ?_)
 exact sE Try.results67 HB HG rfl rfl (by omega)
theorem vw_16 (n : Int) (h0 : 197 ≤ n) (h1 : n ≤ 198) (w : World) : Calls Try.prog 67 #[.int .i64 n] w (RES 0 0 ⟨#[]⟩ w) := by
 go_enter Try.func67, Try.ntmps67
 go_wp2_with (go_at_call 56; first | refine wY ?_ | refine wN ?_)
 exact bodyPost_ret (v := .agg (shp _ _ _)) (by simp [results, Try.results67, go_sem, shp] <;> rfl) rfl ⟨rfl, (Gr.refl _).alloc _ _⟩
theorem vw_17 (n : Int) (h0 : 199 ≤ n) (h1 : n ≤ 202) (w : World) : Calls Try.prog 67 #[.int .i64 n] w (RES 1 0 ⟨#[118, 58, 118]⟩ w) := by
 go_enter Try.func67, Try.ntmps67
 go_wp2_with (go_at_call 56; first | refine wY ?_ | refine wN ?_)
 refine (plain_any _ _).mono ?_
 rintro e w1 ⟨rfl, hg⟩
 obtain ⟨HB, HG⟩ := shB hg
 clear hg
 go_wp2_with (refine st3 HB rfl _ _ rfl rfl rfl ?_)
 exact sE Try.results67 HB HG rfl rfl (by omega)
theorem vw_18 (n : Int) (h0 : 203 ≤ n) (h1 : n ≤ 205) (w : World) : Calls Try.prog 67 #[.int .i64 n] w (RES 1 0 ⟨#[118, 105, 58, 118]⟩ w) := by
 go_enter Try.func67, Try.ntmps67
 go_wp2_with (go_at_call 56; first | refine wY ?_ | refine wN ?_)
 refine (plain_any _ _).mono ?_
 rintro e w1 ⟨rfl, hg⟩
 obtain ⟨HB, HG⟩ := shB hg
 clear hg
 go_wp2_with (refine st3 HB rfl _ _ rfl rfl rfl ?_)
 exact sE Try.results67 HB HG rfl rfl (by omega)
theorem vw_19 (w : World) : Calls Try.prog 67 #[.int .i64 206] w (RES 1 0 ⟨#[118, 118, 58, 118]⟩ w) := by
 go_enter Try.func67, Try.ntmps67
 go_wp2_with (go_at_call 56; first | refine wY ?_ | refine wN ?_)
 refine (plain_any _ _).mono ?_
 rintro e w1 ⟨rfl, hg⟩
 obtain ⟨HB, HG⟩ := shB hg
 clear hg
 go_wp2_with (refine st3 HB rfl _ _ rfl rfl rfl ?_)
 exact sE Try.results67 HB HG rfl rfl (by omega)
theorem vw_20 (n : Int) (h0 : 207 ≤ n) (h1 : n ≤ 208) (w : World) : Calls Try.prog 67 #[.int .i64 n] w (RES 0 0 ⟨#[]⟩ w) := by
 go_enter Try.func67, Try.ntmps67
 go_wp2_with (go_at_call 56; first | refine wY ?_ | refine wN ?_)
 exact bodyPost_ret (v := .agg (shp _ _ _)) (by simp [results, Try.results67, go_sem, shp] <;> rfl) rfl ⟨rfl, (Gr.refl _).alloc _ _⟩
theorem vw_21 (w : World) : Calls Try.prog 67 #[.int .i64 209] w (RES 1 0 ⟨#[118, 118, 58, 118]⟩ w) := by
 go_enter Try.func67, Try.ntmps67
 go_wp2_with (go_at_call 56; first | refine wY ?_ | refine wN ?_)
 refine (plain_any _ _).mono ?_
 rintro e w1 ⟨rfl, hg⟩
 obtain ⟨HB, HG⟩ := shB hg
 clear hg
 go_wp2_with (refine st3 HB rfl _ _ rfl rfl rfl ?_)
 exact sE Try.results67 HB HG rfl rfl (by omega)
theorem vw_22 (n : Int) (h0 : 210 ≤ n) (h1 : n ≤ 212) (w : World) : Calls Try.prog 67 #[.int .i64 n] w (RES 0 0 ⟨#[]⟩ w) := by
 go_enter Try.func67, Try.ntmps67
 go_wp2_with (go_at_call 56; first | refine wY ?_ | refine wN ?_)
 exact bodyPost_ret (v := .agg (shp _ _ _)) (by simp [results, Try.results67, go_sem, shp] <;> rfl) rfl ⟨rfl, (Gr.refl _).alloc _ _⟩
theorem vw_23 (n : Int) (h0 : 213 ≤ n) (h1 : n ≤ 223) (w : World) : Calls Try.prog 67 #[.int .i64 n] w (RES 1 0 ⟨#[118, 118, 58, 118]⟩ w) := by
 go_enter Try.func67, Try.ntmps67
 go_wp2_with (go_at_call 56; first | refine wY ?_ | refine wN ?_)
 refine (plain_any _ _).mono ?_
 rintro e w1 ⟨rfl, hg⟩
 obtain ⟨HB, HG⟩ := shB hg
 clear hg
 go_wp2_with (refine st3 HB rfl _ _ rfl rfl rfl ?_)
 exact sE Try.results67 HB HG rfl rfl (by omega)
theorem vw_24 (n : Int) (h0 : 224 ≤ n) (w : World) : Calls Try.prog 67 #[.int .i64 n] w (RES 0 0 ⟨#[]⟩ w) := by
 go_enter Try.func67, Try.ntmps67
 go_wp2_with (go_at_call 56; first | refine wY ?_ | refine wN ?_)
 exact bodyPost_ret (v := .agg (shp _ _ _)) (by simp [results, Try.results67, go_sem, shp] <;> rfl) rfl ⟨rfl, (Gr.refl _).alloc _ _⟩
theorem top_access0 (n f l : Int) (s : ByteArray) (_h0 : 40 ≤ n) (_h1 : n ≤ 62) (h : ∀ w, Calls Try.prog 68 #[.int .i64 n] w (RES f l s w)) (w : World) : Calls Try.prog 42 #[.int .i64 n] w (RES f l s w) := by
 have H := Lib.hid h
 clear h
 go_enter Try.func42, Try.ntmps42
 go_wp2_with (go_at_call 56; first | refine wY ?_ | refine wN ?_)
 refine (H.out _).mono ?_
 rintro e w1 ⟨rfl, hg⟩
 obtain ⟨HB, HG⟩ := shB hg
 clear hg
 go_wp2_with (refine st3 HB rfl _ _ rfl rfl rfl ?_)
 exact sE Try.results42 HB HG rfl rfl (by omega)
theorem top_operator0 (n f l : Int) (s : ByteArray) (_h0 : 69 ≤ n) (h : ∀ w, Calls Try.prog 69 #[.int .i64 n] w (RES f l s w)) (w : World) : Calls Try.prog 42 #[.int .i64 n] w (RES f l s w) := by
 have H := Lib.hid h
 clear h
 go_enter Try.func42, Try.ntmps42
 go_wp2_with (go_at_call 56; first | refine wY ?_ | refine wN ?_)
 refine (H.out _).mono ?_
 rintro e w1 ⟨rfl, hg⟩
 obtain ⟨HB, HG⟩ := shB hg
 clear hg
 go_wp2_with (refine st3 HB rfl _ _ rfl rfl rfl ?_)
 exact sE Try.results42 HB HG rfl rfl (by omega)
theorem top_control0 (n f l : Int) (s : ByteArray) (_h1 : n ≤ 39) (h : ∀ w, Calls Try.prog 70 #[.int .i64 n] w (RES f l s w)) (w : World) : Calls Try.prog 42 #[.int .i64 n] w (RES f l s w) := by
 have H := Lib.hid h
 clear h
 go_enter Try.func42, Try.ntmps42
 go_wp2_with (go_at_call 56; first | refine wY ?_ | refine wN ?_)
 refine (H.out _).mono ?_
 rintro e w1 ⟨rfl, hg⟩
 obtain ⟨HB, HG⟩ := shB hg
 clear hg
 go_wp2_with (refine st3 HB rfl _ _ rfl rfl rfl ?_)
 exact sE Try.results42 HB HG rfl rfl (by omega)
theorem top_control1 (n f l : Int) (s : ByteArray) (_h0 : 67 ≤ n) (_h1 : n ≤ 68) (h : ∀ w, Calls Try.prog 70 #[.int .i64 n] w (RES f l s w)) (w : World) : Calls Try.prog 42 #[.int .i64 n] w (RES f l s w) := by
 have H := Lib.hid h
 clear h
 go_enter Try.func42, Try.ntmps42
 go_wp2_with (go_at_call 56; first | refine wY ?_ | refine wN ?_)
 refine (H.out _).mono ?_
 rintro e w1 ⟨rfl, hg⟩
 obtain ⟨HB, HG⟩ := shB hg
 clear hg
 go_wp2_with (refine st3 HB rfl _ _ rfl rfl rfl ?_)
 exact sE Try.results42 HB HG rfl rfl (by omega)
theorem top_va0 (n f l : Int) (s : ByteArray) (_h0 : 0 ≤ n) (_h1 : n ≤ 11) (h : ∀ w, Calls Try.prog 63 #[.int .i64 n] w (RES f l s w)) (w : World) : Calls Try.prog 41 #[.int .i64 n] w (RES f l s w) := by
 have H := Lib.hid h
 clear h
 go_enter Try.func41, Try.ntmps41
 go_wp2_with (go_at_call 56; first | refine wY ?_ | refine wN ?_)
 refine (H.out _).mono ?_
 rintro e w1 ⟨rfl, hg⟩
 obtain ⟨HB, HG⟩ := shB hg
 clear hg
 go_wp2_with (refine st3 HB rfl _ _ rfl rfl rfl ?_)
 exact sE Try.results41 HB HG rfl rfl (by omega)
theorem top_va1 (n f l : Int) (s : ByteArray) (_h0 : 84 ≤ n) (_h1 : n ≤ 93) (h : ∀ w, Calls Try.prog 63 #[.int .i64 n] w (RES f l s w)) (w : World) : Calls Try.prog 41 #[.int .i64 n] w (RES f l s w) := by
 have H := Lib.hid h
 clear h
 go_enter Try.func41, Try.ntmps41
 go_wp2_with (go_at_call 56; first | refine wY ?_ | refine wN ?_)
 refine (H.out _).mono ?_
 rintro e w1 ⟨rfl, hg⟩
 obtain ⟨HB, HG⟩ := shB hg
 clear hg
 go_wp2_with (refine st3 HB rfl _ _ rfl rfl rfl ?_)
 exact sE Try.results41 HB HG rfl rfl (by omega)
theorem top_vm0 (n f l : Int) (s : ByteArray) (_h0 : 12 ≤ n) (_h1 : n ≤ 34) (h : ∀ w, Calls Try.prog 64 #[.int .i64 n] w (RES f l s w)) (w : World) : Calls Try.prog 41 #[.int .i64 n] w (RES f l s w) := by
 have H := Lib.hid h
 clear h
 go_enter Try.func41, Try.ntmps41
 go_wp2_with (go_at_call 56; first | refine wY ?_ | refine wN ?_)
 refine (H.out _).mono ?_
 rintro e w1 ⟨rfl, hg⟩
 obtain ⟨HB, HG⟩ := shB hg
 clear hg
 go_wp2_with (refine st3 HB rfl _ _ rfl rfl rfl ?_)
 exact sE Try.results41 HB HG rfl rfl (by omega)
theorem top_vb0 (n f l : Int) (s : ByteArray) (_h0 : 35 ≤ n) (_h1 : n ≤ 83) (h : ∀ w, Calls Try.prog 65 #[.int .i64 n] w (RES f l s w)) (w : World) : Calls Try.prog 41 #[.int .i64 n] w (RES f l s w) := by
 have H := Lib.hid h
 clear h
 go_enter Try.func41, Try.ntmps41
 go_wp2_with (go_at_call 56; first | refine wY ?_ | refine wN ?_)
 refine (H.out _).mono ?_
 rintro e w1 ⟨rfl, hg⟩
 obtain ⟨HB, HG⟩ := shB hg
 clear hg
 go_wp2_with (refine st3 HB rfl _ _ rfl rfl rfl ?_)
 exact sE Try.results41 HB HG rfl rfl (by omega)
theorem top_vn0 (n f l : Int) (s : ByteArray) (_h0 : 94 ≤ n) (_h1 : n ≤ 159) (h : ∀ w, Calls Try.prog 66 #[.int .i64 n] w (RES f l s w)) (w : World) : Calls Try.prog 41 #[.int .i64 n] w (RES f l s w) := by
 have H := Lib.hid h
 clear h
 go_enter Try.func41, Try.ntmps41
 go_wp2_with (go_at_call 56; first | refine wY ?_ | refine wN ?_)
 refine (H.out _).mono ?_
 rintro e w1 ⟨rfl, hg⟩
 obtain ⟨HB, HG⟩ := shB hg
 clear hg
 go_wp2_with (refine st3 HB rfl _ _ rfl rfl rfl ?_)
 exact sE Try.results41 HB HG rfl rfl (by omega)
theorem top_vw0 (n f l : Int) (s : ByteArray) (_h0 : 160 ≤ n) (h : ∀ w, Calls Try.prog 67 #[.int .i64 n] w (RES f l s w)) (w : World) : Calls Try.prog 41 #[.int .i64 n] w (RES f l s w) := by
 have H := Lib.hid h
 clear h
 go_enter Try.func41, Try.ntmps41
 go_wp2_with (go_at_call 56; first | refine wY ?_ | refine wN ?_)
 refine (H.out _).mono ?_
 rintro e w1 ⟨rfl, hg⟩
 obtain ⟨HB, HG⟩ := shB hg
 clear hg
 go_wp2_with (refine st3 HB rfl _ _ rfl rfl rfl ?_)
 exact sE Try.results41 HB HG rfl rfl (by omega)
theorem top_63 (w : World) : Calls Try.prog 42 #[.int .i64 63] w (RES 14 0 ⟨#[58, 105]⟩ w) := by
 go_enter Try.func42, Try.ntmps42
 go_wp2_with (go_at_call 56; first | refine wY ?_ | refine wN ?_)
 exact bodyPost_ret (v := .agg (shp _ _ _)) (by simp [results, Try.results42, go_sem, shp] <;> rfl) rfl ⟨rfl, (Gr.refl _).alloc _ _⟩
theorem top_64 (w : World) : Calls Try.prog 42 #[.int .i64 64] w (RES 14 0 ⟨#[105, 58, 105]⟩ w) := by
 go_enter Try.func42, Try.ntmps42
 go_wp2_with (go_at_call 56; first | refine wY ?_ | refine wN ?_)
 exact bodyPost_ret (v := .agg (shp _ _ _)) (by simp [results, Try.results42, go_sem, shp] <;> rfl) rfl ⟨rfl, (Gr.refl _).alloc _ _⟩
theorem top_65 (w : World) : Calls Try.prog 42 #[.int .i64 65] w (RES 9 0 ⟨#[58, 105]⟩ w) := by
 go_enter Try.func42, Try.ntmps42
 go_wp2_with (go_at_call 56; first | refine wY ?_ | refine wN ?_)
 exact bodyPost_ret (v := .agg (shp _ _ _)) (by simp [results, Try.results42, go_sem, shp] <;> rfl) rfl ⟨rfl, (Gr.refl _).alloc _ _⟩
theorem top_66 (w : World) : Calls Try.prog 42 #[.int .i64 66] w (RES 10 0 ⟨#[58, 108]⟩ w) := by
 go_enter Try.func42, Try.ntmps42
 go_wp2_with (go_at_call 56; first | refine wY ?_ | refine wN ?_)
 exact bodyPost_ret (v := .agg (shp _ _ _)) (by simp [results, Try.results42, go_sem, shp] <;> rfl) rfl ⟨rfl, (Gr.refl _).alloc _ _⟩
end Ins
end Go.Proofs.Ytebkabidojipoaa
/- InsTy -/
namespace Go.Proofs.Ytebkabidojipoaa
open Go.RowKit
namespace Ins
theorem infoI : (Try.prog.info? 3).map (fun i => (i.zero, i.size, i.bytes)) = some (some (.int .i64 0), 1, 8) := by kernel_rfl
theorem owns_gr {w w' : World} {base : Nat} {e : TypeId} {size : Nat} {v : Value} {n : Nat} {xs : List Value} (h : w.ownsRow base e size v n xs) (hg : Gr w w') : w'.ownsRow base e size v n xs :=
 h.kept (row := none) ⟨hg.os, hg.tape, hg.output, hg.size, fun k hk _ => hg.block k hk⟩ (by cases v.ownBlock <;> simp)
def code (c : UInt8) : Int := if c.toNat = 105 then 127 else if c.toNat = 108 then 126 else 123
def codes (s : ByteArray) (k : Nat) : List Value := (s.data.toList.take k).map fun c => Value.int .i64 (code c)
theorem codes_snoc (s : ByteArray) (k : Nat) (h : k < s.size) : codes s (k + 1) = codes s k ++ [.int .i64 (code s[k])] := by
 unfold codes
 rw [List.take_succ_eq_append_getElem (by simpa using h), List.map_append]; rfl
set_option maxHeartbeats 2000000 in
theorem types_any (s : ByteArray) (w : World) (hs : s.size ≤ 4294967296) :
  Calls Try.prog 44 #[.string s] w fun e w' => ∃ sv, e = .returned sv ∧ Gr w w' ∧ w'.ownsRow w.heap.size 3 1 sv s.size (codes s s.size) := by
 obtain ⟨i0, hi, hz0, hz1, hz2⟩ := info_parts infoI
 have HI := Lib.hid hi
 have HZ0 := Lib.hid hz0
 have HZ1 := Lib.hid hz1
 have HZ2 := Lib.hid hz2
 clear hi hz0 hz1 hz2
 go_enter Try.func44, Try.ntmps44
 go_wp2_with fail
 go_loopw [7, 3] (fun i sv wr => ∃ k : Nat, k ≤ s.size ∧ i = .int .i64 k ∧ Gr w wr ∧ wr.ownsRow w.heap.size 3 1 sv k (codes s k)) (fun i _ _ => s.size - (intOf i).toNat)
 case atStart => exact ⟨0, by omega, rfl, Gr.refl _, World.ownsRow_nil _ _ _ _⟩
 case round =>
  obtain ⟨k, hk, rfl, hg, hown⟩ := hrel
  have HG := Lib.hid hg
  have HO := Lib.hid hown
  clear hg hown
  by_cases hlt : k < s.size
  ·have hsn := codes_snoc s k hlt
   have HS := Lib.hid hsn
   clear hsn
   have hc : (s[k].toNat : Int) = 105 ∧ code s[k] = 127 ∨ ((s[k].toNat : Int) == 105) = false ∧ (s[k].toNat : Int) = 108 ∧ code s[k] = 126 ∨ ((s[k].toNat : Int) == 105) = false ∧ ((s[k].toNat : Int) == 108) = false ∧ code s[k] = 123 := by
    unfold code
    by_cases h1 : s[k].toNat = 105
    ·left; rw [if_pos h1]; exact ⟨by omega, rfl⟩
    ·right
     have b1 : ((s[k].toNat : Int) == 105) = false := beq_eq_false_iff_ne.2 (by omega)
     rw [if_neg h1]
     by_cases h2 : s[k].toNat = 108
     ·left; rw [if_pos h2]; exact ⟨b1, by omega, rfl⟩
     ·right; rw [if_neg h2]; exact ⟨b1, beq_eq_false_iff_ne.2 (by omega), rfl⟩
   generalize code s[k] = cd at *
   rcases hc with ⟨h1, rfl⟩ | ⟨h1, h2, rfl⟩ | ⟨h1, h2, rfl⟩
   ·go_wp2_with (at_builtin; refine wpList_append_own _ rfl _ _ 36 rfl w.heap.size 3 i0 (.int .i64 0) 1 8 Try.underlying36 HI.out HZ0.out HZ1.out HZ2.out rfl (by decide) u3 k _ rfl (HO.out.alloc _) ⟨wr.heap.size, 0, none⟩ 1 1 [.int .i64 127] rfl rfl ?c1 ?c2 ?c3 ?c4 ?c5 ?_)
    case c1 =>
     intro j u hju
     match j, hju with
     | 0, hju => simp at hju; subst hju; exact (cell_of_row _ _ 0 _ _ _ (heap_alloc_new wr _)).trans rfl
    case c2 => intro u hu; simp at hu; subst hu; rfl
    case c3 => unfold maxLen; omega
    case c4 => omega
    case c5 => have := HG.out.size; simp; omega
    intro v' w2 hown2 hgb _
    have hrow : ∀ q, u3.ownBlock = some q → w.heap.size ≤ q := fun q hq => (HO.out.lt q hq).1
    have hgr : Gr w w2 := (HG.out.allocO _).grown hgb (fun q hq => by have := hrow q hq; omega)
    have hown3 : w2.ownsRow w.heap.size 3 1 v' (k + 1) (codes s (k + 1)) := by rw [HS.out]; exact hown2
    have H1 := Lib.hid hgr
    have H3 := Lib.hid hown3
    clear hown2 hgb hrow hgr hown3
    go_wp2
    exact ⟨⟨k + 1, by omega, by go_num, H1.out, H3.out⟩, by simp [intOf]; omega⟩
   ·go_wp2_with (at_builtin; refine wpList_append_own _ rfl _ _ 36 rfl w.heap.size 3 i0 (.int .i64 0) 1 8 Try.underlying36 HI.out HZ0.out HZ1.out HZ2.out rfl (by decide) u3 k _ rfl (HO.out.alloc _) ⟨wr.heap.size, 0, none⟩ 1 1 [.int .i64 126] rfl rfl ?c1 ?c2 ?c3 ?c4 ?c5 ?_)
    case c1 =>
     intro j u hju
     match j, hju with
     | 0, hju => simp at hju; subst hju; exact (cell_of_row _ _ 0 _ _ _ (heap_alloc_new wr _)).trans rfl
    case c2 => intro u hu; simp at hu; subst hu; rfl
    case c3 => unfold maxLen; omega
    case c4 => omega
    case c5 => have := HG.out.size; simp; omega
    intro v' w2 hown2 hgb _
    have hrow : ∀ q, u3.ownBlock = some q → w.heap.size ≤ q := fun q hq => (HO.out.lt q hq).1
    have hgr : Gr w w2 := (HG.out.allocO _).grown hgb (fun q hq => by have := hrow q hq; omega)
    have hown3 : w2.ownsRow w.heap.size 3 1 v' (k + 1) (codes s (k + 1)) := by rw [HS.out]; exact hown2
    have H1 := Lib.hid hgr
    have H3 := Lib.hid hown3
    clear hown2 hgb hrow hgr hown3
    go_wp2
    exact ⟨⟨k + 1, by omega, by go_num, H1.out, H3.out⟩, by simp [intOf]; omega⟩
   ·go_wp2_with (at_builtin; refine wpList_append_own _ rfl _ _ 36 rfl w.heap.size 3 i0 (.int .i64 0) 1 8 Try.underlying36 HI.out HZ0.out HZ1.out HZ2.out rfl (by decide) u3 k _ rfl (HO.out.alloc _) ⟨wr.heap.size, 0, none⟩ 1 1 [.int .i64 123] rfl rfl ?c1 ?c2 ?c3 ?c4 ?c5 ?_)
    case c1 =>
     intro j u hju
     match j, hju with
     | 0, hju => simp at hju; subst hju; exact (cell_of_row _ _ 0 _ _ _ (heap_alloc_new wr _)).trans rfl
    case c2 => intro u hu; simp at hu; subst hu; rfl
    case c3 => unfold maxLen; omega
    case c4 => omega
    case c5 => have := HG.out.size; simp; omega
    intro v' w2 hown2 hgb _
    have hrow : ∀ q, u3.ownBlock = some q → w.heap.size ≤ q := fun q hq => (HO.out.lt q hq).1
    have hgr : Gr w w2 := (HG.out.allocO _).grown hgb (fun q hq => by have := hrow q hq; omega)
    have hown3 : w2.ownsRow w.heap.size 3 1 v' (k + 1) (codes s (k + 1)) := by rw [HS.out]; exact hown2
    have H1 := Lib.hid hgr
    have H3 := Lib.hid hown3
    clear hown2 hgb hrow hgr hown3
    go_wp2
    exact ⟨⟨k + 1, by omega, by go_num, H1.out, H3.out⟩, by simp [intOf]; omega⟩
  ·obtain rfl : k = s.size := by omega
   go_wp2
   go_ret
   exact ⟨_, rfl, HG.out, HO.out⟩
end Ins
end Go.Proofs.Ytebkabidojipoaa
/- NetTail -/
namespace Go.Proofs.Ytebkabidojipoaa
open Go.RowKit
section
variable {P : Program} {ops : Array Oper} {md : Region.Mode} {w0 : World}
def headDone (m n : Nat) : Array Bool := Array.ofFn (n := m) fun i => decide (i.val < n)
def netTailB (md : Region.Mode) (ops : Array Oper) (n s : Nat) : Bool :=
 netB md ops s && decide (n < ops.size) && Region.sinkB md ops n && Region.chainB md ops n && Region.seqB md ops (ops.size - n) n (headDone ops.size n) && (List.range n).all fun k => match (ops[k]?).bind (·.guard) with | some (g, _) => decide (g < n) | none => true
def unlh (n : Nat) (listed : Array Bool) : Nat := (List.range n).countP fun k => !listed.getD k true
theorem least_of {p : Nat → Prop} [DecidablePred p] : ∀ n, (∃ k, k < n ∧ p k) → ∃ k, k < n ∧ p k ∧ ∀ j, j < k → ¬ p j := by
 intro n ⟨k, hk, hp⟩
 induction k using Nat.strongRecOn with
 | _ k ih =>
  by_cases h : ∃ j, j < k ∧ p j
  ·obtain ⟨j, hj, hpj⟩ := h
   exact ih j hj (by omega) hpj
  ·exact ⟨k, hk, hp, fun j hj hpj => h ⟨j, hj, hpj⟩⟩
theorem wanted_head {opsh : Array Oper} {n : Nat} {o : Oper} (hh : ∀ j, j < n → opsh[j]? = ops[j]?) (hg : ∀ g b, o.guard = some (g, b) → g < n) (t : Array Value) : Region.wanted o (yielded opsh t) = Region.wanted o (yielded ops t) := by
 unfold Region.wanted
 cases ho : o.guard with
 | none => rfl
 | some gb =>
  obtain ⟨g, b⟩ := gb
  have : yielded opsh t g = yielded ops t g := by unfold yielded; rw [hh g (hg g b ho)]
  simp only [this]
theorem net_tail {opsh : Array Oper} {n : Nat} (hh : ∀ j, j < n → opsh[j]? = ops[j]?) (hh' : ∀ j oj, opsh[j]? = some oj → j < n) {a0 : Act} {Φ : Nat → Value → World → Prop} {Q : Exit → Act → World → Prop} (hB : netTailB md ops n a0.tmps.size = true) (hmono : ∀ k v w w', Gr w w' → Φ k v w → Φ k v w')
  (hstep : ∀ (k : Nat) (o : Oper), k < n → ops[k]? = some o → NetStep P md opsh w0 a0 Φ k o)
  (hQ : ∀ (a : Act) (w : World), Gr w0 w → a.defers = a0.defers → a.tmps.size = a0.tmps.size → (∀ d, (∀ (k : Nat) (o : Oper), k < n → ops[k]? = some o → o.dst ≠ some d) → a.tmps[d]? = a0.tmps[d]?) → (∀ (k : Nat) (o : Oper) (d : Tmp), k < n → ops[k]? = some o → o.dst = some d → Φ k (a.eval (.tmp d)) w) → wpList P ops Q (ops.toList.drop n) a w) :
  ∀ (f : Nat) (listed : Array Bool) (a : Act) (w : World), HeadInv md ops n listed → unlh n listed = f → NetInv ops w0 a0 Φ listed a w → wpAny P md ops Q (f + (ops.size - n)) listed a w := by
 simp only [netTailB, Bool.and_eq_true, decide_eq_true_eq] at hB
 obtain ⟨⟨⟨⟨⟨hNB, hn⟩, hs⟩, hc⟩, hseq⟩, hgd⟩ := hB
 have hguard : ∀ k o, k < n → ops[k]? = some o → ∀ g b, o.guard = some (g, b) → g < n := fun k o hk ho g b hg => by
  have := List.all_eq_true.1 hgd k (List.mem_range.2 hk)
  rw [ho] at this
  simpa [hg] using this
 obtain ⟨hd, hafter⟩ := netB_spec hNB
 have lst : ∀ (listed : Array Bool), HeadInv md ops n listed → ∀ k, listed.getD k false = true → k < n := fun listed hi k hk => by
  rcases Nat.lt_or_ge k n with h | h
  ·exact h
  ·exfalso
   have hks : k < ops.size := by
    rw [← hi.size]
    rcases Nat.lt_or_ge k listed.size with h' | h'
    ·exact h'
    ·simp [Array.getElem?_eq_none h'] at hk
   have := getD_both (hi.tail k h hks)
   rw [this] at hk; cases hk
 intro f
 induction f with
 | zero =>
  intro listed a w hi hu inv
  have hall : ∀ k, k < n → listed.getD k true = true := fun k hk => by
   have h0 : (List.range n).countP (fun k => !listed.getD k true) = 0 := hu
   have := List.countP_eq_zero.1 h0 k (List.mem_range.2 hk)
   simpa using this
  have hall' : ∀ k, k < n → listed.getD k false = true := fun k hk => by
   have h1 := hall k hk
   have hlt : k < listed.size := by rw [hi.size]; omega
   simpa [hlt] using h1
  have he : listed = headDone ops.size n := by
   apply Array.ext
   ·simp [headDone, hi.size]
   ·intro k h1 h2
    by_cases hk : k < n
    ·have := hall k hk
     simp only [Array.getD_eq_getD_getElem?, Array.getElem?_eq_getElem h1, Option.getD_some] at this
     rw [this]; simp [headDone, hk]
    ·have := hi.tail k (by omega) (by rw [← hi.size]; exact h1)
     simp only [Array.getD_eq_getD_getElem?, Array.getElem?_eq_getElem h1, Option.getD_some] at this
     rw [this]; simp [headDone, hk]
  have hlen : (ops.toList.drop n).length = ops.size - n := by simp
  have := wpAny_of_seq (md := md) (Q' := Q) (P := P) (ops.toList.drop n) n listed a w (fun j => by simp [List.getElem?_drop]) (by rw [hlen, he]; exact hseq)
   (hQ a w inv.gr inv.defers inv.size (fun d hdd => inv.keep d fun k o hk hl => hdd k o (lst listed hi k hl) hk) (fun k o d hkn hk hkd => inv.ok k o d hk (hall' k hkn) hkd))
  rw [hlen] at this
  rw [Nat.zero_add]
  exact this
 | succ f ih =>
  intro listed a w hi hu inv
  have hpos : ∃ k, k < n ∧ listed.getD k true = false := by
   apply Classical.byContradiction
   intro hno
   have h0 : (List.range n).countP (fun k => !listed.getD k true) = 0 := List.countP_eq_zero.2 fun k hk => by
    have hk := List.mem_range.1 hk
    cases hg : listed.getD k true with
    | true => decide
    | false => exact absurd ⟨k, hk, hg⟩ hno
   unfold unlh at hu; omega
  rw [show f + 1 + (ops.size - n) = (f + (ops.size - n)) + 1 by omega]
  refine ⟨fun hr => ?_, fun i hir => ?_⟩
  ·exfalso
   obtain ⟨k, hk, hku, hmin⟩ := least_of n hpos
   have : k ∈ Region.ready md ops listed := mem_ready.2 ⟨hku, ops[k]'(by omega), Array.getElem?_eq_getElem (by omega), fun e he hb => by
    have hlt := hafter k _ (Array.getElem?_eq_getElem (by omega)) e he hb
    have h1 := hmin e.on hlt
    have hlt' : e.on < listed.size := by rw [hi.size]; omega
    simp only [Array.getD_eq_getD_getElem?, Array.getElem?_eq_getElem hlt', Option.getD_some] at h1 ⊢
    simpa using h1⟩
   rw [hr] at this; cases this
  ·obtain ⟨k0, hk0, hku0⟩ := hpos
   have hin : i < n := by
    rcases Nat.lt_or_ge i n with h | h
    ·exact h
    ·exact absurd hir (tail_waits hs hc hn hi _ k0 rfl hk0 hku0 i h)
   obtain ⟨hun, o, ho, hall⟩ := mem_ready.1 hir
   have hio := (Array.getElem?_eq_some_iff.1 ho).1
   have hst := hstep i o hin ho a w inv.gr (fun d hdd => inv.keep d fun k ok hk hl => hdd k ok (by rw [hh k (lst listed hi k hl)]; exact hk)) (fun e he hb oj d hj hjd => inv.ok e.on oj d (by rw [← hh e.on (hh' _ _ hj)]; exact hj) (hall e he hb) hjd)
   rw [wanted_head hh (hguard i o hin ho)] at hst
   have hunl : unlh n (listed.setIfInBounds i true) = f := by
    have hp : ∀ l : List Nat, l.Nodup → i ∈ l → l.countP (fun k => !(listed.setIfInBounds i true).getD k true) + 1 = l.countP fun k => !listed.getD k true := by
     intro l
     induction l with
     | nil => intro _ h; cases h
     | cons x l ihl =>
      intro hnd hm
      obtain ⟨hx, hnd⟩ := List.nodup_cons.1 hnd
      have hset : (listed.setIfInBounds i true).getD i true = true := by
       have : i < listed.size := by rw [hi.size]; exact hio
       simp [this]
      by_cases hxi : x = i
      ·subst hxi
       have hsame : ∀ l' : List Nat, x ∉ l' → l'.countP (fun k => !(listed.setIfInBounds x true).getD k true) = l'.countP fun k => !listed.getD k true := by
        intro l' hx'
        refine List.countP_congr fun k hk => ?_
        have hkx : x ≠ k := fun e => hx' (e ▸ hk)
        rw [getD_set_ne true hkx]
       rw [List.countP_cons_of_neg (by rw [hset]; decide), List.countP_cons_of_pos (by rw [hun]; rfl), hsame l hx]
      ·have hml : i ∈ l := by
        rcases List.mem_cons.1 hm with h | h
        ·exact absurd h.symm hxi
        ·exact h
       have := ihl hnd hml
       rw [List.countP_cons, List.countP_cons, getD_set_ne true (Ne.symm hxi)]
       omega
    have := hp (List.range n) List.nodup_range (List.mem_range.2 hin)
    unfold unlh at hu ⊢; omega
   have next : ∀ (v : Value) (w' : World), Gr w w' → Φ i v w' → NetInv ops w0 a0 Φ (listed.setIfInBounds i true) (a.put o.dst v) w' := fun v w' hg hv => by
    refine ⟨gr_trans inv.gr hg, ?_, ?_, fun d hdd => ?_, fun k ok d hk hl hkd => ?_⟩
    ·rw [← inv.defers]; unfold Act.put; split <;> rfl
    ·rw [← inv.size]; unfold Act.put; split
     ·exact Array.size_setIfInBounds
     ·rfl
    ·have h1 := inv.keep d fun k ok hk hlk => hdd k ok hk (getD_set_true hlk)
     rw [← h1]
     cases hod : o.dst with
     | none => rfl
     | some d' =>
      have hli : i < listed.size := by rw [hi.size]; exact hio
      have hne : d' ≠ d := fun e => hdd i o ho (by simp [hli]) (by rw [hod, e])
      simp [Act.put, Array.getElem?_setIfInBounds_ne hne]
    ·by_cases hki : k = i
     ·subst hki
      have : ok = o := Option.some.inj (hk.symm.trans ho)
      subst this
      rw [hkd, eval_put_same (by rw [inv.size]; exact (hd k ok d ho hkd).1)]
      exact hv
     ·rw [getD_set_ne false (Ne.symm hki)] at hl
      have h1 := hmono k _ w w' hg (inv.ok k ok d hk hl hkd)
      cases hod : o.dst with
      | none => exact h1
      | some d' =>
       have hne : d' ≠ d := fun e => hki ((hd i o d ho (by rw [hod, e])).2 k ok hk hkd)
       rw [eval_put_ne hne]; exact h1
   have hi' := hi.set hir hin
   unfold wpOp
   simp only [ho]
   by_cases hw : Region.wanted o (yielded ops a.tmps) = true
   ·rw [if_pos hw]
    left
    have hr := hst.1 hw
    unfold Oper.wp
    generalize (execOp a.eval o).run P w = r at *
    cases r with
    | ok nx w' =>
     cases nx <;> simp only [netUpon] at hr <;> simp only [Oper.upon]
     case value u => exact ih _ _ _ hi' hunl (next u w' hr.2 hr.1)
     case skip => exact ih _ _ _ hi' hunl (next undef w' hr.2 hr.1)
     case enter g args => exact hr.mono fun e w'' ⟨u, he, hv, hg⟩ => by subst he; exact ih _ _ _ hi' hunl (next u w'' hg hv)
    | halt x w' => simp only [netUpon] at hr
   ·rw [if_neg hw]
    exact ih _ _ _ hi' hunl (next undef w (Gr.refl _) (hst.2 (by simpa using hw)))
theorem wp_region_net_tail {id : Nat} {Q : Exit → Act → World → Prop} {a : Act} {w : World} {l : List Oper} (n : Nat) (Φ : Nat → Value → World → Prop) (hm : P.follows .mixedOrders = true) (hB : netTailB .any l.toArray n a.tmps.size = true)
  (hmono : ∀ k v w w', Gr w w' → Φ k v w → Φ k v w') (hsteps : netSteps P (l.take n).toArray w.drew a Φ (l.take n) 0)
  (hQ : ∀ (V : Nat → Value) (w' : World), Gr w.drew w' → (∀ (k : Nat) (o : Oper) (d : Tmp), k < n → l[k]? = some o → o.dst = some d → Φ k (V d) w') → wpList P l.toArray Q (l.drop n) (putAll a V (l.take n)) w') : (Code.region id l.toArray true).wp P Q a w := by
 refine wp_region_any hm ?_
 have hn : n < l.length := by
  have h := hB
  simp only [netTailB, Bool.and_eq_true, decide_eq_true_eq] at h
  simpa using h.1.1.1.1.2
 have hu : unlh n (Array.replicate l.toArray.size false) = n := by
  unfold unlh
  have : (List.range n).countP (fun k => !(Array.replicate l.toArray.size false).getD k true) = (List.range n).length := List.countP_eq_length.2 fun k hk => by
   have hk := List.mem_range.1 hk
   have hkl : k < l.length := by omega
   simp [hkl]
  rw [this]; simp
 have H := net_tail (opsh := (l.take n).toArray) (fun j hj => by simp [List.getElem?_take_of_lt hj]) (fun j oj hj => by have := (Array.getElem?_eq_some_iff.1 hj).1; simp at this; omega) (w0 := w.drew) (a0 := a) (Φ := Φ) (Q := Q) (P := P) (n := n) hB hmono (fun k o hkn hk => by
  have := netSteps_spec (l.take n) 0 hsteps k o (by rw [List.getElem?_take_of_lt hkn]; simpa using hk)
  rwa [Nat.zero_add] at this) (fun a' w' hg hdf hsz hkeep hok => ?_) n (Array.replicate l.toArray.size false) a w.drew
  ⟨by simp, fun j oj _ hl => (by rw [getD_replicate_false] at hl; cases hl), fun t _ ht => getD_in (by simpa using ht) (getD_replicate_false _ _)⟩ hu
  ⟨Gr.refl _, rfl, rfl, fun _ _ => rfl, fun k o d _ hl _ => by rw [getD_replicate_false] at hl; cases hl⟩
 ·rw [show n + (l.toArray.size - n) = l.toArray.size by simp; omega] at H
  exact H
 have e : a' = putAll a (fun d => a'.eval (.tmp d)) (l.take n) := by
  have h1 : a'.tmps = (putAll a (fun d => a'.eval (.tmp d)) (l.take n)).tmps := by
   apply Array.ext_getElem?
   intro d
   by_cases hd : d < a.tmps.size
   ·rw [putAll_get _ d (l.take n) a hd]
    by_cases hany : (l.take n).any (fun o => o.dst == some d) = true
    ·rw [if_pos hany]
     have hd' : d < a'.tmps.size := by omega
     simp [Act.eval, hd']
    ·rw [if_neg hany]
     refine hkeep d fun k o hkn hk he => hany ?_
     have hk' : (l.take n)[k]? = some o := by rw [List.getElem?_take_of_lt hkn]; simpa using hk
     exact List.any_eq_true.2 ⟨o, List.mem_of_getElem? hk', by simp [he]⟩
   ·rw [Array.getElem?_eq_none (by omega), Array.getElem?_eq_none (by rw [putAll_size]; omega)]
  have h2 : a'.defers = (putAll a (fun d => a'.eval (.tmp d)) (l.take n)).defers := by rw [putAll_defers]; exact hdf
  revert h1 h2
  generalize putAll a (fun d => a'.eval (.tmp d)) (l.take n) = b
  intro h1 h2
  cases a'; cases b
  simp at h1 h2
  simp [h1, h2]
 have hfin := hQ (fun d => a'.eval (.tmp d)) w' hg (fun k o d hkn hk hkd => hok k o d hkn (by simpa using hk) hkd)
 rw [← e] at hfin
 simpa using hfin
end
end Go.Proofs.Ytebkabidojipoaa
/- BuildS -/
namespace Go.Proofs.Ytebkabidojipoaa
open Go.RowKit
section
variable {P : Program} {ops : Array Oper} {Q : Exit → Act → World → Prop} {a : Act} {w : World} {rest : List Oper} {o : Oper}
theorem run_buildSlice_lit (t e : TypeId) (len : Nat) (parts : Array (Nat × Value)) (i : TypeInfo) (cells : Array Value) (ht : P.underlying t = some (.slice e)) (hi : P.info? e = some i) (hz : i.zero = some (.string ⟨#[]⟩)) (hs : i.size = 1)
  (hl : len ≤ 1000) (h0 : 0 < len) (zs : Array Value) (hzs : (Array.map (fun x => (#[Value.string { data := #[] }])[x % 1]!) (Array.range len)) = zs) (hf : Instr.fill (fun j => some (j, 1)) zs parts.toList = some cells) :
  (Instr.buildSlice t len parts).run P w = .ok (.slice (some ⟨w.heap.size, 0, none⟩) len len) (w.alloc (.cells cells e)) := by
 have h1 : ¬ (16777216 < len) := by omega
 have h2 : ¬ len = 0 := by omega
 simp [Instr.buildSlice, run_underlying ht, sizeOf, typeInfo, hi, hs, zeroValue, hz, h1, h2, newRow, newObj, Value.cells]
 simp at hzs
 rw [hzs, hf]
 rfl
theorem wpList_buildS (hgd : o.guard = none) (t e : TypeId) (len : Nat) (parts : Array (Nat × Operand)) (ho : o.op = .buildSlice t len parts) (i : TypeInfo) (cells : Array Value) (ht : P.underlying t = some (.slice e)) (hi : P.info? e = some i) (hz : i.zero = some (.string ⟨#[]⟩)) (hs : i.size = 1)
  (hl : len ≤ 1000) (h0 : 0 < len) (zs : Array Value) (hzs : (Array.map (fun x => (#[Value.string { data := #[] }])[x % 1]!) (Array.range len)) = zs) (hf : Instr.fill (fun j => some (j, 1)) zs (parts.map fun (i, x) => (i, a.eval x)).toList = some cells)
  (h : wpList P ops Q rest (a.put o.dst (.slice (some ⟨w.heap.size, 0, none⟩) len len)) (w.alloc (.cells cells e))) : wpList P ops Q (o :: rest) a w := by
 refine wpList_plain hgd fun _ hK => ?_
 unfold Oper.wp execOp
 simp only [ho, Sem.run_bind, run_buildSlice_lit (w := w) t e len _ i cells ht hi hz hs hl h0 zs hzs hf, Result.andThen_ok]
 exact hK _ _ h
end
end Go.Proofs.Ytebkabidojipoaa
