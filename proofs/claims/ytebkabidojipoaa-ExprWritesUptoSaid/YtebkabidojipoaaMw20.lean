/-
  Texts of this seat, joined: ExOp, ExWb, ExWb1, ExWb2, ExWb3, ExWb4, ExWb5, ExWb6, ExWc, ExWd, ExWe. Each says what it proves.
-/
import Derived.Test.YtebkabidojipoaaMw12
import Derived.Test.YtebkabidojipoaaMw18
import Derived.Test.YtebkabidojipoaaMw19
namespace Go.Proofs.Ytebkabidojipoaa
section
open Go.RowKit VecM LebM Go.ChangeShapes Go.WideShapes
namespace Ex
theorem bulk_mem {H : Type} : ∀ (l : List (DataW H)) (d : DataW H), d ∈ l → Rows.uptoBulk d ≤ Rows.uptoBulkAll l
 | [], _, h => by cases h
 | x :: r, d, h => by
  rcases List.mem_cons.1 h with rfl | h
  ·simp only [Rows.uptoBulkAll]; omega
  ·have := bulk_mem r d h
   simp only [Rows.uptoBulkAll]; omega
theorem bulk_app {H : Type} : ∀ (l m : List (DataW H)), Rows.uptoBulkAll (l ++ m) = Rows.uptoBulkAll l + Rows.uptoBulkAll m
 | [], m => by simp [Rows.uptoBulkAll]
 | x :: r, m => by
  have := bulk_app r m
  simp only [List.cons_append, Rows.uptoBulkAll]; omega
theorem szP_app : ∀ (A B : List In), szP (A ++ B) = szP A + szP B
 | [], B => by simp [szP]
 | d :: r, B => by
  have := szP_app r B
  simp only [List.cons_append, szP]; omega
theorem cellsI : Try.prog.cellsOf 38 = 6 := by kernel_rfl
theorem one_of {L : List Value} {a : Nat} {u : Value} (h : (L.drop a).take 1 = [u]) : L[a]? = some u := by
 have h2 := congrArg (·[0]?) h
 simp only [List.getElem?_take_of_lt (show 0 < 1 by decide), List.getElem?_drop, Nat.add_zero] at h2
 exact h2
theorem add_none (g : Nat) (o m : Nat) : (⟨g, o, none⟩ : Addr).add m = ⟨g, o + m, none⟩ := by unfold Addr.add; split <;> simp_all
theorem open_ls {H : Type} {enc : TypeId × Value → H} {W : World} {fuel : Nat} {cs : List Value} {y : DataW H × List MemPlace} (h : DataW.trod enc Try.prog W 0 (fun _ => true) true fuel 36 cs = some y) :
  ∃ Lv l, cs = [Lv] ∧ LsR W Lv l ∧ l.length + 1 ≤ Rows.uptoBulk y.1 := by
 rcases open_ints Try.underlying36 Try.underlying3 (by kernel_rfl) h with ⟨rfl, rfl⟩ | ⟨a, len, cap, zs, rfl, _, hl, hm, hz, rfl, hcell, _⟩
 ·exact ⟨_, [], rfl, lsR_nil W, by simp [Rows.uptoBulk]⟩
 ·simp only [if_true] at hz
  have hlen : (zs.take len).length = len := by rw [List.length_take]; omega
  refine ⟨_, zs.take len, rfl, ⟨some a, cap, by rw [hlen], fun j hj => ?_⟩, ?_⟩
  ·rw [hlen] at hj
   have h1 := hcell j (by omega)
   obtain ⟨b, off, spot⟩ := a
   have h0 := hcell 0 (by omega)
   have hspot : spot = none := by simpa [Addr.add] using World.cell?_spot h0
   subst hspot
   refine ⟨b, off, rfl, ?_⟩
   rw [add_none] at h1
   rw [h1, List.getD_eq_getElem?_getD, List.getD_eq_getElem?_getD, List.getElem?_take, if_pos hj]
  ·have := bulk_len (H := H) (lits .i64 (zs.take len))
   have e : (lits (H := H) .i64 (zs.take len)).length = len := by unfold lits; rw [List.length_map, hlen]
   simp only [Rows.uptoBulk]
   omega
def InR (d : In) : Prop := (-9223372036854775808 ≤ d.op ∧ d.op ≤ 9223372036854775807) ∧ (-9223372036854775808 ≤ d.a ∧ d.a ≤ 9223372036854775807) ∧ (0 ≤ d.lo ∧ d.lo < 18446744073709551616) ∧ (0 ≤ d.hi ∧ d.hi < 18446744073709551616)
set_option maxRecDepth 100000 in
theorem open_instr {H : Type} {enc : TypeId × Value → H} {W : World} {fuel : Nat} {cs : List Value} {y : DataW H × List MemPlace} (h : DataW.trod enc Try.prog W 0 (fun _ => true) true fuel 38 cs = some y) :
  ∃ d Lv, cs = (inV d Lv).toList ∧ LsR W Lv d.l ∧ InR d ∧ d.l.length + 1 ≤ Rows.uptoBulk y.1 := by
 obtain ⟨xs, m, rfl, rfl, hl, hn, hall⟩ := DataW.trod_struct Try.underlying38 h
 rw [cellsI] at hl
 have hn6 : xs.length = 6 := hn
 have h0 := hall 0 _ rfl
 have h1 := hall 1 _ rfl
 have h2 := hall 2 _ rfl
 have h3 := hall 3 _ rfl
 have h4 := hall 4 _ rfl
 have h5 := hall 5 _ rfl
 clear hall
 rw [List.getElem?_eq_getElem (by omega)] at h0 h1 h2 h3 h4 h5
 obtain ⟨z0, e0, _, w0⟩ := DataW.trod_int Try.underlying3 h0
 obtain ⟨z1, e1, _, w1⟩ := DataW.trod_int Try.underlying3 h1
 obtain ⟨z2, e2, _, _⟩ := DataW.trod_int Try.underlying3 h2
 obtain ⟨z3, e3, _, w3⟩ := DataW.trod_int Try.underlying35 h3
 obtain ⟨z4, e4, _, w4⟩ := DataW.trod_int Try.underlying35 h4
 obtain ⟨Lv, l, e5, hL, hb⟩ := open_ls h5
 have b3 := bounds_u64 w3
 have b4 := bounds_u64 w4
 refine ⟨⟨z0, z1, z2, z3, z4, l⟩, Lv, ?_, hL, ⟨bounds_i64 w0, bounds_i64 w1, ⟨b3.1, by have := b3.2; dsimp only; omega⟩, ⟨b4.1, by have := b4.2; dsimp only; omega⟩⟩, ?_⟩
 ·have g0 := one_of (a := 0) e0
  have g1 := one_of (a := 1) e1
  have g2 := one_of (a := 2) e2
  have g3 := one_of (a := 3) e3
  have g4 := one_of (a := 4) e4
  have g5 := one_of (a := 5) e5
  apply List.ext_getElem?
  intro j
  by_cases hj : j < 6
  ·match j, hj with
   | 0, _ => exact g0
   | 1, _ => exact g1
   | 2, _ => exact g2
   | 3, _ => exact g3
   | 4, _ => exact g4
   | 5, _ => exact g5
  ·rw [List.getElem?_eq_none (by omega), List.getElem?_eq_none (by simp [inV]; omega)]
 ·have := bulk_mem (xs.map (·.1)) xs[5].1 (List.mem_map_of_mem (List.getElem_mem (by omega)))
  simp only [Rows.uptoBulk]
  omega
set_option maxRecDepth 100000 in
theorem open_code {H : Type} {enc : TypeId × Value → H} {W : World} {r : Reach} {base : Nat} {v : Value} {d : DataW H} {p : List MemPlace}
  (hok : Value.okWide Try.prog W r base 24 v) (h : DataW.Trod enc Try.prog W 0 (fun _ => true) true 24 v d p) :
  ∃ P : List (In × Value), CdR W v P ∧ (∀ q ∈ P, InR q.1) ∧ szP (P.map (·.1)) ≤ Rows.uptoBulk d := by
 obtain ⟨a0, len, cap, rfl⟩ := okWide_slice Try.underlying24 hok
 obtain ⟨fuel, hf⟩ := h
 rcases DataW.trod_slice Try.underlying24 hf with ⟨hcs, _⟩ | ⟨a, len', cap', elems, rest, n, _, hcs, hx, _, hl, hm, hlen, hel, _, _⟩
 ·simp [Value.cells] at hcs
  obtain ⟨rfl, rfl, rfl⟩ := hcs
  exact ⟨[], ⟨⟨none, 0, rfl, fun j u hu => by simp [cdV] at hu⟩, fun q hq => by cases hq⟩, (fun q hq => by cases hq), by simp [szP]⟩
 ·simp [Value.cells] at hcs
  obtain ⟨rfl, rfl, rfl⟩ := hcs
  have e1 := congrArg Prod.fst hx
  simp only at e1
  subst e1
  have key : ∀ m, m ≤ len → ∃ P : List (In × Value), P.length = m ∧ (∀ q ∈ P, LsR W q.2 q.1.l ∧ InR q.1) ∧ (∀ k q, P[k]? = some q → ∀ i u, (inV q.1 q.2).toList[i]? = some u → W.cell? ((a.add (k * 6)).add i) = some u) ∧ szP (P.map (·.1)) ≤ Rows.uptoBulkAll ((elems.take m).map (·.1)) := by
   intro m
   induction m with
   | zero => exact fun _ => ⟨[], rfl, (fun q hq => by cases hq), (fun k q hq => by simp at hq), by simp [szP]⟩
   | succ m ih =>
    intro hm1
    obtain ⟨P, hP, hq, hc, hs⟩ := ih (by omega)
    have h1 := hel m (by omega)
    rw [cellsI, List.getElem?_eq_getElem (by omega), Option.bind_eq_some_iff] at h1
    obtain ⟨cs, hcs, hy⟩ := h1
    have hsp := World.cells?_some hcs
    obtain ⟨d, Lv, rfl, hL, hR, hb⟩ := open_instr hy
    refine ⟨P ++ [(d, Lv)], by simp [hP], fun q hq' => ?_, fun k q hk i u hu => ?_, ?_⟩
    ·rcases List.mem_append.1 hq' with h | h
     ·exact hq q h
     ·obtain rfl := List.mem_singleton.1 h
      exact ⟨hL, hR⟩
    ·by_cases hkm : k < m
     ·rw [List.getElem?_append_left (by omega)] at hk
      exact hc k q hk i u hu
     ·have hk2 := (List.getElem?_eq_some_iff.1 hk).1
      simp only [List.length_append, List.length_singleton] at hk2
      obtain rfl : k = m := by omega
      rw [List.getElem?_append_right (by omega), hP, Nat.sub_self] at hk
      obtain rfl : (d, Lv) = q := by simpa using hk
      have hi := (List.getElem?_eq_some_iff.1 hu).1
      have hi6 : i < 6 := by simpa [inV] using hi
      rw [hsp.2.2 i hi6]
      simpa using hu
    ·have e9 : elems.take (m + 1) = elems.take m ++ [elems[m]] := by rw [List.take_add_one, List.getElem?_eq_getElem (by omega)]; rfl
     rw [List.map_append, szP_app, e9, List.map_append, bulk_app]
     simp only [List.map_cons, List.map_nil, szP, Rows.uptoBulkAll]
     omega
  obtain ⟨P, hP, hq, hc, hs⟩ := key len (Nat.le_refl _)
  refine ⟨P, ⟨⟨some a, cap, by rw [hP], fun j u hu => ?_⟩, fun q h => (hq q h).1⟩, fun q h => (hq q h).2, ?_⟩
  ·have hj := (List.getElem?_eq_some_iff.1 hu).1
   rw [cdV_len, hP] at hj
   obtain ⟨q, hk⟩ : ∃ q, P[j / 6]? = some q := ⟨_, List.getElem?_eq_getElem (by omega)⟩
   have h6 := cdV_get P (j / 6) q hk (j % 6) (by omega)
   rw [show j / 6 * 6 + j % 6 = j by omega] at h6
   rw [h6] at hu
   have h7 := hc _ q hk _ u hu
   obtain ⟨b, off, spot⟩ := a
   have hsp0 : ((⟨b, off, spot⟩ : Addr).add (j / 6 * 6)).add (j % 6) = ⟨b, off + j, spot⟩ ∨ spot ≠ none := by
    cases spot with
    | none => left; rw [add_none, add_none, Nat.add_assoc, show j / 6 * 6 + j % 6 = j by omega]
    | some s => right; simp
   have hspot : spot = none := by
    obtain ⟨q0, hk0⟩ : ∃ q, P[0]? = some q := ⟨_, List.getElem?_eq_getElem (by omega)⟩
    have h8 := hc 0 q0 hk0 0 (.int .i64 q0.1.op) rfl
    simpa [Addr.add] using World.cell?_spot h8
   subst hspot
   rcases hsp0 with h9 | h9
   ·rw [h9] at h7
    exact ⟨b, off, rfl, h7⟩
   ·exact absurd rfl h9
  ·rw [List.take_of_length_le (by omega)] at hs
   simp only [Rows.uptoBulk]
   omega
end Ex
end
section
open Go.RowKit VecM LebM
namespace Ex
theorem info8 : (Try.prog.info? 5).map (fun i => (i.zero, i.size, i.bytes)) = some (some (.int .u8 0), 1, 1) := by kernel_rfl
theorem own_ne {w : World} {base n z g : Nat} {e t : TypeId} {v : Value} {xs : List Value} {cs : Array Value} {fr : Nat × Nat} (h : w.ownsRow base e z v n xs) (hg : w.heap[g]? = some (.cells cs t fr)) (hne : e ≠ t) : v.ownBlock ≠ some g := by
 intro hv
 rcases h.2 with ⟨rfl, _⟩ | ⟨q, cap, cur, rfl, _, hq, _⟩
 ·cases hv
 ·obtain rfl : q = g := by simpa [Value.ownBlock] using hv
  rw [hq] at hg
  injection hg with hg
  injection hg with _ h _
  exact hne h
structure OnS (w0 w : World) (K : List (Nat × Array Value × TypeId)) (x : Option Addr) (n c : Nat) (L : List Int) : Prop where
 rows : ∀ k ∈ K, w.heap[k.1]? = some (.cells k.2.1 k.2.2 (0, 0)) ∧ k.2.2 ≠ 5
 own : w.ownsRow w0.heap.size 5 1 (.slice x n c) n (u8s L)
 gr : Gr w0 w
theorem OnS.to {w0 w w' : World} {K : List (Nat × Array Value × TypeId)} {x : Option Addr} {n c : Nat} {L : List Int} (h : OnS w0 w K x n c L) (hg : Gr w w') : OnS w0 w' K x n c L :=
 ⟨fun k hk => ⟨gr_block hg (h.rows k hk).1, (h.rows k hk).2⟩, own_gr h.own hg, gr_trans h.gr hg⟩
theorem OnS.len {w0 w : World} {K : List (Nat × Array Value × TypeId)} {x : Option Addr} {n c : Nat} {L : List Int} (h : OnS w0 w K x n c L) : L.length = n := by
 have := h.own.1
 unfold u8s at this
 simp at this; omega
theorem OnS.app {w0 w w1 w9 : World} {K : List (Nat × Array Value × TypeId)} {x x9 : Option Addr} {n c n9 c9 : Nat} {L Y : List Int} (h : OnS w0 w K x n c L) (hg : Gr w w1) (h9 : w9.ownsRow w0.heap.size 5 1 (.slice x9 n9 c9) n9 (u8s L ++ u8s Y)) (hgb : w1.grownBy w9 (Value.slice x n c).ownBlock) : OnS w0 w9 K x9 n9 c9 (L ++ Y) := by
 have h1 := h.to hg
 have hs : Sep (fun q => (Value.slice x n c).ownBlock = some q) w1 w9 := Sep.grown hgb fun q hq => hq
 exact ⟨fun k hk => ⟨hs.at_ (own_ne h1.own (h1.rows k hk).1 (fun e => (h1.rows k hk).2 e.symm)) (h1.rows k hk).1, (h1.rows k hk).2⟩, by rw [_root_.Go.Proofs.Ytebkabidojipoaa.u8s_app]; exact h9, Sep.toGr h1.gr hs (fun q hq => (h1.own.lt q hq).1)⟩
def cat (L Y : List Int) : List Int := L ++ Y
theorem OnS.apw {w0 wq w1 : World} {K : List (Nat × Array Value × TypeId)} {x : Option Addr} {n c : Nat} {L Y : List Int} (HS : OnS w0 wq K x n c L) (hgr : Gr wq w1) {ops : Array Oper} {Q : Exit → Act → World → Prop} {a : Act} {o : Oper} {rest : List Oper} (hgd : o.guard = none) (s z : Operand) (ho : o.op = .call { callee := .builtin .append, args := #[s, z], argTypes := #[22, 22] }) (hs : a.eval s = .slice x n c) {sv : Value} {m : Nat} (hx : a.eval z = sv) (hsrc : Src w1 sv m (u8s Y)) (hl : (u8s Y).length = m * 1) (B : Nat) (hB : n + m ≤ B) (hBB : B ≤ 140737488355328)
  (h : ∀ x9 n9 c9 w9, n9 ≤ B → OnS w0 w9 K x9 n9 c9 (cat L Y) → wpList Try.prog ops Q rest (a.put o.dst (.slice x9 n9 c9)) w9) : wpList Try.prog ops Q (o :: rest) a w1 := by
 obtain ⟨iz, hi, hz0, hz1, hz2⟩ := info_parts info8
 refine wpList_append_at hgd s z 22 ho w0.heap.size 5 iz (.int .u8 0) 1 1 Try.underlying22 hi hz0 hz1 hz2 rfl (by decide) (.slice x n c) n (u8s L) hs (HS.to hgr).own sv m (u8s Y) hx hsrc hl (u8s_one _) (by unfold maxLen; omega) (by omega) (HS.to hgr).gr.size ?_
 intro v' w9 hown2 hgb _
 obtain ⟨x9, c9, rfl⟩ := own_slice hown2
 exact h x9 (n + m) c9 w9 hB (OnS.app HS hgr hown2 hgb)
theorem OnS.cal {w0 wq w1 : World} {K : List (Nat × Array Value × TypeId)} {x : Option Addr} {n c : Nat} {L Y : List Int} {B : Nat} (HS : OnS w0 wq K x n c L) (hg0 : Gr wq w1) {f : FuncId} {args : Array Value} (hc : Calls Try.prog f args w1 (BYT Y B w1)) {Q : Ending → World → Prop}
  (h : ∀ xu mu cu w2, OnS w0 w2 K x n c L → (Src w2 (.slice xu mu cu) mu (u8s Y) ∧ (u8s Y).length = mu * 1 ∧ mu ≤ B) → Q (.returned (.slice xu mu cu)) w2) : Calls Try.prog f args w1 Q :=
 hc.mono fun e w' ⟨xu, mu, cu, he, hg, hm, hs, hl⟩ => by
  subst he
  exact h xu mu cu w' (HS.to (gr_trans hg0 hg)) ⟨hs, hl, hm⟩
theorem OnS.add {w0 w : World} {K : List (Nat × Array Value × TypeId)} {x : Option Addr} {n c : Nat} {L : List Int} (h : OnS w0 w K x n c L) {k : Nat × Array Value × TypeId} (hk : w.heap[k.1]? = some (.cells k.2.1 k.2.2 (0, 0))) (hu : k.2.2 ≠ 5) : OnS w0 w (k :: K) x n c L :=
 ⟨fun j hj => by
  rcases List.mem_cons.1 hj with rfl | hj
  ·exact ⟨hk, hu⟩
  ·exact h.rows j hj, h.own, h.gr⟩
def OFY (form : Int) (w : World) (e : Ending) (w' : World) : Prop := ∃ lv pv xi ni ci xj nj cj, e = .returned (.tuple #[.agg #[.int .i64 form, .int .i64 lv, .bool pv, .slice xi ni ci, .slice xj nj cj], .bool (form != 0)]) ∧ Gr w w'
theorem OnS.ini (w : World) (D : Array Value) : OnS w (w.alloc (.cells D 38)) [(w.heap.size, D, 38)] none 0 0 [] :=
 ⟨fun k hk => by rw [List.mem_singleton.1 hk]; exact ⟨heap_alloc_new w _, show 38 ≠ 5 by decide⟩, World.ownsRow_nil _ _ _ _, (Gr.refl w).alloc _ _⟩
theorem OnS.inf {w0 w : World} {K : List (Nat × Array Value × TypeId)} {x : Option Addr} {n c : Nat} {L : List Int} (h : OnS w0 w K x n c L) (I : Array Value) : OnS w0 ((w.alloc (.cells #[.int .i64 0, .int .i64 0, .bool false, .slice none 0 0, .slice none 0 0] 50)).setRow w.heap.size I) ((w.heap.size, I, 50) :: K) x n c L := by
 have hrw := Sep.setRow (ex := fun b => b = w.heap.size) (w.alloc (.cells #[.int .i64 0, .int .i64 0, .bool false, .slice none 0 0, .slice none 0 0] 50)) rfl I
 exact (h.to (Sep.toGr ((Gr.refl w).alloc #[.int .i64 0, .int .i64 0, .bool false, .slice none 0 0, .slice none 0 0] 50) hrw (fun q hq => by have e' : q = w.heap.size := hq; omega))).add (k := (w.heap.size, I, 50)) (setRow_block (heap_alloc_new w (.cells #[.int .i64 0, .int .i64 0, .bool false, .slice none 0 0, .slice none 0 0] 50))) (show 50 ≠ 5 by decide)
theorem OnS.c6 (w : World) (op a b lo hi : Int) (v : Value) (wx : World) (x : Option Addr) (n c : Nat) (L : List Int) (h : OnS w wx [(w.heap.size, #[.int .i64 op, .int .i64 a, .int .i64 b, .int .u64 lo, .int .u64 hi, v], 38)] x n c L) :
  wx.cell? ⟨w.heap.size, 0, none⟩ = some (.int .i64 op) ∧ wx.cell? ⟨w.heap.size, 1, none⟩ = some (.int .i64 a) ∧ wx.cell? ⟨w.heap.size, 2, none⟩ = some (.int .i64 b) ∧ wx.cell? ⟨w.heap.size, 3, none⟩ = some (.int .u64 lo) ∧ wx.cell? ⟨w.heap.size, 4, none⟩ = some (.int .u64 hi) ∧ wx.cell? ⟨w.heap.size, 5, none⟩ = some v :=
 cells6 (h.rows _ (List.mem_singleton.2 rfl)).1
theorem OnS.c7 (w : World) (bi : Nat) (form lv : Int) (pv : Bool) (v1 v2 : Value) (op a b lo hi : Int) (v : Value) (wx : World) (x : Option Addr) (n c : Nat) (L : List Int) (h : OnS w wx [(bi, #[.int .i64 form, .int .i64 lv, .bool pv, v1, v2], 50), (w.heap.size, #[.int .i64 op, .int .i64 a, .int .i64 b, .int .u64 lo, .int .u64 hi, v], 38)] x n c L) :
  wx.cell? ⟨bi, 0, none⟩ = some (.int .i64 form) ∧ wx.cell? ⟨w.heap.size, 0, none⟩ = some (.int .i64 op) ∧ wx.cell? ⟨w.heap.size, 1, none⟩ = some (.int .i64 a) ∧ wx.cell? ⟨w.heap.size, 2, none⟩ = some (.int .i64 b) ∧ wx.cell? ⟨w.heap.size, 3, none⟩ = some (.int .u64 lo) ∧ wx.cell? ⟨w.heap.size, 4, none⟩ = some (.int .u64 hi) ∧ wx.cell? ⟨w.heap.size, 5, none⟩ = some v :=
 ⟨(cell_of_row _ _ 0 _ _ _ (h.rows _ (List.mem_cons_self ..)).1).trans rfl, cells6 (h.rows _ (List.mem_cons_of_mem _ (List.mem_singleton.2 rfl))).1⟩
theorem OnS.fin {w0 w : World} {K : List (Nat × Array Value × TypeId)} {x : Option Addr} {n c : Nat} {L : List Int} (h : OnS w0 w K x n c L) : BYO L w0 (.returned (.slice x n c)) w :=
 ⟨_, rfl, h.gr, by rw [h.len]; exact h.own⟩
end Ex
end
section
open Go.RowKit VecM LebM
namespace Ex
set_option maxRecDepth 100000 in
set_option maxHeartbeats 8000000 in
theorem one_0 {op a b lo hi : Int} {l : List Int} {x : Option Addr} {n c : Nat} {w : World} (hop : -9223372036854775808 ≤ op ∧ op ≤ 9223372036854775807) (ha : -9223372036854775808 ≤ a ∧ a ≤ 9223372036854775807) (hlo : 0 ≤ lo ∧ lo < 18446744073709551616) (hhi : 0 ≤ hi ∧ hi < 18446744073709551616) (hn : l.length = n) (hl : n ≤ 4294967296) (hr : LsR w (.slice x n c) l) (hf : fm op = 0) :
  Calls Try.prog 26 #[.agg #[.int .i64 op, .int .i64 a, .int .i64 b, .int .u64 lo, .int .u64 hi, .slice x n c]] w (BYO (opcO op ++ fldO ⟨op, a, b, lo, hi, l⟩ 0) w) := by
 have HU := Lib.hid u_any
 have HOP := Lib.hid hop
 have HA := Lib.hid ha
 have HLO := Lib.hid hlo
 have HHI := Lib.hid hhi
 have HN := Lib.hid hn
 have HL := Lib.hid hl
 have HR := Lib.hid (fun wx (hg : Gr w wx) => lsR_gr hr hg)
 have HOF := Lib.hid (fun wx => (rof_fm op (by omega) wx).mono (show ∀ (e : Ending) (w' : World), OFX op wx e w' → OFY 0 wx e w' from fun e w' ⟨lv, pv, xi, ni, ci, xj, nj, cj, h, hg⟩ => ⟨lv, pv, xi, ni, ci, xj, nj, cj, by rw [h, hf], hg⟩))
 obtain ⟨L0, hL0⟩ : ∃ L, opcO op = L := ⟨_, rfl⟩
 have HL0 := Lib.hid hL0
 rw [hL0]
 clear hop ha hlo hhi hn hl hr hf hL0
 have HRK := Lib.hid (fun wx x1 n1 c1 L h => OnS.c6 w op a b lo hi (.slice x n c) wx x1 n1 c1 L h)
 go_enter Try.func26, Try.ntmps26
 have HS := Lib.hid (OnS.ini w #[.int .i64 op, .int .i64 a, .int .i64 b, .int .u64 lo, .int .u64 hi, .slice x n c])
 have HNB := Lib.hid (show 0 ≤ 0 from Nat.le_refl _)
 go_upto_if 11 with fail
 generalize w.alloc (.cells #[.int .i64 op, .int .i64 a, .int .i64 b, .int .u64 lo, .int .u64 hi, .slice x n c] 38) = w1 at *
 go_cut [3] from 9 (fun bv wx => ∃ (xb : Option Addr) (nb cb : Nat), bv = .slice xb nb cb ∧ OnS w wx [(w.heap.size, #[.int .i64 op, .int .i64 a, .int .i64 b, .int .u64 lo, .int .u64 hi, .slice x n c], 38)] xb nb cb L0 ∧ nb ≤ 100)
 case first => as_aux_lemma =>
  by_cases hbig : 64768 ≤ op
  ·have d0 : decide (op ≥ 64768) = true := decide_eq_true hbig
   have T1 : IntKind.i64.wrap (op - 64768) = op - 64768 := by have := HOP.out; rw [IntKind.wrap_i64]; omega
   have HLQ := Lib.hid (show opcO op = [] ++ [253] ++ formU (uN (op - 64768)) from by unfold opcO; rw [if_pos hbig]; rfl)
   obtain ⟨YU, hYU⟩ : ∃ Y, formU (uN (op - 64768)) = Y := ⟨_, rfl⟩
   have HUX := Lib.hid (fun wx => by have := HU.out (op - 64768) wx; rw [hYU] at this; exact this)
   rw [hYU] at HLQ
   clear hYU
   obtain ⟨i0, i1, i2, i3, i4, i5⟩ := HRK.out _ _ _ _ _ HS.out
   go_wp2_with (first | (at_builtin; refine OnS.apw (Y := [253]) HS.out ((Gr.refl _).alloc _ _) rfl _ _ rfl rfl rfl (src_lit w1 #[.int .u8 253] 5 1 1) rfl 1 (by have := HNB.out; omega) (by decide) ?_))
   intro x11 n11 c11 w11 hb hs
   clear HS HNB
   have HS := Lib.hid hs
   have HNB := Lib.hid hb
   clear hb hs
   obtain ⟨i0, i1, i2, i3, i4, i5⟩ := HRK.out _ _ _ _ _ HS.out
   go_wp2_with fail
   refine OnS.cal HS.out (Gr.refl _) (HUX.out _) ?_
   intro xu mu cu w12 hs hu
   clear HS
   have HS := Lib.hid hs
   have HSU := Lib.hid hu
   clear hs hu
   go_wp2_with (at_builtin; refine OnS.apw (Y := YU) HS.out (Gr.refl _) rfl _ _ rfl rfl rfl HSU.out.1 HSU.out.2.1 11 (by have := HNB.out; have := HSU.out.2.2; omega) (by decide) ?_)
   intro x13 n13 c13 w13 hb hs
   clear HS HNB
   have HS := Lib.hid hs
   have HNB := Lib.hid hb
   clear hb hs
   go_wp2
   go_meet
   exact ⟨_, _, _, rfl, by rw [← HL0.out, HLQ.out]; exact HS.out, by have := HNB.out; omega⟩
  ·have d0 : decide (op ≥ 64768) = false := decide_eq_false (by omega)
   have T1 : IntKind.u8.wrap op = op % 256 := by rw [IntKind.wrap_u8]
   have HLQ := Lib.hid (show opcO op = [] ++ [op % 256] from by unfold opcO; rw [if_neg hbig]; rfl)
   obtain ⟨i0, i1, i2, i3, i4, i5⟩ := HRK.out _ _ _ _ _ HS.out
   go_wp2_with (at_builtin; refine OnS.apw (Y := [(op % 256)]) HS.out ((Gr.refl _).alloc _ _) rfl _ _ rfl rfl rfl (src_lit w1 #[.int .u8 (op % 256)] 5 1 1) rfl 1 (by have := HNB.out; omega) (by decide) ?_)
   intro x21 n21 c21 w21 hb hs
   clear HS HNB
   have HS := Lib.hid hs
   have HNB := Lib.hid hb
   clear hb hs
   go_wp2
   go_meet
   exact ⟨_, _, _, rfl, by rw [← HL0.out, HLQ.out]; exact HS.out, by have := HNB.out; omega⟩
 case rest => as_aux_lemma =>
  obtain ⟨xb, nb, cb, rfl, hs, hnb⟩ := hcut
  clear HS HNB
  have HS := Lib.hid hs
  have HNB := Lib.hid hnb
  clear hs hnb
  generalize wc = wb at *
  obtain ⟨i0, i1, i2, i3, i4, i5⟩ := HRK.out _ _ _ _ _ HS.out
  go_wp2_with fail
  refine (HOF.out _).mono ?_
  rintro e w2 ⟨lv, pv, xi, ni, ci, xj, nj, cj, rfl, hg⟩
  have HS2 := Lib.hid (HS.out.to hg)
  clear hg HS
  go_upto_region 7 with (refine wpList_store_row rfl 50 _ _ rfl w2.heap.size #[.int .i64 0, .int .i64 lv, .bool pv, .slice xi ni ci, .slice xj nj cj] rfl rfl 50 #[.int .i64 0, .int .i64 0, .bool false, .slice none 0 0, .slice none 0 0] (heap_alloc_new w2 _) infoIf rfl (by kernel_rfl) ?_)
  have HS := Lib.hid (OnS.inf HS2.out #[.int .i64 0, .int .i64 lv, .bool pv, .slice xi ni ci, .slice xj nj cj])
  clear HS2
  generalize (w2.alloc (.cells #[.int .i64 0, .int .i64 0, .bool false, .slice none 0 0, .slice none 0 0] 50)).setRow w2.heap.size #[.int .i64 0, .int .i64 lv, .bool pv, .slice xi ni ci, .slice xj nj cj] = w3 at *
  generalize w2.heap.size = bi at *
  have HR6 := Lib.hid (fun wx x1 n1 c1 L h => OnS.c7 w bi 0 lv pv (.slice xi ni ci) (.slice xj nj cj) op a b lo hi (.slice x n c) wx x1 n1 c1 L h)
  obtain ⟨k0, i0, i1, i2, i3, i4, i5⟩ := HR6.out _ _ _ _ _ HS.out
  go_wp2
  go_ret
  have := HS.out.fin
  rw [← List.append_nil L0] at this
  exact this
set_option maxRecDepth 100000 in
set_option maxHeartbeats 8000000 in
theorem one_1 {op a b lo hi : Int} {l : List Int} {x : Option Addr} {n c : Nat} {w : World} (hop : -9223372036854775808 ≤ op ∧ op ≤ 9223372036854775807) (ha : -9223372036854775808 ≤ a ∧ a ≤ 9223372036854775807) (hlo : 0 ≤ lo ∧ lo < 18446744073709551616) (hhi : 0 ≤ hi ∧ hi < 18446744073709551616) (hn : l.length = n) (hl : n ≤ 4294967296) (hr : LsR w (.slice x n c) l) (hf : fm op = 1) :
  Calls Try.prog 26 #[.agg #[.int .i64 op, .int .i64 a, .int .i64 b, .int .u64 lo, .int .u64 hi, .slice x n c]] w (BYO (opcO op ++ fldO ⟨op, a, b, lo, hi, l⟩ 1) w) := by
 have HU := Lib.hid u_any
 have HOP := Lib.hid hop
 have HA := Lib.hid ha
 have HLO := Lib.hid hlo
 have HHI := Lib.hid hhi
 have HN := Lib.hid hn
 have HL := Lib.hid hl
 have HR := Lib.hid (fun wx (hg : Gr w wx) => lsR_gr hr hg)
 have HOF := Lib.hid (fun wx => (rof_fm op (by omega) wx).mono (show ∀ (e : Ending) (w' : World), OFX op wx e w' → OFY 1 wx e w' from fun e w' ⟨lv, pv, xi, ni, ci, xj, nj, cj, h, hg⟩ => ⟨lv, pv, xi, ni, ci, xj, nj, cj, by rw [h, hf], hg⟩))
 obtain ⟨L0, hL0⟩ : ∃ L, opcO op = L := ⟨_, rfl⟩
 have HL0 := Lib.hid hL0
 rw [hL0]
 clear hop ha hlo hhi hn hl hr hf hL0
 have HRK := Lib.hid (fun wx x1 n1 c1 L h => OnS.c6 w op a b lo hi (.slice x n c) wx x1 n1 c1 L h)
 go_enter Try.func26, Try.ntmps26
 have HS := Lib.hid (OnS.ini w #[.int .i64 op, .int .i64 a, .int .i64 b, .int .u64 lo, .int .u64 hi, .slice x n c])
 have HNB := Lib.hid (show 0 ≤ 0 from Nat.le_refl _)
 go_upto_if 11 with fail
 generalize w.alloc (.cells #[.int .i64 op, .int .i64 a, .int .i64 b, .int .u64 lo, .int .u64 hi, .slice x n c] 38) = w1 at *
 go_cut [3] from 9 (fun bv wx => ∃ (xb : Option Addr) (nb cb : Nat), bv = .slice xb nb cb ∧ OnS w wx [(w.heap.size, #[.int .i64 op, .int .i64 a, .int .i64 b, .int .u64 lo, .int .u64 hi, .slice x n c], 38)] xb nb cb L0 ∧ nb ≤ 100)
 case first => as_aux_lemma =>
  by_cases hbig : 64768 ≤ op
  ·have d0 : decide (op ≥ 64768) = true := decide_eq_true hbig
   have T1 : IntKind.i64.wrap (op - 64768) = op - 64768 := by have := HOP.out; rw [IntKind.wrap_i64]; omega
   have HLQ := Lib.hid (show opcO op = [] ++ [253] ++ formU (uN (op - 64768)) from by unfold opcO; rw [if_pos hbig]; rfl)
   obtain ⟨YU, hYU⟩ : ∃ Y, formU (uN (op - 64768)) = Y := ⟨_, rfl⟩
   have HUX := Lib.hid (fun wx => by have := HU.out (op - 64768) wx; rw [hYU] at this; exact this)
   rw [hYU] at HLQ
   clear hYU
   obtain ⟨i0, i1, i2, i3, i4, i5⟩ := HRK.out _ _ _ _ _ HS.out
   go_wp2_with (first | (at_builtin; refine OnS.apw (Y := [253]) HS.out ((Gr.refl _).alloc _ _) rfl _ _ rfl rfl rfl (src_lit w1 #[.int .u8 253] 5 1 1) rfl 1 (by have := HNB.out; omega) (by decide) ?_))
   intro x11 n11 c11 w11 hb hs
   clear HS HNB
   have HS := Lib.hid hs
   have HNB := Lib.hid hb
   clear hb hs
   obtain ⟨i0, i1, i2, i3, i4, i5⟩ := HRK.out _ _ _ _ _ HS.out
   go_wp2_with fail
   refine OnS.cal HS.out (Gr.refl _) (HUX.out _) ?_
   intro xu mu cu w12 hs hu
   clear HS
   have HS := Lib.hid hs
   have HSU := Lib.hid hu
   clear hs hu
   go_wp2_with (at_builtin; refine OnS.apw (Y := YU) HS.out (Gr.refl _) rfl _ _ rfl rfl rfl HSU.out.1 HSU.out.2.1 11 (by have := HNB.out; have := HSU.out.2.2; omega) (by decide) ?_)
   intro x13 n13 c13 w13 hb hs
   clear HS HNB
   have HS := Lib.hid hs
   have HNB := Lib.hid hb
   clear hb hs
   go_wp2
   go_meet
   exact ⟨_, _, _, rfl, by rw [← HL0.out, HLQ.out]; exact HS.out, by have := HNB.out; omega⟩
  ·have d0 : decide (op ≥ 64768) = false := decide_eq_false (by omega)
   have T1 : IntKind.u8.wrap op = op % 256 := by rw [IntKind.wrap_u8]
   have HLQ := Lib.hid (show opcO op = [] ++ [op % 256] from by unfold opcO; rw [if_neg hbig]; rfl)
   obtain ⟨i0, i1, i2, i3, i4, i5⟩ := HRK.out _ _ _ _ _ HS.out
   go_wp2_with (at_builtin; refine OnS.apw (Y := [(op % 256)]) HS.out ((Gr.refl _).alloc _ _) rfl _ _ rfl rfl rfl (src_lit w1 #[.int .u8 (op % 256)] 5 1 1) rfl 1 (by have := HNB.out; omega) (by decide) ?_)
   intro x21 n21 c21 w21 hb hs
   clear HS HNB
   have HS := Lib.hid hs
   have HNB := Lib.hid hb
   clear hb hs
   go_wp2
   go_meet
   exact ⟨_, _, _, rfl, by rw [← HL0.out, HLQ.out]; exact HS.out, by have := HNB.out; omega⟩
 case rest => as_aux_lemma =>
  obtain ⟨xb, nb, cb, rfl, hs, hnb⟩ := hcut
  clear HS HNB
  have HS := Lib.hid hs
  have HNB := Lib.hid hnb
  clear hs hnb
  generalize wc = wb at *
  obtain ⟨i0, i1, i2, i3, i4, i5⟩ := HRK.out _ _ _ _ _ HS.out
  go_wp2_with fail
  refine (HOF.out _).mono ?_
  rintro e w2 ⟨lv, pv, xi, ni, ci, xj, nj, cj, rfl, hg⟩
  have HS2 := Lib.hid (HS.out.to hg)
  clear hg HS
  go_upto_region 7 with (refine wpList_store_row rfl 50 _ _ rfl w2.heap.size #[.int .i64 1, .int .i64 lv, .bool pv, .slice xi ni ci, .slice xj nj cj] rfl rfl 50 #[.int .i64 0, .int .i64 0, .bool false, .slice none 0 0, .slice none 0 0] (heap_alloc_new w2 _) infoIf rfl (by kernel_rfl) ?_)
  have HS := Lib.hid (OnS.inf HS2.out #[.int .i64 1, .int .i64 lv, .bool pv, .slice xi ni ci, .slice xj nj cj])
  clear HS2
  generalize (w2.alloc (.cells #[.int .i64 0, .int .i64 0, .bool false, .slice none 0 0, .slice none 0 0] 50)).setRow w2.heap.size #[.int .i64 1, .int .i64 lv, .bool pv, .slice xi ni ci, .slice xj nj cj] = w3 at *
  generalize w2.heap.size = bi at *
  have HR6 := Lib.hid (fun wx x1 n1 c1 L h => OnS.c7 w bi 1 lv pv (.slice xi ni ci) (.slice xj nj cj) op a b lo hi (.slice x n c) wx x1 n1 c1 L h)
  obtain ⟨k0, i0, i1, i2, i3, i4, i5⟩ := HR6.out _ _ _ _ _ HS.out
  go_wp2
  go_ret
  have := HS.out.fin
  rw [← List.append_nil L0] at this
  exact this
set_option maxRecDepth 100000 in
set_option maxHeartbeats 8000000 in
theorem one_3 {op a b lo hi : Int} {l : List Int} {x : Option Addr} {n c : Nat} {w : World} (hop : -9223372036854775808 ≤ op ∧ op ≤ 9223372036854775807) (ha : -9223372036854775808 ≤ a ∧ a ≤ 9223372036854775807) (hlo : 0 ≤ lo ∧ lo < 18446744073709551616) (hhi : 0 ≤ hi ∧ hi < 18446744073709551616) (hn : l.length = n) (hl : n ≤ 4294967296) (hr : LsR w (.slice x n c) l) (hf : fm op = 3) :
  Calls Try.prog 26 #[.agg #[.int .i64 op, .int .i64 a, .int .i64 b, .int .u64 lo, .int .u64 hi, .slice x n c]] w (BYO (opcO op ++ fldO ⟨op, a, b, lo, hi, l⟩ 3) w) := by
 have HU := Lib.hid u_any
 have HOP := Lib.hid hop
 have HA := Lib.hid ha
 have HLO := Lib.hid hlo
 have HHI := Lib.hid hhi
 have HN := Lib.hid hn
 have HL := Lib.hid hl
 have HR := Lib.hid (fun wx (hg : Gr w wx) => lsR_gr hr hg)
 have HOF := Lib.hid (fun wx => (rof_fm op (by omega) wx).mono (show ∀ (e : Ending) (w' : World), OFX op wx e w' → OFY 3 wx e w' from fun e w' ⟨lv, pv, xi, ni, ci, xj, nj, cj, h, hg⟩ => ⟨lv, pv, xi, ni, ci, xj, nj, cj, by rw [h, hf], hg⟩))
 obtain ⟨L0, hL0⟩ : ∃ L, opcO op = L := ⟨_, rfl⟩
 have HL0 := Lib.hid hL0
 rw [hL0]
 clear hop ha hlo hhi hn hl hr hf hL0
 have HRK := Lib.hid (fun wx x1 n1 c1 L h => OnS.c6 w op a b lo hi (.slice x n c) wx x1 n1 c1 L h)
 go_enter Try.func26, Try.ntmps26
 have HS := Lib.hid (OnS.ini w #[.int .i64 op, .int .i64 a, .int .i64 b, .int .u64 lo, .int .u64 hi, .slice x n c])
 have HNB := Lib.hid (show 0 ≤ 0 from Nat.le_refl _)
 go_upto_if 11 with fail
 generalize w.alloc (.cells #[.int .i64 op, .int .i64 a, .int .i64 b, .int .u64 lo, .int .u64 hi, .slice x n c] 38) = w1 at *
 go_cut [3] from 9 (fun bv wx => ∃ (xb : Option Addr) (nb cb : Nat), bv = .slice xb nb cb ∧ OnS w wx [(w.heap.size, #[.int .i64 op, .int .i64 a, .int .i64 b, .int .u64 lo, .int .u64 hi, .slice x n c], 38)] xb nb cb L0 ∧ nb ≤ 100)
 case first => as_aux_lemma =>
  by_cases hbig : 64768 ≤ op
  ·have d0 : decide (op ≥ 64768) = true := decide_eq_true hbig
   have T1 : IntKind.i64.wrap (op - 64768) = op - 64768 := by have := HOP.out; rw [IntKind.wrap_i64]; omega
   have HLQ := Lib.hid (show opcO op = [] ++ [253] ++ formU (uN (op - 64768)) from by unfold opcO; rw [if_pos hbig]; rfl)
   obtain ⟨YU, hYU⟩ : ∃ Y, formU (uN (op - 64768)) = Y := ⟨_, rfl⟩
   have HUX := Lib.hid (fun wx => by have := HU.out (op - 64768) wx; rw [hYU] at this; exact this)
   rw [hYU] at HLQ
   clear hYU
   obtain ⟨i0, i1, i2, i3, i4, i5⟩ := HRK.out _ _ _ _ _ HS.out
   go_wp2_with (first | (at_builtin; refine OnS.apw (Y := [253]) HS.out ((Gr.refl _).alloc _ _) rfl _ _ rfl rfl rfl (src_lit w1 #[.int .u8 253] 5 1 1) rfl 1 (by have := HNB.out; omega) (by decide) ?_))
   intro x11 n11 c11 w11 hb hs
   clear HS HNB
   have HS := Lib.hid hs
   have HNB := Lib.hid hb
   clear hb hs
   obtain ⟨i0, i1, i2, i3, i4, i5⟩ := HRK.out _ _ _ _ _ HS.out
   go_wp2_with fail
   refine OnS.cal HS.out (Gr.refl _) (HUX.out _) ?_
   intro xu mu cu w12 hs hu
   clear HS
   have HS := Lib.hid hs
   have HSU := Lib.hid hu
   clear hs hu
   go_wp2_with (at_builtin; refine OnS.apw (Y := YU) HS.out (Gr.refl _) rfl _ _ rfl rfl rfl HSU.out.1 HSU.out.2.1 11 (by have := HNB.out; have := HSU.out.2.2; omega) (by decide) ?_)
   intro x13 n13 c13 w13 hb hs
   clear HS HNB
   have HS := Lib.hid hs
   have HNB := Lib.hid hb
   clear hb hs
   go_wp2
   go_meet
   exact ⟨_, _, _, rfl, by rw [← HL0.out, HLQ.out]; exact HS.out, by have := HNB.out; omega⟩
  ·have d0 : decide (op ≥ 64768) = false := decide_eq_false (by omega)
   have T1 : IntKind.u8.wrap op = op % 256 := by rw [IntKind.wrap_u8]
   have HLQ := Lib.hid (show opcO op = [] ++ [op % 256] from by unfold opcO; rw [if_neg hbig]; rfl)
   obtain ⟨i0, i1, i2, i3, i4, i5⟩ := HRK.out _ _ _ _ _ HS.out
   go_wp2_with (at_builtin; refine OnS.apw (Y := [(op % 256)]) HS.out ((Gr.refl _).alloc _ _) rfl _ _ rfl rfl rfl (src_lit w1 #[.int .u8 (op % 256)] 5 1 1) rfl 1 (by have := HNB.out; omega) (by decide) ?_)
   intro x21 n21 c21 w21 hb hs
   clear HS HNB
   have HS := Lib.hid hs
   have HNB := Lib.hid hb
   clear hb hs
   go_wp2
   go_meet
   exact ⟨_, _, _, rfl, by rw [← HL0.out, HLQ.out]; exact HS.out, by have := HNB.out; omega⟩
 case rest => as_aux_lemma =>
  obtain ⟨xb, nb, cb, rfl, hs, hnb⟩ := hcut
  clear HS HNB
  have HS := Lib.hid hs
  have HNB := Lib.hid hnb
  clear hs hnb
  generalize wc = wb at *
  obtain ⟨i0, i1, i2, i3, i4, i5⟩ := HRK.out _ _ _ _ _ HS.out
  go_wp2_with fail
  refine (HOF.out _).mono ?_
  rintro e w2 ⟨lv, pv, xi, ni, ci, xj, nj, cj, rfl, hg⟩
  have HS2 := Lib.hid (HS.out.to hg)
  clear hg HS
  go_upto_region 7 with (refine wpList_store_row rfl 50 _ _ rfl w2.heap.size #[.int .i64 3, .int .i64 lv, .bool pv, .slice xi ni ci, .slice xj nj cj] rfl rfl 50 #[.int .i64 0, .int .i64 0, .bool false, .slice none 0 0, .slice none 0 0] (heap_alloc_new w2 _) infoIf rfl (by kernel_rfl) ?_)
  have HS := Lib.hid (OnS.inf HS2.out #[.int .i64 3, .int .i64 lv, .bool pv, .slice xi ni ci, .slice xj nj cj])
  clear HS2
  generalize (w2.alloc (.cells #[.int .i64 0, .int .i64 0, .bool false, .slice none 0 0, .slice none 0 0] 50)).setRow w2.heap.size #[.int .i64 3, .int .i64 lv, .bool pv, .slice xi ni ci, .slice xj nj cj] = w3 at *
  generalize w2.heap.size = bi at *
  have HR6 := Lib.hid (fun wx x1 n1 c1 L h => OnS.c7 w bi 3 lv pv (.slice xi ni ci) (.slice xj nj cj) op a b lo hi (.slice x n c) wx x1 n1 c1 L h)
  obtain ⟨k0, i0, i1, i2, i3, i4, i5⟩ := HR6.out _ _ _ _ _ HS.out
  obtain ⟨YU, hYU⟩ : ∃ Y, formU (uN a) = Y := ⟨_, rfl⟩
  have HUX := Lib.hid (fun wx => by have := HU.out a wx; rw [hYU] at this; exact this)
  have HFO := Lib.hid (show fldO ⟨op, a, b, lo, hi, l⟩ 3 = YU from hYU)
  clear hYU
  go_wp2_with fail
  refine OnS.cal HS.out (Gr.refl _) (HUX.out _) ?_
  intro xu mu cu w22 hs hu
  clear HS
  have HS := Lib.hid hs
  have HSU := Lib.hid hu
  clear hs hu
  go_wp2_with (at_builtin; refine OnS.apw (Y := YU) HS.out (Gr.refl _) rfl _ _ rfl rfl rfl HSU.out.1 HSU.out.2.1 110 (by have := HNB.out; have := HSU.out.2.2; omega) (by decide) ?_)
  intro x23 n23 c23 w23 hb hs
  clear HS HNB
  have HS := Lib.hid hs
  have HNB := Lib.hid hb
  clear hb hs
  go_wp2
  go_ret
  rw [HFO.out]
  exact HS.out.fin
set_option maxRecDepth 100000 in
set_option maxHeartbeats 8000000 in
theorem one_5 {op a b lo hi : Int} {l : List Int} {x : Option Addr} {n c : Nat} {w : World} (hop : -9223372036854775808 ≤ op ∧ op ≤ 9223372036854775807) (ha : -9223372036854775808 ≤ a ∧ a ≤ 9223372036854775807) (hlo : 0 ≤ lo ∧ lo < 18446744073709551616) (hhi : 0 ≤ hi ∧ hi < 18446744073709551616) (hn : l.length = n) (hl : n ≤ 4294967296) (hr : LsR w (.slice x n c) l) (hf : fm op = 5) :
  Calls Try.prog 26 #[.agg #[.int .i64 op, .int .i64 a, .int .i64 b, .int .u64 lo, .int .u64 hi, .slice x n c]] w (BYO (opcO op ++ fldO ⟨op, a, b, lo, hi, l⟩ 5) w) := by
 have HU := Lib.hid u_any
 have HOP := Lib.hid hop
 have HA := Lib.hid ha
 have HLO := Lib.hid hlo
 have HHI := Lib.hid hhi
 have HN := Lib.hid hn
 have HL := Lib.hid hl
 have HR := Lib.hid (fun wx (hg : Gr w wx) => lsR_gr hr hg)
 have HOF := Lib.hid (fun wx => (rof_fm op (by omega) wx).mono (show ∀ (e : Ending) (w' : World), OFX op wx e w' → OFY 5 wx e w' from fun e w' ⟨lv, pv, xi, ni, ci, xj, nj, cj, h, hg⟩ => ⟨lv, pv, xi, ni, ci, xj, nj, cj, by rw [h, hf], hg⟩))
 obtain ⟨L0, hL0⟩ : ∃ L, opcO op = L := ⟨_, rfl⟩
 have HL0 := Lib.hid hL0
 rw [hL0]
 clear hop ha hlo hhi hn hl hr hf hL0
 have HRK := Lib.hid (fun wx x1 n1 c1 L h => OnS.c6 w op a b lo hi (.slice x n c) wx x1 n1 c1 L h)
 go_enter Try.func26, Try.ntmps26
 have HS := Lib.hid (OnS.ini w #[.int .i64 op, .int .i64 a, .int .i64 b, .int .u64 lo, .int .u64 hi, .slice x n c])
 have HNB := Lib.hid (show 0 ≤ 0 from Nat.le_refl _)
 go_upto_if 11 with fail
 generalize w.alloc (.cells #[.int .i64 op, .int .i64 a, .int .i64 b, .int .u64 lo, .int .u64 hi, .slice x n c] 38) = w1 at *
 go_cut [3] from 9 (fun bv wx => ∃ (xb : Option Addr) (nb cb : Nat), bv = .slice xb nb cb ∧ OnS w wx [(w.heap.size, #[.int .i64 op, .int .i64 a, .int .i64 b, .int .u64 lo, .int .u64 hi, .slice x n c], 38)] xb nb cb L0 ∧ nb ≤ 100)
 case first => as_aux_lemma =>
  by_cases hbig : 64768 ≤ op
  ·have d0 : decide (op ≥ 64768) = true := decide_eq_true hbig
   have T1 : IntKind.i64.wrap (op - 64768) = op - 64768 := by have := HOP.out; rw [IntKind.wrap_i64]; omega
   have HLQ := Lib.hid (show opcO op = [] ++ [253] ++ formU (uN (op - 64768)) from by unfold opcO; rw [if_pos hbig]; rfl)
   obtain ⟨YU, hYU⟩ : ∃ Y, formU (uN (op - 64768)) = Y := ⟨_, rfl⟩
   have HUX := Lib.hid (fun wx => by have := HU.out (op - 64768) wx; rw [hYU] at this; exact this)
   rw [hYU] at HLQ
   clear hYU
   obtain ⟨i0, i1, i2, i3, i4, i5⟩ := HRK.out _ _ _ _ _ HS.out
   go_wp2_with (first | (at_builtin; refine OnS.apw (Y := [253]) HS.out ((Gr.refl _).alloc _ _) rfl _ _ rfl rfl rfl (src_lit w1 #[.int .u8 253] 5 1 1) rfl 1 (by have := HNB.out; omega) (by decide) ?_))
   intro x11 n11 c11 w11 hb hs
   clear HS HNB
   have HS := Lib.hid hs
   have HNB := Lib.hid hb
   clear hb hs
   obtain ⟨i0, i1, i2, i3, i4, i5⟩ := HRK.out _ _ _ _ _ HS.out
   go_wp2_with fail
   refine OnS.cal HS.out (Gr.refl _) (HUX.out _) ?_
   intro xu mu cu w12 hs hu
   clear HS
   have HS := Lib.hid hs
   have HSU := Lib.hid hu
   clear hs hu
   go_wp2_with (at_builtin; refine OnS.apw (Y := YU) HS.out (Gr.refl _) rfl _ _ rfl rfl rfl HSU.out.1 HSU.out.2.1 11 (by have := HNB.out; have := HSU.out.2.2; omega) (by decide) ?_)
   intro x13 n13 c13 w13 hb hs
   clear HS HNB
   have HS := Lib.hid hs
   have HNB := Lib.hid hb
   clear hb hs
   go_wp2
   go_meet
   exact ⟨_, _, _, rfl, by rw [← HL0.out, HLQ.out]; exact HS.out, by have := HNB.out; omega⟩
  ·have d0 : decide (op ≥ 64768) = false := decide_eq_false (by omega)
   have T1 : IntKind.u8.wrap op = op % 256 := by rw [IntKind.wrap_u8]
   have HLQ := Lib.hid (show opcO op = [] ++ [op % 256] from by unfold opcO; rw [if_neg hbig]; rfl)
   obtain ⟨i0, i1, i2, i3, i4, i5⟩ := HRK.out _ _ _ _ _ HS.out
   go_wp2_with (at_builtin; refine OnS.apw (Y := [(op % 256)]) HS.out ((Gr.refl _).alloc _ _) rfl _ _ rfl rfl rfl (src_lit w1 #[.int .u8 (op % 256)] 5 1 1) rfl 1 (by have := HNB.out; omega) (by decide) ?_)
   intro x21 n21 c21 w21 hb hs
   clear HS HNB
   have HS := Lib.hid hs
   have HNB := Lib.hid hb
   clear hb hs
   go_wp2
   go_meet
   exact ⟨_, _, _, rfl, by rw [← HL0.out, HLQ.out]; exact HS.out, by have := HNB.out; omega⟩
 case rest => as_aux_lemma =>
  obtain ⟨xb, nb, cb, rfl, hs, hnb⟩ := hcut
  clear HS HNB
  have HS := Lib.hid hs
  have HNB := Lib.hid hnb
  clear hs hnb
  generalize wc = wb at *
  obtain ⟨i0, i1, i2, i3, i4, i5⟩ := HRK.out _ _ _ _ _ HS.out
  go_wp2_with fail
  refine (HOF.out _).mono ?_
  rintro e w2 ⟨lv, pv, xi, ni, ci, xj, nj, cj, rfl, hg⟩
  have HS2 := Lib.hid (HS.out.to hg)
  clear hg HS
  go_upto_region 7 with (refine wpList_store_row rfl 50 _ _ rfl w2.heap.size #[.int .i64 5, .int .i64 lv, .bool pv, .slice xi ni ci, .slice xj nj cj] rfl rfl 50 #[.int .i64 0, .int .i64 0, .bool false, .slice none 0 0, .slice none 0 0] (heap_alloc_new w2 _) infoIf rfl (by kernel_rfl) ?_)
  have HS := Lib.hid (OnS.inf HS2.out #[.int .i64 5, .int .i64 lv, .bool pv, .slice xi ni ci, .slice xj nj cj])
  clear HS2
  generalize (w2.alloc (.cells #[.int .i64 0, .int .i64 0, .bool false, .slice none 0 0, .slice none 0 0] 50)).setRow w2.heap.size #[.int .i64 5, .int .i64 lv, .bool pv, .slice xi ni ci, .slice xj nj cj] = w3 at *
  generalize w2.heap.size = bi at *
  have HR6 := Lib.hid (fun wx x1 n1 c1 L h => OnS.c7 w bi 5 lv pv (.slice xi ni ci) (.slice xj nj cj) op a b lo hi (.slice x n c) wx x1 n1 c1 L h)
  obtain ⟨k0, i0, i1, i2, i3, i4, i5⟩ := HR6.out _ _ _ _ _ HS.out
  obtain ⟨YU, hYU⟩ : ∃ Y, formU (uN a) = Y := ⟨_, rfl⟩
  have HUX := Lib.hid (fun wx => by have := HU.out a wx; rw [hYU] at this; exact this)
  have HFO := Lib.hid (show fldO ⟨op, a, b, lo, hi, l⟩ 5 = YU from hYU)
  clear hYU
  go_wp2_with fail
  refine OnS.cal HS.out (Gr.refl _) (HUX.out _) ?_
  intro xu mu cu w22 hs hu
  clear HS
  have HS := Lib.hid hs
  have HSU := Lib.hid hu
  clear hs hu
  go_wp2_with (at_builtin; refine OnS.apw (Y := YU) HS.out (Gr.refl _) rfl _ _ rfl rfl rfl HSU.out.1 HSU.out.2.1 110 (by have := HNB.out; have := HSU.out.2.2; omega) (by decide) ?_)
  intro x23 n23 c23 w23 hb hs
  clear HS HNB
  have HS := Lib.hid hs
  have HNB := Lib.hid hb
  clear hb hs
  go_wp2
  go_ret
  rw [HFO.out]
  exact HS.out.fin
end Ex
end
section
open Go.RowKit VecM LebM
namespace Ex
set_option maxRecDepth 100000 in
set_option maxHeartbeats 8000000 in
theorem one_2 {op a b lo hi : Int} {l : List Int} {x : Option Addr} {n c : Nat} {w : World} (hop : -9223372036854775808 ≤ op ∧ op ≤ 9223372036854775807) (ha : -9223372036854775808 ≤ a ∧ a ≤ 9223372036854775807) (hlo : 0 ≤ lo ∧ lo < 18446744073709551616) (hhi : 0 ≤ hi ∧ hi < 18446744073709551616) (hn : l.length = n) (hl : n ≤ 4294967296) (hr : LsR w (.slice x n c) l) (hf : fm op = 2) :
  Calls Try.prog 26 #[.agg #[.int .i64 op, .int .i64 a, .int .i64 b, .int .u64 lo, .int .u64 hi, .slice x n c]] w (BYO (opcO op ++ fldO ⟨op, a, b, lo, hi, l⟩ 2) w) := by
 have HU := Lib.hid u_any
 have HOP := Lib.hid hop
 have HA := Lib.hid ha
 have HLO := Lib.hid hlo
 have HHI := Lib.hid hhi
 have HN := Lib.hid hn
 have HL := Lib.hid hl
 have HR := Lib.hid (fun wx (hg : Gr w wx) => lsR_gr hr hg)
 have HOF := Lib.hid (fun wx => (rof_fm op (by omega) wx).mono (show ∀ (e : Ending) (w' : World), OFX op wx e w' → OFY 2 wx e w' from fun e w' ⟨lv, pv, xi, ni, ci, xj, nj, cj, h, hg⟩ => ⟨lv, pv, xi, ni, ci, xj, nj, cj, by rw [h, hf], hg⟩))
 obtain ⟨L0, hL0⟩ : ∃ L, opcO op = L := ⟨_, rfl⟩
 have HL0 := Lib.hid hL0
 rw [hL0]
 clear hop ha hlo hhi hn hl hr hf hL0
 have HRK := Lib.hid (fun wx x1 n1 c1 L h => OnS.c6 w op a b lo hi (.slice x n c) wx x1 n1 c1 L h)
 go_enter Try.func26, Try.ntmps26
 have HS := Lib.hid (OnS.ini w #[.int .i64 op, .int .i64 a, .int .i64 b, .int .u64 lo, .int .u64 hi, .slice x n c])
 have HNB := Lib.hid (show 0 ≤ 0 from Nat.le_refl _)
 go_upto_if 11 with fail
 generalize w.alloc (.cells #[.int .i64 op, .int .i64 a, .int .i64 b, .int .u64 lo, .int .u64 hi, .slice x n c] 38) = w1 at *
 go_cut [3] from 9 (fun bv wx => ∃ (xb : Option Addr) (nb cb : Nat), bv = .slice xb nb cb ∧ OnS w wx [(w.heap.size, #[.int .i64 op, .int .i64 a, .int .i64 b, .int .u64 lo, .int .u64 hi, .slice x n c], 38)] xb nb cb L0 ∧ nb ≤ 100)
 case first => as_aux_lemma =>
  by_cases hbig : 64768 ≤ op
  ·have d0 : decide (op ≥ 64768) = true := decide_eq_true hbig
   have T1 : IntKind.i64.wrap (op - 64768) = op - 64768 := by have := HOP.out; rw [IntKind.wrap_i64]; omega
   have HLQ := Lib.hid (show opcO op = [] ++ [253] ++ formU (uN (op - 64768)) from by unfold opcO; rw [if_pos hbig]; rfl)
   obtain ⟨YU, hYU⟩ : ∃ Y, formU (uN (op - 64768)) = Y := ⟨_, rfl⟩
   have HUX := Lib.hid (fun wx => by have := HU.out (op - 64768) wx; rw [hYU] at this; exact this)
   rw [hYU] at HLQ
   clear hYU
   obtain ⟨i0, i1, i2, i3, i4, i5⟩ := HRK.out _ _ _ _ _ HS.out
   go_wp2_with (first | (at_builtin; refine OnS.apw (Y := [253]) HS.out ((Gr.refl _).alloc _ _) rfl _ _ rfl rfl rfl (src_lit w1 #[.int .u8 253] 5 1 1) rfl 1 (by have := HNB.out; omega) (by decide) ?_))
   intro x11 n11 c11 w11 hb hs
   clear HS HNB
   have HS := Lib.hid hs
   have HNB := Lib.hid hb
   clear hb hs
   obtain ⟨i0, i1, i2, i3, i4, i5⟩ := HRK.out _ _ _ _ _ HS.out
   go_wp2_with fail
   refine OnS.cal HS.out (Gr.refl _) (HUX.out _) ?_
   intro xu mu cu w12 hs hu
   clear HS
   have HS := Lib.hid hs
   have HSU := Lib.hid hu
   clear hs hu
   go_wp2_with (at_builtin; refine OnS.apw (Y := YU) HS.out (Gr.refl _) rfl _ _ rfl rfl rfl HSU.out.1 HSU.out.2.1 11 (by have := HNB.out; have := HSU.out.2.2; omega) (by decide) ?_)
   intro x13 n13 c13 w13 hb hs
   clear HS HNB
   have HS := Lib.hid hs
   have HNB := Lib.hid hb
   clear hb hs
   go_wp2
   go_meet
   exact ⟨_, _, _, rfl, by rw [← HL0.out, HLQ.out]; exact HS.out, by have := HNB.out; omega⟩
  ·have d0 : decide (op ≥ 64768) = false := decide_eq_false (by omega)
   have T1 : IntKind.u8.wrap op = op % 256 := by rw [IntKind.wrap_u8]
   have HLQ := Lib.hid (show opcO op = [] ++ [op % 256] from by unfold opcO; rw [if_neg hbig]; rfl)
   obtain ⟨i0, i1, i2, i3, i4, i5⟩ := HRK.out _ _ _ _ _ HS.out
   go_wp2_with (at_builtin; refine OnS.apw (Y := [(op % 256)]) HS.out ((Gr.refl _).alloc _ _) rfl _ _ rfl rfl rfl (src_lit w1 #[.int .u8 (op % 256)] 5 1 1) rfl 1 (by have := HNB.out; omega) (by decide) ?_)
   intro x21 n21 c21 w21 hb hs
   clear HS HNB
   have HS := Lib.hid hs
   have HNB := Lib.hid hb
   clear hb hs
   go_wp2
   go_meet
   exact ⟨_, _, _, rfl, by rw [← HL0.out, HLQ.out]; exact HS.out, by have := HNB.out; omega⟩
 case rest => as_aux_lemma =>
  obtain ⟨xb, nb, cb, rfl, hs, hnb⟩ := hcut
  clear HS HNB
  have HS := Lib.hid hs
  have HNB := Lib.hid hnb
  clear hs hnb
  generalize wc = wb at *
  obtain ⟨i0, i1, i2, i3, i4, i5⟩ := HRK.out _ _ _ _ _ HS.out
  go_wp2_with fail
  refine (HOF.out _).mono ?_
  rintro e w2 ⟨lv, pv, xi, ni, ci, xj, nj, cj, rfl, hg⟩
  have HS2 := Lib.hid (HS.out.to hg)
  clear hg HS
  go_upto_region 7 with (refine wpList_store_row rfl 50 _ _ rfl w2.heap.size #[.int .i64 2, .int .i64 lv, .bool pv, .slice xi ni ci, .slice xj nj cj] rfl rfl 50 #[.int .i64 0, .int .i64 0, .bool false, .slice none 0 0, .slice none 0 0] (heap_alloc_new w2 _) infoIf rfl (by kernel_rfl) ?_)
  have HS := Lib.hid (OnS.inf HS2.out #[.int .i64 2, .int .i64 lv, .bool pv, .slice xi ni ci, .slice xj nj cj])
  clear HS2
  generalize (w2.alloc (.cells #[.int .i64 0, .int .i64 0, .bool false, .slice none 0 0, .slice none 0 0] 50)).setRow w2.heap.size #[.int .i64 2, .int .i64 lv, .bool pv, .slice xi ni ci, .slice xj nj cj] = w3 at *
  generalize w2.heap.size = bi at *
  have HR6 := Lib.hid (fun wx x1 n1 c1 L h => OnS.c7 w bi 2 lv pv (.slice xi ni ci) (.slice xj nj cj) op a b lo hi (.slice x n c) wx x1 n1 c1 L h)
  obtain ⟨k0, i0, i1, i2, i3, i4, i5⟩ := HR6.out _ _ _ _ _ HS.out
  by_cases h0 : a < 0
  ·have d0 : decide (a < 0) = true := decide_eq_true h0
   have T1 : IntKind.i64.wrap (a + 128) = a + 128 := by have := HA.out; rw [IntKind.wrap_i64]; omega
   have T2 : IntKind.u8.wrap (a + 128) = (a + 128) % 256 := by rw [IntKind.wrap_u8]
   have HFO := Lib.hid (show fldO ⟨op, a, b, lo, hi, l⟩ 2 = [(a + 128) % 256] from if_pos h0)
   clear h0
   go_wp2_with (at_builtin; refine OnS.apw (Y := [((a + 128) % 256)]) HS.out ((Gr.refl _).alloc _ _) rfl _ _ rfl rfl rfl (src_lit w3 #[.int .u8 ((a + 128) % 256)] 5 1 1) rfl 101 (by have := HNB.out; omega) (by decide) ?_)
   intro x22 n22 c22 w22 hb hs
   clear HS HNB
   have HS := Lib.hid hs
   have HNB := Lib.hid hb
   clear hb hs
   go_wp2
   go_ret
   rw [HFO.out]
   exact HS.out.fin
  ·have d0 : decide (a < 0) = false := decide_eq_false h0
   have HFO0 : fldO ⟨op, a, b, lo, hi, l⟩ 2 = formS a := if_neg h0
   have HPX0 := fun wx => rputs1 (w := World.alloc wx (.cells #[.int .i64 a] 2)) (b := wx.heap.size) (n := a) HA.out (heap_alloc_new wx _)
   obtain ⟨YU, hYU⟩ : ∃ Y, formS a = Y := ⟨_, rfl⟩
   rw [hYU] at HFO0 HPX0
   have HFO := Lib.hid HFO0
   have HPX := Lib.hid HPX0
   clear h0 hYU HFO0 HPX0
   go_wp2_with fail
   refine OnS.cal HS.out ((Gr.refl w3).alloc _ _) (HPX.out w3) ?_
   intro xu mu cu w23 hs hu
   clear HS
   have HS := Lib.hid hs
   have HSU := Lib.hid hu
   clear hs hu
   go_wp2_with (at_builtin; refine OnS.apw (Y := YU) HS.out (Gr.refl _) rfl _ _ rfl rfl rfl HSU.out.1 HSU.out.2.1 110 (by have := HNB.out; have := HSU.out.2.2; omega) (by decide) ?_)
   intro x24 n24 c24 w24 hb hs
   clear HS HNB
   have HS := Lib.hid hs
   have HNB := Lib.hid hb
   clear hb hs
   go_wp2
   go_ret
   rw [HFO.out]
   exact HS.out.fin
set_option maxRecDepth 100000 in
set_option maxHeartbeats 8000000 in
theorem one_13 {op a b lo hi : Int} {l : List Int} {x : Option Addr} {n c : Nat} {w : World} (hop : -9223372036854775808 ≤ op ∧ op ≤ 9223372036854775807) (ha : -9223372036854775808 ≤ a ∧ a ≤ 9223372036854775807) (hlo : 0 ≤ lo ∧ lo < 18446744073709551616) (hhi : 0 ≤ hi ∧ hi < 18446744073709551616) (hn : l.length = n) (hl : n ≤ 4294967296) (hr : LsR w (.slice x n c) l) (hf : fm op = 13) :
  Calls Try.prog 26 #[.agg #[.int .i64 op, .int .i64 a, .int .i64 b, .int .u64 lo, .int .u64 hi, .slice x n c]] w (BYO (opcO op ++ fldO ⟨op, a, b, lo, hi, l⟩ 13) w) := by
 have HU := Lib.hid u_any
 have HOP := Lib.hid hop
 have HA := Lib.hid ha
 have HLO := Lib.hid hlo
 have HHI := Lib.hid hhi
 have HN := Lib.hid hn
 have HL := Lib.hid hl
 have HR := Lib.hid (fun wx (hg : Gr w wx) => lsR_gr hr hg)
 have HOF := Lib.hid (fun wx => (rof_fm op (by omega) wx).mono (show ∀ (e : Ending) (w' : World), OFX op wx e w' → OFY 13 wx e w' from fun e w' ⟨lv, pv, xi, ni, ci, xj, nj, cj, h, hg⟩ => ⟨lv, pv, xi, ni, ci, xj, nj, cj, by rw [h, hf], hg⟩))
 obtain ⟨L0, hL0⟩ : ∃ L, opcO op = L := ⟨_, rfl⟩
 have HL0 := Lib.hid hL0
 rw [hL0]
 clear hop ha hlo hhi hn hl hr hf hL0
 have HRK := Lib.hid (fun wx x1 n1 c1 L h => OnS.c6 w op a b lo hi (.slice x n c) wx x1 n1 c1 L h)
 go_enter Try.func26, Try.ntmps26
 have HS := Lib.hid (OnS.ini w #[.int .i64 op, .int .i64 a, .int .i64 b, .int .u64 lo, .int .u64 hi, .slice x n c])
 have HNB := Lib.hid (show 0 ≤ 0 from Nat.le_refl _)
 go_upto_if 11 with fail
 generalize w.alloc (.cells #[.int .i64 op, .int .i64 a, .int .i64 b, .int .u64 lo, .int .u64 hi, .slice x n c] 38) = w1 at *
 go_cut [3] from 9 (fun bv wx => ∃ (xb : Option Addr) (nb cb : Nat), bv = .slice xb nb cb ∧ OnS w wx [(w.heap.size, #[.int .i64 op, .int .i64 a, .int .i64 b, .int .u64 lo, .int .u64 hi, .slice x n c], 38)] xb nb cb L0 ∧ nb ≤ 100)
 case first => as_aux_lemma =>
  by_cases hbig : 64768 ≤ op
  ·have d0 : decide (op ≥ 64768) = true := decide_eq_true hbig
   have T1 : IntKind.i64.wrap (op - 64768) = op - 64768 := by have := HOP.out; rw [IntKind.wrap_i64]; omega
   have HLQ := Lib.hid (show opcO op = [] ++ [253] ++ formU (uN (op - 64768)) from by unfold opcO; rw [if_pos hbig]; rfl)
   obtain ⟨YU, hYU⟩ : ∃ Y, formU (uN (op - 64768)) = Y := ⟨_, rfl⟩
   have HUX := Lib.hid (fun wx => by have := HU.out (op - 64768) wx; rw [hYU] at this; exact this)
   rw [hYU] at HLQ
   clear hYU
   obtain ⟨i0, i1, i2, i3, i4, i5⟩ := HRK.out _ _ _ _ _ HS.out
   go_wp2_with (first | (at_builtin; refine OnS.apw (Y := [253]) HS.out ((Gr.refl _).alloc _ _) rfl _ _ rfl rfl rfl (src_lit w1 #[.int .u8 253] 5 1 1) rfl 1 (by have := HNB.out; omega) (by decide) ?_))
   intro x11 n11 c11 w11 hb hs
   clear HS HNB
   have HS := Lib.hid hs
   have HNB := Lib.hid hb
   clear hb hs
   obtain ⟨i0, i1, i2, i3, i4, i5⟩ := HRK.out _ _ _ _ _ HS.out
   go_wp2_with fail
   refine OnS.cal HS.out (Gr.refl _) (HUX.out _) ?_
   intro xu mu cu w12 hs hu
   clear HS
   have HS := Lib.hid hs
   have HSU := Lib.hid hu
   clear hs hu
   go_wp2_with (at_builtin; refine OnS.apw (Y := YU) HS.out (Gr.refl _) rfl _ _ rfl rfl rfl HSU.out.1 HSU.out.2.1 11 (by have := HNB.out; have := HSU.out.2.2; omega) (by decide) ?_)
   intro x13 n13 c13 w13 hb hs
   clear HS HNB
   have HS := Lib.hid hs
   have HNB := Lib.hid hb
   clear hb hs
   go_wp2
   go_meet
   exact ⟨_, _, _, rfl, by rw [← HL0.out, HLQ.out]; exact HS.out, by have := HNB.out; omega⟩
  ·have d0 : decide (op ≥ 64768) = false := decide_eq_false (by omega)
   have T1 : IntKind.u8.wrap op = op % 256 := by rw [IntKind.wrap_u8]
   have HLQ := Lib.hid (show opcO op = [] ++ [op % 256] from by unfold opcO; rw [if_neg hbig]; rfl)
   obtain ⟨i0, i1, i2, i3, i4, i5⟩ := HRK.out _ _ _ _ _ HS.out
   go_wp2_with (at_builtin; refine OnS.apw (Y := [(op % 256)]) HS.out ((Gr.refl _).alloc _ _) rfl _ _ rfl rfl rfl (src_lit w1 #[.int .u8 (op % 256)] 5 1 1) rfl 1 (by have := HNB.out; omega) (by decide) ?_)
   intro x21 n21 c21 w21 hb hs
   clear HS HNB
   have HS := Lib.hid hs
   have HNB := Lib.hid hb
   clear hb hs
   go_wp2
   go_meet
   exact ⟨_, _, _, rfl, by rw [← HL0.out, HLQ.out]; exact HS.out, by have := HNB.out; omega⟩
 case rest => as_aux_lemma =>
  obtain ⟨xb, nb, cb, rfl, hs, hnb⟩ := hcut
  clear HS HNB
  have HS := Lib.hid hs
  have HNB := Lib.hid hnb
  clear hs hnb
  generalize wc = wb at *
  obtain ⟨i0, i1, i2, i3, i4, i5⟩ := HRK.out _ _ _ _ _ HS.out
  go_wp2_with fail
  refine (HOF.out _).mono ?_
  rintro e w2 ⟨lv, pv, xi, ni, ci, xj, nj, cj, rfl, hg⟩
  have HS2 := Lib.hid (HS.out.to hg)
  clear hg HS
  go_upto_region 7 with (refine wpList_store_row rfl 50 _ _ rfl w2.heap.size #[.int .i64 13, .int .i64 lv, .bool pv, .slice xi ni ci, .slice xj nj cj] rfl rfl 50 #[.int .i64 0, .int .i64 0, .bool false, .slice none 0 0, .slice none 0 0] (heap_alloc_new w2 _) infoIf rfl (by kernel_rfl) ?_)
  have HS := Lib.hid (OnS.inf HS2.out #[.int .i64 13, .int .i64 lv, .bool pv, .slice xi ni ci, .slice xj nj cj])
  clear HS2
  generalize (w2.alloc (.cells #[.int .i64 0, .int .i64 0, .bool false, .slice none 0 0, .slice none 0 0] 50)).setRow w2.heap.size #[.int .i64 13, .int .i64 lv, .bool pv, .slice xi ni ci, .slice xj nj cj] = w3 at *
  generalize w2.heap.size = bi at *
  have HR6 := Lib.hid (fun wx x1 n1 c1 L h => OnS.c7 w bi 13 lv pv (.slice xi ni ci) (.slice xj nj cj) op a b lo hi (.slice x n c) wx x1 n1 c1 L h)
  obtain ⟨k0, i0, i1, i2, i3, i4, i5⟩ := HR6.out _ _ _ _ _ HS.out
  have T1 : IntKind.u8.wrap a = a % 256 := by rw [IntKind.wrap_u8]
  go_wp2_with (at_builtin; refine OnS.apw (Y := [(a % 256)]) HS.out ((Gr.refl _).alloc _ _) rfl _ _ rfl rfl rfl (src_lit w3 #[.int .u8 (a % 256)] 5 1 1) rfl 101 (by have := HNB.out; omega) (by decide) ?_)
  intro x22 n22 c22 w22 hb hs
  clear HS HNB
  have HS := Lib.hid hs
  have HNB := Lib.hid hb
  clear hb hs
  go_wp2
  go_ret
  exact HS.out.fin
set_option maxRecDepth 100000 in
set_option maxHeartbeats 8000000 in
theorem one_14 {op a b lo hi : Int} {l : List Int} {x : Option Addr} {n c : Nat} {w : World} (hop : -9223372036854775808 ≤ op ∧ op ≤ 9223372036854775807) (ha : -9223372036854775808 ≤ a ∧ a ≤ 9223372036854775807) (hlo : 0 ≤ lo ∧ lo < 18446744073709551616) (hhi : 0 ≤ hi ∧ hi < 18446744073709551616) (hn : l.length = n) (hl : n ≤ 4294967296) (hr : LsR w (.slice x n c) l) (hf : fm op = 14) :
  Calls Try.prog 26 #[.agg #[.int .i64 op, .int .i64 a, .int .i64 b, .int .u64 lo, .int .u64 hi, .slice x n c]] w (BYO (opcO op ++ fldO ⟨op, a, b, lo, hi, l⟩ 14) w) := by
 have HU := Lib.hid u_any
 have HOP := Lib.hid hop
 have HA := Lib.hid ha
 have HLO := Lib.hid hlo
 have HHI := Lib.hid hhi
 have HN := Lib.hid hn
 have HL := Lib.hid hl
 have HR := Lib.hid (fun wx (hg : Gr w wx) => lsR_gr hr hg)
 have HOF := Lib.hid (fun wx => (rof_fm op (by omega) wx).mono (show ∀ (e : Ending) (w' : World), OFX op wx e w' → OFY 14 wx e w' from fun e w' ⟨lv, pv, xi, ni, ci, xj, nj, cj, h, hg⟩ => ⟨lv, pv, xi, ni, ci, xj, nj, cj, by rw [h, hf], hg⟩))
 obtain ⟨L0, hL0⟩ : ∃ L, opcO op = L := ⟨_, rfl⟩
 have HL0 := Lib.hid hL0
 rw [hL0]
 clear hop ha hlo hhi hn hl hr hf hL0
 have HRK := Lib.hid (fun wx x1 n1 c1 L h => OnS.c6 w op a b lo hi (.slice x n c) wx x1 n1 c1 L h)
 go_enter Try.func26, Try.ntmps26
 have HS := Lib.hid (OnS.ini w #[.int .i64 op, .int .i64 a, .int .i64 b, .int .u64 lo, .int .u64 hi, .slice x n c])
 have HNB := Lib.hid (show 0 ≤ 0 from Nat.le_refl _)
 go_upto_if 11 with fail
 generalize w.alloc (.cells #[.int .i64 op, .int .i64 a, .int .i64 b, .int .u64 lo, .int .u64 hi, .slice x n c] 38) = w1 at *
 go_cut [3] from 9 (fun bv wx => ∃ (xb : Option Addr) (nb cb : Nat), bv = .slice xb nb cb ∧ OnS w wx [(w.heap.size, #[.int .i64 op, .int .i64 a, .int .i64 b, .int .u64 lo, .int .u64 hi, .slice x n c], 38)] xb nb cb L0 ∧ nb ≤ 100)
 case first => as_aux_lemma =>
  by_cases hbig : 64768 ≤ op
  ·have d0 : decide (op ≥ 64768) = true := decide_eq_true hbig
   have T1 : IntKind.i64.wrap (op - 64768) = op - 64768 := by have := HOP.out; rw [IntKind.wrap_i64]; omega
   have HLQ := Lib.hid (show opcO op = [] ++ [253] ++ formU (uN (op - 64768)) from by unfold opcO; rw [if_pos hbig]; rfl)
   obtain ⟨YU, hYU⟩ : ∃ Y, formU (uN (op - 64768)) = Y := ⟨_, rfl⟩
   have HUX := Lib.hid (fun wx => by have := HU.out (op - 64768) wx; rw [hYU] at this; exact this)
   rw [hYU] at HLQ
   clear hYU
   obtain ⟨i0, i1, i2, i3, i4, i5⟩ := HRK.out _ _ _ _ _ HS.out
   go_wp2_with (first | (at_builtin; refine OnS.apw (Y := [253]) HS.out ((Gr.refl _).alloc _ _) rfl _ _ rfl rfl rfl (src_lit w1 #[.int .u8 253] 5 1 1) rfl 1 (by have := HNB.out; omega) (by decide) ?_))
   intro x11 n11 c11 w11 hb hs
   clear HS HNB
   have HS := Lib.hid hs
   have HNB := Lib.hid hb
   clear hb hs
   obtain ⟨i0, i1, i2, i3, i4, i5⟩ := HRK.out _ _ _ _ _ HS.out
   go_wp2_with fail
   refine OnS.cal HS.out (Gr.refl _) (HUX.out _) ?_
   intro xu mu cu w12 hs hu
   clear HS
   have HS := Lib.hid hs
   have HSU := Lib.hid hu
   clear hs hu
   go_wp2_with (at_builtin; refine OnS.apw (Y := YU) HS.out (Gr.refl _) rfl _ _ rfl rfl rfl HSU.out.1 HSU.out.2.1 11 (by have := HNB.out; have := HSU.out.2.2; omega) (by decide) ?_)
   intro x13 n13 c13 w13 hb hs
   clear HS HNB
   have HS := Lib.hid hs
   have HNB := Lib.hid hb
   clear hb hs
   go_wp2
   go_meet
   exact ⟨_, _, _, rfl, by rw [← HL0.out, HLQ.out]; exact HS.out, by have := HNB.out; omega⟩
  ·have d0 : decide (op ≥ 64768) = false := decide_eq_false (by omega)
   have T1 : IntKind.u8.wrap op = op % 256 := by rw [IntKind.wrap_u8]
   have HLQ := Lib.hid (show opcO op = [] ++ [op % 256] from by unfold opcO; rw [if_neg hbig]; rfl)
   obtain ⟨i0, i1, i2, i3, i4, i5⟩ := HRK.out _ _ _ _ _ HS.out
   go_wp2_with (at_builtin; refine OnS.apw (Y := [(op % 256)]) HS.out ((Gr.refl _).alloc _ _) rfl _ _ rfl rfl rfl (src_lit w1 #[.int .u8 (op % 256)] 5 1 1) rfl 1 (by have := HNB.out; omega) (by decide) ?_)
   intro x21 n21 c21 w21 hb hs
   clear HS HNB
   have HS := Lib.hid hs
   have HNB := Lib.hid hb
   clear hb hs
   go_wp2
   go_meet
   exact ⟨_, _, _, rfl, by rw [← HL0.out, HLQ.out]; exact HS.out, by have := HNB.out; omega⟩
 case rest => as_aux_lemma =>
  obtain ⟨xb, nb, cb, rfl, hs, hnb⟩ := hcut
  clear HS HNB
  have HS := Lib.hid hs
  have HNB := Lib.hid hnb
  clear hs hnb
  generalize wc = wb at *
  obtain ⟨i0, i1, i2, i3, i4, i5⟩ := HRK.out _ _ _ _ _ HS.out
  go_wp2_with fail
  refine (HOF.out _).mono ?_
  rintro e w2 ⟨lv, pv, xi, ni, ci, xj, nj, cj, rfl, hg⟩
  have HS2 := Lib.hid (HS.out.to hg)
  clear hg HS
  go_upto_region 7 with (refine wpList_store_row rfl 50 _ _ rfl w2.heap.size #[.int .i64 14, .int .i64 lv, .bool pv, .slice xi ni ci, .slice xj nj cj] rfl rfl 50 #[.int .i64 0, .int .i64 0, .bool false, .slice none 0 0, .slice none 0 0] (heap_alloc_new w2 _) infoIf rfl (by kernel_rfl) ?_)
  have HS := Lib.hid (OnS.inf HS2.out #[.int .i64 14, .int .i64 lv, .bool pv, .slice xi ni ci, .slice xj nj cj])
  clear HS2
  generalize (w2.alloc (.cells #[.int .i64 0, .int .i64 0, .bool false, .slice none 0 0, .slice none 0 0] 50)).setRow w2.heap.size #[.int .i64 14, .int .i64 lv, .bool pv, .slice xi ni ci, .slice xj nj cj] = w3 at *
  generalize w2.heap.size = bi at *
  have HR6 := Lib.hid (fun wx x1 n1 c1 L h => OnS.c7 w bi 14 lv pv (.slice xi ni ci) (.slice xj nj cj) op a b lo hi (.slice x n c) wx x1 n1 c1 L h)
  obtain ⟨k0, i0, i1, i2, i3, i4, i5⟩ := HR6.out _ _ _ _ _ HS.out
  go_wp2_with (at_builtin; refine OnS.apw (Y := [0]) HS.out ((Gr.refl _).alloc _ _) rfl _ _ rfl rfl rfl (src_lit w3 #[.int .u8 0] 5 1 1) rfl 101 (by have := HNB.out; omega) (by decide) ?_)
  intro x22 n22 c22 w22 hb hs
  clear HS HNB
  have HS := Lib.hid hs
  have HNB := Lib.hid hb
  clear hb hs
  go_wp2
  go_ret
  exact HS.out.fin
end Ex
end
section
open Go.RowKit VecM LebM
namespace Ex
set_option maxRecDepth 100000 in
set_option maxHeartbeats 8000000 in
theorem one_6 {op a b lo hi : Int} {l : List Int} {x : Option Addr} {n c : Nat} {w : World} (hop : -9223372036854775808 ≤ op ∧ op ≤ 9223372036854775807) (ha : -9223372036854775808 ≤ a ∧ a ≤ 9223372036854775807) (hlo : 0 ≤ lo ∧ lo < 18446744073709551616) (hhi : 0 ≤ hi ∧ hi < 18446744073709551616) (hn : l.length = n) (hl : n ≤ 4294967296) (hr : LsR w (.slice x n c) l) (hf : fm op = 6) :
  Calls Try.prog 26 #[.agg #[.int .i64 op, .int .i64 a, .int .i64 b, .int .u64 lo, .int .u64 hi, .slice x n c]] w (BYO (opcO op ++ fldO ⟨op, a, b, lo, hi, l⟩ 6) w) := by
 have HU := Lib.hid u_any
 have HOP := Lib.hid hop
 have HA := Lib.hid ha
 have HLO := Lib.hid hlo
 have HHI := Lib.hid hhi
 have HN := Lib.hid hn
 have HL := Lib.hid hl
 have HR := Lib.hid (fun wx (hg : Gr w wx) => lsR_gr hr hg)
 have HOF := Lib.hid (fun wx => (rof_fm op (by omega) wx).mono (show ∀ (e : Ending) (w' : World), OFX op wx e w' → OFY 6 wx e w' from fun e w' ⟨lv, pv, xi, ni, ci, xj, nj, cj, h, hg⟩ => ⟨lv, pv, xi, ni, ci, xj, nj, cj, by rw [h, hf], hg⟩))
 obtain ⟨L0, hL0⟩ : ∃ L, opcO op = L := ⟨_, rfl⟩
 have HL0 := Lib.hid hL0
 rw [hL0]
 clear hop ha hlo hhi hn hl hr hf hL0
 have HRK := Lib.hid (fun wx x1 n1 c1 L h => OnS.c6 w op a b lo hi (.slice x n c) wx x1 n1 c1 L h)
 go_enter Try.func26, Try.ntmps26
 have HS := Lib.hid (OnS.ini w #[.int .i64 op, .int .i64 a, .int .i64 b, .int .u64 lo, .int .u64 hi, .slice x n c])
 have HNB := Lib.hid (show 0 ≤ 0 from Nat.le_refl _)
 go_upto_if 11 with fail
 generalize w.alloc (.cells #[.int .i64 op, .int .i64 a, .int .i64 b, .int .u64 lo, .int .u64 hi, .slice x n c] 38) = w1 at *
 go_cut [3] from 9 (fun bv wx => ∃ (xb : Option Addr) (nb cb : Nat), bv = .slice xb nb cb ∧ OnS w wx [(w.heap.size, #[.int .i64 op, .int .i64 a, .int .i64 b, .int .u64 lo, .int .u64 hi, .slice x n c], 38)] xb nb cb L0 ∧ nb ≤ 100)
 case first => as_aux_lemma =>
  by_cases hbig : 64768 ≤ op
  ·have d0 : decide (op ≥ 64768) = true := decide_eq_true hbig
   have T1 : IntKind.i64.wrap (op - 64768) = op - 64768 := by have := HOP.out; rw [IntKind.wrap_i64]; omega
   have HLQ := Lib.hid (show opcO op = [] ++ [253] ++ formU (uN (op - 64768)) from by unfold opcO; rw [if_pos hbig]; rfl)
   obtain ⟨YU, hYU⟩ : ∃ Y, formU (uN (op - 64768)) = Y := ⟨_, rfl⟩
   have HUX := Lib.hid (fun wx => by have := HU.out (op - 64768) wx; rw [hYU] at this; exact this)
   rw [hYU] at HLQ
   clear hYU
   obtain ⟨i0, i1, i2, i3, i4, i5⟩ := HRK.out _ _ _ _ _ HS.out
   go_wp2_with (first | (at_builtin; refine OnS.apw (Y := [253]) HS.out ((Gr.refl _).alloc _ _) rfl _ _ rfl rfl rfl (src_lit w1 #[.int .u8 253] 5 1 1) rfl 1 (by have := HNB.out; omega) (by decide) ?_))
   intro x11 n11 c11 w11 hb hs
   clear HS HNB
   have HS := Lib.hid hs
   have HNB := Lib.hid hb
   clear hb hs
   obtain ⟨i0, i1, i2, i3, i4, i5⟩ := HRK.out _ _ _ _ _ HS.out
   go_wp2_with fail
   refine OnS.cal HS.out (Gr.refl _) (HUX.out _) ?_
   intro xu mu cu w12 hs hu
   clear HS
   have HS := Lib.hid hs
   have HSU := Lib.hid hu
   clear hs hu
   go_wp2_with (at_builtin; refine OnS.apw (Y := YU) HS.out (Gr.refl _) rfl _ _ rfl rfl rfl HSU.out.1 HSU.out.2.1 11 (by have := HNB.out; have := HSU.out.2.2; omega) (by decide) ?_)
   intro x13 n13 c13 w13 hb hs
   clear HS HNB
   have HS := Lib.hid hs
   have HNB := Lib.hid hb
   clear hb hs
   go_wp2
   go_meet
   exact ⟨_, _, _, rfl, by rw [← HL0.out, HLQ.out]; exact HS.out, by have := HNB.out; omega⟩
  ·have d0 : decide (op ≥ 64768) = false := decide_eq_false (by omega)
   have T1 : IntKind.u8.wrap op = op % 256 := by rw [IntKind.wrap_u8]
   have HLQ := Lib.hid (show opcO op = [] ++ [op % 256] from by unfold opcO; rw [if_neg hbig]; rfl)
   obtain ⟨i0, i1, i2, i3, i4, i5⟩ := HRK.out _ _ _ _ _ HS.out
   go_wp2_with (at_builtin; refine OnS.apw (Y := [(op % 256)]) HS.out ((Gr.refl _).alloc _ _) rfl _ _ rfl rfl rfl (src_lit w1 #[.int .u8 (op % 256)] 5 1 1) rfl 1 (by have := HNB.out; omega) (by decide) ?_)
   intro x21 n21 c21 w21 hb hs
   clear HS HNB
   have HS := Lib.hid hs
   have HNB := Lib.hid hb
   clear hb hs
   go_wp2
   go_meet
   exact ⟨_, _, _, rfl, by rw [← HL0.out, HLQ.out]; exact HS.out, by have := HNB.out; omega⟩
 case rest => as_aux_lemma =>
  obtain ⟨xb, nb, cb, rfl, hs, hnb⟩ := hcut
  clear HS HNB
  have HS := Lib.hid hs
  have HNB := Lib.hid hnb
  clear hs hnb
  generalize wc = wb at *
  obtain ⟨i0, i1, i2, i3, i4, i5⟩ := HRK.out _ _ _ _ _ HS.out
  go_wp2_with fail
  refine (HOF.out _).mono ?_
  rintro e w2 ⟨lv, pv, xi, ni, ci, xj, nj, cj, rfl, hg⟩
  have HS2 := Lib.hid (HS.out.to hg)
  clear hg HS
  go_upto_region 7 with (refine wpList_store_row rfl 50 _ _ rfl w2.heap.size #[.int .i64 6, .int .i64 lv, .bool pv, .slice xi ni ci, .slice xj nj cj] rfl rfl 50 #[.int .i64 0, .int .i64 0, .bool false, .slice none 0 0, .slice none 0 0] (heap_alloc_new w2 _) infoIf rfl (by kernel_rfl) ?_)
  have HS := Lib.hid (OnS.inf HS2.out #[.int .i64 6, .int .i64 lv, .bool pv, .slice xi ni ci, .slice xj nj cj])
  clear HS2
  generalize (w2.alloc (.cells #[.int .i64 0, .int .i64 0, .bool false, .slice none 0 0, .slice none 0 0] 50)).setRow w2.heap.size #[.int .i64 6, .int .i64 lv, .bool pv, .slice xi ni ci, .slice xj nj cj] = w3 at *
  generalize w2.heap.size = bi at *
  have HR6 := Lib.hid (fun wx x1 n1 c1 L h => OnS.c7 w bi 6 lv pv (.slice xi ni ci) (.slice xj nj cj) op a b lo hi (.slice x n c) wx x1 n1 c1 L h)
  obtain ⟨k0, i0, i1, i2, i3, i4, i5⟩ := HR6.out _ _ _ _ _ HS.out
  obtain ⟨YU, hYU⟩ : ∃ Y, formU (uN a) = Y := ⟨_, rfl⟩
  have HUX := Lib.hid (fun wx => by have := HU.out a wx; rw [hYU] at this; exact this)
  obtain ⟨YV, hYV⟩ : ∃ Y, formU (uN b) = Y := ⟨_, rfl⟩
  have HUY := Lib.hid (fun wx => by have := HU.out b wx; rw [hYV] at this; exact this)
  have HFO := Lib.hid (show L0 ++ fldO ⟨op, a, b, lo, hi, l⟩ 6 = L0 ++ YU ++ YV from by rw [← hYU, ← hYV]; show L0 ++ (_ ++ _) = _; simp only [List.append_assoc])
  clear hYU hYV
  go_wp2_with fail
  refine OnS.cal HS.out (Gr.refl _) (HUX.out _) ?_
  intro xu mu cu w22 hs hu
  clear HS
  have HS := Lib.hid hs
  have HSU := Lib.hid hu
  clear hs hu
  go_wp2_with (at_builtin; refine OnS.apw (Y := YU) HS.out (Gr.refl _) rfl _ _ rfl rfl rfl HSU.out.1 HSU.out.2.1 110 (by have := HNB.out; have := HSU.out.2.2; omega) (by decide) ?_)
  intro x23 n23 c23 w23 hb hs
  clear HS HNB
  have HS := Lib.hid hs
  have HNB := Lib.hid hb
  clear hb hs
  clear HSU
  obtain ⟨k0, i0, i1, i2, i3, i4, i5⟩ := HR6.out _ _ _ _ _ HS.out
  go_wp2_with fail
  refine OnS.cal HS.out (Gr.refl _) (HUY.out _) ?_
  intro xu mu cu w24 hs hu
  clear HS
  have HS := Lib.hid hs
  have HSU := Lib.hid hu
  clear hs hu
  go_wp2_with (at_builtin; refine OnS.apw (Y := YV) HS.out (Gr.refl _) rfl _ _ rfl rfl rfl HSU.out.1 HSU.out.2.1 120 (by have := HNB.out; have := HSU.out.2.2; omega) (by decide) ?_)
  intro x25 n25 c25 w25 hb hs
  clear HS HNB
  have HS := Lib.hid hs
  have HNB := Lib.hid hb
  clear hb hs
  clear HSU
  obtain ⟨k0, i0, i1, i2, i3, i4, i5⟩ := HR6.out _ _ _ _ _ HS.out
  go_wp2
  go_ret
  rw [HFO.out]
  exact HS.out.fin
set_option maxRecDepth 100000 in
set_option maxHeartbeats 8000000 in
theorem one_7 {op a b lo hi : Int} {l : List Int} {x : Option Addr} {n c : Nat} {w : World} (hop : -9223372036854775808 ≤ op ∧ op ≤ 9223372036854775807) (ha : -9223372036854775808 ≤ a ∧ a ≤ 9223372036854775807) (hlo : 0 ≤ lo ∧ lo < 18446744073709551616) (hhi : 0 ≤ hi ∧ hi < 18446744073709551616) (hn : l.length = n) (hl : n ≤ 4294967296) (hr : LsR w (.slice x n c) l) (hf : fm op = 7) :
  Calls Try.prog 26 #[.agg #[.int .i64 op, .int .i64 a, .int .i64 b, .int .u64 lo, .int .u64 hi, .slice x n c]] w (BYO (opcO op ++ fldO ⟨op, a, b, lo, hi, l⟩ 7) w) := by
 have HU := Lib.hid u_any
 have HOP := Lib.hid hop
 have HA := Lib.hid ha
 have HLO := Lib.hid hlo
 have HHI := Lib.hid hhi
 have HN := Lib.hid hn
 have HL := Lib.hid hl
 have HR := Lib.hid (fun wx (hg : Gr w wx) => lsR_gr hr hg)
 have HOF := Lib.hid (fun wx => (rof_fm op (by omega) wx).mono (show ∀ (e : Ending) (w' : World), OFX op wx e w' → OFY 7 wx e w' from fun e w' ⟨lv, pv, xi, ni, ci, xj, nj, cj, h, hg⟩ => ⟨lv, pv, xi, ni, ci, xj, nj, cj, by rw [h, hf], hg⟩))
 obtain ⟨L0, hL0⟩ : ∃ L, opcO op = L := ⟨_, rfl⟩
 have HL0 := Lib.hid hL0
 rw [hL0]
 clear hop ha hlo hhi hn hl hr hf hL0
 have HRK := Lib.hid (fun wx x1 n1 c1 L h => OnS.c6 w op a b lo hi (.slice x n c) wx x1 n1 c1 L h)
 go_enter Try.func26, Try.ntmps26
 have HS := Lib.hid (OnS.ini w #[.int .i64 op, .int .i64 a, .int .i64 b, .int .u64 lo, .int .u64 hi, .slice x n c])
 have HNB := Lib.hid (show 0 ≤ 0 from Nat.le_refl _)
 go_upto_if 11 with fail
 generalize w.alloc (.cells #[.int .i64 op, .int .i64 a, .int .i64 b, .int .u64 lo, .int .u64 hi, .slice x n c] 38) = w1 at *
 go_cut [3] from 9 (fun bv wx => ∃ (xb : Option Addr) (nb cb : Nat), bv = .slice xb nb cb ∧ OnS w wx [(w.heap.size, #[.int .i64 op, .int .i64 a, .int .i64 b, .int .u64 lo, .int .u64 hi, .slice x n c], 38)] xb nb cb L0 ∧ nb ≤ 100)
 case first => as_aux_lemma =>
  by_cases hbig : 64768 ≤ op
  ·have d0 : decide (op ≥ 64768) = true := decide_eq_true hbig
   have T1 : IntKind.i64.wrap (op - 64768) = op - 64768 := by have := HOP.out; rw [IntKind.wrap_i64]; omega
   have HLQ := Lib.hid (show opcO op = [] ++ [253] ++ formU (uN (op - 64768)) from by unfold opcO; rw [if_pos hbig]; rfl)
   obtain ⟨YU, hYU⟩ : ∃ Y, formU (uN (op - 64768)) = Y := ⟨_, rfl⟩
   have HUX := Lib.hid (fun wx => by have := HU.out (op - 64768) wx; rw [hYU] at this; exact this)
   rw [hYU] at HLQ
   clear hYU
   obtain ⟨i0, i1, i2, i3, i4, i5⟩ := HRK.out _ _ _ _ _ HS.out
   go_wp2_with (first | (at_builtin; refine OnS.apw (Y := [253]) HS.out ((Gr.refl _).alloc _ _) rfl _ _ rfl rfl rfl (src_lit w1 #[.int .u8 253] 5 1 1) rfl 1 (by have := HNB.out; omega) (by decide) ?_))
   intro x11 n11 c11 w11 hb hs
   clear HS HNB
   have HS := Lib.hid hs
   have HNB := Lib.hid hb
   clear hb hs
   obtain ⟨i0, i1, i2, i3, i4, i5⟩ := HRK.out _ _ _ _ _ HS.out
   go_wp2_with fail
   refine OnS.cal HS.out (Gr.refl _) (HUX.out _) ?_
   intro xu mu cu w12 hs hu
   clear HS
   have HS := Lib.hid hs
   have HSU := Lib.hid hu
   clear hs hu
   go_wp2_with (at_builtin; refine OnS.apw (Y := YU) HS.out (Gr.refl _) rfl _ _ rfl rfl rfl HSU.out.1 HSU.out.2.1 11 (by have := HNB.out; have := HSU.out.2.2; omega) (by decide) ?_)
   intro x13 n13 c13 w13 hb hs
   clear HS HNB
   have HS := Lib.hid hs
   have HNB := Lib.hid hb
   clear hb hs
   go_wp2
   go_meet
   exact ⟨_, _, _, rfl, by rw [← HL0.out, HLQ.out]; exact HS.out, by have := HNB.out; omega⟩
  ·have d0 : decide (op ≥ 64768) = false := decide_eq_false (by omega)
   have T1 : IntKind.u8.wrap op = op % 256 := by rw [IntKind.wrap_u8]
   have HLQ := Lib.hid (show opcO op = [] ++ [op % 256] from by unfold opcO; rw [if_neg hbig]; rfl)
   obtain ⟨i0, i1, i2, i3, i4, i5⟩ := HRK.out _ _ _ _ _ HS.out
   go_wp2_with (at_builtin; refine OnS.apw (Y := [(op % 256)]) HS.out ((Gr.refl _).alloc _ _) rfl _ _ rfl rfl rfl (src_lit w1 #[.int .u8 (op % 256)] 5 1 1) rfl 1 (by have := HNB.out; omega) (by decide) ?_)
   intro x21 n21 c21 w21 hb hs
   clear HS HNB
   have HS := Lib.hid hs
   have HNB := Lib.hid hb
   clear hb hs
   go_wp2
   go_meet
   exact ⟨_, _, _, rfl, by rw [← HL0.out, HLQ.out]; exact HS.out, by have := HNB.out; omega⟩
 case rest => as_aux_lemma =>
  obtain ⟨xb, nb, cb, rfl, hs, hnb⟩ := hcut
  clear HS HNB
  have HS := Lib.hid hs
  have HNB := Lib.hid hnb
  clear hs hnb
  generalize wc = wb at *
  obtain ⟨i0, i1, i2, i3, i4, i5⟩ := HRK.out _ _ _ _ _ HS.out
  go_wp2_with fail
  refine (HOF.out _).mono ?_
  rintro e w2 ⟨lv, pv, xi, ni, ci, xj, nj, cj, rfl, hg⟩
  have HS2 := Lib.hid (HS.out.to hg)
  clear hg HS
  go_upto_region 7 with (refine wpList_store_row rfl 50 _ _ rfl w2.heap.size #[.int .i64 7, .int .i64 lv, .bool pv, .slice xi ni ci, .slice xj nj cj] rfl rfl 50 #[.int .i64 0, .int .i64 0, .bool false, .slice none 0 0, .slice none 0 0] (heap_alloc_new w2 _) infoIf rfl (by kernel_rfl) ?_)
  have HS := Lib.hid (OnS.inf HS2.out #[.int .i64 7, .int .i64 lv, .bool pv, .slice xi ni ci, .slice xj nj cj])
  clear HS2
  generalize (w2.alloc (.cells #[.int .i64 0, .int .i64 0, .bool false, .slice none 0 0, .slice none 0 0] 50)).setRow w2.heap.size #[.int .i64 7, .int .i64 lv, .bool pv, .slice xi ni ci, .slice xj nj cj] = w3 at *
  generalize w2.heap.size = bi at *
  have HR6 := Lib.hid (fun wx x1 n1 c1 L h => OnS.c7 w bi 7 lv pv (.slice xi ni ci) (.slice xj nj cj) op a b lo hi (.slice x n c) wx x1 n1 c1 L h)
  obtain ⟨k0, i0, i1, i2, i3, i4, i5⟩ := HR6.out _ _ _ _ _ HS.out
  obtain ⟨YU, hYU⟩ : ∃ Y, formU (uN a) = Y := ⟨_, rfl⟩
  have HUX := Lib.hid (fun wx => by have := HU.out a wx; rw [hYU] at this; exact this)
  obtain ⟨YV, hYV⟩ : ∃ Y, formU (uN b) = Y := ⟨_, rfl⟩
  have HUY := Lib.hid (fun wx => by have := HU.out b wx; rw [hYV] at this; exact this)
  have HFO := Lib.hid (show L0 ++ fldO ⟨op, a, b, lo, hi, l⟩ 7 = L0 ++ YU ++ YV from by rw [← hYU, ← hYV]; show L0 ++ (_ ++ _) = _; simp only [List.append_assoc])
  clear hYU hYV
  go_wp2_with fail
  refine OnS.cal HS.out (Gr.refl _) (HUX.out _) ?_
  intro xu mu cu w22 hs hu
  clear HS
  have HS := Lib.hid hs
  have HSU := Lib.hid hu
  clear hs hu
  go_wp2_with (at_builtin; refine OnS.apw (Y := YU) HS.out (Gr.refl _) rfl _ _ rfl rfl rfl HSU.out.1 HSU.out.2.1 110 (by have := HNB.out; have := HSU.out.2.2; omega) (by decide) ?_)
  intro x23 n23 c23 w23 hb hs
  clear HS HNB
  have HS := Lib.hid hs
  have HNB := Lib.hid hb
  clear hb hs
  clear HSU
  obtain ⟨k0, i0, i1, i2, i3, i4, i5⟩ := HR6.out _ _ _ _ _ HS.out
  go_wp2_with fail
  refine OnS.cal HS.out (Gr.refl _) (HUY.out _) ?_
  intro xu mu cu w24 hs hu
  clear HS
  have HS := Lib.hid hs
  have HSU := Lib.hid hu
  clear hs hu
  go_wp2_with (at_builtin; refine OnS.apw (Y := YV) HS.out (Gr.refl _) rfl _ _ rfl rfl rfl HSU.out.1 HSU.out.2.1 120 (by have := HNB.out; have := HSU.out.2.2; omega) (by decide) ?_)
  intro x25 n25 c25 w25 hb hs
  clear HS HNB
  have HS := Lib.hid hs
  have HNB := Lib.hid hb
  clear hb hs
  clear HSU
  obtain ⟨k0, i0, i1, i2, i3, i4, i5⟩ := HR6.out _ _ _ _ _ HS.out
  go_wp2
  go_ret
  rw [HFO.out]
  exact HS.out.fin
set_option maxRecDepth 100000 in
set_option maxHeartbeats 8000000 in
theorem one_8 {op a b lo hi : Int} {l : List Int} {x : Option Addr} {n c : Nat} {w : World} (hop : -9223372036854775808 ≤ op ∧ op ≤ 9223372036854775807) (ha : -9223372036854775808 ≤ a ∧ a ≤ 9223372036854775807) (hlo : 0 ≤ lo ∧ lo < 18446744073709551616) (hhi : 0 ≤ hi ∧ hi < 18446744073709551616) (hn : l.length = n) (hl : n ≤ 4294967296) (hr : LsR w (.slice x n c) l) (hf : fm op = 8) :
  Calls Try.prog 26 #[.agg #[.int .i64 op, .int .i64 a, .int .i64 b, .int .u64 lo, .int .u64 hi, .slice x n c]] w (BYO (opcO op ++ fldO ⟨op, a, b, lo, hi, l⟩ 8) w) := by
 have HU := Lib.hid u_any
 have HOP := Lib.hid hop
 have HA := Lib.hid ha
 have HLO := Lib.hid hlo
 have HHI := Lib.hid hhi
 have HN := Lib.hid hn
 have HL := Lib.hid hl
 have HR := Lib.hid (fun wx (hg : Gr w wx) => lsR_gr hr hg)
 have HOF := Lib.hid (fun wx => (rof_fm op (by omega) wx).mono (show ∀ (e : Ending) (w' : World), OFX op wx e w' → OFY 8 wx e w' from fun e w' ⟨lv, pv, xi, ni, ci, xj, nj, cj, h, hg⟩ => ⟨lv, pv, xi, ni, ci, xj, nj, cj, by rw [h, hf], hg⟩))
 obtain ⟨L0, hL0⟩ : ∃ L, opcO op = L := ⟨_, rfl⟩
 have HL0 := Lib.hid hL0
 rw [hL0]
 clear hop ha hlo hhi hn hl hr hf hL0
 have HRK := Lib.hid (fun wx x1 n1 c1 L h => OnS.c6 w op a b lo hi (.slice x n c) wx x1 n1 c1 L h)
 go_enter Try.func26, Try.ntmps26
 have HS := Lib.hid (OnS.ini w #[.int .i64 op, .int .i64 a, .int .i64 b, .int .u64 lo, .int .u64 hi, .slice x n c])
 have HNB := Lib.hid (show 0 ≤ 0 from Nat.le_refl _)
 go_upto_if 11 with fail
 generalize w.alloc (.cells #[.int .i64 op, .int .i64 a, .int .i64 b, .int .u64 lo, .int .u64 hi, .slice x n c] 38) = w1 at *
 go_cut [3] from 9 (fun bv wx => ∃ (xb : Option Addr) (nb cb : Nat), bv = .slice xb nb cb ∧ OnS w wx [(w.heap.size, #[.int .i64 op, .int .i64 a, .int .i64 b, .int .u64 lo, .int .u64 hi, .slice x n c], 38)] xb nb cb L0 ∧ nb ≤ 100)
 case first => as_aux_lemma =>
  by_cases hbig : 64768 ≤ op
  ·have d0 : decide (op ≥ 64768) = true := decide_eq_true hbig
   have T1 : IntKind.i64.wrap (op - 64768) = op - 64768 := by have := HOP.out; rw [IntKind.wrap_i64]; omega
   have HLQ := Lib.hid (show opcO op = [] ++ [253] ++ formU (uN (op - 64768)) from by unfold opcO; rw [if_pos hbig]; rfl)
   obtain ⟨YU, hYU⟩ : ∃ Y, formU (uN (op - 64768)) = Y := ⟨_, rfl⟩
   have HUX := Lib.hid (fun wx => by have := HU.out (op - 64768) wx; rw [hYU] at this; exact this)
   rw [hYU] at HLQ
   clear hYU
   obtain ⟨i0, i1, i2, i3, i4, i5⟩ := HRK.out _ _ _ _ _ HS.out
   go_wp2_with (first | (at_builtin; refine OnS.apw (Y := [253]) HS.out ((Gr.refl _).alloc _ _) rfl _ _ rfl rfl rfl (src_lit w1 #[.int .u8 253] 5 1 1) rfl 1 (by have := HNB.out; omega) (by decide) ?_))
   intro x11 n11 c11 w11 hb hs
   clear HS HNB
   have HS := Lib.hid hs
   have HNB := Lib.hid hb
   clear hb hs
   obtain ⟨i0, i1, i2, i3, i4, i5⟩ := HRK.out _ _ _ _ _ HS.out
   go_wp2_with fail
   refine OnS.cal HS.out (Gr.refl _) (HUX.out _) ?_
   intro xu mu cu w12 hs hu
   clear HS
   have HS := Lib.hid hs
   have HSU := Lib.hid hu
   clear hs hu
   go_wp2_with (at_builtin; refine OnS.apw (Y := YU) HS.out (Gr.refl _) rfl _ _ rfl rfl rfl HSU.out.1 HSU.out.2.1 11 (by have := HNB.out; have := HSU.out.2.2; omega) (by decide) ?_)
   intro x13 n13 c13 w13 hb hs
   clear HS HNB
   have HS := Lib.hid hs
   have HNB := Lib.hid hb
   clear hb hs
   go_wp2
   go_meet
   exact ⟨_, _, _, rfl, by rw [← HL0.out, HLQ.out]; exact HS.out, by have := HNB.out; omega⟩
  ·have d0 : decide (op ≥ 64768) = false := decide_eq_false (by omega)
   have T1 : IntKind.u8.wrap op = op % 256 := by rw [IntKind.wrap_u8]
   have HLQ := Lib.hid (show opcO op = [] ++ [op % 256] from by unfold opcO; rw [if_neg hbig]; rfl)
   obtain ⟨i0, i1, i2, i3, i4, i5⟩ := HRK.out _ _ _ _ _ HS.out
   go_wp2_with (at_builtin; refine OnS.apw (Y := [(op % 256)]) HS.out ((Gr.refl _).alloc _ _) rfl _ _ rfl rfl rfl (src_lit w1 #[.int .u8 (op % 256)] 5 1 1) rfl 1 (by have := HNB.out; omega) (by decide) ?_)
   intro x21 n21 c21 w21 hb hs
   clear HS HNB
   have HS := Lib.hid hs
   have HNB := Lib.hid hb
   clear hb hs
   go_wp2
   go_meet
   exact ⟨_, _, _, rfl, by rw [← HL0.out, HLQ.out]; exact HS.out, by have := HNB.out; omega⟩
 case rest => as_aux_lemma =>
  obtain ⟨xb, nb, cb, rfl, hs, hnb⟩ := hcut
  clear HS HNB
  have HS := Lib.hid hs
  have HNB := Lib.hid hnb
  clear hs hnb
  generalize wc = wb at *
  obtain ⟨i0, i1, i2, i3, i4, i5⟩ := HRK.out _ _ _ _ _ HS.out
  go_wp2_with fail
  refine (HOF.out _).mono ?_
  rintro e w2 ⟨lv, pv, xi, ni, ci, xj, nj, cj, rfl, hg⟩
  have HS2 := Lib.hid (HS.out.to hg)
  clear hg HS
  go_upto_region 7 with (refine wpList_store_row rfl 50 _ _ rfl w2.heap.size #[.int .i64 8, .int .i64 lv, .bool pv, .slice xi ni ci, .slice xj nj cj] rfl rfl 50 #[.int .i64 0, .int .i64 0, .bool false, .slice none 0 0, .slice none 0 0] (heap_alloc_new w2 _) infoIf rfl (by kernel_rfl) ?_)
  have HS := Lib.hid (OnS.inf HS2.out #[.int .i64 8, .int .i64 lv, .bool pv, .slice xi ni ci, .slice xj nj cj])
  clear HS2
  generalize (w2.alloc (.cells #[.int .i64 0, .int .i64 0, .bool false, .slice none 0 0, .slice none 0 0] 50)).setRow w2.heap.size #[.int .i64 8, .int .i64 lv, .bool pv, .slice xi ni ci, .slice xj nj cj] = w3 at *
  generalize w2.heap.size = bi at *
  have HR6 := Lib.hid (fun wx x1 n1 c1 L h => OnS.c7 w bi 8 lv pv (.slice xi ni ci) (.slice xj nj cj) op a b lo hi (.slice x n c) wx x1 n1 c1 L h)
  obtain ⟨k0, i0, i1, i2, i3, i4, i5⟩ := HR6.out _ _ _ _ _ HS.out
  obtain ⟨YU, hYU⟩ : ∃ Y, formU (uN a) = Y := ⟨_, rfl⟩
  have HUX := Lib.hid (fun wx => by have := HU.out a wx; rw [hYU] at this; exact this)
  obtain ⟨YV, hYV⟩ : ∃ Y, formU (uN b) = Y := ⟨_, rfl⟩
  have HUY := Lib.hid (fun wx => by have := HU.out b wx; rw [hYV] at this; exact this)
  have HFO := Lib.hid (show L0 ++ fldO ⟨op, a, b, lo, hi, l⟩ 8 = L0 ++ YU ++ YV ++ [lo % 256] from by rw [← hYU, ← hYV]; show L0 ++ (_ ++ _ ++ _) = _; simp only [List.append_assoc])
  clear hYU hYV
  go_wp2_with fail
  refine OnS.cal HS.out (Gr.refl _) (HUX.out _) ?_
  intro xu mu cu w22 hs hu
  clear HS
  have HS := Lib.hid hs
  have HSU := Lib.hid hu
  clear hs hu
  go_wp2_with (at_builtin; refine OnS.apw (Y := YU) HS.out (Gr.refl _) rfl _ _ rfl rfl rfl HSU.out.1 HSU.out.2.1 110 (by have := HNB.out; have := HSU.out.2.2; omega) (by decide) ?_)
  intro x23 n23 c23 w23 hb hs
  clear HS HNB
  have HS := Lib.hid hs
  have HNB := Lib.hid hb
  clear hb hs
  clear HSU
  obtain ⟨k0, i0, i1, i2, i3, i4, i5⟩ := HR6.out _ _ _ _ _ HS.out
  go_wp2_with fail
  refine OnS.cal HS.out (Gr.refl _) (HUY.out _) ?_
  intro xu mu cu w24 hs hu
  clear HS
  have HS := Lib.hid hs
  have HSU := Lib.hid hu
  clear hs hu
  go_wp2_with (at_builtin; refine OnS.apw (Y := YV) HS.out (Gr.refl _) rfl _ _ rfl rfl rfl HSU.out.1 HSU.out.2.1 120 (by have := HNB.out; have := HSU.out.2.2; omega) (by decide) ?_)
  intro x25 n25 c25 w25 hb hs
  clear HS HNB
  have HS := Lib.hid hs
  have HNB := Lib.hid hb
  clear hb hs
  clear HSU
  obtain ⟨k0, i0, i1, i2, i3, i4, i5⟩ := HR6.out _ _ _ _ _ HS.out
  have T1 : IntKind.u8.wrap lo = lo % 256 := by rw [IntKind.wrap_u8]
  go_wp2_with (at_builtin; refine OnS.apw (Y := [(lo % 256)]) HS.out ((Gr.refl _).alloc _ _) rfl _ _ rfl rfl rfl (src_lit w25 #[.int .u8 (lo % 256)] 5 1 1) rfl 121 (by have := HNB.out; omega) (by decide) ?_)
  intro x26 n26 c26 w26 hb hs
  clear HS HNB
  have HS := Lib.hid hs
  have HNB := Lib.hid hb
  clear hb hs
  go_wp2
  go_ret
  rw [HFO.out]
  exact HS.out.fin
end Ex
end
section
open Go.RowKit VecM LebM
namespace Ex
set_option maxRecDepth 100000 in
set_option maxHeartbeats 8000000 in
theorem one_9 {op a b lo hi : Int} {l : List Int} {x : Option Addr} {n c : Nat} {w : World} (hop : -9223372036854775808 ≤ op ∧ op ≤ 9223372036854775807) (ha : -9223372036854775808 ≤ a ∧ a ≤ 9223372036854775807) (hlo : 0 ≤ lo ∧ lo < 18446744073709551616) (hhi : 0 ≤ hi ∧ hi < 18446744073709551616) (hn : l.length = n) (hl : n ≤ 4294967296) (hr : LsR w (.slice x n c) l) (hf : fm op = 9) :
  Calls Try.prog 26 #[.agg #[.int .i64 op, .int .i64 a, .int .i64 b, .int .u64 lo, .int .u64 hi, .slice x n c]] w (BYO (opcO op ++ fldO ⟨op, a, b, lo, hi, l⟩ 9) w) := by
 have HU := Lib.hid u_any
 have HOP := Lib.hid hop
 have HA := Lib.hid ha
 have HLO := Lib.hid hlo
 have HHI := Lib.hid hhi
 have HN := Lib.hid hn
 have HL := Lib.hid hl
 have HR := Lib.hid (fun wx (hg : Gr w wx) => lsR_gr hr hg)
 have HOF := Lib.hid (fun wx => (rof_fm op (by omega) wx).mono (show ∀ (e : Ending) (w' : World), OFX op wx e w' → OFY 9 wx e w' from fun e w' ⟨lv, pv, xi, ni, ci, xj, nj, cj, h, hg⟩ => ⟨lv, pv, xi, ni, ci, xj, nj, cj, by rw [h, hf], hg⟩))
 obtain ⟨L0, hL0⟩ : ∃ L, opcO op = L := ⟨_, rfl⟩
 have HL0 := Lib.hid hL0
 rw [hL0]
 clear hop ha hlo hhi hn hl hr hf hL0
 have HRK := Lib.hid (fun wx x1 n1 c1 L h => OnS.c6 w op a b lo hi (.slice x n c) wx x1 n1 c1 L h)
 go_enter Try.func26, Try.ntmps26
 have HS := Lib.hid (OnS.ini w #[.int .i64 op, .int .i64 a, .int .i64 b, .int .u64 lo, .int .u64 hi, .slice x n c])
 have HNB := Lib.hid (show 0 ≤ 0 from Nat.le_refl _)
 go_upto_if 11 with fail
 generalize w.alloc (.cells #[.int .i64 op, .int .i64 a, .int .i64 b, .int .u64 lo, .int .u64 hi, .slice x n c] 38) = w1 at *
 go_cut [3] from 9 (fun bv wx => ∃ (xb : Option Addr) (nb cb : Nat), bv = .slice xb nb cb ∧ OnS w wx [(w.heap.size, #[.int .i64 op, .int .i64 a, .int .i64 b, .int .u64 lo, .int .u64 hi, .slice x n c], 38)] xb nb cb L0 ∧ nb ≤ 100)
 case first => as_aux_lemma =>
  by_cases hbig : 64768 ≤ op
  ·have d0 : decide (op ≥ 64768) = true := decide_eq_true hbig
   have T1 : IntKind.i64.wrap (op - 64768) = op - 64768 := by have := HOP.out; rw [IntKind.wrap_i64]; omega
   have HLQ := Lib.hid (show opcO op = [] ++ [253] ++ formU (uN (op - 64768)) from by unfold opcO; rw [if_pos hbig]; rfl)
   obtain ⟨YU, hYU⟩ : ∃ Y, formU (uN (op - 64768)) = Y := ⟨_, rfl⟩
   have HUX := Lib.hid (fun wx => by have := HU.out (op - 64768) wx; rw [hYU] at this; exact this)
   rw [hYU] at HLQ
   clear hYU
   obtain ⟨i0, i1, i2, i3, i4, i5⟩ := HRK.out _ _ _ _ _ HS.out
   go_wp2_with (first | (at_builtin; refine OnS.apw (Y := [253]) HS.out ((Gr.refl _).alloc _ _) rfl _ _ rfl rfl rfl (src_lit w1 #[.int .u8 253] 5 1 1) rfl 1 (by have := HNB.out; omega) (by decide) ?_))
   intro x11 n11 c11 w11 hb hs
   clear HS HNB
   have HS := Lib.hid hs
   have HNB := Lib.hid hb
   clear hb hs
   obtain ⟨i0, i1, i2, i3, i4, i5⟩ := HRK.out _ _ _ _ _ HS.out
   go_wp2_with fail
   refine OnS.cal HS.out (Gr.refl _) (HUX.out _) ?_
   intro xu mu cu w12 hs hu
   clear HS
   have HS := Lib.hid hs
   have HSU := Lib.hid hu
   clear hs hu
   go_wp2_with (at_builtin; refine OnS.apw (Y := YU) HS.out (Gr.refl _) rfl _ _ rfl rfl rfl HSU.out.1 HSU.out.2.1 11 (by have := HNB.out; have := HSU.out.2.2; omega) (by decide) ?_)
   intro x13 n13 c13 w13 hb hs
   clear HS HNB
   have HS := Lib.hid hs
   have HNB := Lib.hid hb
   clear hb hs
   go_wp2
   go_meet
   exact ⟨_, _, _, rfl, by rw [← HL0.out, HLQ.out]; exact HS.out, by have := HNB.out; omega⟩
  ·have d0 : decide (op ≥ 64768) = false := decide_eq_false (by omega)
   have T1 : IntKind.u8.wrap op = op % 256 := by rw [IntKind.wrap_u8]
   have HLQ := Lib.hid (show opcO op = [] ++ [op % 256] from by unfold opcO; rw [if_neg hbig]; rfl)
   obtain ⟨i0, i1, i2, i3, i4, i5⟩ := HRK.out _ _ _ _ _ HS.out
   go_wp2_with (at_builtin; refine OnS.apw (Y := [(op % 256)]) HS.out ((Gr.refl _).alloc _ _) rfl _ _ rfl rfl rfl (src_lit w1 #[.int .u8 (op % 256)] 5 1 1) rfl 1 (by have := HNB.out; omega) (by decide) ?_)
   intro x21 n21 c21 w21 hb hs
   clear HS HNB
   have HS := Lib.hid hs
   have HNB := Lib.hid hb
   clear hb hs
   go_wp2
   go_meet
   exact ⟨_, _, _, rfl, by rw [← HL0.out, HLQ.out]; exact HS.out, by have := HNB.out; omega⟩
 case rest => as_aux_lemma =>
  obtain ⟨xb, nb, cb, rfl, hs, hnb⟩ := hcut
  clear HS HNB
  have HS := Lib.hid hs
  have HNB := Lib.hid hnb
  clear hs hnb
  generalize wc = wb at *
  obtain ⟨i0, i1, i2, i3, i4, i5⟩ := HRK.out _ _ _ _ _ HS.out
  go_wp2_with fail
  refine (HOF.out _).mono ?_
  rintro e w2 ⟨lv, pv, xi, ni, ci, xj, nj, cj, rfl, hg⟩
  have HS2 := Lib.hid (HS.out.to hg)
  clear hg HS
  go_upto_region 7 with (refine wpList_store_row rfl 50 _ _ rfl w2.heap.size #[.int .i64 9, .int .i64 lv, .bool pv, .slice xi ni ci, .slice xj nj cj] rfl rfl 50 #[.int .i64 0, .int .i64 0, .bool false, .slice none 0 0, .slice none 0 0] (heap_alloc_new w2 _) infoIf rfl (by kernel_rfl) ?_)
  have HS := Lib.hid (OnS.inf HS2.out #[.int .i64 9, .int .i64 lv, .bool pv, .slice xi ni ci, .slice xj nj cj])
  clear HS2
  generalize (w2.alloc (.cells #[.int .i64 0, .int .i64 0, .bool false, .slice none 0 0, .slice none 0 0] 50)).setRow w2.heap.size #[.int .i64 9, .int .i64 lv, .bool pv, .slice xi ni ci, .slice xj nj cj] = w3 at *
  generalize w2.heap.size = bi at *
  have HR6 := Lib.hid (fun wx x1 n1 c1 L h => OnS.c7 w bi 9 lv pv (.slice xi ni ci) (.slice xj nj cj) op a b lo hi (.slice x n c) wx x1 n1 c1 L h)
  obtain ⟨k0, i0, i1, i2, i3, i4, i5⟩ := HR6.out _ _ _ _ _ HS.out
  have HFO0 : fldO ⟨op, a, b, lo, hi, l⟩ 9 = formS (sg32 lo) := rfl
  have HSG0 := fun wx => rsg32 lo HLO.out wx
  have hzb : -9223372036854775808 ≤ sg32 lo ∧ sg32 lo ≤ 9223372036854775807 := by have := HLO.out; unfold sg32; split <;> omega
  generalize sg32 lo = zz at *
  have HPX0 := fun wx => rputs1 (w := World.alloc wx (.cells #[.int .i64 zz] 2)) (b := wx.heap.size) (n := zz) hzb (heap_alloc_new wx _)
  obtain ⟨YU, hYU⟩ : ∃ Y, formS zz = Y := ⟨_, rfl⟩
  rw [hYU] at HFO0 HPX0
  have HFO := Lib.hid HFO0
  have HPX := Lib.hid HPX0
  have HSG := Lib.hid HSG0
  clear hzb hYU HFO0 HPX0 HSG0
  go_wp2_with fail
  refine (HSG.out _).mono ?_
  rintro e w4 ⟨rfl, hg⟩
  have HSn := Lib.hid (HS.out.to hg)
  clear hg HS
  have HS := HSn
  clear HSn
  go_wp2_with fail
  refine OnS.cal HS.out ((Gr.refl w4).alloc _ _) (HPX.out w4) ?_
  intro xu mu cu w31 hs hu
  clear HS
  have HS := Lib.hid hs
  have HSU := Lib.hid hu
  clear hs hu
  go_wp2_with (at_builtin; refine OnS.apw (Y := YU) HS.out (Gr.refl _) rfl _ _ rfl rfl rfl HSU.out.1 HSU.out.2.1 110 (by have := HNB.out; have := HSU.out.2.2; omega) (by decide) ?_)
  intro x32 n32 c32 w32 hb hs
  clear HS HNB
  have HS := Lib.hid hs
  have HNB := Lib.hid hb
  clear hb hs
  go_wp2
  go_ret
  rw [HFO.out]
  exact HS.out.fin
set_option maxRecDepth 100000 in
set_option maxHeartbeats 8000000 in
theorem one_10 {op a b lo hi : Int} {l : List Int} {x : Option Addr} {n c : Nat} {w : World} (hop : -9223372036854775808 ≤ op ∧ op ≤ 9223372036854775807) (ha : -9223372036854775808 ≤ a ∧ a ≤ 9223372036854775807) (hlo : 0 ≤ lo ∧ lo < 18446744073709551616) (hhi : 0 ≤ hi ∧ hi < 18446744073709551616) (hn : l.length = n) (hl : n ≤ 4294967296) (hr : LsR w (.slice x n c) l) (hf : fm op = 10) :
  Calls Try.prog 26 #[.agg #[.int .i64 op, .int .i64 a, .int .i64 b, .int .u64 lo, .int .u64 hi, .slice x n c]] w (BYO (opcO op ++ fldO ⟨op, a, b, lo, hi, l⟩ 10) w) := by
 have HU := Lib.hid u_any
 have HOP := Lib.hid hop
 have HA := Lib.hid ha
 have HLO := Lib.hid hlo
 have HHI := Lib.hid hhi
 have HN := Lib.hid hn
 have HL := Lib.hid hl
 have HR := Lib.hid (fun wx (hg : Gr w wx) => lsR_gr hr hg)
 have HOF := Lib.hid (fun wx => (rof_fm op (by omega) wx).mono (show ∀ (e : Ending) (w' : World), OFX op wx e w' → OFY 10 wx e w' from fun e w' ⟨lv, pv, xi, ni, ci, xj, nj, cj, h, hg⟩ => ⟨lv, pv, xi, ni, ci, xj, nj, cj, by rw [h, hf], hg⟩))
 obtain ⟨L0, hL0⟩ : ∃ L, opcO op = L := ⟨_, rfl⟩
 have HL0 := Lib.hid hL0
 rw [hL0]
 clear hop ha hlo hhi hn hl hr hf hL0
 have HRK := Lib.hid (fun wx x1 n1 c1 L h => OnS.c6 w op a b lo hi (.slice x n c) wx x1 n1 c1 L h)
 go_enter Try.func26, Try.ntmps26
 have HS := Lib.hid (OnS.ini w #[.int .i64 op, .int .i64 a, .int .i64 b, .int .u64 lo, .int .u64 hi, .slice x n c])
 have HNB := Lib.hid (show 0 ≤ 0 from Nat.le_refl _)
 go_upto_if 11 with fail
 generalize w.alloc (.cells #[.int .i64 op, .int .i64 a, .int .i64 b, .int .u64 lo, .int .u64 hi, .slice x n c] 38) = w1 at *
 go_cut [3] from 9 (fun bv wx => ∃ (xb : Option Addr) (nb cb : Nat), bv = .slice xb nb cb ∧ OnS w wx [(w.heap.size, #[.int .i64 op, .int .i64 a, .int .i64 b, .int .u64 lo, .int .u64 hi, .slice x n c], 38)] xb nb cb L0 ∧ nb ≤ 100)
 case first => as_aux_lemma =>
  by_cases hbig : 64768 ≤ op
  ·have d0 : decide (op ≥ 64768) = true := decide_eq_true hbig
   have T1 : IntKind.i64.wrap (op - 64768) = op - 64768 := by have := HOP.out; rw [IntKind.wrap_i64]; omega
   have HLQ := Lib.hid (show opcO op = [] ++ [253] ++ formU (uN (op - 64768)) from by unfold opcO; rw [if_pos hbig]; rfl)
   obtain ⟨YU, hYU⟩ : ∃ Y, formU (uN (op - 64768)) = Y := ⟨_, rfl⟩
   have HUX := Lib.hid (fun wx => by have := HU.out (op - 64768) wx; rw [hYU] at this; exact this)
   rw [hYU] at HLQ
   clear hYU
   obtain ⟨i0, i1, i2, i3, i4, i5⟩ := HRK.out _ _ _ _ _ HS.out
   go_wp2_with (first | (at_builtin; refine OnS.apw (Y := [253]) HS.out ((Gr.refl _).alloc _ _) rfl _ _ rfl rfl rfl (src_lit w1 #[.int .u8 253] 5 1 1) rfl 1 (by have := HNB.out; omega) (by decide) ?_))
   intro x11 n11 c11 w11 hb hs
   clear HS HNB
   have HS := Lib.hid hs
   have HNB := Lib.hid hb
   clear hb hs
   obtain ⟨i0, i1, i2, i3, i4, i5⟩ := HRK.out _ _ _ _ _ HS.out
   go_wp2_with fail
   refine OnS.cal HS.out (Gr.refl _) (HUX.out _) ?_
   intro xu mu cu w12 hs hu
   clear HS
   have HS := Lib.hid hs
   have HSU := Lib.hid hu
   clear hs hu
   go_wp2_with (at_builtin; refine OnS.apw (Y := YU) HS.out (Gr.refl _) rfl _ _ rfl rfl rfl HSU.out.1 HSU.out.2.1 11 (by have := HNB.out; have := HSU.out.2.2; omega) (by decide) ?_)
   intro x13 n13 c13 w13 hb hs
   clear HS HNB
   have HS := Lib.hid hs
   have HNB := Lib.hid hb
   clear hb hs
   go_wp2
   go_meet
   exact ⟨_, _, _, rfl, by rw [← HL0.out, HLQ.out]; exact HS.out, by have := HNB.out; omega⟩
  ·have d0 : decide (op ≥ 64768) = false := decide_eq_false (by omega)
   have T1 : IntKind.u8.wrap op = op % 256 := by rw [IntKind.wrap_u8]
   have HLQ := Lib.hid (show opcO op = [] ++ [op % 256] from by unfold opcO; rw [if_neg hbig]; rfl)
   obtain ⟨i0, i1, i2, i3, i4, i5⟩ := HRK.out _ _ _ _ _ HS.out
   go_wp2_with (at_builtin; refine OnS.apw (Y := [(op % 256)]) HS.out ((Gr.refl _).alloc _ _) rfl _ _ rfl rfl rfl (src_lit w1 #[.int .u8 (op % 256)] 5 1 1) rfl 1 (by have := HNB.out; omega) (by decide) ?_)
   intro x21 n21 c21 w21 hb hs
   clear HS HNB
   have HS := Lib.hid hs
   have HNB := Lib.hid hb
   clear hb hs
   go_wp2
   go_meet
   exact ⟨_, _, _, rfl, by rw [← HL0.out, HLQ.out]; exact HS.out, by have := HNB.out; omega⟩
 case rest => as_aux_lemma =>
  obtain ⟨xb, nb, cb, rfl, hs, hnb⟩ := hcut
  clear HS HNB
  have HS := Lib.hid hs
  have HNB := Lib.hid hnb
  clear hs hnb
  generalize wc = wb at *
  obtain ⟨i0, i1, i2, i3, i4, i5⟩ := HRK.out _ _ _ _ _ HS.out
  go_wp2_with fail
  refine (HOF.out _).mono ?_
  rintro e w2 ⟨lv, pv, xi, ni, ci, xj, nj, cj, rfl, hg⟩
  have HS2 := Lib.hid (HS.out.to hg)
  clear hg HS
  go_upto_region 7 with (refine wpList_store_row rfl 50 _ _ rfl w2.heap.size #[.int .i64 10, .int .i64 lv, .bool pv, .slice xi ni ci, .slice xj nj cj] rfl rfl 50 #[.int .i64 0, .int .i64 0, .bool false, .slice none 0 0, .slice none 0 0] (heap_alloc_new w2 _) infoIf rfl (by kernel_rfl) ?_)
  have HS := Lib.hid (OnS.inf HS2.out #[.int .i64 10, .int .i64 lv, .bool pv, .slice xi ni ci, .slice xj nj cj])
  clear HS2
  generalize (w2.alloc (.cells #[.int .i64 0, .int .i64 0, .bool false, .slice none 0 0, .slice none 0 0] 50)).setRow w2.heap.size #[.int .i64 10, .int .i64 lv, .bool pv, .slice xi ni ci, .slice xj nj cj] = w3 at *
  generalize w2.heap.size = bi at *
  have HR6 := Lib.hid (fun wx x1 n1 c1 L h => OnS.c7 w bi 10 lv pv (.slice xi ni ci) (.slice xj nj cj) op a b lo hi (.slice x n c) wx x1 n1 c1 L h)
  obtain ⟨k0, i0, i1, i2, i3, i4, i5⟩ := HR6.out _ _ _ _ _ HS.out
  have HFO0 : fldO ⟨op, a, b, lo, hi, l⟩ 10 = formS (sg64 lo) := rfl
  have T3 : IntKind.i64.wrap lo = sg64 lo := by have := HLO.out; unfold sg64; simp only [IntKind.wrap_i64]; split <;> omega
  have hzb : -9223372036854775808 ≤ sg64 lo ∧ sg64 lo ≤ 9223372036854775807 := by have := HLO.out; unfold sg64; split <;> omega
  generalize sg64 lo = zz at *
  have HPX0 := fun wx => rputs1 (w := World.alloc wx (.cells #[.int .i64 zz] 2)) (b := wx.heap.size) (n := zz) hzb (heap_alloc_new wx _)
  obtain ⟨YU, hYU⟩ : ∃ Y, formS zz = Y := ⟨_, rfl⟩
  rw [hYU] at HFO0 HPX0
  have HFO := Lib.hid HFO0
  have HPX := Lib.hid HPX0
  clear hzb hYU HFO0 HPX0
  go_wp2_with fail
  refine OnS.cal HS.out ((Gr.refl w3).alloc _ _) (HPX.out w3) ?_
  intro xu mu cu w31 hs hu
  clear HS
  have HS := Lib.hid hs
  have HSU := Lib.hid hu
  clear hs hu
  go_wp2_with (at_builtin; refine OnS.apw (Y := YU) HS.out (Gr.refl _) rfl _ _ rfl rfl rfl HSU.out.1 HSU.out.2.1 110 (by have := HNB.out; have := HSU.out.2.2; omega) (by decide) ?_)
  intro x32 n32 c32 w32 hb hs
  clear HS HNB
  have HS := Lib.hid hs
  have HNB := Lib.hid hb
  clear hb hs
  go_wp2
  go_ret
  rw [HFO.out]
  exact HS.out.fin
end Ex
end
section
open Go.RowKit VecM LebM
namespace Ex
set_option maxRecDepth 100000 in
set_option maxHeartbeats 8000000 in
theorem one_11 {op a b lo hi : Int} {l : List Int} {x : Option Addr} {n c : Nat} {w : World} (hop : -9223372036854775808 ≤ op ∧ op ≤ 9223372036854775807) (ha : -9223372036854775808 ≤ a ∧ a ≤ 9223372036854775807) (hlo : 0 ≤ lo ∧ lo < 18446744073709551616) (hhi : 0 ≤ hi ∧ hi < 18446744073709551616) (hn : l.length = n) (hl : n ≤ 4294967296) (hr : LsR w (.slice x n c) l) (hf : fm op = 11) :
  Calls Try.prog 26 #[.agg #[.int .i64 op, .int .i64 a, .int .i64 b, .int .u64 lo, .int .u64 hi, .slice x n c]] w (BYO (opcO op ++ fldO ⟨op, a, b, lo, hi, l⟩ 11) w) := by
 have HU := Lib.hid u_any
 have HOP := Lib.hid hop
 have HA := Lib.hid ha
 have HLO := Lib.hid hlo
 have HHI := Lib.hid hhi
 have HN := Lib.hid hn
 have HL := Lib.hid hl
 have HR := Lib.hid (fun wx (hg : Gr w wx) => lsR_gr hr hg)
 have HOF := Lib.hid (fun wx => (rof_fm op (by omega) wx).mono (show ∀ (e : Ending) (w' : World), OFX op wx e w' → OFY 11 wx e w' from fun e w' ⟨lv, pv, xi, ni, ci, xj, nj, cj, h, hg⟩ => ⟨lv, pv, xi, ni, ci, xj, nj, cj, by rw [h, hf], hg⟩))
 obtain ⟨L0, hL0⟩ : ∃ L, opcO op = L := ⟨_, rfl⟩
 have HL0 := Lib.hid hL0
 rw [hL0]
 clear hop ha hlo hhi hn hl hr hf hL0
 have HRK := Lib.hid (fun wx x1 n1 c1 L h => OnS.c6 w op a b lo hi (.slice x n c) wx x1 n1 c1 L h)
 go_enter Try.func26, Try.ntmps26
 have HS := Lib.hid (OnS.ini w #[.int .i64 op, .int .i64 a, .int .i64 b, .int .u64 lo, .int .u64 hi, .slice x n c])
 have HNB := Lib.hid (show 0 ≤ 0 from Nat.le_refl _)
 go_upto_if 11 with fail
 generalize w.alloc (.cells #[.int .i64 op, .int .i64 a, .int .i64 b, .int .u64 lo, .int .u64 hi, .slice x n c] 38) = w1 at *
 go_cut [3] from 9 (fun bv wx => ∃ (xb : Option Addr) (nb cb : Nat), bv = .slice xb nb cb ∧ OnS w wx [(w.heap.size, #[.int .i64 op, .int .i64 a, .int .i64 b, .int .u64 lo, .int .u64 hi, .slice x n c], 38)] xb nb cb L0 ∧ nb ≤ 100)
 case first => as_aux_lemma =>
  by_cases hbig : 64768 ≤ op
  ·have d0 : decide (op ≥ 64768) = true := decide_eq_true hbig
   have T1 : IntKind.i64.wrap (op - 64768) = op - 64768 := by have := HOP.out; rw [IntKind.wrap_i64]; omega
   have HLQ := Lib.hid (show opcO op = [] ++ [253] ++ formU (uN (op - 64768)) from by unfold opcO; rw [if_pos hbig]; rfl)
   obtain ⟨YU, hYU⟩ : ∃ Y, formU (uN (op - 64768)) = Y := ⟨_, rfl⟩
   have HUX := Lib.hid (fun wx => by have := HU.out (op - 64768) wx; rw [hYU] at this; exact this)
   rw [hYU] at HLQ
   clear hYU
   obtain ⟨i0, i1, i2, i3, i4, i5⟩ := HRK.out _ _ _ _ _ HS.out
   go_wp2_with (first | (at_builtin; refine OnS.apw (Y := [253]) HS.out ((Gr.refl _).alloc _ _) rfl _ _ rfl rfl rfl (src_lit w1 #[.int .u8 253] 5 1 1) rfl 1 (by have := HNB.out; omega) (by decide) ?_))
   intro x11 n11 c11 w11 hb hs
   clear HS HNB
   have HS := Lib.hid hs
   have HNB := Lib.hid hb
   clear hb hs
   obtain ⟨i0, i1, i2, i3, i4, i5⟩ := HRK.out _ _ _ _ _ HS.out
   go_wp2_with fail
   refine OnS.cal HS.out (Gr.refl _) (HUX.out _) ?_
   intro xu mu cu w12 hs hu
   clear HS
   have HS := Lib.hid hs
   have HSU := Lib.hid hu
   clear hs hu
   go_wp2_with (at_builtin; refine OnS.apw (Y := YU) HS.out (Gr.refl _) rfl _ _ rfl rfl rfl HSU.out.1 HSU.out.2.1 11 (by have := HNB.out; have := HSU.out.2.2; omega) (by decide) ?_)
   intro x13 n13 c13 w13 hb hs
   clear HS HNB
   have HS := Lib.hid hs
   have HNB := Lib.hid hb
   clear hb hs
   go_wp2
   go_meet
   exact ⟨_, _, _, rfl, by rw [← HL0.out, HLQ.out]; exact HS.out, by have := HNB.out; omega⟩
  ·have d0 : decide (op ≥ 64768) = false := decide_eq_false (by omega)
   have T1 : IntKind.u8.wrap op = op % 256 := by rw [IntKind.wrap_u8]
   have HLQ := Lib.hid (show opcO op = [] ++ [op % 256] from by unfold opcO; rw [if_neg hbig]; rfl)
   obtain ⟨i0, i1, i2, i3, i4, i5⟩ := HRK.out _ _ _ _ _ HS.out
   go_wp2_with (at_builtin; refine OnS.apw (Y := [(op % 256)]) HS.out ((Gr.refl _).alloc _ _) rfl _ _ rfl rfl rfl (src_lit w1 #[.int .u8 (op % 256)] 5 1 1) rfl 1 (by have := HNB.out; omega) (by decide) ?_)
   intro x21 n21 c21 w21 hb hs
   clear HS HNB
   have HS := Lib.hid hs
   have HNB := Lib.hid hb
   clear hb hs
   go_wp2
   go_meet
   exact ⟨_, _, _, rfl, by rw [← HL0.out, HLQ.out]; exact HS.out, by have := HNB.out; omega⟩
 case rest => as_aux_lemma =>
  obtain ⟨xb, nb, cb, rfl, hs, hnb⟩ := hcut
  clear HS HNB
  have HS := Lib.hid hs
  have HNB := Lib.hid hnb
  clear hs hnb
  generalize wc = wb at *
  obtain ⟨i0, i1, i2, i3, i4, i5⟩ := HRK.out _ _ _ _ _ HS.out
  go_wp2_with fail
  refine (HOF.out _).mono ?_
  rintro e w2 ⟨lv, pv, xi, ni, ci, xj, nj, cj, rfl, hg⟩
  have HS2 := Lib.hid (HS.out.to hg)
  clear hg HS
  go_upto_region 7 with (refine wpList_store_row rfl 50 _ _ rfl w2.heap.size #[.int .i64 11, .int .i64 lv, .bool pv, .slice xi ni ci, .slice xj nj cj] rfl rfl 50 #[.int .i64 0, .int .i64 0, .bool false, .slice none 0 0, .slice none 0 0] (heap_alloc_new w2 _) infoIf rfl (by kernel_rfl) ?_)
  have HS := Lib.hid (OnS.inf HS2.out #[.int .i64 11, .int .i64 lv, .bool pv, .slice xi ni ci, .slice xj nj cj])
  clear HS2
  generalize (w2.alloc (.cells #[.int .i64 0, .int .i64 0, .bool false, .slice none 0 0, .slice none 0 0] 50)).setRow w2.heap.size #[.int .i64 11, .int .i64 lv, .bool pv, .slice xi ni ci, .slice xj nj cj] = w3 at *
  generalize w2.heap.size = bi at *
  have HR6 := Lib.hid (fun wx x1 n1 c1 L h => OnS.c7 w bi 11 lv pv (.slice xi ni ci) (.slice xj nj cj) op a b lo hi (.slice x n c) wx x1 n1 c1 L h)
  obtain ⟨k0, i0, i1, i2, i3, i4, i5⟩ := HR6.out _ _ _ _ _ HS.out
  have HJ := Lib.hid (fun wx => rjoin_any lo hi HLO.out HHI.out wx)
  go_wp2_with fail
  refine (HJ.out _).mono ?_
  rintro e w4 ⟨rfl, hg⟩
  have HS4 := Lib.hid (HS.out.to hg)
  clear hg HS
  go_upto_region 37 with (refine wpList_store_row rfl 85 _ _ rfl w4.heap.size (bs (vecB lo hi)) rfl rfl 85 (bs fun _ => 0) (heap_alloc_new w4 _) infoV rfl (by kernel_rfl) ?_)
  have hrw := Sep.setRow (ex := fun b => b = w4.heap.size) (w4.alloc (.cells (bs fun _ => 0) 85)) rfl (bs (vecB lo hi))
  have hgg : Gr w4 ((w4.alloc (.cells (bs fun _ => 0) 85)).setRow w4.heap.size (bs (vecB lo hi))) := Sep.toGr ((Gr.refl w4).alloc (bs fun _ => 0) 85) hrw (fun q hq => by have e' : q = w4.heap.size := hq; omega)
  have HS := Lib.hid ((HS4.out.to hgg).add (k := (w4.heap.size, bs (vecB lo hi), 85)) (setRow_block (heap_alloc_new w4 (.cells (bs fun _ => 0) 85))) (show 85 ≠ 5 by decide))
  clear hrw hgg HS4 i0 i1 i2 i3 i4 i5 k0
  generalize (w4.alloc (.cells (bs fun _ => 0) 85)).setRow w4.heap.size (bs (vecB lo hi)) = w5 at *
  generalize w4.heap.size = bv at *
  go_wp2_with fail
  go_loopw [3, 8] (fun sv kv wr => ∃ (k : Nat) (xk : Option Addr) (nk ck : Nat), k ≤ 16 ∧ kv = .int .i64 k ∧ sv = .slice xk nk ck ∧ nk ≤ 100 + k ∧ OnS w wr [(bv, bs (vecB lo hi), 85)] xk nk ck (L0 ++ (vecL lo hi).take k)) (fun _ kv _ => 16 - (intOf kv).toNat)
  case atStart => exact ⟨0, xb, nb, cb, by omega, rfl, rfl, HNB.out, by rw [List.take_zero, List.append_nil]; exact ⟨fun k hk => by rw [List.mem_singleton.1 hk]; exact HS.out.rows _ (by simp), HS.out.own, HS.out.gr⟩⟩
  case round =>
   obtain ⟨k, xk, nk, ck, hk, rfl, rfl, hnk, hs⟩ := hrel
   clear HS HNB
   have HS := Lib.hid hs
   have HK := Lib.hid hk
   have HNB := Lib.hid hnk
   clear hs hnk
   by_cases hlt : k < 16
   ·have d0 : decide ((k : Int) < 16) = true := decide_eq_true (by omega)
    have e3 : (k : Int) < 16 := by omega
    have cb := (cell_of_row _ _ k _ _ _ (HS.out.rows _ (List.mem_singleton.2 rfl)).1).trans (bs_get _ k hlt)
    go_wp2_with (at_builtin; refine OnS.apw (Y := [(vecB lo hi k)]) HS.out ((Gr.refl _).alloc _ _) rfl _ _ rfl rfl rfl (src_lit wr #[.int .u8 (vecB lo hi k)] 5 1 1) rfl (100 + (k + 1)) (by have := HNB.out; omega) (by have := HK.out; omega) ?_)
    intro x22 n22 c22 w22 hb hs
    clear HS HNB
    have HS := Lib.hid hs
    have HNB := Lib.hid hb
    clear hb hs
    go_wp2
    have htk : (vecL lo hi).take (k + 1) = (vecL lo hi).take k ++ [vecB lo hi k] := by
     rw [List.take_add_one]
     congr 1
     unfold vecL
     rw [List.getElem?_map, List.getElem?_range hlt]; rfl
    exact ⟨⟨k + 1, _, _, _, by omega, by go_num, rfl, HNB.out, by rw [htk, ← List.append_assoc]; exact HS.out⟩, by simp [intOf]; omega⟩
   ·obtain rfl : k = 16 := by omega
    go_wp2
    go_ret
    have hvl : (vecL lo hi).take 16 = fldO ⟨op, a, b, lo, hi, l⟩ 11 := List.take_of_length_le (by unfold vecL; simp)
    rw [← hvl]
    exact HS.out.fin
set_option maxRecDepth 100000 in
set_option maxHeartbeats 8000000 in
theorem one_12 {op a b lo hi : Int} {l : List Int} {x : Option Addr} {n c : Nat} {w : World} (hop : -9223372036854775808 ≤ op ∧ op ≤ 9223372036854775807) (ha : -9223372036854775808 ≤ a ∧ a ≤ 9223372036854775807) (hlo : 0 ≤ lo ∧ lo < 18446744073709551616) (hhi : 0 ≤ hi ∧ hi < 18446744073709551616) (hn : l.length = n) (hl : n ≤ 4294967296) (hr : LsR w (.slice x n c) l) (hf : fm op = 12) :
  Calls Try.prog 26 #[.agg #[.int .i64 op, .int .i64 a, .int .i64 b, .int .u64 lo, .int .u64 hi, .slice x n c]] w (BYO (opcO op ++ fldO ⟨op, a, b, lo, hi, l⟩ 12) w) := by
 have HU := Lib.hid u_any
 have HOP := Lib.hid hop
 have HA := Lib.hid ha
 have HLO := Lib.hid hlo
 have HHI := Lib.hid hhi
 have HN := Lib.hid hn
 have HL := Lib.hid hl
 have HR := Lib.hid (fun wx (hg : Gr w wx) => lsR_gr hr hg)
 have HOF := Lib.hid (fun wx => (rof_fm op (by omega) wx).mono (show ∀ (e : Ending) (w' : World), OFX op wx e w' → OFY 12 wx e w' from fun e w' ⟨lv, pv, xi, ni, ci, xj, nj, cj, h, hg⟩ => ⟨lv, pv, xi, ni, ci, xj, nj, cj, by rw [h, hf], hg⟩))
 obtain ⟨L0, hL0⟩ : ∃ L, opcO op = L := ⟨_, rfl⟩
 have HL0 := Lib.hid hL0
 rw [hL0]
 clear hop ha hlo hhi hn hl hr hf hL0
 have HRK := Lib.hid (fun wx x1 n1 c1 L h => OnS.c6 w op a b lo hi (.slice x n c) wx x1 n1 c1 L h)
 go_enter Try.func26, Try.ntmps26
 have HS := Lib.hid (OnS.ini w #[.int .i64 op, .int .i64 a, .int .i64 b, .int .u64 lo, .int .u64 hi, .slice x n c])
 have HNB := Lib.hid (show 0 ≤ 0 from Nat.le_refl _)
 go_upto_if 11 with fail
 generalize w.alloc (.cells #[.int .i64 op, .int .i64 a, .int .i64 b, .int .u64 lo, .int .u64 hi, .slice x n c] 38) = w1 at *
 go_cut [3] from 9 (fun bv wx => ∃ (xb : Option Addr) (nb cb : Nat), bv = .slice xb nb cb ∧ OnS w wx [(w.heap.size, #[.int .i64 op, .int .i64 a, .int .i64 b, .int .u64 lo, .int .u64 hi, .slice x n c], 38)] xb nb cb L0 ∧ nb ≤ 100)
 case first => as_aux_lemma =>
  by_cases hbig : 64768 ≤ op
  ·have d0 : decide (op ≥ 64768) = true := decide_eq_true hbig
   have T1 : IntKind.i64.wrap (op - 64768) = op - 64768 := by have := HOP.out; rw [IntKind.wrap_i64]; omega
   have HLQ := Lib.hid (show opcO op = [] ++ [253] ++ formU (uN (op - 64768)) from by unfold opcO; rw [if_pos hbig]; rfl)
   obtain ⟨YU, hYU⟩ : ∃ Y, formU (uN (op - 64768)) = Y := ⟨_, rfl⟩
   have HUX := Lib.hid (fun wx => by have := HU.out (op - 64768) wx; rw [hYU] at this; exact this)
   rw [hYU] at HLQ
   clear hYU
   obtain ⟨i0, i1, i2, i3, i4, i5⟩ := HRK.out _ _ _ _ _ HS.out
   go_wp2_with (first | (at_builtin; refine OnS.apw (Y := [253]) HS.out ((Gr.refl _).alloc _ _) rfl _ _ rfl rfl rfl (src_lit w1 #[.int .u8 253] 5 1 1) rfl 1 (by have := HNB.out; omega) (by decide) ?_))
   intro x11 n11 c11 w11 hb hs
   clear HS HNB
   have HS := Lib.hid hs
   have HNB := Lib.hid hb
   clear hb hs
   obtain ⟨i0, i1, i2, i3, i4, i5⟩ := HRK.out _ _ _ _ _ HS.out
   go_wp2_with fail
   refine OnS.cal HS.out (Gr.refl _) (HUX.out _) ?_
   intro xu mu cu w12 hs hu
   clear HS
   have HS := Lib.hid hs
   have HSU := Lib.hid hu
   clear hs hu
   go_wp2_with (at_builtin; refine OnS.apw (Y := YU) HS.out (Gr.refl _) rfl _ _ rfl rfl rfl HSU.out.1 HSU.out.2.1 11 (by have := HNB.out; have := HSU.out.2.2; omega) (by decide) ?_)
   intro x13 n13 c13 w13 hb hs
   clear HS HNB
   have HS := Lib.hid hs
   have HNB := Lib.hid hb
   clear hb hs
   go_wp2
   go_meet
   exact ⟨_, _, _, rfl, by rw [← HL0.out, HLQ.out]; exact HS.out, by have := HNB.out; omega⟩
  ·have d0 : decide (op ≥ 64768) = false := decide_eq_false (by omega)
   have T1 : IntKind.u8.wrap op = op % 256 := by rw [IntKind.wrap_u8]
   have HLQ := Lib.hid (show opcO op = [] ++ [op % 256] from by unfold opcO; rw [if_neg hbig]; rfl)
   obtain ⟨i0, i1, i2, i3, i4, i5⟩ := HRK.out _ _ _ _ _ HS.out
   go_wp2_with (at_builtin; refine OnS.apw (Y := [(op % 256)]) HS.out ((Gr.refl _).alloc _ _) rfl _ _ rfl rfl rfl (src_lit w1 #[.int .u8 (op % 256)] 5 1 1) rfl 1 (by have := HNB.out; omega) (by decide) ?_)
   intro x21 n21 c21 w21 hb hs
   clear HS HNB
   have HS := Lib.hid hs
   have HNB := Lib.hid hb
   clear hb hs
   go_wp2
   go_meet
   exact ⟨_, _, _, rfl, by rw [← HL0.out, HLQ.out]; exact HS.out, by have := HNB.out; omega⟩
 case rest => as_aux_lemma =>
  obtain ⟨xb, nb, cb, rfl, hs, hnb⟩ := hcut
  clear HS HNB
  have HS := Lib.hid hs
  have HNB := Lib.hid hnb
  clear hs hnb
  generalize wc = wb at *
  obtain ⟨i0, i1, i2, i3, i4, i5⟩ := HRK.out _ _ _ _ _ HS.out
  go_wp2_with fail
  refine (HOF.out _).mono ?_
  rintro e w2 ⟨lv, pv, xi, ni, ci, xj, nj, cj, rfl, hg⟩
  have HS2 := Lib.hid (HS.out.to hg)
  clear hg HS
  go_upto_region 7 with (refine wpList_store_row rfl 50 _ _ rfl w2.heap.size #[.int .i64 12, .int .i64 lv, .bool pv, .slice xi ni ci, .slice xj nj cj] rfl rfl 50 #[.int .i64 0, .int .i64 0, .bool false, .slice none 0 0, .slice none 0 0] (heap_alloc_new w2 _) infoIf rfl (by kernel_rfl) ?_)
  have HS := Lib.hid (OnS.inf HS2.out #[.int .i64 12, .int .i64 lv, .bool pv, .slice xi ni ci, .slice xj nj cj])
  clear HS2
  generalize (w2.alloc (.cells #[.int .i64 0, .int .i64 0, .bool false, .slice none 0 0, .slice none 0 0] 50)).setRow w2.heap.size #[.int .i64 12, .int .i64 lv, .bool pv, .slice xi ni ci, .slice xj nj cj] = w3 at *
  generalize w2.heap.size = bi at *
  have HR6 := Lib.hid (fun wx x1 n1 c1 L h => OnS.c7 w bi 12 lv pv (.slice xi ni ci) (.slice xj nj cj) op a b lo hi (.slice x n c) wx x1 n1 c1 L h)
  obtain ⟨k0, i0, i1, i2, i3, i4, i5⟩ := HR6.out _ _ _ _ _ HS.out
  have HJ := Lib.hid (fun wx => rjoin_any lo hi HLO.out HHI.out wx)
  go_wp2_with fail
  refine (HJ.out _).mono ?_
  rintro e w4 ⟨rfl, hg⟩
  have HS4 := Lib.hid (HS.out.to hg)
  clear hg HS
  go_upto_region 37 with (refine wpList_store_row rfl 85 _ _ rfl w4.heap.size (bs (vecB lo hi)) rfl rfl 85 (bs fun _ => 0) (heap_alloc_new w4 _) infoV rfl (by kernel_rfl) ?_)
  have hrw := Sep.setRow (ex := fun b => b = w4.heap.size) (w4.alloc (.cells (bs fun _ => 0) 85)) rfl (bs (vecB lo hi))
  have hgg : Gr w4 ((w4.alloc (.cells (bs fun _ => 0) 85)).setRow w4.heap.size (bs (vecB lo hi))) := Sep.toGr ((Gr.refl w4).alloc (bs fun _ => 0) 85) hrw (fun q hq => by have e' : q = w4.heap.size := hq; omega)
  have HS := Lib.hid ((HS4.out.to hgg).add (k := (w4.heap.size, bs (vecB lo hi), 85)) (setRow_block (heap_alloc_new w4 (.cells (bs fun _ => 0) 85))) (show 85 ≠ 5 by decide))
  clear hrw hgg HS4 i0 i1 i2 i3 i4 i5 k0
  generalize (w4.alloc (.cells (bs fun _ => 0) 85)).setRow w4.heap.size (bs (vecB lo hi)) = w5 at *
  generalize w4.heap.size = bv at *
  go_wp2_with fail
  go_loopw [3, 8] (fun sv kv wr => ∃ (k : Nat) (xk : Option Addr) (nk ck : Nat), k ≤ 16 ∧ kv = .int .i64 k ∧ sv = .slice xk nk ck ∧ nk ≤ 100 + k ∧ OnS w wr [(bv, bs (vecB lo hi), 85)] xk nk ck (L0 ++ (vecL lo hi).take k)) (fun _ kv _ => 16 - (intOf kv).toNat)
  case atStart => exact ⟨0, xb, nb, cb, by omega, rfl, rfl, HNB.out, by rw [List.take_zero, List.append_nil]; exact ⟨fun k hk => by rw [List.mem_singleton.1 hk]; exact HS.out.rows _ (by simp), HS.out.own, HS.out.gr⟩⟩
  case round =>
   obtain ⟨k, xk, nk, ck, hk, rfl, rfl, hnk, hs⟩ := hrel
   clear HS HNB
   have HS := Lib.hid hs
   have HK := Lib.hid hk
   have HNB := Lib.hid hnk
   clear hs hnk
   by_cases hlt : k < 16
   ·have d0 : decide ((k : Int) < 16) = true := decide_eq_true (by omega)
    have e3 : (k : Int) < 16 := by omega
    have cb := (cell_of_row _ _ k _ _ _ (HS.out.rows _ (List.mem_singleton.2 rfl)).1).trans (bs_get _ k hlt)
    go_wp2_with (at_builtin; refine OnS.apw (Y := [(vecB lo hi k)]) HS.out ((Gr.refl _).alloc _ _) rfl _ _ rfl rfl rfl (src_lit wr #[.int .u8 (vecB lo hi k)] 5 1 1) rfl (100 + (k + 1)) (by have := HNB.out; omega) (by have := HK.out; omega) ?_)
    intro x22 n22 c22 w22 hb hs
    clear HS HNB
    have HS := Lib.hid hs
    have HNB := Lib.hid hb
    clear hb hs
    go_wp2
    have htk : (vecL lo hi).take (k + 1) = (vecL lo hi).take k ++ [vecB lo hi k] := by
     rw [List.take_add_one]
     congr 1
     unfold vecL
     rw [List.getElem?_map, List.getElem?_range hlt]; rfl
    exact ⟨⟨k + 1, _, _, _, by omega, by go_num, rfl, HNB.out, by rw [htk, ← List.append_assoc]; exact HS.out⟩, by simp [intOf]; omega⟩
   ·obtain rfl : k = 16 := by omega
    go_wp2
    go_ret
    have hvl : (vecL lo hi).take 16 = fldO ⟨op, a, b, lo, hi, l⟩ 12 := List.take_of_length_le (by unfold vecL; simp)
    rw [← hvl]
    exact HS.out.fin
end Ex
end
section
open Go.RowKit VecM LebM
namespace Ex
set_option maxRecDepth 100000 in
set_option maxHeartbeats 8000000 in
theorem one_4 {op a b lo hi : Int} {l : List Int} {x : Option Addr} {n c : Nat} {w : World} (hop : -9223372036854775808 ≤ op ∧ op ≤ 9223372036854775807) (ha : -9223372036854775808 ≤ a ∧ a ≤ 9223372036854775807) (hlo : 0 ≤ lo ∧ lo < 18446744073709551616) (hhi : 0 ≤ hi ∧ hi < 18446744073709551616) (hn : l.length = n) (hl : n ≤ 4294967296) (hr : LsR w (.slice x n c) l) (hf : fm op = 4) :
  Calls Try.prog 26 #[.agg #[.int .i64 op, .int .i64 a, .int .i64 b, .int .u64 lo, .int .u64 hi, .slice x n c]] w (BYO (opcO op ++ fldO ⟨op, a, b, lo, hi, l⟩ 4) w) := by
 have HU := Lib.hid u_any
 have HOP := Lib.hid hop
 have HA := Lib.hid ha
 have HLO := Lib.hid hlo
 have HHI := Lib.hid hhi
 have HN := Lib.hid hn
 have HL := Lib.hid hl
 have HR := Lib.hid (fun wx (hg : Gr w wx) => lsR_gr hr hg)
 have HOF := Lib.hid (fun wx => (rof_fm op (by omega) wx).mono (show ∀ (e : Ending) (w' : World), OFX op wx e w' → OFY 4 wx e w' from fun e w' ⟨lv, pv, xi, ni, ci, xj, nj, cj, h, hg⟩ => ⟨lv, pv, xi, ni, ci, xj, nj, cj, by rw [h, hf], hg⟩))
 obtain ⟨L0, hL0⟩ : ∃ L, opcO op = L := ⟨_, rfl⟩
 have HL0 := Lib.hid hL0
 rw [hL0]
 clear hop ha hlo hhi hn hl hr hf hL0
 have HRK := Lib.hid (fun wx x1 n1 c1 L h => OnS.c6 w op a b lo hi (.slice x n c) wx x1 n1 c1 L h)
 go_enter Try.func26, Try.ntmps26
 have HS := Lib.hid (OnS.ini w #[.int .i64 op, .int .i64 a, .int .i64 b, .int .u64 lo, .int .u64 hi, .slice x n c])
 have HNB := Lib.hid (show 0 ≤ 0 from Nat.le_refl _)
 go_upto_if 11 with fail
 generalize w.alloc (.cells #[.int .i64 op, .int .i64 a, .int .i64 b, .int .u64 lo, .int .u64 hi, .slice x n c] 38) = w1 at *
 go_cut [3] from 9 (fun bv wx => ∃ (xb : Option Addr) (nb cb : Nat), bv = .slice xb nb cb ∧ OnS w wx [(w.heap.size, #[.int .i64 op, .int .i64 a, .int .i64 b, .int .u64 lo, .int .u64 hi, .slice x n c], 38)] xb nb cb L0 ∧ nb ≤ 100)
 case first => as_aux_lemma =>
  by_cases hbig : 64768 ≤ op
  ·have d0 : decide (op ≥ 64768) = true := decide_eq_true hbig
   have T1 : IntKind.i64.wrap (op - 64768) = op - 64768 := by have := HOP.out; rw [IntKind.wrap_i64]; omega
   have HLQ := Lib.hid (show opcO op = [] ++ [253] ++ formU (uN (op - 64768)) from by unfold opcO; rw [if_pos hbig]; rfl)
   obtain ⟨YU, hYU⟩ : ∃ Y, formU (uN (op - 64768)) = Y := ⟨_, rfl⟩
   have HUX := Lib.hid (fun wx => by have := HU.out (op - 64768) wx; rw [hYU] at this; exact this)
   rw [hYU] at HLQ
   clear hYU
   obtain ⟨i0, i1, i2, i3, i4, i5⟩ := HRK.out _ _ _ _ _ HS.out
   go_wp2_with (first | (at_builtin; refine OnS.apw (Y := [253]) HS.out ((Gr.refl _).alloc _ _) rfl _ _ rfl rfl rfl (src_lit w1 #[.int .u8 253] 5 1 1) rfl 1 (by have := HNB.out; omega) (by decide) ?_))
   intro x11 n11 c11 w11 hb hs
   clear HS HNB
   have HS := Lib.hid hs
   have HNB := Lib.hid hb
   clear hb hs
   obtain ⟨i0, i1, i2, i3, i4, i5⟩ := HRK.out _ _ _ _ _ HS.out
   go_wp2_with fail
   refine OnS.cal HS.out (Gr.refl _) (HUX.out _) ?_
   intro xu mu cu w12 hs hu
   clear HS
   have HS := Lib.hid hs
   have HSU := Lib.hid hu
   clear hs hu
   go_wp2_with (at_builtin; refine OnS.apw (Y := YU) HS.out (Gr.refl _) rfl _ _ rfl rfl rfl HSU.out.1 HSU.out.2.1 11 (by have := HNB.out; have := HSU.out.2.2; omega) (by decide) ?_)
   intro x13 n13 c13 w13 hb hs
   clear HS HNB
   have HS := Lib.hid hs
   have HNB := Lib.hid hb
   clear hb hs
   go_wp2
   go_meet
   exact ⟨_, _, _, rfl, by rw [← HL0.out, HLQ.out]; exact HS.out, by have := HNB.out; omega⟩
  ·have d0 : decide (op ≥ 64768) = false := decide_eq_false (by omega)
   have T1 : IntKind.u8.wrap op = op % 256 := by rw [IntKind.wrap_u8]
   have HLQ := Lib.hid (show opcO op = [] ++ [op % 256] from by unfold opcO; rw [if_neg hbig]; rfl)
   obtain ⟨i0, i1, i2, i3, i4, i5⟩ := HRK.out _ _ _ _ _ HS.out
   go_wp2_with (at_builtin; refine OnS.apw (Y := [(op % 256)]) HS.out ((Gr.refl _).alloc _ _) rfl _ _ rfl rfl rfl (src_lit w1 #[.int .u8 (op % 256)] 5 1 1) rfl 1 (by have := HNB.out; omega) (by decide) ?_)
   intro x21 n21 c21 w21 hb hs
   clear HS HNB
   have HS := Lib.hid hs
   have HNB := Lib.hid hb
   clear hb hs
   go_wp2
   go_meet
   exact ⟨_, _, _, rfl, by rw [← HL0.out, HLQ.out]; exact HS.out, by have := HNB.out; omega⟩
 case rest => as_aux_lemma =>
  obtain ⟨xb, nb, cb, rfl, hs, hnb⟩ := hcut
  clear HS HNB
  have HS := Lib.hid hs
  have HNB := Lib.hid hnb
  clear hs hnb
  generalize wc = wb at *
  obtain ⟨i0, i1, i2, i3, i4, i5⟩ := HRK.out _ _ _ _ _ HS.out
  go_wp2_with fail
  refine (HOF.out _).mono ?_
  rintro e w2 ⟨lv, pv, xi, ni, ci, xj, nj, cj, rfl, hg⟩
  have HS2 := Lib.hid (HS.out.to hg)
  clear hg HS
  go_upto_region 7 with (refine wpList_store_row rfl 50 _ _ rfl w2.heap.size #[.int .i64 4, .int .i64 lv, .bool pv, .slice xi ni ci, .slice xj nj cj] rfl rfl 50 #[.int .i64 0, .int .i64 0, .bool false, .slice none 0 0, .slice none 0 0] (heap_alloc_new w2 _) infoIf rfl (by kernel_rfl) ?_)
  have HS := Lib.hid (OnS.inf HS2.out #[.int .i64 4, .int .i64 lv, .bool pv, .slice xi ni ci, .slice xj nj cj])
  clear HS2
  generalize (w2.alloc (.cells #[.int .i64 0, .int .i64 0, .bool false, .slice none 0 0, .slice none 0 0] 50)).setRow w2.heap.size #[.int .i64 4, .int .i64 lv, .bool pv, .slice xi ni ci, .slice xj nj cj] = w3 at *
  generalize w2.heap.size = bi at *
  have HR6 := Lib.hid (fun wx x1 n1 c1 L h => OnS.c7 w bi 4 lv pv (.slice xi ni ci) (.slice xj nj cj) op a b lo hi (.slice x n c) wx x1 n1 c1 L h)
  obtain ⟨k0, i0, i1, i2, i3, i4, i5⟩ := HR6.out _ _ _ _ _ HS.out
  obtain ⟨YU, hYU⟩ : ∃ Y, formU (uN (n : Int)) = Y := ⟨_, rfl⟩
  have HUX := Lib.hid (fun wx => by have := HU.out (n : Int) wx; rw [hYU] at this; exact this)
  have HFO := Lib.hid (show L0 ++ fldO ⟨op, a, b, lo, hi, l⟩ 4 = L0 ++ YU ++ (l.flatMap fun z => formU (uN z)) ++ formU (uN a) from by rw [← hYU, ← HN.out]; show L0 ++ (_ ++ _ ++ _) = _; simp only [List.append_assoc])
  clear hYU
  go_wp2_with fail
  refine OnS.cal HS.out (Gr.refl _) (HUX.out _) ?_
  intro xu mu cu w22 hs hu
  clear HS
  have HS := Lib.hid hs
  have HSU := Lib.hid hu
  clear hs hu
  go_wp2_with (at_builtin; refine OnS.apw (Y := YU) HS.out (Gr.refl _) rfl _ _ rfl rfl rfl HSU.out.1 HSU.out.2.1 110 (by have := HNB.out; have := HSU.out.2.2; omega) (by decide) ?_)
  intro x23 n23 c23 w23 hb hs
  clear HS HNB
  have HS := Lib.hid hs
  have HNB := Lib.hid hb
  clear hb hs
  clear HSU
  go_wp2_with fail
  have HLS := Lib.hid (lsR_cells (HR.out w (Gr.refl w))).2
  go_loopw [3, 6] (fun sv kv wr => ∃ (k : Nat) (xk : Option Addr) (nk ck : Nat), k ≤ n ∧ kv = .int .i64 k ∧ sv = .slice xk nk ck ∧ nk ≤ 200 + 10 * k ∧ OnS w wr [(w.heap.size, #[.int .i64 op, .int .i64 a, .int .i64 b, .int .u64 lo, .int .u64 hi, .slice x n c], 38)] xk nk ck (L0 ++ YU ++ ((l.take k).flatMap fun z => formU (uN z)))) (fun _ kv _ => n - (intOf kv).toNat)
  case atStart => exact ⟨0, x23, n23, c23, by omega, rfl, rfl, by have := HNB.out; omega, by rw [List.take_zero, List.flatMap_nil, List.append_nil]; exact ⟨fun k hk => by rw [List.mem_singleton.1 hk]; exact HS.out.rows _ (by simp), HS.out.own, HS.out.gr⟩⟩
  case round =>
   obtain ⟨k, xk, nk, ck, hk, rfl, rfl, hnk, hs⟩ := hrel
   clear HS HNB
   have HS := Lib.hid hs
   have HNB := Lib.hid hnk
   clear hs hnk
   obtain ⟨i0, i1, i2, i3, i4, i5⟩ := HRK.out _ _ _ _ _ HS.out
   by_cases hlt : k < n
   ·have e3 : (k : Int) < (n : Int) := by omega
    have d0 : decide ((k : Int) < (n : Int)) = true := decide_eq_true e3
    have dn : decide (k < n) = true := decide_eq_true hlt
    have HKN := Lib.hid hlt
    have T3 : IntKind.i64.wrap ((k : Int) + 1) = (k : Int) + 1 := by have := HL.out; rw [IntKind.wrap_i64]; omega
    have T4 : wrap64 ((k : Int) + 1) = (k : Int) + 1 := by have := HL.out; unfold wrap64; omega
    obtain ⟨b1, o1, rfl, hc1⟩ := HLS.out (by omega)
    have t1 := gr_cell HS.out.gr (hc1 k hlt)
    have htk : (l.take (k + 1)).flatMap (fun z => formU (uN z)) = (l.take k).flatMap (fun z => formU (uN z)) ++ formU (uN (l.getD k 0)) := by
     rw [List.take_add_one, List.flatMap_append]
     congr 1
     rw [List.getD_eq_getElem?_getD, List.getElem?_eq_getElem (by have := HN.out; omega)]
     simp
    have HTK := Lib.hid htk
    generalize l.getD k 0 = z at *
    have HUZ0 := fun wx => HU.out z wx
    obtain ⟨YV, hYV⟩ : ∃ Y, formU (uN z) = Y := ⟨_, rfl⟩
    rw [hYV] at HUZ0 HTK
    have HUZ := Lib.hid HUZ0
    obtain ⟨LK, hLK⟩ : ∃ Y, L0 ++ YU ++ ((l.take k).flatMap fun z => formU (uN z)) = Y := ⟨_, rfl⟩
    rw [hLK] at HS
    have HLK := Lib.hid hLK
    clear hc1 htk hYV HUZ0 hLK
    go_wp2_with fail
    refine OnS.cal HS.out (Gr.refl _) (HUZ.out _) ?_
    intro xu mu cu w41 hs hu
    clear HS
    have HS := Lib.hid hs
    have HSU := Lib.hid hu
    clear hs hu
    go_wp2_with (at_builtin; refine OnS.apw (Y := YV) HS.out (Gr.refl _) rfl _ _ rfl rfl rfl HSU.out.1 HSU.out.2.1 (200 + 10 * (k + 1)) (by have := HNB.out; have := HSU.out.2.2; omega) (by have := HKN.out; have := HL.out; omega) ?_)
    intro x42 n42 c42 w42 hb hs
    clear HS HNB
    have HS := Lib.hid hs
    have HNB := Lib.hid hb
    clear hb hs
    go_wp2
    exact ⟨⟨k + 1, _, _, _, by have := HKN.out; omega, by first | rfl | (rw [T4]; rfl) | go_num, rfl, HNB.out, by rw [HTK.out, ← List.append_assoc, HLK.out]; exact ⟨HS.out.rows, HS.out.own, HS.out.gr⟩⟩, by have := HKN.out; have := T4; simp [intOf]; omega⟩
   ·obtain rfl : k = n := by omega
    have hfl : (l.take k).flatMap (fun z => formU (uN z)) = l.flatMap (fun z => formU (uN z)) := by rw [List.take_of_length_le (by have := HN.out; omega)]
    rw [hfl] at HS
    have HUZ0 := fun wx => HU.out a wx
    have HFO0 := HFO.out
    obtain ⟨YV, hYV⟩ : ∃ Y, formU (uN a) = Y := ⟨_, rfl⟩
    rw [hYV] at HUZ0 HFO0
    obtain ⟨LK, hLK⟩ : ∃ Y, L0 ++ YU ++ (l.flatMap fun z => formU (uN z)) = Y := ⟨_, rfl⟩
    rw [hLK] at HS HFO0
    have HUZ := Lib.hid HUZ0
    have HFO1 := Lib.hid HFO0
    clear hfl hYV HUZ0 hLK HFO HFO0 hlt hk
    go_wp2_with fail
    refine OnS.cal HS.out (Gr.refl _) (HUZ.out _) ?_
    intro xu mu cu w43 hs hu
    clear HS
    have HS := Lib.hid hs
    have HSU := Lib.hid hu
    clear hs hu
    go_wp2_with (at_builtin; refine OnS.apw (Y := YV) HS.out (Gr.refl _) rfl _ _ rfl rfl rfl HSU.out.1 HSU.out.2.1 (210 + 10 * k) (by have := HNB.out; have := HSU.out.2.2; omega) (by have := HL.out; omega) ?_)
    intro x44 n44 c44 w44 hb hs
    clear HS HNB
    have HS := Lib.hid hs
    have HNB := Lib.hid hb
    clear hb hs
    go_wp2
    go_ret
    rw [HFO1.out]
    exact HS.out.fin
end Ex
end
section
open Go.RowKit VecM LebM
namespace Ex
theorem one_any {d : In} {v : Value} {w : World} (hok : InR d) (hl : d.l.length ≤ 4294967296) (hr : LsR w v d.l) :
  Calls Try.prog 26 #[.agg (inV d v)] w (BYO (oneS d) w) := by
 obtain ⟨op, a, b, lo, hi, l⟩ := d
 obtain ⟨x, c, rfl, _⟩ := id hr
 have h1 := hok.1
 have h2 := hok.2.1
 have h3 := hok.2.2.1
 have h4 := hok.2.2.2
 unfold oneS
 dsimp only at *
 have hc : fm op = 0 ∨ fm op = 1 ∨ fm op = 2 ∨ fm op = 3 ∨ fm op = 4 ∨ fm op = 5 ∨ fm op = 6 ∨ fm op = 7 ∨ fm op = 8 ∨ fm op = 9 ∨ fm op = 10 ∨ fm op = 11 ∨ fm op = 12 ∨ fm op = 13 ∨ fm op = 14 := by
  by_cases h0 : fm op = 0
  ·exact .inl h0
  ·have := (fm_float h1.2 h0).2; omega
 rcases hc with h | h | h | h | h | h | h | h | h | h | h | h | h | h | h <;> rw [h]
 ·exact one_0 h1 h2 h3 h4 rfl hl hr h
 ·exact one_1 h1 h2 h3 h4 rfl hl hr h
 ·exact one_2 h1 h2 h3 h4 rfl hl hr h
 ·exact one_3 h1 h2 h3 h4 rfl hl hr h
 ·exact one_4 h1 h2 h3 h4 rfl hl hr h
 ·exact one_5 h1 h2 h3 h4 rfl hl hr h
 ·exact one_6 h1 h2 h3 h4 rfl hl hr h
 ·exact one_7 h1 h2 h3 h4 rfl hl hr h
 ·exact one_8 h1 h2 h3 h4 rfl hl hr h
 ·exact one_9 h1 h2 h3 h4 rfl hl hr h
 ·exact one_10 h1 h2 h3 h4 rfl hl hr h
 ·exact one_11 h1 h2 h3 h4 rfl hl hr h
 ·exact one_12 h1 h2 h3 h4 rfl hl hr h
 ·exact one_13 h1 h2 h3 h4 rfl hl hr h
 ·exact one_14 h1 h2 h3 h4 rfl hl hr h
end Ex
end
section
open Go.RowKit VecM LebM
namespace Ex
def SMX (d1 d2 : In) (w : World) (e : Ending) (w' : World) : Prop := ∃ r : Bool, e = .returned (.bool r) ∧ (r = true ↔ d1 = d2) ∧ Gr w w'
theorem smx_no {d1 d2 : In} {w w' : World} (h : d1 ≠ d2) (hg : Gr w w') : SMX d1 d2 w (.returned (.bool false)) w' := ⟨false, rfl, ⟨(fun e => by cases e), fun e => absurd e h⟩, hg⟩
def BLX (p : Prop) (w : World) (e : Ending) (w' : World) : Prop := ∃ r : Bool, e = .returned (.bool r) ∧ (r = true ↔ p) ∧ Gr w w'
theorem list_ext {l1 l2 : List Int} (h : l1.length = l2.length) (h2 : ∀ j, j < l1.length → l1.getD j 0 = l2.getD j 0) : l1 = l2 := by
 refine List.ext_getElem h fun j hj1 hj2 => ?_
 have := h2 j hj1
 rw [List.getD_eq_getElem?_getD, List.getD_eq_getElem?_getD, List.getElem?_eq_getElem hj1, List.getElem?_eq_getElem hj2] at this
 exact this
set_option maxRecDepth 100000 in
set_option maxHeartbeats 2000000 in
theorem sin_op {op1 a1 b1 lo1 hi1 : Int} {op2 a2 b2 lo2 hi2 : Int} {l1 l2 : List Int} {x1 x2 : Option Addr} {n1 n2 c1 c2 : Nat} {w : World}  (hne : op1 ≠ op2) :
  Calls Try.prog 19 #[.agg #[.int .i64 op1, .int .i64 a1, .int .i64 b1, .int .u64 lo1, .int .u64 hi1, .slice x1 n1 c1], .agg #[.int .i64 op2, .int .i64 a2, .int .i64 b2, .int .u64 lo2, .int .u64 hi2, .slice x2 n2 c2]] w (SMX (⟨op1, a1, b1, lo1, hi1, l1⟩ : In) (⟨op2, a2, b2, lo2, hi2, l2⟩ : In) w) := by
 have HD := Lib.hid (show (⟨op1, a1, b1, lo1, hi1, l1⟩ : In) ≠ (⟨op2, a2, b2, lo2, hi2, l2⟩ : In) from fun e => hne (congrArg In.op e))
 have qn : (op1 != op2) = true := by simpa using hne
 clear hne
 go_enter Try.func19, Try.ntmps19
 go_wp2
 go_ret
 exact smx_no HD.out (((Gr.refl w).alloc _ _).alloc _ _)
set_option maxRecDepth 100000 in
set_option maxHeartbeats 2000000 in
theorem sin_a {op1 a1 b1 lo1 hi1 : Int} {op2 a2 b2 lo2 hi2 : Int} {l1 l2 : List Int} {x1 x2 : Option Addr} {n1 n2 c1 c2 : Nat} {w : World} (hop : op1 = op2) (hne : a1 ≠ a2) :
  Calls Try.prog 19 #[.agg #[.int .i64 op1, .int .i64 a1, .int .i64 b1, .int .u64 lo1, .int .u64 hi1, .slice x1 n1 c1], .agg #[.int .i64 op2, .int .i64 a2, .int .i64 b2, .int .u64 lo2, .int .u64 hi2, .slice x2 n2 c2]] w (SMX (⟨op1, a1, b1, lo1, hi1, l1⟩ : In) (⟨op2, a2, b2, lo2, hi2, l2⟩ : In) w) := by
 have HD := Lib.hid (show (⟨op1, a1, b1, lo1, hi1, l1⟩ : In) ≠ (⟨op2, a2, b2, lo2, hi2, l2⟩ : In) from fun e => hne (congrArg In.a e))
 have q0 : (op1 != op2) = false := by simp [hop]
 have qn : (a1 != a2) = true := by simpa using hne
 clear hne hop
 go_enter Try.func19, Try.ntmps19
 go_wp2
 go_ret
 exact smx_no HD.out (((Gr.refl w).alloc _ _).alloc _ _)
set_option maxRecDepth 100000 in
set_option maxHeartbeats 2000000 in
theorem sin_b {op1 a1 b1 lo1 hi1 : Int} {op2 a2 b2 lo2 hi2 : Int} {l1 l2 : List Int} {x1 x2 : Option Addr} {n1 n2 c1 c2 : Nat} {w : World} (hop : op1 = op2) (ha : a1 = a2) (hne : b1 ≠ b2) :
  Calls Try.prog 19 #[.agg #[.int .i64 op1, .int .i64 a1, .int .i64 b1, .int .u64 lo1, .int .u64 hi1, .slice x1 n1 c1], .agg #[.int .i64 op2, .int .i64 a2, .int .i64 b2, .int .u64 lo2, .int .u64 hi2, .slice x2 n2 c2]] w (SMX (⟨op1, a1, b1, lo1, hi1, l1⟩ : In) (⟨op2, a2, b2, lo2, hi2, l2⟩ : In) w) := by
 have HD := Lib.hid (show (⟨op1, a1, b1, lo1, hi1, l1⟩ : In) ≠ (⟨op2, a2, b2, lo2, hi2, l2⟩ : In) from fun e => hne (congrArg In.b e))
 have q0 : (op1 != op2) = false := by simp [hop]
 have q1 : (a1 != a2) = false := by simp [ha]
 have qn : (b1 != b2) = true := by simpa using hne
 clear hne hop ha
 go_enter Try.func19, Try.ntmps19
 go_wp2
 go_ret
 exact smx_no HD.out (((Gr.refl w).alloc _ _).alloc _ _)
set_option maxRecDepth 100000 in
set_option maxHeartbeats 2000000 in
theorem sin_lo {op1 a1 b1 lo1 hi1 : Int} {op2 a2 b2 lo2 hi2 : Int} {l1 l2 : List Int} {x1 x2 : Option Addr} {n1 n2 c1 c2 : Nat} {w : World} (hop : op1 = op2) (ha : a1 = a2) (hb : b1 = b2) (hne : lo1 ≠ lo2) :
  Calls Try.prog 19 #[.agg #[.int .i64 op1, .int .i64 a1, .int .i64 b1, .int .u64 lo1, .int .u64 hi1, .slice x1 n1 c1], .agg #[.int .i64 op2, .int .i64 a2, .int .i64 b2, .int .u64 lo2, .int .u64 hi2, .slice x2 n2 c2]] w (SMX (⟨op1, a1, b1, lo1, hi1, l1⟩ : In) (⟨op2, a2, b2, lo2, hi2, l2⟩ : In) w) := by
 have HD := Lib.hid (show (⟨op1, a1, b1, lo1, hi1, l1⟩ : In) ≠ (⟨op2, a2, b2, lo2, hi2, l2⟩ : In) from fun e => hne (congrArg In.lo e))
 have q0 : (op1 != op2) = false := by simp [hop]
 have q1 : (a1 != a2) = false := by simp [ha]
 have q2 : (b1 != b2) = false := by simp [hb]
 have qn : (lo1 != lo2) = true := by simpa using hne
 clear hne hop ha hb
 go_enter Try.func19, Try.ntmps19
 go_wp2
 go_ret
 exact smx_no HD.out (((Gr.refl w).alloc _ _).alloc _ _)
set_option maxRecDepth 100000 in
set_option maxHeartbeats 2000000 in
theorem sin_hi {op1 a1 b1 lo1 hi1 : Int} {op2 a2 b2 lo2 hi2 : Int} {l1 l2 : List Int} {x1 x2 : Option Addr} {n1 n2 c1 c2 : Nat} {w : World} (hop : op1 = op2) (ha : a1 = a2) (hb : b1 = b2) (hlo : lo1 = lo2) (hne : hi1 ≠ hi2) :
  Calls Try.prog 19 #[.agg #[.int .i64 op1, .int .i64 a1, .int .i64 b1, .int .u64 lo1, .int .u64 hi1, .slice x1 n1 c1], .agg #[.int .i64 op2, .int .i64 a2, .int .i64 b2, .int .u64 lo2, .int .u64 hi2, .slice x2 n2 c2]] w (SMX (⟨op1, a1, b1, lo1, hi1, l1⟩ : In) (⟨op2, a2, b2, lo2, hi2, l2⟩ : In) w) := by
 have HD := Lib.hid (show (⟨op1, a1, b1, lo1, hi1, l1⟩ : In) ≠ (⟨op2, a2, b2, lo2, hi2, l2⟩ : In) from fun e => hne (congrArg In.hi e))
 have q0 : (op1 != op2) = false := by simp [hop]
 have q1 : (a1 != a2) = false := by simp [ha]
 have q2 : (b1 != b2) = false := by simp [hb]
 have q3 : (lo1 != lo2) = false := by simp [hlo]
 have qn : (hi1 != hi2) = true := by simpa using hne
 clear hne hop ha hb hlo
 go_enter Try.func19, Try.ntmps19
 go_wp2
 go_ret
 exact smx_no HD.out (((Gr.refl w).alloc _ _).alloc _ _)
set_option maxRecDepth 100000 in
set_option maxHeartbeats 2000000 in
theorem sin_n {op1 a1 b1 lo1 hi1 : Int} {op2 a2 b2 lo2 hi2 : Int} {l1 l2 : List Int} {x1 x2 : Option Addr} {n1 n2 c1 c2 : Nat} {w : World} (hop : op1 = op2) (ha : a1 = a2) (hb : b1 = b2) (hlo : lo1 = lo2) (hhi : hi1 = hi2) (hne : n1 ≠ n2) (hl1 : l1.length = n1) (hl2 : l2.length = n2) :
  Calls Try.prog 19 #[.agg #[.int .i64 op1, .int .i64 a1, .int .i64 b1, .int .u64 lo1, .int .u64 hi1, .slice x1 n1 c1], .agg #[.int .i64 op2, .int .i64 a2, .int .i64 b2, .int .u64 lo2, .int .u64 hi2, .slice x2 n2 c2]] w (SMX (⟨op1, a1, b1, lo1, hi1, l1⟩ : In) (⟨op2, a2, b2, lo2, hi2, l2⟩ : In) w) := by
 have HD := Lib.hid (show (⟨op1, a1, b1, lo1, hi1, l1⟩ : In) ≠ (⟨op2, a2, b2, lo2, hi2, l2⟩ : In) from fun e => hne (by have := congrArg (fun d : In => d.l.length) e; dsimp only at this; omega))
 have q0 : (op1 != op2) = false := by simp [hop]
 have q1 : (a1 != a2) = false := by simp [ha]
 have q2 : (b1 != b2) = false := by simp [hb]
 have q3 : (lo1 != lo2) = false := by simp [hlo]
 have q4 : (hi1 != hi2) = false := by simp [hhi]
 have qn : ((n1 : Int) != (n2 : Int)) = true := by simp; omega
 clear hne hop ha hb hlo hhi hl1 hl2
 go_enter Try.func19, Try.ntmps19
 go_wp2
 go_ret
 exact smx_no HD.out (((Gr.refl w).alloc _ _).alloc _ _)
set_option maxRecDepth 100000 in
set_option maxHeartbeats 2000000 in
theorem sin_l {op a b lo hi : Int} {l1 l2 : List Int} {x1 x2 : Option Addr} {n c1 c2 : Nat} {w : World} (hl : n ≤ 4294967296) (h1 : LsR w (.slice x1 n c1) l1) (h2 : LsR w (.slice x2 n c2) l2) :
  Calls Try.prog 19 #[.agg #[.int .i64 op, .int .i64 a, .int .i64 b, .int .u64 lo, .int .u64 hi, .slice x1 n c1], .agg #[.int .i64 op, .int .i64 a, .int .i64 b, .int .u64 lo, .int .u64 hi, .slice x2 n c2]] w (SMX ⟨op, a, b, lo, hi, l1⟩ ⟨op, a, b, lo, hi, l2⟩ w) := by
 have H1 := Lib.hid (lsR_cells h1).2
 have H2 := Lib.hid (lsR_cells h2).2
 have HN := Lib.hid (And.intro (lsR_cells h1).1 (lsR_cells h2).1)
 have HL := Lib.hid hl
 clear h1 h2 hl
 have hr1 := heap_alloc2_old w (.cells #[.int .i64 op, .int .i64 a, .int .i64 b, .int .u64 lo, .int .u64 hi, .slice x1 n c1] 38) (.cells #[.int .i64 op, .int .i64 a, .int .i64 b, .int .u64 lo, .int .u64 hi, .slice x2 n c2] 38)
 have hr2 := heap_alloc2_new w (.cells #[.int .i64 op, .int .i64 a, .int .i64 b, .int .u64 lo, .int .u64 hi, .slice x1 n c1] 38) (.cells #[.int .i64 op, .int .i64 a, .int .i64 b, .int .u64 lo, .int .u64 hi, .slice x2 n c2] 38)
 have HR1 := Lib.hid hr1
 have HR2 := Lib.hid hr2
 have HG0 := Lib.hid (((Gr.refl w).alloc #[.int .i64 op, .int .i64 a, .int .i64 b, .int .u64 lo, .int .u64 hi, .slice x1 n c1] 38).alloc #[.int .i64 op, .int .i64 a, .int .i64 b, .int .u64 lo, .int .u64 hi, .slice x2 n c2] 38)
 clear hr1 hr2
 go_enter Try.func19, Try.ntmps19
 go_wp2_with fail
 generalize (w.alloc (.cells #[.int .i64 op, .int .i64 a, .int .i64 b, .int .u64 lo, .int .u64 hi, .slice x1 n c1] 38)).alloc (.cells #[.int .i64 op, .int .i64 a, .int .i64 b, .int .u64 lo, .int .u64 hi, .slice x2 n c2] 38) = w1 at *
 go_loopw [5] (fun i wr => ∃ k : Nat, k ≤ n ∧ i = .int .i64 k ∧ (∀ j, j < k → l1.getD j 0 = l2.getD j 0) ∧ Gr w1 wr) (fun i _ => n - (intOf i).toNat)
 case atStart => exact ⟨0, by omega, rfl, fun j hj => by omega, Gr.refl _⟩
 case round =>
  obtain ⟨k, hk, rfl, heq, hg⟩ := hrel
  have HG := Lib.hid hg
  have HE := Lib.hid heq
  clear hg heq
  have p5 := (cells6 (gr_block HG.out HR1.out)).2.2.2.2.2
  have q5 := (cells6 (gr_block HG.out HR2.out)).2.2.2.2.2
  by_cases hlt : k < n
  ·obtain ⟨b1, o1, rfl, hc1⟩ := H1.out (by omega)
   obtain ⟨b2, o2, rfl, hc2⟩ := H2.out (by omega)
   have t1 := gr_cell (gr_trans HG0.out HG.out) (hc1 k hlt)
   have t2 := gr_cell (gr_trans HG0.out HG.out) (hc2 k hlt)
   have hkn : (k : Int) < (n : Int) := by omega
   have TK : IntKind.i64.wrap ((k : Int) + 1) = (k : Int) + 1 := by have := HL.out; rw [IntKind.wrap_i64]; omega
   have HK := Lib.hid hlt
   clear hc1 hc2
   by_cases hz : l1.getD k 0 = l2.getD k 0
   ·have HZ := Lib.hid hz
    rw [hz] at t1
    have HE2 := Lib.hid (show ∀ j, j < k + 1 → l1.getD j 0 = l2.getD j 0 from fun j hj => by
     by_cases e : j = k
     ·rw [e]; exact HZ.out
     ·exact HE.out j (by omega))
    clear hz
    generalize l2.getD k 0 = z at *
    go_wp2_with fail
    go_quiet (fail)
    go_wp2
    exact ⟨⟨k + 1, by have := HK.out; omega, by first | rfl | go_num, HE2.out, HG.out.drewN _⟩, by have := HK.out; simp [intOf]; omega⟩
   ·have HD := Lib.hid (show (⟨op, a, b, lo, hi, l1⟩ : In) ≠ ⟨op, a, b, lo, hi, l2⟩ from fun e => hz (by rw [show l1 = l2 from congrArg In.l e]))
    generalize l1.getD k 0 = z1 at *
    generalize l2.getD k 0 = z2 at *
    have n1 : (z1 != z2) = true := by simpa using hz
    clear hz
    go_wp2_with fail
    go_quiet (fail)
    go_wp2
    go_ret
    exact smx_no HD.out (gr_trans HG0.out (HG.out.drewN _))
  ·obtain rfl : k = n := by omega
   go_wp2
   go_ret
   exact ⟨true, rfl, ⟨fun _ => congrArg (fun l => (⟨op, a, b, lo, hi, l⟩ : In)) (list_ext (HN.out.1.symm.trans HN.out.2) (by rw [← HN.out.1]; exact HE.out)), fun _ => rfl⟩, gr_trans HG0.out HG.out⟩
theorem sin_any {d1 d2 : In} {v1 v2 : Value} {w : World} (hl : d1.l.length ≤ 4294967296) (h1 : LsR w v1 d1.l) (h2 : LsR w v2 d2.l) : Calls Try.prog 19 #[.agg (inV d1 v1), .agg (inV d2 v2)] w (SMX d1 d2 w) := by
 obtain ⟨op1, a1, b1, lo1, hi1, l1⟩ := d1
 obtain ⟨op2, a2, b2, lo2, hi2, l2⟩ := d2
 obtain ⟨x1, c1, rfl, _⟩ := id h1
 obtain ⟨x2, c2, rfl, _⟩ := id h2
 dsimp only at *
 by_cases e1 : op1 = op2
 case neg => exact sin_op e1
 by_cases e2 : a1 = a2
 case neg => exact sin_a e1 e2
 by_cases e3 : b1 = b2
 case neg => exact sin_b e1 e2 e3
 by_cases e4 : lo1 = lo2
 case neg => exact sin_lo e1 e2 e3 e4
 by_cases e5 : hi1 = hi2
 case neg => exact sin_hi e1 e2 e3 e4 e5
 by_cases e6 : l1.length = l2.length
 case neg => exact sin_n e1 e2 e3 e4 e5 e6 rfl rfl
 subst e1 e2 e3 e4 e5
 show Calls _ _ #[.agg #[_, _, _, _, _, .slice x1 l1.length c1], .agg #[_, _, _, _, _, .slice x2 l2.length c2]] w _
 rw [← e6] at h2 ⊢
 exact sin_l hl h1 h2
set_option maxRecDepth 100000 in
set_option maxHeartbeats 2000000 in
theorem same_gen {w : World} {v1 v2 : Value} {P1 P2 : List (In × Value)} (h1 : CdR w v1 P1) (h2 : CdR w v2 P2) (hz : ∀ p ∈ P1, p.1.l.length ≤ 4294967296) (hn : P1.length ≤ 1099511627776) :
  Calls Try.prog 12 #[v1, v2] w (BLX (P1.map (·.1) = P2.map (·.1)) w) := by
 obtain ⟨x1, c1, rfl, _⟩ := h1.1
 obtain ⟨x2, c2, rfl, _⟩ := h2.1
 by_cases hll : P1.length = P2.length
 case neg =>
  have HD := Lib.hid (show P1.map (·.1) ≠ P2.map (·.1) from fun e => hll (by have := congrArg List.length e; simpa using this))
  obtain ⟨n1, e1⟩ : ∃ n, P1.length = n := ⟨_, rfl⟩
  obtain ⟨n2, e2⟩ : ∃ n, P2.length = n := ⟨_, rfl⟩
  rw [e1, e2]
  have q : ((n1 : Int) != (n2 : Int)) = true := by simp; omega
  clear h1 h2 hz hn hll e1 e2
  go_enter Try.func12, Try.ntmps12
  go_wp2
  go_ret
  exact ⟨false, rfl, ⟨(fun e => by cases e), fun e => absurd e HD.out⟩, Gr.refl _⟩
 have H1 := Lib.hid (cdR_at h1).2
 have H2 := Lib.hid (cdR_at h2).2
 have HZ := Lib.hid hz
 rw [← hll] at H2 ⊢
 obtain ⟨n, hN⟩ : ∃ n, P1.length = n := ⟨_, rfl⟩
 rw [hN] at H1 H2 hn ⊢
 have HN := Lib.hid hn
 have HNN := Lib.hid hN
 have HLL := Lib.hid hll
 clear h1 h2 hz hn hll hN
 go_enter Try.func12, Try.ntmps12
 go_wp2_with fail
 go_loopw [5] (fun i wr => ∃ k : Nat, k ≤ n ∧ i = .int .i64 k ∧ (∀ j p q, j < k → P1[j]? = some p → P2[j]? = some q → p.1 = q.1) ∧ Gr w wr) (fun i _ => n - (intOf i).toNat)
 case atStart => exact ⟨0, by omega, rfl, fun j p q hj => by omega, Gr.refl _⟩
 case round =>
  obtain ⟨k, hk, rfl, heq, hg⟩ := hrel
  have HG := Lib.hid hg
  have HE := Lib.hid heq
  clear hg heq
  by_cases hlt : k < n
  ·obtain ⟨b1, o1, rfl, hc1⟩ := H1.out (by omega)
   obtain ⟨b2, o2, rfl, hc2⟩ := H2.out (by omega)
   obtain ⟨p, hp⟩ : ∃ p, P1[k]? = some p := ⟨_, List.getElem?_eq_getElem (by have := HNN.out; omega)⟩
   obtain ⟨q, hq⟩ : ∃ q, P2[k]? = some q := ⟨_, List.getElem?_eq_getElem (by have := HNN.out; have := HLL.out; omega)⟩
   obtain ⟨g1, d1⟩ := hc1 k p hp
   obtain ⟨g2, d2⟩ := hc2 k q hq
   have HP := Lib.hid (And.intro hp hq)
   have hz1 := HZ.out p (List.mem_of_getElem? hp)
   obtain ⟨⟨op1, a1, bb1, lo1, hi1, l1⟩, Lp⟩ := p
   obtain ⟨⟨op2, a2, bb2, lo2, hi2, l2⟩, Lq⟩ := q
   obtain ⟨xp, cp, e1, _⟩ := id g1
   obtain ⟨xq, cq, e2, _⟩ := id g2
   dsimp only at e1 e2 hz1
   subst e1 e2
   have SI0 := fun wx (hgx : Gr w wx) => sin_any (w := wx) (v1 := .slice xp l1.length cp) (v2 := .slice xq l2.length cq) hz1 (lsR_gr g1 hgx) (lsR_gr g2 hgx)
   obtain ⟨m1, hm1⟩ : ∃ m, l1.length = m := ⟨_, rfl⟩
   obtain ⟨m2, hm2⟩ : ∃ m, l2.length = m := ⟨_, rfl⟩
   have D1 := Lib.hid (fun wx (hgx : Gr w wx) j u (hu : (#[.int .i64 op1, .int .i64 a1, .int .i64 bb1, .int .u64 lo1, .int .u64 hi1, .slice xp m1 cp] : Array Value).toList[j]? = some u) => gr_cell hgx (d1 j u (by rw [← hm1] at hu; exact hu)))
   have D2 := Lib.hid (fun wx (hgx : Gr w wx) j u (hu : (#[.int .i64 op2, .int .i64 a2, .int .i64 bb2, .int .u64 lo2, .int .u64 hi2, .slice xq m2 cq] : Array Value).toList[j]? = some u) => gr_cell hgx (d2 j u (by rw [← hm2] at hu; exact hu)))
   have SI1 : ∀ wx, Gr w wx → Calls Try.prog 19 #[.agg #[.int .i64 op1, .int .i64 a1, .int .i64 bb1, .int .u64 lo1, .int .u64 hi1, .slice xp m1 cp], .agg #[.int .i64 op2, .int .i64 a2, .int .i64 bb2, .int .u64 lo2, .int .u64 hi2, .slice xq m2 cq]] wx (SMX ⟨op1, a1, bb1, lo1, hi1, l1⟩ ⟨op2, a2, bb2, lo2, hi2, l2⟩ wx) := fun wx hgx => by rw [← hm1, ← hm2]; exact SI0 wx hgx
   have hkn : (k : Int) < (n : Int) := by omega
   have TK : IntKind.i64.wrap ((k : Int) + 1) = (k : Int) + 1 := by have := HN.out; rw [IntKind.wrap_i64]; omega
   have HK := Lib.hid hlt
   by_cases hd : (⟨op1, a1, bb1, lo1, hi1, l1⟩ : In) = (⟨op2, a2, bb2, lo2, hi2, l2⟩ : In)
   ·have SI := Lib.hid (fun wx (hgx : Gr w wx) => (SI1 wx hgx).mono (show ∀ (e : Ending) (w' : World), SMX (⟨op1, a1, bb1, lo1, hi1, l1⟩ : In) (⟨op2, a2, bb2, lo2, hi2, l2⟩ : In) wx e w' → e = .returned (.bool true) ∧ Gr wx w' from fun e w' ⟨r, h1, h2, h3⟩ => ⟨by rw [h1, h2.2 hd], h3⟩))
    have HE2 := Lib.hid (show ∀ j p q, j < k + 1 → P1[j]? = some p → P2[j]? = some q → p.1 = q.1 from fun j p q hj h1 h2 => by
     by_cases e : j = k
     ·subst e
      rw [HP.out.1] at h1; rw [HP.out.2] at h2
      rw [← Option.some.inj h1, ← Option.some.inj h2]; exact hd
     ·exact HE.out j p q (by omega) h1 h2)
    clear hc1 hc2 d1 d2 hz1 SI0 SI1 g1 g2 hm1 hm2 hp hq hd HP
    go_wp2_with fail
    refine wp_region_steady (by kernel_rfl) (by kernel_rfl) ?_
    refine steady_step (fun K hK => ?_); apply steady_op rfl; (focus (intro wx hw; go_simp; exact ⟨rfl, hw⟩)); go_simp; refine hK _ ?_; clear hK K
    refine steady_step (fun K hK => ?_); apply steady_op rfl; (focus (intro wx hw; go_simp; exact ⟨rfl, hw⟩)); go_simp; refine hK _ ?_; clear hK K
    refine steady_step (fun K hK => ?_); apply steady_op rfl; (focus (intro wx hw; go_simp; exact ⟨rfl, hw⟩)); go_simp; refine hK _ ?_; clear hK K
    refine steady_step (fun K hK => ?_)
    refine steady_load_cells rfl 38 _ rfl b1 (o1 + k * 6) rfl #[.int .i64 op1, .int .i64 a1, .int .i64 bb1, .int .u64 lo1, .int .u64 hi1, .slice xp m1 cp] _ (D1.out _ (gr_trans HG.out (Gr.drew (Gr.refl _)))) Try.underlying38 rfl infoIn ?_
    go_simp; refine hK _ ?_; clear hK K
    refine steady_step (fun K hK => ?_); apply steady_op rfl; (focus (intro wx hw; go_simp; exact ⟨rfl, hw⟩)); go_simp; refine hK _ ?_; clear hK K
    refine steady_step (fun K hK => ?_); apply steady_op rfl; (focus (intro wx hw; go_simp; exact ⟨rfl, hw⟩)); go_simp; refine hK _ ?_; clear hK K
    refine steady_step (fun K hK => ?_); apply steady_op rfl; (focus (intro wx hw; go_simp; exact ⟨rfl, hw⟩)); go_simp; refine hK _ ?_; clear hK K
    refine steady_step (fun K hK => ?_)
    refine steady_load_cells rfl 38 _ rfl b2 (o2 + k * 6) rfl #[.int .i64 op2, .int .i64 a2, .int .i64 bb2, .int .u64 lo2, .int .u64 hi2, .slice xq m2 cq] _ (D2.out _ (gr_trans HG.out (Gr.drew (Gr.refl _)))) Try.underlying38 rfl infoIn ?_
    go_simp; refine hK _ ?_; clear hK K
    refine steady_step (fun K hK => ?_)
    apply steady_op rfl
    ·intro wx hw; go_simp; exact (SI.out wx (gr_trans HG.out (gr_trans (Gr.drew (Gr.refl _)) hw))).mono fun e w3 h => ⟨h.1, gr_trans hw h.2⟩
    go_simp; refine hK _ ?_; clear hK K
    refine steady_step (fun K hK => ?_); apply steady_op rfl; (focus (intro wx hw; go_simp; exact ⟨rfl, hw⟩)); go_simp; refine hK _ ?_; clear hK K
    refine steady_nil ?_
    intro w9 hg9
    have HG9 := Lib.hid (gr_trans HG.out (gr_trans (Gr.drew (Gr.refl _)) hg9))
    clear hg9
    go_wp2
    exact ⟨⟨k + 1, by have := HK.out; omega, by first | rfl | go_num, HE2.out, HG9.out⟩, by have := HK.out; simp [intOf]; omega⟩
   ·have SI := Lib.hid (fun wx (hgx : Gr w wx) => (SI1 wx hgx).mono (show ∀ (e : Ending) (w' : World), SMX (⟨op1, a1, bb1, lo1, hi1, l1⟩ : In) (⟨op2, a2, bb2, lo2, hi2, l2⟩ : In) wx e w' → e = .returned (.bool false) ∧ Gr wx w' from fun e w' ⟨r, h1, h2, h3⟩ => ⟨by rw [h1, Bool.eq_false_iff.2 (fun h => hd (h2.1 h))], h3⟩))
    have HD := Lib.hid (show P1.map (·.1) ≠ P2.map (·.1) from fun e => hd (by
     have := congrArg (·[k]?) e
     simp only [List.getElem?_map, HP.out.1, HP.out.2, Option.map_some] at this
     exact Option.some.inj this))
    clear hc1 hc2 d1 d2 hz1 SI0 SI1 g1 g2 hm1 hm2 hp hq hd HP
    go_wp2_with fail
    refine wp_region_steady (by kernel_rfl) (by kernel_rfl) ?_
    refine steady_step (fun K hK => ?_); apply steady_op rfl; (focus (intro wx hw; go_simp; exact ⟨rfl, hw⟩)); go_simp; refine hK _ ?_; clear hK K
    refine steady_step (fun K hK => ?_); apply steady_op rfl; (focus (intro wx hw; go_simp; exact ⟨rfl, hw⟩)); go_simp; refine hK _ ?_; clear hK K
    refine steady_step (fun K hK => ?_); apply steady_op rfl; (focus (intro wx hw; go_simp; exact ⟨rfl, hw⟩)); go_simp; refine hK _ ?_; clear hK K
    refine steady_step (fun K hK => ?_)
    refine steady_load_cells rfl 38 _ rfl b1 (o1 + k * 6) rfl #[.int .i64 op1, .int .i64 a1, .int .i64 bb1, .int .u64 lo1, .int .u64 hi1, .slice xp m1 cp] _ (D1.out _ (gr_trans HG.out (Gr.drew (Gr.refl _)))) Try.underlying38 rfl infoIn ?_
    go_simp; refine hK _ ?_; clear hK K
    refine steady_step (fun K hK => ?_); apply steady_op rfl; (focus (intro wx hw; go_simp; exact ⟨rfl, hw⟩)); go_simp; refine hK _ ?_; clear hK K
    refine steady_step (fun K hK => ?_); apply steady_op rfl; (focus (intro wx hw; go_simp; exact ⟨rfl, hw⟩)); go_simp; refine hK _ ?_; clear hK K
    refine steady_step (fun K hK => ?_); apply steady_op rfl; (focus (intro wx hw; go_simp; exact ⟨rfl, hw⟩)); go_simp; refine hK _ ?_; clear hK K
    refine steady_step (fun K hK => ?_)
    refine steady_load_cells rfl 38 _ rfl b2 (o2 + k * 6) rfl #[.int .i64 op2, .int .i64 a2, .int .i64 bb2, .int .u64 lo2, .int .u64 hi2, .slice xq m2 cq] _ (D2.out _ (gr_trans HG.out (Gr.drew (Gr.refl _)))) Try.underlying38 rfl infoIn ?_
    go_simp; refine hK _ ?_; clear hK K
    refine steady_step (fun K hK => ?_)
    apply steady_op rfl
    ·intro wx hw; go_simp; exact (SI.out wx (gr_trans HG.out (gr_trans (Gr.drew (Gr.refl _)) hw))).mono fun e w3 h => ⟨h.1, gr_trans hw h.2⟩
    go_simp; refine hK _ ?_; clear hK K
    refine steady_step (fun K hK => ?_); apply steady_op rfl; (focus (intro wx hw; go_simp; exact ⟨rfl, hw⟩)); go_simp; refine hK _ ?_; clear hK K
    refine steady_nil ?_
    intro w9 hg9
    have HG9 := Lib.hid (gr_trans HG.out (gr_trans (Gr.drew (Gr.refl _)) hg9))
    clear hg9
    go_wp2
    go_ret
    exact ⟨false, rfl, ⟨(fun e => by cases e), fun e => absurd e HD.out⟩, HG9.out⟩
  ·obtain rfl : k = n := by omega
   go_wp2
   go_ret
   refine ⟨true, rfl, ⟨fun _ => ?_, fun _ => rfl⟩, HG.out⟩
   refine List.ext_getElem (by simp [HLL.out]) fun j h1 h2 => ?_
   simp only [List.length_map] at h1 h2
   rw [List.getElem_map, List.getElem_map]
   exact HE.out j _ _ (by have := HNN.out; omega) (List.getElem?_eq_getElem h1) (List.getElem?_eq_getElem h2)
end Ex
end
section
open Go.RowKit VecM LebM
namespace Ex
theorem byt_byo {Y : List Int} {w : World} {e : Ending} {w' : World} {B : Nat} (h : BYO Y w e w') (hB : Y.length ≤ B) : BYT Y B w e w' := by
 obtain ⟨sv, rfl, hg, ho⟩ := h
 exact byt_of hg ho hB
theorem flat_snoc {P : List (In × Value)} {k : Nat} {p : In × Value} (h : P[k]? = some p) : ((P.take (k + 1)).map (·.1)).flatMap oneS = ((P.take k).map (·.1)).flatMap oneS ++ oneS p.1 := by
 rw [List.take_add_one, h, List.map_append, List.flatMap_append]
 simp
theorem szP_take (D : List In) (k : Nat) (d : In) (h : D[k]? = some d) : szP (D.take k) + (d.l.length + 1) ≤ szP D := by
 have h1 : szP (D.take (k + 1)) = szP (D.take k) + (d.l.length + 1) := by
  rw [List.take_add_one, h, szP_app]
  simp [szP]
 have h2 : szP D = szP (D.take (k + 1)) + szP (D.drop (k + 1)) := by rw [← szP_app, List.take_append_drop]
 omega
set_option maxRecDepth 100000 in
set_option maxHeartbeats 4000000 in
theorem rwrite_any {w : World} {v : Value} {P : List (In × Value)} (hr : CdR w v P) (hin : ∀ p ∈ P, InR p.1) (hsz : szP (P.map (·.1)) ≤ 1048576) :
  Calls Try.prog 14 #[v] w (WRX w (wrS (P.map (·.1)) [] false [])) := by
 obtain ⟨x, c, rfl, _⟩ := hr.1
 have hlen : P.length ≤ 1048576 := by have := szP_len' (P.map (·.1)); rw [List.length_map] at this; omega
 have hmem : ∀ p ∈ P, p.1.l.length ≤ 1048576 := fun p hp => by have := szP_mem' (P.map (·.1)) p.1 (List.mem_map_of_mem hp); omega
 obtain ⟨n, hN⟩ : ∃ n, P.length = n := ⟨_, rfl⟩
 have H1 := Lib.hid (cdR_at hr).2
 have HCR := Lib.hid (fun wx (hg : Gr w wx) => cdR_gr hr hg)
 rw [hN] at H1 HCR hlen ⊢
 have HNN := Lib.hid hN
 have HIN := Lib.hid hin
 have HSZ := Lib.hid hsz
 have HBD := Lib.hid hlen
 have HME := Lib.hid hmem
 obtain ⟨R, hR⟩ : ∃ R, wrS (P.map (·.1)) [] false [] = R := ⟨_, rfl⟩
 rw [hR]
 have HR := Lib.hid hR
 clear hr hin hsz hlen hmem hN hR
 obtain ⟨iz, hi, hz0, hz1, hz2⟩ := info_parts info8
 have HI := Lib.hid hi
 have HZ0 := Lib.hid hz0
 have HZ1 := Lib.hid hz1
 have HZ2 := Lib.hid hz2
 clear hi hz0 hz1 hz2
 go_enter Try.func14, Try.ntmps14
 go_wp2_with fail
 go_loopw [4, 5] (fun bv kv wr => ∃ (k : Nat) (xb : Option Addr) (nb cb : Nat), k ≤ n ∧ kv = .int .i64 k ∧ bv = .slice xb nb cb ∧ nb ≤ 64 * szP ((P.take k).map (·.1)) ∧ OnS w wr [] xb nb cb (((P.take k).map (·.1)).flatMap oneS)) (fun _ kv _ => n - (intOf kv).toNat)
 case atStart => exact ⟨0, none, 0, 0, by omega, rfl, rfl, by omega, ⟨(fun k hk => by cases hk), World.ownsRow_nil _ _ _ _, Gr.refl _⟩⟩
 case round =>
  obtain ⟨k, xb, nb, cb, hk, rfl, rfl, hnb, hs⟩ := hrel
  have HS := Lib.hid hs
  have HNB0 := Lib.hid hnb
  clear hs hnb
  by_cases hlt : k < n
  ·have hkn : (k : Int) < (n : Int) := by omega
   have TK : IntKind.i64.wrap ((k : Int) + 1) = (k : Int) + 1 := by have := HBD.out; rw [IntKind.wrap_i64]; omega
   have T4 : wrap64 ((k : Int) + 1) = (k : Int) + 1 := by have := HBD.out; unfold wrap64; omega
   have HK := Lib.hid hlt
   obtain ⟨b, off, rfl, hc⟩ := H1.out (by omega)
   obtain ⟨p, hp⟩ : ∃ p, P[k]? = some p := ⟨_, List.getElem?_eq_getElem (by have := HNN.out; omega)⟩
   obtain ⟨g1, d1⟩ := hc k p hp
   have hpm := List.mem_of_getElem? hp
   have hfl := flat_snoc hp
   have hst := szP_take (P.map (·.1)) k p.1 (by rw [List.getElem?_map, hp]; rfl)
   rw [← List.map_take] at hst
   have hst2 : szP ((P.take (k + 1)).map (·.1)) = szP ((P.take k).map (·.1)) + (p.1.l.length + 1) := by
    rw [List.take_add_one, hp, List.map_append, szP_app]
    simp [szP]
   have h1 := HIN.out p hpm
   have h2 := HME.out p hpm
   have h3 := oneS_len p.1
   have HC0 : ∀ wx, Gr w wx → Calls Try.prog 26 #[.agg (inV p.1 p.2)] wx (BYT (oneS p.1) (64 * (p.1.l.length + 1)) wx) := fun wx hg => (one_any h1 (by omega) (lsR_gr g1 hg)).mono fun e w' h => byt_byo h h3
   have HNB := Lib.hid (show nb + 64 * (p.1.l.length + 1) ≤ 64 * 1048576 ∧ nb + 64 * (p.1.l.length + 1) ≤ 64 * szP ((P.take (k + 1)).map (·.1)) from by have := HNB0.out; have := HSZ.out; omega)
   obtain ⟨⟨op, a, bb, lo, hi, l⟩, Lp⟩ := p
   obtain ⟨xL, cL, e1, _⟩ := id g1
   dsimp only at e1 HC0 HNB hfl
   subst e1
   obtain ⟨m, hm⟩ : ∃ m, l.length = m := ⟨_, rfl⟩
   have HD := Lib.hid (fun j u (hu : (#[.int .i64 op, .int .i64 a, .int .i64 bb, .int .u64 lo, .int .u64 hi, .slice xL m cL] : Array Value).toList[j]? = some u) => gr_cell HS.out.gr (d1 j u (by rw [← hm] at hu; exact hu)))
   have HC1 : ∀ wx, Gr w wx → Calls Try.prog 26 #[.agg #[.int .i64 op, .int .i64 a, .int .i64 bb, .int .u64 lo, .int .u64 hi, .slice xL m cL]] wx (BYT (oneS ⟨op, a, bb, lo, hi, l⟩) (64 * (m + 1)) wx) := fun wx hg => by rw [← hm]; exact HC0 wx hg
   rw [hm] at HNB
   generalize oneS ⟨op, a, bb, lo, hi, l⟩ = YU at *
   have HC := Lib.hid HC1
   have HFL := Lib.hid hfl
   obtain ⟨LK, hLK⟩ : ∃ L, ((P.take k).map (·.1)).flatMap oneS = L := ⟨_, rfl⟩
   rw [hLK] at HS HFL
   clear HC0 HC1 hc g1 d1 hp hpm hfl hst hst2 h1 h2 h3 hm hLK HNB0
   go_wp2_with (refine wpList_load_cells rfl 38 _ rfl b (off + k * 6) rfl #[.int .i64 op, .int .i64 a, .int .i64 bb, .int .u64 lo, .int .u64 hi, .slice xL m cL] _ HD.out Try.underlying38 rfl infoIn ?_)
   refine (HC.out _ HS.out.gr).mono ?_
   rintro e w2 ⟨xu, mu, cu, rfl, hg, hmu, hs, hl⟩
   have HSR := Lib.hid (HS.out.to hg)
   have HSU := Lib.hid (And.intro hs (And.intro hl hmu))
   clear hg hmu hs hl HS HD HC
   go_wp2_with (at_builtin; refine wpList_append_at rfl _ _ 22 rfl w.heap.size 5 iz (.int .u8 0) 1 1 Try.underlying22 HI.out HZ0.out HZ1.out HZ2.out rfl (by decide) (.slice xb nb cb) nb (u8s LK) rfl HSR.out.own (.slice xu mu cu) mu (u8s YU) rfl HSU.out.1 HSU.out.2.1 (u8s_one _) (by have := HNB.out; have := HSU.out.2.2; have := HBD.out; unfold maxLen; omega) (by have := HNB.out; have := HSU.out.2.2; have := HBD.out; omega) (by have := HSR.out.gr.size; omega) ?_)
   intro v' w9 hown2 hgb hblk
   obtain ⟨x9, c9, rfl⟩ := own_slice hown2
   have HS9 := Lib.hid (OnS.app (Y := YU) HSR.out (Gr.refl _) hown2 hgb)
   have HN9 := Lib.hid (show nb + mu ≤ 64 * szP ((P.take (k + 1)).map (·.1)) from by have := HNB.out; have := HSU.out.2.2; omega)
   clear hown2 hgb hblk HSR
   generalize nb + mu = n9 at *
   go_wp2
   exact ⟨⟨k + 1, x9, n9, c9, by have := HK.out; omega, by first | rfl | (rw [T4]; rfl) | go_num, rfl, HN9.out, by rw [HFL.out]; exact HS9.out⟩, by have := HK.out; have := T4; simp [intOf]; omega⟩
  ·obtain rfl : k = n := by omega
   have htk : P.take k = P := List.take_of_length_le (by have := HNN.out; omega)
   rw [htk] at HS HNB0
   have hL := HS.out.len
   have hbd : nb ≤ 64 * 1048576 := by have := HNB0.out; have := HSZ.out; omega
   have hby := oneF_by (P.map (·.1))
   have hokF := fun h => oneF_good (P.map (·.1)) [] false h (fun d hd => by
    obtain ⟨p, hp, rfl⟩ := List.mem_map.1 hd
    have := HME.out p hp; omega)
   have hwr := wrS_ok (P.map (·.1)) [] false []
   rw [HR.out] at hwr
   have hinb : ∀ d ∈ P.map (·.1), InB d := fun d hd => by
    obtain ⟨p, hp, rfl⟩ := List.mem_map.1 hd
    have h1 := HIN.out p hp
    have h2 := HME.out p hp
    exact ⟨⟨h1.1, h1.2.1, h1.2.2.1, h1.2.2.2, by omega⟩, by omega⟩
   have hrb := fun hok => read_back hok hinb (at_all (insF (P.map (·.1))))
   have hfw := fun h => fwd_at (lst_by _ hby) (len := ((P.map (·.1)).flatMap oneS).length) (((P.map (·.1)).flatMap oneS).length + 2) ⟨0, 0⟩ [] false [] ⟨by decide, by dsimp only; omega⟩ h
   have her : readS (lst ((P.map (·.1)).flatMap oneS)) ((P.map (·.1)).flatMap oneS).length 0 = rdS (lst ((P.map (·.1)).flatMap oneS)) ((P.map (·.1)).flatMap oneS).length (((P.map (·.1)).flatMap oneS).length + 2) ⟨0, 0⟩ [] false [] := if_neg (by omega)
   rw [← her] at hfw
   -- what reading back answers
   have hRB : (okB (P.map (·.1)) [] false = true → readS (lst ((P.map (·.1)).flatMap oneS)) ((P.map (·.1)).flatMap oneS).length 0 = (P.map (·.1), (nb : Int), 0)) ∧ (okB (P.map (·.1)) [] false ≠ true → (readS (lst ((P.map (·.1)).flatMap oneS)) ((P.map (·.1)).flatMap oneS).length 0).2.2 = 0 → (readS (lst ((P.map (·.1)).flatMap oneS)) ((P.map (·.1)).flatMap oneS).length 0).1 ≠ P.map (·.1)) := by
    refine ⟨fun hok => ?_, fun hno h he => ?_⟩
    ·have h1 := hrb hok
     have h2 := hokF hok
     have h3 : (insF (P.map (·.1))).length = nb := by rw [← h2]; exact hL
     rw [Nat.zero_add] at h1
     rw [h2, h3]
     rw [h3] at h1
     exact h1
    ·obtain ⟨D, e, d1, _⟩ := hfw h
     rw [List.nil_append] at e
     rw [e] at he
     rw [he] at d1
     exact hno d1
   have hRS : (readS (lst ((P.map (·.1)).flatMap oneS)) ((P.map (·.1)).flatMap oneS).length 0).2.2 = 0 → ((readS (lst ((P.map (·.1)).flatMap oneS)) ((P.map (·.1)).flatMap oneS).length 0).1.length ≤ 1099511627776 ∧ ∀ d ∈ (readS (lst ((P.map (·.1)).flatMap oneS)) ((P.map (·.1)).flatMap oneS).length 0).1, d.l.length ≤ 4294967296) := fun h => by
    obtain ⟨D, e, d1, d2, d3, d4, d5⟩ := hfw h
    rw [List.nil_append] at e
    rw [e]
    dsimp only at d4
    exact ⟨by have := szP_len' D; omega, fun d hd => by have := szP_mem' D d hd; omega⟩
   have HRD := Lib.hid (rread_any (w := wr) 0 (lst_by _ hby) (u8s_of_owns (by rw [hL]; exact HS.out.own)) (by omega))
   obtain ⟨F, hF⟩ : ∃ F, (P.map (·.1)).flatMap oneS = F := ⟨_, rfl⟩
   rw [hF] at hRB hRS HRD HS hL hokF
   rw [hL] at hRB hRS HRD
   have HRB := Lib.hid hRB
   have HRS := Lib.hid hRS
   have HWR := Lib.hid hwr
   have HOF := Lib.hid hokF
   have HL2 := Lib.hid hL
   clear htk hbd hby hwr hinb hrb hfw her hRB hRS hF hokF hlt hk hL
   generalize readS (lst F) nb 0 = q at *
   obtain ⟨D, to, er⟩ := q
   have kn : decide (k < k) = false := decide_eq_false (Nat.lt_irrefl _)
   by_cases hok : okB (P.map (·.1)) [] false = true
   ·have e1 := HRB.out.1 hok
    obtain ⟨rfl, rfl, rfl⟩ : D = P.map (·.1) ∧ to = (nb : Int) ∧ er = 0 := by
     obtain ⟨g1, g2⟩ := Prod.mk.inj e1
     obtain ⟨g3, g4⟩ := Prod.mk.inj g2
     exact ⟨g1, g3, g4⟩
    have HRR := Lib.hid (show R = some F from by rw [HWR.out, if_pos hok, List.nil_append, ← HOF.out hok])
    have HDB := Lib.hid (HRS.out rfl)
    clear e1 hok HRB HRS
    go_wp2_with fail
    refine HRD.out.mono ?_
    rintro e w3 (⟨h, _⟩ | ⟨_, cv, P2, rfl, hg3, hP2, hcd⟩)
    ·exact absurd rfl h
    obtain ⟨x2, c2, rfl⟩ := own_slice hcd.1
    have HS3 := Lib.hid (HS.out.to hg3)
    have HSM := Lib.hid (same_gen (cdR_own hcd) (HCR.out w3 HS3.out.gr) (fun p hp => HDB.out.2 p.1 (by have h9 := List.mem_map_of_mem (f := fun x : In × Value => x.1) hp; rw [hP2] at h9; exact h9)) (by have := congrArg List.length hP2; simp only [List.length_map] at this; have := HDB.out.1; simp only [List.length_map] at *; omega))
    have HP2 := Lib.hid hP2
    clear hg3 hP2 hcd HS
    go_wp2_with fail
    refine HSM.out.mono ?_
    rintro e w4 ⟨r, rfl, hr, hg4⟩
    obtain rfl : r = true := hr.2 HP2.out
    have HS4 := Lib.hid (HS3.out.to hg4)
    clear hr hg4 HS3
    go_wp2
    go_ret2
    rw [HRR.out]
    exact ⟨_, rfl, HS4.out.gr, by rw [HL2.out]; exact HS4.out.own⟩
   ·have HRR := Lib.hid (show R = none from by rw [HWR.out, if_neg hok])
    by_cases he : er = 0
    ·subst he
     have HDN := Lib.hid (HRB.out.2 hok rfl)
     have HDB := Lib.hid (HRS.out rfl)
     clear hok HRB HRS
     go_wp2_with fail
     refine HRD.out.mono ?_
     rintro e w3 (⟨h, _⟩ | ⟨_, cv, P2, rfl, hg3, hP2, hcd⟩)
     ·exact absurd rfl h
     obtain ⟨x2, c2, rfl⟩ := own_slice hcd.1
     have HS3 := Lib.hid (HS.out.to hg3)
     have HSM := Lib.hid (same_gen (cdR_own hcd) (HCR.out w3 HS3.out.gr) (fun p hp => HDB.out.2 p.1 (by have h9 := List.mem_map_of_mem (f := fun x : In × Value => x.1) hp; rw [hP2] at h9; exact h9)) (by have := congrArg List.length hP2; simp only [List.length_map] at this; have := HDB.out.1; omega))
     have HP2 := Lib.hid (show P2.map (·.1) ≠ P.map (·.1) from fun e => HDN.out (hP2.symm.trans e))
     clear hg3 hP2 hcd HS
     by_cases ht : to = (nb : Int)
     ·have q1 : (to != (nb : Int)) = false := by simpa using ht
      clear ht
      go_wp2_with fail
      refine HSM.out.mono ?_
      rintro e w4 ⟨r, rfl, hr, hg4⟩
      obtain rfl : r = false := Bool.eq_false_iff.2 fun h => HP2.out (hr.1 h)
      have HS4 := Lib.hid (HS3.out.to hg4)
      clear hr hg4 HS3
      go_wp2
      go_ret2
      rw [HRR.out]
      exact ⟨rfl, HS4.out.gr⟩
     ·have q1 : (to != (nb : Int)) = true := by simpa using ht
      clear ht
      go_wp2
      go_ret2
      rw [HRR.out]
      exact ⟨rfl, HS3.out.gr⟩
    ·have HNE := Lib.hid he
     have q1 : (er != 0) = true := by simpa using he
     clear hok he HRB HRS
     go_wp2_with fail
     refine HRD.out.mono ?_
     rintro e w3 (⟨_, _, _, rfl, hg3⟩ | ⟨h, _⟩)
     case inr => exact absurd h HNE.out
     have HS3 := Lib.hid (HS.out.to hg3)
     clear hg3 HS
     go_wp2
     go_ret2
     rw [HRR.out]
     exact ⟨rfl, HS3.out.gr⟩
end Ex
end
end Go.Proofs.Ytebkabidojipoaa
