/-
  Texts of this seat, joined: ExKa, ExKw, ExKd. Each says what it proves.
-/
import Derived.Test.YtebkabidojipoaaMk7
import Derived.Test.YtebkabidojipoaaMk9
import Derived.Test.YtebkabidojipoaaMk17
import Derived.ArgAppend
import Derived.Laws.IdiomStrings
/- ExKa -/
namespace Go.Proofs.Ytebkabidojipoaa
open Go.RowKit VecM LebM
namespace Ex
def RM (w : World) (base : Nat) (v : Value) (l : List Int) : Prop :=
 ∃ g c, v = .slice (some ⟨g, 0, none⟩) l.length c ∧ l.length ≤ c ∧ base ≤ g ∧ g < w.heap.size ∧ (∀ j, j < l.length → w.cell? ⟨g, j, none⟩ = some (.int .u8 (l.getD j 0))) ∧ ∀ j, j < l.length → w.frozen? ⟨g, j, none⟩ = false
theorem RM.sep {ex : Nat → Prop} {w w' : World} {base : Nat} {v : Value} {l : List Int} (h : RM w base v l) (hs : Sep ex w w') (hx : ∀ k, v.ownBlock = some k → ¬ ex k) : RM w' base v l := by
 obtain ⟨g, c, rfl, h1, h2, h3, h4, h5⟩ := h
 have hg : ¬ ex g := hx g rfl
 exact ⟨g, c, rfl, h1, h2, Nat.lt_of_lt_of_le h3 hs.size, fun j hj => hs.cell hg (h4 j hj), fun j hj => (World.frozen?_of_block (hs.block g h3 hg)).trans (h5 j hj)⟩
theorem RM.of_own {w : World} {base : Nat} {v : Value} {l : List Int} (h : w.ownsRow base 5 1 v l.length (u8s l)) (h0 : 0 < l.length) : RM w base v l := by
 obtain ⟨g, c, rfl, h1, h2, h3, _⟩ := own_some h h0
 refine ⟨g, c, rfl, h1, h2, h3, fun j hj => ?_, fun j hj => h.frozenAt j⟩
 have := h.cells rfl j (.int .u8 (l.getD j 0)) (by unfold u8s; simp [List.getD_eq_getElem?_getD, hj])
 rw [show (⟨g, 0, none⟩ : Addr).add j = ⟨g, j, none⟩ by unfold Addr.add; split <;> simp_all] at this
 exact this
theorem RM.u8s {w : World} {base : Nat} {v : Value} {l : List Int} (h : RM w base v l) (hl : l.length ≤ 9223372036854775807) : U8s w v l.length (lst l) := by
 obtain ⟨g, c, rfl, h1, h2, h3, h4, h5⟩ := h
 exact .inr ⟨hl, g, 0, c, rfl, fun j hj => by rw [Nat.zero_add]; exact h4 j hj⟩
theorem sep_setCells (b : Nat) : ∀ (vs : List Value) (o : Nat) (w : World), Sep (fun k => k = b) w (w.setCells b o vs)
 | [], _, w => Sep.refl w
 | v :: r, o, w => by
  rw [World.setCells]
  exact Sep.trans (Sep.setCell (ex := fun k => k = b) w (p := ⟨b, o, none⟩) rfl v) (sep_setCells b r (o + 1) _)
theorem bytesRow_get {L : List Int} (hL : ∀ x ∈ L, 0 ≤ x ∧ x < 256) (cap j : Nat) (hj : j < L.length) : (bytesRow (strOfNums L) cap)[j]? = some (.int .u8 (L.getD j 0)) := by
 have hx := hL (L[j]) (List.getElem_mem hj)
 unfold bytesRow
 rw [Array.getElem?_append_left (by simp [strOfNums]; omega)]
 simp only [strOfNums, Array.getElem?_map, List.getElem?_toArray, List.getElem?_map, List.getElem?_eq_getElem hj, Option.map_some]
 rw [List.getD_eq_getElem?_getD, List.getElem?_eq_getElem hj]
 simp only [Option.getD_some, Option.some.injEq, Value.int.injEq, true_and]
 simp only [UInt8.toNat_ofNat']
 omega
theorem bytesRow_size (L : List Int) (cap : Nat) (h : L.length ≤ cap) : (bytesRow (strOfNums L) cap).size = cap := by
 unfold bytesRow
 have := strOfNums_size L
 simp only [Array.size_append, Array.size_map, Array.size_replicate]
 have e : (strOfNums L).data.size = L.length := this
 rw [e, this]; omega
def BR (w : World) (g cap : Nat) (L : List Int) : Prop := w.heap[g]? = some (.cells (bytesRow (strOfNums L) cap) 5 (cap, cap + 1)) ∧ L.length ≤ cap
theorem br_app {w : World} {g cap : Nat} {L Y : List Int} {base m : Nat} {sv : Value} (t : TypeId) (ht : Try.prog.underlying t = some (.slice 5)) (ty : TypeId) (h : BR w g cap L) (hL : ∀ x ∈ L, 0 ≤ x ∧ x < 256) (hb : base ≤ g) (hsrc : Src w sv m (u8s Y)) (hY : Y.length = m) (hm : 0 < m) (hn : L.length + m ≤ 70368744177664) :
  ∃ v' w', (Builtin.append_ #[t, t] ty #[.slice (some ⟨g, 0, none⟩) L.length cap, sv]).run Try.prog w = .ok v' w' ∧ RM w' base v' (L ++ Y) ∧ Sep (fun k => k = g) w w' := by
 obtain ⟨hg, hcap⟩ := h
 have hgs : g < w.heap.size := (Array.getElem?_eq_some_iff.1 hg).1
 obtain ⟨i, hi, hz, h1, h8⟩ := info_parts (show (Try.prog.info? 5).map (fun i => (i.zero, i.size, i.bytes)) = some (some (.int .u8 0), 1, 1) by kernel_rfl)
 rcases hsrc with ⟨_, rfl, _⟩ | ⟨ad, c, rfl, hc⟩
 ·omega
 have hlen : (u8s Y).length = m * 1 := by unfold u8s; simp [hY]
 have hcell : ∀ j, j < L.length → w.cell? ⟨g, j, none⟩ = some (.int .u8 (L.getD j 0)) := fun j hj => (cell_of_row _ _ j _ _ _ hg).trans (bytesRow_get hL cap j hj)
 have hsize := bytesRow_size L cap hcap
 by_cases hroom : L.length + m ≤ cap
 ·have hsome : ∀ j, j < cap → (w.cell? ⟨g, j, none⟩).isSome = true := fun j hj => by
   rw [cell_of_row _ _ j _ _ _ hg, Array.getElem?_eq_getElem (by rw [hsize]; exact hj)]; rfl
  have hfro : ∀ j, j < cap → w.frozen? ⟨g, j, none⟩ = false := fun j hj => by
   unfold World.frozen?
   dsimp only
   rw [hg]
   simp
   omega
  have hr := run_append_room_cells (P := Try.prog) (w := w) t ty 5 i ht hi g 0 L.length cap ad m c (u8s Y) (by rw [h1]; exact hlen) hc (u8s_one Y) hroom
   (fun j hj => hsome _ (by rw [h1]; rw [hlen] at hj; omega)) (fun j hj => hfro _ (by rw [h1]; rw [hlen] at hj; omega))
  rw [h1, Nat.zero_add, Nat.mul_one] at hr
  have hsep := sep_setCells g (u8s Y) L.length w
  refine ⟨_, _, hr, ⟨g, cap, by rw [List.length_append, hY], by rw [List.length_append, hY]; exact hroom, hb, Nat.lt_of_lt_of_le hgs hsep.size, fun j hj => ?_, fun j hj => ?_⟩, hsep⟩
  ·rw [List.length_append, hY] at hj
   by_cases hjl : j < L.length
   ·rw [World.cell?_setCells_out g (u8s Y) L.length w ⟨g, j, none⟩ (fun _ _ => .inl hjl), hcell j hjl, List.getD_eq_getElem?_getD, List.getD_eq_getElem?_getD, List.getElem?_append_left hjl]
   ·obtain ⟨q, rfl⟩ : ∃ q, j = L.length + q := ⟨j - L.length, by omega⟩
    have hq : q < (u8s Y).length := by rw [hlen]; omega
    rw [World.cell?_setCells_in g (u8s Y) L.length w (fun i hi => hsome _ (by rw [hlen] at hi; omega)) q hq]
    have e1 : (u8s Y)[q]? = some (.int .u8 (Y.getD q 0)) := by
     unfold u8s
     rw [List.getElem?_map, List.getElem?_eq_getElem (by omega), List.getD_eq_getElem?_getD, List.getElem?_eq_getElem (by omega)]
     rfl
    rw [← List.getElem?_eq_getElem hq, e1, List.getD_eq_getElem?_getD, List.getD_eq_getElem?_getD, List.getElem?_append_right (by omega), Nat.add_sub_cancel_left]
  ·rw [List.length_append, hY] at hj
   rw [World.frozen?_setCells]
   exact hfro j (by omega)
 ·obtain ⟨v', w', hr, ho, hgb⟩ := run_append_arg_grows (P := Try.prog) (w := w) t ty 5 i (.int .u8 0) 1 1 ht hi hz h1 h8 rfl (by decide) ⟨g, 0, none⟩ L.length cap (u8s L) (by unfold u8s; simp) (fun j u hu => by
    have hj : j < L.length := by have := (List.getElem?_eq_some_iff.1 hu).1; unfold u8s at this; simpa using this
    have e : (⟨g, 0, none⟩ : Addr).add j = ⟨g, j, none⟩ := by unfold Addr.add; split <;> simp_all
    rw [e, hcell j hj]
    unfold u8s at hu
    rw [List.getElem?_map, List.getElem?_eq_getElem hj] at hu
    rw [List.getD_eq_getElem?_getD, List.getElem?_eq_getElem hj]
    exact hu) ad m c (u8s Y) hlen hc (by omega) (by unfold maxLen; omega) (by omega)
  have ho2 : w'.ownsRow w.heap.size 5 1 v' (L ++ Y).length (u8s (L ++ Y)) := by
   rw [List.length_append, hY, _root_.Go.Proofs.Ytebkabidojipoaa.u8s_app]; exact ho
  obtain ⟨q, c', e, a1, a2, a3, a4, a5⟩ := RM.of_own ho2 (by rw [List.length_append]; omega)
  exact ⟨v', w', hr, ⟨q, c', e, a1, by omega, a3, a4, a5⟩, (Sep.grown (ex := fun k => k = g) hgb (fun k hk => by cases hk))⟩
end Ex
end Go.Proofs.Ytebkabidojipoaa
/- ExKw -/
namespace Go.Proofs.Ytebkabidojipoaa
open Go.RowKit VecM LebM
namespace Ex
theorem wpList_br {ops : Array Oper} {rest : List Oper} {o : Oper} {a : Act} {w : World} {Q : Exit → Act → World → Prop} (hgd : o.guard = none) (x : Operand) (src dst : TypeId)
  (ho : o.op = .convert src dst x) (hs : Try.prog.underlying src = some .string) (hd : Try.prog.underlying dst = some (.slice 5)) (L : List Int) (hx : a.eval x = .string (strOfNums L))
  (h : ∀ cap w', BR w' w.heap.size cap L → Gr w w' → wpList Try.prog ops Q rest (a.put o.dst (.slice (some ⟨w.heap.size, 0, none⟩) L.length cap)) w') : wpList Try.prog ops Q (o :: rest) a w := by
 refine wpList_plain hgd fun K hK => ?_
 have hcap := grownCap_ge w L.length 0 5
 have hr := run_bytes_of_string (P := Try.prog) w src dst 5 (strOfNums L) hs hd Try.underlying5
 rw [strOfNums_size] at hr
 unfold Oper.wp execOp
 simp only [ho, Sem.run_bind, Sem.run_pure, Result.andThen_ok, hx, hr]
 refine hK _ _ (h (grownCap w L.length 0 5) _ ⟨?_, hcap⟩ ?_)
 ·rw [bytesRow_size L _ hcap]
  show (w.heap.push _)[w.heap.size]? = _
  simp
 ·exact ((Gr.refl w).drew).allocO _
theorem wpList_brApp {ops : Array Oper} {rest : List Oper} {o : Oper} {a : Act} {w : World} {Q : Exit → Act → World → Prop} (hgd : o.guard = none) (s x : Operand) (t : TypeId)
  (ho : o.op = .call { callee := .builtin .append, args := #[s, x], argTypes := #[t, t] }) (ht : Try.prog.underlying t = some (.slice 5)) (g cap base m : Nat) (L Y : List Int) (sv : Value)
  (hs : a.eval s = .slice (some ⟨g, 0, none⟩) L.length cap) (hx : a.eval x = sv) (hb : BR w g cap L) (hL : ∀ x ∈ L, 0 ≤ x ∧ x < 256) (hbg : base ≤ g) (hsrc : Src w sv m (u8s Y)) (hY : Y.length = m) (hm : 0 < m) (hn : L.length + m ≤ 70368744177664)
  (h : ∀ v' w', RM w' base v' (L ++ Y) → Sep (fun k => k = g) w w' → wpList Try.prog ops Q rest (a.put o.dst v') w') : wpList Try.prog ops Q (o :: rest) a w := by
 refine wpList_plain hgd fun K hK => ?_
 obtain ⟨v', w', hr, h2, h3⟩ := br_app t ht o.type hb hL hbg hsrc hY hm hn
 unfold Oper.wp execOp
 simp only [ho, resolve, invoke, builtin, Sem.run_bind, Sem.run_pure, Result.andThen_ok, List.map_toArray, List.map_cons, List.map_nil, hs, hx, hr]
 exact hK _ _ (h v' w' h2 h3)
end Ex
end Go.Proofs.Ytebkabidojipoaa
/- ExKd -/
namespace Go.Proofs.Ytebkabidojipoaa
open Go.RowKit VecM LebM
namespace Ex
def OwE (w : World) (base : Nat) (e : TypeId) (size : Nat) (v : Value) (n : Nat) : Prop := ∃ xs, w.ownsRow base e size v n xs
theorem owE_cells {w : World} {base : Nat} {e : TypeId} {size n c g : Nat} {cur : Array Value} (hb : base ≤ g) (hg : w.heap[g]? = some (.cells cur e (0, 0))) (hn : n ≤ c) (hc : c ≤ maxLen) (hs : cur.size = c * size) : OwE w base e size (.slice (some ⟨g, 0, none⟩) n c) n :=
 ⟨cur.toList.take (n * size), by rw [List.length_take, Array.length_toList, hs]; exact Nat.min_eq_left (Nat.mul_le_mul_right _ hn), .inr ⟨g, c, cur, rfl, hb, hg, hn, hc, hs, rfl⟩⟩
theorem owE_set {w : World} {base : Nat} {e : TypeId} {size : Nat} {v : Value} {n : Nat} (h : OwE w base e size v n) (g o : Nat) (u : Value) : OwE (w.setCell ⟨g, o, none⟩ u) base e size v n := by
 obtain ⟨xs, h1, h2⟩ := h
 rcases h2 with h2 | ⟨k, c, cur, rfl, hb, hg, hn, hc, hs, _⟩
 ·exact ⟨xs, h1, .inl h2⟩
 ·by_cases he : k = g
  ·subst he
   exact owE_cells hb (heap_setCell_same w k o cur e u hg) hn hc (by simpa using hs)
  ·exact owE_cells hb (by rw [heap_setCell_other w ⟨g, o, none⟩ k u (fun e => he e)]; exact hg) hn hc hs
theorem owE_sep {ex : Nat → Prop} {w w' : World} {base : Nat} {e : TypeId} {size : Nat} {v : Value} {n : Nat} (h : OwE w base e size v n) (s : Sep ex w w') (hx : ∀ k, v.ownBlock = some k → ¬ ex k) : OwE w' base e size v n :=
 h.elim fun xs h => ⟨xs, s.owns h hx⟩
theorem owE_keep {w w' : World} {base : Nat} {e : TypeId} {size : Nat} (hz : 0 < size) {v v2 : Value} {n n2 : Nat} (h : OwE w base e size v n) (h2 : OwE w base e size v2 n2) (hg : w.grownBy w' v.ownBlock) (hk : OwE w' base e size v n) : OwE w' base e size v2 n2 := by
 obtain ⟨xs2, l2, h2⟩ := h2
 rcases h2 with h2 | ⟨k, c, cur, rfl, hb, hk2, hn, hc, hs, _⟩
 ·exact ⟨xs2, l2, .inl h2⟩
 ·by_cases he : v.ownBlock = some k
  ·obtain ⟨xs, _, h⟩ := h
   obtain ⟨ys, _, hk⟩ := hk
   rcases h with ⟨rfl, _⟩ | ⟨k1, c1, cur1, rfl, _, hg1, _, _, hs1, _⟩
   ·cases he
   ·obtain rfl : k1 = k := Option.some.inj he
    rcases hk with ⟨h, _⟩ | ⟨k3, c3, cur3, h, _, hg3, _, _, hs3, _⟩
    ·cases h
    ·injection h with ha _ hcc
     injection ha with ha
     injection ha with ha
     subst ha
     rw [hk2] at hg1
     injection hg1 with hg1
     injection hg1 with hcur
     subst hcur
     have e1 : c = c1 := Nat.eq_of_mul_eq_mul_right hz (hs.symm.trans hs1)
     exact owE_cells hb hg3 hn hc (by rw [hs3, ← hcc, e1])
  ·exact owE_cells hb (by rw [hg.block k (Array.getElem?_eq_some_iff.1 hk2).1 (fun e => he e.symm)]; exact hk2) hn hc hs
theorem meas_lt {n k : Nat} (h : k < n) : n - (intOf (.int .i64 ((k : Int) + 1))).toNat < n - (intOf (.int .i64 (k : Int))).toNat := by
 simp [intOf]; omega
def XR (w : World) (lo hi : Nat) (v : Value) (m : Nat) : Prop :=
 (∀ q, v.ownBlock = some q → q < hi) ∧ ∃ xs, w.ownsRow lo 38 6 v m xs ∧ (∀ i, i < m → ∃ x, xs[i * 6]? = some (.int .i64 x)) ∧ ∀ i, i < m → ∃ y n c, xs[i * 6 + 5]? = some (.slice y n c) ∧ n ≤ 1048576 ∧ OwE w lo 3 1 (.slice y n c) n ∧ ∀ q, (Value.slice y n c).ownBlock = some q → q < hi
theorem cdV_at : ∀ (P : List (In × Value)) (i : Nat) (p : In × Value) (j : Nat), P[i]? = some p → j < 6 → (cdV P)[i * 6 + j]? = (inV p.1 p.2)[j]?
 | [], _, _, _, h, _ => by cases h
 | q :: r, 0, p, j, h, hj => by
  obtain rfl : q = p := Option.some.inj h
  show ((inV q.1 q.2).toList ++ cdV r)[0 * 6 + j]? = _
  rw [Nat.zero_mul, Nat.zero_add, List.getElem?_append_left (by exact hj), Array.getElem?_toList]
 | q :: r, i + 1, p, j, h, hj => by
  show ((inV q.1 q.2).toList ++ cdV r)[(i + 1) * 6 + j]? = _
  rw [List.getElem?_append_right (by show (6 : Nat) ≤ _; omega)]
  have e : (i + 1) * 6 + j - (inV q.1 q.2).toList.length = i * 6 + j := by show (i + 1) * 6 + j - 6 = _; omega
  rw [e]
  exact cdV_at r i p j h hj
theorem xr_of_cd {w : World} {lo hi : Nat} {v : Value} {P : List (In × Value)} {m : Nat} (h : CdO w lo v P) (hm : P.length = m) (hz : ∀ p ∈ P, p.1.l.length ≤ 1048576) (h0 : ∀ q, v.ownBlock = some q → q < hi) (h1 : ∀ p ∈ P, ∀ q, p.2.ownBlock = some q → q < hi) : XR w lo hi v m := by
 subst hm
 refine ⟨h0, _, h.1, fun i hi => ?_, fun i hi => ?_⟩
 ·exact ⟨P[i].1.op, by rw [← Nat.add_zero (i * 6), cdV_at P i P[i] 0 (List.getElem?_eq_getElem hi) (by decide)]; rfl⟩
 ·have hp := List.getElem_mem hi
  obtain ⟨y, c, e⟩ := own_slice (h.2 _ hp)
  refine ⟨y, P[i].1.l.length, c, ?_, hz _ hp, ⟨_, e ▸ h.2 _ hp⟩, fun q hq => h1 _ hp q (by rw [e]; exact hq)⟩
  rw [cdV_at P i P[i] 5 (List.getElem?_eq_getElem hi) (by decide), ← e]
  rfl
theorem xr_at {w : World} {lo hi m c g : Nat} (h : XR w lo hi (.slice (some ⟨g, 0, none⟩) m c) m) {i : Nat} (hi' : i < m) : (∃ y n c, w.cell? ⟨g, i * 6 + 5, none⟩ = some (.slice y n c) ∧ n ≤ 1048576 ∧ OwE w lo 3 1 (.slice y n c) n ∧ (∀ q, (Value.slice y n c).ownBlock = some q → q < hi)) ∧ (∃ x, w.cell? ⟨g, i * 6, none⟩ = some (.int .i64 x)) ∧ w.frozen? ⟨g, i * 6, none⟩ = false := by
 obtain ⟨_, xs, ho, h0, h1⟩ := h
 obtain ⟨y, n, c, a1, a2, a3, a4⟩ := h1 i hi'
 obtain ⟨x, hx⟩ := h0 i hi'
 exact ⟨⟨y, n, c, by rw [ho.cellAt _ (by omega)]; exact a1, a2, a3, a4⟩, ⟨x, by rw [ho.cellAt _ (by omega)]; exact hx⟩, ho.frozenAt _⟩
theorem xr_sep {ex : Nat → Prop} {w w' : World} {lo hi m : Nat} {v : Value} (h : XR w lo hi v m) (s : Sep ex w w') (hx : ∀ q, lo ≤ q → q < hi → ¬ ex q) : XR w' lo hi v m := by
 obtain ⟨a, xs, ho, h0, h1⟩ := h
 exact ⟨a, xs, s.owns ho (fun k hk => hx k (ho.lt k hk).1 (a k hk)), h0, fun i hi' => by
  obtain ⟨y, n, c, a1, a2, a3, a4⟩ := h1 i hi'
  exact ⟨y, n, c, a1, a2, owE_sep a3 s (fun k hk => hx k (a3.choose_spec.lt k hk).1 (a4 k hk)), a4⟩⟩
theorem xr_apart {w : World} {lo hi m n c g : Nat} {l : Value} (h : XR w lo hi (.slice (some ⟨g, 0, none⟩) m c) m) (hl : OwE w lo 3 1 l n) : l.ownBlock ≠ some g := by
 obtain ⟨_, xs, ho, _⟩ := h
 obtain ⟨_, hl⟩ := hl
 exact own_apart ho hl (by decide) g rfl
theorem xr_setl {w : World} {lo hi m n c g k : Nat} {v : Value} (h : XR w lo hi v m) (hl : OwE w lo 3 1 (.slice (some ⟨g, 0, none⟩) n c) n) (u : Value) : XR (w.setCell ⟨g, k, none⟩ u) lo hi v m := by
 obtain ⟨a, xs, ho, h0, h1⟩ := h
 obtain ⟨_, hl⟩ := hl
 refine ⟨a, xs, (Sep.setCell (ex := fun q => q = g) w (p := ⟨g, k, none⟩) rfl u).owns ho (fun q hq e => own_apart ho hl (by decide) q hq (by rw [show q = g from e]; rfl)), h0, fun i hi' => ?_⟩
 obtain ⟨y, n, c, a1, a2, a3, a4⟩ := h1 i hi'
 exact ⟨y, n, c, a1, a2, owE_set a3 _ _ _, a4⟩
theorem xr_seto {w : World} {lo hi m c g i : Nat} (h : XR w lo hi (.slice (some ⟨g, 0, none⟩) m c) m) (x : Int) : XR (w.setCell ⟨g, i * 6, none⟩ (.int .i64 x)) lo hi (.slice (some ⟨g, 0, none⟩) m c) m := by
 obtain ⟨a, xs, ho, h0, h1⟩ := h
 refine ⟨a, _, (ho.stored _ _).1, fun j hj => ?_, fun j hj => ?_⟩
 ·obtain ⟨z, hz⟩ := h0 j hj
  rw [List.getElem?_set]
  split
  ·rename_i e
   split
   ·exact ⟨x, rfl⟩
   ·rename_i hn
    have := (List.getElem?_eq_some_iff.1 hz).1
    omega
  ·exact ⟨z, hz⟩
 ·obtain ⟨y, n, c, a1, a2, a3, a4⟩ := h1 j hj
  exact ⟨y, n, c, by rw [List.getElem?_set_ne (by omega)]; exact a1, a2, owE_set a3 _ _ _, a4⟩
theorem xr_keep {w w' : World} {lo hi m n : Nat} {v l : Value} (h : XR w lo hi v m) (hl : OwE w lo 3 1 l n) (hg : w.grownBy w' l.ownBlock) (hk : OwE w' lo 3 1 l n) : XR w' lo hi v m := by
 obtain ⟨a, xs, ho, h0, h1⟩ := h
 obtain ⟨ys, hl2⟩ := hl
 refine ⟨a, xs, (Sep.grown (ex := fun q => l.ownBlock = some q) hg (fun q hq => hq)).owns ho (fun q hq e => own_apart ho hl2 (by decide) q hq e), h0, fun i hi' => ?_⟩
 obtain ⟨y, n, c, a1, a2, a3, a4⟩ := h1 i hi'
 exact ⟨y, n, c, a1, a2, owE_keep (by decide) ⟨ys, hl2⟩ a3 hg hk, a4⟩
theorem rm_set {w : World} {base m c g : Nat} {l : List Int} (h : RM w base (.slice (some ⟨g, 0, none⟩) m c) l) (j : Nat) (x : Int) : RM (w.setCell ⟨g, j, none⟩ (.int .u8 x)) base (.slice (some ⟨g, 0, none⟩) m c) (l.set j x) := by
 obtain ⟨g', c', e, h1, h2, h3, h4, h5⟩ := h
 injection e with e0 e1 e2
 injection e0 with e0
 injection e0 with e0
 subst e0 e1 e2
 refine ⟨g, c, by rw [List.length_set], by rw [List.length_set]; exact h1, h2, by simp [World.setCell]; exact h3, fun k hk => ?_, fun k hk => ?_⟩
 ·rw [List.length_set] at hk
  by_cases hkj : k = j
  ·subst hkj
   rw [World.cell?_setCell_same _ _ _ (by rw [h4 k hk])]
   rw [List.getD_eq_getElem?_getD, List.getElem?_set_self hk]
   rfl
  ·rw [World.cell?_setCell_other _ _ _ _ (by intro e; injection e with _ e; exact hkj e.symm), h4 k hk, List.getD_eq_getElem?_getD, List.getD_eq_getElem?_getD, List.getElem?_set_ne (fun e => hkj e.symm)]
 ·rw [List.length_set] at hk
  rw [World.frozen?_setCell]
  exact h5 k hk
theorem rm_at {w : World} {base m c g : Nat} {l : List Int} (h : RM w base (.slice (some ⟨g, 0, none⟩) m c) l) {j : Nat} (hj : j < m) : (∃ x, w.cell? ⟨g, j, none⟩ = some (.int .u8 x)) ∧ w.frozen? ⟨g, j, none⟩ = false := by
 obtain ⟨g', c', e, h1, h2, h3, h4, h5⟩ := h
 injection e with e0 e1 e2
 injection e0 with e0
 injection e0 with e0
 subst e0 e1 e2
 exact ⟨⟨_, h4 j hj⟩, h5 j hj⟩
end Ex
end Go.Proofs.Ytebkabidojipoaa
