/-
  Texts of this seat, joined: ExU, ExV, ExV2, ExV3, ExV4, ExV5, ExFo, ExRa, ExRb, ExRc, ExRd, ExRe, ExRf. Each says what it proves.
-/
import Derived.Test.YtebkabidojipoaaMw5
import Derived.Test.YtebkabidojipoaaMw7
import Derived.Test.YtebkabidojipoaaMw17
namespace Go.Proofs.Ytebkabidojipoaa
section
open Go.RowKit VecM LebM
namespace Ex
theorem read_any {w : World} {sv : Value} {len : Nat} {f : Nat → Int} (a : Int) (hf : By f) (hm : Ins.Mx w) (hb : U8s w sv len f) (hsv : ∀ k, sv.ownBlock = some k → k < w.heap.size) (hl : len ≤ 1099511627776) (hwz : 0 < w.heap.size) :
  Calls Try.prog 10 #[sv, .int .i64 a] w (RDX w (readS f len a)) := by
 by_cases h0 : a < 0
 ·have e0 : readS f len a = ([], 0, 1) := if_pos (.inl h0)
  rw [e0]
  obtain ⟨x, c, rfl⟩ := u8s_slice hb
  have d0 : decide (a < 0) = true := decide_eq_true h0
  clear e0 hb hsv hm
  go_enter Try.func10, Try.ntmps10
  go_wp2
  go_ret3
  exact .inl ⟨by decide, rfl, rfl, rfl, Gr.refl _⟩
 ·by_cases h1 : (len : Int) < a
  ·have e0 : readS f len a = ([], 0, 1) := if_pos (.inr h1)
   rw [e0]
   obtain ⟨x, c, rfl⟩ := u8s_slice hb
   have d0 : decide (a < 0) = false := decide_eq_false h0
   have d1 : decide (a > (len : Int)) = true := decide_eq_true h1
   clear e0 hb hsv hm
   go_enter Try.func10, Try.ntmps10
   go_wp2
   go_ret3
   exact .inl ⟨by decide, rfl, rfl, rfl, Gr.refl _⟩
  ·have e0 : readS f len a = rdS f len (len + 2) ⟨a, 0⟩ [] false [] := if_neg (by omega)
   rw [e0]
   exact read_in hf hm hb hsv (by omega) (by omega) hl hwz
theorem lsR_cells {w : World} {x : Option Addr} {n c : Nat} {l : List Int} (h : LsR w (.slice x n c) l) : n = l.length ∧ (0 < n → ∃ b off, x = some ⟨b, off, none⟩ ∧ ∀ j, j < n → w.cell? ⟨b, off + j, none⟩ = some (.int .i64 (l.getD j 0))) := by
 obtain ⟨x', c', e, h⟩ := h
 obtain ⟨rfl, rfl, rfl⟩ := Value.slice.inj e
 refine ⟨rfl, fun h0 => ?_⟩
 obtain ⟨b, off, rfl, _⟩ := h 0 h0
 refine ⟨b, off, rfl, fun j hj => ?_⟩
 obtain ⟨b', off', e1, h1⟩ := h j hj
 cases e1
 exact h1
theorem cdR_at {w : World} {x : Option Addr} {n c : Nat} {P : List (In × Value)} (h : CdR w (.slice x n c) P) : n = P.length ∧ (0 < n → ∃ b off, x = some ⟨b, off, none⟩ ∧ ∀ k p, P[k]? = some p → LsR w p.2 p.1.l ∧ ∀ j u, (inV p.1 p.2).toList[j]? = some u → w.cell? ⟨b, off + k * 6 + j, none⟩ = some u) := by
 obtain ⟨⟨x', c', e, h⟩, hl⟩ := h
 obtain ⟨rfl, rfl, rfl⟩ := Value.slice.inj e
 refine ⟨rfl, fun h0 => ?_⟩
 obtain ⟨p0, hp0⟩ : ∃ p, P[0]? = some p := ⟨_, List.getElem?_eq_getElem h0⟩
 obtain ⟨b, off, rfl, _⟩ := h (0 * 6 + 0) _ (by rw [cdV_get P 0 p0 hp0 0 (by decide)]; rfl)
 refine ⟨b, off, rfl, fun k p hp => ⟨hl p (List.mem_of_getElem? hp), fun j u hu => ?_⟩⟩
 have hj : j < 6 := by have := (List.getElem?_eq_some_iff.1 hu).1; simpa [inV] using this
 obtain ⟨b', off', e1, h1⟩ := h (k * 6 + j) u (by rw [cdV_get P k p hp j hj]; exact hu)
 cases e1
 rwa [show off + (k * 6 + j) = off + k * 6 + j by omega] at h1
theorem aw1 : readS (lst [65, 5, 11]) 3 0 = ([⟨65, 0, 0, 5, 0, []⟩, ⟨11, 0, 0, 0, 0, []⟩], 3, 0) := by kernel_rfl
theorem aw2 : wrS [⟨2, -1, 0, 0, 0, []⟩, ⟨11, 0, 0, 0, 0, []⟩, ⟨11, 0, 0, 0, 0, []⟩] [] false [] = some [2, 127, 11, 11] := by kernel_rfl
theorem aw3 : readS (lst [67, 0, 0, 0, 0, 11]) 6 0 = ([], 0, 11) := by kernel_rfl
theorem aws : strOfNums [2, 127, 11, 11] = { data := #[2, 127, 11, 11] } := by rfl
theorem lst_by (l : List Int) (h : ∀ x ∈ l, 0 ≤ x ∧ x < 256) : By (lst l) := fun j => by
 unfold lst
 rw [List.getD_eq_getElem?_getD]
 by_cases hj : j < l.length
 ·rw [List.getElem?_eq_getElem hj]; exact h _ (List.getElem_mem hj)
 ·rw [List.getElem?_eq_none (by omega)]; exact ⟨by simp, by simp⟩
theorem mx_size {w : World} (h : Ins.Mx w) : 0 < w.heap.size := by
 obtain ⟨m, hm⟩ := h
 exact block_lt_of_cell hm
theorem lsR_nil (w : World) : LsR w (.slice none 0 0) [] := ⟨none, 0, rfl, fun j hj => by simp at hj⟩
theorem cd_head {w : World} {base : Nat} {v : Value} {P : List (In × Value)} {d1 d2 : In} (h : CdO w base v P) (hP : P.map (·.1) = [d1, d2]) : ∃ q c L1 L2, v = .slice (some ⟨q, 0, none⟩) 2 c ∧ q < w.heap.size ∧ w.cell? ⟨q, 0, none⟩ = some (.int .i64 d1.op) ∧ w.cell? ⟨q, 3, none⟩ = some (.int .u64 d1.lo) ∧ P = [(d1, L1), (d2, L2)] := by
 match P, hP with
 | [p1, p2], hP =>
  obtain ⟨e1, L1⟩ := p1
  obtain ⟨e2, L2⟩ := p2
  simp only [List.map_cons, List.map_nil, List.cons.injEq, and_true] at hP
  obtain ⟨rfl, rfl⟩ := hP
  obtain ⟨q, c, rfl, _, _, hq, _⟩ := own_some h.1 (by simp)
  have h0 := h.1.cells rfl 0 (.int .i64 e1.op) rfl
  have h3 := h.1.cells rfl 3 (.int .u64 e1.lo) rfl
  rw [add_at] at h0 h3
  exact ⟨q, c, L1, L2, rfl, hq, h0, h3, rfl⟩
set_option maxRecDepth 100000 in
set_option maxHeartbeats 2000000 in
theorem awake_any (w : World) (hm : Ins.Mx w) : Calls Try.prog 9 #[] w fun e w' => e = .returned (.bool true) ∧ Gr w w' := by
 have HM := Lib.hid (fun wx (hg : Gr w wx) => Ins.mx_gr hm hg)
 have HA1 := Lib.hid (read_any (w := w.alloc (.cells #[.int .u8 65, .int .u8 5, .int .u8 11] 5)) (len := 3) 0 (lst_by [65, 5, 11] (by decide)) (Ins.mx_gr hm ((Gr.refl w).alloc _ _)) (u8s_lit w [65, 5, 11] 5 (by decide) 3) (fun k hk => by simp [Value.ownBlock] at hk; subst hk; simp) (by decide) (by simp))
 rw [aw1] at HA1
 have HA2 := Lib.hid (fun wx (hx : Ins.Mx wx) => write_any (w := wx.alloc (.cells #[.int .i64 2, .int .i64 (-1), .int .i64 0, .int .u64 0, .int .u64 0, .slice none 0 0, .int .i64 11, .int .i64 0, .int .i64 0, .int .u64 0, .int .u64 0, .slice none 0 0, .int .i64 11, .int .i64 0, .int .i64 0, .int .u64 0, .int .u64 0, .slice none 0 0] 38)) (v := .slice (some ⟨wx.heap.size, 0, none⟩) 3 3) (P := [(⟨2, -1, 0, 0, 0, []⟩, .slice none 0 0), (⟨11, 0, 0, 0, 0, []⟩, .slice none 0 0), (⟨11, 0, 0, 0, 0, []⟩, .slice none 0 0)]) (Ins.mx_gr hx ((Gr.refl wx).alloc _ _))
  ⟨⟨some ⟨wx.heap.size, 0, none⟩, 3, rfl, fun j u hu => ⟨_, 0, rfl, by rw [Nat.zero_add, cell_of_row _ _ j _ _ _ (heap_alloc_new wx _)]; exact (Array.getElem?_toList ..).symm.trans hu⟩⟩, fun p hp => by simp at hp; rcases hp with rfl | rfl <;> exact lsR_nil _⟩
  (fun p hp => by simp at hp; rcases hp with rfl | rfl <;> exact ⟨by decide, by decide, by decide, by decide, by decide⟩) (by decide) (by simp))
 have HA3 := Lib.hid (fun wx (hx : Ins.Mx wx) => read_any (w := wx.alloc (.cells #[.int .u8 67, .int .u8 0, .int .u8 0, .int .u8 0, .int .u8 0, .int .u8 11] 5)) (len := 6) 0 (lst_by [67, 0, 0, 0, 0, 11] (by decide)) (Ins.mx_gr hx ((Gr.refl wx).alloc _ _)) (u8s_lit wx [67, 0, 0, 0, 0, 11] 5 (by decide) 6) (fun k hk => by simp [Value.ownBlock] at hk; subst hk; simp) (by decide) (by simp))
 clear hm
 go_enter Try.func9, Try.ntmps9
 go_wp2_with fail
 refine HA1.out.mono ?_
 rintro e w1 (⟨h, _⟩ | ⟨_, cv, P, rfl, hg1, hP, hcd⟩)
 ·exact absurd rfl h
 obtain ⟨q, c, L1, L2, rfl, hq, h0, h3, rfl⟩ := cd_head hcd hP
 have HG1 := Lib.hid (gr_trans ((Gr.refl w).alloc _ _) hg1)
 have HC := Lib.hid (And.intro h0 h3)
 clear hg1 hP hcd h0 h3 hq
 go_wp2_with fail
 refine (HA2.out w1 (HM.out w1 HG1.out)).mono ?_
 intro e w2 h2
 have h2' : ∃ sv, e = .returned (.tuple #[sv, .int .i64 0]) ∧ Gr (w1.alloc (.cells #[.int .i64 2, .int .i64 (-1), .int .i64 0, .int .u64 0, .int .u64 0, .slice none 0 0, .int .i64 11, .int .i64 0, .int .i64 0, .int .u64 0, .int .u64 0, .slice none 0 0, .int .i64 11, .int .i64 0, .int .i64 0, .int .u64 0, .int .u64 0, .slice none 0 0] 38)) w2 ∧ w2.ownsRow (w1.alloc (.cells #[.int .i64 2, .int .i64 (-1), .int .i64 0, .int .u64 0, .int .u64 0, .slice none 0 0, .int .i64 11, .int .i64 0, .int .i64 0, .int .u64 0, .int .u64 0, .slice none 0 0, .int .i64 11, .int .i64 0, .int .i64 0, .int .u64 0, .int .u64 0, .slice none 0 0] 38)).heap.size 5 1 sv 4 (u8s [2, 127, 11, 11]) := by
  have := h2
  unfold WRX at this
  rw [show wrS (List.map (·.1) [((⟨2, -1, 0, 0, 0, []⟩ : In), Value.slice none 0 0), (⟨11, 0, 0, 0, 0, []⟩, .slice none 0 0), (⟨11, 0, 0, 0, 0, []⟩, .slice none 0 0)]) [] false [] = some [2, 127, 11, 11] from aw2] at this
  exact this
 obtain ⟨sv, rfl, hg2, ho2⟩ := h2'
 obtain ⟨xs, cs, rfl⟩ := own_slice ho2
 have HG12 := Lib.hid (gr_trans ((Gr.refl w1).alloc _ _) hg2)
 have HO2 := Lib.hid ho2
 clear h2 hg2 ho2
 go_wp2_with fail
 refine (HA3.out w2 (HM.out w2 (gr_trans HG1.out HG12.out))).mono ?_
 intro e w3 h3
 have h3' : e = .returned (.tuple #[.slice none 0 0, .int .i64 0, .int .i64 11]) ∧ Gr (w2.alloc (.cells #[.int .u8 67, .int .u8 0, .int .u8 0, .int .u8 0, .int .u8 0, .int .u8 11] 5)) w3 := by
  have := h3
  rw [show readS (lst [67, 0, 0, 0, 0, 11]) 6 0 = ([], 0, 11) from aw3] at this
  rcases this with ⟨_, _, _, h4, h5⟩ | ⟨h, _⟩
  ·exact ⟨h4, h5⟩
  ·exact absurd h (by decide)
 obtain ⟨rfl, hg3⟩ := h3'
 have HG23 := Lib.hid (gr_trans ((Gr.refl w2).alloc _ _) hg3)
 have b0 := gr_cell (gr_trans HG12.out HG23.out) HC.out.1
 have b3 := gr_cell (gr_trans HG12.out HG23.out) HC.out.2
 have hstr := str_of_owns (l := [2, 127, 11, 11]) (own_gr HO2.out HG23.out)
 unfold Str at hstr
 have hs := aws
 clear h3 hg3
 go_wp2
 go_ret
 exact ⟨rfl, gr_trans HG1.out (gr_trans HG12.out HG23.out)⟩
end Ex
end
section
open Go.RowKit VecM LebM
namespace Ex
def At (g : Nat → Int) (len p : Nat) (L : List Int) : Prop := (∀ j, j < L.length → g (p + j) = L.getD j 0) ∧ p + L.length ≤ len
theorem At.left {g : Nat → Int} {len p : Nat} {A B : List Int} (h : At g len p (A ++ B)) : At g len p A := by
 refine ⟨fun j hj => ?_, by have := h.2; simp only [List.length_append] at this; omega⟩
 rw [h.1 j (by simp only [List.length_append]; omega), List.getD_eq_getElem?_getD, List.getElem?_append_left hj, ← List.getD_eq_getElem?_getD]
theorem At.right {g : Nat → Int} {len p : Nat} {A B : List Int} (h : At g len p (A ++ B)) : At g len (p + A.length) B := by
 refine ⟨fun j hj => ?_, by have := h.2; simp only [List.length_append] at this; omega⟩
 rw [Nat.add_assoc, h.1 (A.length + j) (by simp only [List.length_append]; omega), List.getD_eq_getElem?_getD, List.getElem?_append_right (by omega), Nat.add_sub_cancel_left, ← List.getD_eq_getElem?_getD]
theorem num_at {g : Nat → Int} {len p : Nat} {n : Int} (h : At g len p (formU n)) (hn : 0 ≤ n ∧ n < 4294967296) : numS g len ⟨p, 0⟩ = (n, ⟨((p + (formU n).length : Nat) : Int), 0⟩) := by
 have h1 := read_form (f := g) (len := len) (a := p) (B := 32) (by decide) (by decide) (n := n) ⟨hn.1, by omega⟩ h.1 h.2
 rw [if_pos (show n < 2 ^ 32 from hn.2)] at h1
 have h2 : LebM.read false g len (p : Int) 32 = _ := h1
 unfold numS
 dsimp only
 rw [h2]
 rfl
theorem sgn_at {g : Nat → Int} {len p : Nat} {n : Int} (B : Nat) (hB1 : 1 ≤ B) (hB : B ≤ 64) (h : At g len p (formS n)) (hn : -9223372036854775808 ≤ n ∧ n ≤ 9223372036854775807) (hr : -(2 ^ (B - 1)) ≤ n ∧ n < 2 ^ (B - 1)) : sgnS g len B ⟨p, 0⟩ = (n, ⟨((p + (formS n).length : Nat) : Int), 0⟩) := by
 have h1 : SRes B n 0 0 (p + (formS n).length) (LebM.read true g len (p : Int) B) := by
  unfold LebM.read
  rw [if_neg (by have := h.2; omega), Int.toNat_natCast]
  have h := rds_form g len p B hB 9 10 0 0 n (by have : (64 : Int) * 128 ^ 9 = 590295810358705651712 := rfl; omega) (by have : (64 : Int) * 128 ^ 9 = 590295810358705651712 := rfl; omega) (by rw [Int.pow_zero]; omega) (by rw [Int.pow_zero]; omega) (by decide) (by decide) (by decide) (by omega) (fun j hj => by rw [Nat.zero_add]; exact h.1 j hj) (by rw [Nat.zero_add]; exact h.2)
  simp only [Nat.zero_add] at h
  exact h
 rcases h1 with ⟨_, _, g3, g4, g5⟩ | ⟨g1, _⟩
 ·rw [Int.pow_zero, Int.mul_one, Int.zero_add] at g3
  unfold sgnS
  dsimp only
  rw [g5, g4, g3]
  rfl
 ·simp only [Nat.mul_zero, Nat.sub_zero] at g1
  exact absurd hr g1
theorem oct_at {g : Nat → Int} {len p : Nat} {n : Int} (h : At g len p [n]) : octS g len ⟨p, 0⟩ = (n, ⟨((p + 1 : Nat) : Int), 0⟩) := by
 have h1 := h.1 0 (by simp)
 have h2 := h.2
 simp only [List.length_singleton] at h2
 unfold octS
 dsimp only
 rw [if_neg (by omega), Int.toNat_natCast]
 have h3 : g p = n := by simpa using h1
 rw [h3]
 rfl
theorem octs_at {g : Nat → Int} {len p : Nat} : ∀ (k : Nat) (L : List Int), L.length = k → At g len p L → octsS g len k ⟨p, 0⟩ = (L, ⟨((p + k : Nat) : Int), 0⟩)
 | 0, L, hk, _ => by
  obtain rfl : L = [] := List.eq_nil_of_length_eq_zero hk
  rfl
 | k + 1, L, hk, h => by
  have hne : L ≠ [] := fun e => by subst e; simp at hk
  have e := List.dropLast_concat_getLast hne
  have hd : L.dropLast.length = k := by simp [hk]
  rw [← e] at h
  have h1 := octs_at k L.dropLast hd h.left
  have h2 := oct_at h.right
  unfold octsS
  rw [h1]
  dsimp only
  rw [hd] at h2
  rw [h2]
  dsimp only
  rw [e]
  rfl
theorem tab_at {g : Nat → Int} {len : Nat} : ∀ (l A : List Int) (p : Nat), (∀ z ∈ l, 0 ≤ z ∧ z < 4294967296) → At g len p (tabF l) → tabS g len l.length A ⟨p, 0⟩ = (A ++ l, ⟨((p + (tabF l).length : Nat) : Int), 0⟩)
 | [], A, p, _, _ => by simp [tabS, tabF]
 | z :: r, A, p, hz, h => by
  have e : tabF (z :: r) = formU z ++ tabF r := by unfold tabF; rw [List.flatMap_cons]
  rw [e] at h ⊢
  have h1 := num_at h.left (hz z (by simp))
  have h2 := tab_at r (A ++ [z]) (p + (formU z).length) (fun y hy => hz y (by simp [hy])) h.right
  rw [List.length_cons, tabS]
  dsimp only
  rw [if_pos rfl, h1]
  dsimp only
  rw [h2, List.append_assoc, List.length_append, Nat.add_assoc]
  rfl
end Ex
end
section
open Go.RowKit VecM LebM
namespace Ex
theorem rows_rng : (Ins.rowT.all fun r => (decide (0 ≤ r.lo) && decide (r.hi ≤ 251)) || (decide (64768 ≤ r.lo) && decide (r.hi ≤ 65023))) = true := by kernel_rfl
theorem fm_rng {op : Int} (h : fm op ≠ 0) : (0 ≤ op ∧ op ≤ 251) ∨ (64768 ≤ op ∧ op ≤ 65023) := by
 unfold fm at h
 cases hf : Ins.rowT.find? (fun r => decide (r.lo ≤ op) && decide (op ≤ r.hi)) with
 | none => rw [hf] at h; exact absurd rfl h
 | some r =>
  have h1 := List.find?_some hf
  have h2 := List.mem_of_find?_eq_some hf
  have h3 := List.all_eq_true.1 rows_rng r h2
  simp only [Bool.and_eq_true, Bool.or_eq_true, decide_eq_true_eq] at h1 h3
  omega
theorem opc_at {g : Nat → Int} {len p : Nat} {op : Int} (h : At g len p (opcL op)) (hf : fm op ≠ 0) : opcS g len ⟨p, 0⟩ = (op, ⟨((p + (opcL op).length : Nat) : Int), 0⟩) := by
 unfold opcL at h ⊢
 rcases fm_rng hf with h1 | h1
 ·have e : op % 256 = op := by omega
  rw [if_pos (by omega), e] at h ⊢
  have h2 := oct_at h
  unfold opcS
  rw [h2]
  dsimp only
  rw [if_neg (by omega), if_neg (by omega)]
  rfl
 ·rw [if_neg (by omega)] at h ⊢
  have h2 := oct_at h.left
  have h3 := num_at h.right (by omega)
  unfold opcS
  rw [h2]
  dsimp only
  rw [if_pos rfl]
  have h3' : numS g len ⟨((p + 1 : Nat) : Int), 0⟩ = _ := h3
  rw [h3']
  dsimp only
  rw [show 64768 + (op - 64768) = op by omega, List.length_append, List.length_singleton, Nat.add_assoc]
theorem formS_first (n : Int) : (formS n).getD 0 0 = if -64 ≤ n ∧ n < 64 then n % 128 else n % 128 + 128 := by
 unfold formS
 by_cases h : -64 ≤ n ∧ n < 64
 ·rw [lebS_end h, if_pos h]; rfl
 ·rw [lebS_go h, if_neg h]; rfl
theorem blk_at {g : Nat → Int} {len p : Nat} {a : Int} (h : At g len p (formS a)) (ha : (0 ≤ a ∧ a ≤ 4294967295) ∨ a = -64 ∨ a = -1 ∨ a = -2 ∨ a = -5) : blkS g len ⟨p, 0⟩ = (a, ⟨((p + (formS a).length : Nat) : Int), 0⟩) := by
 have hp := lebS_pos 9 a
 have h0 := h.1 0 hp
 have h9 := h.2
 have hp' : 0 < (formS a).length := hp
 rw [formS_first, Nat.add_zero] at h0
 unfold blkS
 dsimp only
 rw [if_pos ⟨rfl, by omega⟩, Int.toNat_natCast, h0]
 by_cases hn : a < 0
 ·rw [if_pos (by rcases ha with h | rfl | rfl | rfl | rfl <;> first | omega | decide)]
  exact sgn_at 7 (by decide) (by decide) h (by omega) ⟨by have : (2 : Int) ^ (7 - 1) = 64 := rfl; omega, by have : (2 : Int) ^ (7 - 1) = 64 := rfl; omega⟩
 ·have h1 := sgn_at 33 (by decide) (by decide) h (by omega) ⟨by have : (2 : Int) ^ (33 - 1) = 4294967296 := rfl; omega, by have : (2 : Int) ^ (33 - 1) = 4294967296 := rfl; omega⟩
  have h1' : sgnS g len 33 ⟨p, 0⟩ = _ := h1
  rw [if_neg (by split <;> omega), if_neg (by split <;> omega)]
  unfold typS
  rw [h1']
  dsimp only
  rw [if_neg hn]
theorem hal_get (lo hi : Int) (hlo : 0 ≤ lo ∧ lo < 18446744073709551616) (hhi : 0 ≤ hi ∧ hi < 18446744073709551616) : getI (hvB (vecL lo hi)) 64 0 = lo ∧ getI (hvB (vecL lo hi)) 64 1 = hi := by
 have e : ∀ m, m < 16 → hvB (vecL lo hi) m = vecB lo hi m := fun m hm => by
  unfold hvB vecL
  rw [List.getD_eq_getElem?_getD, List.getElem?_map, List.getElem?_range hm]
  rfl
 have g0 := get_ofK (fun _ => 0) 64 (fun j => if j = 0 then lo else hi) 0 (by decide) 2
 have g1 := get_ofK (fun _ => 0) 64 (fun j => if j = 0 then lo else hi) 1 (by decide) 2
 rw [if_pos (by decide)] at g0 g1
 have w64 : (256 : Int) ^ wid 64 = 18446744073709551616 := rfl
 rw [w64] at g0 g1
 have c : ∀ i : Nat, i < 2 → getI (hvB (vecL lo hi)) 64 i = getI (vecB lo hi) 64 i := fun i hi' => by
  unfold getI
  rw [if_pos (by unfold thereB; (have : i = 0 ∨ i = 1 := by omega); rcases this with rfl | rfl <;> rfl), if_pos (by unfold thereB; (have : i = 0 ∨ i = 1 := by omega); rcases this with rfl | rfl <;> rfl)]
  exact sum_congr fun m h1 h2 => e m (by rw [wid64, Int.toNat_natCast] at h2; omega)
 refine ⟨?_, ?_⟩
 ·have := c 0 (by decide)
  rw [show ((0 : Nat) : Int) = 0 from rfl] at this
  rw [this]
  unfold vecB
  rw [show ((0 : Nat) : Int) = 0 from rfl] at g0
  rw [g0, if_pos rfl]
  omega
 ·have := c 1 (by decide)
  rw [show ((1 : Nat) : Int) = 1 from rfl] at this
  rw [this]
  unfold vecB
  rw [show ((1 : Nat) : Int) = 1 from rfl] at g1
  rw [g1, if_neg (by decide)]
  omega
theorem sg32_bd (x : Int) : -2147483648 ≤ sg32 x ∧ sg32 x < 2147483648 ∧ sg32 x % 4294967296 = x % 4294967296 := by
 unfold sg32; split <;> omega
theorem sg64_bd {x : Int} (h : 0 ≤ x ∧ x < 18446744073709551616) : -9223372036854775808 ≤ sg64 x ∧ sg64 x ≤ 9223372036854775807 ∧ sg64 x % 18446744073709551616 = x := by
 unfold sg64; split <;> omega
theorem idx_iff {n : Int} : idxB n = true ↔ 0 ≤ n ∧ n ≤ 4294967295 := by unfold idxB; simp
theorem len0 {l : List Int} (h : l.length = 0) : l = [] := List.eq_nil_of_length_eq_zero h
set_option maxHeartbeats 1000000 in
theorem fld_at {g : Nat → Int} {len p : Nat} {d : In} {form : Int} (_hf : 1 ≤ form ∧ form ≤ 14) (hfit : fitB d form = true) (hok : InOk d) (hll : d.l.length < 4294967296) (h : At g len p (fldL d form)) :
  fldS g len form d.op ⟨p, 0⟩ = (d, ⟨((p + (fldL d form).length : Nat) : Int), 0⟩) := by
 obtain ⟨op, a, b, lo, hi, l⟩ := d
 obtain ⟨-, -, hlo, hhi, hl⟩ := hok
 dsimp only at hlo hhi hl ⊢
 unfold fldL at h ⊢
 unfold fldS
 unfold fitB at hfit
 dsimp only at h hfit ⊢
 by_cases c2 : form = 2
 ·simp only [if_pos c2, Bool.and_eq_true, Bool.or_eq_true, beq_iff_eq, idx_iff] at h hfit ⊢
  obtain ⟨⟨⟨⟨ha, rfl⟩, rfl⟩, rfl⟩, hl0⟩ := hfit
  obtain rfl := len0 hl0
  rw [blk_at h (by omega)]
 by_cases c3 : form = 3 ∨ form = 5
 ·simp only [if_neg c2, if_pos c3, Bool.and_eq_true, beq_iff_eq, idx_iff] at h hfit ⊢
  obtain ⟨⟨⟨⟨ha, rfl⟩, rfl⟩, rfl⟩, hl0⟩ := hfit
  obtain rfl := len0 hl0
  rw [num_at h (by omega)]
 by_cases c4 : form = 4
 ·simp only [if_neg c2, if_neg c3, if_pos c4, Bool.and_eq_true, beq_iff_eq, idx_iff, List.all_eq_true] at h hfit ⊢
  obtain ⟨⟨⟨⟨ha, hz⟩, rfl⟩, rfl⟩, rfl⟩ := hfit
  have h1 := num_at h.left.left (by dsimp only at hll; omega)
  have h2 := tab_at l [] _ (fun z hz' => by have := hz z hz'; omega) h.left.right
  have h3 := num_at h.right (by omega)
  rw [h1]
  dsimp only
  rw [Int.toNat_natCast, h2]
  dsimp only
  rw [List.nil_append]
  rw [List.length_append, ← Nat.add_assoc] at h3
  rw [h3]
  simp only [List.length_append, Nat.add_assoc]
 by_cases c6 : form = 6 ∨ form = 7
 ·simp only [if_neg c2, if_neg c3, if_neg c4, if_pos c6, Bool.and_eq_true, beq_iff_eq, idx_iff] at h hfit ⊢
  obtain ⟨⟨⟨⟨ha, hb⟩, rfl⟩, rfl⟩, hl0⟩ := hfit
  obtain rfl := len0 hl0
  rw [num_at h.left (by omega)]
  dsimp only
  rw [num_at h.right (by omega), List.length_append, Nat.add_assoc]
 by_cases c8 : form = 8
 ·simp only [if_neg c2, if_neg c3, if_neg c4, if_neg c6, if_pos c8, Bool.and_eq_true, beq_iff_eq, idx_iff, decide_eq_true_eq] at h hfit ⊢
  obtain ⟨⟨⟨⟨ha, hb⟩, hlo2⟩, rfl⟩, hl0⟩ := hfit
  obtain rfl := len0 hl0
  have e : lo % 256 = lo := by omega
  rw [e] at h ⊢
  have h3 := oct_at h.right
  rw [num_at h.left.left (by omega)]
  dsimp only
  rw [num_at h.left.right (by omega)]
  dsimp only
  rw [List.length_append, ← Nat.add_assoc] at h3
  rw [h3]
  simp only [List.length_append, List.length_singleton, Nat.add_assoc]
 by_cases c9 : form = 9
 ·simp only [if_neg c2, if_neg c3, if_neg c4, if_neg c6, if_neg c8, if_pos c9, Bool.and_eq_true, beq_iff_eq, decide_eq_true_eq] at h hfit ⊢
  obtain ⟨⟨⟨⟨hlo2, rfl⟩, rfl⟩, rfl⟩, hl0⟩ := hfit
  obtain rfl := len0 hl0
  have hs := sg32_bd lo
  have h1 : sgnS g len 32 ⟨p, 0⟩ = _ := sgn_at 32 (by decide) (by decide) h (by omega) ⟨by have : (2 : Int) ^ (32 - 1) = 2147483648 := rfl; omega, by have : (2 : Int) ^ (32 - 1) = 2147483648 := rfl; omega⟩
  rw [h1]
  dsimp only
  rw [hs.2.2, show lo % 4294967296 = lo by omega]
 by_cases c10 : form = 10
 ·simp only [if_neg c2, if_neg c3, if_neg c4, if_neg c6, if_neg c8, if_neg c9, if_pos c10, Bool.and_eq_true, beq_iff_eq] at h hfit ⊢
  obtain ⟨⟨⟨rfl, rfl⟩, rfl⟩, hl0⟩ := hfit
  obtain rfl := len0 hl0
  have hs := sg64_bd hlo
  have h1 : sgnS g len 64 ⟨p, 0⟩ = _ := sgn_at 64 (by decide) (by decide) h (by omega) ⟨by have : (2 : Int) ^ (64 - 1) = 9223372036854775808 := rfl; omega, by have : (2 : Int) ^ (64 - 1) = 9223372036854775808 := rfl; omega⟩
  rw [h1]
  dsimp only
  rw [hs.2.2]
 by_cases c11 : form = 11 ∨ form = 12
 ·simp only [if_neg c2, if_neg c3, if_neg c4, if_neg c6, if_neg c8, if_neg c9, if_neg c10, if_pos c11, Bool.and_eq_true, beq_iff_eq] at h hfit ⊢
  obtain ⟨⟨rfl, rfl⟩, hl0⟩ := hfit
  obtain rfl := len0 hl0
  have hv : (vecL lo hi).length = 16 := by unfold vecL; simp
  have h1 := octs_at 16 (vecL lo hi) hv h
  unfold halS
  rw [h1]
  dsimp only
  rw [(hal_get lo hi hlo hhi).1, (hal_get lo hi hlo hhi).2, hv]
 by_cases c13 : form = 13
 ·simp only [if_neg c2, if_neg c3, if_neg c4, if_neg c6, if_neg c8, if_neg c9, if_neg c10, if_neg c11, if_pos c13, Bool.and_eq_true, beq_iff_eq, decide_eq_true_eq] at h hfit ⊢
  obtain ⟨⟨⟨⟨⟨ha0, ha⟩, rfl⟩, rfl⟩, rfl⟩, hl0⟩ := hfit
  obtain rfl := len0 hl0
  have e : a % 256 = a := by omega
  rw [e] at h ⊢
  rw [oct_at h]
  rfl
 by_cases c14 : form = 14
 ·simp only [if_neg c2, if_neg c3, if_neg c4, if_neg c6, if_neg c8, if_neg c9, if_neg c10, if_neg c11, if_neg c13, if_pos c14, Bool.and_eq_true, beq_iff_eq] at h hfit ⊢
  obtain ⟨⟨⟨⟨rfl, rfl⟩, rfl⟩, rfl⟩, hl0⟩ := hfit
  obtain rfl := len0 hl0
  rw [oct_at h]
  rfl
 ·simp only [if_neg c2, if_neg c3, if_neg c4, if_neg c6, if_neg c8, if_neg c9, if_neg c10, if_neg c11, if_neg c13, if_neg c14, Bool.and_eq_true, beq_iff_eq] at h hfit ⊢
  obtain ⟨⟨⟨⟨rfl, rfl⟩, rfl⟩, rfl⟩, hl0⟩ := hfit
  obtain rfl := len0 hl0
  rfl
end Ex
end
section
open Go.RowKit VecM LebM
namespace Ex
theorem failS_ne (s : St) {x : Int} (hx : x ≠ 0) : (failS s x).e ≠ 0 := by
 unfold failS; split
 ·exact hx
 ·assumption
theorem lebU_short : ∀ (m j : Nat) (n : Int), 0 ≤ n → n < 128 ^ (j + 1) → (lebU m n).length ≤ j + 1
 | 0, j, n, _, _ => by simp [lebU]
 | m + 1, j, n, h0, h1 => by
  by_cases h : n ≤ 127
  ·rw [lebU_end ⟨h0, h⟩]; simp
  ·rw [lebU_go (by omega), List.length_cons]
   match j with
   | 0 => have e : (128 : Int) ^ (0 + 1) = 128 := rfl
          omega
   | j + 1 =>
    rw [Int.pow_succ] at h1
    have := lebU_short m j (n / 128) (by omega) (by omega)
    omega
theorem lebS_short : ∀ (m j : Nat) (n : Int), -(64 * 128 ^ j) ≤ n → n < 64 * 128 ^ j → (lebS m n).length ≤ j + 1
 | 0, j, n, _, _ => by simp [lebS]
 | m + 1, j, n, h0, h1 => by
  by_cases h : -64 ≤ n ∧ n < 64
  ·rw [lebS_end h]; simp
  ·rw [lebS_go h, List.length_cons]
   match j with
   | 0 => have e : (128 : Int) ^ 0 = 1 := rfl
          omega
   | j + 1 =>
    rw [Int.pow_succ] at h0 h1
    have := lebS_short m j (n / 128) (by omega) (by omega)
    omega
theorem rd_wd {sg : Bool} {f : Nat → Int} {len : Nat} {bits : Int} {a : Nat} : ∀ (m k : Nat) (x : Int), (rd sg f len bits a m k x).2.2.2 = 0 → (rd sg f len bits a m k x).2.1 = 7 * ((rd sg f len bits a m k x).2.2.1 - a)
 | 0, k, x, h => by simp [rd] at h
 | m + 1, k, x, h => by
  by_cases h1 : a + k = len
  ·rw [rd_short h1] at h; simp at h
  ·unfold rd at h ⊢
   rw [if_neg h1] at h ⊢
   dsimp only at h ⊢
   split at h
   ·simp at h
   ·rename_i h2
    rw [if_neg h2]
    split at h
    ·rename_i h3
     rw [if_pos h3]
     dsimp only
     omega
    ·rename_i h3
     rw [if_neg h3]
     exact rd_wd m (k + 1) _ h
theorem read_j {sg : Bool} {f : Nat → Int} (hf : By f) {len : Nat} {a bits : Int} (h : (LebM.read sg f len a bits).2.2.2 = 0) : ∃ j : Nat, j ≤ 9 ∧ (LebM.read sg f len a bits).2.1 = 7 * j + 7 ∧ (LebM.read sg f len a bits).2.2.1 = a + j + 1 ∧ 0 ≤ (LebM.read sg f len a bits).1 ∧ (LebM.read sg f len a bits).1 < 2 ^ (7 * j + 7) ∧ (LebM.read sg f len a bits).1 < 18446744073709551616 := by
 have h1 := read_to h
 have h2 := read_fine sg hf len a bits
 have h3 : (LebM.read sg f len a bits).2.1 = 7 * ((LebM.read sg f len a bits).2.2.1 - a) := by
  unfold LebM.read at h ⊢
  split at h
  ·simp at h
  ·rename_i h4
   rw [if_neg h4]
   have := rd_wd 10 0 0 h
   rw [this, Int.toNat_of_nonneg h1.1]
 rcases h2 with ⟨_, h5⟩ | ⟨j, hj, h6, h7, h8, h9⟩
 ·omega
 ·exact ⟨j, hj, h6, by omega, h7, h8, h9⟩
theorem num_e {f : Nat → Int} {len : Nat} {s : St} (h : (numS f len s).2.e = 0) : s.e = 0 := by
 unfold numS at h
 split at h
 ·exact absurd h (failS_ne s (by decide))
 ·rename_i h1; simp only [not_or, Decidable.not_not] at h1; exact h1.1
theorem num_ok {f : Nat → Int} (hf : By f) {len : Nat} {s : St} (h : (numS f len s).2.e = 0) : 0 ≤ (numS f len s).1 ∧ (numS f len s).1 < 4294967296 ∧ s.a + (formU (numS f len s).1).length ≤ (numS f len s).2.a ∧ s.a + 1 ≤ (numS f len s).2.a := by
 refine ⟨(numS_bd hf s).1, (numS_bd hf s).2, ?_⟩
 unfold numS at h ⊢
 split at h
 ·exact absurd h (failS_ne s (by decide))
 ·rename_i h1
  rw [if_neg h1]
  simp only [not_or, Decidable.not_not] at h1
  obtain ⟨j, hj, h2, h3, h4, h5, _⟩ := read_j hf h1.2
  dsimp only
  rw [h3]
  have := lebU_short 9 j _ h4 (by rw [p7, Int.mul_comm, ← Int.pow_succ] at h5; exact h5)
  unfold formU
  omega
theorem oct_ok {f : Nat → Int} {len : Nat} {s : St} (h : (octS f len s).2.e = 0) : s.e = 0 ∧ s.a < len ∧ octS f len s = (f s.a.toNat, ⟨s.a + 1, 0⟩) := by
 unfold octS at h ⊢
 split at h
 ·exact absurd h (failS_ne s (by decide))
 ·rename_i h1
  rw [if_neg h1]
  simp only [not_or, Decidable.not_not] at h1
  rw [h1.1]
  exact ⟨rfl, by omega, rfl⟩
theorem octs_ok {f : Nat → Int} {len : Nat} : ∀ (k : Nat) {s : St}, (octsS f len k s).2.e = 0 → s.e = 0 ∧ (octsS f len k s).2.a = s.a + k
 | 0, s, h => ⟨h, by simp [octsS]⟩
 | k + 1, s, h => by
  unfold octsS at h ⊢
  obtain ⟨h1, _, h2⟩ := oct_ok h
  have h3 := octs_ok k h1
  dsimp only
  rw [h2]
  exact ⟨h3.1, by dsimp only; rw [h3.2]; omega⟩
theorem opc_ok {f : Nat → Int} (hf : By f) {len : Nat} {s : St} (h : (opcS f len s).2.e = 0) : s.e = 0 ∧ s.a + (opcL (opcS f len s).1).length ≤ (opcS f len s).2.a ∧ s.a + 1 ≤ (opcS f len s).2.a := by
 unfold opcS at h ⊢
 split at h
 ·rename_i h1
  rw [if_pos h1]
  have h2 := num_e h
  obtain ⟨h3, _, h4⟩ := oct_ok h2
  have h5 := num_ok hf h
  rw [h4] at h5 ⊢
  dsimp only at h5 ⊢
  refine ⟨h3, ?_, by omega⟩
  unfold opcL
  rw [if_neg (by omega), List.length_append, List.length_singleton]
  rw [show 64768 + (numS f len ⟨s.a + 1, 0⟩).1 - 64768 = (numS f len ⟨s.a + 1, 0⟩).1 by omega]
  push_cast
  omega
 ·rename_i h1
  split at h
  ·exact absurd h (failS_ne _ (by decide))
  ·rename_i h2
   rw [if_neg h1, if_neg h2]
   obtain ⟨h3, _, h4⟩ := oct_ok h
   have h5 := octS_bd hf (len := len) s
   rw [h4] at h5 ⊢
   dsimp only at h5 ⊢
   refine ⟨h3, ?_, by omega⟩
   unfold opcL
   rw [if_pos (by omega), List.length_singleton]
   omega
theorem tab_ok {f : Nat → Int} (hf : By f) {len : Nat} : ∀ (k : Nat) (l : List Int) {s : St}, (tabS f len k l s).2.e = 0 → s.e = 0 ∧ ∃ zs, (tabS f len k l s).1 = l ++ zs ∧ zs.length = k ∧ (∀ z ∈ zs, 0 ≤ z ∧ z < 4294967296) ∧ s.a + (tabF zs).length ≤ (tabS f len k l s).2.a ∧ s.a + k ≤ (tabS f len k l s).2.a
 | 0, l, s, h => ⟨h, [], by simp [tabS], rfl, (fun z hz => by cases hz), by simp [tabS, tabF], by simp [tabS]⟩
 | k + 1, l, s, h => by
  unfold tabS at h ⊢
  split at h
  ·rename_i h1
   rw [if_pos h1]
   obtain ⟨h2, zs, e, hz, hb, h3, h4⟩ := tab_ok hf k _ h
   have h5 := num_ok hf h2
   refine ⟨h1, (numS f len s).1 :: zs, by rw [e, List.append_assoc]; rfl, by rw [List.length_cons, hz], ?_, ?_, by push_cast; omega⟩
   ·intro z hm
    rcases List.mem_cons.1 hm with rfl | hm
    ·exact ⟨h5.1, h5.2.1⟩
    ·exact hb z hm
   ·have e2 : tabF ((numS f len s).1 :: zs) = formU (numS f len s).1 ++ tabF zs := by unfold tabF; rw [List.flatMap_cons]
    rw [e2, List.length_append]
    push_cast
    omega
  ·rename_i h1
   exact absurd h h1
theorem sgn_e {f : Nat → Int} {len : Nat} {bits : Int} {s : St} (h : (sgnS f len bits s).2.e = 0) : s.e = 0 := by
 unfold sgnS at h
 split at h
 ·exact absurd h (failS_ne s (by decide))
 ·rename_i h1; simp only [not_or, Decidable.not_not] at h1; exact h1.1
theorem sval_j {x : Int} {j : Nat} (h0 : 0 ≤ x) (h1 : x < 2 ^ (7 * j + 7)) (h2 : x < 18446744073709551616) (hj : j ≤ 9) : (formS (sval x (7 * j + 7))).length ≤ j + 1 ∧ -9223372036854775808 ≤ sval x (7 * j + 7) ∧ sval x (7 * j + 7) ≤ 9223372036854775807 ∧ (j ≤ 8 → sval x (7 * j + 7) = if 64 * 128 ^ j ≤ x then x - 128 * 128 ^ j else x) := by
 by_cases h9 : j = 9
 ·subst h9
  refine ⟨formS_len _, ?_, ?_, fun h => by omega⟩
  all_goals
   unfold sval
   rw [if_neg (by omega)]
   split <;> omega
 ·have e : sval x (7 * j + 7) = if 64 * 128 ^ j ≤ x then x - 128 * 128 ^ j else x := by
   unfold sval
   rw [show (7 * (j : Int) + 7 - 1).toNat = 7 * j + 6 by omega, show (7 * (j : Int) + 7).toNat = 7 * j + 7 by omega, p6, p7]
   have hp8 : (128 : Int) ^ j ≤ 72057594037927936 := by
    have := p2le (show 7 * j ≤ 56 by omega)
    rw [pow7] at this
    exact this
   by_cases hc : 64 * 128 ^ j ≤ x
   ·rw [if_pos ⟨by omega, by omega, hc⟩, if_pos hc]
   ·rw [if_neg (fun h => hc h.2.2), if_neg hc, if_pos (by omega)]
  rw [p7] at h1
  have hp8 : (128 : Int) ^ j ≤ 72057594037927936 := by
   have := p2le (show 7 * j ≤ 56 by omega)
   rw [pow7] at this
   exact this
  have hb : -(64 * 128 ^ j) ≤ sval x (7 * j + 7) ∧ sval x (7 * j + 7) < 64 * 128 ^ j := by rw [e]; split <;> omega
  exact ⟨lebS_short 9 j _ hb.1 hb.2, by omega, by omega, fun _ => e⟩
theorem sgn_ok {f : Nat → Int} (hf : By f) {len : Nat} {bits : Int} {s : St} (h : (sgnS f len bits s).2.e = 0) : -9223372036854775808 ≤ (sgnS f len bits s).1 ∧ (sgnS f len bits s).1 ≤ 9223372036854775807 ∧ s.a + (formS (sgnS f len bits s).1).length ≤ (sgnS f len bits s).2.a ∧ s.a + 1 ≤ (sgnS f len bits s).2.a := by
 unfold sgnS at h ⊢
 split at h
 ·exact absurd h (failS_ne s (by decide))
 ·rename_i h1
  rw [if_neg h1]
  simp only [not_or, Decidable.not_not] at h1
  obtain ⟨j, hj, h2, h3, h4, h5, h6⟩ := read_j hf h1.2
  dsimp only
  rw [h2, h3]
  obtain ⟨k1, k2, k3, _⟩ := sval_j h4 h5 h6 hj
  exact ⟨k2, k3, by omega, by omega⟩
theorem rd_rng {f : Nat → Int} (hf : By f) {len : Nat} {a : Nat} {B : Nat} (hB : B = 32 ∨ B = 33) : ∀ (m k : Nat) (x : Int), 0 ≤ x → x < 128 ^ k → k ≤ 4 → (rd true f len B a m k x).2.2.2 = 0 → -(2 ^ (B - 1)) ≤ sval (rd true f len B a m k x).1 (rd true f len B a m k x).2.1 ∧ sval (rd true f len B a m k x).1 (rd true f len B a m k x).2.1 < 2 ^ (B - 1)
 | 0, k, x, _, _, _, h => by simp [rd] at h
 | m + 1, k, x, h0, hx, hk, h => by
  by_cases h1 : a + k = len
  ·rw [rd_short h1] at h; simp at h
  ·unfold rd at h ⊢
   rw [if_neg h1] at h ⊢
   dsimp only at h ⊢
   split at h
   ·simp at h
   rename_i h2
   rw [if_neg h2]
   have hc := hf (a + k)
   have hl : 0 ≤ lowI (f (a + k)) ∧ lowI (f (a + k)) < 128 := by unfold lowI; omega
   generalize lowI (f (a + k)) = c at *
   have h2' : fitS c ((B : Int) - 7 * (k : Int)) = true ∧ (7 < (B : Int) - 7 * (k : Int) ∨ f (a + k) < 128) := by
    refine ⟨?_, ?_⟩
    ·have : ¬ LebM.fitB true c ((B : Int) - 7 * (k : Int)) = false := fun e => h2 (.inl e)
     simpa [LebM.fitB] using this
    ·by_cases h7 : 7 < (B : Int) - 7 * (k : Int)
     ·exact .inl h7
     ·exact .inr (Int.not_le.1 fun e => h2 (.inr ⟨by omega, e⟩))
   obtain ⟨h3, h4⟩ := h2'
   have hcases : k = 0 ∨ k = 1 ∨ k = 2 ∨ k = 3 ∨ k = 4 := by omega
   have hy : 0 ≤ x + c * 128 ^ k % 18446744073709551616 ∧ x + c * 128 ^ k % 18446744073709551616 < 128 ^ (k + 1) := by
    rcases hcases with rfl | rfl | rfl | rfl | rfl
    ·simp only [Int.pow_zero] at *; omega
    ·simp only [show (128 : Int) ^ 1 = 128 from rfl, show (128 : Int) ^ (1 + 1) = 16384 from rfl] at *; omega
    ·simp only [show (128 : Int) ^ 2 = 16384 from rfl, show (128 : Int) ^ (2 + 1) = 2097152 from rfl] at *; omega
    ·simp only [show (128 : Int) ^ 3 = 2097152 from rfl, show (128 : Int) ^ (3 + 1) = 268435456 from rfl] at *; omega
    ·simp only [show (128 : Int) ^ 4 = 268435456 from rfl, show (128 : Int) ^ (4 + 1) = 34359738368 from rfl] at *; omega
   split at h
   ·rename_i h5
    rw [if_pos h5]
    dsimp only
    have hs := (sval_j (j := k) hy.1 (by rw [show (2 : Int) ^ (7 * k + 7) = 128 ^ (k + 1) by rw [p7, Int.pow_succ, Int.mul_comm]]; exact hy.2) (by
     rcases hcases with rfl | rfl | rfl | rfl | rfl
     ·have e : (128 : Int) ^ (0 + 1) = 128 := rfl
      omega
     ·have e : (128 : Int) ^ (1 + 1) = 16384 := rfl
      omega
     ·have e : (128 : Int) ^ (2 + 1) = 2097152 := rfl
      omega
     ·have e : (128 : Int) ^ (3 + 1) = 268435456 := rfl
      omega
     ·have e : (128 : Int) ^ (4 + 1) = 34359738368 := rfl
      omega) (by omega)).2.2.2 (by omega)
    rw [hs]
    have hpow : (2 : Int) ^ (32 - 1) = 2147483648 ∧ (2 : Int) ^ (33 - 1) = 4294967296 := ⟨rfl, rfl⟩
    rcases hcases with rfl | rfl | rfl | rfl | rfl
    ·have e : (128 : Int) ^ (0 + 1) = 128 := rfl
     have e0 : (128 : Int) ^ 0 = 1 := rfl
     rw [e] at hy; rw [e0] at *
     rcases hB with rfl | rfl <;> split <;> omega
    ·have e : (128 : Int) ^ (1 + 1) = 16384 := rfl
     have e0 : (128 : Int) ^ 1 = 128 := rfl
     rw [e] at hy; rw [e0] at *
     rcases hB with rfl | rfl <;> split <;> omega
    ·have e : (128 : Int) ^ (2 + 1) = 2097152 := rfl
     have e0 : (128 : Int) ^ 2 = 16384 := rfl
     rw [e] at hy; rw [e0] at *
     rcases hB with rfl | rfl <;> split <;> omega
    ·have e : (128 : Int) ^ (3 + 1) = 268435456 := rfl
     have e0 : (128 : Int) ^ 3 = 2097152 := rfl
     rw [e] at hy; rw [e0] at *
     rcases hB with rfl | rfl <;> split <;> omega
    ·have e0 : (128 : Int) ^ 4 = 268435456 := rfl
     rw [e0] at *
     simp only [fitS, Bool.or_eq_true, decide_eq_true_eq] at h3
     rcases hB with rfl | rfl
     ·rw [show (((32 : Nat) : Int) - 7 * ((4 : Nat) : Int) - 1).toNat = 3 by decide, show (2 : Int) ^ 3 = 8 from rfl] at h3
      have h3' : c < 8 ∨ 120 ≤ c := by omega
      rw [hpow.1]
      split <;> omega
     ·rw [show (((33 : Nat) : Int) - 7 * ((4 : Nat) : Int) - 1).toNat = 4 by decide, show (2 : Int) ^ 4 = 16 from rfl] at h3
      have h3' : c < 16 ∨ 112 ≤ c := by omega
      rw [hpow.2]
      split <;> omega
   ·rename_i h5
    rw [if_neg h5]
    exact rd_rng hf hB m (k + 1) _ hy.1 hy.2 (by omega) h
theorem sgn_rng {f : Nat → Int} (hf : By f) {len : Nat} {B : Nat} (hB : B = 32 ∨ B = 33) {s : St} (h : (sgnS f len B s).2.e = 0) : -(2 ^ (B - 1)) ≤ (sgnS f len B s).1 ∧ (sgnS f len B s).1 < 2 ^ (B - 1) := by
 unfold sgnS at h ⊢
 split at h
 ·exact absurd h (failS_ne s (by decide))
 ·rename_i h1
  rw [if_neg h1]
  simp only [not_or, Decidable.not_not] at h1
  dsimp only
  have h2 := h1.2
  unfold LebM.read at h2 ⊢
  split at h2
  ·simp at h2
  ·rename_i h3
   rw [if_neg h3]
   exact rd_rng hf hB 10 0 0 (by decide) (by decide) (by decide) h2
end Ex
end
section
open Go.RowKit VecM LebM
namespace Ex
def E (s : St) : Prop := s.e = 0 ∨ s.e = 3 ∨ s.e = 10 ∨ s.e = 11
theorem E.fail {s : St} (h : E s) {x : Int} (hx : x = 3 ∨ x = 10 ∨ x = 11) : E (failS s x) := by
 unfold failS; split
 ·exact .inr hx
 ·exact h
section
variable {f : Nat → Int} {len : Nat}
theorem E.num {s : St} (h : E s) : E (numS f len s).2 := by
 unfold numS; split
 ·exact h.fail (by decide)
 ·exact h
end
theorem typ_e {f : Nat → Int} {len : Nat} {s : St} (h : (typS f len s).2.e = 0) : (sgnS f len 33 s).2.e = 0 ∧ 0 ≤ (sgnS f len 33 s).1 ∧ typS f len s = sgnS f len 33 s := by
 unfold typS at h ⊢
 dsimp only at h
 split at h
 ·exact absurd h (failS_ne _ (by decide))
 ·rename_i h1
  rw [if_neg h1]
  exact ⟨h, by omega, rfl⟩
theorem typ_ok {f : Nat → Int} (hf : By f) {len : Nat} {s : St} (h : (typS f len s).2.e = 0) : s.e = 0 ∧ 0 ≤ (typS f len s).1 ∧ (typS f len s).1 ≤ 4294967295 ∧ s.a + (formS (typS f len s).1).length ≤ (typS f len s).2.a := by
 obtain ⟨h1, h2, h3⟩ := typ_e h
 rw [h3]
 have h4 := sgn_ok hf h1
 have h5 := sgn_rng hf (B := 33) (.inr rfl) h1
 have e : (2 : Int) ^ (33 - 1) = 4294967296 := rfl
 rw [e] at h5
 have h6 : (sgnS f len 33 s).1 < 4294967296 := h5.2
 exact ⟨sgn_e h1, h2, by omega, h4.2.2.1⟩
theorem sgn7 {f : Nat → Int} {len : Nat} {s : St} (he : s.e = 0) (h0 : 0 ≤ s.a) (h1 : s.a < len) {n : Int} (hn : -64 ≤ n ∧ n < 0) (hc : f s.a.toNat = n % 128) : sgnS f len 7 s = (n, ⟨s.a + 1, 0⟩) ∧ (formS n).length = 1 := by
 obtain ⟨p, hp⟩ := Int.eq_ofNat_of_zero_le h0
 obtain ⟨a, e⟩ := s
 dsimp only at he h0 h1 hc hp ⊢
 subst he hp
 rw [Int.toNat_natCast] at hc
 have e1 : formS n = [n % 128] := lebS_end (by omega)
 have h2 := sgn_at (g := f) (len := len) (p := p) (n := n) 7 (by decide) (by decide) (by rw [e1]; exact ⟨fun j hj => by
  simp only [List.length_singleton] at hj
  obtain rfl : j = 0 := by omega
  rw [Nat.add_zero, hc]; rfl, by simp only [List.length_singleton]; omega⟩) (by omega) ⟨by have : (2 : Int) ^ (7 - 1) = 64 := rfl; omega, by have : (2 : Int) ^ (7 - 1) = 64 := rfl; omega⟩
 have h3 : sgnS f len 7 ⟨p, 0⟩ = _ := h2
 rw [h3, e1]
 exact ⟨rfl, rfl⟩
theorem blk_ok {f : Nat → Int} (hf : By f) {len : Nat} {s : St} (h0 : 0 ≤ s.a) (h : (blkS f len s).2.e = 0) : s.e = 0 ∧ ((0 ≤ (blkS f len s).1 ∧ (blkS f len s).1 ≤ 4294967295) ∨ (blkS f len s).1 = -64 ∨ (blkS f len s).1 = -1 ∨ (blkS f len s).1 = -2 ∨ (blkS f len s).1 = -5) ∧ s.a + (formS (blkS f len s).1).length ≤ (blkS f len s).2.a := by
 unfold blkS at h ⊢
 split at h
 ·rename_i h1
  rw [if_pos h1]
  split at h
  ·rename_i h2
   rw [if_pos h2]
   have key : ∀ n : Int, -64 ≤ n → n < 0 → f s.a.toNat = n % 128 → (n = -64 ∨ n = -1 ∨ n = -2 ∨ n = -5) → s.e = 0 ∧ ((0 ≤ (sgnS f len 7 s).1 ∧ (sgnS f len 7 s).1 ≤ 4294967295) ∨ (sgnS f len 7 s).1 = -64 ∨ (sgnS f len 7 s).1 = -1 ∨ (sgnS f len 7 s).1 = -2 ∨ (sgnS f len 7 s).1 = -5) ∧ s.a + (formS (sgnS f len 7 s).1).length ≤ (sgnS f len 7 s).2.a := by
    intro n g1 g2 g3 g4
    obtain ⟨k1, k2⟩ := sgn7 h1.1 h0 h1.2 ⟨g1, g2⟩ g3
    rw [k1]
    dsimp only
    rw [k2]
    exact ⟨h1.1, .inr g4, by simp⟩
   rcases h2 with h2 | h2 | h2 | h2
   ·exact key (-64) (by decide) (by decide) (by rw [h2]; rfl) (by decide)
   ·exact key (-1) (by decide) (by decide) (by rw [h2]; rfl) (by decide)
   ·exact key (-2) (by decide) (by decide) (by rw [h2]; rfl) (by decide)
   ·exact key (-5) (by decide) (by decide) (by rw [h2]; rfl) (by decide)
  ·rename_i h2
   rw [if_neg h2]
   split at h
   ·exact absurd (typ_ok hf h).1 (failS_ne s (by decide))
   ·rename_i h3
    rw [if_neg h3]
    obtain ⟨g1, g2, g3, g4⟩ := typ_ok hf h
    exact ⟨g1, .inl ⟨g2, g3⟩, g4⟩
 ·rename_i h1
  rw [if_neg h1]
  obtain ⟨g1, g2, g3, g4⟩ := typ_ok hf h
  exact ⟨g1, .inl ⟨g2, g3⟩, g4⟩
structure FOk (form : Int) (s : St) (r : In × St) : Prop where
 e : s.e = 0
 fit : fitB r.1 form = true
 ok : (-9223372036854775808 ≤ r.1.a ∧ r.1.a ≤ 9223372036854775807) ∧ (0 ≤ r.1.lo ∧ r.1.lo < 18446744073709551616) ∧ (0 ≤ r.1.hi ∧ r.1.hi < 18446744073709551616) ∧ r.1.l.length < 4294967296
 short : s.a + (fldL r.1 form).length ≤ r.2.a
 sz : s.a + r.1.l.length ≤ r.2.a
set_option maxHeartbeats 1000000 in
theorem fld_ok {f : Nat → Int} (hf : By f) {len : Nat} {s : St} (h0 : 0 ≤ s.a) (form op : Int) (hform : 1 ≤ form ∧ form ≤ 14) (h : (fldS f len form op s).2.e = 0) : FOk form s (fldS f len form op s) := by
 unfold fldS at h ⊢
 by_cases c2 : form = 2
 ·subst c2
  simp only [if_true] at h ⊢
  obtain ⟨g1, g2, g3⟩ := blk_ok hf h0 h
  refine ⟨g1, by simp only [fitB, if_true, Bool.and_eq_true, Bool.or_eq_true, beq_iff_eq, idx_iff]; refine ⟨⟨⟨⟨?_, ?_⟩, ?_⟩, ?_⟩, ?_⟩ <;> first | trivial | rfl | omega, ⟨by dsimp only; omega, by simp, by simp, by simp⟩, by simpa [fldL] using g3, ?_⟩
  dsimp only [List.length_nil]; omega
 by_cases c3 : form = 3 ∨ form = 5
 ·simp only [if_neg c2, if_pos c3] at h ⊢
  have g := num_ok hf h
  refine ⟨num_e h, by simp only [fitB, if_neg c2, if_pos c3, Bool.and_eq_true, beq_iff_eq, idx_iff]; refine ⟨⟨⟨⟨?_, ?_⟩, ?_⟩, ?_⟩, ?_⟩ <;> first | trivial | rfl | omega, ⟨by dsimp only; omega, by simp, by simp, by simp⟩, by simp only [fldL, if_neg c2, if_pos c3]; exact g.2.2.1, ?_⟩
  dsimp only [List.length_nil]; omega
 by_cases c4 : form = 4
 ·simp only [if_neg c2, if_neg c3, if_pos c4] at h ⊢
  have g := num_ok hf h
  obtain ⟨k1, zs, e, k2, k3, k4, k5⟩ := tab_ok hf _ _ (num_e h)
  have g1 := num_ok hf k1
  have g0 := num_e k1
  rw [List.nil_append] at e
  rw [e]
  have k6 : (zs.length : Int) = (numS f len s).1 := by rw [k2]; omega
  refine ⟨g0, by simp only [fitB, if_neg c2, if_neg c3, if_pos c4, Bool.and_eq_true, beq_iff_eq, idx_iff, List.all_eq_true]; refine ⟨⟨⟨⟨by omega, fun z hz => by have := k3 z hz; omega⟩, ?_⟩, ?_⟩, ?_⟩ <;> first | trivial | rfl, ⟨by dsimp only; omega, by simp, by simp, by dsimp only; omega⟩, ?_, ?_⟩
  ·simp only [fldL, if_neg c2, if_neg c3, if_pos c4, List.length_append]
   rw [k6]
   push_cast
   omega
  ·dsimp only; rw [k6]; omega
 by_cases c6 : form = 6 ∨ form = 7
 ·simp only [if_neg c2, if_neg c3, if_neg c4, if_pos c6] at h ⊢
  have g := num_ok hf h
  have g1 := num_ok hf (num_e h)
  refine ⟨num_e (num_e h), by simp only [fitB, if_neg c2, if_neg c3, if_neg c4, if_pos c6, Bool.and_eq_true, beq_iff_eq, idx_iff]; refine ⟨⟨⟨⟨?_, ?_⟩, ?_⟩, ?_⟩, ?_⟩ <;> first | trivial | rfl | omega, ⟨by dsimp only; omega, by simp, by simp, by simp⟩, ?_, ?_⟩
  ·simp only [fldL, if_neg c2, if_neg c3, if_neg c4, if_pos c6, List.length_append]
   push_cast
   omega
  ·dsimp only [List.length_nil]; omega
 by_cases c8 : form = 8
 ·simp only [if_neg c2, if_neg c3, if_neg c4, if_neg c6, if_pos c8] at h ⊢
  obtain ⟨q1, _, q2⟩ := oct_ok h
  have q3 := octS_bd hf (len := len) (numS f len (numS f len s).2).2
  have g := num_ok hf q1
  have g1 := num_ok hf (num_e q1)
  refine ⟨num_e (num_e q1), by simp only [fitB, if_neg c2, if_neg c3, if_neg c4, if_neg c6, if_pos c8, Bool.and_eq_true, beq_iff_eq, idx_iff, decide_eq_true_eq]; refine ⟨⟨⟨⟨?_, ?_⟩, ?_⟩, ?_⟩, ?_⟩ <;> first | trivial | rfl | omega, ⟨by dsimp only; omega, by dsimp only; omega, by simp, by simp⟩, ?_, ?_⟩
  ·simp only [fldL, if_neg c2, if_neg c3, if_neg c4, if_neg c6, if_pos c8, List.length_append, List.length_singleton]
   rw [q2]
   dsimp only
   push_cast
   omega
  ·rw [q2]; dsimp only [List.length_nil]; omega
 by_cases c9 : form = 9
 ·simp only [if_neg c2, if_neg c3, if_neg c4, if_neg c6, if_neg c8, if_pos c9] at h ⊢
  have g := sgn_ok hf h
  have g1 := sgn_rng hf (B := 32) (.inl rfl) h
  have e : (2 : Int) ^ (32 - 1) = 2147483648 := rfl
  rw [e] at g1
  have g2 : -2147483648 ≤ (sgnS f len 32 s).1 ∧ (sgnS f len 32 s).1 < 2147483648 := g1
  have e2 : sg32 ((sgnS f len 32 s).1 % 4294967296) = (sgnS f len 32 s).1 := by unfold sg32; split <;> omega
  refine ⟨sgn_e h, by simp only [fitB, if_neg c2, if_neg c3, if_neg c4, if_neg c6, if_neg c8, if_pos c9, Bool.and_eq_true, beq_iff_eq, decide_eq_true_eq]; refine ⟨⟨⟨⟨?_, ?_⟩, ?_⟩, ?_⟩, ?_⟩ <;> first | trivial | rfl | omega, ⟨by simp, by dsimp only; omega, by simp, by simp⟩, ?_, ?_⟩
  ·simp only [fldL, if_neg c2, if_neg c3, if_neg c4, if_neg c6, if_neg c8, if_pos c9]
   rw [e2]
   exact g.2.2.1
  ·dsimp only [List.length_nil]; omega
 by_cases c10 : form = 10
 ·simp only [if_neg c2, if_neg c3, if_neg c4, if_neg c6, if_neg c8, if_neg c9, if_pos c10] at h ⊢
  have g := sgn_ok hf h
  have e2 : sg64 ((sgnS f len 64 s).1 % 18446744073709551616) = (sgnS f len 64 s).1 := by unfold sg64; split <;> omega
  refine ⟨sgn_e h, by simp only [fitB, if_neg c2, if_neg c3, if_neg c4, if_neg c6, if_neg c8, if_neg c9, if_pos c10, Bool.and_eq_true, beq_iff_eq]; refine ⟨⟨⟨?_, ?_⟩, ?_⟩, ?_⟩ <;> first | trivial | rfl | omega, ⟨by simp, by dsimp only; omega, by simp, by simp⟩, ?_, ?_⟩
  ·simp only [fldL, if_neg c2, if_neg c3, if_neg c4, if_neg c6, if_neg c8, if_neg c9, if_pos c10]
   rw [e2]
   exact g.2.2.1
  ·dsimp only [List.length_nil]; omega
 by_cases c11 : form = 11 ∨ form = 12
 ·simp only [if_neg c2, if_neg c3, if_neg c4, if_neg c6, if_neg c8, if_neg c9, if_neg c10, if_pos c11] at h ⊢
  have q := octs_ok (f := f) (len := len) 16 h
  have b1 := getI_64 (hvB_byt hf (len := len) 16 s) 64 0
  have b2 := getI_64 (hvB_byt hf (len := len) 16 s) 64 1
  refine ⟨q.1, by simp only [fitB, if_neg c2, if_neg c3, if_neg c4, if_neg c6, if_neg c8, if_neg c9, if_neg c10, if_pos c11, Bool.and_eq_true, beq_iff_eq]; refine ⟨⟨?_, ?_⟩, ?_⟩ <;> first | trivial | rfl | omega, ⟨by simp, b1, b2, by simp⟩, ?_, ?_⟩
  ·simp only [fldL, if_neg c2, if_neg c3, if_neg c4, if_neg c6, if_neg c8, if_neg c9, if_neg c10, if_pos c11]
   unfold vecL
   rw [List.length_map, List.length_range]
   have := q.2
   show s.a + ((16 : Nat) : Int) ≤ (octsS f len 16 s).2.a
   omega
  ·show s.a + ((0 : Nat) : Int) ≤ (octsS f len 16 s).2.a
   have := q.2
   omega
 by_cases c13 : form = 13
 ·simp only [if_neg c2, if_neg c3, if_neg c4, if_neg c6, if_neg c8, if_neg c9, if_neg c10, if_neg c11, if_pos c13] at h ⊢
  obtain ⟨q1, _, q2⟩ := oct_ok h
  have q3 := octS_bd hf (len := len) s
  refine ⟨q1, by simp only [fitB, if_neg c2, if_neg c3, if_neg c4, if_neg c6, if_neg c8, if_neg c9, if_neg c10, if_neg c11, if_pos c13, Bool.and_eq_true, beq_iff_eq, decide_eq_true_eq]; refine ⟨⟨⟨⟨⟨?_, ?_⟩, ?_⟩, ?_⟩, ?_⟩, ?_⟩ <;> first | trivial | rfl | omega, ⟨by dsimp only; omega, by simp, by simp, by simp⟩, ?_, ?_⟩
  ·simp only [fldL, if_neg c2, if_neg c3, if_neg c4, if_neg c6, if_neg c8, if_neg c9, if_neg c10, if_neg c11, if_pos c13, List.length_singleton]
   rw [q2]
   dsimp only
   omega
  ·rw [q2]; dsimp only [List.length_nil]; omega
 by_cases c14 : form = 14
 ·simp only [if_neg c2, if_neg c3, if_neg c4, if_neg c6, if_neg c8, if_neg c9, if_neg c10, if_neg c11, if_neg c13, if_pos c14] at h ⊢
  split at h
  ·exact absurd h (failS_ne _ (by decide))
  rename_i h7
  rw [if_neg h7]
  obtain ⟨q1, _, q2⟩ := oct_ok h
  refine ⟨q1, by simp only [fitB, nul, if_neg c2, if_neg c3, if_neg c4, if_neg c6, if_neg c8, if_neg c9, if_neg c10, if_neg c11, if_neg c13, Bool.and_eq_true, beq_iff_eq]; refine ⟨⟨⟨⟨?_, ?_⟩, ?_⟩, ?_⟩, ?_⟩ <;> first | trivial | rfl | omega, ⟨by simp [nul], by simp [nul], by simp [nul], by simp [nul]⟩, ?_, ?_⟩
  ·simp only [fldL, if_neg c2, if_neg c3, if_neg c4, if_neg c6, if_neg c8, if_neg c9, if_neg c10, if_neg c11, if_neg c13, if_pos c14, List.length_singleton]
   rw [q2]
   dsimp only
   omega
  ·rw [q2]; dsimp only [nul, List.length_nil]; omega
 ·simp only [if_neg c2, if_neg c3, if_neg c4, if_neg c6, if_neg c8, if_neg c9, if_neg c10, if_neg c11, if_neg c13, if_neg c14] at h ⊢
  refine ⟨h, by simp only [fitB, nul, if_neg c2, if_neg c3, if_neg c4, if_neg c6, if_neg c8, if_neg c9, if_neg c10, if_neg c11, if_neg c13, Bool.and_eq_true, beq_iff_eq]; refine ⟨⟨⟨⟨?_, ?_⟩, ?_⟩, ?_⟩, ?_⟩ <;> first | trivial | rfl | omega, ⟨by simp [nul], by simp [nul], by simp [nul], by simp [nul]⟩, ?_, ?_⟩
  ·simp only [fldL, if_neg c2, if_neg c3, if_neg c4, if_neg c6, if_neg c8, if_neg c9, if_neg c10, if_neg c11, if_neg c13, if_neg c14, List.length_nil]
   omega
  ·dsimp only [nul, List.length_nil]; omega
end Ex
end
section
open Go.RowKit VecM LebM
namespace Ex
def insB (d : In) : List Int := opcL d.op ++ fldL d (fm d.op)
def insF (D : List In) : List Int := D.flatMap insB
theorem insF_cons (d : In) (r : List In) : insF (d :: r) = insB d ++ insF r := by unfold insF; rw [List.flatMap_cons]
theorem opcL_pos (op : Int) : 0 < (opcL op).length := by
 unfold opcL; split <;> simp
theorem insB_pos (d : In) : 0 < (insB d).length := by
 have := opcL_pos d.op
 unfold insB; rw [List.length_append]; omega
theorem insF_len : ∀ D : List In, D.length ≤ (insF D).length
 | [] => by simp
 | d :: r => by
  have h1 := insF_len r
  have h2 := insB_pos d
  rw [insF_cons, List.length_append, List.length_cons]; omega
def okB : List In → List Int → Bool → Bool
 | [], _, cl => cl
 | d :: r, N, cl => goodB d N cl && okB r (stepN d.op (fm d.op) N cl).2.1 (stepN d.op (fm d.op) N cl).2.2
theorem wrS_ok : ∀ (D : List In) (N : List Int) (cl : Bool) (out : List Int), wrS D N cl out = if okB D N cl = true then some (out ++ insF D) else none
 | [], N, cl, out => by unfold wrS okB insF; simp
 | d :: r, N, cl, out => by
  unfold wrS okB
  rw [wrS_ok r, insF_cons]
  by_cases h : goodB d N cl = true
  ·rw [if_pos h, h, Bool.true_and]
   unfold insB
   simp only [List.append_assoc]
  ·rw [if_neg h, if_neg (by simp [h])]
theorem good_parts {d : In} {N : List Int} {cl : Bool} (h : goodB d N cl = true) : fm d.op ≠ 0 ∧ fitB d (fm d.op) = true ∧ ¬ (fm d.op = 2 ∧ N.length = 128) ∧ (stepN d.op (fm d.op) N cl).1 = true ∧ cl = false := by
 unfold goodB at h
 simp only [Bool.and_eq_true, bne_iff_ne, Bool.not_eq_true', Bool.and_eq_false_iff, beq_eq_false_iff_ne] at h
 obtain ⟨⟨⟨h1, h2⟩, h3⟩, h4⟩ := h
 refine ⟨h1, h2, fun e => ?_, h4, ?_⟩
 ·rcases h3 with h3 | h3
  ·exact h3 e.1
  ·exact h3 (by rw [e.2]; rfl)
 ·cases cl with
  | false => rfl
  | true => simp [stepN] at h4
def InB (d : In) : Prop := InOk d ∧ d.l.length < 4294967296
theorem ins_at {g : Nat → Int} {len p : Nat} {d : In} {N : List Int} (hg : goodB d N false = true) (hok : InB d) (h : At g len p (insB d)) : insS g len ⟨p, 0⟩ N false = (d, ⟨((p + (insB d).length : Nat) : Int), 0⟩, (stepN d.op (fm d.op) N false).2) := by
 obtain ⟨h1, h2, h3, h4, _⟩ := good_parts hg
 have hop := hok.1.op.2
 obtain ⟨f1, f2, f3⟩ := fm_float hop h1
 unfold insB at h
 have e1 := opc_at h.left h1
 have e2 := fld_at (d := d) ⟨f2, f3⟩ h2 hok.1 hok.2 h.right
 have e3 : opSt d.op ⟨((p + (opcL d.op).length : Nat) : Int), 0⟩ = ⟨((p + (opcL d.op).length : Nat) : Int), 0⟩ := by
  unfold opSt; rw [f1, if_neg (by decide), if_neg h1]
 unfold insS
 rw [e1]
 dsimp only
 rw [if_neg (by decide), e3, e2]
 dsimp only
 rw [if_neg (by decide), if_neg h3, if_pos h4]
 unfold insB
 rw [List.length_append, Nat.add_assoc]
theorem back_at {g : Nat → Int} {len : Nat} : ∀ (D : List In) (N : List Int) (cl : Bool) (acc : List In) (p k : Nat), okB D N cl = true → (∀ d ∈ D, InB d) → At g len p (insF D) → D.length < k → rdS g len k ⟨p, 0⟩ N cl acc = (acc ++ D, ((p + (insF D).length : Nat) : Int), 0)
 | [], N, cl, acc, p, 0, _, _, _, h => by simp at h
 | [], N, cl, acc, p, k + 1, hok, _, _, _ => by
  have hc : cl = true := hok
  unfold rdS
  rw [if_pos hc]
  simp [insF]
 | d :: r, N, cl, acc, p, 0, _, _, _, h => by simp at h
 | d :: r, N, cl, acc, p, k + 1, hok, hb, hat, hk => by
  unfold okB at hok
  rw [Bool.and_eq_true] at hok
  obtain ⟨_, _, _, _, rfl⟩ := good_parts hok.1
  rw [insF_cons] at hat ⊢
  have h1 := ins_at hok.1 (hb d (by simp)) hat.left
  unfold rdS
  rw [if_neg (by decide), h1]
  dsimp only
  rw [if_neg (by decide), back_at r _ _ _ _ k hok.2 (fun x hx => hb x (by simp [hx])) hat.right (by simp only [List.length_cons] at hk; omega)]
  rw [List.append_assoc, List.length_append, Nat.add_assoc]
  rfl
theorem read_back {g : Nat → Int} {len p : Nat} {D : List In} (hok : okB D [] false = true) (hb : ∀ d ∈ D, InB d) (hat : At g len p (insF D)) : readS g len p = (D, ((p + (insF D).length : Nat) : Int), 0) := by
 have h1 := insF_len D
 have h2 := hat.2
 unfold readS
 rw [if_neg (by omega), back_at D [] false [] p (len + 2) hok hb hat (by omega)]
 rfl
theorem fldS_op {f : Nat → Int} {len : Nat} (form op : Int) (s : St) : (fldS f len form op s).1.op = op := by
 unfold fldS nul
 repeat' split
 all_goals rfl
theorem ins_ok {f : Nat → Int} (hf : By f) {len : Nat} {s : St} (h0 : Ok len s) {N : List Int} (h : (insS f len s N false).2.1.e = 0) :
  let r := insS f len s N false
  s.e = 0 ∧ goodB r.1 N false = true ∧ InB r.1 ∧ r.2.2 = (stepN r.1.op (fm r.1.op) N false).2 ∧ s.a + (insB r.1).length ≤ r.2.1.a ∧ s.a + 1 + r.1.l.length ≤ r.2.1.a := by
 unfold insS at h ⊢
 split at h
 ·rename_i h1; exact absurd h h1
 rename_i h1
 rw [if_neg h1]
 dsimp only at h ⊢
 split at h
 ·rename_i h2; exact absurd h h2
 rename_i h2
 rw [if_neg h2]
 split at h
 ·exact absurd h (failS_ne _ (by decide))
 rename_i h3
 rw [if_neg h3]
 dsimp only at h ⊢
 split at h
 case isFalse => exact absurd h (failS_ne _ (by decide))
 rename_i h4
 rw [if_pos h4]
 have h1' : (opcS f len s).2.e = 0 := Decidable.not_not.1 h1
 have h2' := Decidable.not_not.1 h2
 have k1 := opc_ok hf h1'
 have kb := opcS_bd hf (len := len) s
 have ka := opcS_ok (f := f) h0
 generalize opcS f len s = r at *
 obtain ⟨op, s1⟩ := r
 dsimp only at *
 have hst : Ins.floatB op = false ∧ fm op ≠ 0 ∧ opSt op s1 = s1 := by
  have hs : (opSt op s1).e = 0 := by
   by_cases hfm : 1 ≤ fm op ∧ fm op ≤ 14
   ·exact (fld_ok hf (by rw [opSt_a]; exact ka.lo) (fm op) op hfm h2').e
   ·have hz : fm op = 0 := Decidable.byContradiction fun hz => hfm (fm_float (by omega) hz).2
    rw [hz] at h2'
    have e : fldS f len 0 op (opSt op s1) = (nul op, opSt op s1) := rfl
    rw [e] at h2'
    exact h2'
  unfold opSt at hs ⊢
  by_cases hfl : Ins.floatB op = true
  ·rw [if_pos hfl] at hs; exact absurd hs (failS_ne _ (by decide))
  ·rw [if_neg hfl] at hs ⊢
   by_cases hz : fm op = 0
   ·rw [if_pos hz] at hs; exact absurd hs (failS_ne _ (by decide))
   ·rw [if_neg hz]
    exact ⟨Bool.eq_false_iff.2 hfl, hz, rfl⟩
 obtain ⟨hfl, hz, hos⟩ := hst
 rw [hos] at h2' ⊢
 have hform := (fm_float (by omega) hz).2
 have F := fld_ok hf ka.lo (fm op) op hform h2'
 have hop : (fldS f len (fm op) op s1).1.op = op := fldS_op ..
 have hfit := F.fit
 have hok := F.ok
 have hsh := F.short
 have hsz := F.sz
 generalize fldS f len (fm op) op s1 = q at *
 obtain ⟨d, s2⟩ := q
 dsimp only at *
 subst hop
 refine ⟨k1.1, ?_, ⟨⟨⟨by omega, by omega⟩, hok.1, hok.2.1, hok.2.2.1, by omega⟩, hok.2.2.2⟩, rfl, ?_, by omega⟩
 ·unfold goodB
  simp only [Bool.and_eq_true, bne_iff_ne, Bool.not_eq_true', Bool.and_eq_false_iff, beq_eq_false_iff_ne]
  refine ⟨⟨⟨hz, hfit⟩, ?_⟩, h4⟩
  by_cases h5 : fm d.op = 2
  ·exact .inr fun e => h3 ⟨h5, by omega⟩
  ·exact .inl h5
 ·unfold insB
  rw [List.length_append]
  push_cast
  omega
theorem fwd_at {f : Nat → Int} (hf : By f) {len : Nat} : ∀ (k : Nat) (s : St) (N : List Int) (cl : Bool) (acc : List In), Ok len s → (rdS f len k s N cl acc).2.2 = 0 → ∃ D, (rdS f len k s N cl acc).1 = acc ++ D ∧ okB D N cl = true ∧ (∀ d ∈ D, InB d) ∧ s.a + (insF D).length ≤ (rdS f len k s N cl acc).2.1 ∧ s.a + szP D ≤ (rdS f len k s N cl acc).2.1 ∧ (rdS f len k s N cl acc).2.1 ≤ len
 | 0, s, N, cl, acc, _, h => by simp [rdS] at h
 | k + 1, s, N, cl, acc, h0, h => by
  unfold rdS at h ⊢
  split at h
  ·rename_i h1
   rw [if_pos h1]
   exact ⟨[], by simp, h1, (fun d hd => by cases hd), by simp [insF], by simp [szP], h0.hi⟩
  rename_i h1
  rw [if_neg h1]
  obtain rfl : cl = false := by simpa using h1
  split at h
  ·rename_i h2; exact absurd h h2
  rename_i h2
  rw [if_neg h2]
  have hI := ins_ok hf h0 (Decidable.not_not.1 h2)
  have hok := insS_ok (f := f) (N := N) (cl := false) h0
  generalize insS f len s N false = r at *
  obtain ⟨d, s1, N1, cl1⟩ := r
  dsimp only at *
  obtain ⟨_, g1, g2, g3, g4, g5⟩ := hI
  obtain ⟨D, e, d1, d2, d3, d4, d5⟩ := fwd_at hf k s1 N1 cl1 (acc ++ [d]) hok h
  have g6 := congrArg Prod.fst g3
  have g7 := congrArg Prod.snd g3
  dsimp only at g6 g7
  refine ⟨d :: D, by rw [e, List.append_assoc]; rfl, ?_, fun x hx => ?_, ?_, ?_, d5⟩
  ·unfold okB
   rw [g1, Bool.true_and, ← g6, ← g7]
   exact d1
  ·rcases List.mem_cons.1 hx with rfl | hx
   ·exact g2
   ·exact d2 x hx
  ·rw [insF_cons, List.length_append]; push_cast; omega
  ·unfold szP; push_cast; omega
end Ex
end
section
open Go.RowKit VecM LebM
namespace Ex
def byL (l : List Int) : Prop := ∀ x ∈ l, 0 ≤ x ∧ x < 256
theorem byL.app {a b : List Int} (h : byL a) (h2 : byL b) : byL (a ++ b) := fun x hx => by
 rcases List.mem_append.1 hx with h' | h'
 ·exact h x h'
 ·exact h2 x h'
theorem byL.one {n : Int} (h : 0 ≤ n ∧ n < 256) : byL [n] := fun x hx => by
 rw [List.mem_singleton.1 hx]; exact h
theorem lebU_by : ∀ (m : Nat) (n : Int), 0 ≤ n → byL (lebU m n)
 | 0, n, h => by unfold lebU; exact byL.one (by omega)
 | m + 1, n, h => by
  unfold lebU
  split
  ·exact byL.one (by omega)
  ·intro x hx
   rcases List.mem_cons.1 hx with rfl | hx
   ·omega
   ·exact lebU_by m (n / 128) (by omega) x hx
theorem formU_by {n : Int} (h : 0 ≤ n) : byL (formU n) := lebU_by 9 n h
theorem formS_by (n : Int) : byL (formS n) := lebS_byte 9 n
theorem vecL_by (lo hi : Int) : byL (vecL lo hi) := fun x hx => by
 unfold vecL at hx
 obtain ⟨i, _, rfl⟩ := List.mem_map.1 hx
 have := ofK_byt (b := fun _ => 0) (fun _ => ⟨by simp, by simp⟩) 64 (fun j => if j = 0 then lo else hi) 2 i
 unfold vecB
 omega
theorem at_all (L : List Int) : At (lst L) L.length 0 L := ⟨fun j _ => by rw [Nat.zero_add]; rfl, by omega⟩
end Ex
end
section
open Go.RowKit VecM LebM
namespace Ex
def u32S (f : Nat → Int) (len : Nat) (a : Int) : Int × Int := if (numS f len ⟨a, 0⟩).2.e = 0 then ((numS f len ⟨a, 0⟩).1, (numS f len ⟨a, 0⟩).2.a) else (0, -1)
theorem num_cases (f : Nat → Int) (len : Nat) (a : Int) : ((LebM.read false f len a 32).2.2.2 = 0 ∧ numS f len ⟨a, 0⟩ = ((LebM.read false f len a 32).1, ⟨(LebM.read false f len a 32).2.2.1, 0⟩)) ∨ ((LebM.read false f len a 32).2.2.2 ≠ 0 ∧ numS f len ⟨a, 0⟩ = (0, ⟨a, 10⟩)) := by
 by_cases h : (LebM.read false f len a 32).2.2.2 = 0
 ·left
  refine ⟨h, ?_⟩
  unfold numS
  rw [if_neg (by simp [h])]
 ·right
  refine ⟨h, ?_⟩
  unfold numS
  rw [if_pos (.inr h)]; rfl
theorem u32_any {sv : Value} {len : Nat} (hlen : len ≤ 1099511627776) {f : Nat → Int} (hf : By f) (a : Int) {w : World} (h : U8s w sv len f) :
  Calls Try.prog 31 #[sv, .int .i64 a] w fun e w' => e = .returned (.tuple #[.int .i64 (u32S f len a).1, .int .i64 (u32S f len a).2]) ∧ Gr w w' := by
 have HU := Lib.hid (ru_any sv len hlen f hf a 32 w h)
 have hbd := read32 hf (len := len) (a := a)
 have hc := num_cases f len a
 unfold u32S
 generalize LebM.read false f len a 32 = r at *
 obtain ⟨n, wd, to, er⟩ := r
 dsimp only at hbd hc
 clear h
 rcases hc with ⟨h0, h1⟩ | ⟨h0, h1⟩
 ·rw [h1]
  dsimp only
  rw [if_pos rfl]
  dsimp only at HU
  subst h0
  have T1 : IntKind.i64.wrap n = n := by rw [IntKind.wrap_i64]; omega
  clear h1
  go_enter Try.func31, Try.ntmps31
  go_wp2_with fail
  refine HU.out.mono ?_
  rintro e w1 ⟨rfl, hg1⟩
  have HG := Lib.hid hg1
  clear hg1
  go_wp2
  go_ret2
  exact ⟨rfl, HG.out⟩
 ·rw [h1]
  dsimp only
  rw [if_neg (by simp)]
  dsimp only at HU
  have n1 : (er != 0) = true := by simpa using h0
  clear h1 h0
  go_enter Try.func31, Try.ntmps31
  go_wp2_with fail
  refine HU.out.mono ?_
  rintro e w1 ⟨rfl, hg1⟩
  have HG := Lib.hid hg1
  clear hg1
  go_wp2
  go_ret2
  exact ⟨rfl, HG.out⟩
end Ex
end
section
open Go.RowKit VecM LebM
namespace Ex
def opR (f : Nat → Int) (len : Nat) (a : Int) : Int × Int × Int :=
 if (opSt (opcS f len ⟨a, 0⟩).1 (opcS f len ⟨a, 0⟩).2).e = 0 then ((opcS f len ⟨a, 0⟩).1, (opcS f len ⟨a, 0⟩).2.a, 0) else (0, 0, (opSt (opcS f len ⟨a, 0⟩).1 (opcS f len ⟨a, 0⟩).2).e)
theorem opSt_bad {op : Int} {s : St} (h : s.e ≠ 0) : opSt op s = s := by
 have e : ∀ x, failS s x = s := fun x => by unfold failS; rw [if_neg h]
 unfold opSt; split
 ·exact e _
 ·split
  ·exact e _
  ·rfl
theorem opR_bad {f : Nat → Int} {len : Nat} {a x op a' : Int} (h : opcS f len ⟨a, 0⟩ = (op, ⟨a', x⟩)) (hx : x ≠ 0) : opR f len a = (0, 0, x) := by
 unfold opR
 rw [h]
 dsimp only
 rw [opSt_bad (by exact hx)]
 exact if_neg hx
theorem opR_ok {f : Nat → Int} {len : Nat} {a op a' : Int} (h : opcS f len ⟨a, 0⟩ = (op, ⟨a', 0⟩)) : opR f len a = if Ins.floatB op = true then (0, 0, 11) else if fm op = 0 then (0, 0, 10) else (op, a', 0) := by
 unfold opR
 rw [h]
 unfold opSt
 by_cases h1 : Ins.floatB op = true
 ·rw [if_pos h1, if_pos h1]; rfl
 ·rw [if_neg h1, if_neg h1]
  by_cases h2 : fm op = 0
  ·rw [if_pos h2, if_pos h2]; rfl
  ·rw [if_neg h2, if_neg h2]; rfl
set_option maxRecDepth 100000 in
set_option maxHeartbeats 4000000 in
theorem ropc_end {w : World} {x : Option Addr} {len c : Nat} {a : Int} (h : (len : Int) ≤ a) :
  Calls Try.prog 16 #[.slice x len c, .int .i64 a] w fun e w' => e = .returned (.tuple #[.int .i64 0, .int .i64 0, .int .i64 10]) ∧ Gr w w' := by
 have d0 : decide (a ≥ (len : Int)) = true := decide_eq_true h
 clear h
 go_enter Try.func16, Try.ntmps16
 go_wp2
 go_ret3
 exact ⟨rfl, Gr.refl _⟩
set_option maxRecDepth 100000 in
set_option maxHeartbeats 4000000 in
theorem ropc_f {w : World} {b off len c p : Nat} {y : Int} (hp : p < len) (hl : len ≤ 1099511627776) (hy : 0 ≤ y ∧ y < 256) (h1 : y ≠ 252) (h2 : y ≠ 253) (hc : w.cell? ⟨b, off + p, none⟩ = some (.int .u8 y)) (hf : Ins.floatB y = true) :
  Calls Try.prog 16 #[.slice (some ⟨b, off, none⟩) len c, .int .i64 p] w fun e w' => e = .returned (.tuple #[.int .i64 0, .int .i64 0, .int .i64 11]) ∧ Gr w w' := by
 have d0 : decide ((p : Int) ≥ (len : Int)) = false := decide_eq_false (by omega)
 have d1 : (p : Int) < (len : Int) := by omega
 have T1 : IntKind.i64.wrap ((p : Int) + 1) = (p : Int) + 1 := by rw [IntKind.wrap_i64]; omega
 have T2 : IntKind.i64.wrap y = y := by rw [IntKind.wrap_i64]; omega
 have n1 : (y == 252) = false := by simpa using h1
 have n2 : (y == 253) = false := by simpa using h2
 have HFL := Lib.hid (fun wx => (Ins.rfloat_any y wx).mono (show ∀ (e : Ending) (w' : World), (e = .returned (.bool (Ins.floatB y)) ∧ Gr wx w') → e = .returned (.bool true) ∧ Gr wx w' from fun e w' h => by rw [hf] at h; exact h))
 clear hf
 clear h1 h2 hl
 go_enter Try.func16, Try.ntmps16
 go_wp2_with fail
 refine (HFL.out w).mono ?_
 rintro e w5 ⟨rfl, hg5⟩
 have HG5 := Lib.hid (gr_trans (Gr.refl w) hg5)
 clear hg5
 go_wp2
 go_ret3
 exact ⟨rfl, HG5.out⟩
set_option maxRecDepth 100000 in
set_option maxHeartbeats 4000000 in
theorem ropc_n {w : World} {b off len c p : Nat} {y : Int} (hp : p < len) (hl : len ≤ 1099511627776) (hy : 0 ≤ y ∧ y < 256) (h1 : y ≠ 252) (h2 : y ≠ 253) (hc : w.cell? ⟨b, off + p, none⟩ = some (.int .u8 y)) (hf : Ins.floatB y = false) (hm : fm y = 0) :
  Calls Try.prog 16 #[.slice (some ⟨b, off, none⟩) len c, .int .i64 p] w fun e w' => e = .returned (.tuple #[.int .i64 0, .int .i64 0, .int .i64 10]) ∧ Gr w w' := by
 have d0 : decide ((p : Int) ≥ (len : Int)) = false := decide_eq_false (by omega)
 have d1 : (p : Int) < (len : Int) := by omega
 have T1 : IntKind.i64.wrap ((p : Int) + 1) = (p : Int) + 1 := by rw [IntKind.wrap_i64]; omega
 have T2 : IntKind.i64.wrap y = y := by rw [IntKind.wrap_i64]; omega
 have n1 : (y == 252) = false := by simpa using h1
 have n2 : (y == 253) = false := by simpa using h2
 have HFL := Lib.hid (fun wx => (Ins.rfloat_any y wx).mono (show ∀ (e : Ending) (w' : World), (e = .returned (.bool (Ins.floatB y)) ∧ Gr wx w') → e = .returned (.bool false) ∧ Gr wx w' from fun e w' h => by rw [hf] at h; exact h))
 have HOF := Lib.hid (fun wx => (rof_fm y (by omega) wx).mono (show ∀ (e : Ending) (w' : World), OFX y wx e w' → ∃ lv pv xi ni ci xo no co, e = .returned (.tuple #[.agg #[.int .i64 (fm y), .int .i64 lv, .bool pv, .slice xi ni ci, .slice xo no co], .bool false]) ∧ Gr wx w' from fun e w' ⟨lv, pv, xi, ni, ci, xo, no, co, h, hg⟩ => ⟨lv, pv, xi, ni, ci, xo, no, co, by rw [h]; rw [show (fm y != 0) = false by simpa using hm], hg⟩))
 clear hf hm
 clear h1 h2 hl
 go_enter Try.func16, Try.ntmps16
 go_wp2_with fail
 refine (HFL.out w).mono ?_
 rintro e w5 ⟨rfl, hg5⟩
 have HG5 := Lib.hid (gr_trans (Gr.refl w) hg5)
 clear hg5
 go_wp2_with fail
 refine (HOF.out w5).mono ?_
 rintro e w6 ⟨lv, pv, xi, ni, ci, xo, no, co, rfl, hg6⟩
 have HG6 := Lib.hid (gr_trans HG5.out hg6)
 clear hg6
 go_upto_region 18 with (refine wpList_store_row rfl 50 _ _ rfl w6.heap.size #[.int .i64 (fm y), .int .i64 lv, .bool pv, .slice xi ni ci, .slice xo no co] rfl rfl 50 #[.int .i64 0, .int .i64 0, .bool false, .slice none 0 0, .slice none 0 0] (heap_alloc_new w6 _) infoIf rfl (by kernel_rfl) ?_)
 have hrw := Sep.setRow (ex := fun b => b = w6.heap.size) (w6.alloc (.cells #[.int .i64 0, .int .i64 0, .bool false, .slice none 0 0, .slice none 0 0] 50)) rfl #[.int .i64 (fm y), .int .i64 lv, .bool pv, .slice xi ni ci, .slice xo no co]
 have HG7 := Lib.hid (Sep.toGr (gr_trans HG6.out ((Gr.refl w6).alloc #[.int .i64 0, .int .i64 0, .bool false, .slice none 0 0, .slice none 0 0] 50)) hrw (fun q hq => by have e' : q = w6.heap.size := hq; have := HG6.out.size; omega))
 generalize (w6.alloc (.cells #[.int .i64 0, .int .i64 0, .bool false, .slice none 0 0, .slice none 0 0] 50)).setRow w6.heap.size #[.int .i64 (fm y), .int .i64 lv, .bool pv, .slice xi ni ci, .slice xo no co] = w7 at *
 clear hrw
 go_wp2
 go_ret3
 exact ⟨rfl, HG7.out⟩
set_option maxRecDepth 100000 in
set_option maxHeartbeats 4000000 in
theorem ropc_y {w : World} {b off len c p : Nat} {y : Int} (hp : p < len) (hl : len ≤ 1099511627776) (hy : 0 ≤ y ∧ y < 256) (h1 : y ≠ 252) (h2 : y ≠ 253) (hc : w.cell? ⟨b, off + p, none⟩ = some (.int .u8 y)) (hf : Ins.floatB y = false) (hm : fm y ≠ 0) :
  Calls Try.prog 16 #[.slice (some ⟨b, off, none⟩) len c, .int .i64 p] w fun e w' => e = .returned (.tuple #[.int .i64 y, .int .i64 ((p : Int) + 1), .int .i64 0]) ∧ Gr w w' := by
 have d0 : decide ((p : Int) ≥ (len : Int)) = false := decide_eq_false (by omega)
 have d1 : (p : Int) < (len : Int) := by omega
 have T1 : IntKind.i64.wrap ((p : Int) + 1) = (p : Int) + 1 := by rw [IntKind.wrap_i64]; omega
 have T2 : IntKind.i64.wrap y = y := by rw [IntKind.wrap_i64]; omega
 have n1 : (y == 252) = false := by simpa using h1
 have n2 : (y == 253) = false := by simpa using h2
 have HFL := Lib.hid (fun wx => (Ins.rfloat_any y wx).mono (show ∀ (e : Ending) (w' : World), (e = .returned (.bool (Ins.floatB y)) ∧ Gr wx w') → e = .returned (.bool false) ∧ Gr wx w' from fun e w' h => by rw [hf] at h; exact h))
 have HOF := Lib.hid (fun wx => (rof_fm y (by omega) wx).mono (show ∀ (e : Ending) (w' : World), OFX y wx e w' → ∃ lv pv xi ni ci xo no co, e = .returned (.tuple #[.agg #[.int .i64 (fm y), .int .i64 lv, .bool pv, .slice xi ni ci, .slice xo no co], .bool true]) ∧ Gr wx w' from fun e w' ⟨lv, pv, xi, ni, ci, xo, no, co, h, hg⟩ => ⟨lv, pv, xi, ni, ci, xo, no, co, by rw [h]; rw [show (fm y != 0) = true by simpa using hm], hg⟩))
 clear hf hm
 clear h1 h2 hl
 go_enter Try.func16, Try.ntmps16
 go_wp2_with fail
 refine (HFL.out w).mono ?_
 rintro e w5 ⟨rfl, hg5⟩
 have HG5 := Lib.hid (gr_trans (Gr.refl w) hg5)
 clear hg5
 go_wp2_with fail
 refine (HOF.out w5).mono ?_
 rintro e w6 ⟨lv, pv, xi, ni, ci, xo, no, co, rfl, hg6⟩
 have HG6 := Lib.hid (gr_trans HG5.out hg6)
 clear hg6
 go_upto_region 18 with (refine wpList_store_row rfl 50 _ _ rfl w6.heap.size #[.int .i64 (fm y), .int .i64 lv, .bool pv, .slice xi ni ci, .slice xo no co] rfl rfl 50 #[.int .i64 0, .int .i64 0, .bool false, .slice none 0 0, .slice none 0 0] (heap_alloc_new w6 _) infoIf rfl (by kernel_rfl) ?_)
 have hrw := Sep.setRow (ex := fun b => b = w6.heap.size) (w6.alloc (.cells #[.int .i64 0, .int .i64 0, .bool false, .slice none 0 0, .slice none 0 0] 50)) rfl #[.int .i64 (fm y), .int .i64 lv, .bool pv, .slice xi ni ci, .slice xo no co]
 have HG7 := Lib.hid (Sep.toGr (gr_trans HG6.out ((Gr.refl w6).alloc #[.int .i64 0, .int .i64 0, .bool false, .slice none 0 0, .slice none 0 0] 50)) hrw (fun q hq => by have e' : q = w6.heap.size := hq; have := HG6.out.size; omega))
 generalize (w6.alloc (.cells #[.int .i64 0, .int .i64 0, .bool false, .slice none 0 0, .slice none 0 0] 50)).setRow w6.heap.size #[.int .i64 (fm y), .int .i64 lv, .bool pv, .slice xi ni ci, .slice xo no co] = w7 at *
 clear hrw
 go_wp2
 go_ret3
 exact ⟨rfl, HG7.out⟩
set_option maxRecDepth 100000 in
set_option maxHeartbeats 4000000 in
theorem ropc_252b {w : World} {b off len c p : Nat} {n to : Int} (hp : p < len) (hl : len ≤ 1099511627776) (hn : 0 ≤ n ∧ n < 4294967296) (hc : w.cell? ⟨b, off + p, none⟩ = some (.int .u8 252)) (hu : ∀ wx, Gr w wx → Calls Try.prog 31 #[.slice (some ⟨b, off, none⟩) len c, .int .i64 ((p : Int) + 1)] wx fun e w' => e = .returned (.tuple #[.int .i64 n, .int .i64 to]) ∧ Gr wx w') (ht : to < 0) :
  Calls Try.prog 16 #[.slice (some ⟨b, off, none⟩) len c, .int .i64 p] w fun e w' => e = .returned (.tuple #[.int .i64 0, .int .i64 0, .int .i64 10]) ∧ Gr w w' := by
 have d0 : decide ((p : Int) ≥ (len : Int)) = false := decide_eq_false (by omega)
 have d1 : (p : Int) < (len : Int) := by omega
 have T1 : IntKind.i64.wrap ((p : Int) + 1) = (p : Int) + 1 := by rw [IntKind.wrap_i64]; omega
 have T3 : IntKind.i64.wrap (64768 + n) = 64768 + n := by rw [IntKind.wrap_i64]; omega
 have HU := Lib.hid hu
 have x1 : decide (to < 0) = true := decide_eq_true (by omega)
 clear ht
 clear hu hl hn
 go_enter Try.func16, Try.ntmps16
 go_wp2_with fail
 refine (HU.out w (Gr.refl w)).mono ?_
 rintro e w3 ⟨rfl, hg3⟩
 have HG3 := Lib.hid hg3
 clear hg3
 go_wp2
 go_ret3
 exact ⟨rfl, HG3.out⟩
set_option maxRecDepth 100000 in
set_option maxHeartbeats 4000000 in
theorem ropc_253b {w : World} {b off len c p : Nat} {n to : Int} (hp : p < len) (hl : len ≤ 1099511627776) (hn : 0 ≤ n ∧ n < 4294967296) (hc : w.cell? ⟨b, off + p, none⟩ = some (.int .u8 253)) (hu : ∀ wx, Gr w wx → Calls Try.prog 31 #[.slice (some ⟨b, off, none⟩) len c, .int .i64 ((p : Int) + 1)] wx fun e w' => e = .returned (.tuple #[.int .i64 n, .int .i64 to]) ∧ Gr wx w') (ht : to < 0) :
  Calls Try.prog 16 #[.slice (some ⟨b, off, none⟩) len c, .int .i64 p] w fun e w' => e = .returned (.tuple #[.int .i64 0, .int .i64 0, .int .i64 10]) ∧ Gr w w' := by
 have d0 : decide ((p : Int) ≥ (len : Int)) = false := decide_eq_false (by omega)
 have d1 : (p : Int) < (len : Int) := by omega
 have T1 : IntKind.i64.wrap ((p : Int) + 1) = (p : Int) + 1 := by rw [IntKind.wrap_i64]; omega
 have T3 : IntKind.i64.wrap (64768 + n) = 64768 + n := by rw [IntKind.wrap_i64]; omega
 have HU := Lib.hid hu
 have x1 : decide (to < 0) = true := decide_eq_true (by omega)
 clear ht
 clear hu hl hn
 go_enter Try.func16, Try.ntmps16
 go_wp2_with fail
 refine (HU.out w (Gr.refl w)).mono ?_
 rintro e w3 ⟨rfl, hg3⟩
 have HG3 := Lib.hid hg3
 clear hg3
 go_wp2
 go_ret3
 exact ⟨rfl, HG3.out⟩
set_option maxRecDepth 100000 in
set_option maxHeartbeats 4000000 in
theorem ropc_252l {w : World} {b off len c p : Nat} {n to : Int} (hp : p < len) (hl : len ≤ 1099511627776) (hn : 0 ≤ n ∧ n < 4294967296) (hc : w.cell? ⟨b, off + p, none⟩ = some (.int .u8 252)) (hu : ∀ wx, Gr w wx → Calls Try.prog 31 #[.slice (some ⟨b, off, none⟩) len c, .int .i64 ((p : Int) + 1)] wx fun e w' => e = .returned (.tuple #[.int .i64 n, .int .i64 to]) ∧ Gr wx w') (ht : 0 ≤ to) (hx : n ≤ 7) :
  Calls Try.prog 16 #[.slice (some ⟨b, off, none⟩) len c, .int .i64 p] w fun e w' => e = .returned (.tuple #[.int .i64 0, .int .i64 0, .int .i64 11]) ∧ Gr w w' := by
 have d0 : decide ((p : Int) ≥ (len : Int)) = false := decide_eq_false (by omega)
 have d1 : (p : Int) < (len : Int) := by omega
 have T1 : IntKind.i64.wrap ((p : Int) + 1) = (p : Int) + 1 := by rw [IntKind.wrap_i64]; omega
 have T3 : IntKind.i64.wrap (64768 + n) = 64768 + n := by rw [IntKind.wrap_i64]; omega
 have HU := Lib.hid hu
 have x1 : decide (to < 0) = false := decide_eq_false (by omega)
 have x2 : decide (n ≤ 7) = true := decide_eq_true (by omega)
 clear ht hx
 clear hu hl hn
 go_enter Try.func16, Try.ntmps16
 go_wp2_with fail
 refine (HU.out w (Gr.refl w)).mono ?_
 rintro e w3 ⟨rfl, hg3⟩
 have HG3 := Lib.hid hg3
 clear hg3
 go_wp2
 go_ret3
 exact ⟨rfl, HG3.out⟩
set_option maxRecDepth 100000 in
set_option maxHeartbeats 4000000 in
theorem ropc_252h {w : World} {b off len c p : Nat} {n to : Int} (hp : p < len) (hl : len ≤ 1099511627776) (hn : 0 ≤ n ∧ n < 4294967296) (hc : w.cell? ⟨b, off + p, none⟩ = some (.int .u8 252)) (hu : ∀ wx, Gr w wx → Calls Try.prog 31 #[.slice (some ⟨b, off, none⟩) len c, .int .i64 ((p : Int) + 1)] wx fun e w' => e = .returned (.tuple #[.int .i64 n, .int .i64 to]) ∧ Gr wx w') (ht : 0 ≤ to) (hx : 7 < n) :
  Calls Try.prog 16 #[.slice (some ⟨b, off, none⟩) len c, .int .i64 p] w fun e w' => e = .returned (.tuple #[.int .i64 0, .int .i64 0, .int .i64 10]) ∧ Gr w w' := by
 have d0 : decide ((p : Int) ≥ (len : Int)) = false := decide_eq_false (by omega)
 have d1 : (p : Int) < (len : Int) := by omega
 have T1 : IntKind.i64.wrap ((p : Int) + 1) = (p : Int) + 1 := by rw [IntKind.wrap_i64]; omega
 have T3 : IntKind.i64.wrap (64768 + n) = 64768 + n := by rw [IntKind.wrap_i64]; omega
 have HU := Lib.hid hu
 have x1 : decide (to < 0) = false := decide_eq_false (by omega)
 have x2 : decide (n ≤ 7) = false := decide_eq_false (by omega)
 clear ht hx
 clear hu hl hn
 go_enter Try.func16, Try.ntmps16
 go_wp2_with fail
 refine (HU.out w (Gr.refl w)).mono ?_
 rintro e w3 ⟨rfl, hg3⟩
 have HG3 := Lib.hid hg3
 clear hg3
 go_wp2
 go_ret3
 exact ⟨rfl, HG3.out⟩
set_option maxRecDepth 100000 in
set_option maxHeartbeats 4000000 in
theorem ropc_253h {w : World} {b off len c p : Nat} {n to : Int} (hp : p < len) (hl : len ≤ 1099511627776) (hn : 0 ≤ n ∧ n < 4294967296) (hc : w.cell? ⟨b, off + p, none⟩ = some (.int .u8 253)) (hu : ∀ wx, Gr w wx → Calls Try.prog 31 #[.slice (some ⟨b, off, none⟩) len c, .int .i64 ((p : Int) + 1)] wx fun e w' => e = .returned (.tuple #[.int .i64 n, .int .i64 to]) ∧ Gr wx w') (ht : 0 ≤ to) (hx : 255 < n) :
  Calls Try.prog 16 #[.slice (some ⟨b, off, none⟩) len c, .int .i64 p] w fun e w' => e = .returned (.tuple #[.int .i64 0, .int .i64 0, .int .i64 10]) ∧ Gr w w' := by
 have d0 : decide ((p : Int) ≥ (len : Int)) = false := decide_eq_false (by omega)
 have d1 : (p : Int) < (len : Int) := by omega
 have T1 : IntKind.i64.wrap ((p : Int) + 1) = (p : Int) + 1 := by rw [IntKind.wrap_i64]; omega
 have T3 : IntKind.i64.wrap (64768 + n) = 64768 + n := by rw [IntKind.wrap_i64]; omega
 have HU := Lib.hid hu
 have x1 : decide (to < 0) = false := decide_eq_false (by omega)
 have x2 : decide (n > 255) = true := decide_eq_true (by omega)
 clear ht hx
 clear hu hl hn
 go_enter Try.func16, Try.ntmps16
 go_wp2_with fail
 refine (HU.out w (Gr.refl w)).mono ?_
 rintro e w3 ⟨rfl, hg3⟩
 have HG3 := Lib.hid hg3
 clear hg3
 go_wp2
 go_ret3
 exact ⟨rfl, HG3.out⟩
set_option maxRecDepth 100000 in
set_option maxHeartbeats 4000000 in
theorem ropc_253f {w : World} {b off len c p : Nat} {n to : Int} (hp : p < len) (hl : len ≤ 1099511627776) (hn : 0 ≤ n ∧ n < 4294967296) (hc : w.cell? ⟨b, off + p, none⟩ = some (.int .u8 253)) (hu : ∀ wx, Gr w wx → Calls Try.prog 31 #[.slice (some ⟨b, off, none⟩) len c, .int .i64 ((p : Int) + 1)] wx fun e w' => e = .returned (.tuple #[.int .i64 n, .int .i64 to]) ∧ Gr wx w') (ht : 0 ≤ to) (hx : n ≤ 255) (hf : Ins.floatB (64768 + n) = true) :
  Calls Try.prog 16 #[.slice (some ⟨b, off, none⟩) len c, .int .i64 p] w fun e w' => e = .returned (.tuple #[.int .i64 0, .int .i64 0, .int .i64 11]) ∧ Gr w w' := by
 have d0 : decide ((p : Int) ≥ (len : Int)) = false := decide_eq_false (by omega)
 have d1 : (p : Int) < (len : Int) := by omega
 have T1 : IntKind.i64.wrap ((p : Int) + 1) = (p : Int) + 1 := by rw [IntKind.wrap_i64]; omega
 have T3 : IntKind.i64.wrap (64768 + n) = 64768 + n := by rw [IntKind.wrap_i64]; omega
 have HU := Lib.hid hu
 have x1 : decide (to < 0) = false := decide_eq_false (by omega)
 have x2 : decide (n > 255) = false := decide_eq_false (by omega)
 have HFL := Lib.hid (fun wx => (Ins.rfloat_any (64768 + n) wx).mono (show ∀ (e : Ending) (w' : World), (e = .returned (.bool (Ins.floatB (64768 + n))) ∧ Gr wx w') → e = .returned (.bool true) ∧ Gr wx w' from fun e w' h => by rw [hf] at h; exact h))
 clear ht hx hf
 clear hu hl hn
 go_enter Try.func16, Try.ntmps16
 go_wp2_with fail
 refine (HU.out w (Gr.refl w)).mono ?_
 rintro e w3 ⟨rfl, hg3⟩
 have HG3 := Lib.hid hg3
 clear hg3
 go_wp2_with fail
 refine (HFL.out w3).mono ?_
 rintro e w5 ⟨rfl, hg5⟩
 have HG5 := Lib.hid (gr_trans HG3.out hg5)
 clear hg5
 go_wp2
 go_ret3
 exact ⟨rfl, HG5.out⟩
set_option maxRecDepth 100000 in
set_option maxHeartbeats 4000000 in
theorem ropc_253n {w : World} {b off len c p : Nat} {n to : Int} (hp : p < len) (hl : len ≤ 1099511627776) (hn : 0 ≤ n ∧ n < 4294967296) (hc : w.cell? ⟨b, off + p, none⟩ = some (.int .u8 253)) (hu : ∀ wx, Gr w wx → Calls Try.prog 31 #[.slice (some ⟨b, off, none⟩) len c, .int .i64 ((p : Int) + 1)] wx fun e w' => e = .returned (.tuple #[.int .i64 n, .int .i64 to]) ∧ Gr wx w') (ht : 0 ≤ to) (hx : n ≤ 255) (hf : Ins.floatB (64768 + n) = false) (hm : fm (64768 + n) = 0) :
  Calls Try.prog 16 #[.slice (some ⟨b, off, none⟩) len c, .int .i64 p] w fun e w' => e = .returned (.tuple #[.int .i64 0, .int .i64 0, .int .i64 10]) ∧ Gr w w' := by
 have d0 : decide ((p : Int) ≥ (len : Int)) = false := decide_eq_false (by omega)
 have d1 : (p : Int) < (len : Int) := by omega
 have T1 : IntKind.i64.wrap ((p : Int) + 1) = (p : Int) + 1 := by rw [IntKind.wrap_i64]; omega
 have T3 : IntKind.i64.wrap (64768 + n) = 64768 + n := by rw [IntKind.wrap_i64]; omega
 have HU := Lib.hid hu
 have x1 : decide (to < 0) = false := decide_eq_false (by omega)
 have x2 : decide (n > 255) = false := decide_eq_false (by omega)
 have HFL := Lib.hid (fun wx => (Ins.rfloat_any (64768 + n) wx).mono (show ∀ (e : Ending) (w' : World), (e = .returned (.bool (Ins.floatB (64768 + n))) ∧ Gr wx w') → e = .returned (.bool false) ∧ Gr wx w' from fun e w' h => by rw [hf] at h; exact h))
 have HOF := Lib.hid (fun wx => (rof_fm (64768 + n) (by omega) wx).mono (show ∀ (e : Ending) (w' : World), OFX (64768 + n) wx e w' → ∃ lv pv xi ni ci xo no co, e = .returned (.tuple #[.agg #[.int .i64 (fm (64768 + n)), .int .i64 lv, .bool pv, .slice xi ni ci, .slice xo no co], .bool false]) ∧ Gr wx w' from fun e w' ⟨lv, pv, xi, ni, ci, xo, no, co, h, hg⟩ => ⟨lv, pv, xi, ni, ci, xo, no, co, by rw [h]; rw [show (fm (64768 + n) != 0) = false by simpa using hm], hg⟩))
 clear ht hx hf hm
 clear hu hl hn
 go_enter Try.func16, Try.ntmps16
 go_wp2_with fail
 refine (HU.out w (Gr.refl w)).mono ?_
 rintro e w3 ⟨rfl, hg3⟩
 have HG3 := Lib.hid hg3
 clear hg3
 go_wp2_with fail
 refine (HFL.out w3).mono ?_
 rintro e w5 ⟨rfl, hg5⟩
 have HG5 := Lib.hid (gr_trans HG3.out hg5)
 clear hg5
 go_wp2_with fail
 refine (HOF.out w5).mono ?_
 rintro e w6 ⟨lv, pv, xi, ni, ci, xo, no, co, rfl, hg6⟩
 have HG6 := Lib.hid (gr_trans HG5.out hg6)
 clear hg6
 go_upto_region 18 with (refine wpList_store_row rfl 50 _ _ rfl w6.heap.size #[.int .i64 (fm (64768 + n)), .int .i64 lv, .bool pv, .slice xi ni ci, .slice xo no co] rfl rfl 50 #[.int .i64 0, .int .i64 0, .bool false, .slice none 0 0, .slice none 0 0] (heap_alloc_new w6 _) infoIf rfl (by kernel_rfl) ?_)
 have hrw := Sep.setRow (ex := fun b => b = w6.heap.size) (w6.alloc (.cells #[.int .i64 0, .int .i64 0, .bool false, .slice none 0 0, .slice none 0 0] 50)) rfl #[.int .i64 (fm (64768 + n)), .int .i64 lv, .bool pv, .slice xi ni ci, .slice xo no co]
 have HG7 := Lib.hid (Sep.toGr (gr_trans HG6.out ((Gr.refl w6).alloc #[.int .i64 0, .int .i64 0, .bool false, .slice none 0 0, .slice none 0 0] 50)) hrw (fun q hq => by have e' : q = w6.heap.size := hq; have := HG6.out.size; omega))
 generalize (w6.alloc (.cells #[.int .i64 0, .int .i64 0, .bool false, .slice none 0 0, .slice none 0 0] 50)).setRow w6.heap.size #[.int .i64 (fm (64768 + n)), .int .i64 lv, .bool pv, .slice xi ni ci, .slice xo no co] = w7 at *
 clear hrw
 go_wp2
 go_ret3
 exact ⟨rfl, HG7.out⟩
set_option maxRecDepth 100000 in
set_option maxHeartbeats 4000000 in
theorem ropc_253y {w : World} {b off len c p : Nat} {n to : Int} (hp : p < len) (hl : len ≤ 1099511627776) (hn : 0 ≤ n ∧ n < 4294967296) (hc : w.cell? ⟨b, off + p, none⟩ = some (.int .u8 253)) (hu : ∀ wx, Gr w wx → Calls Try.prog 31 #[.slice (some ⟨b, off, none⟩) len c, .int .i64 ((p : Int) + 1)] wx fun e w' => e = .returned (.tuple #[.int .i64 n, .int .i64 to]) ∧ Gr wx w') (ht : 0 ≤ to) (hx : n ≤ 255) (hf : Ins.floatB (64768 + n) = false) (hm : fm (64768 + n) ≠ 0) :
  Calls Try.prog 16 #[.slice (some ⟨b, off, none⟩) len c, .int .i64 p] w fun e w' => e = .returned (.tuple #[.int .i64 (64768 + n), .int .i64 to, .int .i64 0]) ∧ Gr w w' := by
 have d0 : decide ((p : Int) ≥ (len : Int)) = false := decide_eq_false (by omega)
 have d1 : (p : Int) < (len : Int) := by omega
 have T1 : IntKind.i64.wrap ((p : Int) + 1) = (p : Int) + 1 := by rw [IntKind.wrap_i64]; omega
 have T3 : IntKind.i64.wrap (64768 + n) = 64768 + n := by rw [IntKind.wrap_i64]; omega
 have HU := Lib.hid hu
 have x1 : decide (to < 0) = false := decide_eq_false (by omega)
 have x2 : decide (n > 255) = false := decide_eq_false (by omega)
 have HFL := Lib.hid (fun wx => (Ins.rfloat_any (64768 + n) wx).mono (show ∀ (e : Ending) (w' : World), (e = .returned (.bool (Ins.floatB (64768 + n))) ∧ Gr wx w') → e = .returned (.bool false) ∧ Gr wx w' from fun e w' h => by rw [hf] at h; exact h))
 have HOF := Lib.hid (fun wx => (rof_fm (64768 + n) (by omega) wx).mono (show ∀ (e : Ending) (w' : World), OFX (64768 + n) wx e w' → ∃ lv pv xi ni ci xo no co, e = .returned (.tuple #[.agg #[.int .i64 (fm (64768 + n)), .int .i64 lv, .bool pv, .slice xi ni ci, .slice xo no co], .bool true]) ∧ Gr wx w' from fun e w' ⟨lv, pv, xi, ni, ci, xo, no, co, h, hg⟩ => ⟨lv, pv, xi, ni, ci, xo, no, co, by rw [h]; rw [show (fm (64768 + n) != 0) = true by simpa using hm], hg⟩))
 clear ht hx hf hm
 clear hu hl hn
 go_enter Try.func16, Try.ntmps16
 go_wp2_with fail
 refine (HU.out w (Gr.refl w)).mono ?_
 rintro e w3 ⟨rfl, hg3⟩
 have HG3 := Lib.hid hg3
 clear hg3
 go_wp2_with fail
 refine (HFL.out w3).mono ?_
 rintro e w5 ⟨rfl, hg5⟩
 have HG5 := Lib.hid (gr_trans HG3.out hg5)
 clear hg5
 go_wp2_with fail
 refine (HOF.out w5).mono ?_
 rintro e w6 ⟨lv, pv, xi, ni, ci, xo, no, co, rfl, hg6⟩
 have HG6 := Lib.hid (gr_trans HG5.out hg6)
 clear hg6
 go_upto_region 18 with (refine wpList_store_row rfl 50 _ _ rfl w6.heap.size #[.int .i64 (fm (64768 + n)), .int .i64 lv, .bool pv, .slice xi ni ci, .slice xo no co] rfl rfl 50 #[.int .i64 0, .int .i64 0, .bool false, .slice none 0 0, .slice none 0 0] (heap_alloc_new w6 _) infoIf rfl (by kernel_rfl) ?_)
 have hrw := Sep.setRow (ex := fun b => b = w6.heap.size) (w6.alloc (.cells #[.int .i64 0, .int .i64 0, .bool false, .slice none 0 0, .slice none 0 0] 50)) rfl #[.int .i64 (fm (64768 + n)), .int .i64 lv, .bool pv, .slice xi ni ci, .slice xo no co]
 have HG7 := Lib.hid (Sep.toGr (gr_trans HG6.out ((Gr.refl w6).alloc #[.int .i64 0, .int .i64 0, .bool false, .slice none 0 0, .slice none 0 0] 50)) hrw (fun q hq => by have e' : q = w6.heap.size := hq; have := HG6.out.size; omega))
 generalize (w6.alloc (.cells #[.int .i64 0, .int .i64 0, .bool false, .slice none 0 0, .slice none 0 0] 50)).setRow w6.heap.size #[.int .i64 (fm (64768 + n)), .int .i64 lv, .bool pv, .slice xi ni ci, .slice xo no co] = w7 at *
 clear hrw
 go_wp2
 go_ret3
 exact ⟨rfl, HG7.out⟩
theorem float_hi {op : Int} (h : 65023 < op) : Ins.floatB op = false := by
 unfold Ins.floatB
 refine decide_eq_false fun h' => ?_
 unfold Ins.Flt at h'
 omega
theorem fm_hi {op : Int} (h : 65023 < op) : fm op = 0 := Decidable.byContradiction fun e => by have := fm_rng e; omega
theorem u8s_cell {w : World} {sv : Value} {len : Nat} {f : Nat → Int} (h : U8s w sv len f) (hl : 0 < len) : ∃ b off c, sv = .slice (some ⟨b, off, none⟩) len c ∧ ∀ j, j < len → w.cell? ⟨b, off + j, none⟩ = some (.int .u8 (f j)) := by
 rcases h with ⟨rfl, _⟩ | ⟨_, b, off, c, rfl, hc⟩
 ·omega
 ·exact ⟨b, off, c, rfl, hc⟩
set_option maxHeartbeats 1000000 in
theorem ropcode_any {w : World} {sv : Value} {len : Nat} (hl : len ≤ 1099511627776) {f : Nat → Int} (hf : By f) (h : U8s w sv len f) (p : Nat) :
  Calls Try.prog 16 #[sv, .int .i64 p] w fun e w' => e = .returned (.tuple #[.int .i64 (opR f len p).1, .int .i64 (opR f len p).2.1, .int .i64 (opR f len p).2.2]) ∧ Gr w w' := by
 by_cases hp : p < len
 case neg =>
  obtain ⟨x, c, rfl⟩ := u8s_slice h
  have e : opcS f len ⟨p, 0⟩ = (0, ⟨p, 10⟩) := by
   have e1 : octS f len ⟨p, 0⟩ = (0, ⟨p, 10⟩) := by unfold octS; rw [if_pos (.inr (by dsimp only; omega))]; rfl
   unfold opcS; rw [e1]; rfl
  rw [opR_bad e (by decide)]
  exact ropc_end (by omega)
 obtain ⟨b, off, c, rfl, hc⟩ := u8s_cell h (by omega)
 have hcp := hc p hp
 have hy := hf p
 have e1 : octS f len ⟨p, 0⟩ = (f p, ⟨(p : Int) + 1, 0⟩) := by
  unfold octS
  dsimp only
  rw [if_neg (by omega), Int.toNat_natCast]
 have hu : ∀ wx, Gr w wx → Calls Try.prog 31 #[.slice (some ⟨b, off, none⟩) len c, .int .i64 ((p : Int) + 1)] wx fun e w' => e = .returned (.tuple #[.int .i64 (u32S f len ((p : Int) + 1)).1, .int .i64 (u32S f len ((p : Int) + 1)).2]) ∧ Gr wx w' := fun wx hg => u32_any hl hf _ (u8s_gr h hg)
 have hn := numS_bd hf (len := len) ⟨(p : Int) + 1, 0⟩
 have hto := numS_ok (f := f) (s := ⟨(p : Int) + 1, 0⟩) (len := len) ⟨by dsimp only; omega, by dsimp only; omega⟩
 have hE := E.num (f := f) (len := len) (s := ⟨(p : Int) + 1, 0⟩) (.inl rfl)
 have hnc := num_cases f len ((p : Int) + 1)
 have e2 : opcS f len ⟨p, 0⟩ = if f p = 253 then (64768 + (numS f len ⟨(p : Int) + 1, 0⟩).1, (numS f len ⟨(p : Int) + 1, 0⟩).2) else if f p = 252 then (0, failS (if (numS f len ⟨(p : Int) + 1, 0⟩).1 < 8 ∧ (numS f len ⟨(p : Int) + 1, 0⟩).2.e = 0 then failS (numS f len ⟨(p : Int) + 1, 0⟩).2 11 else (numS f len ⟨(p : Int) + 1, 0⟩).2) 10) else (f p, ⟨(p : Int) + 1, 0⟩) := by
  unfold opcS; rw [e1]
 have hu32 : u32S f len ((p : Int) + 1) = if (numS f len ⟨(p : Int) + 1, 0⟩).2.e = 0 then ((numS f len ⟨(p : Int) + 1, 0⟩).1, (numS f len ⟨(p : Int) + 1, 0⟩).2.a) else (0, -1) := rfl
 have hcs : (∃ n to, numS f len ⟨(p : Int) + 1, 0⟩ = (n, ⟨to, 0⟩)) ∨ numS f len ⟨(p : Int) + 1, 0⟩ = (0, ⟨(p : Int) + 1, 10⟩) := by
  rcases hnc with ⟨_, h2⟩ | ⟨_, h2⟩
  ·exact .inl ⟨_, _, h2⟩
  ·exact .inr h2
 clear hnc
 generalize f p = y at *
 generalize numS f len ⟨(p : Int) + 1, 0⟩ = q at *
 generalize u32S f len ((p : Int) + 1) = r at *
 by_cases h253 : y = 253
 ·subst h253
  rw [if_pos rfl] at e2
  rcases hcs with ⟨n, to, rfl⟩ | rfl
  ·dsimp only at hn hto e2 hu32
   rw [if_pos rfl] at hu32
   subst hu32
   rw [opR_ok e2]
   have ht := hto.lo
   dsimp only at ht
   by_cases h255 : 255 < n
   ·rw [float_hi (by omega), if_neg (by decide), if_pos (fm_hi (by omega))]
    exact ropc_253h hp hl hn hcp hu ht h255
   ·by_cases hfl : Ins.floatB (64768 + n) = true
    ·rw [if_pos hfl]
     exact ropc_253f hp hl hn hcp hu ht (by omega) hfl
    ·rw [if_neg hfl]
     have hfl' : Ins.floatB (64768 + n) = false := by simpa using hfl
     by_cases hm : fm (64768 + n) = 0
     ·rw [if_pos hm]
      exact ropc_253n hp hl hn hcp hu ht (by omega) hfl' hm
     ·rw [if_neg hm]
      exact ropc_253y hp hl hn hcp hu ht (by omega) hfl' hm
  ·dsimp only at e2 hu32
   rw [if_neg (by decide)] at hu32
   subst hu32
   rw [opR_bad e2 (by decide)]
   exact ropc_253b hp hl (by decide) hcp hu (by decide)
 ·rw [if_neg h253] at e2
  by_cases h252 : y = 252
  ·subst h252
   rw [if_pos rfl] at e2
   rcases hcs with ⟨n, to, rfl⟩ | rfl
   ·dsimp only at hn hto e2 hu32
    rw [if_pos rfl] at hu32
    subst hu32
    have ht := hto.lo
    dsimp only at ht
    by_cases h7 : n ≤ 7
    ·have e3 : opcS f len ⟨p, 0⟩ = (0, ⟨to, 11⟩) := by rw [e2, if_pos ⟨by omega, rfl⟩]; rfl
     rw [opR_bad e3 (by decide)]
     exact ropc_252l hp hl hn hcp hu ht h7
    ·have e3 : opcS f len ⟨p, 0⟩ = (0, ⟨to, 10⟩) := by rw [e2, if_neg (fun h => by omega)]; rfl
     rw [opR_bad e3 (by decide)]
     exact ropc_252h hp hl hn hcp hu ht (by omega)
   ·dsimp only at e2 hu32
    rw [if_neg (by decide)] at hu32
    subst hu32
    have e3 : opcS f len ⟨p, 0⟩ = (0, ⟨(p : Int) + 1, 10⟩) := by rw [e2, if_neg (fun h => by have := h.2; simp at this)]; rfl
    rw [opR_bad e3 (by decide)]
    exact ropc_252b hp hl (by decide) hcp hu (by decide)
  ·rw [if_neg h252] at e2
   rw [opR_ok e2]
   by_cases hfl : Ins.floatB y = true
   ·rw [if_pos hfl]
    exact ropc_f hp hl hy h252 h253 hcp hfl
   ·rw [if_neg hfl]
    have hfl' : Ins.floatB y = false := by simpa using hfl
    by_cases hm : fm y = 0
    ·rw [if_pos hm]
     exact ropc_n hp hl hy h252 h253 hcp hfl' hm
    ·rw [if_neg hm]
     exact ropc_y hp hl hy h252 h253 hcp hfl' hm
end Ex
end
section
open Go.RowKit VecM LebM
namespace Ex
def kdR (f : Nat → Int) (len : Nat) (a : Int) : Int × Int × Int :=
 if (blkS f len ⟨a, 0⟩).2.e = 0 then ((blkS f len ⟨a, 0⟩).1, (blkS f len ⟨a, 0⟩).2.a, 0) else (0, 0, (blkS f len ⟨a, 0⟩).2.e)
set_option maxRecDepth 100000 in
set_option maxHeartbeats 4000000 in
theorem rk_125 {w : World} {b off len c p : Nat}  (_hl : len ≤ 1099511627776) (hp : p < len) (hc : w.cell? ⟨b, off + p, none⟩ = some (.int .u8 125)) :
  Calls Try.prog 37 #[.slice (some ⟨b, off, none⟩) len c, .int .i64 p] w fun e w' => e = .returned (.tuple #[.int .i64 0, .int .i64 0, .int .i64 11]) ∧ Gr w w' := by
 have d0 : decide ((p : Int) < (len : Int)) = true := decide_eq_true (by omega)
 have d1 : (p : Int) < (len : Int) := by omega
 clear _hl
 go_enter Try.func37, Try.ntmps37
 go_wp2
 go_ret3
 exact ⟨rfl, Gr.refl _⟩
set_option maxRecDepth 100000 in
set_option maxHeartbeats 4000000 in
theorem rk_124 {w : World} {b off len c p : Nat}  (_hl : len ≤ 1099511627776) (hp : p < len) (hc : w.cell? ⟨b, off + p, none⟩ = some (.int .u8 124)) :
  Calls Try.prog 37 #[.slice (some ⟨b, off, none⟩) len c, .int .i64 p] w fun e w' => e = .returned (.tuple #[.int .i64 0, .int .i64 0, .int .i64 11]) ∧ Gr w w' := by
 have d0 : decide ((p : Int) < (len : Int)) = true := decide_eq_true (by omega)
 have d1 : (p : Int) < (len : Int) := by omega
 clear _hl
 go_enter Try.func37, Try.ntmps37
 go_wp2
 go_ret3
 exact ⟨rfl, Gr.refl _⟩
set_option maxRecDepth 100000 in
set_option maxHeartbeats 4000000 in
theorem rk_64 {w : World} {b off len c p : Nat}  (hl : len ≤ 1099511627776) (hp : p < len) (hc : w.cell? ⟨b, off + p, none⟩ = some (.int .u8 64)) :
  Calls Try.prog 37 #[.slice (some ⟨b, off, none⟩) len c, .int .i64 p] w fun e w' => e = .returned (.tuple #[.int .i64 (-64), .int .i64 ((p : Int) + 1), .int .i64 0]) ∧ Gr w w' := by
 have d0 : decide ((p : Int) < (len : Int)) = true := decide_eq_true (by omega)
 have d1 : (p : Int) < (len : Int) := by omega
 have T1 : IntKind.i64.wrap ((p : Int) + 1) = (p : Int) + 1 := by rw [IntKind.wrap_i64]; omega
 clear hl
 go_enter Try.func37, Try.ntmps37
 go_wp2
 go_ret3
 exact ⟨rfl, Gr.refl _⟩
set_option maxRecDepth 100000 in
set_option maxHeartbeats 4000000 in
theorem rk_127 {w : World} {b off len c p : Nat}  (hl : len ≤ 1099511627776) (hp : p < len) (hc : w.cell? ⟨b, off + p, none⟩ = some (.int .u8 127)) :
  Calls Try.prog 37 #[.slice (some ⟨b, off, none⟩) len c, .int .i64 p] w fun e w' => e = .returned (.tuple #[.int .i64 (-1), .int .i64 ((p : Int) + 1), .int .i64 0]) ∧ Gr w w' := by
 have d0 : decide ((p : Int) < (len : Int)) = true := decide_eq_true (by omega)
 have d1 : (p : Int) < (len : Int) := by omega
 have T1 : IntKind.i64.wrap ((p : Int) + 1) = (p : Int) + 1 := by rw [IntKind.wrap_i64]; omega
 clear hl
 go_enter Try.func37, Try.ntmps37
 go_wp2
 go_ret3
 exact ⟨rfl, Gr.refl _⟩
set_option maxRecDepth 100000 in
set_option maxHeartbeats 4000000 in
theorem rk_126 {w : World} {b off len c p : Nat}  (hl : len ≤ 1099511627776) (hp : p < len) (hc : w.cell? ⟨b, off + p, none⟩ = some (.int .u8 126)) :
  Calls Try.prog 37 #[.slice (some ⟨b, off, none⟩) len c, .int .i64 p] w fun e w' => e = .returned (.tuple #[.int .i64 (-2), .int .i64 ((p : Int) + 1), .int .i64 0]) ∧ Gr w w' := by
 have d0 : decide ((p : Int) < (len : Int)) = true := decide_eq_true (by omega)
 have d1 : (p : Int) < (len : Int) := by omega
 have T1 : IntKind.i64.wrap ((p : Int) + 1) = (p : Int) + 1 := by rw [IntKind.wrap_i64]; omega
 clear hl
 go_enter Try.func37, Try.ntmps37
 go_wp2
 go_ret3
 exact ⟨rfl, Gr.refl _⟩
set_option maxRecDepth 100000 in
set_option maxHeartbeats 4000000 in
theorem rk_123 {w : World} {b off len c p : Nat}  (hl : len ≤ 1099511627776) (hp : p < len) (hc : w.cell? ⟨b, off + p, none⟩ = some (.int .u8 123)) :
  Calls Try.prog 37 #[.slice (some ⟨b, off, none⟩) len c, .int .i64 p] w fun e w' => e = .returned (.tuple #[.int .i64 (-5), .int .i64 ((p : Int) + 1), .int .i64 0]) ∧ Gr w w' := by
 have d0 : decide ((p : Int) < (len : Int)) = true := decide_eq_true (by omega)
 have d1 : (p : Int) < (len : Int) := by omega
 have T1 : IntKind.i64.wrap ((p : Int) + 1) = (p : Int) + 1 := by rw [IntKind.wrap_i64]; omega
 clear hl
 go_enter Try.func37, Try.ntmps37
 go_wp2
 go_ret3
 exact ⟨rfl, Gr.refl _⟩
set_option maxRecDepth 100000 in
set_option maxHeartbeats 4000000 in
theorem rk_eb {w : World} {x : Option Addr} {len c p : Nat} {v to er : Int} (_hl : len ≤ 1099511627776) (hx : len ≤ p) (hs : ∀ wx, Gr w wx → Calls Try.prog 39 #[.slice x len c, .int .i64 p, .int .i64 33] wx fun e w' => e = .returned (.tuple #[.int .i64 v, .int .i64 to, .int .i64 er]) ∧ Gr wx w') (he : er ≠ 0) :
  Calls Try.prog 37 #[.slice x len c, .int .i64 p] w fun e w' => e = .returned (.tuple #[.int .i64 0, .int .i64 0, .int .i64 10]) ∧ Gr w w' := by
 have d0 : decide ((p : Int) < (len : Int)) = false := decide_eq_false (by omega)
 have HS := Lib.hid hs
 have x1 : (er != 0) = true := by simpa using he
 clear hs he _hl
 go_enter Try.func37, Try.ntmps37
 go_wp2_with fail
 refine (HS.out w (Gr.refl w)).mono ?_
 rintro e w3 ⟨rfl, hg3⟩
 have HG3 := Lib.hid hg3
 clear hg3
 go_wp2
 go_ret3
 exact ⟨rfl, HG3.out⟩
set_option maxRecDepth 100000 in
set_option maxHeartbeats 4000000 in
theorem rk_en {w : World} {x : Option Addr} {len c p : Nat} {v to : Int} (_hl : len ≤ 1099511627776) (hx : len ≤ p) (hs : ∀ wx, Gr w wx → Calls Try.prog 39 #[.slice x len c, .int .i64 p, .int .i64 33] wx fun e w' => e = .returned (.tuple #[.int .i64 v, .int .i64 to, .int .i64 0]) ∧ Gr wx w') (hv : v < 0) :
  Calls Try.prog 37 #[.slice x len c, .int .i64 p] w fun e w' => e = .returned (.tuple #[.int .i64 0, .int .i64 0, .int .i64 10]) ∧ Gr w w' := by
 have d0 : decide ((p : Int) < (len : Int)) = false := decide_eq_false (by omega)
 have HS := Lib.hid hs
 have x1 : decide (v < 0) = true := decide_eq_true hv
 clear hs hv _hl
 go_enter Try.func37, Try.ntmps37
 go_wp2_with fail
 refine (HS.out w (Gr.refl w)).mono ?_
 rintro e w3 ⟨rfl, hg3⟩
 have HG3 := Lib.hid hg3
 clear hg3
 go_wp2
 go_ret3
 exact ⟨rfl, HG3.out⟩
set_option maxRecDepth 100000 in
set_option maxHeartbeats 4000000 in
theorem rk_ey {w : World} {x : Option Addr} {len c p : Nat} {v to : Int} (_hl : len ≤ 1099511627776) (hx : len ≤ p) (hs : ∀ wx, Gr w wx → Calls Try.prog 39 #[.slice x len c, .int .i64 p, .int .i64 33] wx fun e w' => e = .returned (.tuple #[.int .i64 v, .int .i64 to, .int .i64 0]) ∧ Gr wx w') (hv : 0 ≤ v) :
  Calls Try.prog 37 #[.slice x len c, .int .i64 p] w fun e w' => e = .returned (.tuple #[.int .i64 v, .int .i64 to, .int .i64 0]) ∧ Gr w w' := by
 have d0 : decide ((p : Int) < (len : Int)) = false := decide_eq_false (by omega)
 have HS := Lib.hid hs
 have x1 : decide (v < 0) = false := decide_eq_false (by omega)
 clear hs hv _hl
 go_enter Try.func37, Try.ntmps37
 go_wp2_with fail
 refine (HS.out w (Gr.refl w)).mono ?_
 rintro e w3 ⟨rfl, hg3⟩
 have HG3 := Lib.hid hg3
 clear hg3
 go_wp2
 go_ret3
 exact ⟨rfl, HG3.out⟩
set_option maxRecDepth 100000 in
set_option maxHeartbeats 4000000 in
theorem rk_tb {w : World} {b off len c p : Nat} {y v to er : Int} (_hl : len ≤ 1099511627776) (hp : p < len) (hc : w.cell? ⟨b, off + p, none⟩ = some (.int .u8 y)) (h1 : y ≠ 125) (h2 : y ≠ 124) (h3 : y ≠ 64) (h4 : y ≠ 127) (h5 : y ≠ 126) (h6 : y ≠ 123) (hs : ∀ wx, Gr w wx → Calls Try.prog 39 #[.slice (some ⟨b, off, none⟩) len c, .int .i64 p, .int .i64 33] wx fun e w' => e = .returned (.tuple #[.int .i64 v, .int .i64 to, .int .i64 er]) ∧ Gr wx w') (he : er ≠ 0) :
  Calls Try.prog 37 #[.slice (some ⟨b, off, none⟩) len c, .int .i64 p] w fun e w' => e = .returned (.tuple #[.int .i64 0, .int .i64 0, .int .i64 10]) ∧ Gr w w' := by
 have d0 : decide ((p : Int) < (len : Int)) = true := decide_eq_true (by omega)
 have d1 : (p : Int) < (len : Int) := by omega
 have n1 : (y == 125) = false := by simpa using h1
 have n2 : (y == 124) = false := by simpa using h2
 have n3 : (y == 64) = false := by simpa using h3
 have n4 : (y == 127) = false := by simpa using h4
 have n5 : (y == 126) = false := by simpa using h5
 have n6 : (y == 123) = false := by simpa using h6
 clear h1 h2 h3 h4 h5 h6
 have HS := Lib.hid hs
 have x1 : (er != 0) = true := by simpa using he
 clear hs he _hl
 go_enter Try.func37, Try.ntmps37
 go_wp2_with fail
 refine (HS.out w (Gr.refl w)).mono ?_
 rintro e w3 ⟨rfl, hg3⟩
 have HG3 := Lib.hid hg3
 clear hg3
 go_wp2
 go_ret3
 exact ⟨rfl, HG3.out⟩
set_option maxRecDepth 100000 in
set_option maxHeartbeats 4000000 in
theorem rk_tn {w : World} {b off len c p : Nat} {y v to : Int} (_hl : len ≤ 1099511627776) (hp : p < len) (hc : w.cell? ⟨b, off + p, none⟩ = some (.int .u8 y)) (h1 : y ≠ 125) (h2 : y ≠ 124) (h3 : y ≠ 64) (h4 : y ≠ 127) (h5 : y ≠ 126) (h6 : y ≠ 123) (hs : ∀ wx, Gr w wx → Calls Try.prog 39 #[.slice (some ⟨b, off, none⟩) len c, .int .i64 p, .int .i64 33] wx fun e w' => e = .returned (.tuple #[.int .i64 v, .int .i64 to, .int .i64 0]) ∧ Gr wx w') (hv : v < 0) :
  Calls Try.prog 37 #[.slice (some ⟨b, off, none⟩) len c, .int .i64 p] w fun e w' => e = .returned (.tuple #[.int .i64 0, .int .i64 0, .int .i64 10]) ∧ Gr w w' := by
 have d0 : decide ((p : Int) < (len : Int)) = true := decide_eq_true (by omega)
 have d1 : (p : Int) < (len : Int) := by omega
 have n1 : (y == 125) = false := by simpa using h1
 have n2 : (y == 124) = false := by simpa using h2
 have n3 : (y == 64) = false := by simpa using h3
 have n4 : (y == 127) = false := by simpa using h4
 have n5 : (y == 126) = false := by simpa using h5
 have n6 : (y == 123) = false := by simpa using h6
 clear h1 h2 h3 h4 h5 h6
 have HS := Lib.hid hs
 have x1 : decide (v < 0) = true := decide_eq_true hv
 clear hs hv _hl
 go_enter Try.func37, Try.ntmps37
 go_wp2_with fail
 refine (HS.out w (Gr.refl w)).mono ?_
 rintro e w3 ⟨rfl, hg3⟩
 have HG3 := Lib.hid hg3
 clear hg3
 go_wp2
 go_ret3
 exact ⟨rfl, HG3.out⟩
set_option maxRecDepth 100000 in
set_option maxHeartbeats 4000000 in
theorem rk_ty {w : World} {b off len c p : Nat} {y v to : Int} (_hl : len ≤ 1099511627776) (hp : p < len) (hc : w.cell? ⟨b, off + p, none⟩ = some (.int .u8 y)) (h1 : y ≠ 125) (h2 : y ≠ 124) (h3 : y ≠ 64) (h4 : y ≠ 127) (h5 : y ≠ 126) (h6 : y ≠ 123) (hs : ∀ wx, Gr w wx → Calls Try.prog 39 #[.slice (some ⟨b, off, none⟩) len c, .int .i64 p, .int .i64 33] wx fun e w' => e = .returned (.tuple #[.int .i64 v, .int .i64 to, .int .i64 0]) ∧ Gr wx w') (hv : 0 ≤ v) :
  Calls Try.prog 37 #[.slice (some ⟨b, off, none⟩) len c, .int .i64 p] w fun e w' => e = .returned (.tuple #[.int .i64 v, .int .i64 to, .int .i64 0]) ∧ Gr w w' := by
 have d0 : decide ((p : Int) < (len : Int)) = true := decide_eq_true (by omega)
 have d1 : (p : Int) < (len : Int) := by omega
 have n1 : (y == 125) = false := by simpa using h1
 have n2 : (y == 124) = false := by simpa using h2
 have n3 : (y == 64) = false := by simpa using h3
 have n4 : (y == 127) = false := by simpa using h4
 have n5 : (y == 126) = false := by simpa using h5
 have n6 : (y == 123) = false := by simpa using h6
 clear h1 h2 h3 h4 h5 h6
 have HS := Lib.hid hs
 have x1 : decide (v < 0) = false := decide_eq_false (by omega)
 clear hs hv _hl
 go_enter Try.func37, Try.ntmps37
 go_wp2_with fail
 refine (HS.out w (Gr.refl w)).mono ?_
 rintro e w3 ⟨rfl, hg3⟩
 have HG3 := Lib.hid hg3
 clear hg3
 go_wp2
 go_ret3
 exact ⟨rfl, HG3.out⟩
theorem sgn_cases (f : Nat → Int) (len : Nat) (a bits : Int) : ((LebM.read true f len a bits).2.2.2 = 0 ∧ sgnS f len bits ⟨a, 0⟩ = (sval (LebM.read true f len a bits).1 (LebM.read true f len a bits).2.1, ⟨(LebM.read true f len a bits).2.2.1, 0⟩)) ∨ ((LebM.read true f len a bits).2.2.2 ≠ 0 ∧ sgnS f len bits ⟨a, 0⟩ = (0, ⟨a, 10⟩)) := by
 by_cases h : (LebM.read true f len a bits).2.2.2 = 0
 ·left
  refine ⟨h, ?_⟩
  unfold sgnS
  rw [if_neg (by simp [h])]
 ·right
  refine ⟨h, ?_⟩
  unfold sgnS
  rw [if_pos (.inr h)]; rfl
theorem kdR_of {f : Nat → Int} {len : Nat} {a v a' : Int} (h : blkS f len ⟨a, 0⟩ = (v, ⟨a', 0⟩)) : kdR f len a = (v, a', 0) := by
 unfold kdR; rw [h]; exact if_pos rfl
theorem kdR_bad {f : Nat → Int} {len : Nat} {a v a' x : Int} (h : blkS f len ⟨a, 0⟩ = (v, ⟨a', x⟩)) (hx : x ≠ 0) : kdR f len a = (0, 0, x) := by
 unfold kdR; rw [h]; exact if_neg hx
set_option maxHeartbeats 1000000 in
theorem rkind_any {w : World} {sv : Value} {len : Nat} (hl : len ≤ 1099511627776) {f : Nat → Int} (hf : By f) (h : U8s w sv len f) (p : Nat) :
  Calls Try.prog 37 #[sv, .int .i64 p] w fun e w' => e = .returned (.tuple #[.int .i64 (kdR f len p).1, .int .i64 (kdR f len p).2.1, .int .i64 (kdR f len p).2.2]) ∧ Gr w w' := by
 have hs : ∀ wx, Gr w wx → Calls Try.prog 39 #[sv, .int .i64 p, .int .i64 33] wx fun e w' => e = .returned (.tuple #[.int .i64 (sval (LebM.read true f len p 33).1 (LebM.read true f len p 33).2.1), .int .i64 (LebM.read true f len p 33).2.2.1, .int .i64 (LebM.read true f len p 33).2.2.2]) ∧ Gr wx w' := fun wx hg => rs_any sv len hl f hf p 33 wx (u8s_gr h hg)
 have hcs := sgn_cases f len p 33
 have ht : typS f len ⟨p, 0⟩ = ((sgnS f len 33 ⟨p, 0⟩).1, if (sgnS f len 33 ⟨p, 0⟩).1 < 0 then failS (sgnS f len 33 ⟨p, 0⟩).2 10 else (sgnS f len 33 ⟨p, 0⟩).2) := rfl
 by_cases hp : p < len
 case neg =>
  obtain ⟨x, c, rfl⟩ := u8s_slice h
  have e : blkS f len ⟨p, 0⟩ = typS f len ⟨p, 0⟩ := by unfold blkS; exact if_neg (fun h => by have := h.2; dsimp only at this; omega)
  rw [ht] at e
  generalize sgnS f len 33 ⟨p, 0⟩ = q at *
  generalize LebM.read true f len p 33 = r at *
  obtain ⟨r1, r2, to, er⟩ := r
  dsimp only at hcs hs
  rcases hcs with ⟨rfl, rfl⟩ | ⟨he, rfl⟩
  ·dsimp only at e
   by_cases hv : sval r1 r2 < 0
   ·rw [if_pos hv] at e
    rw [kdR_bad e (by decide)]
    exact rk_en hl (by omega) hs hv
   ·rw [if_neg hv] at e
    rw [kdR_of e]
    exact rk_ey hl (by omega) hs (by omega)
  ·dsimp only at e
   rw [if_neg (by decide)] at e
   rw [kdR_bad e (by decide)]
   exact rk_eb hl (by omega) hs he
 obtain ⟨b, off, c, rfl, hc⟩ := u8s_cell h (by omega)
 have hcp := hc p hp
 have e0 : blkS f len ⟨p, 0⟩ = if f p = 64 ∨ f p = 127 ∨ f p = 126 ∨ f p = 123 then sgnS f len 7 ⟨p, 0⟩ else if f p = 125 ∨ f p = 124 then typS f len ⟨p, 11⟩ else typS f len ⟨p, 0⟩ := by
  unfold blkS
  dsimp only
  rw [if_pos ⟨rfl, by omega⟩, Int.toNat_natCast]
  rfl
 have h7 : ∀ n : Int, -64 ≤ n → n < 0 → f p = n % 128 → sgnS f len 7 ⟨p, 0⟩ = (n, ⟨(p : Int) + 1, 0⟩) := fun n g1 g2 g3 => (sgn7 (s := ⟨p, 0⟩) rfl (by dsimp only; omega) (by dsimp only; omega) ⟨g1, g2⟩ (by dsimp only; rw [Int.toNat_natCast]; exact g3)).1
 have h11 : typS f len ⟨p, 11⟩ = (0, ⟨p, 11⟩) := by
  unfold typS
  have e : sgnS f len 33 ⟨p, 11⟩ = (0, ⟨p, 11⟩) := by unfold sgnS; rw [if_pos (.inl (by simp))]; rfl
  rw [e]; rfl
 by_cases k1 : f p = 64
 ·rw [k1] at hcp
  rw [if_pos (.inl k1), h7 (-64) (by decide) (by decide) (by rw [k1]; rfl)] at e0
  rw [kdR_of e0]
  exact rk_64 hl hp hcp
 by_cases k2 : f p = 127
 ·rw [k2] at hcp
  rw [if_pos (.inr (.inl k2)), h7 (-1) (by decide) (by decide) (by rw [k2]; rfl)] at e0
  rw [kdR_of e0]
  exact rk_127 hl hp hcp
 by_cases k3 : f p = 126
 ·rw [k3] at hcp
  rw [if_pos (.inr (.inr (.inl k3))), h7 (-2) (by decide) (by decide) (by rw [k3]; rfl)] at e0
  rw [kdR_of e0]
  exact rk_126 hl hp hcp
 by_cases k4 : f p = 123
 ·rw [k4] at hcp
  rw [if_pos (.inr (.inr (.inr k4))), h7 (-5) (by decide) (by decide) (by rw [k4]; rfl)] at e0
  rw [kdR_of e0]
  exact rk_123 hl hp hcp
 rw [if_neg (by omega)] at e0
 by_cases k5 : f p = 125
 ·rw [k5] at hcp
  rw [if_pos (.inl k5), h11] at e0
  rw [kdR_bad e0 (by decide)]
  exact rk_125 hl hp hcp
 by_cases k6 : f p = 124
 ·rw [k6] at hcp
  rw [if_pos (.inr k6), h11] at e0
  rw [kdR_bad e0 (by decide)]
  exact rk_124 hl hp hcp
 rw [if_neg (by omega), ht] at e0
 generalize f p = y at *
 generalize sgnS f len 33 ⟨p, 0⟩ = q at *
 generalize LebM.read true f len p 33 = r at *
 obtain ⟨r1, r2, to, er⟩ := r
 dsimp only at hcs hs
 rcases hcs with ⟨rfl, rfl⟩ | ⟨he, rfl⟩
 ·dsimp only at e0
  by_cases hv : sval r1 r2 < 0
  ·rw [if_pos hv] at e0
   rw [kdR_bad e0 (by decide)]
   exact rk_tn hl hp hcp k5 k6 k1 k2 k3 k4 hs hv
  ·rw [if_neg hv] at e0
   rw [kdR_of e0]
   exact rk_ty hl hp hcp k5 k6 k1 k2 k3 k4 hs (by omega)
 ·dsimp only at e0
  rw [if_neg (by decide)] at e0
  rw [kdR_bad e0 (by decide)]
  exact rk_tb hl hp hcp k5 k6 k1 k2 k3 k4 hs he
end Ex
end
section
open Go.RowKit VecM LebM
namespace Ex
theorem results_row3 {P : Program} {fn : Func} {p t u : Tmp} {ty : TypeId} (h : fn.results = #[.cell p ty, .tmp t, .tmp u]) (tmps : Array Value) (w : World) (g : Nat) (tt : TypeId) (cs : Array Value) (fr : Nat × Nat) (d : TypeDesc)
  (hp : tmps.getD p undef = .pointer (some ⟨g, 0, none⟩)) (hg : w.heap[g]? = some (.cells cs tt fr)) (hu : P.underlying ty = some d) (hd : (match d with | .struct _ | .array _ _ => true | _ => false) = true) (hi : (P.info? ty).map (·.size) = some cs.size) :
  (results fn tmps).run P w = .ok (.tuple #[.agg cs, tmps.getD t undef, tmps.getD u undef]) w := by
 have hp' : tmps[p]?.getD undef = .pointer (some ⟨g, 0, none⟩) := by simpa using hp
 simp [results, h, hp', asAddr, run_loadVar_row w g tt ty cs fr d hg hu hd hi]
set_option maxRecDepth 100000 in
set_option maxHeartbeats 2000000 in
theorem done_any (op a b lo hi : Int) (x : Option Addr) (n c : Nat) (to : Int) (w : World) :
  Calls Try.prog 38 #[.agg #[.int .i64 op, .int .i64 a, .int .i64 b, .int .u64 lo, .int .u64 hi, .slice x n c], .int .i64 to] w fun e w' => e = .returned (.tuple (if to < 0 then #[.agg #[.int .i64 0, .int .i64 0, .int .i64 0, .int .u64 0, .int .u64 0, .slice none 0 0], .int .i64 0, .int .i64 10] else #[.agg #[.int .i64 op, .int .i64 a, .int .i64 b, .int .u64 lo, .int .u64 hi, .slice x n c], .int .i64 to, .int .i64 0])) ∧ Gr w w' := by
 by_cases h : to < 0
 ·rw [if_pos h]
  have d0 : decide (to < 0) = true := decide_eq_true h
  clear h
  go_enter Try.func38, Try.ntmps38
  go_wp2
  exact bodyPost_ret (results_row3 Try.results38 _ _ (w.heap.size + 1) 38 #[.int .i64 0, .int .i64 0, .int .i64 0, .int .u64 0, .int .u64 0, .slice none 0 0] (0, 0) _ rfl (heap_alloc2_new w (.cells #[.int .i64 op, .int .i64 a, .int .i64 b, .int .u64 lo, .int .u64 hi, .slice x n c] 38) (.cells #[.int .i64 0, .int .i64 0, .int .i64 0, .int .u64 0, .int .u64 0, .slice none 0 0] 38)) Try.underlying38 rfl infoIn) rfl ⟨rfl, ((Gr.refl w).alloc _ _).alloc _ _⟩
 ·rw [if_neg h]
  have d0 : decide (to < 0) = false := decide_eq_false h
  clear h
  go_enter Try.func38, Try.ntmps38
  go_wp2
  exact bodyPost_ret (results_row3 Try.results38 _ _ (w.heap.size + 1) 38 #[.int .i64 op, .int .i64 a, .int .i64 b, .int .u64 lo, .int .u64 hi, .slice x n c] (0, 0) _ rfl (heap_alloc2_new w (.cells #[.int .i64 op, .int .i64 a, .int .i64 b, .int .u64 lo, .int .u64 hi, .slice x n c] 38) (.cells #[.int .i64 op, .int .i64 a, .int .i64 b, .int .u64 lo, .int .u64 hi, .slice x n c] 38)) Try.underlying38 rfl infoIn) rfl ⟨rfl, ((Gr.refl w).alloc _ _).alloc _ _⟩
end Ex
end
section
open Go.RowKit VecM LebM
namespace Ex
set_option maxRecDepth 100000 in
set_option maxHeartbeats 2000000 in
theorem rby_11b {w : World} {op : Int} {x : Option Addr} {len c p : Nat} (_hl : len ≤ 1099511627776) (hp : p ≤ len) (h : len < p + 16) :
  Calls Try.prog 40 #[.slice x len c, .int .i64 p, .agg #[.int .i64 op, .int .i64 0, .int .i64 0, .int .u64 0, .int .u64 0, .slice none 0 0], .int .i64 11] w fun e w' => e = .returned (.tuple #[.agg #[.int .i64 0, .int .i64 0, .int .i64 0, .int .u64 0, .int .u64 0, .slice none 0 0], .int .i64 0, .int .i64 10]) ∧ Gr w w' := by
 have T0 : IntKind.i64.wrap ((len : Int) - (p : Int)) = (len : Int) - (p : Int) := by rw [IntKind.wrap_i64]; omega
 have d0 : decide ((len : Int) - (p : Int) < 16) = true := decide_eq_true (by omega)
 clear h hp _hl
 go_enter Try.func40, Try.ntmps40
 go_wp2
 exact bodyPost_ret (results_row3 Try.results40 _ _ (w.heap.size + 1) 38 #[.int .i64 0, .int .i64 0, .int .i64 0, .int .u64 0, .int .u64 0, .slice none 0 0] (0, 0) _ rfl (heap_alloc2_new w (.cells #[.int .i64 op, .int .i64 0, .int .i64 0, .int .u64 0, .int .u64 0, .slice none 0 0] 38) (.cells #[.int .i64 0, .int .i64 0, .int .i64 0, .int .u64 0, .int .u64 0, .slice none 0 0] 38)) Try.underlying38 rfl infoIn) rfl ⟨rfl, ((Gr.refl w).alloc _ _).alloc _ _⟩
set_option maxRecDepth 100000 in
set_option maxHeartbeats 2000000 in
theorem rby_12b {w : World} {op : Int} {x : Option Addr} {len c p : Nat} (_hl : len ≤ 1099511627776) (hp : p ≤ len) (h : len < p + 16) :
  Calls Try.prog 40 #[.slice x len c, .int .i64 p, .agg #[.int .i64 op, .int .i64 0, .int .i64 0, .int .u64 0, .int .u64 0, .slice none 0 0], .int .i64 12] w fun e w' => e = .returned (.tuple #[.agg #[.int .i64 0, .int .i64 0, .int .i64 0, .int .u64 0, .int .u64 0, .slice none 0 0], .int .i64 0, .int .i64 10]) ∧ Gr w w' := by
 have T0 : IntKind.i64.wrap ((len : Int) - (p : Int)) = (len : Int) - (p : Int) := by rw [IntKind.wrap_i64]; omega
 have d0 : decide ((len : Int) - (p : Int) < 16) = true := decide_eq_true (by omega)
 clear h hp _hl
 go_enter Try.func40, Try.ntmps40
 go_wp2
 exact bodyPost_ret (results_row3 Try.results40 _ _ (w.heap.size + 1) 38 #[.int .i64 0, .int .i64 0, .int .i64 0, .int .u64 0, .int .u64 0, .slice none 0 0] (0, 0) _ rfl (heap_alloc2_new w (.cells #[.int .i64 op, .int .i64 0, .int .i64 0, .int .u64 0, .int .u64 0, .slice none 0 0] 38) (.cells #[.int .i64 0, .int .i64 0, .int .i64 0, .int .u64 0, .int .u64 0, .slice none 0 0] 38)) Try.underlying38 rfl infoIn) rfl ⟨rfl, ((Gr.refl w).alloc _ _).alloc _ _⟩
set_option maxRecDepth 100000 in
set_option maxHeartbeats 2000000 in
theorem rby_13e {w : World} {op : Int} {x : Option Addr} {len c p : Nat} (h : len ≤ p) :
  Calls Try.prog 40 #[.slice x len c, .int .i64 p, .agg #[.int .i64 op, .int .i64 0, .int .i64 0, .int .u64 0, .int .u64 0, .slice none 0 0], .int .i64 13] w fun e w' => e = .returned (.tuple #[.agg #[.int .i64 0, .int .i64 0, .int .i64 0, .int .u64 0, .int .u64 0, .slice none 0 0], .int .i64 0, .int .i64 10]) ∧ Gr w w' := by
 have d0 : decide ((p : Int) ≥ (len : Int)) = true := decide_eq_true (by omega)
 have d1 : (len : Int) ≤ (p : Int) := by omega
 go_enter Try.func40, Try.ntmps40
 go_wp2
 exact bodyPost_ret (results_row3 Try.results40 _ _ (w.heap.size + 1) 38 #[.int .i64 0, .int .i64 0, .int .i64 0, .int .u64 0, .int .u64 0, .slice none 0 0] (0, 0) _ rfl (heap_alloc2_new w (.cells #[.int .i64 op, .int .i64 0, .int .i64 0, .int .u64 0, .int .u64 0, .slice none 0 0] 38) (.cells #[.int .i64 0, .int .i64 0, .int .i64 0, .int .u64 0, .int .u64 0, .slice none 0 0] 38)) Try.underlying38 rfl infoIn) rfl ⟨rfl, ((Gr.refl w).alloc _ _).alloc _ _⟩
set_option maxRecDepth 100000 in
set_option maxHeartbeats 2000000 in
theorem rby_14e {w : World} {op : Int} {x : Option Addr} {len c p : Nat} (h : len ≤ p) :
  Calls Try.prog 40 #[.slice x len c, .int .i64 p, .agg #[.int .i64 op, .int .i64 0, .int .i64 0, .int .u64 0, .int .u64 0, .slice none 0 0], .int .i64 14] w fun e w' => e = .returned (.tuple #[.agg #[.int .i64 0, .int .i64 0, .int .i64 0, .int .u64 0, .int .u64 0, .slice none 0 0], .int .i64 0, .int .i64 10]) ∧ Gr w w' := by
 have d0 : decide ((p : Int) ≥ (len : Int)) = true := decide_eq_true (by omega)
 have d1 : (len : Int) ≤ (p : Int) := by omega
 go_enter Try.func40, Try.ntmps40
 go_wp2
 exact bodyPost_ret (results_row3 Try.results40 _ _ (w.heap.size + 1) 38 #[.int .i64 0, .int .i64 0, .int .i64 0, .int .u64 0, .int .u64 0, .slice none 0 0] (0, 0) _ rfl (heap_alloc2_new w (.cells #[.int .i64 op, .int .i64 0, .int .i64 0, .int .u64 0, .int .u64 0, .slice none 0 0] 38) (.cells #[.int .i64 0, .int .i64 0, .int .i64 0, .int .u64 0, .int .u64 0, .slice none 0 0] 38)) Try.underlying38 rfl infoIn) rfl ⟨rfl, ((Gr.refl w).alloc _ _).alloc _ _⟩
set_option maxRecDepth 100000 in
set_option maxHeartbeats 2000000 in
theorem rby_14n {w : World} {op y : Int} {b off len c p : Nat} (hl : len ≤ 1099511627776) (hp : p < len) (_hy : 0 ≤ y ∧ y < 256) (hc : w.cell? ⟨b, off + p, none⟩ = some (.int .u8 y)) (h : y ≠ 0) :
  Calls Try.prog 40 #[.slice (some ⟨b, off, none⟩) len c, .int .i64 p, .agg #[.int .i64 op, .int .i64 0, .int .i64 0, .int .u64 0, .int .u64 0, .slice none 0 0], .int .i64 14] w fun e w' => e = .returned (.tuple #[.agg #[.int .i64 0, .int .i64 0, .int .i64 0, .int .u64 0, .int .u64 0, .slice none 0 0], .int .i64 0, .int .i64 10]) ∧ Gr w w' := by
 have d0 : decide ((p : Int) ≥ (len : Int)) = false := decide_eq_false (by omega)
 have d1 : (p : Int) < (len : Int) := by omega
 have T1 : IntKind.i64.wrap ((p : Int) + 1) = (p : Int) + 1 := by rw [IntKind.wrap_i64]; omega
 have n0 : (y != 0) = true := by simpa using h
 have hc2 := gr_cell (((Gr.refl w).alloc #[.int .i64 op, .int .i64 0, .int .i64 0, .int .u64 0, .int .u64 0, .slice none 0 0] 38).alloc #[.int .i64 0, .int .i64 0, .int .i64 0, .int .u64 0, .int .u64 0, .slice none 0 0] 38) hc
 clear h hl _hy
 go_enter Try.func40, Try.ntmps40
 go_wp2
 exact bodyPost_ret (results_row3 Try.results40 _ _ (w.heap.size + 1) 38 #[.int .i64 0, .int .i64 0, .int .i64 0, .int .u64 0, .int .u64 0, .slice none 0 0] (0, 0) _ rfl (heap_alloc2_new w (.cells #[.int .i64 op, .int .i64 0, .int .i64 0, .int .u64 0, .int .u64 0, .slice none 0 0] 38) (.cells #[.int .i64 0, .int .i64 0, .int .i64 0, .int .u64 0, .int .u64 0, .slice none 0 0] 38)) Try.underlying38 rfl infoIn) rfl ⟨rfl, ((Gr.refl w).alloc _ _).alloc _ _⟩
set_option maxRecDepth 100000 in
set_option maxHeartbeats 2000000 in
theorem rby_14y {w : World} {op y : Int} {b off len c p : Nat} (hl : len ≤ 1099511627776) (hp : p < len) (hy : 0 ≤ y ∧ y < 256) (hc : w.cell? ⟨b, off + p, none⟩ = some (.int .u8 y)) (h : y = 0) :
  Calls Try.prog 40 #[.slice (some ⟨b, off, none⟩) len c, .int .i64 p, .agg #[.int .i64 op, .int .i64 0, .int .i64 0, .int .u64 0, .int .u64 0, .slice none 0 0], .int .i64 14] w fun e w' => e = .returned (.tuple #[.agg #[.int .i64 op, .int .i64 0, .int .i64 0, .int .u64 0, .int .u64 0, .slice none 0 0], .int .i64 ((p : Int) + 1), .int .i64 0]) ∧ Gr w w' := by
 have d0 : decide ((p : Int) ≥ (len : Int)) = false := decide_eq_false (by omega)
 have d1 : (p : Int) < (len : Int) := by omega
 have T1 : IntKind.i64.wrap ((p : Int) + 1) = (p : Int) + 1 := by rw [IntKind.wrap_i64]; omega
 subst h
 have hc2 := gr_cell (((Gr.refl w).alloc #[.int .i64 op, .int .i64 0, .int .i64 0, .int .u64 0, .int .u64 0, .slice none 0 0] 38).alloc #[.int .i64 0, .int .i64 0, .int .i64 0, .int .u64 0, .int .u64 0, .slice none 0 0] 38) hc
 clear hl hy
 go_enter Try.func40, Try.ntmps40
 go_wp2
 exact bodyPost_ret (results_row3 Try.results40 _ _ (w.heap.size + 1) 38 #[.int .i64 op, .int .i64 0, .int .i64 0, .int .u64 0, .int .u64 0, .slice none 0 0] (0, 0) _ rfl (heap_alloc2_new w (.cells #[.int .i64 op, .int .i64 0, .int .i64 0, .int .u64 0, .int .u64 0, .slice none 0 0] 38) (.cells #[.int .i64 op, .int .i64 0, .int .i64 0, .int .u64 0, .int .u64 0, .slice none 0 0] 38)) Try.underlying38 rfl infoIn) rfl ⟨rfl, ((Gr.refl w).alloc _ _).alloc _ _⟩
set_option maxRecDepth 100000 in
set_option maxHeartbeats 2000000 in
theorem rby_13 {w : World} {op y : Int} {b off len c p : Nat} (hl : len ≤ 1099511627776) (hp : p < len) (hy : 0 ≤ y ∧ y < 256) (hc : w.cell? ⟨b, off + p, none⟩ = some (.int .u8 y)) :
  Calls Try.prog 40 #[.slice (some ⟨b, off, none⟩) len c, .int .i64 p, .agg #[.int .i64 op, .int .i64 0, .int .i64 0, .int .u64 0, .int .u64 0, .slice none 0 0], .int .i64 13] w fun e w' => e = .returned (.tuple #[.agg #[.int .i64 op, .int .i64 y, .int .i64 0, .int .u64 0, .int .u64 0, .slice none 0 0], .int .i64 ((p : Int) + 1), .int .i64 0]) ∧ Gr w w' := by
 have d0 : decide ((p : Int) ≥ (len : Int)) = false := decide_eq_false (by omega)
 have d1 : (p : Int) < (len : Int) := by omega
 have T1 : IntKind.i64.wrap ((p : Int) + 1) = (p : Int) + 1 := by rw [IntKind.wrap_i64]; omega
 have T2 : IntKind.i64.wrap y = y := by rw [IntKind.wrap_i64]; omega
 have hc2 := gr_cell (((Gr.refl w).alloc #[.int .i64 op, .int .i64 0, .int .i64 0, .int .u64 0, .int .u64 0, .slice none 0 0] 38).alloc #[.int .i64 0, .int .i64 0, .int .i64 0, .int .u64 0, .int .u64 0, .slice none 0 0] 38) hc
 clear hl hy
 go_enter Try.func40, Try.ntmps40
 go_wp2
 exact bodyPost_ret (results_row3 Try.results40 _ _ (w.heap.size + 1) 38 #[.int .i64 op, .int .i64 y, .int .i64 0, .int .u64 0, .int .u64 0, .slice none 0 0] (0, 0) _ rfl (heap_alloc2_new w (.cells #[.int .i64 op, .int .i64 y, .int .i64 0, .int .u64 0, .int .u64 0, .slice none 0 0] 38) (.cells #[.int .i64 op, .int .i64 y, .int .i64 0, .int .u64 0, .int .u64 0, .slice none 0 0] 38)) Try.underlying38 rfl infoIn) rfl ⟨rfl, ((Gr.refl w).alloc _ _).alloc _ _⟩
end Ex
end
section
open Go.RowKit VecM LebM
namespace Ex
def hvF (f : Nat → Int) (p k : Nat) : Nat → Int := fun m => if m < k then f (p + m) else 0
theorem hvF_zero (f : Nat → Int) (p : Nat) : hvF f p 0 = fun _ => 0 := by funext m; unfold hvF; rw [if_neg (by omega)]
theorem hvF_succ (f : Nat → Int) (p k : Nat) : upd (hvF f p k) k (f (p + k)) = hvF f p (k + 1) := by
 funext m
 unfold upd hvF
 by_cases h : m = k
 ·subst h; rw [if_pos rfl, if_pos (by omega)]
 ·rw [if_neg h]
  by_cases h2 : m < k
  ·rw [if_pos h2, if_pos (by omega)]
  ·rw [if_neg h2, if_neg (by omega)]
theorem row_set {w : World} {g b i : Nat} {v : Value} {X : Obj} (h : w.heap[g]? = some X) (hne : g ≠ b) : (w.setCell ⟨b, i, none⟩ v).heap[g]? = some X :=
 (Sep.setCell (ex := fun q => q = b) w (p := ⟨b, i, none⟩) rfl v).at_ hne h
theorem hvF_byt {f : Nat → Int} (hf : By f) (p k : Nat) : Byt (hvF f p k) := fun m => by
 have := hf (p + m)
 unfold hvF; split
 ·omega
 ·exact ⟨by decide, by decide⟩
set_option maxRecDepth 100000 in
set_option maxHeartbeats 4000000 in
theorem rby_11 {w : World} {op : Int} {b off len c p : Nat} {f : Nat → Int} (hf : By f) (hl : len ≤ 1099511627776) (hp : p + 16 ≤ len) (hc : ∀ j, j < len → w.cell? ⟨b, off + j, none⟩ = some (.int .u8 (f j))) :
  Calls Try.prog 40 #[.slice (some ⟨b, off, none⟩) len c, .int .i64 p, .agg #[.int .i64 op, .int .i64 0, .int .i64 0, .int .u64 0, .int .u64 0, .slice none 0 0], .int .i64 11] w fun e w' => e = .returned (.tuple #[.agg #[.int .i64 op, .int .i64 0, .int .i64 0, .int .u64 (getI (hvF f p 16) 64 0), .int .u64 (getI (hvF f p 16) 64 1), .slice none 0 0], .int .i64 ((p : Int) + 16), .int .i64 0]) ∧ Gr w w' := by
 have T0 : IntKind.i64.wrap ((len : Int) - (p : Int)) = (len : Int) - (p : Int) := by rw [IntKind.wrap_i64]; omega
 have T1 : IntKind.i64.wrap ((p : Int) + 16) = (p : Int) + 16 := by rw [IntKind.wrap_i64]; omega
 have d0 : decide ((len : Int) - (p : Int) < 16) = false := decide_eq_false (by omega)
 have d1 : ¬ (len : Int) - (p : Int) < 16 := by omega
 have HC := Lib.hid hc
 have HP := Lib.hid (And.intro hp hl)
 obtain ⟨g0, hg0⟩ : ∃ g, getI (hvF f p 16) 64 0 = g := ⟨_, rfl⟩
 obtain ⟨g1, hg1⟩ : ∃ g, getI (hvF f p 16) 64 1 = g := ⟨_, rfl⟩
 rw [hg0, hg1]
 have HSP := Lib.hid (fun wx => by have := rsplit_any (hvF f p 16) (hvF_byt hf p 16) wx; rw [hg0, hg1] at this; exact this)
 clear hg0 hg1
 clear hc hp hl
 go_enter Try.func40, Try.ntmps40
 go_wp2_with fail
 have hr2 := heap_alloc_new ((w.alloc (.cells #[.int .i64 op, .int .i64 0, .int .i64 0, .int .u64 0, .int .u64 0, .slice none 0 0] 38)).alloc (.cells #[.int .i64 0, .int .i64 0, .int .i64 0, .int .u64 0, .int .u64 0, .slice none 0 0] 38)) (.cells #[.int .u8 0, .int .u8 0, .int .u8 0, .int .u8 0, .int .u8 0, .int .u8 0, .int .u8 0, .int .u8 0, .int .u8 0, .int .u8 0, .int .u8 0, .int .u8 0, .int .u8 0, .int .u8 0, .int .u8 0, .int .u8 0] 85)
 have hr1 := gr_block ((Gr.refl ((w.alloc (.cells #[.int .i64 op, .int .i64 0, .int .i64 0, .int .u64 0, .int .u64 0, .slice none 0 0] 38)).alloc (.cells #[.int .i64 0, .int .i64 0, .int .i64 0, .int .u64 0, .int .u64 0, .slice none 0 0] 38))).alloc #[.int .u8 0, .int .u8 0, .int .u8 0, .int .u8 0, .int .u8 0, .int .u8 0, .int .u8 0, .int .u8 0, .int .u8 0, .int .u8 0, .int .u8 0, .int .u8 0, .int .u8 0, .int .u8 0, .int .u8 0, .int .u8 0] 85) (heap_alloc2_new w (.cells #[.int .i64 op, .int .i64 0, .int .i64 0, .int .u64 0, .int .u64 0, .slice none 0 0] 38) (.cells #[.int .i64 0, .int .i64 0, .int .i64 0, .int .u64 0, .int .u64 0, .slice none 0 0] 38))
 have hr0 := gr_block ((Gr.refl ((w.alloc (.cells #[.int .i64 op, .int .i64 0, .int .i64 0, .int .u64 0, .int .u64 0, .slice none 0 0] 38)).alloc (.cells #[.int .i64 0, .int .i64 0, .int .i64 0, .int .u64 0, .int .u64 0, .slice none 0 0] 38))).alloc #[.int .u8 0, .int .u8 0, .int .u8 0, .int .u8 0, .int .u8 0, .int .u8 0, .int .u8 0, .int .u8 0, .int .u8 0, .int .u8 0, .int .u8 0, .int .u8 0, .int .u8 0, .int .u8 0, .int .u8 0, .int .u8 0] 85) (heap_alloc2_old w (.cells #[.int .i64 op, .int .i64 0, .int .i64 0, .int .u64 0, .int .u64 0, .slice none 0 0] 38) (.cells #[.int .i64 0, .int .i64 0, .int .i64 0, .int .u64 0, .int .u64 0, .slice none 0 0] 38))
 have hg0 := (((Gr.refl w).alloc #[.int .i64 op, .int .i64 0, .int .i64 0, .int .u64 0, .int .u64 0, .slice none 0 0] 38).alloc #[.int .i64 0, .int .i64 0, .int .i64 0, .int .u64 0, .int .u64 0, .slice none 0 0] 38).alloc #[.int .u8 0, .int .u8 0, .int .u8 0, .int .u8 0, .int .u8 0, .int .u8 0, .int .u8 0, .int .u8 0, .int .u8 0, .int .u8 0, .int .u8 0, .int .u8 0, .int .u8 0, .int .u8 0, .int .u8 0, .int .u8 0] 85
 rw [show ((w.alloc (.cells #[.int .i64 op, .int .i64 0, .int .i64 0, .int .u64 0, .int .u64 0, .slice none 0 0] 38)).alloc (.cells #[.int .i64 0, .int .i64 0, .int .i64 0, .int .u64 0, .int .u64 0, .slice none 0 0] 38)).heap.size = w.heap.size + 1 + 1 by simp] at hr2
 have HR0 := Lib.hid hr0
 have HR1 := Lib.hid hr1
 have HR2 := Lib.hid hr2
 have HG0 := Lib.hid hg0
 clear hr0 hr1 hr2 hg0
 generalize ((w.alloc (.cells #[.int .i64 op, .int .i64 0, .int .i64 0, .int .u64 0, .int .u64 0, .slice none 0 0] 38)).alloc (.cells #[.int .i64 0, .int .i64 0, .int .i64 0, .int .u64 0, .int .u64 0, .slice none 0 0] 38)).alloc (.cells #[.int .u8 0, .int .u8 0, .int .u8 0, .int .u8 0, .int .u8 0, .int .u8 0, .int .u8 0, .int .u8 0, .int .u8 0, .int .u8 0, .int .u8 0, .int .u8 0, .int .u8 0, .int .u8 0, .int .u8 0, .int .u8 0] 85) = w1 at *
 go_loopw [12] (fun i wr => ∃ k : Nat, k ≤ 16 ∧ i = .int .i64 k ∧ Gr w wr ∧ wr.heap[w.heap.size]? = some (.cells #[.int .i64 op, .int .i64 0, .int .i64 0, .int .u64 0, .int .u64 0, .slice none 0 0] 38 (0, 0)) ∧ wr.heap[w.heap.size + 1]? = some (.cells #[.int .i64 0, .int .i64 0, .int .i64 0, .int .u64 0, .int .u64 0, .slice none 0 0] 38 (0, 0)) ∧ wr.heap[w.heap.size + 1 + 1]? = some (.cells (bs (hvF f p k)) 85 (0, 0))) (fun i _ => 16 - (intOf i).toNat)
 case atStart => exact ⟨0, by omega, rfl, HG0.out, HR0.out, HR1.out, by rw [hvF_zero]; exact HR2.out⟩
 case round =>
  obtain ⟨k, hk, rfl, hg, h0, h1, hv⟩ := hrel
  have HG := Lib.hid hg
  have H0 := Lib.hid h0
  have H1 := Lib.hid h1
  have HV := Lib.hid hv
  clear hg h0 h1 hv
  by_cases hlt : k < 16
  ·have e0 : decide ((k : Int) < 16) = true := decide_eq_true (by omega)
   have TK : IntKind.i64.wrap ((p : Int) + (k : Int)) = (p : Int) + (k : Int) := by have := HP.out; rw [IntKind.wrap_i64]; omega
   have TN : ((p : Int) + (k : Int)).toNat = p + k := by omega
   have e1 : (p : Int) + (k : Int) < (len : Int) := by have := HP.out; omega
   have e2 : 0 ≤ (p : Int) + (k : Int) := by omega
   have cb := (cell_of_row _ _ k _ _ _ HV.out).trans (bs_get _ k hlt)
   have fz := froz HV.out k
   have cs := gr_cell HG.out (HC.out (p + k) (by have := HP.out; omega))
   have e3 : (k : Int) < 16 := by omega
   go_wp2
   have hset : Sep (fun b => b = w.heap.size + 1 + 1) wr (wr.setCell ⟨w.heap.size + 1 + 1, k, none⟩ (.int .u8 (f (p + k)))) := Sep.setCell (ex := fun b => b = w.heap.size + 1 + 1) wr (p := ⟨w.heap.size + 1 + 1, k, none⟩) rfl _
   refine ⟨⟨k + 1, by omega, by go_num, Sep.toGr HG.out hset (fun q hq => by have e' : q = w.heap.size + 1 + 1 := hq; omega), hset.at_ (by show ¬ w.heap.size = w.heap.size + 1 + 1; omega) H0.out, hset.at_ (by show ¬ w.heap.size + 1 = w.heap.size + 1 + 1; omega) H1.out, ?_⟩, by simp [intOf]; omega⟩
   have := setCell_cell HV.out k (.int .u8 (f (p + k)))
   rw [bs_upd _ _ _ hlt, hvF_succ] at this
   exact this
  ·obtain rfl : k = 16 := by omega
   clear hlt
   go_wp2_with (refine wpList_load_row rfl 85 _ rfl (w.heap.size + 1 + 1) rfl 85 (bs (hvF f p 16)) (0, 0) _ HV.out Try.underlying85 rfl infoV ?_)
   refine (HSP.out wr).mono ?_
   rintro e w2 ⟨rfl, hg2⟩
   have HG2 := Lib.hid (gr_trans HG.out hg2)
   have H02 := Lib.hid (gr_block hg2 H0.out)
   have H12 := Lib.hid (gr_block hg2 H1.out)
   clear hg2
   obtain ⟨i0, i1, i2, i3, i4, i5⟩ := cells6 (gr_block ((Gr.refl w2).alloc #[.int .u64 g0, .int .u64 g1] 88) H02.out)
   have hA := (Gr.refl w2).alloc #[.int .u64 g0, .int .u64 g1] 88
   have f3 := froz (gr_block hA H02.out) 3
   have f4 := froz (gr_block hA H02.out) 4
   have f5 := froz (setCell_cell (gr_block hA H02.out) 3 (.int .u64 g0)) 4
   have h12 := row_set (i := 4) (v := .int .u64 g1) (row_set (i := 3) (v := .int .u64 g0) (gr_block hA H12.out) (show w.heap.size + 1 ≠ w.heap.size by omega)) (show w.heap.size + 1 ≠ w.heap.size by omega)
   have hs1 := Sep.setCell (ex := fun q => q = w.heap.size) (w2.alloc (.cells #[.int .u64 g0, .int .u64 g1] 88)) (p := ⟨w.heap.size, 3, none⟩) rfl (.int .u64 g0)
   have hs2 := Sep.setCell (ex := fun q => q = w.heap.size) ((w2.alloc (.cells #[.int .u64 g0, .int .u64 g1] 88)).setCell ⟨w.heap.size, 3, none⟩ (.int .u64 g0)) (p := ⟨w.heap.size, 4, none⟩) rfl (.int .u64 g1)
   have hgB := Sep.toGr (gr_trans HG2.out hA) (Sep.trans hs1 hs2) (fun q hq => by have e' : q = w.heap.size := hq; omega)
   have hrw := Sep.setRow (ex := fun q => q = w.heap.size + 1) (((w2.alloc (.cells #[.int .u64 g0, .int .u64 g1] 88)).setCell ⟨w.heap.size, 3, none⟩ (.int .u64 g0)).setCell ⟨w.heap.size, 4, none⟩ (.int .u64 g1)) rfl #[.int .i64 op, .int .i64 0, .int .i64 0, .int .u64 g0, .int .u64 g1, .slice none 0 0]
   go_wp2_with (refine wpList_store_row rfl 38 _ _ rfl (w.heap.size + 1) #[.int .i64 op, .int .i64 0, .int .i64 0, .int .u64 g0, .int .u64 g1, .slice none 0 0] rfl rfl 38 #[.int .i64 0, .int .i64 0, .int .i64 0, .int .u64 0, .int .u64 0, .slice none 0 0] h12 infoIn rfl (by kernel_rfl) ?_)
   exact bodyPost_ret (results_row3 Try.results40 _ _ (w.heap.size + 1) 38 #[.int .i64 op, .int .i64 0, .int .i64 0, .int .u64 g0, .int .u64 g1, .slice none 0 0] (0, 0) _ rfl (setRow_block (c := #[.int .i64 op, .int .i64 0, .int .i64 0, .int .u64 g0, .int .u64 g1, .slice none 0 0]) h12) Try.underlying38 rfl infoIn) rfl ⟨rfl, Sep.toGr hgB hrw (fun q hq => by have e' : q = w.heap.size + 1 := hq; omega)⟩
set_option maxRecDepth 100000 in
set_option maxHeartbeats 4000000 in
theorem rby_12 {w : World} {op : Int} {b off len c p : Nat} {f : Nat → Int} (hf : By f) (hl : len ≤ 1099511627776) (hp : p + 16 ≤ len) (hc : ∀ j, j < len → w.cell? ⟨b, off + j, none⟩ = some (.int .u8 (f j))) :
  Calls Try.prog 40 #[.slice (some ⟨b, off, none⟩) len c, .int .i64 p, .agg #[.int .i64 op, .int .i64 0, .int .i64 0, .int .u64 0, .int .u64 0, .slice none 0 0], .int .i64 12] w fun e w' => e = .returned (.tuple #[.agg #[.int .i64 op, .int .i64 0, .int .i64 0, .int .u64 (getI (hvF f p 16) 64 0), .int .u64 (getI (hvF f p 16) 64 1), .slice none 0 0], .int .i64 ((p : Int) + 16), .int .i64 0]) ∧ Gr w w' := by
 have T0 : IntKind.i64.wrap ((len : Int) - (p : Int)) = (len : Int) - (p : Int) := by rw [IntKind.wrap_i64]; omega
 have T1 : IntKind.i64.wrap ((p : Int) + 16) = (p : Int) + 16 := by rw [IntKind.wrap_i64]; omega
 have d0 : decide ((len : Int) - (p : Int) < 16) = false := decide_eq_false (by omega)
 have d1 : ¬ (len : Int) - (p : Int) < 16 := by omega
 have HC := Lib.hid hc
 have HP := Lib.hid (And.intro hp hl)
 obtain ⟨g0, hg0⟩ : ∃ g, getI (hvF f p 16) 64 0 = g := ⟨_, rfl⟩
 obtain ⟨g1, hg1⟩ : ∃ g, getI (hvF f p 16) 64 1 = g := ⟨_, rfl⟩
 rw [hg0, hg1]
 have HSP := Lib.hid (fun wx => by have := rsplit_any (hvF f p 16) (hvF_byt hf p 16) wx; rw [hg0, hg1] at this; exact this)
 clear hg0 hg1
 clear hc hp hl
 go_enter Try.func40, Try.ntmps40
 go_wp2_with fail
 have hr2 := heap_alloc_new ((w.alloc (.cells #[.int .i64 op, .int .i64 0, .int .i64 0, .int .u64 0, .int .u64 0, .slice none 0 0] 38)).alloc (.cells #[.int .i64 0, .int .i64 0, .int .i64 0, .int .u64 0, .int .u64 0, .slice none 0 0] 38)) (.cells #[.int .u8 0, .int .u8 0, .int .u8 0, .int .u8 0, .int .u8 0, .int .u8 0, .int .u8 0, .int .u8 0, .int .u8 0, .int .u8 0, .int .u8 0, .int .u8 0, .int .u8 0, .int .u8 0, .int .u8 0, .int .u8 0] 85)
 have hr1 := gr_block ((Gr.refl ((w.alloc (.cells #[.int .i64 op, .int .i64 0, .int .i64 0, .int .u64 0, .int .u64 0, .slice none 0 0] 38)).alloc (.cells #[.int .i64 0, .int .i64 0, .int .i64 0, .int .u64 0, .int .u64 0, .slice none 0 0] 38))).alloc #[.int .u8 0, .int .u8 0, .int .u8 0, .int .u8 0, .int .u8 0, .int .u8 0, .int .u8 0, .int .u8 0, .int .u8 0, .int .u8 0, .int .u8 0, .int .u8 0, .int .u8 0, .int .u8 0, .int .u8 0, .int .u8 0] 85) (heap_alloc2_new w (.cells #[.int .i64 op, .int .i64 0, .int .i64 0, .int .u64 0, .int .u64 0, .slice none 0 0] 38) (.cells #[.int .i64 0, .int .i64 0, .int .i64 0, .int .u64 0, .int .u64 0, .slice none 0 0] 38))
 have hr0 := gr_block ((Gr.refl ((w.alloc (.cells #[.int .i64 op, .int .i64 0, .int .i64 0, .int .u64 0, .int .u64 0, .slice none 0 0] 38)).alloc (.cells #[.int .i64 0, .int .i64 0, .int .i64 0, .int .u64 0, .int .u64 0, .slice none 0 0] 38))).alloc #[.int .u8 0, .int .u8 0, .int .u8 0, .int .u8 0, .int .u8 0, .int .u8 0, .int .u8 0, .int .u8 0, .int .u8 0, .int .u8 0, .int .u8 0, .int .u8 0, .int .u8 0, .int .u8 0, .int .u8 0, .int .u8 0] 85) (heap_alloc2_old w (.cells #[.int .i64 op, .int .i64 0, .int .i64 0, .int .u64 0, .int .u64 0, .slice none 0 0] 38) (.cells #[.int .i64 0, .int .i64 0, .int .i64 0, .int .u64 0, .int .u64 0, .slice none 0 0] 38))
 have hg0 := (((Gr.refl w).alloc #[.int .i64 op, .int .i64 0, .int .i64 0, .int .u64 0, .int .u64 0, .slice none 0 0] 38).alloc #[.int .i64 0, .int .i64 0, .int .i64 0, .int .u64 0, .int .u64 0, .slice none 0 0] 38).alloc #[.int .u8 0, .int .u8 0, .int .u8 0, .int .u8 0, .int .u8 0, .int .u8 0, .int .u8 0, .int .u8 0, .int .u8 0, .int .u8 0, .int .u8 0, .int .u8 0, .int .u8 0, .int .u8 0, .int .u8 0, .int .u8 0] 85
 rw [show ((w.alloc (.cells #[.int .i64 op, .int .i64 0, .int .i64 0, .int .u64 0, .int .u64 0, .slice none 0 0] 38)).alloc (.cells #[.int .i64 0, .int .i64 0, .int .i64 0, .int .u64 0, .int .u64 0, .slice none 0 0] 38)).heap.size = w.heap.size + 1 + 1 by simp] at hr2
 have HR0 := Lib.hid hr0
 have HR1 := Lib.hid hr1
 have HR2 := Lib.hid hr2
 have HG0 := Lib.hid hg0
 clear hr0 hr1 hr2 hg0
 generalize ((w.alloc (.cells #[.int .i64 op, .int .i64 0, .int .i64 0, .int .u64 0, .int .u64 0, .slice none 0 0] 38)).alloc (.cells #[.int .i64 0, .int .i64 0, .int .i64 0, .int .u64 0, .int .u64 0, .slice none 0 0] 38)).alloc (.cells #[.int .u8 0, .int .u8 0, .int .u8 0, .int .u8 0, .int .u8 0, .int .u8 0, .int .u8 0, .int .u8 0, .int .u8 0, .int .u8 0, .int .u8 0, .int .u8 0, .int .u8 0, .int .u8 0, .int .u8 0, .int .u8 0] 85) = w1 at *
 go_loopw [12] (fun i wr => ∃ k : Nat, k ≤ 16 ∧ i = .int .i64 k ∧ Gr w wr ∧ wr.heap[w.heap.size]? = some (.cells #[.int .i64 op, .int .i64 0, .int .i64 0, .int .u64 0, .int .u64 0, .slice none 0 0] 38 (0, 0)) ∧ wr.heap[w.heap.size + 1]? = some (.cells #[.int .i64 0, .int .i64 0, .int .i64 0, .int .u64 0, .int .u64 0, .slice none 0 0] 38 (0, 0)) ∧ wr.heap[w.heap.size + 1 + 1]? = some (.cells (bs (hvF f p k)) 85 (0, 0))) (fun i _ => 16 - (intOf i).toNat)
 case atStart => exact ⟨0, by omega, rfl, HG0.out, HR0.out, HR1.out, by rw [hvF_zero]; exact HR2.out⟩
 case round =>
  obtain ⟨k, hk, rfl, hg, h0, h1, hv⟩ := hrel
  have HG := Lib.hid hg
  have H0 := Lib.hid h0
  have H1 := Lib.hid h1
  have HV := Lib.hid hv
  clear hg h0 h1 hv
  by_cases hlt : k < 16
  ·have e0 : decide ((k : Int) < 16) = true := decide_eq_true (by omega)
   have TK : IntKind.i64.wrap ((p : Int) + (k : Int)) = (p : Int) + (k : Int) := by have := HP.out; rw [IntKind.wrap_i64]; omega
   have TN : ((p : Int) + (k : Int)).toNat = p + k := by omega
   have e1 : (p : Int) + (k : Int) < (len : Int) := by have := HP.out; omega
   have e2 : 0 ≤ (p : Int) + (k : Int) := by omega
   have cb := (cell_of_row _ _ k _ _ _ HV.out).trans (bs_get _ k hlt)
   have fz := froz HV.out k
   have cs := gr_cell HG.out (HC.out (p + k) (by have := HP.out; omega))
   have e3 : (k : Int) < 16 := by omega
   go_wp2
   have hset : Sep (fun b => b = w.heap.size + 1 + 1) wr (wr.setCell ⟨w.heap.size + 1 + 1, k, none⟩ (.int .u8 (f (p + k)))) := Sep.setCell (ex := fun b => b = w.heap.size + 1 + 1) wr (p := ⟨w.heap.size + 1 + 1, k, none⟩) rfl _
   refine ⟨⟨k + 1, by omega, by go_num, Sep.toGr HG.out hset (fun q hq => by have e' : q = w.heap.size + 1 + 1 := hq; omega), hset.at_ (by show ¬ w.heap.size = w.heap.size + 1 + 1; omega) H0.out, hset.at_ (by show ¬ w.heap.size + 1 = w.heap.size + 1 + 1; omega) H1.out, ?_⟩, by simp [intOf]; omega⟩
   have := setCell_cell HV.out k (.int .u8 (f (p + k)))
   rw [bs_upd _ _ _ hlt, hvF_succ] at this
   exact this
  ·obtain rfl : k = 16 := by omega
   clear hlt
   go_wp2_with (refine wpList_load_row rfl 85 _ rfl (w.heap.size + 1 + 1) rfl 85 (bs (hvF f p 16)) (0, 0) _ HV.out Try.underlying85 rfl infoV ?_)
   refine (HSP.out wr).mono ?_
   rintro e w2 ⟨rfl, hg2⟩
   have HG2 := Lib.hid (gr_trans HG.out hg2)
   have H02 := Lib.hid (gr_block hg2 H0.out)
   have H12 := Lib.hid (gr_block hg2 H1.out)
   clear hg2
   obtain ⟨i0, i1, i2, i3, i4, i5⟩ := cells6 (gr_block ((Gr.refl w2).alloc #[.int .u64 g0, .int .u64 g1] 88) H02.out)
   have hA := (Gr.refl w2).alloc #[.int .u64 g0, .int .u64 g1] 88
   have f3 := froz (gr_block hA H02.out) 3
   have f4 := froz (gr_block hA H02.out) 4
   have f5 := froz (setCell_cell (gr_block hA H02.out) 3 (.int .u64 g0)) 4
   have h12 := row_set (i := 4) (v := .int .u64 g1) (row_set (i := 3) (v := .int .u64 g0) (gr_block hA H12.out) (show w.heap.size + 1 ≠ w.heap.size by omega)) (show w.heap.size + 1 ≠ w.heap.size by omega)
   have hs1 := Sep.setCell (ex := fun q => q = w.heap.size) (w2.alloc (.cells #[.int .u64 g0, .int .u64 g1] 88)) (p := ⟨w.heap.size, 3, none⟩) rfl (.int .u64 g0)
   have hs2 := Sep.setCell (ex := fun q => q = w.heap.size) ((w2.alloc (.cells #[.int .u64 g0, .int .u64 g1] 88)).setCell ⟨w.heap.size, 3, none⟩ (.int .u64 g0)) (p := ⟨w.heap.size, 4, none⟩) rfl (.int .u64 g1)
   have hgB := Sep.toGr (gr_trans HG2.out hA) (Sep.trans hs1 hs2) (fun q hq => by have e' : q = w.heap.size := hq; omega)
   have hrw := Sep.setRow (ex := fun q => q = w.heap.size + 1) (((w2.alloc (.cells #[.int .u64 g0, .int .u64 g1] 88)).setCell ⟨w.heap.size, 3, none⟩ (.int .u64 g0)).setCell ⟨w.heap.size, 4, none⟩ (.int .u64 g1)) rfl #[.int .i64 op, .int .i64 0, .int .i64 0, .int .u64 g0, .int .u64 g1, .slice none 0 0]
   go_wp2_with (refine wpList_store_row rfl 38 _ _ rfl (w.heap.size + 1) #[.int .i64 op, .int .i64 0, .int .i64 0, .int .u64 g0, .int .u64 g1, .slice none 0 0] rfl rfl 38 #[.int .i64 0, .int .i64 0, .int .i64 0, .int .u64 0, .int .u64 0, .slice none 0 0] h12 infoIn rfl (by kernel_rfl) ?_)
   exact bodyPost_ret (results_row3 Try.results40 _ _ (w.heap.size + 1) 38 #[.int .i64 op, .int .i64 0, .int .i64 0, .int .u64 g0, .int .u64 g1, .slice none 0 0] (0, 0) _ rfl (setRow_block (c := #[.int .i64 op, .int .i64 0, .int .i64 0, .int .u64 g0, .int .u64 g1, .slice none 0 0]) h12) Try.underlying38 rfl infoIn) rfl ⟨rfl, Sep.toGr hgB hrw (fun q hq => by have e' : q = w.heap.size + 1 := hq; omega)⟩
end Ex
end
end Go.Proofs.Ytebkabidojipoaa
