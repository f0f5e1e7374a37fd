/-
  Texts of this seat, joined: TgF, TgG, TgH, TgI, TgJ, TgK, TgL, TgN, TgP, TgT, TgQ. Each says what it proves.
-/
import Derived.Test.YtifjgocfdnhdeaaMr6
import Derived.Test.YtifjgocfdnhdeaaMr8
/- TgF -/
namespace Go.Proofs.Ytifjgocfdnhdeaa
open Go.RowKit
namespace Tg
open Ins
theorem own_slice {w : World} {base : Nat} {e : TypeId} {z : Nat} {v : Value} {n : Nat} {xs : List Value} (h : w.ownsRow base e z v n xs) : ∃ x c, v = .slice x n c := by
 rcases h.2 with ⟨h1, h2⟩ | ⟨g, cap, cur, rfl, _⟩
 ·exact ⟨none, 0, by rw [h1, h2]⟩
 ·exact ⟨_, _, rfl⟩
theorem own_some {w : World} {base : Nat} {e : TypeId} {size : Nat} {v : Value} {n : Nat} {xs : List Value} (h : w.ownsRow base e size v n xs) (hn : 0 < n) : ∃ g c, v = .slice (some ⟨g, 0, none⟩) n c ∧ n ≤ c ∧ base ≤ g ∧ g < w.heap.size ∧ c ≤ maxLen := by
 rcases h.2 with ⟨_, rfl⟩ | ⟨g, cap, cur, rfl, hb, hg, hnc, hm, _⟩
 ·omega
 ·exact ⟨g, cap, rfl, hnc, hb, (Array.getElem?_eq_some_iff.1 hg).1, hm⟩
theorem froz {w : World} {g : Nat} {cs : Array Value} {t : TypeId} {z : Nat} (h : w.heap[g]? = some (.cells cs t (z, 0))) (o : Nat) : w.frozen? ⟨g, o, none⟩ = false := by
 simp [World.frozen?, h]
theorem add_at {b off j : Nat} : (⟨b, off, none⟩ : Addr).add j = ⟨b, off + j, none⟩ := by unfold Addr.add; split <;> simp_all
theorem src_lit (w : World) (cs : Array Value) (t : TypeId) (m c : Nat) : Src (w.alloc (.cells cs t)) (.slice (some ⟨w.heap.size, 0, none⟩) m c) m cs.toList :=
 .inr ⟨_, _, rfl, fun j x hx => by rw [add_at, Nat.zero_add]; exact ((cell_of_row _ _ j _ _ _ (heap_alloc_new w _)).trans (by simpa using hx))⟩
theorem infoZ : (Try.prog.info? 3).map (fun i => (i.zero, i.size, i.bytes)) = some (some (.int .i64 0), 1, 8) := by kernel_rfl
theorem info_parts {o : Option TypeInfo} {z : Option Value} {s b : Nat} (h : o.map (fun i => (i.zero, i.size, i.bytes)) = some (z, s, b)) : ∃ i, o = some i ∧ i.zero = z ∧ i.size = s ∧ i.bytes = b := by
 cases o with
 | none => cases h
 | some i =>
  injection h with h
  injection h with h1 h2
  injection h2 with h2 h3
  exact ⟨i, rfl, h1, h2, h3⟩
theorem ivs_len (l : List Int) : (ivs l).length = l.length := by unfold ivs; simp
theorem ivs_app (l l' : List Int) : ivs (l ++ l') = ivs l ++ ivs l' := by unfold ivs; simp
theorem ivs_set (l : List Int) (j : Nat) (x : Int) : (ivs l).set j (.int .i64 x) = ivs (l.set j x) := by unfold ivs; rw [List.map_set]
def wkA (sv fv : Value) (f : FuV) (hv tv : Value) : Array Value := #[sv, fv, .int .i64 f.f.host, .int .i64 f.f.sig, .int .i64 f.f.inn, .int .i64 f.f.out, .int .i64 f.f.loc, f.cv, f.mv, hv, tv]
structure WkR (w : World) (base g : Nat) (sv fv : Value) (f : FuV) (hs td : List Int) (hv tv : Value) : Prop where
 row : w.heap[g]? = some (.cells (wkA sv fv f hv tv) 67 (0, 0))
 bs : base ≤ g
 hs : w.ownsRow base 3 1 hv hs.length (ivs hs)
 td : w.ownsRow base 3 1 tv td.length (ivs td)
 ap : ∀ q, hv.ownBlock = some q → tv.ownBlock ≠ some q
theorem wk_ne {w : World} {base g : Nat} {sv fv : Value} {f : FuV} {hs td : List Int} {hv tv : Value} (h : WkR w base g sv fv f hs td hv tv) : hv.ownBlock ≠ some g ∧ tv.ownBlock ≠ some g := by
 have ne : ∀ (v : Value) n xs, w.ownsRow base 3 1 v n xs → v.ownBlock ≠ some g := fun v n xs ho e => by
  rcases ho.2 with ⟨rfl, _⟩ | ⟨q, cap, cur, rfl, _, hg, _⟩
  ·cases e
  ·obtain rfl : q = g := Option.some.inj e
   rw [h.row] at hg
   injection hg with hg
   injection hg with _ ht
   exact absurd ht (by decide)
 exact ⟨ne _ _ _ h.hs, ne _ _ _ h.td⟩
theorem wk_cells {w : World} {base g : Nat} {sv fv : Value} {f : FuV} {hs td : List Int} {hv tv : Value} (h : WkR w base g sv fv f hs td hv tv) : w.cell? ⟨g, 0, none⟩ = some sv ∧ w.cell? ⟨g, 1, none⟩ = some fv ∧ w.cell? ⟨g, 2, none⟩ = some (.int .i64 f.f.host) ∧ w.cell? ⟨g, 3, none⟩ = some (.int .i64 f.f.sig) ∧ w.cell? ⟨g, 4, none⟩ = some (.int .i64 f.f.inn) ∧ w.cell? ⟨g, 5, none⟩ = some (.int .i64 f.f.out) ∧ w.cell? ⟨g, 6, none⟩ = some (.int .i64 f.f.loc) ∧ w.cell? ⟨g, 7, none⟩ = some f.cv ∧ w.cell? ⟨g, 8, none⟩ = some f.mv ∧ w.cell? ⟨g, 9, none⟩ = some hv ∧ w.cell? ⟨g, 10, none⟩ = some tv :=
 ⟨(cell_of_row _ _ 0 _ _ _ h.row).trans rfl, (cell_of_row _ _ 1 _ _ _ h.row).trans rfl, (cell_of_row _ _ 2 _ _ _ h.row).trans rfl, (cell_of_row _ _ 3 _ _ _ h.row).trans rfl, (cell_of_row _ _ 4 _ _ _ h.row).trans rfl, (cell_of_row _ _ 5 _ _ _ h.row).trans rfl, (cell_of_row _ _ 6 _ _ _ h.row).trans rfl, (cell_of_row _ _ 7 _ _ _ h.row).trans rfl, (cell_of_row _ _ 8 _ _ _ h.row).trans rfl, (cell_of_row _ _ 9 _ _ _ h.row).trans rfl, (cell_of_row _ _ 10 _ _ _ h.row).trans rfl⟩
theorem wk_gr {w w' : World} {base g : Nat} {sv fv : Value} {f : FuV} {hs td : List Int} {hv tv : Value} (h : WkR w base g sv fv f hs td hv tv) (hg : Gr w w') : WkR w' base g sv fv f hs td hv tv :=
 ⟨gr_block hg h.row, h.bs, (Sep.of_gr (ex := fun _ => False) hg).owns h.hs (fun _ _ => id), (Sep.of_gr (ex := fun _ => False) hg).owns h.td (fun _ _ => id), h.ap⟩
theorem wk_seth {w : World} {base g : Nat} {sv fv : Value} {f : FuV} {hs td : List Int} {q n c : Nat} {tv : Value} (h : WkR w base g sv fv f hs td (.slice (some ⟨q, 0, none⟩) n c) tv) (hn : hs.length = n) (j : Nat) (x : Int) : WkR (w.setCell ⟨q, j, none⟩ (.int .i64 x)) base g sv fv f (hs.set j x) td (.slice (some ⟨q, 0, none⟩) n c) tv := by
 have hne := wk_ne h
 have hsep := Sep.setCell (ex := fun b => b = q) w (p := ⟨q, j, none⟩) rfl (.int .i64 x)
 refine ⟨hsep.at_ (fun e : g = q => hne.1 (by rw [e]; rfl)) h.row, h.bs, ?_, hsep.owns h.td (fun k hk e => h.ap q rfl (by rw [hk, show k = q from e])), h.ap⟩
 rw [List.length_set, ← ivs_set, hn]
 have := h.hs
 rw [hn] at this
 exact (this.stored j _).1
theorem wk_sett {w : World} {base g : Nat} {sv fv : Value} {f : FuV} {hs td' : List Int} {hv tv tv' : Value} (hrow : w.heap[g]? = some (.cells (wkA sv fv f hv tv) 67 (0, 0))) (hbs : base ≤ g) (hhs : w.ownsRow base 3 1 hv hs.length (ivs hs)) (ho : w.ownsRow base 3 1 tv' td'.length (ivs td')) (ha : ∀ q, hv.ownBlock = some q → tv'.ownBlock ≠ some q) : WkR (w.setCell ⟨g, 10, none⟩ tv') base g sv fv f hs td' hv tv' := by
 have ne : ∀ (v : Value) n xs, w.ownsRow base 3 1 v n xs → v.ownBlock ≠ some g := fun v n xs ho e => by
  rcases ho.2 with ⟨rfl, _⟩ | ⟨q, cap, cur, rfl, _, hg, _⟩
  ·cases e
  ·obtain rfl : q = g := Option.some.inj e
   rw [hrow] at hg
   injection hg with hg
   injection hg with _ ht
   exact absurd ht (by decide)
 have hsep := Sep.setCell (ex := fun b => b = g) w (p := ⟨g, 10, none⟩) rfl tv'
 exact ⟨heap_setCell_same w g 10 _ _ tv' hrow, hbs, hsep.owns hhs (fun k hk e => ne _ _ _ hhs (by rw [hk, show k = g from e])), hsep.owns ho (fun k hk e => ne _ _ _ ho (by rw [hk, show k = g from e])), ha⟩
def comeF (hs td : List Int) (a ht : Int) : (List Int × List Int) × Bool :=
 if (hs.length : Int) ≤ a then ((hs, td), false)
 else if hs.getD a.toNat 0 = -1 then ((hs.set a.toNat ht, td ++ [a]), true)
 else ((hs, td), decide (hs.getD a.toNat 0 = ht))
def Anew (base : Nat) (q : Nat) : Prop := base ≤ q
def WkA (w : World) (base g : Nat) (sv fv : Value) (f : FuV) (r : (List Int × List Int) × Bool) (e : Ending) (w' : World) : Prop :=
 ∃ hv tv, e = .returned (.bool r.2) ∧ WkR w' base g sv fv f r.1.1 r.1.2 hv tv ∧ Sep (Anew base) w w'
set_option maxHeartbeats 4000000 in
theorem come_all {w : World} {base g : Nat} {sv fv : Value} {f : FuV} {hs td : List Int} {hv tv : Value} (h : WkR w base g sv fv f hs td hv tv) (hb : base ≤ w.heap.size) (a : Nat) (ht : Int) (hl : hs.length ≤ 1099511627776) (hd : td.length ≤ 1099511627776) :
  Calls Try.prog 40 #[.pointer (some ⟨g, 0, none⟩), .int .i64 a, .int .i64 ht] w (WkA w base g sv fv f (comeF hs td a ht)) := by
 have HW := Lib.hid h
 obtain ⟨xh, ch, rfl⟩ := own_slice h.hs
 obtain ⟨n, hn⟩ : ∃ n, hs.length = n := ⟨_, rfl⟩
 have HN := Lib.hid hn
 have HL := Lib.hid hl
 have HTD := Lib.hid hd
 have HBB := Lib.hid hb
 obtain ⟨_, _, _, _, _, _, _, _, _, c9, c10⟩ := wk_cells h
 rw [hn] at c9 HW
 clear h hl hd hb hn
 by_cases h1 : (n : Int) ≤ a
 ·have HR := Lib.hid (show comeF hs td a ht = ((hs, td), false) by unfold comeF; rw [HN.out, if_pos h1])
  go_enter Try.func40, Try.ntmps40
  go_wp2
  go_ret
  exact ⟨_, tv, by rw [HR.out]; rfl, by rw [HR.out]; exact HW.out, Sep.refl _⟩
 ·have hlt : (a : Int) < (n : Int) := by omega
  obtain ⟨q, _, e, _, hqb, _, _⟩ := own_some HW.out.hs (by rw [HN.out]; omega)
  rw [HN.out] at e
  obtain rfl := (Value.slice.inj e).1
  clear e
  obtain ⟨x, hx⟩ : ∃ x, hs[a]? = some x := ⟨_, List.getElem?_eq_getElem (by rw [HN.out]; omega)⟩
  have hgd : hs.getD a 0 = x := by rw [List.getD_eq_getElem?_getD, hx]; rfl
  have hown := HW.out.hs
  rw [HN.out] at hown
  have hcx : w.cell? ⟨q, a, none⟩ = some (.int .i64 x) := by
   rw [hown.cellAt a (by omega)]; unfold ivs; rw [List.getElem?_map, hx]; rfl
  have hfx := hown.frozenAt a
  clear hown
  by_cases h2 : x = -1
  ·have HR := Lib.hid (show comeF hs td a ht = ((hs.set a ht, td ++ [(a : Int)]), true) by unfold comeF; rw [HN.out, if_neg h1, Int.toNat_natCast, hgd, if_pos h2])
   subst h2
   clear hgd hx
   go_enter Try.func40, Try.ntmps40
   go_upto_region 5 with fail
   have HW1 := Lib.hid (wk_seth HW.out HN.out a ht)
   have HS1 := Lib.hid (Sep.setCell (ex := Anew base) w (p := ⟨q, a, none⟩) hqb (.int .i64 ht))
   have hz1 : (w.setCell ⟨q, a, none⟩ (.int .i64 ht)).heap.size = w.heap.size := by simp
   generalize w.setCell ⟨q, a, none⟩ (.int .i64 ht) = w1 at *
   have HZ1 := Lib.hid hz1
   clear hcx hfx c9 c10 hz1
   obtain ⟨_, _, _, _, _, _, _, _, _, c9, c10⟩ := wk_cells HW1.out
   have fz := froz HW1.out.row 10
   obtain ⟨i0, hi, hz0, hz1, hz2⟩ := info_parts infoZ
   have HI := Lib.hid hi
   have HZ0 := Lib.hid hz0
   have HZ1_ := Lib.hid hz1
   have HZ2 := Lib.hid hz2
   clear hi hz0 hz1 hz2
   go_upto_region 6 with (first | (at_builtin; refine wpList_append_at rfl _ _ 25 rfl base 3 i0 (.int .i64 0) 1 8 Try.underlying25 HI.out HZ0.out HZ1_.out HZ2.out rfl (by decide) tv td.length (ivs td) rfl (World.ownsRow.alloc HW1.out.td _) (.slice (some ⟨w1.heap.size, 0, none⟩) 1 1) 1 [.int .i64 a] rfl (src_lit w1 #[.int .i64 a] 3 1 1) rfl ((List.all_eq_true (p := fun u : Value => u.oneCell')).1 rfl) (by have := HTD.out; unfold maxLen; omega) (by have := HTD.out; omega) (by have := HBB.out; have := HZ1.out; simp; omega) ?_))
   intro tv' w2 hown hgb hbk
   obtain ⟨xt, ct, rfl⟩ := own_slice hown
   have hs12 : Sep (Anew base) w1 w2 := Sep.trans (Sep.of_gr ((Gr.refl w1).alloc _ _)) (Sep.grown hgb (fun k hk => (HW1.out.td.lt k hk).1))
   have hpre : Sep (fun k => tv.ownBlock = some k) w1 w2 := Sep.trans (Sep.of_gr ((Gr.refl w1).alloc _ _)) (Sep.grown hgb (fun k hk => hk))
   have hne := wk_ne HW1.out
   have hrow := hpre.at_ (fun e => hne.2 e) HW1.out.row
   have hho := hpre.owns HW1.out.hs (fun k hk e => HW1.out.ap k hk e)
   have ho' : w2.ownsRow base 3 1 (.slice xt (td.length + 1) ct) (td ++ [(a : Int)]).length (ivs (td ++ [(a : Int)])) := by
    rw [ivs_app, List.length_append]; exact hown
   have hap : ∀ k, (Value.slice (some ⟨q, 0, none⟩) n ch).ownBlock = some k → (Value.slice xt (td.length + 1) ct).ownBlock ≠ some k := fun k hk e => by
    rcases hbk k e with h | h
    ·exact HW1.out.ap k hk h
    ·have := (HW1.out.hs.lt k hk).2
     first | omega | (simp at h; omega)
   have HS12 := Lib.hid hs12
   have HROW := Lib.hid hrow
   have HHO := Lib.hid hho
   have HOW := Lib.hid ho'
   have HAP := Lib.hid hap
   have fz2 := froz hrow 10
   have d10 : w2.cell? ⟨g, 10, none⟩ = some tv := (cell_of_row _ _ 10 _ _ _ hrow).trans rfl
   clear hs12 hpre hne hrow hho hown hgb hbk ho' hap c9 c10 fz
   go_upto_region 6 with fail
   have HW3 := Lib.hid (wk_sett HROW.out HW1.out.bs HHO.out HOW.out HAP.out)
   have HS3 := Lib.hid (Sep.trans HS1.out (Sep.trans HS12.out (Sep.setCell (ex := Anew base) w2 (p := ⟨g, 10, none⟩) HW1.out.bs (.slice xt (td.length + 1) ct))))
   generalize w2.setCell ⟨g, 10, none⟩ (.slice xt (td.length + 1) ct) = w3 at *
   clear fz2 d10
   obtain ⟨_, _, _, _, _, _, _, _, _, c9, c10⟩ := wk_cells HW3.out
   have hch : w3.cell? ⟨q, a, none⟩ = some (.int .i64 ht) := by
    have h3 := HW3.out.hs
    rw [List.length_set, HN.out] at h3
    rw [h3.cellAt a (by omega)]
    unfold ivs
    rw [List.getElem?_map, List.getElem?_set_self (by rw [HN.out]; omega)]
    rfl
   go_wp2
   go_ret
   exact ⟨_, _, by rw [HR.out]; simp, by rw [HR.out]; exact HW3.out, HS3.out⟩
  ·have HR := Lib.hid (show comeF hs td a ht = ((hs, td), decide (x = ht)) by unfold comeF; rw [HN.out, if_neg h1, Int.toNat_natCast, hgd, if_neg h2])
   have e2 : (x == -1) = false := by simp [h2]
   clear hgd hx
   go_enter Try.func40, Try.ntmps40
   go_wp2
   go_ret
   exact ⟨_, tv, by rw [HR.out]; rfl, by rw [HR.out]; exact HW.out, Sep.refl _⟩
end Tg
end Go.Proofs.Ytifjgocfdnhdeaa
/- TgG -/
namespace Go.Proofs.Ytifjgocfdnhdeaa
open Go.RowKit
namespace Tg
open Ins
theorem infoPr : (Try.prog.info? 34).map (·.size) = some 2 := by kernel_rfl
theorem comeF_len (hs td : List Int) (a ht : Int) : (comeF hs td a ht).1.1.length = hs.length ∧ (comeF hs td a ht).1.2.length ≤ td.length + 1 := by
 unfold comeF
 split
 ·exact ⟨rfl, by dsimp only; omega⟩
 ·split
  ·exact ⟨by simp, by simp⟩
  ·exact ⟨rfl, by dsimp only; omega⟩
def tabF (hs td : List Int) (at_ h : Int) : Nat → (List Int × List Int) × Bool
 | 0 => ((hs, td), true)
 | k + 1 => if (tabF hs td at_ h k).2 = true then comeF (tabF hs td at_ h k).1.1 (tabF hs td at_ h k).1.2 (at_ + 1 + k) h else tabF hs td at_ h k
theorem tabF_len (hs td : List Int) (at_ h : Int) : ∀ k, (tabF hs td at_ h k).1.1.length = hs.length ∧ (tabF hs td at_ h k).1.2.length ≤ td.length + k
 | 0 => ⟨rfl, by simp [tabF]⟩
 | k + 1 => by
  have h1 := tabF_len hs td at_ h k
  unfold tabF
  split
  ·have h2 := comeF_len (tabF hs td at_ h k).1.1 (tabF hs td at_ h k).1.2 (at_ + 1 + k) h
   exact ⟨h2.1.trans h1.1, by omega⟩
  ·exact ⟨h1.1, by omega⟩
theorem tabF_no {hs td : List Int} {at_ h : Int} {k : Nat} (h1 : (tabF hs td at_ h k).2 = false) : ∀ n, tabF hs td at_ h (k + n) = tabF hs td at_ h k
 | 0 => rfl
 | n + 1 => by
  have := tabF_no h1 n
  rw [← Nat.add_assoc, tabF, this, if_neg (by rw [h1]; decide)]
def stepF (hs td : List Int) (at_ : Nat) (c : Ce) (t gv : Int) : (List Int × List Int) × Bool :=
 if hs.getD at_ 0 - t < 0 then ((hs, td), false)
 else if c.op = 0 ∨ c.op = 15 then ((hs, td), true)
 else if c.op = 12 then comeF hs td c.a (hs.getD at_ 0 - t + gv)
 else if c.op = 13 then (if (comeF hs td c.a (hs.getD at_ 0 - t + gv)).2 = true then comeF (comeF hs td c.a (hs.getD at_ 0 - t + gv)).1.1 (comeF hs td c.a (hs.getD at_ 0 - t + gv)).1.2 (at_ + 1) (hs.getD at_ 0 - t + gv) else comeF hs td c.a (hs.getD at_ 0 - t + gv))
 else if c.op = 14 then tabF hs td at_ (hs.getD at_ 0 - t + gv) (c.a.toNat + 1)
 else comeF hs td (at_ + 1) (hs.getD at_ 0 - t + gv)
theorem meas_lt {n k : Nat} (h : k < n) : n - (intOf (.int .i64 ((k : Int) + 1))).toNat < n - (intOf (.int .i64 (k : Int))).toNat := by
 simp [intOf]; omega
theorem cast3 (a k : Nat) : ((a + 1 + k : Nat) : Int) = (a : Int) + 1 + k := by omega
theorem le40 {x t k a : Nat} (h1 : x ≤ t + k) (h2 : t ≤ 1048576) (h3 : a ≤ 1048576) (h4 : k < a + 1) : x ≤ 1099511627776 := by omega
theorem wrapK {a n k b : Nat} (h : a < n) (h1 : n ≤ 1048576) (h2 : b ≤ 1048576) (h3 : k < b + 1) : IntKind.i64.wrap ((a : Int) + 1 + k) = (a : Int) + 1 + k ∧ wrap64 ((a : Int) + 1 + k) = (a : Int) + 1 + k ∧ wrap64 ((k : Int) + 1) = (k : Int) + 1 := by
 refine ⟨?_, ?_, ?_⟩
 ·rw [IntKind.wrap_i64]; omega
 ·unfold wrap64; omega
 ·unfold wrap64; omega
theorem kak {k a : Nat} (h : k < a + 1) : k + 1 + (a - k) = a + 1 := by omega
set_option maxRecDepth 100000 in
set_option maxHeartbeats 8000000 in
theorem step_0 {w0 w : World} {g : Nat} {sv fv : Value} {P : Pr} {host sig inn out loc a n t gv x : Int} {l : List Ce} {xc xm : Option Addr} {nc cc nm cm at_ : Nat} {hs td : List Int} {hv tv : Value}
  (hP : ∀ wx, Gr w0 wx → PrR wx sv fv P) (hg0 : Gr w0 w) (_hl : l.length = nc) (hcl : ∀ wx, Gr w0 wx → RwR wx (.slice xc nc cc) nc (flat ceA l)) (hnc : nc ≤ 1048576) (h : WkR w w0.heap.size g sv fv ⟨⟨host, sig, inn, out, loc, l⟩, .slice xc nc cc, .slice xm nm cm⟩ hs td hv tv)
  (hn : hs.length = nc) (htd : td.length ≤ 1048576) (hat : at_ < nc) (hc : l[at_]? = some ⟨0, a, n⟩) (hcb : CeB ⟨0, a, n⟩) (he : effF P out ⟨0, a, n⟩ = (t, gv)) (ht : 0 ≤ t ∧ t ≤ 4194304) (hgv : 0 ≤ gv ∧ gv ≤ 1048576) (hx : hs[at_]? = some x) (hxb : 0 ≤ x ∧ x ≤ 1152921504606846976) :
  Calls Try.prog 41 #[.pointer (some ⟨g, 0, none⟩), .int .i64 at_] w (WkA w w0.heap.size g sv fv ⟨⟨host, sig, inn, out, loc, l⟩, .slice xc nc cc, .slice xm nm cm⟩ (stepF hs td at_ ⟨0, a, n⟩ t gv)) := by
 obtain ⟨xs, cs, e1, -⟩ := id (hP w0 (Gr.refl _)).ss
 obtain ⟨xf, cf, e2, -⟩ := id (hP w0 (Gr.refl _)).fs
 subst e1 e2
 obtain ⟨ns, hns⟩ : ∃ n, P.ss.length = n := ⟨_, rfl⟩
 obtain ⟨nf, hnf⟩ : ∃ n, P.fs.length = n := ⟨_, rfl⟩
 have HEF := Lib.hid (fun wx (hg : Gr w0 wx) => eff_any (f := ⟨⟨host, sig, inn, out, loc, l⟩, .slice xc nc cc, .slice xm nm cm⟩) (hP wx hg) ⟨xc, nc, cc, rfl⟩ hcb)
 unfold fuA ceA at HEF
 dsimp only at HEF
 rw [he] at HEF
 rw [hns, hnf] at HEF h ⊢
 have HW := Lib.hid h
 have HN := Lib.hid hn
 have HTD := Lib.hid htd
 have HNC := Lib.hid hnc
 have HX := Lib.hid hx
 have HXB := Lib.hid hxb
 have HT := Lib.hid ht
 have HV := Lib.hid hgv
 have HG0 := Lib.hid hg0
 have HCB := Lib.hid hcb
 have HAT := Lib.hid hat
 have hgd : hs.getD at_ 0 = x := by rw [List.getD_eq_getElem?_getD, hx]; rfl
 have HGD := Lib.hid hgd
 have hai : (at_ : Int) < (nc : Int) := by omega
 obtain ⟨bc, oc, rfl, hcel⟩ := rwR_at (g := ceA) (z := 3) (fun _ => rfl) (hcl w hg0) hc (by decide)
 have HD := Lib.hid (show ∀ j u, (#[.int .i64 0, .int .i64 a, .int .u64 n] : Array Value).toList[j]? = some u → w.cell? ⟨bc, oc + at_ * 3 + j, none⟩ = some u from fun j u hu => hcel j u (by rw [← hu]; unfold ceA; rw [Array.getElem?_toList]))
 obtain ⟨_, _, _, _, _, _, _, c7, _, c9, c10⟩ := wk_cells h
 dsimp only at c7
 have HCM := Lib.hid (fun (wx : World) (hs td : List Int) (hv tv : Value) (h : WkR wx w0.heap.size g (.slice xs ns cs) (.slice xf nf cf) ⟨⟨host, sig, inn, out, loc, l⟩, .slice (some ⟨bc, oc, none⟩) nc cc, .slice xm nm cm⟩ hs td hv tv) (hb : w0.heap.size ≤ wx.heap.size) (a : Nat) (ht : Int) (hl : hs.length ≤ 1099511627776) (hd : td.length ≤ 1099511627776) => come_all h hb a ht hl hd)
 clear hP _hl hcl h hn htd hnc hc hcb he hcel hns hnf hgd hxb ht hgv hg0 hat hx
 go_enter Try.func41, Try.ntmps41
 go_upto_region 2 with (first | (refine wpList_load_cells rfl 47 _ rfl bc (oc + at_ * 3) rfl #[.int .i64 0, .int .i64 a, .int .u64 n] _ HD.out Try.underlying47 rfl infoCe ?_) | (refine wpList_store_row rfl 47 _ _ rfl w.heap.size #[.int .i64 0, .int .i64 a, .int .u64 n] rfl rfl 47 #[.int .i64 0, .int .i64 0, .int .u64 0] (heap_alloc_new w _) infoCe rfl (by kernel_rfl) ?_))
 have hrw := Sep.setRow (ex := fun b => b = w.heap.size) (w.alloc (.cells #[.int .i64 0, .int .i64 0, .int .u64 0] 47)) rfl #[.int .i64 0, .int .i64 a, .int .u64 n]
 have hgg : Gr w ((w.alloc (.cells #[.int .i64 0, .int .i64 0, .int .u64 0] 47)).setRow w.heap.size #[.int .i64 0, .int .i64 a, .int .u64 n]) := Sep.toGr ((Gr.refl w).alloc #[.int .i64 0, .int .i64 0, .int .u64 0] 47) hrw (fun q hq => by have e' : q = w.heap.size := hq; omega)
 have hbk := setRow_block (c := #[.int .i64 0, .int .i64 a, .int .u64 n]) (heap_alloc_new w (.cells #[.int .i64 0, .int .i64 0, .int .u64 0] 47))
 have HS2 := Lib.hid hgg
 clear hrw hgg
 generalize (w.alloc (.cells #[.int .i64 0, .int .i64 0, .int .u64 0] 47)).setRow w.heap.size #[.int .i64 0, .int .i64 a, .int .u64 n] = w2 at *
 generalize hgc : w.heap.size = gc at *
 have HBK := Lib.hid hbk
 have HW2 := Lib.hid (wk_gr HW.out HS2.out)
 have HP2 := Lib.hid (show ∀ wx, Gr w2 wx → ∀ j u, (#[.slice xs ns cs, .slice xf nf cf] : Array Value).toList[j]? = some u → wx.cell? ⟨g, 0 + j, none⟩ = some u from fun wx hg j u hu => by
  obtain ⟨a0, a1, _⟩ := wk_cells (wk_gr HW2.out hg)
  match j, hu with
  | 0, hu => obtain rfl := Option.some.inj hu; exact a0
  | 1, hu => obtain rfl := Option.some.inj hu; exact a1
  | j + 2, hu => cases hu)
 have HF2 := Lib.hid (show ∀ wx, Gr w2 wx → ∀ j u, (#[.int .i64 host, .int .i64 sig, .int .i64 inn, .int .i64 out, .int .i64 loc, .slice (some ⟨bc, oc, none⟩) nc cc, .slice xm nm cm] : Array Value).toList[j]? = some u → wx.cell? ⟨g, 2 + j, none⟩ = some u from fun wx hg j u hu => by
  obtain ⟨_, _, a2, a3, a4, a5, a6, a7, a8, _⟩ := wk_cells (wk_gr HW2.out hg)
  match j, hu with
  | 0, hu => obtain rfl := Option.some.inj hu; exact a2
  | 1, hu => obtain rfl := Option.some.inj hu; exact a3
  | 2, hu => obtain rfl := Option.some.inj hu; exact a4
  | 3, hu => obtain rfl := Option.some.inj hu; exact a5
  | 4, hu => obtain rfl := Option.some.inj hu; exact a6
  | 5, hu => obtain rfl := Option.some.inj hu; exact a7
  | 6, hu => obtain rfl := Option.some.inj hu; exact a8
  | j + 7, hu => cases hu)
 have HC2 := Lib.hid (show ∀ wx, Gr w2 wx → ∀ j u, (#[.int .i64 0, .int .i64 a, .int .u64 n] : Array Value).toList[j]? = some u → wx.cell? ⟨gc, 0 + j, none⟩ = some u from fun wx hg j u hu => by
  obtain ⟨a0, a1, a2⟩ := cells3 (gr_block hg HBK.out)
  match j, hu with
  | 0, hu => obtain rfl := Option.some.inj hu; exact a0
  | 1, hu => obtain rfl := Option.some.inj hu; exact a1
  | 2, hu => obtain rfl := Option.some.inj hu; exact a2
  | j + 3, hu => cases hu)
 clear hbk c7 c9 c10
 refine wp_region_steady (by kernel_rfl) (by kernel_rfl) ?_
 refine steady_step (fun K hK => ?_); apply steady_op rfl; (focus (intro wx hw; go_simp; exact ⟨rfl, hw⟩)); go_simp; refine hK _ ?_; clear hK K
 refine steady_step (fun K hK => ?_); apply steady_op rfl; (focus (intro wx hw; go_simp; exact ⟨rfl, hw⟩)); go_simp; refine hK _ ?_; clear hK K
 refine steady_step (fun K hK => ?_); apply steady_op rfl; (focus (intro wx hw; go_simp; exact ⟨rfl, hw⟩)); go_simp; refine hK _ ?_; clear hK K
 refine steady_step (fun K hK => ?_)
 refine steady_load_cells rfl 34 _ rfl g 0 rfl #[.slice xs ns cs, .slice xf nf cf] _ (HP2.out _ (Gr.drew (Gr.refl _))) Try.underlying34 rfl infoPr ?_
 go_simp; refine hK _ ?_; clear hK K
 refine steady_step (fun K hK => ?_); apply steady_op rfl; (focus (intro wx hw; go_simp; exact ⟨rfl, hw⟩)); go_simp; refine hK _ ?_; clear hK K
 refine steady_step (fun K hK => ?_); apply steady_op rfl; (focus (intro wx hw; go_simp; exact ⟨rfl, hw⟩)); go_simp; refine hK _ ?_; clear hK K
 refine steady_step (fun K hK => ?_); apply steady_op rfl; (focus (intro wx hw; go_simp; exact ⟨rfl, hw⟩)); go_simp; refine hK _ ?_; clear hK K
 refine steady_step (fun K hK => ?_)
 refine steady_load_cells rfl 39 _ rfl g 2 rfl #[.int .i64 host, .int .i64 sig, .int .i64 inn, .int .i64 out, .int .i64 loc, .slice (some ⟨bc, oc, none⟩) nc cc, .slice xm nm cm] _ (HF2.out _ (Gr.drew (Gr.refl _))) Try.underlying39 rfl infoFn ?_
 go_simp; refine hK _ ?_; clear hK K
 refine steady_step (fun K hK => ?_)
 refine steady_load_cells rfl 47 _ rfl gc 0 rfl #[.int .i64 0, .int .i64 a, .int .u64 n] _ (HC2.out _ (Gr.drew (Gr.refl _))) Try.underlying47 rfl infoCe ?_
 go_simp; refine hK _ ?_; clear hK K
 refine steady_step (fun K hK => ?_)
 apply steady_op rfl
 ·intro wx hw; go_simp; exact (HEF.out wx (gr_trans HG0.out (gr_trans HS2.out (gr_trans (Gr.drew (Gr.refl _)) hw)))).mono fun e w3 h => ⟨h.1, gr_trans hw h.2⟩
 go_simp; refine hK _ ?_; clear hK K
 refine steady_step (fun K hK => ?_); apply steady_op rfl; (focus (intro wx hw; go_simp; exact ⟨rfl, hw⟩)); go_simp; refine hK _ ?_; clear hK K
 refine steady_step (fun K hK => ?_); apply steady_op rfl; (focus (intro wx hw; go_simp; exact ⟨rfl, hw⟩)); go_simp; refine hK _ ?_; clear hK K
 refine steady_step (fun K hK => ?_); apply steady_op rfl; (focus (intro wx hw; go_simp; exact ⟨rfl, hw⟩)); go_simp; refine hK _ ?_; clear hK K
 refine steady_step (fun K hK => ?_); apply steady_op rfl; (focus (intro wx hw; go_simp; exact ⟨rfl, hw⟩)); go_simp; refine hK _ ?_; clear hK K
 refine steady_step (fun K hK => ?_); apply steady_op rfl; (focus (intro wx hw; go_simp; exact ⟨rfl, hw⟩)); go_simp; refine hK _ ?_; clear hK K
 refine steady_nil ?_
 intro w3 hg3
 have HS3 := Lib.hid (gr_trans (Gr.drew (Gr.refl _)) hg3)
 have HW3 := Lib.hid (wk_gr HW2.out HS3.out)
 have HS13 := Lib.hid (Sep.of_gr (ex := Anew w0.heap.size) (gr_trans HS2.out HS3.out))
 have HZ3 := Lib.hid (gr_trans HG0.out (gr_trans HS2.out HS3.out)).size
 have hbk3 := gr_block HS3.out HBK.out
 have HB3 := Lib.hid hbk3
 clear hg3 HP2 HF2 HC2 HBK hbk3
 obtain ⟨xh, ch, e⟩ := own_slice HW3.out.hs
 obtain ⟨q, ch', e', _, _, _, _⟩ := own_some HW3.out.hs (by rw [HN.out]; have := HAT.out; omega)
 rw [HN.out] at e e'
 subst e
 obtain rfl := (Value.slice.inj e').1
 obtain ⟨_, _, _, _, _, _, _, _, _, c9, c10⟩ := wk_cells HW3.out
 have hq : w3.cell? ⟨q, at_, none⟩ = some (.int .i64 x) := by
  have h3 := HW3.out.hs
  rw [HN.out] at h3
  rw [h3.cellAt at_ (by have := HAT.out; omega)]
  unfold ivs
  rw [List.getElem?_map, HX.out]
  rfl
 have T1 : IntKind.i64.wrap (x - t) = x - t := by have := HXB.out; have := HT.out; rw [IntKind.wrap_i64]; omega
 have T1' : wrap64 (x - t) = x - t := by have := HXB.out; have := HT.out; unfold wrap64; omega
 by_cases hneg : x - t < 0
 ·have HR := Lib.hid (show stepF hs td at_ ⟨0, a, n⟩ t gv = ((hs, td), false) by unfold stepF; rw [HGD.out, if_pos hneg])
  clear e'
  go_wp2
  go_ret
  exact ⟨_, tv, by rw [HR.out]; rfl, by rw [HR.out]; exact HW3.out, HS13.out⟩
 ·obtain ⟨h2, hh2⟩ : ∃ h2, x - t + gv = h2 := ⟨_, rfl⟩
  have T2 : IntKind.i64.wrap (x - t + gv) = h2 := by rw [← hh2]; have := HXB.out; have := HT.out; have := HV.out; rw [IntKind.wrap_i64]; omega
  have T2' : wrap64 (x - t + gv) = h2 := by rw [← hh2]; have := HXB.out; have := HT.out; have := HV.out; unfold wrap64; omega
  have HH2 := Lib.hid hh2
  have hpos : ¬ (x - t < 0) := hneg
  clear e' hh2
  go_upto_region 7 with fail
  clear hq c9 c10 T1 T1' T2 T2'
  obtain ⟨k0, k1, k2⟩ := cells3 HB3.out
  have HR := Lib.hid (show stepF hs td at_ ⟨0, a, n⟩ t gv = ((hs, td), true) by unfold stepF; rw [HGD.out, if_neg hpos, if_pos (by simp)])
  go_wp2
  go_ret
  exact ⟨_, tv, by rw [HR.out]; rfl, by rw [HR.out]; exact HW3.out, HS13.out⟩
set_option maxRecDepth 100000 in
set_option maxHeartbeats 8000000 in
theorem step_15 {w0 w : World} {g : Nat} {sv fv : Value} {P : Pr} {host sig inn out loc a n t gv x : Int} {l : List Ce} {xc xm : Option Addr} {nc cc nm cm at_ : Nat} {hs td : List Int} {hv tv : Value}
  (hP : ∀ wx, Gr w0 wx → PrR wx sv fv P) (hg0 : Gr w0 w) (_hl : l.length = nc) (hcl : ∀ wx, Gr w0 wx → RwR wx (.slice xc nc cc) nc (flat ceA l)) (hnc : nc ≤ 1048576) (h : WkR w w0.heap.size g sv fv ⟨⟨host, sig, inn, out, loc, l⟩, .slice xc nc cc, .slice xm nm cm⟩ hs td hv tv)
  (hn : hs.length = nc) (htd : td.length ≤ 1048576) (hat : at_ < nc) (hc : l[at_]? = some ⟨15, a, n⟩) (hcb : CeB ⟨15, a, n⟩) (he : effF P out ⟨15, a, n⟩ = (t, gv)) (ht : 0 ≤ t ∧ t ≤ 4194304) (hgv : 0 ≤ gv ∧ gv ≤ 1048576) (hx : hs[at_]? = some x) (hxb : 0 ≤ x ∧ x ≤ 1152921504606846976) :
  Calls Try.prog 41 #[.pointer (some ⟨g, 0, none⟩), .int .i64 at_] w (WkA w w0.heap.size g sv fv ⟨⟨host, sig, inn, out, loc, l⟩, .slice xc nc cc, .slice xm nm cm⟩ (stepF hs td at_ ⟨15, a, n⟩ t gv)) := by
 obtain ⟨xs, cs, e1, -⟩ := id (hP w0 (Gr.refl _)).ss
 obtain ⟨xf, cf, e2, -⟩ := id (hP w0 (Gr.refl _)).fs
 subst e1 e2
 obtain ⟨ns, hns⟩ : ∃ n, P.ss.length = n := ⟨_, rfl⟩
 obtain ⟨nf, hnf⟩ : ∃ n, P.fs.length = n := ⟨_, rfl⟩
 have HEF := Lib.hid (fun wx (hg : Gr w0 wx) => eff_any (f := ⟨⟨host, sig, inn, out, loc, l⟩, .slice xc nc cc, .slice xm nm cm⟩) (hP wx hg) ⟨xc, nc, cc, rfl⟩ hcb)
 unfold fuA ceA at HEF
 dsimp only at HEF
 rw [he] at HEF
 rw [hns, hnf] at HEF h ⊢
 have HW := Lib.hid h
 have HN := Lib.hid hn
 have HTD := Lib.hid htd
 have HNC := Lib.hid hnc
 have HX := Lib.hid hx
 have HXB := Lib.hid hxb
 have HT := Lib.hid ht
 have HV := Lib.hid hgv
 have HG0 := Lib.hid hg0
 have HCB := Lib.hid hcb
 have HAT := Lib.hid hat
 have hgd : hs.getD at_ 0 = x := by rw [List.getD_eq_getElem?_getD, hx]; rfl
 have HGD := Lib.hid hgd
 have hai : (at_ : Int) < (nc : Int) := by omega
 obtain ⟨bc, oc, rfl, hcel⟩ := rwR_at (g := ceA) (z := 3) (fun _ => rfl) (hcl w hg0) hc (by decide)
 have HD := Lib.hid (show ∀ j u, (#[.int .i64 15, .int .i64 a, .int .u64 n] : Array Value).toList[j]? = some u → w.cell? ⟨bc, oc + at_ * 3 + j, none⟩ = some u from fun j u hu => hcel j u (by rw [← hu]; unfold ceA; rw [Array.getElem?_toList]))
 obtain ⟨_, _, _, _, _, _, _, c7, _, c9, c10⟩ := wk_cells h
 dsimp only at c7
 have HCM := Lib.hid (fun (wx : World) (hs td : List Int) (hv tv : Value) (h : WkR wx w0.heap.size g (.slice xs ns cs) (.slice xf nf cf) ⟨⟨host, sig, inn, out, loc, l⟩, .slice (some ⟨bc, oc, none⟩) nc cc, .slice xm nm cm⟩ hs td hv tv) (hb : w0.heap.size ≤ wx.heap.size) (a : Nat) (ht : Int) (hl : hs.length ≤ 1099511627776) (hd : td.length ≤ 1099511627776) => come_all h hb a ht hl hd)
 clear hP _hl hcl h hn htd hnc hc hcb he hcel hns hnf hgd hxb ht hgv hg0 hat hx
 go_enter Try.func41, Try.ntmps41
 go_upto_region 2 with (first | (refine wpList_load_cells rfl 47 _ rfl bc (oc + at_ * 3) rfl #[.int .i64 15, .int .i64 a, .int .u64 n] _ HD.out Try.underlying47 rfl infoCe ?_) | (refine wpList_store_row rfl 47 _ _ rfl w.heap.size #[.int .i64 15, .int .i64 a, .int .u64 n] rfl rfl 47 #[.int .i64 0, .int .i64 0, .int .u64 0] (heap_alloc_new w _) infoCe rfl (by kernel_rfl) ?_))
 have hrw := Sep.setRow (ex := fun b => b = w.heap.size) (w.alloc (.cells #[.int .i64 0, .int .i64 0, .int .u64 0] 47)) rfl #[.int .i64 15, .int .i64 a, .int .u64 n]
 have hgg : Gr w ((w.alloc (.cells #[.int .i64 0, .int .i64 0, .int .u64 0] 47)).setRow w.heap.size #[.int .i64 15, .int .i64 a, .int .u64 n]) := Sep.toGr ((Gr.refl w).alloc #[.int .i64 0, .int .i64 0, .int .u64 0] 47) hrw (fun q hq => by have e' : q = w.heap.size := hq; omega)
 have hbk := setRow_block (c := #[.int .i64 15, .int .i64 a, .int .u64 n]) (heap_alloc_new w (.cells #[.int .i64 0, .int .i64 0, .int .u64 0] 47))
 have HS2 := Lib.hid hgg
 clear hrw hgg
 generalize (w.alloc (.cells #[.int .i64 0, .int .i64 0, .int .u64 0] 47)).setRow w.heap.size #[.int .i64 15, .int .i64 a, .int .u64 n] = w2 at *
 generalize hgc : w.heap.size = gc at *
 have HBK := Lib.hid hbk
 have HW2 := Lib.hid (wk_gr HW.out HS2.out)
 have HP2 := Lib.hid (show ∀ wx, Gr w2 wx → ∀ j u, (#[.slice xs ns cs, .slice xf nf cf] : Array Value).toList[j]? = some u → wx.cell? ⟨g, 0 + j, none⟩ = some u from fun wx hg j u hu => by
  obtain ⟨a0, a1, _⟩ := wk_cells (wk_gr HW2.out hg)
  match j, hu with
  | 0, hu => obtain rfl := Option.some.inj hu; exact a0
  | 1, hu => obtain rfl := Option.some.inj hu; exact a1
  | j + 2, hu => cases hu)
 have HF2 := Lib.hid (show ∀ wx, Gr w2 wx → ∀ j u, (#[.int .i64 host, .int .i64 sig, .int .i64 inn, .int .i64 out, .int .i64 loc, .slice (some ⟨bc, oc, none⟩) nc cc, .slice xm nm cm] : Array Value).toList[j]? = some u → wx.cell? ⟨g, 2 + j, none⟩ = some u from fun wx hg j u hu => by
  obtain ⟨_, _, a2, a3, a4, a5, a6, a7, a8, _⟩ := wk_cells (wk_gr HW2.out hg)
  match j, hu with
  | 0, hu => obtain rfl := Option.some.inj hu; exact a2
  | 1, hu => obtain rfl := Option.some.inj hu; exact a3
  | 2, hu => obtain rfl := Option.some.inj hu; exact a4
  | 3, hu => obtain rfl := Option.some.inj hu; exact a5
  | 4, hu => obtain rfl := Option.some.inj hu; exact a6
  | 5, hu => obtain rfl := Option.some.inj hu; exact a7
  | 6, hu => obtain rfl := Option.some.inj hu; exact a8
  | j + 7, hu => cases hu)
 have HC2 := Lib.hid (show ∀ wx, Gr w2 wx → ∀ j u, (#[.int .i64 15, .int .i64 a, .int .u64 n] : Array Value).toList[j]? = some u → wx.cell? ⟨gc, 0 + j, none⟩ = some u from fun wx hg j u hu => by
  obtain ⟨a0, a1, a2⟩ := cells3 (gr_block hg HBK.out)
  match j, hu with
  | 0, hu => obtain rfl := Option.some.inj hu; exact a0
  | 1, hu => obtain rfl := Option.some.inj hu; exact a1
  | 2, hu => obtain rfl := Option.some.inj hu; exact a2
  | j + 3, hu => cases hu)
 clear hbk c7 c9 c10
 refine wp_region_steady (by kernel_rfl) (by kernel_rfl) ?_
 refine steady_step (fun K hK => ?_); apply steady_op rfl; (focus (intro wx hw; go_simp; exact ⟨rfl, hw⟩)); go_simp; refine hK _ ?_; clear hK K
 refine steady_step (fun K hK => ?_); apply steady_op rfl; (focus (intro wx hw; go_simp; exact ⟨rfl, hw⟩)); go_simp; refine hK _ ?_; clear hK K
 refine steady_step (fun K hK => ?_); apply steady_op rfl; (focus (intro wx hw; go_simp; exact ⟨rfl, hw⟩)); go_simp; refine hK _ ?_; clear hK K
 refine steady_step (fun K hK => ?_)
 refine steady_load_cells rfl 34 _ rfl g 0 rfl #[.slice xs ns cs, .slice xf nf cf] _ (HP2.out _ (Gr.drew (Gr.refl _))) Try.underlying34 rfl infoPr ?_
 go_simp; refine hK _ ?_; clear hK K
 refine steady_step (fun K hK => ?_); apply steady_op rfl; (focus (intro wx hw; go_simp; exact ⟨rfl, hw⟩)); go_simp; refine hK _ ?_; clear hK K
 refine steady_step (fun K hK => ?_); apply steady_op rfl; (focus (intro wx hw; go_simp; exact ⟨rfl, hw⟩)); go_simp; refine hK _ ?_; clear hK K
 refine steady_step (fun K hK => ?_); apply steady_op rfl; (focus (intro wx hw; go_simp; exact ⟨rfl, hw⟩)); go_simp; refine hK _ ?_; clear hK K
 refine steady_step (fun K hK => ?_)
 refine steady_load_cells rfl 39 _ rfl g 2 rfl #[.int .i64 host, .int .i64 sig, .int .i64 inn, .int .i64 out, .int .i64 loc, .slice (some ⟨bc, oc, none⟩) nc cc, .slice xm nm cm] _ (HF2.out _ (Gr.drew (Gr.refl _))) Try.underlying39 rfl infoFn ?_
 go_simp; refine hK _ ?_; clear hK K
 refine steady_step (fun K hK => ?_)
 refine steady_load_cells rfl 47 _ rfl gc 0 rfl #[.int .i64 15, .int .i64 a, .int .u64 n] _ (HC2.out _ (Gr.drew (Gr.refl _))) Try.underlying47 rfl infoCe ?_
 go_simp; refine hK _ ?_; clear hK K
 refine steady_step (fun K hK => ?_)
 apply steady_op rfl
 ·intro wx hw; go_simp; exact (HEF.out wx (gr_trans HG0.out (gr_trans HS2.out (gr_trans (Gr.drew (Gr.refl _)) hw)))).mono fun e w3 h => ⟨h.1, gr_trans hw h.2⟩
 go_simp; refine hK _ ?_; clear hK K
 refine steady_step (fun K hK => ?_); apply steady_op rfl; (focus (intro wx hw; go_simp; exact ⟨rfl, hw⟩)); go_simp; refine hK _ ?_; clear hK K
 refine steady_step (fun K hK => ?_); apply steady_op rfl; (focus (intro wx hw; go_simp; exact ⟨rfl, hw⟩)); go_simp; refine hK _ ?_; clear hK K
 refine steady_step (fun K hK => ?_); apply steady_op rfl; (focus (intro wx hw; go_simp; exact ⟨rfl, hw⟩)); go_simp; refine hK _ ?_; clear hK K
 refine steady_step (fun K hK => ?_); apply steady_op rfl; (focus (intro wx hw; go_simp; exact ⟨rfl, hw⟩)); go_simp; refine hK _ ?_; clear hK K
 refine steady_step (fun K hK => ?_); apply steady_op rfl; (focus (intro wx hw; go_simp; exact ⟨rfl, hw⟩)); go_simp; refine hK _ ?_; clear hK K
 refine steady_nil ?_
 intro w3 hg3
 have HS3 := Lib.hid (gr_trans (Gr.drew (Gr.refl _)) hg3)
 have HW3 := Lib.hid (wk_gr HW2.out HS3.out)
 have HS13 := Lib.hid (Sep.of_gr (ex := Anew w0.heap.size) (gr_trans HS2.out HS3.out))
 have HZ3 := Lib.hid (gr_trans HG0.out (gr_trans HS2.out HS3.out)).size
 have hbk3 := gr_block HS3.out HBK.out
 have HB3 := Lib.hid hbk3
 clear hg3 HP2 HF2 HC2 HBK hbk3
 obtain ⟨xh, ch, e⟩ := own_slice HW3.out.hs
 obtain ⟨q, ch', e', _, _, _, _⟩ := own_some HW3.out.hs (by rw [HN.out]; have := HAT.out; omega)
 rw [HN.out] at e e'
 subst e
 obtain rfl := (Value.slice.inj e').1
 obtain ⟨_, _, _, _, _, _, _, _, _, c9, c10⟩ := wk_cells HW3.out
 have hq : w3.cell? ⟨q, at_, none⟩ = some (.int .i64 x) := by
  have h3 := HW3.out.hs
  rw [HN.out] at h3
  rw [h3.cellAt at_ (by have := HAT.out; omega)]
  unfold ivs
  rw [List.getElem?_map, HX.out]
  rfl
 have T1 : IntKind.i64.wrap (x - t) = x - t := by have := HXB.out; have := HT.out; rw [IntKind.wrap_i64]; omega
 have T1' : wrap64 (x - t) = x - t := by have := HXB.out; have := HT.out; unfold wrap64; omega
 by_cases hneg : x - t < 0
 ·have HR := Lib.hid (show stepF hs td at_ ⟨15, a, n⟩ t gv = ((hs, td), false) by unfold stepF; rw [HGD.out, if_pos hneg])
  clear e'
  go_wp2
  go_ret
  exact ⟨_, tv, by rw [HR.out]; rfl, by rw [HR.out]; exact HW3.out, HS13.out⟩
 ·obtain ⟨h2, hh2⟩ : ∃ h2, x - t + gv = h2 := ⟨_, rfl⟩
  have T2 : IntKind.i64.wrap (x - t + gv) = h2 := by rw [← hh2]; have := HXB.out; have := HT.out; have := HV.out; rw [IntKind.wrap_i64]; omega
  have T2' : wrap64 (x - t + gv) = h2 := by rw [← hh2]; have := HXB.out; have := HT.out; have := HV.out; unfold wrap64; omega
  have HH2 := Lib.hid hh2
  have hpos : ¬ (x - t < 0) := hneg
  clear e' hh2
  go_upto_region 7 with fail
  clear hq c9 c10 T1 T1' T2 T2'
  obtain ⟨k0, k1, k2⟩ := cells3 HB3.out
  have HR := Lib.hid (show stepF hs td at_ ⟨15, a, n⟩ t gv = ((hs, td), true) by unfold stepF; rw [HGD.out, if_neg hpos, if_pos (by simp)])
  go_wp2
  go_ret
  exact ⟨_, tv, by rw [HR.out]; rfl, by rw [HR.out]; exact HW3.out, HS13.out⟩
set_option maxRecDepth 100000 in
set_option maxHeartbeats 8000000 in
theorem step_12 {w0 w : World} {g : Nat} {sv fv : Value} {P : Pr} {host sig inn out loc n t gv x : Int} {l : List Ce} {xc xm : Option Addr} {nc cc nm cm at_ a : Nat} {hs td : List Int} {hv tv : Value}
  (hP : ∀ wx, Gr w0 wx → PrR wx sv fv P) (hg0 : Gr w0 w) (_hl : l.length = nc) (hcl : ∀ wx, Gr w0 wx → RwR wx (.slice xc nc cc) nc (flat ceA l)) (hnc : nc ≤ 1048576) (h : WkR w w0.heap.size g sv fv ⟨⟨host, sig, inn, out, loc, l⟩, .slice xc nc cc, .slice xm nm cm⟩ hs td hv tv)
  (hn : hs.length = nc) (htd : td.length ≤ 1048576) (hat : at_ < nc) (hc : l[at_]? = some ⟨12, (a : Nat), n⟩) (hcb : CeB ⟨12, (a : Nat), n⟩) (he : effF P out ⟨12, (a : Nat), n⟩ = (t, gv)) (ht : 0 ≤ t ∧ t ≤ 4194304) (hgv : 0 ≤ gv ∧ gv ≤ 1048576) (hx : hs[at_]? = some x) (hxb : 0 ≤ x ∧ x ≤ 1152921504606846976) :
  Calls Try.prog 41 #[.pointer (some ⟨g, 0, none⟩), .int .i64 at_] w (WkA w w0.heap.size g sv fv ⟨⟨host, sig, inn, out, loc, l⟩, .slice xc nc cc, .slice xm nm cm⟩ (stepF hs td at_ ⟨12, (a : Nat), n⟩ t gv)) := by
 obtain ⟨xs, cs, e1, -⟩ := id (hP w0 (Gr.refl _)).ss
 obtain ⟨xf, cf, e2, -⟩ := id (hP w0 (Gr.refl _)).fs
 subst e1 e2
 obtain ⟨ns, hns⟩ : ∃ n, P.ss.length = n := ⟨_, rfl⟩
 obtain ⟨nf, hnf⟩ : ∃ n, P.fs.length = n := ⟨_, rfl⟩
 have HEF := Lib.hid (fun wx (hg : Gr w0 wx) => eff_any (f := ⟨⟨host, sig, inn, out, loc, l⟩, .slice xc nc cc, .slice xm nm cm⟩) (hP wx hg) ⟨xc, nc, cc, rfl⟩ hcb)
 unfold fuA ceA at HEF
 dsimp only at HEF
 rw [he] at HEF
 rw [hns, hnf] at HEF h ⊢
 have HW := Lib.hid h
 have HN := Lib.hid hn
 have HTD := Lib.hid htd
 have HNC := Lib.hid hnc
 have HX := Lib.hid hx
 have HXB := Lib.hid hxb
 have HT := Lib.hid ht
 have HV := Lib.hid hgv
 have HG0 := Lib.hid hg0
 have HCB := Lib.hid hcb
 have HAT := Lib.hid hat
 have hgd : hs.getD at_ 0 = x := by rw [List.getD_eq_getElem?_getD, hx]; rfl
 have HGD := Lib.hid hgd
 have hai : (at_ : Int) < (nc : Int) := by omega
 obtain ⟨bc, oc, rfl, hcel⟩ := rwR_at (g := ceA) (z := 3) (fun _ => rfl) (hcl w hg0) hc (by decide)
 have HD := Lib.hid (show ∀ j u, (#[.int .i64 12, .int .i64 (a : Nat), .int .u64 n] : Array Value).toList[j]? = some u → w.cell? ⟨bc, oc + at_ * 3 + j, none⟩ = some u from fun j u hu => hcel j u (by rw [← hu]; unfold ceA; rw [Array.getElem?_toList]))
 obtain ⟨_, _, _, _, _, _, _, c7, _, c9, c10⟩ := wk_cells h
 dsimp only at c7
 have HCM := Lib.hid (fun (wx : World) (hs td : List Int) (hv tv : Value) (h : WkR wx w0.heap.size g (.slice xs ns cs) (.slice xf nf cf) ⟨⟨host, sig, inn, out, loc, l⟩, .slice (some ⟨bc, oc, none⟩) nc cc, .slice xm nm cm⟩ hs td hv tv) (hb : w0.heap.size ≤ wx.heap.size) (a : Nat) (ht : Int) (hl : hs.length ≤ 1099511627776) (hd : td.length ≤ 1099511627776) => come_all h hb a ht hl hd)
 clear hP _hl hcl h hn htd hnc hc hcb he hcel hns hnf hgd hxb ht hgv hg0 hat hx
 go_enter Try.func41, Try.ntmps41
 go_upto_region 2 with (first | (refine wpList_load_cells rfl 47 _ rfl bc (oc + at_ * 3) rfl #[.int .i64 12, .int .i64 (a : Nat), .int .u64 n] _ HD.out Try.underlying47 rfl infoCe ?_) | (refine wpList_store_row rfl 47 _ _ rfl w.heap.size #[.int .i64 12, .int .i64 (a : Nat), .int .u64 n] rfl rfl 47 #[.int .i64 0, .int .i64 0, .int .u64 0] (heap_alloc_new w _) infoCe rfl (by kernel_rfl) ?_))
 have hrw := Sep.setRow (ex := fun b => b = w.heap.size) (w.alloc (.cells #[.int .i64 0, .int .i64 0, .int .u64 0] 47)) rfl #[.int .i64 12, .int .i64 (a : Nat), .int .u64 n]
 have hgg : Gr w ((w.alloc (.cells #[.int .i64 0, .int .i64 0, .int .u64 0] 47)).setRow w.heap.size #[.int .i64 12, .int .i64 (a : Nat), .int .u64 n]) := Sep.toGr ((Gr.refl w).alloc #[.int .i64 0, .int .i64 0, .int .u64 0] 47) hrw (fun q hq => by have e' : q = w.heap.size := hq; omega)
 have hbk := setRow_block (c := #[.int .i64 12, .int .i64 (a : Nat), .int .u64 n]) (heap_alloc_new w (.cells #[.int .i64 0, .int .i64 0, .int .u64 0] 47))
 have HS2 := Lib.hid hgg
 clear hrw hgg
 generalize (w.alloc (.cells #[.int .i64 0, .int .i64 0, .int .u64 0] 47)).setRow w.heap.size #[.int .i64 12, .int .i64 (a : Nat), .int .u64 n] = w2 at *
 generalize hgc : w.heap.size = gc at *
 have HBK := Lib.hid hbk
 have HW2 := Lib.hid (wk_gr HW.out HS2.out)
 have HP2 := Lib.hid (show ∀ wx, Gr w2 wx → ∀ j u, (#[.slice xs ns cs, .slice xf nf cf] : Array Value).toList[j]? = some u → wx.cell? ⟨g, 0 + j, none⟩ = some u from fun wx hg j u hu => by
  obtain ⟨a0, a1, _⟩ := wk_cells (wk_gr HW2.out hg)
  match j, hu with
  | 0, hu => obtain rfl := Option.some.inj hu; exact a0
  | 1, hu => obtain rfl := Option.some.inj hu; exact a1
  | j + 2, hu => cases hu)
 have HF2 := Lib.hid (show ∀ wx, Gr w2 wx → ∀ j u, (#[.int .i64 host, .int .i64 sig, .int .i64 inn, .int .i64 out, .int .i64 loc, .slice (some ⟨bc, oc, none⟩) nc cc, .slice xm nm cm] : Array Value).toList[j]? = some u → wx.cell? ⟨g, 2 + j, none⟩ = some u from fun wx hg j u hu => by
  obtain ⟨_, _, a2, a3, a4, a5, a6, a7, a8, _⟩ := wk_cells (wk_gr HW2.out hg)
  match j, hu with
  | 0, hu => obtain rfl := Option.some.inj hu; exact a2
  | 1, hu => obtain rfl := Option.some.inj hu; exact a3
  | 2, hu => obtain rfl := Option.some.inj hu; exact a4
  | 3, hu => obtain rfl := Option.some.inj hu; exact a5
  | 4, hu => obtain rfl := Option.some.inj hu; exact a6
  | 5, hu => obtain rfl := Option.some.inj hu; exact a7
  | 6, hu => obtain rfl := Option.some.inj hu; exact a8
  | j + 7, hu => cases hu)
 have HC2 := Lib.hid (show ∀ wx, Gr w2 wx → ∀ j u, (#[.int .i64 12, .int .i64 (a : Nat), .int .u64 n] : Array Value).toList[j]? = some u → wx.cell? ⟨gc, 0 + j, none⟩ = some u from fun wx hg j u hu => by
  obtain ⟨a0, a1, a2⟩ := cells3 (gr_block hg HBK.out)
  match j, hu with
  | 0, hu => obtain rfl := Option.some.inj hu; exact a0
  | 1, hu => obtain rfl := Option.some.inj hu; exact a1
  | 2, hu => obtain rfl := Option.some.inj hu; exact a2
  | j + 3, hu => cases hu)
 clear hbk c7 c9 c10
 refine wp_region_steady (by kernel_rfl) (by kernel_rfl) ?_
 refine steady_step (fun K hK => ?_); apply steady_op rfl; (focus (intro wx hw; go_simp; exact ⟨rfl, hw⟩)); go_simp; refine hK _ ?_; clear hK K
 refine steady_step (fun K hK => ?_); apply steady_op rfl; (focus (intro wx hw; go_simp; exact ⟨rfl, hw⟩)); go_simp; refine hK _ ?_; clear hK K
 refine steady_step (fun K hK => ?_); apply steady_op rfl; (focus (intro wx hw; go_simp; exact ⟨rfl, hw⟩)); go_simp; refine hK _ ?_; clear hK K
 refine steady_step (fun K hK => ?_)
 refine steady_load_cells rfl 34 _ rfl g 0 rfl #[.slice xs ns cs, .slice xf nf cf] _ (HP2.out _ (Gr.drew (Gr.refl _))) Try.underlying34 rfl infoPr ?_
 go_simp; refine hK _ ?_; clear hK K
 refine steady_step (fun K hK => ?_); apply steady_op rfl; (focus (intro wx hw; go_simp; exact ⟨rfl, hw⟩)); go_simp; refine hK _ ?_; clear hK K
 refine steady_step (fun K hK => ?_); apply steady_op rfl; (focus (intro wx hw; go_simp; exact ⟨rfl, hw⟩)); go_simp; refine hK _ ?_; clear hK K
 refine steady_step (fun K hK => ?_); apply steady_op rfl; (focus (intro wx hw; go_simp; exact ⟨rfl, hw⟩)); go_simp; refine hK _ ?_; clear hK K
 refine steady_step (fun K hK => ?_)
 refine steady_load_cells rfl 39 _ rfl g 2 rfl #[.int .i64 host, .int .i64 sig, .int .i64 inn, .int .i64 out, .int .i64 loc, .slice (some ⟨bc, oc, none⟩) nc cc, .slice xm nm cm] _ (HF2.out _ (Gr.drew (Gr.refl _))) Try.underlying39 rfl infoFn ?_
 go_simp; refine hK _ ?_; clear hK K
 refine steady_step (fun K hK => ?_)
 refine steady_load_cells rfl 47 _ rfl gc 0 rfl #[.int .i64 12, .int .i64 (a : Nat), .int .u64 n] _ (HC2.out _ (Gr.drew (Gr.refl _))) Try.underlying47 rfl infoCe ?_
 go_simp; refine hK _ ?_; clear hK K
 refine steady_step (fun K hK => ?_)
 apply steady_op rfl
 ·intro wx hw; go_simp; exact (HEF.out wx (gr_trans HG0.out (gr_trans HS2.out (gr_trans (Gr.drew (Gr.refl _)) hw)))).mono fun e w3 h => ⟨h.1, gr_trans hw h.2⟩
 go_simp; refine hK _ ?_; clear hK K
 refine steady_step (fun K hK => ?_); apply steady_op rfl; (focus (intro wx hw; go_simp; exact ⟨rfl, hw⟩)); go_simp; refine hK _ ?_; clear hK K
 refine steady_step (fun K hK => ?_); apply steady_op rfl; (focus (intro wx hw; go_simp; exact ⟨rfl, hw⟩)); go_simp; refine hK _ ?_; clear hK K
 refine steady_step (fun K hK => ?_); apply steady_op rfl; (focus (intro wx hw; go_simp; exact ⟨rfl, hw⟩)); go_simp; refine hK _ ?_; clear hK K
 refine steady_step (fun K hK => ?_); apply steady_op rfl; (focus (intro wx hw; go_simp; exact ⟨rfl, hw⟩)); go_simp; refine hK _ ?_; clear hK K
 refine steady_step (fun K hK => ?_); apply steady_op rfl; (focus (intro wx hw; go_simp; exact ⟨rfl, hw⟩)); go_simp; refine hK _ ?_; clear hK K
 refine steady_nil ?_
 intro w3 hg3
 have HS3 := Lib.hid (gr_trans (Gr.drew (Gr.refl _)) hg3)
 have HW3 := Lib.hid (wk_gr HW2.out HS3.out)
 have HS13 := Lib.hid (Sep.of_gr (ex := Anew w0.heap.size) (gr_trans HS2.out HS3.out))
 have HZ3 := Lib.hid (gr_trans HG0.out (gr_trans HS2.out HS3.out)).size
 have hbk3 := gr_block HS3.out HBK.out
 have HB3 := Lib.hid hbk3
 clear hg3 HP2 HF2 HC2 HBK hbk3
 obtain ⟨xh, ch, e⟩ := own_slice HW3.out.hs
 obtain ⟨q, ch', e', _, _, _, _⟩ := own_some HW3.out.hs (by rw [HN.out]; have := HAT.out; omega)
 rw [HN.out] at e e'
 subst e
 obtain rfl := (Value.slice.inj e').1
 obtain ⟨_, _, _, _, _, _, _, _, _, c9, c10⟩ := wk_cells HW3.out
 have hq : w3.cell? ⟨q, at_, none⟩ = some (.int .i64 x) := by
  have h3 := HW3.out.hs
  rw [HN.out] at h3
  rw [h3.cellAt at_ (by have := HAT.out; omega)]
  unfold ivs
  rw [List.getElem?_map, HX.out]
  rfl
 have T1 : IntKind.i64.wrap (x - t) = x - t := by have := HXB.out; have := HT.out; rw [IntKind.wrap_i64]; omega
 have T1' : wrap64 (x - t) = x - t := by have := HXB.out; have := HT.out; unfold wrap64; omega
 by_cases hneg : x - t < 0
 ·have HR := Lib.hid (show stepF hs td at_ ⟨12, (a : Nat), n⟩ t gv = ((hs, td), false) by unfold stepF; rw [HGD.out, if_pos hneg])
  clear e'
  go_wp2
  go_ret
  exact ⟨_, tv, by rw [HR.out]; rfl, by rw [HR.out]; exact HW3.out, HS13.out⟩
 ·obtain ⟨h2, hh2⟩ : ∃ h2, x - t + gv = h2 := ⟨_, rfl⟩
  have T2 : IntKind.i64.wrap (x - t + gv) = h2 := by rw [← hh2]; have := HXB.out; have := HT.out; have := HV.out; rw [IntKind.wrap_i64]; omega
  have T2' : wrap64 (x - t + gv) = h2 := by rw [← hh2]; have := HXB.out; have := HT.out; have := HV.out; unfold wrap64; omega
  have HH2 := Lib.hid hh2
  have hpos : ¬ (x - t < 0) := hneg
  clear e' hh2
  go_upto_region 7 with fail
  clear hq c9 c10 T1 T1' T2 T2'
  obtain ⟨k0, k1, k2⟩ := cells3 HB3.out
  have HR := Lib.hid (show stepF hs td at_ ⟨12, (a : Nat), n⟩ t gv = comeF hs td (a : Nat) h2 by unfold stepF; rw [HGD.out, HH2.out, if_neg hpos, if_neg (by simp), if_pos rfl])
  go_wp2_with fail
  refine (HCM.out w3 hs td _ tv HW3.out HZ3.out a h2 (by have := HN.out; have := HNC.out; omega) (by have := HTD.out; omega)).mono ?_
  rintro e w4 ⟨hv4, tv4, rfl, hw4, hs4⟩
  have HW4 := Lib.hid hw4
  have HS4 := Lib.hid hs4
  clear hw4 hs4 k0 k1 k2
  go_wp2
  go_ret
  exact ⟨hv4, tv4, by rw [HR.out]; rfl, by rw [HR.out]; exact HW4.out, Sep.trans HS13.out HS4.out⟩
set_option maxRecDepth 100000 in
set_option maxHeartbeats 8000000 in
theorem step_13 {w0 w : World} {g : Nat} {sv fv : Value} {P : Pr} {host sig inn out loc n t gv x : Int} {l : List Ce} {xc xm : Option Addr} {nc cc nm cm at_ a : Nat} {hs td : List Int} {hv tv : Value}
  (hP : ∀ wx, Gr w0 wx → PrR wx sv fv P) (hg0 : Gr w0 w) (_hl : l.length = nc) (hcl : ∀ wx, Gr w0 wx → RwR wx (.slice xc nc cc) nc (flat ceA l)) (hnc : nc ≤ 1048576) (h : WkR w w0.heap.size g sv fv ⟨⟨host, sig, inn, out, loc, l⟩, .slice xc nc cc, .slice xm nm cm⟩ hs td hv tv)
  (hn : hs.length = nc) (htd : td.length ≤ 1048576) (hat : at_ < nc) (hc : l[at_]? = some ⟨13, (a : Nat), n⟩) (hcb : CeB ⟨13, (a : Nat), n⟩) (he : effF P out ⟨13, (a : Nat), n⟩ = (t, gv)) (ht : 0 ≤ t ∧ t ≤ 4194304) (hgv : 0 ≤ gv ∧ gv ≤ 1048576) (hx : hs[at_]? = some x) (hxb : 0 ≤ x ∧ x ≤ 1152921504606846976) :
  Calls Try.prog 41 #[.pointer (some ⟨g, 0, none⟩), .int .i64 at_] w (WkA w w0.heap.size g sv fv ⟨⟨host, sig, inn, out, loc, l⟩, .slice xc nc cc, .slice xm nm cm⟩ (stepF hs td at_ ⟨13, (a : Nat), n⟩ t gv)) := by
 obtain ⟨xs, cs, e1, -⟩ := id (hP w0 (Gr.refl _)).ss
 obtain ⟨xf, cf, e2, -⟩ := id (hP w0 (Gr.refl _)).fs
 subst e1 e2
 obtain ⟨ns, hns⟩ : ∃ n, P.ss.length = n := ⟨_, rfl⟩
 obtain ⟨nf, hnf⟩ : ∃ n, P.fs.length = n := ⟨_, rfl⟩
 have HEF := Lib.hid (fun wx (hg : Gr w0 wx) => eff_any (f := ⟨⟨host, sig, inn, out, loc, l⟩, .slice xc nc cc, .slice xm nm cm⟩) (hP wx hg) ⟨xc, nc, cc, rfl⟩ hcb)
 unfold fuA ceA at HEF
 dsimp only at HEF
 rw [he] at HEF
 rw [hns, hnf] at HEF h ⊢
 have HW := Lib.hid h
 have HN := Lib.hid hn
 have HTD := Lib.hid htd
 have HNC := Lib.hid hnc
 have HX := Lib.hid hx
 have HXB := Lib.hid hxb
 have HT := Lib.hid ht
 have HV := Lib.hid hgv
 have HG0 := Lib.hid hg0
 have HCB := Lib.hid hcb
 have HAT := Lib.hid hat
 have hgd : hs.getD at_ 0 = x := by rw [List.getD_eq_getElem?_getD, hx]; rfl
 have HGD := Lib.hid hgd
 have hai : (at_ : Int) < (nc : Int) := by omega
 obtain ⟨bc, oc, rfl, hcel⟩ := rwR_at (g := ceA) (z := 3) (fun _ => rfl) (hcl w hg0) hc (by decide)
 have HD := Lib.hid (show ∀ j u, (#[.int .i64 13, .int .i64 (a : Nat), .int .u64 n] : Array Value).toList[j]? = some u → w.cell? ⟨bc, oc + at_ * 3 + j, none⟩ = some u from fun j u hu => hcel j u (by rw [← hu]; unfold ceA; rw [Array.getElem?_toList]))
 obtain ⟨_, _, _, _, _, _, _, c7, _, c9, c10⟩ := wk_cells h
 dsimp only at c7
 have HCM := Lib.hid (fun (wx : World) (hs td : List Int) (hv tv : Value) (h : WkR wx w0.heap.size g (.slice xs ns cs) (.slice xf nf cf) ⟨⟨host, sig, inn, out, loc, l⟩, .slice (some ⟨bc, oc, none⟩) nc cc, .slice xm nm cm⟩ hs td hv tv) (hb : w0.heap.size ≤ wx.heap.size) (a : Nat) (ht : Int) (hl : hs.length ≤ 1099511627776) (hd : td.length ≤ 1099511627776) => come_all h hb a ht hl hd)
 clear hP _hl hcl h hn htd hnc hc hcb he hcel hns hnf hgd hxb ht hgv hg0 hat hx
 go_enter Try.func41, Try.ntmps41
 go_upto_region 2 with (first | (refine wpList_load_cells rfl 47 _ rfl bc (oc + at_ * 3) rfl #[.int .i64 13, .int .i64 (a : Nat), .int .u64 n] _ HD.out Try.underlying47 rfl infoCe ?_) | (refine wpList_store_row rfl 47 _ _ rfl w.heap.size #[.int .i64 13, .int .i64 (a : Nat), .int .u64 n] rfl rfl 47 #[.int .i64 0, .int .i64 0, .int .u64 0] (heap_alloc_new w _) infoCe rfl (by kernel_rfl) ?_))
 have hrw := Sep.setRow (ex := fun b => b = w.heap.size) (w.alloc (.cells #[.int .i64 0, .int .i64 0, .int .u64 0] 47)) rfl #[.int .i64 13, .int .i64 (a : Nat), .int .u64 n]
 have hgg : Gr w ((w.alloc (.cells #[.int .i64 0, .int .i64 0, .int .u64 0] 47)).setRow w.heap.size #[.int .i64 13, .int .i64 (a : Nat), .int .u64 n]) := Sep.toGr ((Gr.refl w).alloc #[.int .i64 0, .int .i64 0, .int .u64 0] 47) hrw (fun q hq => by have e' : q = w.heap.size := hq; omega)
 have hbk := setRow_block (c := #[.int .i64 13, .int .i64 (a : Nat), .int .u64 n]) (heap_alloc_new w (.cells #[.int .i64 0, .int .i64 0, .int .u64 0] 47))
 have HS2 := Lib.hid hgg
 clear hrw hgg
 generalize (w.alloc (.cells #[.int .i64 0, .int .i64 0, .int .u64 0] 47)).setRow w.heap.size #[.int .i64 13, .int .i64 (a : Nat), .int .u64 n] = w2 at *
 generalize hgc : w.heap.size = gc at *
 have HBK := Lib.hid hbk
 have HW2 := Lib.hid (wk_gr HW.out HS2.out)
 have HP2 := Lib.hid (show ∀ wx, Gr w2 wx → ∀ j u, (#[.slice xs ns cs, .slice xf nf cf] : Array Value).toList[j]? = some u → wx.cell? ⟨g, 0 + j, none⟩ = some u from fun wx hg j u hu => by
  obtain ⟨a0, a1, _⟩ := wk_cells (wk_gr HW2.out hg)
  match j, hu with
  | 0, hu => obtain rfl := Option.some.inj hu; exact a0
  | 1, hu => obtain rfl := Option.some.inj hu; exact a1
  | j + 2, hu => cases hu)
 have HF2 := Lib.hid (show ∀ wx, Gr w2 wx → ∀ j u, (#[.int .i64 host, .int .i64 sig, .int .i64 inn, .int .i64 out, .int .i64 loc, .slice (some ⟨bc, oc, none⟩) nc cc, .slice xm nm cm] : Array Value).toList[j]? = some u → wx.cell? ⟨g, 2 + j, none⟩ = some u from fun wx hg j u hu => by
  obtain ⟨_, _, a2, a3, a4, a5, a6, a7, a8, _⟩ := wk_cells (wk_gr HW2.out hg)
  match j, hu with
  | 0, hu => obtain rfl := Option.some.inj hu; exact a2
  | 1, hu => obtain rfl := Option.some.inj hu; exact a3
  | 2, hu => obtain rfl := Option.some.inj hu; exact a4
  | 3, hu => obtain rfl := Option.some.inj hu; exact a5
  | 4, hu => obtain rfl := Option.some.inj hu; exact a6
  | 5, hu => obtain rfl := Option.some.inj hu; exact a7
  | 6, hu => obtain rfl := Option.some.inj hu; exact a8
  | j + 7, hu => cases hu)
 have HC2 := Lib.hid (show ∀ wx, Gr w2 wx → ∀ j u, (#[.int .i64 13, .int .i64 (a : Nat), .int .u64 n] : Array Value).toList[j]? = some u → wx.cell? ⟨gc, 0 + j, none⟩ = some u from fun wx hg j u hu => by
  obtain ⟨a0, a1, a2⟩ := cells3 (gr_block hg HBK.out)
  match j, hu with
  | 0, hu => obtain rfl := Option.some.inj hu; exact a0
  | 1, hu => obtain rfl := Option.some.inj hu; exact a1
  | 2, hu => obtain rfl := Option.some.inj hu; exact a2
  | j + 3, hu => cases hu)
 clear hbk c7 c9 c10
 refine wp_region_steady (by kernel_rfl) (by kernel_rfl) ?_
 refine steady_step (fun K hK => ?_); apply steady_op rfl; (focus (intro wx hw; go_simp; exact ⟨rfl, hw⟩)); go_simp; refine hK _ ?_; clear hK K
 refine steady_step (fun K hK => ?_); apply steady_op rfl; (focus (intro wx hw; go_simp; exact ⟨rfl, hw⟩)); go_simp; refine hK _ ?_; clear hK K
 refine steady_step (fun K hK => ?_); apply steady_op rfl; (focus (intro wx hw; go_simp; exact ⟨rfl, hw⟩)); go_simp; refine hK _ ?_; clear hK K
 refine steady_step (fun K hK => ?_)
 refine steady_load_cells rfl 34 _ rfl g 0 rfl #[.slice xs ns cs, .slice xf nf cf] _ (HP2.out _ (Gr.drew (Gr.refl _))) Try.underlying34 rfl infoPr ?_
 go_simp; refine hK _ ?_; clear hK K
 refine steady_step (fun K hK => ?_); apply steady_op rfl; (focus (intro wx hw; go_simp; exact ⟨rfl, hw⟩)); go_simp; refine hK _ ?_; clear hK K
 refine steady_step (fun K hK => ?_); apply steady_op rfl; (focus (intro wx hw; go_simp; exact ⟨rfl, hw⟩)); go_simp; refine hK _ ?_; clear hK K
 refine steady_step (fun K hK => ?_); apply steady_op rfl; (focus (intro wx hw; go_simp; exact ⟨rfl, hw⟩)); go_simp; refine hK _ ?_; clear hK K
 refine steady_step (fun K hK => ?_)
 refine steady_load_cells rfl 39 _ rfl g 2 rfl #[.int .i64 host, .int .i64 sig, .int .i64 inn, .int .i64 out, .int .i64 loc, .slice (some ⟨bc, oc, none⟩) nc cc, .slice xm nm cm] _ (HF2.out _ (Gr.drew (Gr.refl _))) Try.underlying39 rfl infoFn ?_
 go_simp; refine hK _ ?_; clear hK K
 refine steady_step (fun K hK => ?_)
 refine steady_load_cells rfl 47 _ rfl gc 0 rfl #[.int .i64 13, .int .i64 (a : Nat), .int .u64 n] _ (HC2.out _ (Gr.drew (Gr.refl _))) Try.underlying47 rfl infoCe ?_
 go_simp; refine hK _ ?_; clear hK K
 refine steady_step (fun K hK => ?_)
 apply steady_op rfl
 ·intro wx hw; go_simp; exact (HEF.out wx (gr_trans HG0.out (gr_trans HS2.out (gr_trans (Gr.drew (Gr.refl _)) hw)))).mono fun e w3 h => ⟨h.1, gr_trans hw h.2⟩
 go_simp; refine hK _ ?_; clear hK K
 refine steady_step (fun K hK => ?_); apply steady_op rfl; (focus (intro wx hw; go_simp; exact ⟨rfl, hw⟩)); go_simp; refine hK _ ?_; clear hK K
 refine steady_step (fun K hK => ?_); apply steady_op rfl; (focus (intro wx hw; go_simp; exact ⟨rfl, hw⟩)); go_simp; refine hK _ ?_; clear hK K
 refine steady_step (fun K hK => ?_); apply steady_op rfl; (focus (intro wx hw; go_simp; exact ⟨rfl, hw⟩)); go_simp; refine hK _ ?_; clear hK K
 refine steady_step (fun K hK => ?_); apply steady_op rfl; (focus (intro wx hw; go_simp; exact ⟨rfl, hw⟩)); go_simp; refine hK _ ?_; clear hK K
 refine steady_step (fun K hK => ?_); apply steady_op rfl; (focus (intro wx hw; go_simp; exact ⟨rfl, hw⟩)); go_simp; refine hK _ ?_; clear hK K
 refine steady_nil ?_
 intro w3 hg3
 have HS3 := Lib.hid (gr_trans (Gr.drew (Gr.refl _)) hg3)
 have HW3 := Lib.hid (wk_gr HW2.out HS3.out)
 have HS13 := Lib.hid (Sep.of_gr (ex := Anew w0.heap.size) (gr_trans HS2.out HS3.out))
 have HZ3 := Lib.hid (gr_trans HG0.out (gr_trans HS2.out HS3.out)).size
 have hbk3 := gr_block HS3.out HBK.out
 have HB3 := Lib.hid hbk3
 clear hg3 HP2 HF2 HC2 HBK hbk3
 obtain ⟨xh, ch, e⟩ := own_slice HW3.out.hs
 obtain ⟨q, ch', e', _, _, _, _⟩ := own_some HW3.out.hs (by rw [HN.out]; have := HAT.out; omega)
 rw [HN.out] at e e'
 subst e
 obtain rfl := (Value.slice.inj e').1
 obtain ⟨_, _, _, _, _, _, _, _, _, c9, c10⟩ := wk_cells HW3.out
 have hq : w3.cell? ⟨q, at_, none⟩ = some (.int .i64 x) := by
  have h3 := HW3.out.hs
  rw [HN.out] at h3
  rw [h3.cellAt at_ (by have := HAT.out; omega)]
  unfold ivs
  rw [List.getElem?_map, HX.out]
  rfl
 have T1 : IntKind.i64.wrap (x - t) = x - t := by have := HXB.out; have := HT.out; rw [IntKind.wrap_i64]; omega
 have T1' : wrap64 (x - t) = x - t := by have := HXB.out; have := HT.out; unfold wrap64; omega
 by_cases hneg : x - t < 0
 ·have HR := Lib.hid (show stepF hs td at_ ⟨13, (a : Nat), n⟩ t gv = ((hs, td), false) by unfold stepF; rw [HGD.out, if_pos hneg])
  clear e'
  go_wp2
  go_ret
  exact ⟨_, tv, by rw [HR.out]; rfl, by rw [HR.out]; exact HW3.out, HS13.out⟩
 ·obtain ⟨h2, hh2⟩ : ∃ h2, x - t + gv = h2 := ⟨_, rfl⟩
  have T2 : IntKind.i64.wrap (x - t + gv) = h2 := by rw [← hh2]; have := HXB.out; have := HT.out; have := HV.out; rw [IntKind.wrap_i64]; omega
  have T2' : wrap64 (x - t + gv) = h2 := by rw [← hh2]; have := HXB.out; have := HT.out; have := HV.out; unfold wrap64; omega
  have HH2 := Lib.hid hh2
  have hpos : ¬ (x - t < 0) := hneg
  clear e' hh2
  go_upto_region 7 with fail
  clear hq c9 c10 T1 T1' T2 T2'
  obtain ⟨k0, k1, k2⟩ := cells3 HB3.out
  have HA1 := Lib.hid (show ((at_ + 1 : Nat) : Int) = (at_ : Int) + 1 from by omega)
  have TA : IntKind.i64.wrap ((at_ : Int) + 1) = (at_ : Int) + 1 := by have := HAT.out; have := HNC.out; rw [IntKind.wrap_i64]; omega
  have TA' : wrap64 ((at_ : Int) + 1) = (at_ : Int) + 1 := by have := HAT.out; have := HNC.out; unfold wrap64; omega
  have HR := Lib.hid (show stepF hs td at_ ⟨13, (a : Nat), n⟩ t gv = (if (comeF hs td (a : Nat) h2).2 = true then comeF (comeF hs td (a : Nat) h2).1.1 (comeF hs td (a : Nat) h2).1.2 (at_ + 1) h2 else comeF hs td (a : Nat) h2) by unfold stepF; rw [HGD.out, HH2.out, if_neg hpos, if_neg (by simp), if_neg (by simp), if_pos rfl])
  have HLN := Lib.hid (comeF_len hs td (a : Nat) h2)
  obtain ⟨r, hr⟩ : ∃ r, comeF hs td (a : Nat) h2 = r := ⟨_, rfl⟩
  rw [hr] at HR HLN
  have HC1 := Lib.hid (HCM.out w3 hs td _ tv HW3.out HZ3.out a h2 (by have := HN.out; have := HNC.out; omega) (by have := HTD.out; omega))
  rw [hr] at HC1
  clear hr
  obtain ⟨⟨hs4, td4⟩, b4⟩ := r
  dsimp only at HR HLN
  cases b4 with
  | false =>
   go_wp2_with fail
   refine HC1.out.mono ?_
   rintro e w4 ⟨hv4, tv4, rfl, hw4, hs4'⟩
   have HW4 := Lib.hid hw4
   have HS4 := Lib.hid hs4'
   clear hw4 hs4' k0 k1 k2
   go_wp2
   go_ret
   exact ⟨hv4, tv4, by rw [HR.out]; rfl, by rw [HR.out]; exact HW4.out, Sep.trans HS13.out HS4.out⟩
  | true =>
   go_wp2_with fail
   refine HC1.out.mono ?_
   rintro e w4 ⟨hv4, tv4, rfl, hw4, hs4'⟩
   have HC2 := Lib.hid (HCM.out w4 hs4 td4 hv4 tv4 hw4 (Nat.le_trans HZ3.out hs4'.size) (at_ + 1) h2 (by have := HLN.out.1; have := HN.out; have := HNC.out; omega) (by have := HLN.out.2; have := HTD.out; omega))
   rw [HA1.out] at HC2
   have HS4 := Lib.hid hs4'
   clear hw4 hs4' k0 k1 k2
   go_wp2_with fail
   refine HC2.out.mono ?_
   rintro e w5 ⟨hv5, tv5, rfl, hw5, hs5⟩
   have HW5 := Lib.hid hw5
   have HS5 := Lib.hid hs5
   clear hw5 hs5
   go_wp2
   go_ret
   exact ⟨hv5, tv5, by rw [HR.out]; rfl, by rw [HR.out]; exact HW5.out, Sep.trans HS13.out (Sep.trans HS4.out HS5.out)⟩
set_option maxRecDepth 100000 in
set_option maxHeartbeats 8000000 in
theorem step_14 {w0 w : World} {g : Nat} {sv fv : Value} {P : Pr} {host sig inn out loc n t gv x : Int} {l : List Ce} {xc xm : Option Addr} {nc cc nm cm at_ a : Nat} {hs td : List Int} {hv tv : Value}
  (hP : ∀ wx, Gr w0 wx → PrR wx sv fv P) (hg0 : Gr w0 w) (_hl : l.length = nc) (hcl : ∀ wx, Gr w0 wx → RwR wx (.slice xc nc cc) nc (flat ceA l)) (hnc : nc ≤ 1048576) (h : WkR w w0.heap.size g sv fv ⟨⟨host, sig, inn, out, loc, l⟩, .slice xc nc cc, .slice xm nm cm⟩ hs td hv tv)
  (hn : hs.length = nc) (htd : td.length ≤ 1048576) (hat : at_ < nc) (hc : l[at_]? = some ⟨14, (a : Nat), n⟩) (hcb : CeB ⟨14, (a : Nat), n⟩) (he : effF P out ⟨14, (a : Nat), n⟩ = (t, gv)) (ht : 0 ≤ t ∧ t ≤ 4194304) (hgv : 0 ≤ gv ∧ gv ≤ 1048576) (hx : hs[at_]? = some x) (hxb : 0 ≤ x ∧ x ≤ 1152921504606846976) (ha : a ≤ 1048576) :
  Calls Try.prog 41 #[.pointer (some ⟨g, 0, none⟩), .int .i64 at_] w (WkA w w0.heap.size g sv fv ⟨⟨host, sig, inn, out, loc, l⟩, .slice xc nc cc, .slice xm nm cm⟩ (stepF hs td at_ ⟨14, (a : Nat), n⟩ t gv)) := by
 obtain ⟨xs, cs, e1, -⟩ := id (hP w0 (Gr.refl _)).ss
 obtain ⟨xf, cf, e2, -⟩ := id (hP w0 (Gr.refl _)).fs
 subst e1 e2
 obtain ⟨ns, hns⟩ : ∃ n, P.ss.length = n := ⟨_, rfl⟩
 obtain ⟨nf, hnf⟩ : ∃ n, P.fs.length = n := ⟨_, rfl⟩
 have HEF := Lib.hid (fun wx (hg : Gr w0 wx) => eff_any (f := ⟨⟨host, sig, inn, out, loc, l⟩, .slice xc nc cc, .slice xm nm cm⟩) (hP wx hg) ⟨xc, nc, cc, rfl⟩ hcb)
 unfold fuA ceA at HEF
 dsimp only at HEF
 rw [he] at HEF
 rw [hns, hnf] at HEF h ⊢
 have HW := Lib.hid h
 have HN := Lib.hid hn
 have HTD := Lib.hid htd
 have HNC := Lib.hid hnc
 have HX := Lib.hid hx
 have HXB := Lib.hid hxb
 have HT := Lib.hid ht
 have HV := Lib.hid hgv
 have HG0 := Lib.hid hg0
 have HCB := Lib.hid hcb
 have HAT := Lib.hid hat
 have hgd : hs.getD at_ 0 = x := by rw [List.getD_eq_getElem?_getD, hx]; rfl
 have HGD := Lib.hid hgd
 have hai : (at_ : Int) < (nc : Int) := by omega
 obtain ⟨bc, oc, rfl, hcel⟩ := rwR_at (g := ceA) (z := 3) (fun _ => rfl) (hcl w hg0) hc (by decide)
 have HD := Lib.hid (show ∀ j u, (#[.int .i64 14, .int .i64 (a : Nat), .int .u64 n] : Array Value).toList[j]? = some u → w.cell? ⟨bc, oc + at_ * 3 + j, none⟩ = some u from fun j u hu => hcel j u (by rw [← hu]; unfold ceA; rw [Array.getElem?_toList]))
 obtain ⟨_, _, _, _, _, _, _, c7, _, c9, c10⟩ := wk_cells h
 dsimp only at c7
 have HCM := Lib.hid (fun (wx : World) (hs td : List Int) (hv tv : Value) (h : WkR wx w0.heap.size g (.slice xs ns cs) (.slice xf nf cf) ⟨⟨host, sig, inn, out, loc, l⟩, .slice (some ⟨bc, oc, none⟩) nc cc, .slice xm nm cm⟩ hs td hv tv) (hb : w0.heap.size ≤ wx.heap.size) (a : Nat) (ht : Int) (hl : hs.length ≤ 1099511627776) (hd : td.length ≤ 1099511627776) => come_all h hb a ht hl hd)
 clear hP _hl hcl h hn htd hnc hc hcb he hcel hns hnf hgd hxb ht hgv hg0 hat hx
 go_enter Try.func41, Try.ntmps41
 go_upto_region 2 with (first | (refine wpList_load_cells rfl 47 _ rfl bc (oc + at_ * 3) rfl #[.int .i64 14, .int .i64 (a : Nat), .int .u64 n] _ HD.out Try.underlying47 rfl infoCe ?_) | (refine wpList_store_row rfl 47 _ _ rfl w.heap.size #[.int .i64 14, .int .i64 (a : Nat), .int .u64 n] rfl rfl 47 #[.int .i64 0, .int .i64 0, .int .u64 0] (heap_alloc_new w _) infoCe rfl (by kernel_rfl) ?_))
 have hrw := Sep.setRow (ex := fun b => b = w.heap.size) (w.alloc (.cells #[.int .i64 0, .int .i64 0, .int .u64 0] 47)) rfl #[.int .i64 14, .int .i64 (a : Nat), .int .u64 n]
 have hgg : Gr w ((w.alloc (.cells #[.int .i64 0, .int .i64 0, .int .u64 0] 47)).setRow w.heap.size #[.int .i64 14, .int .i64 (a : Nat), .int .u64 n]) := Sep.toGr ((Gr.refl w).alloc #[.int .i64 0, .int .i64 0, .int .u64 0] 47) hrw (fun q hq => by have e' : q = w.heap.size := hq; omega)
 have hbk := setRow_block (c := #[.int .i64 14, .int .i64 (a : Nat), .int .u64 n]) (heap_alloc_new w (.cells #[.int .i64 0, .int .i64 0, .int .u64 0] 47))
 have HS2 := Lib.hid hgg
 clear hrw hgg
 generalize (w.alloc (.cells #[.int .i64 0, .int .i64 0, .int .u64 0] 47)).setRow w.heap.size #[.int .i64 14, .int .i64 (a : Nat), .int .u64 n] = w2 at *
 generalize hgc : w.heap.size = gc at *
 have HBK := Lib.hid hbk
 have HW2 := Lib.hid (wk_gr HW.out HS2.out)
 have HP2 := Lib.hid (show ∀ wx, Gr w2 wx → ∀ j u, (#[.slice xs ns cs, .slice xf nf cf] : Array Value).toList[j]? = some u → wx.cell? ⟨g, 0 + j, none⟩ = some u from fun wx hg j u hu => by
  obtain ⟨a0, a1, _⟩ := wk_cells (wk_gr HW2.out hg)
  match j, hu with
  | 0, hu => obtain rfl := Option.some.inj hu; exact a0
  | 1, hu => obtain rfl := Option.some.inj hu; exact a1
  | j + 2, hu => cases hu)
 have HF2 := Lib.hid (show ∀ wx, Gr w2 wx → ∀ j u, (#[.int .i64 host, .int .i64 sig, .int .i64 inn, .int .i64 out, .int .i64 loc, .slice (some ⟨bc, oc, none⟩) nc cc, .slice xm nm cm] : Array Value).toList[j]? = some u → wx.cell? ⟨g, 2 + j, none⟩ = some u from fun wx hg j u hu => by
  obtain ⟨_, _, a2, a3, a4, a5, a6, a7, a8, _⟩ := wk_cells (wk_gr HW2.out hg)
  match j, hu with
  | 0, hu => obtain rfl := Option.some.inj hu; exact a2
  | 1, hu => obtain rfl := Option.some.inj hu; exact a3
  | 2, hu => obtain rfl := Option.some.inj hu; exact a4
  | 3, hu => obtain rfl := Option.some.inj hu; exact a5
  | 4, hu => obtain rfl := Option.some.inj hu; exact a6
  | 5, hu => obtain rfl := Option.some.inj hu; exact a7
  | 6, hu => obtain rfl := Option.some.inj hu; exact a8
  | j + 7, hu => cases hu)
 have HC2 := Lib.hid (show ∀ wx, Gr w2 wx → ∀ j u, (#[.int .i64 14, .int .i64 (a : Nat), .int .u64 n] : Array Value).toList[j]? = some u → wx.cell? ⟨gc, 0 + j, none⟩ = some u from fun wx hg j u hu => by
  obtain ⟨a0, a1, a2⟩ := cells3 (gr_block hg HBK.out)
  match j, hu with
  | 0, hu => obtain rfl := Option.some.inj hu; exact a0
  | 1, hu => obtain rfl := Option.some.inj hu; exact a1
  | 2, hu => obtain rfl := Option.some.inj hu; exact a2
  | j + 3, hu => cases hu)
 clear hbk c7 c9 c10
 refine wp_region_steady (by kernel_rfl) (by kernel_rfl) ?_
 refine steady_step (fun K hK => ?_); apply steady_op rfl; (focus (intro wx hw; go_simp; exact ⟨rfl, hw⟩)); go_simp; refine hK _ ?_; clear hK K
 refine steady_step (fun K hK => ?_); apply steady_op rfl; (focus (intro wx hw; go_simp; exact ⟨rfl, hw⟩)); go_simp; refine hK _ ?_; clear hK K
 refine steady_step (fun K hK => ?_); apply steady_op rfl; (focus (intro wx hw; go_simp; exact ⟨rfl, hw⟩)); go_simp; refine hK _ ?_; clear hK K
 refine steady_step (fun K hK => ?_)
 refine steady_load_cells rfl 34 _ rfl g 0 rfl #[.slice xs ns cs, .slice xf nf cf] _ (HP2.out _ (Gr.drew (Gr.refl _))) Try.underlying34 rfl infoPr ?_
 go_simp; refine hK _ ?_; clear hK K
 refine steady_step (fun K hK => ?_); apply steady_op rfl; (focus (intro wx hw; go_simp; exact ⟨rfl, hw⟩)); go_simp; refine hK _ ?_; clear hK K
 refine steady_step (fun K hK => ?_); apply steady_op rfl; (focus (intro wx hw; go_simp; exact ⟨rfl, hw⟩)); go_simp; refine hK _ ?_; clear hK K
 refine steady_step (fun K hK => ?_); apply steady_op rfl; (focus (intro wx hw; go_simp; exact ⟨rfl, hw⟩)); go_simp; refine hK _ ?_; clear hK K
 refine steady_step (fun K hK => ?_)
 refine steady_load_cells rfl 39 _ rfl g 2 rfl #[.int .i64 host, .int .i64 sig, .int .i64 inn, .int .i64 out, .int .i64 loc, .slice (some ⟨bc, oc, none⟩) nc cc, .slice xm nm cm] _ (HF2.out _ (Gr.drew (Gr.refl _))) Try.underlying39 rfl infoFn ?_
 go_simp; refine hK _ ?_; clear hK K
 refine steady_step (fun K hK => ?_)
 refine steady_load_cells rfl 47 _ rfl gc 0 rfl #[.int .i64 14, .int .i64 (a : Nat), .int .u64 n] _ (HC2.out _ (Gr.drew (Gr.refl _))) Try.underlying47 rfl infoCe ?_
 go_simp; refine hK _ ?_; clear hK K
 refine steady_step (fun K hK => ?_)
 apply steady_op rfl
 ·intro wx hw; go_simp; exact (HEF.out wx (gr_trans HG0.out (gr_trans HS2.out (gr_trans (Gr.drew (Gr.refl _)) hw)))).mono fun e w3 h => ⟨h.1, gr_trans hw h.2⟩
 go_simp; refine hK _ ?_; clear hK K
 refine steady_step (fun K hK => ?_); apply steady_op rfl; (focus (intro wx hw; go_simp; exact ⟨rfl, hw⟩)); go_simp; refine hK _ ?_; clear hK K
 refine steady_step (fun K hK => ?_); apply steady_op rfl; (focus (intro wx hw; go_simp; exact ⟨rfl, hw⟩)); go_simp; refine hK _ ?_; clear hK K
 refine steady_step (fun K hK => ?_); apply steady_op rfl; (focus (intro wx hw; go_simp; exact ⟨rfl, hw⟩)); go_simp; refine hK _ ?_; clear hK K
 refine steady_step (fun K hK => ?_); apply steady_op rfl; (focus (intro wx hw; go_simp; exact ⟨rfl, hw⟩)); go_simp; refine hK _ ?_; clear hK K
 refine steady_step (fun K hK => ?_); apply steady_op rfl; (focus (intro wx hw; go_simp; exact ⟨rfl, hw⟩)); go_simp; refine hK _ ?_; clear hK K
 refine steady_nil ?_
 intro w3 hg3
 have HS3 := Lib.hid (gr_trans (Gr.drew (Gr.refl _)) hg3)
 have HW3 := Lib.hid (wk_gr HW2.out HS3.out)
 have HS13 := Lib.hid (Sep.of_gr (ex := Anew w0.heap.size) (gr_trans HS2.out HS3.out))
 have HZ3 := Lib.hid (gr_trans HG0.out (gr_trans HS2.out HS3.out)).size
 have hbk3 := gr_block HS3.out HBK.out
 have HB3 := Lib.hid hbk3
 clear hg3 HP2 HF2 HC2 HBK hbk3
 obtain ⟨xh, ch, e⟩ := own_slice HW3.out.hs
 obtain ⟨q, ch', e', _, _, _, _⟩ := own_some HW3.out.hs (by rw [HN.out]; have := HAT.out; omega)
 rw [HN.out] at e e'
 subst e
 obtain rfl := (Value.slice.inj e').1
 obtain ⟨_, _, _, _, _, _, _, _, _, c9, c10⟩ := wk_cells HW3.out
 have hq : w3.cell? ⟨q, at_, none⟩ = some (.int .i64 x) := by
  have h3 := HW3.out.hs
  rw [HN.out] at h3
  rw [h3.cellAt at_ (by have := HAT.out; omega)]
  unfold ivs
  rw [List.getElem?_map, HX.out]
  rfl
 have T1 : IntKind.i64.wrap (x - t) = x - t := by have := HXB.out; have := HT.out; rw [IntKind.wrap_i64]; omega
 have T1' : wrap64 (x - t) = x - t := by have := HXB.out; have := HT.out; unfold wrap64; omega
 by_cases hneg : x - t < 0
 ·have HR := Lib.hid (show stepF hs td at_ ⟨14, (a : Nat), n⟩ t gv = ((hs, td), false) by unfold stepF; rw [HGD.out, if_pos hneg])
  clear e'
  go_wp2
  go_ret
  exact ⟨_, tv, by rw [HR.out]; rfl, by rw [HR.out]; exact HW3.out, HS13.out⟩
 ·obtain ⟨h2, hh2⟩ : ∃ h2, x - t + gv = h2 := ⟨_, rfl⟩
  have T2 : IntKind.i64.wrap (x - t + gv) = h2 := by rw [← hh2]; have := HXB.out; have := HT.out; have := HV.out; rw [IntKind.wrap_i64]; omega
  have T2' : wrap64 (x - t + gv) = h2 := by rw [← hh2]; have := HXB.out; have := HT.out; have := HV.out; unfold wrap64; omega
  have HH2 := Lib.hid hh2
  have hpos : ¬ (x - t < 0) := hneg
  clear e' hh2
  go_upto_region 7 with fail
  clear hq c9 c10 T1 T1' T2 T2'
  obtain ⟨k0, k1, k2⟩ := cells3 HB3.out
  have HA1 := Lib.hid (show ((at_ + 1 : Nat) : Int) = (at_ : Int) + 1 from by omega)
  have TA : IntKind.i64.wrap ((at_ : Int) + 1) = (at_ : Int) + 1 := by have := HAT.out; have := HNC.out; rw [IntKind.wrap_i64]; omega
  have TA' : wrap64 ((at_ : Int) + 1) = (at_ : Int) + 1 := by have := HAT.out; have := HNC.out; unfold wrap64; omega
  have HR := Lib.hid (show stepF hs td at_ ⟨14, (a : Nat), n⟩ t gv = tabF hs td at_ h2 (a + 1) by unfold stepF; rw [HGD.out, HH2.out, if_neg hpos, if_neg (by simp), if_neg (by simp), if_neg (by simp), if_pos rfl]; rfl)
  have HLA := Lib.hid ha
  have TB : IntKind.i64.wrap ((a : Int) + 1) = (a : Int) + 1 := by rw [IntKind.wrap_i64]; omega
  have TB' : wrap64 ((a : Int) + 1) = (a : Int) + 1 := by unfold wrap64; omega
  clear ha
  go_wp2_with fail
  clear k0 k1 k2 TB TB'
  go_loopw [76] (fun i wr => ∃ k : Nat, k ≤ a + 1 ∧ i = .int .i64 k ∧ (tabF hs td at_ h2 k).2 = true ∧ ∃ hv tv, WkR wr w0.heap.size g (.slice xs ns cs) (.slice xf nf cf) ⟨⟨host, sig, inn, out, loc, l⟩, .slice (some ⟨bc, oc, none⟩) nc cc, .slice xm nm cm⟩ (tabF hs td at_ h2 k).1.1 (tabF hs td at_ h2 k).1.2 hv tv ∧ Sep (Anew w0.heap.size) w3 wr) (fun i _ => a + 1 - (intOf i).toNat)
  case atStart => exact ⟨0, by omega, rfl, rfl, _, _, HW3.out, Sep.refl _⟩
  case round =>
   obtain ⟨k, hk, rfl, hb, hv4, tv4, hw4, hs4⟩ := hrel
   have HW4 := Lib.hid hw4
   have HS4 := Lib.hid hs4
   have HB4 := Lib.hid hb
   clear hw4 hs4 hb
   by_cases hlt : k < a + 1
   ·have hki : (k : Int) < (a : Int) + 1 := by omega
    have HLT := Lib.hid hlt
    obtain ⟨rk, hrk⟩ : ∃ r, tabF hs td at_ h2 k = r := ⟨_, rfl⟩
    have hln := tabF_len hs td at_ h2 k
    rw [hrk] at HW4 HB4 hln
    have HLN := Lib.hid hln
    have HRK := Lib.hid hrk
    obtain ⟨rn, hrn⟩ : ∃ r, comeF rk.1.1 rk.1.2 ((at_ + 1 + k : Nat) : Int) h2 = r := ⟨_, rfl⟩
    have HC4 := Lib.hid (HCM.out wr _ _ hv4 tv4 HW4.out (Nat.le_trans HZ3.out HS4.out.size) (at_ + 1 + k) h2 (by rw [hln.1, HN.out]; exact Nat.le_trans HNC.out (by decide)) (le40 hln.2 HTD.out HLA.out hlt))
    rw [hrn] at HC4
    have HNX := Lib.hid (show tabF hs td at_ h2 (k + 1) = rn by rw [tabF, hrk, if_pos HB4.out, ← hrn]; rfl)
    rw [cast3] at HC4
    have TK : IntKind.i64.wrap ((at_ : Int) + 1 + k) = (at_ : Int) + 1 + k := (wrapK HAT.out HNC.out HLA.out hlt).1
    have TK' : wrap64 ((at_ : Int) + 1 + k) = (at_ : Int) + 1 + k := (wrapK HAT.out HNC.out HLA.out hlt).2.1
    have TI : wrap64 ((k : Int) + 1) = (k : Int) + 1 := (wrapK HAT.out HNC.out HLA.out hlt).2.2
    clear hln hrk hrn hlt
    obtain ⟨⟨hs5, td5⟩, b⟩ := rn
    cases b with
    | false =>
     go_wp2_with fail
     refine HC4.out.mono ?_
     rintro e w5 ⟨hv5, tv5, rfl, hw5, hs5⟩
     have HW5 := Lib.hid hw5
     have HS5 := Lib.hid hs5
     clear hw5 hs5
     have HE := Lib.hid (show tabF hs td at_ h2 (a + 1) = ((hs5, td5), false) by
      have h1 := tabF_no (k := k + 1) (by rw [HNX.out]) (a - k)
      rw [kak HLT.out, HNX.out] at h1
      exact h1)
     go_wp2
     go_ret
     exact ⟨hv5, tv5, by rw [HR.out, HE.out]; rfl, by rw [HR.out, HE.out]; exact HW5.out, Sep.trans HS13.out (Sep.trans HS4.out HS5.out)⟩
    | true =>
     go_wp2_with fail
     refine HC4.out.mono ?_
     rintro e w5 ⟨hv5, tv5, rfl, hw5, hs5⟩
     have HW5 := Lib.hid hw5
     have HS5 := Lib.hid hs5
     clear hw5 hs5
     go_wp2
     exact ⟨⟨k + 1, HLT.out, by first | rfl | (rw [TI]; rfl), by rw [HNX.out], hv5, tv5, by rw [HNX.out]; exact HW5.out, Sep.trans HS4.out HS5.out⟩, by first | exact meas_lt HLT.out | (rw [TI]; exact meas_lt HLT.out)⟩
   ·obtain rfl : k = a + 1 := by omega
    clear hlt hk
    go_wp2
    go_ret
    exact ⟨hv4, tv4, by rw [HR.out, HB4.out]; rfl, by rw [HR.out]; exact HW4.out, Sep.trans HS13.out HS4.out⟩
set_option maxRecDepth 100000 in
set_option maxHeartbeats 8000000 in
theorem step_no {w0 w : World} {g : Nat} {sv fv : Value} {P : Pr} {host sig inn out loc op a n t gv x : Int} {l : List Ce} {xc xm : Option Addr} {nc cc nm cm at_ : Nat} {hs td : List Int} {hv tv : Value}
  (hP : ∀ wx, Gr w0 wx → PrR wx sv fv P) (hg0 : Gr w0 w) (_hl : l.length = nc) (hcl : ∀ wx, Gr w0 wx → RwR wx (.slice xc nc cc) nc (flat ceA l)) (hnc : nc ≤ 1048576) (h : WkR w w0.heap.size g sv fv ⟨⟨host, sig, inn, out, loc, l⟩, .slice xc nc cc, .slice xm nm cm⟩ hs td hv tv)
  (hn : hs.length = nc) (htd : td.length ≤ 1048576) (hat : at_ < nc) (hc : l[at_]? = some ⟨op, a, n⟩) (hcb : CeB ⟨op, a, n⟩) (he : effF P out ⟨op, a, n⟩ = (t, gv)) (ht : 0 ≤ t ∧ t ≤ 4194304) (hgv : 0 ≤ gv ∧ gv ≤ 1048576) (hx : hs[at_]? = some x) (hxb : 0 ≤ x ∧ x ≤ 1152921504606846976) (hne : op ≠ 0 ∧ op ≠ 12 ∧ op ≠ 13 ∧ op ≠ 14 ∧ op ≠ 15) :
  Calls Try.prog 41 #[.pointer (some ⟨g, 0, none⟩), .int .i64 at_] w (WkA w w0.heap.size g sv fv ⟨⟨host, sig, inn, out, loc, l⟩, .slice xc nc cc, .slice xm nm cm⟩ (stepF hs td at_ ⟨op, a, n⟩ t gv)) := by
 obtain ⟨xs, cs, e1, -⟩ := id (hP w0 (Gr.refl _)).ss
 obtain ⟨xf, cf, e2, -⟩ := id (hP w0 (Gr.refl _)).fs
 subst e1 e2
 obtain ⟨ns, hns⟩ : ∃ n, P.ss.length = n := ⟨_, rfl⟩
 obtain ⟨nf, hnf⟩ : ∃ n, P.fs.length = n := ⟨_, rfl⟩
 have HEF := Lib.hid (fun wx (hg : Gr w0 wx) => eff_any (f := ⟨⟨host, sig, inn, out, loc, l⟩, .slice xc nc cc, .slice xm nm cm⟩) (hP wx hg) ⟨xc, nc, cc, rfl⟩ hcb)
 unfold fuA ceA at HEF
 dsimp only at HEF
 rw [he] at HEF
 rw [hns, hnf] at HEF h ⊢
 have HW := Lib.hid h
 have HN := Lib.hid hn
 have HTD := Lib.hid htd
 have HNC := Lib.hid hnc
 have HX := Lib.hid hx
 have HXB := Lib.hid hxb
 have HT := Lib.hid ht
 have HV := Lib.hid hgv
 have HG0 := Lib.hid hg0
 have HCB := Lib.hid hcb
 have HAT := Lib.hid hat
 have hgd : hs.getD at_ 0 = x := by rw [List.getD_eq_getElem?_getD, hx]; rfl
 have HGD := Lib.hid hgd
 have hai : (at_ : Int) < (nc : Int) := by omega
 obtain ⟨bc, oc, rfl, hcel⟩ := rwR_at (g := ceA) (z := 3) (fun _ => rfl) (hcl w hg0) hc (by decide)
 have HD := Lib.hid (show ∀ j u, (#[.int .i64 op, .int .i64 a, .int .u64 n] : Array Value).toList[j]? = some u → w.cell? ⟨bc, oc + at_ * 3 + j, none⟩ = some u from fun j u hu => hcel j u (by rw [← hu]; unfold ceA; rw [Array.getElem?_toList]))
 obtain ⟨_, _, _, _, _, _, _, c7, _, c9, c10⟩ := wk_cells h
 dsimp only at c7
 have HCM := Lib.hid (fun (wx : World) (hs td : List Int) (hv tv : Value) (h : WkR wx w0.heap.size g (.slice xs ns cs) (.slice xf nf cf) ⟨⟨host, sig, inn, out, loc, l⟩, .slice (some ⟨bc, oc, none⟩) nc cc, .slice xm nm cm⟩ hs td hv tv) (hb : w0.heap.size ≤ wx.heap.size) (a : Nat) (ht : Int) (hl : hs.length ≤ 1099511627776) (hd : td.length ≤ 1099511627776) => come_all h hb a ht hl hd)
 clear hP _hl hcl h hn htd hnc hc hcb he hcel hns hnf hgd hxb ht hgv hg0 hat hx
 go_enter Try.func41, Try.ntmps41
 go_upto_region 2 with (first | (refine wpList_load_cells rfl 47 _ rfl bc (oc + at_ * 3) rfl #[.int .i64 op, .int .i64 a, .int .u64 n] _ HD.out Try.underlying47 rfl infoCe ?_) | (refine wpList_store_row rfl 47 _ _ rfl w.heap.size #[.int .i64 op, .int .i64 a, .int .u64 n] rfl rfl 47 #[.int .i64 0, .int .i64 0, .int .u64 0] (heap_alloc_new w _) infoCe rfl (by kernel_rfl) ?_))
 have hrw := Sep.setRow (ex := fun b => b = w.heap.size) (w.alloc (.cells #[.int .i64 0, .int .i64 0, .int .u64 0] 47)) rfl #[.int .i64 op, .int .i64 a, .int .u64 n]
 have hgg : Gr w ((w.alloc (.cells #[.int .i64 0, .int .i64 0, .int .u64 0] 47)).setRow w.heap.size #[.int .i64 op, .int .i64 a, .int .u64 n]) := Sep.toGr ((Gr.refl w).alloc #[.int .i64 0, .int .i64 0, .int .u64 0] 47) hrw (fun q hq => by have e' : q = w.heap.size := hq; omega)
 have hbk := setRow_block (c := #[.int .i64 op, .int .i64 a, .int .u64 n]) (heap_alloc_new w (.cells #[.int .i64 0, .int .i64 0, .int .u64 0] 47))
 have HS2 := Lib.hid hgg
 clear hrw hgg
 generalize (w.alloc (.cells #[.int .i64 0, .int .i64 0, .int .u64 0] 47)).setRow w.heap.size #[.int .i64 op, .int .i64 a, .int .u64 n] = w2 at *
 generalize hgc : w.heap.size = gc at *
 have HBK := Lib.hid hbk
 have HW2 := Lib.hid (wk_gr HW.out HS2.out)
 have HP2 := Lib.hid (show ∀ wx, Gr w2 wx → ∀ j u, (#[.slice xs ns cs, .slice xf nf cf] : Array Value).toList[j]? = some u → wx.cell? ⟨g, 0 + j, none⟩ = some u from fun wx hg j u hu => by
  obtain ⟨a0, a1, _⟩ := wk_cells (wk_gr HW2.out hg)
  match j, hu with
  | 0, hu => obtain rfl := Option.some.inj hu; exact a0
  | 1, hu => obtain rfl := Option.some.inj hu; exact a1
  | j + 2, hu => cases hu)
 have HF2 := Lib.hid (show ∀ wx, Gr w2 wx → ∀ j u, (#[.int .i64 host, .int .i64 sig, .int .i64 inn, .int .i64 out, .int .i64 loc, .slice (some ⟨bc, oc, none⟩) nc cc, .slice xm nm cm] : Array Value).toList[j]? = some u → wx.cell? ⟨g, 2 + j, none⟩ = some u from fun wx hg j u hu => by
  obtain ⟨_, _, a2, a3, a4, a5, a6, a7, a8, _⟩ := wk_cells (wk_gr HW2.out hg)
  match j, hu with
  | 0, hu => obtain rfl := Option.some.inj hu; exact a2
  | 1, hu => obtain rfl := Option.some.inj hu; exact a3
  | 2, hu => obtain rfl := Option.some.inj hu; exact a4
  | 3, hu => obtain rfl := Option.some.inj hu; exact a5
  | 4, hu => obtain rfl := Option.some.inj hu; exact a6
  | 5, hu => obtain rfl := Option.some.inj hu; exact a7
  | 6, hu => obtain rfl := Option.some.inj hu; exact a8
  | j + 7, hu => cases hu)
 have HC2 := Lib.hid (show ∀ wx, Gr w2 wx → ∀ j u, (#[.int .i64 op, .int .i64 a, .int .u64 n] : Array Value).toList[j]? = some u → wx.cell? ⟨gc, 0 + j, none⟩ = some u from fun wx hg j u hu => by
  obtain ⟨a0, a1, a2⟩ := cells3 (gr_block hg HBK.out)
  match j, hu with
  | 0, hu => obtain rfl := Option.some.inj hu; exact a0
  | 1, hu => obtain rfl := Option.some.inj hu; exact a1
  | 2, hu => obtain rfl := Option.some.inj hu; exact a2
  | j + 3, hu => cases hu)
 clear hbk c7 c9 c10
 refine wp_region_steady (by kernel_rfl) (by kernel_rfl) ?_
 refine steady_step (fun K hK => ?_); apply steady_op rfl; (focus (intro wx hw; go_simp; exact ⟨rfl, hw⟩)); go_simp; refine hK _ ?_; clear hK K
 refine steady_step (fun K hK => ?_); apply steady_op rfl; (focus (intro wx hw; go_simp; exact ⟨rfl, hw⟩)); go_simp; refine hK _ ?_; clear hK K
 refine steady_step (fun K hK => ?_); apply steady_op rfl; (focus (intro wx hw; go_simp; exact ⟨rfl, hw⟩)); go_simp; refine hK _ ?_; clear hK K
 refine steady_step (fun K hK => ?_)
 refine steady_load_cells rfl 34 _ rfl g 0 rfl #[.slice xs ns cs, .slice xf nf cf] _ (HP2.out _ (Gr.drew (Gr.refl _))) Try.underlying34 rfl infoPr ?_
 go_simp; refine hK _ ?_; clear hK K
 refine steady_step (fun K hK => ?_); apply steady_op rfl; (focus (intro wx hw; go_simp; exact ⟨rfl, hw⟩)); go_simp; refine hK _ ?_; clear hK K
 refine steady_step (fun K hK => ?_); apply steady_op rfl; (focus (intro wx hw; go_simp; exact ⟨rfl, hw⟩)); go_simp; refine hK _ ?_; clear hK K
 refine steady_step (fun K hK => ?_); apply steady_op rfl; (focus (intro wx hw; go_simp; exact ⟨rfl, hw⟩)); go_simp; refine hK _ ?_; clear hK K
 refine steady_step (fun K hK => ?_)
 refine steady_load_cells rfl 39 _ rfl g 2 rfl #[.int .i64 host, .int .i64 sig, .int .i64 inn, .int .i64 out, .int .i64 loc, .slice (some ⟨bc, oc, none⟩) nc cc, .slice xm nm cm] _ (HF2.out _ (Gr.drew (Gr.refl _))) Try.underlying39 rfl infoFn ?_
 go_simp; refine hK _ ?_; clear hK K
 refine steady_step (fun K hK => ?_)
 refine steady_load_cells rfl 47 _ rfl gc 0 rfl #[.int .i64 op, .int .i64 a, .int .u64 n] _ (HC2.out _ (Gr.drew (Gr.refl _))) Try.underlying47 rfl infoCe ?_
 go_simp; refine hK _ ?_; clear hK K
 refine steady_step (fun K hK => ?_)
 apply steady_op rfl
 ·intro wx hw; go_simp; exact (HEF.out wx (gr_trans HG0.out (gr_trans HS2.out (gr_trans (Gr.drew (Gr.refl _)) hw)))).mono fun e w3 h => ⟨h.1, gr_trans hw h.2⟩
 go_simp; refine hK _ ?_; clear hK K
 refine steady_step (fun K hK => ?_); apply steady_op rfl; (focus (intro wx hw; go_simp; exact ⟨rfl, hw⟩)); go_simp; refine hK _ ?_; clear hK K
 refine steady_step (fun K hK => ?_); apply steady_op rfl; (focus (intro wx hw; go_simp; exact ⟨rfl, hw⟩)); go_simp; refine hK _ ?_; clear hK K
 refine steady_step (fun K hK => ?_); apply steady_op rfl; (focus (intro wx hw; go_simp; exact ⟨rfl, hw⟩)); go_simp; refine hK _ ?_; clear hK K
 refine steady_step (fun K hK => ?_); apply steady_op rfl; (focus (intro wx hw; go_simp; exact ⟨rfl, hw⟩)); go_simp; refine hK _ ?_; clear hK K
 refine steady_step (fun K hK => ?_); apply steady_op rfl; (focus (intro wx hw; go_simp; exact ⟨rfl, hw⟩)); go_simp; refine hK _ ?_; clear hK K
 refine steady_nil ?_
 intro w3 hg3
 have HS3 := Lib.hid (gr_trans (Gr.drew (Gr.refl _)) hg3)
 have HW3 := Lib.hid (wk_gr HW2.out HS3.out)
 have HS13 := Lib.hid (Sep.of_gr (ex := Anew w0.heap.size) (gr_trans HS2.out HS3.out))
 have HZ3 := Lib.hid (gr_trans HG0.out (gr_trans HS2.out HS3.out)).size
 have hbk3 := gr_block HS3.out HBK.out
 have HB3 := Lib.hid hbk3
 clear hg3 HP2 HF2 HC2 HBK hbk3
 obtain ⟨xh, ch, e⟩ := own_slice HW3.out.hs
 obtain ⟨q, ch', e', _, _, _, _⟩ := own_some HW3.out.hs (by rw [HN.out]; have := HAT.out; omega)
 rw [HN.out] at e e'
 subst e
 obtain rfl := (Value.slice.inj e').1
 obtain ⟨_, _, _, _, _, _, _, _, _, c9, c10⟩ := wk_cells HW3.out
 have hq : w3.cell? ⟨q, at_, none⟩ = some (.int .i64 x) := by
  have h3 := HW3.out.hs
  rw [HN.out] at h3
  rw [h3.cellAt at_ (by have := HAT.out; omega)]
  unfold ivs
  rw [List.getElem?_map, HX.out]
  rfl
 have T1 : IntKind.i64.wrap (x - t) = x - t := by have := HXB.out; have := HT.out; rw [IntKind.wrap_i64]; omega
 have T1' : wrap64 (x - t) = x - t := by have := HXB.out; have := HT.out; unfold wrap64; omega
 by_cases hneg : x - t < 0
 ·have HR := Lib.hid (show stepF hs td at_ ⟨op, a, n⟩ t gv = ((hs, td), false) by unfold stepF; rw [HGD.out, if_pos hneg])
  clear e'
  go_wp2
  go_ret
  exact ⟨_, tv, by rw [HR.out]; rfl, by rw [HR.out]; exact HW3.out, HS13.out⟩
 ·obtain ⟨h2, hh2⟩ : ∃ h2, x - t + gv = h2 := ⟨_, rfl⟩
  have T2 : IntKind.i64.wrap (x - t + gv) = h2 := by rw [← hh2]; have := HXB.out; have := HT.out; have := HV.out; rw [IntKind.wrap_i64]; omega
  have T2' : wrap64 (x - t + gv) = h2 := by rw [← hh2]; have := HXB.out; have := HT.out; have := HV.out; unfold wrap64; omega
  have HH2 := Lib.hid hh2
  have hpos : ¬ (x - t < 0) := hneg
  clear e' hh2
  go_upto_region 7 with fail
  clear hq c9 c10 T1 T1' T2 T2'
  obtain ⟨k0, k1, k2⟩ := cells3 HB3.out
  have HA1 := Lib.hid (show ((at_ + 1 : Nat) : Int) = (at_ : Int) + 1 from by omega)
  have TA : IntKind.i64.wrap ((at_ : Int) + 1) = (at_ : Int) + 1 := by have := HAT.out; have := HNC.out; rw [IntKind.wrap_i64]; omega
  have TA' : wrap64 ((at_ : Int) + 1) = (at_ : Int) + 1 := by have := HAT.out; have := HNC.out; unfold wrap64; omega
  have HR := Lib.hid (show stepF hs td at_ ⟨op, a, n⟩ t gv = comeF hs td (at_ + 1) h2 by unfold stepF; dsimp only; rw [HGD.out, HH2.out, if_neg hpos, if_neg (by omega), if_neg (by omega), if_neg (by omega), if_neg (by omega)])
  have t0 : (op == 0) = false := by simp; omega
  have t12 : (op == 12) = false := by simp; omega
  have t13 : (op == 13) = false := by simp; omega
  have t14 : (op == 14) = false := by simp; omega
  have t15 : (op == 15) = false := by simp; omega
  clear hne
  have HC1 := Lib.hid (HCM.out w3 hs td _ tv HW3.out HZ3.out (at_ + 1) h2 (by have := HN.out; have := HNC.out; omega) (by have := HTD.out; omega))
  rw [HA1.out] at HC1
  go_wp2_with fail
  refine HC1.out.mono ?_
  rintro e w4 ⟨hv4, tv4, rfl, hw4, hs4⟩
  have HW4 := Lib.hid hw4
  have HS4 := Lib.hid hs4
  clear hw4 hs4 k0 k1 k2
  go_wp2
  go_ret
  exact ⟨hv4, tv4, by rw [HR.out]; rfl, by rw [HR.out]; exact HW4.out, Sep.trans HS13.out HS4.out⟩
end Tg
end Go.Proofs.Ytifjgocfdnhdeaa
/- TgH -/
namespace Go.Proofs.Ytifjgocfdnhdeaa
open Go.RowKit
namespace Tg
open Ins
def cnt (hs : List Int) : Nat := hs.countP (· == -1)
structure Inv (nc p : Nat) (hs td : List Int) : Prop where
 len : hs.length = nc
 sum : p + td.length + cnt hs ≤ nc
 val : ∀ (j : Nat) x, hs[j]? = some x → x = -1 ∨ (0 ≤ x ∧ x ≤ p * 1048576)
 mem : ∀ t ∈ td, 0 ≤ t ∧ ∃ x, hs[t.toNat]? = some x ∧ x ≠ -1
theorem cnt_set {hs : List Int} {j : Nat} {h : Int} (hj : hs[j]? = some (-1)) (hh : h ≠ -1) : cnt (hs.set j h) + 1 = cnt hs := by
 induction hs generalizing j with
 | nil => cases hj
 | cons x r ih =>
  cases j with
  | zero =>
   obtain rfl : x = -1 := Option.some.inj hj
   simp [cnt, hh]
  | succ j =>
   have := ih hj
   simp only [List.set_cons_succ, cnt, List.countP_cons] at this ⊢
   omega
theorem inv_pop {nc p : Nat} {hs td : List Int} (h : Inv nc p hs td) (hne : td ≠ []) : Inv nc (p + 1) hs td.dropLast := by
 obtain ⟨h1, h2, h3, h4⟩ := h
 have hl : 0 < td.length := List.length_pos_iff.2 hne
 refine ⟨h1, by rw [List.length_dropLast]; omega, fun j x hx => ?_, fun t ht => h4 t ((List.dropLast_sublist td).subset ht)⟩
 rcases h3 j x hx with h | h
 ·exact .inl h
 ·exact .inr ⟨h.1, by have := h.2; omega⟩
theorem inv_come {nc p : Nat} {hs td : List Int} {a ht : Int} (h : Inv nc p hs td) (ha : 0 ≤ a) (h0 : 0 ≤ ht) (h1 : ht ≤ p * 1048576) : Inv nc p (comeF hs td a ht).1.1 (comeF hs td a ht).1.2 := by
 unfold comeF
 split
 ·exact h
 ·rename_i hlt
  split
  ·rename_i hm
   obtain ⟨g1, g2, g3, g4⟩ := h
   have hlt' : a.toNat < hs.length := by omega
   have hj : hs[a.toNat]? = some (-1) := by
    rw [List.getD_eq_getElem?_getD, List.getElem?_eq_getElem hlt'] at hm
    rw [List.getElem?_eq_getElem hlt']
    exact congrArg some hm
   have hc := cnt_set hj (show ht ≠ -1 by omega)
   refine ⟨by rw [List.length_set]; exact g1, by dsimp only; rw [List.length_append]; simp only [List.length_singleton]; omega, fun j x hx => ?_, fun t hT => ?_⟩
   ·rw [List.getElem?_set] at hx
    by_cases e : a.toNat = j
    ·rw [if_pos e, if_pos hlt'] at hx
     obtain rfl := Option.some.inj hx
     exact .inr ⟨h0, h1⟩
    ·rw [if_neg e] at hx
     exact g3 j x hx
   ·have key : ∀ t : Int, 0 ≤ t → (∃ x, hs[t.toNat]? = some x ∧ x ≠ -1) ∨ t = a → ∃ x, (hs.set a.toNat ht)[t.toNat]? = some x ∧ x ≠ -1 := fun t h0' hx => by
     rw [List.getElem?_set]
     by_cases e : a.toNat = t.toNat
     ·rw [if_pos e, if_pos (by omega)]
      exact ⟨ht, rfl, by omega⟩
     ·rw [if_neg e]
      rcases hx with hx | rfl
      ·exact hx
      ·exact absurd rfl e
    rcases List.mem_append.1 hT with hT | hT
    ·exact ⟨(g4 t hT).1, key t (g4 t hT).1 (.inl (g4 t hT).2)⟩
    ·obtain rfl := List.mem_singleton.1 hT
     exact ⟨ha, key t ha (.inr rfl)⟩
  ·exact h
theorem inv_tab {nc p : Nat} {hs td : List Int} {at_ ht : Int} (h : Inv nc p hs td) (ha : 0 ≤ at_) (h0 : 0 ≤ ht) (h1 : ht ≤ p * 1048576) : ∀ k, Inv nc p (tabF hs td at_ ht k).1.1 (tabF hs td at_ ht k).1.2
 | 0 => h
 | k + 1 => by
  have := inv_tab h ha h0 h1 k
  unfold tabF
  split
  ·exact inv_come this (by omega) h0 h1
  ·exact this
theorem inv_step {nc p : Nat} {hs td : List Int} {at_ : Nat} {c : Ce} {t gv x : Int} (h : Inv nc (p + 1) hs td) (hx : hs[at_]? = some x) (hb : 0 ≤ x ∧ x ≤ p * 1048576) (ht : 0 ≤ t) (hg : 0 ≤ gv ∧ gv ≤ 1048576) (ha : (c.op = 12 ∨ c.op = 13 ∨ c.op = 14) → 0 ≤ c.a) :
  Inv nc (p + 1) (stepF hs td at_ c t gv).1.1 (stepF hs td at_ c t gv).1.2 := by
 have hgd : hs.getD at_ 0 = x := by rw [List.getD_eq_getElem?_getD, hx]; rfl
 unfold stepF
 rw [hgd]
 split
 ·exact h
 ·have b0 : 0 ≤ x - t + gv := by omega
  have b1 : x - t + gv ≤ ((p + 1 : Nat) : Int) * 1048576 := by omega
  split
  ·exact h
  ·split
   ·exact inv_come h (ha (by omega)) b0 b1
   ·split
    ·have h2 := inv_come (a := c.a) h (ha (by omega)) b0 b1
     split
     ·exact inv_come h2 (by omega) b0 b1
     ·exact h2
    ·split
     ·exact inv_tab h (by omega) b0 b1 _
     ·exact inv_come h (by omega) b0 b1
end Tg
end Go.Proofs.Ytifjgocfdnhdeaa
/- TgI -/
namespace Go.Proofs.Ytifjgocfdnhdeaa
open Go.RowKit
namespace Tg
open Ins
structure SmP (P : Pr) : Prop where
 ss : P.ss.length ≤ 1048576
 fs : P.fs.length ≤ 1048576
 si : ∀ s ∈ P.ss, s.s.i.length ≤ 1048576 ∧ s.s.o.length ≤ 1048576
 cs : ∀ f ∈ P.fs, f.f.cs.length ≤ 1048576
theorem whl_sig {P : Pr} {f : Fu} (h : whlB P f = true) : ∃ s ∈ P.ss, f.inn = s.s.i.length ∧ f.out = s.s.o.length := by
 unfold whlB at h
 simp only [Bool.and_eq_true] at h
 have h2 := h.2
 cases hs : P.ss[f.sig.toNat]? with
 | none => rw [hs] at h2; cases h2
 | some s =>
  rw [hs] at h2
  simp only [Bool.and_eq_true, beq_iff_eq] at h2
  exact ⟨s, List.mem_of_getElem? hs, h2.1.1.1.1, h2.1.1.1.2⟩
theorem arI_bd (op : Int) : 0 ≤ arI op ∧ arI op ≤ 2 := by
 unfold arI
 split
 ·omega
 ·split <;> omega
theorem eff_bd {P : Pr} (hc : ChkP P) (hs : SmP P) {j : Nat} {f : FuV} (hf : P.fs[j]? = some f) {k : Nat} {c : Ce} (hk : f.f.cs[k]? = some c) (hb : CeB c) :
  (0 ≤ (effF P f.f.out c).1 ∧ (effF P f.f.out c).1 ≤ 4194304) ∧ (0 ≤ (effF P f.f.out c).2 ∧ (effF P f.f.out c).2 ≤ 1048576) ∧ ((c.op = 12 ∨ c.op = 13 ∨ c.op = 14) → 0 ≤ c.a ∧ c.a ≤ 1048576) := by
 have hst := (hc.2 j f hf).2 k c hk
 obtain ⟨s, hsm, e1, e2⟩ := whl_sig (hc.2 j f hf).1
 have hsl := hs.si s hsm
 have hfm := List.mem_of_getElem? hf
 have hcl := hs.cs f hfm
 have har := arI_bd c.op
 have hn := hb.n
 obtain ⟨op, a, n⟩ := c
 have hkl := (List.getElem?_eq_some_iff.1 hk).1
 dsimp only at *
 have h3 : (op = 12 ∨ op = 13 ∨ op = 14) → 0 ≤ a ∧ a ≤ 1048576 := by
  intro ho
  unfold stdB at hst
  dsimp only at hst
  by_cases h14 : op = 14
  ·rw [if_neg (by omega), if_pos h14] at hst
   unfold belB at hst
   simp only [Bool.and_eq_true, decide_eq_true_eq] at hst
   omega
  ·rw [if_pos (by omega)] at hst
   unfold belB at hst
   simp only [Bool.and_eq_true, decide_eq_true_eq] at hst
   omega
 refine ⟨?_, ?_, h3⟩
 all_goals
  unfold effF
  dsimp only
  by_cases c15 : op = 15
  ·rw [if_pos c15]; dsimp only; omega
  rw [if_neg c15]
  by_cases c16 : op = 16 ∧ 0 ≤ a ∧ a < P.fs.length
  ·rw [if_pos c16]
   obtain ⟨g, hg⟩ : ∃ g, P.fs[a.toNat]? = some g := ⟨_, List.getElem?_eq_getElem (by omega)⟩
   obtain ⟨s', hsm', e1', e2'⟩ := whl_sig (hc.2 _ g hg).1
   have hsl' := hs.si s' hsm'
   rw [hg]
   simp only [Option.map_some, Option.getD_some]
   omega
  rw [if_neg c16]
  by_cases c17 : op = 17 ∧ 0 ≤ a ∧ a < P.ss.length
  ·rw [if_pos c17]
   obtain ⟨g, hg⟩ : ∃ g, P.ss[a.toNat]? = some g := ⟨_, List.getElem?_eq_getElem (by omega)⟩
   have hsl' := hs.si g (List.mem_of_getElem? hg)
   rw [hg]
   simp only [Option.map_some, Option.getD_some]
   omega
  rw [if_neg c17]
  by_cases c256 : op = 256
  ·rw [if_pos c256]
   unfold stdB at hst
   dsimp only at hst
   rw [if_neg (by omega), if_neg (by omega), if_neg (by omega), if_neg (by omega), if_neg (by omega), if_neg (by omega), if_pos c256] at hst
   simp only [Bool.and_eq_true, decide_eq_true_eq] at hst
   dsimp only
   first | omega | (unfold wrap64; omega)
  rw [if_neg c256]
  split
  ·decide
  ·split
   ·decide
   ·split
    ·decide
    ·split
     ·decide
     ·split
      ·dsimp only; omega
      ·split
       ·decide
       ·split <;> decide
end Tg
end Go.Proofs.Ytifjgocfdnhdeaa
/- TgJ -/
namespace Go.Proofs.Ytifjgocfdnhdeaa
open Go.RowKit
namespace Tg
open Ins
theorem step_any {w0 w : World} {g : Nat} {sv fv : Value} {P : Pr} {f : FuV} (hP : ∀ wx, Gr w0 wx → PrR wx sv fv P) (hg0 : Gr w0 w) (hfr : ∀ wx, Gr w0 wx → FuR wx f) (hnc : f.f.cs.length ≤ 1048576) {hs td : List Int} {hv tv : Value} (h : WkR w w0.heap.size g sv fv f hs td hv tv)
  (hn : hs.length = f.f.cs.length) (htd : td.length ≤ 1048576) {at_ : Nat} {c : Ce} (hc : f.f.cs[at_]? = some c) (hcb : CeB c) (ht : 0 ≤ (effF P f.f.out c).1 ∧ (effF P f.f.out c).1 ≤ 4194304) (hgv : 0 ≤ (effF P f.f.out c).2 ∧ (effF P f.f.out c).2 ≤ 1048576)
  (ha : (c.op = 12 ∨ c.op = 13 ∨ c.op = 14) → 0 ≤ c.a ∧ c.a ≤ 1048576) {x : Int} (hx : hs[at_]? = some x) (hxb : 0 ≤ x ∧ x ≤ 1152921504606846976) :
  Calls Try.prog 41 #[.pointer (some ⟨g, 0, none⟩), .int .i64 at_] w (WkA w w0.heap.size g sv fv f (stepF hs td at_ c (effF P f.f.out c).1 (effF P f.f.out c).2)) := by
 obtain ⟨⟨host, sig, inn, out, loc, l⟩, cv, mv⟩ := f
 obtain ⟨xc, cc, e1, -⟩ := (hfr w0 (Gr.refl _)).cs
 obtain ⟨xm, nm, cm, e2⟩ := (hfr w0 (Gr.refl _)).mv
 dsimp only at e1 e2 hnc hn hc ht hgv
 subst e1 e2
 have hcl : ∀ wx, Gr w0 wx → RwR wx (.slice xc l.length cc) l.length (flat ceA l) := fun wx hg => (hfr wx hg).cs
 have hat : at_ < l.length := (List.getElem?_eq_some_iff.1 hc).1
 obtain ⟨op, a, n⟩ := c
 dsimp only at ha
 by_cases c0 : op = 0
 ·subst c0
  exact step_0 hP hg0 rfl hcl hnc h hn htd hat hc hcb rfl ht hgv hx hxb
 by_cases c15 : op = 15
 ·subst c15
  exact step_15 hP hg0 rfl hcl hnc h hn htd hat hc hcb rfl ht hgv hx hxb
 by_cases c12 : op = 12
 ·subst c12
  obtain ⟨a, rfl⟩ : ∃ b : Nat, a = b := ⟨a.toNat, by have := ha (by omega); omega⟩
  exact step_12 hP hg0 rfl hcl hnc h hn htd hat hc hcb rfl ht hgv hx hxb
 by_cases c13 : op = 13
 ·subst c13
  obtain ⟨a, rfl⟩ : ∃ b : Nat, a = b := ⟨a.toNat, by have := ha (by omega); omega⟩
  exact step_13 hP hg0 rfl hcl hnc h hn htd hat hc hcb rfl ht hgv hx hxb
 by_cases c14 : op = 14
 ·subst c14
  obtain ⟨a, rfl⟩ : ∃ b : Nat, a = b := ⟨a.toNat, by have := ha (by omega); omega⟩
  exact step_14 hP hg0 rfl hcl hnc h hn htd hat hc hcb rfl ht hgv hx hxb (by have := ha (by omega); omega)
 exact step_no hP hg0 rfl hcl hnc h hn htd hat hc hcb rfl ht hgv hx hxb ⟨c0, c12, c13, c14, c15⟩
def allF (P : Pr) (out : Int) (l : List Ce) : Nat → List Int → List Int → (List Int × List Int) × Bool
 | 0, hs, td => ((hs, td), false)
 | n + 1, hs, td => if td.isEmpty = true then ((hs, td), true)
  else match l[(td.getLastD 0).toNat]? with
   | none => ((hs, td), false)
   | some c => if (stepF hs td.dropLast (td.getLastD 0).toNat c (effF P out c).1 (effF P out c).2).2 = true then allF P out l n (stepF hs td.dropLast (td.getLastD 0).toNat c (effF P out c).1 (effF P out c).2).1.1 (stepF hs td.dropLast (td.getLastD 0).toNat c (effF P out c).1 (effF P out c).2).1.2
    else ((stepF hs td.dropLast (td.getLastD 0).toNat c (effF P out c).1 (effF P out c).2).1, false)
def isM : Option Value → Bool
 | some (.int .i64 x) => x == -1
 | _ => false
def mu (g : Nat) (w : World) : Nat :=
 match w.cell? ⟨g, 9, none⟩, w.cell? ⟨g, 10, none⟩ with
 | some (.slice (some ⟨q, _, _⟩) n _), some (.slice _ m _) => m + 2 * ((List.range n).map fun j => w.cell? ⟨q, j, none⟩).countP isM
 | some (.slice none _ _), some (.slice _ m _) => m
 | _, _ => 0
theorem cnt_map (hs : List Int) : ((List.range hs.length).map fun j => (ivs hs)[j]?).countP isM = cnt hs := by
 have : ((List.range hs.length).map fun j => (ivs hs)[j]?) = hs.map fun x => some (Value.int .i64 x) := by
  apply List.ext_getElem?
  intro j
  rw [List.getElem?_map, List.getElem?_map]
  unfold ivs
  by_cases hj : j < hs.length
  ·rw [List.getElem?_range hj, List.getElem?_eq_getElem hj]
   simp only [Option.map_some, List.getElem?_map, List.getElem?_eq_getElem hj]
  ·rw [List.getElem?_eq_none (by simpa using Nat.le_of_not_lt hj), List.getElem?_eq_none (Nat.le_of_not_lt hj)]
   rfl
 rw [this, List.countP_map]
 rfl
theorem mu_wk {w : World} {base g : Nat} {sv fv : Value} {f : FuV} {hs td : List Int} {hv tv : Value} (h : WkR w base g sv fv f hs td hv tv) : mu g w = td.length + 2 * cnt hs := by
 obtain ⟨_, _, _, _, _, _, _, _, _, c9, c10⟩ := wk_cells h
 obtain ⟨xh, ch, rfl⟩ := own_slice h.hs
 obtain ⟨xt, ct, rfl⟩ := own_slice h.td
 unfold mu
 rw [c9, c10]
 rcases h.hs.2 with ⟨e, h0⟩ | ⟨q, cap, cur, e, _, _⟩
 ·injection e with e
  subst e
  have : hs = [] := List.length_eq_zero_iff.1 h0
  subst this
  rfl
 ·injection e with e
  subst e
  dsimp only
  congr 2
  have : ((List.range hs.length).map fun j => w.cell? ⟨q, j, none⟩) = ((List.range hs.length).map fun j => (ivs hs)[j]?) := by
   apply List.map_congr_left
   intro j hj
   exact h.hs.cellAt j (by have := List.mem_range.1 hj; omega)
  rw [this, cnt_map]
theorem allF_nil (P : Pr) (out : Int) (l : List Ce) (n : Nat) (hs : List Int) : allF P out l (n + 1) hs [] = ((hs, []), true) := rfl
theorem allF_snoc (P : Pr) (out : Int) (l : List Ce) (n : Nat) (hs td : List Int) (t : Int) {c : Ce} (hc : l[t.toNat]? = some c) : allF P out l (n + 1) hs (td ++ [t]) = (if (stepF hs td t.toNat c (effF P out c).1 (effF P out c).2).2 = true then allF P out l n (stepF hs td t.toNat c (effF P out c).1 (effF P out c).2).1.1 (stepF hs td t.toNat c (effF P out c).1 (effF P out c).2).1.2 else ((stepF hs td t.toNat c (effF P out c).1 (effF P out c).2).1, false)) := by
 rw [allF, if_neg (by simp), show (td ++ [t]).getLastD 0 = t by simp, List.dropLast_concat, hc]
def Dec (hs td : List Int) (r : (List Int × List Int) × Bool) : Prop := r.1.2.length + cnt r.1.1 ≤ td.length + cnt hs ∧ cnt r.1.1 ≤ cnt hs
theorem dec_come (hs td : List Int) (a ht : Int) (h : 0 ≤ ht) (ha : 0 ≤ a) : Dec hs td (comeF hs td a ht) := by
 unfold comeF
 split
 ·exact ⟨Nat.le_refl _, Nat.le_refl _⟩
 ·rename_i hlt
  split
  ·rename_i hm
   have hlt' : a.toNat < hs.length := by omega
   have hj : hs[a.toNat]? = some (-1) := by
    rw [List.getD_eq_getElem?_getD, List.getElem?_eq_getElem hlt'] at hm
    rw [List.getElem?_eq_getElem hlt']
    exact congrArg some hm
   have hc := cnt_set hj (show ht ≠ -1 by omega)
   refine ⟨?_, ?_⟩
   ·dsimp only; rw [List.length_append]; simp only [List.length_singleton]; omega
   ·dsimp only; omega
  ·exact ⟨Nat.le_refl _, Nat.le_refl _⟩
theorem dec_trans {hs td : List Int} {r r' : (List Int × List Int) × Bool} (h : Dec hs td r) (h' : Dec r.1.1 r.1.2 r') : Dec hs td r' := ⟨Nat.le_trans h'.1 h.1, Nat.le_trans h'.2 h.2⟩
theorem dec_tab (hs td : List Int) (at_ ht : Int) (h : 0 ≤ ht) (ha : 0 ≤ at_) : ∀ k, Dec hs td (tabF hs td at_ ht k)
 | 0 => ⟨Nat.le_refl _, Nat.le_refl _⟩
 | k + 1 => by
  unfold tabF
  split
  ·exact dec_trans (dec_tab hs td at_ ht h ha k) (dec_come _ _ _ _ h (by omega))
  ·exact dec_tab hs td at_ ht h ha k
theorem dec_step {hs td : List Int} {at_ : Nat} {c : Ce} {t gv : Int} (hg : 0 ≤ gv) (ha : (c.op = 12 ∨ c.op = 13 ∨ c.op = 14) → 0 ≤ c.a) : Dec hs td (stepF hs td at_ c t gv) := by
 unfold stepF
 split
 ·exact ⟨Nat.le_refl _, Nat.le_refl _⟩
 ·have b0 : 0 ≤ hs.getD at_ 0 - t + gv := by omega
  split
  ·exact ⟨Nat.le_refl _, Nat.le_refl _⟩
  ·split
   ·exact dec_come _ _ _ _ b0 (ha (by omega))
   ·split
    ·split
     ·exact dec_trans (dec_come _ _ _ _ b0 (ha (by omega))) (dec_come _ _ _ _ b0 (by omega))
     ·exact dec_come _ _ _ _ b0 (ha (by omega))
    ·split
     ·exact dec_tab _ _ _ _ b0 (by omega) _
     ·exact dec_come _ _ _ _ b0 (by omega)
theorem owns_cut {w : World} {base q c k : Nat} {td : List Int} {t : Int} (h : w.ownsRow base 3 1 (.slice (some ⟨q, 0, none⟩) (k + 1) c) (k + 1) (ivs (td ++ [t]))) (hk : td.length = k) : w.ownsRow base 3 1 (.slice (some ⟨q, 0, none⟩) k c) k (ivs td) := by
 refine ⟨by rw [ivs_len, hk, Nat.mul_one], ?_⟩
 rcases h.2 with ⟨e, _⟩ | ⟨g, cap, cur, e, hb, hg, hn, hm, hs, ht⟩
 ·cases e
 ·injection e with e0 _ e2
  injection e0 with e0
  injection e0 with e0
  subst e0 e2
  refine .inr ⟨q, c, cur, rfl, hb, hg, by omega, hm, hs, ?_⟩
  have := congrArg (List.take (k * 1)) ht
  have h2 : List.take (k * 1) (ivs td ++ ivs [t]) = ivs td := by rw [List.take_append_of_le_length (by rw [ivs_len, hk]; omega), List.take_of_length_le (by rw [ivs_len, hk]; omega)]
  rw [List.take_take, show min (k * 1) ((k + 1) * 1) = k * 1 by omega, ivs_app, h2] at this
  exact this
set_option maxRecDepth 100000 in
set_option maxHeartbeats 8000000 in
theorem all_any {w0 w : World} {g j : Nat} {sv fv : Value} {P : Pr} {f : FuV} (hP : ∀ wx, Gr w0 wx → PrR wx sv fv P) (hg0 : Gr w0 w) (hck : ChkP P) (hsm : SmP P) (hf : P.fs[j]? = some f) {hs td : List Int} {hv tv : Value} (h : WkR w w0.heap.size g sv fv f hs td hv tv) (hi : Inv f.f.cs.length 0 hs td) :
  Calls Try.prog 24 #[.pointer (some ⟨g, 0, none⟩)] w (WkA w w0.heap.size g sv fv f (allF P f.f.out f.f.cs (f.f.cs.length + 1) hs td)) := by
 have hfm := List.mem_of_getElem? hf
 have hfr : ∀ wx, Gr w0 wx → FuR wx f := fun wx hg => (hP wx hg).fus f hfm
 have hnc := hsm.cs f hfm
 obtain ⟨R, hR⟩ : ∃ R, allF P f.f.out f.f.cs (f.f.cs.length + 1) hs td = R := ⟨_, rfl⟩
 have HST := Lib.hid (fun (wx : World) (hg : Gr w0 wx) (hs td : List Int) (hv tv : Value) (h : WkR wx w0.heap.size g sv fv f hs td hv tv) (hn : hs.length = f.f.cs.length) (htd : td.length ≤ 1048576) (at_ : Nat) (c : Ce) (hc : f.f.cs[at_]? = some c) (x : Int) (hx : hs[at_]? = some x) (hxb : 0 ≤ x ∧ x ≤ 1152921504606846976) => step_any hP hg hfr hnc h hn htd hc ((hfr w0 (Gr.refl _)).ces c (List.mem_of_getElem? hc)) (eff_bd hck hsm hf hc ((hfr w0 (Gr.refl _)).ces c (List.mem_of_getElem? hc))).1 (eff_bd hck hsm hf hc ((hfr w0 (Gr.refl _)).ces c (List.mem_of_getElem? hc))).2.1 (eff_bd hck hsm hf hc ((hfr w0 (Gr.refl _)).ces c (List.mem_of_getElem? hc))).2.2 hx hxb)
 have HEB := Lib.hid (fun (at_ : Nat) (c : Ce) (hc : f.f.cs[at_]? = some c) => eff_bd hck hsm hf hc ((hfr w0 (Gr.refl _)).ces c (List.mem_of_getElem? hc)))
 have HNC := Lib.hid hnc
 have HG0 := Lib.hid hg0
 have HW := Lib.hid h
 have HI := Lib.hid hi
 have HR := Lib.hid hR
 have HZ0 := Lib.hid hg0.size
 rw [hR]
 clear hP hg0 hck hsm hf h hi hfm hfr hnc hR
 go_enter Try.func24, Try.ntmps24
 go_wp2_with fail
 go_loopw [3] (fun _ wr => ∃ (p n : Nat) (hs td : List Int) (hv tv : Value), n + p = f.f.cs.length + 1 ∧ Inv f.f.cs.length p hs td ∧ WkR wr w0.heap.size g sv fv f hs td hv tv ∧ Sep (Anew w0.heap.size) w wr ∧ allF P f.f.out f.f.cs n hs td = R) (fun _ wr => mu g wr)
 case atStart => exact ⟨0, _, hs, td, hv, tv, by omega, HI.out, HW.out, Sep.refl _, HR.out⟩
 case round =>
  obtain ⟨p, n, hs1, td1, hv1, tv1, hnp, hi1, hw1, hs1', hr1⟩ := hrel
  have HI1 := Lib.hid hi1
  have HW1 := Lib.hid hw1
  have HS1 := Lib.hid hs1'
  have hsum := hi1.sum
  obtain ⟨n, rfl⟩ : ∃ m, n = m + 1 := ⟨n - 1, by omega⟩
  have HNP := Lib.hid hnp
  obtain ⟨_, _, _, _, _, _, _, _, _, c9, c10⟩ := wk_cells hw1
  obtain ⟨xt, ct, rfl⟩ := own_slice hw1.td
  by_cases hne : td1 = []
  ·subst hne
   have HR1 := Lib.hid (show R = ((hs1, []), true) from hr1.symm.trans (allF_nil _ _ _ _ _))
   clear hi1 hw1 hs1' hr1 hsum hnp
   go_wp2
   go_ret
   exact ⟨hv1, _, by rw [HR1.out]; rfl, by rw [HR1.out]; exact HW1.out, HS1.out⟩
  ·obtain ⟨td0, t, rfl⟩ : ∃ a b, td1 = a ++ [b] := ⟨td1.dropLast, td1.getLast hne, (List.dropLast_concat_getLast hne).symm⟩
   have hlen : (td0 ++ [t]).length = td0.length + 1 := by simp
   obtain ⟨k, hk⟩ : ∃ k, td0.length = k := ⟨_, rfl⟩
   have HK := Lib.hid hk
   obtain ⟨ht0, x, hx, hx1⟩ := hi1.mem t (by simp)
   obtain ⟨at_, rfl⟩ : ∃ a : Nat, t = a := ⟨t.toNat, by omega⟩
   rw [Int.toNat_natCast] at hx
   have hxb := (hi1.val at_ x hx).resolve_left hx1
   have hati : at_ < f.f.cs.length := by rw [← hi1.len]; exact (List.getElem?_eq_some_iff.1 hx).1
   obtain ⟨c, hc⟩ : ∃ c, f.f.cs[at_]? = some c := ⟨_, List.getElem?_eq_getElem hati⟩
   have hip := inv_pop hi1 hne
   rw [List.dropLast_concat] at hip
   rw [hlen, hk] at c10 hsum
   have htd := hw1.td
   rw [hlen, hk] at htd
   obtain ⟨qt, ct', e, hct, _, _, _⟩ := own_some htd (by omega)
   obtain ⟨rfl, _, rfl⟩ : xt = some ⟨qt, 0, none⟩ ∧ True ∧ ct = ct' := by
    injection e with e1 _ e3; exact ⟨e1, trivial, e3⟩
   have hcell : wr.cell? ⟨qt, k, none⟩ = some (.int .i64 at_) := by
    rw [htd.cellAt k (by omega)]
    unfold ivs
    rw [List.getElem?_map, List.getElem?_append_right (by omega), hk, Nat.sub_self]
    rfl
   have HCUT := Lib.hid (owns_cut htd hk)
   have HX := Lib.hid hx
   have HXB := Lib.hid hxb
   have HC := Lib.hid hc
   have HIP := Lib.hid hip
   have HMU := Lib.hid (mu_wk hw1)
   have HLE := Lib.hid hlen
   have HRS := Lib.hid (hr1.symm.trans (allF_snoc P f.f.out f.f.cs n hs1 td0 (at_ : Int) (by rw [Int.toNat_natCast]; exact hc)))
   rw [Int.toNat_natCast] at HRS
   have fz := froz hw1.row 10
   have hap := hw1.ap
   have HAP := Lib.hid hap
   have HSU := Lib.hid hsum
   have T1 : IntKind.i64.wrap (k : Int) = k := by have := HNC.out; have := HSU.out; rw [IntKind.wrap_i64]; omega
   have T1' : wrap64 (k : Int) = k := by have := HNC.out; have := HSU.out; unfold wrap64; omega
   clear hi1 hw1 hs1' hr1 hnp hne ht0 hx hx1 hxb hati hc hip htd hk hlen e hap hsum
   go_upto_region 5 with fail
   have HW5 := Lib.hid (wk_sett (tv' := .slice (some ⟨qt, 0, none⟩) k ct) (td' := td0) HW1.out.row HW1.out.bs HW1.out.hs (by rw [HK.out]; exact HCUT.out) (fun q hq => HAP.out q hq))
   have HS5 := Lib.hid (Sep.trans HS1.out (Sep.setCell (ex := Anew w0.heap.size) wr (p := ⟨g, 10, none⟩) HW1.out.bs (.slice (some ⟨qt, 0, none⟩) k ct)))
   generalize wr.setCell ⟨g, 10, none⟩ (.slice (some ⟨qt, 0, none⟩) k ct) = w5 at *
   have HG5 := Lib.hid (Sep.toGr HG0.out HS5.out (fun q hq => hq))
   have HPN := Lib.hid (show p ≤ 1048576 from by have := HNC.out; have := HSU.out; omega)
   have HC5 := Lib.hid (HST.out w5 HG5.out hs1 td0 hv1 _ HW5.out HIP.out.len (by rw [HK.out]; have := HNC.out; have := HSU.out; omega) at_ c HC.out x HX.out ⟨HXB.out.1, by have h1 := HXB.out.2; have h2 := HPN.out; omega⟩)
   have hb := HEB.out at_ c HC.out
   have hinv := inv_step (at_ := at_) (c := c) (t := (effF P f.f.out c).1) (gv := (effF P f.f.out c).2) HIP.out HX.out HXB.out hb.1.1 hb.2.1 (fun h => (hb.2.2 h).1)
   have hdec := dec_step (hs := hs1) (td := td0) (at_ := at_) (c := c) (t := (effF P f.f.out c).1) (gv := (effF P f.f.out c).2) hb.2.1.1 (fun h => (hb.2.2 h).1)
   obtain ⟨r, hr⟩ : ∃ r, stepF hs1 td0 at_ c (effF P f.f.out c).1 (effF P f.f.out c).2 = r := ⟨_, rfl⟩
   rw [hr] at HC5 HRS hinv hdec
   have HINV := Lib.hid hinv
   have HDEC := Lib.hid hdec
   clear hr hinv hdec hb c9 c10 hcell fz hct T1 T1'
   obtain ⟨⟨hs2, td2⟩, b⟩ := r
   cases b with
   | false =>
    go_wp2_with fail
    refine HC5.out.mono ?_
    rintro e w6 ⟨hv6, tv6, rfl, hw6, hs6⟩
    have HW6 := Lib.hid hw6
    have HS6 := Lib.hid hs6
    clear hw6 hs6
    go_wp2
    go_ret
    exact ⟨hv6, tv6, by rw [HRS.out]; rfl, by rw [HRS.out]; exact HW6.out, Sep.trans HS5.out HS6.out⟩
   | true =>
    go_wp2_with fail
    refine HC5.out.mono ?_
    rintro e w6 ⟨hv6, tv6, rfl, hw6, hs6⟩
    have HW6 := Lib.hid hw6
    have HS6 := Lib.hid hs6
    clear hw6 hs6
    go_wp2
    refine ⟨⟨p + 1, n, hs2, td2, hv6, tv6, by have := HNP.out; omega, HINV.out, HW6.out, Sep.trans HS5.out HS6.out, by have := HRS.out; rw [this]; rfl⟩, ?_⟩
    have h1 := mu_wk HW6.out
    have h2 := HMU.out
    have h3 := HDEC.out.1
    have h4 := HDEC.out.2
    have h5 := HLE.out
    dsimp only at h1 h3 h4
    omega
end Tg
end Go.Proofs.Ytifjgocfdnhdeaa
/- TgK -/
namespace Go.Proofs.Ytifjgocfdnhdeaa
open Go.RowKit
namespace Tg
open Ins
theorem wk_set9 {w : World} {base g : Nat} {sv fv : Value} {f : FuV} {hs' : List Int} {hv hv' : Value} (hrow : w.heap[g]? = some (.cells (wkA sv fv f hv (.slice none 0 0)) 67 (0, 0))) (hbs : base ≤ g) (ho : w.ownsRow base 3 1 hv' hs'.length (ivs hs')) : WkR (w.setCell ⟨g, 9, none⟩ hv') base g sv fv f hs' [] hv' (.slice none 0 0) := by
 have hsep := Sep.setCell (ex := fun b => b = g) w (p := ⟨g, 9, none⟩) rfl hv'
 refine ⟨heap_setCell_same w g 9 _ _ hv' hrow, hbs, hsep.owns ho (fun k hk e => ?_), World.ownsRow_nil _ _ _ _, fun q _ e => by cases e⟩
 have e' : k = g := e
 subst e'
 rcases ho.2 with ⟨rfl, _⟩ | ⟨q, cap, cur, rfl, _, hg, _⟩
 ·cases hk
 ·obtain rfl : q = k := Option.some.inj hk
  rw [hrow] at hg
  injection hg with hg
  injection hg with _ ht
  exact absurd ht (by decide)
set_option maxRecDepth 100000 in
set_option maxHeartbeats 8000000 in
theorem new_any {w : World} {xs xf xc xm : Option Addr} {ns cs nf cf nc cc nm cm : Nat} {host sig inn out loc : Int} {l : List Ce} (hnc : nc ≤ 1048576) :
  Calls Try.prog 23 #[.agg #[.slice xs ns cs, .slice xf nf cf], .agg #[.int .i64 host, .int .i64 sig, .int .i64 inn, .int .i64 out, .int .i64 loc, .slice xc nc cc, .slice xm nm cm]] w fun e w' => ∃ g hv tv, e = .returned (.pointer (some ⟨g, 0, none⟩)) ∧ WkR w' w.heap.size g (.slice xs ns cs) (.slice xf nf cf) ⟨⟨host, sig, inn, out, loc, l⟩, .slice xc nc cc, .slice xm nm cm⟩ (comeF (List.replicate nc (-1)) [] 0 0).1.1 (comeF (List.replicate nc (-1)) [] 0 0).1.2 hv tv ∧ Gr w w' := by
 have HNC := Lib.hid hnc
 clear hnc
 obtain ⟨i0, hi, hz0, hz1, hz2⟩ := info_parts infoZ
 have HI := Lib.hid hi
 have HZ0 := Lib.hid hz0
 have HZ1 := Lib.hid hz1
 have HZ2 := Lib.hid hz2
 clear hi hz0 hz1 hz2
 go_enter Try.func23, Try.ntmps23
 go_upto_region 1 with fail
 obtain ⟨hg, hb1, hb2⟩ := box2 w #[.slice xs ns cs, .slice xf nf cf] #[.int .i64 host, .int .i64 sig, .int .i64 inn, .int .i64 out, .int .i64 loc, .slice xc nc cc, .slice xm nm cm] 34 39
 generalize (w.alloc (.cells #[.slice xs ns cs, .slice xf nf cf] 34)).alloc (.cells #[.int .i64 host, .int .i64 sig, .int .i64 inn, .int .i64 out, .int .i64 loc, .slice xc nc cc, .slice xm nm cm] 39) = w1 at *
 have HG := Lib.hid hg
 have HB2 := Lib.hid hb2
 obtain ⟨p0, p1⟩ := cells2 hb1
 obtain ⟨f0, f1, f2, f3, f4, f5, f6⟩ := cells7 hb2
 clear hg hb1 hb2
 go_upto_region 2 with (refine wpList_build_at rfl 67 _ rfl #[.slice xs ns cs, .slice xf nf cf, .int .i64 host, .int .i64 sig, .int .i64 inn, .int .i64 out, .int .i64 loc, .slice xc nc cc, .slice xm nm cm, .slice none 0 0, .slice none 0 0] (by kernel_rfl) ?_)
 have HWK := Lib.hid (show WkR (w1.alloc (.cells #[.slice xs ns cs, .slice xf nf cf, .int .i64 host, .int .i64 sig, .int .i64 inn, .int .i64 out, .int .i64 loc, .slice xc nc cc, .slice xm nm cm, .slice none 0 0, .slice none 0 0] 67)) w.heap.size w1.heap.size (.slice xs ns cs) (.slice xf nf cf) ⟨⟨host, sig, inn, out, loc, l⟩, .slice xc nc cc, .slice xm nm cm⟩ (List.replicate 0 (-1)) [] (.slice none 0 0) (.slice none 0 0) from ⟨heap_alloc_new w1 _, HG.out.size, World.ownsRow_nil _ _ _ _, World.ownsRow_nil _ _ _ _, fun q e => by cases e⟩)
 have HGA := Lib.hid ((Gr.refl w1).alloc #[.slice xs ns cs, .slice xf nf cf, .int .i64 host, .int .i64 sig, .int .i64 inn, .int .i64 out, .int .i64 loc, .slice xc nc cc, .slice xm nm cm, .slice none 0 0, .slice none 0 0] 67)
 generalize w1.alloc (.cells #[.slice xs ns cs, .slice xf nf cf, .int .i64 host, .int .i64 sig, .int .i64 inn, .int .i64 out, .int .i64 loc, .slice xc nc cc, .slice xm nm cm, .slice none 0 0, .slice none 0 0] 67) = w2 at *
 generalize hgg : w1.heap.size = g at *
 have HG2 := Lib.hid (gr_trans HG.out HGA.out)
 clear f0 f1 f2 f3 f4 f5 f6 p0 p1
 obtain ⟨f0, f1, f2, f3, f4, f5, f6⟩ := cells7 (gr_block HGA.out HB2.out)
 go_upto_region 3 with fail
 clear f0 f1 f2 f3 f4 f5 f6
 go_loopw [13] (fun i wr => ∃ k : Nat, k ≤ nc ∧ i = .int .i64 k ∧ ∃ hv, WkR wr w.heap.size g (.slice xs ns cs) (.slice xf nf cf) ⟨⟨host, sig, inn, out, loc, l⟩, .slice xc nc cc, .slice xm nm cm⟩ (List.replicate k (-1)) [] hv (.slice none 0 0) ∧ Sep (Anew w.heap.size) w2 wr) (fun i _ => nc - (intOf i).toNat)
 case atStart => exact ⟨0, by omega, rfl, _, HWK.out, Sep.refl _⟩
 case round =>
  obtain ⟨k, hk, rfl, hv, hw, hs⟩ := hrel
  have HW := Lib.hid hw
  have HS := Lib.hid hs
  clear hw hs
  by_cases hlt : k < nc
  ·have hki : (k : Int) < (nc : Int) := by omega
   have HLT := Lib.hid hlt
   have hrow := HW.out.hs
   rw [List.length_replicate] at hrow
   have HROW := Lib.hid hrow
   obtain ⟨_, _, _, _, _, _, _, _, _, c9, c10⟩ := wk_cells HW.out
   have HZW := Lib.hid (Nat.le_trans HG2.out.size HS.out.size)
   have TI : wrap64 ((k : Int) + 1) = (k : Int) + 1 := by have := HNC.out; unfold wrap64; omega
   clear hrow hlt
   go_upto_region 5 with (first | (at_builtin; refine wpList_append_at rfl _ _ 25 rfl w.heap.size 3 i0 (.int .i64 0) 1 8 Try.underlying25 HI.out HZ0.out HZ1.out HZ2.out rfl (by decide) hv k (ivs (List.replicate k (-1))) rfl (World.ownsRow.alloc HROW.out _) (.slice (some ⟨wr.heap.size, 0, none⟩) 1 1) 1 [.int .i64 (-1)] rfl (src_lit wr #[.int .i64 (-1)] 3 1 1) rfl ((List.all_eq_true (p := fun u : Value => u.oneCell')).1 rfl) (by have := HNC.out; have := HLT.out; unfold maxLen; omega) (by have := HNC.out; have := HLT.out; omega) (by have := HZW.out; simp; omega) ?_))
   intro hv' w3 hown hgb hbk
   obtain ⟨xh, ch, rfl⟩ := own_slice hown
   have hpre : Sep (fun q => hv.ownBlock = some q) wr w3 := Sep.trans (Sep.of_gr ((Gr.refl wr).alloc _ _)) (Sep.grown hgb (fun q hq => hq))
   have hne := wk_ne HW.out
   have hrw := hpre.at_ (fun e => hne.1 e) HW.out.row
   have HRW := Lib.hid hrw
   have HPRE := Lib.hid (hpre.mono (fun q hq => (HROW.out.lt q hq).1))
   have HOW := Lib.hid (show w3.ownsRow w.heap.size 3 1 (.slice xh (k + 1) ch) (List.replicate (k + 1) (-1)).length (ivs (List.replicate (k + 1) (-1))) from by
    rw [List.length_replicate, List.replicate_succ', ivs_app]; exact hown)
   have fz := froz hrw 9
   have d9 : w3.cell? ⟨g, 9, none⟩ = some hv := (cell_of_row _ _ 9 _ _ _ hrw).trans rfl
   clear hpre hne hrw hown hgb hbk c9 c10
   go_upto_region 5 with fail
   have HW4 := Lib.hid (wk_set9 HRW.out HW.out.bs HOW.out)
   have HS4 := Lib.hid (Sep.trans HS.out (Sep.trans HPRE.out (Sep.setCell (ex := Anew w.heap.size) w3 (p := ⟨g, 9, none⟩) HW.out.bs (.slice xh (k + 1) ch))))
   generalize w3.setCell ⟨g, 9, none⟩ (.slice xh (k + 1) ch) = w4 at *
   clear fz d9
   go_wp2
   exact ⟨⟨k + 1, HLT.out, by first | rfl | (rw [TI]; rfl), _, HW4.out, HS4.out⟩, by first | exact meas_lt HLT.out | (rw [TI]; exact meas_lt HLT.out)⟩
  ·obtain rfl : nc = k := by omega
   have HC := Lib.hid (come_all HW.out (Nat.le_trans HG2.out.size HS.out.size) 0 0 (by rw [List.length_replicate]; have := HNC.out; omega) (by simp))
   clear hlt hk
   go_wp2_with fail
   refine HC.out.mono ?_
   rintro e w5 ⟨hv5, tv5, rfl, hw5, hs5⟩
   have HW5 := Lib.hid hw5
   have HG5 := Lib.hid (Sep.toGr HG2.out (Sep.trans HS.out hs5) (fun q hq => hq))
   clear hw5 hs5
   go_wp2
   go_ret
   exact ⟨g, hv5, tv5, rfl, HW5.out, HG5.out⟩
theorem own_base {w : World} {b b' : Nat} {e : TypeId} {z : Nat} {v : Value} {n : Nat} {xs : List Value} (h : w.ownsRow b e z v n xs) (hb : b' ≤ b) : w.ownsRow b' e z v n xs := by
 refine ⟨h.1, ?_⟩
 rcases h.2 with h | ⟨g, c, cur, h1, h2, h3⟩
 ·exact .inl h
 ·exact .inr ⟨g, c, cur, h1, Nat.le_trans hb h2, h3⟩
theorem inv_start (n : Nat) : Inv n 0 (comeF (List.replicate n (-1)) [] 0 0).1.1 (comeF (List.replicate n (-1)) [] 0 0).1.2 :=
 inv_come ⟨List.length_replicate, by have := List.countP_le_length (p := fun x : Int => x == -1) (l := List.replicate n (-1)); rw [List.length_replicate] at this; unfold cnt; simp only [List.length_nil]; omega, fun j x hx => .inl (by
  rw [List.getElem?_replicate] at hx
  split at hx
  ·exact (Option.some.inj hx).symm
  ·cases hx), fun t ht => by cases ht⟩ (by decide) (by decide) (by decide)
def wkF (P : Pr) (f : Fu) : (List Int × List Int) × Bool := allF P f.out f.cs (f.cs.length + 1) (comeF (List.replicate f.cs.length (-1)) [] 0 0).1.1 (comeF (List.replicate f.cs.length (-1)) [] 0 0).1.2
open Classical in
noncomputable def htF (P : Pr) (f : Int) : Option (List Int) :=
 if ChkP P ∧ 0 ≤ f then match P.fs[f.toNat]? with
  | none => none
  | some g => if g.f.cs = [] then none else if (wkF P g.f).2 = true then some (wkF P g.f).1.1 else none
 else none
def HtA (w : World) (P : Pr) (f : Int) (e : Ending) (w' : World) : Prop :=
 (htF P f = none ∧ e = .returned (.tuple #[.slice none 0 0, .bool false]) ∧ Gr w w') ∨
 ∃ hs hv, htF P f = some hs ∧ e = .returned (.tuple #[hv, .bool true]) ∧ w'.ownsRow w.heap.size 3 1 hv hs.length (ivs hs) ∧ Gr w w'
set_option maxRecDepth 100000 in
set_option maxHeartbeats 8000000 in
theorem heights_any {w : World} {sv fv : Value} {P : Pr} (h : PrR w sv fv P) (hsm : SmP P) (f : Int) : Calls Try.prog 11 #[.agg #[sv, fv], .int .i64 f] w (HtA w P f) := by
 have HP := Lib.hid (pr_hid h)
 have HSM := Lib.hid hsm
 have HCK := Lib.hid (fun wx (hg : Gr w wx) => check_any (prR_gr h hg))
 obtain ⟨xs, cs, rfl, -⟩ := id h.ss
 obtain ⟨xf, cf, rfl, -⟩ := id h.fs
 obtain ⟨ns, hns⟩ : ∃ n, P.ss.length = n := ⟨_, rfl⟩
 obtain ⟨nf, hnf⟩ : ∃ n, P.fs.length = n := ⟨_, rfl⟩
 have HNF := Lib.hid hnf
 rw [hns, hnf] at HP HCK
 rw [hns, hnf]
 have HLF := Lib.hid (show nf ≤ 1048576 from hnf ▸ hsm.fs)
 clear hsm hns hnf
 by_cases hck : ChkP P
 ·rw [chk_yes hck] at HCK
  by_cases h0 : f < 0
  ·have HR := Lib.hid (show htF P f = none by unfold htF; rw [if_neg (by omega)])
   clear h hck
   go_enter Try.func11, Try.ntmps11
   go_upto_region 1 with fail
   have hg := (Gr.refl w).alloc #[.slice xs ns cs, .slice xf nf cf] 34
   obtain ⟨p0, p1⟩ := cells2 (heap_alloc_new w (.cells #[.slice xs ns cs, .slice xf nf cf] 34))
   have HG := Lib.hid hg
   generalize w.alloc (.cells #[.slice xs ns cs, .slice xf nf cf] 34) = w1 at *
   clear hg
   go_wp2_with fail
   refine (HCK.out _ HG.out).mono ?_
   rintro e w2 ⟨rfl, hg2⟩
   have HG2 := Lib.hid hg2
   clear hg2 p0 p1
   go_wp2
   go_ret2
   exact .inl ⟨HR.out, rfl, gr_trans HG.out HG2.out⟩
  ·by_cases h1 : (nf : Int) ≤ f
   ·have HR := Lib.hid (show htF P f = none by unfold htF; rw [if_pos ⟨hck, by omega⟩, List.getElem?_eq_none (by rw [HNF.out]; omega)])
    clear h hck
    go_enter Try.func11, Try.ntmps11
    go_upto_region 1 with fail
    have hg := (Gr.refl w).alloc #[.slice xs ns cs, .slice xf nf cf] 34
    obtain ⟨p0, p1⟩ := cells2 (heap_alloc_new w (.cells #[.slice xs ns cs, .slice xf nf cf] 34))
    have HG := Lib.hid hg
    generalize w.alloc (.cells #[.slice xs ns cs, .slice xf nf cf] 34) = w1 at *
    clear hg
    go_wp2_with fail
    refine (HCK.out _ HG.out).mono ?_
    rintro e w2 ⟨rfl, hg2⟩
    have HG2 := Lib.hid hg2
    have q1 := gr_cell hg2 p1
    clear hg2 p0 p1
    go_wp2
    go_ret2
    exact .inl ⟨HR.out, rfl, gr_trans HG.out HG2.out⟩
   ·obtain ⟨i, rfl⟩ : ∃ i : Nat, f = i := ⟨f.toNat, by omega⟩
    obtain ⟨g, hgf⟩ : ∃ g, P.fs[i]? = some g := ⟨_, List.getElem?_eq_getElem (by rw [HNF.out]; omega)⟩
    obtain ⟨b, off, rfl, hcl⟩ := rwR_at (z := 7) (fun _ => rfl) h.fs hgf (by decide)
    have hfr := h.fus g (List.mem_of_getElem? hgf)
    obtain ⟨⟨host, sig, inn, out, loc, l⟩, cv, mv⟩ := g
    obtain ⟨xc, cc, e1, -⟩ := hfr.cs
    obtain ⟨xm, nm, cm, e2⟩ := hfr.mv
    dsimp only at e1 e2
    subst e1 e2
    obtain ⟨nc, hnc⟩ : ∃ n, l.length = n := ⟨_, rfl⟩
    have HNC := Lib.hid hnc
    have HD := Lib.hid (show ∀ j u, (#[.int .i64 host, .int .i64 sig, .int .i64 inn, .int .i64 out, .int .i64 loc, .slice xc nc cc, .slice xm nm cm] : Array Value).toList[j]? = some u → w.cell? ⟨b, off + i * 7 + j, none⟩ = some u from fun j u hu => hcl j u (by rw [← hu, ← hnc]; unfold fuA; rw [Array.getElem?_toList]))
    have HGF := Lib.hid hgf
    have HCH := Lib.hid hck
    have HLC := Lib.hid (show nc ≤ 1048576 from hnc ▸ HSM.out.cs _ (List.mem_of_getElem? hgf))
    have hii : (i : Int) < (nf : Int) := by omega
    have d5 := HD.out 5 (.slice xc nc cc) rfl
    clear h hck hcl hfr hnc hgf h0 h1
    by_cases hz : nc = 0
    ·have HR := Lib.hid (show htF P (i : Nat) = none by
      unfold htF
      rw [if_pos ⟨HCH.out, by omega⟩, Int.toNat_natCast, HGF.out]
      dsimp only
      rw [if_pos (List.length_eq_zero_iff.1 (HNC.out.trans hz))])
     have hz' : ((nc : Int) == 0) = true := by simp [hz]
     clear hz
     go_enter Try.func11, Try.ntmps11
     go_upto_region 1 with fail
     have hg := (Gr.refl w).alloc #[.slice xs ns cs, .slice (some ⟨b, off, none⟩) nf cf] 34
     obtain ⟨p0, p1⟩ := cells2 (heap_alloc_new w (.cells #[.slice xs ns cs, .slice (some ⟨b, off, none⟩) nf cf] 34))
     have HG := Lib.hid hg
     generalize w.alloc (.cells #[.slice xs ns cs, .slice (some ⟨b, off, none⟩) nf cf] 34) = w1 at *
     clear hg
     go_wp2_with fail
     refine (HCK.out _ HG.out).mono ?_
     rintro e w2 ⟨rfl, hg2⟩
     have HG2 := Lib.hid hg2
     have q1 := gr_cell hg2 p1
     have q5 := gr_cell (gr_trans HG.out hg2) d5
     clear hg2 p0 p1 d5
     go_wp2
     go_ret2
     exact .inl ⟨HR.out, rfl, gr_trans HG.out HG2.out⟩
    ·have hz' : ((nc : Int) == 0) = false := by simp [hz]
     have HZ := Lib.hid hz
     clear hz
     go_enter Try.func11, Try.ntmps11
     go_upto_region 1 with fail
     have hg := (Gr.refl w).alloc #[.slice xs ns cs, .slice (some ⟨b, off, none⟩) nf cf] 34
     obtain ⟨p0, p1⟩ := cells2 (heap_alloc_new w (.cells #[.slice xs ns cs, .slice (some ⟨b, off, none⟩) nf cf] 34))
     have HG := Lib.hid hg
     generalize w.alloc (.cells #[.slice xs ns cs, .slice (some ⟨b, off, none⟩) nf cf] 34) = w1 at *
     have HGP := Lib.hid (show ∀ wx, Gr w wx → w.heap.size ≤ wx.heap.size from fun wx hg => hg.size)
     generalize hgp : w.heap.size = gp at *
     clear hg
     go_wp2_with fail
     refine (HCK.out _ HG.out).mono ?_
     rintro e w2 ⟨rfl, hg2⟩
     have HG2 := Lib.hid (gr_trans HG.out hg2)
     have q0 := gr_cell hg2 p0
     have q1 := gr_cell hg2 p1
     have q5 := gr_cell (gr_trans HG.out hg2) d5
     clear hg2 p0 p1 d5
     go_upto_region 3 with fail
     have HPC := Lib.hid (show ∀ wx, Gr w2 wx → ∀ j u, (#[.slice xs ns cs, .slice (some ⟨b, off, none⟩) nf cf] : Array Value).toList[j]? = some u → wx.cell? ⟨gp, 0 + j, none⟩ = some u from fun wx hg j u hu => by
      match j, hu with
      | 0, hu => obtain rfl := Option.some.inj hu; exact gr_cell hg q0
      | 1, hu => obtain rfl := Option.some.inj hu; exact gr_cell hg q1
      | j + 2, hu => cases hu)
     refine wp_region_steady_tail 6 (by kernel_rfl) (by kernel_rfl) ?_
     refine steady_step (fun K hK => ?_)
     refine steady_load_cells rfl 34 _ rfl gp 0 rfl #[.slice xs ns cs, .slice (some ⟨b, off, none⟩) nf cf] _ (HPC.out _ (Gr.drew (Gr.refl _))) Try.underlying34 rfl infoPr ?_
     go_simp; refine hK _ ?_; clear hK K
     refine steady_step (fun K hK => ?_); apply steady_op rfl; (focus (intro wx hw; go_simp; exact ⟨rfl, hw⟩)); go_simp; refine hK _ ?_; clear hK K
     refine steady_step (fun K hK => ?_); apply steady_op rfl; (focus (intro wx hw; have hcx := gr_cell (gr_trans (Gr.drew (Gr.refl _)) hw) q1; go_simp; exact ⟨rfl, hw⟩)); go_simp; refine hK _ ?_; clear hK K
     refine steady_step (fun K hK => ?_); apply steady_op rfl; (focus (intro wx hw; go_simp; exact ⟨rfl, hw⟩)); go_simp; refine hK _ ?_; clear hK K
     refine steady_step (fun K hK => ?_); apply steady_op rfl; (focus (intro wx hw; go_simp; exact ⟨rfl, hw⟩)); go_simp; refine hK _ ?_; clear hK K
     refine steady_step (fun K hK => ?_)
     refine steady_load_cells rfl 39 _ rfl b (off + i * 7) rfl #[.int .i64 host, .int .i64 sig, .int .i64 inn, .int .i64 out, .int .i64 loc, .slice xc nc cc, .slice xm nm cm] _ (fun j u hu => gr_cell (gr_trans HG2.out (Gr.drew (Gr.refl _))) (HD.out j u hu)) Try.underlying39 rfl infoFn ?_
     go_simp; refine hK _ ?_; clear hK K
     refine steady_nil ?_
     intro w3 hg3
     have HG3 := Lib.hid (gr_trans HG2.out (gr_trans (Gr.drew (Gr.refl _)) hg3))
     clear hg3 q0 q1 q5
     have HNW := Lib.hid (new_any (w := w3) (xs := xs) (xf := some ⟨b, off, none⟩) (xc := xc) (xm := xm) (ns := ns) (cs := cs) (nf := nf) (cf := cf) (nc := nc) (cc := cc) (nm := nm) (cm := cm) (host := host) (sig := sig) (inn := inn) (out := out) (loc := loc) (l := l) HLC.out)
     go_wp2_with fail
     refine HNW.out.mono ?_
     rintro e w4 ⟨g, hv4, tv4, rfl, hw4, hg4⟩
     have hP3 : ∀ wx, Gr w3 wx → PrR wx (.slice xs ns cs) (.slice (some ⟨b, off, none⟩) nf cf) P := fun wx hg => HP.out wx (gr_trans HG3.out hg)
     rw [← HNC.out] at hw4
     have HAL := Lib.hid (all_any hP3 hg4 HCH.out HSM.out HGF.out hw4 (inv_start l.length))
     have HW4 := Lib.hid hw4
     have HG4 := Lib.hid hg4
     clear hw4 hg4 hP3
     dsimp only at HAL
     obtain ⟨r, hr⟩ : ∃ r, wkF P ⟨host, sig, inn, out, loc, l⟩ = r := ⟨_, rfl⟩
     have HRR := Lib.hid hr
     unfold wkF at hr
     dsimp only at hr
     rw [hr] at HAL
     clear hr
     obtain ⟨⟨hs5, td5⟩, b5⟩ := r
     have HHT := Lib.hid (show htF P (i : Nat) = (if b5 = true then some hs5 else none) by
      unfold htF
      rw [if_pos ⟨HCH.out, by omega⟩, Int.toNat_natCast, HGF.out]
      dsimp only
      rw [if_neg (fun h => HZ.out (by rw [← HNC.out, h]; rfl)), HRR.out])
     cases b5 with
     | false =>
      go_wp2_with fail
      refine HAL.out.mono ?_
      rintro e w5 ⟨hv5, tv5, rfl, hw5, hs5'⟩
      have HG5 := Lib.hid (Sep.toGr HG4.out hs5' (fun q hq => hq))
      clear hw5 hs5'
      go_wp2
      go_ret2
      exact .inl ⟨by rw [HHT.out]; rfl, rfl, gr_trans HG3.out HG5.out⟩
     | true =>
      go_wp2_with fail
      refine HAL.out.mono ?_
      rintro e w5 ⟨hv5, tv5, rfl, hw5, hs5'⟩
      have HG5 := Lib.hid (Sep.toGr HG4.out hs5' (fun q hq => hq))
      have HW5 := Lib.hid hw5
      obtain ⟨_, _, _, _, _, _, _, _, _, c9, c10⟩ := wk_cells hw5
      clear hw5 hs5'
      go_wp2
      go_ret2
      exact .inr ⟨hs5, hv5, by rw [HHT.out]; rfl, rfl, own_base HW5.out.hs (by rw [hgp]; exact HGP.out _ HG3.out), gr_trans HG3.out HG5.out⟩
 ·rw [chk_no hck] at HCK
  have HR := Lib.hid (show htF P f = none by unfold htF; rw [if_neg (fun h => hck h.1)])
  clear h hck
  go_enter Try.func11, Try.ntmps11
  go_upto_region 1 with fail
  have hg := (Gr.refl w).alloc #[.slice xs ns cs, .slice xf nf cf] 34
  obtain ⟨p0, p1⟩ := cells2 (heap_alloc_new w (.cells #[.slice xs ns cs, .slice xf nf cf] 34))
  have HG := Lib.hid hg
  generalize w.alloc (.cells #[.slice xs ns cs, .slice xf nf cf] 34) = w1 at *
  clear hg
  go_wp2_with fail
  refine (HCK.out _ HG.out).mono ?_
  rintro e w2 ⟨rfl, hg2⟩
  have HG2 := Lib.hid hg2
  clear hg2 p0 p1
  go_wp2
  go_ret2
  exact .inl ⟨HR.out, rfl, gr_trans HG.out HG2.out⟩
end Tg
end Go.Proofs.Ytifjgocfdnhdeaa
/- TgL -/
namespace Go.Proofs.Ytifjgocfdnhdeaa
open Go.RowKit
namespace Tg
open Ins
open Classical in
noncomputable def teF (P : Pr) (f : Int) (c : Ce) : Int × Int :=
 if ChkP P ∧ 0 ≤ f then match P.fs[f.toNat]? with
  | none => (0, 0)
  | some g => effF P g.f.out c
 else (0, 0)
set_option maxRecDepth 100000 in
set_option maxHeartbeats 8000000 in
theorem teff_any {w : World} {sv fv : Value} {P : Pr} (h : PrR w sv fv P) (f : Int) {c : Ce} (hcb : CeB c) : Calls Try.prog 13 #[.agg #[sv, fv], .int .i64 f, .agg (ceA c)] w fun e w' => e = .returned (.tuple #[.int .i64 (teF P f c).1, .int .i64 (teF P f c).2]) ∧ Gr w w' := by
 have HP := Lib.hid (pr_hid h)
 have HCK := Lib.hid (fun wx (hg : Gr w wx) => check_any (prR_gr h hg))
 obtain ⟨xs, cs, rfl, -⟩ := id h.ss
 obtain ⟨xf, cf, rfl, -⟩ := id h.fs
 obtain ⟨ns, hns⟩ : ∃ n, P.ss.length = n := ⟨_, rfl⟩
 obtain ⟨nf, hnf⟩ : ∃ n, P.fs.length = n := ⟨_, rfl⟩
 have HNF := Lib.hid hnf
 have HLF := Lib.hid (show nf ≤ 1099511627776 from hnf ▸ h.lf)
 obtain ⟨op, a, n⟩ := c
 have HCB := Lib.hid hcb
 unfold ceA
 rw [hns, hnf] at HP HCK
 rw [hns, hnf]
 dsimp only
 clear hns hnf hcb
 by_cases hck : ChkP P
 ·rw [chk_yes hck] at HCK
  by_cases h0 : f < 0
  ·have HR := Lib.hid (show teF P f ⟨op, a, n⟩ = (0, 0) by unfold teF; rw [if_neg (by omega)])
   clear h hck
   go_enter Try.func13, Try.ntmps13
   go_upto_region 1 with fail
   obtain ⟨hg, hb1, hb2⟩ := box2 w #[.slice xs ns cs, .slice xf nf cf] #[.int .i64 op, .int .i64 a, .int .u64 n] 34 47
   generalize (w.alloc (.cells #[.slice xs ns cs, .slice xf nf cf] 34)).alloc (.cells #[.int .i64 op, .int .i64 a, .int .u64 n] 47) = w1 at *
   generalize hgp : w.heap.size = gp at *
   have HG := Lib.hid hg
   have HB1 := Lib.hid hb1
   have HB2 := Lib.hid hb2
   obtain ⟨p0, p1⟩ := cells2 hb1
   clear hg hb1 hb2
   go_wp2_with fail
   refine (HCK.out _ HG.out).mono ?_
   rintro e w2 ⟨rfl, hg2⟩
   have HGC := Lib.hid hg2
   have HG2 := Lib.hid (gr_trans HG.out hg2)
   have q0 := gr_cell hg2 p0
   have q1 := gr_cell hg2 p1
   clear hg2 p0 p1
   go_wp2
   go_ret2
   exact ⟨by rw [HR.out]; rfl, HG2.out⟩
  ·by_cases h1 : (nf : Int) ≤ f
   ·have HR := Lib.hid (show teF P f ⟨op, a, n⟩ = (0, 0) by unfold teF; rw [if_pos ⟨hck, by omega⟩, List.getElem?_eq_none (by rw [HNF.out]; omega)])
    clear h hck
    go_enter Try.func13, Try.ntmps13
    go_upto_region 1 with fail
    obtain ⟨hg, hb1, hb2⟩ := box2 w #[.slice xs ns cs, .slice xf nf cf] #[.int .i64 op, .int .i64 a, .int .u64 n] 34 47
    generalize (w.alloc (.cells #[.slice xs ns cs, .slice xf nf cf] 34)).alloc (.cells #[.int .i64 op, .int .i64 a, .int .u64 n] 47) = w1 at *
    generalize hgp : w.heap.size = gp at *
    have HG := Lib.hid hg
    have HB1 := Lib.hid hb1
    have HB2 := Lib.hid hb2
    obtain ⟨p0, p1⟩ := cells2 hb1
    clear hg hb1 hb2
    go_wp2_with fail
    refine (HCK.out _ HG.out).mono ?_
    rintro e w2 ⟨rfl, hg2⟩
    have HGC := Lib.hid hg2
    have HG2 := Lib.hid (gr_trans HG.out hg2)
    have q0 := gr_cell hg2 p0
    have q1 := gr_cell hg2 p1
    clear hg2 p0 p1
    go_wp2
    go_ret2
    exact ⟨by rw [HR.out]; rfl, HG2.out⟩
   ·obtain ⟨i, rfl⟩ : ∃ i : Nat, f = i := ⟨f.toNat, by omega⟩
    obtain ⟨g, hgf⟩ : ∃ g, P.fs[i]? = some g := ⟨_, List.getElem?_eq_getElem (by rw [HNF.out]; omega)⟩
    have HR := Lib.hid (show teF P (i : Nat) ⟨op, a, n⟩ = effF P g.f.out ⟨op, a, n⟩ by unfold teF; rw [if_pos ⟨hck, by omega⟩, Int.toNat_natCast, hgf])
    obtain ⟨b, off, rfl, hcl⟩ := rwR_at (z := 7) (fun _ => rfl) h.fs hgf (by decide)
    have hfr := h.fus g (List.mem_of_getElem? hgf)
    obtain ⟨⟨host, sig, inn, out, loc, l⟩, cv, mv⟩ := g
    obtain ⟨xc, cc, e1, -⟩ := hfr.cs
    obtain ⟨xm, nm, cm, e2⟩ := hfr.mv
    dsimp only at e1 e2 HR
    subst e1 e2
    obtain ⟨nc, hnc⟩ : ∃ n, l.length = n := ⟨_, rfl⟩
    have HD := Lib.hid (show ∀ j u, (#[.int .i64 host, .int .i64 sig, .int .i64 inn, .int .i64 out, .int .i64 loc, .slice xc nc cc, .slice xm nm cm] : Array Value).toList[j]? = some u → w.cell? ⟨b, off + i * 7 + j, none⟩ = some u from fun j u hu => hcl j u (by rw [← hu, ← hnc]; unfold fuA; rw [Array.getElem?_toList]))
    have HEF := Lib.hid (fun wx (hg : Gr w wx) => eff_any (f := ⟨⟨host, sig, inn, out, loc, l⟩, .slice xc nc cc, .slice xm nm cm⟩) (HP.out wx hg) ⟨xc, nc, cc, rfl⟩ HCB.out)
    unfold fuA ceA at HEF
    dsimp only at HEF
    have hii : (i : Int) < (nf : Int) := by omega
    clear h hck hcl hfr hnc hgf h0 h1
    go_enter Try.func13, Try.ntmps13
    go_upto_region 1 with fail
    obtain ⟨hg, hb1, hb2⟩ := box2 w #[.slice xs ns cs, .slice (some ⟨b, off, none⟩) nf cf] #[.int .i64 op, .int .i64 a, .int .u64 n] 34 47
    generalize (w.alloc (.cells #[.slice xs ns cs, .slice (some ⟨b, off, none⟩) nf cf] 34)).alloc (.cells #[.int .i64 op, .int .i64 a, .int .u64 n] 47) = w1 at *
    generalize hgp : w.heap.size = gp at *
    have HG := Lib.hid hg
    have HB1 := Lib.hid hb1
    have HB2 := Lib.hid hb2
    obtain ⟨p0, p1⟩ := cells2 hb1
    clear hg hb1 hb2
    go_wp2_with fail
    refine (HCK.out _ HG.out).mono ?_
    rintro e w2 ⟨rfl, hg2⟩
    have HGC := Lib.hid hg2
    have HG2 := Lib.hid (gr_trans HG.out hg2)
    have q0 := gr_cell hg2 p0
    have q1 := gr_cell hg2 p1
    clear hg2 p0 p1
    go_upto_region 3 with fail
    have HPC := Lib.hid (show ∀ wx, Gr w2 wx → ∀ j u, (#[.slice xs ns cs, .slice (some ⟨b, off, none⟩) nf cf] : Array Value).toList[j]? = some u → wx.cell? ⟨gp, 0 + j, none⟩ = some u from fun wx hg j u hu => by
     match j, hu with
     | 0, hu => obtain rfl := Option.some.inj hu; exact gr_cell hg q0
     | 1, hu => obtain rfl := Option.some.inj hu; exact gr_cell hg q1
     | j + 2, hu => cases hu)
    have HCC := Lib.hid (show ∀ wx, Gr w2 wx → ∀ j u, (#[.int .i64 op, .int .i64 a, .int .u64 n] : Array Value).toList[j]? = some u → wx.cell? ⟨gp + 1, 0 + j, none⟩ = some u from fun wx hg j u hu => by
     obtain ⟨a0, a1, a2⟩ := cells3 (gr_block (gr_trans HGC.out hg) HB2.out)
     match j, hu with
     | 0, hu => obtain rfl := Option.some.inj hu; exact a0
     | 1, hu => obtain rfl := Option.some.inj hu; exact a1
     | 2, hu => obtain rfl := Option.some.inj hu; exact a2
     | j + 3, hu => cases hu)
    refine wp_region_steady (by kernel_rfl) (by kernel_rfl) ?_
    refine steady_step (fun K hK => ?_)
    refine steady_load_cells rfl 34 _ rfl gp 0 rfl #[.slice xs ns cs, .slice (some ⟨b, off, none⟩) nf cf] _ (HPC.out _ (Gr.drew (Gr.refl _))) Try.underlying34 rfl infoPr ?_
    go_simp; refine hK _ ?_; clear hK K
    refine steady_step (fun K hK => ?_); apply steady_op rfl; (focus (intro wx hw; go_simp; exact ⟨rfl, hw⟩)); go_simp; refine hK _ ?_; clear hK K
    refine steady_step (fun K hK => ?_); apply steady_op rfl; (focus (intro wx hw; have hcx := gr_cell (gr_trans (Gr.drew (Gr.refl _)) hw) q1; go_simp; exact ⟨rfl, hw⟩)); go_simp; refine hK _ ?_; clear hK K
    refine steady_step (fun K hK => ?_); apply steady_op rfl; (focus (intro wx hw; go_simp; exact ⟨rfl, hw⟩)); go_simp; refine hK _ ?_; clear hK K
    refine steady_step (fun K hK => ?_); apply steady_op rfl; (focus (intro wx hw; go_simp; exact ⟨rfl, hw⟩)); go_simp; refine hK _ ?_; clear hK K
    refine steady_step (fun K hK => ?_)
    refine steady_load_cells rfl 39 _ rfl b (off + i * 7) rfl #[.int .i64 host, .int .i64 sig, .int .i64 inn, .int .i64 out, .int .i64 loc, .slice xc nc cc, .slice xm nm cm] _ (fun j u hu => gr_cell (gr_trans HG2.out (Gr.drew (Gr.refl _))) (HD.out j u hu)) Try.underlying39 rfl infoFn ?_
    go_simp; refine hK _ ?_; clear hK K
    refine steady_step (fun K hK => ?_)
    refine steady_load_cells rfl 47 _ rfl (gp + 1) 0 rfl #[.int .i64 op, .int .i64 a, .int .u64 n] _ (HCC.out _ (Gr.drew (Gr.refl _))) Try.underlying47 rfl infoCe ?_
    go_simp; refine hK _ ?_; clear hK K
    refine steady_step (fun K hK => ?_)
    apply steady_op rfl
    ·intro wx hw; go_simp; exact (HEF.out wx (gr_trans HG2.out (gr_trans (Gr.drew (Gr.refl _)) hw))).mono fun e w3 h => ⟨h.1, gr_trans hw h.2⟩
    go_simp; refine hK _ ?_; clear hK K
    refine steady_step (fun K hK => ?_); apply steady_op rfl; (focus (intro wx hw; go_simp; exact ⟨rfl, hw⟩)); go_simp; refine hK _ ?_; clear hK K
    refine steady_step (fun K hK => ?_); apply steady_op rfl; (focus (intro wx hw; go_simp; exact ⟨rfl, hw⟩)); go_simp; refine hK _ ?_; clear hK K
    refine steady_step (fun K hK => ?_); apply steady_op rfl; (focus (intro wx hw; go_simp; exact ⟨rfl, hw⟩)); go_simp; refine hK _ ?_; clear hK K
    refine steady_step (fun K hK => ?_); apply steady_op rfl; (focus (intro wx hw; go_simp; exact ⟨rfl, hw⟩)); go_simp; refine hK _ ?_; clear hK K
    refine steady_nil ?_
    intro w3 hg3
    have HG3 := Lib.hid (gr_trans HG2.out (gr_trans (Gr.drew (Gr.refl _)) hg3))
    clear hg3 q0 q1
    go_wp2
    go_ret2
    exact ⟨by rw [HR.out]; rfl, HG3.out⟩
 ·rw [chk_no hck] at HCK
  have HR := Lib.hid (show teF P f ⟨op, a, n⟩ = (0, 0) by unfold teF; rw [if_neg (fun h => hck h.1)])
  clear h hck
  go_enter Try.func13, Try.ntmps13
  go_upto_region 1 with fail
  obtain ⟨hg, hb1, hb2⟩ := box2 w #[.slice xs ns cs, .slice xf nf cf] #[.int .i64 op, .int .i64 a, .int .u64 n] 34 47
  generalize (w.alloc (.cells #[.slice xs ns cs, .slice xf nf cf] 34)).alloc (.cells #[.int .i64 op, .int .i64 a, .int .u64 n] 47) = w1 at *
  generalize hgp : w.heap.size = gp at *
  have HG := Lib.hid hg
  have HB1 := Lib.hid hb1
  have HB2 := Lib.hid hb2
  obtain ⟨p0, p1⟩ := cells2 hb1
  clear hg hb1 hb2
  go_wp2_with fail
  refine (HCK.out _ HG.out).mono ?_
  rintro e w2 ⟨rfl, hg2⟩
  have HGC := Lib.hid hg2
  have HG2 := Lib.hid (gr_trans HG.out hg2)
  have q0 := gr_cell hg2 p0
  have q1 := gr_cell hg2 p1
  clear hg2 p0 p1
  go_wp2
  go_ret2
  exact ⟨by rw [HR.out]; rfl, HG2.out⟩
theorem ints_any {w : World} {v1 v2 : Value} {l : List Int} (h1 : RwR w v1 l.length (ivs l)) (h2 : RwR w v2 l.length (ivs l)) (hl : l.length ≤ 1099511627776) :
  Calls Try.prog 15 #[v1, v2] w fun e w' => e = .returned (.bool true) ∧ Gr w w' := by
 obtain ⟨x1, c1, rfl, hc1⟩ := h1
 obtain ⟨x2, c2, rfl, hc2⟩ := h2
 have HC1 := Lib.hid hc1
 have HC2 := Lib.hid hc2
 obtain ⟨n, hn⟩ : ∃ n, l.length = n := ⟨_, rfl⟩
 have HN := Lib.hid hn
 have HL := Lib.hid hl
 rw [hn]
 clear hc1 hc2 hl hn
 go_enter Try.func15, Try.ntmps15
 go_wp2_with fail
 go_loopw [5] (fun i wr => ∃ k : Nat, k ≤ n ∧ i = .int .i64 k ∧ Gr w wr) (fun i _ => n - (intOf i).toNat)
 case atStart => exact ⟨0, by omega, rfl, Gr.refl _⟩
 case round =>
  obtain ⟨k, hk, rfl, hg⟩ := hrel
  have HG := Lib.hid hg
  clear hg
  by_cases hlt : k < n
  ·have hki : (k : Int) < (n : Int) := by omega
   have HLT := Lib.hid hlt
   obtain ⟨t, ht⟩ : ∃ t, l[k]? = some t := ⟨_, List.getElem?_eq_getElem (by rw [HN.out]; exact hlt)⟩
   have hti : (ivs l)[k]? = some (.int .i64 t) := by unfold ivs; rw [List.getElem?_map, ht]; rfl
   obtain ⟨b1, o1, rfl, d1⟩ := HC1.out k _ hti
   obtain ⟨b2, o2, rfl, d2⟩ := HC2.out k _ hti
   have e1 := gr_cell HG.out d1
   have e2 := gr_cell HG.out d2
   have TI : wrap64 ((k : Int) + 1) = (k : Int) + 1 := by have := HL.out; have := HN.out; unfold wrap64; omega
   clear ht hti d1 d2 hlt
   go_wp2_with fail
   go_quiet (fail)
   go_wp2
   exact ⟨⟨k + 1, HLT.out, by first | rfl | (rw [TI]; rfl), HG.out.drewN _⟩, by first | exact meas_lt HLT.out | (rw [TI]; exact meas_lt HLT.out)⟩
  ·obtain rfl : n = k := by omega
   go_wp2
   go_ret
   exact ⟨rfl, HG.out⟩
end Tg
end Go.Proofs.Ytifjgocfdnhdeaa
/- TgN -/
namespace Go.Proofs.Ytifjgocfdnhdeaa
open Go.RowKit
namespace Tg
open Ins
set_option maxRecDepth 100000 in
set_option maxHeartbeats 4000000 in
theorem prog_any {w : World} {xc : Option Addr} {nc cc : Nat} : Calls Try.prog 16 #[.slice xc nc cc] w fun e w' => ∃ b1 b2 b3, e = .returned (.agg #[.slice (some ⟨b2, 0, none⟩) 1 1, .slice (some ⟨b3, 0, none⟩) 1 1]) ∧ Gr w w' ∧ w'.heap[b1]? = some (.cells #[.int .i64 126] 3 (0, 0)) ∧ w'.heap[b2]? = some (.cells #[.slice none 0 0, .slice (some ⟨b1, 0, none⟩) 1 1] 53 (0, 0)) ∧ w'.heap[b3]? = some (.cells #[.int .i64 (-1), .int .i64 0, .int .i64 0, .int .i64 1, .int .i64 0, .slice xc nc cc, .slice none 0 0] 39 (0, 0)) := by
 go_enter Try.func16, Try.ntmps16
 go_upto_region 1 with fail
 have HG := Lib.hid ((Gr.refl w).alloc #[.slice none 0 0, .slice none 0 0] 34)
 have HB := Lib.hid (heap_alloc_new w (.cells #[.slice none 0 0, .slice none 0 0] 34))
 have HZ := Lib.hid (hsz_alloc w (.cells #[.slice none 0 0, .slice none 0 0] 34))
 generalize w.alloc (.cells #[.slice none 0 0, .slice none 0 0] 34) = w1 at *
 have H3 := Lib.hid (box3 w1 #[.int .i64 126] #[.slice none 0 0, .slice (some ⟨w1.heap.size, 0, none⟩) 1 1] #[.int .i64 (-1), .int .i64 0, .int .i64 0, .int .i64 1, .int .i64 0, .slice xc nc cc, .slice none 0 0] 3 53 39)
 generalize hgp : w.heap.size = gp at *
 generalize hg1 : w1.heap.size = g1 at *
 go_wp2_with (first | (refine wpList_build_at rfl 53 _ rfl #[.slice none 0 0, .slice (some ⟨g1, 0, none⟩) 1 1] (by kernel_rfl) ?_) | (refine wpList_build_at rfl 39 _ rfl #[.int .i64 (-1), .int .i64 0, .int .i64 0, .int .i64 1, .int .i64 0, .slice xc nc cc, .slice none 0 0] (by kernel_rfl) ?_) | (refine wpList_build_at rfl 34 _ rfl #[.slice (some ⟨g1 + 1, 0, none⟩) 1 1, .slice (some ⟨g1 + 1 + 1, 0, none⟩) 1 1] (by kernel_rfl) ?_) | (refine wpList_store_row rfl 34 _ _ rfl gp #[.slice (some ⟨g1 + 1, 0, none⟩) 1 1, .slice (some ⟨g1 + 1 + 1, 0, none⟩) 1 1] rfl rfl 34 #[.slice none 0 0, .slice none 0 0] (gr_block H3.out.1 HB.out) infoPr rfl (by kernel_rfl) ?_))
 have hsep := Sep.setRow (ex := fun q => q = gp) (((w1.alloc (.cells #[.int .i64 126] 3)).alloc (.cells #[.slice none 0 0, .slice (some ⟨g1, 0, none⟩) 1 1] 53)).alloc (.cells #[.int .i64 (-1), .int .i64 0, .int .i64 0, .int .i64 1, .int .i64 0, .slice xc nc cc, .slice none 0 0] 39)) rfl #[.slice (some ⟨g1 + 1, 0, none⟩) 1 1, .slice (some ⟨g1 + 1 + 1, 0, none⟩) 1 1]
 have hz := HZ.out
 have h1 := hsep.at_ (fun e : g1 = gp => by omega) H3.out.2.1
 have h2 := hsep.at_ (fun e : g1 + 1 = gp => by omega) H3.out.2.2.1
 have h3 := hsep.at_ (fun e : g1 + 1 + 1 = gp => by omega) H3.out.2.2.2
 have hb := setRow_block (c := #[.slice (some ⟨g1 + 1, 0, none⟩) 1 1, .slice (some ⟨g1 + 1 + 1, 0, none⟩) 1 1]) (gr_block H3.out.1 HB.out)
 have hgr : Gr w _ := Sep.toGr (gr_trans HG.out H3.out.1) hsep (fun q hq => by have e' : q = gp := hq; omega)
 exact bodyPost_ret (v := .agg #[.slice (some ⟨g1 + 1, 0, none⟩) 1 1, .slice (some ⟨g1 + 1 + 1, 0, none⟩) 1 1]) (results_cell_row Try.results16 _ _ gp 34 _ (0, 0) _ rfl hb Try.underlying34 rfl infoPr) rfl ⟨g1, g1 + 1, g1 + 1 + 1, rfl, hgr, h1, h2, h3⟩
def prP (l : List Ce) (cv vo : Value) : Pr := ⟨[⟨⟨[], [126]⟩, .slice none 0 0, vo⟩], [⟨⟨-1, 0, 0, 1, 0, l⟩, cv, .slice none 0 0⟩]⟩
theorem own_rw {w : World} {b : Nat} {e : TypeId} {v : Value} {n : Nat} {xs : List Value} (h : w.ownsRow b e 1 v n xs) : RwR w v n xs := by
 obtain ⟨x, c, rfl⟩ := own_slice h
 refine ⟨x, c, rfl, fun j u hu => ?_⟩
 have hj := (List.getElem?_eq_some_iff.1 hu).1
 rw [h.1, Nat.mul_one] at hj
 obtain ⟨g, c', e1, _, _, _, _⟩ := own_some h (by omega)
 obtain rfl := (Value.slice.inj e1).1
 exact ⟨g, 0, rfl, by rw [Nat.zero_add, h.cellAt j (by omega)]; exact hu⟩
theorem bd0 : Bd 0 := ⟨by decide, by decide⟩
theorem bd1 : Bd 1 := ⟨by decide, by decide⟩
theorem bdm : Bd (-1) := ⟨by decide, by decide⟩
theorem prP_ok {w : World} {xc : Option Addr} {nc cc b1 b2 b3 : Nat} {l : List Ce} (hl : l.length = nc) (hn : nc ≤ 1048576) (hc : RwR w (.slice xc nc cc) nc (flat ceA l)) (hb : ∀ c ∈ l, CeB c) (h1 : w.heap[b1]? = some (.cells #[.int .i64 126] 3 (0, 0))) (h2 : w.heap[b2]? = some (.cells #[.slice none 0 0, .slice (some ⟨b1, 0, none⟩) 1 1] 53 (0, 0))) (h3 : w.heap[b3]? = some (.cells #[.int .i64 (-1), .int .i64 0, .int .i64 0, .int .i64 1, .int .i64 0, .slice xc nc cc, .slice none 0 0] 39 (0, 0))) :
  PrR w (.slice (some ⟨b2, 0, none⟩) 1 1) (.slice (some ⟨b3, 0, none⟩) 1 1) (prP l (.slice xc nc cc) (.slice (some ⟨b1, 0, none⟩) 1 1)) := by
 refine ⟨⟨_, _, rfl, fun j u hu => ⟨b2, 0, rfl, ?_⟩⟩, ⟨_, _, rfl, fun j u hu => ⟨b3, 0, rfl, ?_⟩⟩, fun s hs => ?_, fun f hf => ?_, by show 1 ≤ 1099511627776; omega, by show 1 ≤ 1099511627776; omega⟩
 ·rw [Nat.zero_add, cell_of_row _ _ j _ _ _ h2, ← Array.getElem?_toList]; exact hu
 ·rw [Nat.zero_add, cell_of_row _ _ j _ _ _ h3, ← Array.getElem?_toList]; exact hu
 ·obtain rfl := List.mem_singleton.1 hs
  exact ⟨⟨none, 0, rfl, fun j u hu => by cases hu⟩, ⟨_, _, rfl, fun j u hu => ⟨b1, 0, rfl, by rw [Nat.zero_add, cell_of_row _ _ j _ _ _ h1, ← Array.getElem?_toList]; exact hu⟩⟩, Nat.zero_le _, show 1 ≤ 1099511627776 by decide⟩
 ·obtain rfl := List.mem_singleton.1 hf
  exact ⟨by dsimp only; rw [hl]; exact hc, ⟨_, _, _, rfl⟩, by dsimp only; omega, bdm, bd0, bd0, bd1, bd0, hb⟩
theorem prP_sm {l : List Ce} {cv vo : Value} (hl : l.length ≤ 1048576) : SmP (prP l cv vo) :=
 ⟨by show 1 ≤ 1048576; omega, by show 1 ≤ 1048576; omega, fun s hs => by obtain rfl := List.mem_singleton.1 hs; exact ⟨Nat.zero_le _, show 1 ≤ 1048576 by decide⟩, fun f hf => by obtain rfl := List.mem_singleton.1 hf; exact hl⟩
def l4 : List Ce := [⟨66, 0, 5⟩, ⟨13, 0, 0⟩, ⟨66, 0, 1⟩, ⟨15, 0, 0⟩]
theorem l4_ok : ∀ c ∈ l4, CeB c := fun c hc => by
 simp only [l4, List.mem_cons, List.not_mem_nil, or_false] at hc
 rcases hc with rfl | rfl | rfl | rfl <;> exact ⟨⟨by decide, by decide⟩, ⟨by decide, by decide⟩, by decide, by decide⟩
def l2 : List Ce := [⟨26, 0, 0⟩, ⟨15, 0, 0⟩]
theorem l2_ok : ∀ c ∈ l2, CeB c := fun c hc => by
 simp only [l2, List.mem_cons, List.not_mem_nil, or_false] at hc
 rcases hc with rfl | rfl <;> exact ⟨⟨by decide, by decide⟩, ⟨by decide, by decide⟩, by decide, by decide⟩
theorem aw_chk (cv vo : Value) : ChkP (prP l4 cv vo) := by
 refine ⟨fun j s hs => ?_, fun j f hf => ?_⟩
 ·match j, hs with
  | 0, hs => obtain rfl := Option.some.inj hs; exact ⟨rfl, rfl⟩
  | j + 1, hs => cases hs
 ·match j, hf with
  | 0, hf =>
   obtain rfl := Option.some.inj hf
   refine ⟨by kernel_rfl, fun k c hc => ?_⟩
   match k, hc with
   | 0, hc =>
    obtain rfl := Option.some.inj hc
    have e : stdB (prP l4 cv vo) ⟨-1, 0, 0, 1, 0, l4⟩ ((0 : Nat) : Int) ⟨66, 0, 5⟩ = true := by kernel_rfl
    exact e
   | 1, hc =>
    obtain rfl := Option.some.inj hc
    have e : stdB (prP l4 cv vo) ⟨-1, 0, 0, 1, 0, l4⟩ ((1 : Nat) : Int) ⟨13, 0, 0⟩ = true := by kernel_rfl
    exact e
   | 2, hc =>
    obtain rfl := Option.some.inj hc
    have e : stdB (prP l4 cv vo) ⟨-1, 0, 0, 1, 0, l4⟩ ((2 : Nat) : Int) ⟨66, 0, 1⟩ = true := by kernel_rfl
    exact e
   | 3, hc =>
    obtain rfl := Option.some.inj hc
    have e : stdB (prP l4 cv vo) ⟨-1, 0, 0, 1, 0, l4⟩ ((3 : Nat) : Int) ⟨15, 0, 0⟩ = true := by kernel_rfl
    exact e
   | k + 4, hc => cases hc
  | j + 1, hf => cases hf
theorem aw_h (cv vo : Value) : htF (prP l4 cv vo) 0 = some [0, 1, 0, 1] := by
 have h : wkF (prP l4 cv vo) ⟨-1, 0, 0, 1, 0, l4⟩ = (([0, 1, 0, 1], []), true) := by kernel_rfl
 unfold htF
 rw [if_pos ⟨aw_chk cv vo, by decide⟩]
 have e : (prP l4 cv vo).fs[(0 : Int).toNat]? = some ⟨⟨-1, 0, 0, 1, 0, l4⟩, cv, .slice none 0 0⟩ := rfl
 rw [e]
 dsimp only
 rw [if_neg (by unfold l4; simp), h, if_pos rfl]
theorem aw_n (cv vo : Value) : htF (prP l2 cv vo) 0 = none := by
 have h : (wkF (prP l2 cv vo) ⟨-1, 0, 0, 1, 0, l2⟩).2 = false := by kernel_rfl
 unfold htF
 split
 ·have e : (prP l2 cv vo).fs[(0 : Int).toNat]? = some ⟨⟨-1, 0, 0, 1, 0, l2⟩, cv, .slice none 0 0⟩ := rfl
  rw [e]
  dsimp only
  rw [if_neg (by unfold l2; simp), h, if_neg (by decide)]
 ·rfl
theorem aw_e (cv vo : Value) : teF (prP l4 cv vo) 0 ⟨27, 0, 0⟩ = (3, 1) := by
 unfold teF
 rw [if_pos ⟨aw_chk cv vo, by decide⟩]
 have e : (prP l4 cv vo).fs[(0 : Int).toNat]? = some ⟨⟨-1, 0, 0, 1, 0, l4⟩, cv, .slice none 0 0⟩ := rfl
 rw [e]
 dsimp only
 have h : effF (prP l4 cv vo) 1 ⟨27, 0, 0⟩ = (3, 1) := by kernel_rfl
 exact h
theorem aw_0 (cv vo : Value) : ¬ ChkP (prP [] cv vo) := fun h => by
 have h1 := (h.2 0 _ rfl).1
 have h2 : whlB (prP [] cv vo) ⟨-1, 0, 0, 1, 0, []⟩ = false := by kernel_rfl
 exact absurd (h1.symm.trans h2) (by decide)
set_option maxRecDepth 100000 in
set_option maxHeartbeats 8000000 in
theorem awake_any (w : World) : Calls Try.prog 7 #[] w fun e w' => e = .returned (.bool true) ∧ Gr w w' := by
 go_enter Try.func7, Try.ntmps7
 go_upto_region 1 with fail
 refine wp_region_lit ?_
 refine wpList_build_at rfl 47 _ rfl #[.int .i64 66, .int .i64 0, .int .u64 5] (by kernel_rfl) ?_
 refine wpList_build_at rfl 47 _ rfl #[.int .i64 13, .int .i64 0, .int .u64 0] (by kernel_rfl) ?_
 refine wpList_build_at rfl 47 _ rfl #[.int .i64 66, .int .i64 0, .int .u64 1] (by kernel_rfl) ?_
 refine wpList_build_at rfl 47 _ rfl #[.int .i64 15, .int .i64 0, .int .u64 0] (by kernel_rfl) ?_
 go_wp2_with fail
 refine prog_any.mono ?_
 rintro e w1 ⟨b1, b2, b3, rfl, hg1, hb1, hb2, hb3⟩
 have HA := Lib.hid ((Gr.refl w).alloc #[.int .i64 66, .int .i64 0, .int .u64 5, .int .i64 13, .int .i64 0, .int .u64 0, .int .i64 66, .int .i64 0, .int .u64 1, .int .i64 15, .int .i64 0, .int .u64 0] 47)
 have hrw := gr_block hg1 (heap_alloc_new w (.cells #[.int .i64 66, .int .i64 0, .int .u64 5, .int .i64 13, .int .i64 0, .int .u64 0, .int .i64 66, .int .i64 0, .int .u64 1, .int .i64 15, .int .i64 0, .int .u64 0] 47))
 have HPR := Lib.hid (pr_hid (prP_ok (l := l4) rfl (by decide) ⟨_, _, rfl, fun j u hu => ⟨w.heap.size, 0, rfl, by rw [Nat.zero_add, cell_of_row _ _ j _ _ _ hrw, ← Array.getElem?_toList]; exact hu⟩⟩ l4_ok hb1 hb2 hb3))
 have HG1 := Lib.hid (gr_trans HA.out hg1)
 clear hg1 hrw hb1 hb2 hb3
 generalize hcv : (Value.slice (some ⟨w.heap.size, 0, none⟩) 4 4) = cv1 at *
 go_upto_region 2 with (refine wpList_store_row rfl 34 _ _ rfl w1.heap.size #[.slice (some ⟨b2, 0, none⟩) 1 1, .slice (some ⟨b3, 0, none⟩) 1 1] rfl rfl 34 #[.slice none 0 0, .slice none 0 0] (heap_alloc_new w1 _) infoPr rfl (by kernel_rfl) ?_)
 have hsep := Sep.setRow (ex := fun q => q = w1.heap.size) (w1.alloc (.cells #[.slice none 0 0, .slice none 0 0] 34)) rfl #[.slice (some ⟨b2, 0, none⟩) 1 1, .slice (some ⟨b3, 0, none⟩) 1 1]
 have hgr2 := Sep.toGr ((Gr.refl w1).alloc #[.slice none 0 0, .slice none 0 0] 34) hsep (fun q hq => by have e' : q = w1.heap.size := hq; omega)
 have hbk := setRow_block (c := #[.slice (some ⟨b2, 0, none⟩) 1 1, .slice (some ⟨b3, 0, none⟩) 1 1]) (heap_alloc_new w1 (.cells #[.slice none 0 0, .slice none 0 0] 34))
 have HS2 := Lib.hid hgr2
 have HBK := Lib.hid hbk
 clear hsep hgr2 hbk
 generalize (w1.alloc (.cells #[.slice none 0 0, .slice none 0 0] 34)).setRow w1.heap.size #[.slice (some ⟨b2, 0, none⟩) 1 1, .slice (some ⟨b3, 0, none⟩) 1 1] = w2 at *
 generalize hgq : w1.heap.size = gq at *
 obtain ⟨q0, q1⟩ := cells2 HBK.out
 go_wp2_with fail
 clear q0 q1
 refine (heights_any (HPR.out _ HS2.out) (prP_sm (by decide)) 0).mono ?_
 rintro e w3 (⟨h, _⟩ | ⟨hs, hv, h, rfl, ho, hg3⟩)
 ·rw [aw_h] at h; cases h
 rw [aw_h] at h
 obtain rfl := Option.some.inj h
 obtain ⟨xh, ch, rfl⟩ := own_slice ho
 have HG3 := Lib.hid hg3
 have HOW := Lib.hid ho
 clear h ho hg3
 go_upto_region 3 with fail
 refine wp_region_lit ?_
 refine wpList_build_at rfl 47 _ rfl #[.int .i64 26, .int .i64 0, .int .u64 0] (by kernel_rfl) ?_
 refine wpList_build_at rfl 47 _ rfl #[.int .i64 15, .int .i64 0, .int .u64 0] (by kernel_rfl) ?_
 go_wp2_with fail
 refine prog_any.mono ?_
 rintro e w4 ⟨b4, b5, b6, rfl, hg4, hb4, hb5, hb6⟩
 have HA3 := Lib.hid ((Gr.refl w3).alloc #[.int .i64 26, .int .i64 0, .int .u64 0, .int .i64 15, .int .i64 0, .int .u64 0] 47)
 have hrw := gr_block hg4 (heap_alloc_new w3 (.cells #[.int .i64 26, .int .i64 0, .int .u64 0, .int .i64 15, .int .i64 0, .int .u64 0] 47))
 have HPR4 := Lib.hid (pr_hid (prP_ok (l := l2) rfl (by decide) ⟨_, _, rfl, fun j u hu => ⟨w3.heap.size, 0, rfl, by rw [Nat.zero_add, cell_of_row _ _ j _ _ _ hrw, ← Array.getElem?_toList]; exact hu⟩⟩ l2_ok hb4 hb5 hb6))
 have HG4 := Lib.hid (gr_trans HG3.out (gr_trans HA3.out hg4))
 have HG44 := Lib.hid hg4
 clear hg4 hrw hb4 hb5 hb6
 go_wp2_with fail
 refine (heights_any (HPR4.out _ (Gr.refl _)) (prP_sm (by decide)) 0).mono ?_
 rintro e w5 (⟨hn, rfl, hg5⟩ | ⟨hs, hv, h, _⟩)
 case inr => rw [aw_n] at h; cases h
 have HG5 := Lib.hid (gr_trans HG4.out hg5)
 have HG35 := Lib.hid (gr_trans (gr_trans HA3.out HG44.out) hg5)
 obtain ⟨q0, q1⟩ := cells2 (gr_block (gr_trans HG4.out hg5) HBK.out)
 clear hn hg5
 go_wp2_with (refine wpList_build_at rfl 47 _ rfl #[.int .i64 27, .int .i64 0, .int .u64 0] (by kernel_rfl) ?_)
 clear q0 q1
 refine (teff_any (HPR.out _ (gr_trans HS2.out HG5.out)) 0 (c := ⟨27, 0, 0⟩) ⟨⟨by decide, by decide⟩, ⟨by decide, by decide⟩, by decide, by decide⟩).mono ?_
 rintro e w6 ⟨rfl, hg6⟩
 rw [aw_e]
 have HG6 := Lib.hid (gr_trans HG5.out hg6)
 have HH6 := Lib.hid (fun wx (hg : Gr w6 wx) => rwR_gr (own_rw HOW.out) (gr_trans HG35.out (gr_trans hg6 hg)))
 clear hg6
 dsimp only
 go_wp2_with fail
 have hlit : RwR (w6.alloc (.cells #[.int .i64 0, .int .i64 1, .int .i64 0, .int .i64 1] 3)) (.slice (some ⟨w6.heap.size, 0, none⟩) 4 4) 4 (ivs [0, 1, 0, 1]) := ⟨_, _, rfl, fun j u hu => ⟨w6.heap.size, 0, rfl, by rw [Nat.zero_add, cell_of_row _ _ j _ _ _ (heap_alloc_new w6 _), ← Array.getElem?_toList]; exact hu⟩⟩
 have HGL := Lib.hid ((Gr.refl w6).alloc #[.int .i64 0, .int .i64 1, .int .i64 0, .int .i64 1] 3)
 refine (ints_any (l := [0, 1, 0, 1]) (HH6.out _ HGL.out) hlit (by decide)).mono ?_
 rintro e w7 ⟨rfl, hg7⟩
 have HG7 := Lib.hid (gr_trans HG6.out (gr_trans HGL.out hg7))
 clear hg7 hlit
 go_wp2_with fail
 refine (tscalar_any 106 (by decide) _).mono ?_
 rintro e w8 ⟨rfl, rfl⟩
 rw [show sclB 106 = true by kernel_rfl]
 go_wp2_with fail
 refine (tscalar_any 64768 (by decide) _).mono ?_
 rintro e w8 ⟨rfl, rfl⟩
 rw [show sclB 64768 = false by kernel_rfl]
 obtain ⟨q0, q1⟩ := cells2 (gr_block HG7.out HBK.out)
 go_wp2_with fail
 clear q0 q1
 refine (check_any (HPR.out _ (gr_trans HS2.out HG7.out))).mono ?_
 rintro e w8 ⟨rfl, hg8⟩
 rw [chk_yes (aw_chk _ _)]
 have HG8 := Lib.hid (gr_trans HG7.out hg8)
 clear hg8
 go_wp2_with fail
 refine prog_any.mono ?_
 rintro e w9 ⟨b7, b8, b9, rfl, hg9, hb7, hb8, hb9⟩
 have HPR9 := Lib.hid (prP_ok (l := []) rfl (by decide) ⟨none, 0, rfl, fun j u hu => by cases hu⟩ (fun c hc => by cases hc) hb7 hb8 hb9)
 have HG9 := Lib.hid (gr_trans HG8.out hg9)
 clear hg9 hb7 hb8 hb9
 go_wp2_with fail
 refine (check_any HPR9.out).mono ?_
 rintro e w10 ⟨rfl, hg10⟩
 rw [chk_no (aw_0 _ _)]
 have HG10 := Lib.hid (gr_trans HG9.out hg10)
 clear hg10
 go_wp2
 go_ret
 exact ⟨rfl, gr_trans HG1.out (gr_trans HS2.out HG10.out)⟩
end Tg
end Go.Proofs.Ytifjgocfdnhdeaa
/- TgP -/
namespace Go.Proofs.Ytifjgocfdnhdeaa
open Go.RowKit
namespace Tg
open Ins
structure Same (P P' : Pr) : Prop where
 fs : P.fs.map (·.f) = P'.fs.map (·.f)
 ss : P.ss.map (·.s) = P'.ss.map (·.s)
theorem Same.symm {P P' : Pr} (h : Same P P') : Same P' P := ⟨h.fs.symm, h.ss.symm⟩
theorem Same.lf {P P' : Pr} (h : Same P P') : P.fs.length = P'.fs.length := by
 have := congrArg List.length h.fs
 rwa [List.length_map, List.length_map] at this
theorem Same.ls {P P' : Pr} (h : Same P P') : P.ss.length = P'.ss.length := by
 have := congrArg List.length h.ss
 rwa [List.length_map, List.length_map] at this
theorem Same.f {P P' : Pr} (h : Same P P') (k : Nat) : P.fs[k]?.map (·.f) = P'.fs[k]?.map (·.f) := by
 have := congrArg (·[k]?) h.fs
 simpa only [List.getElem?_map] using this
theorem Same.s {P P' : Pr} (h : Same P P') (k : Nat) : P.ss[k]?.map (·.s) = P'.ss[k]?.map (·.s) := by
 have := congrArg (·[k]?) h.ss
 simpa only [List.getElem?_map] using this
theorem own_rwz {w : World} {b : Nat} {e : TypeId} {z : Nat} {v : Value} {n : Nat} {xs : List Value} (h : w.ownsRow b e z v n xs) : RwR w v n xs := by
 obtain ⟨x, c, rfl⟩ := own_slice h
 refine ⟨x, c, rfl, fun j u hu => ?_⟩
 have hj := (List.getElem?_eq_some_iff.1 hu).1
 rw [h.1] at hj
 have hn : 0 < n := by
  rcases Nat.eq_zero_or_pos n with h0 | h0
  ·subst h0; rw [Nat.zero_mul] at hj; omega
  ·exact h0
 obtain ⟨g, c', e1, _, _, _, _⟩ := own_some h hn
 obtain rfl := (Value.slice.inj e1).1
 exact ⟨g, 0, rfl, by rw [Nat.zero_add, h.cellAt j hj]; exact hu⟩
theorem src_rw {w : World} {v : Value} {n : Nat} {xs : List Value} (h : RwR w v n xs) (hn : 0 < xs.length) : ∃ ad c, v = .slice (some ad) n c ∧ ∀ j u, xs[j]? = some u → w.cell? (ad.add j) = some u := by
 obtain ⟨x, c, rfl, hc⟩ := h
 obtain ⟨b, off, rfl, _⟩ := hc 0 _ (List.getElem?_eq_getElem hn)
 refine ⟨_, c, rfl, fun j u hu => ?_⟩
 obtain ⟨b', off', e, hcell⟩ := hc j u hu
 obtain ⟨rfl, rfl⟩ : b = b' ∧ off = off' := by simpa using e
 rw [add_at]
 exact hcell
end Tg
end Go.Proofs.Ytifjgocfdnhdeaa
/- TgT -/
namespace Go.Proofs.Ytifjgocfdnhdeaa
open Go.RowKit
namespace Tg
open Ins
def nbL (j : Nat) (c : Ce) : List Int :=
 if c.op = 0 ∨ c.op = 15 then []
 else if c.op = 12 then [c.a]
 else if c.op = 13 then [c.a, (j : Int) + 1]
 else if c.op = 14 then (List.range (c.a.toNat + 1)).map fun k : Nat => (j : Int) + 1 + k
 else [(j : Int) + 1]
structure Came (hs td hs' td' S : List Int) (ht : Int) : Prop where
 len : hs'.length = hs.length
 keep : ∀ (j : Nat) x, hs[j]? = some x → x ≠ -1 → hs'[j]? = some x
 hit : ∀ a ∈ S, 0 ≤ a ∧ hs'[a.toNat]? = some ht
 new : ∀ (j : Nat) x, hs'[j]? = some x → x ≠ -1 → hs[j]? = some x ∨ ((j : Int) ∈ S ∧ (j : Int) ∈ td' ∧ x = ht)
 sub : ∀ t ∈ td, t ∈ td'
 mem : ∀ t ∈ td', t ∈ td ∨ t ∈ S
structure Wv (P : Pr) (out : Int) (l : List Ce) (hs td : List Int) : Prop where
 len : hs.length = l.length
 zero : hs[0]? = some 0
 val : ∀ (j : Nat) x, hs[j]? = some x → x = -1 ∨ 0 ≤ x
 mem : ∀ t ∈ td, 0 ≤ t ∧ ∃ x, hs[t.toNat]? = some x ∧ x ≠ -1
 done : ∀ (j : Nat) x, hs[j]? = some x → x ≠ -1 → (j : Int) ∈ td ∨ ∀ c, l[j]? = some c → (effF P out c).1 ≤ x ∧ ∀ k ∈ nbL j c, 0 ≤ k ∧ hs[k.toNat]? = some (x - (effF P out c).1 + (effF P out c).2)
 led : ∀ (j : Nat) x, hs[j]? = some x → x ≠ -1 → j = 0 ∨ ∃ (i : Nat) (c : Ce) (y : Int), hs[i]? = some y ∧ y ≠ -1 ∧ l[i]? = some c ∧ (j : Int) ∈ nbL i c
end Tg
end Go.Proofs.Ytifjgocfdnhdeaa
/- TgQ -/
namespace Go.Proofs.Ytifjgocfdnhdeaa
open Go.RowKit
namespace Tg
open Ins
theorem flat_one {α : Type} (g : α → Array Value) : ∀ l : List α, (∀ x ∈ l, ∀ u ∈ (g x).toList, u.oneCell' = true) → ∀ u ∈ flat g l, u.oneCell' = true
 | [], _, u, hu => by cases hu
 | x :: r, h, u, hu => by
  rcases List.mem_append.1 (show u ∈ (g x).toList ++ flat g r from hu) with h1 | h1
  ·exact h x List.mem_cons_self u h1
  ·exact flat_one g r (fun y hy => h y (List.mem_cons_of_mem _ hy)) u h1
theorem ce_one (c : Ce) : ∀ u ∈ (ceA c).toList, u.oneCell' = true := fun u hu => by
 simp only [ceA, List.mem_cons, List.not_mem_nil, or_false] at hu
 rcases hu with rfl | rfl | rfl <;> rfl
theorem fu_one {w : World} {f : FuV} (h : FuR w f) : ∀ u ∈ (fuA f).toList, u.oneCell' = true := fun u hu => by
 obtain ⟨x, c, e, _⟩ := h.cs
 obtain ⟨x', n', c', e'⟩ := h.mv
 simp only [fuA, e, e', List.mem_cons, List.not_mem_nil, or_false] at hu
 rcases hu with rfl | rfl | rfl | rfl | rfl | rfl | rfl <;> rfl
theorem flat_len {α : Type} (g : α → Array Value) (z : Nat) (hz : ∀ x, (g x).size = z) : ∀ l : List α, (flat g l).length = l.length * z
 | [] => by simp [flat]
 | x :: r => by rw [flat, List.length_append, flat_len g z hz r, Array.length_toList, hz, List.length_cons, Nat.add_mul, Nat.one_mul, Nat.add_comm]
theorem src_of_rw {w : World} {v : Value} {n : Nat} {xs : List Value} (h : RwR w v n xs) (hn : 0 < xs.length) : Src w v n xs := by
 obtain ⟨ad, c, rfl, hc⟩ := src_rw h hn
 exact .inr ⟨ad, c, rfl, hc⟩
theorem flat_set {α : Type} (g : α → Array Value) (z : Nat) (hz : ∀ x, (g x).size = z) (j : Nat) (u : Value) : ∀ (l : List α) (i : Nat) (x y : α), l[i]? = some x → j < z → (g y).toList = (g x).toList.set j u → (flat g l).set (i * z + j) u = flat g (l.set i y)
 | [], _, _, _, h, _, _ => by cases h
 | q :: r, 0, x, y, h, hj, e => by
  obtain rfl : q = x := Option.some.inj h
  show ((g q).toList ++ flat g r).set (0 * z + j) u = (g y).toList ++ flat g r
  rw [Nat.zero_mul, Nat.zero_add, List.set_append_left _ _ (by rw [Array.length_toList, hz]; exact hj), e]
 | q :: r, i + 1, x, y, h, hj, e => by
  show ((g q).toList ++ flat g r).set ((i + 1) * z + j) u = (g q).toList ++ flat g (r.set i y)
  rw [List.set_append_right _ _ (by rw [Array.length_toList, hz, Nat.add_mul]; omega), Array.length_toList, hz, show (i + 1) * z + j - z = i * z + j by rw [Nat.add_mul]; omega, flat_set g z hz j u r i x y h hj e]
end Tg
end Go.Proofs.Ytifjgocfdnhdeaa
