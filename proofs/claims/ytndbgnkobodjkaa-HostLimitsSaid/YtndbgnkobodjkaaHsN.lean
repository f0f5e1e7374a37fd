/-
  Of layer 16: a row cloned; a host as memory holds it; Waiting, Code, next.
-/
import Derived.Test.YtndbgnkobodjkaaHsM
import Derived.Laws.Cover3
namespace Go.Proofs.Ytndbgnkobodjkaa
open Go.RowKit VecM
namespace Hs
theorem run_eql_slice_nil {P : Program} (w : World) (t e : TypeId) (a : Option Addr) (l c : Nat) (h : P.underlying t = some (.slice e)) : (binOp .eql t (.slice a l c) (.slice none 0 0)).run P w = .ok (.bool a.isNone) w := by
  simp only [binOp]
  simp [run_equal_slice_nil w t e a l c h]
/-- a list of numbers in new memory -/
def NEWS (l : List Int) (w : World) (e : Ending) (w' : World) : Prop := ∃ sv, e = .returned sv ∧ Gr w w' ∧ w'.ownsRow w.heap.size 53 1 sv l.length (uvs l)
set_option maxHeartbeats 1000000 in
theorem clone_any {w : World} {v : Value} {l : List Int} (hl : l.length ≤ 1099511627776) (h : Ud w v l) : Calls Try.prog 24 #[v] w (NEWS l w) := by
  have HS := Lib.hid (src_of_d h)
  obtain ⟨i0, hi, hz0, hz1, hz2⟩ := info_parts info64
  have HI := Lib.hid hi
  have HZ0 := Lib.hid hz0
  have HZ1 := Lib.hid hz1
  have HZ2 := Lib.hid hz2
  clear hi hz0 hz1 hz2
  rcases h with ⟨rfl, rfl⟩ | ⟨b, off, cap, hc, hm, rfl, hcell⟩
  · clear HS
    have q : ∀ wx, (binOp .eql 22 (.slice none 0 0) (.slice none 0 0)).run Try.prog wx = .ok (.bool true) wx := fun wx => run_eql_slice_nil wx _ _ none 0 0 Try.underlying22
    go_enter Try.func24, Try.ntmps24
    go_wp2
    go_ret
    exact ⟨_, rfl, Gr.refl _, World.ownsRow_nil _ _ _ _⟩
  · clear hcell
    have HL := Lib.hid hl
    generalize hn : l.length = n at *
    have HN := Lib.hid hn
    clear hn
    have q : ∀ wx, (binOp .eql 22 (.slice (some ⟨b, off, none⟩) n cap) (.slice none 0 0)).run Try.prog wx = .ok (.bool false) wx := fun wx => run_eql_slice_nil wx _ _ _ _ _ Try.underlying22
    go_enter Try.func24, Try.ntmps24
    go_wp2_with (at_builtin; refine wpList_append_src rfl _ _ 22 rfl w.heap.size 53 i0 (.int .u64 0) 1 8 Try.underlying22 HI.out HZ0.out HZ1.out HZ2.out rfl (by decide) (.slice (some ⟨w.heap.size, 0, none⟩) 0 0) 0 [] rfl (World.ownsRow_made w #[] 0 (Nat.le_refl _) (by decide) rfl) (.slice (some ⟨b, off, none⟩) n cap) n (uvs l) rfl (src_gr HS.out ((Gr.refl w).allocO _)) (by rw [uvs_len, HN.out, Nat.mul_one]) (uvs_one l) ?c3 ?c4 ?c5 ?_)
    case c3 => have := HL.out; unfold maxLen; omega
    case c4 => have := HL.out; omega
    case c5 => simp
    intro v2 w2 hown2 hgb2
    have HG2 := Lib.hid (((Gr.refl w).allocO _).grown hgb2 (fun q hq => by simp [Value.ownBlock] at hq; omega))
    have HO2 := Lib.hid (show w2.ownsRow w.heap.size 53 1 v2 n (uvs l) by simpa using hown2)
    clear hown2 hgb2
    go_wp2
    go_ret
    exact ⟨_, rfl, HG2.out, by rw [HN.out]; exact HO2.out⟩
/-- a host at h: its own blocks M, those that it reads alone F -/
def Hst (w : World) (h : Nat) (M F : Nat → Prop) (s : Ho) : Prop :=
  ∃ rv lv L, w.heap[h]? = some (.cells #[rv, lv, .int .u32 s.C] 64 (0, 0)) ∧ Ud w rv s.R ∧ InB F rv ∧ w.ownsRow 0 55 2 lv L.length (evV L) ∧ Evs w F L s.E ∧
    M h ∧ InB (fun k => M k ∧ k ≠ h) lv ∧ (∀ k, M k → k < w.heap.size ∧ ¬ F k) ∧ ∀ k, F k → k < w.heap.size
theorem hst_sep {ex : Nat → Prop} {w w' : World} {h : Nat} {M F : Nat → Prop} {s : Ho} (hh : Hst w h M F s) (hs : Sep ex w w') (hx : ∀ k, M k ∨ F k → ¬ ex k) : Hst w' h M F s := by
  obtain ⟨rv, lv, L, h1, h2, h3, h4, h5, h6, h7, h8, h9⟩ := hh
  exact ⟨rv, lv, L, hs.at_ (hx h (.inl h6)) h1, ud_sep h2 hs (fun k hk => hx k (.inr (h3 k hk))), h3, hs.owns h4 (fun k hk => hx k (.inl (h7 k hk).1)), evs_sep h5 hs (fun k hk => hx k (.inr hk)), h6, h7,
    fun k hk => ⟨Nat.lt_of_lt_of_le (h8 k hk).1 hs.size, (h8 k hk).2⟩, fun k hk => Nat.lt_of_lt_of_le (h9 k hk) hs.size⟩
theorem hst_gr {w w' : World} {h : Nat} {M F : Nat → Prop} {s : Ho} (hh : Hst w h M F s) (hg : Gr w w') : Hst w' h M F s := hst_sep (ex := fun _ => False) hh (Sep.of_gr hg) (fun _ _ h => h)
theorem cells3 {w : World} {g : Nat} {a b c : Value} {t : TypeId} {z : Nat × Nat} (h : w.heap[g]? = some (.cells #[a, b, c] t z)) : w.cell? ⟨g, 0, none⟩ = some a ∧ w.cell? ⟨g, 1, none⟩ = some b ∧ w.cell? ⟨g, 2, none⟩ = some c :=
  ⟨(cell_of_row _ _ 0 _ _ _ h).trans rfl, (cell_of_row _ _ 1 _ _ _ h).trans rfl, (cell_of_row _ _ 2 _ _ _ h).trans rfl⟩
theorem ud_slice {w : World} {v : Value} {l : List Int} (h : Ud w v l) : ∃ x c, v = .slice x l.length c := by
  rcases h with ⟨rfl, rfl⟩ | ⟨b, off, cap, _, _, rfl, _⟩
  · exact ⟨_, _, rfl⟩
  · exact ⟨_, _, rfl⟩
theorem waiting_any {w : World} {h : Nat} {M F : Nat → Prop} {s : Ho} (hh : Hst w h M F s) : Calls Try.prog 17 #[.pointer (some ⟨h, 0, none⟩)] w fun e w' => e = .returned (.int .i64 s.R.length) ∧ w = w' := by
  obtain ⟨rv, lv, L, h1, h2, _⟩ := hh
  obtain ⟨a1, _⟩ := cells3 h1
  obtain ⟨x, c, rfl⟩ := ud_slice h2
  clear h1 h2
  go_enter Try.func17, Try.ntmps17
  go_wp2
  go_ret
  exact ⟨rfl, rfl⟩
theorem code_any {w : World} {h : Nat} {M F : Nat → Prop} {s : Ho} (hh : Hst w h M F s) : Calls Try.prog 19 #[.pointer (some ⟨h, 0, none⟩)] w fun e w' => e = .returned (.int .u32 s.C) ∧ w = w' := by
  obtain ⟨rv, lv, L, h1, _⟩ := hh
  obtain ⟨_, _, a1⟩ := cells3 h1
  clear h1
  go_enter Try.func19, Try.ntmps19
  go_wp2
  go_ret
  exact ⟨rfl, rfl⟩
theorem waiting_nil (w : World) : Calls Try.prog 17 #[.pointer none] w fun e w' => e = .returned (.int .i64 0) ∧ w = w' := by
  go_enter Try.func17, Try.ntmps17
  go_wp2
  go_ret
  exact ⟨rfl, rfl⟩
theorem code_nil (w : World) : Calls Try.prog 19 #[.pointer none] w fun e w' => e = .returned (.int .u32 0) ∧ w = w' := by
  go_enter Try.func19, Try.ntmps19
  go_wp2
  go_ret
  exact ⟨rfl, rfl⟩
theorem setCell_cell {w : World} {g : Nat} {cs : Array Value} {t : TypeId} {z : Nat × Nat} (h : w.heap[g]? = some (.cells cs t z)) (o : Nat) (u : Value) : (w.setCell ⟨g, o, none⟩ u).heap[g]? = some (.cells (cs.setIfInBounds o u) t z) := by
  simp only [World.setCell, Array.getElem?_modify, if_true, h]; rfl
theorem froz {w : World} {g : Nat} {cs : Array Value} {t : TypeId} {z : Nat} (h : w.heap[g]? = some (.cells cs t (z, 0))) (o : Nat) : w.frozen? ⟨g, o, none⟩ = false := by
  simp [World.frozen?, h]
theorem set3 (a b c u : Value) : (#[a, b, c].setIfInBounds 0 u = #[u, b, c]) ∧ (#[a, b, c].setIfInBounds 1 u = #[a, u, c]) ∧ (#[a, b, c].setIfInBounds 2 u = #[a, b, u]) := ⟨rfl, rfl, rfl⟩
/-- the host's fields anew -/
theorem hst_put {w : World} {h : Nat} {M F : Nat → Prop} {s s' : Ho} {rv lv u : Value} {L : List (Int × Value)} {o : Nat} {cs : Array Value} (hh : Hst w h M F s) (h1 : w.heap[h]? = some (.cells cs 64 (0, 0))) (ho : cs.setIfInBounds o u = #[rv, lv, .int .u32 s'.C])
    (h2 : Ud w rv s'.R) (h3 : InB F rv) (h4 : w.ownsRow 0 55 2 lv L.length (evV L)) (h5 : Evs w F L s'.E) (h7 : InB (fun k => M k ∧ k ≠ h) lv) : Hst (w.setCell ⟨h, o, none⟩ u) h M F s' ∧ Sep (fun k => k = h) w (w.setCell ⟨h, o, none⟩ u) := by
  obtain ⟨_, _, _, _, _, _, _, _, h6, _, h8, h9⟩ := hh
  have hs : Sep (fun k => k = h) w (w.setCell ⟨h, o, none⟩ u) := Sep.setCell (ex := fun k => k = h) w (p := ⟨h, o, none⟩) rfl u
  have hFh : ∀ k, F k → ¬ k = h := fun k hk e => (h8 h h6).2 (e ▸ hk)
  refine ⟨⟨rv, lv, L, by rw [← ho]; exact setCell_cell h1 o u, ud_sep h2 hs (fun k hk => hFh k (h3 k hk)), h3, hs.owns h4 (fun k hk => (h7 k hk).2), evs_sep h5 hs hFh, h6, h7, fun k hk => ⟨Nat.lt_of_lt_of_le (h8 k hk).1 hs.size, (h8 k hk).2⟩, fun k hk => Nat.lt_of_lt_of_le (h9 k hk) hs.size⟩, hs⟩
def hdI (l : List Int) : Int := l.headD 0
theorem ud_tail {w : World} {b off cap : Nat} {x : Int} {l : List Int} (hc : (x :: l).length ≤ cap) (hm : (x :: l).length ≤ 9223372036854775807) (h : ∀ j, j < (x :: l).length → w.cell? ⟨b, off + j, none⟩ = some (.int .u64 ((x :: l).getD j 0))) : Ud w (.slice (some ⟨b, off + 1, none⟩) l.length (cap - 1)) l := by
  simp only [List.length_cons] at hc hm h
  refine .inr ⟨b, off + 1, cap - 1, by omega, by omega, rfl, fun j hj => ?_⟩
  have := h (j + 1) (by omega)
  rw [show off + 1 + j = off + (j + 1) by omega, this]
  simp
set_option maxHeartbeats 1000000 in
theorem next_any {w : World} {h : Nat} {M F : Nat → Prop} {s : Ho} (hh : Hst w h M F s) :
    Calls Try.prog 38 #[.pointer (some ⟨h, 0, none⟩)] w fun e w' => e = .returned (.int .u64 (hdI s.R)) ∧ Hst w' h M F ⟨s.R.tail, s.E, s.C⟩ ∧ Sep (fun k => k = h) w w' := by
  have HH := Lib.hid hh
  obtain ⟨rv, lv, L, h1, h2, h3, h4, h5, h6, h7, h8, h9⟩ := hh
  obtain ⟨a1, _, _⟩ := cells3 h1
  obtain ⟨R, E, C⟩ := s
  rcases R with _ | ⟨x, l⟩
  · obtain ⟨x, c, rfl⟩ := ud_slice h2
    clear h1 h2 h3 h4 h5 h7 h8 h9
    go_enter Try.func38, Try.ntmps38
    go_wp2
    go_ret
    exact ⟨rfl, HH.out, Sep.refl _⟩
  · rcases h2 with ⟨_, h2⟩ | ⟨b, off, cap, hc, hm, rfl, hcell⟩
    · cases h2
    have hx := hcell 0 (by simp)
    simp only [Nat.add_zero, List.getD_cons_zero] at hx
    have HF := froz h1 0
    have t1 : (1 : Int) ≤ ((l.length + 1 : Nat) : Int) := by omega
    have t2 : ((l.length + 1 : Nat) : Int) ≤ (cap : Int) := by simp only [List.length_cons] at hc; omega
    by_cases hc1 : cap = 1
    · subst hc1
      have hl : l = [] := List.eq_nil_of_length_eq_zero (by simp only [List.length_cons] at hc; omega)
      subst hl
      have HP := Lib.hid (hst_put (s' := ⟨[], E, C⟩) (o := 0) (u := .slice (some ⟨b, off, none⟩) 0 0) HH.out h1 (set3 _ _ _ _).1 (.inr ⟨b, off, 0, by simp, by simp, rfl, fun j hj => by simp at hj⟩) (fun k hk => h3 k (by simpa [Value.ownBlock] using hk)) h4 h5 h7)
      clear h1 hcell h3 h4 h5 h7 h8 h9 hc
      go_enter Try.func38, Try.ntmps38
      go_wp2
      go_ret
      exact ⟨rfl, HP.out.1, HP.out.2⟩
    · have HT := Lib.hid (ud_tail hc hm hcell)
      have HP := Lib.hid (hst_put (s' := ⟨l, E, C⟩) (o := 0) (u := .slice (some ⟨b, off + 1, none⟩) l.length (cap - 1)) HH.out h1 (set3 _ _ _ _).1 HT.out (fun k hk => h3 k (by simpa [Value.ownBlock] using hk)) h4 h5 h7)
      clear h1 hcell h3 h4 h5 h7 h8 h9 hc
      go_enter Try.func38, Try.ntmps38
      go_wp2
      go_ret
      exact ⟨rfl, HP.out.1, HP.out.2⟩
end Hs
end Go.Proofs.Ytndbgnkobodjkaa
