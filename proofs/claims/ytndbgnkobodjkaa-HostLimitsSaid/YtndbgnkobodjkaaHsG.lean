/-
  Of layer 16: Log and Clone: all in new memory.
-/
import Derived.Test.YtndbgnkobodjkaaHsR
import Derived.Test.YtndbgnkobodjkaaApA
namespace Go.Proofs.Ytndbgnkobodjkaa
open Go.RowKit VecM
namespace Hs
theorem info55 : (Try.prog.info? 55).map (fun i => (i.zero, i.size, i.bytes)) = some (some (.agg #[.int .i64 0, .slice none 0 0]), 2, 32) := by kernel_rfl
theorem infoEv : (Try.prog.info? 55).map (·.size) = some 2 := by kernel_rfl
/-- events whose arguments are rows of the call's own -/
def Evo (w : World) (base : Nat) (L : List (Int × Value)) (E : List (Int × List Int)) : Prop :=
  L.length = E.length ∧ ∀ (j : Nat) (p : Int × Value) (q : Int × List Int), L[j]? = some p → E[j]? = some q → p.1 = q.1 ∧ w.ownsRow base 53 1 p.2 q.2.length (uvs q.2)
theorem own_type {w : World} {base g : Nat} {e t : TypeId} {s : Nat} {v : Value} {n : Nat} {xs : List Value} {c : Array Value} {z : Nat × Nat} (h : w.ownsRow base e s v n xs) (hg : w.heap[g]? = some (.cells c t z)) (hne : e ≠ t) : ∀ k, v.ownBlock = some k → k ≠ g := by
  rcases h.2 with ⟨rfl, _⟩ | ⟨g', cap, cur, rfl, hb, hg', _⟩
  · intro k hk
    cases hk
  · intro k hk e'
    obtain rfl : g' = k := by injection hk
    subst e'
    rw [hg'] at hg
    injection hg with hg
    injection hg with _ h2 _
    exact hne h2
theorem own_row {w : World} {base : Nat} {e : TypeId} {s : Nat} {v : Value} {n : Nat} {xs : List Value} (h : w.ownsRow base e s v n xs) : ∀ k, v.ownBlock = some k → base ≤ k ∧ ∃ c z, w.heap[k]? = some (.cells c e z) := by
  rcases h.2 with ⟨rfl, _⟩ | ⟨g', cap, cur, rfl, hb, hg', _⟩
  · intro k hk
    cases hk
  · intro k hk
    obtain rfl : g' = k := by injection hk
    exact ⟨hb, _, _, hg'⟩
/-- rows of unlike types lie apart -/
theorem own_apart {w : World} {b1 b2 : Nat} {e1 e2 : TypeId} {s1 s2 : Nat} {v1 v2 : Value} {n1 n2 : Nat} {x1 x2 : List Value} (h1 : w.ownsRow b1 e1 s1 v1 n1 x1) (h2 : w.ownsRow b2 e2 s2 v2 n2 x2) (hne : e1 ≠ e2) : ∀ k, v1.ownBlock = some k → ¬ v2.ownBlock = some k := fun k hk hk2 => by
  obtain ⟨_, c, z, hg⟩ := own_row h2 k hk2
  exact own_type h1 hg hne k hk rfl
theorem evo_sep {ex : Nat → Prop} {w w' : World} {base : Nat} {L : List (Int × Value)} {E : List (Int × List Int)} (h : Evo w base L E) (hs : Sep ex w w') (hx : ∀ k c z, ex k → w.heap[k]? ≠ some (.cells c 53 z)) : Evo w' base L E :=
  ⟨h.1, fun j p q hp hq => ⟨(h.2 j p q hp hq).1, hs.owns (h.2 j p q hp hq).2 fun k hk hxk => by
    obtain ⟨_, c, z, hg⟩ := own_row (h.2 j p q hp hq).2 k hk
    exact hx k c z hxk hg⟩⟩
theorem evo_gr {w w' : World} {base : Nat} {L : List (Int × Value)} {E : List (Int × List Int)} (h : Evo w base L E) (hg : Gr w w') : Evo w' base L E :=
  ⟨h.1, fun j p q hp hq => ⟨(h.2 j p q hp hq).1, owns_gr (h.2 j p q hp hq).2 hg⟩⟩
theorem evo_nil (w : World) (base : Nat) : Evo w base [] [] := ⟨rfl, fun j p q h => by simp at h⟩
theorem evo_base {w : World} {b b' : Nat} {L : List (Int × Value)} {E : List (Int × List Int)} (h : Evo w b L E) (hb : b' ≤ b) : Evo w b' L E :=
  ⟨h.1, fun j p q hp hq => ⟨(h.2 j p q hp hq).1, owns_base (h.2 j p q hp hq).2 hb⟩⟩
theorem evo_app {w : World} {base : Nat} {L : List (Int × Value)} {E : List (Int × List Int)} {f : Int} {v : Value} {l : List Int} (h : Evo w base L E) (hu : w.ownsRow base 53 1 v l.length (uvs l)) : Evo w base (L ++ [(f, v)]) (E ++ [(f, l)]) := by
  refine ⟨by simp [h.1], fun j p q hp hq => ?_⟩
  by_cases hj : j < L.length
  · rw [List.getElem?_append_left hj] at hp
    rw [List.getElem?_append_left (by rw [← h.1]; exact hj)] at hq
    exact h.2 j p q hp hq
  · have hjl : j < L.length + 1 := by
      have := (List.getElem?_eq_some_iff.1 hp).1
      simpa using this
    obtain rfl : j = L.length := by omega
    rw [List.getElem?_append_right (Nat.le_refl _), Nat.sub_self] at hp
    rw [List.getElem?_append_right (by rw [h.1]; exact Nat.le_refl _), h.1, Nat.sub_self] at hq
    obtain rfl : (f, v) = p := by simpa using hp
    obtain rfl : (f, l) = q := by simpa using hq
    exact ⟨rfl, hu⟩
/-- events in new memory -/
def LOGS (E : List (Int × List Int)) (w : World) (e : Ending) (w' : World) : Prop := ∃ sv L, e = .returned sv ∧ Gr w w' ∧ w'.ownsRow w.heap.size 55 2 sv L.length (evV L) ∧ Evo w' w.heap.size L E
theorem log_nil (w : World) : Calls Try.prog 15 #[.pointer none] w fun e w' => e = .returned (.slice none 0 0) ∧ w = w' := by
  go_enter Try.func15, Try.ntmps15
  go_wp2
  go_ret
  exact ⟨rfl, rfl⟩
theorem bld55 (f : Int) (x : Option Addr) (n c : Nat) : Try.prog.built 55 [(0, .int .i64 f), (1, .slice x n c)] = some #[.int .i64 f, .slice x n c] := by kernel_rfl
theorem take_next {E : List (Int × List Int)} {k : Nat} {q : Int × List Int} (h : E[k]? = some q) : E.take (k + 1) = E.take k ++ [q] := by
  rw [List.take_add_one, h]; rfl
set_option maxRecDepth 100000 in
set_option maxHeartbeats 4000000 in
theorem log_any {w : World} {h : Nat} {M F : Nat → Prop} {s : Ho} (hlE : s.E.length ≤ 1024) (hlA : ∀ q ∈ s.E, q.2.length ≤ 1099511627776) (hh : Hst w h M F s) : Calls Try.prog 15 #[.pointer (some ⟨h, 0, none⟩)] w (LOGS s.E w) := by
  obtain ⟨rv, lv, L, h1, h2, h3, h4, h5, h6, h7, h8, h9⟩ := hh
  obtain ⟨R, E, C⟩ := s
  have HLE := Lib.hid (show L.length ≤ 1024 by rw [h5.1]; exact hlE)
  have HLL := Lib.hid h5.1
  have HA := Lib.hid hlA
  have HE := Lib.hid (fun (wx : World) (hg : Gr w wx) => evs_gr h5 hg)
  have HB1 := Lib.hid h1
  obtain ⟨i0, hi, hz0, hz1, hz2⟩ := info_parts info55
  have HI := Lib.hid hi
  have HZ0 := Lib.hid hz0
  have HZ1 := Lib.hid hz1
  have HZ2 := Lib.hid hz2
  have HO := Lib.hid (fun (wx : World) (hg : Gr w wx) => owns_gr h4 hg)
  have a1 := (cells3 h1).2.1
  rcases h4.2 with ⟨rfl, hn⟩ | ⟨g, cap, cur, rfl, _⟩
  · have hL : L = [] := List.eq_nil_of_length_eq_zero hn
    subst hL
    have hE : E = [] := List.eq_nil_of_length_eq_zero h5.1.symm
    subst hE
    clear h1 h2 h3 h4 h5 h7 h8 h9 hi hz0 hz1 hz2 hlA hlE
    go_enter Try.func15, Try.ntmps15
    go_wp2_with fail
    refine wp_loop_rounds 1 ?_
    rw [rounds_succ]
    go_wp2
    go_ret
    exact ⟨_, [], rfl, Gr.refl _, World.ownsRow_nil _ _ _ _, evo_nil _ _⟩
  have HC := Lib.hid (fun (wx : World) (hg : Gr w wx) (j : Nat) (p : Int × Value) (hp : L[j]? = some p) => show wx.cell? ⟨g, j * 2, none⟩ = some (.int .i64 p.1) ∧ wx.cell? ⟨g, j * 2 + 1, none⟩ = some p.2 from by
    have hj : j < L.length := (List.getElem?_eq_some_iff.1 hp).1
    have e := evV_get L j p hp
    exact ⟨by rw [(HO.out wx hg).cellAt (j * 2) (by omega)]; exact e.1, by rw [(HO.out wx hg).cellAt (j * 2 + 1) (by omega)]; exact e.2⟩)
  clear h1 h2 h3 h4 h5 h7 h8 h9 hi hz0 hz1 hz2 hlA hlE
  go_enter Try.func15, Try.ntmps15
  go_wp2_with fail
  go_loopw [3, 13] (fun sv i wr => ∃ (k : Nat) (Lk : List (Int × Value)), k ≤ L.length ∧ i = .int .i64 k ∧ Gr w wr ∧ Lk.length = k ∧ wr.ownsRow w.heap.size 55 2 sv k (evV Lk) ∧ Evo wr w.heap.size Lk (E.take k)) (fun _ i _ => L.length - (intOf i).toNat)
  case atStart => exact ⟨0, [], by omega, rfl, Gr.refl _, rfl, World.ownsRow_nil _ _ _ _, by rw [List.take_zero]; exact evo_nil _ _⟩
  case round =>
    obtain ⟨kk, Lk, hk, rfl, hg, hlk, hown, hev⟩ := hrel
    have HG := Lib.hid hg
    have HW := Lib.hid hown
    have HV := Lib.hid hev
    have HK := Lib.hid hlk
    clear hg hown hev hlk
    by_cases hlt : kk < L.length
    · obtain ⟨p, hp⟩ : ∃ p, L[kk]? = some p := ⟨_, List.getElem?_eq_getElem hlt⟩
      obtain ⟨q, hq⟩ : ∃ q, E[kk]? = some q := ⟨_, List.getElem?_eq_getElem (show kk < E.length by rw [← HLL.out]; exact hlt)⟩
      obtain ⟨hpq, hud, _⟩ := (HE.out wr HG.out).2 kk p q hp hq
      obtain ⟨f, av⟩ := p
      obtain ⟨f', l⟩ := q
      simp only at hpq hud
      subst hpq
      have HQ := Lib.hid hq
      have HCL := Lib.hid (fun (wx : World) (hg : Gr wr wx) => clone_any (w := wx) (HA.out _ (List.mem_of_getElem? hq)) (ud_gr hud hg))
      obtain ⟨c0, c1⟩ := HC.out wr HG.out kk _ hp
      simp only at c0 c1
      have HL := Lib.hid (show ∀ j v, (#[.int .i64 f, av] : Array Value).toList[j]? = some v → wr.cell? ⟨g, kk * 2 + j, none⟩ = some v from fun j v hv => by
        match j, hv with
        | 0, hv => simp at hv; subst hv; exact c0
        | 1, hv => simp at hv; subst hv; exact c1)
      have hone : av.oneCell' = true := by obtain ⟨x, c, rfl⟩ := ud_slice hud; rfl
      have HOne := Lib.hid hone
      have hsl := ud_slice hud
      have HUD := Lib.hid hud
      clear hp hq hud c0 c1 hone
      obtain ⟨xa, ca, rfl⟩ := hsl
      have HKL := Lib.hid (show kk ≤ 1024 from Nat.le_trans hk HLE.out)
      go_upto_region 7 with (refine wpList_load_cells rfl 55 _ rfl g (kk * 2) rfl #[.int .i64 f, .slice xa l.length ca] _ HL.out Try.underlying55 rfl infoEv ?_)
      have HGx := Lib.hid (show Gr wr _ from (Gr.refl wr).alloc #[.int .i64 f, .slice xa l.length ca] 55)
      have HBx := Lib.hid (heap_alloc_new wr (.cells #[.int .i64 f, .slice xa l.length ca] 55))
      have HZ := Lib.hid HW.out.lt
      generalize hwa : wr.alloc (.cells #[.int .i64 f, .slice xa l.length ca] 55) = wa at *
      have HS0 := Lib.hid (show wa.heap.size = wr.heap.size + 1 by rw [← hwa]; simp)
      clear hwa
      generalize wr.heap.size = gx at *
      have HWa := Lib.hid (owns_gr HW.out HGx.out)
      have HVa := Lib.hid (evo_gr HV.out HGx.out)
      have HGa := Lib.hid (gr_trans HG.out HGx.out)
      have HUa := Lib.hid (ud_gr HUD.out HGx.out)
      have HZa := Lib.hid HGa.out.size
      refine wp_region_facs [0, 0, 2, 0, 8, 24, 62, 126, 255, 511] [(fun wx => wx.cell? ⟨gx, 0, none⟩ = some (.int .i64 f), [8]), (fun wx => wx.cell? ⟨gx, 1, none⟩ = some (.slice xa l.length ca), [8]), (fun wx => Ud wx (.slice xa l.length ca) l, [8]), (fun wx => wx.ownsRow w.heap.size 55 2 u3 kk (evV Lk), [8]), (fun wx => Evo wx w.heap.size Lk (E.take kk), [8])] (fun k => match k with | 5 => [8] | 6 => [8] | 7 => [8] | _ => []) (fun k q => k = 8 ∧ u3.ownBlock = some q) (fun k v wn => match k with | 0 => v = u3 | 1 => v = .pointer (some ⟨gx, 0, none⟩) | 2 => v = .int .i64 f | 3 => v = .pointer (some ⟨gx, 1, none⟩) | 4 => v = .slice xa l.length ca | 5 => wn.ownsRow w.heap.size 53 1 v l.length (uvs l) | 6 => ∃ x c, v = .agg #[.int .i64 f, .slice x l.length c] ∧ wn.ownsRow w.heap.size 53 1 (.slice x l.length c) l.length (uvs l) | 7 => ∃ x c g2, v = .slice (some ⟨g2, 0, none⟩) 1 1 ∧ wn.heap[g2]? = some (.cells #[.int .i64 f, .slice x l.length c] 55 (0, 0)) ∧ wn.ownsRow w.heap.size 53 1 (.slice x l.length c) l.length (uvs l) | 8 => ∃ x c, wn.ownsRow w.heap.size 55 2 v (kk + 1) (evV (Lk ++ [(f, .slice x l.length c)])) ∧ Evo wn w.heap.size (Lk ++ [(f, .slice x l.length c)]) (E.take (kk + 1)) | 9 => ∃ x c, wn.ownsRow w.heap.size 55 2 v (kk + 1) (evV (Lk ++ [(f, .slice x l.length c)])) ∧ Evo wn w.heap.size (Lk ++ [(f, .slice x l.length c)]) (E.take (kk + 1)) | _ => True) (by kernel_rfl) (by kernel_rfl) (by kernel_rfl) ?_ ?_ ?_ ?_ ?_
      · exact ⟨(cells2 HBx.out).1, (cells2 HBx.out).2, HUa.out, HWa.out, HVa.out, trivial⟩
      · exact ⟨(fun k hk w1 w2 hs h => (fun h g => gr_cell g h) h (gr_of_sep (hs.mono fun q hq => hk (by simp [hq.1])))), (fun k hk w1 w2 hs h => (fun h g => gr_cell g h) h (gr_of_sep (hs.mono fun q hq => hk (by simp [hq.1])))), (fun k hk w1 w2 hs h => (fun h g => ud_gr h g) h (gr_of_sep (hs.mono fun q hq => hk (by simp [hq.1])))), (fun k hk w1 w2 hs h => (fun h g => owns_gr h g) h (gr_of_sep (hs.mono fun q hq => hk (by simp [hq.1])))), (fun k hk w1 w2 hs h => (fun h g => evo_gr h g) h (gr_of_sep (hs.mono fun q hq => hk (by simp [hq.1])))), trivial⟩
      · intro j k hjk hb haf v w1 w2 hS h
        match j, hjk, hb, haf, h with
        | 0, hjk, hb, haf, h => exact h
        | 1, hjk, hb, haf, h => exact h
        | 2, hjk, hb, haf, h => exact h
        | 3, hjk, hb, haf, h => exact h
        | 4, hjk, hb, haf, h => exact h
        | 5, hjk, hb, haf, h => have hg := gr_of_sep (hS.mono fun q hq => hb (by simp [hq.1])); exact owns_gr h hg
        | 6, hjk, hb, haf, h => have hg := gr_of_sep (hS.mono fun q hq => hb (by simp [hq.1])); obtain ⟨x, c, h1, h2⟩ := h; exact ⟨x, c, h1, owns_gr h2 hg⟩
        | 7, hjk, hb, haf, h => have hg := gr_of_sep (hS.mono fun q hq => hb (by simp [hq.1])); obtain ⟨x, c, g2, h1, h2, h3⟩ := h; exact ⟨x, c, g2, h1, gr_block hg h2, owns_gr h3 hg⟩
        | 8, hjk, hb, haf, h => have hg := gr_of_sep (hS.mono fun q hq => hjk hq.1); obtain ⟨x, c, h1, h2⟩ := h; exact ⟨x, c, owns_gr h1 hg, evo_gr h2 hg⟩
        | 9, hjk, hb, haf, h => have hg := gr_of_sep (hS.mono fun q hq => not_aft haf (m := 8) (by kernel_rfl) hq.1); obtain ⟨x, c, h1, h2⟩ := h; exact ⟨x, c, owns_gr h1 hg, evo_gr h2 hg⟩
        | _ + 10, _, _, _, _ => trivial
      · refine ⟨?_, ?_, ?_, ?_, ?_, ?_, ?_, ?_, ?_, ?_, trivial⟩
        · refine FacStep.of rfl fun ρ wx hu => ?_
          have e3 : ρ (.tmp 3) = u3 := hu.slot 3 (by kernel_rfl)
          go_simp
          exact ⟨rfl, Sep.refl _⟩
        · refine FacStep.of rfl fun ρ wx hu => ?_
          have e5 : ρ (.tmp 5) = (.pointer (some ⟨gx, 0, none⟩)) := hu.slot 5 (by kernel_rfl)
          go_simp
          exact ⟨rfl, Sep.refl _⟩
        · refine FacStep.of rfl fun ρ wx hu => ?_
          have e18 : ρ (.tmp 18) = (.pointer (some ⟨gx, 0, none⟩)) := hu.dep 1 18 (by kernel_rfl)
          have hc := hu.fac 0 _ _ rfl (by kernel_rfl)
          go_simp
          exact ⟨rfl, Sep.refl _⟩
        · refine FacStep.of rfl fun ρ wx hu => ?_
          have e5 : ρ (.tmp 5) = (.pointer (some ⟨gx, 0, none⟩)) := hu.slot 5 (by kernel_rfl)
          go_simp
          exact ⟨rfl, Sep.refl _⟩
        · refine FacStep.of rfl fun ρ wx hu => ?_
          have e20 : ρ (.tmp 20) = (.pointer (some ⟨gx, 1, none⟩)) := hu.dep 3 20 (by kernel_rfl)
          have hc := hu.fac 1 _ _ rfl (by kernel_rfl)
          go_simp
          exact ⟨rfl, Sep.refl _⟩
        · refine FacStep.of rfl fun ρ wx hu => ?_
          have e21 : ρ (.tmp 21) = (.slice xa l.length ca) := hu.dep 4 21 (by kernel_rfl)
          have ef24 : ρ (.func 24) = .func (.func 24) #[] #[] := hu.fn 24
          have hc := hu.fac 2 _ _ rfl (by kernel_rfl)
          have hsz := Nat.le_trans HZa.out hu.sep.size
          go_simp
          exact (clone_any (HA.out _ (List.mem_of_getElem? HQ.out)) hc).mono fun e w4 ⟨sv, h1, h2, h3⟩ => ⟨sv, h1, owns_base h3 hsz, Sep.of_gr h2⟩
        · refine FacStep.of rfl fun ρ wx hu => ?_
          have e19 : ρ (.tmp 19) = (.int .i64 f) := hu.dep 2 19 (by kernel_rfl)
          have h22 : wx.ownsRow w.heap.size 53 1 (ρ (.tmp 22)) l.length (uvs l) := hu.dep 5 22 (by kernel_rfl)
          obtain ⟨x2, c2, e22⟩ := own_slice h22
          rw [e22] at h22
          refine fac_build 55 _ rfl #[.int .i64 f, .slice x2 l.length c2] ?_ ⟨x2, c2, rfl, h22⟩
          simp only [List.map_toArray, List.map_cons, List.map_nil, e19, e22]
          exact bld55 f x2 l.length c2
        · refine FacStep.of rfl fun ρ wx hu => ?_
          obtain ⟨x2, c2, e23, h23⟩ : ∃ x c, ρ (.tmp 23) = .agg #[.int .i64 f, .slice x l.length c] ∧ wx.ownsRow w.heap.size 53 1 (.slice x l.length c) l.length (uvs l) := hu.dep 6 23 (by kernel_rfl)
          have H23 := Lib.hid h23
          clear h23
          go_simp
          exact ⟨⟨x2, c2, _, rfl, heap_alloc_new _ _, (owns_gr H23.out ((Gr.refl _).allocO _))⟩, Sep.of_gr ((Gr.refl _).allocO _)⟩
        · refine FacStep.of rfl fun ρ wx hu => ?_
          have e17 : ρ (.tmp 17) = u3 := hu.dep 0 17 (by kernel_rfl)
          obtain ⟨x2, c2, g2, e24, hb24, h24⟩ : ∃ x c g2, ρ (.tmp 24) = .slice (some ⟨g2, 0, none⟩) 1 1 ∧ wx.heap[g2]? = some (.cells #[.int .i64 f, .slice x l.length c] 55 (0, 0)) ∧ wx.ownsRow w.heap.size 53 1 (.slice x l.length c) l.length (uvs l) := hu.dep 7 24 (by kernel_rfl)
          have ho := hu.fac 3 _ _ rfl (by kernel_rfl)
          have hv := hu.fac 4 _ _ rfl (by kernel_rfl)
          have hsz := Nat.le_trans HZa.out hu.sep.size
          refine fac_append _ _ 43 rfl w.heap.size 55 i0 (.agg #[.int .i64 0, .slice none 0 0]) 2 32 Try.underlying43 HI.out HZ0.out HZ1.out HZ2.out rfl (by decide) u3 kk (evV Lk) e17 ho _ 1 (evV [(f, .slice x2 l.length c2)]) e24 ?_ rfl (fun u hu => by simp [evV] at hu; rcases hu with rfl | rfl <;> rfl) (by unfold maxLen; have := HKL.out; omega) (by have := HKL.out; omega) hsz (fun q hq => ⟨rfl, hq⟩) ?_
          · exact .inr ⟨_, _, rfl, fun j u hu => by
              rw [add_at, Nat.zero_add, cell_of_row _ _ j _ _ _ hb24]
              exact (Array.getElem?_toList ..).symm.trans hu⟩
          · intro v2 w2 h2 h3 _
            have hs2 := Sep.grown (ex := fun q => u3.ownBlock = some q) h3 (fun q hq => hq)
            have hap : ∀ q c z, u3.ownBlock = some q → wx.heap[q]? ≠ some (.cells c 53 z) := fun q c z hq e => own_type ho e (by decide) q hq rfl
            refine ⟨x2, c2, by rw [evV_app]; exact h2, ?_⟩
            rw [take_next HQ.out]
            exact evo_app (evo_sep hv hs2 hap) (hs2.owns h24 fun q hq hq2 => by
              obtain ⟨_, c, z, e⟩ := own_row h24 q hq
              exact hap q c z hq2 e)
        · refine FacStep.of rfl fun ρ wx hu => ?_
          have h25 := Lib.hid (hu.dep 8 25 (by kernel_rfl))
          go_simp
          exact ⟨h25.out, Sep.refl _⟩
      · intro V wN hS hV hC
        obtain ⟨x2, c2, ho, hv⟩ := hV 9 _ rfl rfl
        have HSx := Lib.hid (Sep.then_new (ex := fun _ => False) (Sep.of_gr HGa.out) (Sep.trans (Sep.of_gr (Gr.drew (Gr.refl wa))) hS) (fun q ⟨_, _, hq⟩ => (HZ.out q hq).1))
        have HO9 := Lib.hid ho
        have HV9 := Lib.hid hv
        clear ho hv hV hC hS
        simp only [putAll, Act.put, Option.map_some, Option.getD_some, List.setIfInBounds_toArray, List.set_cons_succ, List.set_cons_zero]
        have hkl := HKL.out
        go_wp2
        exact ⟨⟨kk + 1, _, by omega, by go_num, gr_of_sep HSx.out, by simp [HK.out], HO9.out, HV9.out⟩, by simp [intOf]; omega⟩
    · obtain rfl : kk = L.length := by omega
      go_wp2
      go_ret
      exact ⟨_, Lk, rfl, HG.out, by rw [HK.out]; exact HW.out, by have := HV.out; rwa [HLL.out, List.take_length] at this⟩
end Hs
end Go.Proofs.Ytndbgnkobodjkaa
