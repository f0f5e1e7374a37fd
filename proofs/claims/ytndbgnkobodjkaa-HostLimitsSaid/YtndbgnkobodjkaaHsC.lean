/-
  Of layer 16: hosts in new memory: New and Clone; same and known.
-/
import Derived.Test.YtndbgnkobodjkaaHsG
namespace Go.Proofs.Ytndbgnkobodjkaa
open Go.RowKit VecM
namespace Hs
theorem bld64 (x y : Option Addr) (n c m d : Nat) (z : Int) : Try.prog.built 64 [(0, .slice x n c), (1, .slice y m d), (2, .int .u32 z)] = some #[.slice x n c, .slice y m d, .int .u32 z] := by kernel_rfl
theorem bld64' (x : Option Addr) (n c : Nat) : Try.prog.built 64 [(0, .slice x n c)] = some #[.slice x n c, .slice none 0 0, .int .u32 0] := by kernel_rfl
/-- a host in new memory -/
def NewH (w : World) (base : Nat) (v : Value) (s : Ho) : Prop :=
  ∃ g x c xl cl L, v = .pointer (some ⟨g, 0, none⟩) ∧ base ≤ g ∧ w.heap[g]? = some (.cells #[.slice x s.R.length c, .slice xl L.length cl, .int .u32 s.C] 64 (0, 0)) ∧
    w.ownsRow base 53 1 (.slice x s.R.length c) s.R.length (uvs s.R) ∧ w.ownsRow base 55 2 (.slice xl L.length cl) L.length (evV L) ∧ Evo w base L s.E
theorem newH_gr {w w' : World} {base : Nat} {v : Value} {s : Ho} (h : NewH w base v s) (hg : Gr w w') : NewH w' base v s := by
  obtain ⟨g, x, c, xl, cl, L, h1, h2, h3, h4, h5, h6⟩ := h
  exact ⟨g, x, c, xl, cl, L, h1, h2, gr_block hg h3, owns_gr h4 hg, owns_gr h5 hg, evo_gr h6 hg⟩
theorem heap_lt {w : World} {k : Nat} {o : Obj} (h : w.heap[k]? = some o) : k < w.heap.size := (Array.getElem?_eq_some_iff.1 h).1
theorem newH_hst {w : World} {base : Nat} {v : Value} {s : Ho} (h : NewH w base v s) : ∃ g M F, v = .pointer (some ⟨g, 0, none⟩) ∧ Hst w g M F s ∧ ∀ k, M k ∨ F k → base ≤ k := by
  obtain ⟨g, x, c, xl, cl, L, rfl, h2, h3, h4, h5, h6⟩ := h
  refine ⟨g, fun k => k = g ∨ (Value.slice xl L.length cl).ownBlock = some k, fun k => base ≤ k ∧ ∃ c z, w.heap[k]? = some (.cells c 53 z), rfl, ⟨_, _, L, h3, ud_of_owns h4, own_row h4, owns_base h5 (Nat.zero_le _), ⟨h6.1, fun j p q hp hq => ⟨(h6.2 j p q hp hq).1, ud_of_owns (h6.2 j p q hp hq).2, own_row (h6.2 j p q hp hq).2⟩⟩, .inl rfl, fun k hk => ⟨.inr hk, own_type h5 h3 (by decide) k hk⟩, fun k hk => ?_, fun k hk => ?_⟩, fun k hk => ?_⟩
  · rcases hk with rfl | hk
    · refine ⟨heap_lt h3, fun ⟨_, c, z, e⟩ => ?_⟩
      rw [h3] at e
      injection e with e
      injection e with _ e _
      exact absurd e (by decide)
    · obtain ⟨_, c, z, e⟩ := own_row h5 k hk
      refine ⟨heap_lt e, fun ⟨_, c', z', e'⟩ => ?_⟩
      rw [e] at e'
      injection e' with e'
      injection e' with _ e' _
      exact absurd e' (by decide)
  · obtain ⟨_, c, z, e⟩ := hk
    exact heap_lt e
  · rcases hk with (rfl | hk) | hk
    · exact h2
    · exact (own_row h5 k hk).1
    · exact hk.1
theorem hst_h {w : World} {h : Nat} {M F : Nat → Prop} {s : Ho} (hh : Hst w h M F s) : M h ∧ (∀ k, M k → k < w.heap.size ∧ ¬ F k) ∧ ∀ k, F k → k < w.heap.size := by
  obtain ⟨rv, lv, L, h1, h2, h3, h4, h5, h6, h7, h8, h9⟩ := hh
  exact ⟨h6, h8, h9⟩
def NEWH (s : Ho) (w : World) (e : Ending) (w' : World) : Prop := ∃ v, e = .returned v ∧ Gr w w' ∧ NewH w' w.heap.size v s
theorem ud_take {w : World} {b off cap : Nat} {l : List Int} (hc : l.length ≤ cap) (hm : l.length ≤ 9223372036854775807) (h : ∀ j, j < l.length → w.cell? ⟨b, off + j, none⟩ = some (.int .u64 (l.getD j 0))) (n : Nat) :
    Ud w (.slice (some ⟨b, off, none⟩) (l.take n).length cap) (l.take n) := by
  refine .inr ⟨b, off, cap, by rw [List.length_take]; omega, by rw [List.length_take]; omega, rfl, fun j hj => ?_⟩
  rw [List.length_take] at hj
  rw [h j (by omega), List.getD_eq_getElem?_getD, List.getD_eq_getElem?_getD, List.getElem?_take_of_lt (by omega)]
set_option maxHeartbeats 1000000 in
theorem new_any {w : World} {v : Value} {l : List Int} (hl : l.length ≤ 1099511627776) (h : Ud w v l) : Calls Try.prog 9 #[v] w (NEWH ⟨l.take 4096, [], 0⟩ w) := by
  rcases h with ⟨rfl, rfl⟩ | ⟨b, off, cap, hc, hm, rfl, hcell⟩
  · have HC := Lib.hid (clone_any (w := w) (v := .slice none 0 0) (l := []) (by simp) (.inl ⟨rfl, rfl⟩))
    go_enter Try.func9, Try.ntmps9
    go_wp2_with (go_at_call 24; refine HC.out.mono ?_; rintro e w1 ⟨sv, rfl, hg1, ho1⟩; obtain ⟨x1, c1, rfl⟩ := own_slice ho1; have HG1 := Lib.hid hg1; have HO1 := Lib.hid ho1; clear hg1 ho1)
    go_ret
    exact ⟨_, rfl, HG1.out.alloc _ _, _, x1, c1, none, 0, [], rfl, HG1.out.size, heap_alloc_new _ _, owns_gr HO1.out ((Gr.refl _).alloc _ _), World.ownsRow_nil _ _ _ _, evo_nil _ _⟩
  · have hT := ud_take hc hm hcell 4096
    have HC := Lib.hid (clone_any (by rw [List.length_take]; omega) hT)
    by_cases hle : l.length ≤ 4096
    · rw [List.take_of_length_le hle] at HC ⊢
      have t0 : (0 : Int) ≤ (l.length : Int) := by omega
      have t1 : (l.length : Int) ≤ (cap : Int) := by omega
      have t2 : (l.length : Int) ≤ 4096 := by omega
      clear hT hcell hle hc hm hl
      generalize hn : l.length = n at *
      go_enter Try.func9, Try.ntmps9
      go_wp2_with (go_at_call 24; refine HC.out.mono ?_; rintro e w1 ⟨sv, rfl, hg1, ho1⟩; obtain ⟨x1, c1, rfl⟩ := own_slice ho1; have HG1 := Lib.hid hg1; have HO1 := Lib.hid ho1; clear hg1 ho1)
      go_ret
      exact ⟨_, rfl, HG1.out.alloc _ _, _, x1, c1, none, 0, [], by rfl, HG1.out.size, (by rw [hn]; exact heap_alloc_new _ _), (by have := HO1.out; rw [hn] at this; rw [hn]; exact owns_gr this ((Gr.refl _).alloc _ _)), World.ownsRow_nil _ _ _ _, evo_nil _ _⟩
    · have e : (l.take 4096).length = 4096 := by rw [List.length_take]; omega
      have t1 : (4096 : Int) ≤ (cap : Int) := by omega
      have t2 : ¬ (l.length : Int) ≤ 4096 := by omega
      rw [e] at HC
      generalize l.take 4096 = l1 at *
      clear hT hcell hle hc hm hl
      go_enter Try.func9, Try.ntmps9
      go_wp2_with (go_at_call 24; refine HC.out.mono ?_; rintro e w1 ⟨sv, rfl, hg1, ho1⟩; obtain ⟨x1, c1, rfl⟩ := own_slice ho1; have HG1 := Lib.hid hg1; have HO1 := Lib.hid ho1; clear hg1 ho1)
      go_ret
      exact ⟨_, rfl, HG1.out.alloc _ _, _, x1, c1, none, 0, [], by rfl, HG1.out.size, (by rw [e]; exact heap_alloc_new _ _), (by have := HO1.out; rw [e] at this; rw [e]; exact owns_gr this ((Gr.refl _).alloc _ _)), World.ownsRow_nil _ _ _ _, evo_nil _ _⟩
theorem clone_nil (w : World) : Calls Try.prog 11 #[.pointer none] w fun e w' => e = .returned (.pointer none) ∧ w = w' := by
  go_enter Try.func11, Try.ntmps11
  go_wp2
  go_ret
  exact ⟨rfl, rfl⟩
set_option maxRecDepth 100000 in
set_option maxHeartbeats 2000000 in
theorem hclone_any {w : World} {h : Nat} {M F : Nat → Prop} {s : Ho} (hlR : s.R.length ≤ 1099511627776) (hlE : s.E.length ≤ 1024) (hlA : ∀ q ∈ s.E, q.2.length ≤ 1099511627776) (hh : Hst w h M F s) :
    Calls Try.prog 11 #[.pointer (some ⟨h, 0, none⟩)] w (NEWH s w) := by
  have HL := Lib.hid (fun wx (hg : Gr w wx) => log_any hlE hlA (hst_gr hh hg))
  obtain ⟨rv, lv, L, h1, h2, h3, h4, h5, h6, h7, h8, h9⟩ := hh
  have HC := Lib.hid (fun wx (hg : Gr w wx) => clone_any hlR (ud_gr h2 hg))
  obtain ⟨a0, _, a2⟩ := cells3 h1
  obtain ⟨xr, cr, rfl⟩ := ud_slice h2
  clear h1 h2 h3 h4 h5 h6 h7 h8 h9 hlR hlE hlA
  obtain ⟨R, E, C⟩ := s
  simp only at *
  go_enter Try.func11, Try.ntmps11
  go_upto_region 3 with (fail)
  refine wp_region_facs [0, 1, 3, 7, 15, 0, 63, 0, 128, 384, 896, 2047, 4095, 8191] [(fun wx => wx.cell? ⟨h, 0, none⟩ = some (.slice xr R.length cr), []), (fun wx => wx.cell? ⟨h, 2, none⟩ = some (.int .u32 C), [])] (fun _ => []) (fun _ _ => False) (fun k v wn => match k with | 0 => v = .pointer (some ⟨h, 0, none⟩) | 1 => v = .pointer (some ⟨h, 0, none⟩) | 2 => v = .pointer (some ⟨h, 0, none⟩) | 3 => v = .slice xr R.length cr | 4 => wn.ownsRow w.heap.size 53 1 v R.length (uvs R) | 5 => v = .pointer (some ⟨h, 0, none⟩) | 6 => ∃ L, wn.ownsRow w.heap.size 55 2 v L.length (evV L) ∧ Evo wn w.heap.size L E | 7 => v = .pointer (some ⟨h, 0, none⟩) | 8 => v = .pointer (some ⟨h, 0, none⟩) | 9 => v = .pointer (some ⟨h, 2, none⟩) | 10 => v = .int .u32 C | 11 => ∃ x c xl cl L, v = .agg #[.slice x R.length c, .slice xl L.length cl, .int .u32 C] ∧ wn.ownsRow w.heap.size 53 1 (.slice x R.length c) R.length (uvs R) ∧ wn.ownsRow w.heap.size 55 2 (.slice xl L.length cl) L.length (evV L) ∧ Evo wn w.heap.size L E | 12 => NewH wn w.heap.size v ⟨R, E, C⟩ | 13 => NewH wn w.heap.size v ⟨R, E, C⟩ | _ => True) (by kernel_rfl) (by kernel_rfl) (by kernel_rfl) ?_ ?_ ?_ ?_ ?_
  · exact ⟨a0, a2, trivial⟩
  · exact ⟨(fun k _ w1 w2 hs h => gr_cell (gr_of_sep hs) h), (fun k _ w1 w2 hs h => gr_cell (gr_of_sep hs) h), trivial⟩
  · intro j k hjk hb haf v w1 w2 hS h
    have hg := gr_of_sep hS
    match j, hjk, hb, haf, h with
    | 0, hjk, hb, haf, h => exact h
    | 1, hjk, hb, haf, h => exact h
    | 2, hjk, hb, haf, h => exact h
    | 3, hjk, hb, haf, h => exact h
    | 4, hjk, hb, haf, h => exact owns_gr h hg
    | 5, hjk, hb, haf, h => exact h
    | 6, hjk, hb, haf, h => obtain ⟨L, h1, h2⟩ := h; exact ⟨L, owns_gr h1 hg, evo_gr h2 hg⟩
    | 7, hjk, hb, haf, h => exact h
    | 8, hjk, hb, haf, h => exact h
    | 9, hjk, hb, haf, h => exact h
    | 10, hjk, hb, haf, h => exact h
    | 11, hjk, hb, haf, h => obtain ⟨x, c, xl, cl, L, h1, h2, h3, h4⟩ := h; exact ⟨x, c, xl, cl, L, h1, owns_gr h2 hg, owns_gr h3 hg, evo_gr h4 hg⟩
    | 12, hjk, hb, haf, h => exact newH_gr h hg
    | 13, hjk, hb, haf, h => exact newH_gr h hg
    | _ + 14, _, _, _, _ => trivial
  · refine ⟨?_, ?_, ?_, ?_, ?_, ?_, ?_, ?_, ?_, ?_, ?_, ?_, ?_, ?_, trivial⟩
    · refine FacStep.of rfl fun ρ wx hu => ?_
      have e0 : ρ (.tmp 0) = (.pointer (some ⟨h, 0, none⟩)) := hu.slot 0 (by kernel_rfl)
      go_simp
      exact ⟨rfl, Sep.refl _⟩
    · refine FacStep.of rfl fun ρ wx hu => ?_
      have e5 : ρ (.tmp 5) = (.pointer (some ⟨h, 0, none⟩)) := hu.dep 0 5 (by kernel_rfl)
      go_simp
      exact ⟨rfl, Sep.refl _⟩
    · refine FacStep.of rfl fun ρ wx hu => ?_
      have e6 : ρ (.tmp 6) = (.pointer (some ⟨h, 0, none⟩)) := hu.dep 1 6 (by kernel_rfl)
      go_simp
      exact ⟨rfl, Sep.refl _⟩
    · refine FacStep.of rfl fun ρ wx hu => ?_
      have e7 : ρ (.tmp 7) = (.pointer (some ⟨h, 0, none⟩)) := hu.dep 2 7 (by kernel_rfl)
      have hc := hu.fac 0 _ _ rfl (by kernel_rfl)
      go_simp
      exact ⟨rfl, Sep.refl _⟩
    · refine FacStep.of rfl fun ρ wx hu => ?_
      have e8 : ρ (.tmp 8) = (.slice xr R.length cr) := hu.dep 3 8 (by kernel_rfl)
      have ef24 : ρ (.func 24) = .func (.func 24) #[] #[] := hu.fn 24
      have hsz := hu.sep.size
      have hgx : Gr w wx := gr_trans (Gr.drew (Gr.refl w)) (gr_of_sep (hu.sep.mono fun q hq => hq.elim fun _ h => h))
      go_simp
      exact (HC.out wx hgx).mono fun e w4 ⟨sv, h1, h2, h3⟩ => ⟨sv, h1, owns_base h3 hsz, Sep.of_gr h2⟩
    · refine FacStep.of rfl fun ρ wx hu => ?_
      have e0 : ρ (.tmp 0) = (.pointer (some ⟨h, 0, none⟩)) := hu.slot 0 (by kernel_rfl)
      go_simp
      exact ⟨rfl, Sep.refl _⟩
    · refine FacStep.of rfl fun ρ wx hu => ?_
      have e10 : ρ (.tmp 10) = (.pointer (some ⟨h, 0, none⟩)) := hu.dep 5 10 (by kernel_rfl)
      have ef15 : ρ (.func 15) = .func (.func 15) #[] #[] := hu.fn 15
      have hsz := hu.sep.size
      have hgx : Gr w wx := gr_trans (Gr.drew (Gr.refl w)) (gr_of_sep (hu.sep.mono fun q hq => hq.elim fun _ h => h))
      go_simp
      exact (HL.out wx hgx).mono fun e w4 ⟨sv, L, h1, h2, h3, h4⟩ => ⟨sv, h1, ⟨L, owns_base h3 hsz, evo_base h4 hsz⟩, Sep.of_gr h2⟩
    · refine FacStep.of rfl fun ρ wx hu => ?_
      have e0 : ρ (.tmp 0) = (.pointer (some ⟨h, 0, none⟩)) := hu.slot 0 (by kernel_rfl)
      go_simp
      exact ⟨rfl, Sep.refl _⟩
    · refine FacStep.of rfl fun ρ wx hu => ?_
      have e12 : ρ (.tmp 12) = (.pointer (some ⟨h, 0, none⟩)) := hu.dep 7 12 (by kernel_rfl)
      go_simp
      exact ⟨rfl, Sep.refl _⟩
    · refine FacStep.of rfl fun ρ wx hu => ?_
      have e13 : ρ (.tmp 13) = (.pointer (some ⟨h, 0, none⟩)) := hu.dep 8 13 (by kernel_rfl)
      go_simp
      exact ⟨rfl, Sep.refl _⟩
    · refine FacStep.of rfl fun ρ wx hu => ?_
      have e14 : ρ (.tmp 14) = (.pointer (some ⟨h, 2, none⟩)) := hu.dep 9 14 (by kernel_rfl)
      have hc := hu.fac 1 _ _ rfl (by kernel_rfl)
      go_simp
      exact ⟨rfl, Sep.refl _⟩
    · refine FacStep.of rfl fun ρ wx hu => ?_
      have e15 : ρ (.tmp 15) = (.int .u32 C) := hu.dep 10 15 (by kernel_rfl)
      have h9 : wx.ownsRow w.heap.size 53 1 (ρ (.tmp 9)) R.length (uvs R) := hu.dep 4 9 (by kernel_rfl)
      obtain ⟨L, h11, hv⟩ : ∃ L, wx.ownsRow w.heap.size 55 2 (ρ (.tmp 11)) L.length (evV L) ∧ Evo wx w.heap.size L E := hu.dep 6 11 (by kernel_rfl)
      obtain ⟨x2, c2, e9⟩ := own_slice h9
      obtain ⟨x3, c3, e11⟩ := own_slice h11
      rw [e9] at h9
      rw [e11] at h11
      refine fac_build 64 _ rfl #[.slice x2 R.length c2, .slice x3 L.length c3, .int .u32 C] ?_ ⟨x2, c2, x3, c3, L, rfl, h9, h11, hv⟩
      simp only [List.map_toArray, List.map_cons, List.map_nil, e9, e11, e15]
      exact bld64 x2 x3 R.length c2 L.length c3 C
    · refine FacStep.of rfl fun ρ wx hu => ?_
      obtain ⟨x2, c2, x3, c3, L, e16, h9, h11, hv⟩ : ∃ x c xl cl L, ρ (.tmp 16) = .agg #[.slice x R.length c, .slice xl L.length cl, .int .u32 C] ∧ wx.ownsRow w.heap.size 53 1 (.slice x R.length c) R.length (uvs R) ∧ wx.ownsRow w.heap.size 55 2 (.slice xl L.length cl) L.length (evV L) ∧ Evo wx w.heap.size L E := hu.dep 11 16 (by kernel_rfl)
      have H9 := Lib.hid h9
      have H11 := Lib.hid h11
      have HV := Lib.hid hv
      have HSZ := Lib.hid hu.sep.size
      clear h9 h11 hv
      go_simp
      have hga := (Gr.refl wx).alloc #[.slice x2 R.length c2, .slice x3 L.length c3, .int .u32 C] 64
      exact ⟨⟨_, x2, c2, x3, c3, L, rfl, HSZ.out, heap_alloc_new _ _, owns_gr H9.out hga, owns_gr H11.out hga, evo_gr HV.out hga⟩, Sep.of_gr hga⟩
    · refine FacStep.of rfl fun ρ wx hu => ?_
      have h17 := Lib.hid (hu.dep 12 17 (by kernel_rfl))
      go_simp
      exact ⟨h17.out, Sep.refl _⟩
  · intro V wN hS hV hC
    have hn : NewH wN w.heap.size (V 2) ⟨R, E, C⟩ := hV 13 _ rfl rfl
    have HN := Lib.hid hn
    have HG := Lib.hid (gr_trans (Gr.drew (Gr.refl w)) (gr_of_sep (hS.mono fun q hq => hq.elim fun _ h => h)))
    clear hn hV hC hS
    simp only [putAll, Act.put, Option.map_some, Option.getD_some, List.setIfInBounds_toArray, List.set_cons_succ, List.set_cons_zero]
    generalize V 2 = v2 at *
    go_wp2
    go_ret
    exact ⟨_, rfl, HG.out, HN.out⟩
set_option maxHeartbeats 1000000 in
theorem known_any {tv : Value} {n : Nat} {ts : Nat → Int} {w : World} (hn : n ≤ 1099511627776) (ht : I64s w tv n ts) : Calls Try.prog 28 #[tv] w fun e w' => e = .returned (.bool (cntB ts n)) ∧ w = w' := by
  rcases ht with ⟨rfl, x, c, rfl⟩ | ⟨_, b, off, cap, rfl, hcell⟩
  · have HB := Lib.hid (show cntB ts 0 = true from cntB_yes (fun j hj => absurd hj (by omega)))
    go_enter Try.func28, Try.ntmps28
    go_wp2_with fail
    refine wp_loop_rounds 1 ?_
    rw [rounds_succ]
    go_wp2
    go_ret
    exact ⟨by rw [HB.out]; rfl, rfl⟩
  have HT := Lib.hid hcell
  clear hcell
  go_enter Try.func28, Try.ntmps28
  go_wp2_with fail
  go_loopw [7] (fun i wr => ∃ k : Nat, k ≤ n ∧ i = .int .i64 k ∧ wr = w ∧ ∀ j, j < k → needI (ts j) ≠ 0) (fun i _ => n - (intOf i).toNat)
  case atStart => exact ⟨0, by omega, rfl, rfl, fun j hj => absurd hj (by omega)⟩
  case round =>
    obtain ⟨k, hk, rfl, rfl, hok⟩ := hrel
    have HK := Lib.hid hok
    clear hok
    by_cases hlt : k < n
    · have h1 := HT.out k hlt
      have HS := Lib.hid (fun (hq : needI (ts k) ≠ 0) => show ∀ j, j < k + 1 → needI (ts j) ≠ 0 from fun j hj => by
        by_cases h : j < k
        · exact HK.out j h
        · obtain rfl : j = k := by omega
          exact hq)
      have HN := Lib.hid (fun (hq : needI (ts k) = 0) => show cntB ts n = false from cntB_no fun ho => ho k hlt hq)
      by_cases c1 : ts k = 127
      · rw [c1] at h1 HS
        clear c1 HN
        go_wp2
        exact ⟨⟨k + 1, by omega, by go_num, trivial, HS.out (by decide)⟩, by simp [intOf]; omega⟩
      by_cases c2 : ts k = 126
      · rw [c2] at h1 HS
        clear c1 c2 HN
        go_wp2
        exact ⟨⟨k + 1, by omega, by go_num, trivial, HS.out (by decide)⟩, by simp [intOf]; omega⟩
      by_cases c3 : ts k = 123
      · rw [c3] at h1 HS
        clear c1 c2 c3 HN
        go_wp2
        exact ⟨⟨k + 1, by omega, by go_num, trivial, HS.out (by decide)⟩, by simp [intOf]; omega⟩
      have HB := Lib.hid (HN.out (by unfold needI; rw [if_neg (by omega), if_neg c3]))
      have n1 : (ts k != 127) = true := by simpa using c1
      have n2 : (ts k != 126) = true := by simpa using c2
      have n3 : (ts k != 123) = true := by simpa using c3
      clear c1 c2 c3 HS HN
      go_wp2
      go_ret
      exact ⟨by rw [HB.out]; rfl, rfl⟩
    · obtain rfl : k = n := by omega
      have HB := Lib.hid (show cntB ts k = true from cntB_yes HK.out)
      go_wp2
      go_ret
      exact ⟨by rw [HB.out]; rfl, rfl⟩
theorem take_byt (ts zs : Nat → Int) (k : Nat) : Byt (takeV ts zs k) := by
  have h0 : Byt (fun _ : Nat => (0 : Int)) := zero_byt
  unfold takeV
  split
  · exact setI_byt h0 _ _ _
  · split
    · exact setI_byt h0 _ _ _
    · exact setI_byt (setI_byt h0 _ _ _) _ _ _
/-- halves cut to their types -/
def cutL (ts zs : Nat → Int) (n m : Nat) : List Int := if okT ts n ∧ needN ts n = m then putL ts (takeV ts zs) n else []
set_option maxHeartbeats 1000000 in
theorem same_any {tv hv : Value} {n m : Nat} {ts zs : Nat → Int} {w : World} (hn : n ≤ 1099511627776) (ht : I64s w tv n ts) (hh : U64c w hv m zs) :
    Calls Try.prog 27 #[tv, hv] w fun e w' => ∃ sv, e = .returned (.tuple #[sv, .int .i64 (takX ts n m)]) ∧ Gr w w' ∧ w'.ownsRow w.heap.size 53 1 sv (cutL ts zs n m).length (uvs (cutL ts zs n m)) := by
  have HT := Lib.hid (take_any hn ht hh)
  obtain ⟨xt, ct, rfl⟩ := slice_i64s ht
  by_cases hok : okT ts n ∧ needN ts n = m
  · have HP := Lib.hid (fun wx v (hg : Gr w wx) (hv : Vecs wx v n (takeV ts zs)) => put_any (take_byt ts zs) hn (i64s_gr ht hg) hv)
    have HX := Lib.hid (show takX ts n m = 0 from takX_yes hok)
    have HN := Lib.hid (show takN ts n m = n from takN_yes hok)
    have HQ := Lib.hid (show putX ts n n = 0 by unfold putX; rw [if_pos ⟨hok.1, rfl⟩])
    have HR := Lib.hid (show putR ts (takeV ts zs) n n = cutL ts zs n m by unfold putR cutL; rw [if_pos ⟨hok.1, rfl⟩, if_pos hok])
    clear ht hh
    go_enter Try.func27, Try.ntmps27
    go_wp2_with fail
    refine HT.out.mono ?_
    rw [HX.out, HN.out]
    rintro e w1 ⟨sv, rfl, hg1, ho1⟩
    have HG1 := Lib.hid hg1
    have HV1 := Lib.hid (vecs_of_owns ho1)
    obtain ⟨x1, c1, rfl⟩ := own_slice ho1
    clear hg1 ho1
    go_wp2_with fail
    refine (HP.out w1 _ HG1.out HV1.out).mono ?_
    rw [HQ.out, HR.out]
    rintro e w2 ⟨s2, rfl, hg2, ho2⟩
    have HG2 := Lib.hid (gr_trans HG1.out hg2)
    have HO2 := Lib.hid (owns_base ho2 HG1.out.size)
    obtain ⟨x2, c2, rfl⟩ := own_slice ho2
    clear hg2 ho2
    go_wp2
    go_ret2
    refine ⟨.slice x2 _ c2, ?_, HG2.out, HO2.out⟩
    rw [HX.out]; rfl
  · have HX := Lib.hid (show takX ts n m = 1 from takX_no hok)
    have HN := Lib.hid (show takN ts n m = 0 from takN_no hok)
    have HR := Lib.hid (show cutL ts zs n m = [] by unfold cutL; rw [if_neg hok])
    clear ht hh
    go_enter Try.func27, Try.ntmps27
    go_wp2_with fail
    refine HT.out.mono ?_
    rw [HX.out, HN.out]
    rintro e w1 ⟨sv, rfl, hg1, ho1⟩
    have HG1 := Lib.hid hg1
    obtain ⟨x1, c1, rfl⟩ := own_slice ho1
    clear hg1 ho1
    go_wp2
    go_ret2
    refine ⟨.slice none 0 0, ?_, HG1.out, by rw [HR.out]; exact World.ownsRow_nil _ _ _ _⟩
    rw [HX.out]; rfl
end Hs
end Go.Proofs.Ytndbgnkobodjkaa
