/-
  HostTurns: for all replies, takes and gives the law returns true.
-/
import Derived.Test.YtndbgnkobodjkaaHsP
import Derived.Deep.CutRange
namespace Go.Proofs.Ytndbgnkobodjkaa
open Go.RowKit VecM
namespace Hs
theorem uz_cases {w : World} {v : Value} {l : List Int} (h : Uz w v l) : Ud w v l ∨ ∃ a c, v = .slice (some a) 0 c ∧ l = [] := by
  obtain ⟨h, hz⟩ := h
  rcases h with ⟨h0, x, c, rfl⟩ | ⟨hm, b, off, cap, hc, rfl, hcell⟩
  · have hl := List.eq_nil_of_length_eq_zero h0
    subst hl
    cases x with
    | none =>
      obtain ⟨_, rfl⟩ := hz 0 c rfl
      exact .inl (.inl ⟨rfl, rfl⟩)
    | some a => exact .inr ⟨a, c, rfl, rfl⟩
  · exact .inl (.inr ⟨b, off, cap, hc, hm, rfl, hcell⟩)
set_option maxHeartbeats 1000000 in
theorem clone_z (w : World) (a : Addr) (c : Nat) : Calls Try.prog 24 #[.slice (some a) 0 c] w (NEWS [] w) := by
  obtain ⟨i0, hi, hz0, hz1, hz2⟩ := info_parts info64
  have HI := Lib.hid hi
  have HZ0 := Lib.hid hz0
  have HZ1 := Lib.hid hz1
  have HZ2 := Lib.hid hz2
  clear hi hz0 hz1 hz2
  have q : ∀ wx, (binOp .eql 22 (.slice (some a) 0 c) (.slice none 0 0)).run Try.prog wx = .ok (.bool false) wx := fun wx => run_eql_slice_nil wx _ _ _ _ _ Try.underlying22
  go_enter Try.func24, Try.ntmps24
  go_wp2_with (at_builtin; refine wpList_append_src rfl _ _ 22 rfl w.heap.size 53 i0 (.int .u64 0) 1 8 Try.underlying22 HI.out HZ0.out HZ1.out HZ2.out rfl (by decide) (.slice (some ⟨w.heap.size, 0, none⟩) 0 0) 0 [] rfl (World.ownsRow_made w #[] 0 (Nat.le_refl _) (by decide) rfl) (.slice (some a) 0 c) 0 [] rfl (.inr ⟨a, c, rfl, fun j u hu => by simp at hu⟩) rfl (fun u hu => by simp at hu) ?c3 ?c4 ?c5 ?_)
  case c3 => unfold maxLen; omega
  case c4 => omega
  case c5 => simp
  intro v2 w2 hown2 hgb2
  have HG2 := Lib.hid (((Gr.refl w).allocO _).grown hgb2 (fun q hq => by simp [Value.ownBlock] at hq; omega))
  have HO2 := Lib.hid (show w2.ownsRow w.heap.size 53 1 v2 0 (uvs []) by simpa [uvs] using hown2)
  clear hown2 hgb2
  go_wp2
  go_ret
  exact ⟨_, rfl, HG2.out, HO2.out⟩
theorem new_z (w : World) (a : Addr) (c : Nat) : Calls Try.prog 9 #[.slice (some a) 0 c] w (NEWH ⟨[], [], 0⟩ w) := by
  have HC := Lib.hid (clone_z w a c)
  have t1 : (0 : Int) ≤ (c : Int) := by omega
  go_enter Try.func9, Try.ntmps9
  go_wp2_with (go_at_call 24; refine HC.out.mono ?_; rintro e w1 ⟨sv, rfl, hg1, ho1⟩; obtain ⟨x1, c1, rfl⟩ := own_slice ho1; have HG1 := Lib.hid hg1; have HO1 := Lib.hid ho1; clear hg1 ho1)
  go_ret
  exact ⟨_, rfl, HG1.out.alloc _ _, _, x1, c1, none, 0, [], by rfl, HG1.out.size, heap_alloc_new _ _, owns_gr HO1.out ((Gr.refl _).alloc _ _), World.ownsRow_nil _ _ _ _, evo_nil _ _⟩
theorem new_uz {w : World} {v : Value} {l : List Int} (hl : l.length ≤ 1099511627776) (h : Uz w v l) : Calls Try.prog 9 #[v] w (NEWH ⟨l.take 4096, [], 0⟩ w) := by
  rcases uz_cases h with h | ⟨a, c, rfl, rfl⟩
  · exact new_any hl h
  · exact new_z w a c
theorem sig_cells {w : World} {g : Nat} {a b : Value} {t : TypeId} {z : Nat × Nat} (h : w.heap[g]? = some (.cells #[a, b] t z)) : ∀ j v, (#[a, b] : Array Value).toList[j]? = some v → w.cell? ⟨g, 0 + j, none⟩ = some v := fun j v hv => by
  rw [Nat.zero_add, cell_of_row _ _ j _ _ _ h]
  exact (Array.getElem?_toList ..).symm.trans hv
theorem uz_gr {w w' : World} {v : Value} {l : List Int} (h : Uz w v l) (hg : Gr w w') : Uz w' v l := ⟨us_gr h.1 hg, h.2⟩
theorem nx126 (R : List Int) : ∀ n, nxL (fun _ => 126) R n = ((List.range n).map (fun k => R.getD k 0), R.drop n)
  | 0 => rfl
  | n + 1 => by
    rw [nxL, nx126 R n]
    unfold nxE
    rw [if_neg (show ¬ (126 : Int) = 127 by decide), if_neg (show ¬ (126 : Int) = 123 by decide), List.range_succ, List.map_append, List.tail_drop]
    congr 2
    unfold hdI
    simp [List.getD_eq_getElem?_getD, List.headD_eq_head?_getD, List.head?_drop]
/-- how many are taken at the i-th call -/
def mI (T : List Int) (i : Nat) : Nat := if T.length = 0 then 0 else i % (min T.length 5)
theorem mI_le (T : List Int) (i : Nat) : mI T i ≤ T.length ∧ mI T i ≤ 5 := by
  unfold mI
  split
  · omega
  · have := Nat.mod_lt i (show 0 < min T.length 5 by omega)
    omega
/-- the events of the first i calls -/
def evI (T : List Int) (i : Nat) : List (Int × List Int) := (List.range i).map fun (j : Nat) => ((j : Int), T.take (mI T j))
theorem evI_len (T : List Int) (i : Nat) : (evI T i).length = i := by unfold evI; simp
theorem evI_succ (T : List Int) (i : Nat) : evI T (i + 1) = evI T i ++ [((i : Int), T.take (mI T i))] := by
  unfold evI
  rw [List.range_succ, List.map_append]; rfl
theorem evI_get (T : List Int) {i j : Nat} (h : j < i) : (evI T i)[j]? = some ((j : Int), T.take (mI T j)) := by
  unfold evI
  simp [h]
/-- how many replies are gone ahead of the i-th call -/
def atI (G : Nat → Nat) : Nat → Nat
  | 0 => 0
  | i + 1 => atI G i + G i
theorem take_u64l {l : List Int} (h : U64L l) (n : Nat) : U64L (l.take n) := fun j => by
  by_cases hj : j < n
  · have := h j
    rw [List.getD_eq_getElem?_getD, List.getElem?_take_of_lt hj, ← List.getD_eq_getElem?_getD]; exact this
  · rw [List.getD_eq_getElem?_getD, List.getElem?_eq_none (by rw [List.length_take]; omega)]; constructor <;> decide
theorem us_take {w : World} {x : Option Addr} {n c : Nat} {l : List Int} (h : Us w (.slice x n c) l) (hn : n = l.length) {m : Nat} (hm : m ≤ l.length) : U64c w (.slice x m c) m fun j => (l.take m).getD j 0 := by
  rcases h with ⟨h0, x', c', e⟩ | ⟨hl, b, off, cap, hc, e, hcell⟩
  · have : m = 0 := by omega
    subst this
    exact .inl ⟨rfl, _, _, rfl⟩
  · injection e with e1 _ e2
    subst e1 e2
    refine .inr ⟨by omega, b, off, c, by omega, rfl, fun j hj => ?_⟩
    have h1 := hcell j (by omega)
    have e : (l.take m).getD j 0 = l.getD j 0 := by rw [List.getD_eq_getElem?_getD, List.getElem?_take_of_lt hj, ← List.getD_eq_getElem?_getD]
    show w.cell? _ = some (.int .u64 ((l.take m).getD j 0))
    rw [e]; exact h1
/-- bytes that were given -/
def U8g (w : World) (v : Value) (n : Nat) (g : Nat → Int) : Prop := (n = 0 ∧ ∃ x c, v = .slice x 0 c) ∨ ∃ b off cap, v = .slice (some ⟨b, off, none⟩) n cap ∧ ∀ j, j < n → w.cell? ⟨b, off + j, none⟩ = some (.int .u8 (g j))
theorem u8g_gr {w w' : World} {v : Value} {n : Nat} {g : Nat → Int} (h : U8g w v n g) (hg : Gr w w') : U8g w' v n g := by
  rcases h with h | ⟨b, off, cap, rfl, hc⟩
  · exact .inl h
  · exact .inr ⟨b, off, cap, rfl, fun j hj => gr_cell hg (hc j hj)⟩
theorem u8g_slice {w : World} {v : Value} {n : Nat} {g : Nat → Int} (h : U8g w v n g) : ∃ x c, v = .slice x n c := by
  rcases h with ⟨rfl, x, c, rfl⟩ | ⟨b, off, cap, rfl, _⟩
  · exact ⟨_, _, rfl⟩
  · exact ⟨_, _, rfl⟩
theorem gives_mod {z : Int} (h : 0 ≤ z ∧ z ≤ 255) : Int.tmod z 4 = ((z.toNat % 4 : Nat) : Int) := by
  rw [Int.tmod_eq_emod_of_nonneg h.1]; omega
theorem drop_get (R : List Int) (a k : Nat) : (R.drop a).getD k 0 = R.getD (a + k) 0 := by
  simp [List.getD_eq_getElem?_getD, List.getElem?_drop]
/-- what a call leaves -/
def TP (wn : World) (h : Nat) (M F : Nat → Prop) (B : Nat) (p : List Int × Int × Ho) (sv : Value) : Prop :=
  ∃ M' F', Hst wn h M' F' p.2.2 ∧ (∀ k, M' k → M k ∨ B ≤ k) ∧ (∀ k, F' k → F k ∨ B ≤ k) ∧ wn.ownsRow B 53 1 sv p.1.length (uvs p.1)
theorem tp_gr {wn wn' : World} {h : Nat} {M F : Nat → Prop} {B : Nat} {p : List Int × Int × Ho} {sv : Value} (ht : TP wn h M F B p sv) (hg : Gr wn wn') : TP wn' h M F B p sv := by
  obtain ⟨M', F', h1, h2, h3, h4⟩ := ht
  exact ⟨M', F', hst_gr h1 hg, h2, h3, owns_gr h4 hg⟩
theorem atI_le {G : Nat → Nat} (h : ∀ j, G j ≤ 3) : ∀ k, atI G k ≤ 3 * k
  | 0 => by simp [atI]
  | k + 1 => by
    have := atI_le h k
    have := h k
    simp only [atI]; omega
/-- the answer of one call of the law -/
theorem call_turn (R : List Int) (E : List (Int × List Int)) (i : Int) {t : List Int} (ht : U64L t) (n m : Nat) (hm : t.length = m) (hE : E.length < 1024) : callO ⟨R, E, 0⟩ i (exB ⟨#[104, 111, 115, 116]⟩ ⟨#[108, 111, 103]⟩) (fun _ => 126) (fun j => t.getD j 0) m m (fun _ => 126) n =
    ((List.range n).map (fun k => R.getD k 0), 0, ⟨R.drop n, E ++ [(i, t)], 0⟩) := by
  subst hm
  have h := callO126 ⟨R, E, 0⟩ i (exB ⟨#[104, 111, 115, 116]⟩ ⟨#[108, 111, 103]⟩) ht (fun _ => 126) n (ok126 n) hE
  rw [if_neg (by rw [show exB ⟨#[104, 111, 115, 116]⟩ ⟨#[108, 111, 103]⟩ = false by kernel_rfl]; decide), nx126] at h
  exact h
set_option maxRecDepth 100000 in
set_option maxHeartbeats 16000000 in
theorem turns_law {w : World} {v vt vg : Value} {l T : List Int} {N : Nat} {g : Nat → Int} (hl : l.length ≤ 1048576) (hT : T.length ≤ 1048576) (hbl : U64L l) (hbT : U64L T) (hg : ∀ j, 0 ≤ g j ∧ g j ≤ 255) (hN : N ≤ 1048576) (h0 : Uz w v l) (h1 : Us w vt T) (h2 : U8g w vg N g) :
    Calls Try.prog 4 #[v, vt, vg] w fun e w' => e = .returned (.bool true) ∧ Gr w w' := by
  have HU0 := Lib.hid (fun wx (hg : Gr w wx) => uz_gr h0 hg)
  obtain ⟨xh, ch, rfl⟩ := us_slice h0.1
  have HH := Lib.hid (fun wx (hg : Gr w wx) => us_gr h0.1 hg)
  have HT := Lib.hid (fun wx (hg : Gr w wx) => us_gr h1 hg)
  obtain ⟨xt, ct, rfl⟩ := us_slice h1
  have HGv := Lib.hid (fun wx (hg : Gr w wx) => u8g_gr h2 hg)
  obtain ⟨xg, cg, rfl⟩ := u8g_slice h2
  have HL := Lib.hid hl
  have HTL := Lib.hid hT
  have HNL := Lib.hid hN
  have HBL := Lib.hid hbl
  have HBT := Lib.hid hbT
  have HgB := Lib.hid hg
  clear h0 h1 h2 hl hT hN hbl hbT hg
  obtain ⟨i0, hi, hz0, hz1, hz2⟩ := info_parts infoI
  have HI := Lib.hid hi
  have HZ0 := Lib.hid hz0
  have HZ1 := Lib.hid hz1
  have HZ2 := Lib.hid hz2
  clear hi hz0 hz1 hz2
  go_enter Try.func4, Try.ntmps4
  go_upto_region 3 with (go_at_call 8; refine (awake_any _).mono ?_; rintro e w1 ⟨rfl, hg1⟩; have HG1 := Lib.hid hg1; clear hg1)
  have HNw := Lib.hid (new_uz (by have := HL.out; omega) (HU0.out w1 HG1.out))
  go_upto_region 4 with (go_at_call 9; refine HNw.out.mono ?_; rintro e w2 ⟨v, rfl, hg2, hn2⟩; obtain ⟨h, M0, F0, rfl, hst, hmf⟩ := newH_hst hn2; have HG2 := Lib.hid hg2; have HST2 := Lib.hid hst; have HMF2 := Lib.hid hmf; clear hg2 hn2 hst hmf)
  obtain ⟨G, hG⟩ : ∃ G : Nat → Nat, G = fun j => (g j).toNat % 4 := ⟨_, rfl⟩
  have HGd := Lib.hid hG
  clear hG
  go_wp2_with fail
  go_loopw [8, 9, 10] (fun at_ cl i wr => ∃ (k : Nat) (M F : Nat → Prop), k ≤ N ∧ k ≤ 1024 ∧ i = .int .i64 k ∧ cl = .int .i64 k ∧ at_ = .int .i64 (atI G k : Nat) ∧ Gr w1 wr ∧ Hst wr h M F ⟨(l.take 4096).drop (atI G k), evI T k, 0⟩ ∧ (∀ q, M q ∨ F q → w1.heap.size ≤ q)) (fun _ _ i _ => N - (intOf i).toNat)
  case atStart => exact ⟨0, M0, F0, by omega, by omega, rfl, rfl, rfl, HG2.out, HST2.out, HMF2.out⟩
  case round =>
    obtain ⟨k, M, F, hkN, hk4, rfl, rfl, rfl, hgr, hst, hmf⟩ := hrel
    have HGr := Lib.hid hgr
    have HST := Lib.hid hst
    have HMF := Lib.hid hmf
    clear hgr hst hmf
    by_cases hlt : k < N ∧ k < 1024
    · obtain ⟨hlN, hl4⟩ := hlt
      have t1 : (k : Int) < (N : Int) := by omega
      have t2 : (k : Int) < 1024 := by omega
      rcases HGv.out wr (gr_trans HG1.out HGr.out) with ⟨hN0, _⟩ | ⟨bg, og, cg', hd, hcell⟩
      · omega
      injection hd with hd1 _ hd2
      subst hd1 hd2
      have h8 := gr_cell ((Gr.refl wr).alloc #[.slice none 0 0, .slice none 0 0] 35) (hcell k hlN)
      have htm := gives_mod (HgB.out k)
      have hGk : G k = (g k).toNat % 4 := by rw [HGd.out]
      have hG3 : G k ≤ 3 := by omega
      rw [← hGk] at htm
      have hwr : IntKind.i64.wrap ((G k : Nat) : Int) = ((G k : Nat) : Int) := by rw [IntKind.wrap_i64]; omega
      have HG3n := Lib.hid hG3
      clear hcell hGk hG3
      generalize g k = gk at *
      generalize hgk : G k = n at *
      have HGK := Lib.hid hgk
      clear hgk
      go_upto_region 13 with (fail)
      have HR2 := Lib.hid (heap_alloc_new wr (.cells #[.slice none 0 0, .slice none 0 0] 35))
      have HGa := Lib.hid ((Gr.refl wr).alloc #[.slice none 0 0, .slice none 0 0] 35)
      have HZa2 := Lib.hid (show (wr.alloc (.cells #[.slice none 0 0, .slice none 0 0] 35)).heap.size = wr.heap.size + 1 by simp)
      generalize wr.alloc (.cells #[.slice none 0 0, .slice none 0 0] 35) = wa at *
      generalize hgs : wr.heap.size = gs at *
      have HGs := Lib.hid hgs
      clear hgs
      generalize wr = wo at *
      go_wp2_with fail
      go_loopw [13] (fun i wx => ∃ (q : Nat) (sv : Value), q ≤ n ∧ i = .int .i64 q ∧ Gr wo wx ∧ wx.heap[gs]? = some (.cells #[.slice none 0 0, sv] 35 (0, 0)) ∧ wx.ownsRow (gs + 1) 3 1 sv q (ivs (reps q))) (fun i _ => n - (intOf i).toNat)
      case atStart => exact ⟨0, .slice none 0 0, by omega, rfl, HGa.out, HR2.out, World.ownsRow_nil _ _ _ _⟩
      case round => as_aux_lemma =>
        obtain ⟨q, sv, hq, rfl, hgx, hrow, hown⟩ := hrel
        have HGx := Lib.hid hgx
        have HRx := Lib.hid hrow
        have HOx := Lib.hid hown
        have HZx := Lib.hid (heap_lt hrow)
        by_cases hqn : q < n
        · obtain ⟨b0, b1⟩ := cells2 hrow
          obtain ⟨x0, c0, rfl⟩ := own_slice hown
          clear hgx hrow hown
          have HOa := Lib.hid (HOx.out.alloc (.cells #[.int .i64 126] 3))
          have HSa := Lib.hid (lit_src wr #[.int .i64 126] 3 1 1)
          have hs63 : q ≤ 1048576 := by have := HG3n.out; omega
          go_upto_region 15 with (at_builtin; refine wpList_append_src rfl _ _ 33 rfl (gs + 1) 3 i0 (.int .i64 0) 1 8 Try.underlying33 HI.out HZ0.out HZ1.out HZ2.out rfl (by decide) (.slice x0 q c0) q (ivs (reps q)) rfl HOa.out _ 1 [.int .i64 126] rfl HSa.out rfl (fun u hu => by simp at hu; subst hu; rfl) ?c3 ?c4 ?c5 ?_)
          case c3 => unfold maxLen; omega
          case c4 => omega
          case c5 => have := HZx.out; simp; omega
          intro v3 w3 hr hgb
          have hSg := Sep.grown (ex := fun z => (Value.slice x0 q c0).ownBlock = some z) hgb (fun z hz => hz)
          have hRw := hSg.at_ (fun hz => by have := (own_row HOx.out _ hz).1; omega) (gr_block ((Gr.refl wr).allocO (.cells #[.int .i64 126] 3)) HRx.out)
          have HG3 := Lib.hid (show Gr wo w3 from Sep.toGr (HGx.out.allocO _) hSg (fun z hz => by have := (own_row HOx.out _ hz).1; have := HGs.out; omega))
          obtain ⟨x3, c3, rfl⟩ := own_slice hr
          obtain ⟨d0, d1⟩ := cells2 hRw
          have fz := froz hRw 1
          have HO3 := Lib.hid (show w3.ownsRow (gs + 1) 3 1 (.slice x3 (q + 1) c3) (q + 1) (ivs (reps (q + 1))) by rw [ivs_reps]; exact hr)
          have HR3 := Lib.hid hRw
          have HSg := Lib.hid (Sep.trans (Sep.of_gr ((Gr.refl wr).allocO (.cells #[.int .i64 126] 3))) hSg)
          clear hr hgb hSg hRw b0 b1
          go_wp2_with fail
          have hs4 := Sep.setCell (ex := fun z => z = gs) w3 (p := ⟨gs, 1, none⟩) rfl (.slice x3 (q + 1) c3)
          have HR4 := Lib.hid (setCell_cell HR3.out 1 (.slice x3 (q + 1) c3))
          have HO4 := Lib.hid (hs4.owns HO3.out (fun z hz e => by have := (own_row HO3.out _ hz).1; omega))
          have HG4 := Lib.hid (show Gr wo (w3.setCell ⟨gs, 1, none⟩ (.slice x3 (q + 1) c3)) from Sep.toGr HG3.out hs4 (fun z hz => by have := HGs.out; omega))
          clear hs4
          generalize w3.setCell ⟨gs, 1, none⟩ (.slice x3 (q + 1) c3) = w4 at *
          go_wp2
          exact ⟨⟨q + 1, _, by omega, by go_num, HG4.out, HR4.out, HO4.out⟩, by simp [intOf]; omega⟩
        · have hqe : n = q := by omega
          subst hqe
          obtain ⟨x0, c0, rfl⟩ := own_slice hown
          clear hgx hrow hown hq hqn
          have HG3 := Lib.hid HGx.out
          have HR3 := Lib.hid HRx.out
          have HOo := Lib.hid HOx.out
          generalize wr = wb at *
          generalize x0 = xo at *
          generalize c0 = co at *
          have HR3a := Lib.hid HR3.out
          have HBo := Lib.hid (show ∀ z, (Value.slice xo n co).ownBlock = some z → z < wb.heap.size from fun z hz => (HOo.out.lt z hz).2)
          have HmT := Lib.hid (mI_le T k)
          go_upto_if 55 with (fail)
          go_cut [1, 14] from 27 to 150 (fun s c wx => s = .slice xt T.length ct ∧ c = .int .i64 (mI T k : Nat) ∧ wx = wb)
          case first => as_aux_lemma =>
            by_cases hT0 : T.length = 0
            · have n0 : ¬ (0 : Int) < (T.length : Int) := by omega
              have hm0 : mI T k = 0 := if_pos hT0
              go_wp2
              go_meet
              exact ⟨by first | rfl | rw [hT0], by rw [hm0]; rfl, rfl⟩
            · have n0 : (0 : Int) < (T.length : Int) := by omega
              have n0' : 0 < T.length := by omega
              have nz : ((T.length : Int) == 0) = false := by rw [beq_eq_false_iff_ne]; omega
              have HMe' : mI T k = k % (min T.length 5) := if_neg hT0
              by_cases hT5 : T.length ≤ 5
              · have n5 : (T.length : Int) ≤ 5 := by omega
                rw [show min T.length 5 = T.length by omega] at HMe'
                have tmm : Int.tmod (k : Int) (T.length : Int) = ((mI T k : Nat) : Int) := by rw [HMe', Int.tmod_eq_emod_of_nonneg (by omega)]; omega
                clear HMe'
                go_wp2
                go_meet
                exact ⟨rfl, rfl, rfl⟩
              · have n5 : ¬ (T.length : Int) ≤ 5 := by omega
                rw [show min T.length 5 = 5 by omega] at HMe'
                have tmm : Int.tmod (k : Int) 5 = ((mI T k : Nat) : Int) := by rw [HMe', Int.tmod_eq_emod_of_nonneg (by omega)]; omega
                clear HMe'
                go_wp2
                go_meet
                exact ⟨rfl, rfl, rfl⟩
          case rest => as_aux_lemma =>
            obtain ⟨rfl, rfl, hwx⟩ := hcut
            subst hwx
            try generalize wc = wb at *
            have HM5 := Lib.hid (show mI T k ≤ 5 from HmT.out.2)
            generalize hmm : mI T k = m at *
            have HMe := Lib.hid hmm
            clear hmm
            go_wp2_with fail
            go_loopw [15] (fun i wx => ∃ (q : Nat) (sv : Value), q ≤ m ∧ i = .int .i64 q ∧ Gr wo wx ∧ wx.heap[gs]? = some (.cells #[sv, .slice xo n co] 35 (0, 0)) ∧ wx.ownsRow (wb.heap.size) 3 1 sv q (ivs (reps q)) ∧ wb.heap.size ≤ wx.heap.size ∧ wx.ownsRow (gs + 1) 3 1 (.slice xo n co) n (ivs (reps n))) (fun i _ => m - (intOf i).toNat)
            case atStart => exact ⟨0, .slice none 0 0, by omega, rfl, HG3.out, HR3.out, World.ownsRow_nil _ _ _ _, Nat.le_refl _, HOo.out⟩
            case round => as_aux_lemma =>
              obtain ⟨q, sv, hq, rfl, hgx, hrow, hown, hsz3, hoo⟩ := hrel
              have HGx := Lib.hid hgx
              have HRx := Lib.hid hrow
              have HOx := Lib.hid hown
              have HZx := Lib.hid (heap_lt hrow)
              have HOx2 := Lib.hid hoo
              clear hoo
              by_cases hqn : q < m
              · obtain ⟨b0, b1⟩ := cells2 hrow
                obtain ⟨x0, c0, rfl⟩ := own_slice hown
                clear hgx hrow hown
                have HOa := Lib.hid (HOx.out.alloc (.cells #[.int .i64 126] 3))
                have HSa := Lib.hid (lit_src wr #[.int .i64 126] 3 1 1)
                have hs63 : q ≤ 1048576 := by have := HM5.out; omega
                go_upto_region 22 with (at_builtin; refine wpList_append_src rfl _ _ 33 rfl (wb.heap.size) 3 i0 (.int .i64 0) 1 8 Try.underlying33 HI.out HZ0.out HZ1.out HZ2.out rfl (by decide) (.slice x0 q c0) q (ivs (reps q)) rfl HOa.out _ 1 [.int .i64 126] rfl HSa.out rfl (fun u hu => by simp at hu; subst hu; rfl) ?c3 ?c4 ?c5 ?_)
                case c3 => unfold maxLen; omega
                case c4 => omega
                case c5 => have := hsz3; simp; omega
                intro v3 w3 hr hgb
                have hSg := Sep.grown (ex := fun z => (Value.slice x0 q c0).ownBlock = some z) hgb (fun z hz => hz)
                have hRw := hSg.at_ (fun hz => by have := (own_row HOx.out _ hz).1; have := hsz3; have := heap_lt HR3a.out; omega) (gr_block ((Gr.refl wr).allocO (.cells #[.int .i64 126] 3)) HRx.out)
                have HG3 := Lib.hid (show Gr wo w3 from Sep.toGr (HGx.out.allocO _) hSg (fun z hz => by have := (own_row HOx.out _ hz).1; have := HGs.out; have := hsz3; have := heap_lt HR3a.out; omega))
                obtain ⟨x3, c3, rfl⟩ := own_slice hr
                obtain ⟨d0, d1⟩ := cells2 hRw
                have fz := froz hRw 0
                have HO3 := Lib.hid (show w3.ownsRow (wb.heap.size) 3 1 (.slice x3 (q + 1) c3) (q + 1) (ivs (reps (q + 1))) by rw [ivs_reps]; exact hr)
                have HR3 := Lib.hid hRw
                have HSg := Lib.hid (Sep.trans (Sep.of_gr ((Gr.refl wr).allocO (.cells #[.int .i64 126] 3))) hSg)
                clear hr hgb hSg hRw b0 b1
                go_wp2_with fail
                have hs4 := Sep.setCell (ex := fun z => z = gs) w3 (p := ⟨gs, 0, none⟩) rfl (.slice x3 (q + 1) c3)
                have HR4 := Lib.hid (setCell_cell HR3.out 0 (.slice x3 (q + 1) c3))
                have HO4 := Lib.hid (hs4.owns HO3.out (fun z hz e => by have := (own_row HO3.out _ hz).1; have := hsz3; have := heap_lt HR3a.out; omega))
                have HG4 := Lib.hid (show Gr wo (w3.setCell ⟨gs, 0, none⟩ (.slice x3 (q + 1) c3)) from Sep.toGr HG3.out hs4 (fun z hz => by have := HGs.out; omega))
                have hsw4 := Nat.le_trans HSg.out.size hs4.size
                have HOy := Lib.hid (hs4.owns (HSg.out.owns HOx2.out (fun z hz e => by have := (own_row HOx.out _ e).1; have := HBo.out z hz; omega)) (fun z hz e => by have := (own_row HOo.out z hz).1; omega))
                clear hs4
                generalize w3.setCell ⟨gs, 0, none⟩ (.slice x3 (q + 1) c3) = w4 at *
                go_wp2
                exact ⟨⟨q + 1, _, by omega, by go_num, HG4.out, HR4.out, HO4.out, Nat.le_trans hsz3 hsw4, HOy.out⟩, by simp [intOf]; omega⟩
              · have hqe : m = q := by omega
                subst hqe
                obtain ⟨x0, c0, rfl⟩ := own_slice hown
                clear hgx hrow hown hq hqn
                have HG4 := Lib.hid HGx.out
                have HR4 := Lib.hid HRx.out
                have HOi := Lib.hid HOx.out
                have HOo4 := Lib.hid HOx2.out
                generalize wr = w4 at *
                generalize x0 = xi at *
                generalize c0 = ci at *
                clear HRx HOx HOx2 HGx HZx
                have HMT := Lib.hid (show m ≤ T.length by first | exact HmT.out.1 | omega)
                have hTU := us_take (HT.out w4 (gr_trans HG1.out (gr_trans HGr.out HG4.out))) rfl HMT.out
                have hmc : ((m : Nat) : Int) ≤ (ct : Int) := by
                  rcases hTU with ⟨h0, _⟩ | ⟨_, _, _, c', hc, e, _⟩
                  · omega
                  · injection e with _ _ e
                    omega
                have hm0 : (0 : Int) ≤ ((m : Nat) : Int) := by omega
                obtain ⟨pp, hpp⟩ : ∃ pp : List Int × Int × Ho, pp = ((List.range n).map (fun z => ((l.take 4096).drop (atI G k)).getD z 0), 0, ⟨((l.take 4096).drop (atI G k)).drop n, evI T k ++ [((k : Int), T.take m)], 0⟩) := ⟨_, rfl⟩
                have HPP := Lib.hid hpp
                have HP21 := Lib.hid (show pp.2.1 = 0 by rw [hpp])
                have HCall := Lib.hid (fun wx (hg : Gr w4 wx) => show Calls _ _ _ _ (CALL wx h M F pp) from by
                  rw [hpp, ← call_turn ((l.take 4096).drop (atI G k)) (evI T k) (k : Int) (take_u64l HBT.out m) n m (by rw [List.length_take]; have := HMT.out; omega) (by rw [evI_len]; omega)]
                  exact call_any (w := wx) (i := (k : Int)) (z := 0) (a := ⟨#[104, 111, 115, 116]⟩) (b := ⟨#[108, 111, 103]⟩) (n := m) (no := n) (m := m) (by have := HM5.out; omega) (by have := HG3n.out; omega) (by show (evI T k).length ≤ 1024; rw [evI_len]; omega) (hst_gr HST.out (gr_trans HG4.out hg)) (i64s_gr (i64s_own HOi.out) hg) (i64s_gr (i64s_own HOo4.out) hg) (fun q hq hmq => by have h1 := (own_row HOo4.out q hq).1; have h2 := ((hst_h HST.out).2.1 q hmq).1; have h3 := HGs.out; omega) (u64c_gr hTU hg))
                clear hpp hTU
                go_upto_region 24 with (fail)
                refine wp_region_facs [0, 0, 0, 0, 0, 0, 48, 127, 255, 511, 511, 1023, 4095] [(fun wx => Gr w4 wx, [7])] (fun _ => []) (fun kx q => kx = 7 ∧ M q) (fun jφ v wn => match jφ with | 0 => v = .pointer (some ⟨h, 0, none⟩) | 1 => v = .int .i64 (k : Int) | 2 => v = .agg #[.string ⟨#[104, 111, 115, 116]⟩, .string ⟨#[108, 111, 103]⟩, .int .i64 0] | 3 => v = .agg #[.slice xi m ci, .slice xo n co] | 4 => v = .slice xt T.length ct | 5 => v = .int .i64 (m : Int) | 6 => v = .slice xt m ct | 7 => ∃ sv, v = .tuple #[sv, .int .i64 0] ∧ TP wn h M F w4.heap.size pp sv | 8 => ∃ sv, v = .tuple #[sv, .int .i64 0] ∧ TP wn h M F w4.heap.size pp sv | 9 => TP wn h M F w4.heap.size pp v | 10 => v = .int .i64 0 | 11 => TP wn h M F w4.heap.size pp v | 12 => v = .int .i64 0 | _ => True) (by kernel_rfl) (by kernel_rfl) (by kernel_rfl) ?_ ?_ ?_ ?_ ?_
                · exact ⟨Gr.drew (Gr.refl w4), trivial⟩
                · exact ⟨(fun k hk w1 w2 hs h => (fun h g => gr_trans h g) h (gr_of_sep (hs.mono fun q hq => hk (by simp [hq.1])))), trivial⟩
                · intro j k hjk hb haf v w1 w2 hS h
                  match j, hjk, hb, haf, h with
                  | 0, hjk, hb, haf, h => exact h
                  | 1, hjk, hb, haf, h => exact h
                  | 2, hjk, hb, haf, h => exact h
                  | 3, hjk, hb, haf, h => exact h
                  | 4, hjk, hb, haf, h => exact h
                  | 5, hjk, hb, haf, h => exact h
                  | 6, hjk, hb, haf, h => exact h
                  | 7, hjk, hb, haf, h => have hg := gr_of_sep (hS.mono fun q hq => hjk hq.1); obtain ⟨sv, h1, h2⟩ := h; exact ⟨sv, h1, tp_gr h2 hg⟩
                  | 8, hjk, hb, haf, h => have hg := gr_of_sep (hS.mono fun q hq => not_aft haf (m := 7) (by kernel_rfl) hq.1); obtain ⟨sv, h1, h2⟩ := h; exact ⟨sv, h1, tp_gr h2 hg⟩
                  | 9, hjk, hb, haf, h => have hg := gr_of_sep (hS.mono fun q hq => not_aft haf (m := 7) (by kernel_rfl) hq.1); exact tp_gr h hg
                  | 10, hjk, hb, haf, h => exact h
                  | 11, hjk, hb, haf, h => have hg := gr_of_sep (hS.mono fun q hq => not_aft haf (m := 7) (by kernel_rfl) hq.1); exact tp_gr h hg
                  | 12, hjk, hb, haf, h => exact h
                  | _ + 13, _, _, _, _ => trivial
                · refine ⟨?_, ?_, ?_, ?_, ?_, ?_, ?_, ?_, ?_, ?_, ?_, ?_, ?_, trivial⟩
                  · refine FacStep.of rfl fun ρ wx hu => ?_
                    have e7 : ρ (.tmp 7) = (.pointer (some ⟨h, 0, none⟩)) := hu.slot 7 (by kernel_rfl)
                    go_simp
                    exact ⟨rfl, Sep.refl _⟩
                  · refine FacStep.of rfl fun ρ wx hu => ?_
                    have e10 : ρ (.tmp 10) = (.int .i64 (k : Int)) := hu.slot 10 (by kernel_rfl)
                    go_simp
                    exact ⟨rfl, Sep.refl _⟩
                  · refine FacStep.of rfl fun ρ wx hu => ?_
                    have ec := hu.con
                    refine fac_build 32 _ rfl #[.string ⟨#[104, 111, 115, 116]⟩, .string ⟨#[108, 111, 103]⟩, .int .i64 0] ?_ rfl
                    simp only [List.map_toArray, List.map_cons, List.map_nil, ec]
                    kernel_rfl
                  · refine FacStep.of rfl fun ρ wx hu => ?_
                    have e11 : ρ (.tmp 11) = (.pointer (some ⟨gs, 0, none⟩)) := hu.slot 11 (by kernel_rfl)
                    have hg4 := hu.fac 0 _ _ rfl (by kernel_rfl)
                    exact fac_load_cells 35 _ rfl gs 0 e11 #[.slice xi m ci, .slice xo n co] _ (sig_cells (gr_block hg4 HR4.out)) Try.underlying35 rfl infoSg rfl
                  · refine FacStep.of rfl fun ρ wx hu => ?_
                    have e1 : ρ (.tmp 1) = (.slice xt T.length ct) := hu.slot 1 (by kernel_rfl)
                    go_simp
                    exact ⟨rfl, Sep.refl _⟩
                  · refine FacStep.of rfl fun ρ wx hu => ?_
                    have e14 : ρ (.tmp 14) = (.int .i64 (m : Int)) := hu.slot 14 (by kernel_rfl)
                    go_simp
                    exact ⟨rfl, Sep.refl _⟩
                  · refine FacStep.of rfl fun ρ wx hu => ?_
                    have e76 : ρ (.tmp 76) = (.slice xt T.length ct) := hu.dep 4 76 (by kernel_rfl)
                    have e77 : ρ (.tmp 77) = (.int .i64 (m : Int)) := hu.dep 5 77 (by kernel_rfl)
                    go_simp
                    exact ⟨rfl, Sep.refl _⟩
                  · refine FacStep.of rfl fun ρ wx hu => ?_
                    have e72 : ρ (.tmp 72) = (.pointer (some ⟨h, 0, none⟩)) := hu.dep 0 72 (by kernel_rfl)
                    have e73 : ρ (.tmp 73) = (.int .i64 (k : Int)) := hu.dep 1 73 (by kernel_rfl)
                    have e74 : ρ (.tmp 74) = (.agg #[.string ⟨#[104, 111, 115, 116]⟩, .string ⟨#[108, 111, 103]⟩, .int .i64 0]) := hu.dep 2 74 (by kernel_rfl)
                    have e75 : ρ (.tmp 75) = (.agg #[.slice xi m ci, .slice xo n co]) := hu.dep 3 75 (by kernel_rfl)
                    have e78 : ρ (.tmp 78) = (.slice xt m ct) := hu.dep 6 78 (by kernel_rfl)
                    have ef21 : ρ (.func 21) = .func (.func 21) #[] #[] := hu.fn 21
                    have hg4 := hu.fac 0 _ _ rfl (by kernel_rfl)
                    go_simp
                    exact (HCall.out wx hg4).mono fun e w5 ⟨sv, M2, F2, h1, h2, h3, h4, h5, h6, _⟩ => ⟨.tuple #[sv, .int .i64 0], by rw [h1, HP21.out], ⟨sv, rfl, M2, F2, h2, fun q hq => (h3 q hq).imp id fun h => Nat.le_trans hg4.size h, fun q hq => (h4 q hq).imp id fun h => Nat.le_trans hg4.size h, owns_base h6 hg4.size⟩, h5.mono fun q hq => by first | exact hq | exact ⟨rfl, hq⟩⟩
                  · refine FacStep.of rfl fun ρ wx hu => ?_
                    have h79 := Lib.hid (hu.dep 7 79 (by kernel_rfl))
                    go_simp
                    exact ⟨h79.out, Sep.refl _⟩
                  · refine FacStep.of rfl fun ρ wx hu => ?_
                    obtain ⟨sv, e71, ht⟩ : ∃ sv, ρ (.tmp 71) = .tuple #[sv, .int .i64 0] ∧ TP wx h M F w4.heap.size pp sv := hu.dep 8 71 (by kernel_rfl)
                    have HTp := Lib.hid ht
                    clear ht
                    go_simp
                    exact ⟨HTp.out, Sep.refl _⟩
                  · refine FacStep.of rfl fun ρ wx hu => ?_
                    obtain ⟨sv, e71, ht⟩ : ∃ sv, ρ (.tmp 71) = .tuple #[sv, .int .i64 0] ∧ TP wx h M F w4.heap.size pp sv := hu.dep 8 71 (by kernel_rfl)
                    clear ht
                    go_simp
                    exact ⟨rfl, Sep.refl _⟩
                  · refine FacStep.of rfl fun ρ wx hu => ?_
                    have h80 := Lib.hid (hu.dep 9 80 (by kernel_rfl))
                    go_simp
                    exact ⟨h80.out, Sep.refl _⟩
                  · refine FacStep.of rfl fun ρ wx hu => ?_
                    have e81 : ρ (.tmp 81) = (.int .i64 0) := hu.dep 10 81 (by kernel_rfl)
                    go_simp
                    exact ⟨rfl, Sep.refl _⟩
                · intro V wN hS hV hC
                  have ht16 : TP wN h M F w4.heap.size pp (V 16) := hV 11 _ rfl rfl
                  have e17 : V 17 = .int .i64 0 := hV 12 _ rfl rfl
                  have HG5 := Lib.hid (show Gr w1 wN from Sep.toGr (gr_trans HGr.out HG4.out) (Sep.trans (Sep.of_gr (Gr.drew (Gr.refl w4))) (hS.mono fun q ⟨_, _, hq⟩ => hq)) (fun q hq => HMF.out q (.inl hq)))
                  obtain ⟨M2, F2, hst2, hm2, hf2, ho2⟩ := ht16
                  have hp1 : pp.1 = (List.range n).map (fun z => ((l.take 4096).drop (atI G k)).getD z 0) := by rw [HPP.out]
                  have hp1n : pp.1.length = n := by rw [hp1]; simp
                  have HMF2x := Lib.hid (show ∀ q, M2 q ∨ F2 q → w1.heap.size ≤ q from fun q hq => by
                    have hz := (gr_trans HGr.out HG4.out).size
                    rcases hq with hq | hq
                    · rcases hm2 q hq with h | h
                      · exact HMF.out q (.inl h)
                      · omega
                    · rcases hf2 q hq with h | h
                      · exact HMF.out q (.inr h)
                      · omega)
                  rw [hp1n] at ho2
                  have HP1 := Lib.hid hp1
                  have HP1n := Lib.hid hp1n
                  clear hp1 hp1n
                  have HO5 := Lib.hid ho2
                  have HST5 := Lib.hid hst2
                  obtain ⟨x5, c5, e16⟩ := own_slice ho2
                  rw [e16] at HO5
                  clear ho2 hst2 hm2 hf2 hV hC hS
                  simp only [putAll, Act.put, Option.map_some, Option.getD_some, List.setIfInBounds_toArray, List.set_cons_succ, List.set_cons_zero]
                  rw [e16, e17]
                  clear e16 e17
                  generalize wN = w5 at *
                  have HA3 := Lib.hid (atI_le (G := G) (fun j => by rw [HGd.out]; show (g j).toNat % 4 ≤ 3; omega) k)
                  go_wp2_with fail
                  go_loopw [8, 18] (fun at_ j wx => ∃ (q aq : Nat), q ≤ n ∧ j = .int .i64 q ∧ at_ = .int .i64 aq ∧ aq = atI G k + q ∧ wx = w5) (fun _ j _ => n - (intOf j).toNat)
                  case atStart => exact ⟨0, atI G k, by omega, rfl, rfl, by omega, rfl⟩
                  case round => as_aux_lemma =>
                    obtain ⟨q, aq, hq, rfl, rfl, haq, hw⟩ := hrel
                    subst hw
                    have HAQ := Lib.hid haq
                    by_cases hqn : q < n
                    · obtain ⟨go, co5, e5, _⟩ := own_some HO5.out (by omega)
                      injection e5 with e5 _ e5'
                      subst e5 e5'
                      have hc := HO5.out.cellAt q (by omega)
                      rw [uvs_get pp.1 (by rw [HP1n.out]; exact hqn)] at hc
                      have hv : pp.1.getD q 0 = (l.take 4096).getD aq 0 := by
                        rw [HP1.out, haq, ← drop_get]
                        simp [List.getD_eq_getElem?_getD, hqn]
                      rw [hv] at hc
                      have tq : (q : Int) < (n : Int) := by omega
                      have hs63 : q ≤ 1048576 := by have := HG3n.out; omega
                      have haL : aq ≤ 4000 := by have := HA3.out; have := HG3n.out; omega
                      clear haq hv
                      by_cases c1 : aq < l.length
                      · by_cases c2 : aq < 4096
                        · have hz : (l.take 4096).getD aq 0 = l.getD aq 0 := by rw [List.getD_eq_getElem?_getD, List.getElem?_take_of_lt c2, ← List.getD_eq_getElem?_getD]
                          rw [hz] at hc
                          rcases HH.out wr (gr_trans HG1.out HG5.out) with ⟨hd, _⟩ | ⟨_, bh, oh, ch', _, hd, hcell⟩
                          · omega
                          injection hd with hd1 _ hd2
                          subst hd1 hd2
                          have hx := hcell aq c1
                          simp only at hx
                          have i1 : (aq : Int) < (l.length : Int) := by omega
                          have i2 : (aq : Int) < 4096 := by omega
                          clear hcell hz
                          generalize l.getD aq 0 = y at *
                          have ny : (y != y) = false := by simp
                          go_wp2
                          exact ⟨⟨q + 1, aq + 1, by omega, by go_num, by go_num, by have := HAQ.out; omega, trivial⟩, by simp [intOf]; omega⟩
                        · omega
                      · have hz : (l.take 4096).getD aq 0 = 0 := by
                          rw [List.getD_eq_getElem?_getD, List.getElem?_eq_none (by rw [List.length_take]; omega)]; rfl
                        rw [hz] at hc
                        have i1 : ¬ (aq : Int) < (l.length : Int) := by omega
                        clear hz
                        go_wp2
                        exact ⟨⟨q + 1, aq + 1, by omega, by go_num, by go_num, by have := HAQ.out; omega, trivial⟩, by simp [intOf]; omega⟩
                    · have hqe : n = q := by omega
                      subst hqe
                      have hst6 : Hst wr h M2 F2 ⟨(l.take 4096).drop (atI G (k + 1)), evI T (k + 1), 0⟩ := by
                        have h6 := HST5.out
                        rw [show pp.2.2 = ⟨((l.take 4096).drop (atI G k)).drop n, evI T k ++ [((k : Int), T.take m)], 0⟩ by rw [HPP.out]] at h6
                        have e1 : ((l.take 4096).drop (atI G k)).drop n = (l.take 4096).drop (atI G (k + 1)) := by
                          rw [List.drop_drop, show atI G (k + 1) = atI G k + G k from rfl, HGK.out]
                        have e2 : evI T (k + 1) = evI T k ++ [((k : Int), T.take m)] := by rw [evI_succ, HMe.out]
                        rw [e2, ← e1]
                        exact h6
                      have HST6 := Lib.hid hst6
                      have HLg := Lib.hid (log_any (by show (evI T (k + 1)).length ≤ 1024; rw [evI_len]; omega) (fun x hx => by
                        unfold evI at hx
                        obtain ⟨y, _, rfl⟩ := List.mem_map.1 hx
                        show (T.take _).length ≤ _
                        rw [List.length_take]
                        have := HTL.out; omega) hst6)
                      clear hst6 HST5 HCall hq hqn
                      as_aux_lemma =>
                      go_upto_region 38 with (go_at_call 15; refine HLg.out.mono ?_; rintro e w6 ⟨s6, L6, rfl, hg6, ho6, hv6⟩; have hl6 : L6.length = k + 1 := hv6.1.trans (evI_len T (k + 1)); rw [hl6] at ho6; obtain ⟨g20, c20, rfl, _, _⟩ := own_some ho6 (by omega); have HG6 := Lib.hid hg6; have HO6 := Lib.hid ho6; have HV6 := Lib.hid hv6; have HL6 := Lib.hid hl6; clear hg6 ho6 hv6 hl6)
                      obtain ⟨pk, hpk⟩ : ∃ pk, L6[k]? = some pk := ⟨_, List.getElem?_eq_getElem (by have := HL6.out; omega)⟩
                      obtain ⟨p0, hp0⟩ : ∃ p0, L6[0]? = some p0 := ⟨_, List.getElem?_eq_getElem (by have := HL6.out; omega)⟩
                      obtain ⟨hk1, hk2⟩ := HV6.out.2 k pk _ hpk (evI_get T (Nat.lt_succ_self k))
                      obtain ⟨h01, _⟩ := HV6.out.2 0 p0 _ hp0 (evI_get T (Nat.succ_pos k))
                      have hc0 := HO6.out.cellAt (k * 2) (by omega)
                      have hc1 := HO6.out.cellAt (k * 2 + 1) (by omega)
                      have hc2 := HO6.out.cellAt (0 * 2) (by omega)
                      rw [(evV_get L6 k pk hpk).1] at hc0
                      rw [(evV_get L6 k pk hpk).2] at hc1
                      rw [(evV_get L6 0 p0 hp0).1] at hc2
                      obtain ⟨fk, avk⟩ := pk
                      obtain ⟨f0, av0⟩ := p0
                      simp only at hk1 hk2 h01 hc0 hc1 hc2
                      subst hk1 h01
                      obtain ⟨tk, htk⟩ : ∃ tk, T.take (mI T k) = tk := ⟨_, rfl⟩
                      rw [htk] at hk2
                      obtain ⟨xa, ca, rfl⟩ := own_slice hk2
                      have HC0 := Lib.hid (show w6.cell? ⟨g20, k * 2, none⟩ = some (.int .i64 (k : Int)) from hc0)
                      have HC1 := Lib.hid hc1
                      have HC2 := Lib.hid (show w6.cell? ⟨g20, 0, none⟩ = some (.int .i64 0) from hc2)
                      have HSN := Lib.hid (fun wx (hg : Gr w6 wx) => same_eq (us_of_owns (owns_gr hk2 hg)) (show Us wx (.slice xt m ct) (T.take m) from by
                        unfold Us
                        have h1 := us_take (HT.out wx (gr_trans HG1.out (gr_trans HG5.out (gr_trans HG6.out hg)))) rfl HMT.out
                        rw [List.length_take, show min m T.length = m by have := HMT.out; omega]
                        exact h1) (by rw [← htk, HMe.out]))
                      clear hpk hp0 hc0 hc1 hc2 hk2
                      refine wp_region_facs [0, 1, 0, 7, 15, 31, 31, 127, 255, 511, 31, 2047, 4095, 8191, 16383, 16383, 65535, 131071, 262143, 16383, 16383, 1589247, 4194303, 8388607, 16777215, 33554431, 67108863, 134217727, 268435455, 536870911, 1073741823, 2147483647] [(fun wx => Gr w6 wx, [])] (fun _ => []) (fun _ _ => False) (fun jφ v wn => match jφ with | 0 => v = .slice (some ⟨g20, 0, none⟩) (k + 1) c20 | 1 => v = .int .i64 ((k : Int) + 1) | 2 => v = .int .i64 ((k : Int) + 1) | 3 => v = .bool false | 4 => v = .bool false | 5 => v = .slice (some ⟨g20, 0, none⟩) (k + 1) c20 | 6 => v = .int .i64 (k : Int) | 7 => v = .pointer (some ⟨g20, k * 2, none⟩) | 8 => v = .pointer (some ⟨g20, k * 2, none⟩) | 9 => v = .int .i64 (k : Int) | 10 => v = .int .i64 (k : Int) | 11 => v = .bool false | 12 => v = .bool false | 13 => v = .bool false | 14 => v = .slice (some ⟨g20, 0, none⟩) (k + 1) c20 | 15 => v = .int .i64 (k : Int) | 16 => v = .pointer (some ⟨g20, k * 2, none⟩) | 17 => v = .pointer (some ⟨g20, k * 2 + 1, none⟩) | 18 => v = .slice xa tk.length ca | 19 => v = .slice xt T.length ct | 20 => v = .int .i64 (m : Int) | 21 => v = .slice xt m ct | 22 => v = .bool true | 23 => v = .bool false | 24 => v = .bool false | 25 => v = .bool false | 26 => v = .slice (some ⟨g20, 0, none⟩) (k + 1) c20 | 27 => v = .pointer (some ⟨g20, 0, none⟩) | 28 => v = .pointer (some ⟨g20, 0, none⟩) | 29 => v = .int .i64 0 | 30 => v = .bool false | 31 => v = .bool false | _ => True) (by kernel_rfl) (by kernel_rfl) (by kernel_rfl) ?_ ?_ ?_ ?_ ?_
                      · exact ⟨Gr.drew (Gr.refl w6), trivial⟩
                      · exact ⟨(fun k _ w1 w2 hs h => gr_trans h (gr_of_sep hs)), trivial⟩
                      · intro j k hjk hb haf v w1 w2 hS h
                        have hg := gr_of_sep hS
                        match j, hjk, hb, haf, h with
                        | 0, hjk, hb, haf, h => exact h
                        | 1, hjk, hb, haf, h => exact h
                        | 2, hjk, hb, haf, h => exact h
                        | 3, hjk, hb, haf, h => exact h
                        | 4, hjk, hb, haf, h => exact h
                        | 5, hjk, hb, haf, h => exact h
                        | 6, hjk, hb, haf, h => exact h
                        | 7, hjk, hb, haf, h => exact h
                        | 8, hjk, hb, haf, h => exact h
                        | 9, hjk, hb, haf, h => exact h
                        | 10, hjk, hb, haf, h => exact h
                        | 11, hjk, hb, haf, h => exact h
                        | 12, hjk, hb, haf, h => exact h
                        | 13, hjk, hb, haf, h => exact h
                        | 14, hjk, hb, haf, h => exact h
                        | 15, hjk, hb, haf, h => exact h
                        | 16, hjk, hb, haf, h => exact h
                        | 17, hjk, hb, haf, h => exact h
                        | 18, hjk, hb, haf, h => exact h
                        | 19, hjk, hb, haf, h => exact h
                        | 20, hjk, hb, haf, h => exact h
                        | 21, hjk, hb, haf, h => exact h
                        | 22, hjk, hb, haf, h => exact h
                        | 23, hjk, hb, haf, h => exact h
                        | 24, hjk, hb, haf, h => exact h
                        | 25, hjk, hb, haf, h => exact h
                        | 26, hjk, hb, haf, h => exact h
                        | 27, hjk, hb, haf, h => exact h
                        | 28, hjk, hb, haf, h => exact h
                        | 29, hjk, hb, haf, h => exact h
                        | 30, hjk, hb, haf, h => exact h
                        | 31, hjk, hb, haf, h => exact h
                        | _ + 32, _, _, _, _ => trivial
                      · refine ⟨?_, ?_, ?_, ?_, ?_, ?_, ?_, ?_, ?_, ?_, ?_, ?_, ?_, ?_, ?_, ?_, ?_, ?_, ?_, ?_, ?_, ?_, ?_, ?_, ?_, ?_, ?_, ?_, ?_, ?_, ?_, ?_, trivial⟩
                        · refine FacStep.of rfl fun ρ wx hu => ?_
                          have e20 : ρ (.tmp 20) = (.slice (some ⟨g20, 0, none⟩) (k + 1) c20) := hu.slot 20 (by kernel_rfl)
                          go_simp
                          exact ⟨rfl, Sep.refl _⟩
                        · refine FacStep.of rfl fun ρ wx hu => ?_
                          have e119 : ρ (.tmp 119) = (.slice (some ⟨g20, 0, none⟩) (k + 1) c20) := hu.dep 0 119 (by kernel_rfl)
                          go_simp
                          exact ⟨rfl, Sep.refl _⟩
                        · refine FacStep.of rfl fun ρ wx hu => ?_
                          have e9 : ρ (.tmp 9) = (.int .i64 ((k : Int) + 1)) := hu.slot 9 (by kernel_rfl)
                          go_simp
                          exact ⟨rfl, Sep.refl _⟩
                        · refine FacStep.of rfl fun ρ wx hu => ?_
                          have e120 : ρ (.tmp 120) = (.int .i64 ((k : Int) + 1)) := hu.dep 1 120 (by kernel_rfl)
                          have e121 : ρ (.tmp 121) = (.int .i64 ((k : Int) + 1)) := hu.dep 2 121 (by kernel_rfl)
                          go_simp
                          exact ⟨rfl, Sep.refl _⟩
                        · refine FacStep.of rfl fun ρ wx hu => ?_
                          have e122 : ρ (.tmp 122) = (.bool false) := hu.dep 3 122 (by kernel_rfl)
                          go_simp
                          exact ⟨rfl, Sep.refl _⟩
                        · refine FacStep.guarded rfl 123 (by kernel_rfl) (fun _ _ h => h) fun ρ wx hu => ?_
                          have e20 : ρ (.tmp 20) = (.slice (some ⟨g20, 0, none⟩) (k + 1) c20) := hu.slot 20 (by kernel_rfl)
                          go_simp
                          exact ⟨rfl, Sep.refl _⟩
                        · refine FacStep.guarded rfl 123 (by kernel_rfl) (fun _ _ h => h) fun ρ wx hu => ?_
                          have e10 : ρ (.tmp 10) = (.int .i64 (k : Int)) := hu.slot 10 (by kernel_rfl)
                          go_simp
                          exact ⟨rfl, Sep.refl _⟩
                        · refine FacStep.guarded rfl 123 (by kernel_rfl) (fun _ _ h => h) fun ρ wx hu => ?_
                          have e124 : ρ (.tmp 124) = (.slice (some ⟨g20, 0, none⟩) (k + 1) c20) := hu.dep 5 124 (by kernel_rfl)
                          have e125 : ρ (.tmp 125) = (.int .i64 (k : Int)) := hu.dep 6 125 (by kernel_rfl)
                          have tk1 : (k : Int) < (k : Int) + 1 := by omega
                          go_simp
                          first | exact ⟨rfl, Sep.refl _⟩ | (rw [if_pos tk1]; exact ⟨rfl, Sep.refl _⟩) | (simp only [if_pos tk1]; exact ⟨rfl, Sep.refl _⟩)
                        · refine FacStep.guarded rfl 123 (by kernel_rfl) (fun _ _ h => h) fun ρ wx hu => ?_
                          have e126 : ρ (.tmp 126) = (.pointer (some ⟨g20, k * 2, none⟩)) := hu.dep 7 126 (by kernel_rfl)
                          go_simp
                          exact ⟨rfl, Sep.refl _⟩
                        · refine FacStep.guarded rfl 123 (by kernel_rfl) (fun _ _ h => h) fun ρ wx hu => ?_
                          have e127 : ρ (.tmp 127) = (.pointer (some ⟨g20, k * 2, none⟩)) := hu.dep 8 127 (by kernel_rfl)
                          have hc := gr_cell (hu.fac 0 _ _ rfl (by kernel_rfl)) HC0.out
                          go_simp
                          exact ⟨rfl, Sep.refl _⟩
                        · refine FacStep.guarded rfl 123 (by kernel_rfl) (fun _ _ h => h) fun ρ wx hu => ?_
                          have e10 : ρ (.tmp 10) = (.int .i64 (k : Int)) := hu.slot 10 (by kernel_rfl)
                          go_simp
                          exact ⟨rfl, Sep.refl _⟩
                        · refine FacStep.guarded rfl 123 (by kernel_rfl) (fun _ _ h => h) fun ρ wx hu => ?_
                          have e128 : ρ (.tmp 128) = (.int .i64 (k : Int)) := hu.dep 9 128 (by kernel_rfl)
                          have e129 : ρ (.tmp 129) = (.int .i64 (k : Int)) := hu.dep 10 129 (by kernel_rfl)
                          go_simp
                          exact ⟨rfl, Sep.refl _⟩
                        · refine FacStep.of rfl fun ρ wx hu => ?_
                          have e123 : ρ (.tmp 123) = (.bool false) := hu.dep 4 123 (by kernel_rfl)
                          have e130 : ρ (.tmp 130) = (.bool false) := hu.dep 11 130 (by kernel_rfl)
                          have ec := hu.con
                          go_simp
                          exact ⟨rfl, Sep.refl _⟩
                        · refine FacStep.of rfl fun ρ wx hu => ?_
                          have e131 : ρ (.tmp 131) = (.bool false) := hu.dep 12 131 (by kernel_rfl)
                          go_simp
                          exact ⟨rfl, Sep.refl _⟩
                        · refine FacStep.guarded rfl 132 (by kernel_rfl) (fun _ _ h => h) fun ρ wx hu => ?_
                          have e20 : ρ (.tmp 20) = (.slice (some ⟨g20, 0, none⟩) (k + 1) c20) := hu.slot 20 (by kernel_rfl)
                          go_simp
                          exact ⟨rfl, Sep.refl _⟩
                        · refine FacStep.guarded rfl 132 (by kernel_rfl) (fun _ _ h => h) fun ρ wx hu => ?_
                          have e10 : ρ (.tmp 10) = (.int .i64 (k : Int)) := hu.slot 10 (by kernel_rfl)
                          go_simp
                          exact ⟨rfl, Sep.refl _⟩
                        · refine FacStep.guarded rfl 132 (by kernel_rfl) (fun _ _ h => h) fun ρ wx hu => ?_
                          have e133 : ρ (.tmp 133) = (.slice (some ⟨g20, 0, none⟩) (k + 1) c20) := hu.dep 14 133 (by kernel_rfl)
                          have e134 : ρ (.tmp 134) = (.int .i64 (k : Int)) := hu.dep 15 134 (by kernel_rfl)
                          have tk1 : (k : Int) < (k : Int) + 1 := by omega
                          go_simp
                          first | exact ⟨rfl, Sep.refl _⟩ | (rw [if_pos tk1]; exact ⟨rfl, Sep.refl _⟩) | (simp only [if_pos tk1]; exact ⟨rfl, Sep.refl _⟩)
                        · refine FacStep.guarded rfl 132 (by kernel_rfl) (fun _ _ h => h) fun ρ wx hu => ?_
                          have e135 : ρ (.tmp 135) = (.pointer (some ⟨g20, k * 2, none⟩)) := hu.dep 16 135 (by kernel_rfl)
                          go_simp
                          exact ⟨rfl, Sep.refl _⟩
                        · refine FacStep.guarded rfl 132 (by kernel_rfl) (fun _ _ h => h) fun ρ wx hu => ?_
                          have e136 : ρ (.tmp 136) = (.pointer (some ⟨g20, k * 2 + 1, none⟩)) := hu.dep 17 136 (by kernel_rfl)
                          have hc := gr_cell (hu.fac 0 _ _ rfl (by kernel_rfl)) HC1.out
                          go_simp
                          exact ⟨rfl, Sep.refl _⟩
                        · refine FacStep.guarded rfl 132 (by kernel_rfl) (fun _ _ h => h) fun ρ wx hu => ?_
                          have e1 : ρ (.tmp 1) = (.slice xt T.length ct) := hu.slot 1 (by kernel_rfl)
                          go_simp
                          exact ⟨rfl, Sep.refl _⟩
                        · refine FacStep.guarded rfl 132 (by kernel_rfl) (fun _ _ h => h) fun ρ wx hu => ?_
                          have e14 : ρ (.tmp 14) = (.int .i64 (m : Int)) := hu.slot 14 (by kernel_rfl)
                          go_simp
                          exact ⟨rfl, Sep.refl _⟩
                        · refine FacStep.guarded rfl 132 (by kernel_rfl) (fun _ _ h => h) fun ρ wx hu => ?_
                          have e138 : ρ (.tmp 138) = (.slice xt T.length ct) := hu.dep 19 138 (by kernel_rfl)
                          have e139 : ρ (.tmp 139) = (.int .i64 (m : Int)) := hu.dep 20 139 (by kernel_rfl)
                          go_simp
                          exact ⟨rfl, Sep.refl _⟩
                        · refine FacStep.guarded rfl 132 (by kernel_rfl) (fun _ _ h => h) fun ρ wx hu => ?_
                          have e137 : ρ (.tmp 137) = (.slice xa tk.length ca) := hu.dep 18 137 (by kernel_rfl)
                          have e140 : ρ (.tmp 140) = (.slice xt m ct) := hu.dep 21 140 (by kernel_rfl)
                          have ef22 : ρ (.func 22) = .func (.func 22) #[] #[] := hu.fn 22
                          have hg6 := hu.fac 0 _ _ rfl (by kernel_rfl)
                          go_simp
                          exact (HSN.out wx hg6).mono fun e w7 ⟨h1, h2⟩ => ⟨_, h1, rfl, Sep.of_gr h2⟩
                        · refine FacStep.guarded rfl 132 (by kernel_rfl) (fun _ _ h => h) fun ρ wx hu => ?_
                          have e141 : ρ (.tmp 141) = (.bool true) := hu.dep 22 141 (by kernel_rfl)
                          go_simp
                          exact ⟨rfl, Sep.refl _⟩
                        · refine FacStep.of rfl fun ρ wx hu => ?_
                          have e132 : ρ (.tmp 132) = (.bool false) := hu.dep 13 132 (by kernel_rfl)
                          have e142 : ρ (.tmp 142) = (.bool false) := hu.dep 23 142 (by kernel_rfl)
                          have ec := hu.con
                          go_simp
                          exact ⟨rfl, Sep.refl _⟩
                        · refine FacStep.of rfl fun ρ wx hu => ?_
                          have e143 : ρ (.tmp 143) = (.bool false) := hu.dep 24 143 (by kernel_rfl)
                          go_simp
                          exact ⟨rfl, Sep.refl _⟩
                        · refine FacStep.guarded rfl 144 (by kernel_rfl) (fun _ _ h => h) fun ρ wx hu => ?_
                          have e20 : ρ (.tmp 20) = (.slice (some ⟨g20, 0, none⟩) (k + 1) c20) := hu.slot 20 (by kernel_rfl)
                          go_simp
                          exact ⟨rfl, Sep.refl _⟩
                        · refine FacStep.guarded rfl 144 (by kernel_rfl) (fun _ _ h => h) fun ρ wx hu => ?_
                          have e145 : ρ (.tmp 145) = (.slice (some ⟨g20, 0, none⟩) (k + 1) c20) := hu.dep 26 145 (by kernel_rfl)
                          have ec := hu.con
                          go_simp
                          exact ⟨rfl, Sep.refl _⟩
                        · refine FacStep.guarded rfl 144 (by kernel_rfl) (fun _ _ h => h) fun ρ wx hu => ?_
                          have e146 : ρ (.tmp 146) = (.pointer (some ⟨g20, 0, none⟩)) := hu.dep 27 146 (by kernel_rfl)
                          go_simp
                          exact ⟨rfl, Sep.refl _⟩
                        · refine FacStep.guarded rfl 144 (by kernel_rfl) (fun _ _ h => h) fun ρ wx hu => ?_
                          have e147 : ρ (.tmp 147) = (.pointer (some ⟨g20, 0, none⟩)) := hu.dep 28 147 (by kernel_rfl)
                          have hc := gr_cell (hu.fac 0 _ _ rfl (by kernel_rfl)) HC2.out
                          go_simp
                          exact ⟨rfl, Sep.refl _⟩
                        · refine FacStep.guarded rfl 144 (by kernel_rfl) (fun _ _ h => h) fun ρ wx hu => ?_
                          have e148 : ρ (.tmp 148) = (.int .i64 0) := hu.dep 29 148 (by kernel_rfl)
                          have ec := hu.con
                          go_simp
                          exact ⟨rfl, Sep.refl _⟩
                        · refine FacStep.of rfl fun ρ wx hu => ?_
                          have e144 : ρ (.tmp 144) = (.bool false) := hu.dep 25 144 (by kernel_rfl)
                          have e149 : ρ (.tmp 149) = (.bool false) := hu.dep 30 149 (by kernel_rfl)
                          have ec := hu.con
                          go_simp
                          exact ⟨rfl, Sep.refl _⟩
                      · intro V wN hS hV hC
                        have h31 : V 150 = .bool false := hV 31 _ rfl rfl
                        have HG7 := Lib.hid (show Gr w6 wN from gr_trans (Gr.drew (Gr.refl w6)) (gr_of_sep (hS.mono fun q hq => hq.elim fun _ h => h)))
                        clear hV hC hS
                        simp only [putAll, Act.put, Option.map_some, Option.getD_some, List.setIfInBounds_toArray, List.set_cons_succ, List.set_cons_zero]
                        rw [h31]
                        go_wp2
                        exact ⟨⟨k + 1, M2, F2, by omega, by omega, by go_num, by go_num, by (try rw [HAQ.out]); rw [show atI G (k + 1) = atI G k + G k from rfl, HGK.out, Int.natCast_add], gr_trans HG5.out (gr_trans HG6.out HG7.out), hst_gr HST6.out (gr_trans HG6.out HG7.out), HMF2x.out⟩, by simp [intOf]; omega⟩
    · have HA3 := Lib.hid (atI_le (G := G) (fun j => by rw [HGd.out]; show (g j).toNat % 4 ≤ 3; omega) k)
      obtain ⟨LW, hLW⟩ : ∃ x, ((l.take 4096).drop (atI G k)).length = x := ⟨_, rfl⟩
      have hLW' : LW = min 4096 l.length - atI G k := by rw [← hLW, List.length_drop, List.length_take]
      have HWa := Lib.hid (fun wx (hg : Gr wr wx) => show Calls _ 17 #[.pointer (some ⟨h, 0, none⟩)] wx fun e w' => e = .returned (.int .i64 (LW : Nat)) ∧ wx = w' from by rw [← hLW]; exact waiting_any (hst_gr HST.out hg))
      have HCo := Lib.hid (fun wx (hg : Gr wr wx) => show Calls _ 19 #[.pointer (some ⟨h, 0, none⟩)] wx fun e w' => e = .returned (.int .u32 0) ∧ wx = w' from code_any (hst_gr HST.out hg))
      clear hLW
      have ha : atI G k ≤ 3072 := by have := HA3.out; omega
      generalize atI G k = a at *
      have HE : (k : Int) < (N : Int) ∧ ¬ (k : Int) < 1024 ∨ ¬ (k : Int) < (N : Int) := by omega
      have HD : l.length < 4096 ∧ a < l.length ∧ (LW : Int) = l.length - a ∨ l.length < 4096 ∧ ¬ a < l.length ∧ LW = 0 ∨ ¬ l.length < 4096 ∧ (LW : Int) = 4096 - a := by omega
      have HLL := HL.out
      clear hLW' hlt HA3 hk4 hkN
      rcases HE with ⟨e1, e2⟩ | e1
      all_goals (rcases HD with ⟨d1, d2, d3⟩ | ⟨d1, d2, d3⟩ | ⟨d1, d3⟩)
      · as_aux_lemma =>
        have f1 : (l.length : Int) < 4096 := by omega
        have f2 : (a : Int) < (l.length : Int) := by omega
        have f3 : (0 : Int) < (l.length : Int) - (a : Int) := by omega
        have f4 : IntKind.i64.wrap ((l.length : Int) - (a : Int)) = (l.length : Int) - (a : Int) := by rw [IntKind.wrap_i64]; omega
        have d4 : (LW : Int) = (l.length : Int) - (a : Int) := d3
        simp only [d4] at HWa
        clear d1 d2 d3
        go_wp2_with (first | (go_at_call 17; refine (HWa.out _ (Gr.refl _)).mono ?_; rintro e wy ⟨rfl, rfl⟩) | (go_at_call 19; refine (HCo.out _ (Gr.refl _)).mono ?_; rintro e wy ⟨rfl, rfl⟩))
        all_goals (go_ret; exact ⟨rfl, gr_trans HG1.out HGr.out⟩)
      · as_aux_lemma =>
        have f1 : (l.length : Int) < 4096 := by omega
        have f2 : ¬ (a : Int) < (l.length : Int) := by omega
        have f3 : (l.length : Int) - (a : Int) ≤ 0 := by omega
        have f4 : IntKind.i64.wrap ((l.length : Int) - (a : Int)) = (l.length : Int) - (a : Int) := by rw [IntKind.wrap_i64]; omega
        have d4 : (LW : Int) = 0 := by omega
        simp only [d4] at HWa
        clear d1 d2 d3
        go_wp2_with (first | (go_at_call 17; refine (HWa.out _ (Gr.refl _)).mono ?_; rintro e wy ⟨rfl, rfl⟩) | (go_at_call 19; refine (HCo.out _ (Gr.refl _)).mono ?_; rintro e wy ⟨rfl, rfl⟩))
        all_goals (go_ret; exact ⟨rfl, gr_trans HG1.out HGr.out⟩)
      · as_aux_lemma =>
        have f1 : ¬ (l.length : Int) < 4096 := by omega
        have f3 : (0 : Int) < 4096 - (a : Int) := by omega
        have f4 : IntKind.i64.wrap (4096 - (a : Int)) = 4096 - (a : Int) := by rw [IntKind.wrap_i64]; omega
        have d4 : (LW : Int) = 4096 - (a : Int) := d3
        have d2 := d1
        simp only [d4] at HWa
        clear d1 d2 d3
        go_wp2_with (first | (go_at_call 17; refine (HWa.out _ (Gr.refl _)).mono ?_; rintro e wy ⟨rfl, rfl⟩) | (go_at_call 19; refine (HCo.out _ (Gr.refl _)).mono ?_; rintro e wy ⟨rfl, rfl⟩))
        all_goals (go_ret; exact ⟨rfl, gr_trans HG1.out HGr.out⟩)
      · as_aux_lemma =>
        have f1 : (l.length : Int) < 4096 := by omega
        have f2 : (a : Int) < (l.length : Int) := by omega
        have f3 : (0 : Int) < (l.length : Int) - (a : Int) := by omega
        have f4 : IntKind.i64.wrap ((l.length : Int) - (a : Int)) = (l.length : Int) - (a : Int) := by rw [IntKind.wrap_i64]; omega
        have d4 : (LW : Int) = (l.length : Int) - (a : Int) := d3
        simp only [d4] at HWa
        clear d1 d2 d3
        go_wp2_with (first | (go_at_call 17; refine (HWa.out _ (Gr.refl _)).mono ?_; rintro e wy ⟨rfl, rfl⟩) | (go_at_call 19; refine (HCo.out _ (Gr.refl _)).mono ?_; rintro e wy ⟨rfl, rfl⟩))
        all_goals (go_ret; exact ⟨rfl, gr_trans HG1.out HGr.out⟩)
      · as_aux_lemma =>
        have f1 : (l.length : Int) < 4096 := by omega
        have f2 : ¬ (a : Int) < (l.length : Int) := by omega
        have f3 : (l.length : Int) - (a : Int) ≤ 0 := by omega
        have f4 : IntKind.i64.wrap ((l.length : Int) - (a : Int)) = (l.length : Int) - (a : Int) := by rw [IntKind.wrap_i64]; omega
        have d4 : (LW : Int) = 0 := by omega
        simp only [d4] at HWa
        clear d1 d2 d3
        go_wp2_with (first | (go_at_call 17; refine (HWa.out _ (Gr.refl _)).mono ?_; rintro e wy ⟨rfl, rfl⟩) | (go_at_call 19; refine (HCo.out _ (Gr.refl _)).mono ?_; rintro e wy ⟨rfl, rfl⟩))
        all_goals (go_ret; exact ⟨rfl, gr_trans HG1.out HGr.out⟩)
      · as_aux_lemma =>
        have f1 : ¬ (l.length : Int) < 4096 := by omega
        have f3 : (0 : Int) < 4096 - (a : Int) := by omega
        have f4 : IntKind.i64.wrap (4096 - (a : Int)) = 4096 - (a : Int) := by rw [IntKind.wrap_i64]; omega
        have d4 : (LW : Int) = 4096 - (a : Int) := d3
        have d2 := d1
        simp only [d4] at HWa
        clear d1 d2 d3
        go_wp2_with (first | (go_at_call 17; refine (HWa.out _ (Gr.refl _)).mono ?_; rintro e wy ⟨rfl, rfl⟩) | (go_at_call 19; refine (HCo.out _ (Gr.refl _)).mono ?_; rintro e wy ⟨rfl, rfl⟩))
        all_goals (go_ret; exact ⟨rfl, gr_trans HG1.out HGr.out⟩)
end Hs
end Go.Proofs.Ytndbgnkobodjkaa
