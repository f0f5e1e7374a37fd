/-
  Of layer 12: ExprForth. Condition: the library's MaxLen reads as some number.
-/
import Derived.Test.YtebkabidojipoaaMe19
namespace Go.Proofs.Ytebkabidojipoaa
open Go.RowKit VecM LebM
namespace Ex
def byL (l : List Int) : Prop := ∀ x ∈ l, 0 ≤ x ∧ x < 256
theorem byL.app {a b : List Int} (h : byL a) (h2 : byL b) : byL (a ++ b) := fun x hx => by
  rcases List.mem_append.1 hx with h' | h'
  · exact h x h'
  · exact h2 x h'
theorem byL.one {n : Int} (h : 0 ≤ n ∧ n < 256) : byL [n] := fun x hx => by
  rw [List.mem_singleton.1 hx]; exact h
theorem lebU_by : ∀ (m : Nat) (n : Int), 0 ≤ n → byL (lebU m n)
  | 0, n, h => by unfold lebU; exact byL.one (by omega)
  | m + 1, n, h => by
    unfold lebU
    split
    · exact byL.one (by omega)
    · intro x hx
      rcases List.mem_cons.1 hx with rfl | hx
      · omega
      · exact lebU_by m (n / 128) (by omega) x hx
theorem formU_by {n : Int} (h : 0 ≤ n) : byL (formU n) := lebU_by 9 n h
theorem formS_by (n : Int) : byL (formS n) := lebS_byte 9 n
theorem tabF_by : ∀ l : List Int, (∀ z ∈ l, 0 ≤ z) → byL (tabF l)
  | [], _ => fun x hx => by simp [tabF] at hx
  | z :: r, h => by
    have e : tabF (z :: r) = formU z ++ tabF r := by unfold tabF; rw [List.flatMap_cons]
    rw [e]
    exact (formU_by (h z (by simp))).app (tabF_by r fun y hy => h y (by simp [hy]))
theorem opcL_by {op : Int} (h : fm op ≠ 0) : byL (opcL op) := by
  unfold opcL
  rcases fm_rng h with h1 | h1
  · rw [if_pos (by omega)]; exact byL.one (by omega)
  · rw [if_neg (by omega)]; exact (byL.one (by decide)).app (formU_by (by omega))
theorem vecL_by (lo hi : Int) : byL (vecL lo hi) := fun x hx => by
  unfold vecL at hx
  obtain ⟨i, _, rfl⟩ := List.mem_map.1 hx
  have := ofK_byt (b := fun _ => 0) (fun _ => ⟨by simp, by simp⟩) 64 (fun j => if j = 0 then lo else hi) 2 i
  unfold vecB
  omega
theorem fldL_by {d : In} {form : Int} (h : fitB d form = true) : byL (fldL d form) := by
  unfold fldL
  unfold fitB at h
  by_cases c2 : form = 2
  · rw [if_pos c2]; exact formS_by _
  rw [if_neg c2] at h ⊢
  by_cases c3 : form = 3 ∨ form = 5
  · simp only [if_pos c3, Bool.and_eq_true, idx_iff] at h ⊢
    exact formU_by h.1.1.1.1.1
  rw [if_neg c3] at h ⊢
  by_cases c4 : form = 4
  · simp only [if_pos c4, Bool.and_eq_true, idx_iff, List.all_eq_true] at h ⊢
    exact ((formU_by (by omega)).app (tabF_by _ fun z hz => (h.1.1.1.2 z hz).1)).app (formU_by h.1.1.1.1.1)
  rw [if_neg c4] at h ⊢
  by_cases c6 : form = 6 ∨ form = 7
  · simp only [if_pos c6, Bool.and_eq_true, idx_iff] at h ⊢
    exact (formU_by h.1.1.1.1.1).app (formU_by h.1.1.1.2.1)
  rw [if_neg c6] at h ⊢
  by_cases c8 : form = 8
  · simp only [if_pos c8, Bool.and_eq_true, idx_iff] at h ⊢
    exact ((formU_by h.1.1.1.1.1).app (formU_by h.1.1.1.2.1)).app (byL.one (by omega))
  rw [if_neg c8]
  split
  · exact formS_by _
  split
  · exact formS_by _
  split
  · exact vecL_by _ _
  split
  · exact byL.one (by omega)
  split
  · exact byL.one (by decide)
  · exact fun x hx => by cases hx
theorem insF_by : ∀ (D : List In) (N : List Int) (cl : Bool), okB D N cl = true → byL (insF D)
  | [], _, _, _ => fun x hx => by simp [insF] at hx
  | d :: r, N, cl, h => by
    unfold okB at h
    rw [Bool.and_eq_true] at h
    rw [insF_cons]
    obtain ⟨h1, h2, _⟩ := good_parts h.1
    exact ((opcL_by h1).app (fldL_by h2)).app (insF_by r _ _ h.2)
theorem own_in {w : World} {base : Nat} {e : TypeId} {size : Nat} {v : Value} {n : Nat} {xs : List Value} (h : w.ownsRow base e size v n xs) : ∀ k, v.ownBlock = some k → k < w.heap.size := by
  intro k hk
  rcases h.2 with ⟨rfl, _⟩ | ⟨g, cap, cur, rfl, _, hg, _⟩
  · cases hk
  · obtain rfl : g = k := by simpa [Value.ownBlock] using hk
    exact (Array.getElem?_eq_some_iff.1 hg).1
theorem szP_mem : ∀ (D : List In), ∀ d ∈ D, d.l.length ≤ szP D
  | [], d, h => by cases h
  | e :: r, d, h => by
    unfold szP
    rcases List.mem_cons.1 h with rfl | h
    · omega
    · have := szP_mem r d h; omega
theorem szP_len : ∀ (D : List In), D.length ≤ szP D
  | [] => by simp [szP]
  | e :: r => by have := szP_len r; unfold szP; rw [List.length_cons]; omega
theorem at_all (L : List Int) : At (lst L) L.length 0 L := ⟨fun j _ => by rw [Nat.zero_add]; rfl, by omega⟩
/-- what is read of what was written -/
theorem read_wr {D : List In} (hok : okB D [] false = true) (hb : ∀ d ∈ D, InB d) : readS (lst (insF D)) (insF D).length 0 = (D, ((insF D).length : Int), 0) := by
  have h := read_back hok hb (at_all (insF D))
  rw [Nat.zero_add] at h
  exact h
set_option maxRecDepth 100000 in
set_option maxHeartbeats 4000000 in
theorem forth_walk (sv : Value) (l : List Int) (hl : ∀ x ∈ l, 0 ≤ x ∧ x < 256) (hll : l.length ≤ 1048576) (w : World) (hm : Ins.Mx w) (hu : U8s w sv l.length (lst l)) (hsv : ∀ k, sv.ownBlock = some k → k < w.heap.size) :
    Calls Try.prog 6 #[sv] w fun e w' => e = .returned (.bool true) ∧ Gr w w' := by
  obtain ⟨x, c, rfl⟩ := u8s_slice hu
  have hwz := mx_size hm
  have hby := lst_by l hl
  have HM := Lib.hid (fun wx (hg : Gr w wx) => Ins.mx_gr hm hg)
  have HR := Lib.hid (fun wx (hg : Gr w wx) => read_any (w := wx) 0 hby (Ins.mx_gr hm hg) (u8s_gr hu hg) (fun k hk => Nat.lt_of_lt_of_le (hsv k hk) hg.size) (by omega) (Nat.lt_of_lt_of_le hwz hg.size))
  have HMW := Lib.hid hm
  by_cases he : (readS (lst l) l.length 0).2.2 = 0
  · obtain ⟨D, e, d1, d2, d3, d4, d5⟩ := fwd_at hby (len := l.length) (l.length + 2) ⟨0, 0⟩ [] false [] ⟨by decide, by dsimp only; omega⟩ (by have := he; unfold readS at this; rw [if_neg (by omega)] at this; exact this)
    rw [List.nil_append] at e
    have er : readS (lst l) l.length 0 = rdS (lst l) l.length (l.length + 2) ⟨0, 0⟩ [] false [] := if_neg (by omega)
    rw [← er] at e d3 d4 d5
    obtain ⟨A, dl, eA, h11⟩ := okB_last D [] d1
    obtain ⟨to, hto⟩ : ∃ to, (readS (lst l) l.length 0).2.1 = to := ⟨_, rfl⟩
    rw [hto] at d3 d4 d5
    dsimp only at d3 d4
    have HRS := Lib.hid (fun wx (hg : Gr w wx) => (HR.out wx hg).mono (show ∀ e w', RDX wx (readS (lst l) l.length 0) e w' → ∃ q c P dL, e = .returned (.tuple #[.slice (some ⟨q, 0, none⟩) (A.length + 1) c, .int .i64 to, .int .i64 0]) ∧ Gr wx w' ∧ P.map (·.1) = D ∧ CdR w' (.slice (some ⟨q, 0, none⟩) (A.length + 1) c) P ∧ P.length = A.length + 1 ∧ q < w'.heap.size ∧ w'.cell? ⟨q, 0 + A.length * 6 + 0, none⟩ = some (.int .i64 11) ∧ dL = 0 from by
      rintro e w' (⟨h, _⟩ | ⟨_, cv, P, rfl, hg1, hP, hcd⟩)
      · exact absurd he h
      · have hPl : P.length = A.length + 1 := by have := congrArg List.length (hP.trans e); rw [eA] at this; simpa using this
        obtain ⟨q, c, rfl, _, _, hq, _⟩ := own_some hcd.1 (by omega)
        have hr := cdR_own hcd
        rw [hPl] at hr ⊢
        rw [hto]
        obtain ⟨p, hp⟩ : ∃ p, P[A.length]? = some p := ⟨_, List.getElem?_eq_getElem (by omega)⟩
        have hpd : p.1 = dl := by
          have := congrArg (·[A.length]?) (hP.trans e)
          simp only [List.getElem?_map, hp, eA] at this
          simpa using this
        obtain ⟨b', off', e9, h9⟩ := (cdR_at hr).2 (by omega)
        obtain ⟨rfl, rfl⟩ : q = b' ∧ 0 = off' := by simpa using e9
        have hc := (h9 A.length p hp).2 0 (.int .i64 p.1.op) rfl
        rw [hpd, h11] at hc
        exact ⟨q, c, P, 0, rfl, hg1, hP.trans e, hr, hPl, hq, hc, rfl⟩))
    have hLb := insF_by D [] false d1
    have hWr := wrS_ok D [] false []
    rw [if_pos d1, List.nil_append] at hWr
    have hRd := read_wr d1 d2
    have hsz : szP D ≤ 1048576 := by omega
    have hDz := szP_len D
    have hDm := szP_mem D
    obtain ⟨L, hL⟩ : ∃ L, insF D = L := ⟨_, rfl⟩
    rw [hL] at d3 hLb hWr hRd
    have HWRT := Lib.hid (fun wx (hg : Gr w wx) v P (hP : P.map (·.1) = D) (hr : CdR wx v P) => (write_any (v := v) (P := P) (Ins.mx_gr hm hg) hr (fun p hp => (d2 p.1 (by rw [← hP]; exact List.mem_map_of_mem hp)).1) (by rw [hP]; exact hsz) (Nat.lt_of_lt_of_le hwz hg.size)).mono (show ∀ e w', WRX wx (wrS (P.map (·.1)) [] false []) e w' → ∃ y c, e = .returned (.tuple #[.slice y L.length c, .int .i64 0]) ∧ Gr wx w' ∧ w'.ownsRow wx.heap.size 5 1 (.slice y L.length c) L.length (u8s L) from by
      intro e w' h
      rw [hP, hWr] at h
      obtain ⟨sv, rfl, h1, h2⟩ := h
      obtain ⟨y, c, rfl⟩ := own_slice h2
      exact ⟨y, c, rfl, h1, h2⟩))
    have HRA := Lib.hid (fun wx (hg : Gr w wx) y c base (ho : wx.ownsRow base 5 1 (.slice y L.length c) L.length (u8s L)) => (read_any (w := wx) (sv := .slice y L.length c) (len := L.length) 0 (lst_by L hLb) (Ins.mx_gr hm hg) (u8s_of_owns ho) (own_in ho) (by omega) (Nat.lt_of_lt_of_le hwz hg.size)).mono (show ∀ e w', RDX wx (readS (lst L) L.length 0) e w' → ∃ z c2 P, e = .returned (.tuple #[.slice z (A.length + 1) c2, .int .i64 L.length, .int .i64 0]) ∧ Gr wx w' ∧ P.map (·.1) = D ∧ CdR w' (.slice z (A.length + 1) c2) P from by
      intro e w' h
      rw [hRd] at h
      rcases h with ⟨h, _⟩ | ⟨_, cv, P, rfl, hg1, hP, hcd⟩
      · exact absurd rfl h
      · obtain ⟨z, c2, rfl⟩ := own_slice hcd.1
        have hPl : P.length = A.length + 1 := by have := congrArg List.length hP; rw [eA] at this; simpa using this
        have hr := cdR_own hcd
        rw [hPl] at hr ⊢
        exact ⟨z, c2, P, rfl, hg1, hP, hr⟩))
    have HSM := Lib.hid (fun wx v1 v2 P1 P2 (h1 : CdR wx v1 P1) (h2 : CdR wx v2 P2) (e1 : P1.map (·.1) = D) (e2 : P2.map (·.1) = D) => same_any h1 h2 (e1.trans e2.symm) (fun p hp => by have := hDm p.1 (by rw [← e1]; exact List.mem_map_of_mem hp); omega) (by have := congrArg List.length e1; simp only [List.length_map] at this; omega))
    have x1 : decide ((L.length : Int) > to) = false := decide_eq_false (by omega)
    have x2 : decide (to > (l.length : Int)) = false := decide_eq_false (by omega)
    have x3 : wrap64 (A.length : Int) = (A.length : Int) := by
      have : A.length + 1 = D.length := by rw [eA]; simp
      unfold wrap64; omega
    have x4 : (A.length : Int) < (A.length : Int) + 1 := by omega
    clear hby hl hm hu hsv HM HR d1 d2 d3 d4 d5 hto e er hLb hWr hRd hsz hDz hDm hL eA h11 he hll
    generalize A.length = m at *
    go_enter Try.func6, Try.ntmps6
    go_wp2_with fail
    refine (awake_any _ HMW.out).mono ?_
    rintro e w1 ⟨rfl, hg1⟩
    have HG1 := Lib.hid hg1
    clear hg1
    go_wp2_with fail
    refine (HRS.out _ HG1.out).mono ?_
    rintro e w2 ⟨q, c1, P, _, rfl, hg2, hP, hr, hPl, hq, hc, -⟩
    have HG2 := Lib.hid (gr_trans HG1.out hg2)
    have HP := Lib.hid hP
    have HCR := Lib.hid hr
    have HC := Lib.hid hc
    clear hg2 hP hr hPl hq hc
    go_wp2_with fail
    refine (HWRT.out _ HG2.out _ _ HP.out HCR.out).mono ?_
    rintro e w3 ⟨y, c3, rfl, hg3, ho3⟩
    have HG3 := Lib.hid (gr_trans HG2.out hg3)
    have HCR3 := Lib.hid (cdR_gr HCR.out hg3)
    have HC3 := Lib.hid (gr_cell hg3 HC.out)
    have HO3 := Lib.hid ho3
    clear hg3 ho3
    go_wp2_with fail
    refine (HRA.out _ HG3.out _ _ _ HO3.out).mono ?_
    rintro e w4 ⟨z, c4, P2, rfl, hg4, hP2, hr2⟩
    have HG4 := Lib.hid (gr_trans HG3.out hg4)
    have HSM4 := Lib.hid (HSM.out _ _ _ _ _ hr2 (cdR_gr HCR3.out hg4) hP2 HP.out)
    have HC4 := Lib.hid (gr_cell hg4 HC3.out)
    clear hg4 hP2 hr2
    go_wp2_with fail
    refine HSM4.out.mono ?_
    rintro e w5 ⟨rfl, hg5⟩
    have HG5 := Lib.hid (gr_trans HG4.out hg5)
    have hc5 := gr_cell hg5 HC4.out
    have hc6 : w5.cell? ⟨q, m * 6, none⟩ = some (.int .i64 11) := by rw [show 0 + m * 6 + 0 = m * 6 by omega] at hc5; exact hc5
    have hc7 : w5.cell? ⟨q, 0 + m * 6, none⟩ = some (.int .i64 11) := by rw [Nat.zero_add]; exact hc6
    clear hg5
    go_wp2
    go_ret
    exact ⟨rfl, HG5.out⟩
  · have hz : (readS (lst l) l.length 0).2.2 = 3 ∨ (readS (lst l) l.length 0).2.2 = 10 ∨ (readS (lst l) l.length 0).2.2 = 11 := by
      have h := rdS_err (f := lst l) (len := l.length) (l.length + 2) (s := ⟨0, 0⟩) [] false [] (.inl rfl)
      have er : readS (lst l) l.length 0 = rdS (lst l) l.length (l.length + 2) ⟨0, 0⟩ [] false [] := if_neg (by omega)
      rw [← er] at h
      rcases h with h | h
      · exact absurd h he
      · exact h
    have HRE := Lib.hid (fun wx (hg : Gr w wx) => (HR.out wx hg).mono (show ∀ e w', RDX wx (readS (lst l) l.length 0) e w' → e = .returned (.tuple #[.slice none 0 0, .int .i64 0, .int .i64 (readS (lst l) l.length 0).2.2]) ∧ Gr wx w' from by
      rintro e w' (⟨_, _, _, h, hg⟩ | ⟨h, _⟩)
      · exact ⟨h, hg⟩
      · exact absurd h he))
    clear HR hby hl hm hu hsv HM hwz hll
    generalize readS (lst l) l.length 0 = R at *
    obtain ⟨R1, R2, R3⟩ := R
    dsimp only at he hz HRE
    go_enter Try.func6, Try.ntmps6
    go_wp2_with fail
    refine (awake_any _ HMW.out).mono ?_
    rintro e w1 ⟨rfl, hg1⟩
    have HG1 := Lib.hid hg1
    clear hg1
    go_wp2_with fail
    refine (HRE.out _ HG1.out).mono ?_
    rintro e w2 ⟨rfl, hg2⟩
    have HG2 := Lib.hid (gr_trans HG1.out hg2)
    clear hg2
    rcases hz with rfl | rfl | rfl
    · go_wp2
      go_ret
      exact ⟨rfl, HG2.out⟩
    · go_wp2
      go_ret
      exact ⟨rfl, HG2.out⟩
    · go_wp2
      go_ret
      exact ⟨rfl, HG2.out⟩
end Ex
end Go.Proofs.Ytebkabidojipoaa
