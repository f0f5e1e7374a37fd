/-
  Of layer 12, plain: what is cut off is refused. Of no program.
-/
import Derived.Test.YtebkabidojipoaaMe19
namespace Go.Proofs.Ytebkabidojipoaa
open Go.RowKit VecM LebM
namespace Ex
/-- bytes of which the last are missing -/
def Cut (g : Nat → Int) (len p : Nat) (L : List Int) : Prop := (∀ j, p + j < len → g (p + j) = L.getD j 0) ∧ p ≤ len ∧ len < p + L.length
theorem cut_app {g : Nat → Int} {len p : Nat} {A B : List Int} (h : Cut g len p (A ++ B)) : Cut g len p A ∨ (At g len p A ∧ Cut g len (p + A.length) B) := by
  obtain ⟨h1, h2, h3⟩ := h
  rw [List.length_append] at h3
  have ha : ∀ j, p + j < len → j < A.length → g (p + j) = A.getD j 0 := fun j hj hA => by
    rw [h1 j hj, List.getD_eq_getElem?_getD, List.getElem?_append_left hA, ← List.getD_eq_getElem?_getD]
  by_cases hc : len < p + A.length
  · exact .inl ⟨fun j hj => ha j hj (by omega), h2, hc⟩
  · refine .inr ⟨⟨fun j hj => ha j (by omega) hj, by omega⟩, fun j hj => ?_, by omega, by omega⟩
    have := h1 (A.length + j) (by omega)
    rw [← Nat.add_assoc] at this
    rw [this, List.getD_eq_getElem?_getD, List.getElem?_append_right (by omega), Nat.add_sub_cancel_left, ← List.getD_eq_getElem?_getD]
theorem rd_lo {sg : Bool} {f : Nat → Int} {len : Nat} {bits : Int} {a : Nat} : ∀ (m k : Nat) (x : Int), a + k ≤ len → (rd sg f len bits a m k x).2.2.2 = 0 → ∃ t : Nat, a + k ≤ t ∧ t < len ∧ f t < 128
  | 0, k, x, _, h => by simp [rd] at h
  | m + 1, k, x, hk, h => by
    by_cases h1 : a + k = len
    · rw [rd_short h1] at h; simp at h
    · unfold rd at h
      rw [if_neg h1] at h
      dsimp only at h
      split at h
      · simp at h
      · split at h
        · rename_i h3
          exact ⟨a + k, Nat.le_refl _, by omega, h3⟩
        · obtain ⟨t, h4, h5, h6⟩ := rd_lo m (k + 1) _ (by omega) h
          exact ⟨t, by omega, h5, h6⟩
/-- all that is there goes on -/
theorem read_cut {sg : Bool} {g : Nat → Int} {len p : Nat} {bits : Int} {L : List Int} (h : Cut g len p L) (hi : ∀ i, i + 1 < L.length → 128 ≤ L.getD i 0) : (LebM.read sg g len (p : Int) bits).2.2.2 ≠ 0 := by
  intro e
  obtain ⟨h1, h2, h3⟩ := h
  unfold LebM.read at e
  split at e
  · simp at e
  · rw [Int.toNat_natCast] at e
    obtain ⟨t, h4, h5, h6⟩ := rd_lo 10 0 0 (by omega) e
    obtain ⟨j, rfl⟩ : ∃ j, t = p + j := ⟨t - p, by omega⟩
    rw [h1 j h5] at h6
    have := hi j (by omega)
    omega
theorem num_cut {g : Nat → Int} {len p : Nat} {n : Int} (h : Cut g len p (formU n)) : numS g len ⟨p, 0⟩ = (0, ⟨p, 10⟩) := by
  have h1 : (LebM.read false g len (p : Int) 32).2.2.2 ≠ 0 := read_cut h (lebU_high 9 n)
  unfold numS
  rw [if_pos (.inr h1)]; rfl
theorem sgn_cut {g : Nat → Int} {len p : Nat} {n : Int} (h : Cut g len p (formS n)) (b : Int) : sgnS g len b ⟨p, 0⟩ = (0, ⟨p, 10⟩) := by
  have h1 : (LebM.read true g len (p : Int) b).2.2.2 ≠ 0 := read_cut h (lebS_high 9 n)
  unfold sgnS
  rw [if_pos (.inr h1)]; rfl
theorem oct_cut {g : Nat → Int} {len p : Nat} {n : Int} (h : Cut g len p [n]) : octS g len ⟨p, 0⟩ = (0, ⟨p, 10⟩) := by
  have h2 := h.2.2
  simp only [List.length_singleton] at h2
  unfold octS
  rw [if_pos (.inr (by dsimp only; omega))]; rfl
theorem num_10 {g : Nat → Int} {len : Nat} {a : Int} : numS g len ⟨a, 10⟩ = (0, ⟨a, 10⟩) := by
  unfold numS; rw [if_pos (.inl (by simp))]; rfl
theorem oct_10 {g : Nat → Int} {len : Nat} {a : Int} : octS g len ⟨a, 10⟩ = (0, ⟨a, 10⟩) := by
  unfold octS; rw [if_pos (.inl (by simp))]; rfl
theorem octs_10 {g : Nat → Int} {len : Nat} {a : Int} : ∀ k, (octsS g len k ⟨a, 10⟩).2 = ⟨a, 10⟩
  | 0 => rfl
  | k + 1 => by rw [octsS, octs_10 k, oct_10]
theorem octs_cut {g : Nat → Int} {len : Nat} : ∀ (k : Nat) (p : Nat) (L : List Int), L.length = k → Cut g len p L → (octsS g len k ⟨p, 0⟩).2.e = 10
  | 0, p, L, hk, h => by have := h.2.2; have := h.2.1; omega
  | k + 1, p, L, hk, h => by
    have hne : L ≠ [] := fun e => by subst e; simp at hk
    have e := List.dropLast_concat_getLast hne
    have hd : L.dropLast.length = k := by simp [hk]
    rw [← e] at h
    rw [octsS]
    rcases cut_app h with h1 | ⟨h1, h2⟩
    · have h3 := octs_cut k p L.dropLast hd h1
      generalize (octsS g len k ⟨p, 0⟩).2 = s at *
      obtain ⟨a, e⟩ := s
      dsimp only at h3
      subst h3
      dsimp only
      rw [oct_10]
    · rw [octs_at k L.dropLast hd h1]
      rw [hd] at h2
      rw [oct_cut h2]
theorem tab_10 {g : Nat → Int} {len : Nat} {a : Int} (l : List Int) : ∀ k, tabS g len k l ⟨a, 10⟩ = (l, ⟨a, 10⟩)
  | 0 => rfl
  | k + 1 => by rw [tabS, if_neg (by simp)]
theorem tab_cut {g : Nat → Int} {len : Nat} : ∀ (l A : List Int) (p : Nat), (∀ z ∈ l, 0 ≤ z ∧ z < 4294967296) → Cut g len p (tabF l) → (tabS g len l.length A ⟨p, 0⟩).2.e = 10
  | [], A, p, _, h => by
    have h1 := h.2.1
    have h2 := h.2.2
    simp only [tabF, List.flatMap_nil, List.length_nil] at h2
    omega
  | z :: r, A, p, hz, h => by
    have e : tabF (z :: r) = formU z ++ tabF r := by unfold tabF; rw [List.flatMap_cons]
    rw [e] at h
    rw [List.length_cons, tabS, if_pos rfl]
    rcases cut_app h with h1 | ⟨h1, h2⟩
    · rw [num_cut h1]
      dsimp only
      rw [tab_10]
    · rw [num_at h1 (hz z (by simp))]
      exact tab_cut r _ _ (fun y hy => hz y (by simp [hy])) h2
theorem opc_cut {g : Nat → Int} {len p : Nat} {op : Int} (h : Cut g len p (opcL op)) (hf : fm op ≠ 0) : (opcS g len ⟨p, 0⟩).2.e = 10 := by
  unfold opcL at h
  rcases fm_rng hf with h1 | h1
  · rw [if_pos (by omega)] at h
    unfold opcS
    rw [oct_cut h]
    rfl
  · rw [if_neg (by omega)] at h
    unfold opcS
    rcases cut_app h with h2 | ⟨h2, h3⟩
    · rw [oct_cut h2]; rfl
    · rw [oct_at h2]
      have h4 : numS g len ⟨((p + 1 : Nat) : Int), 0⟩ = (0, ⟨((p + 1 : Nat) : Int), 10⟩) := num_cut h3
      dsimp only
      rw [if_pos rfl, h4]
theorem blk_cut {g : Nat → Int} {len p : Nat} {a : Int} (h : Cut g len p (formS a)) (_hb : 0 ≤ a ∨ (formS a).length = 1) : (blkS g len ⟨p, 0⟩).2.e = 10 := by
  have ht : (typS g len ⟨p, 0⟩).2.e = 10 := by
    unfold typS
    rw [sgn_cut h 33]; rfl
  unfold blkS
  by_cases hl : (0 : Int) = 0 ∧ (p : Int) < len
  · rw [if_pos hl]
    have h0 := h.1 0 (by omega)
    have hh : 128 ≤ (formS a).getD 0 0 := lebS_high 9 a 0 (by have := h.2.2; have : p < len := by omega
                                                              show 0 + 1 < (formS a).length
                                                              omega)
    rw [Nat.add_zero] at h0
    dsimp only
    rw [Int.toNat_natCast, h0, if_neg (by omega), if_neg (by omega)]
    exact ht
  · rw [if_neg hl]
    exact ht
set_option maxHeartbeats 1000000 in
theorem fld_cut {g : Nat → Int} {len p : Nat} {d : In} {form : Int} (_hf : 1 ≤ form ∧ form ≤ 14) (hfit : fitB d form = true) (hok : InOk d) (hll : d.l.length < 4294967296) (h : Cut g len p (fldL d form)) :
    (fldS g len form d.op ⟨p, 0⟩).2.e = 10 := by
  obtain ⟨op, a, b, lo, hi, l⟩ := d
  unfold fldL at h
  unfold fldS
  unfold fitB at hfit
  dsimp only at h hfit hll ⊢
  by_cases c2 : form = 2
  · simp only [if_pos c2, Bool.and_eq_true, Bool.or_eq_true, beq_iff_eq, idx_iff] at h hfit ⊢
    refine blk_cut h ?_
    rcases hfit.1.1.1.1 with (((h1 | h1) | h1) | h1) | h1
    · exact .inl h1.1
    · right; rw [h1]; rfl
    · right; rw [h1]; rfl
    · right; rw [h1]; rfl
    · right; rw [h1]; rfl
  by_cases c3 : form = 3 ∨ form = 5
  · simp only [if_neg c2, if_pos c3] at h ⊢
    rw [num_cut h]
  by_cases c4 : form = 4
  · simp only [if_neg c2, if_neg c3, if_pos c4, Bool.and_eq_true, beq_iff_eq, idx_iff, List.all_eq_true] at h hfit ⊢
    obtain ⟨⟨⟨⟨ha, hz⟩, rfl⟩, rfl⟩, rfl⟩ := hfit
    have hz' : ∀ z ∈ l, 0 ≤ z ∧ z < 4294967296 := fun z h => by have := hz z h; omega
    rcases cut_app h with h1 | ⟨h1, h2⟩
    · rcases cut_app h1 with h3 | ⟨h3, h4⟩
      · rw [num_cut h3]
        dsimp only
        rw [tab_10, num_10]
      · rw [num_at h3 (by omega)]
        dsimp only
        rw [Int.toNat_natCast]
        have h5 := tab_cut l [] _ hz' h4
        generalize (tabS g len l.length [] ⟨((p + (formU (l.length : Int)).length : Nat) : Int), 0⟩).2 = s at *
        obtain ⟨sa, se⟩ := s
        dsimp only at h5
        subst h5
        rw [num_10]
    · rw [num_at h1.left (by omega)]
      dsimp only
      rw [Int.toNat_natCast, tab_at l [] _ hz' h1.right]
      dsimp only
      rw [List.length_append, ← Nat.add_assoc] at h2
      rw [num_cut h2]
  by_cases c6 : form = 6 ∨ form = 7
  · simp only [if_neg c2, if_neg c3, if_neg c4, if_pos c6, Bool.and_eq_true, idx_iff] at h hfit ⊢
    rcases cut_app h with h1 | ⟨h1, h2⟩
    · rw [num_cut h1]; dsimp only; rw [num_10]
    · rw [num_at h1 (by omega)]; dsimp only; rw [num_cut h2]
  by_cases c8 : form = 8
  · simp only [if_neg c2, if_neg c3, if_neg c4, if_neg c6, if_pos c8, Bool.and_eq_true, idx_iff] at h hfit ⊢
    rcases cut_app h with h1 | ⟨h1, h2⟩
    · rcases cut_app h1 with h3 | ⟨h3, h4⟩
      · rw [num_cut h3]; dsimp only; rw [num_10]; dsimp only; rw [oct_10]
      · rw [num_at h3 (by omega)]; dsimp only; rw [num_cut h4]; dsimp only; rw [oct_10]
    · rw [num_at h1.left (by omega)]; dsimp only
      rw [num_at h1.right (by omega)]; dsimp only
      rw [List.length_append, ← Nat.add_assoc] at h2
      rw [oct_cut h2]
  by_cases c9 : form = 9
  · simp only [if_neg c2, if_neg c3, if_neg c4, if_neg c6, if_neg c8, if_pos c9] at h ⊢
    rw [sgn_cut h]
  by_cases c10 : form = 10
  · simp only [if_neg c2, if_neg c3, if_neg c4, if_neg c6, if_neg c8, if_neg c9, if_pos c10] at h ⊢
    rw [sgn_cut h]
  by_cases c11 : form = 11 ∨ form = 12
  · simp only [if_neg c2, if_neg c3, if_neg c4, if_neg c6, if_neg c8, if_neg c9, if_neg c10, if_pos c11] at h ⊢
    exact octs_cut 16 p (vecL lo hi) (by unfold vecL; simp) h
  by_cases c13 : form = 13
  · simp only [if_neg c2, if_neg c3, if_neg c4, if_neg c6, if_neg c8, if_neg c9, if_neg c10, if_neg c11, if_pos c13] at h ⊢
    rw [oct_cut h]
  by_cases c14 : form = 14
  · simp only [if_neg c2, if_neg c3, if_neg c4, if_neg c6, if_neg c8, if_neg c9, if_neg c10, if_neg c11, if_neg c13, if_pos c14] at h ⊢
    rw [oct_cut h]
    rfl
  · simp only [if_neg c2, if_neg c3, if_neg c4, if_neg c6, if_neg c8, if_neg c9, if_neg c10, if_neg c11, if_neg c13, if_neg c14] at h ⊢
    have h1 := h.2.1
    have h2 := h.2.2
    simp only [List.length_nil] at h2
    omega
theorem ins_cut {g : Nat → Int} {len p : Nat} {d : In} {N : List Int} (hg : goodB d N false = true) (hok : InB d) (h : Cut g len p (insB d)) : (insS g len ⟨p, 0⟩ N false).2.1.e = 10 := by
  obtain ⟨h1, h2, _, _, _⟩ := good_parts hg
  obtain ⟨f1, f2, f3⟩ := fm_float hok.1.op.2 h1
  unfold insB at h
  unfold insS
  rcases cut_app h with h3 | ⟨h3, h4⟩
  · have h5 := opc_cut h3 h1
    rw [if_pos (by rw [h5]; decide)]
    exact h5
  · have e3 : opSt d.op ⟨((p + (opcL d.op).length : Nat) : Int), 0⟩ = ⟨((p + (opcL d.op).length : Nat) : Int), 0⟩ := by
      unfold opSt; rw [f1, if_neg (by decide), if_neg h1]
    have h5 := fld_cut (d := d) ⟨f2, f3⟩ h2 hok.1 hok.2 h4
    rw [opc_at h3 h1]
    dsimp only
    rw [if_neg (by decide), e3, if_pos (by rw [h5]; decide)]
    exact h5
theorem cut_at {g : Nat → Int} {len : Nat} : ∀ (D : List In) (N : List Int) (cl : Bool) (acc : List In) (p k : Nat), okB D N cl = true → (∀ d ∈ D, InB d) → Cut g len p (insF D) → len < p + k → rdS g len k ⟨p, 0⟩ N cl acc = ([], 0, 10)
  | [], N, cl, acc, p, k, _, _, h, _ => by
    have h1 := h.2.1
    have h2 := h.2.2
    simp only [insF, List.flatMap_nil, List.length_nil] at h2
    omega
  | d :: r, N, cl, acc, p, 0, _, _, hc, h => by have := hc.2.1; omega
  | d :: r, N, cl, acc, p, k + 1, hok, hb, hcut, hk => by
    unfold okB at hok
    rw [Bool.and_eq_true] at hok
    obtain ⟨_, _, _, _, rfl⟩ := good_parts hok.1
    rw [insF_cons] at hcut
    rw [rdS, if_neg (by decide)]
    rcases cut_app hcut with h1 | ⟨h1, h2⟩
    · have h3 := ins_cut hok.1 (hb d (by simp)) h1
      rw [if_pos (by rw [h3]; decide), h3]
    · rw [ins_at hok.1 (hb d (by simp)) h1]
      dsimp only
      rw [if_neg (by decide)]
      exact cut_at r _ _ _ _ k hok.2 (fun x hx => hb x (by simp [hx])) h2 (by have := insB_pos d; omega)
/-- what is cut off is refused -/
theorem read_short {D : List In} (hok : okB D [] false = true) (hb : ∀ d ∈ D, InB d) {k : Nat} (hk : k < (insF D).length) (g : Nat → Int) (hg : ∀ j, j < k → g j = (insF D).getD j 0) : readS g k 0 = ([], 0, 10) := by
  unfold readS
  rw [if_neg (by omega)]
  exact cut_at D [] false [] 0 (k + 2) hok hb ⟨fun j hj => by rw [Nat.zero_add] at hj ⊢; exact hg j hj, by omega, by omega⟩ (by omega)
end Ex
end Go.Proofs.Ytebkabidojipoaa
