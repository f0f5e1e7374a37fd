/-
  Checked runs: an append of one slice to another. Of no program.
-/
import Derived.Test.YthpnhanabcipmaaEvO
import Derived.Laws.AppendOwn
namespace Go.Proofs.Ythpnhanabcipmaa
open Go.RowKit VecM
namespace Ev
theorem joinK_eq (l : List Value) : ∀ (r : List Value) (k : List Value → Out), joinK l r k = k (l ++ r) := by
  induction l with
  | nil => exact fun r k => rfl
  | cons x l ih => exact fun r k => ih r _
theorem delR_eq (M : List Rw) : ∀ (n : Nat) (k : List Rw → Out), delR M n k = k (M.eraseIdx n) := by
  induction M with
  | nil => exact fun n k => rfl
  | cons x M ih =>
    intro n k
    cases n with
    | zero => rfl
    | succ n => exact ih n _
theorem srcK_kp {size : Nat} {y : Value} {s : Sg} {k : Nat → List Value → Sg → Out} (hk : ∀ m q s, Kp s.acc (k m q s)) : Kp s.acc (srcK .check size y s k) := by
  unfold srcK
  split
  · exact pickRow_kp fun _ r s => takeK_kp fun q => hk _ _ _
  · exact .err
theorem appFin_kp {β : Nat → Fr} {e : TypeId} {size bytes n m : Nat} {xs news : List Value} {s : Sg} {k : KK Value} (hk : KeepK k) : Kp s.acc (appFin β e size bytes n m xs news s k) := by
  unfold appFin
  split
  · rw [joinK_eq, joinK_eq]
    exact hk _ _
  · exact .err
noncomputable def kApp (P : Program) (β : Nat → Fr) (e : TypeId) (size bytes : Nat) (x : Value) (k : KK Value) (m : Nat) (news : List Value) (s : Sg) : Out :=
  match x with
  | .slice none 0 0 => appFin β e size bytes 0 m [] news s k
  | .slice (some ⟨b, 0, none⟩) n cap => pickRow .check b s fun j r s => match r.own && Nat.beq r.t e with
    | true => takeK (Nat.mul n size) r.c fun xs => delR s.M j fun M => appFin β e size bytes n m xs news ⟨s.n, s.h, M, capI .check cap (Nat.div r.c.length size) s.acc⟩ k
    | false => .error 99
  | _ => .error 100
theorem kApp_kp {P : Program} {β : Nat → Fr} {e : TypeId} {size bytes : Nat} {x : Value} {k : KK Value} (hk : KeepK k) (m : Nat) (news : List Value) (s : Sg) : Kp s.acc (kApp P β e size bytes x k m news s) := by
  unfold kApp
  split
  · exact appFin_kp hk
  · refine pickRow_kp fun j r s => ?_
    split
    · refine takeK_kp fun xs => ?_
      rw [delR_eq]
      exact (appFin_kp (s := ⟨s.n, s.h, _, capI .check _ _ s.acc⟩) hk).tail
    · exact .err
  · exact .err
theorem appE_eq {P : Program} {β : Nat → Fr} {x y : Value} {t e : TypeId} {size bytes : Nat} {s : Sg} {k : KK Value} (h : appT P t = some (e, size, bytes)) : appE P .check β x y t s k = srcK .check size y s (kApp P β e size bytes x k) := by
  unfold appE
  rw [h]
  rfl
theorem appE_kp {P : Program} {β : Nat → Fr} {x y : Value} {t : TypeId} {s : Sg} {k : KK Value} (hk : KeepK k) : Kp s.acc (appE P .check β x y t s k) := by
  cases h : appT P t with
  | none => unfold appE; rw [h]; exact .err
  | some p =>
    obtain ⟨e, size, bytes⟩ := p
    rw [appE_eq h]
    exact srcK_kp fun m q s => kApp_kp hk m q s
theorem srcK_inv {size : Nat} {y : Value} {s : Sg} {k : Nat → List Value → Sg → Out} (hk : ∀ m q s, Kp s.acc (k m q s)) (hg : good (srcK .check size y s k)) :
    ∃ b off m c r h, y = .slice (some ⟨b, off, none⟩) m c ∧ r ∈ s.M ∧ r.b = b ∧ m * size ≤ (r.c.drop off).length ∧
      ∀ A k', srcK .check size y ⟨s.n, s.h, s.M, A⟩ k' = k' m ((r.c.drop off).take (m * size)) ⟨s.n, h, s.M, .eqv (.int .u64 b) (.int .u64 r.b) :: A⟩ := by
  by_cases hy : ∃ b off m c, y = .slice (some ⟨b, off, none⟩) m c
  · obtain ⟨b, off, m, c, rfl⟩ := hy
    have e : ∀ s k, srcK .check size (.slice (some ⟨b, off, none⟩) m c) s k = pickRow .check b s fun _ r s => takeK (m * size) (r.c.drop off) fun q => k m q s := fun _ _ => rfl
    rw [e] at hg
    obtain ⟨j, h, r, hj, hb, hE⟩ := pickRow_inv (fun j r s => takeK_kp fun q => hk m q s) hg
    have hg2 := hg
    rw [show s = ⟨s.n, s.h, s.M, s.acc⟩ from rfl, hE] at hg2
    rcases takeK_eq (m * size) (r.c.drop off) with ⟨hl, e2⟩ | e2
    · refine ⟨b, off, m, c, r, h, rfl, List.mem_of_getElem? hj, hb.symm, hl, fun A k' => ?_⟩
      rw [e, hE, e2]
    · rw [e2] at hg2
      exact absurd hg2 not_good
  · refine absurd hg ?_
    unfold srcK
    split
    · exact absurd ⟨_, _, _, _, rfl⟩ hy
    · exact not_good
theorem St.perm {w0 w : World} {E E' : List Ent} (h : St w0 E w) (hp : E.Perm E') : St w0 E' w :=
  ⟨h.1, (hp.map Ent.b).nodup_iff.1 h.2.1, fun e he => h.2.2 e (hp.mem_iff.2 he)⟩
theorem SG.perm {w0 w : World} {M M' : List Rw} (h : SG w0 M w) (hp : M.Perm M') : SG w0 M' w :=
  ⟨St.perm h.1 ((hp.filter _).map _), fun r hr => h.2 r (hp.mem_iff.2 hr)⟩
theorem set_perm : ∀ (M : List Rw) (j : Nat) (a : Rw), j < M.length → (M.set j a).Perm (a :: M.eraseIdx j)
  | [], _, _, h => absurd h (Nat.not_lt_zero _)
  | x :: M, 0, a, _ => .refl _
  | x :: M, j + 1, a, h => ((set_perm M j a (Nat.lt_of_succ_lt_succ h)).cons x).trans (.swap a x _)
theorem SG.sub {w0 w : World} {M M' : List Rw} (h : SG w0 M w) (hs : M'.Sublist M) : SG w0 M' w :=
  ⟨h.1.sub ((hs.filter _).map _), fun r hr => h.2 r (hs.subset hr)⟩
theorem appT_inv {P : Program} {t e : TypeId} {size bytes : Nat} (h : appT P t = some (e, size, bytes)) : P.underlying t = some (.slice e) ∧ ∃ i z, P.info? e = some i ∧ i.zero = some z ∧ i.size = size ∧ i.bytes = bytes ∧ z.cells.size = size ∧ 0 < size := by
  unfold appT at h
  split at h
  · rename_i e' hu
    split at h
    · rename_i i hi
      split at h
      · rename_i z hz
        split at h
        · rename_i hb
          simp only [Bool.and_eq_true] at hb
          cases h
          exact ⟨hu, i, z, hi, hz, rfl, rfl, Nat.eq_of_beq_eq_true hb.2, (blt_iff _ _).1 hb.1⟩
        · cases h
      · cases h
    · cases h
  · cases h
theorem appFin_inv {β : Nat → Fr} {e : TypeId} {size bytes n m : Nat} {xs news : List Value} {s : Sg} {k : KK Value} (hg : good (appFin β e size bytes n m xs news s k)) :
    0 < m ∧ n + m ≤ 4000000 ∧ (n + m) * bytes ≤ 140737488355328 ∧ (∀ u ∈ news, u.oneCell' = true) := by
  unfold appFin at hg
  split at hg
  · rename_i h
    simp only [Bool.and_eq_true] at h
    obtain ⟨h1, h2, h3, h4⟩ := h
    exact ⟨(blt_iff _ _).1 h1, Nat.le_of_ble_eq_true h2, Nat.le_of_ble_eq_true h3, fun u hu => List.all_eq_true.1 h4 u hu⟩
  · exact absurd hg not_good
theorem appFin_eq {β : Nat → Fr} {e : TypeId} {size bytes n m : Nat} {xs news : List Value} {k : KK Value} (h : 0 < m ∧ n + m ≤ 4000000 ∧ (n + m) * bytes ≤ 140737488355328 ∧ (∀ u ∈ news, u.oneCell' = true)) (s : Sg) :
    appFin β e size bytes n m xs news s k = k (.slice (some ⟨(β s.n).b, 0, none⟩) (n + m) ((xs ++ (news ++ (β s.n).t)).length / size)) ⟨s.n + 1, s.h, ⟨(β s.n).b, xs ++ (news ++ (β s.n).t), e, true⟩ :: s.M, s.acc⟩ := by
  unfold appFin
  have hb : (Nat.blt 0 m && (Nat.ble (Nat.add n m) 4000000 && (Nat.ble (Nat.mul (Nat.add n m) bytes) 140737488355328 && news.all (·.oneCell')))) = true := by
    simp only [Bool.and_eq_true]
    exact ⟨(blt_iff _ _).2 h.1, Nat.ble_eq_true_of_le h.2.1, Nat.ble_eq_true_of_le h.2.2.1, List.all_eq_true.2 h.2.2.2⟩
  rw [hb]
  simp only [joinK_eq]
  rfl
/-- where it goes on: a row of one's own with the cells in front -/
theorem app_on {w0 w' : World} {γ : Nat → Fr} {n0 n m : Nat} {h : List It} {M : List Rw} {A : (Nat → Fr) → List It} {K : (Nat → Fr) → KK Value} {e : TypeId} {size bytes : Nat} {xs news : List Value} {g : Nat} {tl : List Value}
    (hc : 0 < m ∧ n + m ≤ 4000000 ∧ (n + m) * bytes ≤ 140737488355328 ∧ (∀ u ∈ news, u.oneCell' = true))
    (hS : SG w0 (⟨g, xs ++ (news ++ tl), e, true⟩ :: M) w') (hg : ∀ β, Ag n0 β γ → good (appFin β e size bytes n m xs news ⟨n0, h, M, A β⟩ (K β))) :
    On w0 n0 γ K (.slice (some ⟨g, 0, none⟩) (n + m) ((xs ++ (news ++ tl)).length / size)) w' := by
  refine ⟨upN γ n0 ⟨g, fun _ => undef, tl⟩, n0 + 1, h, ⟨g, xs ++ (news ++ tl), e, true⟩ :: M, A, hS, Nat.le_succ _, upN_ag _ _ _, fun β hβ => ?_⟩
  have h1 := hg β ((hβ.le (Nat.le_succ n0)).trans (upN_ag γ n0 _))
  rw [appFin_eq hc] at h1
  have h2 : β n0 = ⟨g, fun _ => undef, tl⟩ := by rw [hβ n0 (Nat.lt_succ_self _), upN_at]
  simp only [h2] at h1
  exact h1
theorem cells_src {w : World} {b off m : Nat} {c : List Value} {t : TypeId} {fr : Nat × Nat} (h : w.heap[b]? = some (.cells c.toArray t fr)) : ∀ j u, ((c.drop off).take m)[j]? = some u → w.cell? ((⟨b, off, none⟩ : Addr).add j) = some u := by
  intro j u hu
  have hadd : (⟨b, off, none⟩ : Addr).add j = ⟨b, off + j, none⟩ := by unfold Addr.add; split <;> simp_all
  rw [hadd, cell_of_row w b (off + j) _ t fr h]
  have hj : j < m := by
    rcases Nat.lt_or_ge j m with hj | hj
    · exact hj
    · rw [List.getElem?_eq_none (by rw [List.length_take]; omega)] at hu; cases hu
  rw [List.getElem?_take_of_lt hj, List.getElem?_drop] at hu
  simpa using hu
theorem appE_ok {P : Program} {w0 w : World} {x y : Value} {t ty : TypeId} {γ : Nat → Fr} {n : Nat} {h : List It} {M : List Rw} {A : (Nat → Fr) → List It} {K : (Nat → Fr) → KK Value} (hk : ∀ β, KeepK (K β)) (hS : SG w0 M w)
    (hg : ∀ β, Ag n β γ → good (appE P .check β x y t ⟨n, h, M, A β⟩ (K β))) : ∃ v w', (Builtin.append_ #[t, t] ty #[x, y]).run P w = .ok v w' ∧ On w0 n γ K v w' := by
  cases ha : appT P t with
  | none =>
    have h0 := hg γ .refl
    unfold appE at h0
    rw [ha] at h0
    exact absurd h0 not_good
  | some p =>
    obtain ⟨e, size, bytes⟩ := p
    obtain ⟨hu, i, z, hi, hz, hsize, hby, hzs, hpos⟩ := appT_inv ha
    have hg1 : ∀ β, Ag n β γ → good (srcK .check size y ⟨n, h, M, A β⟩ (kApp P β e size bytes x (K β))) := fun β hβ => by rw [← appE_eq ha]; exact hg β hβ
    obtain ⟨b2, off, m, c2, r2, h2, rfl, hr2, hb2, hm2, hE⟩ := srcK_inv (fun m q s => kApp_kp (P := P) (hk γ) m q s) (hg1 γ .refl)
    have hg2 : ∀ β, Ag n β γ → good (kApp P β e size bytes x (K β) m ((r2.c.drop off).take (m * size)) ⟨n, h2, M, .eqv (.int .u64 b2) (.int .u64 r2.b) :: A β⟩) := fun β hβ => by
      have h3 := hg1 β hβ
      rw [hE (A β)] at h3
      exact h3
    subst hb2
    obtain ⟨fr2, hrow2, _⟩ := hS.row hr2
    have hsrc := cells_src (off := off) (m := m * size) hrow2
    have hnl : ((r2.c.drop off).take (m * size)).length = m * i.size := by rw [List.length_take, hsize]; exact Nat.min_eq_left hm2
    generalize (r2.c.drop off).take (m * size) = news at *
    generalize hA1 : (fun β => (.eqv (.int .u64 r2.b) (.int .u64 r2.b) :: A β : List It)) = A1
    have hg2 : ∀ β, Ag n β γ → good (kApp P β e size bytes x (K β) m news ⟨n, h2, M, A1 β⟩) := fun β hβ => by rw [← hA1]; exact hg2 β hβ
    clear hg hg1 hE hA1
    by_cases hx0 : x = .slice none 0 0
    · subst hx0
      have hg3 : ∀ β, Ag n β γ → good (appFin β e size bytes 0 m [] news ⟨n, h2, M, A1 β⟩ (K β)) := hg2
      have hc := appFin_inv (hg3 γ .refl)
      obtain ⟨hm0, hnm, hbt, hone⟩ := hc
      have hr := run_append_nil (P := P) w t ty e i z hu hi hz ⟨r2.b, off, none⟩ m c2 news hnl hsrc hm0 (by omega) (by rw [hby]; rw [Nat.zero_add] at hbt; omega)
      refine ⟨_, _, hr, ?_⟩
      have hge := grownCap_ge w m 0 e
      have hS1 := (hS.grow (Gr.drew (Gr.refl w))).alloc ([] ++ (news ++ (Builtin.zeroCells z.cells (grownCap w m 0 e - m)).toList)) e
      have hon := app_on (xs := []) (news := news) (tl := (Builtin.zeroCells z.cells (grownCap w m 0 e - m)).toList) ⟨hm0, hnm, hbt, hone⟩ hS1 hg3
      have el : ([] ++ (news ++ (Builtin.zeroCells z.cells (grownCap w m 0 e - m)).toList)).length / size = grownCap w m 0 e := by
        have e1 : ([] ++ (news ++ (Builtin.zeroCells z.cells (grownCap w m 0 e - m)).toList)).length = grownCap w m 0 e * size := by
          simp only [List.nil_append, List.length_append, Array.length_toList, size_zeroCells, hzs, hnl, hsize]
          rw [← Nat.add_mul]
          congr 1
          omega
        rw [e1, Nat.mul_div_cancel _ hpos]
      rw [el, Nat.zero_add] at hon
      have ea : ([] ++ (news ++ (Builtin.zeroCells z.cells (grownCap w m 0 e - m)).toList)).toArray = news.toArray ++ Builtin.zeroCells z.cells (grownCap w m 0 e - m) := by
        apply Array.ext'
        simp
      rw [ea] at hon
      exact hon
    · by_cases hx : ∃ b n1 cap, x = .slice (some ⟨b, 0, none⟩) n1 cap
      · obtain ⟨b, n1, cap, rfl⟩ := hx
        have e1 : ∀ (β : Nat → Fr) (s : Sg), kApp P β e size bytes (.slice (some ⟨b, 0, none⟩) n1 cap) (K β) m news s = pickRow .check b s fun j r s => match r.own && Nat.beq r.t e with
          | true => takeK (Nat.mul n1 size) r.c fun xs => delR s.M j fun M => appFin β e size bytes n1 m xs news ⟨s.n, s.h, M, capI .check cap (Nat.div r.c.length size) s.acc⟩ (K β)
          | false => .error 99 := fun β s => rfl
        have hkk : ∀ (β : Nat → Fr) (j : Nat) (r : Rw) (s : Sg), Kp s.acc (match r.own && Nat.beq r.t e with
          | true => takeK (Nat.mul n1 size) r.c fun xs => delR s.M j fun M => appFin β e size bytes n1 m xs news ⟨s.n, s.h, M, capI .check cap (Nat.div r.c.length size) s.acc⟩ (K β)
          | false => .error 99) := fun β j r s => by
          split
          · refine takeK_kp fun xs => ?_
            rw [delR_eq]
            exact (appFin_kp (s := ⟨s.n, s.h, _, capI .check cap (Nat.div r.c.length size) s.acc⟩) (hk β)).tail
          · exact .err
        have h0 := hg2 γ .refl
        rw [e1] at h0
        obtain ⟨j, h3, r, hj, hb, hE⟩ := pickRow_inv (hkk γ) h0
        replace hj : M[j]? = some r := hj
        have hg3 : ∀ β, Ag n β γ → good (match r.own && Nat.beq r.t e with
          | true => takeK (Nat.mul n1 size) r.c fun xs => delR M j fun M => appFin β e size bytes n1 m xs news ⟨n, h3, M, capI .check cap (Nat.div r.c.length size) (.eqv (.int .u64 b) (.int .u64 r.b) :: A1 β)⟩ (K β)
          | false => .error 99) := fun β hβ => by
          have h4 := hg2 β hβ
          rw [e1, hE (A1 β)] at h4
          exact h4
        cases hq : (r.own && Nat.beq r.t e) with
        | false =>
          have h4 := hg3 γ .refl
          rw [hq] at h4
          exact absurd h4 not_good
        | true =>
          simp only [hq] at hg3
          simp only [Bool.and_eq_true] at hq
          obtain ⟨ho, hte⟩ := hq
          have hte := Nat.eq_of_beq_eq_true hte
          rcases takeK_eq (Nat.mul n1 size) r.c with ⟨hn1, e2⟩ | e2
          all_goals try replace hn1 : n1 * size ≤ r.c.length := hn1
          · simp only [e2, delR_eq] at hg3
            have h5 := hg3 γ .refl
            have hc := appFin_inv h5
            obtain ⟨hm0, hnm, hbt, hone⟩ := hc
            have hcap : cap = r.c.length / size := by
              have h6 := Kp.holds (x := .eqv (.int .u64 cap) (.int .u64 (Nat.div r.c.length size))) (A := .eqv (.int .u64 b) (.int .u64 r.b) :: A1 γ) (appFin_kp (s := ⟨n, h3, M.eraseIdx j, capI .check cap (Nat.div r.c.length size) (.eqv (.int .u64 b) (.int .u64 r.b) :: A1 γ)⟩) (hk γ)) h5
              simp only [It.l, It.r, Lv.v.injEq, Value.int.injEq, true_and] at h6
              exact Int.ofNat_inj.1 h6
            subst hb
            obtain ⟨fr, hrow, hfr⟩ := hS.row (List.mem_of_getElem? hj)
            obtain rfl := hfr ho
            subst hte
            have hjl := (List.getElem?_eq_some_iff.1 hj).1
            have hcl : cap * size ≤ r.c.length := by rw [hcap]; exact Nat.div_mul_le_self _ _
            by_cases hroom : n1 + m ≤ cap
            · have hfit : (n1 + m) * size ≤ r.c.length := Nat.le_trans (Nat.mul_le_mul_right _ hroom) hcl
              have hr := run_append_room (P := P) w t ty r.t i hu hi r.b n1 cap r.c.toArray hrow ⟨r2.b, off, none⟩ m c2 news hnl hsrc hone hroom (by rw [hnl, hsize, ← Nat.add_mul]; simpa using hfit)
              refine ⟨_, _, hr, ?_⟩
              have hS1 := hS.set hj ho (r.c.take (n1 * size) ++ (news ++ r.c.drop ((n1 + m) * size)))
              have hp := set_perm M j ⟨r.b, r.c.take (n1 * size) ++ (news ++ r.c.drop ((n1 + m) * size)), r.t, true⟩ hjl
              have hon := app_on (xs := r.c.take (n1 * size)) (news := news) (tl := r.c.drop ((n1 + m) * size)) ⟨hm0, hnm, hbt, hone⟩ (hS1.perm hp) hg3
              have el : (r.c.take (n1 * size) ++ (news ++ r.c.drop ((n1 + m) * size))).length / size = cap := by
                have e1 : (r.c.take (n1 * size) ++ (news ++ r.c.drop ((n1 + m) * size))).length = r.c.length := by
                  simp only [List.length_append, List.length_take, List.length_drop, hnl, hsize]
                  rw [Nat.min_eq_left hn1]
                  rw [Nat.add_mul] at hfit ⊢
                  omega
                rw [e1, hcap]
              rw [el] at hon
              have ea : (List.take (n1 * i.size) r.c.toArray.toList ++ news ++ List.drop (n1 * i.size + news.length) r.c.toArray.toList).toArray = (r.c.take (n1 * size) ++ (news ++ r.c.drop ((n1 + m) * size))).toArray := by
                rw [hnl, hsize, Nat.add_mul]
                simp
              rw [ea]
              exact hon
            · have holds := cells_src (off := 0) (m := n1 * size) hrow
              have hxl : (r.c.take (n1 * size)).length = n1 * size := by rw [List.length_take]; exact Nat.min_eq_left hn1
              have hr := run_append_grow (P := P) w t ty r.t i z hu hi hz ⟨r.b, 0, none⟩ n1 cap (r.c.take (n1 * size)) (by rw [hxl, hsize]) (by simpa using holds) ⟨r2.b, off, none⟩ m c2 news hnl hsrc (by omega) (by omega) (growslice_fits (by omega) (by rw [hby]; exact hbt))
              refine ⟨_, _, hr, ?_⟩
              have hge := grownCap_ge w (n1 + m) cap r.t
              have hS1 := ((hS.grow (Gr.drew (Gr.refl w))).alloc (r.c.take (n1 * size) ++ (news ++ (Builtin.zeroCells z.cells (grownCap w (n1 + m) cap r.t - (n1 + m))).toList)) r.t).sub (List.Sublist.cons_cons _ (List.eraseIdx_sublist M j))
              have hon := app_on (xs := r.c.take (n1 * size)) (news := news) (tl := (Builtin.zeroCells z.cells (grownCap w (n1 + m) cap r.t - (n1 + m))).toList) ⟨hm0, hnm, hbt, hone⟩ hS1 hg3
              have el : (r.c.take (n1 * size) ++ (news ++ (Builtin.zeroCells z.cells (grownCap w (n1 + m) cap r.t - (n1 + m))).toList)).length / size = grownCap w (n1 + m) cap r.t := by
                have e1 : (r.c.take (n1 * size) ++ (news ++ (Builtin.zeroCells z.cells (grownCap w (n1 + m) cap r.t - (n1 + m))).toList)).length = grownCap w (n1 + m) cap r.t * size := by
                  simp only [List.length_append, hxl, Array.length_toList, size_zeroCells, hzs, hnl, hsize]
                  rw [← Nat.add_mul, ← Nat.add_mul]
                  congr 1
                  omega
                rw [e1, Nat.mul_div_cancel _ hpos]
              rw [el] at hon
              have ea : (r.c.take (n1 * size) ++ (news ++ (Builtin.zeroCells z.cells (grownCap w (n1 + m) cap r.t - (n1 + m))).toList)).toArray = (r.c.take (n1 * size)).toArray ++ news.toArray ++ Builtin.zeroCells z.cells (grownCap w (n1 + m) cap r.t - (n1 + m)) := by
                apply Array.ext'
                simp
              rw [ea] at hon
              exact hon
          · have h4 := hg3 γ .refl
            rw [e2] at h4
            exact absurd h4 not_good
      · have h4 := hg2 γ .refl
        refine absurd h4 ?_
        unfold kApp
        split
        · exact absurd rfl hx0
        · exact absurd ⟨_, _, _, rfl⟩ hx
        · exact not_good
theorem appOf_inv {o : Oper} {x y : Operand} {t : TypeId} (h : appOf o = some (x, y, t)) : o.guard = none ∧ ∃ ci : Call, o.op = .call ci ∧ ci.callee = .builtin .append ∧ ci.args = #[x, y] ∧ ci.argTypes = #[t, t] := by
  unfold appOf at h
  split at h
  · cases h
  · rename_i hgd
    split at h
    · rename_i ci hop
      split at h
      · rename_i hcal
        split at h
        · rename_i s' x' hargs
          split at h
          · rename_i t1 t2 hty
            split at h
            · rename_i ht
              cases h
              have := Nat.eq_of_beq_eq_true ht
              subst this
              exact ⟨hgd, ci, hop, hcal, hargs, hty⟩
            · cases h
          · cases h
        · cases h
      · cases h
    · cases h
theorem exec_app {P : Program} {ρ : Operand → Value} {o : Oper} {x y : Operand} {t : TypeId} {v : Value} {w w' : World} (h : appOf o = some (x, y, t)) (hr : (Builtin.append_ #[t, t] o.type #[ρ x, ρ y]).run P w = .ok v w') :
    (execOp ρ o).run P w = .ok (.value v) w' := by
  obtain ⟨_, ci, hop, hcal, hargs, hty⟩ := appOf_inv h
  unfold execOp
  simp only [hop, resolve, invoke, builtin, Sem.run_bind, Sem.run_pure, Result.andThen_ok, List.map_toArray, List.map_cons, List.map_nil, hcal, hargs, hty, hr]
end Ev
end Go.Proofs.Ythpnhanabcipmaa
