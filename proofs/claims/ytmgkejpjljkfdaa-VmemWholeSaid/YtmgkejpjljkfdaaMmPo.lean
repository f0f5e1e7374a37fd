/-
  memory's Poke of one byte and more. Of layer 10.
-/
import Derived.Test.YtmgkejpjljkfdaaMmAk
import Derived.Laws.CopyRow
namespace Go.Proofs.Ytmgkejpjljkfdaa
open Go.RowKit VecM Ev
namespace Mm
theorem erase_at {M : List Rw} {i j : Nat} {r : Rw} (h : M[i]? = some r) (hij : i ≠ j) : (M.eraseIdx j)[if i < j then i else i - 1]? = some r := by
  rw [List.getElem?_eraseIdx]
  by_cases hl : i < j
  · rw [if_pos hl, if_pos hl]; exact h
  · rw [if_neg hl, if_neg (by omega), show i - 1 + 1 = i by omega]; exact h
theorem perm_at {M : List Rw} {j : Nat} {r : Rw} (h : M[j]? = some r) : M.Perm (r :: M.eraseIdx j) := by
  obtain ⟨hl, hv⟩ := List.getElem?_eq_some_iff.1 h
  have := set_perm M j r hl
  rwa [← hv, List.set_getElem_self, hv] at this
/-- three rows out of many -/
theorem perm_three {M : List Rw} {j0 j1 j2 : Nat} {r0 r1 r2 : Rw} (h0 : M[j0]? = some r0) (h1 : M[j1]? = some r1) (h2 : M[j2]? = some r2) (h01 : j0 ≠ j1) (h02 : j0 ≠ j2) (h12 : j1 ≠ j2) :
    ∃ C, M.Perm (r0 :: r1 :: r2 :: C) ∧ ∀ r, (M.set j1 r).Perm (r0 :: r :: r2 :: C) := by
  have e0 := erase_at h0 h01
  have e2 := erase_at h2 (fun e => h12 e.symm)
  have e3 := erase_at e2 (j := if j0 < j1 then j0 else j0 - 1) (by split <;> split <;> omega)
  have p1 := perm_at e0
  have p2 := perm_at e3
  refine ⟨_, (perm_at h1).trans (((p1.trans (p2.cons r0)).cons r1).trans (.swap ..)), fun r => ?_⟩
  exact (set_perm M j1 r (List.getElem?_eq_some_iff.1 h1).1).trans (((p1.trans (p2.cons r0)).cons r).trans (.swap ..))
theorem run_slice_from {ρ : Operand → Value} {o : Oper} {t e : TypeId} {n c A b : Nat} {k1 : IntKind} {y l : Operand} (ho : o.op = .slice t y (some l) none none) (hx : ρ y = .slice (some ⟨b, 0, none⟩) n c) (hl : ρ l = .int k1 (A : Int)) (hu : Try.prog.underlying t = some (.slice e)) {f : TypeInfo} (hf : Try.prog.info? e = some f) (h1 : f.size = 1) (h2 : A < n) (h3 : n ≤ c) (w : World) :
    (execOp ρ o).run Try.prog w = .ok (.value (.slice (some ⟨b, A, none⟩) (n - A) (c - A))) w := by
  have he : Try.prog.elem t = e := by simp [Program.elem, hu]
  have hu' : Try.prog.underlying t = some (.slice (Try.prog.elem t)) := by rw [he]; exact hu
  have hr := run_slice_l (P := Try.prog) w t (some ⟨b, 0, none⟩) n c hu' k1 (A : Int) (by omega) (by omega)
  have hn : ¬ c = A := by omega
  have hs := run_sliceAt_slice (P := Try.prog) w t (.slice (some ⟨b, 0, none⟩) n c) (some (.int k1 (A : Int))) none none hu'
  unfold execOp
  simp only [ho, hx, hl, Option.map_some, Option.map_none, Sem.run_bind, hs, hr]
  simp [sliced, he, sizeOf, typeInfo, hf, h1, addr_add, Result.andThen, hn]
/-- the slice from A on -/
noncomputable def frOph (A : Nat) (o : Oper) (T : Tm) (M : List Rw) : Option OHole :=
  match o.op with
  | .slice t y (some l) none none => match Nat.beq t 23 with
    | true => match evalT T y, evalT T l with
      | .slice (some ⟨b, 0, none⟩) n cap, .int _ lo => some ⟨T.n, [], M, [decide (lo = (A : Int)), Nat.blt A n, Nat.ble n cap], some (.slice (some ⟨b, A, none⟩) (n - A) (cap - A)), M⟩
      | _, _ => none
    | false => none
  | _ => none
theorem frOph_ok (A : Nat) : OphAt (frOph A) := by
  intro o T M H hq hn hneed hrows hpre w0 w hS
  unfold frOph at hq
  split at hq
  · rename_i t y l hop
    split at hq
    · rename_i ht
      obtain rfl := Nat.eq_of_beq_eq_true ht
      split at hq
      · rename_i b n cap k lo hx hl
        cases hq
        have h0 := of_decide_eq_true (hpre _ (List.mem_cons_self ..))
        have h1 := (blt_iff _ _).1 (hpre _ (List.mem_cons_of_mem _ (List.mem_cons_self ..)))
        have h2 := Nat.le_of_ble_eq_true (hpre _ (List.mem_cons_of_mem _ (List.mem_cons_of_mem _ (List.mem_cons_self ..))))
        subst h0
        exact ⟨w, run_slice_from hop hx hl Try.underlying23 info8 size8 h1 h2 w, hS⟩
      · cases hq
    · cases hq
  · cases hq
def cpOf (o : Oper) : Option (Operand × Operand × TypeId × TypeId) :=
  match o.guard with
  | some _ => none
  | none => match o.op with
    | .call ci => match ci.callee with
      | .builtin .copy => match ci.args with
        | ⟨[s, x]⟩ => match ci.argTypes with
          | ⟨[t, t']⟩ => some (s, x, t, t')
          | _ => none
        | _ => none
      | _ => none
    | _ => none
theorem cpOf_inv {o : Oper} {x y : Operand} {t t' : TypeId} (h : cpOf o = some (x, y, t, t')) : ∃ ci : Call, o.op = .call ci ∧ ci.callee = .builtin .copy ∧ ci.args = #[x, y] ∧ ci.argTypes = #[t, t'] := by
  unfold cpOf at h
  split at h
  · cases h
  · split at h
    · rename_i ci hop
      split at h
      · rename_i hcal
        split at h
        · rename_i s' x' hargs
          split at h
          · rename_i t1 t2 hty
            cases h
            exact ⟨ci, hop, hcal, hargs, hty⟩
          · cases h
        · cases h
      · cases h
    · cases h
theorem exec_copy {P : Program} {ρ : Operand → Value} {o : Oper} {x y : Operand} {t t' : TypeId} {v : Value} {w w' : World} (h : cpOf o = some (x, y, t, t')) (hr : (Builtin.copy_ #[t, t'] o.type #[ρ x, ρ y]).run P w = .ok v w') :
    (execOp ρ o).run P w = .ok (.value v) w' := by
  obtain ⟨ci, hop, hcal, hargs, hty⟩ := cpOf_inv h
  unfold execOp
  simp only [hop, resolve, invoke, builtin, Sem.run_bind, Sem.run_pure, Result.andThen_ok, List.map_toArray, List.map_cons, List.map_nil, hcal, hargs, hty, hr]
def cpV (d : List Value) (A : Nat) (s : List Value) (off n : Nat) : List Value := d.take A ++ ((s.drop off).take n ++ d.drop (A + n))
/-- may so much be copied? -/
def cpF (d : List Value) (A dl : Nat) (s : List Value) (off n : Nat) : Bool := Nat.ble (A + n) d.length && (Nat.ble n dl && (Nat.ble (off + n) s.length && oneAll ((s.drop off).take n)))
noncomputable def cpOp (jd js : Nat) (o : Oper) (T : Tm) (M : List Rw) : Option AHole :=
  match cpOf o with
  | some (.tmp px, .tmp py, t, t') => match Nat.beq t 23, Nat.beq t' 23 with
    | true, true => match tget T px, tget T py, Ev.rowAt M jd, Ev.rowAt M js with
      | .slice (some ⟨_, A, none⟩) dl dc, .slice (some ⟨_, off, none⟩) n sc, some rd, some rs => match rd.own with
        | true => some ⟨T.n, [(px, .slice (some ⟨rd.b, A, none⟩) dl dc), (py, .slice (some ⟨rs.b, off, none⟩) n sc)], [cpF rd.c A dl rs.c off n], 0, fun _ => some (.int .i64 (n : Int)), fun _ => M.set jd ⟨rd.b, cpV rd.c A rs.c off n, rd.t, true⟩, 0⟩
        | false => none
      | _, _, _, _ => none
    | _, _ => none
  | _ => none
theorem goInt_eq (n : Nat) : goInt n = .int .i64 (n : Int) := rfl
theorem cpOp_ok (jd js : Nat) (o : Oper) (T : Tm) (M : List Rw) (H : AHole) (hq : cpOp jd js o T M = some H) (_hn : T.n = H.n) (hneed : ∀ p ∈ H.need, tget T p.1 = p.2) (hpre : ∀ b ∈ H.pre, b = true) (w0 w : World) (hS : SG w0 M w) :
    ∃ fr w', fr.length = H.nf ∧ (execOp (evalT T) o).run Try.prog w = .ok (match H.v fr with | some v => .value v | none => .skip) w' ∧ SG w0 (H.out fr) w' := by
  unfold cpOp at hq
  split at hq
  · rename_i px py t t' hc
    split at hq
    · rename_i ht ht'
      obtain rfl := Nat.eq_of_beq_eq_true ht
      obtain rfl := Nat.eq_of_beq_eq_true ht'
      split at hq
      · rename_i bd A dl dc bs off n sc rd rs hx hy hrd hrs
        split at hq
        · rename_i how
          cases hq
          have hF := hpre _ (List.mem_cons_self ..)
          unfold cpF at hF
          simp only [Bool.and_eq_true] at hF
          obtain ⟨f1, f2, f3, f4⟩ := hF
          have f1 := Nat.le_of_ble_eq_true f1
          have f2 := Nat.le_of_ble_eq_true f2
          have f3 := Nat.le_of_ble_eq_true f3
          have g1 := hneed _ (List.mem_cons_self ..)
          have g2 := hneed _ (List.mem_cons_of_mem _ (List.mem_cons_self ..))
          simp only at g1 g2
          have g1' : evalT T (.tmp px) = .slice (some ⟨rd.b, A, none⟩) dl dc := g1
          have g2' : evalT T (.tmp py) = .slice (some ⟨rs.b, off, none⟩) n sc := g2
          rw [rowAt_eq] at hrd hrs
          obtain ⟨fr, hrow, hfr⟩ := hS.row (List.mem_of_getElem? hrd)
          obtain rfl := hfr how
          obtain ⟨fr2, hrow2, _⟩ := hS.row (List.mem_of_getElem? hrs)
          have hsrc := cells_src (off := off) (m := n) hrow2
          have hnl : ((rs.c.drop off).take n).length = n := by rw [List.length_take, List.length_drop]; omega
          have hr := run_copy_row (P := Try.prog) w 23 23 o.type 5 rd.b A dl dc ⟨rs.b, off, none⟩ n sc rd.c.toArray rd.t _ Try.underlying23 (by rw [info8]; simp [size8]) hrow (by rw [hnl]; exact (Nat.min_eq_left f2).symm) hsrc (by rw [hnl]; simpa using f1) (fun u hu => List.all_eq_true.1 f4 u hu)
          rw [← g1', ← g2'] at hr
          have ea : (rd.c.toArray.toList.take A ++ (rs.c.drop off).take n ++ rd.c.toArray.toList.drop (A + ((rs.c.drop off).take n).length)).toArray = (cpV rd.c A rs.c off n).toArray := by
            rw [hnl]; unfold cpV; simp
          rw [ea, hnl, goInt_eq] at hr
          exact ⟨[], w.setRow rd.b (cpV rd.c A rs.c off n).toArray, rfl, exec_copy hc hr, hS.set hrd how _⟩
        · cases hq
      · cases hq
    · cases hq
  · cases hq
noncomputable def envP (A : Nat) : Env := { P := Try.prog, known := [], sum := fun _ _ => none, oph := frOph A, aop := cpOp 1 2 }
theorem envP_ok (A : Nat) : OphOk (envP A) := ⟨fun _ _ _ _ hq => (by cases hq), frOph_ok A, no_ms rfl, cpOp_ok 1 2⟩
noncomputable def poPath (b0 b1 N cap : Nat) (most : Int) (c : List Value) (gb off n sc : Nat) (dc : List Value) (dt : TypeId) (ow : Bool) (M : List Rw) (a : Int) (a' : Int) (n' : Nat) (v : Value) (c1 : List Value) (β : Nat → Fr) : Out :=
  evPathR (envP a.toNat) (envP 0) 400 10 [.pointer (some ⟨b0, 0, none⟩), .int .u64 a, .slice (some ⟨gb, off, none⟩) n sc] [.pointer (some ⟨1001, 0, none⟩), .int .u64 a', .slice (some ⟨1003, 0, none⟩) n' n']
    (⟨b0, hdr b1 N cap most, tM, true⟩ :: ⟨b1, c, tB, true⟩ :: ⟨gb, dc, dt, ow⟩ :: M) [⟨1001, hdr 1002 4 4 0, tM, true⟩, ⟨1002, List.replicate 4 (.int .u8 0), tB, true⟩, ⟨1003, [.int .u8 7], tB, true⟩] v 0
    (⟨b0, hdr b1 N cap most, tM, true⟩ :: ⟨b1, c1, tB, true⟩ :: ⟨gb, dc, dt, ow⟩ :: M) β
def poF (N n : Nat) (a : Int) (b : Bool) : Bool × Bool := (!decide (a ≤ IntKind.u64.wrap (IntKind.i64.wrap ((N : Int) - (n : Int)))), b)
def poD (b1 N cap : Nat) (c : List Value) (gb off n : Nat) (dc : List Value) (dt : TypeId) (ow : Bool) (a : Int) : List (Bool × Bool) := [(decide ((n : Int) ≤ (N : Int)), true), poF N n a false, (decide (a = (a.toNat : Int)), true), (Nat.blt a.toNat N, true), (Nat.ble N cap, true), (cpF (Rw.mk b1 c tB true).c a.toNat (N - a.toNat) (Rw.mk gb dc dt ow).c off n, true)]
--EVTS t_po1 | fun (b0 b1 N cap : Nat) (most : Int) (c : List Value) (gb off n sc : Nat) (dc : List Value) (dt : TypeId) (ow : Bool) (M : List Rw) (a : Int) (β : Nat → Fr) => (poPath b0 b1 N cap most c gb off n sc dc dt ow M a 0 1 (.int .i64 0) (cpV c a.toNat dc off n) β, poD b1 N cap c gb off n dc dt ow a)
def t_po1 : List Nat := [6, 5, 4, 3, 2, 1, 1, 1, 1, 1, 1, 1, 1, 1, 1, 1, 0]
--EVTS t_po2 | fun (b0 b1 N cap : Nat) (most : Int) (c : List Value) (gb off n sc : Nat) (dc : List Value) (dt : TypeId) (ow : Bool) (M : List Rw) (a : Int) (β : Nat → Fr) => (poPath b0 b1 N cap most c gb off n sc dc dt ow M a 9 1 (.int .i64 23) c β, [(decide ((n : Int) ≤ (N : Int)), true), poF N n a true])
def t_po2 : List Nat := [2, 1, 1, 1, 1, 1, 1, 1, 1, 1, 1, 1, 0]
--EVTS t_po3 | fun (b0 b1 N cap : Nat) (most : Int) (c : List Value) (gb off n sc : Nat) (dc : List Value) (dt : TypeId) (ow : Bool) (M : List Rw) (a : Int) (β : Nat → Fr) => (poPath b0 b1 N cap most c gb off n sc dc dt ow M a 0 9 (.int .i64 23) c β, [(decide ((n : Int) ≤ (N : Int)), false)])
def t_po3 : List Nat := [0, 1, 1, 1, 1, 1, 1, 1, 1, 1, 1, 1, 0]
theorem po_run (b0 b1 N cap : Nat) (most : Int) (c : List Value) (gb off n sc : Nat) (dc : List Value) (dt : TypeId) (ow : Bool) (M : List Rw) (a a' : Int) (n' : Nat) (v : Value) (c1 : List Value) (D : List (Bool × Bool)) (ts : List Nat) (hD : ∀ p ∈ D, p.1 = p.2)
    (hr : ∀ β, tagOL D ts (poPath b0 b1 N cap most c gb off n sc dc dt ow M a a' n' v c1 β) = tagOR D ts (poPath b0 b1 N cap most c gb off n sc dc dt ow M a a' n' v c1 β)) (w0 w : World) (hS : SG w0 (⟨b0, hdr b1 N cap most, tM, true⟩ :: ⟨b1, c, tB, true⟩ :: ⟨gb, dc, dt, ow⟩ :: M) w) :
    Calls Try.prog 10 #[.pointer (some ⟨b0, 0, none⟩), .int .u64 a, .slice (some ⟨gb, off, none⟩) n sc] w fun e w' => ∃ _β : Nat → Fr, e = .returned v ∧ SG w0 (⟨b0, hdr b1 N cap most, tM, true⟩ :: ⟨b1, c1, tB, true⟩ :: ⟨gb, dc, dt, ow⟩ :: M) w' :=
  ev_callR (E := envP a.toNat) (E' := envP 0) rfl (nosum_ok _ rfl) (fuel := 400) (args := [.pointer (some ⟨b0, 0, none⟩), .int .u64 a, .slice (some ⟨gb, off, none⟩) n sc]) (v := fun _ => v) (M1 := fun _ => ⟨b0, hdr b1 N cap most, tM, true⟩ :: ⟨b1, c1, tB, true⟩ :: ⟨gb, dc, dt, ow⟩ :: M) D ts hD hr w0 w hS (ho := envP_ok _)
/-- n bytes of a row from off on -/
def SrcB (s : List Value) (off n : Nat) : Prop := ∀ j, j < n → ∃ z, s[off + j]? = some (.int .u8 z) ∧ 0 ≤ z ∧ z ≤ 255
structure PkS (c : List Value) (N cap : Nat) (a : Int) (s : List Value) (off n : Nat) : Prop where
  F : Fit c N cap a
  n0 : 0 < n
  n1 : n < 9223372036854775808
  src : SrcB s off n
def erP (N : Nat) (a : Int) (n : Nat) : Int := if a + n ≤ (N : Int) then 0 else 23
def cpP (c : List Value) (N : Nat) (a : Int) (s : List Value) (off n : Nat) : List Value := if a + n ≤ (N : Int) then cpV c a.toNat s off n else c
theorem SrcB.len {s : List Value} {off n : Nat} (h : SrcB s off n) (h0 : 0 < n) : off + n ≤ s.length := by
  obtain ⟨z, hz, _⟩ := h (n - 1) (by omega)
  have := (List.getElem?_eq_some_iff.1 hz).1
  omega
theorem SrcB.one {s : List Value} {off n : Nat} (h : SrcB s off n) : oneAll ((s.drop off).take n) = true := by
  refine List.all_eq_true.2 fun u hu => ?_
  obtain ⟨i, hi, rfl⟩ := List.getElem_of_mem hu
  have hi2 := hi
  simp only [List.length_take, List.length_drop] at hi2
  obtain ⟨z, hz, _⟩ := h i (by omega)
  have e : ((s.drop off).take n)[i]? = some (.int .u8 z) := by rw [List.getElem?_take_of_lt (by omega), List.getElem?_drop, hz]
  rw [List.getElem?_eq_getElem hi, Option.some.injEq] at e
  rw [e]; rfl
theorem po_three {b0 b1 N cap : Nat} {most : Int} {c : List Value} {gb off n sc : Nat} {dc : List Value} {dt : TypeId} {ow : Bool} {M : List Rw} {a : Int} (H : PkS c N cap a dc off n) (w0 w : World) (hS : SG w0 (⟨b0, hdr b1 N cap most, tM, true⟩ :: ⟨b1, c, tB, true⟩ :: ⟨gb, dc, dt, ow⟩ :: M) w) :
    Calls Try.prog 10 #[.pointer (some ⟨b0, 0, none⟩), .int .u64 a, .slice (some ⟨gb, off, none⟩) n sc] w fun e w' => e = .returned (.int .i64 (erP N a n)) ∧ SG w0 (⟨b0, hdr b1 N cap most, tM, true⟩ :: ⟨b1, cpP c N a dc off n, tB, true⟩ :: ⟨gb, dc, dt, ow⟩ :: M) w' := by
  obtain ⟨F, hn0, hn1, hs⟩ := H
  obtain ⟨ok, hc, hb, hlo, hhi⟩ := F
  unfold erP cpP
  by_cases h : a + n ≤ (N : Int)
  · rw [if_pos h, if_pos h]
    have e1 : IntKind.i64.wrap ((N : Int) - (n : Int)) = (N : Int) - n := wi (by omega) (by omega)
    have e2 : IntKind.u64.wrap ((N : Int) - (n : Int)) = (N : Int) - n := wu (by omega) (by omega)
    have hl := hs.len hn0
    have hcl := ok.1
    refine (po_run b0 b1 N cap most c gb off n sc dc dt ow M a 0 1 (.int .i64 0) (cpV c a.toNat dc off n) (poD b1 N cap c gb off n dc dt ow a) t_po1 (one_d (decide_eq_true (by omega)) (one_d ?_ (one_d (decide_eq_true (by omega)) (one_d ((blt_iff _ _).2 (by omega)) (one_d (Nat.ble_eq_true_of_le hc) (one_d ?_ nil_d)))))) (fun β => by kernel_rfl) w0 w hS).mono fun e w' ⟨_, h1, h2⟩ => ⟨h1, h2⟩
    · show (!decide (a ≤ IntKind.u64.wrap (IntKind.i64.wrap ((N : Int) - (n : Int))))) = false
      rw [e1, e2, decide_eq_true (by omega)]; rfl
    · show cpF c a.toNat (N - a.toNat) dc off n = true
      unfold cpF
      simp only [Bool.and_eq_true]
      exact ⟨Nat.ble_eq_true_of_le (by omega), Nat.ble_eq_true_of_le (by omega), Nat.ble_eq_true_of_le hl, hs.one⟩
  · rw [if_neg h, if_neg h]
    by_cases hN : (n : Int) ≤ (N : Int)
    · have e1 : IntKind.i64.wrap ((N : Int) - (n : Int)) = (N : Int) - n := wi (by omega) (by omega)
      have e2 : IntKind.u64.wrap ((N : Int) - (n : Int)) = (N : Int) - n := wu (by omega) (by omega)
      refine (po_run b0 b1 N cap most c gb off n sc dc dt ow M a 9 1 (.int .i64 23) c [(decide ((n : Int) ≤ (N : Int)), true), poF N n a true] t_po2 (one_d (decide_eq_true hN) (one_d ?_ nil_d)) (fun β => by kernel_rfl) w0 w hS).mono fun e w' ⟨_, h1, h2⟩ => ⟨h1, h2⟩
      show (!decide (a ≤ IntKind.u64.wrap (IntKind.i64.wrap ((N : Int) - (n : Int))))) = true
      rw [e1, e2, decide_eq_false (by omega)]; rfl
    · exact (po_run b0 b1 N cap most c gb off n sc dc dt ow M a 0 9 (.int .i64 23) c [(decide ((n : Int) ≤ (N : Int)), false)] t_po3 (one_d (decide_eq_false hN) nil_d) (fun β => by kernel_rfl) w0 w hS).mono fun e w' ⟨_, h1, h2⟩ => ⟨h1, h2⟩
theorem po_any {w0 w : World} {M : List Rw} (hS : SG w0 M w) {j0 j1 j2 b0 b1 N cap : Nat} {most : Int} {c : List Value} {r2 : Rw} {off n sc : Nat} {a : Int} (H : PkS c N cap a r2.c off n) (h0 : M[j0]? = some ⟨b0, hdr b1 N cap most, tM, true⟩) (h1 : M[j1]? = some ⟨b1, c, tB, true⟩) (h2 : M[j2]? = some r2)
    (h01 : j0 ≠ j1) (h02 : j0 ≠ j2) (h12 : j1 ≠ j2) : Calls Try.prog 10 #[.pointer (some ⟨b0, 0, none⟩), .int .u64 a, .slice (some ⟨r2.b, off, none⟩) n sc] w fun e w' => e = .returned (.int .i64 (erP N a n)) ∧ SG w0 (M.set j1 ⟨b1, cpP c N a r2.c off n, tB, true⟩) w' := by
  obtain ⟨C, hC, hC2⟩ := perm_three h0 h1 h2 h01 h02 h12
  exact (po_three (dt := r2.t) (ow := r2.own) (gb := r2.b) H w0 w (hS.perm hC)).mono fun e w' ⟨h3, h4⟩ => ⟨h3, h4.perm (hC2 _).symm⟩
end Mm
end Go.Proofs.Ytmgkejpjljkfdaa
