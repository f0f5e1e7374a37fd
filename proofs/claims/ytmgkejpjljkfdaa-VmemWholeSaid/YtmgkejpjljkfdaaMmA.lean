/-
  Slices of bytes made, and appended to, of lengths that are not known. Of no function.
-/
import Derived.Test.YtmgkejpjljkfdaaMmE
import Derived.Deep.OwnRows
namespace Go.Proofs.Ytmgkejpjljkfdaa
open Go.RowKit VecM
namespace Ev
/-- zeros -/
def zC (n : Nat) : List Value := List.replicate n (.int .u8 0)
def hdF : List Fr → Fr
  | f :: _ => f
  | [] => noB 0
def oneAll (l : List Value) : Bool := l.all (·.oneCell')
/-- does an append of m cells from off on of a row to n cells of another fit? -/
def apF (n cap : Nat) (d : List Value) (off m : Nat) (s : List Value) : Bool :=
  Nat.ble n d.length && (Nat.beq cap d.length && (Nat.ble (off + m) s.length && (Nat.ble (n + m) 70368744177664 && oneAll ((s.drop off).take m))))
def apZ (n cap : Nat) (d : List Value) (z : Int) : Bool := Nat.ble n d.length && (Nat.beq cap d.length && (decide (0 ≤ z) && decide ((n : Int) + z ≤ 70368744177664)))
def zOf (o : Oper) : Option (Operand × Operand × TypeId × TypeId) :=
  match o.guard with
  | some _ => none
  | none => match o.op with
    | .call ci => match ci.callee with
      | .builtin .append => match ci.args with
        | ⟨[s, x]⟩ => match ci.argTypes with
          | ⟨[t, t']⟩ => some (s, x, t, t')
          | _ => none
        | _ => none
      | _ => none
    | _ => none
noncomputable def apOp (jd js : Nat) (o : Oper) (T : Tm) (M : List Rw) : Option AHole :=
  match o.op with
  | .makeSlice t (.tmp p) (.tmp q) => match Nat.beq t 23, Nat.beq p q with
    | true, true => match o.guard, tget T p with
      | none, .int _ z => some ⟨T.n, [], [decide (0 ≤ z), decide (z ≤ 140737488355328)], 1, fun fr => some (.slice (some ⟨(hdF fr).b, 0, none⟩) z.toNat z.toNat), fun fr => ⟨(hdF fr).b, zC z.toNat, 5, true⟩ :: M, 0⟩
      | _, _ => none
    | _, _ => none
  | .call _ => match zOf o with
    | some (.tmp px, .tmp py, t, t') => match Nat.beq t 23 with
      | true => match Nat.beq t' 23 with
        | true => match tget T px, tget T py, rowAt M jd, rowAt M js with
          | .slice (some ⟨_, 0, none⟩) n cap, .slice (some ⟨_, off, none⟩) m c2, some rd, some rs => some ⟨T.n, [(px, .slice (some ⟨rd.b, 0, none⟩) n cap), (py, .slice (some ⟨rs.b, off, none⟩) m c2)], [rd.own, Nat.beq rd.t 5, apF n cap rd.c off m rs.c], 1,
              fun fr => some (.slice (some ⟨(hdF fr).b, 0, none⟩) (n + m) (rd.c.take n ++ ((rs.c.drop off).take m ++ (hdF fr).t)).length), fun fr => ⟨(hdF fr).b, rd.c.take n ++ ((rs.c.drop off).take m ++ (hdF fr).t), 5, true⟩ :: M.eraseIdx jd, 0⟩
          | _, _, _, _ => none
        | false => match Nat.beq t' 3 with
          | true => match tget T px, tget T py, rowAt M jd with
            | .slice (some ⟨_, 0, none⟩) n cap, .int .i64 z, some rd => some ⟨T.n, [(px, .slice (some ⟨rd.b, 0, none⟩) n cap)], [rd.own, Nat.beq rd.t 5, apZ n cap rd.c z], 1,
                fun fr => some (.slice (some ⟨(hdF fr).b, 0, none⟩) (n + z.toNat) (rd.c.take n ++ (zC z.toNat ++ (hdF fr).t)).length), fun fr => ⟨(hdF fr).b, rd.c.take n ++ (zC z.toNat ++ (hdF fr).t), 5, true⟩ :: M.eraseIdx jd, 0⟩
            | _, _, _ => none
          | false => none
      | false => none
    | _ => none
  | _ => none
theorem bytes8 : ((Try.prog.info? 5).getD default).bytes = 1 := by kernel_rfl
theorem zero8 : ((Try.prog.info? 5).getD default).zero = some (.int .u8 0) := by kernel_rfl
theorem made_zC (n : Nat) : madeCells #[.int .u8 0] n = (zC n).toArray := by
  apply Array.ext
  · simp [madeCells, zC]
  · intro i h1 h2
    simp [madeCells, zC, Nat.mod_one]
theorem zeroCells_zC (n : Nat) : Builtin.zeroCells (Value.int .u8 0).cells n = (zC n).toArray := by
  have e : (Value.int .u8 0).cells = #[.int .u8 0] := rfl
  rw [e]
  apply Array.ext
  · simp [Builtin.zeroCells, zC]
  · intro i h1 h2
    simp [Builtin.zeroCells, zC, Nat.mod_one]
theorem zC_one (n : Nat) : ∀ u ∈ zC n, u.oneCell' = true := fun u hu => by
  obtain rfl := List.eq_of_mem_replicate hu
  rfl
theorem zC_len (n : Nat) : (zC n).length = n := List.length_replicate
section
variable {P : Program} (w : World)
theorem run_append_room_zeros (t tn ty e : TypeId) (kn : IntKind) (ht : P.underlying t = some (.slice e)) (htn : P.underlying tn = some (.int kn)) {i : TypeInfo} (hi : P.info? e = some i) (hs : i.size = 1) (hb : i.bytes = 1) (hz : i.zero = some (.int .u8 0))
    (g n cap : Nat) (cur : List Value) (hg : w.heap[g]? = some (.cells cur.toArray e (0, 0))) (m : Nat) (hm : m ≤ 140737488355328) (hroom : n + m ≤ cap) (hfit : n + m ≤ cur.length) :
    (Builtin.append_ #[t, tn] ty #[.slice (some ⟨g, 0, none⟩) n cap, .int .i64 (m : Int)]).run P w = .ok (.slice (some ⟨g, 0, none⟩) (n + m) cap) (w.setRow g (cur.take n ++ (zC m ++ cur.drop (n + m))).toArray) := by
  have hw : IntKind.i64.wrap (m : Int) = m := by rw [IntKind.wrap_i64]; omega
  have h48i : ¬ (281474976710656 < (m : Int)) := by omega
  have hneg : ¬ ((m : Int) < 0) := by omega
  have hst := run_storeCells_at P g n e (zC m) 0 cur.toArray w hg (by simpa [zC_len] using hfit) (zC_one m)
  simp only [Nat.add_zero] at hst
  by_cases h0 : m = 0
  · subst h0
    have e4 : (cur.take n ++ (zC 0 ++ cur.drop (n + 0))) = cur := by simp [zC]
    rw [e4]
    have e5 : w.setRow g cur.toArray = w := by
      have := hst
      simp [zC, storeCells] at this
      exact this.symm
    rw [e5]
    have hr0 : n ≤ cap := by omega
    have hw0 : IntKind.i64.wrap 0 = 0 := by decide
    simp [Builtin.append_, run_underlying ht, run_underlying htn, sizeOf, typeInfo, hi, asInt, asIntOf, hw0, hr0, Addr.add_lit, storeCells]
  · simp [Builtin.append_, run_underlying ht, run_underlying htn, sizeOf, typeInfo, zeroValue, hi, hs, hb, hz, asInt, asIntOf, hw, hneg, h48i, h0, hroom, Addr.add_lit, zeroCells_zC, hst, zC_len]
theorem run_append_grow_zeros (t tn ty e : TypeId) (kn : IntKind) (ht : P.underlying t = some (.slice e)) (htn : P.underlying tn = some (.int kn)) {i : TypeInfo} (hi : P.info? e = some i) (hs : i.size = 1) (hb : i.bytes = 1) (hz : i.zero = some (.int .u8 0))
    (g n cap : Nat) (cur : List Value) (hg : w.heap[g]? = some (.cells cur.toArray e (0, 0))) (m : Nat) (hm : n + m ≤ 70368744177664) (hroom : cap < n + m) (hn : n ≤ cur.length) (hn2 : n ≤ cap) :
    (Builtin.append_ #[t, tn] ty #[.slice (some ⟨g, 0, none⟩) n cap, .int .i64 (m : Int)]).run P w =
      .ok (.slice (some ⟨w.heap.size, 0, none⟩) (n + m) (grownCap w (n + m) cap e)) (w.drew.alloc (.cells (cur.take n ++ (zC m ++ zC (grownCap w (n + m) cap e - (n + m)))).toArray e)) := by
  have hw : IntKind.i64.wrap (m : Int) = m := by rw [IntKind.wrap_i64]; omega
  have h48i : ¬ (281474976710656 < (m : Int)) := by omega
  have hneg : ¬ ((m : Int) < 0) := by omega
  have h0 : ¬ m = 0 := by omega
  have hr : ¬ (n + m ≤ cap) := by omega
  have h63' : ¬ (9223372036854775807 < ((n : Int) + (m : Int))) := by omega
  have h48' : ¬ (281474976710656 < Builtin.nextslicecap (n + m) cap) := by
    have := growslice_fits (need := n + m) (old := cap) (bytes := 1) hroom (by omega)
    omega
  have hlo : (cur.take n).length = n * 1 := by rw [List.length_take]; omega
  have hfo := run_firstCells_some (P := P) w.drew 1 n ⟨g, 0, none⟩ n cap (cur.take n) hlo (by simpa using cells_src (off := 0) (m := n) hg)
  simp [Builtin.append_, run_underlying ht, run_underlying htn, sizeOf, typeInfo, zeroValue, hi, hs, hb, hz, asInt, asIntOf, hw, hneg, h48i, h0, hr, h63', h48', Question.forced, hfo, zeroCells_zC, newRow, grownCap]
end
theorem zOf_inv {o : Oper} {x y : Operand} {t t' : TypeId} (h : zOf o = some (x, y, t, t')) : o.guard = none ∧ ∃ ci : Call, o.op = .call ci ∧ ci.callee = .builtin .append ∧ ci.args = #[x, y] ∧ ci.argTypes = #[t, t'] := by
  unfold zOf at h
  split at h
  · cases h
  · rename_i hgd
    split at h
    · rename_i ci hop
      split at h
      · rename_i hcal
        split at h
        · rename_i s' x' hargs
          split at h
          · rename_i t1 t2 hty
            cases h
            exact ⟨hgd, ci, hop, hcal, hargs, hty⟩
          · cases h
        · cases h
      · cases h
    · cases h
theorem exec_app2 {P : Program} {ρ : Operand → Value} {o : Oper} {x y : Operand} {t t' : TypeId} {v : Value} {w w' : World} (h : zOf o = some (x, y, t, t')) (hr : (Builtin.append_ #[t, t'] o.type #[ρ x, ρ y]).run P w = .ok v w') :
    (execOp ρ o).run P w = .ok (.value v) w' := by
  obtain ⟨_, ci, hop, hcal, hargs, hty⟩ := zOf_inv h
  unfold execOp
  simp only [hop, resolve, invoke, builtin, Sem.run_bind, Sem.run_pure, Result.andThen_ok, List.map_toArray, List.map_cons, List.map_nil, hcal, hargs, hty, hr]
theorem apF_inv {n cap off m : Nat} {d s : List Value} (h : apF n cap d off m s = true) : n ≤ d.length ∧ cap = d.length ∧ off + m ≤ s.length ∧ n + m ≤ 70368744177664 ∧ ∀ u ∈ (s.drop off).take m, u.oneCell' = true := by
  unfold apF at h
  simp only [Bool.and_eq_true] at h
  obtain ⟨h1, h2, h3, h4, h5⟩ := h
  exact ⟨Nat.le_of_ble_eq_true h1, Nat.eq_of_beq_eq_true h2, Nat.le_of_ble_eq_true h3, Nat.le_of_ble_eq_true h4, fun u hu => List.all_eq_true.1 h5 u hu⟩
theorem apZ_inv {n cap : Nat} {d : List Value} {z : Int} (h : apZ n cap d z = true) : n ≤ d.length ∧ cap = d.length ∧ 0 ≤ z ∧ (n : Int) + z ≤ 70368744177664 := by
  unfold apZ at h
  simp only [Bool.and_eq_true, decide_eq_true_eq] at h
  obtain ⟨h1, h2, h3, h4⟩ := h
  exact ⟨Nat.le_of_ble_eq_true h1, Nat.eq_of_beq_eq_true h2, h3, h4⟩
theorem len_gap {n m c : Nat} {a b : List Value} (ha : a.length = n) (hb : b.length = m) (hc : n + m ≤ c) {t : List Value} (ht : t.length = c - (n + m)) : (a ++ (b ++ t)).length = c := by
  simp only [List.length_append, ha, hb, ht]; omega
theorem apOp_ok (jd js : Nat) (o : Oper) (T : Tm) (M : List Rw) (H : AHole) (hq : apOp jd js o T M = some H) (_hn : T.n = H.n) (hneed : ∀ p ∈ H.need, tget T p.1 = p.2) (hpre : ∀ b ∈ H.pre, b = true) (w0 w : World) (hS : SG w0 M w) :
    ∃ fr w', fr.length = H.nf ∧ (execOp (evalT T) o).run Try.prog w = .ok (match H.v fr with | some v => .value v | none => .skip) w' ∧ SG w0 (H.out fr) w' := by
  unfold apOp at hq
  split at hq
  · rename_i t p q hop
    split at hq
    · rename_i ht hpq
      obtain rfl := Nat.eq_of_beq_eq_true ht
      obtain rfl := Nat.eq_of_beq_eq_true hpq
      split at hq
      · rename_i kd z hgd hp
        cases hq
        have h0 := hpre _ (List.mem_cons_self ..)
        have h1 := hpre _ (List.mem_cons_of_mem _ (List.mem_cons_self ..))
        simp only [decide_eq_true_eq] at h0 h1
        obtain ⟨n, rfl⟩ := Int.eq_ofNat_of_zero_le h0
        have hr := run_make_row (P := Try.prog) 23 5 _ _ Try.underlying23 info8 zero8 size8 rfl kd kd n (by rw [bytes8]; omega) (by omega) w
        refine ⟨[⟨w.heap.size, fun _ => undef, []⟩], w.alloc (.cells (madeCells #[.int .u8 0] n) 5), rfl, ?_, ?_⟩
        · have hp2 : evalT T (.tmp p) = .int kd (n : Int) := hp
          unfold execOp
          simp only [hop, hp2, Sem.run_bind, hr, Result.andThen_ok, Sem.run_pure]
          rfl
        · rw [made_zC]
          exact hS.alloc (zC n) 5
      · cases hq
    · cases hq
  · rename_i ci hop
    split at hq
    · rename_i px py t t' hz
      split at hq
      · rename_i ht
        obtain rfl := Nat.eq_of_beq_eq_true ht
        split at hq
        · rename_i ht'
          obtain rfl := Nat.eq_of_beq_eq_true ht'
          split at hq
          · rename_i bd n cap bs off m c2 rd rs hx hy hrd hrs
            cases hq
            have h0 := hpre _ (List.mem_cons_self ..)
            have h1 := Nat.eq_of_beq_eq_true (hpre _ (List.mem_cons_of_mem _ (List.mem_cons_self ..)))
            obtain ⟨f1, f2, f3, f4, f5⟩ := apF_inv (hpre _ (List.mem_cons_of_mem _ (List.mem_cons_of_mem _ (List.mem_cons_self ..))))
            have g1 := hneed _ (List.mem_cons_self ..)
            have g2 := hneed _ (List.mem_cons_of_mem _ (List.mem_cons_self ..))
            simp only at g1 g2
            rw [rowAt_eq] at hrd hrs
            obtain ⟨fr, hrow, hfr⟩ := hS.row (List.mem_of_getElem? hrd)
            obtain rfl := hfr h0
            obtain ⟨fr2, hrow2, _⟩ := hS.row (List.mem_of_getElem? hrs)
            have hsrc := cells_src (off := off) (m := m) hrow2
            have hnl : ((rs.c.drop off).take m).length = m * ((Try.prog.info? 5).getD default).size := by rw [size8, List.length_take, List.length_drop]; omega
            rw [h1] at hrow
            have hjl := (List.getElem?_eq_some_iff.1 hrd).1
            by_cases hroom : n + m ≤ cap
            · have hr := run_append_room (P := Try.prog) w 23 o.type 5 _ Try.underlying23 info8 rd.b n cap rd.c.toArray hrow ⟨rs.b, off, none⟩ m c2 _ hnl hsrc f5 hroom (by rw [hnl, size8]; simp; omega)
              rw [← g1, ← g2] at hr
              have ea : (List.take (n * ((Try.prog.info? 5).getD default).size) rd.c.toArray.toList ++ (rs.c.drop off).take m ++ List.drop (n * ((Try.prog.info? 5).getD default).size + ((rs.c.drop off).take m).length) rd.c.toArray.toList).toArray = (rd.c.take n ++ ((rs.c.drop off).take m ++ rd.c.drop (n + m))).toArray := by
                rw [hnl, size8]
                simp
              rw [ea] at hr
              refine ⟨[⟨rd.b, fun _ => undef, rd.c.drop (n + m)⟩], w.setRow rd.b (rd.c.take n ++ ((rs.c.drop off).take m ++ rd.c.drop (n + m))).toArray, rfl, exec_app2 hz ?_, ?_⟩
              · have e : (rd.c.take n ++ ((rs.c.drop off).take m ++ rd.c.drop (n + m))).length = cap := len_gap (n := n) (m := m) (by rw [List.length_take]; omega) (by rw [hnl, size8]; omega) hroom (by rw [List.length_drop]; omega)
                show _ = Result.ok (Value.slice (some ⟨rd.b, 0, none⟩) (n + m) (rd.c.take n ++ ((rs.c.drop off).take m ++ rd.c.drop (n + m))).length) _
                rw [e]
                exact hr
              · have hS1 := hS.set hrd h0 (rd.c.take n ++ ((rs.c.drop off).take m ++ rd.c.drop (n + m)))
                have hp := set_perm M jd ⟨rd.b, rd.c.take n ++ ((rs.c.drop off).take m ++ rd.c.drop (n + m)), rd.t, true⟩ hjl
                have hS2 := hS1.perm hp
                rw [h1] at hS2
                exact hS2
            · have hxl : (rd.c.take n).length = n * ((Try.prog.info? 5).getD default).size := by rw [size8, List.length_take]; omega
              have hr := run_append_grow (P := Try.prog) w 23 o.type 5 _ _ Try.underlying23 info8 zero8 ⟨rd.b, 0, none⟩ n cap (rd.c.take n) hxl (by simpa using cells_src (off := 0) (m := n) hrow) ⟨rs.b, off, none⟩ m c2 _ hnl hsrc (by omega) (by omega) (by rw [bytes8]; exact growslice_fits (by omega) (by omega))
              rw [← g1, ← g2] at hr
              have hge := grownCap_ge w (n + m) cap 5
              have ea : (rd.c.take n).toArray ++ ((rs.c.drop off).take m).toArray ++ Builtin.zeroCells (Value.int .u8 0).cells (grownCap w (n + m) cap 5 - (n + m)) = (rd.c.take n ++ ((rs.c.drop off).take m ++ zC (grownCap w (n + m) cap 5 - (n + m)))).toArray := by
                rw [zeroCells_zC]
                apply Array.ext'
                simp
              rw [ea] at hr
              refine ⟨[⟨w.heap.size, fun _ => undef, zC (grownCap w (n + m) cap 5 - (n + m))⟩], w.drew.alloc (.cells (rd.c.take n ++ ((rs.c.drop off).take m ++ zC (grownCap w (n + m) cap 5 - (n + m)))).toArray 5), rfl, exec_app2 hz ?_, ?_⟩
              · have e : (rd.c.take n ++ ((rs.c.drop off).take m ++ zC (grownCap w (n + m) cap 5 - (n + m)))).length = grownCap w (n + m) cap 5 := len_gap (n := n) (m := m) (by rw [List.length_take]; omega) (by rw [hnl, size8]; omega) hge (zC_len _)
                show _ = Result.ok (Value.slice (some ⟨w.heap.size, 0, none⟩) (n + m) (rd.c.take n ++ ((rs.c.drop off).take m ++ zC (grownCap w (n + m) cap 5 - (n + m)))).length) _
                rw [e]
                exact hr
              · have hS1 := ((hS.grow (Gr.drew (Gr.refl w))).alloc (rd.c.take n ++ ((rs.c.drop off).take m ++ zC (grownCap w (n + m) cap 5 - (n + m)))) 5).sub (List.Sublist.cons_cons _ (List.eraseIdx_sublist M jd))
                exact hS1
          · cases hq
        · split at hq
          · rename_i ht'
            obtain rfl := Nat.eq_of_beq_eq_true ht'
            split at hq
            · rename_i bd n cap z rd hx hy hrd
              cases hq
              have h0 := hpre _ (List.mem_cons_self ..)
              have h1 := Nat.eq_of_beq_eq_true (hpre _ (List.mem_cons_of_mem _ (List.mem_cons_self ..)))
              obtain ⟨f1, f2, f3, f4⟩ := apZ_inv (hpre _ (List.mem_cons_of_mem _ (List.mem_cons_of_mem _ (List.mem_cons_self ..))))
              have g1 := hneed _ (List.mem_cons_self ..)
              simp only at g1
              rw [rowAt_eq] at hrd
              obtain ⟨m, rfl⟩ := Int.eq_ofNat_of_zero_le f3
              have hy2 : evalT T (.tmp py) = .int .i64 (m : Int) := hy
              have hx2 : evalT T (.tmp px) = .slice (some ⟨rd.b, 0, none⟩) n cap := g1
              obtain ⟨fr, hrow, hfr⟩ := hS.row (List.mem_of_getElem? hrd)
              obtain rfl := hfr h0
              rw [h1] at hrow
              have hjl := (List.getElem?_eq_some_iff.1 hrd).1
              simp only [Int.toNat_natCast]
              by_cases hroom : n + m ≤ cap
              · have hr := run_append_room_zeros (P := Try.prog) w 23 3 o.type 5 .i64 Try.underlying23 Try.underlying3 info8 size8 bytes8 zero8 rd.b n cap rd.c hrow m (by omega) hroom (by omega)
                rw [← hx2, ← hy2] at hr
                refine ⟨[⟨rd.b, fun _ => undef, rd.c.drop (n + m)⟩], w.setRow rd.b (rd.c.take n ++ (zC m ++ rd.c.drop (n + m))).toArray, rfl, exec_app2 hz ?_, ?_⟩
                · have e : (rd.c.take n ++ (zC m ++ rd.c.drop (n + m))).length = cap := len_gap (n := n) (m := m) (by rw [List.length_take]; omega) (zC_len m) hroom (by rw [List.length_drop]; omega)
                  show _ = Result.ok (Value.slice (some ⟨rd.b, 0, none⟩) (n + m) (rd.c.take n ++ (zC m ++ rd.c.drop (n + m))).length) _
                  rw [e]
                  exact hr
                · have hS1 := hS.set hrd h0 (rd.c.take n ++ (zC m ++ rd.c.drop (n + m)))
                  have hS2 := hS1.perm (set_perm M jd ⟨rd.b, rd.c.take n ++ (zC m ++ rd.c.drop (n + m)), rd.t, true⟩ hjl)
                  rw [h1] at hS2
                  exact hS2
              · have hr := run_append_grow_zeros (P := Try.prog) w 23 3 o.type 5 .i64 Try.underlying23 Try.underlying3 info8 size8 bytes8 zero8 rd.b n cap rd.c hrow m (by omega) (by omega) f1 (by omega)
                rw [← hx2, ← hy2] at hr
                have hge := grownCap_ge w (n + m) cap 5
                refine ⟨[⟨w.heap.size, fun _ => undef, zC (grownCap w (n + m) cap 5 - (n + m))⟩], w.drew.alloc (.cells (rd.c.take n ++ (zC m ++ zC (grownCap w (n + m) cap 5 - (n + m)))).toArray 5), rfl, exec_app2 hz ?_, ?_⟩
                · have e : (rd.c.take n ++ (zC m ++ zC (grownCap w (n + m) cap 5 - (n + m)))).length = grownCap w (n + m) cap 5 := len_gap (n := n) (m := m) (by rw [List.length_take]; omega) (zC_len m) hge (zC_len _)
                  show _ = Result.ok (Value.slice (some ⟨w.heap.size, 0, none⟩) (n + m) (rd.c.take n ++ (zC m ++ zC (grownCap w (n + m) cap 5 - (n + m)))).length) _
                  rw [e]
                  exact hr
                · exact ((hS.grow (Gr.drew (Gr.refl w))).alloc (rd.c.take n ++ (zC m ++ zC (grownCap w (n + m) cap 5 - (n + m)))) 5).sub (List.Sublist.cons_cons _ (List.eraseIdx_sublist M jd))
            · cases hq
          · cases hq
      · cases hq
    · cases hq
  · cases hq
end Ev
end Go.Proofs.Ytmgkejpjljkfdaa
