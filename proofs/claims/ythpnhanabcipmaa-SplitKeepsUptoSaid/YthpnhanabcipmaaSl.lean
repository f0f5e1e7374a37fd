/-
  A function's own rows of memory as a list: each row's block, cells and type; none written by others, all apart. The operations that lay, read and write them, as steps on that list; so no fact of a world need be carried by hand. Of no program.
-/
import Derived.Test.YthpnhanabcipmaaLate
namespace Go.Proofs.Ythpnhanabcipmaa
open Go.RowKit
structure Ent where
  b : Nat
  c : Array Value
  t : TypeId
/-- w is w0 grown, and has these rows behind what w0 had -/
def St (w0 : World) (M : List Ent) (w : World) : Prop := Gr w0 w ∧ (M.map Ent.b).Nodup ∧ ∀ e ∈ M, w0.heap.size ≤ e.b ∧ w.heap[e.b]? = some (.cells e.c e.t (0, 0))
theorem St.start (w : World) : St w [] w := ⟨Gr.refl _, List.nodup_nil, fun _ h => by cases h⟩
theorem St.gr {w0 w : World} {M : List Ent} (h : St w0 M w) : Gr w0 w := h.1
theorem St.grow {w0 w w' : World} {M : List Ent} (h : St w0 M w) (hg : Gr w w') : St w0 M w' :=
  ⟨gr_trans h.1 hg, h.2.1, fun e he => ⟨(h.2.2 e he).1, gr_block hg (h.2.2 e he).2⟩⟩
theorem St.drew {w0 w : World} {M : List Ent} (h : St w0 M w) : St w0 M w.drew := h.grow (Gr.drew (Gr.refl _))
theorem St.tail {w0 w : World} {e : Ent} {M : List Ent} (h : St w0 (e :: M) w) : St w0 M w :=
  ⟨h.1, (List.nodup_cons.1 h.2.1).2, fun x hx => h.2.2 x (List.mem_cons_of_mem _ hx)⟩
theorem St.sub {w0 w : World} {M M' : List Ent} (h : St w0 M w) (hs : M'.Sublist M) : St w0 M' w :=
  ⟨h.1, h.2.1.sublist (hs.map _), fun x hx => h.2.2 x (hs.subset hx)⟩
theorem St.fresh {w0 w : World} {M : List Ent} (h : St w0 M w) {e : Ent} (he : e ∈ M) : e.b < w.heap.size := (Array.getElem?_eq_some_iff.1 (h.2.2 e he).2).1
theorem St.alloc {w0 w : World} {M : List Ent} (h : St w0 M w) (c : Array Value) (t : TypeId) : St w0 (⟨w.heap.size, c, t⟩ :: M) (w.alloc (.cells c t)) := by
  have hg : Gr w (w.alloc (.cells c t)) := (Gr.refl w).alloc c t
  have h' := h.grow hg
  refine ⟨h'.1, List.nodup_cons.2 ⟨fun hm => ?_, h.2.1⟩, fun e he => ?_⟩
  · obtain ⟨e, he, hb⟩ := List.mem_map.1 hm
    have := h.fresh he
    simp only at hb
    omega
  · rcases List.mem_cons.1 he with rfl | he
    · exact ⟨h.1.size, heap_alloc_new w _⟩
    · exact h'.2.2 e he
/-- the row of a block, and the list with that row written anew -/
inductive Has : List Ent → Nat → Array Value → TypeId → Prop where
  | hd {b : Nat} {c : Array Value} {t : TypeId} {M : List Ent} : Has (⟨b, c, t⟩ :: M) b c t
  | tl {e : Ent} {M : List Ent} {b : Nat} {c : Array Value} {t : TypeId} : Has M b c t → Has (e :: M) b c t
inductive Rep : List Ent → Nat → Array Value → TypeId → Array Value → List Ent → Prop where
  | hd {b : Nat} {c c' : Array Value} {t : TypeId} {M : List Ent} : Rep (⟨b, c, t⟩ :: M) b c t c' (⟨b, c', t⟩ :: M)
  | tl {e : Ent} {M M' : List Ent} {b : Nat} {c c' : Array Value} {t : TypeId} : Rep M b c t c' M' → Rep (e :: M) b c t c' (e :: M')
theorem Has.mem {M : List Ent} {b : Nat} {c : Array Value} {t : TypeId} (h : Has M b c t) : ⟨b, c, t⟩ ∈ M := by
  induction h with
  | hd => exact List.mem_cons_self ..
  | tl _ ih => exact List.mem_cons_of_mem _ ih
theorem Rep.has {M M' : List Ent} {b : Nat} {c c' : Array Value} {t : TypeId} (h : Rep M b c t c' M') : Has M b c t := by
  induction h with
  | hd => exact .hd
  | tl _ ih => exact .tl ih
theorem Rep.blocks {M M' : List Ent} {b : Nat} {c c' : Array Value} {t : TypeId} (h : Rep M b c t c' M') : M'.map Ent.b = M.map Ent.b := by
  induction h with
  | hd => rfl
  | tl _ ih => simp only [List.map_cons, ih]
theorem Rep.mem {M M' : List Ent} {b : Nat} {c c' : Array Value} {t : TypeId} (h : Rep M b c t c' M') (hn : (M.map Ent.b).Nodup) : ∀ e ∈ M', e = ⟨b, c', t⟩ ∨ (e ∈ M ∧ e.b ≠ b) := by
  induction h with
  | hd =>
    intro e he
    rcases List.mem_cons.1 he with rfl | he
    · exact .inl rfl
    · refine .inr ⟨List.mem_cons_of_mem _ he, fun hb => ?_⟩
      exact (List.nodup_cons.1 hn).1 (List.mem_map.2 ⟨e, he, hb⟩)
  | tl h ih =>
    intro e he
    rcases List.mem_cons.1 he with rfl | he
    · refine .inr ⟨List.mem_cons_self .., fun hb => ?_⟩
      exact (List.nodup_cons.1 hn).1 (List.mem_map.2 ⟨_, h.has.mem, hb.symm⟩)
    · rcases ih (List.nodup_cons.1 hn).2 e he with h | ⟨h, hb⟩
      · exact .inl h
      · exact .inr ⟨List.mem_cons_of_mem _ h, hb⟩
theorem St.row {w0 w : World} {M : List Ent} {b : Nat} {c : Array Value} {t : TypeId} (h : St w0 M w) (hm : Has M b c t) : w.heap[b]? = some (.cells c t (0, 0)) := (h.2.2 _ hm.mem).2
theorem St.base {w0 w : World} {M : List Ent} {b : Nat} {c : Array Value} {t : TypeId} (h : St w0 M w) (hm : Has M b c t) : w0.heap.size ≤ b := (h.2.2 _ hm.mem).1
theorem St.setRow {w0 w : World} {M M' : List Ent} {b : Nat} {c c' : Array Value} {t : TypeId} (h : St w0 M w) (hr : Rep M b c t c' M') : St w0 M' (w.setRow b c') := by
  refine ⟨gr_setRow h.1 (h.base hr.has) c', by rw [hr.blocks]; exact h.2.1, fun e he => ?_⟩
  rcases hr.mem h.2.1 e he with rfl | ⟨hm, hne⟩
  · exact ⟨h.base hr.has, setRow_block (h.row hr.has)⟩
  · exact ⟨(h.2.2 e hm).1, (setRow_block_other hne).trans (h.2.2 e hm).2⟩
theorem setCell_block {w : World} {b : Nat} {c : Array Value} {t : TypeId} {z : Nat × Nat} (h : w.heap[b]? = some (.cells c t z)) (j : Nat) (v : Value) : (w.setCell ⟨b, j, none⟩ v).heap[b]? = some (.cells (c.setIfInBounds j v) t z) := by
  simp [World.setCell, Array.getElem?_modify, h]
theorem setCell_block_other {w : World} {b i j : Nat} {v : Value} (h : i ≠ b) : (w.setCell ⟨b, j, none⟩ v).heap[i]? = w.heap[i]? := by
  simp only [World.setCell, Array.getElem?_modify]
  rw [if_neg (fun e => h e.symm)]
theorem St.setCell {w0 w : World} {M M' : List Ent} {b : Nat} {c : Array Value} {t : TypeId} (h : St w0 M w) (j : Nat) (v : Value) (hr : Rep M b c t (c.setIfInBounds j v) M') : St w0 M' (w.setCell ⟨b, j, none⟩ v) := by
  refine ⟨h.1.setCell (h.base hr.has) v, by rw [hr.blocks]; exact h.2.1, fun e he => ?_⟩
  rcases hr.mem h.2.1 e he with rfl | ⟨hm, hne⟩
  · exact ⟨h.base hr.has, setCell_block (h.row hr.has) j v⟩
  · exact ⟨(h.2.2 e hm).1, (setCell_block_other hne).trans (h.2.2 e hm).2⟩
theorem St.cell {w0 w : World} {M : List Ent} {b : Nat} {c : Array Value} {t : TypeId} (h : St w0 M w) (hm : Has M b c t) (j : Nat) : w.cell? ⟨b, j, none⟩ = c[j]? := by
  simp [World.cell?, h.row hm]
theorem St.thawed {w0 w : World} {M : List Ent} {b : Nat} {c : Array Value} {t : TypeId} (h : St w0 M w) (hm : Has M b c t) (j : Nat) : w.frozen? ⟨b, j, none⟩ = false := by
  simp [World.frozen?, h.row hm]
/-! ### steps of a list of operations -/
section
variable {P : Program} {ops : Array Oper} {Q : Exit → Act → World → Prop} {w0 w : World} {M M' : List Ent} {a : Act} {o : Oper} {rest : List Oper}
theorem sl_load (hS : St w0 M w) (hw : Region.wanted o (yielded ops a.tmps) = true) (ty : TypeId) (x : Operand) (ho : o.op = .load ty x) {b : Nat} (hx : a.eval x = .pointer (some ⟨b, 0, none⟩)) {c : Array Value} {t : TypeId} (hm : Has M b c t)
    {d : TypeDesc} (hu : P.underlying ty = some d) (hd : (match d with | .struct _ | .array _ _ => true | _ => false) = true) (hi : (P.info? ty).map (·.size) = some c.size)
    (h : wpList P ops Q rest (a.put o.dst (.agg c)) w) : wpList P ops Q (o :: rest) a w := by
  unfold wpList
  rw [if_pos hw]
  refine .inl ?_
  unfold Oper.wp execOp
  simp only [ho, hx, Instr.loadAt, Instr.sureAddr, Sem.run_bind, Sem.run_pure, Result.andThen_ok, run_loadVar_row w b t ty c (0, 0) d (hS.row hm) hu hd hi]
  exact h
theorem sl_store (hS : St w0 M w) (hgd : o.guard = none) (ty : TypeId) (x y : Operand) (ho : o.op = .store ty x y) {b : Nat} (hx : a.eval x = .pointer (some ⟨b, 0, none⟩)) {c' : Array Value} (hy : a.eval y = .agg c') {c : Array Value} {t : TypeId} (hr : Rep M b c t c' M')
    (hi : (P.info? ty).map (·.size) = some c'.size) (hz : c'.size = c.size) (h1 : c'.all (·.oneCell') = true)
    (h : ∀ w', St w0 M' w' → wpList P ops Q rest (a.put o.dst undef) w') : wpList P ops Q (o :: rest) a w :=
  wpList_store_row hgd ty x y ho b c' hx hy t c (hS.row hr.has) hi hz.symm h1 (h _ (hS.setRow hr))
theorem sl_box (hS : St w0 M w) (hgd : o.guard = none) (c : Array Value) (t : TypeId) (hrun : ∀ w : World, (execOp a.eval o).run P w = .ok (.value (.pointer (some ⟨w.heap.size, 0, none⟩))) (w.alloc (.cells c t)))
    (h : ∀ b w', St w0 (⟨b, c, t⟩ :: M) w' → wpList P ops Q rest (a.put o.dst (.pointer (some ⟨b, 0, none⟩))) w') : wpList P ops Q (o :: rest) a w :=
  wpList_plain hgd fun K hK => by
    unfold Oper.wp
    rw [hrun w]
    exact hK _ _ (h _ _ (hS.alloc c t))
theorem calls_gr {f : FuncId} {args : Array Value} {v : Value} (h : Calls P f args w fun e w' => e = .returned v ∧ w = w') : Calls P f args w fun e w' => e = .returned v ∧ Gr w w' :=
  h.mono fun _ _ ⟨h1, h2⟩ => ⟨h1, h2 ▸ Gr.refl _⟩
/-- a call that lays memory of its own at most -/
theorem sl_call (hS : St w0 M w) {f : FuncId} {args : Array Value} {v : Value} {R : Ending → World → Prop} (hc : Calls P f args w fun e w' => e = .returned v ∧ Gr w w') (h : ∀ w', St w0 M w' → R (.returned v) w') : Calls P f args w R :=
  hc.mono fun e w' ⟨he, hg⟩ => by subst he; exact h w' (hS.grow hg)
/-- a result that lies in a row; one in a row and one in a slot -/
theorem sl_ret {fn : Func} {R : Ending → World → Prop} {p : Tmp} {ty : TypeId} {b : Nat} {c : Array Value} {t : TypeId} {d : TypeDesc} (hS : St w0 M w) (hr : fn.results = #[.cell p ty]) (hx : a.tmps.getD p undef = .pointer (some ⟨b, 0, none⟩)) (hm : Has M b c t)
    (hu : P.underlying ty = some d) (hd : (match d with | .struct _ | .array _ _ => true | _ => false) = true) (hi : (P.info? ty).map (·.size) = some c.size) (hdf : a.defers = []) (hR : R (.returned (.agg c)) w) : bodyPost P fn R .ret a w :=
  bodyPost_ret (results_cell_row hr a.tmps w b t c (0, 0) d hx (hS.row hm) hu hd hi) hdf hR
theorem results_cell_tmp {fn : Func} {p q : Tmp} {ty : TypeId} (h : fn.results = #[.cell p ty, .tmp q]) (tmps : Array Value) (w : World) (g : Nat) (t : TypeId) (cs : Array Value) (fr : Nat × Nat) (d : TypeDesc)
    (hp : tmps.getD p undef = .pointer (some ⟨g, 0, none⟩)) (hg : w.heap[g]? = some (.cells cs t fr))
    (hu : P.underlying ty = some d) (hd : (match d with | .struct _ | .array _ _ => true | _ => false) = true) (hi : (P.info? ty).map (·.size) = some cs.size) :
    (results fn tmps).run P w = .ok (.tuple #[.agg cs, tmps.getD q undef]) w := by
  have hp' : tmps[p]?.getD undef = .pointer (some ⟨g, 0, none⟩) := by simpa using hp
  simp [results, h, hp', asAddr, run_loadVar_row w g t ty cs fr d hg hu hd hi]
theorem sl_ret2 {fn : Func} {R : Ending → World → Prop} {p q : Tmp} {ty : TypeId} {b : Nat} {c : Array Value} {t : TypeId} {d : TypeDesc} (hS : St w0 M w) (hr : fn.results = #[.cell p ty, .tmp q]) (hx : a.tmps.getD p undef = .pointer (some ⟨b, 0, none⟩)) (hm : Has M b c t)
    (hu : P.underlying ty = some d) (hd : (match d with | .struct _ | .array _ _ => true | _ => false) = true) (hi : (P.info? ty).map (·.size) = some c.size) (hdf : a.defers = []) (hR : R (.returned (.tuple #[.agg c, a.tmps.getD q undef])) w) : bodyPost P fn R .ret a w :=
  bodyPost_ret (results_cell_tmp hr a.tmps w b t c (0, 0) d hx (hS.row hm) hu hd hi) hdf hR
end
end Go.Proofs.Ythpnhanabcipmaa
