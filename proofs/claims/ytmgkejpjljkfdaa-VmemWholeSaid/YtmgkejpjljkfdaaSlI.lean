/-
  An array's element by a number that is no literal: its address in an own row, its value, its store. Of no function.
-/
import Derived.Test.YtmgkejpjljkfdaaSlC
import Derived.Test.YtmgkejpjljkfdaaVec
namespace Go.Proofs.Ytmgkejpjljkfdaa
open Go.RowKit VecM
section
variable {P : Program} {ops : Array Oper} {Q : Exit → Act → World → Prop} {w0 w : World} {M M' : List Ent} {a : Act} {o : Oper} {rest : List Oper}
theorem addr_add0 (b j : Nat) : (⟨b, 0, none⟩ : Addr).add j = ⟨b, j, none⟩ := by unfold Addr.add; split <;> simp_all
theorem run_addr {t e : TypeId} {n j b : Nat} {kd : IntKind} {x i : Operand} (ho : o.op = .indexAddr t x i) (hx : a.eval x = .pointer (some ⟨b, 0, none⟩)) (hi : a.eval i = .int kd (j : Int)) (hu : P.underlying t = some (.array n e)) {f : TypeInfo} (hf : P.info? e = some f) (h1 : f.size = 1) (hj : j < n) (w : World) :
    (execOp a.eval o).run P w = .ok (.value (.pointer (some ⟨b, j, none⟩))) w := by
  unfold execOp
  simp [ho, hx, hi, Instr.indexAt, asIntOf, Instr.sureAddr, run_underlying hu, sizeOf, typeInfo, hf, h1, hj, addr_add0, Result.andThen]
theorem run_saddr {t e : TypeId} {n c j b : Nat} {kd : IntKind} {x i : Operand} (ho : o.op = .indexAddr t x i) (hx : a.eval x = .slice (some ⟨b, 0, none⟩) n c) (hi : a.eval i = .int kd (j : Int)) (hu : P.underlying t = some (.slice e)) {f : TypeInfo} (hf : P.info? e = some f) (h1 : f.size = 1) (hj : j < n) (w : World) :
    (execOp a.eval o).run P w = .ok (.value (.pointer (some ⟨b, j, none⟩))) w := by
  unfold execOp
  simp [ho, hx, hi, Instr.indexAt, asIntOf, run_underlying hu, sizeOf, typeInfo, hf, h1, hj, addr_add0, Result.andThen]
theorem run_idx {t e : TypeId} {n j : Nat} {kd : IntKind} {x i : Operand} {c : Array Value} {v : Value} (ho : o.op = .index t x i) (hx : a.eval x = .agg c) (hi : a.eval i = .int kd (j : Int)) (hu : P.underlying t = some (.array n e)) {f : TypeInfo} (hf : P.info? e = some f) (h1 : f.size = 1)
    {ek : IntKind} (he : P.underlying e = some (.int ek)) (hj : j < n) (hv : c[j]? = some v) (w : World) :
    (execOp a.eval o).run P w = .ok (.value v) w := by
  unfold execOp
  simp [ho, hx, hi, Instr.index, asIntOf, run_underlying hu, sizeOf, typeInfo, hf, h1, hj, part, isAgg, run_underlying he, hv, Result.andThen]
theorem run_put {t : TypeId} {b j : Nat} {x y : Operand} {u v : Value} (ho : o.op = .store t x y) (hx : a.eval x = .pointer (some ⟨b, j, none⟩)) (hy : a.eval y = v) {f : TypeInfo} (hf : P.info? t = some f) (h1 : f.size = 1) (hv : v.oneCell' = true) (w : World)
    (hc : w.cell? ⟨b, j, none⟩ = some u) (hz : w.frozen? ⟨b, j, none⟩ = false) : (execOp a.eval o).run P w = .ok .skip (w.setCell ⟨b, j, none⟩ v) := by
  unfold execOp
  cases v <;> first | (simp [Value.oneCell'] at hv; done) | simp [ho, hx, hy, Instr.storeAt, Instr.sureAddr, storeVar, Value.cells, sizeOf, typeInfo, hf, h1, storeCells, Addr.add, store, Sem.run, hc, hz, Result.andThen]
theorem sl_addr (hw : Region.wanted o (yielded ops a.tmps) = true) (t e : TypeId) {n : Nat} (x i : Operand) (ho : o.op = .indexAddr t x i) {b : Nat} (hx : a.eval x = .pointer (some ⟨b, 0, none⟩)) (kd : IntKind) (j : Nat) (hi : a.eval i = .int kd (j : Int)) (hu : P.underlying t = some (.array n e))
    {f : TypeInfo} (hf : P.info? e = some f) (h1 : f.size = 1) (hj : j < n) (h : wpList P ops Q rest (a.put o.dst (.pointer (some ⟨b, j, none⟩))) w) : wpList P ops Q (o :: rest) a w := by
  unfold wpList
  rw [if_pos hw]
  refine .inl ?_
  unfold Oper.wp
  rw [run_addr ho hx hi hu hf h1 hj]
  exact h
theorem sl_idx (hw : Region.wanted o (yielded ops a.tmps) = true) (t e : TypeId) {n : Nat} (x i : Operand) (ho : o.op = .index t x i) {c : Array Value} (hx : a.eval x = .agg c) (kd : IntKind) (j : Nat) (hi : a.eval i = .int kd (j : Int)) (hu : P.underlying t = some (.array n e))
    {f : TypeInfo} (hf : P.info? e = some f) (h1 : f.size = 1) {ek : IntKind} (he : P.underlying e = some (.int ek)) (hj : j < n) {v : Value} (hv : c[j]? = some v) (h : wpList P ops Q rest (a.put o.dst v) w) : wpList P ops Q (o :: rest) a w := by
  unfold wpList
  rw [if_pos hw]
  refine .inl ?_
  unfold Oper.wp
  rw [run_idx ho hx hi hu hf h1 he hj hv]
  exact h
theorem sl_lcell (hw : Region.wanted o (yielded ops a.tmps) = true) (ty : TypeId) (x : Operand) (_ho : o.op = .load ty x) {b off : Nat} (_hx : a.eval x = .pointer (some ⟨b, off, none⟩))
    {v : Value} (hv : w.cell? ⟨b, off, none⟩ = some v) (hrun : ∀ w : World, w.cell? ⟨b, off, none⟩ = some v → (execOp a.eval o).run P w = .ok (.value v) w)
    (h : wpList P ops Q rest (a.put o.dst v) w) : wpList P ops Q (o :: rest) a w := by
  unfold wpList
  rw [if_pos hw]
  refine .inl ?_
  unfold Oper.wp
  rw [hrun w hv]
  exact h
theorem sl_put (hS : St w0 M w) (hgd : o.guard = none) (ty : TypeId) (x y : Operand) (ho : o.op = .store ty x y) {b j : Nat} (hx : a.eval x = .pointer (some ⟨b, j, none⟩)) {v : Value} (hy : a.eval y = v) {c c' : Array Value} {t : TypeId} (hr : Rep M b c t c' M') (hj : j < c.size) (hc : c.setIfInBounds j v = c')
    {f : TypeInfo} (hf : P.info? ty = some f) (h1 : f.size = 1) (hv : v.oneCell' = true) (h : ∀ w', St w0 M' w' → wpList P ops Q rest (a.put o.dst undef) w') : wpList P ops Q (o :: rest) a w := by
  subst hc
  refine wpList_plain hgd fun K hK => ?_
  unfold Oper.wp
  rw [run_put (u := c[j]) ho hx hy hf h1 hv w (by rw [hS.cell hr.has j, Array.getElem?_eq_getElem hj]) (hS.thawed hr.has j)]
  exact hK _ _ (h _ (hS.setCell j v hr))
theorem sd_addr {K : Act → Prop} (hw : Region.wanted o (yielded ops a.tmps) = true) (t e : TypeId) {n : Nat} (x i : Operand) (ho : o.op = .indexAddr t x i) {b : Nat} (hx : a.eval x = .pointer (some ⟨b, 0, none⟩)) (kd : IntKind) (j : Nat) (hi : a.eval i = .int kd (j : Int)) (hu : P.underlying t = some (.array n e))
    {f : TypeInfo} (hf : P.info? e = some f) (h1 : f.size = 1) (hj : j < n) (h : K (a.put o.dst (.pointer (some ⟨b, j, none⟩)))) : ∃ v, YldM P ops w0 M o v a ∧ K (a.put o.dst v) :=
  sd_yes hw (fun w _ => by rw [run_addr ho hx hi hu hf h1 hj]; exact ⟨rfl, Gr.refl _⟩) h
theorem sd_idx {K : Act → Prop} (hw : Region.wanted o (yielded ops a.tmps) = true) (t e : TypeId) {n : Nat} (x i : Operand) (ho : o.op = .index t x i) {c : Array Value} (hx : a.eval x = .agg c) (kd : IntKind) (j : Nat) (hi : a.eval i = .int kd (j : Int)) (hu : P.underlying t = some (.array n e))
    {f : TypeInfo} (hf : P.info? e = some f) (h1 : f.size = 1) {ek : IntKind} (he : P.underlying e = some (.int ek)) (hj : j < n) {v : Value} (hv : c[j]? = some v) (h : K (a.put o.dst v)) : ∃ v, YldM P ops w0 M o v a ∧ K (a.put o.dst v) :=
  sd_yes hw (fun w _ => by rw [run_idx ho hx hi hu hf h1 he hj hv]; exact ⟨rfl, Gr.refl _⟩) h
theorem info8 : Try.prog.info? 5 = some ((Try.prog.info? 5).getD default) := by kernel_rfl
theorem size8 : ((Try.prog.info? 5).getD default).size = 1 := by kernel_rfl
theorem bs_upd (c : Nat → Int) (j : Nat) (y : Int) (h : j < 16) : (bs c).setIfInBounds j (.int .u8 y) = bs (upd c j y) := by
  match j with
  | 0 | 1 | 2 | 3 | 4 | 5 | 6 | 7 | 8 | 9 | 10 | 11 | 12 | 13 | 14 | 15 => rfl
  | k + 16 => omega
end
end Go.Proofs.Ytmgkejpjljkfdaa
