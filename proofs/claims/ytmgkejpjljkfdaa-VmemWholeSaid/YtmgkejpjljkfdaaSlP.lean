/-
  Plain regions, operation by operation, over the list of own rows. Of no function.
-/
import Derived.Test.YtmgkejpjljkfdaaSlI
import Derived.Test.YtmgkejpjljkfdaaSlQ
namespace Go.Proofs.Ytmgkejpjljkfdaa
open Go.RowKit VecM
section
variable {P : Program} {ops : Array Oper} {Q : Exit → Act → World → Prop} {w0 w : World} {M M' : List Ent} {a : Act} {o : Oper} {rest : List Oper}
theorem sl_step (h : ∀ K : Act → World → Prop, (∀ a w, wpList P ops Q rest a w → K a w) → (Region.wanted o (yielded ops a.tmps) = true ∧ o.wp P a w K Q) ∨ (Region.wanted o (yielded ops a.tmps) = false ∧ K (a.put o.dst undef) w)) : wpList P ops Q (o :: rest) a w := by
  rcases h _ (fun _ _ h => h) with ⟨h1, h2⟩ | ⟨h1, h2⟩
  · unfold wpList; rw [if_pos h1]; exact .inl h2
  · unfold wpList; rw [if_neg (by rw [h1]; decide)]; exact h2
theorem sl_val (hw : Region.wanted o (yielded ops a.tmps) = true) {v : Value} (hrun : ∀ w, (execOp a.eval o).run P w = .ok (.value v) w) (h : wpList P ops Q rest (a.put o.dst v) w) : wpList P ops Q (o :: rest) a w := by
  unfold wpList; rw [if_pos hw]; refine .inl ?_; unfold Oper.wp; rw [hrun]; exact h
theorem sl_skip (hw : Region.wanted o (yielded ops a.tmps) = false) (h : wpList P ops Q rest (a.put o.dst undef) w) : wpList P ops Q (o :: rest) a w := by
  unfold wpList; rw [if_neg (by rw [hw]; decide)]; exact h
theorem sl_go (hS : St w0 M w) (hw : Region.wanted o (yielded ops a.tmps) = true) {v : Value} {f : FuncId} {args : Array Value} (hrun : ∀ w, (execOp a.eval o).run P w = .ok (.enter f args) w) (hc : Calls P f args w fun e w' => e = .returned v ∧ Gr w w') (h : ∀ w', St w0 M w' → wpList P ops Q rest (a.put o.dst v) w') : wpList P ops Q (o :: rest) a w := by
  unfold wpList; rw [if_pos hw]; refine .inl ?_; unfold Oper.wp; rw [hrun]
  exact hc.mono fun e w' ⟨he, hg⟩ => by subst he; exact h w' (hS.grow hg)
theorem run_ar {b : BinOp} {k : IntKind} {t t' : TypeId} {x y : Operand} {m n z : Int} (ho : o.op = .binOp b t x y t') (hx : a.eval x = .int k m) (hy : a.eval y = .int k n) (hb : b = .add ∨ b = .sub ∨ b = .mul)
    (hz : k.wrap (if b = .add then m + n else if b = .sub then m - n else m * n) = z) (w : World) : (execOp a.eval o).run P w = .ok (.value (.int k z)) w := by
  unfold execOp
  rcases hb with rfl | rfl | rfl <;> simp_all [eqGuard, binOp, Op.intArith, Result.andThen]
theorem run_add {k : IntKind} {t t' : TypeId} {x y : Operand} {m n z : Int} (ho : o.op = .binOp .add t x y t') (hx : a.eval x = .int k m) (hy : a.eval y = .int k n) (hz : k.wrap (m + n) = z) (w : World) : (execOp a.eval o).run P w = .ok (.value (.int k z)) w := by
  unfold execOp; simp [ho, hx, hy, eqGuard, binOp, Op.intArith, Result.andThen, hz]
theorem run_sub {k : IntKind} {t t' : TypeId} {x y : Operand} {m n z : Int} (ho : o.op = .binOp .sub t x y t') (hx : a.eval x = .int k m) (hy : a.eval y = .int k n) (hz : k.wrap (m - n) = z) (w : World) : (execOp a.eval o).run P w = .ok (.value (.int k z)) w := by
  unfold execOp; simp [ho, hx, hy, eqGuard, binOp, Op.intArith, Result.andThen, hz]
theorem run_mul {k : IntKind} {t t' : TypeId} {x y : Operand} {m n z : Int} (ho : o.op = .binOp .mul t x y t') (hx : a.eval x = .int k m) (hy : a.eval y = .int k n) (hz : k.wrap (m * n) = z) (w : World) : (execOp a.eval o).run P w = .ok (.value (.int k z)) w := by
  unfold execOp; simp [ho, hx, hy, eqGuard, binOp, Op.intArith, Result.andThen, hz]
theorem run_rem {k : IntKind} {t t' : TypeId} {x y : Operand} {m n z : Int} (ho : o.op = .binOp .rem t x y t') (hx : a.eval x = .int k m) (hy : a.eval y = .int k n) (hn : n ≠ 0) (hz : m.tmod n = z) (w : World) : (execOp a.eval o).run P w = .ok (.value (.int k z)) w := by
  unfold execOp; simp [ho, hx, hy, eqGuard, binOp, Op.intDiv, Result.andThen, hz, hn]
theorem run_quo {k : IntKind} {t t' : TypeId} {x y : Operand} {m n z : Int} (ho : o.op = .binOp .quo t x y t') (hx : a.eval x = .int k m) (hy : a.eval y = .int k n) (hn : n ≠ 0) (hz : k.wrap (m.tdiv n) = z) (w : World) : (execOp a.eval o).run P w = .ok (.value (.int k z)) w := by
  unfold execOp; simp [ho, hx, hy, eqGuard, binOp, Op.intDiv, Result.andThen, hz, hn]
theorem run_shl {k k' : IntKind} {t t' : TypeId} {x y : Operand} {m n z : Int} (ho : o.op = .binOp .shl t x y t') (hx : a.eval x = .int k m) (hy : a.eval y = .int k' n) (hn : 0 ≤ n) (hz : k.wrap (m * 2 ^ (min n.toNat k.bits)) = z) (w : World) : (execOp a.eval o).run P w = .ok (.value (.int k z)) w := by
  unfold execOp; simp [ho, hx, hy, eqGuard, binOp, Op.shift, Result.andThen, hz, Int.not_lt.2 hn]
theorem run_shr {k k' : IntKind} {t t' : TypeId} {x y : Operand} {m n z : Int} (ho : o.op = .binOp .shr t x y t') (hx : a.eval x = .int k m) (hy : a.eval y = .int k' n) (hn : 0 ≤ n) (hz : m.fdiv (2 ^ (min n.toNat k.bits)) = z) (w : World) : (execOp a.eval o).run P w = .ok (.value (.int k z)) w := by
  unfold execOp; simp [ho, hx, hy, eqGuard, binOp, Op.shift, Result.andThen, hz, Int.not_lt.2 hn]
theorem run_conv {k k' : IntKind} {s d : TypeId} {x : Operand} {m z : Int} (ho : o.op = .convert s d x) (hx : a.eval x = .int k m) {ds : TypeDesc} (hs : P.underlying s = some ds) (hd : P.underlying d = some (.int k')) (hz : k'.wrap m = z) (w : World) : (execOp a.eval o).run P w = .ok (.value (.int k' z)) w := by
  unfold execOp; simp [ho, hx, convert, run_underlying hs, run_underlying hd, Conv.intToInt, Result.andThen, hz]
theorem run_eql {k : IntKind} {t t' : TypeId} {x y : Operand} {m n : Int} {z : Bool} (ho : o.op = .binOp .eql t x y t') (hx : a.eval x = .int k m) (hy : a.eval y = .int k n) (hz : (m == n) = z) (w : World) : (execOp a.eval o).run P w = .ok (.value (.bool z)) w := by
  unfold execOp; subst hz; simp [ho, hx, hy, eqGuard, binOp, Op.intCmp, Result.andThen]
theorem run_neq' {k : IntKind} {t t' : TypeId} {x y : Operand} {m n : Int} {z : Bool} (ho : o.op = .binOp .neq t x y t') (hx : a.eval x = .int k m) (hy : a.eval y = .int k n) (hz : (m != n) = z) (w : World) : (execOp a.eval o).run P w = .ok (.value (.bool z)) w := by
  unfold execOp; subst hz; simp [ho, hx, hy, eqGuard, binOp, Op.intCmp, Result.andThen]
theorem run_lss {k : IntKind} {t t' : TypeId} {x y : Operand} {m n : Int} {z : Bool} (ho : o.op = .binOp .lss t x y t') (hx : a.eval x = .int k m) (hy : a.eval y = .int k n) (hz : decide (m < n) = z) (w : World) : (execOp a.eval o).run P w = .ok (.value (.bool z)) w := by
  unfold execOp; subst hz; simp [ho, hx, hy, eqGuard, binOp, Op.intCmp, Result.andThen]
theorem run_leq {k : IntKind} {t t' : TypeId} {x y : Operand} {m n : Int} {z : Bool} (ho : o.op = .binOp .leq t x y t') (hx : a.eval x = .int k m) (hy : a.eval y = .int k n) (hz : decide (m ≤ n) = z) (w : World) : (execOp a.eval o).run P w = .ok (.value (.bool z)) w := by
  unfold execOp; subst hz; simp [ho, hx, hy, eqGuard, binOp, Op.intCmp, Result.andThen]
theorem run_gtr {k : IntKind} {t t' : TypeId} {x y : Operand} {m n : Int} {z : Bool} (ho : o.op = .binOp .gtr t x y t') (hx : a.eval x = .int k m) (hy : a.eval y = .int k n) (hz : decide (n < m) = z) (w : World) : (execOp a.eval o).run P w = .ok (.value (.bool z)) w := by
  unfold execOp; subst hz; simp [ho, hx, hy, eqGuard, binOp, Op.intCmp, Result.andThen]
theorem run_geq {k : IntKind} {t t' : TypeId} {x y : Operand} {m n : Int} {z : Bool} (ho : o.op = .binOp .geq t x y t') (hx : a.eval x = .int k m) (hy : a.eval y = .int k n) (hz : decide (n ≤ m) = z) (w : World) : (execOp a.eval o).run P w = .ok (.value (.bool z)) w := by
  unfold execOp; subst hz; simp [ho, hx, hy, eqGuard, binOp, Op.intCmp, Result.andThen]
theorem results_tmp_cell {fn : Func} {p q : Tmp} {ty : TypeId} (h : fn.results = #[.tmp q, .cell p ty]) (tmps : Array Value) (w : World) (g : Nat) (t : TypeId) (cs : Array Value) (fr : Nat × Nat) (d : TypeDesc)
    (hp : tmps.getD p undef = .pointer (some ⟨g, 0, none⟩)) (hg : w.heap[g]? = some (.cells cs t fr))
    (hu : P.underlying ty = some d) (hd : (match d with | .struct _ | .array _ _ => true | _ => false) = true) (hi : (P.info? ty).map (·.size) = some cs.size) :
    (results fn tmps).run P w = .ok (.tuple #[tmps.getD q undef, .agg cs]) w := by
  have hp' : tmps[p]?.getD undef = .pointer (some ⟨g, 0, none⟩) := by simpa using hp
  simp [results, h, hp', asAddr, run_loadVar_row w g t ty cs fr d hg hu hd hi]
theorem sl_ret2r {fn : Func} {R : Ending → World → Prop} {p q : Tmp} {ty : TypeId} {b : Nat} {c : Array Value} {t : TypeId} {d : TypeDesc} (hS : St w0 M w) (hr : fn.results = #[.tmp q, .cell p ty]) (hx : a.tmps.getD p undef = .pointer (some ⟨b, 0, none⟩)) (hm : Has M b c t)
    (hu : P.underlying ty = some d) (hd : (match d with | .struct _ | .array _ _ => true | _ => false) = true) (hi : (P.info? ty).map (·.size) = some c.size) (hdf : a.defers = []) (hR : R (.returned (.tuple #[a.tmps.getD q undef, .agg c])) w) : bodyPost P fn R .ret a w :=
  bodyPost_ret (results_tmp_cell hr a.tmps w b t c (0, 0) d hx (hS.row hm) hu hd hi) hdf hR
theorem sl_nil (h : Q .normal a w) : wpList P ops Q [] a w := h
end
end Go.Proofs.Ytmgkejpjljkfdaa
