/-
  PairSets, its plain facts: lanes read behind a Set, a vector of its lanes, a lane of two halves.
-/
import Derived.Test.YthdklnkaeddogabAwake
import Derived.Test.YthdklnkaeddogabOpen
namespace Go.Proofs.Ythdklnkaeddogab
open Go.RowKit VecM
theorem nought_byt : Byt (fun _ : Nat => (0 : Int)) := fun _ => by constructor <;> simp
theorem of_its_lanes {b : Nat → Int} (hb : Byt b) (v : Int) (hv : v = 8 ∨ v = 16 ∨ v = 32 ∨ v = 64) : ∀ m, m < 16 → ofK (fun _ => 0) v (fun j => getI b v j) (ofN v (lanesI v).toNat) m = b m := by
  refine ext (ofK_byt nought_byt _ _ _) hb v hv fun j hj => ?_
  have hj2 := (there_iff.1 hj).2
  rw [get_ofK _ _ _ _ hj, if_pos (by unfold ofN; omega)]
  have hbd := getI_bd hb v j
  exact Int.emod_eq_of_lt hbd.1 hbd.2
theorem of_back {b : Nat → Int} (hb : Byt b) (v : Int) (hv : v = 8 ∨ v = 16 ∨ v = 32 ∨ v = 64) (n : Nat) (hn : n = (lanesI v).toNat) (sv : Value) (w : World) (h : U64s w sv n (fun j => getI b v j)) :
    Calls Try.prog 26 #[.int .i64 v, sv] w fun e w' => e = .returned (.agg (bs b)) ∧ Gr w w' := by
  subst hn
  have := of_any v sv _ _ w h
  rw [bs_congr (of_its_lanes hb v hv)] at this
  exact this
theorem all_back {b : Nat → Int} (hb : Byt b) (v : Int) (n : Nat) (hn : n = (lanesI v).toNat) (w : World) :
    Calls Try.prog 20 #[.agg (bs b), .int .i64 v] w fun e w' => ∃ sv, e = .returned sv ∧ U64s w' sv n (fun j => getI b v j) ∧ Gr w w' := by
  subst hn
  exact (all_any b hb v w).mono fun e w' ⟨sv, h1, h2, h3⟩ => ⟨sv, h1, u64s_of_owns h3, h2⟩
theorem half_nat (x y : Int) (m : Nat) (hm : m = 8 ∨ m = 16 ∨ m = 32) (hx : 0 ≤ x ∧ x < 2 ^ m) (hy : 0 ≤ y ∧ y < 2 ^ m) : bits .or .u64 x (IntKind.u64.wrap (y * 2 ^ m)) = x + y * 2 ^ m := by
  obtain ⟨x, rfl⟩ := Int.eq_ofNat_of_zero_le hx.1
  obtain ⟨y, rfl⟩ := Int.eq_ofNat_of_zero_le hy.1
  have h := or_sum x y m
  have e : ((x + y * 2 ^ m : Nat) : Int) = (x : Int) + (y : Int) * 2 ^ m := by rw [Int.natCast_add, Int.natCast_mul, Int.natCast_pow]; rfl
  rw [e] at h
  rcases hm with rfl | rfl | rfl
  · exact h (by omega) (by omega) (by omega)
  · exact h (by omega) (by omega) (by omega)
  · exact h (by omega) (by omega) (by omega)
theorem sum_split (b : Nat → Int) (base n : Nat) : ∀ m, sumN b base (n + m) = sumN b base n + sumN b (base + n) m * 256 ^ n
  | 0 => by simp [sumN]
  | m + 1 => by
    have ih := sum_split b base n m
    rw [show n + (m + 1) = (n + m) + 1 by omega]
    simp only [sumN]
    rw [ih, Int.pow_add, Int.add_mul, Nat.add_assoc]
    have : b (base + (n + m)) * (256 ^ n * 256 ^ m) = b (base + (n + m)) * 256 ^ m * 256 ^ n := by rw [Int.mul_assoc, Int.mul_comm (256 ^ n)]
    omega
theorem there_of {v i : Int} {L : Int} (hL : lanesI v = L) (h : 0 ≤ i ∧ i < L) : thereB v i = true := there_iff.2 ⟨h.1, by omega⟩
theorem get_halves {c : Nat → Int} (hc : Byt c) (v u : Int) (m : Nat) (h : (v = 16 ∧ u = 8 ∧ m = 8) ∨ (v = 32 ∧ u = 16 ∧ m = 16) ∨ (v = 64 ∧ u = 32 ∧ m = 32)) (R : Nat) (hR : thereB v R = true) :
    getI c v R = bits .or .u64 (getI c u (2 * (R : Int))) (IntKind.u64.wrap (getI c u (2 * (R : Int) + 1) * 2 ^ m)) := by
  have hb1 := getI_bd hc u (2 * (R : Int))
  have hb2 := getI_bd hc u (2 * (R : Int) + 1)
  have hlt := (there_iff.1 hR).2
  have e0 : (2 * (R : Int)).toNat = 2 * R := by omega
  have e1 : (2 * (R : Int) + 1).toNat = 2 * R + 1 := by omega
  rcases h with ⟨rfl, rfl, rfl⟩ | ⟨rfl, rfl, rfl⟩ | ⟨rfl, rfl, rfl⟩
  · rw [half_nat _ _ 8 (by decide) (by rw [wid8] at hb1; exact ⟨hb1.1, by simpa using hb1.2⟩) (by rw [wid8] at hb2; exact ⟨hb2.1, by simpa using hb2.2⟩)]
    rw [show lanesI 16 = 8 by decide] at hlt
    unfold getI
    rw [if_pos hR, if_pos (there_of (L := 16) (by decide) (by omega)), if_pos (there_of (L := 16) (by decide) (by omega)), e0, e1, wid8, wid16, Int.toNat_natCast, sum_split c _ 1 1, show R * 2 = 2 * R * 1 by omega, show 2 * R * 1 + 1 = (2 * R + 1) * 1 by omega]
    rfl
  · rw [half_nat _ _ 16 (by decide) (by rw [wid16] at hb1; exact ⟨hb1.1, by simpa using hb1.2⟩) (by rw [wid16] at hb2; exact ⟨hb2.1, by simpa using hb2.2⟩)]
    rw [show lanesI 32 = 4 by decide] at hlt
    unfold getI
    rw [if_pos hR, if_pos (there_of (L := 8) (by decide) (by omega)), if_pos (there_of (L := 8) (by decide) (by omega)), e0, e1, wid16, wid32, Int.toNat_natCast, sum_split c _ 2 2, show R * 4 = 2 * R * 2 by omega, show 2 * R * 2 + 2 = (2 * R + 1) * 2 by omega]
    rfl
  · rw [half_nat _ _ 32 (by decide) (by rw [wid32] at hb1; exact ⟨hb1.1, by simpa using hb1.2⟩) (by rw [wid32] at hb2; exact ⟨hb2.1, by simpa using hb2.2⟩)]
    rw [show lanesI 64 = 2 by decide] at hlt
    unfold getI
    rw [if_pos hR, if_pos (there_of (L := 4) (by decide) (by omega)), if_pos (there_of (L := 4) (by decide) (by omega)), e0, e1, wid32, wid64, Int.toNat_natCast, sum_split c _ 4 4, show R * 8 = 2 * R * 4 by omega, show 2 * R * 4 + 4 = (2 * R + 1) * 4 by omega]
    rfl
/-- the lowest bits, by two shifts -/
theorem low_8 (x : Int) : IntKind.u64.wrap (x * 72057594037927936) / 72057594037927936 = x % 256 ^ wid 8 := by
  rw [wid8, IntKind.wrap_u64]; omega
theorem low_16 (x : Int) : IntKind.u64.wrap (x * 281474976710656) / 281474976710656 = x % 256 ^ wid 16 := by
  rw [wid16, IntKind.wrap_u64]; omega
theorem low_32 (x : Int) : IntKind.u64.wrap (x * 4294967296) / 4294967296 = x % 256 ^ wid 32 := by
  rw [wid32, IntKind.wrap_u64]; omega
theorem low_64 (x : Int) (h : 0 ≤ x ∧ x < 18446744073709551616) : x = x % 256 ^ wid 64 := by
  rw [wid64]; omega
theorem sgnI_sg {b : Nat → Int} {v i : Int} (h : thereB v i = true) : sgnI b v i = sg v (getI b v i) := by unfold sgnI; rw [if_pos h]
/-! ### the box of the law's argument -/
def atC (b : Nat → Int) (v i x : Int) : Array Value := bs b ++ #[.int .i64 v, .int .i64 i, .int .u64 x]
theorem atC_get (b : Nat → Int) (v i x : Int) (j : Nat) (u : Value) (h : (bs b).toList[j]? = some u) : (atC b v i x)[j]? = some u := by
  have hj : j < 16 := by
    have := (List.getElem?_eq_some_iff.1 h).1
    simpa using this
  unfold atC
  rw [Array.getElem?_append_left (by simpa using hj)]
  simpa using h
theorem net_load_cells {P : Program} {w0 : World} {Φk : Value → World → Prop} {ρ : Operand → Value} {w : World} {o : Oper} (ty : TypeId) (x : Operand) (ho : o.op = .load ty x)
    (g off : Nat) (hx : ρ x = .pointer (some ⟨g, off, none⟩)) (cs : Array Value) (de : TypeDesc) (hc : ∀ j v, cs.toList[j]? = some v → w0.cell? ⟨g, off + j, none⟩ = some v) (hw : Gr w0 w)
    (hu : P.underlying ty = some de) (hde : (match de with | .struct _ | .array _ _ => true | _ => false) = true) (hi : (P.info? ty).map (·.size) = some cs.size)
    (hΦ : Φk (.agg cs) w) : netUpon P Φk w ((execOp ρ o).run P w) := by
  unfold execOp
  simp only [ho, hx, Instr.loadAt, Instr.sureAddr, Sem.run_bind, Sem.run_pure, Result.andThen_ok, run_loadVar_cells w g off ty cs de (fun j v h => gr_cell hw (hc j v h)) hu hde hi]
  exact ⟨hΦ, Gr.refl _⟩
/-- an operation whose guard does not stand -/
theorem NetStep.skip {P : Program} {ops : Array Oper} {w0 : World} {a0 : Act} {Φ : Nat → Value → World → Prop} {k : Nat} {o : Oper} {g : Nat} {b : Bool} (hgd : o.guard = some (g, b)) (dg : Tmp) (hdg : depOn ops o g dg = true) (hΦ : ∀ v w, Φ g v w → v = .bool (!b)) (hu : ∀ w, Φ k undef w) : NetStep P .any ops w0 a0 Φ k o := by
  intro a w hw hin hdep
  have hdep' : ∀ j d, depOn ops o j d = true → Φ j (a.eval (.tmp d)) w := fun j d hj => by
    unfold depOn at hj
    simp only [Bool.and_eq_true, decide_eq_true_eq] at hj
    obtain ⟨e, he, hb⟩ := Array.any_eq_true'.1 hj.1
    simp only [Bool.and_eq_true, beq_iff_eq] at hb
    obtain ⟨hb1, rfl⟩ := hb
    cases hoj : ops[e.on]? with
    | none => rw [hoj] at hj; simp at hj
    | some oj =>
      rw [hoj] at hj
      exact hdep e he hb1 oj d hoj (by simpa using hj.2)
  refine ⟨fun hn => ?_, fun _ => hu w⟩
  exfalso
  have hv := hΦ _ w (hdep' g dg hdg)
  have hy := yielded_of_eval (ops := ops) (g := g) (d := dg) (by
    unfold depOn at hdg
    simp only [Bool.and_eq_true, decide_eq_true_eq] at hdg
    exact hdg.2) hv
  simp [Region.wanted, hgd, hy] at hn
theorem wpList_load_row_yes {P : Program} {ops : Array Oper} {Q : Exit → Act → World → Prop} {a : Act} {w : World} {rest : List Oper} {o : Oper} (hw : Region.wanted o (yielded ops a.tmps) = true) (ty : TypeId) (x : Operand) (ho : o.op = .load ty x)
    (g : Nat) (hx : a.eval x = .pointer (some ⟨g, 0, none⟩)) (t : TypeId) (cs : Array Value) (fr : Nat × Nat) (de : TypeDesc) (hg : w.heap[g]? = some (.cells cs t fr))
    (hu : P.underlying ty = some de) (hde : (match de with | .struct _ | .array _ _ => true | _ => false) = true) (hi : (P.info? ty).map (·.size) = some cs.size)
    (h : wpList P ops Q rest (a.put o.dst (.agg cs)) w) : wpList P ops Q (o :: rest) a w := by
  unfold wpList
  rw [if_pos hw]
  refine .inl ?_
  unfold Oper.wp execOp
  simp only [ho, hx, Instr.loadAt, Instr.sureAddr, Sem.run_bind, Sem.run_pure, Result.andThen_ok, run_loadVar_row w g t ty cs fr de hg hu hde hi]
  exact h
theorem sz28 (b : Nat → Int) (v i x : Int) : (atC b v i x).size = 19 := by unfold atC; simp
theorem atC_1 (b : Nat → Int) (v i x : Int) : (atC b v i x)[16]? = some (.int .i64 v) := by unfold atC; rw [Array.getElem?_append_right (by simp)]; simp
theorem atC_2 (b : Nat → Int) (v i x : Int) : (atC b v i x)[17]? = some (.int .i64 i) := by unfold atC; rw [Array.getElem?_append_right (by simp)]; simp
theorem atC_3 (b : Nat → Int) (v i x : Int) : (atC b v i x)[18]? = some (.int .u64 x) := by unfold atC; rw [Array.getElem?_append_right (by simp)]; simp
theorem set_none (b : Nat → Int) (v i x : Int) (h : thereB v i = false) (w : World) : Calls Try.prog 17 #[.agg (bs b), .int .i64 v, .int .i64 i, .int .u64 x] w fun e w' => e = .returned (.agg (bs b)) ∧ Gr w w' := by
  have hs := set_any b v i x w
  rw [show setI b v i x = b by unfold setI; rw [h]; rfl] at hs
  exact hs
theorem get_none {b : Nat → Int} (hb : Byt b) (v i : Int) (h : thereB v i = false) (w : World) : Calls Try.prog 13 #[.agg (bs b), .int .i64 v, .int .i64 i] w fun e w' => e = .returned (.int .u64 0) ∧ Gr w w' := by
  have hs := get_any b hb v i w
  rw [show getI b v i = 0 by unfold getI; rw [h]; rfl] at hs
  exact hs
theorem rem_nat (i L : Int) (hL : 0 < L) : ∃ R : Nat, Int.tmod (IntKind.u64.wrap i) L = R ∧ (R : Int) < L := by
  have h0 : 0 ≤ IntKind.u64.wrap i := by rw [IntKind.wrap_u64]; omega
  have h1 := Int.emod_nonneg (IntKind.u64.wrap i) (show L ≠ 0 by omega)
  have h2 := Int.emod_lt_of_pos (IntKind.u64.wrap i) hL
  rw [← Int.tmod_eq_emod_of_nonneg h0] at h1 h2
  exact ⟨(Int.tmod (IntKind.u64.wrap i) L).toNat, by omega, by omega⟩
theorem wrapR (R : Nat) (h : (R : Int) < 16) : IntKind.i64.wrap (2 * (R : Int)) = 2 * (R : Int) ∧ IntKind.i64.wrap (2 * (R : Int) + 1) = 2 * (R : Int) + 1 := by
  rw [IntKind.wrap_i64, IntKind.wrap_i64]
  omega
theorem info28 : (Try.prog.info? 28).map (·.size) = some 19 := by kernel_rfl
end Go.Proofs.Ythdklnkaeddogab
