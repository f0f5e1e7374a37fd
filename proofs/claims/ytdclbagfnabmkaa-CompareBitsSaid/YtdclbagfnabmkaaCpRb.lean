/-
  The reference's Bits of layer 6: a bit, a round. Conditions: bytes; the vectors' cells.
-/
import Derived.Test.YtdclbagfnabmkaaEvH
import Derived.Test.YtdclbagfnabmkaaCpRbM
namespace Go.Proofs.Ytdclbagfnabmkaa
open Go.RowKit VecM Ev
namespace Cp
theorem at_nil {E : Env} : OphAt (fun _ _ _ => none) := fun _ _ _ _ hq => by cases hq
def qI (n : Nat) : Int := IntKind.i64.wrap (Int.tdiv (n : Int) 8)
def rI (n : Nat) : Int := IntKind.u64.wrap (Int.tmod (n : Int) 8)
theorem qI_val {n : Nat} (h : n < 128) : qI n = ((n / 8 : Nat) : Int) := by
  unfold qI
  rw [Int.tdiv_eq_ediv_of_nonneg (by omega), IntWalk.i64_in _ (by omega)]
  omega
theorem rI_val {n : Nat} : rI n = ((n % 8 : Nat) : Int) := by
  unfold rI
  rw [Int.tmod_eq_emod_of_nonneg (by omega), IntWalk.u64_in _ (by omega)]
  omega
def qD (n : Nat) : List (Bool × Bool) := [(decide (0 ≤ qI n), true), (decide (qI n < 16), true), (decide ((qI n).toNat < 16), true), (decide (0 ≤ rI n), true)]
theorem qD_ok {n : Nat} (h : n < 128) : ∀ p ∈ qD n, p.1 = p.2 := by
  have e1 := qI_val h
  have e2 := rI_val (n := n)
  intro p hp
  simp only [qD, List.mem_cons, List.not_mem_nil, or_false] at hp
  rcases hp with rfl | rfl | rfl | rfl
  · show decide (0 ≤ qI n) = true
    rw [e1]; exact decide_eq_true (by omega)
  · show decide (qI n < 16) = true
    rw [e1]; exact decide_eq_true (by omega)
  · show decide ((qI n).toNat < 16) = true
    rw [e1]; exact decide_eq_true (by omega)
  · show decide (0 ≤ rI n) = true
    rw [e2]; exact decide_eq_true (by omega)
noncomputable def envBit (b : Nat → Int) : Env := { P := Try.prog, known := [], sum := fun _ _ => none, oph := symOph 15 b }
theorem none_ok (E : Env) (h : E.sum = fun _ _ => none) : SumOk E := fun f args cs mk hq => by rw [h] at hq; cases hq
noncomputable def btPath (b : Nat → Int) (n : Nat) (β : Nat → Fr) : Out :=
  evPath (envBit b) (envBit fun _ => 1) 40 36 [.agg (bs b), .int .i64 n] [.agg (bs fun _ => 1), .int .i64 0] (.bool (Int.tmod (Int.fdiv (b (qI n).toNat) (2 ^ (min (rI n).toNat 8))) 2 == 1)) β
--EVTS btTs | fun (b : Nat → Int) (n : Nat) (β : Nat → Fr) => (btPath b n β, qD n)
def btTs : List Nat := [0, 3, 2, 1]
theorem rbit_any (b : Nat → Int) (hb : Byt b) (n : Nat) (hn : n < 128) (w : World) : Calls Try.prog 36 #[.agg (bs b), .int .i64 n] w fun e w' => e = .returned (.bool (bitI (b (n / 8)) (n % 8))) ∧ Gr w w' := by
  have e : (Int.tmod (Int.fdiv (b (qI n).toNat) (2 ^ (min (rI n).toNat 8))) 2 == 1) = bitI (b (n / 8)) (n % 8) := by
    have h1 : (qI n).toNat = n / 8 := by rw [qI_val hn]; omega
    have h2 : min (rI n).toNat 8 = n % 8 := by rw [rI_val]; omega
    have hx := hb (n / 8)
    have hP : (0 : Int) < 2 ^ (n % 8) := Int.pow_pos (by decide)
    rw [h1, h2, Int.fdiv_eq_ediv_of_nonneg _ (Int.le_of_lt hP), Int.tmod_eq_emod_of_nonneg (Int.ediv_nonneg hx.1 (Int.le_of_lt hP))]
    unfold bitI
    exact Bool.eq_iff_iff.2 (by simp)
  rw [← e]
  exact ev_path (E := envBit b) (E' := envBit fun _ => 1) rfl (none_ok _ rfl) (fuel := 40) (args' := [.agg (bs fun _ => 1), .int .i64 0]) (qD n) btTs (qD_ok hn) (fun β => by kernel_rfl) w (ho := oph_of rfl (symOph_ok 15 b))
noncomputable def sumB (f : FuncId) (args : List Value) : Option (List (List Value) × (List (Nat → Int) → Value × List Bool)) :=
  match Nat.beq f 36 with
  | true => match args with
    | [.agg ⟨c⟩, .int .i64 i] => some ([c], fun fs => (.bool (bitI (Ev.hd1 fs (i.toNat / 8)) (i.toNat % 8)), [decide (0 ≤ i), decide (i < 128)]))
    | _ => none
  | false => none
theorem sumB_ok (P : Env) (hP : P.sum = sumB) (hK : ∀ x ∈ P.known, Byt x) : SumOk P := by
  intro f args cs mk h fs hcs hfs hp w
  rw [hP] at h
  unfold sumB at h
  split at h
  · rename_i hf
    obtain rfl := Nat.eq_of_beq_eq_true hf
    split at h
    · cases h
      obtain ⟨x, rfl, rfl⟩ := Ev.one_fs hcs
      have h1 := hp _ (List.mem_cons_self ..)
      have h2 := hp _ (List.mem_cons_of_mem _ (List.mem_cons_self ..))
      simp only [decide_eq_true_eq] at h1 h2
      rename_i i
      obtain ⟨n, rfl⟩ : ∃ n : Nat, i = n := ⟨i.toNat, by omega⟩
      exact rbit_any x (hK x (hfs x (List.mem_cons_self ..))) n (by omega) w
    · cases h
  · cases h
/-! ### vectors that were given -/
structure Gv where
  g : Nat
  off : Nat
  n : Nat
  cap : Nat
  B : Nat → Nat → Int
  cs : List Value
  t : TypeId
def Gv.row (G : Gv) : Rw := ⟨G.g, G.cs, G.t, false⟩
def Gv.Ok (G : Gv) : Prop := (∀ k, Byt (G.B k)) ∧ ∀ k, k < G.n → ∀ m, m < 16 → G.cs[G.off + 16 * k + m]? = some (.int .u8 (G.B k m))
def gK (n : Nat) (d : Nat) : Option Nat :=
  match Nat.beq d 41 with
  | true => some 0
  | false => match Nat.beq d 53 with
    | true => match n with
      | 2 => some 1
      | 3 => some 2
      | _ => none
    | false => match Nat.beq d 107 with
      | true => some 1
      | false => match Nat.beq d 112 with
        | true => some 2
        | false => none
noncomputable def vsOph (G : Gv) (o : Oper) (T : Tm) (M : List Rw) : Option OHole :=
  match o.op with
  | .load t (.tmp p) => match Nat.beq t 23 with
    | true => match o.dst with
      | some d => match gK G.n d, M with
        | some k, [ro, r4, _] => some ⟨130, [(p, .pointer (some ⟨G.g, G.off + 16 * k, none⟩))], [ro, r4, G.row], [Nat.blt k G.n], some (.agg (bs (G.B k))), [ro, r4, G.row]⟩
        | _, _ => none
      | none => none
    | false => none
  | _ => none
theorem vsOph_ok (G : Gv) (hG : G.Ok) : OphAt (vsOph G) := by
  intro o T M H hq hn hneed hrows hpre w0 w hS
  unfold vsOph at hq
  split at hq
  · rename_i t p hop
    split at hq
    · rename_i ht
      obtain rfl := Nat.eq_of_beq_eq_true ht
      split at hq
      · split at hq
        · rename_i k ro r4 r5 _
          cases hq
          have hk := (blt_iff _ _).1 (hpre _ (List.mem_cons_self ..))
          have hp := hneed _ (List.mem_cons_self ..)
          simp only at hp
          rw [hrows] at hS
          refine ⟨w, ?_, hS⟩
          obtain ⟨fr, hrow, _⟩ := hS.row (r := G.row) (List.mem_cons_of_mem _ (List.mem_cons_of_mem _ (List.mem_cons_self ..)))
          have hc : ∀ j v, (bs (G.B k)).toList[j]? = some v → w.cell? ⟨G.g, G.off + 16 * k + j, none⟩ = some v := fun j v hj => by
            have hlt : j < 16 := by
              have := (List.getElem?_eq_some_iff.1 hj).1
              simpa using this
            have h2 : (bs (G.B k))[j]? = some v := by simpa using hj
            rw [bs_get _ j hlt] at h2
            rw [cell_of_row w G.g _ _ _ fr hrow, ← h2]
            have := hG.2 k hk j hlt
            show G.cs.toArray[G.off + 16 * k + j]? = _
            simpa using this
          show (execOp (evalT T) o).run Try.prog w = .ok (.value (.agg (bs (G.B k)))) w
          unfold execOp
          have hx : evalT T (.tmp p) = .pointer (some ⟨G.g, G.off + 16 * k, none⟩) := hp
          simp only [hop, hx, Instr.loadAt, Instr.sureAddr, Sem.run_bind, Sem.run_pure, Result.andThen_ok, run_loadVar_cells w G.g (G.off + 16 * k) 23 (bs (G.B k)) _ hc Try.underlying23 rfl infoV]
        · cases hq
      · cases hq
    · cases hq
  · cases hq
noncomputable def ophB (G : Gv) (f : Nat → Int) (o : Oper) (T : Tm) (M : List Rw) : Option OHole :=
  match vsOph G o T M with
  | some H => some H
  | none => symOph 130 f o T M
theorem ophB_ok (G : Gv) (hG : G.Ok) (f : Nat → Int) : OphAt (ophB G f) := by
  intro o T M H hq
  unfold ophB at hq
  split at hq
  · rename_i H' h
    cases hq
    exact vsOph_ok G hG o T M _ h
  · exact symOph_ok 130 f o T M H hq
noncomputable def envBB (G : Gv) (f : Nat → Int) : Env := { P := Try.prog, known := [G.B 0, G.B 1, G.B 2], sum := sumB, oph := ophB G f }
noncomputable def bbBlk : Code := blkIn 16 1
def bbHav : List Nat := [10, 11, 12] ++ (List.range 90).map (· + 39)
def bbNeed (G : Gv) (k : Int) (bo : Nat) (i : Int) : List (Nat × Value) := [(1, .slice (some ⟨G.g, G.off, none⟩) G.n G.cap), (6, .int .i64 k), (7, .int .i64 G.n), (8, pt bo), (9, .int .i64 i)]
def sG (n : Nat) (B : Nat → Nat → Int) : Gv := ⟨2001, 0, n, n, B, [], 0⟩
def zY (f : Nat → Int) (n : Nat) : Nat → Int := upd f (qI n).toNat (bits .or .u8 (f (qI n).toNat) (IntKind.u8.wrap (1 * 2 ^ (min (rI n).toNat 8))))
noncomputable def bbPath (G : Gv) (S : Gv) (k : Int) (r4 : Rw) (bo : Nat) (f f1 : Nat → Int) (n : Nat) (g : Nat → Value) (β : Nat → Fr) : Out :=
  evCode (envBB G f) (envBB S fun _ => 0) 60 bbBlk (valsOf (bbNeed G k bo n) g 130) (valsOf (bbNeed S k 1002 0) (fun _ => undef) 130) [vrow bo f, r4, G.row] [vrow 1002 fun _ => 0, vrow 1003 fun _ => 0, S.row] .normal ([] ++ keepOf (bbNeed G k bo n) g 130 bbHav) [vrow bo f1, r4, G.row] β
def bB (B : Nat → Nat → Int) (k n : Nat) : Bool := bitI (B k ((n : Int).toNat / 8)) ((n : Int).toNat % 8)
def bbD (p q c d : Bool) (n : Nat) : List (Bool × Bool) := [(decide (0 ≤ (n : Int)), true), (decide ((n : Int) < 128), true), (p, c), (q, d)] ++ qD n
set_option maxRecDepth 100000 in
theorem bbD_ok {p q c d : Bool} {n : Nat} (hn : n < 128) (h1 : p = c) (h2 : q = d) : ∀ x ∈ bbD p q c d n, x.1 = x.2 := by
  intro x hx
  rcases List.mem_append.1 hx with hx | hx
  · simp only [List.mem_cons, List.not_mem_nil, or_false] at hx
    rcases hx with rfl | rfl | rfl | rfl
    · exact decide_eq_true (by omega)
    · exact decide_eq_true (by omega)
    · exact h1
    · exact h2
  · exact qD_ok hn x hx
def BRun (G : Gv) (k : Int) (f f1 : Nat → Int) (n : Nat) : Prop := ∀ (r4 : Rw) (bo : Nat), Runs bbBlk 130 (bbNeed G k bo n) [vrow bo f, r4, G.row] .normal [] bbHav [vrow bo f1, r4, G.row]
--EVTS b77_0Ts | fun (g0 off cap : Nat) (B : Nat → Nat → Int) (cs : List Value) (t : TypeId) (r4 : Rw) (bo : Nat) (f : Nat → Int) (n : Nat) (g : Nat → Value) (β : Nat → Fr) => (bbPath ⟨g0, off, 1, cap, B, cs, t⟩ (sG 1 (fun k m => match m with | 0 => [0, 0, 0].getD k 0 | _ => (k : Int) + 1)) 77 r4 bo f (zY f n) n g β, bbD (!bB B 0 n) (true) true true n)
def b77_0Ts : List Nat := [7, 6, 5, 0, 7, 6, 5, 0, 0, 0, 0, 0, 0, 0, 0, 0, 0, 0, 0, 0, 0, 0, 0, 0, 0, 0, 3, 3, 3, 3, 3, 3, 3, 0, 0, 0, 0, 0, 0, 0, 0, 0, 0, 0, 0, 0, 2, 0, 0]
set_option maxRecDepth 100000 in
theorem b77_0 (g0 off cap : Nat) (B : Nat → Nat → Int) (cs : List Value) (t : TypeId) (hG : Gv.Ok ⟨g0, off, 1, cap, B, cs, t⟩) (f : Nat → Int) (n : Nat) (hn : n < 128) (h0 : bB B 0 n = false) : BRun ⟨g0, off, 1, cap, B, cs, t⟩ 77 f (zY f n) n :=
  fun r4 bo => runs_code (E := envBB ⟨g0, off, 1, cap, B, cs, t⟩ f) (E' := envBB (sG 1 (fun k m => match m with | 0 => [0, 0, 0].getD k 0 | _ => (k : Int) + 1)) fun _ => 0) rfl (sumB_ok (envBB ⟨g0, off, 1, cap, B, cs, t⟩ f) rfl (byt_three (hG.1 0) (hG.1 1) (hG.1 2))) (fuel := 60) (need' := bbNeed (sG 1 (fun k m => match m with | 0 => [0, 0, 0].getD k 0 | _ => (k : Int) + 1)) 77 1002 0) (M' := [vrow 1002 fun _ => 0, vrow 1003 fun _ => 0, Gv.row (sG 1 (fun k m => match m with | 0 => [0, 0, 0].getD k 0 | _ => (k : Int) + 1))]) rfl (bbD (!bB B 0 n) (true) true true n) b77_0Ts (bbD_ok hn (by first | (simp only [h0]; done) | (simp only [h0]; rfl)) rfl) (fun g β => by kernel_rfl) (ho := oph_of rfl (ophB_ok ⟨g0, off, 1, cap, B, cs, t⟩ hG f))
--EVTS b77_1Ts | fun (g0 off cap : Nat) (B : Nat → Nat → Int) (cs : List Value) (t : TypeId) (r4 : Rw) (bo : Nat) (f : Nat → Int) (n : Nat) (g : Nat → Value) (β : Nat → Fr) => (bbPath ⟨g0, off, 1, cap, B, cs, t⟩ (sG 1 (fun k m => match m with | 0 => [255, 0, 0].getD k 0 | _ => (k : Int) + 1)) 77 r4 bo f f n g β, bbD (!bB B 0 n) (true) false true n)
def b77_1Ts : List Nat := [0, 0, 0, 0, 0, 0, 0, 0, 0, 0, 0, 0, 0, 0, 0, 0, 0, 0, 0, 0, 0, 0, 0, 0, 0, 0, 0, 0, 0, 0, 0, 0, 3, 0, 3, 0, 3, 0, 3, 0, 3, 3, 3, 0, 0, 0, 0, 0, 0, 0, 0, 0, 0, 0, 0, 0, 2, 0, 0]
set_option maxRecDepth 100000 in
theorem b77_1 (g0 off cap : Nat) (B : Nat → Nat → Int) (cs : List Value) (t : TypeId) (hG : Gv.Ok ⟨g0, off, 1, cap, B, cs, t⟩) (f : Nat → Int) (n : Nat) (hn : n < 128) (h0 : bB B 0 n = true) : BRun ⟨g0, off, 1, cap, B, cs, t⟩ 77 f f n :=
  fun r4 bo => runs_code (E := envBB ⟨g0, off, 1, cap, B, cs, t⟩ f) (E' := envBB (sG 1 (fun k m => match m with | 0 => [255, 0, 0].getD k 0 | _ => (k : Int) + 1)) fun _ => 0) rfl (sumB_ok (envBB ⟨g0, off, 1, cap, B, cs, t⟩ f) rfl (byt_three (hG.1 0) (hG.1 1) (hG.1 2))) (fuel := 60) (need' := bbNeed (sG 1 (fun k m => match m with | 0 => [255, 0, 0].getD k 0 | _ => (k : Int) + 1)) 77 1002 0) (M' := [vrow 1002 fun _ => 0, vrow 1003 fun _ => 0, Gv.row (sG 1 (fun k m => match m with | 0 => [255, 0, 0].getD k 0 | _ => (k : Int) + 1))]) rfl (bbD (!bB B 0 n) (true) false true n) b77_1Ts (bbD_ok hn (by first | (simp only [h0]; done) | (simp only [h0]; rfl)) rfl) (fun g β => by kernel_rfl) (ho := oph_of rfl (ophB_ok ⟨g0, off, 1, cap, B, cs, t⟩ hG f))
--EVTS b78_00Ts | fun (g0 off cap : Nat) (B : Nat → Nat → Int) (cs : List Value) (t : TypeId) (r4 : Rw) (bo : Nat) (f : Nat → Int) (n : Nat) (g : Nat → Value) (β : Nat → Fr) => (bbPath ⟨g0, off, 2, cap, B, cs, t⟩ (sG 2 (fun k m => match m with | 0 => [0, 0, 0].getD k 0 | _ => (k : Int) + 1)) 78 r4 bo f f n g β, bbD (bB B 0 n) (bB B 1 n) false false n)
def b78_00Ts : List Nat := [0, 0, 0, 0, 0, 0, 0, 0, 0, 0, 0, 0, 0, 0, 0, 0, 0, 0, 0, 0, 0, 0, 0, 0, 0, 0, 0, 0, 0, 0, 0, 0, 0, 3, 0, 3, 0, 0, 0, 0, 0, 0, 0, 0, 0, 0, 0, 2, 0, 0, 0, 0, 0, 0, 0, 0, 0, 0, 0, 2, 0, 0]
set_option maxRecDepth 100000 in
theorem b78_00 (g0 off cap : Nat) (B : Nat → Nat → Int) (cs : List Value) (t : TypeId) (hG : Gv.Ok ⟨g0, off, 2, cap, B, cs, t⟩) (f : Nat → Int) (n : Nat) (hn : n < 128) (h0 : bB B 0 n = false) (h1 : bB B 1 n = false) : BRun ⟨g0, off, 2, cap, B, cs, t⟩ 78 f f n :=
  fun r4 bo => runs_code (E := envBB ⟨g0, off, 2, cap, B, cs, t⟩ f) (E' := envBB (sG 2 (fun k m => match m with | 0 => [0, 0, 0].getD k 0 | _ => (k : Int) + 1)) fun _ => 0) rfl (sumB_ok (envBB ⟨g0, off, 2, cap, B, cs, t⟩ f) rfl (byt_three (hG.1 0) (hG.1 1) (hG.1 2))) (fuel := 60) (need' := bbNeed (sG 2 (fun k m => match m with | 0 => [0, 0, 0].getD k 0 | _ => (k : Int) + 1)) 78 1002 0) (M' := [vrow 1002 fun _ => 0, vrow 1003 fun _ => 0, Gv.row (sG 2 (fun k m => match m with | 0 => [0, 0, 0].getD k 0 | _ => (k : Int) + 1))]) rfl (bbD (bB B 0 n) (bB B 1 n) false false n) b78_00Ts (bbD_ok hn (by first | (simp only [h0, h1]; done) | (simp only [h0, h1]; rfl)) (by first | (simp only [h0, h1]; done) | (simp only [h0, h1]; rfl))) (fun g β => by kernel_rfl) (ho := oph_of rfl (ophB_ok ⟨g0, off, 2, cap, B, cs, t⟩ hG f))
--EVTS b78_01Ts | fun (g0 off cap : Nat) (B : Nat → Nat → Int) (cs : List Value) (t : TypeId) (r4 : Rw) (bo : Nat) (f : Nat → Int) (n : Nat) (g : Nat → Value) (β : Nat → Fr) => (bbPath ⟨g0, off, 2, cap, B, cs, t⟩ (sG 2 (fun k m => match m with | 0 => [0, 255, 0].getD k 0 | _ => (k : Int) + 1)) 78 r4 bo f f n g β, bbD (bB B 0 n) (bB B 1 n) false true n)
def b78_01Ts : List Nat := [0, 0, 0, 0, 0, 0, 0, 0, 0, 0, 0, 0, 0, 0, 0, 0, 0, 0, 0, 0, 0, 0, 0, 0, 0, 0, 0, 0, 0, 0, 0, 0, 0, 3, 0, 3, 0, 0, 0, 0, 0, 0, 0, 0, 0, 0, 0, 2, 0, 0, 0, 0, 0, 0, 0, 0, 0, 0, 0, 2, 0, 0]
set_option maxRecDepth 100000 in
theorem b78_01 (g0 off cap : Nat) (B : Nat → Nat → Int) (cs : List Value) (t : TypeId) (hG : Gv.Ok ⟨g0, off, 2, cap, B, cs, t⟩) (f : Nat → Int) (n : Nat) (hn : n < 128) (h0 : bB B 0 n = false) (h1 : bB B 1 n = true) : BRun ⟨g0, off, 2, cap, B, cs, t⟩ 78 f f n :=
  fun r4 bo => runs_code (E := envBB ⟨g0, off, 2, cap, B, cs, t⟩ f) (E' := envBB (sG 2 (fun k m => match m with | 0 => [0, 255, 0].getD k 0 | _ => (k : Int) + 1)) fun _ => 0) rfl (sumB_ok (envBB ⟨g0, off, 2, cap, B, cs, t⟩ f) rfl (byt_three (hG.1 0) (hG.1 1) (hG.1 2))) (fuel := 60) (need' := bbNeed (sG 2 (fun k m => match m with | 0 => [0, 255, 0].getD k 0 | _ => (k : Int) + 1)) 78 1002 0) (M' := [vrow 1002 fun _ => 0, vrow 1003 fun _ => 0, Gv.row (sG 2 (fun k m => match m with | 0 => [0, 255, 0].getD k 0 | _ => (k : Int) + 1))]) rfl (bbD (bB B 0 n) (bB B 1 n) false true n) b78_01Ts (bbD_ok hn (by first | (simp only [h0, h1]; done) | (simp only [h0, h1]; rfl)) (by first | (simp only [h0, h1]; done) | (simp only [h0, h1]; rfl))) (fun g β => by kernel_rfl) (ho := oph_of rfl (ophB_ok ⟨g0, off, 2, cap, B, cs, t⟩ hG f))
--EVTS b78_10Ts | fun (g0 off cap : Nat) (B : Nat → Nat → Int) (cs : List Value) (t : TypeId) (r4 : Rw) (bo : Nat) (f : Nat → Int) (n : Nat) (g : Nat → Value) (β : Nat → Fr) => (bbPath ⟨g0, off, 2, cap, B, cs, t⟩ (sG 2 (fun k m => match m with | 0 => [255, 0, 0].getD k 0 | _ => (k : Int) + 1)) 78 r4 bo f f n g β, bbD (bB B 0 n) (bB B 1 n) true false n)
def b78_10Ts : List Nat := [0, 0, 0, 0, 0, 0, 0, 0, 0, 0, 0, 0, 0, 0, 0, 0, 0, 0, 0, 0, 4, 0, 4, 0, 0, 4, 0, 4, 0, 4, 4, 4, 0, 3, 0, 3, 0, 0, 0, 0, 0, 0, 0, 0, 0, 0, 0, 2, 0, 0, 0, 0, 0, 0, 0, 0, 0, 0, 0, 2, 0, 0]
set_option maxRecDepth 100000 in
theorem b78_10 (g0 off cap : Nat) (B : Nat → Nat → Int) (cs : List Value) (t : TypeId) (hG : Gv.Ok ⟨g0, off, 2, cap, B, cs, t⟩) (f : Nat → Int) (n : Nat) (hn : n < 128) (h0 : bB B 0 n = true) (h1 : bB B 1 n = false) : BRun ⟨g0, off, 2, cap, B, cs, t⟩ 78 f f n :=
  fun r4 bo => runs_code (E := envBB ⟨g0, off, 2, cap, B, cs, t⟩ f) (E' := envBB (sG 2 (fun k m => match m with | 0 => [255, 0, 0].getD k 0 | _ => (k : Int) + 1)) fun _ => 0) rfl (sumB_ok (envBB ⟨g0, off, 2, cap, B, cs, t⟩ f) rfl (byt_three (hG.1 0) (hG.1 1) (hG.1 2))) (fuel := 60) (need' := bbNeed (sG 2 (fun k m => match m with | 0 => [255, 0, 0].getD k 0 | _ => (k : Int) + 1)) 78 1002 0) (M' := [vrow 1002 fun _ => 0, vrow 1003 fun _ => 0, Gv.row (sG 2 (fun k m => match m with | 0 => [255, 0, 0].getD k 0 | _ => (k : Int) + 1))]) rfl (bbD (bB B 0 n) (bB B 1 n) true false n) b78_10Ts (bbD_ok hn (by first | (simp only [h0, h1]; done) | (simp only [h0, h1]; rfl)) (by first | (simp only [h0, h1]; done) | (simp only [h0, h1]; rfl))) (fun g β => by kernel_rfl) (ho := oph_of rfl (ophB_ok ⟨g0, off, 2, cap, B, cs, t⟩ hG f))
--EVTS b78_11Ts | fun (g0 off cap : Nat) (B : Nat → Nat → Int) (cs : List Value) (t : TypeId) (r4 : Rw) (bo : Nat) (f : Nat → Int) (n : Nat) (g : Nat → Value) (β : Nat → Fr) => (bbPath ⟨g0, off, 2, cap, B, cs, t⟩ (sG 2 (fun k m => match m with | 0 => [255, 255, 0].getD k 0 | _ => (k : Int) + 1)) 78 r4 bo f (zY f n) n g β, bbD (bB B 0 n) (bB B 1 n) true true n)
def b78_11Ts : List Nat := [7, 6, 5, 0, 7, 6, 5, 0, 0, 0, 0, 0, 0, 0, 0, 0, 0, 0, 0, 4, 4, 4, 4, 4, 4, 4, 0, 3, 0, 3, 0, 0, 0, 0, 0, 0, 0, 0, 0, 0, 0, 2, 0, 0, 0, 0, 0, 0, 0, 0, 0, 0, 0, 2, 0, 0]
set_option maxRecDepth 100000 in
theorem b78_11 (g0 off cap : Nat) (B : Nat → Nat → Int) (cs : List Value) (t : TypeId) (hG : Gv.Ok ⟨g0, off, 2, cap, B, cs, t⟩) (f : Nat → Int) (n : Nat) (hn : n < 128) (h0 : bB B 0 n = true) (h1 : bB B 1 n = true) : BRun ⟨g0, off, 2, cap, B, cs, t⟩ 78 f (zY f n) n :=
  fun r4 bo => runs_code (E := envBB ⟨g0, off, 2, cap, B, cs, t⟩ f) (E' := envBB (sG 2 (fun k m => match m with | 0 => [255, 255, 0].getD k 0 | _ => (k : Int) + 1)) fun _ => 0) rfl (sumB_ok (envBB ⟨g0, off, 2, cap, B, cs, t⟩ f) rfl (byt_three (hG.1 0) (hG.1 1) (hG.1 2))) (fuel := 60) (need' := bbNeed (sG 2 (fun k m => match m with | 0 => [255, 255, 0].getD k 0 | _ => (k : Int) + 1)) 78 1002 0) (M' := [vrow 1002 fun _ => 0, vrow 1003 fun _ => 0, Gv.row (sG 2 (fun k m => match m with | 0 => [255, 255, 0].getD k 0 | _ => (k : Int) + 1))]) rfl (bbD (bB B 0 n) (bB B 1 n) true true n) b78_11Ts (bbD_ok hn (by first | (simp only [h0, h1]; done) | (simp only [h0, h1]; rfl)) (by first | (simp only [h0, h1]; done) | (simp only [h0, h1]; rfl))) (fun g β => by kernel_rfl) (ho := oph_of rfl (ophB_ok ⟨g0, off, 2, cap, B, cs, t⟩ hG f))
--EVTS b79_00Ts | fun (g0 off cap : Nat) (B : Nat → Nat → Int) (cs : List Value) (t : TypeId) (r4 : Rw) (bo : Nat) (f : Nat → Int) (n : Nat) (g : Nat → Value) (β : Nat → Fr) => (bbPath ⟨g0, off, 2, cap, B, cs, t⟩ (sG 2 (fun k m => match m with | 0 => [0, 0, 0].getD k 0 | _ => (k : Int) + 1)) 79 r4 bo f f n g β, bbD (bB B 0 n) (!bB B 1 n) false true n)
def b79_00Ts : List Nat := [0, 0, 0, 0, 0, 0, 0, 0, 0, 0, 0, 0, 0, 0, 0, 0, 0, 0, 0, 0, 0, 3, 0, 3, 3, 0, 0, 0, 0, 0, 0, 0, 0, 0, 0, 0, 0, 0, 0, 0, 0, 0, 0, 0, 0, 0, 0, 2, 0, 0, 0, 0, 0, 0, 0, 0, 0, 0, 0, 2, 0, 0]
set_option maxRecDepth 100000 in
theorem b79_00 (g0 off cap : Nat) (B : Nat → Nat → Int) (cs : List Value) (t : TypeId) (hG : Gv.Ok ⟨g0, off, 2, cap, B, cs, t⟩) (f : Nat → Int) (n : Nat) (hn : n < 128) (h0 : bB B 0 n = false) (h1 : bB B 1 n = false) : BRun ⟨g0, off, 2, cap, B, cs, t⟩ 79 f f n :=
  fun r4 bo => runs_code (E := envBB ⟨g0, off, 2, cap, B, cs, t⟩ f) (E' := envBB (sG 2 (fun k m => match m with | 0 => [0, 0, 0].getD k 0 | _ => (k : Int) + 1)) fun _ => 0) rfl (sumB_ok (envBB ⟨g0, off, 2, cap, B, cs, t⟩ f) rfl (byt_three (hG.1 0) (hG.1 1) (hG.1 2))) (fuel := 60) (need' := bbNeed (sG 2 (fun k m => match m with | 0 => [0, 0, 0].getD k 0 | _ => (k : Int) + 1)) 79 1002 0) (M' := [vrow 1002 fun _ => 0, vrow 1003 fun _ => 0, Gv.row (sG 2 (fun k m => match m with | 0 => [0, 0, 0].getD k 0 | _ => (k : Int) + 1))]) rfl (bbD (bB B 0 n) (!bB B 1 n) false true n) b79_00Ts (bbD_ok hn (by first | (simp only [h0, h1]; done) | (simp only [h0, h1]; rfl)) (by first | (simp only [h0, h1]; done) | (simp only [h0, h1]; rfl))) (fun g β => by kernel_rfl) (ho := oph_of rfl (ophB_ok ⟨g0, off, 2, cap, B, cs, t⟩ hG f))
--EVTS b79_01Ts | fun (g0 off cap : Nat) (B : Nat → Nat → Int) (cs : List Value) (t : TypeId) (r4 : Rw) (bo : Nat) (f : Nat → Int) (n : Nat) (g : Nat → Value) (β : Nat → Fr) => (bbPath ⟨g0, off, 2, cap, B, cs, t⟩ (sG 2 (fun k m => match m with | 0 => [0, 255, 0].getD k 0 | _ => (k : Int) + 1)) 79 r4 bo f f n g β, bbD (bB B 0 n) (!bB B 1 n) false false n)
def b79_01Ts : List Nat := [0, 0, 0, 0, 0, 0, 0, 0, 0, 0, 0, 0, 0, 0, 0, 0, 0, 0, 0, 0, 0, 3, 0, 3, 3, 0, 0, 0, 0, 0, 0, 0, 0, 0, 0, 0, 0, 0, 0, 0, 0, 0, 0, 0, 0, 0, 0, 2, 0, 0, 0, 0, 0, 0, 0, 0, 0, 0, 0, 2, 0, 0]
set_option maxRecDepth 100000 in
theorem b79_01 (g0 off cap : Nat) (B : Nat → Nat → Int) (cs : List Value) (t : TypeId) (hG : Gv.Ok ⟨g0, off, 2, cap, B, cs, t⟩) (f : Nat → Int) (n : Nat) (hn : n < 128) (h0 : bB B 0 n = false) (h1 : bB B 1 n = true) : BRun ⟨g0, off, 2, cap, B, cs, t⟩ 79 f f n :=
  fun r4 bo => runs_code (E := envBB ⟨g0, off, 2, cap, B, cs, t⟩ f) (E' := envBB (sG 2 (fun k m => match m with | 0 => [0, 255, 0].getD k 0 | _ => (k : Int) + 1)) fun _ => 0) rfl (sumB_ok (envBB ⟨g0, off, 2, cap, B, cs, t⟩ f) rfl (byt_three (hG.1 0) (hG.1 1) (hG.1 2))) (fuel := 60) (need' := bbNeed (sG 2 (fun k m => match m with | 0 => [0, 255, 0].getD k 0 | _ => (k : Int) + 1)) 79 1002 0) (M' := [vrow 1002 fun _ => 0, vrow 1003 fun _ => 0, Gv.row (sG 2 (fun k m => match m with | 0 => [0, 255, 0].getD k 0 | _ => (k : Int) + 1))]) rfl (bbD (bB B 0 n) (!bB B 1 n) false false n) b79_01Ts (bbD_ok hn (by first | (simp only [h0, h1]; done) | (simp only [h0, h1]; rfl)) (by first | (simp only [h0, h1]; done) | (simp only [h0, h1]; rfl))) (fun g β => by kernel_rfl) (ho := oph_of rfl (ophB_ok ⟨g0, off, 2, cap, B, cs, t⟩ hG f))
--EVTS b79_10Ts | fun (g0 off cap : Nat) (B : Nat → Nat → Int) (cs : List Value) (t : TypeId) (r4 : Rw) (bo : Nat) (f : Nat → Int) (n : Nat) (g : Nat → Value) (β : Nat → Fr) => (bbPath ⟨g0, off, 2, cap, B, cs, t⟩ (sG 2 (fun k m => match m with | 0 => [255, 0, 0].getD k 0 | _ => (k : Int) + 1)) 79 r4 bo f (zY f n) n g β, bbD (bB B 0 n) (!bB B 1 n) true true n)
def b79_10Ts : List Nat := [7, 6, 5, 0, 7, 6, 5, 0, 0, 0, 0, 0, 0, 0, 4, 4, 4, 4, 4, 0, 3, 0, 3, 3, 0, 0, 0, 0, 0, 0, 0, 0, 0, 0, 0, 0, 0, 0, 0, 0, 0, 0, 0, 0, 0, 0, 2, 0, 0, 0, 0, 0, 0, 0, 0, 0, 0, 0, 2, 0, 0]
set_option maxRecDepth 100000 in
theorem b79_10 (g0 off cap : Nat) (B : Nat → Nat → Int) (cs : List Value) (t : TypeId) (hG : Gv.Ok ⟨g0, off, 2, cap, B, cs, t⟩) (f : Nat → Int) (n : Nat) (hn : n < 128) (h0 : bB B 0 n = true) (h1 : bB B 1 n = false) : BRun ⟨g0, off, 2, cap, B, cs, t⟩ 79 f (zY f n) n :=
  fun r4 bo => runs_code (E := envBB ⟨g0, off, 2, cap, B, cs, t⟩ f) (E' := envBB (sG 2 (fun k m => match m with | 0 => [255, 0, 0].getD k 0 | _ => (k : Int) + 1)) fun _ => 0) rfl (sumB_ok (envBB ⟨g0, off, 2, cap, B, cs, t⟩ f) rfl (byt_three (hG.1 0) (hG.1 1) (hG.1 2))) (fuel := 60) (need' := bbNeed (sG 2 (fun k m => match m with | 0 => [255, 0, 0].getD k 0 | _ => (k : Int) + 1)) 79 1002 0) (M' := [vrow 1002 fun _ => 0, vrow 1003 fun _ => 0, Gv.row (sG 2 (fun k m => match m with | 0 => [255, 0, 0].getD k 0 | _ => (k : Int) + 1))]) rfl (bbD (bB B 0 n) (!bB B 1 n) true true n) b79_10Ts (bbD_ok hn (by first | (simp only [h0, h1]; done) | (simp only [h0, h1]; rfl)) (by first | (simp only [h0, h1]; done) | (simp only [h0, h1]; rfl))) (fun g β => by kernel_rfl) (ho := oph_of rfl (ophB_ok ⟨g0, off, 2, cap, B, cs, t⟩ hG f))
--EVTS b79_11Ts | fun (g0 off cap : Nat) (B : Nat → Nat → Int) (cs : List Value) (t : TypeId) (r4 : Rw) (bo : Nat) (f : Nat → Int) (n : Nat) (g : Nat → Value) (β : Nat → Fr) => (bbPath ⟨g0, off, 2, cap, B, cs, t⟩ (sG 2 (fun k m => match m with | 0 => [255, 255, 0].getD k 0 | _ => (k : Int) + 1)) 79 r4 bo f f n g β, bbD (bB B 0 n) (!bB B 1 n) true false n)
def b79_11Ts : List Nat := [0, 0, 0, 0, 0, 0, 0, 0, 0, 0, 0, 4, 0, 4, 0, 0, 0, 4, 4, 4, 0, 3, 0, 3, 3, 0, 0, 0, 0, 0, 0, 0, 0, 0, 0, 0, 0, 0, 0, 0, 0, 0, 0, 0, 0, 0, 0, 2, 0, 0, 0, 0, 0, 0, 0, 0, 0, 0, 0, 2, 0, 0]
set_option maxRecDepth 100000 in
theorem b79_11 (g0 off cap : Nat) (B : Nat → Nat → Int) (cs : List Value) (t : TypeId) (hG : Gv.Ok ⟨g0, off, 2, cap, B, cs, t⟩) (f : Nat → Int) (n : Nat) (hn : n < 128) (h0 : bB B 0 n = true) (h1 : bB B 1 n = true) : BRun ⟨g0, off, 2, cap, B, cs, t⟩ 79 f f n :=
  fun r4 bo => runs_code (E := envBB ⟨g0, off, 2, cap, B, cs, t⟩ f) (E' := envBB (sG 2 (fun k m => match m with | 0 => [255, 255, 0].getD k 0 | _ => (k : Int) + 1)) fun _ => 0) rfl (sumB_ok (envBB ⟨g0, off, 2, cap, B, cs, t⟩ f) rfl (byt_three (hG.1 0) (hG.1 1) (hG.1 2))) (fuel := 60) (need' := bbNeed (sG 2 (fun k m => match m with | 0 => [255, 255, 0].getD k 0 | _ => (k : Int) + 1)) 79 1002 0) (M' := [vrow 1002 fun _ => 0, vrow 1003 fun _ => 0, Gv.row (sG 2 (fun k m => match m with | 0 => [255, 255, 0].getD k 0 | _ => (k : Int) + 1))]) rfl (bbD (bB B 0 n) (!bB B 1 n) true false n) b79_11Ts (bbD_ok hn (by first | (simp only [h0, h1]; done) | (simp only [h0, h1]; rfl)) (by first | (simp only [h0, h1]; done) | (simp only [h0, h1]; rfl))) (fun g β => by kernel_rfl) (ho := oph_of rfl (ophB_ok ⟨g0, off, 2, cap, B, cs, t⟩ hG f))
--EVTS b80_00Ts | fun (g0 off cap : Nat) (B : Nat → Nat → Int) (cs : List Value) (t : TypeId) (r4 : Rw) (bo : Nat) (f : Nat → Int) (n : Nat) (g : Nat → Value) (β : Nat → Fr) => (bbPath ⟨g0, off, 2, cap, B, cs, t⟩ (sG 2 (fun k m => match m with | 0 => [0, 0, 0].getD k 0 | _ => (k : Int) + 1)) 80 r4 bo f f n g β, bbD (bB B 0 n) (bB B 1 n) false false n)
def b80_00Ts : List Nat := [0, 0, 4, 0, 4, 0, 0, 0, 4, 4, 4, 0, 0, 0, 3, 0, 3, 0, 0, 0, 0, 0, 0, 0, 0, 0, 0, 0, 0, 0, 0, 0, 0, 0, 0, 0, 0, 0, 0, 0, 0, 0, 0, 0, 0, 0, 0, 0, 0, 2, 0, 0, 0, 0, 0, 0, 0, 0, 0, 0, 0, 2, 0, 0]
set_option maxRecDepth 100000 in
theorem b80_00 (g0 off cap : Nat) (B : Nat → Nat → Int) (cs : List Value) (t : TypeId) (hG : Gv.Ok ⟨g0, off, 2, cap, B, cs, t⟩) (f : Nat → Int) (n : Nat) (hn : n < 128) (h0 : bB B 0 n = false) (h1 : bB B 1 n = false) : BRun ⟨g0, off, 2, cap, B, cs, t⟩ 80 f f n :=
  fun r4 bo => runs_code (E := envBB ⟨g0, off, 2, cap, B, cs, t⟩ f) (E' := envBB (sG 2 (fun k m => match m with | 0 => [0, 0, 0].getD k 0 | _ => (k : Int) + 1)) fun _ => 0) rfl (sumB_ok (envBB ⟨g0, off, 2, cap, B, cs, t⟩ f) rfl (byt_three (hG.1 0) (hG.1 1) (hG.1 2))) (fuel := 60) (need' := bbNeed (sG 2 (fun k m => match m with | 0 => [0, 0, 0].getD k 0 | _ => (k : Int) + 1)) 80 1002 0) (M' := [vrow 1002 fun _ => 0, vrow 1003 fun _ => 0, Gv.row (sG 2 (fun k m => match m with | 0 => [0, 0, 0].getD k 0 | _ => (k : Int) + 1))]) rfl (bbD (bB B 0 n) (bB B 1 n) false false n) b80_00Ts (bbD_ok hn (by first | (simp only [h0, h1]; done) | (simp only [h0, h1]; rfl)) (by first | (simp only [h0, h1]; done) | (simp only [h0, h1]; rfl))) (fun g β => by kernel_rfl) (ho := oph_of rfl (ophB_ok ⟨g0, off, 2, cap, B, cs, t⟩ hG f))
--EVTS b80_01Ts | fun (g0 off cap : Nat) (B : Nat → Nat → Int) (cs : List Value) (t : TypeId) (r4 : Rw) (bo : Nat) (f : Nat → Int) (n : Nat) (g : Nat → Value) (β : Nat → Fr) => (bbPath ⟨g0, off, 2, cap, B, cs, t⟩ (sG 2 (fun k m => match m with | 0 => [0, 255, 0].getD k 0 | _ => (k : Int) + 1)) 80 r4 bo f (zY f n) n g β, bbD (bB B 0 n) (bB B 1 n) false true n)
def b80_01Ts : List Nat := [7, 6, 5, 0, 7, 6, 5, 0, 0, 4, 4, 4, 4, 4, 0, 0, 0, 3, 0, 3, 0, 0, 0, 0, 0, 0, 0, 0, 0, 0, 0, 0, 0, 0, 0, 0, 0, 0, 0, 0, 0, 0, 0, 0, 0, 0, 0, 0, 0, 0, 0, 0, 2, 0, 0, 0, 0, 0, 0, 0, 0, 0, 0, 0, 2, 0, 0]
set_option maxRecDepth 100000 in
theorem b80_01 (g0 off cap : Nat) (B : Nat → Nat → Int) (cs : List Value) (t : TypeId) (hG : Gv.Ok ⟨g0, off, 2, cap, B, cs, t⟩) (f : Nat → Int) (n : Nat) (hn : n < 128) (h0 : bB B 0 n = false) (h1 : bB B 1 n = true) : BRun ⟨g0, off, 2, cap, B, cs, t⟩ 80 f (zY f n) n :=
  fun r4 bo => runs_code (E := envBB ⟨g0, off, 2, cap, B, cs, t⟩ f) (E' := envBB (sG 2 (fun k m => match m with | 0 => [0, 255, 0].getD k 0 | _ => (k : Int) + 1)) fun _ => 0) rfl (sumB_ok (envBB ⟨g0, off, 2, cap, B, cs, t⟩ f) rfl (byt_three (hG.1 0) (hG.1 1) (hG.1 2))) (fuel := 60) (need' := bbNeed (sG 2 (fun k m => match m with | 0 => [0, 255, 0].getD k 0 | _ => (k : Int) + 1)) 80 1002 0) (M' := [vrow 1002 fun _ => 0, vrow 1003 fun _ => 0, Gv.row (sG 2 (fun k m => match m with | 0 => [0, 255, 0].getD k 0 | _ => (k : Int) + 1))]) rfl (bbD (bB B 0 n) (bB B 1 n) false true n) b80_01Ts (bbD_ok hn (by first | (simp only [h0, h1]; done) | (simp only [h0, h1]; rfl)) (by first | (simp only [h0, h1]; done) | (simp only [h0, h1]; rfl))) (fun g β => by kernel_rfl) (ho := oph_of rfl (ophB_ok ⟨g0, off, 2, cap, B, cs, t⟩ hG f))
--EVTS b80_10Ts | fun (g0 off cap : Nat) (B : Nat → Nat → Int) (cs : List Value) (t : TypeId) (r4 : Rw) (bo : Nat) (f : Nat → Int) (n : Nat) (g : Nat → Value) (β : Nat → Fr) => (bbPath ⟨g0, off, 2, cap, B, cs, t⟩ (sG 2 (fun k m => match m with | 0 => [255, 0, 0].getD k 0 | _ => (k : Int) + 1)) 80 r4 bo f (zY f n) n g β, bbD (bB B 0 n) (bB B 1 n) true false n)
def b80_10Ts : List Nat := [7, 6, 5, 0, 7, 6, 5, 0, 0, 0, 0, 0, 0, 0, 0, 0, 0, 3, 0, 3, 0, 0, 0, 0, 0, 0, 0, 0, 0, 0, 0, 0, 0, 0, 0, 0, 0, 0, 0, 0, 0, 0, 0, 0, 0, 0, 0, 0, 0, 0, 0, 0, 2, 0, 0, 0, 0, 0, 0, 0, 0, 0, 0, 0, 2, 0, 0]
set_option maxRecDepth 100000 in
theorem b80_10 (g0 off cap : Nat) (B : Nat → Nat → Int) (cs : List Value) (t : TypeId) (hG : Gv.Ok ⟨g0, off, 2, cap, B, cs, t⟩) (f : Nat → Int) (n : Nat) (hn : n < 128) (h0 : bB B 0 n = true) (h1 : bB B 1 n = false) : BRun ⟨g0, off, 2, cap, B, cs, t⟩ 80 f (zY f n) n :=
  fun r4 bo => runs_code (E := envBB ⟨g0, off, 2, cap, B, cs, t⟩ f) (E' := envBB (sG 2 (fun k m => match m with | 0 => [255, 0, 0].getD k 0 | _ => (k : Int) + 1)) fun _ => 0) rfl (sumB_ok (envBB ⟨g0, off, 2, cap, B, cs, t⟩ f) rfl (byt_three (hG.1 0) (hG.1 1) (hG.1 2))) (fuel := 60) (need' := bbNeed (sG 2 (fun k m => match m with | 0 => [255, 0, 0].getD k 0 | _ => (k : Int) + 1)) 80 1002 0) (M' := [vrow 1002 fun _ => 0, vrow 1003 fun _ => 0, Gv.row (sG 2 (fun k m => match m with | 0 => [255, 0, 0].getD k 0 | _ => (k : Int) + 1))]) rfl (bbD (bB B 0 n) (bB B 1 n) true false n) b80_10Ts (bbD_ok hn (by first | (simp only [h0, h1]; done) | (simp only [h0, h1]; rfl)) (by first | (simp only [h0, h1]; done) | (simp only [h0, h1]; rfl))) (fun g β => by kernel_rfl) (ho := oph_of rfl (ophB_ok ⟨g0, off, 2, cap, B, cs, t⟩ hG f))
--EVTS b80_11Ts | fun (g0 off cap : Nat) (B : Nat → Nat → Int) (cs : List Value) (t : TypeId) (r4 : Rw) (bo : Nat) (f : Nat → Int) (n : Nat) (g : Nat → Value) (β : Nat → Fr) => (bbPath ⟨g0, off, 2, cap, B, cs, t⟩ (sG 2 (fun k m => match m with | 0 => [255, 255, 0].getD k 0 | _ => (k : Int) + 1)) 80 r4 bo f (zY f n) n g β, bbD (bB B 0 n) (bB B 1 n) true true n)
def b80_11Ts : List Nat := [7, 6, 5, 0, 7, 6, 5, 0, 0, 0, 0, 0, 0, 0, 0, 0, 0, 3, 0, 3, 0, 0, 0, 0, 0, 0, 0, 0, 0, 0, 0, 0, 0, 0, 0, 0, 0, 0, 0, 0, 0, 0, 0, 0, 0, 0, 0, 0, 0, 0, 0, 0, 2, 0, 0, 0, 0, 0, 0, 0, 0, 0, 0, 0, 2, 0, 0]
set_option maxRecDepth 100000 in
theorem b80_11 (g0 off cap : Nat) (B : Nat → Nat → Int) (cs : List Value) (t : TypeId) (hG : Gv.Ok ⟨g0, off, 2, cap, B, cs, t⟩) (f : Nat → Int) (n : Nat) (hn : n < 128) (h0 : bB B 0 n = true) (h1 : bB B 1 n = true) : BRun ⟨g0, off, 2, cap, B, cs, t⟩ 80 f (zY f n) n :=
  fun r4 bo => runs_code (E := envBB ⟨g0, off, 2, cap, B, cs, t⟩ f) (E' := envBB (sG 2 (fun k m => match m with | 0 => [255, 255, 0].getD k 0 | _ => (k : Int) + 1)) fun _ => 0) rfl (sumB_ok (envBB ⟨g0, off, 2, cap, B, cs, t⟩ f) rfl (byt_three (hG.1 0) (hG.1 1) (hG.1 2))) (fuel := 60) (need' := bbNeed (sG 2 (fun k m => match m with | 0 => [255, 255, 0].getD k 0 | _ => (k : Int) + 1)) 80 1002 0) (M' := [vrow 1002 fun _ => 0, vrow 1003 fun _ => 0, Gv.row (sG 2 (fun k m => match m with | 0 => [255, 255, 0].getD k 0 | _ => (k : Int) + 1))]) rfl (bbD (bB B 0 n) (bB B 1 n) true true n) b80_11Ts (bbD_ok hn (by first | (simp only [h0, h1]; done) | (simp only [h0, h1]; rfl)) (by first | (simp only [h0, h1]; done) | (simp only [h0, h1]; rfl))) (fun g β => by kernel_rfl) (ho := oph_of rfl (ophB_ok ⟨g0, off, 2, cap, B, cs, t⟩ hG f))
--EVTS b81_00Ts | fun (g0 off cap : Nat) (B : Nat → Nat → Int) (cs : List Value) (t : TypeId) (r4 : Rw) (bo : Nat) (f : Nat → Int) (n : Nat) (g : Nat → Value) (β : Nat → Fr) => (bbPath ⟨g0, off, 2, cap, B, cs, t⟩ (sG 2 (fun k m => match m with | 0 => [0, 0, 0].getD k 0 | _ => (k : Int) + 1)) 81 r4 bo f f n g β, bbD ((bB B 0 n) != (bB B 1 n)) (true) false true n)
def b81_00Ts : List Nat := [3, 0, 0, 0, 0, 0, 0, 0, 0, 0, 0, 0, 0, 0, 0, 0, 0, 0, 0, 0, 0, 0, 0, 0, 0, 0, 0, 0, 0, 0, 0, 0, 0, 0, 0, 0, 0, 0, 0, 0, 0, 0, 0, 0, 0, 0, 0, 2, 0, 0, 0, 0, 0, 0, 0, 0, 0, 0, 0, 2, 0, 0]
set_option maxRecDepth 100000 in
theorem b81_00 (g0 off cap : Nat) (B : Nat → Nat → Int) (cs : List Value) (t : TypeId) (hG : Gv.Ok ⟨g0, off, 2, cap, B, cs, t⟩) (f : Nat → Int) (n : Nat) (hn : n < 128) (h0 : bB B 0 n = false) (h1 : bB B 1 n = false) : BRun ⟨g0, off, 2, cap, B, cs, t⟩ 81 f f n :=
  fun r4 bo => runs_code (E := envBB ⟨g0, off, 2, cap, B, cs, t⟩ f) (E' := envBB (sG 2 (fun k m => match m with | 0 => [0, 0, 0].getD k 0 | _ => (k : Int) + 1)) fun _ => 0) rfl (sumB_ok (envBB ⟨g0, off, 2, cap, B, cs, t⟩ f) rfl (byt_three (hG.1 0) (hG.1 1) (hG.1 2))) (fuel := 60) (need' := bbNeed (sG 2 (fun k m => match m with | 0 => [0, 0, 0].getD k 0 | _ => (k : Int) + 1)) 81 1002 0) (M' := [vrow 1002 fun _ => 0, vrow 1003 fun _ => 0, Gv.row (sG 2 (fun k m => match m with | 0 => [0, 0, 0].getD k 0 | _ => (k : Int) + 1))]) rfl (bbD ((bB B 0 n) != (bB B 1 n)) (true) false true n) b81_00Ts (bbD_ok hn (by first | (simp only [h0, h1]; done) | (simp only [h0, h1]; rfl)) rfl) (fun g β => by kernel_rfl) (ho := oph_of rfl (ophB_ok ⟨g0, off, 2, cap, B, cs, t⟩ hG f))
--EVTS b81_01Ts | fun (g0 off cap : Nat) (B : Nat → Nat → Int) (cs : List Value) (t : TypeId) (r4 : Rw) (bo : Nat) (f : Nat → Int) (n : Nat) (g : Nat → Value) (β : Nat → Fr) => (bbPath ⟨g0, off, 2, cap, B, cs, t⟩ (sG 2 (fun k m => match m with | 0 => [0, 255, 0].getD k 0 | _ => (k : Int) + 1)) 81 r4 bo f (zY f n) n g β, bbD ((bB B 0 n) != (bB B 1 n)) (true) true true n)
def b81_01Ts : List Nat := [7, 6, 5, 0, 7, 6, 5, 3, 0, 0, 0, 0, 0, 0, 0, 0, 0, 0, 0, 0, 0, 0, 0, 0, 0, 0, 0, 0, 0, 0, 0, 0, 0, 0, 0, 0, 0, 0, 0, 0, 0, 0, 0, 0, 0, 0, 0, 0, 0, 0, 0, 0, 0, 0, 2, 0, 0, 0, 0, 0, 0, 0, 0, 0, 0, 0, 2, 0, 0]
set_option maxRecDepth 100000 in
theorem b81_01 (g0 off cap : Nat) (B : Nat → Nat → Int) (cs : List Value) (t : TypeId) (hG : Gv.Ok ⟨g0, off, 2, cap, B, cs, t⟩) (f : Nat → Int) (n : Nat) (hn : n < 128) (h0 : bB B 0 n = false) (h1 : bB B 1 n = true) : BRun ⟨g0, off, 2, cap, B, cs, t⟩ 81 f (zY f n) n :=
  fun r4 bo => runs_code (E := envBB ⟨g0, off, 2, cap, B, cs, t⟩ f) (E' := envBB (sG 2 (fun k m => match m with | 0 => [0, 255, 0].getD k 0 | _ => (k : Int) + 1)) fun _ => 0) rfl (sumB_ok (envBB ⟨g0, off, 2, cap, B, cs, t⟩ f) rfl (byt_three (hG.1 0) (hG.1 1) (hG.1 2))) (fuel := 60) (need' := bbNeed (sG 2 (fun k m => match m with | 0 => [0, 255, 0].getD k 0 | _ => (k : Int) + 1)) 81 1002 0) (M' := [vrow 1002 fun _ => 0, vrow 1003 fun _ => 0, Gv.row (sG 2 (fun k m => match m with | 0 => [0, 255, 0].getD k 0 | _ => (k : Int) + 1))]) rfl (bbD ((bB B 0 n) != (bB B 1 n)) (true) true true n) b81_01Ts (bbD_ok hn (by first | (simp only [h0, h1]; done) | (simp only [h0, h1]; rfl)) rfl) (fun g β => by kernel_rfl) (ho := oph_of rfl (ophB_ok ⟨g0, off, 2, cap, B, cs, t⟩ hG f))
--EVTS b81_10Ts | fun (g0 off cap : Nat) (B : Nat → Nat → Int) (cs : List Value) (t : TypeId) (r4 : Rw) (bo : Nat) (f : Nat → Int) (n : Nat) (g : Nat → Value) (β : Nat → Fr) => (bbPath ⟨g0, off, 2, cap, B, cs, t⟩ (sG 2 (fun k m => match m with | 0 => [255, 0, 0].getD k 0 | _ => (k : Int) + 1)) 81 r4 bo f (zY f n) n g β, bbD ((bB B 0 n) != (bB B 1 n)) (true) true true n)
def b81_10Ts : List Nat := [7, 6, 5, 0, 7, 6, 5, 3, 0, 0, 0, 0, 0, 0, 0, 0, 0, 0, 0, 0, 0, 0, 0, 0, 0, 0, 0, 0, 0, 0, 0, 0, 0, 0, 0, 0, 0, 0, 0, 0, 0, 0, 0, 0, 0, 0, 0, 0, 0, 0, 0, 0, 0, 0, 2, 0, 0, 0, 0, 0, 0, 0, 0, 0, 0, 0, 2, 0, 0]
set_option maxRecDepth 100000 in
theorem b81_10 (g0 off cap : Nat) (B : Nat → Nat → Int) (cs : List Value) (t : TypeId) (hG : Gv.Ok ⟨g0, off, 2, cap, B, cs, t⟩) (f : Nat → Int) (n : Nat) (hn : n < 128) (h0 : bB B 0 n = true) (h1 : bB B 1 n = false) : BRun ⟨g0, off, 2, cap, B, cs, t⟩ 81 f (zY f n) n :=
  fun r4 bo => runs_code (E := envBB ⟨g0, off, 2, cap, B, cs, t⟩ f) (E' := envBB (sG 2 (fun k m => match m with | 0 => [255, 0, 0].getD k 0 | _ => (k : Int) + 1)) fun _ => 0) rfl (sumB_ok (envBB ⟨g0, off, 2, cap, B, cs, t⟩ f) rfl (byt_three (hG.1 0) (hG.1 1) (hG.1 2))) (fuel := 60) (need' := bbNeed (sG 2 (fun k m => match m with | 0 => [255, 0, 0].getD k 0 | _ => (k : Int) + 1)) 81 1002 0) (M' := [vrow 1002 fun _ => 0, vrow 1003 fun _ => 0, Gv.row (sG 2 (fun k m => match m with | 0 => [255, 0, 0].getD k 0 | _ => (k : Int) + 1))]) rfl (bbD ((bB B 0 n) != (bB B 1 n)) (true) true true n) b81_10Ts (bbD_ok hn (by first | (simp only [h0, h1]; done) | (simp only [h0, h1]; rfl)) rfl) (fun g β => by kernel_rfl) (ho := oph_of rfl (ophB_ok ⟨g0, off, 2, cap, B, cs, t⟩ hG f))
--EVTS b81_11Ts | fun (g0 off cap : Nat) (B : Nat → Nat → Int) (cs : List Value) (t : TypeId) (r4 : Rw) (bo : Nat) (f : Nat → Int) (n : Nat) (g : Nat → Value) (β : Nat → Fr) => (bbPath ⟨g0, off, 2, cap, B, cs, t⟩ (sG 2 (fun k m => match m with | 0 => [255, 255, 0].getD k 0 | _ => (k : Int) + 1)) 81 r4 bo f f n g β, bbD ((bB B 0 n) != (bB B 1 n)) (true) false true n)
def b81_11Ts : List Nat := [3, 0, 0, 0, 0, 0, 0, 0, 0, 0, 0, 0, 0, 0, 0, 0, 0, 0, 0, 0, 0, 0, 0, 0, 0, 0, 0, 0, 0, 0, 0, 0, 0, 0, 0, 0, 0, 0, 0, 0, 0, 0, 0, 0, 0, 0, 0, 2, 0, 0, 0, 0, 0, 0, 0, 0, 0, 0, 0, 2, 0, 0]
set_option maxRecDepth 100000 in
theorem b81_11 (g0 off cap : Nat) (B : Nat → Nat → Int) (cs : List Value) (t : TypeId) (hG : Gv.Ok ⟨g0, off, 2, cap, B, cs, t⟩) (f : Nat → Int) (n : Nat) (hn : n < 128) (h0 : bB B 0 n = true) (h1 : bB B 1 n = true) : BRun ⟨g0, off, 2, cap, B, cs, t⟩ 81 f f n :=
  fun r4 bo => runs_code (E := envBB ⟨g0, off, 2, cap, B, cs, t⟩ f) (E' := envBB (sG 2 (fun k m => match m with | 0 => [255, 255, 0].getD k 0 | _ => (k : Int) + 1)) fun _ => 0) rfl (sumB_ok (envBB ⟨g0, off, 2, cap, B, cs, t⟩ f) rfl (byt_three (hG.1 0) (hG.1 1) (hG.1 2))) (fuel := 60) (need' := bbNeed (sG 2 (fun k m => match m with | 0 => [255, 255, 0].getD k 0 | _ => (k : Int) + 1)) 81 1002 0) (M' := [vrow 1002 fun _ => 0, vrow 1003 fun _ => 0, Gv.row (sG 2 (fun k m => match m with | 0 => [255, 255, 0].getD k 0 | _ => (k : Int) + 1))]) rfl (bbD ((bB B 0 n) != (bB B 1 n)) (true) false true n) b81_11Ts (bbD_ok hn (by first | (simp only [h0, h1]; done) | (simp only [h0, h1]; rfl)) rfl) (fun g β => by kernel_rfl) (ho := oph_of rfl (ophB_ok ⟨g0, off, 2, cap, B, cs, t⟩ hG f))
--EVTS b82_000Ts | fun (g0 off cap : Nat) (B : Nat → Nat → Int) (cs : List Value) (t : TypeId) (r4 : Rw) (bo : Nat) (f : Nat → Int) (n : Nat) (g : Nat → Value) (β : Nat → Fr) => (bbPath ⟨g0, off, 3, cap, B, cs, t⟩ (sG 3 (fun k m => match m with | 0 => [0, 0, 0].getD k 0 | _ => (k : Int) + 1)) 82 r4 bo f f n g β, bbD (bB B 2 n) (bB B 1 n) false false n)
def b82_000Ts : List Nat := [4, 3, 2, 0, 0, 2, 0, 0, 0, 0, 0, 0, 0, 0, 0, 0, 0, 0, 0, 0, 0, 0, 0, 0, 0, 0, 0, 0, 0, 0, 0, 0, 0, 0, 0, 0, 0, 0, 0, 0, 0, 0, 0, 0, 0, 0, 0, 0, 0, 0, 0, 0, 0, 0, 2, 0, 0, 0, 0, 0, 0, 0, 0, 0, 0, 0, 2, 0, 0]
set_option maxRecDepth 100000 in
theorem b82_000 (g0 off cap : Nat) (B : Nat → Nat → Int) (cs : List Value) (t : TypeId) (hG : Gv.Ok ⟨g0, off, 3, cap, B, cs, t⟩) (f : Nat → Int) (n : Nat) (hn : n < 128) (h0 : bB B 0 n = false) (h1 : bB B 1 n = false) (h2 : bB B 2 n = false) : BRun ⟨g0, off, 3, cap, B, cs, t⟩ 82 f f n :=
  fun r4 bo => runs_code (E := envBB ⟨g0, off, 3, cap, B, cs, t⟩ f) (E' := envBB (sG 3 (fun k m => match m with | 0 => [0, 0, 0].getD k 0 | _ => (k : Int) + 1)) fun _ => 0) rfl (sumB_ok (envBB ⟨g0, off, 3, cap, B, cs, t⟩ f) rfl (byt_three (hG.1 0) (hG.1 1) (hG.1 2))) (fuel := 60) (need' := bbNeed (sG 3 (fun k m => match m with | 0 => [0, 0, 0].getD k 0 | _ => (k : Int) + 1)) 82 1002 0) (M' := [vrow 1002 fun _ => 0, vrow 1003 fun _ => 0, Gv.row (sG 3 (fun k m => match m with | 0 => [0, 0, 0].getD k 0 | _ => (k : Int) + 1))]) rfl (bbD (bB B 2 n) (bB B 1 n) false false n) b82_000Ts (bbD_ok hn (by first | (simp only [h0, h1, h2]; done) | (simp only [h0, h1, h2]; rfl)) (by first | (simp only [h0, h1, h2]; done) | (simp only [h0, h1, h2]; rfl))) (fun g β => by kernel_rfl) (ho := oph_of rfl (ophB_ok ⟨g0, off, 3, cap, B, cs, t⟩ hG f))
--EVTS b82_001Ts | fun (g0 off cap : Nat) (B : Nat → Nat → Int) (cs : List Value) (t : TypeId) (r4 : Rw) (bo : Nat) (f : Nat → Int) (n : Nat) (g : Nat → Value) (β : Nat → Fr) => (bbPath ⟨g0, off, 3, cap, B, cs, t⟩ (sG 3 (fun k m => match m with | 0 => [0, 0, 255].getD k 0 | _ => (k : Int) + 1)) 82 r4 bo f f n g β, bbD (bB B 2 n) (bB B 0 n) true false n)
def b82_001Ts : List Nat := [4, 3, 2, 0, 0, 2, 0, 0, 0, 0, 0, 0, 0, 0, 0, 0, 0, 0, 0, 0, 0, 0, 0, 0, 0, 0, 0, 0, 0, 0, 0, 0, 0, 0, 0, 0, 0, 0, 0, 0, 0, 0, 0, 0, 0, 0, 0, 0, 0, 0, 0, 0, 0, 0, 2, 0, 0, 0, 0, 0, 0, 0, 0, 0, 0, 0, 2, 0, 0]
set_option maxRecDepth 100000 in
theorem b82_001 (g0 off cap : Nat) (B : Nat → Nat → Int) (cs : List Value) (t : TypeId) (hG : Gv.Ok ⟨g0, off, 3, cap, B, cs, t⟩) (f : Nat → Int) (n : Nat) (hn : n < 128) (h0 : bB B 0 n = false) (h1 : bB B 1 n = false) (h2 : bB B 2 n = true) : BRun ⟨g0, off, 3, cap, B, cs, t⟩ 82 f f n :=
  fun r4 bo => runs_code (E := envBB ⟨g0, off, 3, cap, B, cs, t⟩ f) (E' := envBB (sG 3 (fun k m => match m with | 0 => [0, 0, 255].getD k 0 | _ => (k : Int) + 1)) fun _ => 0) rfl (sumB_ok (envBB ⟨g0, off, 3, cap, B, cs, t⟩ f) rfl (byt_three (hG.1 0) (hG.1 1) (hG.1 2))) (fuel := 60) (need' := bbNeed (sG 3 (fun k m => match m with | 0 => [0, 0, 255].getD k 0 | _ => (k : Int) + 1)) 82 1002 0) (M' := [vrow 1002 fun _ => 0, vrow 1003 fun _ => 0, Gv.row (sG 3 (fun k m => match m with | 0 => [0, 0, 255].getD k 0 | _ => (k : Int) + 1))]) rfl (bbD (bB B 2 n) (bB B 0 n) true false n) b82_001Ts (bbD_ok hn (by first | (simp only [h0, h1, h2]; done) | (simp only [h0, h1, h2]; rfl)) (by first | (simp only [h0, h1, h2]; done) | (simp only [h0, h1, h2]; rfl))) (fun g β => by kernel_rfl) (ho := oph_of rfl (ophB_ok ⟨g0, off, 3, cap, B, cs, t⟩ hG f))
--EVTS b82_010Ts | fun (g0 off cap : Nat) (B : Nat → Nat → Int) (cs : List Value) (t : TypeId) (r4 : Rw) (bo : Nat) (f : Nat → Int) (n : Nat) (g : Nat → Value) (β : Nat → Fr) => (bbPath ⟨g0, off, 3, cap, B, cs, t⟩ (sG 3 (fun k m => match m with | 0 => [0, 255, 0].getD k 0 | _ => (k : Int) + 1)) 82 r4 bo f (zY f n) n g β, bbD (bB B 2 n) (bB B 1 n) false true n)
def b82_010Ts : List Nat := [7, 6, 5, 0, 7, 6, 5, 4, 3, 2, 0, 0, 2, 0, 0, 0, 0, 0, 0, 0, 0, 0, 0, 0, 0, 0, 0, 0, 0, 0, 0, 0, 0, 0, 0, 0, 0, 0, 0, 0, 0, 0, 0, 0, 0, 0, 0, 0, 0, 0, 0, 0, 0, 0, 0, 0, 0, 0, 0, 0, 0, 2, 0, 0, 0, 0, 0, 0, 0, 0, 0, 0, 0, 2, 0, 0]
set_option maxRecDepth 100000 in
theorem b82_010 (g0 off cap : Nat) (B : Nat → Nat → Int) (cs : List Value) (t : TypeId) (hG : Gv.Ok ⟨g0, off, 3, cap, B, cs, t⟩) (f : Nat → Int) (n : Nat) (hn : n < 128) (h0 : bB B 0 n = false) (h1 : bB B 1 n = true) (h2 : bB B 2 n = false) : BRun ⟨g0, off, 3, cap, B, cs, t⟩ 82 f (zY f n) n :=
  fun r4 bo => runs_code (E := envBB ⟨g0, off, 3, cap, B, cs, t⟩ f) (E' := envBB (sG 3 (fun k m => match m with | 0 => [0, 255, 0].getD k 0 | _ => (k : Int) + 1)) fun _ => 0) rfl (sumB_ok (envBB ⟨g0, off, 3, cap, B, cs, t⟩ f) rfl (byt_three (hG.1 0) (hG.1 1) (hG.1 2))) (fuel := 60) (need' := bbNeed (sG 3 (fun k m => match m with | 0 => [0, 255, 0].getD k 0 | _ => (k : Int) + 1)) 82 1002 0) (M' := [vrow 1002 fun _ => 0, vrow 1003 fun _ => 0, Gv.row (sG 3 (fun k m => match m with | 0 => [0, 255, 0].getD k 0 | _ => (k : Int) + 1))]) rfl (bbD (bB B 2 n) (bB B 1 n) false true n) b82_010Ts (bbD_ok hn (by first | (simp only [h0, h1, h2]; done) | (simp only [h0, h1, h2]; rfl)) (by first | (simp only [h0, h1, h2]; done) | (simp only [h0, h1, h2]; rfl))) (fun g β => by kernel_rfl) (ho := oph_of rfl (ophB_ok ⟨g0, off, 3, cap, B, cs, t⟩ hG f))
--EVTS b82_011Ts | fun (g0 off cap : Nat) (B : Nat → Nat → Int) (cs : List Value) (t : TypeId) (r4 : Rw) (bo : Nat) (f : Nat → Int) (n : Nat) (g : Nat → Value) (β : Nat → Fr) => (bbPath ⟨g0, off, 3, cap, B, cs, t⟩ (sG 3 (fun k m => match m with | 0 => [0, 255, 255].getD k 0 | _ => (k : Int) + 1)) 82 r4 bo f f n g β, bbD (bB B 2 n) (bB B 0 n) true false n)
def b82_011Ts : List Nat := [4, 3, 2, 0, 0, 2, 0, 0, 0, 0, 0, 0, 0, 0, 0, 0, 0, 0, 0, 0, 0, 0, 0, 0, 0, 0, 0, 0, 0, 0, 0, 0, 0, 0, 0, 0, 0, 0, 0, 0, 0, 0, 0, 0, 0, 0, 0, 0, 0, 0, 0, 0, 0, 0, 2, 0, 0, 0, 0, 0, 0, 0, 0, 0, 0, 0, 2, 0, 0]
set_option maxRecDepth 100000 in
theorem b82_011 (g0 off cap : Nat) (B : Nat → Nat → Int) (cs : List Value) (t : TypeId) (hG : Gv.Ok ⟨g0, off, 3, cap, B, cs, t⟩) (f : Nat → Int) (n : Nat) (hn : n < 128) (h0 : bB B 0 n = false) (h1 : bB B 1 n = true) (h2 : bB B 2 n = true) : BRun ⟨g0, off, 3, cap, B, cs, t⟩ 82 f f n :=
  fun r4 bo => runs_code (E := envBB ⟨g0, off, 3, cap, B, cs, t⟩ f) (E' := envBB (sG 3 (fun k m => match m with | 0 => [0, 255, 255].getD k 0 | _ => (k : Int) + 1)) fun _ => 0) rfl (sumB_ok (envBB ⟨g0, off, 3, cap, B, cs, t⟩ f) rfl (byt_three (hG.1 0) (hG.1 1) (hG.1 2))) (fuel := 60) (need' := bbNeed (sG 3 (fun k m => match m with | 0 => [0, 255, 255].getD k 0 | _ => (k : Int) + 1)) 82 1002 0) (M' := [vrow 1002 fun _ => 0, vrow 1003 fun _ => 0, Gv.row (sG 3 (fun k m => match m with | 0 => [0, 255, 255].getD k 0 | _ => (k : Int) + 1))]) rfl (bbD (bB B 2 n) (bB B 0 n) true false n) b82_011Ts (bbD_ok hn (by first | (simp only [h0, h1, h2]; done) | (simp only [h0, h1, h2]; rfl)) (by first | (simp only [h0, h1, h2]; done) | (simp only [h0, h1, h2]; rfl))) (fun g β => by kernel_rfl) (ho := oph_of rfl (ophB_ok ⟨g0, off, 3, cap, B, cs, t⟩ hG f))
--EVTS b82_100Ts | fun (g0 off cap : Nat) (B : Nat → Nat → Int) (cs : List Value) (t : TypeId) (r4 : Rw) (bo : Nat) (f : Nat → Int) (n : Nat) (g : Nat → Value) (β : Nat → Fr) => (bbPath ⟨g0, off, 3, cap, B, cs, t⟩ (sG 3 (fun k m => match m with | 0 => [255, 0, 0].getD k 0 | _ => (k : Int) + 1)) 82 r4 bo f f n g β, bbD (bB B 2 n) (bB B 1 n) false false n)
def b82_100Ts : List Nat := [4, 3, 2, 0, 0, 2, 0, 0, 0, 0, 0, 0, 0, 0, 0, 0, 0, 0, 0, 0, 0, 0, 0, 0, 0, 0, 0, 0, 0, 0, 0, 0, 0, 0, 0, 0, 0, 0, 0, 0, 0, 0, 0, 0, 0, 0, 0, 0, 0, 0, 0, 0, 0, 0, 2, 0, 0, 0, 0, 0, 0, 0, 0, 0, 0, 0, 2, 0, 0]
set_option maxRecDepth 100000 in
theorem b82_100 (g0 off cap : Nat) (B : Nat → Nat → Int) (cs : List Value) (t : TypeId) (hG : Gv.Ok ⟨g0, off, 3, cap, B, cs, t⟩) (f : Nat → Int) (n : Nat) (hn : n < 128) (h0 : bB B 0 n = true) (h1 : bB B 1 n = false) (h2 : bB B 2 n = false) : BRun ⟨g0, off, 3, cap, B, cs, t⟩ 82 f f n :=
  fun r4 bo => runs_code (E := envBB ⟨g0, off, 3, cap, B, cs, t⟩ f) (E' := envBB (sG 3 (fun k m => match m with | 0 => [255, 0, 0].getD k 0 | _ => (k : Int) + 1)) fun _ => 0) rfl (sumB_ok (envBB ⟨g0, off, 3, cap, B, cs, t⟩ f) rfl (byt_three (hG.1 0) (hG.1 1) (hG.1 2))) (fuel := 60) (need' := bbNeed (sG 3 (fun k m => match m with | 0 => [255, 0, 0].getD k 0 | _ => (k : Int) + 1)) 82 1002 0) (M' := [vrow 1002 fun _ => 0, vrow 1003 fun _ => 0, Gv.row (sG 3 (fun k m => match m with | 0 => [255, 0, 0].getD k 0 | _ => (k : Int) + 1))]) rfl (bbD (bB B 2 n) (bB B 1 n) false false n) b82_100Ts (bbD_ok hn (by first | (simp only [h0, h1, h2]; done) | (simp only [h0, h1, h2]; rfl)) (by first | (simp only [h0, h1, h2]; done) | (simp only [h0, h1, h2]; rfl))) (fun g β => by kernel_rfl) (ho := oph_of rfl (ophB_ok ⟨g0, off, 3, cap, B, cs, t⟩ hG f))
--EVTS b82_101Ts | fun (g0 off cap : Nat) (B : Nat → Nat → Int) (cs : List Value) (t : TypeId) (r4 : Rw) (bo : Nat) (f : Nat → Int) (n : Nat) (g : Nat → Value) (β : Nat → Fr) => (bbPath ⟨g0, off, 3, cap, B, cs, t⟩ (sG 3 (fun k m => match m with | 0 => [255, 0, 255].getD k 0 | _ => (k : Int) + 1)) 82 r4 bo f (zY f n) n g β, bbD (bB B 2 n) (bB B 0 n) true true n)
def b82_101Ts : List Nat := [7, 6, 5, 0, 7, 6, 5, 4, 3, 2, 0, 0, 2, 0, 0, 0, 0, 0, 0, 0, 0, 0, 0, 0, 0, 0, 0, 0, 0, 0, 0, 0, 0, 0, 0, 0, 0, 0, 0, 0, 0, 0, 0, 0, 0, 0, 0, 0, 0, 0, 0, 0, 0, 0, 0, 0, 0, 0, 0, 0, 0, 2, 0, 0, 0, 0, 0, 0, 0, 0, 0, 0, 0, 2, 0, 0]
set_option maxRecDepth 100000 in
theorem b82_101 (g0 off cap : Nat) (B : Nat → Nat → Int) (cs : List Value) (t : TypeId) (hG : Gv.Ok ⟨g0, off, 3, cap, B, cs, t⟩) (f : Nat → Int) (n : Nat) (hn : n < 128) (h0 : bB B 0 n = true) (h1 : bB B 1 n = false) (h2 : bB B 2 n = true) : BRun ⟨g0, off, 3, cap, B, cs, t⟩ 82 f (zY f n) n :=
  fun r4 bo => runs_code (E := envBB ⟨g0, off, 3, cap, B, cs, t⟩ f) (E' := envBB (sG 3 (fun k m => match m with | 0 => [255, 0, 255].getD k 0 | _ => (k : Int) + 1)) fun _ => 0) rfl (sumB_ok (envBB ⟨g0, off, 3, cap, B, cs, t⟩ f) rfl (byt_three (hG.1 0) (hG.1 1) (hG.1 2))) (fuel := 60) (need' := bbNeed (sG 3 (fun k m => match m with | 0 => [255, 0, 255].getD k 0 | _ => (k : Int) + 1)) 82 1002 0) (M' := [vrow 1002 fun _ => 0, vrow 1003 fun _ => 0, Gv.row (sG 3 (fun k m => match m with | 0 => [255, 0, 255].getD k 0 | _ => (k : Int) + 1))]) rfl (bbD (bB B 2 n) (bB B 0 n) true true n) b82_101Ts (bbD_ok hn (by first | (simp only [h0, h1, h2]; done) | (simp only [h0, h1, h2]; rfl)) (by first | (simp only [h0, h1, h2]; done) | (simp only [h0, h1, h2]; rfl))) (fun g β => by kernel_rfl) (ho := oph_of rfl (ophB_ok ⟨g0, off, 3, cap, B, cs, t⟩ hG f))
--EVTS b82_110Ts | fun (g0 off cap : Nat) (B : Nat → Nat → Int) (cs : List Value) (t : TypeId) (r4 : Rw) (bo : Nat) (f : Nat → Int) (n : Nat) (g : Nat → Value) (β : Nat → Fr) => (bbPath ⟨g0, off, 3, cap, B, cs, t⟩ (sG 3 (fun k m => match m with | 0 => [255, 255, 0].getD k 0 | _ => (k : Int) + 1)) 82 r4 bo f (zY f n) n g β, bbD (bB B 2 n) (bB B 1 n) false true n)
def b82_110Ts : List Nat := [7, 6, 5, 0, 7, 6, 5, 4, 3, 2, 0, 0, 2, 0, 0, 0, 0, 0, 0, 0, 0, 0, 0, 0, 0, 0, 0, 0, 0, 0, 0, 0, 0, 0, 0, 0, 0, 0, 0, 0, 0, 0, 0, 0, 0, 0, 0, 0, 0, 0, 0, 0, 0, 0, 0, 0, 0, 0, 0, 0, 0, 2, 0, 0, 0, 0, 0, 0, 0, 0, 0, 0, 0, 2, 0, 0]
set_option maxRecDepth 100000 in
theorem b82_110 (g0 off cap : Nat) (B : Nat → Nat → Int) (cs : List Value) (t : TypeId) (hG : Gv.Ok ⟨g0, off, 3, cap, B, cs, t⟩) (f : Nat → Int) (n : Nat) (hn : n < 128) (h0 : bB B 0 n = true) (h1 : bB B 1 n = true) (h2 : bB B 2 n = false) : BRun ⟨g0, off, 3, cap, B, cs, t⟩ 82 f (zY f n) n :=
  fun r4 bo => runs_code (E := envBB ⟨g0, off, 3, cap, B, cs, t⟩ f) (E' := envBB (sG 3 (fun k m => match m with | 0 => [255, 255, 0].getD k 0 | _ => (k : Int) + 1)) fun _ => 0) rfl (sumB_ok (envBB ⟨g0, off, 3, cap, B, cs, t⟩ f) rfl (byt_three (hG.1 0) (hG.1 1) (hG.1 2))) (fuel := 60) (need' := bbNeed (sG 3 (fun k m => match m with | 0 => [255, 255, 0].getD k 0 | _ => (k : Int) + 1)) 82 1002 0) (M' := [vrow 1002 fun _ => 0, vrow 1003 fun _ => 0, Gv.row (sG 3 (fun k m => match m with | 0 => [255, 255, 0].getD k 0 | _ => (k : Int) + 1))]) rfl (bbD (bB B 2 n) (bB B 1 n) false true n) b82_110Ts (bbD_ok hn (by first | (simp only [h0, h1, h2]; done) | (simp only [h0, h1, h2]; rfl)) (by first | (simp only [h0, h1, h2]; done) | (simp only [h0, h1, h2]; rfl))) (fun g β => by kernel_rfl) (ho := oph_of rfl (ophB_ok ⟨g0, off, 3, cap, B, cs, t⟩ hG f))
--EVTS b82_111Ts | fun (g0 off cap : Nat) (B : Nat → Nat → Int) (cs : List Value) (t : TypeId) (r4 : Rw) (bo : Nat) (f : Nat → Int) (n : Nat) (g : Nat → Value) (β : Nat → Fr) => (bbPath ⟨g0, off, 3, cap, B, cs, t⟩ (sG 3 (fun k m => match m with | 0 => [255, 255, 255].getD k 0 | _ => (k : Int) + 1)) 82 r4 bo f (zY f n) n g β, bbD (bB B 2 n) (bB B 0 n) true true n)
def b82_111Ts : List Nat := [7, 6, 5, 0, 7, 6, 5, 4, 3, 2, 0, 0, 2, 0, 0, 0, 0, 0, 0, 0, 0, 0, 0, 0, 0, 0, 0, 0, 0, 0, 0, 0, 0, 0, 0, 0, 0, 0, 0, 0, 0, 0, 0, 0, 0, 0, 0, 0, 0, 0, 0, 0, 0, 0, 0, 0, 0, 0, 0, 0, 0, 2, 0, 0, 0, 0, 0, 0, 0, 0, 0, 0, 0, 2, 0, 0]
set_option maxRecDepth 100000 in
theorem b82_111 (g0 off cap : Nat) (B : Nat → Nat → Int) (cs : List Value) (t : TypeId) (hG : Gv.Ok ⟨g0, off, 3, cap, B, cs, t⟩) (f : Nat → Int) (n : Nat) (hn : n < 128) (h0 : bB B 0 n = true) (h1 : bB B 1 n = true) (h2 : bB B 2 n = true) : BRun ⟨g0, off, 3, cap, B, cs, t⟩ 82 f (zY f n) n :=
  fun r4 bo => runs_code (E := envBB ⟨g0, off, 3, cap, B, cs, t⟩ f) (E' := envBB (sG 3 (fun k m => match m with | 0 => [255, 255, 255].getD k 0 | _ => (k : Int) + 1)) fun _ => 0) rfl (sumB_ok (envBB ⟨g0, off, 3, cap, B, cs, t⟩ f) rfl (byt_three (hG.1 0) (hG.1 1) (hG.1 2))) (fuel := 60) (need' := bbNeed (sG 3 (fun k m => match m with | 0 => [255, 255, 255].getD k 0 | _ => (k : Int) + 1)) 82 1002 0) (M' := [vrow 1002 fun _ => 0, vrow 1003 fun _ => 0, Gv.row (sG 3 (fun k m => match m with | 0 => [255, 255, 255].getD k 0 | _ => (k : Int) + 1))]) rfl (bbD (bB B 2 n) (bB B 0 n) true true n) b82_111Ts (bbD_ok hn (by first | (simp only [h0, h1, h2]; done) | (simp only [h0, h1, h2]; rfl)) (by first | (simp only [h0, h1, h2]; done) | (simp only [h0, h1, h2]; rfl))) (fun g β => by kernel_rfl) (ho := oph_of rfl (ophB_ok ⟨g0, off, 3, cap, B, cs, t⟩ hG f))
end Cp
end Go.Proofs.Ytdclbagfnabmkaa
