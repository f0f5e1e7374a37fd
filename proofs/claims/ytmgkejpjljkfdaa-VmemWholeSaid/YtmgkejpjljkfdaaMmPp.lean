/-
  memory's Poke as a call among rows; Poke of nothing. Of layer 10.
-/
import Derived.Test.YtmgkejpjljkfdaaMmPo
namespace Go.Proofs.Ytmgkejpjljkfdaa
open Go.RowKit VecM Ev
namespace Mm
structure Gq where
  pk : List Value → Nat → Nat → Int → List Value → Nat → Nat → Bool
  er : Nat → Int → Nat → Int
  cp : List Value → Nat → Int → List Value → Nat → Nat → List Value
noncomputable def gqR : Gq := ⟨fun c N cap a s off n => @decide (PkS c N cap a s off n) (Classical.propDecidable _), erP, cpP⟩
def gqS (er : Int) : Gq := ⟨fun _ _ _ _ _ _ _ => true, fun _ _ _ => er, fun c _ _ _ _ _ => c⟩
theorem pks_iff {c : List Value} {N cap : Nat} {a : Int} {s : List Value} {off n : Nat} : gqR.pk c N cap a s off n = true ↔ PkS c N cap a s off n := @decide_eq_true_iff _ (Classical.propDecidable _)
def depO (r : Rw) : Bool := r.own && Nat.beq r.t tM
def poM (G : Gq) : MSum := ⟨depO, fun _ args L M => match args, L with
  | [.pointer (some ⟨_, 0, none⟩), .int .u64 a, .slice (some ⟨_, off, none⟩) n _], [(j0, r0), (j1, r1), (j2, r2)] => match r0.c with
    | [.slice (some ⟨_, 0, none⟩) N cap, .int .i64 _] => some ⟨[Nat.beq r0.t tM, Nat.beq r1.t tB, r0.own, r1.own, G.pk r1.c N cap a r2.c off n, !(Nat.beq j0 j1), !(Nat.beq j0 j2), !(Nat.beq j1 j2)], 0, fun _ => .int .i64 (G.er N a n),
        fun _ => M.set j1 ⟨r1.b, G.cp r1.c N a r2.c off n, tB, true⟩, M.length⟩
    | _ => none
  | _, _ => none⟩
theorem res_memO {M : List Rw} {b N cap b1 : Nat} {most : Int} {j0 j1 : Nat} {r0 r1 : Rw} {vs : List Value} {x : List (Nat × Rw)} (h : Res2 depO M (.pointer (some ⟨b, 0, none⟩) :: vs) ((j0, r0) :: (j1, r1) :: x)) (h0 : r0.t = tM) (ho : r0.own = true) (hc : r0.c = [.slice (some ⟨b1, 0, none⟩) N cap, .int .i64 most]) :
    M[j0]? = some r0 ∧ M[j1]? = some r1 ∧ b = r0.b ∧ b1 = r1.b ∧ Res2 depO M vs x := by
  unfold Res2 at h
  obtain ⟨j, r, L1, L2, h1, h2, h3, h4, h5⟩ := h
  have hj : j0 = j ∧ r0 = r := by
    injection h1 with h1 _
    injection h1 with h1 h1'
    exact ⟨h1, h1'⟩
  obtain ⟨rfl, rfl⟩ := hj
  have hd : depO r0 = true := by unfold depO; rw [ho, h0]; rfl
  rw [hd] at h4
  simp only at h4
  rw [hc] at h4
  unfold Res1 at h4
  obtain ⟨j', r', L', h6, h7, h8, h9⟩ := h4
  unfold Res1 at h9
  simp only [refB] at h9
  unfold Res1 at h9
  subst h9 h6
  injection h1 with _ h1
  simp only [List.cons_append, List.nil_append, List.cons.injEq, Prod.mk.injEq] at h1
  obtain ⟨⟨rfl, rfl⟩, rfl⟩ := h1
  exact ⟨h2, h7, h3, h8, h5⟩
theorem res_sl {dep : Rw → Bool} {M : List Rw} {k : IntKind} {z : Int} {g off n sc j2 : Nat} {r2 : Rw} (h : Res2 dep M [.int k z, .slice (some ⟨g, off, none⟩) n sc] [(j2, r2)]) : M[j2]? = some r2 ∧ g = r2.b := by
  unfold Res2 at h
  simp only [refB] at h
  unfold Res2 at h
  obtain ⟨j, r, L1, L2, h1, h2, h3, _, _⟩ := h
  injection h1 with h1 _
  injection h1 with h1 h1'
  subst h1 h1'
  exact ⟨h2, h3⟩
theorem nbeq_f {a b : Nat} (h : (!(Nat.beq a b)) = true) : a ≠ b := fun e => by subst e; rw [Nat.beq_refl] at h; cases h
theorem poM_ok (k : Nat) (args : List Value) (L : List (Nat × Rw)) (M : List Rw) (H : MHole) (hq : (poM gqR).hole k args L M = some H) (hr : Res2 depO M args L) (hpre : ∀ b ∈ H.pre, b = true) (w0 w : World) (hS : SG w0 M w) :
    Calls Try.prog 10 args.toArray w fun e w' => ∃ fr : List Fr, fr.length = H.n ∧ e = .returned (H.v fr) ∧ SG w0 (H.out fr) w' := by
  unfold poM at hq
  simp only at hq
  split at hq
  · rename_i b a g off n sc j0 r0 j1 r1 j2 r2
    split at hq
    · rename_i b1 N cap most hc
      cases hq
      have t0 := Nat.eq_of_beq_eq_true (hpre _ (List.mem_cons_self ..))
      have t1 := Nat.eq_of_beq_eq_true (hpre _ (List.mem_cons_of_mem _ (List.mem_cons_self ..)))
      have o0 := hpre _ (List.mem_cons_of_mem _ (List.mem_cons_of_mem _ (List.mem_cons_self ..)))
      have o1 := hpre _ (List.mem_cons_of_mem _ (List.mem_cons_of_mem _ (List.mem_cons_of_mem _ (List.mem_cons_self ..))))
      have hF := hpre _ (List.mem_cons_of_mem _ (List.mem_cons_of_mem _ (List.mem_cons_of_mem _ (List.mem_cons_of_mem _ (List.mem_cons_self ..)))))
      have q1 := nbeq_f (hpre _ (List.mem_cons_of_mem _ (List.mem_cons_of_mem _ (List.mem_cons_of_mem _ (List.mem_cons_of_mem _ (List.mem_cons_of_mem _ (List.mem_cons_self ..)))))))
      have q2 := nbeq_f (hpre _ (List.mem_cons_of_mem _ (List.mem_cons_of_mem _ (List.mem_cons_of_mem _ (List.mem_cons_of_mem _ (List.mem_cons_of_mem _ (List.mem_cons_of_mem _ (List.mem_cons_self ..))))))))
      have q3 := nbeq_f (hpre _ (List.mem_cons_of_mem _ (List.mem_cons_of_mem _ (List.mem_cons_of_mem _ (List.mem_cons_of_mem _ (List.mem_cons_of_mem _ (List.mem_cons_of_mem _ (List.mem_cons_of_mem _ (List.mem_cons_self ..)))))))))
      obtain ⟨m0, m1, rfl, rfl, hr2⟩ := res_memO hr t0 o0 hc
      obtain ⟨m2, rfl⟩ := res_sl hr2
      have e0 := own_row o0 t0 hc
      have e1 := own_row o1 t1 rfl
      rw [e0] at m0
      rw [e1] at m1
      exact (po_any hS (pks_iff.1 hF) m0 m1 m2 q1 q2 q3).mono fun e w' ⟨h1, h2⟩ => ⟨[], rfl, h1, h2⟩
    · cases hq
  · cases hq
/-! ### nothing -/
noncomputable def pzOph (A : Nat) (o : Oper) (T : Tm) (M : List Rw) : Option OHole :=
  match o.op with
  | .slice t y (some l) none none => match Nat.beq t 23 with
    | true => match evalT T y, evalT T l with
      | .slice (some ⟨b, 0, none⟩) n cap, .int _ lo => some ⟨T.n, [], M, [decide (lo = (A : Int)), Nat.ble A n, Nat.ble n cap], some (.slice (if cap = A then some ⟨b, 0, none⟩ else some ⟨b, A, none⟩) (n - A) (cap - A)), M⟩
      | _, _ => none
    | false => none
  | .call _ => match cpOf o with
    | some (.tmp px, .tmp py, t, t') => match Nat.beq t 23, Nat.beq t' 23 with
      | true, true => match tget T px, tget T py with
        | .slice d dl dc, .slice x 0 sc => some ⟨T.n, [(px, .slice d dl dc), (py, .slice x 0 sc)], M, [], some (.int .i64 0), M⟩
        | _, _ => none
      | _, _ => none
    | _ => none
  | _ => none
theorem run_slice_from0 {ρ : Operand → Value} {o : Oper} {t e : TypeId} {n c A b : Nat} {k1 : IntKind} {y l : Operand} (ho : o.op = .slice t y (some l) none none) (hx : ρ y = .slice (some ⟨b, 0, none⟩) n c) (hl : ρ l = .int k1 (A : Int)) (hu : Try.prog.underlying t = some (.slice e)) {f : TypeInfo} (hf : Try.prog.info? e = some f) (h1 : f.size = 1) (h2 : A ≤ n) (w : World) :
    (execOp ρ o).run Try.prog w = .ok (.value (.slice (if c = A then some ⟨b, 0, none⟩ else some ⟨b, A, none⟩) (n - A) (c - A))) w := by
  have he : Try.prog.elem t = e := by simp [Program.elem, hu]
  have hu' : Try.prog.underlying t = some (.slice (Try.prog.elem t)) := by rw [he]; exact hu
  have hr := run_slice_l (P := Try.prog) w t (some ⟨b, 0, none⟩) n c hu' k1 (A : Int) (by omega) (by omega)
  have hs := run_sliceAt_slice (P := Try.prog) w t (.slice (some ⟨b, 0, none⟩) n c) (some (.int k1 (A : Int))) none none hu'
  unfold execOp
  simp only [ho, hx, hl, Option.map_some, Option.map_none, Sem.run_bind, hs, hr]
  simp [sliced, he, sizeOf, typeInfo, hf, h1, addr_add, Result.andThen]
theorem pzOph_ok (A : Nat) : OphAt (pzOph A) := by
  intro o T M H hq hn hneed hrows hpre w0 w hS
  unfold pzOph at hq
  split at hq
  · rename_i t y l hop
    split at hq
    · rename_i ht
      obtain rfl := Nat.eq_of_beq_eq_true ht
      split at hq
      · rename_i b n cap k lo hx hl
        cases hq
        have h0 := of_decide_eq_true (hpre _ (List.mem_cons_self ..))
        have h1 := Nat.le_of_ble_eq_true (hpre _ (List.mem_cons_of_mem _ (List.mem_cons_self ..)))
        subst h0
        refine ⟨w, ?_, hS⟩
        exact run_slice_from0 hop hx hl Try.underlying23 info8 size8 h1 w
      · cases hq
    · cases hq
  · split at hq
    · rename_i px py t t' hc
      split at hq
      · rename_i ht ht'
        obtain rfl := Nat.eq_of_beq_eq_true ht
        obtain rfl := Nat.eq_of_beq_eq_true ht'
        split at hq
        · rename_i d dl dc x sc hx hy
          cases hq
          have hx2 : evalT T (.tmp px) = .slice d dl dc := hx
          have hy2 : evalT T (.tmp py) = .slice x 0 sc := hy
          have hr := run_copy_none (P := Try.prog) w 23 23 o.type 5 d x dl dc 0 sc Try.underlying23 (by rw [info8]; simp [size8]) (Nat.zero_min _)
          rw [← hx2, ← hy2] at hr
          exact ⟨w, exec_copy hc hr, hS⟩
        · cases hq
      · cases hq
    · cases hq
  · cases hq
noncomputable def envZ (A : Nat) : Env := { P := Try.prog, known := [], sum := fun _ _ => none, oph := pzOph A }
theorem envZ_ok (A : Nat) : OphOk (envZ A) := oph_of rfl (pzOph_ok A)
noncomputable def pzPath (b0 b1 N cap : Nat) (most : Int) (c : List Value) (x : Option Addr) (sc : Nat) (a a' : Int) (v : Value) (β : Nat → Fr) : Out :=
  evPathM (envZ a.toNat) (envZ 0) 400 10 [.pointer (some ⟨b0, 0, none⟩), .int .u64 a, .slice x 0 sc] [.pointer (some ⟨1001, 0, none⟩), .int .u64 a', .slice none 0 0]
    [⟨b0, hdr b1 N cap most, tM, false⟩, ⟨b1, c, tB, false⟩] [⟨1001, hdr 1002 4 4 0, tM, false⟩, ⟨1002, [], tB, false⟩] v β
def pzF (N : Nat) (a : Int) (b : Bool) : Bool × Bool := (!decide (a ≤ IntKind.u64.wrap (IntKind.i64.wrap ((N : Int) - ((0 : Nat) : Int)))), b)
def pzD (N cap : Nat) (a : Int) : List (Bool × Bool) := [(decide (((0 : Nat) : Int) ≤ (N : Int)), true), pzF N a false, (decide (a = (a.toNat : Int)), true), (Nat.ble a.toNat N, true), (Nat.ble N cap, true)]
--EVTS t_pz1 | fun (b0 b1 N cap : Nat) (most : Int) (c : List Value) (x : Option Addr) (sc : Nat) (a : Int) (β : Nat → Fr) => (pzPath b0 b1 N cap most c x sc a 0 (.int .i64 0) β, pzD N cap a)
def t_pz1 : List Nat := [5, 4, 3, 2, 0, 0, 0, 0, 0, 0, 0, 0, 0, 0, 0, 0]
--EVTS t_pz2 | fun (b0 b1 N cap : Nat) (most : Int) (c : List Value) (x : Option Addr) (sc : Nat) (a : Int) (β : Nat → Fr) => (pzPath b0 b1 N cap most c x sc a 9 (.int .i64 23) β, [(decide (((0 : Nat) : Int) ≤ (N : Int)), true), pzF N a true])
def t_pz2 : List Nat := [2, 0, 0, 0, 0, 0, 0, 0, 0, 0, 0, 0, 0]
theorem pz_run (b0 b1 N cap : Nat) (most : Int) (c : List Value) (x : Option Addr) (sc : Nat) (a a' : Int) (v : Value) (D : List (Bool × Bool)) (ts : List Nat) (hD : ∀ p ∈ D, p.1 = p.2) (hr : ∀ β, tagOL D ts (pzPath b0 b1 N cap most c x sc a a' v β) = tagOR D ts (pzPath b0 b1 N cap most c x sc a a' v β)) (w : World)
    (hS : SG w [⟨b0, hdr b1 N cap most, tM, false⟩, ⟨b1, c, tB, false⟩] w) : Calls Try.prog 10 #[.pointer (some ⟨b0, 0, none⟩), .int .u64 a, .slice x 0 sc] w fun e w' => e = .returned v ∧ Gr w w' :=
  ev_pathM (E := envZ a.toNat) (E' := envZ 0) rfl (nosum_ok _ rfl) (fuel := 400) (args := [.pointer (some ⟨b0, 0, none⟩), .int .u64 a, .slice x 0 sc]) D ts hD hr w hS (ho := envZ_ok _)
theorem pz_any {b0 b1 N cap : Nat} {most : Int} {c : List Value} {a : Int} (F : Fit c N cap a) (x : Option Addr) (sc : Nat) (w : World) (hS : SG w [⟨b0, hdr b1 N cap most, tM, false⟩, ⟨b1, c, tB, false⟩] w) :
    Calls Try.prog 10 #[.pointer (some ⟨b0, 0, none⟩), .int .u64 a, .slice x 0 sc] w fun e w' => e = .returned (.int .i64 (erP N a 0)) ∧ Gr w w' := by
  obtain ⟨ok, hc, hb, hlo, hhi⟩ := F
  have e1 : IntKind.i64.wrap ((N : Int) - ((0 : Nat) : Int)) = (N : Int) := by rw [wi (by omega) (by omega)]; omega
  have e2 : IntKind.u64.wrap (N : Int) = (N : Int) := wu (by omega) (by omega)
  unfold erP
  by_cases h : a + ((0 : Nat) : Int) ≤ (N : Int)
  · rw [if_pos h]
    refine pz_run b0 b1 N cap most c x sc a 0 (.int .i64 0) (pzD N cap a) t_pz1 (one_d (decide_eq_true (by omega)) (one_d ?_ (one_d (decide_eq_true (by omega)) (one_d (Nat.ble_eq_true_of_le (by omega)) (one_d (Nat.ble_eq_true_of_le hc) nil_d))))) (fun β => by kernel_rfl) w hS
    show (!decide (a ≤ IntKind.u64.wrap (IntKind.i64.wrap ((N : Int) - ((0 : Nat) : Int))))) = false
    rw [e1, e2, decide_eq_true (by omega)]; rfl
  · rw [if_neg h]
    refine pz_run b0 b1 N cap most c x sc a 9 (.int .i64 23) [(decide (((0 : Nat) : Int) ≤ (N : Int)), true), pzF N a true] t_pz2 (one_d (decide_eq_true (by omega)) (one_d ?_ nil_d)) (fun β => by kernel_rfl) w hS
    show (!decide (a ≤ IntKind.u64.wrap (IntKind.i64.wrap ((N : Int) - ((0 : Nat) : Int))))) = true
    rw [e1, e2, decide_eq_false (by omega)]; rfl
/-- Poke of nothing, on the memory whose rows are the last two -/
def pzC (er : Nat → Int → Nat → Int) (ok : List Value → Nat → Nat → Int → Bool) : CsF := fun f args M => match Nat.beq f 10 with
  | true => match args with
    | [.pointer (some ⟨b, 0, none⟩), .int .u64 a, .slice _ 0 _] => match M[M.length - 2]?, M[M.length - 1]? with
      | some r0, some r1 => match r0.c with
        | [.slice (some ⟨b1, 0, none⟩) N cap, .int .i64 _] => some ⟨(M.set (M.length - 2) ⟨b, r0.c, tM, r0.own⟩).set (M.length - 1) ⟨b1, r1.c, tB, r1.own⟩, [ok r1.c N cap a, Nat.blt 1 M.length], 0, fun _ => .int .i64 (er N a 0), fun _ => []⟩
        | _ => none
      | _, _ => none
    | _ => none
  | false => none
theorem pzC_ok : CsOk (pzC erP okB) := by
  intro f args M H hq hrows hpre w0 w hS
  unfold pzC at hq
  split at hq
  · rename_i hf
    obtain rfl := Nat.eq_of_beq_eq_true hf
    split at hq
    · rename_i b a x sc
      split at hq
      · rename_i r0 r1 h0 h1
        split at hq
        · rename_i b1 N cap most hc
          cases hq
          have F := okB_iff.1 (hpre _ (List.mem_cons_self ..))
          have hl := (blt_iff _ _).1 (hpre _ (List.mem_cons_of_mem _ (List.mem_cons_self ..)))
          have g0 : r0 = ⟨b, r0.c, tM, r0.own⟩ := by
            have := congrArg (fun l : List Rw => l[M.length - 2]?) hrows
            simp only at this
            rw [List.getElem?_set_ne (by omega), List.getElem?_set_self (by omega), h0] at this
            exact Option.some.inj this
          have g1 : r1 = ⟨b1, r1.c, tB, r1.own⟩ := by
            have := congrArg (fun l : List Rw => l[M.length - 1]?) hrows
            simp only at this
            rw [List.getElem?_set_self (by rw [List.length_set]; omega), h1] at this
            exact Option.some.inj this
          have h2 : SG w [⟨b, hdr b1 N cap most, tM, false⟩, ⟨b1, r1.c, tB, false⟩] w := sg_given hS fun r hr => by
            simp only [List.mem_cons, List.not_mem_nil, or_false] at hr
            rcases hr with rfl | rfl
            · exact ⟨r0, List.mem_of_getElem? h0, by rw [g0]; unfold thaw hdr; simp only [hc]⟩
            · exact ⟨r1, List.mem_of_getElem? h1, by rw [g1]; rfl⟩
          exact (pz_any F x sc w h2).mono fun e w' ⟨h3, h4⟩ => ⟨[], rfl, h3, hS.grow h4⟩
        · cases hq
      · cases hq
    · cases hq
  · cases hq
end Mm
end Go.Proofs.Ytmgkejpjljkfdaa
