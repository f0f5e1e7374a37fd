/-
  Slices of bytes as strings; memory's Peek as a call among rows; two memories of one page alike. Of layer 10.
-/
import Derived.Test.YtmgkejpjljkfdaaMmCl
import Derived.Laws.BytesString
namespace Go.Proofs.Ytmgkejpjljkfdaa
open Go.RowKit VecM Ev
namespace Mm
/-- m bytes of a row as a string -/
def strL (c : List Value) (m : Nat) : ByteArray := ((List.range m).map (gB c)).foldl (fun r n => r.push (UInt8.ofNat n.toNat)) ByteArray.empty
def isBs (c : List Value) (m : Nat) : Bool := (List.range m).all fun i => isB c[i]?
def neS (a b : ByteArray) : Bool := !(a.toList == b.toList)
theorem isBs_take {c : List Value} {m : Nat} (h : isBs c m = true) : c.take m = ((List.range m).map (gB c)).map (Value.int .u8) := by
  refine List.ext_getElem? fun i => ?_
  by_cases hi : i < m
  · have h1 := isB_eq (List.all_eq_true.1 h i (List.mem_range.2 hi))
    rw [List.getElem?_take_of_lt hi, h1]
    simp [hi]
  · rw [List.getElem?_eq_none (by rw [List.length_take]; omega), List.getElem?_eq_none (by simp; omega)]
noncomputable def stOph (bs : List Value → Nat → Bool) (st : List Value → Nat → ByteArray) (ne : ByteArray → ByteArray → Bool) (I : Nat → Nat) (o : Oper) (T : Tm) (M : List Rw) : Option OHole :=
  match o.op with
  | .convert s d (.tmp p) => match Nat.beq s 23, Nat.beq d 9 with
    | true, true => match tget T p, Ev.rowAt M (I p) with
      | .slice (some ⟨_, 0, none⟩) m c, some r => some ⟨T.n, [(p, .slice (some ⟨r.b, 0, none⟩) m c)], M, [bs r.c m], some (.string (st r.c m)), M⟩
      | _, _ => none
    | _, _ => none
  | .binOp .neq t x y _ => match Nat.beq t 9 with
    | true => match evalT T x, evalT T y with
      | .string a, .string b => some ⟨T.n, [], M, [], some (.bool (ne a b)), M⟩
      | _, _ => none
    | false => none
  | _ => none
theorem stOph_ok (I : Nat → Nat) : OphAt (stOph isBs strL neS I) := by
  intro o T M H hq hn hneed hrows hpre w0 w hS
  unfold stOph at hq
  split at hq
  · rename_i s d p hop
    split at hq
    · rename_i hs hd
      obtain rfl := Nat.eq_of_beq_eq_true hs
      obtain rfl := Nat.eq_of_beq_eq_true hd
      split at hq
      · rename_i bb m c r hx hr
        cases hq
        have h0 := hpre _ (List.mem_cons_self ..)
        have hp := hneed _ (List.mem_cons_self ..)
        simp only at hp
        have hp2 : evalT T (.tmp p) = .slice (some ⟨r.b, 0, none⟩) m c := hp
        rw [rowAt_eq] at hr
        obtain ⟨fr, hrow, _⟩ := hS.row (List.mem_of_getElem? hr)
        have e := isBs_take h0
        have hl := run_loadCells_list (P := Try.prog) w ⟨r.b, 0, none⟩ (r.c.take m) (by simpa using cells_src (off := 0) (m := m) hrow)
        have hlen : (r.c.take m).length = m := by rw [e]; simp
        rw [hlen, e] at hl
        have hr2 := run_bytesToString (P := Try.prog) w ⟨r.b, 0, none⟩ m c _ hl
        have hr3 := run_convert_bytes_string (P := Try.prog) w 23 9 5 (some ⟨r.b, 0, none⟩) m c Try.underlying23 Try.underlying5 Try.underlying9
        refine ⟨w, ?_, hS⟩
        unfold execOp
        simp only [hop, hp2, Sem.run_bind, hr3, hr2, Result.andThen_ok, Sem.run_pure]
        rfl
      · cases hq
    · cases hq
  · rename_i t x y t' hop
    split at hq
    · rename_i ht
      obtain rfl := Nat.eq_of_beq_eq_true ht
      split at hq
      · rename_i a b hx hy
        cases hq
        refine ⟨w, ?_, hS⟩
        unfold execOp
        simp only [hop, hx, hy]
        go_simp
        simp [neS]
      · cases hq
    · cases hq
  · cases hq
theorem sg_given {w0 w : World} {M L : List Rw} (hS : SG w0 M w) (hL : ∀ r ∈ L, ∃ q ∈ M, r = thaw q) : SG w L w :=
  ⟨⟨Gr.refl w, by
      have e : ents L = [] := by
        unfold ents
        rw [List.map_eq_nil_iff, List.filter_eq_nil_iff]
        intro r hr
        obtain ⟨q, _, rfl⟩ := hL r hr
        simp [thaw]
      rw [e]; exact List.nodup_nil, fun e he => by
      obtain ⟨r, hr, rfl⟩ := List.mem_map.1 he
      obtain ⟨h1, h2⟩ := List.mem_filter.1 hr
      obtain ⟨q, _, rfl⟩ := hL r h1
      cases h2⟩, fun r hr _ => by
    obtain ⟨q, hq, rfl⟩ := hL r hr
    obtain ⟨fr, h, _⟩ := hS.row hq
    exact ⟨fr, h⟩⟩
/-- may so much be peeked? -/
noncomputable def pkB (c : List Value) (N cap : Nat) (a n : Int) : Bool := @decide (Fit c N cap a ∧ (0 < n ∧ n ≤ 4096) ∧ a + n ≤ (N : Int)) (Classical.propDecidable _)
theorem pkB_iff {c : List Value} {N cap : Nat} {a n : Int} : pkB c N cap a n = true ↔ Fit c N cap a ∧ (0 < n ∧ n ≤ 4096) ∧ a + n ≤ (N : Int) := by unfold pkB; exact @decide_eq_true_iff _ (Classical.propDecidable _)
def depM (r : Rw) : Bool := Nat.beq r.t tM
/-- Peek, by what tells whether it fits -/
def pkM (pk : List Value → Nat → Nat → Int → Int → Bool) : MSum := ⟨depM, fun _ args L M => match args, L with
  | [.pointer (some ⟨_, 0, none⟩), .int .i64 a, .int .i64 n], [(_, r0), (_, r1)] => match r0.c with
    | [.slice (some ⟨_, 0, none⟩) N cap, .int .i64 _] => some ⟨[Nat.beq r0.t tM, Nat.beq r1.t tB, pk r1.c N cap a n], 1, fun fr => .tuple #[.slice (some ⟨(hdF fr).b, 0, none⟩) n.toNat ((r1.c.drop a.toNat).take n.toNat ++ (hdF fr).t).length, .int .i64 0],
        fun fr => ⟨(hdF fr).b, (r1.c.drop a.toNat).take n.toNat ++ (hdF fr).t, tB, true⟩ :: M, 0⟩
    | _ => none
  | _, _ => none⟩
/-- of the rows to which a memory leads -/
theorem res_mem {M : List Rw} {b N cap b1 : Nat} {most : Int} {j0 j1 : Nat} {r0 r1 : Rw} {vs : List Value} {x : List (Nat × Rw)} (h : Res2 depM M (.pointer (some ⟨b, 0, none⟩) :: vs) ((j0, r0) :: (j1, r1) :: x)) (h0 : r0.t = tM) (hc : r0.c = [.slice (some ⟨b1, 0, none⟩) N cap, .int .i64 most]) :
    M[j0]? = some r0 ∧ M[j1]? = some r1 ∧ b = r0.b ∧ b1 = r1.b ∧ Res2 depM M vs x := by
  unfold Res2 at h
  obtain ⟨j, r, L1, L2, h1, h2, h3, h4, h5⟩ := h
  have hj : j0 = j ∧ r0 = r := by
    injection h1 with h1 _
    injection h1 with h1 h1'
    exact ⟨h1, h1'⟩
  obtain ⟨rfl, rfl⟩ := hj
  have hd : depM r0 = true := by unfold depM; rw [h0]; exact Nat.beq_refl _
  rw [hd] at h4
  simp only at h4
  rw [hc] at h4
  unfold Res1 at h4
  obtain ⟨j', r', L', h6, h7, h8, h9⟩ := h4
  unfold Res1 at h9
  simp only [refB] at h9
  unfold Res1 at h9
  subst h9 h6
  injection h1 with _ h1
  simp only [List.cons_append, List.nil_append, List.cons.injEq, Prod.mk.injEq] at h1
  obtain ⟨⟨rfl, rfl⟩, rfl⟩ := h1
  exact ⟨h2, h7, h3, h8, h5⟩
theorem res_int {M : List Rw} {k : IntKind} {z : Int} {vs : List Value} {x : List (Nat × Rw)} (h : Res2 depM M (.int k z :: vs) x) : Res2 depM M vs x := by
  unfold Res2 at h
  exact h
theorem pkM_ok (k : Nat) (args : List Value) (L : List (Nat × Rw)) (M : List Rw) (H : MHole) (hq : (pkM pkB).hole k args L M = some H) (hr : Res2 depM M args L) (hpre : ∀ b ∈ H.pre, b = true) (w0 w : World) (hS : SG w0 M w) :
    Calls Try.prog 22 args.toArray w fun e w' => ∃ fr : List Fr, fr.length = H.n ∧ e = .returned (H.v fr) ∧ SG w0 (H.out fr) w' := by
  unfold pkM at hq
  simp only at hq
  split at hq
  · rename_i b a n j0 r0 j1 r1
    split at hq
    · rename_i b1 N cap most hc
      cases hq
      have t0 := Nat.eq_of_beq_eq_true (hpre _ (List.mem_cons_self ..))
      have t1 := Nat.eq_of_beq_eq_true (hpre _ (List.mem_cons_of_mem _ (List.mem_cons_self ..)))
      obtain ⟨⟨ok, hcap, hb, hlo, hhi⟩, hn, hf⟩ := pkB_iff.1 (hpre _ (List.mem_cons_of_mem _ (List.mem_cons_of_mem _ (List.mem_cons_self ..))))
      obtain ⟨m0, m1, rfl, rfl, _⟩ := res_mem hr t0 hc
      have h2 : SG w [⟨r0.b, hdr r1.b N cap most, tM, false⟩, ⟨r1.b, r1.c, tB, false⟩] w := sg_given hS fun r hr => by
        simp only [List.mem_cons, List.not_mem_nil, or_false] at hr
        rcases hr with rfl | rfl
        · exact ⟨r0, List.mem_of_getElem? m0, by unfold thaw hdr; rw [hc, t0]⟩
        · exact ⟨r1, List.mem_of_getElem? m1, by unfold thaw; rw [t1]⟩
      have e1 : IntKind.i64.wrap ((N : Int) - n) = (N : Int) - n := wi (by omega) (by omega)
      have e2 : IntKind.u64.wrap ((N : Int) - n) = (N : Int) - n := wu (by omega) (by omega)
      have e3 : IntKind.u64.wrap a = a := wu (by omega) (by omega)
      have e4 : IntKind.i64.wrap (a + n) = a + n := wi (by omega) (by omega)
      have hD : ∀ p ∈ peD r1.b N cap r1.c a n, p.1 = p.2 := by
        unfold peD
        refine one_d (decide_eq_false (by omega)) (one_d (decide_eq_false (by omega)) (one_d (decide_eq_false (by omega)) (one_d (decide_eq_true (by omega)) (one_d ?_ (one_d (decide_eq_true (by omega)) (one_d ?_ (one_d (decide_eq_true (by omega)) (one_d (decide_eq_true (by omega)) (one_d (apF_of ok (by omega) (by omega)) nil_d)))))))))
        · rw [e1, e2, e3, decide_eq_true (by omega)]; rfl
        · rw [e4]; exact decide_eq_true (by omega)
      exact (pe_run r0.b r1.b N cap most r1.c a n hD w h2).mono fun e w' ⟨β, h3, h4⟩ => ⟨[β 0], rfl, h3, sg_top hS (L := [_]) (fun r hr => by rw [List.mem_singleton.1 hr]) (h4.sub (List.Sublist.cons_cons _ (List.nil_sublist _)))⟩
    · cases hq
  · cases hq
/-- functions that a run is not to unfold -/
structure Fo where
  pk : List Value → Nat → Nat → Int → Int → Bool
  bs : List Value → Nat → Bool
  st : List Value → Nat → ByteArray
  ne : ByteArray → ByteArray → Bool
noncomputable def foR : Fo := ⟨pkB, isBs, strL, neS⟩
def foS : Fo := ⟨fun _ _ _ _ _ => true, fun _ _ => true, fun _ _ => ByteArray.empty, fun _ _ => false⟩
noncomputable def envS (G : Fo) : Env :=
  { P := Try.prog, known := [], sum := fun _ _ => none, oph := stOph G.bs G.st G.ne (fun p => match Nat.beq p 41 with | true => 1 | false => 0), msum := fun f => match Nat.beq f 22 with | true => some (pkM G.pk) | false => none }
theorem envS_ms : MsOk (envS foR) := by
  intro f D hq k args L M H h1 h2 h3 w0 w hS
  unfold envS at hq
  simp only at hq
  split at hq
  · rename_i hf
    obtain rfl := Nat.eq_of_beq_eq_true hf
    cases hq
    exact pkM_ok k args L M H h1 h2 h3 w0 w hS
  · cases hq
theorem envS_ok : OphOk (envS foR) := ⟨fun _ _ _ _ hq => (by cases hq), stOph_ok _, envS_ms, no_aop rfl⟩
def saM (b0 b1 b2 b3 cap cap' : Nat) (most most' : Int) (c c' : List Value) : List Rw := [⟨b0, hdr b1 65536 cap most, tM, false⟩, ⟨b1, c, tB, false⟩, ⟨b2, hdr b3 65536 cap' most', tM, false⟩, ⟨b3, c', tB, false⟩]
def saD (G : Fo) (cap cap' : Nat) (c c' : List Value) (β : Nat → Fr) : List (Bool × Bool) := ((List.range 16).map fun (k : Nat) =>
  [(G.pk c 65536 cap ((4096 * k : Nat) : Int) 4096, true), (G.pk c' 65536 cap' ((4096 * k : Nat) : Int) 4096, true), (G.bs (((c.drop (4096 * k)).take 4096) ++ (β (2 * k)).t) 4096, true), (G.bs (((c'.drop (4096 * k)).take 4096) ++ (β (2 * k + 1)).t) 4096, true),
    (G.ne (G.st (((c.drop (4096 * k)).take 4096) ++ (β (2 * k)).t) 4096) (G.st (((c'.drop (4096 * k)).take 4096) ++ (β (2 * k + 1)).t) 4096), false)]).flatten
def t_sa : List Nat := [0, 0, 80, 0, 0, 79, 0, 0, 78, 0, 0, 0, 0, 0, 77, 0, 0, 76, 0, 0, 0, 0, 75, 0, 0, 74, 0, 0, 73, 0, 0, 0, 0, 0, 72, 0, 0, 71, 0, 0, 0, 0, 70, 0, 0, 69, 0, 0, 68, 0, 0, 0, 0, 0, 67, 0, 0, 66, 0, 0, 0, 0, 65, 0, 0, 64, 0, 0, 63, 0, 0, 0, 0, 0, 62, 0, 0, 61, 0, 0, 0, 0, 60, 0, 0, 59, 0, 0, 58, 0, 0, 0, 0, 0, 57, 0, 0, 56, 0, 0, 0, 0, 55, 0, 0, 54, 0, 0, 53, 0, 0, 0, 0, 0, 52, 0, 0, 51, 0, 0, 0, 0, 50, 0, 0, 49, 0, 0, 48, 0, 0, 0, 0, 0, 47, 0, 0, 46, 0, 0, 0, 0, 45, 0, 0, 44, 0, 0, 43, 0, 0, 0, 0, 0, 42, 0, 0, 41, 0, 0, 0, 0, 40, 0, 0, 39, 0, 0, 38, 0, 0, 0, 0, 0, 37, 0, 0, 36, 0, 0, 0, 0, 35, 0, 0, 34, 0, 0, 33, 0, 0, 0, 0, 0, 32, 0, 0, 31, 0, 0, 0, 0, 30, 0, 0, 29, 0, 0, 28, 0, 0, 0, 0, 0, 27, 0, 0, 26, 0, 0, 0, 0, 25, 0, 0, 24, 0, 0, 23, 0, 0, 0, 0, 0, 22, 0, 0, 21, 0, 0, 0, 0, 20, 0, 0, 19, 0, 0, 18, 0, 0, 0, 0, 0, 17, 0, 0, 16, 0, 0, 0, 0, 15, 0, 0, 14, 0, 0, 13, 0, 0, 0, 0, 0, 12, 0, 0, 11, 0, 0, 0, 0, 10, 0, 0, 9, 0, 0, 8, 0, 0, 0, 0, 0, 7, 0, 0, 6, 0, 0, 0, 0, 5, 0, 0, 4, 0, 0, 3, 0, 0, 0, 0, 0, 2, 0, 0, 1, 0, 0, 0, 0, 0, 0, 0]
end Mm
end Go.Proofs.Ytmgkejpjljkfdaa
