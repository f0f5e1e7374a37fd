/-
  memory's Clone and Peek. Of layer 10.
-/
import Derived.Test.YtmgkejpjljkfdaaMmNw
namespace Go.Proofs.Ytmgkejpjljkfdaa
open Go.RowKit VecM Ev
namespace Mm
theorem sg_top {w0 w w' : World} {M L : List Rw} (h : SG w0 M w) (ho : ∀ r ∈ L, r.own = true) (h2 : SG w L w') : SG w0 (L ++ M) w' := by
  obtain ⟨⟨a1, a2, a3⟩, a4⟩ := h
  obtain ⟨⟨b1, b2, b3⟩, b4⟩ := h2
  have e : ents (L ++ M) = ents L ++ ents M := by simp [ents]
  refine ⟨⟨gr_trans a1 b1, ?_, ?_⟩, fun r hr hown => ?_⟩
  · rw [e, List.map_append]
    refine List.nodup_append.2 ⟨b2, a2, fun x hx y hy hxy => ?_⟩
    obtain ⟨p, hp, rfl⟩ := List.mem_map.1 hx
    obtain ⟨q, hq, rfl⟩ := List.mem_map.1 hy
    have h3 := (b3 p hp).1
    have h4 := (Array.getElem?_eq_some_iff.1 (a3 q hq).2).1
    omega
  · rw [e]
    intro p hp
    rcases List.mem_append.1 hp with hp | hp
    · exact ⟨Nat.le_trans a1.size (b3 p hp).1, (b3 p hp).2⟩
    · exact ⟨(a3 p hp).1, gr_block b1 (a3 p hp).2⟩
  · rcases List.mem_append.1 hr with hr | hr
    · rw [ho r hr] at hown; cases hown
    · exact a4 r hr hown
abbrev CsF := FuncId → List Value → List Rw → Option CHole
def scS (j : Nat) : CsF := fun f args M => match Nat.beq f 42 with
  | true => match args, M[j]? with
    | [.slice (some ⟨b, off, none⟩) m _], some r => some ⟨M.set j ⟨b, r.c, tB, r.own⟩, [apF 0 0 [] off m r.c], 1, fun fr => .slice (some ⟨(hdF fr).b, 0, none⟩) m ((r.c.drop off).take m ++ (hdF fr).t).length, fun fr => [⟨(hdF fr).b, (r.c.drop off).take m ++ (hdF fr).t, tB, true⟩]⟩
    | _, _ => none
  | false => none
theorem scS_ok (j : Nat) : ∀ f args M H, scS j f args M = some H → M = H.rows → (∀ b ∈ H.pre, b = true) → ∀ w0 w : World, SG w0 M w → Calls Try.prog f args.toArray w fun e w' => ∃ fr : List Fr, fr.length = H.n ∧ e = .returned (H.v fr) ∧ SG w0 (H.lay fr ++ M) w' := by
  intro f args M H hq hrows hpre w0 w hS
  unfold scS at hq
  split at hq
  · rename_i hf
    obtain rfl := Nat.eq_of_beq_eq_true hf
    split at hq
    · rename_i b off m c2 r hr
      cases hq
      have h0 := hpre _ (List.mem_cons_self ..)
      have hl := (List.getElem?_eq_some_iff.1 hr).1
      have hr2 : (⟨b, r.c, tB, r.own⟩ : Rw) = r := by
        have := congrArg (fun l : List Rw => l[j]?) hrows
        simp only [hr, List.getElem?_set_self hl, Option.some.injEq] at this
        exact this.symm
      have hm : thaw ⟨b, r.c, tB, r.own⟩ ∈ M.map thaw := List.mem_map.2 ⟨r, List.mem_of_getElem? hr, by rw [hr2]⟩
      have hS2 : SG w [⟨b, r.c, tB, false⟩] w := hS.thaw.sub (List.singleton_sublist.2 hm)
      exact (sc_ok h0 w hS2).mono fun e w' ⟨z, h1, h2⟩ => ⟨[z], rfl, h1, sg_top hS (fun r hr => by rw [List.mem_singleton.1 hr]) h2⟩
    · cases hq
  · cases hq
noncomputable def envC (j A n : Nat) : Env := { P := Try.prog, known := [], sum := fun _ _ => none, csum := scS j, oph := byOph j A n }
theorem envC_ok (j A n : Nat) : OphOk (envC j A n) := ⟨scS_ok j, byOph_ok j A n, no_ms rfl, no_aop rfl⟩
/-- a row of bytes that slices.Clone lays -/
def LayZ (w0 : World) (L : List Value) (W : World) (z : Fr) : Prop := w0.heap.size ≤ z.b ∧ W.heap[z.b]? = some (.cells (L ++ z.t).toArray tB (0, 0))
theorem LayZ.gr {w0 W W' : World} {L : List Value} {z : Fr} (h : LayZ w0 L W z) (hg : Gr W W') : LayZ w0 L W' z := ⟨h.1, gr_block hg h.2⟩
def lenZ (L : List Value) (z : Fr) : Nat := (L ++ z.t).length
def ΦC (w0 : World) (b0 b1 N cap : Nat) (most : Int) (L : List Value) : Nat → Value → World → Prop := fun k v W => match k with
  | 0 => v = .pointer (some ⟨b0, 0, none⟩)
  | 1 => v = .pointer (some ⟨b0, 0, none⟩)
  | 2 => v = .pointer (some ⟨b0, 0, none⟩)
  | 3 => v = .slice (some ⟨b1, 0, none⟩) N cap
  | 4 => ∃ z : Fr, v = .slice (some ⟨z.b, 0, none⟩) N (lenZ L z) ∧ LayZ w0 L W z
  | 5 => v = .pointer (some ⟨b0, 0, none⟩)
  | 6 => v = .pointer (some ⟨b0, 0, none⟩)
  | 7 => v = .pointer (some ⟨b0, 1, none⟩)
  | 8 => v = .int .i64 most
  | 9 => ∃ z : Fr, v = .agg (hdr z.b N (lenZ L z) most).toArray ∧ LayZ w0 L W z
  | _ => ∃ (z : Fr) (b : Nat), v = .pointer (some ⟨b, 0, none⟩) ∧ LayZ w0 L W z ∧ w0.heap.size ≤ b ∧ z.b ≠ b ∧ W.heap[b]? = some (.cells (hdr z.b N (lenZ L z) most).toArray tM (0, 0))
theorem ΦC_mono (w0 : World) (b0 b1 N cap : Nat) (most : Int) (L : List Value) : ∀ k v w w', Gr w w' → ΦC w0 b0 b1 N cap most L k v w → ΦC w0 b0 b1 N cap most L k v w' := by
  intro k v w w' hg h
  unfold ΦC at *
  split at h
  all_goals first | exact h | (obtain ⟨z, h1, h2⟩ := h; exact ⟨z, h1, h2.gr hg⟩) | (obtain ⟨z, b, h1, h2, h3, h4, h5⟩ := h; exact ⟨z, b, h1, h2.gr hg, h3, h4, gr_block hg h5⟩)
theorem apF_of {c : List Value} {N : Nat} (h : OkB c N) {off m : Nat} (h1 : off + m ≤ N) (h2 : m ≤ 70368744177664) : apF 0 0 [] off m c = true := by
  unfold apF
  simp only [Bool.and_eq_true]
  refine ⟨Nat.ble_eq_true_of_le (Nat.zero_le _), rfl, Nat.ble_eq_true_of_le (Nat.le_trans h1 h.1), Nat.ble_eq_true_of_le (by omega), List.all_eq_true.2 fun u hu => ?_⟩
  obtain ⟨i, hi, rfl⟩ := List.getElem_of_mem hu
  have hi2 := hi
  simp only [List.length_take, List.length_drop] at hi2
  obtain ⟨x, hx, _⟩ := h.2 (off + i) (by omega)
  have e : ((c.drop off).take m)[i]? = some (.int .u8 x) := by rw [List.getElem?_take_of_lt (by omega), List.getElem?_drop, hx]
  rw [List.getElem?_eq_getElem hi, Option.some.injEq] at e
  rw [e]; rfl
noncomputable def pePath (b0 b1 N cap : Nat) (most : Int) (c : List Value) (a n : Int) (β : Nat → Fr) : Out :=
  evPathR (envC 1 a.toNat n.toNat) (envC 1 0 1) 400 22 [.pointer (some ⟨b0, 0, none⟩), .int .i64 a, .int .i64 n] [.pointer (some ⟨1, 0, none⟩), .int .i64 0, .int .i64 1]
    [⟨b0, hdr b1 N cap most, tM, false⟩, ⟨b1, c, tB, false⟩] [⟨1, hdr 2 16 16 0, tM, false⟩, ⟨2, List.replicate 16 (.int .u8 0), tB, false⟩] (.tuple #[.slice (some ⟨(β 0).b, 0, none⟩) n.toNat ((c.drop a.toNat).take n.toNat ++ (β 0).t).length, .int .i64 0]) 0
    [⟨(β 0).b, (c.drop a.toNat).take n.toNat ++ (β 0).t, tB, true⟩, ⟨b0, hdr b1 N cap most, tM, false⟩, ⟨b1, c, tB, false⟩] β
def peD (b1 N cap : Nat) (c : List Value) (a n : Int) : List (Bool × Bool) := [(decide (a < 0), false), (decide (n < 0), false), (decide (n > 4096), false), (decide (n ≤ (N : Int)), true), (!decide (IntKind.u64.wrap a ≤ IntKind.u64.wrap (IntKind.i64.wrap ((N : Int) - n))), false), (decide (a = (a.toNat : Int)), true),
  (decide (IntKind.i64.wrap (a + n) = ((a.toNat + n.toNat : Nat) : Int)), true), (decide (a.toNat + n.toNat ≤ cap), true), (decide (0 < n.toNat), true), (apF 0 0 [] a.toNat n.toNat (Rw.mk b1 c tB false).c, true)]
--EVTS t_pe | fun (b0 b1 N cap : Nat) (most : Int) (c : List Value) (a n : Int) (β : Nat → Fr) => (pePath b0 b1 N cap most c a n β, peD b1 N cap c a n)
def t_pe : List Nat := [10, 9, 8, 7, 6, 5, 4, 4, 4, 4, 4, 4, 4, 4, 4, 4, 4, 3, 2, 2, 2, 1, 1, 1, 0]
theorem pe_run (b0 b1 N cap : Nat) (most : Int) (c : List Value) (a n : Int) (hD : ∀ p ∈ peD b1 N cap c a n, p.1 = p.2) (w : World) (hS : SG w [⟨b0, hdr b1 N cap most, tM, false⟩, ⟨b1, c, tB, false⟩] w) :
    Calls Try.prog 22 #[.pointer (some ⟨b0, 0, none⟩), .int .i64 a, .int .i64 n] w fun e w' => ∃ β : Nat → Fr, e = .returned (.tuple #[.slice (some ⟨(β 0).b, 0, none⟩) n.toNat ((c.drop a.toNat).take n.toNat ++ (β 0).t).length, .int .i64 0]) ∧
      SG w [⟨(β 0).b, (c.drop a.toNat).take n.toNat ++ (β 0).t, tB, true⟩, ⟨b0, hdr b1 N cap most, tM, false⟩, ⟨b1, c, tB, false⟩] w' :=
  ev_callR (E := envC 1 a.toNat n.toNat) (E' := envC 1 0 1) rfl (nosum_ok _ rfl) (fuel := 400) (args := [.pointer (some ⟨b0, 0, none⟩), .int .i64 a, .int .i64 n]) (peD b1 N cap c a n) t_pe hD (fun β => (by kernel_rfl : tagOL (peD b1 N cap c a n) t_pe (pePath b0 b1 N cap most c a n β) = tagOR (peD b1 N cap c a n) t_pe (pePath b0 b1 N cap most c a n β))) w w hS (ho := envC_ok _ _ _)
theorem peek_any {w0 w : World} {M : List Rw} (hS : SG w0 M w) {j0 j1 b0 b1 N cap : Nat} {most : Int} {c : List Value} {a n : Int} (F : Fit c N cap a) (hn : 0 < n ∧ n ≤ 4096) (hf : a + n ≤ (N : Int)) (h0 : M[j0]? = some ⟨b0, hdr b1 N cap most, tM, true⟩) (h1 : M[j1]? = some ⟨b1, c, tB, true⟩) :
    Calls Try.prog 22 #[.pointer (some ⟨b0, 0, none⟩), .int .i64 a, .int .i64 n] w fun e w' => ∃ z : Fr, e = .returned (.tuple #[.slice (some ⟨z.b, 0, none⟩) n.toNat ((c.drop a.toNat).take n.toNat ++ z.t).length, .int .i64 0]) ∧
      SG w0 (⟨z.b, (c.drop a.toNat).take n.toNat ++ z.t, tB, true⟩ :: M) w' := by
  have h2 := sg_two hS h0 h1 (fun e => by injection e with _ _ e; exact absurd e (by decide))
  obtain ⟨ok, hc, hb, hlo, hhi⟩ := F
  have e1 : IntKind.i64.wrap ((N : Int) - n) = (N : Int) - n := wi (by omega) (by omega)
  have e2 : IntKind.u64.wrap ((N : Int) - n) = (N : Int) - n := wu (by omega) (by omega)
  have e3 : IntKind.u64.wrap a = a := wu (by omega) (by omega)
  have e4 : IntKind.i64.wrap (a + n) = a + n := wi (by omega) (by omega)
  have hD : ∀ p ∈ peD b1 N cap c a n, p.1 = p.2 := by
    unfold peD
    refine one_d (decide_eq_false (by omega)) (one_d (decide_eq_false (by omega)) (one_d (decide_eq_false (by omega)) (one_d (decide_eq_true (by omega)) (one_d ?_ (one_d (decide_eq_true (by omega)) (one_d ?_ (one_d (decide_eq_true (by omega)) (one_d (decide_eq_true (by omega)) (one_d (apF_of ok (by omega) (by omega)) nil_d)))))))))
    · rw [e1, e2, e3, decide_eq_true (by omega)]; rfl
    · rw [e4]; exact decide_eq_true (by omega)
  exact (pe_run b0 b1 N cap most c a n hD w h2).mono fun e w' ⟨β, h3, h4⟩ => ⟨β 0, h3, sg_top hS (fun r hr => by rw [List.mem_singleton.1 hr]) (h4.sub (List.Sublist.cons_cons _ (List.nil_sublist _)))⟩
end Mm
end Go.Proofs.Ytmgkejpjljkfdaa
