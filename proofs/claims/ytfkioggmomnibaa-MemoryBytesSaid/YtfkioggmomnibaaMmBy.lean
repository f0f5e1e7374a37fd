/-
  Of layer 10: MemoryBytes: Poke as a call among rows; the round of its loop. (gen_mmby.py)
-/
import Derived.Test.YtfkioggmomnibaaMmPp
import Derived.Test.YtfkioggmomnibaaMmGs
namespace Go.Proofs.Ytfkioggmomnibaa
open Go.RowKit VecM Ev
namespace Ev
theorem ev_codeB {E E' : Env} (hP : E.P = Try.prog) (hs : SumOk E) {fuel : Nat} {c : Code} {vals vals' : List Value} {M M' : List Rw} {ex : Exit} {keep : List (Nat × Value)} {M1 : List Rw} (hex : okE ex = true) (D : (Nat → Fr) → List (Bool × Bool)) (ts : List Nat) (hD : ∀ β, ∀ p ∈ D β, p.1 = p.2)
    (h : ∀ β : Nat → Fr, tagOL (D β) ts (evCode E E' fuel c vals vals' M M' ex keep M1 β) = tagOR (D β) ts (evCode E E' fuel c vals vals' M M' ex keep M1 β)) {w0 w : World} (hS : SG w0 M w) {Q : Exit → Act → World → Prop}
    (hQ : ∀ (T' : Tm) w', T'.n = vals.length → (∀ p ∈ keep, tget T' p.1 = p.2) → SG w0 M1 w' → Q ex ⟨T'.toArray, []⟩ w') (hh : HolesOk E := by exact no_holes rfl) (ho : OphOk E := by exact no_oph rfl rfl) : wpX Try.prog c Q ⟨vals.toArray, []⟩ w := by
  have h0 := good_tag (hD noB) ts (h noB)
  unfold evCode evCodeM at h0
  split at h0
  · exact absurd h0 not_good
  · rename_i hl hd
    obtain ⟨T0, hT1, hT2⟩ := fill_T vals vals.length hl
    have hT3 : T0.toArray = vals.toArray := by rw [hT2]; simp
    rw [← hT3]
    have hk : ∀ _ : Nat → Fr, KeepC (fun e T s => (.ok (needE T keep (.eqv (encE e) (encE ex) :: .eqv (encM (s.M.drop (s.M.length - M1.length))) (encM M1) :: .eqv (.int .u64 T.n) (.int .u64 vals.length) :: s.acc)) : Out)) := fun _ e T s l hl hg x hx => by
      cases hl
      exact hg x (needE_sub _ _ _ (List.mem_cons_of_mem _ (List.mem_cons_of_mem _ (List.mem_cons_of_mem _ hx))))
    refine evC_ok hP hs hh ho follows_mixed fuel w0 c noB 0 (evCodeHints E E' fuel c vals vals' M M') M (fun _ => []) T0 w _ Q hk hS (fun β _ => ?_) fun e T' w' ⟨γ', n', h', M2, A', hS', _, _, hgd⟩ => ?_
    · have h1 := good_tag (hD β) ts (h β)
      unfold evCode evCodeM at h1
      simp only [hd, hT1] at h1
      exact h1
    · have h2 := good_ok.1 (hgd γ' .refl)
      have e1 := h2 _ (needE_sub _ _ _ (List.mem_cons_self ..))
      have e2 := h2 _ (needE_sub _ _ _ (List.mem_cons_of_mem _ (List.mem_cons_self ..)))
      have e3 := h2 _ (needE_sub _ _ _ (List.mem_cons_of_mem _ (List.mem_cons_of_mem _ (List.mem_cons_self ..))))
      simp only [It.l, It.r, Lv.v.injEq] at e1 e2 e3
      obtain rfl := encE_inj e1 hex
      simp only [Value.int.injEq, true_and] at e3
      refine hQ T' w' (by omega) (fun p hp => ?_) (encM_inj e2 ▸ hS'.drop _)
      have := h2 _ (needE_mem T' _ _ p hp)
      simpa [It.l, It.r] using this
theorem runs_codeB {E E' : Env} (hP : E.P = Try.prog) (hs : SumOk E) {fuel : Nat} {c : Code} {n : Nat} {need need' : List (Nat × Value)} {M M' : List Rw} {ex : Exit} {give : List (Nat × Value)} {hav : List Nat} {M1 : List Rw} (hex : okE ex = true) (D : (Nat → Fr) → List (Bool × Bool)) (ts : List Nat) (hD : ∀ β, ∀ p ∈ D β, p.1 = p.2)
    (h : ∀ (g : Nat → Value) (β : Nat → Fr), tagOL (D β) ts (evCode E E' fuel c (valsOf need g n) (valsOf need' (fun _ => undef) n) M M' ex (give ++ keepOf need g n hav) M1 β) = tagOR (D β) ts (evCode E E' fuel c (valsOf need g n) (valsOf need' (fun _ => undef) n) M M' ex (give ++ keepOf need g n hav) M1 β))
    (hh : HolesOk E := by exact no_holes rfl) (ho : OphOk E := by exact no_oph rfl rfl) : Runs c n need M ex give hav M1 := by
  intro w0 w T Q hn hneed hS hQ
  rw [vals_eq hn hneed]
  refine ev_codeB hP hs hex D ts hD (h (tget T)) hS (fun T' w' e1 e2 e3 => ?_) hh ho
  have e1' : T'.n = n := by rw [e1]; simp [valsOf]
  refine hQ T' w' e1' (fun p hp => e2 p (List.mem_append_left _ hp)) (fun i hi hm => ?_) e3
  have h1 := e2 _ (List.mem_append_right _ (keep_mem (need := need) (g := tget T) hi hm))
  simp only at h1
  rw [h1]
  split
  · rename_i v hv
    exact (hneed _ (assoc_mem hv)).symm
  · rfl
end Ev
namespace Mm
/-- m bytes of a row from off on as a string -/
def stL (c : List Value) (off m : Nat) : ByteArray := strL (c.drop off) m
def bsL (c : List Value) (off m : Nat) : Bool := isBs (c.drop off) m
noncomputable def byO2 (bs : List Value → Nat → Nat → Bool) (st : List Value → Nat → Nat → ByteArray) (ne : ByteArray → ByteArray → Bool) (I : Nat → Nat) (o : Oper) (T : Tm) (M : List Rw) : Option OHole :=
  match o.op with
  | .convert s d (.tmp p) => match Nat.beq s 37, Nat.beq d 9 with
    | true, true => match tget T p, Ev.rowAt M (I p) with
      | .slice (some ⟨_, off, none⟩) m c, some r => some ⟨T.n, [(p, .slice (some ⟨r.b, off, none⟩) m c)], M, [bs r.c off m], some (.string (st r.c off m)), M⟩
      | _, _ => none
    | _, _ => none
  | .binOp .neq t x y _ => match Nat.beq t 9 with
    | true => match evalT T x, evalT T y with
      | .string a, .string b => some ⟨T.n, [], M, [], some (.bool (ne a b)), M⟩
      | _, _ => none
    | false => none
  | .slice t y (some l) (some h) none => match Nat.beq t 37 with
    | true => match evalT T y, evalT T l, evalT T h with
      | .slice (some ⟨b, off, none⟩) _ cap, .int _ lo, .int _ hi => some ⟨T.n, [], M, [decide (0 ≤ lo), decide (lo < hi), decide (hi ≤ (cap : Int))], some (.slice (some ⟨b, off + lo.toNat, none⟩) (hi.toNat - lo.toNat) (cap - lo.toNat)), M⟩
      | _, _, _ => none
    | false => none
  | _ => none
theorem run_slice2 {ρ : Operand → Value} {o : Oper} {t e : TypeId} {n c off b : Nat} {k1 k2 : IntKind} {lo hi : Int} {y l h : Operand} (ho : o.op = .slice t y (some l) (some h) none) (hx : ρ y = .slice (some ⟨b, off, none⟩) n c) (hl : ρ l = .int k1 lo) (hh : ρ h = .int k2 hi) (hu : Try.prog.underlying t = some (.slice e)) {f : TypeInfo} (hf : Try.prog.info? e = some f) (h1 : f.size = 1)
    (h0 : 0 ≤ lo) (h2 : lo < hi) (h3 : hi ≤ (c : Int)) (w : World) : (execOp ρ o).run Try.prog w = .ok (.value (.slice (some ⟨b, off + lo.toNat, none⟩) (hi.toNat - lo.toNat) (c - lo.toNat))) w := by
  have he : Try.prog.elem t = e := by simp [Program.elem, hu]
  have hu' : Try.prog.underlying t = some (.slice (Try.prog.elem t)) := by rw [he]; exact hu
  have hr := run_slice_lh (P := Try.prog) w t (some ⟨b, off, none⟩) n c hu' k1 k2 lo hi h0 (by omega) h3
  have hn : ¬ c = lo.toNat := by omega
  have hs := run_sliceAt_slice (P := Try.prog) w t (.slice (some ⟨b, off, none⟩) n c) (some (.int k1 lo)) (some (.int k2 hi)) none hu'
  unfold execOp
  simp only [ho, hx, hl, hh, Option.map_some, Option.map_none, Sem.run_bind, hs, hr]
  simp [sliced, he, sizeOf, typeInfo, hf, h1, addr_add, Result.andThen, hn]
theorem byO2_ok (I : Nat → Nat) : OphAt (byO2 bsL stL neS I) := by
  intro o T M H hq hn hneed hrows hpre w0 w hS
  unfold byO2 at hq
  split at hq
  · rename_i s d p hop
    split at hq
    · rename_i hs hd
      obtain rfl := Nat.eq_of_beq_eq_true hs
      obtain rfl := Nat.eq_of_beq_eq_true hd
      split at hq
      · rename_i bb off m c r hx hr
        cases hq
        have h0 := hpre _ (List.mem_cons_self ..)
        have hp := hneed _ (List.mem_cons_self ..)
        simp only at hp
        have hp2 : evalT T (.tmp p) = .slice (some ⟨r.b, off, none⟩) m c := hp
        rw [rowAt_eq] at hr
        obtain ⟨fr, hrow, _⟩ := hS.row (List.mem_of_getElem? hr)
        have e := isBs_take h0
        have hl := run_loadCells_list (P := Try.prog) w ⟨r.b, off, none⟩ ((r.c.drop off).take m) (cells_src (off := off) (m := m) hrow)
        have hlen : ((r.c.drop off).take m).length = m := by rw [e]; simp
        rw [hlen, e] at hl
        have hr2 := run_bytesToString (P := Try.prog) w ⟨r.b, off, none⟩ m c _ hl
        have hr3 := run_convert_bytes_string (P := Try.prog) w 37 9 5 (some ⟨r.b, off, none⟩) m c Try.underlying37 Try.underlying5 Try.underlying9
        refine ⟨w, ?_, hS⟩
        unfold execOp
        simp only [hop, hp2, Sem.run_bind, hr3, hr2, Result.andThen_ok, Sem.run_pure]
        rfl
      · cases hq
    · cases hq
  · rename_i t x y t' hop
    split at hq
    · rename_i ht
      obtain rfl := Nat.eq_of_beq_eq_true ht
      split at hq
      · rename_i a b hx hy
        cases hq
        refine ⟨w, ?_, hS⟩
        unfold execOp
        simp only [hop, hx, hy]
        go_simp
        simp [neS]
      · cases hq
    · cases hq
  · rename_i t y l h hop
    split at hq
    · rename_i ht
      obtain rfl := Nat.eq_of_beq_eq_true ht
      split at hq
      · rename_i b off len cap k1 lo k2 hi hx hl hh
        cases hq
        have h0 := of_decide_eq_true (hpre _ (List.mem_cons_self ..))
        have h1 := of_decide_eq_true (hpre _ (List.mem_cons_of_mem _ (List.mem_cons_self ..)))
        have h2 := of_decide_eq_true (hpre _ (List.mem_cons_of_mem _ (List.mem_cons_of_mem _ (List.mem_cons_self ..))))
        exact ⟨w, run_slice2 hop hx hl hh Try.underlying37 info8 size8 h0 h1 h2 w, hS⟩
      · cases hq
    · cases hq
  · cases hq
structure Fp where
  pk : List Value → Nat → Nat → Int → Int → Bool
  bs : List Value → Nat → Nat → Bool
  st : List Value → Nat → Nat → ByteArray
  ne : ByteArray → ByteArray → Bool
noncomputable def fpR : Fp := ⟨pkB, bsL, stL, neS⟩
def fpS : Fp := ⟨fun _ _ _ _ _ => true, fun _ _ _ => true, fun _ _ _ => ByteArray.empty, fun _ _ => false⟩
noncomputable def envBy (G : Fp) : Env :=
  { P := Try.prog, known := [], sum := fun _ _ => none, oph := byO2 G.bs G.st G.ne (fun p => match Nat.beq p 73 with | true => 0 | false => 5), msum := fun f => match Nat.beq f 22 with | true => some (pkM G.pk) | false => none }
theorem envBy_ms : MsOk (envBy fpR) := by
  intro f D hq k args L M H h1 h2 h3 w0 w hS
  unfold envBy at hq
  simp only at hq
  split at hq
  · rename_i hf
    obtain rfl := Nat.eq_of_beq_eq_true hf
    cases hq
    exact pkM_ok k args L M H h1 h2 h3 w0 w hS
  · cases hq
theorem envBy_ok : OphOk (envBy fpR) := ⟨fun _ _ _ _ hq => (by cases hq), byO2_ok _, envBy_ms, no_aop rfl⟩
/-- the loop's number, as it counts -/
def iz : Nat → Int
  | 0 => 0
  | k + 1 => IntKind.i64.wrap (iz k + 4096)
theorem iz_eq : ∀ k : Nat, k ≤ 20 → iz k = 4096 * k := by
  intro k
  induction k with
  | zero => intro _; rfl
  | succ k ih => intro hk; rw [iz, ih (by omega), wi (by omega) (by omega)]; omega
def iE (n p : Nat) : Int := if (n : Int) < IntKind.i64.wrap (iz p + 4096) then (n : Int) else IntKind.i64.wrap (iz p + 4096)
def iA (a : Int) (p : Nat) : Int := IntKind.i64.wrap (IntKind.i64.wrap a + iz p)
def iM (n p : Nat) : Int := IntKind.i64.wrap (iE n p - iz p)
def nz (s : Nat) (z : Int) : List (Nat × Value) := [(s, .int .i64 z)]
def byHav : List Nat := [9, 10, 11, 12] ++ (List.range 35).map (· + 47)
def byNc (a : Int) (gb off n sc mb : Nat) : List (Nat × Value) := [(0, .int .u64 a), (1, .slice (some ⟨gb, off, none⟩) n sc), (5, .pointer (some ⟨mb, 0, none⟩))]
def byR (x0 x1 : Rw) (mb b1 N cap : Nat) (most : Int) (c : List Value) (gb : Nat) (dc : List Value) (dt : TypeId) : List Rw := [x0, x1, ⟨mb, hdr b1 N cap most, tM, true⟩, ⟨b1, c, tB, true⟩, ⟨gb, dc, dt, false⟩]
noncomputable def byPath (G : Fp) (need need' : List (Nat × Value)) (M M' : List Rw) (ex : Exit) (give : List (Nat × Value)) (g : Nat → Value) (β : Nat → Fr) : Out :=
  evCode (envBy G) (envBy fpS) 4000 (loopIn 7 0) (valsOf need g 95) (valsOf need' (fun _ => undef) 95) M M' ex (give ++ keepOf need g 95 byHav) M β
theorem by_run (G : Fp) (hG : G = fpR) (need need' : List (Nat × Value)) (M M' : List Rw) (ex : Exit) (hex : okE ex = true) (give : List (Nat × Value)) (D : (Nat → Fr) → List (Bool × Bool)) (ts : List Nat) (hD : ∀ β, ∀ p ∈ D β, p.1 = p.2)
    (h : ∀ g β, tagOL (D β) ts (byPath G need need' M M' ex give g β) = tagOR (D β) ts (byPath G need need' M M' ex give g β)) : Runs (loopIn 7 0) 95 need M ex give byHav M :=
  runs_codeB (E := envBy G) (E' := envBy fpS) rfl (nosum_ok _ rfl) (fuel := 4000) (need' := need') (M' := M') hex D ts hD h (hh := no_holes rfl) (ho := by rw [hG]; exact envBy_ok)
def D_byr (G : Fp) (x0 x1 : Rw) (mb b1 N cap : Nat) (most : Int) (c : List Value) (gb off n sc : Nat) (dc : List Value) (dt : TypeId) (a : Int) (p : Nat) (β : Nat → Fr) : List (Bool × Bool) := [(decide (iz p < (n : Int)), true), (G.pk c N cap (iA a p) (iM n p), true), (G.bs ((c.drop (iA a p).toNat).take (iM n p).toNat ++ (β 0).t) 0 (iM n p).toNat, true), (decide (0 ≤ iz p), true), (decide (iz p < iE n p), true), (decide (iE n p ≤ (sc : Int)), true), (G.bs dc (off + (iz p).toNat) ((iE n p).toNat - (iz p).toNat), true), (G.ne (G.st ((c.drop (iA a p).toNat).take (iM n p).toNat ++ (β 0).t) 0 (iM n p).toNat) (G.st dc (off + (iz p).toNat) ((iE n p).toNat - (iz p).toNat)), false)]
noncomputable def P_byr (G : Fp) (x0 x1 : Rw) (mb b1 N cap : Nat) (most : Int) (c : List Value) (gb off n sc : Nat) (dc : List Value) (dt : TypeId) (a : Int) (p : Nat) (g : Nat → Value) (β : Nat → Fr) : Out := byPath G (byNc a gb off n sc mb ++ nz 9 (iz p)) (byNc 0 1005 0 9000 9000 1003 ++ nz 9 0) (byR x0 x1 mb b1 N cap most c gb dc dt) [⟨1001, [], tB, true⟩, ⟨1002, [], tB, true⟩, ⟨1003, hdr 1004 65536 65536 0, tM, true⟩, ⟨1004, [], tB, true⟩, ⟨1005, [], tB, false⟩] .normal (nz 9 (iz (p + 1))) g β
--EVTS t_byr | fun (G : Fp) (x0 x1 : Rw) (mb b1 N cap : Nat) (most : Int) (c : List Value) (gb off n sc : Nat) (dc : List Value) (dt : TypeId) (a : Int) (p : Nat) (g : Nat → Value) (β : Nat → Fr) => (P_byr G x0 x1 mb b1 N cap most c gb off n sc dc dt a p g β, D_byr G x0 x1 mb b1 N cap most c gb off n sc dc dt a p β)
def t_byr : List Nat := [8, 0, 0, 7, 0, 6, 5, 4, 0, 0, 0, 0, 3, 0, 0, 2, 0, 0, 1]
theorem R_byr (x0 x1 : Rw) (mb b1 N cap : Nat) (most : Int) (c : List Value) (gb off n sc : Nat) (dc : List Value) (dt : TypeId) (a : Int) (p : Nat) (hD : ∀ β, ∀ q ∈ D_byr fpR x0 x1 mb b1 N cap most c gb off n sc dc dt a p β, q.1 = q.2) : Runs (loopIn 7 0) 95 (byNc a gb off n sc mb ++ nz 9 (iz p)) (byR x0 x1 mb b1 N cap most c gb dc dt) .normal (nz 9 (iz (p + 1))) byHav (byR x0 x1 mb b1 N cap most c gb dc dt) :=
  (fun (G : Fp) (hG : G = fpR) => by_run G hG (byNc a gb off n sc mb ++ nz 9 (iz p)) (byNc 0 1005 0 9000 9000 1003 ++ nz 9 0) (byR x0 x1 mb b1 N cap most c gb dc dt) [⟨1001, [], tB, true⟩, ⟨1002, [], tB, true⟩, ⟨1003, hdr 1004 65536 65536 0, tM, true⟩, ⟨1004, [], tB, true⟩, ⟨1005, [], tB, false⟩] .normal rfl (nz 9 (iz (p + 1))) (D_byr G x0 x1 mb b1 N cap most c gb off n sc dc dt a p) t_byr (by rw [hG]; exact hD) (fun g β => (by kernel_rfl : tagOL (D_byr G x0 x1 mb b1 N cap most c gb off n sc dc dt a p β) t_byr (P_byr G x0 x1 mb b1 N cap most c gb off n sc dc dt a p g β) = tagOR (D_byr G x0 x1 mb b1 N cap most c gb off n sc dc dt a p β) t_byr (P_byr G x0 x1 mb b1 N cap most c gb off n sc dc dt a p g β)))) fpR rfl
def D_bye (G : Fp) (x0 x1 : Rw) (mb b1 N cap : Nat) (most : Int) (c : List Value) (gb off n sc : Nat) (dc : List Value) (dt : TypeId) (a : Int) (p : Nat) (β : Nat → Fr) : List (Bool × Bool) := [(decide (iz p < (n : Int)), false)]
noncomputable def P_bye (G : Fp) (x0 x1 : Rw) (mb b1 N cap : Nat) (most : Int) (c : List Value) (gb off n sc : Nat) (dc : List Value) (dt : TypeId) (a : Int) (p : Nat) (g : Nat → Value) (β : Nat → Fr) : Out := byPath G (byNc a gb off n sc mb ++ nz 9 (iz p)) (byNc 0 1005 0 0 9000 1003 ++ nz 9 0) (byR x0 x1 mb b1 N cap most c gb dc dt) [⟨1001, [], tB, true⟩, ⟨1002, [], tB, true⟩, ⟨1003, hdr 1004 65536 65536 0, tM, true⟩, ⟨1004, [], tB, true⟩, ⟨1005, [], tB, false⟩] (.exit 0) (nz 9 (iz p)) g β
--EVTS t_bye | fun (G : Fp) (x0 x1 : Rw) (mb b1 N cap : Nat) (most : Int) (c : List Value) (gb off n sc : Nat) (dc : List Value) (dt : TypeId) (a : Int) (p : Nat) (g : Nat → Value) (β : Nat → Fr) => (P_bye G x0 x1 mb b1 N cap most c gb off n sc dc dt a p g β, D_bye G x0 x1 mb b1 N cap most c gb off n sc dc dt a p β)
def t_bye : List Nat := [1]
theorem R_bye (x0 x1 : Rw) (mb b1 N cap : Nat) (most : Int) (c : List Value) (gb off n sc : Nat) (dc : List Value) (dt : TypeId) (a : Int) (p : Nat) (hD : ∀ β, ∀ q ∈ D_bye fpR x0 x1 mb b1 N cap most c gb off n sc dc dt a p β, q.1 = q.2) : Runs (loopIn 7 0) 95 (byNc a gb off n sc mb ++ nz 9 (iz p)) (byR x0 x1 mb b1 N cap most c gb dc dt) (.exit 0) (nz 9 (iz p)) byHav (byR x0 x1 mb b1 N cap most c gb dc dt) :=
  (fun (G : Fp) (hG : G = fpR) => by_run G hG (byNc a gb off n sc mb ++ nz 9 (iz p)) (byNc 0 1005 0 0 9000 1003 ++ nz 9 0) (byR x0 x1 mb b1 N cap most c gb dc dt) [⟨1001, [], tB, true⟩, ⟨1002, [], tB, true⟩, ⟨1003, hdr 1004 65536 65536 0, tM, true⟩, ⟨1004, [], tB, true⟩, ⟨1005, [], tB, false⟩] (.exit 0) rfl (nz 9 (iz p)) (D_bye G x0 x1 mb b1 N cap most c gb off n sc dc dt a p) t_bye (by rw [hG]; exact hD) (fun g β => (by kernel_rfl : tagOL (D_bye G x0 x1 mb b1 N cap most c gb off n sc dc dt a p β) t_bye (P_bye G x0 x1 mb b1 N cap most c gb off n sc dc dt a p g β) = tagOR (D_bye G x0 x1 mb b1 N cap most c gb off n sc dc dt a p β) t_bye (P_bye G x0 x1 mb b1 N cap most c gb off n sc dc dt a p g β)))) fpR rfl
end Mm
end Go.Proofs.Ytfkioggmomnibaa
