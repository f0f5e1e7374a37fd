/-
  Texts of this seat, joined: VcD, VcDe, VcDo0, VcDo1, VcDo2, VcDo3, VcDo4, VcDc, VcIs. Each says what it proves.
-/
import Derived.Test.YtjoalcaooccbiaaMk8
import Derived.Test.YtjoalcaooccbiaaMk12
import Derived.Test.YtjoalcaooccbiaaMk16
import Derived.Test.YtjoalcaooccbiaaMk20
/- VcD -/
namespace Go.Proofs.Ytjoalcaooccbiaa
open Go.RowKit VecM Ev
namespace Vc
theorem bits_bd (op : BinOp) (x y : Int) : 0 ≤ bits op .u8 x y ∧ bits op .u8 x y ≤ 255 := by
 unfold bits
 rw [IntKind.wrap_u8]
 omega
theorem byt0 : Byt fun _ => 0 := fun _ => ⟨Int.le_refl _, by show (0 : Int) ≤ 255; decide⟩
theorem byt_ofk (v : Int) (f : Nat → Int) (k : Nat) : Byt (ofK (fun _ => 0) v f k) := ofK_byt byt0 _ _ _
theorem byt_low32 (lo : Int) : Byt (low32 lo) := byt_ofk _ _ _
theorem byt_both (x y : Int) : Byt (both64 x y) := byt_ofk _ _ _
theorem byt_spl (v x : Int) : Byt (Mv.splV v x) := byt_ofk _ _ _
theorem byt_re (op lane x : Int) {b : Nat → Int} (hb : Byt b) : Byt (Mv.reV op lane x b) := by
 unfold Mv.reV
 split
 ·exact setI_byt hb _ _ _
 ·exact byt0
theorem byt_swz {a s : Nat → Int} (ha : Byt a) : Byt (Mv.swzV a s) := fun m => by
 unfold Mv.swzV
 split
 ·exact ha _
 ·exact ⟨Int.le_refl _, by decide⟩
theorem byt_shf {a b s : Nat → Int} (ha : Byt a) (hb : Byt b) : Byt (Mv.shV a b s) := fun m => by
 unfold Mv.shV
 split
 ·exact ha _
 ·exact hb _
theorem byt_aun (op : Int) {b : Nat → Int} (hb : Byt b) : Byt (Ar.unV op b) := by
 unfold Ar.unV; split
 ·exact ofK_byt hb _ _ _
 ·exact byt0
theorem byt_abi (op : Int) (a b : Nat → Int) : Byt (Ar.biV op a b) := by
 unfold Ar.biV; split
 ·exact byt_ofk _ _ _
 ·exact byt0
theorem byt_ash (op : Int) {a : Nat → Int} (ha : Byt a) (n : Int) : Byt (Ar.shV op a n) := by
 unfold Ar.shV; split
 ·exact ofK_byt ha _ _ _
 ·exact byt0
theorem byt_cp (op : Int) (a b : Nat → Int) : Byt (Cp.cpV op a b) := Cp.msk_byt _ _ _
theorem byt_wun (op : Int) {b : Nat → Int} (hb : Byt b) : Byt (Wd.unV op b) := by
 unfold Wd.unV
 split
 ·exact Wd.exO_byt _ _ (by assumption) hb
 ·split
  ·exact byt_ofk _ _ _
  ·exact byt0
theorem byt_nak (v m n lo hi : Int) (a b : Nat → Int) : ∀ k, Byt (Wd.naK v m n lo hi a b k)
 | 0 => byt0
 | k + 1 => setI_byt (setI_byt (byt_nak v m n lo hi a b k) _ _ _) _ _ _
theorem byt_wbi (op : Int) {a b : Nat → Int} (ha : Byt a) : Byt (Wd.biV op a b) := by
 unfold Wd.biV
 split
 ·unfold Wd.naO
  split <;> split <;> exact byt_nak _ _ _ _ _ _ _ _
 ·split
  ·rename_i h
   exact ofK_byt (Wd.exO_byt _ _ h ha) _ _ _
  ·split
   ·exact byt_ofk _ _ _
   ·split
    ·exact byt_ofk _ _ _
    ·exact byt0
abbrev SumF := FuncId → List Value → Option (List (List Value) × (List (Nat → Int) → Value × List Bool))
def FnOk (K : List (Nat → Int)) (s : SumF) : Prop := ∀ f args cs mk, s f args = some (cs, mk) → ∀ fs : List (Nat → Int), cs = fs.map (fun x => (bs x).toList) → (∀ x ∈ fs, x ∈ K) → (∀ p ∈ (mk fs).2, p = true) →
 ∀ w, Calls Try.prog f args.toArray w fun e w' => e = .returned (mk fs).1 ∧ Gr w w'
noncomputable def orF (s s' : SumF) : SumF := fun f args => match s f args with | some r => some r | none => s' f args
theorem orF_ok {K : List (Nat → Int)} {s s' : SumF} (h : FnOk K s) (h' : FnOk K s') : FnOk K (orF s s') := by
 intro f args cs mk hq
 unfold orF at hq
 split at hq
 ·rename_i r hr
  cases hq
  exact h f args _ _ hr
 ·exact h' f args cs mk hq
abbrev CsF := FuncId → List Value → List Rw → Option CHole
def COk (c : CsF) : Prop := ∀ f args M H, c f args M = some H → M = H.rows → (∀ b ∈ H.pre, b = true) → ∀ w0 w : World, SG w0 M w → Calls Try.prog f args.toArray w fun e w' => ∃ fr : List Fr, fr.length = H.n ∧ e = .returned (H.v fr) ∧ SG w0 (H.lay fr ++ M) w'
noncomputable def orC (c c' : CsF) : CsF := fun f args M => match c f args M with | some r => some r | none => c' f args M
theorem orC_ok {c c' : CsF} (h : COk c) (h' : COk c') : COk (orC c c') := by
 intro f args M H hq
 unfold orC at hq
 split at hq
 ·rename_i r hr
  cases hq
  exact h f args M _ hr
 ·exact h' f args M H hq
def inI (z : Int) : Bool := decide (-9223372036854775808 ≤ z) && decide (z ≤ 9223372036854775807)
theorem inI_out {z : Int} (h : inI z = true) : -9223372036854775808 ≤ z ∧ z ≤ 9223372036854775807 := by simpa [inI] using h
def okS (s : Nat → Int) : Bool := (List.range 16).all fun m => decide (s m < 32)
def bitN (op : Int) : Int := if op = 64845 then 1 else if op = 64846 ∨ op = 64847 ∨ op = 64848 ∨ op = 64849 then 2 else if op = 64850 then 3 else 0
noncomputable def sumE : SumF := fun f args =>
 match Nat.beq f 22 with
 | true => match args with
  | [.int .i64 op, .int .i64 lane, .agg ⟨c⟩] => some ([c], fun fs => (.tuple #[.int .u64 (Mv.exV op lane (Vc.hd1 fs)), .int .i64 (if thereB (Mv.exW op) lane then 0 else 1)], [inI lane]))
  | _ => none
 | false => match Nat.beq f 12 with
 | true => match args with
  | [.int .i64 op, .agg ⟨c⟩] => some ([c], fun fs => (.tuple #[.agg (bs (Ar.unV op (Vc.hd1 fs))), .int .i64 (if Ar.unOk op then 0 else 1)], []))
  | _ => none
 | false => match Nat.beq f 13 with
 | true => match args with
  | [.int .i64 op, .agg ⟨c⟩] => some ([c], fun fs => (.tuple #[.agg (bs (Wd.unV op (Vc.hd1 fs))), .int .i64 (Wd.unE op)], [inI op]))
  | _ => none
 | false => match Nat.beq f 16 with
 | true => match args with
  | [.int .i64 op, .agg ⟨c⟩, .agg ⟨d⟩] => some ([c, d], fun fs => (.tuple #[.agg (bs (Ar.biV op (Ev.hd1 fs) (hd2 fs))), .int .i64 (if Ar.biOk op then 0 else 1)], []))
  | _ => none
 | false => match Nat.beq f 18 with
 | true => match args with
  | [.int .i64 op, .agg ⟨c⟩, .agg ⟨d⟩] => some ([c, d], fun fs => (.tuple #[.agg (bs (Cp.cpV op (Ev.hd1 fs) (hd2 fs))), .int .i64 (if Cp.cW op = 0 then 1 else 0)], [inI op]))
  | _ => none
 | false => match Nat.beq f 17 with
 | true => match args with
  | [.int .i64 op, .agg ⟨c⟩, .agg ⟨d⟩] => some ([c, d], fun fs => (.tuple #[.agg (bs (Wd.biV op (Ev.hd1 fs) (hd2 fs))), .int .i64 (Wd.biE op)], [inI op]))
  | _ => none
 | false => match Nat.beq f 23 with
 | true => match args with
  | [.int .i64 op, .agg ⟨c⟩] => some ([c], fun fs => (.tuple #[.int .u32 (Cp.tsV op (Vc.hd1 fs)), .int .i64 (Cp.tsOk op)], [inI op]))
  | _ => none
 | false => match Nat.beq f 26 with
 | true => match args with
  | [.agg ⟨c⟩, .agg ⟨d⟩] => some ([c, d], fun fs => (.agg (bs (Mv.swzV (Ev.hd1 fs) (hd2 fs))), []))
  | _ => none
 | false => match Nat.beq f 25 with
 | true => match args with
  | [.agg ⟨s⟩, .agg ⟨c⟩, .agg ⟨d⟩] => some ([s, c, d], fun fs => match fs with
   | [s, a, b] => (.tuple #[.agg (bs (if okS s then Mv.shV a b s else fun _ => 0)), .int .i64 (if okS s then 0 else 1)], [])
   | _ => (undef, [false]))
  | _ => none
 | false => match Nat.beq f 89 with
 | true => match args with
  | [.agg ⟨[.int .u64 lo, .int .u64 hi]⟩] => some ([], fun _ => (.agg (bs (both64 lo hi)), []))
  | _ => none
 | false => match Nat.beq f 55 with
 | true => match args with
  | [.int .i64 op] => some ([], fun _ => (.int .i64 (Mv.spW op), [inI op]))
  | _ => none
 | false => match Nat.beq f 45 with
 | true => match args with
  | [.int .i64 op] => some ([], fun _ => (.int .i64 (bitN op), []))
  | _ => none
 | false => none
theorem two_fs' {c d : List Value} {fs : List (Nat → Int)} (h : [c, d] = fs.map (fun x => (bs x).toList)) : ∃ x y, fs = [x, y] ∧ c = (bs x).toList ∧ d = (bs y).toList := Ev.two_fs h
theorem three_fs {c d e : List Value} {fs : List (Nat → Int)} (h : [c, d, e] = fs.map (fun x => (bs x).toList)) : ∃ x y z, fs = [x, y, z] ∧ c = (bs x).toList ∧ d = (bs y).toList ∧ e = (bs z).toList := by
 match fs, h with
 | [x, y, z], h => simp only [List.map_cons, List.map_nil, List.cons.injEq, and_true] at h; exact ⟨x, y, z, rfl, h.1, h.2.1, h.2.2⟩
theorem both_join (lo hi : Int) : both64 lo hi = ofK (fun _ => 0) 64 (fun j => if j = 0 then lo else hi) 2 := rfl
theorem shuf_any (a b s : Nat → Int) (hs : Byt s) (w : World) : Calls Try.prog 25 #[.agg (bs s), .agg (bs a), .agg (bs b)] w fun e w' => e = .returned (.tuple #[.agg (bs (if okS s then Mv.shV a b s else fun _ => 0)), .int .i64 (if okS s then 0 else 1)]) ∧ Gr w w' := by
 cases h : okS s with
 | true =>
  simp only [if_true]
  refine Mv.shuffle_ok a b s hs (fun m hm => ?_) w
  have h1 := List.all_eq_true.1 h m (List.mem_range.2 hm)
  simpa using h1
 | false =>
  simp only [Bool.false_eq_true, if_false]
  refine Mv.shuffle_bad a b s hs ?_ w
  obtain ⟨m, hm, h1⟩ := List.all_eq_false.1 h
  have h1 : ¬ s m < 32 := by simpa using h1
  exact ⟨m, List.mem_range.1 hm, by omega⟩
theorem sumE_ok {K : List (Nat → Int)} (hK : ∀ x ∈ K, Byt x) : FnOk K sumE := by
 intro f args cs mk h fs hcs hfs hp w
 have b1 : ∀ {x}, fs = [x] → Byt x := fun {x} e => hK x (hfs x (e ▸ List.mem_cons_self ..))
 have b2 : ∀ {x y}, fs = [x, y] → Byt x ∧ Byt y := fun {x y} e => ⟨hK x (hfs x (e ▸ List.mem_cons_self ..)), hK y (hfs y (e ▸ List.mem_cons_of_mem _ (List.mem_cons_self ..)))⟩
 unfold sumE at h
 split at h
 ·rename_i hf
  obtain rfl := Nat.eq_of_beq_eq_true hf
  split at h
  ·cases h
   obtain ⟨x, hx, rfl⟩ := Vc.one_fs hcs
   have := b1 hx
   subst hx
   exact Mv.extract_any _ _ (inI_out (hp _ (List.mem_cons_self ..))) x this w
  ·cases h
 ·split at h
  ·rename_i hf
   obtain rfl := Nat.eq_of_beq_eq_true hf
   split at h
   ·cases h
    obtain ⟨x, hx, rfl⟩ := Vc.one_fs hcs
    have := b1 hx
    subst hx
    exact Ar.un_any _ x this w
   ·cases h
  ·split at h
   ·rename_i hf
    obtain rfl := Nat.eq_of_beq_eq_true hf
    split at h
    ·cases h
     obtain ⟨x, hx, rfl⟩ := Vc.one_fs hcs
     have := b1 hx
     subst hx
     exact Wd.un_any _ (inI_out (hp _ (List.mem_cons_self ..))) x this w
    ·cases h
   ·split at h
    ·rename_i hf
     obtain rfl := Nat.eq_of_beq_eq_true hf
     split at h
     ·cases h
      obtain ⟨x, y, hx, rfl, rfl⟩ := two_fs' hcs
      have := b2 hx
      subst hx
      exact Ar.bin_any _ x y this.1 this.2 w
     ·cases h
    ·split at h
     ·rename_i hf
      obtain rfl := Nat.eq_of_beq_eq_true hf
      split at h
      ·cases h
       obtain ⟨x, y, hx, rfl, rfl⟩ := two_fs' hcs
       have := b2 hx
       subst hx
       exact Cp.cmp_any _ (inI_out (hp _ (List.mem_cons_self ..))) x y this.1 this.2 w
      ·cases h
     ·split at h
      ·rename_i hf
       obtain rfl := Nat.eq_of_beq_eq_true hf
       split at h
       ·cases h
        obtain ⟨x, y, hx, rfl, rfl⟩ := two_fs' hcs
        have := b2 hx
        subst hx
        exact Wd.bin_any _ (inI_out (hp _ (List.mem_cons_self ..))) x y this.1 this.2 w
       ·cases h
      ·split at h
       ·rename_i hf
        obtain rfl := Nat.eq_of_beq_eq_true hf
        split at h
        ·cases h
         obtain ⟨x, hx, rfl⟩ := Vc.one_fs hcs
         have := b1 hx
         subst hx
         exact Cp.test_any _ (inI_out (hp _ (List.mem_cons_self ..))) x this w
        ·cases h
       ·split at h
        ·rename_i hf
         obtain rfl := Nat.eq_of_beq_eq_true hf
         split at h
         ·cases h
          obtain ⟨x, y, hx, rfl, rfl⟩ := two_fs' hcs
          have := b2 hx
          subst hx
          exact Mv.swizzle_any x y this.2 w
         ·cases h
        ·split at h
         ·rename_i hf
          obtain rfl := Nat.eq_of_beq_eq_true hf
          split at h
          ·cases h
           obtain ⟨s, a, b, hx, rfl, rfl, rfl⟩ := three_fs hcs
           have hs : Byt s := hK s (hfs s (hx ▸ List.mem_cons_self ..))
           subst hx
           exact shuf_any a b s hs w
          ·cases h
         ·split at h
          ·rename_i hf
           obtain rfl := Nat.eq_of_beq_eq_true hf
           split at h
           ·rename_i lo hi
            cases h
            exact (join_any lo hi w).mono fun e w' hh => hh
           ·cases h
          ·split at h
           ·rename_i hf
            obtain rfl := Nat.eq_of_beq_eq_true hf
            split at h
            ·cases h
             exact (Mv.splatW_any _ (inI_out (hp _ (List.mem_cons_self ..))) w).mono fun e w' hh => ⟨hh.1, hh.2 ▸ Gr.refl _⟩
            ·cases h
           ·split at h
            ·rename_i hf
             obtain rfl := Nat.eq_of_beq_eq_true hf
             split at h
             ·cases h
              exact (Cp.sbits_any _ w).mono fun e w' hh => ⟨hh.1, hh.2 ▸ Gr.refl _⟩
             ·cases h
            ·cases h
theorem sumV_fn {K : List (Nat → Int)} (hK : ∀ x ∈ K, Byt x) : FnOk K sumV := sumV_ok (E := { P := Try.prog, known := K, sum := sumV }) rfl hK
noncomputable def sumD : SumF := orF sumV sumE
theorem sumD_ok {E : Env} (hE : E.sum = sumD) (hK : ∀ x ∈ E.known, Byt x) : SumOk E := by
 have := orF_ok (sumV_fn hK) (sumE_ok hK)
 intro f args cs mk hq
 rw [hE] at hq
 exact this f args cs mk hq
noncomputable def evPathL (E E' : Env) (fuel : Nat) (f : FuncId) (args args' : List Value) (M M' : List Rw) (v : Value) (i : Nat) (r : Rw) (β : Nat → Fr) : Out :=
 evF E .check β fuel f args ⟨0, evHintsM E E' fuel f args args' M M', M, []⟩ fun q s => .ok (.eqv q v :: .eqv (encM ((s.M.drop i).take 1)) (encM [r]) :: s.acc)
theorem SG.pickL {w0 w : World} {M : List Rw} (h : SG w0 M w) (i : Nat) : SG w0 ((M.drop i).take 1) w := h.sub ((List.take_sublist _ _).trans (List.drop_sublist _ _))
theorem ev_callL {E E' : Env} (hP : E.P = Try.prog) (hs : SumOk E) {fuel : Nat} {f : FuncId} {args args' : List Value} {M M' : List Rw} {v : (Nat → Fr) → Value} {i : Nat} {r : (Nat → Fr) → Rw} (D : List (Bool × Bool)) (ts : List Nat) (hD : ∀ p ∈ D, p.1 = p.2)
  (h : ∀ β : Nat → Fr, tagOL D ts (evPathL E E' fuel f args args' M M' (v β) i (r β) β) = tagOR D ts (evPathL E E' fuel f args args' M M' (v β) i (r β) β)) (w : World) (hS : SG w M w) (hh : HolesOk E := by exact no_holes rfl) (ho : OphOk E := by exact no_oph rfl rfl) :
  Calls Try.prog f args.toArray w fun e w' => ∃ β : Nat → Fr, e = .returned (v β) ∧ SG w [r β] w' := by
 let K : (Nat → Fr) → KK Value := fun β q s => .ok (.eqv q (v β) :: .eqv (encM ((s.M.drop i).take 1)) (encM [r β]) :: s.acc)
 have hk : ∀ β : Nat → Fr, KeepK (K β) := fun β q s l hl hg x hx => by cases hl; exact hg x (List.mem_cons_of_mem _ (List.mem_cons_of_mem _ hx))
 have h1 := runE_ok (E := E) hP (evC_ok hP hs hh ho follows_mixed fuel) w w f args noB 0 (evHintsM E E' fuel f args args' M M') M (fun _ => []) K hk hS (fun β _ => good_tag hD ts (h β))
 refine h1.mono fun e w' ⟨q, he, γ', n', h', M2, A', hS', _, _, hgd⟩ => ?_
 have h2 := good_ok.1 (hgd γ' .refl) _ (List.mem_cons_self ..)
 have h3 := good_ok.1 (hgd γ' .refl) _ (List.mem_cons_of_mem _ (List.mem_cons_self ..))
 simp only [It.l, It.r, Lv.v.injEq] at h2 h3
 exact ⟨γ', h2 ▸ he, encM_inj h3 ▸ SG.pickL hS' i⟩
theorem sg_over {w0 w w' : World} {M : List Rw} (h : SG w0 M w) {r : Rw} (ho : r.own = true) (h2 : SG w [r] w') : SG w0 (r :: M) w' := by
 obtain ⟨fr, hr, hz⟩ := h2.row (List.mem_cons_self ..)
 rw [hz ho] at hr
 have hb := h2.1.base (ents_mem (M := [r]) (List.mem_cons_self ..) ho)
 have e : r = ⟨r.b, r.c, r.t, true⟩ := by cases r; cases ho; rfl
 rw [e]
 exact sg_lay (h.grow h2.gr) (Nat.le_trans h.gr.size hb) (fun q hq ho' => by have := sg_old h hq ho'; omega) hr
def setEnd (M L : List Rw) : List Rw := M.take (M.length - L.length) ++ L
theorem setEnd_mem {M L : List Rw} {r : Rw} (h : r ∈ L) : r ∈ setEnd M L := List.mem_append_right _ h
noncomputable def of1S (g : Rw) (q : Q) : CsF := fun f args M =>
 match Nat.beq f 8 with
 | false => none
 | true => match args with
  | [.int .i64 z] => some ⟨setEnd M [g], [decide (z = q.n)], 2, ofV q, ofL q⟩
  | _ => none
theorem of1S_ok (m : Int) (t : Gt) (q : Q) (K : Known q) : COk (of1S (gRow m t) q) := by
 intro f args M H hq hrows hpre w0 w hS
 unfold of1S at hq
 split at hq
 ·cases hq
 ·rename_i hf
  obtain rfl := Nat.eq_of_beq_eq_true hf
  split at hq
  ·cases hq
   have hz := of_decide_eq_true (hpre _ (List.mem_cons_self ..))
   subst hz
   have hm : gRow m t ∈ M := by
    have := setEnd_mem (M := M) (L := [gRow m t]) (List.mem_cons_self ..)
    simp only at hrows
    rw [← hrows] at this
    exact this
   obtain ⟨fr, hrow, _⟩ := hS.row hm
   have hc : w.cell? ⟨0, 0, none⟩ = some (.int .i64 m) := (cell_of_row w 0 0 _ _ fr hrow).trans rfl
   refine (Ins.ofd_vec q.n _ q.f q.l q.s K.lo K.hi rfl K.f K.s K.a.2 K.b.2 K.run w ⟨m, hc⟩).mono ?_
   rintro e w' ⟨vi, vo, rfl, hg, h1, h2, hd⟩
   obtain ⟨a, b, rfl, rfl, h3⟩ := sg_two hS hg h1 h2 hd K.a.1 K.b.1
   exact ⟨[a, b], rfl, by rw [K.p]; rfl, h3⟩
  ·cases hq
noncomputable def one64 (x : Int) : Nat → Int := ofK (fun _ => 0) 64 (fun _ => x) 1
theorem byt_one64 (x : Int) : Byt (one64 x) := byt_ofk _ _ _
noncomputable def num1S : CsF := fun f args M =>
 match Nat.beq f 73 with
 | false => none
 | true => match args, M with
  | [.int .i64 64, .slice (some ⟨b, 0, none⟩) 1 _], ⟨_, [.int .u64 x], t, o⟩ :: M => some ⟨⟨b, [.int .u64 x], t, o⟩ :: M, [], 0, fun _ => .agg (bs (one64 x)), fun _ => []⟩
  | _, _ => none
theorem num1S_ok : COk num1S := by
 intro f args M H hq hrows hpre w0 w hS
 unfold num1S at hq
 split at hq
 ·cases hq
 ·rename_i hf
  obtain rfl := Nat.eq_of_beq_eq_true hf
  split at hq
  ·rename_i b c b' x t o M'
   cases hq
   obtain ⟨fr, hrow, _⟩ := hS.row (List.mem_cons_self ..)
   have hb : b' = b := by simpa using hrows
   subst hb
   refine (of_any 64 (.slice (some ⟨b', 0, none⟩) 1 c) 1 (fun _ => x) w (.inr ⟨by decide, b', 0, c, rfl, fun j hj => ?_⟩)).mono fun e w' ⟨h, hg⟩ => ⟨[], rfl, h, hS.grow hg⟩
   obtain rfl : j = 0 := by omega
   exact (cell_of_row w b' 0 _ _ fr hrow).trans rfl
  ·cases hq
structure Hv where
 hb : Nat
 o : Nat
 n : Nat
 cap : Nat
 c : List Value
 t : TypeId
def Hv.row (h : Hv) : Rw := ⟨h.hb, h.c, h.t, false⟩
def Hv.v (h : Hv) : Value := .slice (some ⟨h.hb, h.o, none⟩) h.n h.cap
def Hv.Ok (h : Hv) (x : Nat → Int) : Prop := h.n ≤ 9223372036854775807 ∧ h.n ≤ h.cap ∧ ∀ j, j < h.n → h.c[h.o + j]? = some (.int .u64 (x j))
theorem Hv.u64 {h : Hv} {x : Nat → Int} (ho : h.Ok x) {w0 w : World} {M : List Rw} (hS : SG w0 M w) (hm : h.row ∈ M) : U64c w h.v h.n x := by
 obtain ⟨fr, hrow, _⟩ := hS.row hm
 refine .inr ⟨ho.1, h.hb, h.o, h.cap, ho.2.1, rfl, fun j hj => ?_⟩
 refine (cell_of_row w h.hb (h.o + j) _ _ fr hrow).trans ?_
 have := ho.2.2 j hj
 show h.c.toArray[h.o + j]? = _
 simpa using this
def tsN (l : List Int) : Nat → Int := fun j => l.getD j 0
def vecs (vs : List (Nat → Int)) : List Value := vs.flatMap fun v => (bs v).toList
structure TakOk (l : List Int) (n : Nat) (x : Nat → Int) (vs : List (Nat → Int)) : Prop where
 ok : okT (tsN l) l.length
 need : needN (tsN l) l.length = n
 len : l.length ≤ 1000
 pos : 0 < l.length
 vs : vcs (takeV (tsN l) x) l.length = vecs vs
noncomputable def takS (j : Nat) (l : List Int) (h : Hv) (E : List Rw) (vs : List (Nat → Int)) : CsF := fun f args M =>
 match Nat.beq f 32 with
 | false => none
 | true => match args with
  | [.slice (some ⟨tb, 0, none⟩) k _, .slice hp n' cap'] => match Ev.rowAt M j with
   | some r => some ⟨M.take j ++ ⟨tb, l.map (fun z => .int .i64 z) ++ r.c.drop l.length, r.t, r.own⟩ :: setEnd (M.drop (j + 1)) (h.row :: E), [Nat.beq k l.length, decide (hp = some ⟨h.hb, h.o, none⟩), decide (n' = h.n), decide (cap' = h.cap)], 1,
    fun fr => match fr with | [a] => .tuple #[.slice (some ⟨a.b, 0, none⟩) l.length (Nat.div (vecs vs ++ a.t).length 16), .int .i64 0] | _ => undef,
    fun fr => match fr with | [a] => [⟨a.b, vecs vs ++ a.t, 40, true⟩] | _ => []⟩
   | none => none
  | _ => none
theorem rowAt_eq : ∀ (M : List Rw) (j : Nat), Ev.rowAt M j = M[j]?
 | [], _ => rfl
 | _ :: _, 0 => rfl
 | _ :: M, j + 1 => rowAt_eq M j
theorem take_i64s {w0 w : World} {M : List Rw} (hS : SG w0 M w) {tb c : Nat} {l : List Int} {rest : List Value} {t : TypeId} {o : Bool} (hl : l.length ≤ 1000) (hm : (⟨tb, l.map (fun z => .int .i64 z) ++ rest, t, o⟩ : Rw) ∈ M) :
  I64s w (.slice (some ⟨tb, 0, none⟩) l.length c) l.length (tsN l) := by
 obtain ⟨fr, hrow, _⟩ := hS.row hm
 refine .inr ⟨by omega, tb, 0, c, rfl, fun j hj => ?_⟩
 rw [Nat.zero_add]
 refine (cell_of_row w tb j _ _ fr hrow).trans ?_
 show (l.map (fun z => Value.int .i64 z) ++ rest).toArray[j]? = _
 rw [List.getElem?_toArray, List.getElem?_append_left (by simpa using hj), List.getElem?_map]
 unfold tsN List.getD
 rw [List.getElem?_eq_getElem hj]
 rfl
theorem owns_fr16 {w : World} {base : Nat} {e : TypeId} {v : Value} {n : Nat} {xs : List Value} (h : w.ownsRow base e 16 v n xs) (hn : 0 < n) :
  ∃ fr : Fr, v = .slice (some ⟨fr.b, 0, none⟩) n (Nat.div (xs ++ fr.t).length 16) ∧ base ≤ fr.b ∧ w.heap[fr.b]? = some (.cells (xs ++ fr.t).toArray e (0, 0)) := by
 obtain ⟨hl, ⟨_, h0⟩ | ⟨g, cap, cur, rfl, hb, hr, h1, _, hz, ht⟩⟩ := h
 ·omega
 ·refine ⟨⟨g, fun _ => undef, cur.toList.drop (n * 16)⟩, ?_, hb, ?_⟩
  ·rw [← ht, List.take_append_drop]
   have : Nat.div cur.toList.length 16 = cap := by
    show cur.toList.length / 16 = cap
    rw [Array.length_toList, hz]
    omega
   rw [this]
  ·rw [← ht, List.take_append_drop]; exact hr
theorem takS_ok (j : Nat) (l : List Int) (h : Hv) (L : List Rw) (x : Nat → Int) (vs : List (Nat → Int)) (ho : h.Ok x) (hk : TakOk l h.n x vs) : COk (takS j l h L vs) := by
 intro f args M H hq hrows hpre w0 w hS
 unfold takS at hq
 split at hq
 ·cases hq
 ·rename_i hf
  obtain rfl := Nat.eq_of_beq_eq_true hf
  split at hq
  ·split at hq
   ·rename_i tb k c hp n' cap' _ r hr
    cases hq
    have p1 := Nat.eq_of_beq_eq_true (hpre _ (List.mem_cons_self ..))
    have p2 := of_decide_eq_true (hpre _ (List.mem_cons_of_mem _ (List.mem_cons_self ..)))
    have p3 := of_decide_eq_true (hpre _ (List.mem_cons_of_mem _ (List.mem_cons_of_mem _ (List.mem_cons_self ..))))
    have p4 := of_decide_eq_true (hpre _ (List.mem_cons_of_mem _ (List.mem_cons_of_mem _ (List.mem_cons_of_mem _ (List.mem_cons_self ..)))))
    subst p1 p2 p3 p4
    simp only at hrows
    have m1 : (⟨tb, l.map (fun z => .int .i64 z) ++ r.c.drop l.length, r.t, r.own⟩ : Rw) ∈ M := by
     rw [hrows]; exact List.mem_append_right _ (List.mem_cons_self ..)
    have m2 : h.row ∈ M := by
     rw [hrows]; exact List.mem_append_right _ (List.mem_cons_of_mem _ (setEnd_mem (List.mem_cons_self ..)))
    refine (take_any (n := l.length) (ts := tsN l) (zs := x) (by have := hk.len; omega) (take_i64s hS hk.len m1) (Hv.u64 ho hS m2)).mono ?_
    rintro e w' ⟨sv, rfl, hg, hown⟩
    rw [takX_yes ⟨hk.ok, hk.need⟩]
    rw [takN_yes ⟨hk.ok, hk.need⟩, hk.vs] at hown
    obtain ⟨a, rfl, hb, hrow⟩ := owns_fr16 hown hk.pos
    exact ⟨[a], rfl, rfl, sg_lay (hS.grow hg) (Nat.le_trans hS.gr.size hb) (fun q hq ho' => by have := sg_old hS hq ho'; omega) hrow⟩
   ·cases hq
  ·cases hq
noncomputable def takN' (j : Nat) (l : List Int) (n : Nat) : CsF := fun f args M =>
 match Nat.beq f 32 with
 | false => none
 | true => match args with
  | [.slice (some ⟨tb, 0, none⟩) k _, .slice _ n' _] => match Ev.rowAt M j with
   | some r => some ⟨M.take j ++ ⟨tb, l.map (fun z => .int .i64 z) ++ r.c.drop l.length, r.t, r.own⟩ :: M.drop (j + 1), [decide (k = l.length), decide (n' = n)], 0, fun _ => .tuple #[.slice none 0 0, .int .i64 1], fun _ => []⟩
   | none => none
  | _ => none
theorem takN_ok (j : Nat) (l : List Int) (n : Nat) (hl : l.length ≤ 1000) (hn : ¬ (okT (tsN l) l.length ∧ needN (tsN l) l.length = n)) : COk (takN' j l n) := by
 intro f args M H hq hrows hpre w0 w hS
 unfold takN' at hq
 split at hq
 ·cases hq
 ·rename_i hf
  obtain rfl := Nat.eq_of_beq_eq_true hf
  split at hq
  ·split at hq
   ·rename_i tb k c hp n' cap' _ r hr
    cases hq
    have p1 := of_decide_eq_true (hpre _ (List.mem_cons_self ..))
    have p3 := of_decide_eq_true (hpre _ (List.mem_cons_of_mem _ (List.mem_cons_self ..)))
    subst p1 p3
    simp only at hrows
    have m1 : (⟨tb, l.map (fun z => .int .i64 z) ++ r.c.drop l.length, r.t, r.own⟩ : Rw) ∈ M := by
     rw [hrows]; exact List.mem_append_right _ (List.mem_cons_self ..)
    refine (take_no _ l.length n' hp cap' (tsN l) w (by omega) (take_i64s hS hl m1) hn).mono ?_
    rintro e w' ⟨rfl, hg⟩
    exact ⟨[], rfl, rfl, hS.grow hg⟩
   ·cases hq
  ·cases hq
noncomputable def bitsV (op : Int) (vs : List (Nat → Int)) : Nat → Int :=
 let B : Nat → Nat → Int := fun k => vs.getD k (fun _ => 0)
 if op = 64845 then fun m => Cp.notB (B 0 m) else if op = 64846 then fun m => bits .and .u8 (B 0 m) (B 1 m) else if op = 64847 then fun m => bits .andNot .u8 (B 0 m) (B 1 m)
 else if op = 64848 then fun m => bits .or .u8 (B 0 m) (B 1 m) else if op = 64849 then fun m => bits .xor .u8 (B 0 m) (B 1 m)
 else fun m => bits .or .u8 (bits .and .u8 (B 0 m) (B 2 m)) (bits .andNot .u8 (B 1 m) (B 2 m))
noncomputable def bitsS (j : Nat) (op : Int) (vs : List (Nat → Int)) : CsF := fun f args M =>
 match Nat.beq f 14 with
 | false => none
 | true => match args with
  | [.int .i64 z, .slice (some ⟨b, 0, none⟩) k _] => match Ev.rowAt M j with
   | some r => some ⟨M.take j ++ ⟨b, vecs vs ++ r.c.drop (16 * vs.length), r.t, r.own⟩ :: M.drop (j + 1), [decide (z = op), Nat.beq k vs.length, decide ((vs.length : Int) = bitN op), bitN op != 0], 0, fun _ => .tuple #[.agg (bs (bitsV op vs)), .int .i64 0], fun _ => []⟩
   | none => none
  | _ => none
theorem vecs_len (vs : List (Nat → Int)) : (vecs vs).length = 16 * vs.length := by
 induction vs with
 | nil => rfl
 | cons v vs ih => 
  unfold vecs at ih ⊢
  rw [List.flatMap_cons, List.length_append, ih]
  show 16 + 16 * vs.length = 16 * (vs.length + 1)
  omega
theorem vecs_get : ∀ (vs : List (Nat → Int)) (k m : Nat), k < vs.length → m < 16 → (vecs vs)[k * 16 + m]? = some (.int .u8 ((vs.getD k (fun _ => 0)) m))
 | [], k, m, h, _ => by simp at h
 | v :: vs, k, m, h, hm => by
  have e : vecs (v :: vs) = (bs v).toList ++ vecs vs := by unfold vecs; rw [List.flatMap_cons]
  have hl : (bs v).toList.length = 16 := rfl
  rw [e]
  cases k with
  | zero =>
   rw [List.getElem?_append_left (by omega), Nat.zero_mul, Nat.zero_add, Array.getElem?_toList]
   exact bs_get _ _ hm
  | succ k =>
   rw [List.getElem?_append_right (by omega), hl, show (k + 1) * 16 + m - 16 = k * 16 + m by omega]
   have := vecs_get vs k m (by simpa using h) hm
   simpa using this
theorem bitsS_ok (j : Nat) (op : Int) (vs : List (Nat → Int)) : COk (bitsS j op vs) := by
 intro f args M H hq hrows hpre w0 w hS
 unfold bitsS at hq
 split at hq
 ·cases hq
 ·rename_i hf
  obtain rfl := Nat.eq_of_beq_eq_true hf
  split at hq
  ·split at hq
   ·rename_i z b k c _ r hr
    cases hq
    have p1 := of_decide_eq_true (hpre _ (List.mem_cons_self ..))
    have p2 := Nat.eq_of_beq_eq_true (hpre _ (List.mem_cons_of_mem _ (List.mem_cons_self ..)))
    have p3 := of_decide_eq_true (hpre _ (List.mem_cons_of_mem _ (List.mem_cons_of_mem _ (List.mem_cons_self ..))))
    have p4 := hpre _ (List.mem_cons_of_mem _ (List.mem_cons_of_mem _ (List.mem_cons_of_mem _ (List.mem_cons_self ..))))
    subst p1 p2
    simp only at hrows
    have m1 : (⟨b, vecs vs ++ r.c.drop (16 * vs.length), r.t, r.own⟩ : Rw) ∈ M := by
     rw [hrows]; exact List.mem_append_right _ (List.mem_cons_self ..)
    obtain ⟨fr, hrow, _⟩ := hS.row m1
    have hv : Cp.VecsAt w b 0 vs.length fun k => vs.getD k (fun _ => 0) := fun k hk m hm => by
     rw [Nat.zero_add]
     refine (cell_of_row w b _ _ _ fr hrow).trans ?_
     show (vecs vs ++ r.c.drop (16 * vs.length)).toArray[k * 16 + m]? = _
     have := vecs_get vs k m hk hm
     rw [List.getElem?_toArray, List.getElem?_append_left (by rw [vecs_len]; omega), this]
    have fin : ∀ {e : Ending} {w' : World}, e = .returned (.tuple #[.agg (bs (bitsV z vs)), .int .i64 0]) ∧ Gr w w' → ∃ fr : List Fr, fr.length = 0 ∧ e = .returned (.tuple #[.agg (bs (bitsV z vs)), .int .i64 0]) ∧ SG w0 ([] ++ M) w' := fun h => ⟨[], rfl, h.1, hS.grow h.2⟩
    by_cases c1 : z = 64845
    ·subst c1
     have hn : vs.length = 1 := by simp [bitN] at p3; omega
     rw [hn] at hv ⊢
     exact (Cp.bits_not b 0 c _ w hv).mono fun e w' h => fin h
    by_cases c2 : z = 64846
    ·subst c2
     have hn : vs.length = 2 := by simp [bitN] at p3; omega
     rw [hn] at hv ⊢
     exact (Cp.bits_and b 0 c _ w hv).mono fun e w' h => fin h
    by_cases c3 : z = 64847
    ·subst c3
     have hn : vs.length = 2 := by simp [bitN] at p3; omega
     rw [hn] at hv ⊢
     exact (Cp.bits_andnot b 0 c _ w hv).mono fun e w' h => fin h
    by_cases c4 : z = 64848
    ·subst c4
     have hn : vs.length = 2 := by simp [bitN] at p3; omega
     rw [hn] at hv ⊢
     exact (Cp.bits_or b 0 c _ w hv).mono fun e w' h => fin h
    by_cases c5 : z = 64849
    ·subst c5
     have hn : vs.length = 2 := by simp [bitN] at p3; omega
     rw [hn] at hv ⊢
     exact (Cp.bits_xor b 0 c _ w hv).mono fun e w' h => fin h
    by_cases c6 : z = 64850
    ·subst c6
     have hn : vs.length = 3 := by simp [bitN] at p3; omega
     rw [hn] at hv ⊢
     exact (Cp.bits_sel b 0 c _ w hv).mono fun e w' h => fin h
    ·exfalso
     unfold bitN at p4
     rw [if_neg c1, if_neg (by omega), if_neg c6] at p4
     cases p4
   ·cases hq
  ·cases hq
theorem byt_bits (op : Int) (vs : List (Nat → Int)) : Byt (bitsV op vs) := fun m => by
 unfold bitsV Cp.notB
 repeat' split
 all_goals exact bits_bd _ _ _
end Vc
end Go.Proofs.Ytjoalcaooccbiaa
/- VcDe -/
namespace Go.Proofs.Ytjoalcaooccbiaa
open Go.RowKit VecM Ev
namespace Vc
theorem bnil : ∀ x ∈ ([] : List (Nat → Int)), Byt x := fun x h => by cases h
theorem bcons {x : Nat → Int} {K : List (Nat → Int)} (h : Byt x) (h' : ∀ y ∈ K, Byt y) : ∀ y ∈ x :: K, Byt y := fun y hy => by
 rcases List.mem_cons.1 hy with rfl | hy
 ·exact h
 ·exact h' y hy
theorem byt_shfi {a b s : Nat → Int} (ha : Byt a) (hb : Byt b) (c : Bool) : Byt (if c then Mv.shV a b s else fun _ => 0) := by
 cases c
 ·exact byt0
 ·exact byt_shf ha hb
noncomputable def envD (m : Int) (t : Gt) (q : Q) (jt jb : Nat) (l : List Int) (h : Hv) (vs : List (Nat → Int)) (K : List (Nat → Int)) : Env :=
 { P := Try.prog, known := K, sum := sumD, csum := orC (of1S (gRow m t) q) (orC (takS jt l h [gRow m t] vs) (orC num1S (bitsS jb q.n vs))) }
theorem envD_ok (m : Int) (t : Gt) {q : Q} (hq : Known q) {jt jb : Nat} {l : List Int} {h : Hv} {x : Nat → Int} {vs : List (Nat → Int)} {K : List (Nat → Int)} (ho : h.Ok x) (hk : TakOk l h.n x vs) : OphOk (envD m t q jt jb l h vs K) :=
 csum_of rfl (orC_ok (of1S_ok m t q hq) (orC_ok (takS_ok jt l h _ x vs ho hk) (orC_ok num1S_ok (bitsS_ok jb q.n vs))))
noncomputable def ins (op A B L H : Int) (v : Value) : Value := .agg ⟨[.int .i64 op, .int .i64 A, .int .i64 B, .int .u64 L, .int .u64 H, v]⟩
def sH (n : Nat) : Hv := ⟨1001, 0, n, n, (List.range n).map fun (i : Nat) => Value.int .u64 (1234567890123456789 + (i : Int) * 1111111111111111), 22⟩
noncomputable def doP (m : Int) (t : Gt) (q q' : Q) (jt jb : Nat) (l : List Int) (h : Hv) (A B L H : Int) (lv : Option Addr) (ln lc : Nat) (vs vs' K K' : List (Nat → Int)) (v : (Nat → Fr) → Value) (i : Nat) (r : (Nat → Fr) → Rw) (β : Nat → Fr) : Out :=
 evPathL (envD m t q jt jb l h vs K) (envD 0 ⟨0, []⟩ q' jt jb l (sH h.n) vs' K') 400 10 [ins q.n A B L H (.slice lv ln lc), h.v] [ins q'.n 1 0 3 4 (.slice none 0 0), (sH h.n).v] [h.row, gRow m t] [(sH h.n).row, gRow 0 ⟨0, []⟩] (v β) i (r β) β
theorem do_run (m : Int) (t : Gt) (q q' : Q) (jt jb : Nat) (l : List Int) (h : Hv) (A B L H : Int) (lv : Option Addr) (ln lc : Nat) (x : Nat → Int) (vs vs' K K' : List (Nat → Int)) (v : (Nat → Fr) → Value) (i : Nat) (r : (Nat → Fr) → Rw) (D : List (Bool × Bool)) (ts : List Nat) (hD : ∀ p ∈ D, p.1 = p.2)
  (hr : ∀ β, tagOL D ts (doP m t q q' jt jb l h A B L H lv ln lc vs vs' K K' v i r β) = tagOR D ts (doP m t q q' jt jb l h A B L H lv ln lc vs vs' K K' v i r β)) (hK : ∀ x ∈ K, Byt x) (hq : Known q) (ho : h.Ok x) (hk : TakOk l h.n x vs) (w : World) (hS : SG w [h.row, gRow m t] w) :
  Calls Try.prog 10 #[ins q.n A B L H (.slice lv ln lc), h.v] w fun e w' => ∃ β : Nat → Fr, e = .returned (v β) ∧ SG w [r β] w' :=
 ev_callL (E := envD m t q jt jb l h vs K) (E' := envD 0 ⟨0, []⟩ q' jt jb l (sH h.n) vs' K') rfl (sumD_ok rfl hK) (args := [ins q.n A B L H (.slice lv ln lc), h.v]) D ts hD hr w hS (ho := envD_ok m t hq ho hk)
theorem tr_d (a D : List (Bool × Bool)) (h : ∀ p ∈ a, p.1 = p.2) (h' : ∀ p ∈ D, p.1 = p.2) : ∀ p ∈ a ++ D, p.1 = p.2 := fun p hp => by
 rcases List.mem_append.1 hp with hp | hp
 ·exact h p hp
 ·exact h' p hp
theorem tr_2 (hb o cap : Nat) : ∀ p ∈ [(decide (some (⟨hb, o, none⟩ : Addr) = some ⟨hb, o, none⟩), true), (decide (cap = cap), true)], p.1 = p.2 := fun p hp => by
 rcases List.mem_cons.1 hp with rfl | hp
 ·exact decide_eq_true rfl
 ·obtain rfl := List.mem_singleton.1 hp
  exact decide_eq_true rfl
noncomputable def err1 : Value := .tuple #[.slice none 0 0, .int .i64 1]
noncomputable def doPE (m : Int) (t : Gt) (q q' : Q) (jt jb : Nat) (l : List Int) (h : Hv) (A B L H A' L' : Int) (z : Int) (lv : Option Addr) (ln lc : Nat) (vs vs' K K' : List (Nat → Int)) (β : Nat → Fr) : Out :=
 evPathM (envD m t q jt jb l h vs K) (envD 0 ⟨0, []⟩ q' jt jb l (sH h.n) vs' K') 400 10 [ins q.n A B L H (.slice lv ln lc), h.v] [ins q'.n A' 0 L' 4 (.slice none 0 0), (sH h.n).v] [h.row, gRow m t] [(sH h.n).row, gRow 0 ⟨0, []⟩] (.tuple #[.slice none 0 0, .int .i64 z]) β
theorem do_runE (m : Int) (t : Gt) (q q' : Q) (jt jb : Nat) (l : List Int) (h : Hv) (A B L H A' L' : Int) (z : Int) (lv : Option Addr) (ln lc : Nat) (x : Nat → Int) (vs vs' K K' : List (Nat → Int)) (D : List (Bool × Bool)) (ts : List Nat) (hD : ∀ p ∈ D, p.1 = p.2)
  (hr : ∀ β, tagOL D ts (doPE m t q q' jt jb l h A B L H A' L' z lv ln lc vs vs' K K' β) = tagOR D ts (doPE m t q q' jt jb l h A B L H A' L' z lv ln lc vs vs' K K' β)) (hK : ∀ x ∈ K, Byt x) (hq : Known q) (ho : h.Ok x) (hk : TakOk l h.n x vs) (w : World) (hS : SG w [h.row, gRow m t] w) :
  Calls Try.prog 10 #[ins q.n A B L H (.slice lv ln lc), h.v] w fun e w' => e = .returned (.tuple #[.slice none 0 0, .int .i64 z]) ∧ Gr w w' :=
 ev_pathM (E := envD m t q jt jb l h vs K) (E' := envD 0 ⟨0, []⟩ q' jt jb l (sH h.n) vs' K') rfl (sumD_ok rfl hK) (args := [ins q.n A B L H (.slice lv ln lc), h.v]) D ts hD hr w hS (ho := envD_ok m t hq ho hk)
theorem nosum_ok (E : Env) (h : E.sum = fun _ _ => none) : SumOk E := fun f args cs mk hq => by rw [h] at hq; cases hq
noncomputable def envN (m : Int) (t : Gt) (q : Q) (jt : Nat) (l : List Int) (n : Nat) : Env :=
 { P := Try.prog, known := [], sum := fun _ _ => none, csum := orC (of1S (gRow m t) q) (takN' jt l n) }
theorem envN_ok (m : Int) (t : Gt) {q : Q} (hq : Known q) {jt : Nat} {l : List Int} {n : Nat} (hl : l.length ≤ 1000) (hn : ¬ (okT (tsN l) l.length ∧ needN (tsN l) l.length = n)) : OphOk (envN m t q jt l n) :=
 csum_of rfl (orC_ok (of1S_ok m t q hq) (takN_ok jt l n hl hn))
noncomputable def doPN (m : Int) (t : Gt) (q q' : Q) (jt : Nat) (l : List Int) (n : Nat) (A B L H : Int) (lv hp : Option Addr) (ln lc cap : Nat) (β : Nat → Fr) : Out :=
 evPathM (envN m t q jt l n) (envN 0 ⟨0, []⟩ q' jt l 9) 400 10 [ins q.n A B L H (.slice lv ln lc), .slice hp n cap] [ins q'.n 1 0 3 4 (.slice none 0 0), .slice none 9 9] [gRow m t] [gRow 0 ⟨0, []⟩] err1 β
theorem do_runN (m : Int) (t : Gt) (q q' : Q) (jt : Nat) (l : List Int) (n : Nat) (A B L H : Int) (lv hp : Option Addr) (ln lc cap : Nat) (D : List (Bool × Bool)) (ts : List Nat) (hD : ∀ p ∈ D, p.1 = p.2)
  (hr : ∀ β, tagOL D ts (doPN m t q q' jt l n A B L H lv hp ln lc cap β) = tagOR D ts (doPN m t q q' jt l n A B L H lv hp ln lc cap β)) (hq : Known q) (hl : l.length ≤ 1000) (hn : ¬ (okT (tsN l) l.length ∧ needN (tsN l) l.length = n)) (w : World) (hS : SG w [gRow m t] w) :
  Calls Try.prog 10 #[ins q.n A B L H (.slice lv ln lc), .slice hp n cap] w fun e w' => e = .returned err1 ∧ Gr w w' :=
 ev_pathM (E := envN m t q jt l n) (E' := envN 0 ⟨0, []⟩ q' jt l 9) rfl (nosum_ok _ rfl) (args := [ins q.n A B L H (.slice lv ln lc), .slice hp n cap]) D ts hD hr w hS (ho := envN_ok m t hq hl hn)
def ptr0 (a : Fr) : Option Addr := match a.x 0 with | .bool true => none | _ => some ⟨a.b, 0, none⟩
theorem owns_ptr {w : World} {base : Nat} {e : TypeId} {v : Value} {n : Nat} {xs : List Value} {size : Nat} (h : w.ownsRow base e size v n xs) : ∃ a : Fr, v = .slice (ptr0 a) n a.t.length := by
 obtain ⟨hl, ⟨rfl, rfl⟩ | ⟨g, cap, cur, rfl, hb, hr, h1, _, hz, ht⟩⟩ := h
 ·exact ⟨⟨0, fun _ => .bool true, []⟩, rfl⟩
 ·exact ⟨⟨g, fun _ => .bool false, List.replicate cap undef⟩, by simp [ptr0]⟩
noncomputable def ofPV (q : Q) : List Fr → Value
 | [a, b] => .tuple #[.agg (Ins.inf q.f q.l (Ins.cutP q.s) (.slice (ptr0 a) (Ins.cutA q.s).size a.t.length) (.slice (ptr0 b) (Ins.cutB q.s).size b.t.length)), .bool true]
 | _ => undef
noncomputable def ofPS (g : Rw) (q : Q) : CsF := fun f args M =>
 match Nat.beq f 8 with
 | false => none
 | true => match args with
  | [.int .i64 z] => some ⟨setEnd M [g], [decide (z = q.n)], 2, ofPV q, fun _ => []⟩
  | _ => none
structure KnownP (q : Q) : Prop where
 f : (q.f == 0) = false
 s : q.s.size < 1000
 a : (Ins.cutA q.s).size ≤ 1000
 b : (Ins.cutB q.s).size ≤ 1000
 run : (64768 ≤ q.n ∧ q.n - 64768 ≤ 9223372036854775807 ∧ ∀ w, Calls Try.prog 27 #[.int .i64 (q.n - 64768)] w (Ins.RES q.f q.l q.s w)) ∨ (q.n < 64768 ∧ ∀ w, Calls Try.prog 28 #[.int .i64 q.n] w (Ins.RES q.f q.l q.s w))
theorem ofPS_ok (m : Int) (t : Gt) (q : Q) (K : KnownP q) : COk (ofPS (gRow m t) q) := by
 intro f args M H hq hrows hpre w0 w hS
 unfold ofPS at hq
 split at hq
 ·cases hq
 ·rename_i hf
  obtain rfl := Nat.eq_of_beq_eq_true hf
  split at hq
  ·cases hq
   have hz := of_decide_eq_true (hpre _ (List.mem_cons_self ..))
   subst hz
   have hm : gRow m t ∈ M := by
    have := setEnd_mem (M := M) (L := [gRow m t]) (List.mem_cons_self ..)
    simp only at hrows
    rw [← hrows] at this
    exact this
   obtain ⟨fr, hrow, _⟩ := hS.row hm
   have hc : w.cell? ⟨0, 0, none⟩ = some (.int .i64 m) := (cell_of_row w 0 0 _ _ fr hrow).trans rfl
   rcases K.run with ⟨h1, h2, h3⟩ | ⟨h1, h3⟩
   ·refine (Ins.of_vec q.n _ q.f q.l q.s h1 h2 rfl K.f K.s K.a K.b h3 w ⟨m, hc⟩).mono ?_
    rintro e w' ⟨vi, vo, rfl, hg, h1, h2⟩
    obtain ⟨a, rfl⟩ := owns_ptr h1
    obtain ⟨b, rfl⟩ := owns_ptr h2
    exact ⟨[a, b], rfl, rfl, hS.grow hg⟩
   ·refine (Ins.of_sca q.n q.f q.l q.s h1 K.f K.s K.a K.b h3 w ⟨m, hc⟩).mono ?_
    rintro e w' ⟨vi, vo, rfl, hg, h1, h2⟩
    obtain ⟨a, rfl⟩ := owns_ptr h1
    obtain ⟨b, rfl⟩ := owns_ptr h2
    exact ⟨[a, b], rfl, rfl, hS.grow hg⟩
  ·cases hq
noncomputable def ofUS (op : Int) : CsF := fun f args M =>
 match Nat.beq f 8 with
 | false => none
 | true => match args with
  | [.int .i64 z] => some ⟨M, [decide (z = op)], 0, fun _ => .tuple #[.agg (Ins.inf 0 0 false (.slice none 0 0) (.slice none 0 0)), .bool false], fun _ => []⟩
  | _ => none
def Unknown (op : Int) : Prop := (64768 ≤ op ∧ op - 64768 ≤ 9223372036854775807 ∧ ∃ l s, ∀ w, Calls Try.prog 27 #[.int .i64 (op - 64768)] w (Ins.RES 0 l s w)) ∨ (op < 64768 ∧ ∃ l s, ∀ w, Calls Try.prog 28 #[.int .i64 op] w (Ins.RES 0 l s w))
theorem ofUS_ok (op : Int) (K : Unknown op) : COk (ofUS op) := by
 intro f args M H hq hrows hpre w0 w hS
 unfold ofUS at hq
 split at hq
 ·cases hq
 ·rename_i hf
  obtain rfl := Nat.eq_of_beq_eq_true hf
  split at hq
  ·cases hq
   have hz := of_decide_eq_true (hpre _ (List.mem_cons_self ..))
   subst hz
   rcases K with ⟨h1, h2, l, s, h3⟩ | ⟨h1, l, s, h3⟩
   ·refine (Ins.of_vec0 _ _ l s h1 h2 rfl h3 w).mono ?_
    rintro e w' ⟨rfl, hg⟩
    exact ⟨[], rfl, rfl, hS.grow hg⟩
   ·refine (Ins.of_sca0 _ l s h1 h3 w).mono ?_
    rintro e w' ⟨rfl, hg⟩
    exact ⟨[], rfl, rfl, hS.grow hg⟩
  ·cases hq
theorem tr_3 (op : Int) (n : Nat) (h : 64768 ≤ op) : ∀ p ∈ [(decide (op = op), true), (decide (op < 64768), false), (decide (n = n), true)], p.1 = p.2 := fun p hp => by
 rcases List.mem_cons.1 hp with rfl | hp
 ·exact decide_eq_true rfl
 ·rcases List.mem_cons.1 hp with rfl | hp
  ·exact decide_eq_false (by show ¬ op < 64768; omega)
  ·obtain rfl := List.mem_singleton.1 hp
   exact decide_eq_true rfl
theorem bs_low (x : Int) : bs (setI (fun _ => 0) 32 0 x) = bs (low32 (x % 4294967296)) := low32_eq x _ rfl
theorem vcs1 (f : Nat → Nat → Int) : vcs f 1 = vecs [f 0] := rfl
theorem vcs2 (f : Nat → Nat → Int) : vcs f 2 = vecs [f 0, f 1] := rfl
theorem vcs3 (f : Nat → Nat → Int) : vcs f 3 = vecs [f 0, f 1, f 2] := rfl
theorem vecs_one {a a' : Nat → Int} (h : bs a = bs a') : vecs [a] = vecs [a'] :=
 congrArg (fun z : Array Value => z.toList ++ []) h
theorem vecs_two {a b a' b' : Nat → Int} (h : bs a = bs a') (h' : bs b = bs b') : vecs [a, b] = vecs [a', b'] := by
 have e : ∀ z u z' u' : Array Value, z = z' → u = u' → z.toList ++ (u.toList ++ []) = z'.toList ++ (u'.toList ++ []) := fun z u z' u' h h' => by rw [h, h']
 exact e _ _ _ _ h h'
theorem tk_v (x : Nat → Int) : TakOk [123] 2 x [both64 (x 0) (x 1)] := ⟨by decide, by decide, by decide, by decide, (vcs1 _).trans (vecs_one rfl)⟩
theorem tk_i (x : Nat → Int) : TakOk [127] 1 x [low32 (x 0 % 4294967296)] := ⟨by decide, by decide, by decide, by decide, (vcs1 _).trans (vecs_one (bs_low (x 0)))⟩
theorem tk_l (x : Nat → Int) : TakOk [126] 1 x [one64 (x 0)] := ⟨by decide, by decide, by decide, by decide, (vcs1 _).trans (vecs_one rfl)⟩
theorem tk_vv (x : Nat → Int) : TakOk [123, 123] 4 x [both64 (x 0) (x 1), both64 (x 2) (x 3)] := ⟨by decide, by decide, by decide, by decide, (vcs2 _).trans (vecs_two rfl rfl)⟩
theorem tk_vi (x : Nat → Int) : TakOk [123, 127] 3 x [both64 (x 0) (x 1), low32 (x 2 % 4294967296)] := ⟨by decide, by decide, by decide, by decide, (vcs2 _).trans (vecs_two rfl (bs_low (x 2)))⟩
theorem tk_vl (x : Nat → Int) : TakOk [123, 126] 3 x [both64 (x 0) (x 1), one64 (x 2)] := ⟨by decide, by decide, by decide, by decide, (vcs2 _).trans (vecs_two rfl rfl)⟩
theorem tk_vvv (x : Nat → Int) : TakOk [123, 123, 123] 6 x [both64 (x 0) (x 1), both64 (x 2) (x 3), both64 (x 4) (x 5)] := ⟨by decide, by decide, by decide, by decide, vcs3 _⟩
end Vc
end Go.Proofs.Ytjoalcaooccbiaa
/- VcDo0 -/
namespace Go.Proofs.Ytjoalcaooccbiaa
open Go.RowKit VecM Ev
namespace Vc
noncomputable def o_shfbad (_op : Int) : List (Bool × Bool) := []
noncomputable def d_shfbad (op _A L H : Int) (_x : Nat → Int) : List (Bool × Bool) := o_shfbad op ++ [((if okS (both64 L H) = true then (0 : Int) else 1) != 0, true)]
def t_shfbad : List Nat := [3,0,0,0,2,0,1,0,0,0,0,0,0,0,0,0,0,0,0,0,0,0]
set_option maxRecDepth 100000 in
theorem do_shfbad (m : Int) (t : Gt) (l A B L H : Int) (lv : Option Addr) (ln lc hb o cap : Nat) (hc : List Value) (ht : TypeId) (x : Nat → Int) (K : Known ⟨64781, 12, l, ⟨#[118, 118, 58, 118]⟩⟩) (ho : Hv.Ok ⟨hb, o, 4, cap, hc, ht⟩ x) (hD : ∀ p ∈ d_shfbad 64781 A L H x, p.1 = p.2) (w : World) (hS : SG w [Hv.row ⟨hb, o, 4, cap, hc, ht⟩, gRow m t] w) :
  Calls Try.prog 10 #[ins 64781 A B L H (.slice lv ln lc), Hv.v ⟨hb, o, 4, cap, hc, ht⟩] w fun e w' => e = .returned (.tuple #[.slice none 0 0, .int .i64 (if okS (both64 L H) = true then 0 else 1)]) ∧ Gr w w' :=
 do_runE m t ⟨64781, 12, l, ⟨#[118, 118, 58, 118]⟩⟩ ⟨64781, 12, 0, ⟨#[118, 118, 58, 118]⟩⟩ 2 0 [123, 123] ⟨hb, o, 4, cap, hc, ht⟩ A B L H 1 40 (if okS (both64 L H) = true then 0 else 1) lv ln lc x [both64 (x 0) (x 1), both64 (x 2) (x 3)] [both64 1234567890123456789 1235679001234567900, both64 1236790112345679011 1237901223456790122] [both64 (x 0) (x 1), both64 (x 2) (x 3), both64 L H] [both64 1234567890123456789 1235679001234567900, both64 1236790112345679011 1237901223456790122, both64 40 4] ([(decide (some (⟨hb, o, none⟩ : Addr) = some ⟨hb, o, none⟩), true), (decide (cap = cap), true)] ++ d_shfbad 64781 A L H x) t_shfbad (tr_d _ _ (tr_2 hb o cap) hD) (fun β => by kernel_rfl) (by repeat' (first | exact bnil | exact byt_both _ _ | exact byt_low32 _ | exact byt_one64 _ | refine bcons ?_ ?_)) K ho (tk_vv x) w hS
noncomputable def o_exibad (op : Int) : List (Bool × Bool) := [(decide (op = op), true), (decide (op < 64768), false), (op == 64780, false), (op == 64781, false), (op == 64782, false), (inI op, true), (Mv.spW op != 0, false)]
noncomputable def d_exibad (op A _L _H : Int) (_x : Nat → Int) : List (Bool × Bool) := o_exibad op ++ [(inI A, true), ((if thereB (Mv.exW op) A = true then (0 : Int) else 1) != 0, true)]
def t_exibad : List Nat := [11,10,0,0,0,0,0,0,9,8,7,6,5,0,2,0,1,0,0,0,0,0,0,0,4,4,4,4,0,0,0,3]
set_option maxRecDepth 100000 in
theorem do_exibad (m : Int) (t : Gt) (op l A B L H : Int) (lv : Option Addr) (ln lc hb o cap : Nat) (hc : List Value) (ht : TypeId) (x : Nat → Int) (K : Known ⟨op, 13, l, ⟨#[118, 58, 105]⟩⟩) (ho : Hv.Ok ⟨hb, o, 2, cap, hc, ht⟩ x) (hD : ∀ p ∈ d_exibad op A L H x, p.1 = p.2) (w : World) (hS : SG w [Hv.row ⟨hb, o, 2, cap, hc, ht⟩, gRow m t] w) :
  Calls Try.prog 10 #[ins op A B L H (.slice lv ln lc), Hv.v ⟨hb, o, 2, cap, hc, ht⟩] w fun e w' => e = .returned (.tuple #[.slice none 0 0, .int .i64 (if thereB (Mv.exW op) A = true then 0 else 1)]) ∧ Gr w w' :=
 do_runE m t ⟨op, 13, l, ⟨#[118, 58, 105]⟩⟩ ⟨64789, 13, 0, ⟨#[118, 58, 105]⟩⟩ 2 0 [123] ⟨hb, o, 2, cap, hc, ht⟩ A B L H 99 3 (if thereB (Mv.exW op) A = true then 0 else 1) lv ln lc x [both64 (x 0) (x 1)] [both64 1234567890123456789 1235679001234567900] [both64 (x 0) (x 1)] [both64 1234567890123456789 1235679001234567900] ([(decide (some (⟨hb, o, none⟩ : Addr) = some ⟨hb, o, none⟩), true), (decide (cap = cap), true)] ++ d_exibad op A L H x) t_exibad (tr_d _ _ (tr_2 hb o cap) hD) (fun β => by kernel_rfl) (by repeat' (first | exact bnil | exact byt_both _ _ | exact byt_low32 _ | exact byt_one64 _ | refine bcons ?_ ?_)) K ho (tk_v x) w hS
noncomputable def o_exlbad (_op : Int) : List (Bool × Bool) := []
noncomputable def d_exlbad (op A _L _H : Int) (_x : Nat → Int) : List (Bool × Bool) := o_exlbad op ++ [(inI A, true), ((if thereB (Mv.exW 64797) A = true then (0 : Int) else 1) != 0, true)]
def t_exlbad : List Nat := [4,3,0,0,0,0,0,0,0,0,0,0,0,0,2,0,1,0,0,0,0,0,0,0,0,0,0,0,0,0,0,0]
set_option maxRecDepth 100000 in
theorem do_exlbad (m : Int) (t : Gt) (l A B L H : Int) (lv : Option Addr) (ln lc hb o cap : Nat) (hc : List Value) (ht : TypeId) (x : Nat → Int) (K : Known ⟨64797, 13, l, ⟨#[118, 58, 108]⟩⟩) (ho : Hv.Ok ⟨hb, o, 2, cap, hc, ht⟩ x) (hD : ∀ p ∈ d_exlbad 64797 A L H x, p.1 = p.2) (w : World) (hS : SG w [Hv.row ⟨hb, o, 2, cap, hc, ht⟩, gRow m t] w) :
  Calls Try.prog 10 #[ins 64797 A B L H (.slice lv ln lc), Hv.v ⟨hb, o, 2, cap, hc, ht⟩] w fun e w' => e = .returned (.tuple #[.slice none 0 0, .int .i64 (if thereB (Mv.exW 64797) A = true then 0 else 1)]) ∧ Gr w w' :=
 do_runE m t ⟨64797, 13, l, ⟨#[118, 58, 108]⟩⟩ ⟨64797, 13, 0, ⟨#[118, 58, 108]⟩⟩ 2 0 [123] ⟨hb, o, 2, cap, hc, ht⟩ A B L H 99 3 (if thereB (Mv.exW 64797) A = true then 0 else 1) lv ln lc x [both64 (x 0) (x 1)] [both64 1234567890123456789 1235679001234567900] [both64 (x 0) (x 1)] [both64 1234567890123456789 1235679001234567900] ([(decide (some (⟨hb, o, none⟩ : Addr) = some ⟨hb, o, none⟩), true), (decide (cap = cap), true)] ++ d_exlbad 64797 A L H x) t_exlbad (tr_d _ _ (tr_2 hb o cap) hD) (fun β => by kernel_rfl) (by repeat' (first | exact bnil | exact byt_both _ _ | exact byt_low32 _ | exact byt_one64 _ | refine bcons ?_ ?_)) K ho (tk_v x) w hS
noncomputable def o_reibad (op : Int) : List (Bool × Bool) := [(decide (op = op), true), (decide (op < 64768), false), (op == 64780, false), (op == 64781, false), (op == 64782, false), (inI op, true), (Mv.spW op != 0, false)]
noncomputable def d_reibad (op A _L _H : Int) (_x : Nat → Int) : List (Bool × Bool) := o_reibad op ++ [(decide (-9223372036854775808 ≤ A), true), (decide (A ≤ 9223372036854775807), true), ((if thereB (Mv.reW op) A = true then (0 : Int) else 1) != 0, true)]
def t_reibad : List Nat := [12,11,10,0,0,0,0,0,9,8,7,6,5,0,2,0,1,0,0,0,0,0,0,0,4,4,4,4,0,0,0,3]
set_option maxRecDepth 100000 in
theorem do_reibad (m : Int) (t : Gt) (op l A B L H : Int) (lv : Option Addr) (ln lc hb o cap : Nat) (hc : List Value) (ht : TypeId) (x : Nat → Int) (K : Known ⟨op, 13, l, ⟨#[118, 105, 58, 118]⟩⟩) (ho : Hv.Ok ⟨hb, o, 3, cap, hc, ht⟩ x) (hD : ∀ p ∈ d_reibad op A L H x, p.1 = p.2) (w : World) (hS : SG w [Hv.row ⟨hb, o, 3, cap, hc, ht⟩, gRow m t] w) :
  Calls Try.prog 10 #[ins op A B L H (.slice lv ln lc), Hv.v ⟨hb, o, 3, cap, hc, ht⟩] w fun e w' => e = .returned (.tuple #[.slice none 0 0, .int .i64 (if thereB (Mv.reW op) A = true then 0 else 1)]) ∧ Gr w w' :=
 do_runE m t ⟨op, 13, l, ⟨#[118, 105, 58, 118]⟩⟩ ⟨64791, 13, 0, ⟨#[118, 105, 58, 118]⟩⟩ 2 0 [123, 127] ⟨hb, o, 3, cap, hc, ht⟩ A B L H 99 3 (if thereB (Mv.reW op) A = true then 0 else 1) lv ln lc x [both64 (x 0) (x 1), low32 ((x 2) % 4294967296)] [both64 1234567890123456789 1235679001234567900, low32 (1236790112345679011 % 4294967296)] [both64 (x 0) (x 1), low32 ((x 2) % 4294967296)] [both64 1234567890123456789 1235679001234567900, low32 (1236790112345679011 % 4294967296)] ([(decide (some (⟨hb, o, none⟩ : Addr) = some ⟨hb, o, none⟩), true), (decide (cap = cap), true)] ++ d_reibad op A L H x) t_reibad (tr_d _ _ (tr_2 hb o cap) hD) (fun β => by kernel_rfl) (by repeat' (first | exact bnil | exact byt_both _ _ | exact byt_low32 _ | exact byt_one64 _ | refine bcons ?_ ?_)) K ho (tk_vi x) w hS
noncomputable def o_relbad (_op : Int) : List (Bool × Bool) := []
noncomputable def d_relbad (op A _L _H : Int) (_x : Nat → Int) : List (Bool × Bool) := o_relbad op ++ [(decide (-9223372036854775808 ≤ A), true), (decide (A ≤ 9223372036854775807), true), ((if thereB (Mv.reW 64798) A = true then (0 : Int) else 1) != 0, true)]
def t_relbad : List Nat := [5,4,3,0,0,0,0,0,0,0,0,0,0,0,2,0,1,0,0,0,0,0,0,0,0,0,0,0,0,0,0,0]
set_option maxRecDepth 100000 in
theorem do_relbad (m : Int) (t : Gt) (l A B L H : Int) (lv : Option Addr) (ln lc hb o cap : Nat) (hc : List Value) (ht : TypeId) (x : Nat → Int) (K : Known ⟨64798, 13, l, ⟨#[118, 108, 58, 118]⟩⟩) (ho : Hv.Ok ⟨hb, o, 3, cap, hc, ht⟩ x) (hD : ∀ p ∈ d_relbad 64798 A L H x, p.1 = p.2) (w : World) (hS : SG w [Hv.row ⟨hb, o, 3, cap, hc, ht⟩, gRow m t] w) :
  Calls Try.prog 10 #[ins 64798 A B L H (.slice lv ln lc), Hv.v ⟨hb, o, 3, cap, hc, ht⟩] w fun e w' => e = .returned (.tuple #[.slice none 0 0, .int .i64 (if thereB (Mv.reW 64798) A = true then 0 else 1)]) ∧ Gr w w' :=
 do_runE m t ⟨64798, 13, l, ⟨#[118, 108, 58, 118]⟩⟩ ⟨64798, 13, 0, ⟨#[118, 108, 58, 118]⟩⟩ 2 0 [123, 126] ⟨hb, o, 3, cap, hc, ht⟩ A B L H 99 3 (if thereB (Mv.reW 64798) A = true then 0 else 1) lv ln lc x [both64 (x 0) (x 1), one64 (x 2)] [both64 1234567890123456789 1235679001234567900, one64 1236790112345679011] [both64 (x 0) (x 1), one64 (x 2)] [both64 1234567890123456789 1235679001234567900, one64 1236790112345679011] ([(decide (some (⟨hb, o, none⟩ : Addr) = some ⟨hb, o, none⟩), true), (decide (cap = cap), true)] ++ d_relbad 64798 A L H x) t_relbad (tr_d _ _ (tr_2 hb o cap) hD) (fun β => by kernel_rfl) (by repeat' (first | exact bnil | exact byt_both _ _ | exact byt_low32 _ | exact byt_one64 _ | refine bcons ?_ ?_)) K ho (tk_vl x) w hS
def t_no_v_v_1 : List Nat := [0,3,0,0,0,0,0,0,0,2,2,2,2,0,0,0,1]
set_option maxRecDepth 100000 in
theorem do_no_v_v_1 (m : Int) (t : Gt) (op l A B L H : Int) (lv hp : Option Addr) (ln lc n cap : Nat) (K : Known ⟨op, 1, l, ⟨#[118, 58, 118]⟩⟩) (hn : n ≠ 2) (w : World) (hS : SG w [gRow m t] w) :
  Calls Try.prog 10 #[ins op A B L H (.slice lv ln lc), .slice hp n cap] w fun e w' => e = .returned err1 ∧ Gr w w' :=
 do_runN m t ⟨op, 1, l, ⟨#[118, 58, 118]⟩⟩ ⟨64865, 1, 0, ⟨#[118, 58, 118]⟩⟩ 2 [123] n A B L H lv hp ln lc cap [(decide (op = op), true), (decide (op < 64768), false), (decide (n = n), true)] t_no_v_v_1 (tr_3 op n K.lo) (fun β => by kernel_rfl) K (by decide) (fun h => hn (h.2 ▸ by decide)) w hS
def t_no_vv_v_1 : List Nat := [0,3,0,0,0,0,0,0,0,2,2,2,2,0,0,0,1]
set_option maxRecDepth 100000 in
theorem do_no_vv_v_1 (m : Int) (t : Gt) (op l A B L H : Int) (lv hp : Option Addr) (ln lc n cap : Nat) (K : Known ⟨op, 1, l, ⟨#[118, 118, 58, 118]⟩⟩) (hn : n ≠ 4) (w : World) (hS : SG w [gRow m t] w) :
  Calls Try.prog 10 #[ins op A B L H (.slice lv ln lc), .slice hp n cap] w fun e w' => e = .returned err1 ∧ Gr w w' :=
 do_runN m t ⟨op, 1, l, ⟨#[118, 118, 58, 118]⟩⟩ ⟨64846, 1, 0, ⟨#[118, 118, 58, 118]⟩⟩ 2 [123, 123] n A B L H lv hp ln lc cap [(decide (op = op), true), (decide (op < 64768), false), (decide (n = n), true)] t_no_vv_v_1 (tr_3 op n K.lo) (fun β => by kernel_rfl) K (by decide) (fun h => hn (h.2 ▸ by decide)) w hS
def t_no_vvv_v_1 : List Nat := [0,3,0,0,0,0,0,0,0,2,2,2,2,0,0,0,1]
set_option maxRecDepth 100000 in
theorem do_no_vvv_v_1 (m : Int) (t : Gt) (op l A B L H : Int) (lv hp : Option Addr) (ln lc n cap : Nat) (K : Known ⟨op, 1, l, ⟨#[118, 118, 118, 58, 118]⟩⟩) (hn : n ≠ 6) (w : World) (hS : SG w [gRow m t] w) :
  Calls Try.prog 10 #[ins op A B L H (.slice lv ln lc), .slice hp n cap] w fun e w' => e = .returned err1 ∧ Gr w w' :=
 do_runN m t ⟨op, 1, l, ⟨#[118, 118, 118, 58, 118]⟩⟩ ⟨64850, 1, 0, ⟨#[118, 118, 118, 58, 118]⟩⟩ 2 [123, 123, 123] n A B L H lv hp ln lc cap [(decide (op = op), true), (decide (op < 64768), false), (decide (n = n), true)] t_no_vvv_v_1 (tr_3 op n K.lo) (fun β => by kernel_rfl) K (by decide) (fun h => hn (h.2 ▸ by decide)) w hS
def t_no_v_i_1 : List Nat := [0,3,0,0,0,0,0,0,0,2,2,2,2,0,0,0,1]
set_option maxRecDepth 100000 in
theorem do_no_v_i_1 (m : Int) (t : Gt) (op l A B L H : Int) (lv hp : Option Addr) (ln lc n cap : Nat) (K : Known ⟨op, 1, l, ⟨#[118, 58, 105]⟩⟩) (hn : n ≠ 2) (w : World) (hS : SG w [gRow m t] w) :
  Calls Try.prog 10 #[ins op A B L H (.slice lv ln lc), .slice hp n cap] w fun e w' => e = .returned err1 ∧ Gr w w' :=
 do_runN m t ⟨op, 1, l, ⟨#[118, 58, 105]⟩⟩ ⟨64868, 1, 0, ⟨#[118, 58, 105]⟩⟩ 2 [123] n A B L H lv hp ln lc cap [(decide (op = op), true), (decide (op < 64768), false), (decide (n = n), true)] t_no_v_i_1 (tr_3 op n K.lo) (fun β => by kernel_rfl) K (by decide) (fun h => hn (h.2 ▸ by decide)) w hS
def t_no_v_i_13 : List Nat := [0,3,0,0,0,0,0,0,0,2,2,2,2,0,0,0,1]
set_option maxRecDepth 100000 in
theorem do_no_v_i_13 (m : Int) (t : Gt) (op l A B L H : Int) (lv hp : Option Addr) (ln lc n cap : Nat) (K : Known ⟨op, 13, l, ⟨#[118, 58, 105]⟩⟩) (hn : n ≠ 2) (w : World) (hS : SG w [gRow m t] w) :
  Calls Try.prog 10 #[ins op A B L H (.slice lv ln lc), .slice hp n cap] w fun e w' => e = .returned err1 ∧ Gr w w' :=
 do_runN m t ⟨op, 13, l, ⟨#[118, 58, 105]⟩⟩ ⟨64789, 13, 0, ⟨#[118, 58, 105]⟩⟩ 2 [123] n A B L H lv hp ln lc cap [(decide (op = op), true), (decide (op < 64768), false), (decide (n = n), true)] t_no_v_i_13 (tr_3 op n K.lo) (fun β => by kernel_rfl) K (by decide) (fun h => hn (h.2 ▸ by decide)) w hS
def t_no_v_l_13 : List Nat := [0,3,0,0,0,0,0,0,0,2,2,2,2,0,0,0,1]
set_option maxRecDepth 100000 in
theorem do_no_v_l_13 (m : Int) (t : Gt) (op l A B L H : Int) (lv hp : Option Addr) (ln lc n cap : Nat) (K : Known ⟨op, 13, l, ⟨#[118, 58, 108]⟩⟩) (hn : n ≠ 2) (w : World) (hS : SG w [gRow m t] w) :
  Calls Try.prog 10 #[ins op A B L H (.slice lv ln lc), .slice hp n cap] w fun e w' => e = .returned err1 ∧ Gr w w' :=
 do_runN m t ⟨op, 13, l, ⟨#[118, 58, 108]⟩⟩ ⟨64797, 13, 0, ⟨#[118, 58, 108]⟩⟩ 2 [123] n A B L H lv hp ln lc cap [(decide (op = op), true), (decide (op < 64768), false), (decide (n = n), true)] t_no_v_l_13 (tr_3 op n K.lo) (fun β => by kernel_rfl) K (by decide) (fun h => hn (h.2 ▸ by decide)) w hS
def t_no_vi_v_13 : List Nat := [0,3,0,0,0,0,0,0,0,2,2,2,2,0,0,0,1]
set_option maxRecDepth 100000 in
theorem do_no_vi_v_13 (m : Int) (t : Gt) (op l A B L H : Int) (lv hp : Option Addr) (ln lc n cap : Nat) (K : Known ⟨op, 13, l, ⟨#[118, 105, 58, 118]⟩⟩) (hn : n ≠ 3) (w : World) (hS : SG w [gRow m t] w) :
  Calls Try.prog 10 #[ins op A B L H (.slice lv ln lc), .slice hp n cap] w fun e w' => e = .returned err1 ∧ Gr w w' :=
 do_runN m t ⟨op, 13, l, ⟨#[118, 105, 58, 118]⟩⟩ ⟨64791, 13, 0, ⟨#[118, 105, 58, 118]⟩⟩ 2 [123, 127] n A B L H lv hp ln lc cap [(decide (op = op), true), (decide (op < 64768), false), (decide (n = n), true)] t_no_vi_v_13 (tr_3 op n K.lo) (fun β => by kernel_rfl) K (by decide) (fun h => hn (h.2 ▸ by decide)) w hS
def t_no_vl_v_13 : List Nat := [0,3,0,0,0,0,0,0,0,2,2,2,2,0,0,0,1]
set_option maxRecDepth 100000 in
theorem do_no_vl_v_13 (m : Int) (t : Gt) (op l A B L H : Int) (lv hp : Option Addr) (ln lc n cap : Nat) (K : Known ⟨op, 13, l, ⟨#[118, 108, 58, 118]⟩⟩) (hn : n ≠ 3) (w : World) (hS : SG w [gRow m t] w) :
  Calls Try.prog 10 #[ins op A B L H (.slice lv ln lc), .slice hp n cap] w fun e w' => e = .returned err1 ∧ Gr w w' :=
 do_runN m t ⟨op, 13, l, ⟨#[118, 108, 58, 118]⟩⟩ ⟨64798, 13, 0, ⟨#[118, 108, 58, 118]⟩⟩ 2 [123, 126] n A B L H lv hp ln lc cap [(decide (op = op), true), (decide (op < 64768), false), (decide (n = n), true)] t_no_vl_v_13 (tr_3 op n K.lo) (fun β => by kernel_rfl) K (by decide) (fun h => hn (h.2 ▸ by decide)) w hS
def t_no_vi_v_1 : List Nat := [0,3,0,0,0,0,0,0,0,2,2,2,2,0,0,0,1]
set_option maxRecDepth 100000 in
theorem do_no_vi_v_1 (m : Int) (t : Gt) (op l A B L H : Int) (lv hp : Option Addr) (ln lc n cap : Nat) (K : Known ⟨op, 1, l, ⟨#[118, 105, 58, 118]⟩⟩) (hn : n ≠ 3) (w : World) (hS : SG w [gRow m t] w) :
  Calls Try.prog 10 #[ins op A B L H (.slice lv ln lc), .slice hp n cap] w fun e w' => e = .returned err1 ∧ Gr w w' :=
 do_runN m t ⟨op, 1, l, ⟨#[118, 105, 58, 118]⟩⟩ ⟨64875, 1, 0, ⟨#[118, 105, 58, 118]⟩⟩ 2 [123, 127] n A B L H lv hp ln lc cap [(decide (op = op), true), (decide (op < 64768), false), (decide (n = n), true)] t_no_vi_v_1 (tr_3 op n K.lo) (fun β => by kernel_rfl) K (by decide) (fun h => hn (h.2 ▸ by decide)) w hS
def t_no_vv_v_12 : List Nat := [0,3,0,0,0,0,0,0,0,2,2,2,2,0,0,0,1]
set_option maxRecDepth 100000 in
theorem do_no_vv_v_12 (m : Int) (t : Gt) (op l A B L H : Int) (lv hp : Option Addr) (ln lc n cap : Nat) (K : Known ⟨op, 12, l, ⟨#[118, 118, 58, 118]⟩⟩) (hn : n ≠ 4) (w : World) (hS : SG w [gRow m t] w) :
  Calls Try.prog 10 #[ins op A B L H (.slice lv ln lc), .slice hp n cap] w fun e w' => e = .returned err1 ∧ Gr w w' :=
 do_runN m t ⟨op, 12, l, ⟨#[118, 118, 58, 118]⟩⟩ ⟨64781, 12, 0, ⟨#[118, 118, 58, 118]⟩⟩ 2 [123, 123] n A B L H lv hp ln lc cap [(decide (op = op), true), (decide (op < 64768), false), (decide (n = n), true)] t_no_vv_v_12 (tr_3 op n K.lo) (fun β => by kernel_rfl) K (by decide) (fun h => hn (h.2 ▸ by decide)) w hS
def t_no_i_v_1 : List Nat := [0,3,0,0,0,0,0,0,0,2,2,2,2,0,0,0,1]
set_option maxRecDepth 100000 in
theorem do_no_i_v_1 (m : Int) (t : Gt) (op l A B L H : Int) (lv hp : Option Addr) (ln lc n cap : Nat) (K : Known ⟨op, 1, l, ⟨#[105, 58, 118]⟩⟩) (hn : n ≠ 1) (w : World) (hS : SG w [gRow m t] w) :
  Calls Try.prog 10 #[ins op A B L H (.slice lv ln lc), .slice hp n cap] w fun e w' => e = .returned err1 ∧ Gr w w' :=
 do_runN m t ⟨op, 1, l, ⟨#[105, 58, 118]⟩⟩ ⟨64783, 1, 0, ⟨#[105, 58, 118]⟩⟩ 2 [127] n A B L H lv hp ln lc cap [(decide (op = op), true), (decide (op < 64768), false), (decide (n = n), true)] t_no_i_v_1 (tr_3 op n K.lo) (fun β => by kernel_rfl) K (by decide) (fun h => hn (h.2 ▸ by decide)) w hS
def t_no_l_v_1 : List Nat := [0,3,0,0,0,0,0,0,0,2,2,2,2,0,0,0,1]
set_option maxRecDepth 100000 in
theorem do_no_l_v_1 (m : Int) (t : Gt) (op l A B L H : Int) (lv hp : Option Addr) (ln lc n cap : Nat) (K : Known ⟨op, 1, l, ⟨#[108, 58, 118]⟩⟩) (hn : n ≠ 1) (w : World) (hS : SG w [gRow m t] w) :
  Calls Try.prog 10 #[ins op A B L H (.slice lv ln lc), .slice hp n cap] w fun e w' => e = .returned err1 ∧ Gr w w' :=
 do_runN m t ⟨op, 1, l, ⟨#[108, 58, 118]⟩⟩ ⟨64786, 1, 0, ⟨#[108, 58, 118]⟩⟩ 2 [126] n A B L H lv hp ln lc cap [(decide (op = op), true), (decide (op < 64768), false), (decide (n = n), true)] t_no_l_v_1 (tr_3 op n K.lo) (fun β => by kernel_rfl) K (by decide) (fun h => hn (h.2 ▸ by decide)) w hS
end Vc
end Go.Proofs.Ytjoalcaooccbiaa
/- VcDo1 -/
namespace Go.Proofs.Ytjoalcaooccbiaa
open Go.RowKit VecM Ev
namespace Vc
noncomputable def o_aun (op : Int) : List (Bool × Bool) := [(decide (op = op), true), (decide (op < 64768), false), (op == 64780, false), (op == 64781, false), (op == 64782, false), (inI op, true), (Mv.spW op != 0, false), (bitN op != 0, false), ((if Ar.unOk op = true then (0 : Int) else 1) == 0, true), ((if Ar.unOk op = true then (0 : Int) else 1) != 0, false)]
noncomputable def d_aun (op _A _L _H : Int) (_x : Nat → Int) : List (Bool × Bool) := o_aun op ++ []
def t_aun : List Nat := [0,0,0,0,0,0,0,0,0,0,0,0,0,0,0,0,12,11,0,0,10,0,0,0,0,0,0,9,8,7,6,5,0,2,0,1,0,0,0,0,0,0,0,4,4,4,4,0,0,0,3]
set_option maxRecDepth 100000 in
theorem do_aun (m : Int) (t : Gt) (op l A B L H : Int) (lv : Option Addr) (ln lc hb o cap : Nat) (hc : List Value) (ht : TypeId) (x : Nat → Int) (K : Known ⟨op, 1, l, ⟨#[118, 58, 118]⟩⟩) (ho : Hv.Ok ⟨hb, o, 2, cap, hc, ht⟩ x) (hD : ∀ p ∈ d_aun op A L H x, p.1 = p.2) (w : World) (hS : SG w [Hv.row ⟨hb, o, 2, cap, hc, ht⟩, gRow m t] w) :
  Calls Try.prog 10 #[ins op A B L H (.slice lv ln lc), Hv.v ⟨hb, o, 2, cap, hc, ht⟩] w fun e w' => ∃ β : Nat → Fr, e = .returned ((fun β => .tuple #[.slice (some ⟨(β 17).b, 0, none⟩) 2 (((.int .u64 (getI (Ar.unV op (both64 (x 0) (x 1))) 64 0) :: .int .u64 (getI (Ar.unV op (both64 (x 0) (x 1))) 64 1) :: (β 17).t) : List Value).length / 1), .int .i64 0]) β) ∧ SG w [(fun β => ⟨(β 17).b, .int .u64 (getI (Ar.unV op (both64 (x 0) (x 1))) 64 0) :: .int .u64 (getI (Ar.unV op (both64 (x 0) (x 1))) 64 1) :: (β 17).t, 22, true⟩) β] w' :=
 do_run m t ⟨op, 1, l, ⟨#[118, 58, 118]⟩⟩ ⟨64865, 1, 0, ⟨#[118, 58, 118]⟩⟩ 2 0 [123] _ A B L H lv ln lc x [both64 (x 0) (x 1)] [both64 1234567890123456789 1235679001234567900] [both64 (x 0) (x 1), Ar.unV op (both64 (x 0) (x 1))] [both64 1234567890123456789 1235679001234567900, Ar.unV 64865 (both64 1234567890123456789 1235679001234567900)] (fun β => .tuple #[.slice (some ⟨(β 17).b, 0, none⟩) 2 (((.int .u64 (getI (Ar.unV op (both64 (x 0) (x 1))) 64 0) :: .int .u64 (getI (Ar.unV op (both64 (x 0) (x 1))) 64 1) :: (β 17).t) : List Value).length / 1), .int .i64 0]) 0 (fun β => ⟨(β 17).b, .int .u64 (getI (Ar.unV op (both64 (x 0) (x 1))) 64 0) :: .int .u64 (getI (Ar.unV op (both64 (x 0) (x 1))) 64 1) :: (β 17).t, 22, true⟩) ([(decide (some (⟨hb, o, none⟩ : Addr) = some ⟨hb, o, none⟩), true), (decide (cap = cap), true)] ++ d_aun op A L H x) t_aun (tr_d _ _ (tr_2 hb o cap) hD) (fun β => by kernel_rfl) (by repeat' (first | exact bnil | exact byt_both _ _ | exact byt_low32 _ | exact byt_one64 _ | exact byt_abi _ _ _ | exact byt_cp _ _ _ | exact byt_bits _ _ | exact byt_spl _ _ | apply byt_aun | apply byt_wun | apply byt_ash | apply byt_wbi | apply byt_re | apply byt_swz | apply byt_shfi | refine bcons ?_ ?_)) K ho (tk_v x) w hS
noncomputable def o_wun (op : Int) : List (Bool × Bool) := [(decide (op = op), true), (decide (op < 64768), false), (op == 64780, false), (op == 64781, false), (op == 64782, false), (inI op, true), (Mv.spW op != 0, false), (bitN op != 0, false), ((if Ar.unOk op = true then (0 : Int) else 1) == 0, false), (Wd.unE op != 0, false)]
noncomputable def d_wun (op _A _L _H : Int) (_x : Nat → Int) : List (Bool × Bool) := o_wun op ++ []
def t_wun : List Nat := [0,0,0,0,0,0,0,0,0,0,0,0,0,0,0,0,12,8,11,0,0,10,0,0,0,0,0,0,9,8,7,6,5,0,2,0,1,0,0,0,0,0,0,0,4,4,4,4,0,0,0,3]
set_option maxRecDepth 100000 in
theorem do_wun (m : Int) (t : Gt) (op l A B L H : Int) (lv : Option Addr) (ln lc hb o cap : Nat) (hc : List Value) (ht : TypeId) (x : Nat → Int) (K : Known ⟨op, 1, l, ⟨#[118, 58, 118]⟩⟩) (ho : Hv.Ok ⟨hb, o, 2, cap, hc, ht⟩ x) (hD : ∀ p ∈ d_wun op A L H x, p.1 = p.2) (w : World) (hS : SG w [Hv.row ⟨hb, o, 2, cap, hc, ht⟩, gRow m t] w) :
  Calls Try.prog 10 #[ins op A B L H (.slice lv ln lc), Hv.v ⟨hb, o, 2, cap, hc, ht⟩] w fun e w' => ∃ β : Nat → Fr, e = .returned ((fun β => .tuple #[.slice (some ⟨(β 17).b, 0, none⟩) 2 (((.int .u64 (getI (Wd.unV op (both64 (x 0) (x 1))) 64 0) :: .int .u64 (getI (Wd.unV op (both64 (x 0) (x 1))) 64 1) :: (β 17).t) : List Value).length / 1), .int .i64 0]) β) ∧ SG w [(fun β => ⟨(β 17).b, .int .u64 (getI (Wd.unV op (both64 (x 0) (x 1))) 64 0) :: .int .u64 (getI (Wd.unV op (both64 (x 0) (x 1))) 64 1) :: (β 17).t, 22, true⟩) β] w' :=
 do_run m t ⟨op, 1, l, ⟨#[118, 58, 118]⟩⟩ ⟨64892, 1, 0, ⟨#[118, 58, 118]⟩⟩ 2 0 [123] _ A B L H lv ln lc x [both64 (x 0) (x 1)] [both64 1234567890123456789 1235679001234567900] [both64 (x 0) (x 1), Wd.unV op (both64 (x 0) (x 1))] [both64 1234567890123456789 1235679001234567900, Wd.unV 64892 (both64 1234567890123456789 1235679001234567900)] (fun β => .tuple #[.slice (some ⟨(β 17).b, 0, none⟩) 2 (((.int .u64 (getI (Wd.unV op (both64 (x 0) (x 1))) 64 0) :: .int .u64 (getI (Wd.unV op (both64 (x 0) (x 1))) 64 1) :: (β 17).t) : List Value).length / 1), .int .i64 0]) 0 (fun β => ⟨(β 17).b, .int .u64 (getI (Wd.unV op (both64 (x 0) (x 1))) 64 0) :: .int .u64 (getI (Wd.unV op (both64 (x 0) (x 1))) 64 1) :: (β 17).t, 22, true⟩) ([(decide (some (⟨hb, o, none⟩ : Addr) = some ⟨hb, o, none⟩), true), (decide (cap = cap), true)] ++ d_wun op A L H x) t_wun (tr_d _ _ (tr_2 hb o cap) hD) (fun β => by kernel_rfl) (by repeat' (first | exact bnil | exact byt_both _ _ | exact byt_low32 _ | exact byt_one64 _ | exact byt_abi _ _ _ | exact byt_cp _ _ _ | exact byt_bits _ _ | exact byt_spl _ _ | apply byt_aun | apply byt_wun | apply byt_ash | apply byt_wbi | apply byt_re | apply byt_swz | apply byt_shfi | refine bcons ?_ ?_)) K ho (tk_v x) w hS
noncomputable def o_bits77 (_op : Int) : List (Bool × Bool) := []
noncomputable def d_bits77 (op _A _L _H : Int) (_x : Nat → Int) : List (Bool × Bool) := o_bits77 op ++ []
def t_bits77 : List Nat := [0,0,0,0,0,0,0,0,0,0,0,0,0,0,0,0,0,0,0,0,0,0,0,0,0,0,0,0,0,0,0,0,0,0,2,0,1,0,0,0,0,0,0,0,0,0,0,0,0,0,0,0]
set_option maxRecDepth 100000 in
theorem do_bits77 (m : Int) (t : Gt) (l A B L H : Int) (lv : Option Addr) (ln lc hb o cap : Nat) (hc : List Value) (ht : TypeId) (x : Nat → Int) (K : Known ⟨64845, 1, l, ⟨#[118, 58, 118]⟩⟩) (ho : Hv.Ok ⟨hb, o, 2, cap, hc, ht⟩ x) (hD : ∀ p ∈ d_bits77 64845 A L H x, p.1 = p.2) (w : World) (hS : SG w [Hv.row ⟨hb, o, 2, cap, hc, ht⟩, gRow m t] w) :
  Calls Try.prog 10 #[ins 64845 A B L H (.slice lv ln lc), Hv.v ⟨hb, o, 2, cap, hc, ht⟩] w fun e w' => ∃ β : Nat → Fr, e = .returned ((fun β => .tuple #[.slice (some ⟨(β 14).b, 0, none⟩) 2 (((.int .u64 (getI (bitsV 64845 [both64 (x 0) (x 1)]) 64 0) :: .int .u64 (getI (bitsV 64845 [both64 (x 0) (x 1)]) 64 1) :: (β 14).t) : List Value).length / 1), .int .i64 0]) β) ∧ SG w [(fun β => ⟨(β 14).b, .int .u64 (getI (bitsV 64845 [both64 (x 0) (x 1)]) 64 0) :: .int .u64 (getI (bitsV 64845 [both64 (x 0) (x 1)]) 64 1) :: (β 14).t, 22, true⟩) β] w' :=
 do_run m t ⟨64845, 1, l, ⟨#[118, 58, 118]⟩⟩ ⟨64845, 1, 0, ⟨#[118, 58, 118]⟩⟩ 2 3 [123] _ A B L H lv ln lc x [both64 (x 0) (x 1)] [both64 1234567890123456789 1235679001234567900] [both64 (x 0) (x 1), bitsV 64845 [both64 (x 0) (x 1)]] [both64 1234567890123456789 1235679001234567900, bitsV 64845 [both64 1234567890123456789 1235679001234567900]] (fun β => .tuple #[.slice (some ⟨(β 14).b, 0, none⟩) 2 (((.int .u64 (getI (bitsV 64845 [both64 (x 0) (x 1)]) 64 0) :: .int .u64 (getI (bitsV 64845 [both64 (x 0) (x 1)]) 64 1) :: (β 14).t) : List Value).length / 1), .int .i64 0]) 0 (fun β => ⟨(β 14).b, .int .u64 (getI (bitsV 64845 [both64 (x 0) (x 1)]) 64 0) :: .int .u64 (getI (bitsV 64845 [both64 (x 0) (x 1)]) 64 1) :: (β 14).t, 22, true⟩) ([(decide (some (⟨hb, o, none⟩ : Addr) = some ⟨hb, o, none⟩), true), (decide (cap = cap), true)] ++ d_bits77 64845 A L H x) t_bits77 (tr_d _ _ (tr_2 hb o cap) hD) (fun β => by kernel_rfl) (by repeat' (first | exact bnil | exact byt_both _ _ | exact byt_low32 _ | exact byt_one64 _ | exact byt_abi _ _ _ | exact byt_cp _ _ _ | exact byt_bits _ _ | exact byt_spl _ _ | apply byt_aun | apply byt_wun | apply byt_ash | apply byt_wbi | apply byt_re | apply byt_swz | apply byt_shfi | refine bcons ?_ ?_)) K ho (tk_v x) w hS
noncomputable def o_bits78 (_op : Int) : List (Bool × Bool) := []
noncomputable def d_bits78 (op _A _L _H : Int) (_x : Nat → Int) : List (Bool × Bool) := o_bits78 op ++ []
def t_bits78 : List Nat := [0,0,0,0,0,0,0,0,0,0,0,0,0,0,0,0,0,0,0,0,0,0,0,0,0,0,0,0,0,0,0,0,0,0,2,0,1,0,0,0,0,0,0,0,0,0,0,0,0,0,0,0]
set_option maxRecDepth 100000 in
theorem do_bits78 (m : Int) (t : Gt) (l A B L H : Int) (lv : Option Addr) (ln lc hb o cap : Nat) (hc : List Value) (ht : TypeId) (x : Nat → Int) (K : Known ⟨64846, 1, l, ⟨#[118, 118, 58, 118]⟩⟩) (ho : Hv.Ok ⟨hb, o, 4, cap, hc, ht⟩ x) (hD : ∀ p ∈ d_bits78 64846 A L H x, p.1 = p.2) (w : World) (hS : SG w [Hv.row ⟨hb, o, 4, cap, hc, ht⟩, gRow m t] w) :
  Calls Try.prog 10 #[ins 64846 A B L H (.slice lv ln lc), Hv.v ⟨hb, o, 4, cap, hc, ht⟩] w fun e w' => ∃ β : Nat → Fr, e = .returned ((fun β => .tuple #[.slice (some ⟨(β 14).b, 0, none⟩) 2 (((.int .u64 (getI (bitsV 64846 [both64 (x 0) (x 1), both64 (x 2) (x 3)]) 64 0) :: .int .u64 (getI (bitsV 64846 [both64 (x 0) (x 1), both64 (x 2) (x 3)]) 64 1) :: (β 14).t) : List Value).length / 1), .int .i64 0]) β) ∧ SG w [(fun β => ⟨(β 14).b, .int .u64 (getI (bitsV 64846 [both64 (x 0) (x 1), both64 (x 2) (x 3)]) 64 0) :: .int .u64 (getI (bitsV 64846 [both64 (x 0) (x 1), both64 (x 2) (x 3)]) 64 1) :: (β 14).t, 22, true⟩) β] w' :=
 do_run m t ⟨64846, 1, l, ⟨#[118, 118, 58, 118]⟩⟩ ⟨64846, 1, 0, ⟨#[118, 118, 58, 118]⟩⟩ 2 3 [123, 123] _ A B L H lv ln lc x [both64 (x 0) (x 1), both64 (x 2) (x 3)] [both64 1234567890123456789 1235679001234567900, both64 1236790112345679011 1237901223456790122] [both64 (x 0) (x 1), both64 (x 2) (x 3), bitsV 64846 [both64 (x 0) (x 1), both64 (x 2) (x 3)]] [both64 1234567890123456789 1235679001234567900, both64 1236790112345679011 1237901223456790122, bitsV 64846 [both64 1234567890123456789 1235679001234567900, both64 1236790112345679011 1237901223456790122]] (fun β => .tuple #[.slice (some ⟨(β 14).b, 0, none⟩) 2 (((.int .u64 (getI (bitsV 64846 [both64 (x 0) (x 1), both64 (x 2) (x 3)]) 64 0) :: .int .u64 (getI (bitsV 64846 [both64 (x 0) (x 1), both64 (x 2) (x 3)]) 64 1) :: (β 14).t) : List Value).length / 1), .int .i64 0]) 0 (fun β => ⟨(β 14).b, .int .u64 (getI (bitsV 64846 [both64 (x 0) (x 1), both64 (x 2) (x 3)]) 64 0) :: .int .u64 (getI (bitsV 64846 [both64 (x 0) (x 1), both64 (x 2) (x 3)]) 64 1) :: (β 14).t, 22, true⟩) ([(decide (some (⟨hb, o, none⟩ : Addr) = some ⟨hb, o, none⟩), true), (decide (cap = cap), true)] ++ d_bits78 64846 A L H x) t_bits78 (tr_d _ _ (tr_2 hb o cap) hD) (fun β => by kernel_rfl) (by repeat' (first | exact bnil | exact byt_both _ _ | exact byt_low32 _ | exact byt_one64 _ | exact byt_abi _ _ _ | exact byt_cp _ _ _ | exact byt_bits _ _ | exact byt_spl _ _ | apply byt_aun | apply byt_wun | apply byt_ash | apply byt_wbi | apply byt_re | apply byt_swz | apply byt_shfi | refine bcons ?_ ?_)) K ho (tk_vv x) w hS
noncomputable def o_bits79 (_op : Int) : List (Bool × Bool) := []
noncomputable def d_bits79 (op _A _L _H : Int) (_x : Nat → Int) : List (Bool × Bool) := o_bits79 op ++ []
def t_bits79 : List Nat := [0,0,0,0,0,0,0,0,0,0,0,0,0,0,0,0,0,0,0,0,0,0,0,0,0,0,0,0,0,0,0,0,0,0,2,0,1,0,0,0,0,0,0,0,0,0,0,0,0,0,0,0]
set_option maxRecDepth 100000 in
theorem do_bits79 (m : Int) (t : Gt) (l A B L H : Int) (lv : Option Addr) (ln lc hb o cap : Nat) (hc : List Value) (ht : TypeId) (x : Nat → Int) (K : Known ⟨64847, 1, l, ⟨#[118, 118, 58, 118]⟩⟩) (ho : Hv.Ok ⟨hb, o, 4, cap, hc, ht⟩ x) (hD : ∀ p ∈ d_bits79 64847 A L H x, p.1 = p.2) (w : World) (hS : SG w [Hv.row ⟨hb, o, 4, cap, hc, ht⟩, gRow m t] w) :
  Calls Try.prog 10 #[ins 64847 A B L H (.slice lv ln lc), Hv.v ⟨hb, o, 4, cap, hc, ht⟩] w fun e w' => ∃ β : Nat → Fr, e = .returned ((fun β => .tuple #[.slice (some ⟨(β 14).b, 0, none⟩) 2 (((.int .u64 (getI (bitsV 64847 [both64 (x 0) (x 1), both64 (x 2) (x 3)]) 64 0) :: .int .u64 (getI (bitsV 64847 [both64 (x 0) (x 1), both64 (x 2) (x 3)]) 64 1) :: (β 14).t) : List Value).length / 1), .int .i64 0]) β) ∧ SG w [(fun β => ⟨(β 14).b, .int .u64 (getI (bitsV 64847 [both64 (x 0) (x 1), both64 (x 2) (x 3)]) 64 0) :: .int .u64 (getI (bitsV 64847 [both64 (x 0) (x 1), both64 (x 2) (x 3)]) 64 1) :: (β 14).t, 22, true⟩) β] w' :=
 do_run m t ⟨64847, 1, l, ⟨#[118, 118, 58, 118]⟩⟩ ⟨64847, 1, 0, ⟨#[118, 118, 58, 118]⟩⟩ 2 3 [123, 123] _ A B L H lv ln lc x [both64 (x 0) (x 1), both64 (x 2) (x 3)] [both64 1234567890123456789 1235679001234567900, both64 1236790112345679011 1237901223456790122] [both64 (x 0) (x 1), both64 (x 2) (x 3), bitsV 64847 [both64 (x 0) (x 1), both64 (x 2) (x 3)]] [both64 1234567890123456789 1235679001234567900, both64 1236790112345679011 1237901223456790122, bitsV 64847 [both64 1234567890123456789 1235679001234567900, both64 1236790112345679011 1237901223456790122]] (fun β => .tuple #[.slice (some ⟨(β 14).b, 0, none⟩) 2 (((.int .u64 (getI (bitsV 64847 [both64 (x 0) (x 1), both64 (x 2) (x 3)]) 64 0) :: .int .u64 (getI (bitsV 64847 [both64 (x 0) (x 1), both64 (x 2) (x 3)]) 64 1) :: (β 14).t) : List Value).length / 1), .int .i64 0]) 0 (fun β => ⟨(β 14).b, .int .u64 (getI (bitsV 64847 [both64 (x 0) (x 1), both64 (x 2) (x 3)]) 64 0) :: .int .u64 (getI (bitsV 64847 [both64 (x 0) (x 1), both64 (x 2) (x 3)]) 64 1) :: (β 14).t, 22, true⟩) ([(decide (some (⟨hb, o, none⟩ : Addr) = some ⟨hb, o, none⟩), true), (decide (cap = cap), true)] ++ d_bits79 64847 A L H x) t_bits79 (tr_d _ _ (tr_2 hb o cap) hD) (fun β => by kernel_rfl) (by repeat' (first | exact bnil | exact byt_both _ _ | exact byt_low32 _ | exact byt_one64 _ | exact byt_abi _ _ _ | exact byt_cp _ _ _ | exact byt_bits _ _ | exact byt_spl _ _ | apply byt_aun | apply byt_wun | apply byt_ash | apply byt_wbi | apply byt_re | apply byt_swz | apply byt_shfi | refine bcons ?_ ?_)) K ho (tk_vv x) w hS
end Vc
end Go.Proofs.Ytjoalcaooccbiaa
/- VcDo2 -/
namespace Go.Proofs.Ytjoalcaooccbiaa
open Go.RowKit VecM Ev
namespace Vc
noncomputable def o_bits80 (_op : Int) : List (Bool × Bool) := []
noncomputable def d_bits80 (op _A _L _H : Int) (_x : Nat → Int) : List (Bool × Bool) := o_bits80 op ++ []
def t_bits80 : List Nat := [0,0,0,0,0,0,0,0,0,0,0,0,0,0,0,0,0,0,0,0,0,0,0,0,0,0,0,0,0,0,0,0,0,0,2,0,1,0,0,0,0,0,0,0,0,0,0,0,0,0,0,0]
set_option maxRecDepth 100000 in
theorem do_bits80 (m : Int) (t : Gt) (l A B L H : Int) (lv : Option Addr) (ln lc hb o cap : Nat) (hc : List Value) (ht : TypeId) (x : Nat → Int) (K : Known ⟨64848, 1, l, ⟨#[118, 118, 58, 118]⟩⟩) (ho : Hv.Ok ⟨hb, o, 4, cap, hc, ht⟩ x) (hD : ∀ p ∈ d_bits80 64848 A L H x, p.1 = p.2) (w : World) (hS : SG w [Hv.row ⟨hb, o, 4, cap, hc, ht⟩, gRow m t] w) :
  Calls Try.prog 10 #[ins 64848 A B L H (.slice lv ln lc), Hv.v ⟨hb, o, 4, cap, hc, ht⟩] w fun e w' => ∃ β : Nat → Fr, e = .returned ((fun β => .tuple #[.slice (some ⟨(β 14).b, 0, none⟩) 2 (((.int .u64 (getI (bitsV 64848 [both64 (x 0) (x 1), both64 (x 2) (x 3)]) 64 0) :: .int .u64 (getI (bitsV 64848 [both64 (x 0) (x 1), both64 (x 2) (x 3)]) 64 1) :: (β 14).t) : List Value).length / 1), .int .i64 0]) β) ∧ SG w [(fun β => ⟨(β 14).b, .int .u64 (getI (bitsV 64848 [both64 (x 0) (x 1), both64 (x 2) (x 3)]) 64 0) :: .int .u64 (getI (bitsV 64848 [both64 (x 0) (x 1), both64 (x 2) (x 3)]) 64 1) :: (β 14).t, 22, true⟩) β] w' :=
 do_run m t ⟨64848, 1, l, ⟨#[118, 118, 58, 118]⟩⟩ ⟨64848, 1, 0, ⟨#[118, 118, 58, 118]⟩⟩ 2 3 [123, 123] _ A B L H lv ln lc x [both64 (x 0) (x 1), both64 (x 2) (x 3)] [both64 1234567890123456789 1235679001234567900, both64 1236790112345679011 1237901223456790122] [both64 (x 0) (x 1), both64 (x 2) (x 3), bitsV 64848 [both64 (x 0) (x 1), both64 (x 2) (x 3)]] [both64 1234567890123456789 1235679001234567900, both64 1236790112345679011 1237901223456790122, bitsV 64848 [both64 1234567890123456789 1235679001234567900, both64 1236790112345679011 1237901223456790122]] (fun β => .tuple #[.slice (some ⟨(β 14).b, 0, none⟩) 2 (((.int .u64 (getI (bitsV 64848 [both64 (x 0) (x 1), both64 (x 2) (x 3)]) 64 0) :: .int .u64 (getI (bitsV 64848 [both64 (x 0) (x 1), both64 (x 2) (x 3)]) 64 1) :: (β 14).t) : List Value).length / 1), .int .i64 0]) 0 (fun β => ⟨(β 14).b, .int .u64 (getI (bitsV 64848 [both64 (x 0) (x 1), both64 (x 2) (x 3)]) 64 0) :: .int .u64 (getI (bitsV 64848 [both64 (x 0) (x 1), both64 (x 2) (x 3)]) 64 1) :: (β 14).t, 22, true⟩) ([(decide (some (⟨hb, o, none⟩ : Addr) = some ⟨hb, o, none⟩), true), (decide (cap = cap), true)] ++ d_bits80 64848 A L H x) t_bits80 (tr_d _ _ (tr_2 hb o cap) hD) (fun β => by kernel_rfl) (by repeat' (first | exact bnil | exact byt_both _ _ | exact byt_low32 _ | exact byt_one64 _ | exact byt_abi _ _ _ | exact byt_cp _ _ _ | exact byt_bits _ _ | exact byt_spl _ _ | apply byt_aun | apply byt_wun | apply byt_ash | apply byt_wbi | apply byt_re | apply byt_swz | apply byt_shfi | refine bcons ?_ ?_)) K ho (tk_vv x) w hS
noncomputable def o_bits81 (_op : Int) : List (Bool × Bool) := []
noncomputable def d_bits81 (op _A _L _H : Int) (_x : Nat → Int) : List (Bool × Bool) := o_bits81 op ++ []
def t_bits81 : List Nat := [0,0,0,0,0,0,0,0,0,0,0,0,0,0,0,0,0,0,0,0,0,0,0,0,0,0,0,0,0,0,0,0,0,0,2,0,1,0,0,0,0,0,0,0,0,0,0,0,0,0,0,0]
set_option maxRecDepth 100000 in
theorem do_bits81 (m : Int) (t : Gt) (l A B L H : Int) (lv : Option Addr) (ln lc hb o cap : Nat) (hc : List Value) (ht : TypeId) (x : Nat → Int) (K : Known ⟨64849, 1, l, ⟨#[118, 118, 58, 118]⟩⟩) (ho : Hv.Ok ⟨hb, o, 4, cap, hc, ht⟩ x) (hD : ∀ p ∈ d_bits81 64849 A L H x, p.1 = p.2) (w : World) (hS : SG w [Hv.row ⟨hb, o, 4, cap, hc, ht⟩, gRow m t] w) :
  Calls Try.prog 10 #[ins 64849 A B L H (.slice lv ln lc), Hv.v ⟨hb, o, 4, cap, hc, ht⟩] w fun e w' => ∃ β : Nat → Fr, e = .returned ((fun β => .tuple #[.slice (some ⟨(β 14).b, 0, none⟩) 2 (((.int .u64 (getI (bitsV 64849 [both64 (x 0) (x 1), both64 (x 2) (x 3)]) 64 0) :: .int .u64 (getI (bitsV 64849 [both64 (x 0) (x 1), both64 (x 2) (x 3)]) 64 1) :: (β 14).t) : List Value).length / 1), .int .i64 0]) β) ∧ SG w [(fun β => ⟨(β 14).b, .int .u64 (getI (bitsV 64849 [both64 (x 0) (x 1), both64 (x 2) (x 3)]) 64 0) :: .int .u64 (getI (bitsV 64849 [both64 (x 0) (x 1), both64 (x 2) (x 3)]) 64 1) :: (β 14).t, 22, true⟩) β] w' :=
 do_run m t ⟨64849, 1, l, ⟨#[118, 118, 58, 118]⟩⟩ ⟨64849, 1, 0, ⟨#[118, 118, 58, 118]⟩⟩ 2 3 [123, 123] _ A B L H lv ln lc x [both64 (x 0) (x 1), both64 (x 2) (x 3)] [both64 1234567890123456789 1235679001234567900, both64 1236790112345679011 1237901223456790122] [both64 (x 0) (x 1), both64 (x 2) (x 3), bitsV 64849 [both64 (x 0) (x 1), both64 (x 2) (x 3)]] [both64 1234567890123456789 1235679001234567900, both64 1236790112345679011 1237901223456790122, bitsV 64849 [both64 1234567890123456789 1235679001234567900, both64 1236790112345679011 1237901223456790122]] (fun β => .tuple #[.slice (some ⟨(β 14).b, 0, none⟩) 2 (((.int .u64 (getI (bitsV 64849 [both64 (x 0) (x 1), both64 (x 2) (x 3)]) 64 0) :: .int .u64 (getI (bitsV 64849 [both64 (x 0) (x 1), both64 (x 2) (x 3)]) 64 1) :: (β 14).t) : List Value).length / 1), .int .i64 0]) 0 (fun β => ⟨(β 14).b, .int .u64 (getI (bitsV 64849 [both64 (x 0) (x 1), both64 (x 2) (x 3)]) 64 0) :: .int .u64 (getI (bitsV 64849 [both64 (x 0) (x 1), both64 (x 2) (x 3)]) 64 1) :: (β 14).t, 22, true⟩) ([(decide (some (⟨hb, o, none⟩ : Addr) = some ⟨hb, o, none⟩), true), (decide (cap = cap), true)] ++ d_bits81 64849 A L H x) t_bits81 (tr_d _ _ (tr_2 hb o cap) hD) (fun β => by kernel_rfl) (by repeat' (first | exact bnil | exact byt_both _ _ | exact byt_low32 _ | exact byt_one64 _ | exact byt_abi _ _ _ | exact byt_cp _ _ _ | exact byt_bits _ _ | exact byt_spl _ _ | apply byt_aun | apply byt_wun | apply byt_ash | apply byt_wbi | apply byt_re | apply byt_swz | apply byt_shfi | refine bcons ?_ ?_)) K ho (tk_vv x) w hS
noncomputable def o_bits82 (_op : Int) : List (Bool × Bool) := []
noncomputable def d_bits82 (op _A _L _H : Int) (_x : Nat → Int) : List (Bool × Bool) := o_bits82 op ++ []
def t_bits82 : List Nat := [0,0,0,0,0,0,0,0,0,0,0,0,0,0,0,0,0,0,0,0,0,0,0,0,0,0,0,0,0,0,0,0,0,0,2,0,1,0,0,0,0,0,0,0,0,0,0,0,0,0,0,0]
set_option maxRecDepth 100000 in
theorem do_bits82 (m : Int) (t : Gt) (l A B L H : Int) (lv : Option Addr) (ln lc hb o cap : Nat) (hc : List Value) (ht : TypeId) (x : Nat → Int) (K : Known ⟨64850, 1, l, ⟨#[118, 118, 118, 58, 118]⟩⟩) (ho : Hv.Ok ⟨hb, o, 6, cap, hc, ht⟩ x) (hD : ∀ p ∈ d_bits82 64850 A L H x, p.1 = p.2) (w : World) (hS : SG w [Hv.row ⟨hb, o, 6, cap, hc, ht⟩, gRow m t] w) :
  Calls Try.prog 10 #[ins 64850 A B L H (.slice lv ln lc), Hv.v ⟨hb, o, 6, cap, hc, ht⟩] w fun e w' => ∃ β : Nat → Fr, e = .returned ((fun β => .tuple #[.slice (some ⟨(β 14).b, 0, none⟩) 2 (((.int .u64 (getI (bitsV 64850 [both64 (x 0) (x 1), both64 (x 2) (x 3), both64 (x 4) (x 5)]) 64 0) :: .int .u64 (getI (bitsV 64850 [both64 (x 0) (x 1), both64 (x 2) (x 3), both64 (x 4) (x 5)]) 64 1) :: (β 14).t) : List Value).length / 1), .int .i64 0]) β) ∧ SG w [(fun β => ⟨(β 14).b, .int .u64 (getI (bitsV 64850 [both64 (x 0) (x 1), both64 (x 2) (x 3), both64 (x 4) (x 5)]) 64 0) :: .int .u64 (getI (bitsV 64850 [both64 (x 0) (x 1), both64 (x 2) (x 3), both64 (x 4) (x 5)]) 64 1) :: (β 14).t, 22, true⟩) β] w' :=
 do_run m t ⟨64850, 1, l, ⟨#[118, 118, 118, 58, 118]⟩⟩ ⟨64850, 1, 0, ⟨#[118, 118, 118, 58, 118]⟩⟩ 2 3 [123, 123, 123] _ A B L H lv ln lc x [both64 (x 0) (x 1), both64 (x 2) (x 3), both64 (x 4) (x 5)] [both64 1234567890123456789 1235679001234567900, both64 1236790112345679011 1237901223456790122, both64 1239012334567901233 1240123445679012344] [both64 (x 0) (x 1), both64 (x 2) (x 3), both64 (x 4) (x 5), bitsV 64850 [both64 (x 0) (x 1), both64 (x 2) (x 3), both64 (x 4) (x 5)]] [both64 1234567890123456789 1235679001234567900, both64 1236790112345679011 1237901223456790122, both64 1239012334567901233 1240123445679012344, bitsV 64850 [both64 1234567890123456789 1235679001234567900, both64 1236790112345679011 1237901223456790122, both64 1239012334567901233 1240123445679012344]] (fun β => .tuple #[.slice (some ⟨(β 14).b, 0, none⟩) 2 (((.int .u64 (getI (bitsV 64850 [both64 (x 0) (x 1), both64 (x 2) (x 3), both64 (x 4) (x 5)]) 64 0) :: .int .u64 (getI (bitsV 64850 [both64 (x 0) (x 1), both64 (x 2) (x 3), both64 (x 4) (x 5)]) 64 1) :: (β 14).t) : List Value).length / 1), .int .i64 0]) 0 (fun β => ⟨(β 14).b, .int .u64 (getI (bitsV 64850 [both64 (x 0) (x 1), both64 (x 2) (x 3), both64 (x 4) (x 5)]) 64 0) :: .int .u64 (getI (bitsV 64850 [both64 (x 0) (x 1), both64 (x 2) (x 3), both64 (x 4) (x 5)]) 64 1) :: (β 14).t, 22, true⟩) ([(decide (some (⟨hb, o, none⟩ : Addr) = some ⟨hb, o, none⟩), true), (decide (cap = cap), true)] ++ d_bits82 64850 A L H x) t_bits82 (tr_d _ _ (tr_2 hb o cap) hD) (fun β => by kernel_rfl) (by repeat' (first | exact bnil | exact byt_both _ _ | exact byt_low32 _ | exact byt_one64 _ | exact byt_abi _ _ _ | exact byt_cp _ _ _ | exact byt_bits _ _ | exact byt_spl _ _ | apply byt_aun | apply byt_wun | apply byt_ash | apply byt_wbi | apply byt_re | apply byt_swz | apply byt_shfi | refine bcons ?_ ?_)) K ho (tk_vvv x) w hS
noncomputable def o_test (op : Int) : List (Bool × Bool) := [(decide (op = op), true), (decide (op < 64768), false), (op == 64780, false), (op == 64781, false), (op == 64782, false), (inI op, true), (Mv.spW op != 0, false), (bitN op != 0, false), (Cp.tsOk op != 0, false)]
noncomputable def d_test (op _A _L _H : Int) (_x : Nat → Int) : List (Bool × Bool) := o_test op ++ []
def t_test : List Nat := [0,0,0,0,0,0,0,0,0,0,0,0,0,0,11,8,0,10,0,0,0,0,0,0,9,8,7,6,5,0,2,0,1,0,0,0,0,0,0,0,4,4,4,4,0,0,0,3]
set_option maxRecDepth 100000 in
theorem do_test (m : Int) (t : Gt) (op l A B L H : Int) (lv : Option Addr) (ln lc hb o cap : Nat) (hc : List Value) (ht : TypeId) (x : Nat → Int) (K : Known ⟨op, 1, l, ⟨#[118, 58, 105]⟩⟩) (ho : Hv.Ok ⟨hb, o, 2, cap, hc, ht⟩ x) (hD : ∀ p ∈ d_test op A L H x, p.1 = p.2) (w : World) (hS : SG w [Hv.row ⟨hb, o, 2, cap, hc, ht⟩, gRow m t] w) :
  Calls Try.prog 10 #[ins op A B L H (.slice lv ln lc), Hv.v ⟨hb, o, 2, cap, hc, ht⟩] w fun e w' => ∃ β : Nat → Fr, e = .returned ((fun β => .tuple #[.slice (some ⟨(β 16).b, 0, none⟩) 1 (((.int .u64 (getI (one64 (IntKind.u64.wrap (Cp.tsV op (both64 (x 0) (x 1))))) 32 0) :: (β 16).t) : List Value).length / 1), .int .i64 0]) β) ∧ SG w [(fun β => ⟨(β 16).b, .int .u64 (getI (one64 (IntKind.u64.wrap (Cp.tsV op (both64 (x 0) (x 1))))) 32 0) :: (β 16).t, 22, true⟩) β] w' :=
 do_run m t ⟨op, 1, l, ⟨#[118, 58, 105]⟩⟩ ⟨64868, 1, 0, ⟨#[118, 58, 105]⟩⟩ 2 0 [123] _ A B L H lv ln lc x [both64 (x 0) (x 1)] [both64 1234567890123456789 1235679001234567900] [both64 (x 0) (x 1), one64 (IntKind.u64.wrap (Cp.tsV op (both64 (x 0) (x 1))))] [both64 1234567890123456789 1235679001234567900, one64 (IntKind.u64.wrap (Cp.tsV 64868 (both64 1234567890123456789 1235679001234567900)))] (fun β => .tuple #[.slice (some ⟨(β 16).b, 0, none⟩) 1 (((.int .u64 (getI (one64 (IntKind.u64.wrap (Cp.tsV op (both64 (x 0) (x 1))))) 32 0) :: (β 16).t) : List Value).length / 1), .int .i64 0]) 0 (fun β => ⟨(β 16).b, .int .u64 (getI (one64 (IntKind.u64.wrap (Cp.tsV op (both64 (x 0) (x 1))))) 32 0) :: (β 16).t, 22, true⟩) ([(decide (some (⟨hb, o, none⟩ : Addr) = some ⟨hb, o, none⟩), true), (decide (cap = cap), true)] ++ d_test op A L H x) t_test (tr_d _ _ (tr_2 hb o cap) hD) (fun β => by kernel_rfl) (by repeat' (first | exact bnil | exact byt_both _ _ | exact byt_low32 _ | exact byt_one64 _ | exact byt_abi _ _ _ | exact byt_cp _ _ _ | exact byt_bits _ _ | exact byt_spl _ _ | apply byt_aun | apply byt_wun | apply byt_ash | apply byt_wbi | apply byt_re | apply byt_swz | apply byt_shfi | refine bcons ?_ ?_)) K ho (tk_v x) w hS
noncomputable def o_exi (op : Int) : List (Bool × Bool) := [(decide (op = op), true), (decide (op < 64768), false), (op == 64780, false), (op == 64781, false), (op == 64782, false), (inI op, true), (Mv.spW op != 0, false)]
noncomputable def d_exi (op A _L _H : Int) (_x : Nat → Int) : List (Bool × Bool) := o_exi op ++ [(inI A, true), ((if thereB (Mv.exW op) A = true then (0 : Int) else 1) != 0, false)]
def t_exi : List Nat := [0,0,0,0,0,0,0,0,0,0,0,0,0,0,11,10,0,0,0,0,0,0,9,8,7,6,5,0,2,0,1,0,0,0,0,0,0,0,4,4,4,4,0,0,0,3]
set_option maxRecDepth 100000 in
theorem do_exi (m : Int) (t : Gt) (op l A B L H : Int) (lv : Option Addr) (ln lc hb o cap : Nat) (hc : List Value) (ht : TypeId) (x : Nat → Int) (K : Known ⟨op, 13, l, ⟨#[118, 58, 105]⟩⟩) (ho : Hv.Ok ⟨hb, o, 2, cap, hc, ht⟩ x) (hD : ∀ p ∈ d_exi op A L H x, p.1 = p.2) (w : World) (hS : SG w [Hv.row ⟨hb, o, 2, cap, hc, ht⟩, gRow m t] w) :
  Calls Try.prog 10 #[ins op A B L H (.slice lv ln lc), Hv.v ⟨hb, o, 2, cap, hc, ht⟩] w fun e w' => ∃ β : Nat → Fr, e = .returned ((fun β => .tuple #[.slice (some ⟨(β 14).b, 0, none⟩) 1 (((.int .u64 (getI (one64 (Mv.exV op A (both64 (x 0) (x 1)))) 32 0) :: (β 14).t) : List Value).length / 1), .int .i64 0]) β) ∧ SG w [(fun β => ⟨(β 14).b, .int .u64 (getI (one64 (Mv.exV op A (both64 (x 0) (x 1)))) 32 0) :: (β 14).t, 22, true⟩) β] w' :=
 do_run m t ⟨op, 13, l, ⟨#[118, 58, 105]⟩⟩ ⟨64789, 13, 0, ⟨#[118, 58, 105]⟩⟩ 2 0 [123] _ A B L H lv ln lc x [both64 (x 0) (x 1)] [both64 1234567890123456789 1235679001234567900] [both64 (x 0) (x 1), one64 (Mv.exV op A (both64 (x 0) (x 1)))] [both64 1234567890123456789 1235679001234567900, one64 (Mv.exV 64789 1 (both64 1234567890123456789 1235679001234567900))] (fun β => .tuple #[.slice (some ⟨(β 14).b, 0, none⟩) 1 (((.int .u64 (getI (one64 (Mv.exV op A (both64 (x 0) (x 1)))) 32 0) :: (β 14).t) : List Value).length / 1), .int .i64 0]) 0 (fun β => ⟨(β 14).b, .int .u64 (getI (one64 (Mv.exV op A (both64 (x 0) (x 1)))) 32 0) :: (β 14).t, 22, true⟩) ([(decide (some (⟨hb, o, none⟩ : Addr) = some ⟨hb, o, none⟩), true), (decide (cap = cap), true)] ++ d_exi op A L H x) t_exi (tr_d _ _ (tr_2 hb o cap) hD) (fun β => by kernel_rfl) (by repeat' (first | exact bnil | exact byt_both _ _ | exact byt_low32 _ | exact byt_one64 _ | exact byt_abi _ _ _ | exact byt_cp _ _ _ | exact byt_bits _ _ | exact byt_spl _ _ | apply byt_aun | apply byt_wun | apply byt_ash | apply byt_wbi | apply byt_re | apply byt_swz | apply byt_shfi | refine bcons ?_ ?_)) K ho (tk_v x) w hS
end Vc
end Go.Proofs.Ytjoalcaooccbiaa
/- VcDo3 -/
namespace Go.Proofs.Ytjoalcaooccbiaa
open Go.RowKit VecM Ev
namespace Vc
noncomputable def o_exl (_op : Int) : List (Bool × Bool) := []
noncomputable def d_exl (op A _L _H : Int) (_x : Nat → Int) : List (Bool × Bool) := o_exl op ++ [(inI A, true), ((if thereB (Mv.exW 64797) A = true then (0 : Int) else 1) != 0, false)]
def t_exl : List Nat := [0,0,0,0,0,0,0,0,0,0,0,0,0,0,0,4,3,0,0,0,0,0,0,0,0,0,0,0,0,2,0,1,0,0,0,0,0,0,0,0,0,0,0,0,0,0,0]
set_option maxRecDepth 100000 in
theorem do_exl (m : Int) (t : Gt) (l A B L H : Int) (lv : Option Addr) (ln lc hb o cap : Nat) (hc : List Value) (ht : TypeId) (x : Nat → Int) (K : Known ⟨64797, 13, l, ⟨#[118, 58, 108]⟩⟩) (ho : Hv.Ok ⟨hb, o, 2, cap, hc, ht⟩ x) (hD : ∀ p ∈ d_exl 64797 A L H x, p.1 = p.2) (w : World) (hS : SG w [Hv.row ⟨hb, o, 2, cap, hc, ht⟩, gRow m t] w) :
  Calls Try.prog 10 #[ins 64797 A B L H (.slice lv ln lc), Hv.v ⟨hb, o, 2, cap, hc, ht⟩] w fun e w' => ∃ β : Nat → Fr, e = .returned ((fun β => .tuple #[.slice (some ⟨(β 14).b, 0, none⟩) 1 (((.int .u64 (getI (one64 (Mv.exV 64797 A (both64 (x 0) (x 1)))) 64 0) :: (β 14).t) : List Value).length / 1), .int .i64 0]) β) ∧ SG w [(fun β => ⟨(β 14).b, .int .u64 (getI (one64 (Mv.exV 64797 A (both64 (x 0) (x 1)))) 64 0) :: (β 14).t, 22, true⟩) β] w' :=
 do_run m t ⟨64797, 13, l, ⟨#[118, 58, 108]⟩⟩ ⟨64797, 13, 0, ⟨#[118, 58, 108]⟩⟩ 2 0 [123] _ A B L H lv ln lc x [both64 (x 0) (x 1)] [both64 1234567890123456789 1235679001234567900] [both64 (x 0) (x 1), one64 (Mv.exV 64797 A (both64 (x 0) (x 1)))] [both64 1234567890123456789 1235679001234567900, one64 (Mv.exV 64797 1 (both64 1234567890123456789 1235679001234567900))] (fun β => .tuple #[.slice (some ⟨(β 14).b, 0, none⟩) 1 (((.int .u64 (getI (one64 (Mv.exV 64797 A (both64 (x 0) (x 1)))) 64 0) :: (β 14).t) : List Value).length / 1), .int .i64 0]) 0 (fun β => ⟨(β 14).b, .int .u64 (getI (one64 (Mv.exV 64797 A (both64 (x 0) (x 1)))) 64 0) :: (β 14).t, 22, true⟩) ([(decide (some (⟨hb, o, none⟩ : Addr) = some ⟨hb, o, none⟩), true), (decide (cap = cap), true)] ++ d_exl 64797 A L H x) t_exl (tr_d _ _ (tr_2 hb o cap) hD) (fun β => by kernel_rfl) (by repeat' (first | exact bnil | exact byt_both _ _ | exact byt_low32 _ | exact byt_one64 _ | exact byt_abi _ _ _ | exact byt_cp _ _ _ | exact byt_bits _ _ | exact byt_spl _ _ | apply byt_aun | apply byt_wun | apply byt_ash | apply byt_wbi | apply byt_re | apply byt_swz | apply byt_shfi | refine bcons ?_ ?_)) K ho (tk_v x) w hS
noncomputable def o_rei (op : Int) : List (Bool × Bool) := [(decide (op = op), true), (decide (op < 64768), false), (op == 64780, false), (op == 64781, false), (op == 64782, false), (inI op, true), (Mv.spW op != 0, false)]
noncomputable def d_rei (op A _L _H : Int) (_x : Nat → Int) : List (Bool × Bool) := o_rei op ++ [(decide (-9223372036854775808 ≤ A), true), (decide (A ≤ 9223372036854775807), true), ((if thereB (Mv.reW op) A = true then (0 : Int) else 1) != 0, false)]
def t_rei : List Nat := [0,0,0,0,0,0,0,0,0,0,0,0,0,0,0,0,12,11,10,0,0,0,0,0,9,8,7,6,5,0,2,0,1,0,0,0,0,0,0,0,4,4,4,4,0,0,0,3]
set_option maxRecDepth 100000 in
theorem do_rei (m : Int) (t : Gt) (op l A B L H : Int) (lv : Option Addr) (ln lc hb o cap : Nat) (hc : List Value) (ht : TypeId) (x : Nat → Int) (K : Known ⟨op, 13, l, ⟨#[118, 105, 58, 118]⟩⟩) (ho : Hv.Ok ⟨hb, o, 3, cap, hc, ht⟩ x) (hD : ∀ p ∈ d_rei op A L H x, p.1 = p.2) (w : World) (hS : SG w [Hv.row ⟨hb, o, 3, cap, hc, ht⟩, gRow m t] w) :
  Calls Try.prog 10 #[ins op A B L H (.slice lv ln lc), Hv.v ⟨hb, o, 3, cap, hc, ht⟩] w fun e w' => ∃ β : Nat → Fr, e = .returned ((fun β => .tuple #[.slice (some ⟨(β 14).b, 0, none⟩) 2 (((.int .u64 (getI (Mv.reV op A (getI (low32 ((x 2) % 4294967296)) 64 0) (both64 (x 0) (x 1))) 64 0) :: .int .u64 (getI (Mv.reV op A (getI (low32 ((x 2) % 4294967296)) 64 0) (both64 (x 0) (x 1))) 64 1) :: (β 14).t) : List Value).length / 1), .int .i64 0]) β) ∧ SG w [(fun β => ⟨(β 14).b, .int .u64 (getI (Mv.reV op A (getI (low32 ((x 2) % 4294967296)) 64 0) (both64 (x 0) (x 1))) 64 0) :: .int .u64 (getI (Mv.reV op A (getI (low32 ((x 2) % 4294967296)) 64 0) (both64 (x 0) (x 1))) 64 1) :: (β 14).t, 22, true⟩) β] w' :=
 do_run m t ⟨op, 13, l, ⟨#[118, 105, 58, 118]⟩⟩ ⟨64791, 13, 0, ⟨#[118, 105, 58, 118]⟩⟩ 2 0 [123, 127] _ A B L H lv ln lc x [both64 (x 0) (x 1), low32 ((x 2) % 4294967296)] [both64 1234567890123456789 1235679001234567900, low32 (1236790112345679011 % 4294967296)] [both64 (x 0) (x 1), low32 ((x 2) % 4294967296), Mv.reV op A (getI (low32 ((x 2) % 4294967296)) 64 0) (both64 (x 0) (x 1))] [both64 1234567890123456789 1235679001234567900, low32 (1236790112345679011 % 4294967296), Mv.reV 64791 1 (getI (low32 (1236790112345679011 % 4294967296)) 64 0) (both64 1234567890123456789 1235679001234567900)] (fun β => .tuple #[.slice (some ⟨(β 14).b, 0, none⟩) 2 (((.int .u64 (getI (Mv.reV op A (getI (low32 ((x 2) % 4294967296)) 64 0) (both64 (x 0) (x 1))) 64 0) :: .int .u64 (getI (Mv.reV op A (getI (low32 ((x 2) % 4294967296)) 64 0) (both64 (x 0) (x 1))) 64 1) :: (β 14).t) : List Value).length / 1), .int .i64 0]) 0 (fun β => ⟨(β 14).b, .int .u64 (getI (Mv.reV op A (getI (low32 ((x 2) % 4294967296)) 64 0) (both64 (x 0) (x 1))) 64 0) :: .int .u64 (getI (Mv.reV op A (getI (low32 ((x 2) % 4294967296)) 64 0) (both64 (x 0) (x 1))) 64 1) :: (β 14).t, 22, true⟩) ([(decide (some (⟨hb, o, none⟩ : Addr) = some ⟨hb, o, none⟩), true), (decide (cap = cap), true)] ++ d_rei op A L H x) t_rei (tr_d _ _ (tr_2 hb o cap) hD) (fun β => by kernel_rfl) (by repeat' (first | exact bnil | exact byt_both _ _ | exact byt_low32 _ | exact byt_one64 _ | exact byt_abi _ _ _ | exact byt_cp _ _ _ | exact byt_bits _ _ | exact byt_spl _ _ | apply byt_aun | apply byt_wun | apply byt_ash | apply byt_wbi | apply byt_re | apply byt_swz | apply byt_shfi | refine bcons ?_ ?_)) K ho (tk_vi x) w hS
noncomputable def o_rel (_op : Int) : List (Bool × Bool) := []
noncomputable def d_rel (op A _L _H : Int) (_x : Nat → Int) : List (Bool × Bool) := o_rel op ++ [(decide (-9223372036854775808 ≤ A), true), (decide (A ≤ 9223372036854775807), true), ((if thereB (Mv.reW 64798) A = true then (0 : Int) else 1) != 0, false)]
def t_rel : List Nat := [0,0,0,0,0,0,0,0,0,0,0,0,0,0,0,0,5,4,3,0,0,0,0,0,0,0,0,0,0,0,2,0,1,0,0,0,0,0,0,0,0,0,0,0,0,0,0,0]
set_option maxRecDepth 100000 in
theorem do_rel (m : Int) (t : Gt) (l A B L H : Int) (lv : Option Addr) (ln lc hb o cap : Nat) (hc : List Value) (ht : TypeId) (x : Nat → Int) (K : Known ⟨64798, 13, l, ⟨#[118, 108, 58, 118]⟩⟩) (ho : Hv.Ok ⟨hb, o, 3, cap, hc, ht⟩ x) (hD : ∀ p ∈ d_rel 64798 A L H x, p.1 = p.2) (w : World) (hS : SG w [Hv.row ⟨hb, o, 3, cap, hc, ht⟩, gRow m t] w) :
  Calls Try.prog 10 #[ins 64798 A B L H (.slice lv ln lc), Hv.v ⟨hb, o, 3, cap, hc, ht⟩] w fun e w' => ∃ β : Nat → Fr, e = .returned ((fun β => .tuple #[.slice (some ⟨(β 14).b, 0, none⟩) 2 (((.int .u64 (getI (Mv.reV 64798 A (getI (one64 (x 2)) 64 0) (both64 (x 0) (x 1))) 64 0) :: .int .u64 (getI (Mv.reV 64798 A (getI (one64 (x 2)) 64 0) (both64 (x 0) (x 1))) 64 1) :: (β 14).t) : List Value).length / 1), .int .i64 0]) β) ∧ SG w [(fun β => ⟨(β 14).b, .int .u64 (getI (Mv.reV 64798 A (getI (one64 (x 2)) 64 0) (both64 (x 0) (x 1))) 64 0) :: .int .u64 (getI (Mv.reV 64798 A (getI (one64 (x 2)) 64 0) (both64 (x 0) (x 1))) 64 1) :: (β 14).t, 22, true⟩) β] w' :=
 do_run m t ⟨64798, 13, l, ⟨#[118, 108, 58, 118]⟩⟩ ⟨64798, 13, 0, ⟨#[118, 108, 58, 118]⟩⟩ 2 0 [123, 126] _ A B L H lv ln lc x [both64 (x 0) (x 1), one64 (x 2)] [both64 1234567890123456789 1235679001234567900, one64 1236790112345679011] [both64 (x 0) (x 1), one64 (x 2), Mv.reV 64798 A (getI (one64 (x 2)) 64 0) (both64 (x 0) (x 1))] [both64 1234567890123456789 1235679001234567900, one64 1236790112345679011, Mv.reV 64798 1 (getI (one64 1236790112345679011) 64 0) (both64 1234567890123456789 1235679001234567900)] (fun β => .tuple #[.slice (some ⟨(β 14).b, 0, none⟩) 2 (((.int .u64 (getI (Mv.reV 64798 A (getI (one64 (x 2)) 64 0) (both64 (x 0) (x 1))) 64 0) :: .int .u64 (getI (Mv.reV 64798 A (getI (one64 (x 2)) 64 0) (both64 (x 0) (x 1))) 64 1) :: (β 14).t) : List Value).length / 1), .int .i64 0]) 0 (fun β => ⟨(β 14).b, .int .u64 (getI (Mv.reV 64798 A (getI (one64 (x 2)) 64 0) (both64 (x 0) (x 1))) 64 0) :: .int .u64 (getI (Mv.reV 64798 A (getI (one64 (x 2)) 64 0) (both64 (x 0) (x 1))) 64 1) :: (β 14).t, 22, true⟩) ([(decide (some (⟨hb, o, none⟩ : Addr) = some ⟨hb, o, none⟩), true), (decide (cap = cap), true)] ++ d_rel 64798 A L H x) t_rel (tr_d _ _ (tr_2 hb o cap) hD) (fun β => by kernel_rfl) (by repeat' (first | exact bnil | exact byt_both _ _ | exact byt_low32 _ | exact byt_one64 _ | exact byt_abi _ _ _ | exact byt_cp _ _ _ | exact byt_bits _ _ | exact byt_spl _ _ | apply byt_aun | apply byt_wun | apply byt_ash | apply byt_wbi | apply byt_re | apply byt_swz | apply byt_shfi | refine bcons ?_ ?_)) K ho (tk_vl x) w hS
noncomputable def o_shift (op : Int) : List (Bool × Bool) := [(decide (op = op), true), (decide (op < 64768), false), (op == 64780, false), (op == 64781, false), (op == 64782, false), (inI op, true), (Mv.spW op != 0, false), (bitN op != 0, false), ((if Ar.shOk op = true then (0 : Int) else 1) != 0, false)]
noncomputable def d_shift (op _A _L _H : Int) (x : Nat → Int) : List (Bool × Bool) := o_shift op ++ [(decide (0 ≤ IntKind.u32.wrap (getI (low32 (x 2 % 4294967296)) 64 0)), true), (decide (IntKind.u32.wrap (getI (low32 (x 2 % 4294967296)) 64 0) < 4294967296), true)]
def t_shift : List Nat := [0,0,0,0,0,0,0,0,0,0,0,0,0,0,0,0,11,13,12,0,0,0,10,0,0,0,0,0,0,9,8,7,6,5,0,2,0,1,0,0,0,0,0,0,0,4,4,4,4,0,0,0,3]
set_option maxRecDepth 100000 in
theorem do_shift (m : Int) (t : Gt) (op l A B L H : Int) (lv : Option Addr) (ln lc hb o cap : Nat) (hc : List Value) (ht : TypeId) (x : Nat → Int) (K : Known ⟨op, 1, l, ⟨#[118, 105, 58, 118]⟩⟩) (ho : Hv.Ok ⟨hb, o, 3, cap, hc, ht⟩ x) (hD : ∀ p ∈ d_shift op A L H x, p.1 = p.2) (w : World) (hS : SG w [Hv.row ⟨hb, o, 3, cap, hc, ht⟩, gRow m t] w) :
  Calls Try.prog 10 #[ins op A B L H (.slice lv ln lc), Hv.v ⟨hb, o, 3, cap, hc, ht⟩] w fun e w' => ∃ β : Nat → Fr, e = .returned ((fun β => .tuple #[.slice (some ⟨(β 16).b, 0, none⟩) 2 (((.int .u64 (getI (Ar.shV op (both64 (x 0) (x 1)) (IntKind.u32.wrap (getI (low32 ((x 2) % 4294967296)) 64 0))) 64 0) :: .int .u64 (getI (Ar.shV op (both64 (x 0) (x 1)) (IntKind.u32.wrap (getI (low32 ((x 2) % 4294967296)) 64 0))) 64 1) :: (β 16).t) : List Value).length / 1), .int .i64 0]) β) ∧ SG w [(fun β => ⟨(β 16).b, .int .u64 (getI (Ar.shV op (both64 (x 0) (x 1)) (IntKind.u32.wrap (getI (low32 ((x 2) % 4294967296)) 64 0))) 64 0) :: .int .u64 (getI (Ar.shV op (both64 (x 0) (x 1)) (IntKind.u32.wrap (getI (low32 ((x 2) % 4294967296)) 64 0))) 64 1) :: (β 16).t, 22, true⟩) β] w' :=
 do_run m t ⟨op, 1, l, ⟨#[118, 105, 58, 118]⟩⟩ ⟨64875, 1, 0, ⟨#[118, 105, 58, 118]⟩⟩ 2 0 [123, 127] _ A B L H lv ln lc x [both64 (x 0) (x 1), low32 ((x 2) % 4294967296)] [both64 1234567890123456789 1235679001234567900, low32 (1236790112345679011 % 4294967296)] [both64 (x 0) (x 1), low32 ((x 2) % 4294967296), Ar.shV op (both64 (x 0) (x 1)) (IntKind.u32.wrap (getI (low32 ((x 2) % 4294967296)) 64 0))] [both64 1234567890123456789 1235679001234567900, low32 (1236790112345679011 % 4294967296), Ar.shV 64875 (both64 1234567890123456789 1235679001234567900) (IntKind.u32.wrap (getI (low32 (1236790112345679011 % 4294967296)) 64 0))] (fun β => .tuple #[.slice (some ⟨(β 16).b, 0, none⟩) 2 (((.int .u64 (getI (Ar.shV op (both64 (x 0) (x 1)) (IntKind.u32.wrap (getI (low32 ((x 2) % 4294967296)) 64 0))) 64 0) :: .int .u64 (getI (Ar.shV op (both64 (x 0) (x 1)) (IntKind.u32.wrap (getI (low32 ((x 2) % 4294967296)) 64 0))) 64 1) :: (β 16).t) : List Value).length / 1), .int .i64 0]) 0 (fun β => ⟨(β 16).b, .int .u64 (getI (Ar.shV op (both64 (x 0) (x 1)) (IntKind.u32.wrap (getI (low32 ((x 2) % 4294967296)) 64 0))) 64 0) :: .int .u64 (getI (Ar.shV op (both64 (x 0) (x 1)) (IntKind.u32.wrap (getI (low32 ((x 2) % 4294967296)) 64 0))) 64 1) :: (β 16).t, 22, true⟩) ([(decide (some (⟨hb, o, none⟩ : Addr) = some ⟨hb, o, none⟩), true), (decide (cap = cap), true)] ++ d_shift op A L H x) t_shift (tr_d _ _ (tr_2 hb o cap) hD) (fun β => by kernel_rfl) (by repeat' (first | exact bnil | exact byt_both _ _ | exact byt_low32 _ | exact byt_one64 _ | exact byt_abi _ _ _ | exact byt_cp _ _ _ | exact byt_bits _ _ | exact byt_spl _ _ | apply byt_aun | apply byt_wun | apply byt_ash | apply byt_wbi | apply byt_re | apply byt_swz | apply byt_shfi | refine bcons ?_ ?_)) K ho (tk_vi x) w hS
noncomputable def o_abin (op : Int) : List (Bool × Bool) := [(decide (op = op), true), (decide (op < 64768), false), (op == 64780, false), (op == 64781, false), (op == 64782, false), (inI op, true), (Mv.spW op != 0, false), (bitN op != 0, false), ((if Ar.biOk op = true then (0 : Int) else 1) == 0, true), ((if Ar.biOk op = true then (0 : Int) else 1) != 0, false)]
noncomputable def d_abin (op _A _L _H : Int) (_x : Nat → Int) : List (Bool × Bool) := o_abin op ++ []
def t_abin : List Nat := [0,0,0,0,0,0,0,0,0,0,0,0,0,0,0,0,12,11,0,0,0,10,0,0,0,0,0,0,9,8,7,6,5,0,2,0,1,0,0,0,0,0,0,0,4,4,4,4,0,0,0,3]
set_option maxRecDepth 100000 in
theorem do_abin (m : Int) (t : Gt) (op l A B L H : Int) (lv : Option Addr) (ln lc hb o cap : Nat) (hc : List Value) (ht : TypeId) (x : Nat → Int) (K : Known ⟨op, 1, l, ⟨#[118, 118, 58, 118]⟩⟩) (ho : Hv.Ok ⟨hb, o, 4, cap, hc, ht⟩ x) (hD : ∀ p ∈ d_abin op A L H x, p.1 = p.2) (w : World) (hS : SG w [Hv.row ⟨hb, o, 4, cap, hc, ht⟩, gRow m t] w) :
  Calls Try.prog 10 #[ins op A B L H (.slice lv ln lc), Hv.v ⟨hb, o, 4, cap, hc, ht⟩] w fun e w' => ∃ β : Nat → Fr, e = .returned ((fun β => .tuple #[.slice (some ⟨(β 17).b, 0, none⟩) 2 (((.int .u64 (getI (Ar.biV op (both64 (x 0) (x 1)) (both64 (x 2) (x 3))) 64 0) :: .int .u64 (getI (Ar.biV op (both64 (x 0) (x 1)) (both64 (x 2) (x 3))) 64 1) :: (β 17).t) : List Value).length / 1), .int .i64 0]) β) ∧ SG w [(fun β => ⟨(β 17).b, .int .u64 (getI (Ar.biV op (both64 (x 0) (x 1)) (both64 (x 2) (x 3))) 64 0) :: .int .u64 (getI (Ar.biV op (both64 (x 0) (x 1)) (both64 (x 2) (x 3))) 64 1) :: (β 17).t, 22, true⟩) β] w' :=
 do_run m t ⟨op, 1, l, ⟨#[118, 118, 58, 118]⟩⟩ ⟨64878, 1, 0, ⟨#[118, 118, 58, 118]⟩⟩ 2 0 [123, 123] _ A B L H lv ln lc x [both64 (x 0) (x 1), both64 (x 2) (x 3)] [both64 1234567890123456789 1235679001234567900, both64 1236790112345679011 1237901223456790122] [both64 (x 0) (x 1), both64 (x 2) (x 3), Ar.biV op (both64 (x 0) (x 1)) (both64 (x 2) (x 3))] [both64 1234567890123456789 1235679001234567900, both64 1236790112345679011 1237901223456790122, Ar.biV 64878 (both64 1234567890123456789 1235679001234567900) (both64 1236790112345679011 1237901223456790122)] (fun β => .tuple #[.slice (some ⟨(β 17).b, 0, none⟩) 2 (((.int .u64 (getI (Ar.biV op (both64 (x 0) (x 1)) (both64 (x 2) (x 3))) 64 0) :: .int .u64 (getI (Ar.biV op (both64 (x 0) (x 1)) (both64 (x 2) (x 3))) 64 1) :: (β 17).t) : List Value).length / 1), .int .i64 0]) 0 (fun β => ⟨(β 17).b, .int .u64 (getI (Ar.biV op (both64 (x 0) (x 1)) (both64 (x 2) (x 3))) 64 0) :: .int .u64 (getI (Ar.biV op (both64 (x 0) (x 1)) (both64 (x 2) (x 3))) 64 1) :: (β 17).t, 22, true⟩) ([(decide (some (⟨hb, o, none⟩ : Addr) = some ⟨hb, o, none⟩), true), (decide (cap = cap), true)] ++ d_abin op A L H x) t_abin (tr_d _ _ (tr_2 hb o cap) hD) (fun β => by kernel_rfl) (by repeat' (first | exact bnil | exact byt_both _ _ | exact byt_low32 _ | exact byt_one64 _ | exact byt_abi _ _ _ | exact byt_cp _ _ _ | exact byt_bits _ _ | exact byt_spl _ _ | apply byt_aun | apply byt_wun | apply byt_ash | apply byt_wbi | apply byt_re | apply byt_swz | apply byt_shfi | refine bcons ?_ ?_)) K ho (tk_vv x) w hS
end Vc
end Go.Proofs.Ytjoalcaooccbiaa
/- VcDo4 -/
namespace Go.Proofs.Ytjoalcaooccbiaa
open Go.RowKit VecM Ev
namespace Vc
noncomputable def o_cmp (op : Int) : List (Bool × Bool) := [(decide (op = op), true), (decide (op < 64768), false), (op == 64780, false), (op == 64781, false), (op == 64782, false), (inI op, true), (Mv.spW op != 0, false), (bitN op != 0, false), ((if Ar.biOk op = true then (0 : Int) else 1) == 0, false), ((if Cp.cW op = 0 then (1 : Int) else 0) == 0, true), ((if Cp.cW op = 0 then (1 : Int) else 0) != 0, false)]
noncomputable def d_cmp (op _A _L _H : Int) (_x : Nat → Int) : List (Bool × Bool) := o_cmp op ++ []
def t_cmp : List Nat := [0,0,0,0,0,0,0,0,0,0,0,0,0,0,0,0,13,12,8,11,0,0,0,10,0,0,0,0,0,0,9,8,7,6,5,0,2,0,1,0,0,0,0,0,0,0,4,4,4,4,0,0,0,3]
set_option maxRecDepth 100000 in
theorem do_cmp (m : Int) (t : Gt) (op l A B L H : Int) (lv : Option Addr) (ln lc hb o cap : Nat) (hc : List Value) (ht : TypeId) (x : Nat → Int) (K : Known ⟨op, 1, l, ⟨#[118, 118, 58, 118]⟩⟩) (ho : Hv.Ok ⟨hb, o, 4, cap, hc, ht⟩ x) (hD : ∀ p ∈ d_cmp op A L H x, p.1 = p.2) (w : World) (hS : SG w [Hv.row ⟨hb, o, 4, cap, hc, ht⟩, gRow m t] w) :
  Calls Try.prog 10 #[ins op A B L H (.slice lv ln lc), Hv.v ⟨hb, o, 4, cap, hc, ht⟩] w fun e w' => ∃ β : Nat → Fr, e = .returned ((fun β => .tuple #[.slice (some ⟨(β 18).b, 0, none⟩) 2 (((.int .u64 (getI (Cp.cpV op (both64 (x 0) (x 1)) (both64 (x 2) (x 3))) 64 0) :: .int .u64 (getI (Cp.cpV op (both64 (x 0) (x 1)) (both64 (x 2) (x 3))) 64 1) :: (β 18).t) : List Value).length / 1), .int .i64 0]) β) ∧ SG w [(fun β => ⟨(β 18).b, .int .u64 (getI (Cp.cpV op (both64 (x 0) (x 1)) (both64 (x 2) (x 3))) 64 0) :: .int .u64 (getI (Cp.cpV op (both64 (x 0) (x 1)) (both64 (x 2) (x 3))) 64 1) :: (β 18).t, 22, true⟩) β] w' :=
 do_run m t ⟨op, 1, l, ⟨#[118, 118, 58, 118]⟩⟩ ⟨64804, 1, 0, ⟨#[118, 118, 58, 118]⟩⟩ 2 0 [123, 123] _ A B L H lv ln lc x [both64 (x 0) (x 1), both64 (x 2) (x 3)] [both64 1234567890123456789 1235679001234567900, both64 1236790112345679011 1237901223456790122] [both64 (x 0) (x 1), both64 (x 2) (x 3), Cp.cpV op (both64 (x 0) (x 1)) (both64 (x 2) (x 3))] [both64 1234567890123456789 1235679001234567900, both64 1236790112345679011 1237901223456790122, Cp.cpV 64804 (both64 1234567890123456789 1235679001234567900) (both64 1236790112345679011 1237901223456790122)] (fun β => .tuple #[.slice (some ⟨(β 18).b, 0, none⟩) 2 (((.int .u64 (getI (Cp.cpV op (both64 (x 0) (x 1)) (both64 (x 2) (x 3))) 64 0) :: .int .u64 (getI (Cp.cpV op (both64 (x 0) (x 1)) (both64 (x 2) (x 3))) 64 1) :: (β 18).t) : List Value).length / 1), .int .i64 0]) 0 (fun β => ⟨(β 18).b, .int .u64 (getI (Cp.cpV op (both64 (x 0) (x 1)) (both64 (x 2) (x 3))) 64 0) :: .int .u64 (getI (Cp.cpV op (both64 (x 0) (x 1)) (both64 (x 2) (x 3))) 64 1) :: (β 18).t, 22, true⟩) ([(decide (some (⟨hb, o, none⟩ : Addr) = some ⟨hb, o, none⟩), true), (decide (cap = cap), true)] ++ d_cmp op A L H x) t_cmp (tr_d _ _ (tr_2 hb o cap) hD) (fun β => by kernel_rfl) (by repeat' (first | exact bnil | exact byt_both _ _ | exact byt_low32 _ | exact byt_one64 _ | exact byt_abi _ _ _ | exact byt_cp _ _ _ | exact byt_bits _ _ | exact byt_spl _ _ | apply byt_aun | apply byt_wun | apply byt_ash | apply byt_wbi | apply byt_re | apply byt_swz | apply byt_shfi | refine bcons ?_ ?_)) K ho (tk_vv x) w hS
noncomputable def o_wbin (op : Int) : List (Bool × Bool) := [(decide (op = op), true), (decide (op < 64768), false), (op == 64780, false), (op == 64781, false), (op == 64782, false), (inI op, true), (Mv.spW op != 0, false), (bitN op != 0, false), ((if Ar.biOk op = true then (0 : Int) else 1) == 0, false), ((if Cp.cW op = 0 then (1 : Int) else 0) == 0, false), (Wd.biE op != 0, false)]
noncomputable def d_wbin (op _A _L _H : Int) (_x : Nat → Int) : List (Bool × Bool) := o_wbin op ++ []
def t_wbin : List Nat := [0,0,0,0,0,0,0,0,0,0,0,0,0,0,0,0,13,8,12,8,11,0,0,0,10,0,0,0,0,0,0,9,8,7,6,5,0,2,0,1,0,0,0,0,0,0,0,4,4,4,4,0,0,0,3]
set_option maxRecDepth 100000 in
theorem do_wbin (m : Int) (t : Gt) (op l A B L H : Int) (lv : Option Addr) (ln lc hb o cap : Nat) (hc : List Value) (ht : TypeId) (x : Nat → Int) (K : Known ⟨op, 1, l, ⟨#[118, 118, 58, 118]⟩⟩) (ho : Hv.Ok ⟨hb, o, 4, cap, hc, ht⟩ x) (hD : ∀ p ∈ d_wbin op A L H x, p.1 = p.2) (w : World) (hS : SG w [Hv.row ⟨hb, o, 4, cap, hc, ht⟩, gRow m t] w) :
  Calls Try.prog 10 #[ins op A B L H (.slice lv ln lc), Hv.v ⟨hb, o, 4, cap, hc, ht⟩] w fun e w' => ∃ β : Nat → Fr, e = .returned ((fun β => .tuple #[.slice (some ⟨(β 18).b, 0, none⟩) 2 (((.int .u64 (getI (Wd.biV op (both64 (x 0) (x 1)) (both64 (x 2) (x 3))) 64 0) :: .int .u64 (getI (Wd.biV op (both64 (x 0) (x 1)) (both64 (x 2) (x 3))) 64 1) :: (β 18).t) : List Value).length / 1), .int .i64 0]) β) ∧ SG w [(fun β => ⟨(β 18).b, .int .u64 (getI (Wd.biV op (both64 (x 0) (x 1)) (both64 (x 2) (x 3))) 64 0) :: .int .u64 (getI (Wd.biV op (both64 (x 0) (x 1)) (both64 (x 2) (x 3))) 64 1) :: (β 18).t, 22, true⟩) β] w' :=
 do_run m t ⟨op, 1, l, ⟨#[118, 118, 58, 118]⟩⟩ ⟨64924, 1, 0, ⟨#[118, 118, 58, 118]⟩⟩ 2 0 [123, 123] _ A B L H lv ln lc x [both64 (x 0) (x 1), both64 (x 2) (x 3)] [both64 1234567890123456789 1235679001234567900, both64 1236790112345679011 1237901223456790122] [both64 (x 0) (x 1), both64 (x 2) (x 3), Wd.biV op (both64 (x 0) (x 1)) (both64 (x 2) (x 3))] [both64 1234567890123456789 1235679001234567900, both64 1236790112345679011 1237901223456790122, Wd.biV 64924 (both64 1234567890123456789 1235679001234567900) (both64 1236790112345679011 1237901223456790122)] (fun β => .tuple #[.slice (some ⟨(β 18).b, 0, none⟩) 2 (((.int .u64 (getI (Wd.biV op (both64 (x 0) (x 1)) (both64 (x 2) (x 3))) 64 0) :: .int .u64 (getI (Wd.biV op (both64 (x 0) (x 1)) (both64 (x 2) (x 3))) 64 1) :: (β 18).t) : List Value).length / 1), .int .i64 0]) 0 (fun β => ⟨(β 18).b, .int .u64 (getI (Wd.biV op (both64 (x 0) (x 1)) (both64 (x 2) (x 3))) 64 0) :: .int .u64 (getI (Wd.biV op (both64 (x 0) (x 1)) (both64 (x 2) (x 3))) 64 1) :: (β 18).t, 22, true⟩) ([(decide (some (⟨hb, o, none⟩ : Addr) = some ⟨hb, o, none⟩), true), (decide (cap = cap), true)] ++ d_wbin op A L H x) t_wbin (tr_d _ _ (tr_2 hb o cap) hD) (fun β => by kernel_rfl) (by repeat' (first | exact bnil | exact byt_both _ _ | exact byt_low32 _ | exact byt_one64 _ | exact byt_abi _ _ _ | exact byt_cp _ _ _ | exact byt_bits _ _ | exact byt_spl _ _ | apply byt_aun | apply byt_wun | apply byt_ash | apply byt_wbi | apply byt_re | apply byt_swz | apply byt_shfi | refine bcons ?_ ?_)) K ho (tk_vv x) w hS
noncomputable def o_swz (_op : Int) : List (Bool × Bool) := []
noncomputable def d_swz (op _A _L _H : Int) (_x : Nat → Int) : List (Bool × Bool) := o_swz op ++ []
def t_swz : List Nat := [0,0,0,0,0,0,0,0,0,0,0,0,0,0,0,0,0,0,0,0,0,2,0,1,0,0,0,0,0,0,0,0,0,0,0,0,0,0,0]
set_option maxRecDepth 100000 in
theorem do_swz (m : Int) (t : Gt) (l A B L H : Int) (lv : Option Addr) (ln lc hb o cap : Nat) (hc : List Value) (ht : TypeId) (x : Nat → Int) (K : Known ⟨64782, 1, l, ⟨#[118, 118, 58, 118]⟩⟩) (ho : Hv.Ok ⟨hb, o, 4, cap, hc, ht⟩ x) (hD : ∀ p ∈ d_swz 64782 A L H x, p.1 = p.2) (w : World) (hS : SG w [Hv.row ⟨hb, o, 4, cap, hc, ht⟩, gRow m t] w) :
  Calls Try.prog 10 #[ins 64782 A B L H (.slice lv ln lc), Hv.v ⟨hb, o, 4, cap, hc, ht⟩] w fun e w' => ∃ β : Nat → Fr, e = .returned ((fun β => .tuple #[.slice (some ⟨(β 14).b, 0, none⟩) 2 (((.int .u64 (getI (Mv.swzV (both64 (x 0) (x 1)) (both64 (x 2) (x 3))) 64 0) :: .int .u64 (getI (Mv.swzV (both64 (x 0) (x 1)) (both64 (x 2) (x 3))) 64 1) :: (β 14).t) : List Value).length / 1), .int .i64 0]) β) ∧ SG w [(fun β => ⟨(β 14).b, .int .u64 (getI (Mv.swzV (both64 (x 0) (x 1)) (both64 (x 2) (x 3))) 64 0) :: .int .u64 (getI (Mv.swzV (both64 (x 0) (x 1)) (both64 (x 2) (x 3))) 64 1) :: (β 14).t, 22, true⟩) β] w' :=
 do_run m t ⟨64782, 1, l, ⟨#[118, 118, 58, 118]⟩⟩ ⟨64782, 1, 0, ⟨#[118, 118, 58, 118]⟩⟩ 2 0 [123, 123] _ A B L H lv ln lc x [both64 (x 0) (x 1), both64 (x 2) (x 3)] [both64 1234567890123456789 1235679001234567900, both64 1236790112345679011 1237901223456790122] [both64 (x 0) (x 1), both64 (x 2) (x 3), Mv.swzV (both64 (x 0) (x 1)) (both64 (x 2) (x 3))] [both64 1234567890123456789 1235679001234567900, both64 1236790112345679011 1237901223456790122, Mv.swzV (both64 1234567890123456789 1235679001234567900) (both64 1236790112345679011 1237901223456790122)] (fun β => .tuple #[.slice (some ⟨(β 14).b, 0, none⟩) 2 (((.int .u64 (getI (Mv.swzV (both64 (x 0) (x 1)) (both64 (x 2) (x 3))) 64 0) :: .int .u64 (getI (Mv.swzV (both64 (x 0) (x 1)) (both64 (x 2) (x 3))) 64 1) :: (β 14).t) : List Value).length / 1), .int .i64 0]) 0 (fun β => ⟨(β 14).b, .int .u64 (getI (Mv.swzV (both64 (x 0) (x 1)) (both64 (x 2) (x 3))) 64 0) :: .int .u64 (getI (Mv.swzV (both64 (x 0) (x 1)) (both64 (x 2) (x 3))) 64 1) :: (β 14).t, 22, true⟩) ([(decide (some (⟨hb, o, none⟩ : Addr) = some ⟨hb, o, none⟩), true), (decide (cap = cap), true)] ++ d_swz 64782 A L H x) t_swz (tr_d _ _ (tr_2 hb o cap) hD) (fun β => by kernel_rfl) (by repeat' (first | exact bnil | exact byt_both _ _ | exact byt_low32 _ | exact byt_one64 _ | exact byt_abi _ _ _ | exact byt_cp _ _ _ | exact byt_bits _ _ | exact byt_spl _ _ | apply byt_aun | apply byt_wun | apply byt_ash | apply byt_wbi | apply byt_re | apply byt_swz | apply byt_shfi | refine bcons ?_ ?_)) K ho (tk_vv x) w hS
noncomputable def o_shf (_op : Int) : List (Bool × Bool) := []
noncomputable def d_shf (op _A L H : Int) (_x : Nat → Int) : List (Bool × Bool) := o_shf op ++ [((if okS (both64 L H) = true then (0 : Int) else 1) != 0, false)]
def t_shf : List Nat := [0,0,0,0,0,0,0,0,0,0,0,0,0,0,0,0,3,0,0,0,2,0,1,0,0,0,0,0,0,0,0,0,0,0,0,0,0,0]
set_option maxRecDepth 100000 in
theorem do_shf (m : Int) (t : Gt) (l A B L H : Int) (lv : Option Addr) (ln lc hb o cap : Nat) (hc : List Value) (ht : TypeId) (x : Nat → Int) (K : Known ⟨64781, 12, l, ⟨#[118, 118, 58, 118]⟩⟩) (ho : Hv.Ok ⟨hb, o, 4, cap, hc, ht⟩ x) (hD : ∀ p ∈ d_shf 64781 A L H x, p.1 = p.2) (w : World) (hS : SG w [Hv.row ⟨hb, o, 4, cap, hc, ht⟩, gRow m t] w) :
  Calls Try.prog 10 #[ins 64781 A B L H (.slice lv ln lc), Hv.v ⟨hb, o, 4, cap, hc, ht⟩] w fun e w' => ∃ β : Nat → Fr, e = .returned ((fun β => .tuple #[.slice (some ⟨(β 14).b, 0, none⟩) 2 (((.int .u64 (getI (if okS (both64 L H) then Mv.shV (both64 (x 0) (x 1)) (both64 (x 2) (x 3)) (both64 L H) else fun _ => 0) 64 0) :: .int .u64 (getI (if okS (both64 L H) then Mv.shV (both64 (x 0) (x 1)) (both64 (x 2) (x 3)) (both64 L H) else fun _ => 0) 64 1) :: (β 14).t) : List Value).length / 1), .int .i64 0]) β) ∧ SG w [(fun β => ⟨(β 14).b, .int .u64 (getI (if okS (both64 L H) then Mv.shV (both64 (x 0) (x 1)) (both64 (x 2) (x 3)) (both64 L H) else fun _ => 0) 64 0) :: .int .u64 (getI (if okS (both64 L H) then Mv.shV (both64 (x 0) (x 1)) (both64 (x 2) (x 3)) (both64 L H) else fun _ => 0) 64 1) :: (β 14).t, 22, true⟩) β] w' :=
 do_run m t ⟨64781, 12, l, ⟨#[118, 118, 58, 118]⟩⟩ ⟨64781, 12, 0, ⟨#[118, 118, 58, 118]⟩⟩ 2 0 [123, 123] _ A B L H lv ln lc x [both64 (x 0) (x 1), both64 (x 2) (x 3)] [both64 1234567890123456789 1235679001234567900, both64 1236790112345679011 1237901223456790122] [both64 (x 0) (x 1), both64 (x 2) (x 3), both64 L H, if okS (both64 L H) then Mv.shV (both64 (x 0) (x 1)) (both64 (x 2) (x 3)) (both64 L H) else fun _ => 0] [both64 1234567890123456789 1235679001234567900, both64 1236790112345679011 1237901223456790122, both64 3 4, if okS (both64 3 4) then Mv.shV (both64 1234567890123456789 1235679001234567900) (both64 1236790112345679011 1237901223456790122) (both64 3 4) else fun _ => 0] (fun β => .tuple #[.slice (some ⟨(β 14).b, 0, none⟩) 2 (((.int .u64 (getI (if okS (both64 L H) then Mv.shV (both64 (x 0) (x 1)) (both64 (x 2) (x 3)) (both64 L H) else fun _ => 0) 64 0) :: .int .u64 (getI (if okS (both64 L H) then Mv.shV (both64 (x 0) (x 1)) (both64 (x 2) (x 3)) (both64 L H) else fun _ => 0) 64 1) :: (β 14).t) : List Value).length / 1), .int .i64 0]) 0 (fun β => ⟨(β 14).b, .int .u64 (getI (if okS (both64 L H) then Mv.shV (both64 (x 0) (x 1)) (both64 (x 2) (x 3)) (both64 L H) else fun _ => 0) 64 0) :: .int .u64 (getI (if okS (both64 L H) then Mv.shV (both64 (x 0) (x 1)) (both64 (x 2) (x 3)) (both64 L H) else fun _ => 0) 64 1) :: (β 14).t, 22, true⟩) ([(decide (some (⟨hb, o, none⟩ : Addr) = some ⟨hb, o, none⟩), true), (decide (cap = cap), true)] ++ d_shf 64781 A L H x) t_shf (tr_d _ _ (tr_2 hb o cap) hD) (fun β => by kernel_rfl) (by repeat' (first | exact bnil | exact byt_both _ _ | exact byt_low32 _ | exact byt_one64 _ | exact byt_abi _ _ _ | exact byt_cp _ _ _ | exact byt_bits _ _ | exact byt_spl _ _ | apply byt_aun | apply byt_wun | apply byt_ash | apply byt_wbi | apply byt_re | apply byt_swz | apply byt_shfi | refine bcons ?_ ?_)) K ho (tk_vv x) w hS
noncomputable def o_spi (op : Int) : List (Bool × Bool) := [(decide (op = op), true), (decide (op < 64768), false), (op == 64780, false), (op == 64781, false), (op == 64782, false), (inI op, true), (Mv.spW op != 0, true), (decide (-9223372036854775808 ≤ op), true), (decide (op ≤ 9223372036854775807), true), ((if Mv.spW op = 0 then (1 : Int) else 0) != 0, false)]
noncomputable def d_spi (op _A _L _H : Int) (_x : Nat → Int) : List (Bool × Bool) := o_spi op ++ []
def t_spi : List Nat := [0,0,0,0,0,0,0,0,0,0,0,0,0,0,0,0,12,11,10,9,8,7,6,5,0,2,0,1,0,0,0,0,0,0,0,4,4,4,4,0,0,0,3]
set_option maxRecDepth 100000 in
theorem do_spi (m : Int) (t : Gt) (op l A B L H : Int) (lv : Option Addr) (ln lc hb o cap : Nat) (hc : List Value) (ht : TypeId) (x : Nat → Int) (K : Known ⟨op, 1, l, ⟨#[105, 58, 118]⟩⟩) (ho : Hv.Ok ⟨hb, o, 1, cap, hc, ht⟩ x) (hD : ∀ p ∈ d_spi op A L H x, p.1 = p.2) (w : World) (hS : SG w [Hv.row ⟨hb, o, 1, cap, hc, ht⟩, gRow m t] w) :
  Calls Try.prog 10 #[ins op A B L H (.slice lv ln lc), Hv.v ⟨hb, o, 1, cap, hc, ht⟩] w fun e w' => ∃ β : Nat → Fr, e = .returned ((fun β => .tuple #[.slice (some ⟨(β 14).b, 0, none⟩) 2 (((.int .u64 (getI (Mv.splV (Mv.spW op) (getI (low32 ((x 0) % 4294967296)) 64 0)) 64 0) :: .int .u64 (getI (Mv.splV (Mv.spW op) (getI (low32 ((x 0) % 4294967296)) 64 0)) 64 1) :: (β 14).t) : List Value).length / 1), .int .i64 0]) β) ∧ SG w [(fun β => ⟨(β 14).b, .int .u64 (getI (Mv.splV (Mv.spW op) (getI (low32 ((x 0) % 4294967296)) 64 0)) 64 0) :: .int .u64 (getI (Mv.splV (Mv.spW op) (getI (low32 ((x 0) % 4294967296)) 64 0)) 64 1) :: (β 14).t, 22, true⟩) β] w' :=
 do_run m t ⟨op, 1, l, ⟨#[105, 58, 118]⟩⟩ ⟨64783, 1, 0, ⟨#[105, 58, 118]⟩⟩ 2 0 [127] _ A B L H lv ln lc x [low32 ((x 0) % 4294967296)] [low32 (1234567890123456789 % 4294967296)] [low32 ((x 0) % 4294967296), Mv.splV (Mv.spW op) (getI (low32 ((x 0) % 4294967296)) 64 0)] [low32 (1234567890123456789 % 4294967296), Mv.splV (Mv.spW 64783) (getI (low32 (1234567890123456789 % 4294967296)) 64 0)] (fun β => .tuple #[.slice (some ⟨(β 14).b, 0, none⟩) 2 (((.int .u64 (getI (Mv.splV (Mv.spW op) (getI (low32 ((x 0) % 4294967296)) 64 0)) 64 0) :: .int .u64 (getI (Mv.splV (Mv.spW op) (getI (low32 ((x 0) % 4294967296)) 64 0)) 64 1) :: (β 14).t) : List Value).length / 1), .int .i64 0]) 0 (fun β => ⟨(β 14).b, .int .u64 (getI (Mv.splV (Mv.spW op) (getI (low32 ((x 0) % 4294967296)) 64 0)) 64 0) :: .int .u64 (getI (Mv.splV (Mv.spW op) (getI (low32 ((x 0) % 4294967296)) 64 0)) 64 1) :: (β 14).t, 22, true⟩) ([(decide (some (⟨hb, o, none⟩ : Addr) = some ⟨hb, o, none⟩), true), (decide (cap = cap), true)] ++ d_spi op A L H x) t_spi (tr_d _ _ (tr_2 hb o cap) hD) (fun β => by kernel_rfl) (by repeat' (first | exact bnil | exact byt_both _ _ | exact byt_low32 _ | exact byt_one64 _ | exact byt_abi _ _ _ | exact byt_cp _ _ _ | exact byt_bits _ _ | exact byt_spl _ _ | apply byt_aun | apply byt_wun | apply byt_ash | apply byt_wbi | apply byt_re | apply byt_swz | apply byt_shfi | refine bcons ?_ ?_)) K ho (tk_i x) w hS
noncomputable def o_spl (_op : Int) : List (Bool × Bool) := []
noncomputable def d_spl (op _A _L _H : Int) (_x : Nat → Int) : List (Bool × Bool) := o_spl op ++ []
def t_spl : List Nat := [0,0,0,0,0,0,0,0,0,0,0,0,0,0,0,0,0,0,0,0,0,0,0,0,0,2,0,1,0,0,0,0,0,0,0,0,0,0,0,0,0,0,0]
set_option maxRecDepth 100000 in
theorem do_spl (m : Int) (t : Gt) (l A B L H : Int) (lv : Option Addr) (ln lc hb o cap : Nat) (hc : List Value) (ht : TypeId) (x : Nat → Int) (K : Known ⟨64786, 1, l, ⟨#[108, 58, 118]⟩⟩) (ho : Hv.Ok ⟨hb, o, 1, cap, hc, ht⟩ x) (hD : ∀ p ∈ d_spl 64786 A L H x, p.1 = p.2) (w : World) (hS : SG w [Hv.row ⟨hb, o, 1, cap, hc, ht⟩, gRow m t] w) :
  Calls Try.prog 10 #[ins 64786 A B L H (.slice lv ln lc), Hv.v ⟨hb, o, 1, cap, hc, ht⟩] w fun e w' => ∃ β : Nat → Fr, e = .returned ((fun β => .tuple #[.slice (some ⟨(β 14).b, 0, none⟩) 2 (((.int .u64 (getI (Mv.splV (Mv.spW 64786) (getI (one64 (x 0)) 64 0)) 64 0) :: .int .u64 (getI (Mv.splV (Mv.spW 64786) (getI (one64 (x 0)) 64 0)) 64 1) :: (β 14).t) : List Value).length / 1), .int .i64 0]) β) ∧ SG w [(fun β => ⟨(β 14).b, .int .u64 (getI (Mv.splV (Mv.spW 64786) (getI (one64 (x 0)) 64 0)) 64 0) :: .int .u64 (getI (Mv.splV (Mv.spW 64786) (getI (one64 (x 0)) 64 0)) 64 1) :: (β 14).t, 22, true⟩) β] w' :=
 do_run m t ⟨64786, 1, l, ⟨#[108, 58, 118]⟩⟩ ⟨64786, 1, 0, ⟨#[108, 58, 118]⟩⟩ 2 0 [126] _ A B L H lv ln lc x [one64 (x 0)] [one64 1234567890123456789] [one64 (x 0), Mv.splV (Mv.spW 64786) (getI (one64 (x 0)) 64 0)] [one64 1234567890123456789, Mv.splV (Mv.spW 64786) (getI (one64 1234567890123456789) 64 0)] (fun β => .tuple #[.slice (some ⟨(β 14).b, 0, none⟩) 2 (((.int .u64 (getI (Mv.splV (Mv.spW 64786) (getI (one64 (x 0)) 64 0)) 64 0) :: .int .u64 (getI (Mv.splV (Mv.spW 64786) (getI (one64 (x 0)) 64 0)) 64 1) :: (β 14).t) : List Value).length / 1), .int .i64 0]) 0 (fun β => ⟨(β 14).b, .int .u64 (getI (Mv.splV (Mv.spW 64786) (getI (one64 (x 0)) 64 0)) 64 0) :: .int .u64 (getI (Mv.splV (Mv.spW 64786) (getI (one64 (x 0)) 64 0)) 64 1) :: (β 14).t, 22, true⟩) ([(decide (some (⟨hb, o, none⟩ : Addr) = some ⟨hb, o, none⟩), true), (decide (cap = cap), true)] ++ d_spl 64786 A L H x) t_spl (tr_d _ _ (tr_2 hb o cap) hD) (fun β => by kernel_rfl) (by repeat' (first | exact bnil | exact byt_both _ _ | exact byt_low32 _ | exact byt_one64 _ | exact byt_abi _ _ _ | exact byt_cp _ _ _ | exact byt_bits _ _ | exact byt_spl _ _ | apply byt_aun | apply byt_wun | apply byt_ash | apply byt_wbi | apply byt_re | apply byt_swz | apply byt_shfi | refine bcons ?_ ?_)) K ho (tk_l x) w hS
end Vc
end Go.Proofs.Ytjoalcaooccbiaa
/- VcDc -/
namespace Go.Proofs.Ytjoalcaooccbiaa
open Go.RowKit VecM Ev
namespace Vc
noncomputable def of0V (q : Q) : List Fr → Value
 | [a, b] => .tuple #[.agg (Ins.inf q.f q.l (Ins.cutP q.s) (.slice (ptr0 a) (Ins.cutA q.s).size a.t.length) (.slice (some ⟨b.b, 0, none⟩) (Ins.cutB q.s).size (Ins.codes (Ins.cutB q.s) (Ins.cutB q.s).size ++ b.t).length)), .bool true]
 | _ => undef
noncomputable def of0L (q : Q) : List Fr → List Rw
 | [_, b] => [⟨b.b, Ins.codes (Ins.cutB q.s) (Ins.cutB q.s).size ++ b.t, 3, true⟩]
 | _ => []
noncomputable def of0S (g : Rw) (q : Q) : CsF := fun f args M =>
 match Nat.beq f 8 with
 | false => none
 | true => match args with
  | [.int .i64 z] => some ⟨setEnd M [g], [decide (z = q.n)], 2, of0V q, of0L q⟩
  | _ => none
theorem of0S_ok (m : Int) (t : Gt) (q : Q) (K : KnownP q) (hv : 64768 ≤ q.n) (hb : 0 < (Ins.cutB q.s).size) : COk (of0S (gRow m t) q) := by
 intro f args M H hq hrows hpre w0 w hS
 unfold of0S at hq
 split at hq
 ·cases hq
 ·rename_i hf
  obtain rfl := Nat.eq_of_beq_eq_true hf
  split at hq
  ·cases hq
   have hz := of_decide_eq_true (hpre _ (List.mem_cons_self ..))
   subst hz
   have hm : gRow m t ∈ M := by
    have := setEnd_mem (M := M) (L := [gRow m t]) (List.mem_cons_self ..)
    simp only at hrows
    rw [← hrows] at this
    exact this
   obtain ⟨fr, hrow, _⟩ := hS.row hm
   have hc : w.cell? ⟨0, 0, none⟩ = some (.int .i64 m) := (cell_of_row w 0 0 _ _ fr hrow).trans rfl
   rcases K.run with ⟨h1, h2, h3⟩ | ⟨h1, h3⟩
   ·refine (Ins.of_vec q.n _ q.f q.l q.s h1 h2 rfl K.f K.s K.a K.b h3 w ⟨m, hc⟩).mono ?_
    rintro e w' ⟨vi, vo, rfl, hg, h1, h2⟩
    obtain ⟨a, rfl⟩ := owns_ptr h1
    obtain ⟨b, rfl, hbb, hrb⟩ := owns_fr h2 hb
    exact ⟨[a, b], rfl, rfl, sg_lay (hS.grow hg) (Nat.le_trans hS.gr.size hbb) (fun r hr ho => by have := sg_old hS hr ho; omega) hrb⟩
   ·omega
  ·cases hq
noncomputable def takC (n : Nat) (z : Int) : CsF := fun f args M =>
 match Nat.beq f 32 with
 | false => none
 | true => match args with
  | [.slice _ 0 _, .slice _ n' _] => some ⟨M, [decide (n' = n)], 0, fun _ => .tuple #[.slice none 0 0, .int .i64 z], fun _ => []⟩
  | _ => none
theorem takC_ok (n : Nat) (z : Int) (hz : (n = 0 ∧ z = 0) ∨ (n ≠ 0 ∧ z = 1)) : COk (takC n z) := by
 intro f args M H hq hrows hpre w0 w hS
 unfold takC at hq
 split at hq
 ·cases hq
 ·rename_i hf
  obtain rfl := Nat.eq_of_beq_eq_true hf
  split at hq
  ·rename_i tp c hp n' cap'
   cases hq
   have p1 := of_decide_eq_true (hpre _ (List.mem_cons_self ..))
   subst p1
   rcases hz with ⟨rfl, rfl⟩ | ⟨hn, rfl⟩
   ·exact (take_zero tp hp c cap' w).mono fun e w' h => ⟨[], rfl, h.1, hS.grow h.2⟩
   ·refine (take_no (.slice tp 0 c) 0 n' hp cap' (fun _ => 0) w (by omega) (.inl ⟨rfl, _, _, rfl⟩) (fun h => hn ?_)).mono fun e w' h => ⟨[], rfl, h.1, hS.grow h.2⟩
    have := h.2
    unfold needN needS at this
    exact this.symm
  ·cases hq
noncomputable def qC : Q := ⟨64780, 11, 0, ⟨#[58, 118]⟩⟩
theorem kC : KnownP qC := ⟨by decide, by decide, by decide +kernel, by decide +kernel, .inl ⟨by decide, by decide, fun w => Ins.top_vm0 12 11 0 _ (by decide) (by decide) (fun w => Ins.vm_0 w) w⟩⟩
noncomputable def envC (m : Int) (t : Gt) (n : Nat) (z : Int) (L H : Int) : Env := { P := Try.prog, known := [both64 L H], sum := sumD, csum := orC (of0S (gRow m t) qC) (takC n z) }
theorem envC_ok (m : Int) (t : Gt) (n : Nat) (z : Int) (L H : Int) (hz : (n = 0 ∧ z = 0) ∨ (n ≠ 0 ∧ z = 1)) : OphOk (envC m t n z L H) := csum_of rfl (orC_ok (of0S_ok m t qC kC (by decide) (by decide +kernel)) (takC_ok n z hz))
noncomputable def coV (L H : Int) (β : Nat → Fr) : Value := .tuple #[.slice (some ⟨(β 15).b, 0, none⟩) 2 ((.int .u64 (getI (both64 L H) 64 0) :: .int .u64 (getI (both64 L H) 64 1) :: (β 15).t).length / 1), .int .i64 0]
noncomputable def coR (L H : Int) (β : Nat → Fr) : Rw := ⟨(β 15).b, .int .u64 (getI (both64 L H) 64 0) :: .int .u64 (getI (both64 L H) 64 1) :: (β 15).t, 22, true⟩
noncomputable def coPath (m : Int) (t : Gt) (A B L H : Int) (lv hp : Option Addr) (ln lc cap : Nat) (β : Nat → Fr) : Out :=
 evPathL (envC m t 0 0 L H) (envC 0 ⟨0, []⟩ 0 0 3 4) 400 10 [ins 64780 A B L H (.slice lv ln lc), .slice hp 0 cap] [ins 64780 1 0 3 4 (.slice none 0 0), .slice none 0 0] [gRow m t] [gRow 0 ⟨0, []⟩] (coV L H β) 0 (coR L H β) β
def t_co : List Nat := [0,0,0,0,0,0,0,0,0,0,0,0,0,0,0,0,0,0,0,0,0,0,0,0,0,0,0,0,0,0,0,0,0,0]
set_option maxRecDepth 100000 in
theorem do_const (m : Int) (t : Gt) (A B L H : Int) (lv hp : Option Addr) (ln lc cap : Nat) (w : World) (hS : SG w [gRow m t] w) :
  Calls Try.prog 10 #[ins 64780 A B L H (.slice lv ln lc), .slice hp 0 cap] w fun e w' => ∃ β : Nat → Fr, e = .returned (coV L H β) ∧ SG w [coR L H β] w' :=
 ev_callL (E := envC m t 0 0 L H) (E' := envC 0 ⟨0, []⟩ 0 0 3 4) rfl (sumD_ok rfl (bcons (byt_both _ _) bnil)) (fuel := 400) (args := [ins 64780 A B L H (.slice lv ln lc), .slice hp 0 cap]) (args' := [ins 64780 1 0 3 4 (.slice none 0 0), .slice none 0 0]) (M' := [gRow 0 ⟨0, []⟩]) (i := 0) [] t_co (fun p hp => by cases hp) (fun β => by kernel_rfl) w hS (ho := envC_ok m t 0 0 L H (.inl ⟨rfl, rfl⟩))
noncomputable def cnPath (m : Int) (t : Gt) (A B L H : Int) (lv hp : Option Addr) (ln lc n cap : Nat) (β : Nat → Fr) : Out :=
 evPathM (envC m t n 1 L H) (envC 0 ⟨0, []⟩ 5 1 3 4) 400 10 [ins 64780 A B L H (.slice lv ln lc), .slice hp n cap] [ins 64780 1 0 3 4 (.slice none 0 0), .slice none 5 5] [gRow m t] [gRow 0 ⟨0, []⟩] err1 β
def t_cn : List Nat := [0,1,0,0,0,0,0,0,0,0,0,0,0,0,0,0]
set_option maxRecDepth 100000 in
theorem do_constbad (m : Int) (t : Gt) (A B L H : Int) (lv hp : Option Addr) (ln lc n cap : Nat) (hn : n ≠ 0) (w : World) (hS : SG w [gRow m t] w) :
  Calls Try.prog 10 #[ins 64780 A B L H (.slice lv ln lc), .slice hp n cap] w fun e w' => e = .returned err1 ∧ Gr w w' :=
 ev_pathM (E := envC m t n 1 L H) (E' := envC 0 ⟨0, []⟩ 5 1 3 4) rfl (sumD_ok rfl (bcons (byt_both _ _) bnil)) (fuel := 400) (args := [ins 64780 A B L H (.slice lv ln lc), .slice hp n cap]) (args' := [ins 64780 1 0 3 4 (.slice none 0 0), .slice none 5 5]) (M' := [gRow 0 ⟨0, []⟩]) [(decide (n = n), true)] t_cn (fun p hp => by obtain rfl := List.mem_singleton.1 hp; exact decide_eq_true rfl) (fun β => by kernel_rfl) w hS (ho := envC_ok m t n 1 L H (.inr ⟨hn, rfl⟩))
noncomputable def envU (op : Int) : Env := { P := Try.prog, known := [], sum := fun _ _ => none, csum := ofUS op }
noncomputable def unPath (op A B L H : Int) (lv hp : Option Addr) (ln lc n cap : Nat) (β : Nat → Fr) : Out :=
 evPathM (envU op) (envU 5) 400 10 [ins op A B L H (.slice lv ln lc), .slice hp n cap] [ins 5 1 0 3 4 (.slice none 0 0), .slice none 5 5] [] [] err1 β
def t_un : List Nat := [0,0,0,0,0,0,0,0,0,0,0,0,0,1]
set_option maxRecDepth 100000 in
theorem do_none (op A B L H : Int) (K : Unknown op) (lv hp : Option Addr) (ln lc n cap : Nat) (w : World) :
  Calls Try.prog 10 #[ins op A B L H (.slice lv ln lc), .slice hp n cap] w fun e w' => e = .returned err1 ∧ Gr w w' :=
 ev_pathM (M := []) (E := envU op) (E' := envU 5) rfl (nosum_ok _ rfl) (fuel := 400) (args := [ins op A B L H (.slice lv ln lc), .slice hp n cap]) (args' := [ins 5 1 0 3 4 (.slice none 0 0), .slice none 5 5]) (M' := []) [(decide (op = op), true)] t_un (fun p hp => by obtain rfl := List.mem_singleton.1 hp; exact decide_eq_true rfl) (fun β => by kernel_rfl) w ⟨St.start w, fun r hr => by cases hr⟩ (ho := csum_of rfl (ofUS_ok op K))
noncomputable def envP (m : Int) (t : Gt) (q : Q) : Env := { P := Try.prog, known := [], sum := fun _ _ => none, csum := ofPS (gRow m t) q }
noncomputable def knPath (m : Int) (t : Gt) (q q' : Q) (A B L H : Int) (lv hp : Option Addr) (ln lc n cap : Nat) (β : Nat → Fr) : Out :=
 evPathM (envP m t q) (envP 0 ⟨0, []⟩ q') 400 10 [ins q.n A B L H (.slice lv ln lc), .slice hp n cap] [ins q'.n 1 0 3 4 (.slice none 0 0), .slice none 5 5] [gRow m t] [gRow 0 ⟨0, []⟩] err1 β
def t_sca : List Nat := [0,0,0,0,0,0,2,2,2,2,0,0,0,1]
set_option maxRecDepth 100000 in
theorem do_sca (m : Int) (t : Gt) (q : Q) (K : KnownP q) (hq : q.n < 64768) (A B L H : Int) (lv hp : Option Addr) (ln lc n cap : Nat) (w : World) (hS : SG w [gRow m t] w) :
  Calls Try.prog 10 #[ins q.n A B L H (.slice lv ln lc), .slice hp n cap] w fun e w' => e = .returned err1 ∧ Gr w w' :=
 ev_pathM (E := envP m t q) (E' := envP 0 ⟨0, []⟩ ⟨106, 1, 0, ⟨#[105, 58, 105]⟩⟩) rfl (nosum_ok _ rfl) (fuel := 400) (args := [ins q.n A B L H (.slice lv ln lc), .slice hp n cap]) (args' := [ins 106 1 0 3 4 (.slice none 0 0), .slice none 5 5]) (M' := [gRow 0 ⟨0, []⟩]) [(decide (q.n = q.n), true), (decide (q.n < 64768), true)] t_sca (fun p hp => by
  rcases List.mem_cons.1 hp with rfl | hp
  ·exact decide_eq_true rfl
  ·obtain rfl := List.mem_singleton.1 hp
   exact decide_eq_true hq) (fun β => by kernel_rfl) w hS (ho := csum_of rfl (ofPS_ok m t q K))
def t_mem7 : List Nat := [0,0,0,0,0,0,2,2,2,2,0,0,0,1]
def t_mem8 : List Nat := [0,0,0,0,0,0,2,2,2,2,0,0,0,1]
theorem tr_m (op : Int) (h : ¬ op < 64768) : ∀ p ∈ [(decide (op = op), true), (decide (op < 64768), false)], p.1 = p.2 := fun p hp => by
 rcases List.mem_cons.1 hp with rfl | hp
 ·exact decide_eq_true rfl
 ·obtain rfl := List.mem_singleton.1 hp
  exact decide_eq_false h
set_option maxRecDepth 100000 in
theorem do_mem7 (m : Int) (t : Gt) (op l : Int) (s : ByteArray) (K : KnownP ⟨op, 7, l, s⟩) (hq : ¬ op < 64768) (A B L H : Int) (lv hp : Option Addr) (ln lc n cap : Nat) (w : World) (hS : SG w [gRow m t] w) :
  Calls Try.prog 10 #[ins op A B L H (.slice lv ln lc), .slice hp n cap] w fun e w' => e = .returned err1 ∧ Gr w w' :=
 ev_pathM (E := envP m t ⟨op, 7, l, s⟩) (E' := envP 0 ⟨0, []⟩ ⟨64768, 7, 0, ⟨#[105, 58, 105]⟩⟩) rfl (nosum_ok _ rfl) (fuel := 400) (args := [ins op A B L H (.slice lv ln lc), .slice hp n cap]) (args' := [ins 64768 1 0 3 4 (.slice none 0 0), .slice none 5 5]) (M' := [gRow 0 ⟨0, []⟩]) [(decide (op = op), true), (decide (op < 64768), false)] t_mem7 (tr_m op hq) (fun β => by kernel_rfl) w hS (ho := csum_of rfl (ofPS_ok m t _ K))
set_option maxRecDepth 100000 in
theorem do_mem8 (m : Int) (t : Gt) (op l : Int) (s : ByteArray) (K : KnownP ⟨op, 8, l, s⟩) (hq : ¬ op < 64768) (A B L H : Int) (lv hp : Option Addr) (ln lc n cap : Nat) (w : World) (hS : SG w [gRow m t] w) :
  Calls Try.prog 10 #[ins op A B L H (.slice lv ln lc), .slice hp n cap] w fun e w' => e = .returned err1 ∧ Gr w w' :=
 ev_pathM (E := envP m t ⟨op, 8, l, s⟩) (E' := envP 0 ⟨0, []⟩ ⟨64768, 8, 0, ⟨#[105, 58, 105]⟩⟩) rfl (nosum_ok _ rfl) (fuel := 400) (args := [ins op A B L H (.slice lv ln lc), .slice hp n cap]) (args' := [ins 64768 1 0 3 4 (.slice none 0 0), .slice none 5 5]) (M' := [gRow 0 ⟨0, []⟩]) [(decide (op = op), true), (decide (op < 64768), false)] t_mem8 (tr_m op hq) (fun β => by kernel_rfl) w hS (ho := csum_of rfl (ofPS_ok m t _ K))
end Vc
end Go.Proofs.Ytjoalcaooccbiaa
/- VcIs -/
namespace Go.Proofs.Ytjoalcaooccbiaa
open Go.RowKit VecM Ev
namespace Vc
inductive Pa where
 | no | mem | co | aun | wun | bits77 | bits78 | bits79 | bits80 | bits81 | bits82 | test | exi | exl | rei | rel | shift | abin | cmp | wbin | swz | shf | spi | spl
def u64s (l : List Int) : List Value := l.map fun z => .int .u64 z
def Ans (ys : List Int) (w : World) (e : Ending) (w' : World) : Prop := ∃ (b : Nat) (tl : List Value), e = .returned (.tuple #[.slice (some ⟨b, 0, none⟩) ys.length ((u64s ys ++ tl).length / 1), .int .i64 0]) ∧ SG w [⟨b, u64s ys ++ tl, 22, true⟩] w'
def Err (w : World) (e : Ending) (w' : World) : Prop := e = .returned err1 ∧ Gr w w'
def AnsOr (ok : Bool) (ys : List Int) (w : World) (e : Ending) (w' : World) : Prop := if ok = true then Ans ys w e w' else Err w e w'
def DoIs (m : Int) (t : Gt) (op A L H : Int) (need : Nat) (Y : (Nat → Int) → List Int) (ok : Bool) : Prop :=
 (∀ (B : Int) (lv hp : Option Addr) (ln lc n cap : Nat), n ≠ need → ∀ w, SG w [gRow m t] w → Calls Try.prog 10 #[ins op A B L H (.slice lv ln lc), .slice hp n cap] w (Err w)) ∧
 (∀ (B : Int) (lv : Option Addr) (ln lc : Nat) (h : Hv) (x : Nat → Int), h.n = need → h.Ok x → ∀ w, SG w [h.row, gRow m t] w → Calls Try.prog 10 #[ins op A B L H (.slice lv ln lc), h.v] w (AnsOr ok (Y x) w))
theorem ans_t {ok : Bool} {ys : List Int} {w w' : World} {e : Ending} (h : ok = true) (h2 : Ans ys w e w') : AnsOr ok ys w e w' := by unfold AnsOr; rw [if_pos h]; exact h2
theorem ans_f {ok : Bool} {ys : List Int} {w w' : World} {e : Ending} (h : ok = false) (h2 : Err w e w') : AnsOr ok ys w e w' := by unfold AnsOr; rw [if_neg (by rw [h]; decide)]; exact h2
theorem sg_g {w0 w : World} {r g : Rw} (h : SG w0 [r, g] w) : SG w0 [g] w := h.sub (List.sublist_cons_self ..)
theorem no_two (b : Bool) (h : ∀ p ∈ [(((if b = true then (0 : Int) else 1) != 0), false)], p.1 = p.2) : b = true := by
 have := h _ (List.mem_cons_self ..)
 cases b
 ·cases this
 ·rfl
def allP (l : List (Bool × Bool)) : Bool := l.all fun p => p.1 == p.2
theorem allP_out {l : List (Bool × Bool)} (h : allP l = true) : ∀ p ∈ l, p.1 = p.2 := fun p hp => by simpa using List.all_eq_true.1 h p hp
theorem app_d {a b : List (Bool × Bool)} (h : ∀ p ∈ a, p.1 = p.2) (h' : ∀ p ∈ b, p.1 = p.2) : ∀ p ∈ a ++ b, p.1 = p.2 := tr_d a b h h'
theorem nil_d : ∀ p ∈ ([] : List (Bool × Bool)), p.1 = p.2 := fun p h => by cases h
theorem cons_d {x : Bool × Bool} {l : List (Bool × Bool)} (h : x.1 = x.2) (h' : ∀ p ∈ l, p.1 = p.2) : ∀ p ∈ x :: l, p.1 = p.2 := fun p hp => by
 rcases List.mem_cons.1 hp with rfl | hp
 ·exact h
 ·exact h' p hp
theorem u32_lo (z : Int) : decide (0 ≤ IntKind.u32.wrap z) = true := decide_eq_true (by rw [IntKind.wrap_u32]; omega)
theorem u32_hi (z : Int) : decide (IntKind.u32.wrap z < 4294967296) = true := decide_eq_true (by rw [IntKind.wrap_u32]; omega)
def formP : Pa → Int
 | .aun => 1
 | .wun => 1
 | .bits77 => 1
 | .bits78 => 1
 | .bits79 => 1
 | .bits80 => 1
 | .bits81 => 1
 | .bits82 => 1
 | .test => 1
 | .exi => 13
 | .exl => 13
 | .rei => 13
 | .rel => 13
 | .shift => 1
 | .abin => 1
 | .cmp => 1
 | .wbin => 1
 | .swz => 1
 | .shf => 12
 | .spi => 1
 | .spl => 1
 | _ => 0
def strP : Pa → ByteArray
 | .aun => ⟨#[118, 58, 118]⟩
 | .wun => ⟨#[118, 58, 118]⟩
 | .bits77 => ⟨#[118, 58, 118]⟩
 | .bits78 => ⟨#[118, 118, 58, 118]⟩
 | .bits79 => ⟨#[118, 118, 58, 118]⟩
 | .bits80 => ⟨#[118, 118, 58, 118]⟩
 | .bits81 => ⟨#[118, 118, 58, 118]⟩
 | .bits82 => ⟨#[118, 118, 118, 58, 118]⟩
 | .test => ⟨#[118, 58, 105]⟩
 | .exi => ⟨#[118, 58, 105]⟩
 | .exl => ⟨#[118, 58, 108]⟩
 | .rei => ⟨#[118, 105, 58, 118]⟩
 | .rel => ⟨#[118, 108, 58, 118]⟩
 | .shift => ⟨#[118, 105, 58, 118]⟩
 | .abin => ⟨#[118, 118, 58, 118]⟩
 | .cmp => ⟨#[118, 118, 58, 118]⟩
 | .wbin => ⟨#[118, 118, 58, 118]⟩
 | .swz => ⟨#[118, 118, 58, 118]⟩
 | .shf => ⟨#[118, 118, 58, 118]⟩
 | .spi => ⟨#[105, 58, 118]⟩
 | .spl => ⟨#[108, 58, 118]⟩
 | _ => ⟨#[]⟩
def needP : Pa → Nat
 | .aun => 2
 | .wun => 2
 | .bits77 => 2
 | .bits78 => 4
 | .bits79 => 4
 | .bits80 => 4
 | .bits81 => 4
 | .bits82 => 6
 | .test => 2
 | .exi => 2
 | .exl => 2
 | .rei => 3
 | .rel => 3
 | .shift => 3
 | .abin => 4
 | .cmp => 4
 | .wbin => 4
 | .swz => 4
 | .shf => 4
 | .spi => 1
 | .spl => 1
 | _ => 0
noncomputable def testP (p : Pa) (op : Int) : Bool := match p with
 | .aun => allP (o_aun op)
 | .wun => allP (o_wun op)
 | .bits77 => decide (op = 64845)
 | .bits78 => decide (op = 64846)
 | .bits79 => decide (op = 64847)
 | .bits80 => decide (op = 64848)
 | .bits81 => decide (op = 64849)
 | .bits82 => decide (op = 64850)
 | .test => allP (o_test op)
 | .exi => allP (o_exi op)
 | .exl => decide (op = 64797)
 | .rei => allP (o_rei op)
 | .rel => decide (op = 64798)
 | .shift => allP (o_shift op)
 | .abin => allP (o_abin op)
 | .cmp => allP (o_cmp op)
 | .wbin => allP (o_wbin op)
 | .swz => decide (op = 64782)
 | .shf => decide (op = 64781)
 | .spi => allP (o_spi op)
 | .spl => decide (op = 64786)
 | _ => true
noncomputable def vecP (p : Pa) (op A L H : Int) (x : Nat → Int) : Nat → Int := match p with
 | .aun => Ar.unV op (both64 (x 0) (x 1))
 | .wun => Wd.unV op (both64 (x 0) (x 1))
 | .bits77 => bitsV 64845 [both64 (x 0) (x 1)]
 | .bits78 => bitsV 64846 [both64 (x 0) (x 1), both64 (x 2) (x 3)]
 | .bits79 => bitsV 64847 [both64 (x 0) (x 1), both64 (x 2) (x 3)]
 | .bits80 => bitsV 64848 [both64 (x 0) (x 1), both64 (x 2) (x 3)]
 | .bits81 => bitsV 64849 [both64 (x 0) (x 1), both64 (x 2) (x 3)]
 | .bits82 => bitsV 64850 [both64 (x 0) (x 1), both64 (x 2) (x 3), both64 (x 4) (x 5)]
 | .test => one64 (IntKind.u64.wrap (Cp.tsV op (both64 (x 0) (x 1))))
 | .exi => one64 (Mv.exV op A (both64 (x 0) (x 1)))
 | .exl => one64 (Mv.exV 64797 A (both64 (x 0) (x 1)))
 | .rei => Mv.reV op A (getI (low32 (x 2 % 4294967296)) 64 0) (both64 (x 0) (x 1))
 | .rel => Mv.reV 64798 A (getI (one64 (x 2)) 64 0) (both64 (x 0) (x 1))
 | .shift => Ar.shV op (both64 (x 0) (x 1)) (IntKind.u32.wrap (getI (low32 (x 2 % 4294967296)) 64 0))
 | .abin => Ar.biV op (both64 (x 0) (x 1)) (both64 (x 2) (x 3))
 | .cmp => Cp.cpV op (both64 (x 0) (x 1)) (both64 (x 2) (x 3))
 | .wbin => Wd.biV op (both64 (x 0) (x 1)) (both64 (x 2) (x 3))
 | .swz => Mv.swzV (both64 (x 0) (x 1)) (both64 (x 2) (x 3))
 | .shf => if okS (both64 L H) then Mv.shV (both64 (x 0) (x 1)) (both64 (x 2) (x 3)) (both64 L H) else fun _ => 0
 | .spi => Mv.splV (Mv.spW op) (getI (low32 (x 0 % 4294967296)) 64 0)
 | .spl => Mv.splV (Mv.spW 64786) (getI (one64 (x 0)) 64 0)
 | _ => fun _ => 0
noncomputable def okP (p : Pa) (op A L H : Int) : Bool := match p with
 | .exi => thereB (Mv.exW op) A
 | .exl => thereB (Mv.exW 64797) A
 | .rei => thereB (Mv.reW op) A
 | .rel => thereB (Mv.reW 64798) A
 | .shf => okS (both64 L H)
 | _ => true
noncomputable def ansP (p : Pa) (op A L H : Int) (x : Nat → Int) : List Int := match p with
 | .test => [getI (vecP .test op A L H x) 32 0]
 | .exi => [getI (vecP .exi op A L H x) 32 0]
 | .exl => [getI (vecP .exl op A L H x) 64 0]
 | p => [getI (vecP p op A L H x) 64 0, getI (vecP p op A L H x) 64 1]
theorem is_aun (m : Int) (t : Gt) (op l A L H : Int) (_hA : inI A = true) (hf : testP .aun op = true) (K : Known ⟨op, formP .aun, l, strP .aun⟩) : DoIs m t op A L H (needP .aun) (ansP .aun op A L H) (okP .aun op A L H) := by
 refine ⟨fun B lv hp ln lc n cap hn w hS => do_no_v_v_1 m t _ l A B L H lv hp ln lc n cap K hn w hS, fun B lv ln lc h x hn ho w hS => ?_⟩
 obtain ⟨hb, o, n, cap, hc, ht⟩ := h
 obtain rfl : n = 2 := hn
 exact (do_aun m t op l A B L H lv ln lc hb o cap hc ht x K ho (app_d (allP_out hf) (nil_d)) w hS).mono fun e w' ⟨β, he, hs⟩ => ⟨(β 17).b, (β 17).t, he, hs⟩
theorem is_wun (m : Int) (t : Gt) (op l A L H : Int) (_hA : inI A = true) (hf : testP .wun op = true) (K : Known ⟨op, formP .wun, l, strP .wun⟩) : DoIs m t op A L H (needP .wun) (ansP .wun op A L H) (okP .wun op A L H) := by
 refine ⟨fun B lv hp ln lc n cap hn w hS => do_no_v_v_1 m t _ l A B L H lv hp ln lc n cap K hn w hS, fun B lv ln lc h x hn ho w hS => ?_⟩
 obtain ⟨hb, o, n, cap, hc, ht⟩ := h
 obtain rfl : n = 2 := hn
 exact (do_wun m t op l A B L H lv ln lc hb o cap hc ht x K ho (app_d (allP_out hf) (nil_d)) w hS).mono fun e w' ⟨β, he, hs⟩ => ⟨(β 17).b, (β 17).t, he, hs⟩
theorem is_bits77 (m : Int) (t : Gt) (op l A L H : Int) (_hA : inI A = true) (hf : testP .bits77 op = true) (K : Known ⟨op, formP .bits77, l, strP .bits77⟩) : DoIs m t op A L H (needP .bits77) (ansP .bits77 op A L H) (okP .bits77 op A L H) := by
 obtain rfl := of_decide_eq_true hf
 refine ⟨fun B lv hp ln lc n cap hn w hS => do_no_v_v_1 m t _ l A B L H lv hp ln lc n cap K hn w hS, fun B lv ln lc h x hn ho w hS => ?_⟩
 obtain ⟨hb, o, n, cap, hc, ht⟩ := h
 obtain rfl : n = 2 := hn
 exact (do_bits77 m t l A B L H lv ln lc hb o cap hc ht x K ho (app_d nil_d (nil_d)) w hS).mono fun e w' ⟨β, he, hs⟩ => ⟨(β 14).b, (β 14).t, he, hs⟩
theorem is_bits78 (m : Int) (t : Gt) (op l A L H : Int) (_hA : inI A = true) (hf : testP .bits78 op = true) (K : Known ⟨op, formP .bits78, l, strP .bits78⟩) : DoIs m t op A L H (needP .bits78) (ansP .bits78 op A L H) (okP .bits78 op A L H) := by
 obtain rfl := of_decide_eq_true hf
 refine ⟨fun B lv hp ln lc n cap hn w hS => do_no_vv_v_1 m t _ l A B L H lv hp ln lc n cap K hn w hS, fun B lv ln lc h x hn ho w hS => ?_⟩
 obtain ⟨hb, o, n, cap, hc, ht⟩ := h
 obtain rfl : n = 4 := hn
 exact (do_bits78 m t l A B L H lv ln lc hb o cap hc ht x K ho (app_d nil_d (nil_d)) w hS).mono fun e w' ⟨β, he, hs⟩ => ⟨(β 14).b, (β 14).t, he, hs⟩
theorem is_bits79 (m : Int) (t : Gt) (op l A L H : Int) (_hA : inI A = true) (hf : testP .bits79 op = true) (K : Known ⟨op, formP .bits79, l, strP .bits79⟩) : DoIs m t op A L H (needP .bits79) (ansP .bits79 op A L H) (okP .bits79 op A L H) := by
 obtain rfl := of_decide_eq_true hf
 refine ⟨fun B lv hp ln lc n cap hn w hS => do_no_vv_v_1 m t _ l A B L H lv hp ln lc n cap K hn w hS, fun B lv ln lc h x hn ho w hS => ?_⟩
 obtain ⟨hb, o, n, cap, hc, ht⟩ := h
 obtain rfl : n = 4 := hn
 exact (do_bits79 m t l A B L H lv ln lc hb o cap hc ht x K ho (app_d nil_d (nil_d)) w hS).mono fun e w' ⟨β, he, hs⟩ => ⟨(β 14).b, (β 14).t, he, hs⟩
theorem is_bits80 (m : Int) (t : Gt) (op l A L H : Int) (_hA : inI A = true) (hf : testP .bits80 op = true) (K : Known ⟨op, formP .bits80, l, strP .bits80⟩) : DoIs m t op A L H (needP .bits80) (ansP .bits80 op A L H) (okP .bits80 op A L H) := by
 obtain rfl := of_decide_eq_true hf
 refine ⟨fun B lv hp ln lc n cap hn w hS => do_no_vv_v_1 m t _ l A B L H lv hp ln lc n cap K hn w hS, fun B lv ln lc h x hn ho w hS => ?_⟩
 obtain ⟨hb, o, n, cap, hc, ht⟩ := h
 obtain rfl : n = 4 := hn
 exact (do_bits80 m t l A B L H lv ln lc hb o cap hc ht x K ho (app_d nil_d (nil_d)) w hS).mono fun e w' ⟨β, he, hs⟩ => ⟨(β 14).b, (β 14).t, he, hs⟩
theorem is_bits81 (m : Int) (t : Gt) (op l A L H : Int) (_hA : inI A = true) (hf : testP .bits81 op = true) (K : Known ⟨op, formP .bits81, l, strP .bits81⟩) : DoIs m t op A L H (needP .bits81) (ansP .bits81 op A L H) (okP .bits81 op A L H) := by
 obtain rfl := of_decide_eq_true hf
 refine ⟨fun B lv hp ln lc n cap hn w hS => do_no_vv_v_1 m t _ l A B L H lv hp ln lc n cap K hn w hS, fun B lv ln lc h x hn ho w hS => ?_⟩
 obtain ⟨hb, o, n, cap, hc, ht⟩ := h
 obtain rfl : n = 4 := hn
 exact (do_bits81 m t l A B L H lv ln lc hb o cap hc ht x K ho (app_d nil_d (nil_d)) w hS).mono fun e w' ⟨β, he, hs⟩ => ⟨(β 14).b, (β 14).t, he, hs⟩
theorem is_bits82 (m : Int) (t : Gt) (op l A L H : Int) (_hA : inI A = true) (hf : testP .bits82 op = true) (K : Known ⟨op, formP .bits82, l, strP .bits82⟩) : DoIs m t op A L H (needP .bits82) (ansP .bits82 op A L H) (okP .bits82 op A L H) := by
 obtain rfl := of_decide_eq_true hf
 refine ⟨fun B lv hp ln lc n cap hn w hS => do_no_vvv_v_1 m t _ l A B L H lv hp ln lc n cap K hn w hS, fun B lv ln lc h x hn ho w hS => ?_⟩
 obtain ⟨hb, o, n, cap, hc, ht⟩ := h
 obtain rfl : n = 6 := hn
 exact (do_bits82 m t l A B L H lv ln lc hb o cap hc ht x K ho (app_d nil_d (nil_d)) w hS).mono fun e w' ⟨β, he, hs⟩ => ⟨(β 14).b, (β 14).t, he, hs⟩
theorem is_test (m : Int) (t : Gt) (op l A L H : Int) (_hA : inI A = true) (hf : testP .test op = true) (K : Known ⟨op, formP .test, l, strP .test⟩) : DoIs m t op A L H (needP .test) (ansP .test op A L H) (okP .test op A L H) := by
 refine ⟨fun B lv hp ln lc n cap hn w hS => do_no_v_i_1 m t _ l A B L H lv hp ln lc n cap K hn w hS, fun B lv ln lc h x hn ho w hS => ?_⟩
 obtain ⟨hb, o, n, cap, hc, ht⟩ := h
 obtain rfl : n = 2 := hn
 exact (do_test m t op l A B L H lv ln lc hb o cap hc ht x K ho (app_d (allP_out hf) (nil_d)) w hS).mono fun e w' ⟨β, he, hs⟩ => ⟨(β 16).b, (β 16).t, he, hs⟩
theorem is_exi (m : Int) (t : Gt) (op l A L H : Int) (hA : inI A = true) (hf : testP .exi op = true) (K : Known ⟨op, formP .exi, l, strP .exi⟩) : DoIs m t op A L H (needP .exi) (ansP .exi op A L H) (okP .exi op A L H) := by
 refine ⟨fun B lv hp ln lc n cap hn w hS => do_no_v_i_13 m t _ l A B L H lv hp ln lc n cap K hn w hS, fun B lv ln lc h x hn ho w hS => ?_⟩
 obtain ⟨hb, o, n, cap, hc, ht⟩ := h
 obtain rfl : n = 2 := hn
 cases hc2 : thereB (Mv.exW op) A with
 | true =>
  exact (do_exi m t op l A B L H lv ln lc hb o cap hc ht x K ho (app_d (allP_out hf) (cons_d hA (cons_d (by rw [hc2]; rfl) nil_d))) w hS).mono fun e w' ⟨β, he, hs⟩ => ans_t hc2 ⟨(β 14).b, (β 14).t, he, hs⟩
 | false =>
  refine (do_exibad m t op l A B L H lv ln lc hb o cap hc ht x K ho (app_d (allP_out (show allP (o_exibad op) = true from hf)) (cons_d hA (cons_d (by rw [hc2]; rfl) nil_d))) w hS).mono ?_
  rintro e w' ⟨he, hg⟩
  rw [hc2] at he
  exact ans_f hc2 ⟨he, hg⟩
theorem is_exl (m : Int) (t : Gt) (op l A L H : Int) (hA : inI A = true) (hf : testP .exl op = true) (K : Known ⟨op, formP .exl, l, strP .exl⟩) : DoIs m t op A L H (needP .exl) (ansP .exl op A L H) (okP .exl op A L H) := by
 obtain rfl := of_decide_eq_true hf
 refine ⟨fun B lv hp ln lc n cap hn w hS => do_no_v_l_13 m t _ l A B L H lv hp ln lc n cap K hn w hS, fun B lv ln lc h x hn ho w hS => ?_⟩
 obtain ⟨hb, o, n, cap, hc, ht⟩ := h
 obtain rfl : n = 2 := hn
 cases hc2 : thereB (Mv.exW 64797) A with
 | true =>
  exact (do_exl m t l A B L H lv ln lc hb o cap hc ht x K ho (app_d nil_d (cons_d hA (cons_d (by rw [hc2]; rfl) nil_d))) w hS).mono fun e w' ⟨β, he, hs⟩ => ans_t hc2 ⟨(β 14).b, (β 14).t, he, hs⟩
 | false =>
  refine (do_exlbad m t l A B L H lv ln lc hb o cap hc ht x K ho (app_d nil_d (cons_d hA (cons_d (by rw [hc2]; rfl) nil_d))) w hS).mono ?_
  rintro e w' ⟨he, hg⟩
  rw [hc2] at he
  exact ans_f hc2 ⟨he, hg⟩
theorem is_rei (m : Int) (t : Gt) (op l A L H : Int) (hA : inI A = true) (hf : testP .rei op = true) (K : Known ⟨op, formP .rei, l, strP .rei⟩) : DoIs m t op A L H (needP .rei) (ansP .rei op A L H) (okP .rei op A L H) := by
 refine ⟨fun B lv hp ln lc n cap hn w hS => do_no_vi_v_13 m t _ l A B L H lv hp ln lc n cap K hn w hS, fun B lv ln lc h x hn ho w hS => ?_⟩
 obtain ⟨hb, o, n, cap, hc, ht⟩ := h
 obtain rfl : n = 3 := hn
 cases hc2 : thereB (Mv.reW op) A with
 | true =>
  exact (do_rei m t op l A B L H lv ln lc hb o cap hc ht x K ho (app_d (allP_out hf) (cons_d (decide_eq_true (inI_out hA).1) (cons_d (decide_eq_true (inI_out hA).2) (cons_d (by rw [hc2]; rfl) nil_d)))) w hS).mono fun e w' ⟨β, he, hs⟩ => ans_t hc2 ⟨(β 14).b, (β 14).t, he, hs⟩
 | false =>
  refine (do_reibad m t op l A B L H lv ln lc hb o cap hc ht x K ho (app_d (allP_out (show allP (o_reibad op) = true from hf)) (cons_d (decide_eq_true (inI_out hA).1) (cons_d (decide_eq_true (inI_out hA).2) (cons_d (by rw [hc2]; rfl) nil_d)))) w hS).mono ?_
  rintro e w' ⟨he, hg⟩
  rw [hc2] at he
  exact ans_f hc2 ⟨he, hg⟩
theorem is_rel (m : Int) (t : Gt) (op l A L H : Int) (hA : inI A = true) (hf : testP .rel op = true) (K : Known ⟨op, formP .rel, l, strP .rel⟩) : DoIs m t op A L H (needP .rel) (ansP .rel op A L H) (okP .rel op A L H) := by
 obtain rfl := of_decide_eq_true hf
 refine ⟨fun B lv hp ln lc n cap hn w hS => do_no_vl_v_13 m t _ l A B L H lv hp ln lc n cap K hn w hS, fun B lv ln lc h x hn ho w hS => ?_⟩
 obtain ⟨hb, o, n, cap, hc, ht⟩ := h
 obtain rfl : n = 3 := hn
 cases hc2 : thereB (Mv.reW 64798) A with
 | true =>
  exact (do_rel m t l A B L H lv ln lc hb o cap hc ht x K ho (app_d nil_d (cons_d (decide_eq_true (inI_out hA).1) (cons_d (decide_eq_true (inI_out hA).2) (cons_d (by rw [hc2]; rfl) nil_d)))) w hS).mono fun e w' ⟨β, he, hs⟩ => ans_t hc2 ⟨(β 14).b, (β 14).t, he, hs⟩
 | false =>
  refine (do_relbad m t l A B L H lv ln lc hb o cap hc ht x K ho (app_d nil_d (cons_d (decide_eq_true (inI_out hA).1) (cons_d (decide_eq_true (inI_out hA).2) (cons_d (by rw [hc2]; rfl) nil_d)))) w hS).mono ?_
  rintro e w' ⟨he, hg⟩
  rw [hc2] at he
  exact ans_f hc2 ⟨he, hg⟩
theorem is_shift (m : Int) (t : Gt) (op l A L H : Int) (_hA : inI A = true) (hf : testP .shift op = true) (K : Known ⟨op, formP .shift, l, strP .shift⟩) : DoIs m t op A L H (needP .shift) (ansP .shift op A L H) (okP .shift op A L H) := by
 refine ⟨fun B lv hp ln lc n cap hn w hS => do_no_vi_v_1 m t _ l A B L H lv hp ln lc n cap K hn w hS, fun B lv ln lc h x hn ho w hS => ?_⟩
 obtain ⟨hb, o, n, cap, hc, ht⟩ := h
 obtain rfl : n = 3 := hn
 exact (do_shift m t op l A B L H lv ln lc hb o cap hc ht x K ho (app_d (allP_out hf) (cons_d (u32_lo _) (cons_d (u32_hi _) nil_d))) w hS).mono fun e w' ⟨β, he, hs⟩ => ⟨(β 16).b, (β 16).t, he, hs⟩
theorem is_abin (m : Int) (t : Gt) (op l A L H : Int) (_hA : inI A = true) (hf : testP .abin op = true) (K : Known ⟨op, formP .abin, l, strP .abin⟩) : DoIs m t op A L H (needP .abin) (ansP .abin op A L H) (okP .abin op A L H) := by
 refine ⟨fun B lv hp ln lc n cap hn w hS => do_no_vv_v_1 m t _ l A B L H lv hp ln lc n cap K hn w hS, fun B lv ln lc h x hn ho w hS => ?_⟩
 obtain ⟨hb, o, n, cap, hc, ht⟩ := h
 obtain rfl : n = 4 := hn
 exact (do_abin m t op l A B L H lv ln lc hb o cap hc ht x K ho (app_d (allP_out hf) (nil_d)) w hS).mono fun e w' ⟨β, he, hs⟩ => ⟨(β 17).b, (β 17).t, he, hs⟩
theorem is_cmp (m : Int) (t : Gt) (op l A L H : Int) (_hA : inI A = true) (hf : testP .cmp op = true) (K : Known ⟨op, formP .cmp, l, strP .cmp⟩) : DoIs m t op A L H (needP .cmp) (ansP .cmp op A L H) (okP .cmp op A L H) := by
 refine ⟨fun B lv hp ln lc n cap hn w hS => do_no_vv_v_1 m t _ l A B L H lv hp ln lc n cap K hn w hS, fun B lv ln lc h x hn ho w hS => ?_⟩
 obtain ⟨hb, o, n, cap, hc, ht⟩ := h
 obtain rfl : n = 4 := hn
 exact (do_cmp m t op l A B L H lv ln lc hb o cap hc ht x K ho (app_d (allP_out hf) (nil_d)) w hS).mono fun e w' ⟨β, he, hs⟩ => ⟨(β 18).b, (β 18).t, he, hs⟩
theorem is_wbin (m : Int) (t : Gt) (op l A L H : Int) (_hA : inI A = true) (hf : testP .wbin op = true) (K : Known ⟨op, formP .wbin, l, strP .wbin⟩) : DoIs m t op A L H (needP .wbin) (ansP .wbin op A L H) (okP .wbin op A L H) := by
 refine ⟨fun B lv hp ln lc n cap hn w hS => do_no_vv_v_1 m t _ l A B L H lv hp ln lc n cap K hn w hS, fun B lv ln lc h x hn ho w hS => ?_⟩
 obtain ⟨hb, o, n, cap, hc, ht⟩ := h
 obtain rfl : n = 4 := hn
 exact (do_wbin m t op l A B L H lv ln lc hb o cap hc ht x K ho (app_d (allP_out hf) (nil_d)) w hS).mono fun e w' ⟨β, he, hs⟩ => ⟨(β 18).b, (β 18).t, he, hs⟩
theorem is_swz (m : Int) (t : Gt) (op l A L H : Int) (_hA : inI A = true) (hf : testP .swz op = true) (K : Known ⟨op, formP .swz, l, strP .swz⟩) : DoIs m t op A L H (needP .swz) (ansP .swz op A L H) (okP .swz op A L H) := by
 obtain rfl := of_decide_eq_true hf
 refine ⟨fun B lv hp ln lc n cap hn w hS => do_no_vv_v_1 m t _ l A B L H lv hp ln lc n cap K hn w hS, fun B lv ln lc h x hn ho w hS => ?_⟩
 obtain ⟨hb, o, n, cap, hc, ht⟩ := h
 obtain rfl : n = 4 := hn
 exact (do_swz m t l A B L H lv ln lc hb o cap hc ht x K ho (app_d nil_d (nil_d)) w hS).mono fun e w' ⟨β, he, hs⟩ => ⟨(β 14).b, (β 14).t, he, hs⟩
theorem is_shf (m : Int) (t : Gt) (op l A L H : Int) (_hA : inI A = true) (hf : testP .shf op = true) (K : Known ⟨op, formP .shf, l, strP .shf⟩) : DoIs m t op A L H (needP .shf) (ansP .shf op A L H) (okP .shf op A L H) := by
 obtain rfl := of_decide_eq_true hf
 refine ⟨fun B lv hp ln lc n cap hn w hS => do_no_vv_v_12 m t _ l A B L H lv hp ln lc n cap K hn w hS, fun B lv ln lc h x hn ho w hS => ?_⟩
 obtain ⟨hb, o, n, cap, hc, ht⟩ := h
 obtain rfl : n = 4 := hn
 cases hc2 : okS (both64 L H) with
 | true =>
  exact (do_shf m t l A B L H lv ln lc hb o cap hc ht x K ho (app_d nil_d (cons_d (by rw [hc2]; rfl) nil_d)) w hS).mono fun e w' ⟨β, he, hs⟩ => ans_t hc2 ⟨(β 14).b, (β 14).t, he, hs⟩
 | false =>
  refine (do_shfbad m t l A B L H lv ln lc hb o cap hc ht x K ho (app_d nil_d (cons_d (by rw [hc2]; rfl) nil_d)) w hS).mono ?_
  rintro e w' ⟨he, hg⟩
  rw [hc2] at he
  exact ans_f hc2 ⟨he, hg⟩
theorem is_spi (m : Int) (t : Gt) (op l A L H : Int) (_hA : inI A = true) (hf : testP .spi op = true) (K : Known ⟨op, formP .spi, l, strP .spi⟩) : DoIs m t op A L H (needP .spi) (ansP .spi op A L H) (okP .spi op A L H) := by
 refine ⟨fun B lv hp ln lc n cap hn w hS => do_no_i_v_1 m t _ l A B L H lv hp ln lc n cap K hn w hS, fun B lv ln lc h x hn ho w hS => ?_⟩
 obtain ⟨hb, o, n, cap, hc, ht⟩ := h
 obtain rfl : n = 1 := hn
 exact (do_spi m t op l A B L H lv ln lc hb o cap hc ht x K ho (app_d (allP_out hf) (nil_d)) w hS).mono fun e w' ⟨β, he, hs⟩ => ⟨(β 14).b, (β 14).t, he, hs⟩
theorem is_spl (m : Int) (t : Gt) (op l A L H : Int) (_hA : inI A = true) (hf : testP .spl op = true) (K : Known ⟨op, formP .spl, l, strP .spl⟩) : DoIs m t op A L H (needP .spl) (ansP .spl op A L H) (okP .spl op A L H) := by
 obtain rfl := of_decide_eq_true hf
 refine ⟨fun B lv hp ln lc n cap hn w hS => do_no_l_v_1 m t _ l A B L H lv hp ln lc n cap K hn w hS, fun B lv ln lc h x hn ho w hS => ?_⟩
 obtain ⟨hb, o, n, cap, hc, ht⟩ := h
 obtain rfl : n = 1 := hn
 exact (do_spl m t l A B L H lv ln lc hb o cap hc ht x K ho (app_d nil_d (nil_d)) w hS).mono fun e w' ⟨β, he, hs⟩ => ⟨(β 14).b, (β 14).t, he, hs⟩
def realP : Pa → Bool
 | .no => false
 | .mem => false
 | .co => false
 | _ => true
theorem is_all (m : Int) (t : Gt) (p : Pa) (hp : realP p = true) (op l A L H : Int) (hA : inI A = true) (hf : testP p op = true) (K : Known ⟨op, formP p, l, strP p⟩) : DoIs m t op A L H (needP p) (ansP p op A L H) (okP p op A L H) := by
 cases p
 ·cases hp
 ·cases hp
 ·cases hp
 ·exact is_aun m t op l A L H hA hf K
 ·exact is_wun m t op l A L H hA hf K
 ·exact is_bits77 m t op l A L H hA hf K
 ·exact is_bits78 m t op l A L H hA hf K
 ·exact is_bits79 m t op l A L H hA hf K
 ·exact is_bits80 m t op l A L H hA hf K
 ·exact is_bits81 m t op l A L H hA hf K
 ·exact is_bits82 m t op l A L H hA hf K
 ·exact is_test m t op l A L H hA hf K
 ·exact is_exi m t op l A L H hA hf K
 ·exact is_exl m t op l A L H hA hf K
 ·exact is_rei m t op l A L H hA hf K
 ·exact is_rel m t op l A L H hA hf K
 ·exact is_shift m t op l A L H hA hf K
 ·exact is_abin m t op l A L H hA hf K
 ·exact is_cmp m t op l A L H hA hf K
 ·exact is_wbin m t op l A L H hA hf K
 ·exact is_swz m t op l A L H hA hf K
 ·exact is_shf m t op l A L H hA hf K
 ·exact is_spi m t op l A L H hA hf K
 ·exact is_spl m t op l A L H hA hf K
end Vc
end Go.Proofs.Ytjoalcaooccbiaa
