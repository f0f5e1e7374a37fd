/-
  Texts of this seat, joined: VcOf, VcKn, VcAw, VcLaw, VcPr. Each says what it proves.
-/
import Derived.Test.YtjoalcaooccbiaaMk7
import Derived.Test.YtjoalcaooccbiaaMk17
import Derived.Test.YtjoalcaooccbiaaMk18
/- VcOf -/
namespace Go.Proofs.Ytjoalcaooccbiaa
open Go.RowKit VecM Ev
namespace Vc
theorem sg_lay {w0 w : World} {M : List Rw} (h : SG w0 M w) {g : Nat} {c : List Value} {t : TypeId} (h0 : w0.heap.size ≤ g) (hne : ∀ r ∈ M, r.own = true → r.b ≠ g) (hr : w.heap[g]? = some (.cells c.toArray t (0, 0))) :
  SG w0 (⟨g, c, t, true⟩ :: M) w := by
 obtain ⟨⟨hg, hn, he⟩, hG⟩ := h
 refine ⟨⟨hg, ?_, ?_⟩, fun r hr2 ho => ?_⟩
 ·show (Ent.b ⟨g, c.toArray, t⟩ :: (ents M).map Ent.b).Nodup
  refine List.nodup_cons.2 ⟨fun hm => ?_, hn⟩
  obtain ⟨e, he1, he2⟩ := List.mem_map.1 hm
  obtain ⟨r, hr1, rfl⟩ := List.mem_map.1 he1
  exact hne r (List.mem_filter.1 hr1).1 (List.mem_filter.1 hr1).2 he2
 ·intro e hm
  rcases List.mem_cons.1 (show e ∈ (⟨g, c.toArray, t⟩ : Ent) :: ents M from hm) with rfl | hm
  ·exact ⟨h0, hr⟩
  ·exact he e hm
 ·rcases List.mem_cons.1 hr2 with rfl | hr2
  ·cases ho
  ·exact hG r hr2 ho
theorem sg_old {w0 w : World} {M : List Rw} (h : SG w0 M w) {r : Rw} (hr : r ∈ M) (ho : r.own = true) : r.b < w.heap.size :=
 h.1.fresh (e := ⟨r.b, r.c.toArray, r.t⟩) (List.mem_map.2 ⟨r, List.mem_filter.2 ⟨hr, ho⟩, rfl⟩)
theorem owns_fr {w : World} {base : Nat} {e : TypeId} {v : Value} {n : Nat} {xs : List Value} (h : w.ownsRow base e 1 v n xs) (hn : 0 < n) :
  ∃ fr : Fr, v = .slice (some ⟨fr.b, 0, none⟩) n (xs ++ fr.t).length ∧ base ≤ fr.b ∧ w.heap[fr.b]? = some (.cells (xs ++ fr.t).toArray e (0, 0)) := by
 obtain ⟨hl, ⟨_, h0⟩ | ⟨g, cap, cur, rfl, hb, hr, h1, _, hz, ht⟩⟩ := h
 ·omega
 ·refine ⟨⟨g, fun _ => undef, cur.toList.drop (n * 1)⟩, ?_, hb, ?_⟩
  ·rw [← ht, List.take_append_drop]; simp [hz]
  ·rw [← ht, List.take_append_drop]; exact hr
theorem sg_two {w0 w w' : World} {M : List Rw} (h : SG w0 M w) (hg : Gr w w') {e : TypeId} {v u : Value} {n k : Nat} {xs ys : List Value}
  (h1 : w'.ownsRow w.heap.size e 1 v n xs) (h2 : w'.ownsRow w.heap.size e 1 u k ys) (hd : ∀ q, v.ownBlock = some q → u.ownBlock ≠ some q) (hn : 0 < n) (hk : 0 < k) :
  ∃ a b : Fr, v = .slice (some ⟨a.b, 0, none⟩) n (xs ++ a.t).length ∧ u = .slice (some ⟨b.b, 0, none⟩) k (ys ++ b.t).length ∧ SG w0 (⟨a.b, xs ++ a.t, e, true⟩ :: ⟨b.b, ys ++ b.t, e, true⟩ :: M) w' := by
 obtain ⟨a, rfl, ha, hra⟩ := owns_fr h1 hn
 obtain ⟨b, rfl, hb, hrb⟩ := owns_fr h2 hk
 have hz : w0.heap.size ≤ w.heap.size := h.gr.size
 refine ⟨a, b, rfl, rfl, sg_lay (sg_lay (h.grow hg) (by omega) (fun r hr ho => ?_) hrb) (by omega) (fun r hr ho => ?_) hra⟩
 ·have := sg_old h hr ho; omega
 ·rcases List.mem_cons.1 hr with rfl | hr
  ·intro hab
   exact hd a.b rfl (by show some b.b = some a.b; exact congrArg some hab)
  ·have := sg_old h hr ho; omega
structure Q where
 n : Int
 f : Int
 l : Int
 s : ByteArray
noncomputable def ofV (q : Q) : List Fr → Value
 | [a, b] => .tuple #[.agg (Ins.inf q.f q.l true (.slice (some ⟨a.b, 0, none⟩) (Ins.cutA q.s).size (Ins.codes (Ins.cutA q.s) (Ins.cutA q.s).size ++ a.t).length) (.slice (some ⟨b.b, 0, none⟩) (Ins.cutB q.s).size (Ins.codes (Ins.cutB q.s) (Ins.cutB q.s).size ++ b.t).length)), .bool true]
 | _ => undef
noncomputable def ofL (q : Q) : List Fr → List Rw
 | [a, b] => [⟨a.b, Ins.codes (Ins.cutA q.s) (Ins.cutA q.s).size ++ a.t, 3, true⟩, ⟨b.b, Ins.codes (Ins.cutB q.s) (Ins.cutB q.s).size ++ b.t, 3, true⟩]
 | _ => []
noncomputable def pickQ (n : Nat) : List Q → Option Q :=
 List.rec (motive := fun _ => Option Q) none fun q _ ih => match Nat.beq q.n.toNat n with | true => some q | false => ih
theorem pickQ_ok {n : Nat} {q : Q} : ∀ {L : List Q}, pickQ n L = some q → q ∈ L ∧ q.n.toNat = n
 | [], h => by cases h
 | x :: L, h => by
  have h : (match Nat.beq x.n.toNat n with | true => some x | false => pickQ n L) = some q := h
  split at h
  ·rename_i hb
   cases h
   exact ⟨List.mem_cons_self .., Nat.eq_of_beq_eq_true hb⟩
  ·exact ⟨List.mem_cons_of_mem _ (pickQ_ok h).1, (pickQ_ok h).2⟩
noncomputable def ofS (m : Int) (t : Gt) (L : List Q) (f : FuncId) (args : List Value) (M : List Rw) : Option CHole :=
 match Nat.beq f 8 with
 | false => none
 | true => match args with
  | [.int .i64 (.ofNat n)] => match pickQ n L with
   | some q => some ⟨setLast M (gRow m t), [], 2, ofV q, ofL q⟩
   | none => none
  | _ => none
structure Known (q : Q) : Prop where
 lo : 64768 ≤ q.n
 hi : q.n - 64768 ≤ 9223372036854775807
 f : (q.f == 0) = false
 s : q.s.size < 1000
 a : 0 < (Ins.cutA q.s).size ∧ (Ins.cutA q.s).size ≤ 1000
 b : 0 < (Ins.cutB q.s).size ∧ (Ins.cutB q.s).size ≤ 1000
 p : Ins.cutP q.s = true
 run : ∀ w, Calls Try.prog 27 #[.int .i64 (q.n - 64768)] w (Ins.RES q.f q.l q.s w)
theorem ofS_ok (m : Int) (t : Gt) (L : List Q) (K : ∀ q ∈ L, Known q) : ∀ f args M H, ofS m t L f args M = some H → M = H.rows → (∀ b ∈ H.pre, b = true) → ∀ w0 w : World, SG w0 M w → Calls Try.prog f args.toArray w fun e w' => ∃ fr : List Fr, fr.length = H.n ∧ e = .returned (H.v fr) ∧ SG w0 (H.lay fr ++ M) w' := by
 intro f args M H hq hrows hpre w0 w hS
 unfold ofS at hq
 split at hq
 ·cases hq
 ·rename_i hf
  obtain rfl := Nat.eq_of_beq_eq_true hf
  split at hq
  ·rename_i n
   split at hq
   ·rename_i q hp
    cases hq
    obtain ⟨hmem, hn⟩ := pickQ_ok hp
    have K := K q hmem
    have hn : (Int.ofNat n) = q.n := by have := K.lo; rw [← hn]; exact Int.toNat_of_nonneg (by omega)
    rw [hn]
    have hm : gRow m t ∈ M := by
     have := setLast_mem M (gRow m t)
     simp only at hrows
     rw [← hrows] at this
     exact this
    obtain ⟨fr, hrow, _⟩ := hS.row hm
    have hc : w.cell? ⟨0, 0, none⟩ = some (.int .i64 m) := (cell_of_row w 0 0 _ _ fr hrow).trans rfl
    refine (Ins.ofd_vec q.n _ q.f q.l q.s K.lo K.hi rfl K.f K.s K.a.2 K.b.2 K.run w ⟨m, hc⟩).mono ?_
    rintro e w' ⟨vi, vo, rfl, hg, h1, h2, hd⟩
    obtain ⟨a, b, rfl, rfl, h3⟩ := sg_two hS hg h1 h2 hd K.a.1 K.b.1
    exact ⟨[a, b], rfl, by rw [K.p]; rfl, h3⟩
   ·cases hq
  ·cases hq
noncomputable def envQ (m : Int) (t : Gt) (L : List Q) : Env := { P := Try.prog, known := [], sum := fun _ _ => none, csum := ofS m t L }
theorem envQ_ok (m : Int) (t : Gt) (L : List Q) (K : ∀ q ∈ L, Known q) : OphOk (envQ m t L) := csum_of rfl (ofS_ok m t L K)
end Vc
end Go.Proofs.Ytjoalcaooccbiaa
/- VcKn -/
namespace Go.Proofs.Ytjoalcaooccbiaa
open Go.RowKit VecM Ev
namespace Vc
theorem kn {n f l : Int} {s : ByteArray} (m : Int) (hm : n - 64768 = m) (lo : 64768 ≤ n) (hi : n - 64768 ≤ 9223372036854775807) (hf : (f == 0) = false) (hs : s.size < 1000) (ha : 0 < (Ins.cutA s).size ∧ (Ins.cutA s).size ≤ 1000) (hb : 0 < (Ins.cutB s).size ∧ (Ins.cutB s).size ≤ 1000) (hp : Ins.cutP s = true)
  (h : ∀ w, Calls Try.prog 27 #[.int .i64 m] w (Ins.RES f l s w)) : Known ⟨n, f, l, s⟩ := by
 subst hm
 exact ⟨lo, hi, hf, hs, ha, hb, hp, h⟩
def q0 : Q := ⟨64768, 7, 4, ⟨#[105, 58, 118]⟩⟩
theorem k0 : Known q0 := kn 0 (by decide) (by decide) (by decide) (by decide) (by decide +kernel) (by decide +kernel) (by decide +kernel) (by decide +kernel) fun w => Ins.top_va0 0 7 4 _ (by decide) (by decide) (fun w => Ins.va_0 w) w
def q110 : Q := ⟨64878, 1, 0, ⟨#[118, 118, 58, 118]⟩⟩
theorem k110 : Known q110 := kn 110 (by decide) (by decide) (by decide) (by decide) (by decide +kernel) (by decide +kernel) (by decide +kernel) (by decide +kernel) fun w => Ins.top_vn0 110 1 0 _ (by decide) (by decide) (fun w => Ins.vn_6 110 (by decide) (by decide) w) w
def q17 : Q := ⟨64785, 1, 0, ⟨#[105, 58, 118]⟩⟩
theorem k17 : Known q17 := kn 17 (by decide) (by decide) (by decide) (by decide) (by decide +kernel) (by decide +kernel) (by decide +kernel) (by decide +kernel) fun w => Ins.top_vm0 17 1 0 _ (by decide) (by decide) (fun w => Ins.vm_5 w) w
end Vc
end Go.Proofs.Ytjoalcaooccbiaa
/- VcAw -/
namespace Go.Proofs.Ytjoalcaooccbiaa
open Go.RowKit VecM Ev
namespace Vc
noncomputable def envA (m : Int) (t : Gt) : Env := envQ m t [q110, q17, q0]
theorem envA_ok (m : Int) (t : Gt) : OphOk (envA m t) := envQ_ok m t _ fun q hq => by
 rcases List.mem_cons.1 hq with rfl | hq
 ·exact k110
 ·rcases List.mem_cons.1 hq with rfl | hq
  ·exact k17
  ·obtain rfl := List.mem_singleton.1 hq
   exact k0
noncomputable def awPath (m : Int) (t : Gt) (β : Nat → Fr) : Out := evPathM (envA m t) (envA 0 ⟨0, []⟩) 400 7 [] [] [gRow m t] [gRow 0 ⟨0, []⟩] (.bool true) β
def awTs : List Nat := List.replicate 1570 0
theorem none_ok (E : Env) (h : E.sum = fun _ _ => none) : SumOk E := fun f args cs mk hq => by rw [h] at hq; cases hq
set_option maxRecDepth 100000 in
theorem awake_any (m : Int) (t : Gt) (w : World) (hS : SG w [gRow m t] w) : Calls Try.prog 7 #[] w fun e w' => e = .returned (.bool true) ∧ Gr w w' :=
 ev_pathM (E := envA m t) (E' := envA 0 ⟨0, []⟩) rfl (none_ok _ rfl) (fuel := 400) (args := []) (args' := []) (M' := [gRow 0 ⟨0, []⟩]) [] awTs (fun p hp => by cases hp) (fun β => by kernel_rfl) w hS (ho := envA_ok m t)
end Vc
end Go.Proofs.Ytjoalcaooccbiaa
/- VcLaw -/
namespace Go.Proofs.Ytjoalcaooccbiaa
open Go.RowKit VecM Ev
namespace Vc
noncomputable def lawS (m : Int) (t : Gt) (L : List Q) (f : FuncId) (args : List Value) (M : List Rw) : Option CHole :=
 match Nat.beq f 7 with
 | true => match args with
  | [] => some ⟨setLast M (gRow m t), [], 0, fun _ => .bool true, fun _ => []⟩
  | _ => none
 | false => ofS m t L f args M
theorem lawS_ok (m : Int) (t : Gt) (L : List Q) (K : ∀ q ∈ L, Known q) : ∀ f args M H, lawS m t L f args M = some H → M = H.rows → (∀ b ∈ H.pre, b = true) → ∀ w0 w : World, SG w0 M w → Calls Try.prog f args.toArray w fun e w' => ∃ fr : List Fr, fr.length = H.n ∧ e = .returned (H.v fr) ∧ SG w0 (H.lay fr ++ M) w' := by
 intro f args M H hq hrows hpre w0 w hS
 unfold lawS at hq
 split at hq
 ·rename_i hf
  obtain rfl := Nat.eq_of_beq_eq_true hf
  split at hq
  ·cases hq
   have hm : gRow m t ∈ M := by
    have := setLast_mem M (gRow m t)
    simp only at hrows
    rw [← hrows] at this
    exact this
   obtain ⟨fr, hrow, _⟩ := hS.row hm
   have hs : SG w [gRow m t] w := ⟨St.start w, fun q hq _ => by
    obtain rfl := List.mem_singleton.1 hq
    exact ⟨fr, hrow⟩⟩
   exact (awake_any m t w hs).mono fun e w' ⟨h, hg⟩ => ⟨[], rfl, h, hS.grow hg⟩
  ·cases hq
 ·exact ofS_ok m t L K f args M H hq hrows hpre w0 w hS
noncomputable def envL (m : Int) (t : Gt) (L : List Q) : Env := { P := Try.prog, known := [], sum := fun _ _ => none, csum := lawS m t L }
theorem envL_ok (m : Int) (t : Gt) (L : List Q) (K : ∀ q ∈ L, Known q) : OphOk (envL m t L) := csum_of rfl (lawS_ok m t L K)
end Vc
end Go.Proofs.Ytjoalcaooccbiaa
/- VcPr -/
namespace Go.Proofs.Ytjoalcaooccbiaa
open Go.RowKit VecM Ev
namespace Vc
def two (x y : Int) (j : Nat) : Int := match j with | 0 => x | _ => y
noncomputable def low32 (lo : Int) : Nat → Int := ofK (fun _ => 0) 32 (fun _ => lo) 1
noncomputable def both64 (x y : Int) : Nat → Int := ofK (fun _ => 0) 64 (two x y) 2
noncomputable def prS (lo : Int) (f : FuncId) (args : List Value) (M : List Rw) : Option CHole :=
 match Nat.beq f 73 with
 | false => none
 | true => match args, M with
  | [.int .i64 32, .slice (some ⟨b, 0, none⟩) 1 _], ⟨_, [.int .u64 x], t, o⟩ :: M => some ⟨⟨b, [.int .u64 x], t, o⟩ :: M, [decide (x % 4294967296 = lo)], 0, fun _ => .agg (bs (low32 lo)), fun _ => []⟩
  | [.int .i64 64, .slice (some ⟨b, 0, none⟩) 2 _], ⟨_, [.int .u64 x, .int .u64 y], t, o⟩ :: M => some ⟨⟨b, [.int .u64 x, .int .u64 y], t, o⟩ :: M, [], 0, fun _ => .agg (bs (both64 x y)), fun _ => []⟩
  | _, _ => none
theorem low32_eq (x lo : Int) (h : x % 4294967296 = lo) : bs (ofK (fun _ => 0) 32 (fun _ => x) (ofN 32 1)) = bs (low32 lo) := by
 have hn : ofN 32 1 = 1 := by decide
 rw [hn]
 unfold low32
 congr 1
 have h0 : thereB 32 ((0 : Nat) : Int) = true := by decide
 simp only [ofK, setI, h0, if_true]
 funext m
 unfold setN
 have hw : wid 32 = 4 := by decide
 rw [hw]
 split
 ·rename_i hm
  subst h
  have : m - ((0 : Nat) : Int).toNat * 4 = 0 ∨ m - ((0 : Nat) : Int).toNat * 4 = 1 ∨ m - ((0 : Nat) : Int).toNat * 4 = 2 ∨ m - ((0 : Nat) : Int).toNat * 4 = 3 := by omega
  have e0 : (256 : Int) ^ 0 = 1 := by decide
  have e1 : (256 : Int) ^ 1 = 256 := by decide
  have e2 : (256 : Int) ^ 2 = 65536 := by decide
  have e3 : (256 : Int) ^ 3 = 16777216 := by decide
  rcases this with e | e | e | e <;> rw [e]
  ·rw [e0]; omega
  ·rw [e1]; omega
  ·rw [e2]; omega
  ·rw [e3]; omega
 ·rfl
theorem prS_ok (lo : Int) : ∀ f args M H, prS lo f args M = some H → M = H.rows → (∀ b ∈ H.pre, b = true) → ∀ w0 w : World, SG w0 M w → Calls Try.prog f args.toArray w fun e w' => ∃ fr : List Fr, fr.length = H.n ∧ e = .returned (H.v fr) ∧ SG w0 (H.lay fr ++ M) w' := by
 intro f args M H hq hrows hpre w0 w hS
 unfold prS at hq
 split at hq
 ·cases hq
 ·rename_i hf
  obtain rfl := Nat.eq_of_beq_eq_true hf
  split at hq
  ·rename_i b c b' x t o M'
   cases hq
   have hlo := of_decide_eq_true (hpre _ (List.mem_cons_self ..))
   obtain ⟨fr, hrow, _⟩ := hS.row (List.mem_cons_self ..)
   have hb : b' = b := by simpa using hrows
   subst hb
   refine (of_any 32 (.slice (some ⟨b', 0, none⟩) 1 c) 1 (fun _ => x) w (.inr ⟨by decide, b', 0, c, rfl, fun j hj => ?_⟩)).mono fun e w' ⟨h, hg⟩ => ⟨[], rfl, ?_, hS.grow hg⟩
   ·obtain rfl : j = 0 := by omega
    exact (cell_of_row w b' 0 _ _ fr hrow).trans rfl
   ·rw [h, low32_eq x lo hlo]
  ·rename_i b c b' x y t o M'
   cases hq
   obtain ⟨fr, hrow, _⟩ := hS.row (List.mem_cons_self ..)
   have hb : b' = b := by simpa using hrows
   subst hb
   refine (of_any 64 (.slice (some ⟨b', 0, none⟩) 2 c) 2 (two x y) w (.inr ⟨by decide, b', 0, c, rfl, fun j hj => ?_⟩)).mono fun e w' ⟨h, hg⟩ => ⟨[], rfl, ?_, hS.grow hg⟩
   ·rcases Nat.lt_or_ge j 1 with hj1 | hj1
    ·obtain rfl : j = 0 := by omega
     exact (cell_of_row w b' 0 _ _ fr hrow).trans rfl
    ·obtain rfl : j = 1 := by omega
     exact (cell_of_row w b' 1 _ _ fr hrow).trans rfl
   ·rw [h]; rfl
  ·cases hq
end Vc
end Go.Proofs.Ytjoalcaooccbiaa
