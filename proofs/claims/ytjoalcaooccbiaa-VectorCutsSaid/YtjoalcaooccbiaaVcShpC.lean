/-
 Of layer 9: VectorShapes, by the types of each opcode's kind. Conditions: the library's variable reads as some number. (gen_vcshp.py)
-/
import Derived.Test.YtjoalcaooccbiaaVcOpC
namespace Go.Proofs.Ytjoalcaooccbiaa
open Go.RowKit VecM Ev
namespace Vc
def cells6 (x0 x1 x2 x3 x4 x5 : Int) : List Value := [.int .u64 x0, .int .u64 x1, .int .u64 x2, .int .u64 x3, .int .u64 x4, .int .u64 x5]
noncomputable def envW (m : Int) (t : Gt) (cof cdo : CsF) : Env := { P := Try.prog, known := [], sum := fun _ _ => none, csum := orC (awS (gRow m t)) (orC cof cdo) }
theorem envW_ok {m : Int} {t : Gt} {cof cdo : CsF} (h : COk cof) (h' : COk cdo) : OphOk (envW m t cof cdo) := csum_of rfl (orC_ok (awS_ok m t) (orC_ok h h'))
def sub2 (M : List Rw) : Nat := M.length - 2
noncomputable def doW (m : Int) (t : Gt) (op : Int) (need : Nat) (Y : (Nat → Int) → List Int) : CsF := doS (gRow m t) op 1 0 0 need Y true sub2
noncomputable def shPath (m : Int) (t : Gt) (z z' : Int) (cof cdo cof' cdo' : CsF) (x0 x1 x2 x3 x4 x5 : Int) (β : Nat → Fr) : Out :=
 evPathM (envW m t cof cdo) (envW 0 ⟨0, []⟩ cof' cdo') 400 3 [.int .i64 z, .agg ⟨cells6 x0 x1 x2 x3 x4 x5⟩] [.int .i64 z', .agg ⟨cells6 11 12 13 14 15 16⟩] [gRow m t] [gRow 0 ⟨0, []⟩] (.bool true) β
theorem sh_run (m : Int) (t : Gt) (z z' : Int) (cof cdo cof' cdo' : CsF) (x0 x1 x2 x3 x4 x5 : Int) (h1 : COk cof) (h2 : COk cdo) (D : List (Bool × Bool)) (ts : List Nat) (hD : ∀ p ∈ D, p.1 = p.2)
  (hr : ∀ β, tagOL D ts (shPath m t z z' cof cdo cof' cdo' x0 x1 x2 x3 x4 x5 β) = tagOR D ts (shPath m t z z' cof cdo cof' cdo' x0 x1 x2 x3 x4 x5 β)) (w : World) (hS : SG w [gRow m t] w) :
  Calls Try.prog 3 #[.int .i64 z, .agg ⟨cells6 x0 x1 x2 x3 x4 x5⟩] w fun e w' => e = .returned (.bool true) ∧ Gr w w' :=
 ev_pathM (E := envW m t cof cdo) (E' := envW 0 ⟨0, []⟩ cof' cdo') rfl (nosum_ok _ rfl) (args := [.int .i64 z, .agg ⟨cells6 x0 x1 x2 x3 x4 x5⟩]) D ts hD hr w hS (ho := envW_ok h1 h2)
theorem hi0 {y : Int} (h : 0 ≤ y ∧ y < 4294967296) : (y.fdiv (2 ^ min (Int.toNat 32) IntKind.u64.bits) != 0) = false := by
 have : (2 : Int) ^ min (Int.toNat 32) IntKind.u64.bits = 4294967296 := by decide
 rw [this, Int.fdiv_eq_ediv_of_nonneg _ (by decide), Int.ediv_eq_zero_of_lt h.1 h.2]
 rfl
/-! ### what is known of a memory's instruction: its first list is a row -/
noncomputable def ofAV (q : Q) : List Fr → Value
 | [a, b] => .tuple #[.agg (Ins.inf q.f q.l (Ins.cutP q.s) (.slice (some ⟨a.b, 0, none⟩) (Ins.cutA q.s).size (Ins.codes (Ins.cutA q.s) (Ins.cutA q.s).size ++ a.t).length) (.slice (ptr0 b) (Ins.cutB q.s).size b.t.length)), .bool true]
 | _ => undef
noncomputable def ofAL (q : Q) : List Fr → List Rw
 | [a, _] => [⟨a.b, Ins.codes (Ins.cutA q.s) (Ins.cutA q.s).size ++ a.t, 3, true⟩]
 | _ => []
noncomputable def ofAS (g : Rw) (q : Q) : CsF := fun f args M =>
 match Nat.beq f 8 with
 | false => none
 | true => match args with
  | [.int .i64 z] => some ⟨setEnd M [g], [decide (z = q.n)], 2, ofAV q, ofAL q⟩
  | _ => none
theorem ofAS_ok (m : Int) (t : Gt) (q : Q) (K : KnownP q) (hv : 64768 ≤ q.n) (hb : 0 < (Ins.cutA q.s).size) : COk (ofAS (gRow m t) q) := by
 intro f args M H hq hrows hpre w0 w hS
 unfold ofAS at hq
 split at hq
 ·cases hq
 ·rename_i hf
  obtain rfl := Nat.eq_of_beq_eq_true hf
  split at hq
  ·cases hq
   have hz := of_decide_eq_true (hpre _ (List.mem_cons_self ..))
   subst hz
   have hm : gRow m t ∈ M := by
    have := setEnd_mem (M := M) (L := [gRow m t]) (List.mem_cons_self ..)
    simp only at hrows
    rw [← hrows] at this
    exact this
   obtain ⟨fr, hrow, _⟩ := hS.row hm
   have hc : w.cell? ⟨0, 0, none⟩ = some (.int .i64 m) := (cell_of_row w 0 0 _ _ fr hrow).trans rfl
   rcases K.run with ⟨h1, h2, h3⟩ | ⟨h1, h3⟩
   ·refine (Ins.of_vec q.n _ q.f q.l q.s h1 h2 rfl K.f K.s K.a K.b h3 w ⟨m, hc⟩).mono ?_
    rintro e w' ⟨vi, vo, rfl, hg, h1, h2⟩
    obtain ⟨a, rfl, hbb, hrb⟩ := owns_fr h1 hb
    obtain ⟨b, rfl⟩ := owns_ptr h2
    exact ⟨[a, b], rfl, rfl, sg_lay (hS.grow hg) (Nat.le_trans hS.gr.size hbb) (fun r hr ho => by have := sg_old hS hr ho; omega) hrb⟩
   ·omega
  ·cases hq
def t_sh_v_v_1 : List Nat := [0,0,0,0,0,0,0,0,0,0,0,0,0,0,1,0,0,0,0,0,0,0,0,0,0,0,0,0,0,1,0,0,0,0,0,0,0,0,0,0,0,0,0,0,1,0,0,0,0,0,0,0,0,0,0,0,0,0,0,1,0,0,0,0,0,0,0,0,0,0,0,0,0,0,0,0,0,0,0,0,0,0,0,0,0,0,0,0,0,0,0,0,0,1,0,0,0,0,0,0,0,0,0,0,0,0,0,0,1,0,0,0,0,0,0,0,0,0,0,0,0,0,0,1,0,0,0,0,0,0,0,0,0,0,2,2,2,2,0,0,0,1,0,0,0,0,0,0,0,0,1,0]
set_option maxRecDepth 100000 in
theorem sh_v_v_1 (m : Int) (t : Gt) (z : Int) (op l : Int) (y0 y1 : (Nat → Int) → Int) (x0 x1 x2 x3 x4 x5 : Int) (hop : opOf z = op) (K : Known ⟨op, 1, l, ⟨#[118, 58, 118]⟩⟩) (Do : DoIs m t op 1 0 0 2 (fun x => [y0 x, y1 x]) true)  (w : World) (hS : SG w [gRow m t] w) :
  Calls Try.prog 3 #[.int .i64 z, .agg ⟨cells6 x0 x1 x2 x3 x4 x5⟩] w fun e w' => e = .returned (.bool true) ∧ Gr w w' :=
 sh_run m t z 96 (of1S (gRow m t) ⟨op, 1, l, ⟨#[118, 58, 118]⟩⟩) (doW m t op 2 (fun x => [y0 x, y1 x])) (of1S (gRow 0 ⟨0, []⟩) ⟨64864, 1, 0, ⟨#[118, 58, 118]⟩⟩) (doW 0 ⟨0, []⟩ 64864 2 (fun _ => [3, 4])) x0 x1 x2 x3 x4 x5 (of1S_ok m t ⟨op, 1, l, ⟨#[118, 58, 118]⟩⟩ K) (doS_ok m t op 1 0 0 2 (fun x => [y0 x, y1 x]) true sub2 Do) [(decide (opOf z = op), true), (decide (opOf z < 64768), false)] t_sh_v_v_1 (cons_d (dec_op hop) (cons_d (dec_lt hop K.lo) nil_d)) (fun β => by kernel_rfl) w hS
def t_sh_vv_v_1 : List Nat := [0,0,0,0,0,0,0,0,0,0,0,0,0,0,1,0,0,0,0,0,0,0,0,0,0,0,0,0,0,1,0,0,0,0,0,0,0,0,0,0,0,0,0,0,0,0,0,0,0,0,0,0,0,0,0,0,0,0,0,0,0,0,0,1,0,0,0,0,0,0,0,0,0,0,0,0,0,0,1,0,0,0,0,0,0,0,0,0,0,0,0,0,0,1,0,0,0,0,0,0,0,0,0,0,0,0,0,0,1,0,0,0,0,0,0,0,0,0,0,0,0,0,0,1,0,0,0,0,0,0,0,0,0,0,0,0,2,2,2,2,0,0,0,1,0,0,0,0,0,0,0,0,1,0]
set_option maxRecDepth 100000 in
theorem sh_vv_v_1 (m : Int) (t : Gt) (z : Int) (op l : Int) (y0 y1 : (Nat → Int) → Int) (x0 x1 x2 x3 x4 x5 : Int) (hop : opOf z = op) (K : Known ⟨op, 1, l, ⟨#[118, 118, 58, 118]⟩⟩) (Do : DoIs m t op 1 0 0 4 (fun x => [y0 x, y1 x]) true)  (w : World) (hS : SG w [gRow m t] w) :
  Calls Try.prog 3 #[.int .i64 z, .agg ⟨cells6 x0 x1 x2 x3 x4 x5⟩] w fun e w' => e = .returned (.bool true) ∧ Gr w w' :=
 sh_run m t z 110 (of1S (gRow m t) ⟨op, 1, l, ⟨#[118, 118, 58, 118]⟩⟩) (doW m t op 4 (fun x => [y0 x, y1 x])) (of1S (gRow 0 ⟨0, []⟩) ⟨64878, 1, 0, ⟨#[118, 118, 58, 118]⟩⟩) (doW 0 ⟨0, []⟩ 64878 4 (fun _ => [3, 4])) x0 x1 x2 x3 x4 x5 (of1S_ok m t ⟨op, 1, l, ⟨#[118, 118, 58, 118]⟩⟩ K) (doS_ok m t op 1 0 0 4 (fun x => [y0 x, y1 x]) true sub2 Do) [(decide (opOf z = op), true), (decide (opOf z < 64768), false)] t_sh_vv_v_1 (cons_d (dec_op hop) (cons_d (dec_lt hop K.lo) nil_d)) (fun β => by kernel_rfl) w hS
def t_sh_vvv_v_1 : List Nat := [0,0,0,0,0,0,0,0,0,0,0,0,0,0,0,0,0,0,0,0,0,0,0,0,0,0,0,0,0,0,0,0,0,1,0,0,0,0,0,0,0,0,0,0,0,0,0,0,1,0,0,0,0,0,0,0,0,0,0,0,0,0,0,1,0,0,0,0,0,0,0,0,0,0,0,0,0,0,1,0,0,0,0,0,0,0,0,0,0,0,0,0,0,1,0,0,0,0,0,0,0,0,0,0,0,0,0,0,1,0,0,0,0,0,0,0,0,0,0,0,0,0,0,1,0,0,0,0,0,0,0,0,0,0,0,0,0,0,2,2,2,2,0,0,0,1,0,0,0,0,0,0,0,0,1,0]
set_option maxRecDepth 100000 in
theorem sh_vvv_v_1 (m : Int) (t : Gt) (z : Int) (op l : Int) (y0 y1 : (Nat → Int) → Int) (x0 x1 x2 x3 x4 x5 : Int) (hop : opOf z = op) (K : Known ⟨op, 1, l, ⟨#[118, 118, 118, 58, 118]⟩⟩) (Do : DoIs m t op 1 0 0 6 (fun x => [y0 x, y1 x]) true)  (w : World) (hS : SG w [gRow m t] w) :
  Calls Try.prog 3 #[.int .i64 z, .agg ⟨cells6 x0 x1 x2 x3 x4 x5⟩] w fun e w' => e = .returned (.bool true) ∧ Gr w w' :=
 sh_run m t z 82 (of1S (gRow m t) ⟨op, 1, l, ⟨#[118, 118, 118, 58, 118]⟩⟩) (doW m t op 6 (fun x => [y0 x, y1 x])) (of1S (gRow 0 ⟨0, []⟩) ⟨64850, 1, 0, ⟨#[118, 118, 118, 58, 118]⟩⟩) (doW 0 ⟨0, []⟩ 64850 6 (fun _ => [3, 4])) x0 x1 x2 x3 x4 x5 (of1S_ok m t ⟨op, 1, l, ⟨#[118, 118, 118, 58, 118]⟩⟩ K) (doS_ok m t op 1 0 0 6 (fun x => [y0 x, y1 x]) true sub2 Do) [(decide (opOf z = op), true), (decide (opOf z < 64768), false)] t_sh_vvv_v_1 (cons_d (dec_op hop) (cons_d (dec_lt hop K.lo) nil_d)) (fun β => by kernel_rfl) w hS
def t_sh_v_i_1 : List Nat := [0,0,0,0,0,0,0,0,0,0,0,0,0,0,1,0,0,0,0,0,0,0,0,0,0,0,0,0,0,1,0,0,0,0,0,0,0,0,0,0,0,0,0,0,1,0,0,0,0,0,0,0,0,0,0,0,0,0,0,1,0,3,0,0,0,0,0,0,0,0,0,0,0,0,0,0,0,0,0,0,0,0,0,0,0,0,0,0,0,0,0,0,0,1,0,0,0,0,0,0,0,0,0,0,0,0,0,0,1,0,0,0,0,0,0,0,0,0,0,0,0,0,0,1,0,0,0,0,0,0,0,0,0,0,2,2,2,2,0,0,0,1,0,0,0,0,0,0,0,0,1,0]
set_option maxRecDepth 100000 in
theorem sh_v_i_1 (m : Int) (t : Gt) (z : Int) (op l : Int) (y0 : (Nat → Int) → Int) (x0 x1 x2 x3 x4 x5 : Int) (hop : opOf z = op) (K : Known ⟨op, 1, l, ⟨#[118, 58, 105]⟩⟩) (Do : DoIs m t op 1 0 0 2 (fun x => [y0 x]) true) (hy : ∀ x, 0 ≤ y0 x ∧ y0 x < 4294967296)  (w : World) (hS : SG w [gRow m t] w) :
  Calls Try.prog 3 #[.int .i64 z, .agg ⟨cells6 x0 x1 x2 x3 x4 x5⟩] w fun e w' => e = .returned (.bool true) ∧ Gr w w' :=
 sh_run m t z 99 (of1S (gRow m t) ⟨op, 1, l, ⟨#[118, 58, 105]⟩⟩) (doW m t op 2 (fun x => [y0 x])) (of1S (gRow 0 ⟨0, []⟩) ⟨64867, 1, 0, ⟨#[118, 58, 105]⟩⟩) (doW 0 ⟨0, []⟩ 64867 2 (fun _ => [3])) x0 x1 x2 x3 x4 x5 (of1S_ok m t ⟨op, 1, l, ⟨#[118, 58, 105]⟩⟩ K) (doS_ok m t op 1 0 0 2 (fun x => [y0 x]) true sub2 Do) [(decide (opOf z = op), true), (decide (opOf z < 64768), false), ((y0 (numAt (cells6 x0 x1 x2 x3 x4 x5))).fdiv (2 ^ min (Int.toNat 32) IntKind.u64.bits) != 0, false)] t_sh_v_i_1 (cons_d (dec_op hop) (cons_d (dec_lt hop K.lo) (cons_d (hi0 (hy _)) nil_d))) (fun β => by kernel_rfl) w hS
def t_sh_v_i_13 : List Nat := [0,0,0,0,0,0,0,0,0,0,0,0,0,0,1,0,0,0,0,0,0,0,0,0,0,0,0,0,0,1,0,0,0,0,0,0,0,0,0,0,0,0,0,0,1,0,0,0,0,0,0,0,0,0,0,0,0,0,0,1,0,3,0,0,0,0,0,0,0,0,0,0,0,0,0,0,0,0,0,0,0,0,0,0,0,0,0,0,0,0,0,0,0,1,0,0,0,0,0,0,0,0,0,0,0,0,0,0,1,0,0,0,0,0,0,0,0,0,0,0,0,0,0,1,0,0,0,0,0,0,0,0,0,0,2,2,2,2,0,0,0,1,0,0,0,0,0,0,0,0,1,0]
set_option maxRecDepth 100000 in
theorem sh_v_i_13 (m : Int) (t : Gt) (z : Int) (op l : Int) (y0 : (Nat → Int) → Int) (x0 x1 x2 x3 x4 x5 : Int) (hop : opOf z = op) (K : Known ⟨op, 13, l, ⟨#[118, 58, 105]⟩⟩) (Do : DoIs m t op 1 0 0 2 (fun x => [y0 x]) true) (hy : ∀ x, 0 ≤ y0 x ∧ y0 x < 4294967296)  (w : World) (hS : SG w [gRow m t] w) :
  Calls Try.prog 3 #[.int .i64 z, .agg ⟨cells6 x0 x1 x2 x3 x4 x5⟩] w fun e w' => e = .returned (.bool true) ∧ Gr w w' :=
 sh_run m t z 21 (of1S (gRow m t) ⟨op, 13, l, ⟨#[118, 58, 105]⟩⟩) (doW m t op 2 (fun x => [y0 x])) (of1S (gRow 0 ⟨0, []⟩) ⟨64789, 13, 0, ⟨#[118, 58, 105]⟩⟩) (doW 0 ⟨0, []⟩ 64789 2 (fun _ => [3])) x0 x1 x2 x3 x4 x5 (of1S_ok m t ⟨op, 13, l, ⟨#[118, 58, 105]⟩⟩ K) (doS_ok m t op 1 0 0 2 (fun x => [y0 x]) true sub2 Do) [(decide (opOf z = op), true), (decide (opOf z < 64768), false), ((y0 (numAt (cells6 x0 x1 x2 x3 x4 x5))).fdiv (2 ^ min (Int.toNat 32) IntKind.u64.bits) != 0, false)] t_sh_v_i_13 (cons_d (dec_op hop) (cons_d (dec_lt hop K.lo) (cons_d (hi0 (hy _)) nil_d))) (fun β => by kernel_rfl) w hS
def t_sh_v_l_13 : List Nat := [0,0,0,0,0,0,0,0,0,0,0,0,0,0,1,0,0,0,0,0,0,0,0,0,0,0,0,0,0,1,0,0,0,0,0,0,0,0,0,0,0,0,0,0,1,0,0,0,0,0,0,0,0,0,0,0,0,0,0,1,0,0,0,0,0,0,0,0,0,0,0,0,0,0,0,0,0,0,0,0,0,0,0,0,0,0,0,0,0,0,0,0,0,1,0,0,0,0,0,0,0,0,0,0,0,0,0,0,1,0,0,0,0,0,0,0,0,0,0,0,0,0,0,1,0,0,0,0,0,0,0,0,0,0,2,2,2,2,0,0,0,1,0,0,0,0,0,0,0,0,1,0]
set_option maxRecDepth 100000 in
theorem sh_v_l_13 (m : Int) (t : Gt) (z : Int) (op l : Int) (y0 : (Nat → Int) → Int) (x0 x1 x2 x3 x4 x5 : Int) (hop : opOf z = op) (K : Known ⟨op, 13, l, ⟨#[118, 58, 108]⟩⟩) (Do : DoIs m t op 1 0 0 2 (fun x => [y0 x]) true)  (w : World) (hS : SG w [gRow m t] w) :
  Calls Try.prog 3 #[.int .i64 z, .agg ⟨cells6 x0 x1 x2 x3 x4 x5⟩] w fun e w' => e = .returned (.bool true) ∧ Gr w w' :=
 sh_run m t z 29 (of1S (gRow m t) ⟨op, 13, l, ⟨#[118, 58, 108]⟩⟩) (doW m t op 2 (fun x => [y0 x])) (of1S (gRow 0 ⟨0, []⟩) ⟨64797, 13, 0, ⟨#[118, 58, 108]⟩⟩) (doW 0 ⟨0, []⟩ 64797 2 (fun _ => [3])) x0 x1 x2 x3 x4 x5 (of1S_ok m t ⟨op, 13, l, ⟨#[118, 58, 108]⟩⟩ K) (doS_ok m t op 1 0 0 2 (fun x => [y0 x]) true sub2 Do) [(decide (opOf z = op), true), (decide (opOf z < 64768), false)] t_sh_v_l_13 (cons_d (dec_op hop) (cons_d (dec_lt hop K.lo) nil_d)) (fun β => by kernel_rfl) w hS
def t_sh_vi_v_13 : List Nat := [0,0,0,0,0,0,0,0,0,0,0,0,0,0,1,0,0,0,0,0,0,0,0,0,0,0,0,0,0,1,0,0,0,0,0,0,0,0,0,0,0,0,0,0,1,0,0,0,0,0,0,0,0,0,0,0,0,0,0,0,0,0,0,0,0,0,0,0,0,0,0,0,0,0,0,0,0,0,1,0,0,0,0,0,0,0,0,0,0,0,0,0,0,1,0,0,0,0,0,0,0,0,0,0,0,0,0,0,1,0,0,0,0,0,0,0,0,0,0,0,0,0,0,1,0,0,0,0,0,0,0,0,0,0,0,0,2,2,2,2,0,0,0,1,0,0,0,0,0,0,0,0,1,0]
set_option maxRecDepth 100000 in
theorem sh_vi_v_13 (m : Int) (t : Gt) (z : Int) (op l : Int) (y0 y1 : (Nat → Int) → Int) (x0 x1 x2 x3 x4 x5 : Int) (hop : opOf z = op) (K : Known ⟨op, 13, l, ⟨#[118, 105, 58, 118]⟩⟩) (Do : DoIs m t op 1 0 0 3 (fun x => [y0 x, y1 x]) true)  (w : World) (hS : SG w [gRow m t] w) :
  Calls Try.prog 3 #[.int .i64 z, .agg ⟨cells6 x0 x1 x2 x3 x4 x5⟩] w fun e w' => e = .returned (.bool true) ∧ Gr w w' :=
 sh_run m t z 23 (of1S (gRow m t) ⟨op, 13, l, ⟨#[118, 105, 58, 118]⟩⟩) (doW m t op 3 (fun x => [y0 x, y1 x])) (of1S (gRow 0 ⟨0, []⟩) ⟨64791, 13, 0, ⟨#[118, 105, 58, 118]⟩⟩) (doW 0 ⟨0, []⟩ 64791 3 (fun _ => [3, 4])) x0 x1 x2 x3 x4 x5 (of1S_ok m t ⟨op, 13, l, ⟨#[118, 105, 58, 118]⟩⟩ K) (doS_ok m t op 1 0 0 3 (fun x => [y0 x, y1 x]) true sub2 Do) [(decide (opOf z = op), true), (decide (opOf z < 64768), false)] t_sh_vi_v_13 (cons_d (dec_op hop) (cons_d (dec_lt hop K.lo) nil_d)) (fun β => by kernel_rfl) w hS
def t_sh_vl_v_13 : List Nat := [0,0,0,0,0,0,0,0,0,0,0,0,0,0,1,0,0,0,0,0,0,0,0,0,0,0,0,0,0,1,0,0,0,0,0,0,0,0,0,0,0,0,0,0,1,0,0,0,0,0,0,0,0,0,0,0,0,0,0,0,0,0,0,0,0,0,0,0,0,0,0,0,0,0,0,0,0,0,1,0,0,0,0,0,0,0,0,0,0,0,0,0,0,1,0,0,0,0,0,0,0,0,0,0,0,0,0,0,1,0,0,0,0,0,0,0,0,0,0,0,0,0,0,1,0,0,0,0,0,0,0,0,0,0,0,0,2,2,2,2,0,0,0,1,0,0,0,0,0,0,0,0,1,0]
set_option maxRecDepth 100000 in
theorem sh_vl_v_13 (m : Int) (t : Gt) (z : Int) (op l : Int) (y0 y1 : (Nat → Int) → Int) (x0 x1 x2 x3 x4 x5 : Int) (hop : opOf z = op) (K : Known ⟨op, 13, l, ⟨#[118, 108, 58, 118]⟩⟩) (Do : DoIs m t op 1 0 0 3 (fun x => [y0 x, y1 x]) true)  (w : World) (hS : SG w [gRow m t] w) :
  Calls Try.prog 3 #[.int .i64 z, .agg ⟨cells6 x0 x1 x2 x3 x4 x5⟩] w fun e w' => e = .returned (.bool true) ∧ Gr w w' :=
 sh_run m t z 30 (of1S (gRow m t) ⟨op, 13, l, ⟨#[118, 108, 58, 118]⟩⟩) (doW m t op 3 (fun x => [y0 x, y1 x])) (of1S (gRow 0 ⟨0, []⟩) ⟨64798, 13, 0, ⟨#[118, 108, 58, 118]⟩⟩) (doW 0 ⟨0, []⟩ 64798 3 (fun _ => [3, 4])) x0 x1 x2 x3 x4 x5 (of1S_ok m t ⟨op, 13, l, ⟨#[118, 108, 58, 118]⟩⟩ K) (doS_ok m t op 1 0 0 3 (fun x => [y0 x, y1 x]) true sub2 Do) [(decide (opOf z = op), true), (decide (opOf z < 64768), false)] t_sh_vl_v_13 (cons_d (dec_op hop) (cons_d (dec_lt hop K.lo) nil_d)) (fun β => by kernel_rfl) w hS
def t_sh_vi_v_1 : List Nat := [0,0,0,0,0,0,0,0,0,0,0,0,0,0,1,0,0,0,0,0,0,0,0,0,0,0,0,0,0,1,0,0,0,0,0,0,0,0,0,0,0,0,0,0,1,0,0,0,0,0,0,0,0,0,0,0,0,0,0,0,0,0,0,0,0,0,0,0,0,0,0,0,0,0,0,0,0,0,1,0,0,0,0,0,0,0,0,0,0,0,0,0,0,1,0,0,0,0,0,0,0,0,0,0,0,0,0,0,1,0,0,0,0,0,0,0,0,0,0,0,0,0,0,1,0,0,0,0,0,0,0,0,0,0,0,0,2,2,2,2,0,0,0,1,0,0,0,0,0,0,0,0,1,0]
set_option maxRecDepth 100000 in
theorem sh_vi_v_1 (m : Int) (t : Gt) (z : Int) (op l : Int) (y0 y1 : (Nat → Int) → Int) (x0 x1 x2 x3 x4 x5 : Int) (hop : opOf z = op) (K : Known ⟨op, 1, l, ⟨#[118, 105, 58, 118]⟩⟩) (Do : DoIs m t op 1 0 0 3 (fun x => [y0 x, y1 x]) true)  (w : World) (hS : SG w [gRow m t] w) :
  Calls Try.prog 3 #[.int .i64 z, .agg ⟨cells6 x0 x1 x2 x3 x4 x5⟩] w fun e w' => e = .returned (.bool true) ∧ Gr w w' :=
 sh_run m t z 107 (of1S (gRow m t) ⟨op, 1, l, ⟨#[118, 105, 58, 118]⟩⟩) (doW m t op 3 (fun x => [y0 x, y1 x])) (of1S (gRow 0 ⟨0, []⟩) ⟨64875, 1, 0, ⟨#[118, 105, 58, 118]⟩⟩) (doW 0 ⟨0, []⟩ 64875 3 (fun _ => [3, 4])) x0 x1 x2 x3 x4 x5 (of1S_ok m t ⟨op, 1, l, ⟨#[118, 105, 58, 118]⟩⟩ K) (doS_ok m t op 1 0 0 3 (fun x => [y0 x, y1 x]) true sub2 Do) [(decide (opOf z = op), true), (decide (opOf z < 64768), false)] t_sh_vi_v_1 (cons_d (dec_op hop) (cons_d (dec_lt hop K.lo) nil_d)) (fun β => by kernel_rfl) w hS
def t_sh_vv_v_12 : List Nat := [0,0,0,0,0,0,0,0,0,0,0,0,0,0,1,0,0,0,0,0,0,0,0,0,0,0,0,0,0,1,0,0,0,0,0,0,0,0,0,0,0,0,0,0,0,0,0,0,0,0,0,0,0,0,0,0,0,0,0,0,0,0,0,1,0,0,0,0,0,0,0,0,0,0,0,0,0,0,1,0,0,0,0,0,0,0,0,0,0,0,0,0,0,1,0,0,0,0,0,0,0,0,0,0,0,0,0,0,1,0,0,0,0,0,0,0,0,0,0,0,0,0,0,1,0,0,0,0,0,0,0,0,0,0,0,0,2,2,2,2,0,0,0,1,0,0,0,0,0,0,0,0,1,0]
set_option maxRecDepth 100000 in
theorem sh_vv_v_12 (m : Int) (t : Gt) (z : Int) (op l : Int) (y0 y1 : (Nat → Int) → Int) (x0 x1 x2 x3 x4 x5 : Int) (hop : opOf z = op) (K : Known ⟨op, 12, l, ⟨#[118, 118, 58, 118]⟩⟩) (Do : DoIs m t op 1 0 0 4 (fun x => [y0 x, y1 x]) true)  (w : World) (hS : SG w [gRow m t] w) :
  Calls Try.prog 3 #[.int .i64 z, .agg ⟨cells6 x0 x1 x2 x3 x4 x5⟩] w fun e w' => e = .returned (.bool true) ∧ Gr w w' :=
 sh_run m t z 13 (of1S (gRow m t) ⟨op, 12, l, ⟨#[118, 118, 58, 118]⟩⟩) (doW m t op 4 (fun x => [y0 x, y1 x])) (of1S (gRow 0 ⟨0, []⟩) ⟨64781, 12, 0, ⟨#[118, 118, 58, 118]⟩⟩) (doW 0 ⟨0, []⟩ 64781 4 (fun _ => [3, 4])) x0 x1 x2 x3 x4 x5 (of1S_ok m t ⟨op, 12, l, ⟨#[118, 118, 58, 118]⟩⟩ K) (doS_ok m t op 1 0 0 4 (fun x => [y0 x, y1 x]) true sub2 Do) [(decide (opOf z = op), true), (decide (opOf z < 64768), false)] t_sh_vv_v_12 (cons_d (dec_op hop) (cons_d (dec_lt hop K.lo) nil_d)) (fun β => by kernel_rfl) w hS
def t_sh_i_v_1 : List Nat := [0,0,0,0,0,0,0,0,0,0,0,0,0,0,1,0,0,0,0,0,0,0,0,0,0,0,0,0,0,1,0,0,0,0,0,0,0,0,0,0,0,0,0,0,1,0,0,0,0,0,0,0,0,0,0,0,0,0,0,1,0,0,0,0,0,0,0,0,0,0,0,0,0,0,1,0,0,0,0,0,0,0,0,0,0,0,0,0,0,0,0,0,0,0,0,0,0,0,0,0,0,0,0,0,0,0,0,0,1,0,0,0,0,0,0,0,0,0,0,0,0,0,0,1,0,0,0,0,0,0,0,0,0,0,2,2,2,2,0,0,0,1,0,0,0,0,0,0,0,0,1,0]
set_option maxRecDepth 100000 in
theorem sh_i_v_1 (m : Int) (t : Gt) (z : Int) (op l : Int) (y0 y1 : (Nat → Int) → Int) (x0 x1 x2 x3 x4 x5 : Int) (hop : opOf z = op) (K : Known ⟨op, 1, l, ⟨#[105, 58, 118]⟩⟩) (Do : DoIs m t op 1 0 0 1 (fun x => [y0 x, y1 x]) true)  (w : World) (hS : SG w [gRow m t] w) :
  Calls Try.prog 3 #[.int .i64 z, .agg ⟨cells6 x0 x1 x2 x3 x4 x5⟩] w fun e w' => e = .returned (.bool true) ∧ Gr w w' :=
 sh_run m t z 15 (of1S (gRow m t) ⟨op, 1, l, ⟨#[105, 58, 118]⟩⟩) (doW m t op 1 (fun x => [y0 x, y1 x])) (of1S (gRow 0 ⟨0, []⟩) ⟨64783, 1, 0, ⟨#[105, 58, 118]⟩⟩) (doW 0 ⟨0, []⟩ 64783 1 (fun _ => [3, 4])) x0 x1 x2 x3 x4 x5 (of1S_ok m t ⟨op, 1, l, ⟨#[105, 58, 118]⟩⟩ K) (doS_ok m t op 1 0 0 1 (fun x => [y0 x, y1 x]) true sub2 Do) [(decide (opOf z = op), true), (decide (opOf z < 64768), false)] t_sh_i_v_1 (cons_d (dec_op hop) (cons_d (dec_lt hop K.lo) nil_d)) (fun β => by kernel_rfl) w hS
def t_sh_l_v_1 : List Nat := [0,0,0,0,0,0,0,0,0,0,0,0,0,0,1,0,0,0,0,0,0,0,0,0,0,0,0,0,0,1,0,0,0,0,0,0,0,0,0,0,0,0,0,0,1,0,0,0,0,0,0,0,0,0,0,0,0,0,0,1,0,0,0,0,0,0,0,0,0,0,0,0,0,0,1,0,0,0,0,0,0,0,0,0,0,0,0,0,0,0,0,0,0,0,0,0,0,0,0,0,0,0,0,0,0,0,0,0,1,0,0,0,0,0,0,0,0,0,0,0,0,0,0,1,0,0,0,0,0,0,0,0,0,0,2,2,2,2,0,0,0,1,0,0,0,0,0,0,0,0,1,0]
set_option maxRecDepth 100000 in
theorem sh_l_v_1 (m : Int) (t : Gt) (z : Int) (op l : Int) (y0 y1 : (Nat → Int) → Int) (x0 x1 x2 x3 x4 x5 : Int) (hop : opOf z = op) (K : Known ⟨op, 1, l, ⟨#[108, 58, 118]⟩⟩) (Do : DoIs m t op 1 0 0 1 (fun x => [y0 x, y1 x]) true)  (w : World) (hS : SG w [gRow m t] w) :
  Calls Try.prog 3 #[.int .i64 z, .agg ⟨cells6 x0 x1 x2 x3 x4 x5⟩] w fun e w' => e = .returned (.bool true) ∧ Gr w w' :=
 sh_run m t z 18 (of1S (gRow m t) ⟨op, 1, l, ⟨#[108, 58, 118]⟩⟩) (doW m t op 1 (fun x => [y0 x, y1 x])) (of1S (gRow 0 ⟨0, []⟩) ⟨64786, 1, 0, ⟨#[108, 58, 118]⟩⟩) (doW 0 ⟨0, []⟩ 64786 1 (fun _ => [3, 4])) x0 x1 x2 x3 x4 x5 (of1S_ok m t ⟨op, 1, l, ⟨#[108, 58, 118]⟩⟩ K) (doS_ok m t op 1 0 0 1 (fun x => [y0 x, y1 x]) true sub2 Do) [(decide (opOf z = op), true), (decide (opOf z < 64768), false)] t_sh_l_v_1 (cons_d (dec_op hop) (cons_d (dec_lt hop K.lo) nil_d)) (fun β => by kernel_rfl) w hS
def t_sh_co : List Nat := [0,0,0,0,0,0,0,0,0,0,0,0,0,0,1,0,0,0,0,0,0,0,0,0,0,0,0,0,0,1,0,0,0,0,0,0,0,0,0,0,0,0,0,0,1,0,0,0,0,0,0,0,0,0,0,0,0,0,0,1,0,0,0,0,0,0,0,0,0,0,0,0,0,0,1,0,0,0,0,0,0,0,0,0,0,0,0,0,0,1,0,0,0,0,0,0,0,0,0,0,0,0,0,0,0,0,0,0,0,0,0,0,0,0,0,0,0,0,0,0,0,0,0,1,0,0,0,0,0,0,0,0,2,2,2,2,0,0,0,1,0,0,0,0,0,0,0,0,1,0]
set_option maxRecDepth 100000 in
theorem sh_co (m : Int) (t : Gt) (z : Int)  (x0 x1 x2 x3 x4 x5 : Int) (hop : opOf z = 64780) (w : World) (hS : SG w [gRow m t] w) :
  Calls Try.prog 3 #[.int .i64 z, .agg ⟨cells6 x0 x1 x2 x3 x4 x5⟩] w fun e w' => e = .returned (.bool true) ∧ Gr w w' :=
 sh_run m t z 12 (of0S (gRow m t) qC) (doW m t 64780 0 (fun _ => [getI (both64 0 0) 64 0, getI (both64 0 0) 64 1])) (of0S (gRow 0 ⟨0, []⟩) qC) (doW 0 ⟨0, []⟩ 64780 0 (fun _ => [3, 4])) x0 x1 x2 x3 x4 x5 (of0S_ok m t qC kC (by decide) (by decide +kernel)) (doS_ok m t 64780 1 0 0 0 _ true sub2 (is_co m t 1 0 0)) [(decide (opOf z = 64780), true), (decide (opOf z < 64768), false)] t_sh_co (cons_d (dec_op hop) (cons_d (dec_lt hop (by decide)) nil_d)) (fun β => by kernel_rfl) w hS
def t_sh_no : List Nat := [0,0,0,0,0,0,0,0,0,0,0,1,0,0,0,0,0,0,0,0,0,0,0,1,0,0,0,0,0,0,0,0,0,0,0,1,0,0,0,0,0,0,0,0,0,0,0,1,0,0,0,0,0,0,0,0,0,0,0,1,0,0,0,0,0,0,0,0,0,0,0,1,0,0,0,0,0,0,0,0,0,0,0,1,0,0,0,0,0,0,0,0,0,0,0,0,0,0,0,1,0,0,0,0,0,0,0,0,1,0]
set_option maxRecDepth 100000 in
theorem sh_no (m : Int) (t : Gt) (z : Int) (op : Int) (x0 x1 x2 x3 x4 x5 : Int) (hop : opOf z = op) (K : Unknown op) (w : World) (hS : SG w [gRow m t] w) :
  Calls Try.prog 3 #[.int .i64 z, .agg ⟨cells6 x0 x1 x2 x3 x4 x5⟩] w fun e w' => e = .returned (.bool true) ∧ Gr w w' :=
 sh_run m t z 19 (ofUS op) (doN (gRow m t) op) (ofUS 64787) (doN (gRow 0 ⟨0, []⟩) 64787) x0 x1 x2 x3 x4 x5 (ofUS_ok op K) (doN_ok m t op (no_un K)) [(decide (opOf z = op), true)] t_sh_no (cons_d (dec_op hop) nil_d) (fun β => by kernel_rfl) w hS
def t_sh_mem_i_v_7 : List Nat := [0,0,0,0,0,0,0,0,0,0,0,1,0,0,0,0,0,0,0,0,0,0,0,1,0,0,0,0,0,0,0,0,0,0,0,1,0,0,0,0,0,0,0,0,0,0,0,1,0,0,0,0,0,0,0,0,0,0,0,1,0,0,0,0,0,0,0,0,0,0,0,1,0,0,0,0,0,0,0,0,0,0,0,1,0,0,0,0,0,0,0,0,0,0,2,2,2,2,0,0,0,1,0,0,0,0,0,0,0,0,1,0]
set_option maxRecDepth 100000 in
theorem sh_mem_i_v_7 (m : Int) (t : Gt) (z : Int) (op l : Int) (x0 x1 x2 x3 x4 x5 : Int) (hop : opOf z = op) (hlo : 64768 ≤ op) (K : KnownP ⟨op, 7, l, ⟨#[105, 58, 118]⟩⟩) (w : World) (hS : SG w [gRow m t] w) :
  Calls Try.prog 3 #[.int .i64 z, .agg ⟨cells6 x0 x1 x2 x3 x4 x5⟩] w fun e w' => e = .returned (.bool true) ∧ Gr w w' :=
 sh_run m t z 0 (ofAS (gRow m t) ⟨op, 7, l, ⟨#[105, 58, 118]⟩⟩) (doN (gRow m t) op) (ofAS (gRow 0 ⟨0, []⟩) ⟨64768, 7, 0, ⟨#[105, 58, 118]⟩⟩) (doN (gRow 0 ⟨0, []⟩) 64768) x0 x1 x2 x3 x4 x5 (ofAS_ok m t ⟨op, 7, l, ⟨#[105, 58, 118]⟩⟩ K hlo (show 0 < (Ins.cutA ⟨#[105, 58, 118]⟩).size by decide +kernel)) (doN_ok m t op (no_mem (by omega) K (by decide))) [(decide (opOf z = op), true), (decide (opOf z < 64768), false)] t_sh_mem_i_v_7 (cons_d (dec_op hop) (cons_d (dec_lt hop hlo) nil_d)) (fun β => by kernel_rfl) w hS
def t_sh_mem_iv_v_8 : List Nat := [0,0,0,0,0,0,0,0,0,0,0,1,0,0,0,0,0,0,0,0,0,0,0,1,0,0,0,0,0,0,0,0,0,0,0,1,0,0,0,0,0,0,0,0,0,0,0,1,0,0,0,0,0,0,0,0,0,0,0,1,0,0,0,0,0,0,0,0,0,0,0,1,0,0,0,0,0,0,0,0,0,0,0,1,0,0,0,0,0,0,0,0,0,0,0,0,2,2,2,2,0,0,0,1,0,0,0,0,0,0,0,0,1,0]
set_option maxRecDepth 100000 in
theorem sh_mem_iv_v_8 (m : Int) (t : Gt) (z : Int) (op l : Int) (x0 x1 x2 x3 x4 x5 : Int) (hop : opOf z = op) (hlo : 64768 ≤ op) (K : KnownP ⟨op, 8, l, ⟨#[105, 118, 58, 118]⟩⟩) (w : World) (hS : SG w [gRow m t] w) :
  Calls Try.prog 3 #[.int .i64 z, .agg ⟨cells6 x0 x1 x2 x3 x4 x5⟩] w fun e w' => e = .returned (.bool true) ∧ Gr w w' :=
 sh_run m t z 84 (ofAS (gRow m t) ⟨op, 8, l, ⟨#[105, 118, 58, 118]⟩⟩) (doN (gRow m t) op) (ofAS (gRow 0 ⟨0, []⟩) ⟨64852, 8, 0, ⟨#[105, 118, 58, 118]⟩⟩) (doN (gRow 0 ⟨0, []⟩) 64852) x0 x1 x2 x3 x4 x5 (ofAS_ok m t ⟨op, 8, l, ⟨#[105, 118, 58, 118]⟩⟩ K hlo (show 0 < (Ins.cutA ⟨#[105, 118, 58, 118]⟩).size by decide +kernel)) (doN_ok m t op (no_mem (by omega) K (by decide))) [(decide (opOf z = op), true), (decide (opOf z < 64768), false)] t_sh_mem_iv_v_8 (cons_d (dec_op hop) (cons_d (dec_lt hop hlo) nil_d)) (fun β => by kernel_rfl) w hS
def t_sh_mem_iv__7 : List Nat := [0,0,0,0,0,0,0,0,0,0,0,1,0,0,0,0,0,0,0,0,0,0,0,1,0,0,0,0,0,0,0,0,0,0,0,1,0,0,0,0,0,0,0,0,0,0,0,1,0,0,0,0,0,0,0,0,0,0,0,1,0,0,0,0,0,0,0,0,0,0,0,1,0,0,0,0,0,0,0,0,0,0,0,1,0,0,0,0,0,0,0,0,0,0,0,0,2,2,2,2,0,0,0,1,0,0,0,0,0,0,0,0,1,0]
set_option maxRecDepth 100000 in
theorem sh_mem_iv__7 (m : Int) (t : Gt) (z : Int) (op l : Int) (x0 x1 x2 x3 x4 x5 : Int) (hop : opOf z = op) (hlo : 64768 ≤ op) (K : KnownP ⟨op, 7, l, ⟨#[105, 118, 58]⟩⟩) (w : World) (hS : SG w [gRow m t] w) :
  Calls Try.prog 3 #[.int .i64 z, .agg ⟨cells6 x0 x1 x2 x3 x4 x5⟩] w fun e w' => e = .returned (.bool true) ∧ Gr w w' :=
 sh_run m t z 11 (ofAS (gRow m t) ⟨op, 7, l, ⟨#[105, 118, 58]⟩⟩) (doN (gRow m t) op) (ofAS (gRow 0 ⟨0, []⟩) ⟨64779, 7, 0, ⟨#[105, 118, 58]⟩⟩) (doN (gRow 0 ⟨0, []⟩) 64779) x0 x1 x2 x3 x4 x5 (ofAS_ok m t ⟨op, 7, l, ⟨#[105, 118, 58]⟩⟩ K hlo (show 0 < (Ins.cutA ⟨#[105, 118, 58]⟩).size by decide +kernel)) (doN_ok m t op (no_mem (by omega) K (by decide))) [(decide (opOf z = op), true), (decide (opOf z < 64768), false)] t_sh_mem_iv__7 (cons_d (dec_op hop) (cons_d (dec_lt hop hlo) nil_d)) (fun β => by kernel_rfl) w hS
def t_sh_mem_iv__8 : List Nat := [0,0,0,0,0,0,0,0,0,0,0,1,0,0,0,0,0,0,0,0,0,0,0,1,0,0,0,0,0,0,0,0,0,0,0,1,0,0,0,0,0,0,0,0,0,0,0,1,0,0,0,0,0,0,0,0,0,0,0,1,0,0,0,0,0,0,0,0,0,0,0,1,0,0,0,0,0,0,0,0,0,0,0,1,0,0,0,0,0,0,0,0,0,0,0,0,2,2,2,2,0,0,0,1,0,0,0,0,0,0,0,0,1,0]
set_option maxRecDepth 100000 in
theorem sh_mem_iv__8 (m : Int) (t : Gt) (z : Int) (op l : Int) (x0 x1 x2 x3 x4 x5 : Int) (hop : opOf z = op) (hlo : 64768 ≤ op) (K : KnownP ⟨op, 8, l, ⟨#[105, 118, 58]⟩⟩) (w : World) (hS : SG w [gRow m t] w) :
  Calls Try.prog 3 #[.int .i64 z, .agg ⟨cells6 x0 x1 x2 x3 x4 x5⟩] w fun e w' => e = .returned (.bool true) ∧ Gr w w' :=
 sh_run m t z 88 (ofAS (gRow m t) ⟨op, 8, l, ⟨#[105, 118, 58]⟩⟩) (doN (gRow m t) op) (ofAS (gRow 0 ⟨0, []⟩) ⟨64856, 8, 0, ⟨#[105, 118, 58]⟩⟩) (doN (gRow 0 ⟨0, []⟩) 64856) x0 x1 x2 x3 x4 x5 (ofAS_ok m t ⟨op, 8, l, ⟨#[105, 118, 58]⟩⟩ K hlo (show 0 < (Ins.cutA ⟨#[105, 118, 58]⟩).size by decide +kernel)) (doN_ok m t op (no_mem (by omega) K (by decide))) [(decide (opOf z = op), true), (decide (opOf z < 64768), false)] t_sh_mem_iv__8 (cons_d (dec_op hop) (cons_d (dec_lt hop hlo) nil_d)) (fun β => by kernel_rfl) w hS
theorem wid32 : (256 : Int) ^ wid 32 = 4294967296 := by decide
theorem get32 {b : Nat → Int} (hb : Byt b) (i : Int) : 0 ≤ getI b 32 i ∧ getI b 32 i < 4294967296 := wid32 ▸ getI_bd hb 32 i
theorem shapes_walk (m : Int) (t : Gt) (z x0 x1 x2 x3 x4 x5 : Int) (w : World) (hS : SG w [gRow m t] w) :
  Calls Try.prog 3 #[.int .i64 z, .agg ⟨cells6 x0 x1 x2 x3 x4 x5⟩] w fun e w' => e = .returned (.bool true) ∧ Gr w w' := by
 obtain ⟨k, hk, hop⟩ := opOf_ex z
 have C := cl_all k hk
 have hok := ok_all ⟨k, hk⟩
 have hlo : (64768 : Int) ≤ 64768 + (k : Int) := by omega
 have hA : inI 1 = true := by decide
 simp only at hok
 generalize (64768 : Int) + (k : Int) = op at *
 generalize paOf k = p at *
 cases p
 ·exact sh_no m t z op _ _ _ _ _ _ hop C w hS
 ·obtain ⟨f, l, s, K, h⟩ := C
  rcases h with ⟨rfl, rfl⟩ | ⟨rfl, rfl⟩ | ⟨rfl, rfl⟩ | ⟨rfl, rfl⟩
  ·exact sh_mem_i_v_7 m t z op l _ _ _ _ _ _ hop hlo K w hS
  ·exact sh_mem_iv_v_8 m t z op l _ _ _ _ _ _ hop hlo K w hS
  ·exact sh_mem_iv__7 m t z op l _ _ _ _ _ _ hop hlo K w hS
  ·exact sh_mem_iv__8 m t z op l _ _ _ _ _ _ hop hlo K w hS
 ·exact sh_co m t z _ _ _ _ _ _ (hop.trans C) w hS
 ·obtain ⟨⟨l, K⟩, hf⟩ := C
  have D := is_all m t .aun rfl op l 1 0 0 hA hf K
  rw [hok] at D
  exact sh_v_v_1 m t z op l _ _ _ _ _ _ _ _ hop K D w hS
 ·obtain ⟨⟨l, K⟩, hf⟩ := C
  have D := is_all m t .wun rfl op l 1 0 0 hA hf K
  rw [hok] at D
  exact sh_v_v_1 m t z op l _ _ _ _ _ _ _ _ hop K D w hS
 ·obtain ⟨⟨l, K⟩, hf⟩ := C
  have D := is_all m t .bits77 rfl op l 1 0 0 hA hf K
  rw [hok] at D
  exact sh_v_v_1 m t z op l _ _ _ _ _ _ _ _ hop K D w hS
 ·obtain ⟨⟨l, K⟩, hf⟩ := C
  have D := is_all m t .bits78 rfl op l 1 0 0 hA hf K
  rw [hok] at D
  exact sh_vv_v_1 m t z op l _ _ _ _ _ _ _ _ hop K D w hS
 ·obtain ⟨⟨l, K⟩, hf⟩ := C
  have D := is_all m t .bits79 rfl op l 1 0 0 hA hf K
  rw [hok] at D
  exact sh_vv_v_1 m t z op l _ _ _ _ _ _ _ _ hop K D w hS
 ·obtain ⟨⟨l, K⟩, hf⟩ := C
  have D := is_all m t .bits80 rfl op l 1 0 0 hA hf K
  rw [hok] at D
  exact sh_vv_v_1 m t z op l _ _ _ _ _ _ _ _ hop K D w hS
 ·obtain ⟨⟨l, K⟩, hf⟩ := C
  have D := is_all m t .bits81 rfl op l 1 0 0 hA hf K
  rw [hok] at D
  exact sh_vv_v_1 m t z op l _ _ _ _ _ _ _ _ hop K D w hS
 ·obtain ⟨⟨l, K⟩, hf⟩ := C
  have D := is_all m t .bits82 rfl op l 1 0 0 hA hf K
  rw [hok] at D
  exact sh_vvv_v_1 m t z op l _ _ _ _ _ _ _ _ hop K D w hS
 ·obtain ⟨⟨l, K⟩, hf⟩ := C
  have D := is_all m t .test rfl op l 1 0 0 hA hf K
  rw [hok] at D
  exact sh_v_i_1 m t z op l _ _ _ _ _ _ _ hop K D (fun x => get32 (byt_one64 _) 0) w hS
 ·obtain ⟨⟨l, K⟩, hf⟩ := C
  have D := is_all m t .exi rfl op l 1 0 0 hA hf K
  rw [hok] at D
  exact sh_v_i_13 m t z op l _ _ _ _ _ _ _ hop K D (fun x => get32 (byt_one64 _) 0) w hS
 ·obtain ⟨⟨l, K⟩, hf⟩ := C
  have D := is_all m t .exl rfl op l 1 0 0 hA hf K
  rw [hok] at D
  exact sh_v_l_13 m t z op l _ _ _ _ _ _ _ hop K D w hS
 ·obtain ⟨⟨l, K⟩, hf⟩ := C
  have D := is_all m t .rei rfl op l 1 0 0 hA hf K
  rw [hok] at D
  exact sh_vi_v_13 m t z op l _ _ _ _ _ _ _ _ hop K D w hS
 ·obtain ⟨⟨l, K⟩, hf⟩ := C
  have D := is_all m t .rel rfl op l 1 0 0 hA hf K
  rw [hok] at D
  exact sh_vl_v_13 m t z op l _ _ _ _ _ _ _ _ hop K D w hS
 ·obtain ⟨⟨l, K⟩, hf⟩ := C
  have D := is_all m t .shift rfl op l 1 0 0 hA hf K
  rw [hok] at D
  exact sh_vi_v_1 m t z op l _ _ _ _ _ _ _ _ hop K D w hS
 ·obtain ⟨⟨l, K⟩, hf⟩ := C
  have D := is_all m t .abin rfl op l 1 0 0 hA hf K
  rw [hok] at D
  exact sh_vv_v_1 m t z op l _ _ _ _ _ _ _ _ hop K D w hS
 ·obtain ⟨⟨l, K⟩, hf⟩ := C
  have D := is_all m t .cmp rfl op l 1 0 0 hA hf K
  rw [hok] at D
  exact sh_vv_v_1 m t z op l _ _ _ _ _ _ _ _ hop K D w hS
 ·obtain ⟨⟨l, K⟩, hf⟩ := C
  have D := is_all m t .wbin rfl op l 1 0 0 hA hf K
  rw [hok] at D
  exact sh_vv_v_1 m t z op l _ _ _ _ _ _ _ _ hop K D w hS
 ·obtain ⟨⟨l, K⟩, hf⟩ := C
  have D := is_all m t .swz rfl op l 1 0 0 hA hf K
  rw [hok] at D
  exact sh_vv_v_1 m t z op l _ _ _ _ _ _ _ _ hop K D w hS
 ·obtain ⟨⟨l, K⟩, hf⟩ := C
  have D := is_all m t .shf rfl op l 1 0 0 hA hf K
  rw [hok] at D
  exact sh_vv_v_12 m t z op l _ _ _ _ _ _ _ _ hop K D w hS
 ·obtain ⟨⟨l, K⟩, hf⟩ := C
  have D := is_all m t .spi rfl op l 1 0 0 hA hf K
  rw [hok] at D
  exact sh_i_v_1 m t z op l _ _ _ _ _ _ _ _ hop K D w hS
 ·obtain ⟨⟨l, K⟩, hf⟩ := C
  have D := is_all m t .spl rfl op l 1 0 0 hA hf K
  rw [hok] at D
  exact sh_l_v_1 m t z op l _ _ _ _ _ _ _ _ hop K D w hS
theorem shapes_any (z : Int) (x : Nat → Int) (w : World) (hm : Ins.Mx w) : Calls Try.prog 3 #[.int .i64 z, .agg #[.int .u64 (x 0), .int .u64 (x 1), .int .u64 (x 2), .int .u64 (x 3), .int .u64 (x 4), .int .u64 (x 5)]] w fun e w' => e = .returned (.bool true) ∧ Gr w w' := by
 obtain ⟨m, hm⟩ := hm
 obtain ⟨t, hS⟩ := g_start hm
 exact shapes_walk m t z _ _ _ _ _ _ w hS
end Vc
end Go.Proofs.Ytjoalcaooccbiaa
