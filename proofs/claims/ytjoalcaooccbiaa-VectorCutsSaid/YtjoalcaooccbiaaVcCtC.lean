/-
 Of layer 9: VectorCuts, by the types of each opcode's kind. Conditions: the library's variable reads as some number. (gen_vccut.py)
-/
import Derived.Test.YtjoalcaooccbiaaVcShpC
namespace Go.Proofs.Ytjoalcaooccbiaa
open Go.RowKit VecM Ev
namespace Vc
def c5 (x0 x1 x2 x3 x4 : Int) : List Value := [.int .u64 x0, .int .u64 x1, .int .u64 x2, .int .u64 x3, .int .u64 x4]
noncomputable def cuPath (m : Int) (t : Gt) (z z' : Int) (cof cdo cof' cdo' : CsF) (x0 x1 x2 x3 x4 h : Int) (β : Nat → Fr) : Out :=
 evPathM (envW m t cof cdo) (envW 0 ⟨0, []⟩ cof' cdo') 400 5 [.int .i64 z, .agg ⟨c5 x0 x1 x2 x3 x4⟩, .int .u32 h] [.int .i64 z', .agg ⟨c5 11 12 13 14 15⟩, .int .u32 77] [gRow m t] [gRow 0 ⟨0, []⟩] (.bool true) β
theorem cu_run (m : Int) (t : Gt) (z z' : Int) (cof cdo cof' cdo' : CsF) (x0 x1 x2 x3 x4 h : Int) (h1 : COk cof) (h2 : COk cdo) (D : List (Bool × Bool)) (ts : List Nat) (hD : ∀ p ∈ D, p.1 = p.2)
  (hr : ∀ β, tagOL D ts (cuPath m t z z' cof cdo cof' cdo' x0 x1 x2 x3 x4 h β) = tagOR D ts (cuPath m t z z' cof cdo cof' cdo' x0 x1 x2 x3 x4 h β)) (w : World) (hS : SG w [gRow m t] w) :
  Calls Try.prog 5 #[.int .i64 z, .agg ⟨c5 x0 x1 x2 x3 x4⟩, .int .u32 h] w fun e w' => e = .returned (.bool true) ∧ Gr w w' :=
 ev_pathM (E := envW m t cof cdo) (E' := envW 0 ⟨0, []⟩ cof' cdo') rfl (nosum_ok _ rfl) (args := [.int .i64 z, .agg ⟨c5 x0 x1 x2 x3 x4⟩, .int .u32 h]) D ts hD hr w hS (ho := envW_ok h1 h2)
def jf12 (M : List Rw) : Nat := match Nat.beq M.length 12 with | true => 1 | false => M.length - 2
theorem ne_f {a b : Int} (h : a = b) : (a != b) = false := by rw [h]; exact bne_self_eq_false b
/-- a half with other upper bits -/
def turn (x h : Int) : Int := bits .xor .u64 x (IntKind.u64.wrap (IntKind.u64.wrap h * 2 ^ (min (Int.toNat 32) IntKind.u64.bits)))
def t_cu_v_v_1 : List Nat := [0,0,0,0,0,0,0,0,0,0,0,0,0,0,0,0,0,0,0,0,0,2,2,2,2,0,0,0,1,1,0]
set_option maxRecDepth 100000 in
theorem cu_v_v_1 (m : Int) (t : Gt) (z : Int) (op l : Int) (x0 x1 x2 x3 x4 h : Int) (hop : opOf z = op) (hlo : 64768 ≤ op) (K : Known ⟨op, 1, l, ⟨#[118, 58, 118]⟩⟩) (w : World) (hS : SG w [gRow m t] w) :
  Calls Try.prog 5 #[.int .i64 z, .agg ⟨c5 x0 x1 x2 x3 x4⟩, .int .u32 h] w fun e w' => e = .returned (.bool true) ∧ Gr w w' :=
 cu_run m t z 96 (of1S (gRow m t) ⟨op, 1, l, ⟨#[118, 58, 118]⟩⟩) num1S (of1S (gRow 0 ⟨0, []⟩) ⟨64864, 1, 0, ⟨#[118, 58, 118]⟩⟩) num1S x0 x1 x2 x3 x4 h (of1S_ok m t ⟨op, 1, l, ⟨#[118, 58, 118]⟩⟩ K) num1S_ok [(decide (opOf z = op), true), (decide (opOf z < 64768), false)] t_cu_v_v_1 (cons_d (dec_op hop) (cons_d (dec_lt hop hlo) nil_d)) (fun β => by kernel_rfl) w hS
def t_cu_vv_v_1 : List Nat := [0,0,0,0,0,0,0,0,0,0,0,0,0,0,0,0,0,0,0,0,0,2,2,2,2,0,0,0,1,1,0]
set_option maxRecDepth 100000 in
theorem cu_vv_v_1 (m : Int) (t : Gt) (z : Int) (op l : Int) (x0 x1 x2 x3 x4 h : Int) (hop : opOf z = op) (hlo : 64768 ≤ op) (K : Known ⟨op, 1, l, ⟨#[118, 118, 58, 118]⟩⟩) (w : World) (hS : SG w [gRow m t] w) :
  Calls Try.prog 5 #[.int .i64 z, .agg ⟨c5 x0 x1 x2 x3 x4⟩, .int .u32 h] w fun e w' => e = .returned (.bool true) ∧ Gr w w' :=
 cu_run m t z 110 (of1S (gRow m t) ⟨op, 1, l, ⟨#[118, 118, 58, 118]⟩⟩) num1S (of1S (gRow 0 ⟨0, []⟩) ⟨64878, 1, 0, ⟨#[118, 118, 58, 118]⟩⟩) num1S x0 x1 x2 x3 x4 h (of1S_ok m t ⟨op, 1, l, ⟨#[118, 118, 58, 118]⟩⟩ K) num1S_ok [(decide (opOf z = op), true), (decide (opOf z < 64768), false)] t_cu_vv_v_1 (cons_d (dec_op hop) (cons_d (dec_lt hop hlo) nil_d)) (fun β => by kernel_rfl) w hS
def t_cu_vvv_v_1 : List Nat := [0,0,0,0,0,0,0,0,0,0,0,0,0,0,0,0,0,0,0,0,0,2,2,2,2,0,0,0,1,1,0]
set_option maxRecDepth 100000 in
theorem cu_vvv_v_1 (m : Int) (t : Gt) (z : Int) (op l : Int) (x0 x1 x2 x3 x4 h : Int) (hop : opOf z = op) (hlo : 64768 ≤ op) (K : Known ⟨op, 1, l, ⟨#[118, 118, 118, 58, 118]⟩⟩) (w : World) (hS : SG w [gRow m t] w) :
  Calls Try.prog 5 #[.int .i64 z, .agg ⟨c5 x0 x1 x2 x3 x4⟩, .int .u32 h] w fun e w' => e = .returned (.bool true) ∧ Gr w w' :=
 cu_run m t z 82 (of1S (gRow m t) ⟨op, 1, l, ⟨#[118, 118, 118, 58, 118]⟩⟩) num1S (of1S (gRow 0 ⟨0, []⟩) ⟨64850, 1, 0, ⟨#[118, 118, 118, 58, 118]⟩⟩) num1S x0 x1 x2 x3 x4 h (of1S_ok m t ⟨op, 1, l, ⟨#[118, 118, 118, 58, 118]⟩⟩ K) num1S_ok [(decide (opOf z = op), true), (decide (opOf z < 64768), false)] t_cu_vvv_v_1 (cons_d (dec_op hop) (cons_d (dec_lt hop hlo) nil_d)) (fun β => by kernel_rfl) w hS
def t_cu_v_i_1 : List Nat := [0,0,0,0,0,0,0,0,0,0,0,0,0,0,0,0,0,0,0,0,0,2,2,2,2,0,0,0,1,1,0]
set_option maxRecDepth 100000 in
theorem cu_v_i_1 (m : Int) (t : Gt) (z : Int) (op l : Int) (x0 x1 x2 x3 x4 h : Int) (hop : opOf z = op) (hlo : 64768 ≤ op) (K : Known ⟨op, 1, l, ⟨#[118, 58, 105]⟩⟩) (w : World) (hS : SG w [gRow m t] w) :
  Calls Try.prog 5 #[.int .i64 z, .agg ⟨c5 x0 x1 x2 x3 x4⟩, .int .u32 h] w fun e w' => e = .returned (.bool true) ∧ Gr w w' :=
 cu_run m t z 99 (of1S (gRow m t) ⟨op, 1, l, ⟨#[118, 58, 105]⟩⟩) num1S (of1S (gRow 0 ⟨0, []⟩) ⟨64867, 1, 0, ⟨#[118, 58, 105]⟩⟩) num1S x0 x1 x2 x3 x4 h (of1S_ok m t ⟨op, 1, l, ⟨#[118, 58, 105]⟩⟩ K) num1S_ok [(decide (opOf z = op), true), (decide (opOf z < 64768), false)] t_cu_v_i_1 (cons_d (dec_op hop) (cons_d (dec_lt hop hlo) nil_d)) (fun β => by kernel_rfl) w hS
def t_cu_v_i_13 : List Nat := [0,0,0,0,0,0,0,0,0,0,0,0,0,0,0,0,0,0,0,0,0,2,2,2,2,0,0,0,1,1,0]
set_option maxRecDepth 100000 in
theorem cu_v_i_13 (m : Int) (t : Gt) (z : Int) (op l : Int) (x0 x1 x2 x3 x4 h : Int) (hop : opOf z = op) (hlo : 64768 ≤ op) (K : Known ⟨op, 13, l, ⟨#[118, 58, 105]⟩⟩) (w : World) (hS : SG w [gRow m t] w) :
  Calls Try.prog 5 #[.int .i64 z, .agg ⟨c5 x0 x1 x2 x3 x4⟩, .int .u32 h] w fun e w' => e = .returned (.bool true) ∧ Gr w w' :=
 cu_run m t z 21 (of1S (gRow m t) ⟨op, 13, l, ⟨#[118, 58, 105]⟩⟩) num1S (of1S (gRow 0 ⟨0, []⟩) ⟨64789, 13, 0, ⟨#[118, 58, 105]⟩⟩) num1S x0 x1 x2 x3 x4 h (of1S_ok m t ⟨op, 13, l, ⟨#[118, 58, 105]⟩⟩ K) num1S_ok [(decide (opOf z = op), true), (decide (opOf z < 64768), false)] t_cu_v_i_13 (cons_d (dec_op hop) (cons_d (dec_lt hop hlo) nil_d)) (fun β => by kernel_rfl) w hS
def t_cu_v_l_13 : List Nat := [0,0,0,0,0,0,0,0,0,0,0,0,0,0,0,0,0,0,0,0,0,2,2,2,2,0,0,0,1,1,0]
set_option maxRecDepth 100000 in
theorem cu_v_l_13 (m : Int) (t : Gt) (z : Int) (op l : Int) (x0 x1 x2 x3 x4 h : Int) (hop : opOf z = op) (hlo : 64768 ≤ op) (K : Known ⟨op, 13, l, ⟨#[118, 58, 108]⟩⟩) (w : World) (hS : SG w [gRow m t] w) :
  Calls Try.prog 5 #[.int .i64 z, .agg ⟨c5 x0 x1 x2 x3 x4⟩, .int .u32 h] w fun e w' => e = .returned (.bool true) ∧ Gr w w' :=
 cu_run m t z 29 (of1S (gRow m t) ⟨op, 13, l, ⟨#[118, 58, 108]⟩⟩) num1S (of1S (gRow 0 ⟨0, []⟩) ⟨64797, 13, 0, ⟨#[118, 58, 108]⟩⟩) num1S x0 x1 x2 x3 x4 h (of1S_ok m t ⟨op, 13, l, ⟨#[118, 58, 108]⟩⟩ K) num1S_ok [(decide (opOf z = op), true), (decide (opOf z < 64768), false)] t_cu_v_l_13 (cons_d (dec_op hop) (cons_d (dec_lt hop hlo) nil_d)) (fun β => by kernel_rfl) w hS
def t_cu_vl_v_13 : List Nat := [0,0,0,0,0,0,0,0,0,0,0,0,0,0,0,0,0,0,0,0,0,2,2,2,2,0,0,0,1,1,0]
set_option maxRecDepth 100000 in
theorem cu_vl_v_13 (m : Int) (t : Gt) (z : Int) (op l : Int) (x0 x1 x2 x3 x4 h : Int) (hop : opOf z = op) (hlo : 64768 ≤ op) (K : Known ⟨op, 13, l, ⟨#[118, 108, 58, 118]⟩⟩) (w : World) (hS : SG w [gRow m t] w) :
  Calls Try.prog 5 #[.int .i64 z, .agg ⟨c5 x0 x1 x2 x3 x4⟩, .int .u32 h] w fun e w' => e = .returned (.bool true) ∧ Gr w w' :=
 cu_run m t z 30 (of1S (gRow m t) ⟨op, 13, l, ⟨#[118, 108, 58, 118]⟩⟩) num1S (of1S (gRow 0 ⟨0, []⟩) ⟨64798, 13, 0, ⟨#[118, 108, 58, 118]⟩⟩) num1S x0 x1 x2 x3 x4 h (of1S_ok m t ⟨op, 13, l, ⟨#[118, 108, 58, 118]⟩⟩ K) num1S_ok [(decide (opOf z = op), true), (decide (opOf z < 64768), false)] t_cu_vl_v_13 (cons_d (dec_op hop) (cons_d (dec_lt hop hlo) nil_d)) (fun β => by kernel_rfl) w hS
def t_cu_vv_v_12 : List Nat := [0,0,0,0,0,0,0,0,0,0,0,0,0,0,0,0,0,0,0,0,0,2,2,2,2,0,0,0,1,1,0]
set_option maxRecDepth 100000 in
theorem cu_vv_v_12 (m : Int) (t : Gt) (z : Int) (op l : Int) (x0 x1 x2 x3 x4 h : Int) (hop : opOf z = op) (hlo : 64768 ≤ op) (K : Known ⟨op, 12, l, ⟨#[118, 118, 58, 118]⟩⟩) (w : World) (hS : SG w [gRow m t] w) :
  Calls Try.prog 5 #[.int .i64 z, .agg ⟨c5 x0 x1 x2 x3 x4⟩, .int .u32 h] w fun e w' => e = .returned (.bool true) ∧ Gr w w' :=
 cu_run m t z 13 (of1S (gRow m t) ⟨op, 12, l, ⟨#[118, 118, 58, 118]⟩⟩) num1S (of1S (gRow 0 ⟨0, []⟩) ⟨64781, 12, 0, ⟨#[118, 118, 58, 118]⟩⟩) num1S x0 x1 x2 x3 x4 h (of1S_ok m t ⟨op, 12, l, ⟨#[118, 118, 58, 118]⟩⟩ K) num1S_ok [(decide (opOf z = op), true), (decide (opOf z < 64768), false)] t_cu_vv_v_12 (cons_d (dec_op hop) (cons_d (dec_lt hop hlo) nil_d)) (fun β => by kernel_rfl) w hS
def t_cu_l_v_1 : List Nat := [0,0,0,0,0,0,0,0,0,0,0,0,0,0,0,0,0,0,0,0,0,2,2,2,2,0,0,0,1,1,0]
set_option maxRecDepth 100000 in
theorem cu_l_v_1 (m : Int) (t : Gt) (z : Int) (op l : Int) (x0 x1 x2 x3 x4 h : Int) (hop : opOf z = op) (hlo : 64768 ≤ op) (K : Known ⟨op, 1, l, ⟨#[108, 58, 118]⟩⟩) (w : World) (hS : SG w [gRow m t] w) :
  Calls Try.prog 5 #[.int .i64 z, .agg ⟨c5 x0 x1 x2 x3 x4⟩, .int .u32 h] w fun e w' => e = .returned (.bool true) ∧ Gr w w' :=
 cu_run m t z 18 (of1S (gRow m t) ⟨op, 1, l, ⟨#[108, 58, 118]⟩⟩) num1S (of1S (gRow 0 ⟨0, []⟩) ⟨64786, 1, 0, ⟨#[108, 58, 118]⟩⟩) num1S x0 x1 x2 x3 x4 h (of1S_ok m t ⟨op, 1, l, ⟨#[108, 58, 118]⟩⟩ K) num1S_ok [(decide (opOf z = op), true), (decide (opOf z < 64768), false)] t_cu_l_v_1 (cons_d (dec_op hop) (cons_d (dec_lt hop hlo) nil_d)) (fun β => by kernel_rfl) w hS
def t_cu_vi_v_13 : List Nat := [0,0,4,0,3,0,0,0,0,0,0,0,0,0,0,0,0,0,0,0,0,0,0,1,0,0,0,0,0,0,1,0,0,0,0,0,0,0,0,0,0,0,0,0,0,0,0,0,0,0,0,0,2,2,2,2,0,0,0,1,1,0]
set_option maxRecDepth 100000 in
theorem cu_vi_v_13 (m : Int) (t : Gt) (z : Int) (op l : Int) (y0 y1 : (Nat → Int) → Int) (x0 x1 x2 x3 x4 h : Int) (hop : opOf z = op) (hlo : 64768 ≤ op) (K : Known ⟨op, 13, l, ⟨#[118, 105, 58, 118]⟩⟩) (Do : DoIs m t op 0 0 0 3 (fun x => [y0 x, y1 x]) true) (e0 : y0 (numAt (c5 x0 x1 x2 x3 x4)) = y0 (numAt (c5 x0 x1 (turn x2 h) x3 x4))) (e1 : y1 (numAt (c5 x0 x1 x2 x3 x4)) = y1 (numAt (c5 x0 x1 (turn x2 h) x3 x4))) (w : World) (hS : SG w [gRow m t] w) :
  Calls Try.prog 5 #[.int .i64 z, .agg ⟨c5 x0 x1 x2 x3 x4⟩, .int .u32 h] w fun e w' => e = .returned (.bool true) ∧ Gr w w' :=
 cu_run m t z 23 (of1S (gRow m t) ⟨op, 13, l, ⟨#[118, 105, 58, 118]⟩⟩) (doS (gRow m t) op 0 0 0 3 (fun x => [y0 x, y1 x]) true jf12) (of1S (gRow 0 ⟨0, []⟩) ⟨64791, 13, 0, ⟨#[118, 105, 58, 118]⟩⟩) (doS (gRow 0 ⟨0, []⟩) 64791 0 0 0 3 (fun _ => [5, 6]) true jf12) x0 x1 x2 x3 x4 h (of1S_ok m t ⟨op, 13, l, ⟨#[118, 105, 58, 118]⟩⟩ K) (doS_ok m t op 0 0 0 3 (fun x => [y0 x, y1 x]) true jf12 Do) [(decide (opOf z = op), true), (decide (opOf z < 64768), false), (y0 (numAt (c5 x0 x1 x2 x3 x4)) != y0 (numAt (c5 x0 x1 (turn x2 h) x3 x4)), false), (y1 (numAt (c5 x0 x1 x2 x3 x4)) != y1 (numAt (c5 x0 x1 (turn x2 h) x3 x4)), false)] t_cu_vi_v_13 (cons_d (dec_op hop) (cons_d (dec_lt hop hlo) (cons_d (ne_f e0) (cons_d (ne_f e1) nil_d)))) (fun β => by kernel_rfl) w hS
def t_cu_vi_v_1 : List Nat := [0,0,4,0,3,0,0,0,0,0,0,0,0,0,0,0,0,0,0,0,0,0,0,1,0,0,0,0,0,0,1,0,0,0,0,0,0,0,0,0,0,0,0,0,0,0,0,0,0,0,0,0,2,2,2,2,0,0,0,1,1,0]
set_option maxRecDepth 100000 in
theorem cu_vi_v_1 (m : Int) (t : Gt) (z : Int) (op l : Int) (y0 y1 : (Nat → Int) → Int) (x0 x1 x2 x3 x4 h : Int) (hop : opOf z = op) (hlo : 64768 ≤ op) (K : Known ⟨op, 1, l, ⟨#[118, 105, 58, 118]⟩⟩) (Do : DoIs m t op 0 0 0 3 (fun x => [y0 x, y1 x]) true) (e0 : y0 (numAt (c5 x0 x1 x2 x3 x4)) = y0 (numAt (c5 x0 x1 (turn x2 h) x3 x4))) (e1 : y1 (numAt (c5 x0 x1 x2 x3 x4)) = y1 (numAt (c5 x0 x1 (turn x2 h) x3 x4))) (w : World) (hS : SG w [gRow m t] w) :
  Calls Try.prog 5 #[.int .i64 z, .agg ⟨c5 x0 x1 x2 x3 x4⟩, .int .u32 h] w fun e w' => e = .returned (.bool true) ∧ Gr w w' :=
 cu_run m t z 107 (of1S (gRow m t) ⟨op, 1, l, ⟨#[118, 105, 58, 118]⟩⟩) (doS (gRow m t) op 0 0 0 3 (fun x => [y0 x, y1 x]) true jf12) (of1S (gRow 0 ⟨0, []⟩) ⟨64875, 1, 0, ⟨#[118, 105, 58, 118]⟩⟩) (doS (gRow 0 ⟨0, []⟩) 64875 0 0 0 3 (fun _ => [5, 6]) true jf12) x0 x1 x2 x3 x4 h (of1S_ok m t ⟨op, 1, l, ⟨#[118, 105, 58, 118]⟩⟩ K) (doS_ok m t op 0 0 0 3 (fun x => [y0 x, y1 x]) true jf12 Do) [(decide (opOf z = op), true), (decide (opOf z < 64768), false), (y0 (numAt (c5 x0 x1 x2 x3 x4)) != y0 (numAt (c5 x0 x1 (turn x2 h) x3 x4)), false), (y1 (numAt (c5 x0 x1 x2 x3 x4)) != y1 (numAt (c5 x0 x1 (turn x2 h) x3 x4)), false)] t_cu_vi_v_1 (cons_d (dec_op hop) (cons_d (dec_lt hop hlo) (cons_d (ne_f e0) (cons_d (ne_f e1) nil_d)))) (fun β => by kernel_rfl) w hS
def t_cu_i_v_1 : List Nat := [0,0,4,0,3,0,0,0,0,0,0,0,0,0,0,0,0,0,0,0,0,0,0,1,0,0,0,0,0,0,1,0,0,0,0,0,0,0,0,0,0,0,0,0,0,0,0,0,0,0,0,0,2,2,2,2,0,0,0,1,1,0]
set_option maxRecDepth 100000 in
theorem cu_i_v_1 (m : Int) (t : Gt) (z : Int) (op l : Int) (y0 y1 : (Nat → Int) → Int) (x0 x1 x2 x3 x4 h : Int) (hop : opOf z = op) (hlo : 64768 ≤ op) (K : Known ⟨op, 1, l, ⟨#[105, 58, 118]⟩⟩) (Do : DoIs m t op 0 0 0 1 (fun x => [y0 x, y1 x]) true) (e0 : y0 (numAt (c5 x0 x1 x2 x3 x4)) = y0 (numAt (c5 (turn x0 h) x1 x2 x3 x4))) (e1 : y1 (numAt (c5 x0 x1 x2 x3 x4)) = y1 (numAt (c5 (turn x0 h) x1 x2 x3 x4))) (w : World) (hS : SG w [gRow m t] w) :
  Calls Try.prog 5 #[.int .i64 z, .agg ⟨c5 x0 x1 x2 x3 x4⟩, .int .u32 h] w fun e w' => e = .returned (.bool true) ∧ Gr w w' :=
 cu_run m t z 15 (of1S (gRow m t) ⟨op, 1, l, ⟨#[105, 58, 118]⟩⟩) (doS (gRow m t) op 0 0 0 1 (fun x => [y0 x, y1 x]) true jf12) (of1S (gRow 0 ⟨0, []⟩) ⟨64783, 1, 0, ⟨#[105, 58, 118]⟩⟩) (doS (gRow 0 ⟨0, []⟩) 64783 0 0 0 1 (fun _ => [5, 6]) true jf12) x0 x1 x2 x3 x4 h (of1S_ok m t ⟨op, 1, l, ⟨#[105, 58, 118]⟩⟩ K) (doS_ok m t op 0 0 0 1 (fun x => [y0 x, y1 x]) true jf12 Do) [(decide (opOf z = op), true), (decide (opOf z < 64768), false), (y0 (numAt (c5 x0 x1 x2 x3 x4)) != y0 (numAt (c5 (turn x0 h) x1 x2 x3 x4)), false), (y1 (numAt (c5 x0 x1 x2 x3 x4)) != y1 (numAt (c5 (turn x0 h) x1 x2 x3 x4)), false)] t_cu_i_v_1 (cons_d (dec_op hop) (cons_d (dec_lt hop hlo) (cons_d (ne_f e0) (cons_d (ne_f e1) nil_d)))) (fun β => by kernel_rfl) w hS
def t_cu_co : List Nat := [0,0,0,0,0,0,0,0,0,0,0,0,0,0,0,0,0,0,0,0,0,2,2,2,2,0,0,0,1,1,0]
set_option maxRecDepth 100000 in
theorem cu_co (m : Int) (t : Gt) (z : Int)  (x0 x1 x2 x3 x4 h : Int) (hop : opOf z = 64780) (w : World) (hS : SG w [gRow m t] w) :
  Calls Try.prog 5 #[.int .i64 z, .agg ⟨c5 x0 x1 x2 x3 x4⟩, .int .u32 h] w fun e w' => e = .returned (.bool true) ∧ Gr w w' :=
 cu_run m t z 12 (of0S (gRow m t) qC) num1S (of0S (gRow 0 ⟨0, []⟩) qC) num1S x0 x1 x2 x3 x4 h (of0S_ok m t qC kC (by decide) (by decide +kernel)) num1S_ok [(decide (opOf z = 64780), true), (decide (opOf z < 64768), false)] t_cu_co (cons_d (dec_op hop) (cons_d (dec_lt hop (by decide)) nil_d)) (fun β => by kernel_rfl) w hS
def t_cu_no : List Nat := [0,0,0,0,0,0,0,0,0,0,0,0,0,0,0,0,0,0,0,0,0,0,0,0,0,0,0,0,1,1,0]
set_option maxRecDepth 100000 in
theorem cu_no (m : Int) (t : Gt) (z : Int) (op : Int) (x0 x1 x2 x3 x4 h : Int) (hop : opOf z = op) (K : Unknown op) (w : World) (hS : SG w [gRow m t] w) :
  Calls Try.prog 5 #[.int .i64 z, .agg ⟨c5 x0 x1 x2 x3 x4⟩, .int .u32 h] w fun e w' => e = .returned (.bool true) ∧ Gr w w' :=
 cu_run m t z 19 (ofUS op) num1S (ofUS 64787) num1S x0 x1 x2 x3 x4 h (ofUS_ok op K) num1S_ok [(decide (opOf z = op), true)] t_cu_no (cons_d (dec_op hop) nil_d) (fun β => by kernel_rfl) w hS
def t_cu_mem_7 : List Nat := [0,0,0,0,0,0,0,0,0,0,0,0,0,0,0,0,0,0,0,0,0,2,2,2,2,0,0,0,1,1,0]
set_option maxRecDepth 100000 in
theorem cu_mem_7 (m : Int) (t : Gt) (z : Int) (op l : Int) (s : ByteArray) (x0 x1 x2 x3 x4 h : Int) (hop : opOf z = op) (hlo : 64768 ≤ op) (K : KnownP ⟨op, 7, l, s⟩) (w : World) (hS : SG w [gRow m t] w) :
  Calls Try.prog 5 #[.int .i64 z, .agg ⟨c5 x0 x1 x2 x3 x4⟩, .int .u32 h] w fun e w' => e = .returned (.bool true) ∧ Gr w w' :=
 cu_run m t z 0 (ofPS (gRow m t) ⟨op, 7, l, s⟩) num1S (ofPS (gRow 0 ⟨0, []⟩) ⟨64768, 7, 0, ⟨#[105, 118, 58, 118]⟩⟩) num1S x0 x1 x2 x3 x4 h (ofPS_ok m t ⟨op, 7, l, s⟩ K) num1S_ok [(decide (opOf z = op), true), (decide (opOf z < 64768), false)] t_cu_mem_7 (cons_d (dec_op hop) (cons_d (dec_lt hop hlo) nil_d)) (fun β => by kernel_rfl) w hS
def t_cu_mem_8 : List Nat := [0,0,0,0,0,0,0,0,0,0,0,0,0,0,0,0,0,0,0,0,0,2,2,2,2,0,0,0,1,1,0]
set_option maxRecDepth 100000 in
theorem cu_mem_8 (m : Int) (t : Gt) (z : Int) (op l : Int) (s : ByteArray) (x0 x1 x2 x3 x4 h : Int) (hop : opOf z = op) (hlo : 64768 ≤ op) (K : KnownP ⟨op, 8, l, s⟩) (w : World) (hS : SG w [gRow m t] w) :
  Calls Try.prog 5 #[.int .i64 z, .agg ⟨c5 x0 x1 x2 x3 x4⟩, .int .u32 h] w fun e w' => e = .returned (.bool true) ∧ Gr w w' :=
 cu_run m t z 84 (ofPS (gRow m t) ⟨op, 8, l, s⟩) num1S (ofPS (gRow 0 ⟨0, []⟩) ⟨64852, 8, 0, ⟨#[105, 118, 58, 118]⟩⟩) num1S x0 x1 x2 x3 x4 h (ofPS_ok m t ⟨op, 8, l, s⟩ K) num1S_ok [(decide (opOf z = op), true), (decide (opOf z < 64768), false)] t_cu_mem_8 (cons_d (dec_op hop) (cons_d (dec_lt hop hlo) nil_d)) (fun β => by kernel_rfl) w hS
theorem mod_turn (x h : Int) (hx : 0 ≤ x ∧ x < 18446744073709551616) (hh : 0 ≤ h ∧ h < 4294967296) : turn x h % 4294967296 = x % 4294967296 := by
 have e1 : IntKind.u64.wrap h = h := by rw [IntKind.wrap_u64]; omega
 have e2 : (2 : Int) ^ (min (Int.toNat 32) IntKind.u64.bits) = 4294967296 := by decide
 have e3 : IntKind.u64.wrap (h * 4294967296) = h * 4294967296 := by rw [IntKind.wrap_u64]; omega
 unfold turn
 rw [e1, e2, e3]
 obtain ⟨a, rfl⟩ := Int.eq_ofNat_of_zero_le hx.1
 obtain ⟨b, rfl⟩ := Int.eq_ofNat_of_zero_le hh.1
 have ha : a < 2 ^ 64 := by omega
 have hb : b < 2 ^ 32 := by omega
 have e4 : bits .xor .u64 (a : Int) ((b : Int) * 4294967296) = ((a ^^^ (b * 4294967296) : Nat) : Int) := by
  unfold bits
  have h1 : BitVec.ofInt 64 (a : Int) = BitVec.ofNat 64 a := BitVec.ofInt_natCast ..
  have h2 : BitVec.ofInt 64 ((b : Int) * 4294967296) = BitVec.ofNat 64 (b * 4294967296) := by
   rw [show (b : Int) * 4294967296 = ((b * 4294967296 : Nat) : Int) from (Int.natCast_mul b 4294967296).symm]
   exact BitVec.ofInt_natCast ..
  show IntKind.u64.wrap (((BitVec.ofInt 64 (a : Int) ^^^ BitVec.ofInt 64 ((b : Int) * 4294967296)).toNat : Nat) : Int) = _
  rw [h1, h2, IntKind.wrap_u64, BitVec.toNat_xor, BitVec.toNat_ofNat, BitVec.toNat_ofNat, Nat.mod_eq_of_lt ha, Nat.mod_eq_of_lt (by omega)]
  have hlt : a ^^^ (b * 4294967296) < 2 ^ 64 := Nat.xor_lt_two_pow ha (by omega)
  omega
 rw [e4]
 have e5 : (a ^^^ (b * 4294967296)) % 2 ^ 32 = a % 2 ^ 32 := by
  rw [Nat.xor_mod_two_pow, show b * 4294967296 % 2 ^ 32 = 0 by omega, Nat.xor_zero]
 omega
theorem ok_all0 : ∀ k : Fin 256, okP (paOf k.val) (64768 + (k.val : Int)) 0 0 0 = true := by decide +kernel
theorem cuts_walk (m : Int) (t : Gt) (z x0 x1 x2 x3 x4 h : Int) (h0 : 0 ≤ x0 ∧ x0 < 18446744073709551616) (h2 : 0 ≤ x2 ∧ x2 < 18446744073709551616) (hh : 0 ≤ h ∧ h < 4294967296) (w : World) (hS : SG w [gRow m t] w) :
  Calls Try.prog 5 #[.int .i64 z, .agg ⟨c5 x0 x1 x2 x3 x4⟩, .int .u32 h] w fun e w' => e = .returned (.bool true) ∧ Gr w w' := by
 obtain ⟨k, hk, hop⟩ := opOf_ex z
 have C := cl_all k hk
 have hok := ok_all0 ⟨k, hk⟩
 have hlo : (64768 : Int) ≤ 64768 + (k : Int) := by omega
 have hA : inI 0 = true := by decide
 have T0 := mod_turn x0 h h0 hh
 have T2 := mod_turn x2 h h2 hh
 simp only at hok
 generalize (64768 : Int) + (k : Int) = op at *
 generalize paOf k = p at *
 cases p
 ·exact cu_no m t z op _ _ _ _ _ _ hop C w hS
 ·obtain ⟨f, l, s, K, hf⟩ := C
  have hf2 : f = 7 ∨ f = 8 := by omega
  rcases hf2 with rfl | rfl
  ·exact cu_mem_7 m t z op l s _ _ _ _ _ _ hop hlo K w hS
  ·exact cu_mem_8 m t z op l s _ _ _ _ _ _ hop hlo K w hS
 ·exact cu_co m t z _ _ _ _ _ _ (hop.trans C) w hS
 ·obtain ⟨⟨l, K⟩, hf⟩ := C
  exact cu_v_v_1 m t z op l _ _ _ _ _ _ hop hlo K w hS
 ·obtain ⟨⟨l, K⟩, hf⟩ := C
  exact cu_v_v_1 m t z op l _ _ _ _ _ _ hop hlo K w hS
 ·obtain ⟨⟨l, K⟩, hf⟩ := C
  exact cu_v_v_1 m t z op l _ _ _ _ _ _ hop hlo K w hS
 ·obtain ⟨⟨l, K⟩, hf⟩ := C
  exact cu_vv_v_1 m t z op l _ _ _ _ _ _ hop hlo K w hS
 ·obtain ⟨⟨l, K⟩, hf⟩ := C
  exact cu_vv_v_1 m t z op l _ _ _ _ _ _ hop hlo K w hS
 ·obtain ⟨⟨l, K⟩, hf⟩ := C
  exact cu_vv_v_1 m t z op l _ _ _ _ _ _ hop hlo K w hS
 ·obtain ⟨⟨l, K⟩, hf⟩ := C
  exact cu_vv_v_1 m t z op l _ _ _ _ _ _ hop hlo K w hS
 ·obtain ⟨⟨l, K⟩, hf⟩ := C
  exact cu_vvv_v_1 m t z op l _ _ _ _ _ _ hop hlo K w hS
 ·obtain ⟨⟨l, K⟩, hf⟩ := C
  exact cu_v_i_1 m t z op l _ _ _ _ _ _ hop hlo K w hS
 ·obtain ⟨⟨l, K⟩, hf⟩ := C
  exact cu_v_i_13 m t z op l _ _ _ _ _ _ hop hlo K w hS
 ·obtain ⟨⟨l, K⟩, hf⟩ := C
  exact cu_v_l_13 m t z op l _ _ _ _ _ _ hop hlo K w hS
 ·obtain ⟨⟨l, K⟩, hf⟩ := C
  have D := is_all m t .rei rfl op l 0 0 0 hA hf K
  rw [hok] at D
  exact cu_vi_v_13 m t z op l _ _ _ _ _ _ _ _ hop hlo K D (show getI (Mv.reV op 0 (getI (low32 (x2 % 4294967296)) 64 0) (both64 x0 x1)) 64 0 = getI (Mv.reV op 0 (getI (low32 (turn x2 h % 4294967296)) 64 0) (both64 x0 x1)) 64 0 by rw [T2]) (show getI (Mv.reV op 0 (getI (low32 (x2 % 4294967296)) 64 0) (both64 x0 x1)) 64 1 = getI (Mv.reV op 0 (getI (low32 (turn x2 h % 4294967296)) 64 0) (both64 x0 x1)) 64 1 by rw [T2]) w hS
 ·obtain ⟨⟨l, K⟩, hf⟩ := C
  exact cu_vl_v_13 m t z op l _ _ _ _ _ _ hop hlo K w hS
 ·obtain ⟨⟨l, K⟩, hf⟩ := C
  have D := is_all m t .shift rfl op l 0 0 0 hA hf K
  rw [hok] at D
  exact cu_vi_v_1 m t z op l _ _ _ _ _ _ _ _ hop hlo K D (show getI (Ar.shV op (both64 x0 x1) (IntKind.u32.wrap (getI (low32 (x2 % 4294967296)) 64 0))) 64 0 = getI (Ar.shV op (both64 x0 x1) (IntKind.u32.wrap (getI (low32 (turn x2 h % 4294967296)) 64 0))) 64 0 by rw [T2]) (show getI (Ar.shV op (both64 x0 x1) (IntKind.u32.wrap (getI (low32 (x2 % 4294967296)) 64 0))) 64 1 = getI (Ar.shV op (both64 x0 x1) (IntKind.u32.wrap (getI (low32 (turn x2 h % 4294967296)) 64 0))) 64 1 by rw [T2]) w hS
 ·obtain ⟨⟨l, K⟩, hf⟩ := C
  exact cu_vv_v_1 m t z op l _ _ _ _ _ _ hop hlo K w hS
 ·obtain ⟨⟨l, K⟩, hf⟩ := C
  exact cu_vv_v_1 m t z op l _ _ _ _ _ _ hop hlo K w hS
 ·obtain ⟨⟨l, K⟩, hf⟩ := C
  exact cu_vv_v_1 m t z op l _ _ _ _ _ _ hop hlo K w hS
 ·obtain ⟨⟨l, K⟩, hf⟩ := C
  exact cu_vv_v_1 m t z op l _ _ _ _ _ _ hop hlo K w hS
 ·obtain ⟨⟨l, K⟩, hf⟩ := C
  exact cu_vv_v_12 m t z op l _ _ _ _ _ _ hop hlo K w hS
 ·obtain ⟨⟨l, K⟩, hf⟩ := C
  have D := is_all m t .spi rfl op l 0 0 0 hA hf K
  rw [hok] at D
  exact cu_i_v_1 m t z op l _ _ _ _ _ _ _ _ hop hlo K D (show getI (Mv.splV (Mv.spW op) (getI (low32 (x0 % 4294967296)) 64 0)) 64 0 = getI (Mv.splV (Mv.spW op) (getI (low32 (turn x0 h % 4294967296)) 64 0)) 64 0 by rw [T0]) (show getI (Mv.splV (Mv.spW op) (getI (low32 (x0 % 4294967296)) 64 0)) 64 1 = getI (Mv.splV (Mv.spW op) (getI (low32 (turn x0 h % 4294967296)) 64 0)) 64 1 by rw [T0]) w hS
 ·obtain ⟨⟨l, K⟩, hf⟩ := C
  exact cu_l_v_1 m t z op l _ _ _ _ _ _ hop hlo K w hS
theorem cuts_any (z : Int) (x : Nat → Int) (hx : ∀ j, 0 ≤ x j ∧ x j < 18446744073709551616) (h : Int) (hh : 0 ≤ h ∧ h < 4294967296) (w : World) (hm : Ins.Mx w) : Calls Try.prog 5 #[.int .i64 z, .agg #[.int .u64 (x 0), .int .u64 (x 1), .int .u64 (x 2), .int .u64 (x 3), .int .u64 (x 4)], .int .u32 h] w fun e w' => e = .returned (.bool true) ∧ Gr w w' := by
 obtain ⟨m, hm⟩ := hm
 obtain ⟨t, hS⟩ := g_start hm
 exact cuts_walk m t z _ _ _ _ _ h (hx 0) (hx 2) hh w hS
end Vc
end Go.Proofs.Ytjoalcaooccbiaa
