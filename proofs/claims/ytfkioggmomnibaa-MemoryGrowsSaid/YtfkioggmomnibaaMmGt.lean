/-
  Of layer 10: MemoryGrows: for every least and most and number of pages the law returns true. (gen_mmgt.py)
-/
import Derived.Test.YtfkioggmomnibaaMmGs
namespace Go.Proofs.Ytfkioggmomnibaa
open Go.RowKit VecM Ev
namespace Mm
noncomputable def gwPath (G : Ga) (B : Gb) (nw : Nat → Int) (gd gd' : Nat → Nat → Int → Int → Bool) (er : Int) (v : Value) (l m x l' m' x' : Int) (β : Nat → Fr) : Out :=
  evPathR (envGr G B nw gd) (envGr (gaS 0 er) gbS nw gd') 4000 6 [.int .i64 l, .int .i64 m, .int .u32 x] [.int .i64 l', .int .i64 m', .int .u32 x'] [] [] v 100 [] β
theorem gw_run (G : Ga) (hG : G = gaR) (B : Gb) (hB : B = gbR) (nw : Nat → Int) (gd gd' : Nat → Nat → Int → Int → Bool) (er : Int) (v : Value) (hv : v = .bool true) (l m x l' m' x' : Int) (D : (Nat → Fr) → List (Bool × Bool)) (ts : List Nat) (hD : ∀ β, ∀ p ∈ D β, p.1 = p.2)
    (hr : ∀ β, tagOL (D β) ts (gwPath G B nw gd gd' er v l m x l' m' x' β) = tagOR (D β) ts (gwPath G B nw gd gd' er v l m x l' m' x' β)) (w : World) :
    Calls Try.prog 6 #[.int .i64 l, .int .i64 m, .int .u32 x] w fun e w' => e = .returned (.bool true) ∧ Gr w w' :=
  (ev_callB (E := envGr G B nw gd) (E' := envGr (gaS 0 er) gbS nw gd') rfl (nosum_ok _ rfl) (fuel := 4000) (args := [.int .i64 l, .int .i64 m, .int .u32 x]) (args' := [.int .i64 l', .int .i64 m', .int .u32 x']) (M := []) (M' := [])
    (v := fun _ => v) (k := 100) (M1 := fun _ => []) D ts hD hr w w ⟨St.start w, fun _ h => by cases h⟩ (hh := by rw [hB]; exact envGr_holes G nw gd) (ho := by rw [hG, hB]; exact envGr_ok nw gd)).mono fun _ _ ⟨_, h1, h2⟩ => ⟨by rw [h1, hv], h2.gr⟩
def gz (G : Ga) (l : Int) : List Value := G.zc (pN l)
def gc1 (G : Ga) (B : Gb) (l : Int) : List Value := B.g1 (gz G l) (pN l) l
def gc2 (G : Ga) (B : Gb) (l x : Int) (β : Nat → Fr) : List Value := G.gw (gc1 G B l) (pN l) x (β 3).t
def gN2 (l x : Int) : Nat := pN l + (zX x).toNat
def gX (ceil l x : Int) : Int := IntKind.u32.wrap (IntKind.i64.wrap (ceil - pg (gN2 l x)))
def gc3 (G : Ga) (B : Gb) (ceil l x : Int) (β : Nat → Fr) : List Value := G.gw (gc2 G B l x β) (gN2 l x) (gX ceil l x) (β 6).t
def gA (l x : Int) : Int := IntKind.u64.wrap (IntKind.u64.wrap (pg (gN2 l x)) * 65536)
def gwD0 (G : Ga) (B : Gb) (l m : Int) : List (Bool × Bool) := [(G.nq l m 0, true), (B.h1 (gz G l) (pN l) (pN l) l, true)]
def gwN (G : Ga) (B : Gb) (ceil l m x : Int) : List (Bool × Bool) := [(G.gk (gc1 G B l) (pN l) (pN l) m x false, true), (decide (IntKind.i64.wrap x > IntKind.i64.wrap (ceil - l)), true)]
def gwY (G : Ga) (B : Gb) (ceil l m x : Int) (β : Nat → Fr) : List (Bool × Bool) := [(G.gk (gc1 G B l) (pN l) (pN l) m x true, true), (decide (IntKind.i64.wrap x > IntKind.i64.wrap (ceil - l)), false), (IntKind.i64.wrap ((Nat.div (pN l) 65536 : Nat) : Int) != l, false), (pg (gN2 l x) != IntKind.i64.wrap (l + IntKind.i64.wrap x), false),
  (B.h2 (gc2 G B l x β) (gN2 l x) (G.ln (gc2 G B l x β)) l, true), (B.h3 (gc2 G B l x β) (gN2 l x) (G.ln (gc2 G B l x β)) l, true), (G.ok (gc2 G B l x β) (gN2 l x) (G.ln (gc2 G B l x β)) (gA l x), true), (G.er (gN2 l x) (gA l x) 1 == 23, true)]
def gwE (G : Ga) (B : Gb) (ceil l m x : Int) (β : Nat → Fr) : List (Bool × Bool) := [(ceil == pg (gN2 l x), true), (G.gk (gc2 G B l x β) (gN2 l x) (G.ln (gc2 G B l x β)) m 1 false, true)]
def gwF (G : Ga) (B : Gb) (ceil l m x : Int) (β : Nat → Fr) : List (Bool × Bool) := [(ceil == pg (gN2 l x), false), (G.gk (gc2 G B l x β) (gN2 l x) (G.ln (gc2 G B l x β)) m (gX ceil l x) true, true), (((Nat.div (gN2 l x) 65536 : Nat) : Int) == IntKind.u32.wrap (IntKind.u32.wrap l + x), true),
  (G.gk (gc3 G B ceil l x β) (gN2 l x + (zX (gX ceil l x)).toNat) (G.ln (gc3 G B ceil l x β)) m 1 false, true)]
def gdN (_ _ : Nat) (_ _ : Int) : Bool := false
def gdE (k _ : Nat) (_ _ : Int) : Bool := Nat.beq k 3
def gdF (k _ : Nat) (_ _ : Int) : Bool := Nat.ble k 6
--EVTS t_gwe1 | fun (G : Ga) (B : Gb) (l m x : Int) (β : Nat → Fr) => (gwPath G B (fun _ => 1) gdN gdN 0 (.bool true) l m x 5 2 0 β, [(G.nq l m 1, true)])
def t_gwe1 : List Nat := [0, 0, 0, 0, 0, 0, 0, 1, 0]
theorem gwe1_run {l m : Int} (x : Int) (h : nwE l m = 1) (w : World) : Calls Try.prog 6 #[.int .i64 l, .int .i64 m, .int .u32 x] w fun e w' => e = .returned (.bool true) ∧ Gr w w' :=
  (fun (G : Ga) (hG : G = gaR) (B : Gb) (hB : B = gbR) => gw_run G hG B hB (fun _ => 1) gdN gdN 0 (.bool true) rfl l m x 5 2 0 (fun _ => [(G.nq l m 1, true)]) t_gwe1 (fun _ => one_d (by rw [hG]; exact decide_eq_true h) nil_d) (fun β => by kernel_rfl) w) gaR rfl gbR rfl
--EVTS t_gwe3 | fun (G : Ga) (B : Gb) (l m x : Int) (β : Nat → Fr) => (gwPath G B (fun _ => 3) gdN gdN 0 (.bool true) l m x 5 2 0 β, [(G.nq l m 3, true)])
def t_gwe3 : List Nat := [0, 0, 0, 0, 0, 0, 0, 1, 0]
theorem gwe3_run {l m : Int} (x : Int) (h : nwE l m = 3) (w : World) : Calls Try.prog 6 #[.int .i64 l, .int .i64 m, .int .u32 x] w fun e w' => e = .returned (.bool true) ∧ Gr w w' :=
  (fun (G : Ga) (hG : G = gaR) (B : Gb) (hB : B = gbR) => gw_run G hG B hB (fun _ => 3) gdN gdN 0 (.bool true) rfl l m x 5 2 0 (fun _ => [(G.nq l m 3, true)]) t_gwe3 (fun _ => one_d (by rw [hG]; exact decide_eq_true h) nil_d) (fun β => by kernel_rfl) w) gaR rfl gbR rfl
def D_gwaN (G : Ga) (B : Gb) (l m x : Int) (β : Nat → Fr) : List (Bool × Bool) := gwD0 G B l m ++ [(decide (m ≥ 0), true), (decide (m < 16), true)] ++ (gwN G B m l m x)
--EVTS t_gwaN | fun (G : Ga) (B : Gb) (l m x : Int) (β : Nat → Fr) => (gwPath G B (fun _ => 0) gdN gdN 23 (.bool (pg (pN l) == l)) l m x 2 (3) 5 β, D_gwaN G B l m x β)
def t_gwaN : List Nat := [0, 0, 0, 0, 0, 0, 6, 5, 0, 0, 0, 0, 4, 3, 3, 3, 0, 2, 0, 0, 0, 0, 1, 0]
theorem gwaN_run (l m x : Int) (hv : (Value.bool (pg (pN l) == l)) = .bool true) (hD : ∀ β, ∀ p ∈ D_gwaN gaR gbR l m x β, p.1 = p.2) (w : World) : Calls Try.prog 6 #[.int .i64 l, .int .i64 m, .int .u32 x] w fun e w' => e = .returned (.bool true) ∧ Gr w w' :=
  (fun (G : Ga) (hG : G = gaR) (B : Gb) (hB : B = gbR) => gw_run G hG B hB (fun _ => 0) gdN gdN 23 (.bool (pg (pN l) == l)) hv l m x 2 (3) 5 (D_gwaN G B l m x) t_gwaN (by rw [hG, hB]; exact hD) (fun β => by kernel_rfl) w) gaR rfl gbR rfl
def D_gwaE (G : Ga) (B : Gb) (l m x : Int) (β : Nat → Fr) : List (Bool × Bool) := gwD0 G B l m ++ [(decide (m ≥ 0), true), (decide (m < 16), true)] ++ (gwY G B m l m x β ++ gwE G B m l m x β)
--EVTS t_gwaE | fun (G : Ga) (B : Gb) (l m x : Int) (β : Nat → Fr) => (gwPath G B (fun _ => 0) gdE gdE 23 (.bool true) l m x 2 (3) 1 β, D_gwaE G B l m x β)
def t_gwaE : List Nat := [0, 0, 14, 0, 0, 0, 0, 0, 0, 12, 13, 12, 13, 13, 13, 13, 13, 13, 13, 13, 13, 13, 13, 13, 12, 12, 0, 12, 12, 12, 11, 0, 0, 0, 0, 0, 0, 10, 0, 9, 8, 7, 7, 7, 7, 7, 7, 0, 7, 7, 6, 5, 0, 0, 0, 0, 4, 3, 3, 3, 0, 2, 0, 0, 0, 0, 1, 0]
theorem gwaE_run (l m x : Int) (hv : (Value.bool (pg (pN l) == l)) = .bool true) (hD : ∀ β, ∀ p ∈ D_gwaE gaR gbR l m x β, p.1 = p.2) (w : World) : Calls Try.prog 6 #[.int .i64 l, .int .i64 m, .int .u32 x] w fun e w' => e = .returned (.bool true) ∧ Gr w w' :=
  (fun (G : Ga) (hG : G = gaR) (B : Gb) (hB : B = gbR) => gw_run G hG B hB (fun _ => 0) gdE gdE 23 (.bool true) rfl l m x 2 (3) 1 (D_gwaE G B l m x) t_gwaE (by rw [hG, hB]; exact hD) (fun β => by kernel_rfl) w) gaR rfl gbR rfl
def D_gwaF (G : Ga) (B : Gb) (l m x : Int) (β : Nat → Fr) : List (Bool × Bool) := gwD0 G B l m ++ [(decide (m ≥ 0), true), (decide (m < 16), true)] ++ (gwY G B m l m x β ++ gwF G B m l m x β)
--EVTS t_gwaF | fun (G : Ga) (B : Gb) (l m x : Int) (β : Nat → Fr) => (gwPath G B (fun _ => 0) gdF gdF 23 (.bool true) l m x 2 (5) 1 β, D_gwaF G B l m x β)
def t_gwaF : List Nat := [15, 15, 16, 0, 0, 0, 0, 15, 15, 12, 13, 12, 13, 13, 13, 13, 13, 14, 0, 0, 0, 0, 13, 13, 13, 0, 13, 13, 13, 13, 12, 12, 0, 12, 12, 12, 11, 0, 0, 0, 0, 0, 0, 10, 0, 9, 8, 7, 7, 7, 7, 7, 7, 0, 7, 7, 6, 5, 0, 0, 0, 0, 4, 3, 3, 3, 0, 2, 0, 0, 0, 0, 1, 0]
theorem gwaF_run (l m x : Int) (hv : (Value.bool (pg (pN l) == l)) = .bool true) (hD : ∀ β, ∀ p ∈ D_gwaF gaR gbR l m x β, p.1 = p.2) (w : World) : Calls Try.prog 6 #[.int .i64 l, .int .i64 m, .int .u32 x] w fun e w' => e = .returned (.bool true) ∧ Gr w w' :=
  (fun (G : Ga) (hG : G = gaR) (B : Gb) (hB : B = gbR) => gw_run G hG B hB (fun _ => 0) gdF gdF 23 (.bool true) rfl l m x 2 (5) 1 (D_gwaF G B l m x) t_gwaF (by rw [hG, hB]; exact hD) (fun β => by kernel_rfl) w) gaR rfl gbR rfl
def D_gwbN (G : Ga) (B : Gb) (l m x : Int) (β : Nat → Fr) : List (Bool × Bool) := gwD0 G B l m ++ [(decide (m ≥ 0), true), (decide (m < 16), false)] ++ (gwN G B 16 l m x)
--EVTS t_gwbN | fun (G : Ga) (B : Gb) (l m x : Int) (β : Nat → Fr) => (gwPath G B (fun _ => 0) gdN gdN 23 (.bool (pg (pN l) == l)) l m x 2 (20) 30 β, D_gwbN G B l m x β)
def t_gwbN : List Nat := [0, 0, 0, 0, 0, 0, 6, 5, 0, 0, 0, 0, 4, 3, 3, 3, 0, 2, 0, 0, 0, 0, 1, 0]
theorem gwbN_run (l m x : Int) (hv : (Value.bool (pg (pN l) == l)) = .bool true) (hD : ∀ β, ∀ p ∈ D_gwbN gaR gbR l m x β, p.1 = p.2) (w : World) : Calls Try.prog 6 #[.int .i64 l, .int .i64 m, .int .u32 x] w fun e w' => e = .returned (.bool true) ∧ Gr w w' :=
  (fun (G : Ga) (hG : G = gaR) (B : Gb) (hB : B = gbR) => gw_run G hG B hB (fun _ => 0) gdN gdN 23 (.bool (pg (pN l) == l)) hv l m x 2 (20) 30 (D_gwbN G B l m x) t_gwbN (by rw [hG, hB]; exact hD) (fun β => by kernel_rfl) w) gaR rfl gbR rfl
def D_gwbE (G : Ga) (B : Gb) (l m x : Int) (β : Nat → Fr) : List (Bool × Bool) := gwD0 G B l m ++ [(decide (m ≥ 0), true), (decide (m < 16), false)] ++ (gwY G B 16 l m x β ++ gwE G B 16 l m x β)
--EVTS t_gwbE | fun (G : Ga) (B : Gb) (l m x : Int) (β : Nat → Fr) => (gwPath G B (fun _ => 0) gdE gdE 23 (.bool true) l m x 2 (20) 14 β, D_gwbE G B l m x β)
def t_gwbE : List Nat := [0, 0, 14, 0, 0, 0, 0, 0, 0, 12, 13, 12, 13, 13, 13, 13, 13, 13, 13, 13, 13, 13, 13, 13, 12, 12, 0, 12, 12, 12, 11, 0, 0, 0, 0, 0, 0, 10, 0, 9, 8, 7, 7, 7, 7, 7, 7, 0, 7, 7, 6, 5, 0, 0, 0, 0, 4, 3, 3, 3, 0, 2, 0, 0, 0, 0, 1, 0]
theorem gwbE_run (l m x : Int) (hv : (Value.bool (pg (pN l) == l)) = .bool true) (hD : ∀ β, ∀ p ∈ D_gwbE gaR gbR l m x β, p.1 = p.2) (w : World) : Calls Try.prog 6 #[.int .i64 l, .int .i64 m, .int .u32 x] w fun e w' => e = .returned (.bool true) ∧ Gr w w' :=
  (fun (G : Ga) (hG : G = gaR) (B : Gb) (hB : B = gbR) => gw_run G hG B hB (fun _ => 0) gdE gdE 23 (.bool true) rfl l m x 2 (20) 14 (D_gwbE G B l m x) t_gwbE (by rw [hG, hB]; exact hD) (fun β => by kernel_rfl) w) gaR rfl gbR rfl
def D_gwbF (G : Ga) (B : Gb) (l m x : Int) (β : Nat → Fr) : List (Bool × Bool) := gwD0 G B l m ++ [(decide (m ≥ 0), true), (decide (m < 16), false)] ++ (gwY G B 16 l m x β ++ gwF G B 16 l m x β)
--EVTS t_gwbF | fun (G : Ga) (B : Gb) (l m x : Int) (β : Nat → Fr) => (gwPath G B (fun _ => 0) gdF gdF 23 (.bool true) l m x 2 (20) 3 β, D_gwbF G B l m x β)
def t_gwbF : List Nat := [15, 15, 16, 0, 0, 0, 0, 15, 15, 12, 13, 12, 13, 13, 13, 13, 13, 14, 0, 0, 0, 0, 13, 13, 13, 0, 13, 13, 13, 13, 12, 12, 0, 12, 12, 12, 11, 0, 0, 0, 0, 0, 0, 10, 0, 9, 8, 7, 7, 7, 7, 7, 7, 0, 7, 7, 6, 5, 0, 0, 0, 0, 4, 3, 3, 3, 0, 2, 0, 0, 0, 0, 1, 0]
theorem gwbF_run (l m x : Int) (hv : (Value.bool (pg (pN l) == l)) = .bool true) (hD : ∀ β, ∀ p ∈ D_gwbF gaR gbR l m x β, p.1 = p.2) (w : World) : Calls Try.prog 6 #[.int .i64 l, .int .i64 m, .int .u32 x] w fun e w' => e = .returned (.bool true) ∧ Gr w w' :=
  (fun (G : Ga) (hG : G = gaR) (B : Gb) (hB : B = gbR) => gw_run G hG B hB (fun _ => 0) gdF gdF 23 (.bool true) rfl l m x 2 (20) 3 (D_gwbF G B l m x) t_gwbF (by rw [hG, hB]; exact hD) (fun β => by kernel_rfl) w) gaR rfl gbR rfl
def D_gwcN (G : Ga) (B : Gb) (l m x : Int) (β : Nat → Fr) : List (Bool × Bool) := gwD0 G B l m ++ [(decide (m ≥ 0), false)] ++ (gwN G B 16 l m x)
--EVTS t_gwcN | fun (G : Ga) (B : Gb) (l m x : Int) (β : Nat → Fr) => (gwPath G B (fun _ => 0) gdN gdN 23 (.bool (pg (pN l) == l)) l m x 2 (-1) 30 β, D_gwcN G B l m x β)
def t_gwcN : List Nat := [0, 0, 0, 0, 0, 0, 5, 4, 0, 0, 0, 0, 0, 3, 3, 3, 0, 2, 0, 0, 0, 0, 1, 0]
theorem gwcN_run (l m x : Int) (hv : (Value.bool (pg (pN l) == l)) = .bool true) (hD : ∀ β, ∀ p ∈ D_gwcN gaR gbR l m x β, p.1 = p.2) (w : World) : Calls Try.prog 6 #[.int .i64 l, .int .i64 m, .int .u32 x] w fun e w' => e = .returned (.bool true) ∧ Gr w w' :=
  (fun (G : Ga) (hG : G = gaR) (B : Gb) (hB : B = gbR) => gw_run G hG B hB (fun _ => 0) gdN gdN 23 (.bool (pg (pN l) == l)) hv l m x 2 (-1) 30 (D_gwcN G B l m x) t_gwcN (by rw [hG, hB]; exact hD) (fun β => by kernel_rfl) w) gaR rfl gbR rfl
def D_gwcE (G : Ga) (B : Gb) (l m x : Int) (β : Nat → Fr) : List (Bool × Bool) := gwD0 G B l m ++ [(decide (m ≥ 0), false)] ++ (gwY G B 16 l m x β ++ gwE G B 16 l m x β)
--EVTS t_gwcE | fun (G : Ga) (B : Gb) (l m x : Int) (β : Nat → Fr) => (gwPath G B (fun _ => 0) gdE gdE 23 (.bool true) l m x 2 (-1) 14 β, D_gwcE G B l m x β)
def t_gwcE : List Nat := [0, 0, 13, 0, 0, 0, 0, 0, 0, 11, 12, 11, 12, 12, 12, 12, 12, 12, 12, 12, 12, 12, 12, 12, 11, 11, 0, 11, 11, 11, 10, 0, 0, 0, 0, 0, 0, 9, 0, 8, 7, 6, 6, 6, 6, 6, 6, 0, 6, 6, 5, 4, 0, 0, 0, 0, 0, 3, 3, 3, 0, 2, 0, 0, 0, 0, 1, 0]
theorem gwcE_run (l m x : Int) (hv : (Value.bool (pg (pN l) == l)) = .bool true) (hD : ∀ β, ∀ p ∈ D_gwcE gaR gbR l m x β, p.1 = p.2) (w : World) : Calls Try.prog 6 #[.int .i64 l, .int .i64 m, .int .u32 x] w fun e w' => e = .returned (.bool true) ∧ Gr w w' :=
  (fun (G : Ga) (hG : G = gaR) (B : Gb) (hB : B = gbR) => gw_run G hG B hB (fun _ => 0) gdE gdE 23 (.bool true) rfl l m x 2 (-1) 14 (D_gwcE G B l m x) t_gwcE (by rw [hG, hB]; exact hD) (fun β => by kernel_rfl) w) gaR rfl gbR rfl
def D_gwcF (G : Ga) (B : Gb) (l m x : Int) (β : Nat → Fr) : List (Bool × Bool) := gwD0 G B l m ++ [(decide (m ≥ 0), false)] ++ (gwY G B 16 l m x β ++ gwF G B 16 l m x β)
--EVTS t_gwcF | fun (G : Ga) (B : Gb) (l m x : Int) (β : Nat → Fr) => (gwPath G B (fun _ => 0) gdF gdF 23 (.bool true) l m x 2 (-1) 3 β, D_gwcF G B l m x β)
def t_gwcF : List Nat := [14, 14, 15, 0, 0, 0, 0, 14, 14, 11, 12, 11, 12, 12, 12, 12, 12, 13, 0, 0, 0, 0, 12, 12, 12, 0, 12, 12, 12, 12, 11, 11, 0, 11, 11, 11, 10, 0, 0, 0, 0, 0, 0, 9, 0, 8, 7, 6, 6, 6, 6, 6, 6, 0, 6, 6, 5, 4, 0, 0, 0, 0, 0, 3, 3, 3, 0, 2, 0, 0, 0, 0, 1, 0]
theorem gwcF_run (l m x : Int) (hv : (Value.bool (pg (pN l) == l)) = .bool true) (hD : ∀ β, ∀ p ∈ D_gwcF gaR gbR l m x β, p.1 = p.2) (w : World) : Calls Try.prog 6 #[.int .i64 l, .int .i64 m, .int .u32 x] w fun e w' => e = .returned (.bool true) ∧ Gr w w' :=
  (fun (G : Ga) (hG : G = gaR) (B : Gb) (hB : B = gbR) => gw_run G hG B hB (fun _ => 0) gdF gdF 23 (.bool true) rfl l m x 2 (-1) 3 (D_gwcF G B l m x) t_gwcF (by rw [hG, hB]; exact hD) (fun β => by kernel_rfl) w) gaR rfl gbR rfl
end Mm
end Go.Proofs.Ytfkioggmomnibaa
