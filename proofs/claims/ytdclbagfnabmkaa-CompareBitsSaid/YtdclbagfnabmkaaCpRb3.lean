/-
  CompareBits: for all opcodes and numbers of vectors the law returns true. Conditions: bytes; the vectors' cells.
-/
import Derived.Test.YtdclbagfnabmkaaCpRb2
import Derived.Test.YtdclbagfnabmkaaCpAw
import Derived.Test.YtdclbagfnabmkaaOpenVs
namespace Go.Proofs.Ytdclbagfnabmkaa
open Go.RowKit VecM Ev
namespace Cp
def setLast : List Rw → Rw → List Rw
  | [], r => [r]
  | [_], r => [r]
  | x :: y :: l, r => x :: setLast (y :: l) r
set_option maxRecDepth 100000 in
theorem setLast_mem : ∀ (M : List Rw) (r : Rw), r ∈ setLast M r
  | [], r => List.mem_cons_self ..
  | [_], r => List.mem_cons_self ..
  | _ :: y :: l, r => List.mem_cons_of_mem _ (setLast_mem (y :: l) r)
/-- what an opcode makes of the vectors -/
def resV (G : Gv) (op : Int) : Nat → Int := if nI op = (G.n : Int) then fB (op - 64768) G.B else fun _ => 0
def resE (G : Gv) (op : Int) : Int := if nI op = (G.n : Int) then 0 else 1
set_option maxRecDepth 100000 in
theorem resV_byt (G : Gv) (op : Int) : Byt (resV G op) := by
  unfold resV
  split
  · exact fB_byt _ _
  · exact byt_zero
set_option maxRecDepth 100000 in
theorem G_at {G : Gv} (hG : G.Ok) {w0 w : World} {M : List Rw} (hS : SG w0 M w) (hm : G.row ∈ M) : VecsAt w G.g G.off G.n G.B ∧ ∃ fr, w.heap[G.g]? = some (.cells G.cs.toArray G.t fr) := by
  obtain ⟨fr, hrow, _⟩ := hS.row hm
  refine ⟨fun k hk m hmm => ?_, fr, hrow⟩
  rw [cell_of_row w G.g _ _ _ fr hrow]
  have := hG.2 k hk m hmm
  rw [show G.off + k * 16 + m = G.off + 16 * k + m by omega]
  show G.cs.toArray[G.off + 16 * k + m]? = _
  simpa using this
set_option maxRecDepth 100000 in
theorem not_eq (B : Nat → Nat → Int) : (fun m => notB (B 0 m)) = fB 77 B := by
  funext m
  show bits .xor .u8 (if IntKind.u8.signed = true then (-1 : Int) else IntKind.u8.max) (B 0 m) = bits .xor .u8 255 (B 0 m)
  rw [show (if IntKind.u8.signed = true then (-1 : Int) else IntKind.u8.max) = 255 by decide]
set_option maxRecDepth 100000 in
theorem nI_sb (op : Int) : nI op = sbI op := rfl
set_option maxRecDepth 100000 in
theorem resV_at {G : Gv} {op k : Int} (h : nI op = (G.n : Int)) (hk : op - 64768 = k) : resV G op = fB k G.B ∧ resE G op = 0 := by
  constructor
  · unfold resV; rw [if_pos h, hk]
  · exact if_pos h
set_option maxRecDepth 100000 in
theorem nI_cases {op : Int} {n : Nat} (hn : n = 1 ∨ n = 2 ∨ n = 3) (h : nI op = (n : Int)) : (n = 1 ∧ op = 64845) ∨ (n = 2 ∧ (op = 64846 ∨ op = 64847 ∨ op = 64848 ∨ op = 64849)) ∨ (n = 3 ∧ op = 64850) := by
  unfold nI at h
  split at h
  · omega
  · split at h
    · omega
    · split at h <;> omega
set_option maxRecDepth 100000 in
theorem pbits_any (G : Gv) (hG : G.Ok) (hn : G.n = 1 ∨ G.n = 2 ∨ G.n = 3) (op : Int) {w0 w : World} {M : List Rw} (hS : SG w0 M w) (hm : G.row ∈ M) : Calls Try.prog 15 #[.int .i64 op, .slice (some ⟨G.g, G.off, none⟩) G.n G.cap] w fun e w' => e = .returned (.tuple #[.agg (bs (resV G op)), .int .i64 (resE G op)]) ∧ Gr w w' := by
  obtain ⟨hc, _⟩ := G_at hG hS hm
  obtain ⟨g0, off, n, cap, B, cs, t⟩ := G
  simp only at hc hn ⊢
  by_cases h : nI op = (n : Int)
  · rcases nI_cases hn h with ⟨rfl, rfl⟩ | ⟨rfl, rfl | rfl | rfl | rfl⟩ | ⟨rfl, rfl⟩
    · rw [(resV_at (G := ⟨g0, off, 1, cap, B, cs, t⟩) h (k := 77) (by decide)).1, (resV_at (G := ⟨g0, off, 1, cap, B, cs, t⟩) h (k := 77) (by decide)).2, ← not_eq]
      exact bits_not g0 off cap B w hc
    · rw [(resV_at (G := ⟨g0, off, 2, cap, B, cs, t⟩) h (k := 78) (by decide)).1, (resV_at (G := ⟨g0, off, 2, cap, B, cs, t⟩) h (k := 78) (by decide)).2]
      exact bits_and g0 off cap B w hc
    · rw [(resV_at (G := ⟨g0, off, 2, cap, B, cs, t⟩) h (k := 79) (by decide)).1, (resV_at (G := ⟨g0, off, 2, cap, B, cs, t⟩) h (k := 79) (by decide)).2]
      exact bits_andnot g0 off cap B w hc
    · rw [(resV_at (G := ⟨g0, off, 2, cap, B, cs, t⟩) h (k := 80) (by decide)).1, (resV_at (G := ⟨g0, off, 2, cap, B, cs, t⟩) h (k := 80) (by decide)).2]
      exact bits_or g0 off cap B w hc
    · rw [(resV_at (G := ⟨g0, off, 2, cap, B, cs, t⟩) h (k := 81) (by decide)).1, (resV_at (G := ⟨g0, off, 2, cap, B, cs, t⟩) h (k := 81) (by decide)).2]
      exact bits_xor g0 off cap B w hc
    · rw [(resV_at (G := ⟨g0, off, 3, cap, B, cs, t⟩) h (k := 82) (by decide)).1, (resV_at (G := ⟨g0, off, 3, cap, B, cs, t⟩) h (k := 82) (by decide)).2]
      exact bits_sel g0 off cap B w hc
  · have e1 : resV ⟨g0, off, n, cap, B, cs, t⟩ op = fun _ => 0 := if_neg h
    have e2 : resE ⟨g0, off, n, cap, B, cs, t⟩ op = 1 := if_neg h
    rw [e1, e2]
    exact bits_no op (some ⟨g0, off, none⟩) n cap (.inr h) w
set_option maxRecDepth 100000 in
theorem rbits_any (G : Gv) (hG : G.Ok) (hn : G.n = 1 ∨ G.n = 2 ∨ G.n = 3) (op : Int) (ho : -9223372036854775808 ≤ op ∧ op ≤ 9223372036854775807) {w0 w : World} {M : List Rw} (hS : SG w0 M w) (hm : G.row ∈ M) : Calls Try.prog 16 #[.int .i64 op, .slice (some ⟨G.g, G.off, none⟩) G.n G.cap] w fun e w' => e = .returned (.tuple #[.agg (bs (resV G op)), .int .i64 (resE G op)]) ∧ Gr w w' := by
  obtain ⟨_, fr, hrow⟩ := G_at hG hS hm
  have hS1 : SG w [G.row] w := ⟨St.start w, fun r hr _ => by rw [List.mem_singleton.1 hr]; exact ⟨fr, hrow⟩⟩
  obtain ⟨g0, off, n, cap, B, cs, t⟩ := G
  simp only at hn ⊢
  by_cases h : nI op = (n : Int)
  · rcases nI_cases hn h with ⟨rfl, rfl⟩ | ⟨rfl, rfl | rfl | rfl | rfl⟩ | ⟨rfl, rfl⟩
    · rw [(resV_at (G := ⟨g0, off, 1, cap, B, cs, t⟩) h (k := 77) (by decide)).1, (resV_at (G := ⟨g0, off, 1, cap, B, cs, t⟩) h (k := 77) (by decide)).2]
      exact qb77 g0 off cap B cs t hG w hS1
    · rw [(resV_at (G := ⟨g0, off, 2, cap, B, cs, t⟩) h (k := 78) (by decide)).1, (resV_at (G := ⟨g0, off, 2, cap, B, cs, t⟩) h (k := 78) (by decide)).2]
      exact qb78 g0 off cap B cs t hG w hS1
    · rw [(resV_at (G := ⟨g0, off, 2, cap, B, cs, t⟩) h (k := 79) (by decide)).1, (resV_at (G := ⟨g0, off, 2, cap, B, cs, t⟩) h (k := 79) (by decide)).2]
      exact qb79 g0 off cap B cs t hG w hS1
    · rw [(resV_at (G := ⟨g0, off, 2, cap, B, cs, t⟩) h (k := 80) (by decide)).1, (resV_at (G := ⟨g0, off, 2, cap, B, cs, t⟩) h (k := 80) (by decide)).2]
      exact qb80 g0 off cap B cs t hG w hS1
    · rw [(resV_at (G := ⟨g0, off, 2, cap, B, cs, t⟩) h (k := 81) (by decide)).1, (resV_at (G := ⟨g0, off, 2, cap, B, cs, t⟩) h (k := 81) (by decide)).2]
      exact qb81 g0 off cap B cs t hG w hS1
    · rw [(resV_at (G := ⟨g0, off, 3, cap, B, cs, t⟩) h (k := 82) (by decide)).1, (resV_at (G := ⟨g0, off, 3, cap, B, cs, t⟩) h (k := 82) (by decide)).2]
      exact qb82 g0 off cap B cs t hG w hS1
  · have e1 : resV ⟨g0, off, n, cap, B, cs, t⟩ op = fun _ => 0 := if_neg h
    have e2 : resE ⟨g0, off, n, cap, B, cs, t⟩ op = 1 := if_neg h
    rw [e1, e2]
    exact rbits_no op ho (some ⟨g0, off, none⟩) n cap (.inr h) w
noncomputable def sumW (f : FuncId) (args : List Value) : Option (List (List Value) × (List (Nat → Int) → Value × List Bool)) :=
  match Nat.beq f 10 with
  | true => match args with
    | [] => some ([], fun _ => (.bool true, []))
    | _ => none
  | false => none
set_option maxRecDepth 100000 in
theorem sumW_ok (P : Env) (hP : P.sum = sumW) : SumOk P := by
  intro f args cs mk h fs hcs hfs hp w
  rw [hP] at h
  unfold sumW at h
  split at h
  · rename_i hf
    obtain rfl := Nat.eq_of_beq_eq_true hf
    split at h
    · cases h
      exact awake w
    · cases h
  · cases h
noncomputable def cbS (G : Gv) (rv : Int → Nat → Int) (re : Int → Int) (f : FuncId) (args : List Value) (M : List Rw) : Option CHole :=
  match Nat.beq f 15 || Nat.beq f 16 with
  | false => none
  | true => match args with
    | [.int .i64 op, .slice (some ⟨g, o, none⟩) n c] => some ⟨setLast M G.row, [decide (-9223372036854775808 ≤ op), decide (op ≤ 9223372036854775807), decide (g = G.g ∧ o = G.off ∧ n = G.n ∧ c = G.cap)], .tuple #[.agg (bs (rv op)), .int .i64 (re op)]⟩
    | _ => none
noncomputable def envCB (G : Gv) (rv : Int → Nat → Int) (re : Int → Int) : Env := { P := Try.prog, known := [], sum := sumW, csum := cbS G rv re }
set_option maxRecDepth 100000 in
theorem cb_ok (G : Gv) (hG : G.Ok) (hn : G.n = 1 ∨ G.n = 2 ∨ G.n = 3) (rv : Int → Nat → Int) (re : Int → Int) (hv : ∀ op, rv op = resV G op) (he : ∀ op, re op = resE G op) : OphOk (envCB G rv re) := by
  refine csum_of rfl fun f args M H hq hrows hpre w0 w hS => ?_
  replace hq : cbS G rv re f args M = some H := hq
  unfold cbS at hq
  split at hq
  · cases hq
  · rename_i hf
    split at hq
    · cases hq
      have h1 := hpre _ (List.mem_cons_self ..)
      have h2 := hpre _ (List.mem_cons_of_mem _ (List.mem_cons_self ..))
      have h3 := hpre _ (List.mem_cons_of_mem _ (List.mem_cons_of_mem _ (List.mem_cons_self ..)))
      simp only [decide_eq_true_eq] at h1 h2 h3
      obtain ⟨rfl, rfl, rfl, rfl⟩ := h3
      have hm : G.row ∈ M := by
        have := setLast_mem M G.row
        simp only at hrows
        rw [← hrows] at this
        exact this
      simp only [hv, he]
      simp only [Bool.or_eq_true] at hf
      rcases hf with hf | hf
      · obtain rfl := Nat.eq_of_beq_eq_true hf
        exact pbits_any G hG hn _ hS hm
      · obtain rfl := Nat.eq_of_beq_eq_true hf
        exact rbits_any G hG hn _ ⟨h1, h2⟩ hS hm
    · cases hq
def cbD (op : Int) (G : Gv) (rv : Int → Nat → Int) (re : Int → Int) : List (Bool × Bool) :=
  (decide (G.g = G.g ∧ G.off = G.off ∧ G.n = G.n ∧ G.cap = G.cap), true) :: (([64844, 64845, 64846, 64847, 64848, 64849, 64850, 64851].flatMap fun k => [(!(eq16 (rv k) (rv k)), false), (re k != re k, false)]) ++
  [(decide (-9223372036854775808 ≤ op), true), (decide (op ≤ 9223372036854775807), true), (!(eq16 (rv op) (rv op)), false), (re op != re op, false)])
set_option maxRecDepth 100000 in
theorem eq16_self2 (x : Nat → Int) : eq16 x x = true := eq16_of fun _ _ => rfl
set_option maxRecDepth 100000 in
theorem cbD_ok (op : Int) (ho : -9223372036854775808 ≤ op ∧ op ≤ 9223372036854775807) (G : Gv) (rv : Int → Nat → Int) (re : Int → Int) : ∀ p ∈ cbD op G rv re, p.1 = p.2 := by
  intro p hp
  rcases List.mem_cons.1 hp with rfl | hp
  · exact decide_eq_true ⟨rfl, rfl, rfl, rfl⟩
  rcases List.mem_append.1 hp with hp | hp
  · obtain ⟨k, _, hk⟩ := List.mem_flatMap.1 hp
    rcases List.mem_cons.1 hk with rfl | hk
    · show (!(eq16 (rv k) (rv k))) = false
      rw [eq16_self2]; rfl
    · rw [List.mem_singleton.1 hk]
      show (re k != re k) = false
      simp
  · rcases List.mem_cons.1 hp with rfl | hp
    · exact decide_eq_true ho.1
    rcases List.mem_cons.1 hp with rfl | hp
    · exact decide_eq_true ho.2
    rcases List.mem_cons.1 hp with rfl | hp
    · show (!(eq16 (rv op) (rv op))) = false
      rw [eq16_self2]; rfl
    · rw [List.mem_singleton.1 hp]
      show (re op != re op) = false
      simp
noncomputable def cbPath (op : Int) (G : Gv) (rv : Int → Nat → Int) (re : Int → Int) (β : Nat → Fr) : Out :=
  evPathM (envCB G rv re) (envCB (sG 1 fun _ _ => 0) (fun _ _ => 0) fun _ => 0) 60 5 [.int .i64 op, .slice (some ⟨G.g, G.off, none⟩) G.n G.cap] [.int .i64 0, .slice (some ⟨2001, 0, none⟩) 1 1] [G.row] [Gv.row (sG 1 fun _ _ => 0)] (.bool true) β
--EVTS cbTs | fun (op : Int) (g0 off n cap : Nat) (B : Nat → Nat → Int) (cs : List Value) (t : TypeId) (rv : Int → Nat → Int) (re : Int → Int) (β : Nat → Fr) => (cbPath op ⟨g0, off, n, cap, B, cs, t⟩ rv re β, cbD op ⟨g0, off, n, cap, B, cs, t⟩ rv re)
def cbTs : List Nat := [0, 21, 20, 20, 20, 20, 1, 19, 18, 1, 19, 18, 0, 0, 17, 16, 16, 16, 16, 1, 0, 0, 1, 0, 0, 0, 0, 15, 14, 14, 14, 14, 1, 0, 0, 1, 0, 0, 0, 0, 13, 12, 12, 12, 12, 1, 0, 0, 1, 0, 0, 0, 0, 11, 10, 10, 10, 10, 1, 0, 0, 1, 0, 0, 0, 0, 9, 8, 8, 8, 8, 1, 0, 0, 1, 0, 0, 0, 0, 7, 6, 6, 6, 6, 1, 0, 0, 1, 0, 0, 0, 0, 5, 4, 4, 4, 4, 1, 0, 0, 1, 0, 0, 0, 0, 3, 2, 2, 2, 2, 1, 0, 0, 1, 0, 0, 0, 0, 0]
set_option maxRecDepth 100000 in
theorem cb_some (op : Int) (ho : -9223372036854775808 ≤ op ∧ op ≤ 9223372036854775807) (g0 off n cap : Nat) (B : Nat → Nat → Int) (cs : List Value) (t : TypeId) (hG : Gv.Ok ⟨g0, off, n, cap, B, cs, t⟩) (hn : n = 1 ∨ n = 2 ∨ n = 3) (w : World) (hS : SG w [Gv.row ⟨g0, off, n, cap, B, cs, t⟩] w) : Calls Try.prog 5 #[.int .i64 op, .slice (some ⟨g0, off, none⟩) n cap] w fun e w' => e = .returned (.bool true) ∧ Gr w w' := by
  have key : ∀ (rv : Int → Nat → Int) (re : Int → Int), (∀ op, rv op = resV ⟨g0, off, n, cap, B, cs, t⟩ op) → (∀ op, re op = resE ⟨g0, off, n, cap, B, cs, t⟩ op) → Calls Try.prog 5 #[.int .i64 op, .slice (some ⟨g0, off, none⟩) n cap] w fun e w' => e = .returned (.bool true) ∧ Gr w w' := fun rv re hv he =>
    ev_pathM (E := envCB ⟨g0, off, n, cap, B, cs, t⟩ rv re) (E' := envCB (sG 1 fun _ _ => 0) (fun _ _ => 0) fun _ => 0) rfl (sumW_ok _ rfl) (fuel := 60) (args' := [.int .i64 0, .slice (some ⟨2001, 0, none⟩) 1 1]) (M' := [Gv.row (sG 1 fun _ _ => 0)]) (cbD op ⟨g0, off, n, cap, B, cs, t⟩ rv re) cbTs (cbD_ok op ho ⟨g0, off, n, cap, B, cs, t⟩ rv re) (fun β => by kernel_rfl) w hS (ho := cb_ok ⟨g0, off, n, cap, B, cs, t⟩ hG hn rv re hv he)
  exact key (resV ⟨g0, off, n, cap, B, cs, t⟩) (resE ⟨g0, off, n, cap, B, cs, t⟩) (fun _ => rfl) (fun _ => rfl)
noncomputable def sumZ (f : FuncId) (args : List Value) : Option (List (List Value) × (List (Nat → Int) → Value × List Bool)) :=
  match Nat.beq f 15 || Nat.beq f 16 with
  | true => match args with
    | [.int .i64 op, .slice x n c] => some ([], fun _ => (.tuple #[.agg (bs fun _ => 0), .int .i64 1], [decide (-9223372036854775808 ≤ op), decide (op ≤ 9223372036854775807), decide (n ≠ 1 ∧ n ≠ 2 ∧ n ≠ 3)]))
    | _ => none
  | false => sumW f args
set_option maxRecDepth 100000 in
theorem nI_no {op : Int} {n : Nat} (h : n ≠ 1 ∧ n ≠ 2 ∧ n ≠ 3) : nI op = 0 ∨ nI op ≠ n := by
  unfold nI
  split
  · right; omega
  · split
    · right; omega
    · split
      · right; omega
      · left; rfl
noncomputable def envZ : Env := { P := Try.prog, known := [], sum := sumZ }
set_option maxRecDepth 100000 in
theorem sumZ_ok : SumOk envZ := by
  intro f args cs mk h fs hcs hfs hp w
  replace h : sumZ f args = some (cs, mk) := h
  unfold sumZ at h
  split at h
  · rename_i hf
    split at h
    · cases h
      have h1 := hp _ (List.mem_cons_self ..)
      have h2 := hp _ (List.mem_cons_of_mem _ (List.mem_cons_self ..))
      have h3 := hp _ (List.mem_cons_of_mem _ (List.mem_cons_of_mem _ (List.mem_cons_self ..)))
      simp only [decide_eq_true_eq] at h1 h2 h3
      simp only [Bool.or_eq_true] at hf
      rcases hf with hf | hf
      · obtain rfl := Nat.eq_of_beq_eq_true hf
        exact bits_no _ _ _ _ (nI_no h3) w
      · obtain rfl := Nat.eq_of_beq_eq_true hf
        exact rbits_no _ ⟨h1, h2⟩ _ _ _ (nI_no h3) w
    · cases h
  · exact sumW_ok { P := Try.prog, known := [], sum := sumW } rfl f args cs mk h fs hcs hfs hp w
def czD (op : Int) (n : Nat) : List (Bool × Bool) := [(decide (n ≠ 1 ∧ n ≠ 2 ∧ n ≠ 3), true), (decide (-9223372036854775808 ≤ op), true), (decide (op ≤ 9223372036854775807), true)]
noncomputable def czPath (op : Int) (x : Option Addr) (n c : Nat) (β : Nat → Fr) : Out := evPath envZ envZ 60 5 [.int .i64 op, .slice x n c] [.int .i64 0, .slice none 0 0] (.bool true) β
--EVTS czTs | fun (op : Int) (x : Option Addr) (n c : Nat) (β : Nat → Fr) => (czPath op x n c β, czD op n)
def czTs : List Nat := [0, 0, 0, 0, 0, 0, 1, 3, 2, 1, 3, 2, 0, 0, 0, 0, 0, 0, 0, 1, 0, 0, 1, 0, 0, 0, 0, 0, 0, 0, 0, 0, 1, 0, 0, 1, 0, 0, 0, 0, 0, 0, 0, 0, 0, 1, 0, 0, 1, 0, 0, 0, 0, 0, 0, 0, 0, 0, 1, 0, 0, 1, 0, 0, 0, 0, 0, 0, 0, 0, 0, 1, 0, 0, 1, 0, 0, 0, 0, 0, 0, 0, 0, 0, 1, 0, 0, 1, 0, 0, 0, 0, 0, 0, 0, 0, 0, 1, 0, 0, 1, 0, 0, 0, 0, 0, 0, 0, 0, 0, 1, 0, 0, 1, 0, 0, 0, 0, 0]
set_option maxRecDepth 100000 in
theorem cb_none (op : Int) (ho : -9223372036854775808 ≤ op ∧ op ≤ 9223372036854775807) (x : Option Addr) (n c : Nat) (h : n ≠ 1 ∧ n ≠ 2 ∧ n ≠ 3) (w : World) : Calls Try.prog 5 #[.int .i64 op, .slice x n c] w fun e w' => e = .returned (.bool true) ∧ Gr w w' :=
  ev_path (E := envZ) (E' := envZ) rfl sumZ_ok (fuel := 60) (args' := [.int .i64 0, .slice none 0 0]) (czD op n) czTs (fun p hp => by
    simp only [czD, List.mem_cons, List.not_mem_nil, or_false] at hp
    rcases hp with rfl | rfl | rfl
    · exact decide_eq_true h
    · exact decide_eq_true ho.1
    · exact decide_eq_true ho.2) (fun β => by kernel_rfl) w
set_option maxRecDepth 100000 in
theorem bits_walk (op : Int) (ho : -9223372036854775808 ≤ op ∧ op ≤ 9223372036854775807) (v : Value) (len : Nat) (B : Nat → Nat → Int) (hB : ∀ k, Byt (B k)) (w : World) (hv : Vecs w v len B) : Calls Try.prog 5 #[.int .i64 op, v] w fun e w' => e = .returned (.bool true) ∧ Gr w w' := by
  rcases hv with ⟨rfl, x, c, rfl⟩ | ⟨_, g0, off, cap, rfl, hc⟩
  · exact cb_none op ho x 0 c (by omega) w
  · by_cases hn : len = 1 ∨ len = 2 ∨ len = 3
    · have h0 := hc 0 (by omega) 0 (by omega)
      have hh : ∃ cs t fr, w.heap[g0]? = some (.cells cs t fr) := by
        unfold World.cell? at h0
        split at h0
        · rename_i c t fr h
          exact ⟨c, t, fr, h⟩
        · cases h0
      obtain ⟨cs, t, fr, hrow⟩ := hh
      have hG : Gv.Ok ⟨g0, off, len, cap, B, cs.toList, t⟩ := ⟨hB, fun k hk m hm => by
        have h1 := hc k hk m hm
        rw [cell_of_row w g0 _ cs t fr hrow] at h1
        show cs.toList[off + 16 * k + m]? = _
        rw [show off + 16 * k + m = off + k * 16 + m by omega]
        simpa using h1⟩
      exact cb_some op ho g0 off len cap B cs.toList t hG hn w ⟨St.start w, fun r hr _ => by rw [List.mem_singleton.1 hr]; exact ⟨fr, by simpa [Gv.row] using hrow⟩⟩
    · exact cb_none op ho (some ⟨g0, off, none⟩) len cap (by omega) w
end Cp
end Go.Proofs.Ytdclbagfnabmkaa
