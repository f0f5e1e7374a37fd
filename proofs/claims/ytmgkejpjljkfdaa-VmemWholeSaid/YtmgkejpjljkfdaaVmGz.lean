/-
  Joined: VmWz, VmWc.
-/
import Derived.Test.YtmgkejpjljkfdaaVmW1
import Derived.Test.YtmgkejpjljkfdaaVmW2
import Derived.Test.YtmgkejpjljkfdaaVmW3
import Derived.Test.YtmgkejpjljkfdaaVmW4
import Derived.Test.YtmgkejpjljkfdaaVmWf
namespace Go.Proofs.Ytmgkejpjljkfdaa
open Go.RowKit VecM Ev Mm
namespace Vm
theorem eqb_f {a b : Int} (h : ¬ a = b) : (a == b) = false := by simpa using h
def Whole (op A B L H : Int) (la : Option Addr) (lv lc : Nat) (a : Int) (v : Nat → Int) (w : World) : Prop := Calls Try.prog 4 #[insV op A B L H la lv lc, .int .u32 a, .agg (bs v)] w fun e w' => e = .returned (.bool true) ∧ Gr w w'
section
variable {A B L H : Int} {la : Option Addr} {lv lc : Nat} {a : Int} {v : Nat → Int} (hv : Byt v) (L0 : 0 ≤ L) (a0 : 0 ≤ a) (a1 : a < 4294967296) (w : World)
include hv
theorem n1_all {op : Int} (h0 : -9223372036854775808 ≤ op ∧ op ≤ 9223372036854775807) (h : -9223372036854711040 ≤ op ∧ op < 64768) : Whole op A B L H la lv lc a v w := by
  have hk : IntKind.i64.wrap (op - 64768) = op - 64768 := wi (by omega) (by omega)
  have hac : ∀ p ∈ acD1 op, p.1 = p.2 := one_d (eqb_f (by omega)) (one_d (decide_eq_false (by omega)) (one_d (decide_eq_false (by omega)) (one_d (eqb_f (by omega)) (one_d (decide_eq_false (by omega)) (one_d (decide_eq_false (by omega)) (one_d (eqb_f (by omega)) (one_d (eqb_f (by omega)) nil_d)))))))
  have hsk : ∀ p ∈ skD1 op, p.1 = p.2 := one_d (decide_eq_false (by rw [hk]; omega)) (one_d (decide_eq_false (by rw [hk]; omega)) (one_d (eqb_f (by rw [hk]; omega)) (one_d (eqb_f (by rw [hk]; omega)) nil_d)))
  exact wn1_run op A B L H la lv lc a v hv (app_d (app_d hsk hac) uD_ok) w
theorem n2_all {op : Int} (h0 : -9223372036854775808 ≤ op ∧ op ≤ 9223372036854775807) (h : 64780 ≤ op ∧ op < 64852) : Whole op A B L H la lv lc a v w := by
  have hk : IntKind.i64.wrap (op - 64768) = op - 64768 := wi (by omega) (by omega)
  have hac : ∀ p ∈ acD2 op, p.1 = p.2 := one_d (eqb_f (by omega)) (one_d (decide_eq_true (by omega)) (one_d (decide_eq_false (by omega)) (one_d (decide_eq_true (by omega)) (one_d (decide_eq_false (by omega)) (one_d (eqb_f (by omega)) (one_d (decide_eq_false (by omega)) (one_d (decide_eq_false (by omega)) (one_d (eqb_f (by omega)) (one_d (eqb_f (by omega)) nil_d)))))))))
  have hsk : ∀ p ∈ skD2 op, p.1 = p.2 := one_d (decide_eq_true (by rw [hk]; omega)) (one_d (decide_eq_false (by rw [hk]; omega)) (one_d (decide_eq_false (by rw [hk]; omega)) (one_d (eqb_f (by rw [hk]; omega)) (one_d (eqb_f (by rw [hk]; omega)) nil_d))))
  exact wn2_run op A B L H la lv lc a v hv (app_d (app_d hsk hac) uD_ok) w
theorem n3_all {op : Int} (h0 : -9223372036854775808 ≤ op ∧ op ≤ 9223372036854775807) (h : 64862 ≤ op) : Whole op A B L H la lv lc a v w := by
  have hk : IntKind.i64.wrap (op - 64768) = op - 64768 := wi (by omega) (by omega)
  have hac : ∀ p ∈ acD3 op, p.1 = p.2 := one_d (eqb_f (by omega)) (one_d (decide_eq_true (by omega)) (one_d (decide_eq_false (by omega)) (one_d (decide_eq_true (by omega)) (one_d (decide_eq_false (by omega)) (one_d (eqb_f (by omega)) (one_d (decide_eq_true (by omega)) (one_d (decide_eq_false (by omega)) (one_d (decide_eq_true (by omega)) (one_d (decide_eq_false (by omega)) (one_d (eqb_f (by omega)) (one_d (eqb_f (by omega)) nil_d)))))))))))
  have hsk : ∀ p ∈ skD3 op, p.1 = p.2 := one_d (decide_eq_true (by rw [hk]; omega)) (one_d (decide_eq_false (by rw [hk]; omega)) (one_d (decide_eq_true (by rw [hk]; omega)) (one_d (decide_eq_false (by rw [hk]; omega)) (one_d (eqb_f (by rw [hk]; omega)) (one_d (eqb_f (by rw [hk]; omega)) nil_d)))))
  exact wn3_run op A B L H la lv lc a v hv (app_d (app_d hsk hac) uD_ok) w
theorem n4_all {op : Int} (h0 : -9223372036854775808 ≤ op ∧ op < -9223372036854711040) : Whole op A B L H la lv lc a v w := by
  have hk : IntKind.i64.wrap (op - 64768) = op + 18446744073709486848 := by rw [IntKind.wrap_i64]; omega
  have hac : ∀ p ∈ acD4 op, p.1 = p.2 := one_d (eqb_f (by omega)) (one_d (decide_eq_false (by omega)) (one_d (decide_eq_false (by omega)) (one_d (eqb_f (by omega)) (one_d (decide_eq_false (by omega)) (one_d (decide_eq_false (by omega)) (one_d (eqb_f (by omega)) (one_d (eqb_f (by omega)) nil_d)))))))
  have hsk : ∀ p ∈ skD4 op, p.1 = p.2 := one_d (decide_eq_true (by rw [hk]; omega)) (one_d (decide_eq_false (by rw [hk]; omega)) (one_d (decide_eq_true (by rw [hk]; omega)) (one_d (decide_eq_false (by rw [hk]; omega)) (one_d (eqb_f (by rw [hk]; omega)) (one_d (eqb_f (by rw [hk]; omega)) nil_d)))))
  exact wn4_run op A B L H la lv lc a v hv (app_d (app_d hsk hac) uD_ok) w
include L0 a0 a1
omit L0 in
theorem ofd00_all : Whole 64768 A B L H la lv lc a v w := by
  by_cases h1 : B < 0
  · exact wafd00_run A B L H la lv lc a v hv (fun _ => A1D_ok h1) w
  by_cases h2 : 4294967296 ≤ B
  · exact wbfd00_run A B L H la lv lc a v hv (fun _ => A2D_ok h2) w
  have B0 : 0 ≤ B := by omega
  have B1 : B < 4294967296 := by omega
  by_cases h4 : 65536 < a + B + 16
  · exact wtfd00_run A B L H la lv lc a v hv (fun _ => TD_ok B0 B1 a0 a1 (by decide) (by decide) (fun h => by cases h) h4) w
  have ht : a + B + 16 ≤ 65536 := by omega
  exact wofd00_run A B L H la lv lc a v hv (fun _ => L16D_ok B0 B1 a0 a1 ht) w
omit L0 in
theorem ofd01_all : Whole 64769 A B L H la lv lc a v w := by
  by_cases h1 : B < 0
  · exact wafd01_run A B L H la lv lc a v hv (fun _ => A1D_ok h1) w
  by_cases h2 : 4294967296 ≤ B
  · exact wbfd01_run A B L H la lv lc a v hv (fun _ => A2D_ok h2) w
  have B0 : 0 ≤ B := by omega
  have B1 : B < 4294967296 := by omega
  by_cases h4 : 65536 < a + B + 8
  · exact wtfd01_run A B L H la lv lc a v hv (fun _ => TD_ok B0 B1 a0 a1 (by decide) (by decide) (fun h => by cases h) h4) w
  have ht : a + B + 8 ≤ 65536 := by omega
  exact wofd01_run A B L H la lv lc a v hv (fun _ => LD_ok B0 B1 a0 a1 (by decide) (by decide) (fun h => by cases h) ht) w
omit L0 in
theorem ofd02_all : Whole 64770 A B L H la lv lc a v w := by
  by_cases h1 : B < 0
  · exact wafd02_run A B L H la lv lc a v hv (fun _ => A1D_ok h1) w
  by_cases h2 : 4294967296 ≤ B
  · exact wbfd02_run A B L H la lv lc a v hv (fun _ => A2D_ok h2) w
  have B0 : 0 ≤ B := by omega
  have B1 : B < 4294967296 := by omega
  by_cases h4 : 65536 < a + B + 8
  · exact wtfd02_run A B L H la lv lc a v hv (fun _ => TD_ok B0 B1 a0 a1 (by decide) (by decide) (fun h => by cases h) h4) w
  have ht : a + B + 8 ≤ 65536 := by omega
  exact wofd02_run A B L H la lv lc a v hv (fun _ => LD_ok B0 B1 a0 a1 (by decide) (by decide) (fun h => by cases h) ht) w
omit L0 in
theorem ofd03_all : Whole 64771 A B L H la lv lc a v w := by
  by_cases h1 : B < 0
  · exact wafd03_run A B L H la lv lc a v hv (fun _ => A1D_ok h1) w
  by_cases h2 : 4294967296 ≤ B
  · exact wbfd03_run A B L H la lv lc a v hv (fun _ => A2D_ok h2) w
  have B0 : 0 ≤ B := by omega
  have B1 : B < 4294967296 := by omega
  by_cases h4 : 65536 < a + B + 8
  · exact wtfd03_run A B L H la lv lc a v hv (fun _ => TD_ok B0 B1 a0 a1 (by decide) (by decide) (fun h => by cases h) h4) w
  have ht : a + B + 8 ≤ 65536 := by omega
  exact wofd03_run A B L H la lv lc a v hv (fun _ => LD_ok B0 B1 a0 a1 (by decide) (by decide) (fun h => by cases h) ht) w
omit L0 in
theorem ofd04_all : Whole 64772 A B L H la lv lc a v w := by
  by_cases h1 : B < 0
  · exact wafd04_run A B L H la lv lc a v hv (fun _ => A1D_ok h1) w
  by_cases h2 : 4294967296 ≤ B
  · exact wbfd04_run A B L H la lv lc a v hv (fun _ => A2D_ok h2) w
  have B0 : 0 ≤ B := by omega
  have B1 : B < 4294967296 := by omega
  by_cases h4 : 65536 < a + B + 8
  · exact wtfd04_run A B L H la lv lc a v hv (fun _ => TD_ok B0 B1 a0 a1 (by decide) (by decide) (fun h => by cases h) h4) w
  have ht : a + B + 8 ≤ 65536 := by omega
  exact wofd04_run A B L H la lv lc a v hv (fun _ => LD_ok B0 B1 a0 a1 (by decide) (by decide) (fun h => by cases h) ht) w
omit L0 in
theorem ofd05_all : Whole 64773 A B L H la lv lc a v w := by
  by_cases h1 : B < 0
  · exact wafd05_run A B L H la lv lc a v hv (fun _ => A1D_ok h1) w
  by_cases h2 : 4294967296 ≤ B
  · exact wbfd05_run A B L H la lv lc a v hv (fun _ => A2D_ok h2) w
  have B0 : 0 ≤ B := by omega
  have B1 : B < 4294967296 := by omega
  by_cases h4 : 65536 < a + B + 8
  · exact wtfd05_run A B L H la lv lc a v hv (fun _ => TD_ok B0 B1 a0 a1 (by decide) (by decide) (fun h => by cases h) h4) w
  have ht : a + B + 8 ≤ 65536 := by omega
  exact wofd05_run A B L H la lv lc a v hv (fun _ => LD_ok B0 B1 a0 a1 (by decide) (by decide) (fun h => by cases h) ht) w
omit L0 in
theorem ofd06_all : Whole 64774 A B L H la lv lc a v w := by
  by_cases h1 : B < 0
  · exact wafd06_run A B L H la lv lc a v hv (fun _ => A1D_ok h1) w
  by_cases h2 : 4294967296 ≤ B
  · exact wbfd06_run A B L H la lv lc a v hv (fun _ => A2D_ok h2) w
  have B0 : 0 ≤ B := by omega
  have B1 : B < 4294967296 := by omega
  by_cases h4 : 65536 < a + B + 8
  · exact wtfd06_run A B L H la lv lc a v hv (fun _ => TD_ok B0 B1 a0 a1 (by decide) (by decide) (fun h => by cases h) h4) w
  have ht : a + B + 8 ≤ 65536 := by omega
  exact wofd06_run A B L H la lv lc a v hv (fun _ => LD_ok B0 B1 a0 a1 (by decide) (by decide) (fun h => by cases h) ht) w
omit L0 in
theorem ofd07_all : Whole 64775 A B L H la lv lc a v w := by
  by_cases h1 : B < 0
  · exact wafd07_run A B L H la lv lc a v hv (fun _ => A1D_ok h1) w
  by_cases h2 : 4294967296 ≤ B
  · exact wbfd07_run A B L H la lv lc a v hv (fun _ => A2D_ok h2) w
  have B0 : 0 ≤ B := by omega
  have B1 : B < 4294967296 := by omega
  by_cases h4 : 65536 < a + B + 1
  · exact wtfd07_run A B L H la lv lc a v hv (fun _ => TD_ok B0 B1 a0 a1 (by decide) (by decide) (fun h => by cases h) h4) w
  have ht : a + B + 1 ≤ 65536 := by omega
  exact wofd07_run A B L H la lv lc a v hv (fun _ => LD_ok B0 B1 a0 a1 (by decide) (by decide) (fun h => by cases h) ht) w
omit L0 in
theorem ofd08_all : Whole 64776 A B L H la lv lc a v w := by
  by_cases h1 : B < 0
  · exact wafd08_run A B L H la lv lc a v hv (fun _ => A1D_ok h1) w
  by_cases h2 : 4294967296 ≤ B
  · exact wbfd08_run A B L H la lv lc a v hv (fun _ => A2D_ok h2) w
  have B0 : 0 ≤ B := by omega
  have B1 : B < 4294967296 := by omega
  by_cases h4 : 65536 < a + B + 2
  · exact wtfd08_run A B L H la lv lc a v hv (fun _ => TD_ok B0 B1 a0 a1 (by decide) (by decide) (fun h => by cases h) h4) w
  have ht : a + B + 2 ≤ 65536 := by omega
  exact wofd08_run A B L H la lv lc a v hv (fun _ => LD_ok B0 B1 a0 a1 (by decide) (by decide) (fun h => by cases h) ht) w
omit L0 in
theorem ofd09_all : Whole 64777 A B L H la lv lc a v w := by
  by_cases h1 : B < 0
  · exact wafd09_run A B L H la lv lc a v hv (fun _ => A1D_ok h1) w
  by_cases h2 : 4294967296 ≤ B
  · exact wbfd09_run A B L H la lv lc a v hv (fun _ => A2D_ok h2) w
  have B0 : 0 ≤ B := by omega
  have B1 : B < 4294967296 := by omega
  by_cases h4 : 65536 < a + B + 4
  · exact wtfd09_run A B L H la lv lc a v hv (fun _ => TD_ok B0 B1 a0 a1 (by decide) (by decide) (fun h => by cases h) h4) w
  have ht : a + B + 4 ≤ 65536 := by omega
  exact wofd09_run A B L H la lv lc a v hv (fun _ => LD_ok B0 B1 a0 a1 (by decide) (by decide) (fun h => by cases h) ht) w
omit L0 in
theorem ofd0a_all : Whole 64778 A B L H la lv lc a v w := by
  by_cases h1 : B < 0
  · exact wafd0a_run A B L H la lv lc a v hv (fun _ => A1D_ok h1) w
  by_cases h2 : 4294967296 ≤ B
  · exact wbfd0a_run A B L H la lv lc a v hv (fun _ => A2D_ok h2) w
  have B0 : 0 ≤ B := by omega
  have B1 : B < 4294967296 := by omega
  by_cases h4 : 65536 < a + B + 8
  · exact wtfd0a_run A B L H la lv lc a v hv (fun _ => TD_ok B0 B1 a0 a1 (by decide) (by decide) (fun h => by cases h) h4) w
  have ht : a + B + 8 ≤ 65536 := by omega
  exact wofd0a_run A B L H la lv lc a v hv (fun _ => LD_ok B0 B1 a0 a1 (by decide) (by decide) (fun h => by cases h) ht) w
omit L0 in
theorem ofd0b_all : Whole 64779 A B L H la lv lc a v w := by
  by_cases h1 : B < 0
  · exact wafd0b_run A B L H la lv lc a v hv (fun _ => A1D_ok h1) w
  by_cases h2 : 4294967296 ≤ B
  · exact wbfd0b_run A B L H la lv lc a v hv (fun _ => A2D_ok h2) w
  have B0 : 0 ≤ B := by omega
  have B1 : B < 4294967296 := by omega
  by_cases h4 : 65536 < a + B + 16
  · exact wtfd0b_run A B L H la lv lc a v hv (fun _ => TD_ok B0 B1 a0 a1 (by decide) (by decide) (fun h => by cases h) h4) w
  have ht : a + B + 16 ≤ 65536 := by omega
  exact wofd0b_run A B L H la lv lc a v hv (fun _ => S16D_ok B0 B1 a0 a1 hv ht _) w
omit L0 in
theorem ofd54_all : Whole 64852 A B L H la lv lc a v w := by
  by_cases h1 : B < 0
  · exact wafd54_run A B L H la lv lc a v hv (fun _ => A1D_ok h1) w
  by_cases h2 : 4294967296 ≤ B
  · exact wbfd54_run A B L H la lv lc a v hv (fun _ => A2D_ok h2) w
  have B0 : 0 ≤ B := by omega
  have B1 : B < 4294967296 := by omega
  by_cases h3 : 16 ≤ L
  · exact wcfd54_run A B L H la lv lc a v hv (fun _ => A3D_ok B0 B1 h3) w
  have hL : L < 16 := by omega
  by_cases h4 : 65536 < a + B + 1
  · exact wtfd54_run A B L H la lv lc a v hv (fun _ => TD_ok B0 B1 a0 a1 (by decide) (by decide) (fun _ => hL) h4) w
  have ht : a + B + 1 ≤ 65536 := by omega
  exact wofd54_run A B L H la lv lc a v hv (fun _ => LD_ok B0 B1 a0 a1 (by decide) (by decide) (fun _ => hL) ht) w
omit L0 in
theorem ofd55_all : Whole 64853 A B L H la lv lc a v w := by
  by_cases h1 : B < 0
  · exact wafd55_run A B L H la lv lc a v hv (fun _ => A1D_ok h1) w
  by_cases h2 : 4294967296 ≤ B
  · exact wbfd55_run A B L H la lv lc a v hv (fun _ => A2D_ok h2) w
  have B0 : 0 ≤ B := by omega
  have B1 : B < 4294967296 := by omega
  by_cases h3 : 8 ≤ L
  · exact wcfd55_run A B L H la lv lc a v hv (fun _ => A3D_ok B0 B1 h3) w
  have hL : L < 8 := by omega
  by_cases h4 : 65536 < a + B + 2
  · exact wtfd55_run A B L H la lv lc a v hv (fun _ => TD_ok B0 B1 a0 a1 (by decide) (by decide) (fun _ => hL) h4) w
  have ht : a + B + 2 ≤ 65536 := by omega
  exact wofd55_run A B L H la lv lc a v hv (fun _ => LD_ok B0 B1 a0 a1 (by decide) (by decide) (fun _ => hL) ht) w
omit L0 in
theorem ofd56_all : Whole 64854 A B L H la lv lc a v w := by
  by_cases h1 : B < 0
  · exact wafd56_run A B L H la lv lc a v hv (fun _ => A1D_ok h1) w
  by_cases h2 : 4294967296 ≤ B
  · exact wbfd56_run A B L H la lv lc a v hv (fun _ => A2D_ok h2) w
  have B0 : 0 ≤ B := by omega
  have B1 : B < 4294967296 := by omega
  by_cases h3 : 4 ≤ L
  · exact wcfd56_run A B L H la lv lc a v hv (fun _ => A3D_ok B0 B1 h3) w
  have hL : L < 4 := by omega
  by_cases h4 : 65536 < a + B + 4
  · exact wtfd56_run A B L H la lv lc a v hv (fun _ => TD_ok B0 B1 a0 a1 (by decide) (by decide) (fun _ => hL) h4) w
  have ht : a + B + 4 ≤ 65536 := by omega
  exact wofd56_run A B L H la lv lc a v hv (fun _ => LD_ok B0 B1 a0 a1 (by decide) (by decide) (fun _ => hL) ht) w
omit L0 in
theorem ofd57_all : Whole 64855 A B L H la lv lc a v w := by
  by_cases h1 : B < 0
  · exact wafd57_run A B L H la lv lc a v hv (fun _ => A1D_ok h1) w
  by_cases h2 : 4294967296 ≤ B
  · exact wbfd57_run A B L H la lv lc a v hv (fun _ => A2D_ok h2) w
  have B0 : 0 ≤ B := by omega
  have B1 : B < 4294967296 := by omega
  by_cases h3 : 2 ≤ L
  · exact wcfd57_run A B L H la lv lc a v hv (fun _ => A3D_ok B0 B1 h3) w
  have hL : L < 2 := by omega
  by_cases h4 : 65536 < a + B + 8
  · exact wtfd57_run A B L H la lv lc a v hv (fun _ => TD_ok B0 B1 a0 a1 (by decide) (by decide) (fun _ => hL) h4) w
  have ht : a + B + 8 ≤ 65536 := by omega
  exact wofd57_run A B L H la lv lc a v hv (fun _ => LD_ok B0 B1 a0 a1 (by decide) (by decide) (fun _ => hL) ht) w
theorem ofd58_all : Whole 64856 A B L H la lv lc a v w := by
  by_cases h1 : B < 0
  · exact wafd58_run A B L H la lv lc a v hv (fun _ => A1D_ok h1) w
  by_cases h2 : 4294967296 ≤ B
  · exact wbfd58_run A B L H la lv lc a v hv (fun _ => A2D_ok h2) w
  have B0 : 0 ≤ B := by omega
  have B1 : B < 4294967296 := by omega
  by_cases h3 : 16 ≤ L
  · exact wcfd58_run A B L H la lv lc a v hv (fun _ => A3D_ok B0 B1 h3) w
  have hL : L < 16 := by omega
  by_cases h4 : 65536 < a + B + 1
  · exact wtfd58_run A B L H la lv lc a v hv (fun _ => TD_ok B0 B1 a0 a1 (by decide) (by decide) (fun _ => hL) h4) w
  have ht : a + B + 1 ≤ 65536 := by omega
  exact wofd58_run A B L H la lv lc a v hv (fun _ => SD_ok B0 B1 a0 a1 (by decide) L0 hL hv ht _) w
theorem ofd59_all : Whole 64857 A B L H la lv lc a v w := by
  by_cases h1 : B < 0
  · exact wafd59_run A B L H la lv lc a v hv (fun _ => A1D_ok h1) w
  by_cases h2 : 4294967296 ≤ B
  · exact wbfd59_run A B L H la lv lc a v hv (fun _ => A2D_ok h2) w
  have B0 : 0 ≤ B := by omega
  have B1 : B < 4294967296 := by omega
  by_cases h3 : 8 ≤ L
  · exact wcfd59_run A B L H la lv lc a v hv (fun _ => A3D_ok B0 B1 h3) w
  have hL : L < 8 := by omega
  by_cases h4 : 65536 < a + B + 2
  · exact wtfd59_run A B L H la lv lc a v hv (fun _ => TD_ok B0 B1 a0 a1 (by decide) (by decide) (fun _ => hL) h4) w
  have ht : a + B + 2 ≤ 65536 := by omega
  exact wofd59_run A B L H la lv lc a v hv (fun _ => SD_ok B0 B1 a0 a1 (by decide) L0 hL hv ht _) w
theorem ofd5a_all : Whole 64858 A B L H la lv lc a v w := by
  by_cases h1 : B < 0
  · exact wafd5a_run A B L H la lv lc a v hv (fun _ => A1D_ok h1) w
  by_cases h2 : 4294967296 ≤ B
  · exact wbfd5a_run A B L H la lv lc a v hv (fun _ => A2D_ok h2) w
  have B0 : 0 ≤ B := by omega
  have B1 : B < 4294967296 := by omega
  by_cases h3 : 4 ≤ L
  · exact wcfd5a_run A B L H la lv lc a v hv (fun _ => A3D_ok B0 B1 h3) w
  have hL : L < 4 := by omega
  by_cases h4 : 65536 < a + B + 4
  · exact wtfd5a_run A B L H la lv lc a v hv (fun _ => TD_ok B0 B1 a0 a1 (by decide) (by decide) (fun _ => hL) h4) w
  have ht : a + B + 4 ≤ 65536 := by omega
  exact wofd5a_run A B L H la lv lc a v hv (fun _ => SD_ok B0 B1 a0 a1 (by decide) L0 hL hv ht _) w
theorem ofd5b_all : Whole 64859 A B L H la lv lc a v w := by
  by_cases h1 : B < 0
  · exact wafd5b_run A B L H la lv lc a v hv (fun _ => A1D_ok h1) w
  by_cases h2 : 4294967296 ≤ B
  · exact wbfd5b_run A B L H la lv lc a v hv (fun _ => A2D_ok h2) w
  have B0 : 0 ≤ B := by omega
  have B1 : B < 4294967296 := by omega
  by_cases h3 : 2 ≤ L
  · exact wcfd5b_run A B L H la lv lc a v hv (fun _ => A3D_ok B0 B1 h3) w
  have hL : L < 2 := by omega
  by_cases h4 : 65536 < a + B + 8
  · exact wtfd5b_run A B L H la lv lc a v hv (fun _ => TD_ok B0 B1 a0 a1 (by decide) (by decide) (fun _ => hL) h4) w
  have ht : a + B + 8 ≤ 65536 := by omega
  exact wofd5b_run A B L H la lv lc a v hv (fun _ => SD_ok B0 B1 a0 a1 (by decide) L0 hL hv ht _) w
omit L0 in
theorem ofd5c_all : Whole 64860 A B L H la lv lc a v w := by
  by_cases h1 : B < 0
  · exact wafd5c_run A B L H la lv lc a v hv (fun _ => A1D_ok h1) w
  by_cases h2 : 4294967296 ≤ B
  · exact wbfd5c_run A B L H la lv lc a v hv (fun _ => A2D_ok h2) w
  have B0 : 0 ≤ B := by omega
  have B1 : B < 4294967296 := by omega
  by_cases h4 : 65536 < a + B + 4
  · exact wtfd5c_run A B L H la lv lc a v hv (fun _ => TD_ok B0 B1 a0 a1 (by decide) (by decide) (fun h => by cases h) h4) w
  have ht : a + B + 4 ≤ 65536 := by omega
  exact wofd5c_run A B L H la lv lc a v hv (fun _ => LD_ok B0 B1 a0 a1 (by decide) (by decide) (fun h => by cases h) ht) w
omit L0 in
theorem ofd5d_all : Whole 64861 A B L H la lv lc a v w := by
  by_cases h1 : B < 0
  · exact wafd5d_run A B L H la lv lc a v hv (fun _ => A1D_ok h1) w
  by_cases h2 : 4294967296 ≤ B
  · exact wbfd5d_run A B L H la lv lc a v hv (fun _ => A2D_ok h2) w
  have B0 : 0 ≤ B := by omega
  have B1 : B < 4294967296 := by omega
  by_cases h4 : 65536 < a + B + 8
  · exact wtfd5d_run A B L H la lv lc a v hv (fun _ => TD_ok B0 B1 a0 a1 (by decide) (by decide) (fun h => by cases h) h4) w
  have ht : a + B + 8 ≤ 65536 := by omega
  exact wofd5d_run A B L H la lv lc a v hv (fun _ => LD_ok B0 B1 a0 a1 (by decide) (by decide) (fun h => by cases h) ht) w
end
/-- VmemWhole -/
theorem whole_all {op A B L H : Int} {la : Option Addr} {lv lc : Nat} {a : Int} {v : Nat → Int} (hop : -9223372036854775808 ≤ op ∧ op ≤ 9223372036854775807) (hL : 0 ≤ L ∧ L < 18446744073709551616) (hv : Byt v) (ha : 0 ≤ a ∧ a < 4294967296) (w : World) : Whole op A B L H la lv lc a v w := by
  have hL0 := hL.1
  by_cases efd00 : op = 64768
  · subst efd00; exact ofd00_all hv ha.1 ha.2 w
  by_cases efd01 : op = 64769
  · subst efd01; exact ofd01_all hv ha.1 ha.2 w
  by_cases efd02 : op = 64770
  · subst efd02; exact ofd02_all hv ha.1 ha.2 w
  by_cases efd03 : op = 64771
  · subst efd03; exact ofd03_all hv ha.1 ha.2 w
  by_cases efd04 : op = 64772
  · subst efd04; exact ofd04_all hv ha.1 ha.2 w
  by_cases efd05 : op = 64773
  · subst efd05; exact ofd05_all hv ha.1 ha.2 w
  by_cases efd06 : op = 64774
  · subst efd06; exact ofd06_all hv ha.1 ha.2 w
  by_cases efd07 : op = 64775
  · subst efd07; exact ofd07_all hv ha.1 ha.2 w
  by_cases efd08 : op = 64776
  · subst efd08; exact ofd08_all hv ha.1 ha.2 w
  by_cases efd09 : op = 64777
  · subst efd09; exact ofd09_all hv ha.1 ha.2 w
  by_cases efd0a : op = 64778
  · subst efd0a; exact ofd0a_all hv ha.1 ha.2 w
  by_cases efd0b : op = 64779
  · subst efd0b; exact ofd0b_all hv ha.1 ha.2 w
  by_cases efd54 : op = 64852
  · subst efd54; exact ofd54_all hv ha.1 ha.2 w
  by_cases efd55 : op = 64853
  · subst efd55; exact ofd55_all hv ha.1 ha.2 w
  by_cases efd56 : op = 64854
  · subst efd56; exact ofd56_all hv ha.1 ha.2 w
  by_cases efd57 : op = 64855
  · subst efd57; exact ofd57_all hv ha.1 ha.2 w
  by_cases efd58 : op = 64856
  · subst efd58; exact ofd58_all hv hL.1 ha.1 ha.2 w
  by_cases efd59 : op = 64857
  · subst efd59; exact ofd59_all hv hL.1 ha.1 ha.2 w
  by_cases efd5a : op = 64858
  · subst efd5a; exact ofd5a_all hv hL.1 ha.1 ha.2 w
  by_cases efd5b : op = 64859
  · subst efd5b; exact ofd5b_all hv hL.1 ha.1 ha.2 w
  by_cases efd5c : op = 64860
  · subst efd5c; exact ofd5c_all hv ha.1 ha.2 w
  by_cases efd5d : op = 64861
  · subst efd5d; exact ofd5d_all hv ha.1 ha.2 w
  by_cases g0 : op < -9223372036854711040
  · exact n4_all hv w ⟨hop.1, g0⟩
  by_cases g1 : op < 64768
  · exact n1_all hv w hop ⟨by omega, g1⟩
  by_cases g2 : op < 64852
  · exact n2_all hv w hop ⟨by omega, g2⟩
  exact n3_all hv w hop (by omega)
end Vm
end Go.Proofs.Ytmgkejpjljkfdaa
namespace Go.Proofs.Ytmgkejpjljkfdaa
open Go.RowKit VecM Ev Mm
namespace Vm
theorem whole_card {op A B L H : Int} {la : Option Addr} {lv lc : Nat} {a : Int} {v : Nat → Int} (hop : -9223372036854775808 ≤ op ∧ op ≤ 9223372036854775807) (hL : 0 ≤ L ∧ L < 18446744073709551616) (hv : Byt v) (ha : 0 ≤ a ∧ a < 4294967296) (w : World) :
    Calls Try.prog 4 #[.agg #[.int .i64 op, .int .i64 A, .int .i64 B, .int .u64 L, .int .u64 H, .slice la lv lc], .int .u32 a, .agg (bs v)] w fun e w' => e = .returned (.bool true) ∧ Gr w w' :=
  whole_all hop hL hv ha w
end Vm
end Go.Proofs.Ytmgkejpjljkfdaa
