/-
  The reference's Width and offset of layer 5. No conditions but 64 bits.
-/
import Derived.Test.YtalnkkmbjaollaaEvC
import Derived.Test.YtalnkkmbjaollaaArSh
namespace Go.Proofs.Ytalnkkmbjaollaa
open Go.RowKit VecM Ev
namespace Ar
noncomputable def sumN (_ : FuncId) (_ : List Value) : Option (List (List Value) × (List (Nat → Int) → Value × List Bool)) := none
noncomputable def envN : Env := { P := Try.prog, known := [], sum := sumN }
theorem sumN_ok : SumOk envN := fun f args cs mk h => by cases h
noncomputable def rwPath (op t : Int) (v : Int) (β : Nat → Fr) : Out := evPath envN envN 300 30 [.int .i64 op] [.int .i64 t] (.int .i64 v) β
theorem rw_64864 (w : World) : Calls Try.prog 30 #[.int .i64 64864] w fun e w' => e = .returned (.int .i64 8) ∧ Gr w w' :=
  ev_path (E := envN) (E' := envN) rfl sumN_ok (fuel := 300) (args' := [.int .i64 64864]) [] [] (fun p hp => by cases hp) (fun β => by kernel_rfl) w
theorem rw_64865 (w : World) : Calls Try.prog 30 #[.int .i64 64865] w fun e w' => e = .returned (.int .i64 8) ∧ Gr w w' :=
  ev_path (E := envN) (E' := envN) rfl sumN_ok (fuel := 300) (args' := [.int .i64 64865]) [] [] (fun p hp => by cases hp) (fun β => by kernel_rfl) w
theorem rw_64875 (w : World) : Calls Try.prog 30 #[.int .i64 64875] w fun e w' => e = .returned (.int .i64 8) ∧ Gr w w' :=
  ev_path (E := envN) (E' := envN) rfl sumN_ok (fuel := 300) (args' := [.int .i64 64875]) [] [] (fun p hp => by cases hp) (fun β => by kernel_rfl) w
theorem rw_64876 (w : World) : Calls Try.prog 30 #[.int .i64 64876] w fun e w' => e = .returned (.int .i64 8) ∧ Gr w w' :=
  ev_path (E := envN) (E' := envN) rfl sumN_ok (fuel := 300) (args' := [.int .i64 64876]) [] [] (fun p hp => by cases hp) (fun β => by kernel_rfl) w
theorem rw_64877 (w : World) : Calls Try.prog 30 #[.int .i64 64877] w fun e w' => e = .returned (.int .i64 8) ∧ Gr w w' :=
  ev_path (E := envN) (E' := envN) rfl sumN_ok (fuel := 300) (args' := [.int .i64 64877]) [] [] (fun p hp => by cases hp) (fun β => by kernel_rfl) w
theorem rw_64878 (w : World) : Calls Try.prog 30 #[.int .i64 64878] w fun e w' => e = .returned (.int .i64 8) ∧ Gr w w' :=
  ev_path (E := envN) (E' := envN) rfl sumN_ok (fuel := 300) (args' := [.int .i64 64878]) [] [] (fun p hp => by cases hp) (fun β => by kernel_rfl) w
theorem rw_64881 (w : World) : Calls Try.prog 30 #[.int .i64 64881] w fun e w' => e = .returned (.int .i64 8) ∧ Gr w w' :=
  ev_path (E := envN) (E' := envN) rfl sumN_ok (fuel := 300) (args' := [.int .i64 64881]) [] [] (fun p hp => by cases hp) (fun β => by kernel_rfl) w
theorem rw_64886 (w : World) : Calls Try.prog 30 #[.int .i64 64886] w fun e w' => e = .returned (.int .i64 8) ∧ Gr w w' :=
  ev_path (E := envN) (E' := envN) rfl sumN_ok (fuel := 300) (args' := [.int .i64 64886]) [] [] (fun p hp => by cases hp) (fun β => by kernel_rfl) w
theorem rw_64887 (w : World) : Calls Try.prog 30 #[.int .i64 64887] w fun e w' => e = .returned (.int .i64 8) ∧ Gr w w' :=
  ev_path (E := envN) (E' := envN) rfl sumN_ok (fuel := 300) (args' := [.int .i64 64887]) [] [] (fun p hp => by cases hp) (fun β => by kernel_rfl) w
theorem rw_64888 (w : World) : Calls Try.prog 30 #[.int .i64 64888] w fun e w' => e = .returned (.int .i64 8) ∧ Gr w w' :=
  ev_path (E := envN) (E' := envN) rfl sumN_ok (fuel := 300) (args' := [.int .i64 64888]) [] [] (fun p hp => by cases hp) (fun β => by kernel_rfl) w
theorem rw_64889 (w : World) : Calls Try.prog 30 #[.int .i64 64889] w fun e w' => e = .returned (.int .i64 8) ∧ Gr w w' :=
  ev_path (E := envN) (E' := envN) rfl sumN_ok (fuel := 300) (args' := [.int .i64 64889]) [] [] (fun p hp => by cases hp) (fun β => by kernel_rfl) w
theorem rw_64879 (w : World) : Calls Try.prog 30 #[.int .i64 64879] w fun e w' => e = .returned (.int .i64 8) ∧ Gr w w' :=
  ev_path (E := envN) (E' := envN) rfl sumN_ok (fuel := 300) (args' := [.int .i64 64879]) [] [] (fun p hp => by cases hp) (fun β => by kernel_rfl) w
theorem rw_64880 (w : World) : Calls Try.prog 30 #[.int .i64 64880] w fun e w' => e = .returned (.int .i64 8) ∧ Gr w w' :=
  ev_path (E := envN) (E' := envN) rfl sumN_ok (fuel := 300) (args' := [.int .i64 64880]) [] [] (fun p hp => by cases hp) (fun β => by kernel_rfl) w
theorem rw_64882 (w : World) : Calls Try.prog 30 #[.int .i64 64882] w fun e w' => e = .returned (.int .i64 8) ∧ Gr w w' :=
  ev_path (E := envN) (E' := envN) rfl sumN_ok (fuel := 300) (args' := [.int .i64 64882]) [] [] (fun p hp => by cases hp) (fun β => by kernel_rfl) w
theorem rw_64883 (w : World) : Calls Try.prog 30 #[.int .i64 64883] w fun e w' => e = .returned (.int .i64 8) ∧ Gr w w' :=
  ev_path (E := envN) (E' := envN) rfl sumN_ok (fuel := 300) (args' := [.int .i64 64883]) [] [] (fun p hp => by cases hp) (fun β => by kernel_rfl) w
theorem rw_64891 (w : World) : Calls Try.prog 30 #[.int .i64 64891] w fun e w' => e = .returned (.int .i64 8) ∧ Gr w w' :=
  ev_path (E := envN) (E' := envN) rfl sumN_ok (fuel := 300) (args' := [.int .i64 64891]) [] [] (fun p hp => by cases hp) (fun β => by kernel_rfl) w
theorem rw_64866 (w : World) : Calls Try.prog 30 #[.int .i64 64866] w fun e w' => e = .returned (.int .i64 8) ∧ Gr w w' :=
  ev_path (E := envN) (E' := envN) rfl sumN_ok (fuel := 300) (args' := [.int .i64 64866]) [] [] (fun p hp => by cases hp) (fun β => by kernel_rfl) w
theorem rw_64896 (w : World) : Calls Try.prog 30 #[.int .i64 64896] w fun e w' => e = .returned (.int .i64 16) ∧ Gr w w' :=
  ev_path (E := envN) (E' := envN) rfl sumN_ok (fuel := 300) (args' := [.int .i64 64896]) [] [] (fun p hp => by cases hp) (fun β => by kernel_rfl) w
theorem rw_64897 (w : World) : Calls Try.prog 30 #[.int .i64 64897] w fun e w' => e = .returned (.int .i64 16) ∧ Gr w w' :=
  ev_path (E := envN) (E' := envN) rfl sumN_ok (fuel := 300) (args' := [.int .i64 64897]) [] [] (fun p hp => by cases hp) (fun β => by kernel_rfl) w
theorem rw_64907 (w : World) : Calls Try.prog 30 #[.int .i64 64907] w fun e w' => e = .returned (.int .i64 16) ∧ Gr w w' :=
  ev_path (E := envN) (E' := envN) rfl sumN_ok (fuel := 300) (args' := [.int .i64 64907]) [] [] (fun p hp => by cases hp) (fun β => by kernel_rfl) w
theorem rw_64908 (w : World) : Calls Try.prog 30 #[.int .i64 64908] w fun e w' => e = .returned (.int .i64 16) ∧ Gr w w' :=
  ev_path (E := envN) (E' := envN) rfl sumN_ok (fuel := 300) (args' := [.int .i64 64908]) [] [] (fun p hp => by cases hp) (fun β => by kernel_rfl) w
theorem rw_64909 (w : World) : Calls Try.prog 30 #[.int .i64 64909] w fun e w' => e = .returned (.int .i64 16) ∧ Gr w w' :=
  ev_path (E := envN) (E' := envN) rfl sumN_ok (fuel := 300) (args' := [.int .i64 64909]) [] [] (fun p hp => by cases hp) (fun β => by kernel_rfl) w
theorem rw_64910 (w : World) : Calls Try.prog 30 #[.int .i64 64910] w fun e w' => e = .returned (.int .i64 16) ∧ Gr w w' :=
  ev_path (E := envN) (E' := envN) rfl sumN_ok (fuel := 300) (args' := [.int .i64 64910]) [] [] (fun p hp => by cases hp) (fun β => by kernel_rfl) w
theorem rw_64913 (w : World) : Calls Try.prog 30 #[.int .i64 64913] w fun e w' => e = .returned (.int .i64 16) ∧ Gr w w' :=
  ev_path (E := envN) (E' := envN) rfl sumN_ok (fuel := 300) (args' := [.int .i64 64913]) [] [] (fun p hp => by cases hp) (fun β => by kernel_rfl) w
theorem rw_64918 (w : World) : Calls Try.prog 30 #[.int .i64 64918] w fun e w' => e = .returned (.int .i64 16) ∧ Gr w w' :=
  ev_path (E := envN) (E' := envN) rfl sumN_ok (fuel := 300) (args' := [.int .i64 64918]) [] [] (fun p hp => by cases hp) (fun β => by kernel_rfl) w
theorem rw_64919 (w : World) : Calls Try.prog 30 #[.int .i64 64919] w fun e w' => e = .returned (.int .i64 16) ∧ Gr w w' :=
  ev_path (E := envN) (E' := envN) rfl sumN_ok (fuel := 300) (args' := [.int .i64 64919]) [] [] (fun p hp => by cases hp) (fun β => by kernel_rfl) w
theorem rw_64920 (w : World) : Calls Try.prog 30 #[.int .i64 64920] w fun e w' => e = .returned (.int .i64 16) ∧ Gr w w' :=
  ev_path (E := envN) (E' := envN) rfl sumN_ok (fuel := 300) (args' := [.int .i64 64920]) [] [] (fun p hp => by cases hp) (fun β => by kernel_rfl) w
theorem rw_64921 (w : World) : Calls Try.prog 30 #[.int .i64 64921] w fun e w' => e = .returned (.int .i64 16) ∧ Gr w w' :=
  ev_path (E := envN) (E' := envN) rfl sumN_ok (fuel := 300) (args' := [.int .i64 64921]) [] [] (fun p hp => by cases hp) (fun β => by kernel_rfl) w
theorem rw_64911 (w : World) : Calls Try.prog 30 #[.int .i64 64911] w fun e w' => e = .returned (.int .i64 16) ∧ Gr w w' :=
  ev_path (E := envN) (E' := envN) rfl sumN_ok (fuel := 300) (args' := [.int .i64 64911]) [] [] (fun p hp => by cases hp) (fun β => by kernel_rfl) w
theorem rw_64912 (w : World) : Calls Try.prog 30 #[.int .i64 64912] w fun e w' => e = .returned (.int .i64 16) ∧ Gr w w' :=
  ev_path (E := envN) (E' := envN) rfl sumN_ok (fuel := 300) (args' := [.int .i64 64912]) [] [] (fun p hp => by cases hp) (fun β => by kernel_rfl) w
theorem rw_64914 (w : World) : Calls Try.prog 30 #[.int .i64 64914] w fun e w' => e = .returned (.int .i64 16) ∧ Gr w w' :=
  ev_path (E := envN) (E' := envN) rfl sumN_ok (fuel := 300) (args' := [.int .i64 64914]) [] [] (fun p hp => by cases hp) (fun β => by kernel_rfl) w
theorem rw_64915 (w : World) : Calls Try.prog 30 #[.int .i64 64915] w fun e w' => e = .returned (.int .i64 16) ∧ Gr w w' :=
  ev_path (E := envN) (E' := envN) rfl sumN_ok (fuel := 300) (args' := [.int .i64 64915]) [] [] (fun p hp => by cases hp) (fun β => by kernel_rfl) w
theorem rw_64923 (w : World) : Calls Try.prog 30 #[.int .i64 64923] w fun e w' => e = .returned (.int .i64 16) ∧ Gr w w' :=
  ev_path (E := envN) (E' := envN) rfl sumN_ok (fuel := 300) (args' := [.int .i64 64923]) [] [] (fun p hp => by cases hp) (fun β => by kernel_rfl) w
theorem rw_64917 (w : World) : Calls Try.prog 30 #[.int .i64 64917] w fun e w' => e = .returned (.int .i64 16) ∧ Gr w w' :=
  ev_path (E := envN) (E' := envN) rfl sumN_ok (fuel := 300) (args' := [.int .i64 64917]) [] [] (fun p hp => by cases hp) (fun β => by kernel_rfl) w
theorem rw_64928 (w : World) : Calls Try.prog 30 #[.int .i64 64928] w fun e w' => e = .returned (.int .i64 32) ∧ Gr w w' :=
  ev_path (E := envN) (E' := envN) rfl sumN_ok (fuel := 300) (args' := [.int .i64 64928]) [] [] (fun p hp => by cases hp) (fun β => by kernel_rfl) w
theorem rw_64929 (w : World) : Calls Try.prog 30 #[.int .i64 64929] w fun e w' => e = .returned (.int .i64 32) ∧ Gr w w' :=
  ev_path (E := envN) (E' := envN) rfl sumN_ok (fuel := 300) (args' := [.int .i64 64929]) [] [] (fun p hp => by cases hp) (fun β => by kernel_rfl) w
theorem rw_64939 (w : World) : Calls Try.prog 30 #[.int .i64 64939] w fun e w' => e = .returned (.int .i64 32) ∧ Gr w w' :=
  ev_path (E := envN) (E' := envN) rfl sumN_ok (fuel := 300) (args' := [.int .i64 64939]) [] [] (fun p hp => by cases hp) (fun β => by kernel_rfl) w
theorem rw_64940 (w : World) : Calls Try.prog 30 #[.int .i64 64940] w fun e w' => e = .returned (.int .i64 32) ∧ Gr w w' :=
  ev_path (E := envN) (E' := envN) rfl sumN_ok (fuel := 300) (args' := [.int .i64 64940]) [] [] (fun p hp => by cases hp) (fun β => by kernel_rfl) w
theorem rw_64941 (w : World) : Calls Try.prog 30 #[.int .i64 64941] w fun e w' => e = .returned (.int .i64 32) ∧ Gr w w' :=
  ev_path (E := envN) (E' := envN) rfl sumN_ok (fuel := 300) (args' := [.int .i64 64941]) [] [] (fun p hp => by cases hp) (fun β => by kernel_rfl) w
theorem rw_64942 (w : World) : Calls Try.prog 30 #[.int .i64 64942] w fun e w' => e = .returned (.int .i64 32) ∧ Gr w w' :=
  ev_path (E := envN) (E' := envN) rfl sumN_ok (fuel := 300) (args' := [.int .i64 64942]) [] [] (fun p hp => by cases hp) (fun β => by kernel_rfl) w
theorem rw_64945 (w : World) : Calls Try.prog 30 #[.int .i64 64945] w fun e w' => e = .returned (.int .i64 32) ∧ Gr w w' :=
  ev_path (E := envN) (E' := envN) rfl sumN_ok (fuel := 300) (args' := [.int .i64 64945]) [] [] (fun p hp => by cases hp) (fun β => by kernel_rfl) w
theorem rw_64950 (w : World) : Calls Try.prog 30 #[.int .i64 64950] w fun e w' => e = .returned (.int .i64 32) ∧ Gr w w' :=
  ev_path (E := envN) (E' := envN) rfl sumN_ok (fuel := 300) (args' := [.int .i64 64950]) [] [] (fun p hp => by cases hp) (fun β => by kernel_rfl) w
theorem rw_64951 (w : World) : Calls Try.prog 30 #[.int .i64 64951] w fun e w' => e = .returned (.int .i64 32) ∧ Gr w w' :=
  ev_path (E := envN) (E' := envN) rfl sumN_ok (fuel := 300) (args' := [.int .i64 64951]) [] [] (fun p hp => by cases hp) (fun β => by kernel_rfl) w
theorem rw_64952 (w : World) : Calls Try.prog 30 #[.int .i64 64952] w fun e w' => e = .returned (.int .i64 32) ∧ Gr w w' :=
  ev_path (E := envN) (E' := envN) rfl sumN_ok (fuel := 300) (args' := [.int .i64 64952]) [] [] (fun p hp => by cases hp) (fun β => by kernel_rfl) w
theorem rw_64953 (w : World) : Calls Try.prog 30 #[.int .i64 64953] w fun e w' => e = .returned (.int .i64 32) ∧ Gr w w' :=
  ev_path (E := envN) (E' := envN) rfl sumN_ok (fuel := 300) (args' := [.int .i64 64953]) [] [] (fun p hp => by cases hp) (fun β => by kernel_rfl) w
theorem rw_64949 (w : World) : Calls Try.prog 30 #[.int .i64 64949] w fun e w' => e = .returned (.int .i64 32) ∧ Gr w w' :=
  ev_path (E := envN) (E' := envN) rfl sumN_ok (fuel := 300) (args' := [.int .i64 64949]) [] [] (fun p hp => by cases hp) (fun β => by kernel_rfl) w
theorem rw_64960 (w : World) : Calls Try.prog 30 #[.int .i64 64960] w fun e w' => e = .returned (.int .i64 64) ∧ Gr w w' :=
  ev_path (E := envN) (E' := envN) rfl sumN_ok (fuel := 300) (args' := [.int .i64 64960]) [] [] (fun p hp => by cases hp) (fun β => by kernel_rfl) w
theorem rw_64961 (w : World) : Calls Try.prog 30 #[.int .i64 64961] w fun e w' => e = .returned (.int .i64 64) ∧ Gr w w' :=
  ev_path (E := envN) (E' := envN) rfl sumN_ok (fuel := 300) (args' := [.int .i64 64961]) [] [] (fun p hp => by cases hp) (fun β => by kernel_rfl) w
theorem rw_64971 (w : World) : Calls Try.prog 30 #[.int .i64 64971] w fun e w' => e = .returned (.int .i64 64) ∧ Gr w w' :=
  ev_path (E := envN) (E' := envN) rfl sumN_ok (fuel := 300) (args' := [.int .i64 64971]) [] [] (fun p hp => by cases hp) (fun β => by kernel_rfl) w
theorem rw_64972 (w : World) : Calls Try.prog 30 #[.int .i64 64972] w fun e w' => e = .returned (.int .i64 64) ∧ Gr w w' :=
  ev_path (E := envN) (E' := envN) rfl sumN_ok (fuel := 300) (args' := [.int .i64 64972]) [] [] (fun p hp => by cases hp) (fun β => by kernel_rfl) w
theorem rw_64973 (w : World) : Calls Try.prog 30 #[.int .i64 64973] w fun e w' => e = .returned (.int .i64 64) ∧ Gr w w' :=
  ev_path (E := envN) (E' := envN) rfl sumN_ok (fuel := 300) (args' := [.int .i64 64973]) [] [] (fun p hp => by cases hp) (fun β => by kernel_rfl) w
theorem rw_64974 (w : World) : Calls Try.prog 30 #[.int .i64 64974] w fun e w' => e = .returned (.int .i64 64) ∧ Gr w w' :=
  ev_path (E := envN) (E' := envN) rfl sumN_ok (fuel := 300) (args' := [.int .i64 64974]) [] [] (fun p hp => by cases hp) (fun β => by kernel_rfl) w
theorem rw_64977 (w : World) : Calls Try.prog 30 #[.int .i64 64977] w fun e w' => e = .returned (.int .i64 64) ∧ Gr w w' :=
  ev_path (E := envN) (E' := envN) rfl sumN_ok (fuel := 300) (args' := [.int .i64 64977]) [] [] (fun p hp => by cases hp) (fun β => by kernel_rfl) w
theorem rw_64981 (w : World) : Calls Try.prog 30 #[.int .i64 64981] w fun e w' => e = .returned (.int .i64 64) ∧ Gr w w' :=
  ev_path (E := envN) (E' := envN) rfl sumN_ok (fuel := 300) (args' := [.int .i64 64981]) [] [] (fun p hp => by cases hp) (fun β => by kernel_rfl) w
def opsA : List Int := [64864, 64865, 64875, 64876, 64877, 64878, 64881, 64886, 64887, 64888, 64889, 64879, 64880, 64882, 64883, 64891, 64866, 64896, 64897, 64907, 64908, 64909, 64910, 64913, 64918, 64919, 64920, 64921, 64911, 64912, 64914, 64915, 64923, 64917, 64928, 64929, 64939, 64940, 64941, 64942, 64945, 64950, 64951, 64952, 64953, 64949, 64960, 64961, 64971, 64972, 64973, 64974, 64977, 64981]
def rwD (op : Int) : List (Bool × Bool) := opsA.map fun c => (op == c, false)
theorem rwD_ok {op : Int} (h : op ∉ opsA) : ∀ p ∈ rwD op, p.1 = p.2 := by
  intro p hp
  obtain ⟨c, hc, rfl⟩ := List.mem_map.1 hp
  exact beq_eq_false_iff_ne.2 fun e => h (e ▸ hc)
--EVTS rwTs | fun (op : Int) (β : Nat → Fr) => (rwPath op 0 0 β, rwD op)
def rwTs : List Nat := [0, 0, 54, 0, 53, 0, 52, 0, 51, 0, 50, 0, 49, 0, 48, 0, 47, 0, 0, 0, 0, 0, 0, 0, 0, 0, 0, 0, 46, 0, 45, 0, 44, 0, 43, 0, 42, 0, 41, 0, 40, 0, 39, 0, 38, 0, 37, 0, 36, 0, 35, 0, 0, 0, 0, 0, 0, 0, 0, 0, 0, 34, 0, 33, 0, 32, 0, 31, 0, 30, 0, 29, 0, 28, 0, 27, 0, 26, 0, 25, 0, 24, 0, 23, 0, 22, 0, 21, 0, 20, 0, 19, 0, 18, 0, 0, 0, 0, 0, 0, 0, 0, 0, 17, 0, 16, 0, 15, 0, 14, 0, 13, 0, 12, 0, 11, 0, 10, 0, 9, 0, 8, 0, 7, 0, 6, 0, 5, 0, 4, 0, 3, 0, 2, 0, 1, 0, 0, 0, 0, 0, 0, 0]
theorem rw_none (op : Int) (h : op ∉ opsA) (w : World) : Calls Try.prog 30 #[.int .i64 op] w fun e w' => e = .returned (.int .i64 0) ∧ Gr w w' :=
  ev_path (E := envN) (E' := envN) rfl sumN_ok (fuel := 300) (args' := [.int .i64 0]) (rwD op) rwTs (rwD_ok h) (fun β => by kernel_rfl) w
theorem ops_in : (opsA.all fun op => inA op) = true := by decide +kernel
theorem ops_all : ((List.range 128).all fun k => !(inA (64864 + (k : Int))) || opsA.contains (64864 + (k : Int))) = true := by decide +kernel
theorem in_ops (op : Int) : op ∈ opsA ↔ inA op = true := by
  constructor
  · exact fun h => List.all_eq_true.1 ops_in op h
  · intro h
    have hr : 64864 ≤ op ∧ op ≤ 64991 := by unfold inA at h; simp only [Bool.and_eq_true, decide_eq_true_eq] at h; exact ⟨h.1.1, h.1.2⟩
    have h1 := List.all_eq_true.1 ops_all (op - 64864).toNat (List.mem_range.2 (by omega))
    rw [show (64864 : Int) + ((op - 64864).toNat : Int) = op by omega, h] at h1
    simpa using h1
theorem rwidth_any (op : Int) (w : World) : Calls Try.prog 30 #[.int .i64 op] w fun e w' => e = .returned (.int .i64 (aW op)) ∧ Gr w w' := by
  by_cases h : op ∈ opsA
  · have h2 := h
    simp only [opsA, List.mem_cons, List.not_mem_nil, or_false] at h2
    rcases h2 with rfl | rfl | rfl | rfl | rfl | rfl | rfl | rfl | rfl | rfl | rfl | rfl | rfl | rfl | rfl | rfl | rfl | rfl | rfl | rfl | rfl | rfl | rfl | rfl | rfl | rfl | rfl | rfl | rfl | rfl | rfl | rfl | rfl | rfl | rfl | rfl | rfl | rfl | rfl | rfl | rfl | rfl | rfl | rfl | rfl | rfl | rfl | rfl | rfl | rfl | rfl | rfl | rfl | rfl
    · rw [show aW 64864 = 8 by decide +kernel]; exact rw_64864 w
    · rw [show aW 64865 = 8 by decide +kernel]; exact rw_64865 w
    · rw [show aW 64875 = 8 by decide +kernel]; exact rw_64875 w
    · rw [show aW 64876 = 8 by decide +kernel]; exact rw_64876 w
    · rw [show aW 64877 = 8 by decide +kernel]; exact rw_64877 w
    · rw [show aW 64878 = 8 by decide +kernel]; exact rw_64878 w
    · rw [show aW 64881 = 8 by decide +kernel]; exact rw_64881 w
    · rw [show aW 64886 = 8 by decide +kernel]; exact rw_64886 w
    · rw [show aW 64887 = 8 by decide +kernel]; exact rw_64887 w
    · rw [show aW 64888 = 8 by decide +kernel]; exact rw_64888 w
    · rw [show aW 64889 = 8 by decide +kernel]; exact rw_64889 w
    · rw [show aW 64879 = 8 by decide +kernel]; exact rw_64879 w
    · rw [show aW 64880 = 8 by decide +kernel]; exact rw_64880 w
    · rw [show aW 64882 = 8 by decide +kernel]; exact rw_64882 w
    · rw [show aW 64883 = 8 by decide +kernel]; exact rw_64883 w
    · rw [show aW 64891 = 8 by decide +kernel]; exact rw_64891 w
    · rw [show aW 64866 = 8 by decide +kernel]; exact rw_64866 w
    · rw [show aW 64896 = 16 by decide +kernel]; exact rw_64896 w
    · rw [show aW 64897 = 16 by decide +kernel]; exact rw_64897 w
    · rw [show aW 64907 = 16 by decide +kernel]; exact rw_64907 w
    · rw [show aW 64908 = 16 by decide +kernel]; exact rw_64908 w
    · rw [show aW 64909 = 16 by decide +kernel]; exact rw_64909 w
    · rw [show aW 64910 = 16 by decide +kernel]; exact rw_64910 w
    · rw [show aW 64913 = 16 by decide +kernel]; exact rw_64913 w
    · rw [show aW 64918 = 16 by decide +kernel]; exact rw_64918 w
    · rw [show aW 64919 = 16 by decide +kernel]; exact rw_64919 w
    · rw [show aW 64920 = 16 by decide +kernel]; exact rw_64920 w
    · rw [show aW 64921 = 16 by decide +kernel]; exact rw_64921 w
    · rw [show aW 64911 = 16 by decide +kernel]; exact rw_64911 w
    · rw [show aW 64912 = 16 by decide +kernel]; exact rw_64912 w
    · rw [show aW 64914 = 16 by decide +kernel]; exact rw_64914 w
    · rw [show aW 64915 = 16 by decide +kernel]; exact rw_64915 w
    · rw [show aW 64923 = 16 by decide +kernel]; exact rw_64923 w
    · rw [show aW 64917 = 16 by decide +kernel]; exact rw_64917 w
    · rw [show aW 64928 = 32 by decide +kernel]; exact rw_64928 w
    · rw [show aW 64929 = 32 by decide +kernel]; exact rw_64929 w
    · rw [show aW 64939 = 32 by decide +kernel]; exact rw_64939 w
    · rw [show aW 64940 = 32 by decide +kernel]; exact rw_64940 w
    · rw [show aW 64941 = 32 by decide +kernel]; exact rw_64941 w
    · rw [show aW 64942 = 32 by decide +kernel]; exact rw_64942 w
    · rw [show aW 64945 = 32 by decide +kernel]; exact rw_64945 w
    · rw [show aW 64950 = 32 by decide +kernel]; exact rw_64950 w
    · rw [show aW 64951 = 32 by decide +kernel]; exact rw_64951 w
    · rw [show aW 64952 = 32 by decide +kernel]; exact rw_64952 w
    · rw [show aW 64953 = 32 by decide +kernel]; exact rw_64953 w
    · rw [show aW 64949 = 32 by decide +kernel]; exact rw_64949 w
    · rw [show aW 64960 = 64 by decide +kernel]; exact rw_64960 w
    · rw [show aW 64961 = 64 by decide +kernel]; exact rw_64961 w
    · rw [show aW 64971 = 64 by decide +kernel]; exact rw_64971 w
    · rw [show aW 64972 = 64 by decide +kernel]; exact rw_64972 w
    · rw [show aW 64973 = 64 by decide +kernel]; exact rw_64973 w
    · rw [show aW 64974 = 64 by decide +kernel]; exact rw_64974 w
    · rw [show aW 64977 = 64 by decide +kernel]; exact rw_64977 w
    · rw [show aW 64981 = 64 by decide +kernel]; exact rw_64981 w
  · have h0 : aW op = 0 := by
      unfold aW
      rw [if_neg (fun hh => h ((in_ops op).2 hh))]
    rw [h0]
    exact rw_none op h w
def rK (op : Int) : Int := if aW op = 0 then -1 else (op - 64768).tmod 32
end Ar
end Go.Proofs.Ytalnkkmbjaollaa
