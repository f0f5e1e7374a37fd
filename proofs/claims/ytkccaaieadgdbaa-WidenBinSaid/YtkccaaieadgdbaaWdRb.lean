/-
  The reference's Bin of layer 8 is widen.Bin, for all opcodes and vectors. Conditions: bytes, 64 bits.
-/
import Derived.Test.YtkccaaieadgdbaaWdRef
import Derived.Test.YtkccaaieadgdbaaWdNar
namespace Go.Proofs.Ytkccaaieadgdbaa
open Go.RowKit VecM Ev
namespace Wd
def rlo (w : Int) (sg : Bool) : Int := match sg with | true => if w = 8 then -128 else -32768 | false => 0
def rhi (w : Int) (sg : Bool) : Int := match sg with | true => if w = 8 then 127 else 32767 | false => if w = 8 then 255 else 65535
def rhV (w : Int) (sg : Bool) (n : Int) : Int := IntKind.u64.wrap (holdI n (rlo w sg) (rhi w sg))
noncomputable def rhPath (n t w : Int) (sg : Bool) (v : Int) (β : Nat → Fr) : Out := evPath (envR []) (envR []) 60 34 [.int .i64 n, .int .i64 w, .bool sg] [.int .i64 t, .int .i64 w, .bool sg] (.int .u64 (IntKind.u64.wrap v)) β
def rhD (n t lo hi : Int) : List (Bool × Bool) := [(decide (n < lo), decide (t < lo)), (decide (n > hi), decide (t > hi))]
theorem rhD_ok {n t lo hi : Int} (h1 : n < lo ↔ t < lo) (h2 : n > hi ↔ t > hi) : ∀ p ∈ rhD n t lo hi, p.1 = p.2 := by
  intro p hp
  unfold rhD at hp
  simp only [List.mem_cons, List.not_mem_nil, or_false] at hp
  rcases hp with rfl | rfl
  · exact decide_eq_decide.2 h1
  · exact decide_eq_decide.2 h2
--EVTS rh8tlTs | fun (n : Int) (β : Nat → Fr) => (rhPath n (-129) 8 true (-128) β, rhD n (-129) (-128) 127)
def rh8tlTs : List Nat := [0, 1, 0]
theorem rh8tl (n : Int) (h : n < -128) (w : World) : Calls Try.prog 34 #[.int .i64 n, .int .i64 8, .bool true] w fun e w' => e = .returned (.int .u64 (IntKind.u64.wrap (-128))) ∧ Gr w w' :=
  ev_path (E := envR []) (E' := envR []) rfl (sumR_ok _ (fun x hx => by cases hx)) (fuel := 60) (args' := [.int .i64 (-129), .int .i64 8, .bool true]) (rhD n (-129) (-128) 127) rh8tlTs (rhD_ok (by omega) (by omega)) (fun β => by kernel_rfl) w
--EVTS rh8tmTs | fun (n : Int) (β : Nat → Fr) => (rhPath n (-128) 8 true n β, rhD n (-128) (-128) 127)
def rh8tmTs : List Nat := [2, 1, 0]
theorem rh8tm (n : Int) (h : -128 ≤ n ∧ n ≤ 127) (w : World) : Calls Try.prog 34 #[.int .i64 n, .int .i64 8, .bool true] w fun e w' => e = .returned (.int .u64 (IntKind.u64.wrap n)) ∧ Gr w w' :=
  ev_path (E := envR []) (E' := envR []) rfl (sumR_ok _ (fun x hx => by cases hx)) (fuel := 60) (args' := [.int .i64 (-128), .int .i64 8, .bool true]) (rhD n (-128) (-128) 127) rh8tmTs (rhD_ok (by omega) (by omega)) (fun β => by kernel_rfl) w
--EVTS rh8thTs | fun (n : Int) (β : Nat → Fr) => (rhPath n (128) 8 true 127 β, rhD n (128) (-128) 127)
def rh8thTs : List Nat := [2, 1, 0]
theorem rh8th (n : Int) (h : 127 < n) (w : World) : Calls Try.prog 34 #[.int .i64 n, .int .i64 8, .bool true] w fun e w' => e = .returned (.int .u64 (IntKind.u64.wrap 127)) ∧ Gr w w' :=
  ev_path (E := envR []) (E' := envR []) rfl (sumR_ok _ (fun x hx => by cases hx)) (fuel := 60) (args' := [.int .i64 (128), .int .i64 8, .bool true]) (rhD n (128) (-128) 127) rh8thTs (rhD_ok (by omega) (by omega)) (fun β => by kernel_rfl) w
--EVTS rh8flTs | fun (n : Int) (β : Nat → Fr) => (rhPath n (-1) 8 false (0) β, rhD n (-1) (0) 255)
def rh8flTs : List Nat := [0, 1, 0]
theorem rh8fl (n : Int) (h : n < 0) (w : World) : Calls Try.prog 34 #[.int .i64 n, .int .i64 8, .bool false] w fun e w' => e = .returned (.int .u64 (IntKind.u64.wrap (0))) ∧ Gr w w' :=
  ev_path (E := envR []) (E' := envR []) rfl (sumR_ok _ (fun x hx => by cases hx)) (fuel := 60) (args' := [.int .i64 (-1), .int .i64 8, .bool false]) (rhD n (-1) (0) 255) rh8flTs (rhD_ok (by omega) (by omega)) (fun β => by kernel_rfl) w
--EVTS rh8fmTs | fun (n : Int) (β : Nat → Fr) => (rhPath n (0) 8 false n β, rhD n (0) (0) 255)
def rh8fmTs : List Nat := [2, 1, 0]
theorem rh8fm (n : Int) (h : 0 ≤ n ∧ n ≤ 255) (w : World) : Calls Try.prog 34 #[.int .i64 n, .int .i64 8, .bool false] w fun e w' => e = .returned (.int .u64 (IntKind.u64.wrap n)) ∧ Gr w w' :=
  ev_path (E := envR []) (E' := envR []) rfl (sumR_ok _ (fun x hx => by cases hx)) (fuel := 60) (args' := [.int .i64 (0), .int .i64 8, .bool false]) (rhD n (0) (0) 255) rh8fmTs (rhD_ok (by omega) (by omega)) (fun β => by kernel_rfl) w
--EVTS rh8fhTs | fun (n : Int) (β : Nat → Fr) => (rhPath n (256) 8 false 255 β, rhD n (256) (0) 255)
def rh8fhTs : List Nat := [2, 1, 0]
theorem rh8fh (n : Int) (h : 255 < n) (w : World) : Calls Try.prog 34 #[.int .i64 n, .int .i64 8, .bool false] w fun e w' => e = .returned (.int .u64 (IntKind.u64.wrap 255)) ∧ Gr w w' :=
  ev_path (E := envR []) (E' := envR []) rfl (sumR_ok _ (fun x hx => by cases hx)) (fuel := 60) (args' := [.int .i64 (256), .int .i64 8, .bool false]) (rhD n (256) (0) 255) rh8fhTs (rhD_ok (by omega) (by omega)) (fun β => by kernel_rfl) w
--EVTS rh16tlTs | fun (n : Int) (β : Nat → Fr) => (rhPath n (-32769) 16 true (-32768) β, rhD n (-32769) (-32768) 32767)
def rh16tlTs : List Nat := [0, 1, 0]
theorem rh16tl (n : Int) (h : n < -32768) (w : World) : Calls Try.prog 34 #[.int .i64 n, .int .i64 16, .bool true] w fun e w' => e = .returned (.int .u64 (IntKind.u64.wrap (-32768))) ∧ Gr w w' :=
  ev_path (E := envR []) (E' := envR []) rfl (sumR_ok _ (fun x hx => by cases hx)) (fuel := 60) (args' := [.int .i64 (-32769), .int .i64 16, .bool true]) (rhD n (-32769) (-32768) 32767) rh16tlTs (rhD_ok (by omega) (by omega)) (fun β => by kernel_rfl) w
--EVTS rh16tmTs | fun (n : Int) (β : Nat → Fr) => (rhPath n (-32768) 16 true n β, rhD n (-32768) (-32768) 32767)
def rh16tmTs : List Nat := [2, 1, 0]
theorem rh16tm (n : Int) (h : -32768 ≤ n ∧ n ≤ 32767) (w : World) : Calls Try.prog 34 #[.int .i64 n, .int .i64 16, .bool true] w fun e w' => e = .returned (.int .u64 (IntKind.u64.wrap n)) ∧ Gr w w' :=
  ev_path (E := envR []) (E' := envR []) rfl (sumR_ok _ (fun x hx => by cases hx)) (fuel := 60) (args' := [.int .i64 (-32768), .int .i64 16, .bool true]) (rhD n (-32768) (-32768) 32767) rh16tmTs (rhD_ok (by omega) (by omega)) (fun β => by kernel_rfl) w
--EVTS rh16thTs | fun (n : Int) (β : Nat → Fr) => (rhPath n (32768) 16 true 32767 β, rhD n (32768) (-32768) 32767)
def rh16thTs : List Nat := [2, 1, 0]
theorem rh16th (n : Int) (h : 32767 < n) (w : World) : Calls Try.prog 34 #[.int .i64 n, .int .i64 16, .bool true] w fun e w' => e = .returned (.int .u64 (IntKind.u64.wrap 32767)) ∧ Gr w w' :=
  ev_path (E := envR []) (E' := envR []) rfl (sumR_ok _ (fun x hx => by cases hx)) (fuel := 60) (args' := [.int .i64 (32768), .int .i64 16, .bool true]) (rhD n (32768) (-32768) 32767) rh16thTs (rhD_ok (by omega) (by omega)) (fun β => by kernel_rfl) w
--EVTS rh16flTs | fun (n : Int) (β : Nat → Fr) => (rhPath n (-1) 16 false (0) β, rhD n (-1) (0) 65535)
def rh16flTs : List Nat := [0, 1, 0]
theorem rh16fl (n : Int) (h : n < 0) (w : World) : Calls Try.prog 34 #[.int .i64 n, .int .i64 16, .bool false] w fun e w' => e = .returned (.int .u64 (IntKind.u64.wrap (0))) ∧ Gr w w' :=
  ev_path (E := envR []) (E' := envR []) rfl (sumR_ok _ (fun x hx => by cases hx)) (fuel := 60) (args' := [.int .i64 (-1), .int .i64 16, .bool false]) (rhD n (-1) (0) 65535) rh16flTs (rhD_ok (by omega) (by omega)) (fun β => by kernel_rfl) w
--EVTS rh16fmTs | fun (n : Int) (β : Nat → Fr) => (rhPath n (0) 16 false n β, rhD n (0) (0) 65535)
def rh16fmTs : List Nat := [2, 1, 0]
theorem rh16fm (n : Int) (h : 0 ≤ n ∧ n ≤ 65535) (w : World) : Calls Try.prog 34 #[.int .i64 n, .int .i64 16, .bool false] w fun e w' => e = .returned (.int .u64 (IntKind.u64.wrap n)) ∧ Gr w w' :=
  ev_path (E := envR []) (E' := envR []) rfl (sumR_ok _ (fun x hx => by cases hx)) (fuel := 60) (args' := [.int .i64 (0), .int .i64 16, .bool false]) (rhD n (0) (0) 65535) rh16fmTs (rhD_ok (by omega) (by omega)) (fun β => by kernel_rfl) w
--EVTS rh16fhTs | fun (n : Int) (β : Nat → Fr) => (rhPath n (65536) 16 false 65535 β, rhD n (65536) (0) 65535)
def rh16fhTs : List Nat := [2, 1, 0]
theorem rh16fh (n : Int) (h : 65535 < n) (w : World) : Calls Try.prog 34 #[.int .i64 n, .int .i64 16, .bool false] w fun e w' => e = .returned (.int .u64 (IntKind.u64.wrap 65535)) ∧ Gr w w' :=
  ev_path (E := envR []) (E' := envR []) rfl (sumR_ok _ (fun x hx => by cases hx)) (fuel := 60) (args' := [.int .i64 (65536), .int .i64 16, .bool false]) (rhD n (65536) (0) 65535) rh16fhTs (rhD_ok (by omega) (by omega)) (fun β => by kernel_rfl) w
theorem rhold_any (n w : Int) (sg : Bool) (hw : w = 8 ∨ w = 16) (wd : World) : Calls Try.prog 34 #[.int .i64 n, .int .i64 w, .bool sg] wd fun e w' => e = .returned (.int .u64 (rhV w sg n)) ∧ Gr wd w' := by
  unfold rhV
  rcases hw with rfl | rfl <;> cases sg
  · rw [show rlo 8 false = 0 from rfl, show rhi 8 false = 255 from rfl]
    unfold holdI
    by_cases h1 : n < 0
    · rw [if_pos h1]; exact rh8fl n h1 wd
    · by_cases h2 : 255 < n
      · rw [if_neg h1, if_pos h2]; exact rh8fh n h2 wd
      · rw [if_neg h1, if_neg h2]; exact rh8fm n ⟨by omega, by omega⟩ wd
  · rw [show rlo 8 true = -128 from rfl, show rhi 8 true = 127 from rfl]
    unfold holdI
    by_cases h1 : n < -128
    · rw [if_pos h1]; exact rh8tl n h1 wd
    · by_cases h2 : 127 < n
      · rw [if_neg h1, if_pos h2]; exact rh8th n h2 wd
      · rw [if_neg h1, if_neg h2]; exact rh8tm n ⟨by omega, by omega⟩ wd
  · rw [show rlo 16 false = 0 from rfl, show rhi 16 false = 65535 from rfl]
    unfold holdI
    by_cases h1 : n < 0
    · rw [if_pos h1]; exact rh16fl n h1 wd
    · by_cases h2 : 65535 < n
      · rw [if_neg h1, if_pos h2]; exact rh16fh n h2 wd
      · rw [if_neg h1, if_neg h2]; exact rh16fm n ⟨by omega, by omega⟩ wd
  · rw [show rlo 16 true = -32768 from rfl, show rhi 16 true = 32767 from rfl]
    unfold holdI
    by_cases h1 : n < -32768
    · rw [if_pos h1]; exact rh16tl n h1 wd
    · by_cases h2 : 32767 < n
      · rw [if_neg h1, if_pos h2]; exact rh16th n h2 wd
      · rw [if_neg h1, if_neg h2]; exact rh16tm n ⟨by omega, by omega⟩ wd
noncomputable def sumB (f : FuncId) (args : List Value) : Option (List (List Value) × (List (Nat → Int) → Value × List Bool)) :=
  match Nat.beq f 34 with
  | true => match args with
    | [.int .i64 n, .int .i64 w, .bool sg] => some ([], fun _ => (.int .u64 (rhV w sg n), [decide (w = 8 ∨ w = 16)]))
    | _ => none
  | false => match Nat.beq f 11 with
    | true => match args with
      | [.int .i64 op, .agg ⟨c⟩] => some ([c], fun fs => (.tuple #[.agg (bs (unV op (hd1 fs))), .int .i64 (unE op)], []))
      | _ => none
    | false => sumR f args
theorem sumB_ok' (P : Env) (hP : P.sum = sumB) (hK : ∀ x ∈ P.known, Byt x) : SumOk P := by
  intro f args cs mk h fs hcs hfs hp w
  rw [hP] at h
  unfold sumB at h
  split at h
  · rename_i hf
    obtain rfl := Nat.eq_of_beq_eq_true hf
    split at h
    · cases h
      have h1 := hp _ (List.mem_cons_self ..)
      simp only [decide_eq_true_eq] at h1
      exact rhold_any _ _ _ h1 w
    · cases h
  · split at h
    · rename_i hf
      obtain rfl := Nat.eq_of_beq_eq_true hf
      split at h
      · cases h
        obtain ⟨x, rfl, rfl⟩ := one_fs hcs
        exact run_any _ x (hK x (hfs x (List.mem_cons_self ..))) w
      · cases h
    · exact sumR_ok P.known hK f args cs mk h fs hcs hfs hp w
noncomputable def envB (K : List (Nat → Int)) : Env := { P := Try.prog, known := K, sum := sumB }
theorem sumB_ok (K : List (Nat → Int)) (hK : ∀ x ∈ K, Byt x) : SumOk (envB K) := sumB_ok' (envB K) rfl hK
/-! ### narrow, multiply -/
def rnF (w m n : Int) (sg : Bool) (a b : Nat → Int) : Nat → Int := fun k => rhV w sg (if (k : Int) < n then sgnI a m k else sgnI b m ((k : Int) - n))
def rnK (w : Int) (f : Nat → Int) (L : Nat) (a b : Nat → Int) : List (Nat → Int) := a :: b :: (fun _ => 0) :: chain (fun _ => 0) w f L
theorem rnK_byt (w : Int) (f : Nat → Int) (L : Nat) {a b : Nat → Int} (ha : Byt a) (hb : Byt b) : ∀ x ∈ rnK w f L a b, Byt x := by
  intro x hx
  rcases List.mem_cons.1 hx with rfl | hx
  · exact ha
  · exact chainK_byt hb _ _ _ x hx
def sPA : Nat → Int := fun i => ([200, 17, 3, 25, 128, 90, 77, 61, 14, 22, 65, 30, 9, 50, 101, 18] : List Int).getD i 0
def sPB : Nat → Int := fun i => ([33, 24, 129, 6, 71, 19, 2, 14, 213, 8, 27, 16, 95, 12, 231, 15] : List Int).getD i 0
noncomputable def rbPath (op : Int) (K K' : List (Nat → Int)) (a b a' b' : Nat → Int) (v : Value) (β : Nat → Fr) : Out :=
  evPath (envB K) (envB K') 60 13 [.int .i64 op, .agg (bs a), .agg (bs b)] [.int .i64 op, .agg (bs a'), .agg (bs b')] v β
def muF (e : Int) (v : Int) (a b : Nat → Int) : Nat → Int := fun i => IntKind.u64.wrap (getI (unV e a) v i * getI (unV e b) v i)
def muK (e v : Int) (L : Nat) (a b : Nat → Int) : List (Nat → Int) := unV e a :: unV e b :: rnK v (muF e v a b) L a b
theorem muK_byt (e v : Int) (L : Nat) {a b : Nat → Int} (ha : Byt a) (hb : Byt b) : ∀ x ∈ muK e v L a b, Byt x := by
  intro x hx
  rcases List.mem_cons.1 hx with rfl | hx
  · exact un_byt _ ha
  · rcases List.mem_cons.1 hx with rfl | hx
    · exact un_byt _ hb
    · exact rnK_byt _ _ _ ha hb x hx
--EVTS rb64869Ts | fun (a b : Nat → Int) (β : Nat → Fr) => (rbPath 64869 (rnK 8 (rnF 8 16 8 true a b) 16 a b) (rnK 8 (rnF 8 16 8 true sPA sPB) 16 sPA sPB) a b sPA sPB (.tuple #[.agg (bs (ofK (fun _ => 0) 8 (rnF 8 16 8 true a b) 16)), .int .i64 0]) β, rgD (rnF 8 16 8 true a b) 16)
def rb64869Ts : List Nat := [0, 32, 31, 0, 0, 0, 0, 0, 0, 30, 29, 0, 0, 0, 0, 0, 0, 28, 27, 0, 0, 0, 0, 0, 0, 26, 25, 0, 0, 0, 0, 0, 0, 24, 23, 0, 0, 0, 0, 0, 0, 22, 21, 0, 0, 0, 0, 0, 0, 20, 19, 0, 0, 0, 0, 0, 0, 18, 17, 0, 0, 0, 0, 0, 0, 16, 15, 0, 0, 0, 0, 0, 0, 14, 13, 0, 0, 0, 0, 0, 0, 12, 11, 0, 0, 0, 0, 0, 0, 10, 9, 0, 0, 0, 0, 0, 0, 8, 7, 0, 0, 0, 0, 0, 0, 6, 5, 0, 0, 0, 0, 0, 0, 4, 3, 0, 0, 0, 0, 0, 0, 2, 1, 0, 0, 0, 0, 0, 0, 0, 0, 0, 0, 0, 0, 0, 0, 0, 0, 0]
theorem rb64869 (a b : Nat → Int) (ha : Byt a) (hb : Byt b) (w : World) : Calls Try.prog 13 #[.int .i64 64869, .agg (bs a), .agg (bs b)] w fun e w' => e = .returned (.tuple #[.agg (bs (ofK (fun _ => 0) 8 (rnF 8 16 8 true a b) 16)), .int .i64 0]) ∧ Gr w w' :=
  ev_path (E := envB (rnK 8 (rnF 8 16 8 true a b) 16 a b)) (E' := envB (rnK 8 (rnF 8 16 8 true sPA sPB) 16 sPA sPB)) rfl (sumB_ok _ (rnK_byt _ _ _ ha hb)) (fuel := 60) (args' := [.int .i64 64869, .agg (bs sPA), .agg (bs sPB)]) (rgD (rnF 8 16 8 true a b) 16) rb64869Ts (rgD_ok fun _ => rfl) (fun β => by kernel_rfl) w
--EVTS rb64870Ts | fun (a b : Nat → Int) (β : Nat → Fr) => (rbPath 64870 (rnK 8 (rnF 8 16 8 false a b) 16 a b) (rnK 8 (rnF 8 16 8 false sPA sPB) 16 sPA sPB) a b sPA sPB (.tuple #[.agg (bs (ofK (fun _ => 0) 8 (rnF 8 16 8 false a b) 16)), .int .i64 0]) β, rgD (rnF 8 16 8 false a b) 16)
def rb64870Ts : List Nat := [0, 32, 31, 0, 0, 0, 0, 0, 0, 30, 29, 0, 0, 0, 0, 0, 0, 28, 27, 0, 0, 0, 0, 0, 0, 26, 25, 0, 0, 0, 0, 0, 0, 24, 23, 0, 0, 0, 0, 0, 0, 22, 21, 0, 0, 0, 0, 0, 0, 20, 19, 0, 0, 0, 0, 0, 0, 18, 17, 0, 0, 0, 0, 0, 0, 16, 15, 0, 0, 0, 0, 0, 0, 14, 13, 0, 0, 0, 0, 0, 0, 12, 11, 0, 0, 0, 0, 0, 0, 10, 9, 0, 0, 0, 0, 0, 0, 8, 7, 0, 0, 0, 0, 0, 0, 6, 5, 0, 0, 0, 0, 0, 0, 4, 3, 0, 0, 0, 0, 0, 0, 2, 1, 0, 0, 0, 0, 0, 0, 0, 0, 0, 0, 0, 0, 0, 0, 0, 0, 0]
theorem rb64870 (a b : Nat → Int) (ha : Byt a) (hb : Byt b) (w : World) : Calls Try.prog 13 #[.int .i64 64870, .agg (bs a), .agg (bs b)] w fun e w' => e = .returned (.tuple #[.agg (bs (ofK (fun _ => 0) 8 (rnF 8 16 8 false a b) 16)), .int .i64 0]) ∧ Gr w w' :=
  ev_path (E := envB (rnK 8 (rnF 8 16 8 false a b) 16 a b)) (E' := envB (rnK 8 (rnF 8 16 8 false sPA sPB) 16 sPA sPB)) rfl (sumB_ok _ (rnK_byt _ _ _ ha hb)) (fuel := 60) (args' := [.int .i64 64870, .agg (bs sPA), .agg (bs sPB)]) (rgD (rnF 8 16 8 false a b) 16) rb64870Ts (rgD_ok fun _ => rfl) (fun β => by kernel_rfl) w
--EVTS rb64901Ts | fun (a b : Nat → Int) (β : Nat → Fr) => (rbPath 64901 (rnK 16 (rnF 16 32 4 true a b) 8 a b) (rnK 16 (rnF 16 32 4 true sPA sPB) 8 sPA sPB) a b sPA sPB (.tuple #[.agg (bs (ofK (fun _ => 0) 16 (rnF 16 32 4 true a b) 8)), .int .i64 0]) β, rgD (rnF 16 32 4 true a b) 8)
def rb64901Ts : List Nat := [0, 16, 15, 0, 0, 0, 0, 0, 0, 14, 13, 0, 0, 0, 0, 0, 0, 12, 11, 0, 0, 0, 0, 0, 0, 10, 9, 0, 0, 0, 0, 0, 0, 8, 7, 0, 0, 0, 0, 0, 0, 6, 5, 0, 0, 0, 0, 0, 0, 4, 3, 0, 0, 0, 0, 0, 0, 2, 1, 0, 0, 0, 0, 0, 0, 0, 0, 0, 0, 0, 0, 0, 0, 0, 0, 0]
theorem rb64901 (a b : Nat → Int) (ha : Byt a) (hb : Byt b) (w : World) : Calls Try.prog 13 #[.int .i64 64901, .agg (bs a), .agg (bs b)] w fun e w' => e = .returned (.tuple #[.agg (bs (ofK (fun _ => 0) 16 (rnF 16 32 4 true a b) 8)), .int .i64 0]) ∧ Gr w w' :=
  ev_path (E := envB (rnK 16 (rnF 16 32 4 true a b) 8 a b)) (E' := envB (rnK 16 (rnF 16 32 4 true sPA sPB) 8 sPA sPB)) rfl (sumB_ok _ (rnK_byt _ _ _ ha hb)) (fuel := 60) (args' := [.int .i64 64901, .agg (bs sPA), .agg (bs sPB)]) (rgD (rnF 16 32 4 true a b) 8) rb64901Ts (rgD_ok fun _ => rfl) (fun β => by kernel_rfl) w
--EVTS rb64902Ts | fun (a b : Nat → Int) (β : Nat → Fr) => (rbPath 64902 (rnK 16 (rnF 16 32 4 false a b) 8 a b) (rnK 16 (rnF 16 32 4 false sPA sPB) 8 sPA sPB) a b sPA sPB (.tuple #[.agg (bs (ofK (fun _ => 0) 16 (rnF 16 32 4 false a b) 8)), .int .i64 0]) β, rgD (rnF 16 32 4 false a b) 8)
def rb64902Ts : List Nat := [0, 16, 15, 0, 0, 0, 0, 0, 0, 14, 13, 0, 0, 0, 0, 0, 0, 12, 11, 0, 0, 0, 0, 0, 0, 10, 9, 0, 0, 0, 0, 0, 0, 8, 7, 0, 0, 0, 0, 0, 0, 6, 5, 0, 0, 0, 0, 0, 0, 4, 3, 0, 0, 0, 0, 0, 0, 2, 1, 0, 0, 0, 0, 0, 0, 0, 0, 0, 0, 0, 0, 0, 0, 0, 0, 0]
theorem rb64902 (a b : Nat → Int) (ha : Byt a) (hb : Byt b) (w : World) : Calls Try.prog 13 #[.int .i64 64902, .agg (bs a), .agg (bs b)] w fun e w' => e = .returned (.tuple #[.agg (bs (ofK (fun _ => 0) 16 (rnF 16 32 4 false a b) 8)), .int .i64 0]) ∧ Gr w w' :=
  ev_path (E := envB (rnK 16 (rnF 16 32 4 false a b) 8 a b)) (E' := envB (rnK 16 (rnF 16 32 4 false sPA sPB) 8 sPA sPB)) rfl (sumB_ok _ (rnK_byt _ _ _ ha hb)) (fuel := 60) (args' := [.int .i64 64902, .agg (bs sPA), .agg (bs sPB)]) (rgD (rnF 16 32 4 false a b) 8) rb64902Ts (rgD_ok fun _ => rfl) (fun β => by kernel_rfl) w
--EVTS rb64924Ts | fun (a b : Nat → Int) (β : Nat → Fr) => (rbPath 64924 (muK 64903 16 8 a b) (muK 64903 16 8 sA sB) a b sA sB (.tuple #[.agg (bs (ofK (fun _ => 0) 16 (muF 64903 16 a b) 8)), .int .i64 0]) β, rgD (muF 64903 16 a b) 8)
def rb64924Ts : List Nat := [0, 16, 15, 0, 14, 13, 0, 12, 11, 0, 10, 9, 0, 8, 7, 0, 6, 5, 0, 4, 3, 0, 2, 1, 0, 0, 0, 0, 0, 0, 0, 0, 0, 0, 0, 0, 0, 0, 0, 0, 0, 0, 0, 0, 0]
theorem rb64924 (a b : Nat → Int) (ha : Byt a) (hb : Byt b) (w : World) : Calls Try.prog 13 #[.int .i64 64924, .agg (bs a), .agg (bs b)] w fun e w' => e = .returned (.tuple #[.agg (bs (ofK (fun _ => 0) 16 (muF 64903 16 a b) 8)), .int .i64 0]) ∧ Gr w w' :=
  ev_path (E := envB (muK 64903 16 8 a b)) (E' := envB (muK 64903 16 8 sA sB)) rfl (sumB_ok _ (muK_byt _ _ _ ha hb)) (fuel := 60) (args' := [.int .i64 64924, .agg (bs sA), .agg (bs sB)]) (rgD (muF 64903 16 a b) 8) rb64924Ts (rgD_ok fun _ => rfl) (fun β => by kernel_rfl) w
--EVTS rb64925Ts | fun (a b : Nat → Int) (β : Nat → Fr) => (rbPath 64925 (muK 64904 16 8 a b) (muK 64904 16 8 sA sB) a b sA sB (.tuple #[.agg (bs (ofK (fun _ => 0) 16 (muF 64904 16 a b) 8)), .int .i64 0]) β, rgD (muF 64904 16 a b) 8)
def rb64925Ts : List Nat := [0, 16, 15, 0, 14, 13, 0, 12, 11, 0, 10, 9, 0, 8, 7, 0, 6, 5, 0, 4, 3, 0, 2, 1, 0, 0, 0, 0, 0, 0, 0, 0, 0, 0, 0, 0, 0, 0, 0, 0, 0, 0, 0, 0, 0]
theorem rb64925 (a b : Nat → Int) (ha : Byt a) (hb : Byt b) (w : World) : Calls Try.prog 13 #[.int .i64 64925, .agg (bs a), .agg (bs b)] w fun e w' => e = .returned (.tuple #[.agg (bs (ofK (fun _ => 0) 16 (muF 64904 16 a b) 8)), .int .i64 0]) ∧ Gr w w' :=
  ev_path (E := envB (muK 64904 16 8 a b)) (E' := envB (muK 64904 16 8 sA sB)) rfl (sumB_ok _ (muK_byt _ _ _ ha hb)) (fuel := 60) (args' := [.int .i64 64925, .agg (bs sA), .agg (bs sB)]) (rgD (muF 64904 16 a b) 8) rb64925Ts (rgD_ok fun _ => rfl) (fun β => by kernel_rfl) w
--EVTS rb64926Ts | fun (a b : Nat → Int) (β : Nat → Fr) => (rbPath 64926 (muK 64905 16 8 a b) (muK 64905 16 8 sA sB) a b sA sB (.tuple #[.agg (bs (ofK (fun _ => 0) 16 (muF 64905 16 a b) 8)), .int .i64 0]) β, rgD (muF 64905 16 a b) 8)
def rb64926Ts : List Nat := [0, 16, 15, 0, 14, 13, 0, 12, 11, 0, 10, 9, 0, 8, 7, 0, 6, 5, 0, 4, 3, 0, 2, 1, 0, 0, 0, 0, 0, 0, 0, 0, 0, 0, 0, 0, 0, 0, 0, 0, 0, 0, 0, 0, 0]
theorem rb64926 (a b : Nat → Int) (ha : Byt a) (hb : Byt b) (w : World) : Calls Try.prog 13 #[.int .i64 64926, .agg (bs a), .agg (bs b)] w fun e w' => e = .returned (.tuple #[.agg (bs (ofK (fun _ => 0) 16 (muF 64905 16 a b) 8)), .int .i64 0]) ∧ Gr w w' :=
  ev_path (E := envB (muK 64905 16 8 a b)) (E' := envB (muK 64905 16 8 sA sB)) rfl (sumB_ok _ (muK_byt _ _ _ ha hb)) (fuel := 60) (args' := [.int .i64 64926, .agg (bs sA), .agg (bs sB)]) (rgD (muF 64905 16 a b) 8) rb64926Ts (rgD_ok fun _ => rfl) (fun β => by kernel_rfl) w
--EVTS rb64927Ts | fun (a b : Nat → Int) (β : Nat → Fr) => (rbPath 64927 (muK 64906 16 8 a b) (muK 64906 16 8 sA sB) a b sA sB (.tuple #[.agg (bs (ofK (fun _ => 0) 16 (muF 64906 16 a b) 8)), .int .i64 0]) β, rgD (muF 64906 16 a b) 8)
def rb64927Ts : List Nat := [0, 16, 15, 0, 14, 13, 0, 12, 11, 0, 10, 9, 0, 8, 7, 0, 6, 5, 0, 4, 3, 0, 2, 1, 0, 0, 0, 0, 0, 0, 0, 0, 0, 0, 0, 0, 0, 0, 0, 0, 0, 0, 0, 0, 0]
theorem rb64927 (a b : Nat → Int) (ha : Byt a) (hb : Byt b) (w : World) : Calls Try.prog 13 #[.int .i64 64927, .agg (bs a), .agg (bs b)] w fun e w' => e = .returned (.tuple #[.agg (bs (ofK (fun _ => 0) 16 (muF 64906 16 a b) 8)), .int .i64 0]) ∧ Gr w w' :=
  ev_path (E := envB (muK 64906 16 8 a b)) (E' := envB (muK 64906 16 8 sA sB)) rfl (sumB_ok _ (muK_byt _ _ _ ha hb)) (fuel := 60) (args' := [.int .i64 64927, .agg (bs sA), .agg (bs sB)]) (rgD (muF 64906 16 a b) 8) rb64927Ts (rgD_ok fun _ => rfl) (fun β => by kernel_rfl) w
--EVTS rb64956Ts | fun (a b : Nat → Int) (β : Nat → Fr) => (rbPath 64956 (muK 64935 32 4 a b) (muK 64935 32 4 sA sB) a b sA sB (.tuple #[.agg (bs (ofK (fun _ => 0) 32 (muF 64935 32 a b) 4)), .int .i64 0]) β, rgD (muF 64935 32 a b) 4)
def rb64956Ts : List Nat := [0, 8, 7, 0, 6, 5, 0, 4, 3, 0, 2, 1, 0, 0, 0, 0, 0, 0, 0, 0, 0, 0, 0, 0, 0, 0, 0, 0, 0, 0, 0, 0, 0, 0, 0, 0, 0, 0, 0, 0, 0]
theorem rb64956 (a b : Nat → Int) (ha : Byt a) (hb : Byt b) (w : World) : Calls Try.prog 13 #[.int .i64 64956, .agg (bs a), .agg (bs b)] w fun e w' => e = .returned (.tuple #[.agg (bs (ofK (fun _ => 0) 32 (muF 64935 32 a b) 4)), .int .i64 0]) ∧ Gr w w' :=
  ev_path (E := envB (muK 64935 32 4 a b)) (E' := envB (muK 64935 32 4 sA sB)) rfl (sumB_ok _ (muK_byt _ _ _ ha hb)) (fuel := 60) (args' := [.int .i64 64956, .agg (bs sA), .agg (bs sB)]) (rgD (muF 64935 32 a b) 4) rb64956Ts (rgD_ok fun _ => rfl) (fun β => by kernel_rfl) w
--EVTS rb64957Ts | fun (a b : Nat → Int) (β : Nat → Fr) => (rbPath 64957 (muK 64936 32 4 a b) (muK 64936 32 4 sA sB) a b sA sB (.tuple #[.agg (bs (ofK (fun _ => 0) 32 (muF 64936 32 a b) 4)), .int .i64 0]) β, rgD (muF 64936 32 a b) 4)
def rb64957Ts : List Nat := [0, 8, 7, 0, 6, 5, 0, 4, 3, 0, 2, 1, 0, 0, 0, 0, 0, 0, 0, 0, 0, 0, 0, 0, 0, 0, 0, 0, 0, 0, 0, 0, 0, 0, 0, 0, 0, 0, 0, 0, 0]
theorem rb64957 (a b : Nat → Int) (ha : Byt a) (hb : Byt b) (w : World) : Calls Try.prog 13 #[.int .i64 64957, .agg (bs a), .agg (bs b)] w fun e w' => e = .returned (.tuple #[.agg (bs (ofK (fun _ => 0) 32 (muF 64936 32 a b) 4)), .int .i64 0]) ∧ Gr w w' :=
  ev_path (E := envB (muK 64936 32 4 a b)) (E' := envB (muK 64936 32 4 sA sB)) rfl (sumB_ok _ (muK_byt _ _ _ ha hb)) (fuel := 60) (args' := [.int .i64 64957, .agg (bs sA), .agg (bs sB)]) (rgD (muF 64936 32 a b) 4) rb64957Ts (rgD_ok fun _ => rfl) (fun β => by kernel_rfl) w
--EVTS rb64958Ts | fun (a b : Nat → Int) (β : Nat → Fr) => (rbPath 64958 (muK 64937 32 4 a b) (muK 64937 32 4 sA sB) a b sA sB (.tuple #[.agg (bs (ofK (fun _ => 0) 32 (muF 64937 32 a b) 4)), .int .i64 0]) β, rgD (muF 64937 32 a b) 4)
def rb64958Ts : List Nat := [0, 8, 7, 0, 6, 5, 0, 4, 3, 0, 2, 1, 0, 0, 0, 0, 0, 0, 0, 0, 0, 0, 0, 0, 0, 0, 0, 0, 0, 0, 0, 0, 0, 0, 0, 0, 0, 0, 0, 0, 0]
theorem rb64958 (a b : Nat → Int) (ha : Byt a) (hb : Byt b) (w : World) : Calls Try.prog 13 #[.int .i64 64958, .agg (bs a), .agg (bs b)] w fun e w' => e = .returned (.tuple #[.agg (bs (ofK (fun _ => 0) 32 (muF 64937 32 a b) 4)), .int .i64 0]) ∧ Gr w w' :=
  ev_path (E := envB (muK 64937 32 4 a b)) (E' := envB (muK 64937 32 4 sA sB)) rfl (sumB_ok _ (muK_byt _ _ _ ha hb)) (fuel := 60) (args' := [.int .i64 64958, .agg (bs sA), .agg (bs sB)]) (rgD (muF 64937 32 a b) 4) rb64958Ts (rgD_ok fun _ => rfl) (fun β => by kernel_rfl) w
--EVTS rb64959Ts | fun (a b : Nat → Int) (β : Nat → Fr) => (rbPath 64959 (muK 64938 32 4 a b) (muK 64938 32 4 sA sB) a b sA sB (.tuple #[.agg (bs (ofK (fun _ => 0) 32 (muF 64938 32 a b) 4)), .int .i64 0]) β, rgD (muF 64938 32 a b) 4)
def rb64959Ts : List Nat := [0, 8, 7, 0, 6, 5, 0, 4, 3, 0, 2, 1, 0, 0, 0, 0, 0, 0, 0, 0, 0, 0, 0, 0, 0, 0, 0, 0, 0, 0, 0, 0, 0, 0, 0, 0, 0, 0, 0, 0, 0]
theorem rb64959 (a b : Nat → Int) (ha : Byt a) (hb : Byt b) (w : World) : Calls Try.prog 13 #[.int .i64 64959, .agg (bs a), .agg (bs b)] w fun e w' => e = .returned (.tuple #[.agg (bs (ofK (fun _ => 0) 32 (muF 64938 32 a b) 4)), .int .i64 0]) ∧ Gr w w' :=
  ev_path (E := envB (muK 64938 32 4 a b)) (E' := envB (muK 64938 32 4 sA sB)) rfl (sumB_ok _ (muK_byt _ _ _ ha hb)) (fuel := 60) (args' := [.int .i64 64959, .agg (bs sA), .agg (bs sB)]) (rgD (muF 64938 32 a b) 4) rb64959Ts (rgD_ok fun _ => rfl) (fun β => by kernel_rfl) w
--EVTS rb64988Ts | fun (a b : Nat → Int) (β : Nat → Fr) => (rbPath 64988 (muK 64967 64 2 a b) (muK 64967 64 2 sA sB) a b sA sB (.tuple #[.agg (bs (ofK (fun _ => 0) 64 (muF 64967 64 a b) 2)), .int .i64 0]) β, rgD (muF 64967 64 a b) 2)
def rb64988Ts : List Nat := [0, 4, 3, 0, 2, 1, 0, 0, 0, 0, 0, 0, 0, 0, 0, 0, 0, 0, 0, 0, 0, 0, 0, 0, 0, 0, 0, 0, 0, 0, 0, 0, 0, 0, 0, 0, 0, 0, 0, 0, 0, 0, 0]
theorem rb64988 (a b : Nat → Int) (ha : Byt a) (hb : Byt b) (w : World) : Calls Try.prog 13 #[.int .i64 64988, .agg (bs a), .agg (bs b)] w fun e w' => e = .returned (.tuple #[.agg (bs (ofK (fun _ => 0) 64 (muF 64967 64 a b) 2)), .int .i64 0]) ∧ Gr w w' :=
  ev_path (E := envB (muK 64967 64 2 a b)) (E' := envB (muK 64967 64 2 sA sB)) rfl (sumB_ok _ (muK_byt _ _ _ ha hb)) (fuel := 60) (args' := [.int .i64 64988, .agg (bs sA), .agg (bs sB)]) (rgD (muF 64967 64 a b) 2) rb64988Ts (rgD_ok fun _ => rfl) (fun β => by kernel_rfl) w
--EVTS rb64989Ts | fun (a b : Nat → Int) (β : Nat → Fr) => (rbPath 64989 (muK 64968 64 2 a b) (muK 64968 64 2 sA sB) a b sA sB (.tuple #[.agg (bs (ofK (fun _ => 0) 64 (muF 64968 64 a b) 2)), .int .i64 0]) β, rgD (muF 64968 64 a b) 2)
def rb64989Ts : List Nat := [0, 4, 3, 0, 2, 1, 0, 0, 0, 0, 0, 0, 0, 0, 0, 0, 0, 0, 0, 0, 0, 0, 0, 0, 0, 0, 0, 0, 0, 0, 0, 0, 0, 0, 0, 0, 0, 0, 0, 0, 0, 0, 0]
theorem rb64989 (a b : Nat → Int) (ha : Byt a) (hb : Byt b) (w : World) : Calls Try.prog 13 #[.int .i64 64989, .agg (bs a), .agg (bs b)] w fun e w' => e = .returned (.tuple #[.agg (bs (ofK (fun _ => 0) 64 (muF 64968 64 a b) 2)), .int .i64 0]) ∧ Gr w w' :=
  ev_path (E := envB (muK 64968 64 2 a b)) (E' := envB (muK 64968 64 2 sA sB)) rfl (sumB_ok _ (muK_byt _ _ _ ha hb)) (fuel := 60) (args' := [.int .i64 64989, .agg (bs sA), .agg (bs sB)]) (rgD (muF 64968 64 a b) 2) rb64989Ts (rgD_ok fun _ => rfl) (fun β => by kernel_rfl) w
--EVTS rb64990Ts | fun (a b : Nat → Int) (β : Nat → Fr) => (rbPath 64990 (muK 64969 64 2 a b) (muK 64969 64 2 sA sB) a b sA sB (.tuple #[.agg (bs (ofK (fun _ => 0) 64 (muF 64969 64 a b) 2)), .int .i64 0]) β, rgD (muF 64969 64 a b) 2)
def rb64990Ts : List Nat := [0, 4, 3, 0, 2, 1, 0, 0, 0, 0, 0, 0, 0, 0, 0, 0, 0, 0, 0, 0, 0, 0, 0, 0, 0, 0, 0, 0, 0, 0, 0, 0, 0, 0, 0, 0, 0, 0, 0, 0, 0, 0, 0]
theorem rb64990 (a b : Nat → Int) (ha : Byt a) (hb : Byt b) (w : World) : Calls Try.prog 13 #[.int .i64 64990, .agg (bs a), .agg (bs b)] w fun e w' => e = .returned (.tuple #[.agg (bs (ofK (fun _ => 0) 64 (muF 64969 64 a b) 2)), .int .i64 0]) ∧ Gr w w' :=
  ev_path (E := envB (muK 64969 64 2 a b)) (E' := envB (muK 64969 64 2 sA sB)) rfl (sumB_ok _ (muK_byt _ _ _ ha hb)) (fuel := 60) (args' := [.int .i64 64990, .agg (bs sA), .agg (bs sB)]) (rgD (muF 64969 64 a b) 2) rb64990Ts (rgD_ok fun _ => rfl) (fun β => by kernel_rfl) w
--EVTS rb64991Ts | fun (a b : Nat → Int) (β : Nat → Fr) => (rbPath 64991 (muK 64970 64 2 a b) (muK 64970 64 2 sA sB) a b sA sB (.tuple #[.agg (bs (ofK (fun _ => 0) 64 (muF 64970 64 a b) 2)), .int .i64 0]) β, rgD (muF 64970 64 a b) 2)
def rb64991Ts : List Nat := [0, 4, 3, 0, 2, 1, 0, 0, 0, 0, 0, 0, 0, 0, 0, 0, 0, 0, 0, 0, 0, 0, 0, 0, 0, 0, 0, 0, 0, 0, 0, 0, 0, 0, 0, 0, 0, 0, 0, 0, 0, 0, 0]
theorem rb64991 (a b : Nat → Int) (ha : Byt a) (hb : Byt b) (w : World) : Calls Try.prog 13 #[.int .i64 64991, .agg (bs a), .agg (bs b)] w fun e w' => e = .returned (.tuple #[.agg (bs (ofK (fun _ => 0) 64 (muF 64970 64 a b) 2)), .int .i64 0]) ∧ Gr w w' :=
  ev_path (E := envB (muK 64970 64 2 a b)) (E' := envB (muK 64970 64 2 sA sB)) rfl (sumB_ok _ (muK_byt _ _ _ ha hb)) (fuel := 60) (args' := [.int .i64 64991, .agg (bs sA), .agg (bs sB)]) (rgD (muF 64970 64 a b) 2) rb64991Ts (rgD_ok fun _ => rfl) (fun β => by kernel_rfl) w
/-! ### the dot product -/
def rdX (a b : Nat → Int) (d : Nat → Int) (k : Nat) : Int := IntKind.u64.wrap (getI d 32 ((k / 2 : Nat) : Int) + IntKind.u64.wrap (IntKind.i64.wrap (sgnI a 16 k * sgnI b 16 k)))
def rdV (a b : Nat → Int) : Nat → (Nat → Int)
  | 0 => fun _ => 0
  | k + 1 => setI (rdV a b k) 32 ((k / 2 : Nat) : Int) (rdX a b (rdV a b k) k)
def rdK (a b : Nat → Int) : List (Nat → Int) := a :: b :: (List.range 9).map fun (k : Nat) => rdV a b k
theorem rdV_byt (a b : Nat → Int) : ∀ k, Byt (rdV a b k)
  | 0 => byt0
  | k + 1 => setI_byt (rdV_byt a b k) _ _ _
theorem rdK_byt {a b : Nat → Int} (ha : Byt a) (hb : Byt b) : ∀ x ∈ rdK a b, Byt x := by
  intro x hx
  rcases List.mem_cons.1 hx with rfl | hx
  · exact ha
  · rcases List.mem_cons.1 hx with rfl | hx
    · exact hb
    · obtain ⟨k, _, rfl⟩ := List.mem_map.1 hx
      exact rdV_byt _ _ _
--EVTS rb64954Ts | fun (a b : Nat → Int) (β : Nat → Fr) => (rbPath 64954 (rdK a b) (rdK sA sB) a b sA sB (.tuple #[.agg (bs (rdV a b 8)), .int .i64 0]) β, rgD (fun k => rdX a b (rdV a b k) k) 8)
def rb64954Ts : List Nat := [0, 16, 15, 0, 14, 13, 0, 12, 11, 0, 10, 9, 0, 8, 7, 0, 6, 5, 0, 4, 3, 0, 2, 1, 0, 0, 0, 0, 0, 0, 0, 0, 0, 0, 0, 0, 0]
theorem rb64954 (a b : Nat → Int) (ha : Byt a) (hb : Byt b) (w : World) : Calls Try.prog 13 #[.int .i64 64954, .agg (bs a), .agg (bs b)] w fun e w' => e = .returned (.tuple #[.agg (bs (rdV a b 8)), .int .i64 0]) ∧ Gr w w' :=
  ev_path (E := envB (rdK a b)) (E' := envB (rdK sA sB)) rfl (sumB_ok _ (rdK_byt ha hb)) (fuel := 60) (args' := [.int .i64 64954, .agg (bs sA), .agg (bs sB)]) (rgD (fun k => rdX a b (rdV a b k) k) 8) rb64954Ts (rgD_ok fun _ => rfl) (fun β => by kernel_rfl) w
/-! ### the rounded product: a lane's round -/
noncomputable def qBlk : Code := ((Try.prog.funcs[13]?.bind (·.body)).bind (blkAt 3)).getD .skip
def qHav : List Nat := [15, 16] ++ (List.range 24).map (· + 88)
def qNeed (i : Int) (ba bb bo : Nat) : List (Nat × Value) := [(4, pt ba), (5, pt bb), (9, pt bo), (14, .int .i64 i)]
def roF (a b : Nat → Int) : Nat → Int := fun i => IntKind.u64.wrap (q15 (sgnI a 16 i * sgnI b 16 i))
def roK (a b : Nat → Int) (k : Nat) : Nat → Int := ofK (fun _ => 0) 16 (roF a b) k
def qP (a b : Nat → Int) (n : Nat) : Int := IntKind.i64.wrap (IntKind.i64.wrap (sgnI a 16 n * sgnI b 16 n) + 16384)
def qQ (c : Bool) (p : Int) : Int := match c with | true => IntKind.i64.wrap (IntKind.i64.wrap (Int.tdiv p 32768) - 1) | false => IntKind.i64.wrap (Int.tdiv p 32768)
def qOut (a b : Nat → Int) (n : Nat) (c : Bool) : Nat → Int := setI (roK a b n) 16 n (rhV 16 true (qQ c (qP a b n)))
noncomputable def qPath (r6 : Rw) (ba bb bo : Nat) (a b : Nat → Int) (g : Nat → Value) (n : Nat) (c : Bool) (a' b' : Nat → Int) (β : Nat → Fr) : Out :=
  evCode (envB [a, b, roK a b n]) (envB [a', b', fun _ => 0]) 40 qBlk (valsOf (qNeed n ba bb bo) g 200) (valsOf (qNeed 0 1001 1002 1003) (fun _ => undef) 200)
    [vrow bo (roK a b n), r6, vrow bb b, vrow ba a] [vrow 1003 fun _ => 0, vrow 1004 fun _ => 1, vrow 1002 b', vrow 1001 a'] .normal (keepOf (qNeed n ba bb bo) g 200 qHav) [vrow bo (qOut a b n c), r6, vrow bb b, vrow ba a] β
def qX : Nat → Int := setI (setI (fun _ => 0) 8 15 1) 16 0 1
def qA0 : Nat → Int := setI (setI (fun _ => 0) 8 15 2) 16 0 (65536 - 20000)
def qX1 : Nat → Int := setI (setI (fun _ => 0) 8 15 1) 16 0 3
def qA1 : Nat → Int := setI (setI (fun _ => 0) 8 15 2) 16 0 (65536 - 16384)
def qA2 : Nat → Int := setI (setI (fun _ => 0) 8 15 2) 16 0 5
def qD (a b : Nat → Int) (n : Nat) (c neg rem : Bool) : List (Bool × Bool) :=
  [(decide (qP a b n < 0), neg), (Int.tmod (qP a b n) 32768 != 0, rem), (decide (0 ≤ rhV 16 true (qQ c (qP a b n))), true), (decide (rhV 16 true (qQ c (qP a b n)) < 18446744073709551616), true)]
--EVTS q0Ts | fun (r6 : Rw) (ba bb bo : Nat) (a b : Nat → Int) (g : Nat → Value) (n : Nat) (β : Nat → Fr) => (qPath r6 ba bb bo a b g n true qX qA0 β, qD a b n true true true)
def q0Ts : List Nat := [4, 3, 0, 2, 1, 1, 1, 1]
--EVTS q1Ts | fun (r6 : Rw) (ba bb bo : Nat) (a b : Nat → Int) (g : Nat → Value) (n : Nat) (β : Nat → Fr) => (qPath r6 ba bb bo a b g n false qX1 qA1 β, qD a b n false true false)
def q1Ts : List Nat := [4, 3, 0, 2, 1, 1, 1, 1]
--EVTS q2Ts | fun (r6 : Rw) (ba bb bo : Nat) (a b : Nat → Int) (g : Nat → Value) (n : Nat) (β : Nat → Fr) => (qPath r6 ba bb bo a b g n false qX qA2 β, qD a b n false false true)
def q2Ts : List Nat := [4, 3, 0, 0, 1, 1, 1, 1]
end Wd
end Go.Proofs.Ytkccaaieadgdbaa
