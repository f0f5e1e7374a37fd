/-
 Of layer 9: VectorParts, by which of the layers' calls answers. Conditions: the library's variable reads as some number; bytes; what vector.Do answers. (gen_vcpar.py)
-/
import Derived.Test.YtjoalcaooccbiaaVcPmM
import Derived.Test.YtjoalcaooccbiaaVcPc1M
import Derived.Test.YtjoalcaooccbiaaVcPc2M
import Derived.Test.YtjoalcaooccbiaaVcPc3M
import Derived.Test.YtjoalcaooccbiaaVcPc4M
namespace Go.Proofs.Ytjoalcaooccbiaa
open Go.RowKit VecM Ev
namespace Vc
def testsP : Pa → List Bool
 | .aun => [true, false, false, false, false, false, false, false, false, false]
 | .wun => [false, true, false, false, false, false, false, false, false, false]
 | .abin => [false, false, true, false, false, false, false, false, false, false]
 | .wbin => [false, false, false, true, false, false, false, false, false, false]
 | .cmp => [false, false, false, false, true, false, false, false, false, false]
 | .shift => [false, false, false, false, false, true, false, false, false, false]
 | .spi => [false, false, false, false, false, false, true, false, false, false]
 | .spl => [false, false, false, false, false, false, true, false, false, false]
 | .rei => [false, false, false, false, false, false, false, true, false, false]
 | .rel => [false, false, false, false, false, false, false, true, false, false]
 | .exi => [false, false, false, false, false, false, false, false, true, false]
 | .exl => [false, false, false, false, false, false, false, false, true, false]
 | .test => [false, false, false, false, false, false, false, false, false, true]
 | _ => [false, false, false, false, false, false, false, false, false, false]
def bitsP (p : Pa) (op : Int) : Bool := match p with
 | .bits77 => decide (((1 : Nat) : Int) = bitN op) && (bitN op != 0) && bitsNo op 2
 | .bits78 => decide (((2 : Nat) : Int) = bitN op) && (bitN op != 0) && bitsNo op 1
 | .bits79 => decide (((2 : Nat) : Int) = bitN op) && (bitN op != 0) && bitsNo op 1
 | .bits80 => decide (((2 : Nat) : Int) = bitN op) && (bitN op != 0) && bitsNo op 1
 | .bits81 => decide (((2 : Nat) : Int) = bitN op) && (bitN op != 0) && bitsNo op 1
 | _ => bitsNo op 1 && bitsNo op 2
def widP (p : Pa) (op : Int) : Bool := match p with
 | .exi => Mv.exW op == 8 || Mv.exW op == 16 || Mv.exW op == 32
 | .rei => Mv.reW op == 8 || Mv.reW op == 16 || Mv.reW op == 32
 | .spi => Mv.spW op == 8 || Mv.spW op == 16 || Mv.spW op == 32
 | _ => true
theorem parts_all : ∀ k : Fin 256, pTests (64768 + (k.val : Int)) = testsP (paOf k.val) ∧ bitsP (paOf k.val) (64768 + (k.val : Int)) = true ∧ widP (paOf k.val) (64768 + (k.val : Int)) = true ∧ inI (64768 + (k.val : Int)) = true := by decide +kernel
theorem bF {x y : Bool} (h : (x && y) = true) : ∀ p ∈ [(x, true), (y, true)], p.1 = p.2 := by
 rw [Bool.and_eq_true] at h
 exact cons_d h.1 (cons_d h.2 nil_d)
theorem bF3 {x y z : Bool} (h : (x && y && z) = true) : ∀ p ∈ [(x, true), (y, true), (z, true)], p.1 = p.2 := by
 rw [Bool.and_eq_true, Bool.and_eq_true] at h
 exact cons_d h.1.1 (cons_d h.1.2 (cons_d h.2 nil_d))
theorem or3 {x a b c : Int} (h : (x == a || x == b || x == c) = true) : x = a ∨ x = b ∨ x = c := by simpa [or_assoc] using h
theorem no2_of {m : Int} {t : Gt} {op : Int} {need : Nat} {Y : (Nat → Int) → List Int} {ok : Bool} (h : DoIs m t op 1 0 0 need Y ok) (hn : need ≠ 2) : DoNo2 m t op := fun B lv hp ln lc cap w hS => h.1 B lv hp ln lc 2 cap (Ne.symm hn) w hS
theorem no2_no {m : Int} {t : Gt} {op : Int} (h : DoNo m t op) : DoNo2 m t op := fun B lv hp ln lc cap w hS => h 1 B 0 0 lv hp ln lc 2 cap w hS
theorem ok_all0' : ∀ k : Fin 256, okP (paOf k.val) (64768 + (k.val : Int)) 0 0 0 = true := by decide +kernel
theorem parts_true (m : Int) (t : Gt) (z : Int) (a b : Nat → Int) (ha : Byt a) (hb : Byt b) (za : ∀ j, 16 ≤ j → a j = 0) (zb : ∀ j, 16 ≤ j → b j = 0) (hs : okS b = true) (w : World) (hS : SG w [gRow m t] w) :
  Calls Try.prog 4 #[.int .i64 z, .agg (bs a), .agg (bs b)] w fun e w' => e = .returned (.bool true) ∧ Gr w w' := by
 obtain ⟨k, hk, hop⟩ := opOf_ex z
 have C := cl_all k hk
 obtain ⟨hv, hbt, hwd, hi⟩ := parts_all ⟨k, hk⟩
 have hok0 := ok_all0' ⟨k, hk⟩
 have hok1 := ok_all ⟨k, hk⟩
 simp only at hv hbt hwd hi hok0 hok1
 rw [← hop] at C hv hbt hwd hi hok0 hok1
 have hlo : (64768 : Int) ≤ opOf z := by omega
 have hA0 : inI 0 = true := by decide
 have hA1 : inI 1 = true := by decide
 have hA := half_eq ha za
 have hB := half_eq hb zb
 have q0 := getI_64 hb 64 0
 have q1 := getI_64 hb 64 1
 have C13 : ClOk 64781 .shf := cl_all 13 (by decide)
 have C14 : ClOk 64782 .swz := cl_all 14 (by decide)
 obtain ⟨⟨ls, Ks⟩, fs⟩ := C13
 obtain ⟨⟨lz, Kz⟩, fz⟩ := C14
 have Df := is_all m t .shf rfl 64781 ls 0 (getI b 64 0) (getI b 64 1) hA0 fs Ks
 have Dg := is_all m t .swz rfl 64782 lz 0 0 0 hA0 fz Kz
 rw [show okP .shf 64781 0 (getI b 64 0) (getI b 64 1) = true from by show okS (both64 (getI b 64 0) (getI b 64 1)) = true; rw [hB]; exact hs] at Df
 have ef0 : getI (if okS (both64 (getI b 64 0) (getI b 64 1)) then Mv.shV (both64 (getI a 64 0) (getI a 64 1)) (both64 (getI b 64 0) (getI b 64 1)) (both64 (getI b 64 0) (getI b 64 1)) else fun _ => 0) 64 0 = getI (shfV a b) 64 0 := by rw [hA, hB]; rfl
 have ef1 : getI (if okS (both64 (getI b 64 0) (getI b 64 1)) then Mv.shV (both64 (getI a 64 0) (getI a 64 1)) (both64 (getI b 64 0) (getI b 64 1)) (both64 (getI b 64 0) (getI b 64 1)) else fun _ => 0) 64 1 = getI (shfV a b) 64 1 := by rw [hA, hB]; rfl
 have eg0 : getI (Mv.swzV (both64 (getI a 64 0) (getI a 64 1)) (both64 (getI b 64 0) (getI b 64 1))) 64 0 = getI (Mv.swzV a b) 64 0 := by rw [hA, hB]
 have eg1 : getI (Mv.swzV (both64 (getI a 64 0) (getI a 64 1)) (both64 (getI b 64 0) (getI b 64 1))) 64 1 = getI (Mv.swzV a b) 64 1 := by rw [hA, hB]
 generalize paOf k = p at *
 cases p
 ·exact pa_nn_true m t z a b _ _ _ _ ha hb hv hi (bF hbt) (no2_no (no_un C)) hs Df Dg ef0 ef1 eg0 eg1 w hS
 ·obtain ⟨f, l, s, K, hf⟩ := C
  exact pa_nn_true m t z a b _ _ _ _ ha hb hv hi (bF hbt) (no2_no (no_mem (by omega) K (by omega))) hs Df Dg ef0 ef1 eg0 eg1 w hS
 ·exact pa_nn_true m t z a b _ _ _ _ ha hb hv hi (bF hbt) (by rw [show opOf z = 64780 from C]; exact no2_of (is_co m t 1 0 0) (by decide)) hs Df Dg ef0 ef1 eg0 eg1 w hS
 ·obtain ⟨⟨l, K⟩, hf⟩ := C
  have D0 := is_all m t .aun rfl (opOf z) l 0 0 0 hA0 hf K
  have D1 := is_all m t .aun rfl (opOf z) l 1 0 0 hA1 hf K
  rw [hok0] at D0
  rw [hok1] at D1
  have e0 : getI (Ar.unV (opOf z) (both64 (getI a 64 0) (getI a 64 1))) 64 0 = getI (Ar.unV (opOf z) a) 64 0 := by rw [hA]
  have e1 : getI (Ar.unV (opOf z) (both64 (getI a 64 0) (getI a 64 1))) 64 1 = getI (Ar.unV (opOf z) a) 64 1 := by rw [hA]
  exact pa_un_true m t z a b _ _ _ _ _ _ _ _ ha hb hv hi (bF hbt) D0 D1 e0 e1 hs Df Dg ef0 ef1 eg0 eg1 w hS
 ·obtain ⟨⟨l, K⟩, hf⟩ := C
  have D0 := is_all m t .wun rfl (opOf z) l 0 0 0 hA0 hf K
  have D1 := is_all m t .wun rfl (opOf z) l 1 0 0 hA1 hf K
  rw [hok0] at D0
  rw [hok1] at D1
  have e0 : getI (Wd.unV (opOf z) (both64 (getI a 64 0) (getI a 64 1))) 64 0 = getI (Wd.unV (opOf z) a) 64 0 := by rw [hA]
  have e1 : getI (Wd.unV (opOf z) (both64 (getI a 64 0) (getI a 64 1))) 64 1 = getI (Wd.unV (opOf z) a) 64 1 := by rw [hA]
  exact pa_wu_true m t z a b _ _ _ _ _ _ _ _ ha hb hv hi (bF hbt) D0 D1 e0 e1 hs Df Dg ef0 ef1 eg0 eg1 w hS
 ·obtain ⟨⟨l, K⟩, hf⟩ := C
  have D0 := is_all m t .bits77 rfl (opOf z) l 0 0 0 hA0 hf K
  have D1 := is_all m t .bits77 rfl (opOf z) l 1 0 0 hA1 hf K
  rw [hok0] at D0
  rw [hok1] at D1
  have hc : opOf z = 64845 := of_decide_eq_true hf
  have e0 : getI (bitsV 64845 [both64 (getI a 64 0) (getI a 64 1)]) 64 0 = getI (bitsV (opOf z) [a]) 64 0 := by rw [hA, hc]
  have e1 : getI (bitsV 64845 [both64 (getI a 64 0) (getI a 64 1)]) 64 1 = getI (bitsV (opOf z) [a]) 64 1 := by rw [hA, hc]
  exact pa_b1_true m t z a b _ _ _ _ _ _ _ _ ha hb hv hi (bF3 hbt) D0 D1 e0 e1 hs Df Dg ef0 ef1 eg0 eg1 w hS
 ·obtain ⟨⟨l, K⟩, hf⟩ := C
  have D0 := is_all m t .bits78 rfl (opOf z) l 0 0 0 hA0 hf K
  have D1 := is_all m t .bits78 rfl (opOf z) l 1 0 0 hA1 hf K
  rw [hok0] at D0
  rw [hok1] at D1
  have hc : opOf z = 64846 := of_decide_eq_true hf
  have e0 : getI (bitsV 64846 [both64 (getI a 64 0) (getI a 64 1), both64 (getI b 64 0) (getI b 64 1)]) 64 0 = getI (bitsV (opOf z) [a, b]) 64 0 := by rw [hA, hB, hc]
  have e1 : getI (bitsV 64846 [both64 (getI a 64 0) (getI a 64 1), both64 (getI b 64 0) (getI b 64 1)]) 64 1 = getI (bitsV (opOf z) [a, b]) 64 1 := by rw [hA, hB, hc]
  exact pa_b2_true m t z a b _ _ _ _ _ _ _ _ ha hb hv hi (bF3 hbt) D0 D1 e0 e1 hs Df Dg ef0 ef1 eg0 eg1 w hS
 ·obtain ⟨⟨l, K⟩, hf⟩ := C
  have D0 := is_all m t .bits79 rfl (opOf z) l 0 0 0 hA0 hf K
  have D1 := is_all m t .bits79 rfl (opOf z) l 1 0 0 hA1 hf K
  rw [hok0] at D0
  rw [hok1] at D1
  have hc : opOf z = 64847 := of_decide_eq_true hf
  have e0 : getI (bitsV 64847 [both64 (getI a 64 0) (getI a 64 1), both64 (getI b 64 0) (getI b 64 1)]) 64 0 = getI (bitsV (opOf z) [a, b]) 64 0 := by rw [hA, hB, hc]
  have e1 : getI (bitsV 64847 [both64 (getI a 64 0) (getI a 64 1), both64 (getI b 64 0) (getI b 64 1)]) 64 1 = getI (bitsV (opOf z) [a, b]) 64 1 := by rw [hA, hB, hc]
  exact pa_b2_true m t z a b _ _ _ _ _ _ _ _ ha hb hv hi (bF3 hbt) D0 D1 e0 e1 hs Df Dg ef0 ef1 eg0 eg1 w hS
 ·obtain ⟨⟨l, K⟩, hf⟩ := C
  have D0 := is_all m t .bits80 rfl (opOf z) l 0 0 0 hA0 hf K
  have D1 := is_all m t .bits80 rfl (opOf z) l 1 0 0 hA1 hf K
  rw [hok0] at D0
  rw [hok1] at D1
  have hc : opOf z = 64848 := of_decide_eq_true hf
  have e0 : getI (bitsV 64848 [both64 (getI a 64 0) (getI a 64 1), both64 (getI b 64 0) (getI b 64 1)]) 64 0 = getI (bitsV (opOf z) [a, b]) 64 0 := by rw [hA, hB, hc]
  have e1 : getI (bitsV 64848 [both64 (getI a 64 0) (getI a 64 1), both64 (getI b 64 0) (getI b 64 1)]) 64 1 = getI (bitsV (opOf z) [a, b]) 64 1 := by rw [hA, hB, hc]
  exact pa_b2_true m t z a b _ _ _ _ _ _ _ _ ha hb hv hi (bF3 hbt) D0 D1 e0 e1 hs Df Dg ef0 ef1 eg0 eg1 w hS
 ·obtain ⟨⟨l, K⟩, hf⟩ := C
  have D0 := is_all m t .bits81 rfl (opOf z) l 0 0 0 hA0 hf K
  have D1 := is_all m t .bits81 rfl (opOf z) l 1 0 0 hA1 hf K
  rw [hok0] at D0
  rw [hok1] at D1
  have hc : opOf z = 64849 := of_decide_eq_true hf
  have e0 : getI (bitsV 64849 [both64 (getI a 64 0) (getI a 64 1), both64 (getI b 64 0) (getI b 64 1)]) 64 0 = getI (bitsV (opOf z) [a, b]) 64 0 := by rw [hA, hB, hc]
  have e1 : getI (bitsV 64849 [both64 (getI a 64 0) (getI a 64 1), both64 (getI b 64 0) (getI b 64 1)]) 64 1 = getI (bitsV (opOf z) [a, b]) 64 1 := by rw [hA, hB, hc]
  exact pa_b2_true m t z a b _ _ _ _ _ _ _ _ ha hb hv hi (bF3 hbt) D0 D1 e0 e1 hs Df Dg ef0 ef1 eg0 eg1 w hS
 ·obtain ⟨⟨l, K⟩, hf⟩ := C
  have D0 := is_all m t .bits82 rfl (opOf z) l 0 0 0 hA0 hf K
  have D1 := is_all m t .bits82 rfl (opOf z) l 1 0 0 hA1 hf K
  rw [hok0] at D0
  rw [hok1] at D1
  exact pa_nn_true m t z a b _ _ _ _ ha hb hv hi (bF hbt) (no2_of D1 (by decide)) hs Df Dg ef0 ef1 eg0 eg1 w hS
 ·obtain ⟨⟨l, K⟩, hf⟩ := C
  have D0 := is_all m t .test rfl (opOf z) l 0 0 0 hA0 hf K
  have D1 := is_all m t .test rfl (opOf z) l 1 0 0 hA1 hf K
  rw [hok0] at D0
  rw [hok1] at D1
  have e0 : getI (one64 (IntKind.u64.wrap (Cp.tsV (opOf z) (both64 (getI a 64 0) (getI a 64 1))))) 32 0 = IntKind.u64.wrap (Cp.tsV (opOf z) a) := by rw [hA, ts_wrap, one_get32 _ (ts_bd _ _)]
  exact pa_ts_true m t z a b _ _ _ _ _ ha hb hv hi (bF hbt) D1 e0 hs Df Dg ef0 ef1 eg0 eg1 w hS
 ·obtain ⟨⟨l, K⟩, hf⟩ := C
  have D0 := is_all m t .exi rfl (opOf z) l 0 0 0 hA0 hf K
  have D1 := is_all m t .exi rfl (opOf z) l 1 0 0 hA1 hf K
  rw [hok0] at D0
  rw [hok1] at D1
  have e0 : getI (one64 (Mv.exV (opOf z) 1 (both64 (getI a 64 0) (getI a 64 1)))) 32 0 = Mv.exV (opOf z) 1 a := by rw [hA, one_get32 _ (ex_bd ha _ (or3 hwd))]
  exact pa_ex_true m t z a b _ _ _ _ _ ha hb hv hi (bF hbt) D1 e0 hs Df Dg ef0 ef1 eg0 eg1 w hS
 ·obtain ⟨⟨l, K⟩, hf⟩ := C
  have D0 := is_all m t .exl rfl (opOf z) l 0 0 0 hA0 hf K
  have D1 := is_all m t .exl rfl (opOf z) l 1 0 0 hA1 hf K
  rw [hok0] at D0
  rw [hok1] at D1
  have hc : opOf z = 64797 := of_decide_eq_true hf
  have e0 : getI (one64 (Mv.exV 64797 1 (both64 (getI a 64 0) (getI a 64 1)))) 64 0 = Mv.exV (opOf z) 1 a := by rw [hA, one_get64 _ (ex_bd64 ha _), hc]
  exact pa_ex_true m t z a b _ _ _ _ _ ha hb hv hi (bF hbt) D1 e0 hs Df Dg ef0 ef1 eg0 eg1 w hS
 ·obtain ⟨⟨l, K⟩, hf⟩ := C
  have D0 := is_all m t .rei rfl (opOf z) l 0 0 0 hA0 hf K
  have D1 := is_all m t .rei rfl (opOf z) l 1 0 0 hA1 hf K
  rw [hok0] at D0
  rw [hok1] at D1
  have e0 : getI (Mv.reV (opOf z) 1 (getI (low32 (getI b 64 0 % 4294967296)) 64 0) (both64 (getI a 64 0) (getI a 64 1))) 64 0 = getI (Mv.reV (opOf z) 1 (getI b 64 0) a) 64 0 := by rw [hA, low_get64 _ (by omega), re_low _ _ _ (or3 hwd)]
  have e1 : getI (Mv.reV (opOf z) 1 (getI (low32 (getI b 64 0 % 4294967296)) 64 0) (both64 (getI a 64 0) (getI a 64 1))) 64 1 = getI (Mv.reV (opOf z) 1 (getI b 64 0) a) 64 1 := by rw [hA, low_get64 _ (by omega), re_low _ _ _ (or3 hwd)]
  exact pa_re_true m t z a b _ _ _ _ _ _ ha hb hv hi (bF hbt) D1 e0 e1 hs Df Dg ef0 ef1 eg0 eg1 w hS
 ·obtain ⟨⟨l, K⟩, hf⟩ := C
  have D0 := is_all m t .rel rfl (opOf z) l 0 0 0 hA0 hf K
  have D1 := is_all m t .rel rfl (opOf z) l 1 0 0 hA1 hf K
  rw [hok0] at D0
  rw [hok1] at D1
  have hc : opOf z = 64798 := of_decide_eq_true hf
  have e0 : getI (Mv.reV 64798 1 (getI (one64 (getI b 64 0)) 64 0) (both64 (getI a 64 0) (getI a 64 1))) 64 0 = getI (Mv.reV (opOf z) 1 (getI b 64 0) a) 64 0 := by rw [hA, one_get64 _ q0, hc]
  have e1 : getI (Mv.reV 64798 1 (getI (one64 (getI b 64 0)) 64 0) (both64 (getI a 64 0) (getI a 64 1))) 64 1 = getI (Mv.reV (opOf z) 1 (getI b 64 0) a) 64 1 := by rw [hA, one_get64 _ q0, hc]
  exact pa_re_true m t z a b _ _ _ _ _ _ ha hb hv hi (bF hbt) D1 e0 e1 hs Df Dg ef0 ef1 eg0 eg1 w hS
 ·obtain ⟨⟨l, K⟩, hf⟩ := C
  have D0 := is_all m t .shift rfl (opOf z) l 0 0 0 hA0 hf K
  have D1 := is_all m t .shift rfl (opOf z) l 1 0 0 hA1 hf K
  rw [hok0] at D0
  rw [hok1] at D1
  have e0 : getI (Ar.shV (opOf z) (both64 (getI a 64 0) (getI a 64 1)) (IntKind.u32.wrap (getI (low32 (getI b 64 0 % 4294967296)) 64 0))) 64 0 = getI (Ar.shV (opOf z) a (IntKind.u32.wrap (getI b 64 0))) 64 0 := by rw [hA, low_get64 _ (by omega), show IntKind.u32.wrap (getI b 64 0 % 4294967296) = IntKind.u32.wrap (getI b 64 0) by rw [IntKind.wrap_u32, IntKind.wrap_u32]; omega]
  have e1 : getI (Ar.shV (opOf z) (both64 (getI a 64 0) (getI a 64 1)) (IntKind.u32.wrap (getI (low32 (getI b 64 0 % 4294967296)) 64 0))) 64 1 = getI (Ar.shV (opOf z) a (IntKind.u32.wrap (getI b 64 0))) 64 1 := by rw [hA, low_get64 _ (by omega), show IntKind.u32.wrap (getI b 64 0 % 4294967296) = IntKind.u32.wrap (getI b 64 0) by rw [IntKind.wrap_u32, IntKind.wrap_u32]; omega]
  exact pa_sh_true m t z a b _ _ _ _ _ _ _ _ ha hb hv hi (bF hbt) D0 D1 e0 e1 hs Df Dg ef0 ef1 eg0 eg1 w hS
 ·obtain ⟨⟨l, K⟩, hf⟩ := C
  have D0 := is_all m t .abin rfl (opOf z) l 0 0 0 hA0 hf K
  have D1 := is_all m t .abin rfl (opOf z) l 1 0 0 hA1 hf K
  rw [hok0] at D0
  rw [hok1] at D1
  have e0 : getI (Ar.biV (opOf z) (both64 (getI a 64 0) (getI a 64 1)) (both64 (getI b 64 0) (getI b 64 1))) 64 0 = getI (Ar.biV (opOf z) a b) 64 0 := by rw [hA, hB]
  have e1 : getI (Ar.biV (opOf z) (both64 (getI a 64 0) (getI a 64 1)) (both64 (getI b 64 0) (getI b 64 1))) 64 1 = getI (Ar.biV (opOf z) a b) 64 1 := by rw [hA, hB]
  exact pa_bi_true m t z a b _ _ _ _ _ _ _ _ ha hb hv hi (bF hbt) D0 D1 e0 e1 hs Df Dg ef0 ef1 eg0 eg1 w hS
 ·obtain ⟨⟨l, K⟩, hf⟩ := C
  have D0 := is_all m t .cmp rfl (opOf z) l 0 0 0 hA0 hf K
  have D1 := is_all m t .cmp rfl (opOf z) l 1 0 0 hA1 hf K
  rw [hok0] at D0
  rw [hok1] at D1
  have e0 : getI (Cp.cpV (opOf z) (both64 (getI a 64 0) (getI a 64 1)) (both64 (getI b 64 0) (getI b 64 1))) 64 0 = getI (Cp.cpV (opOf z) a b) 64 0 := by rw [hA, hB]
  have e1 : getI (Cp.cpV (opOf z) (both64 (getI a 64 0) (getI a 64 1)) (both64 (getI b 64 0) (getI b 64 1))) 64 1 = getI (Cp.cpV (opOf z) a b) 64 1 := by rw [hA, hB]
  exact pa_cm_true m t z a b _ _ _ _ _ _ _ _ ha hb hv hi (bF hbt) D0 D1 e0 e1 hs Df Dg ef0 ef1 eg0 eg1 w hS
 ·obtain ⟨⟨l, K⟩, hf⟩ := C
  have D0 := is_all m t .wbin rfl (opOf z) l 0 0 0 hA0 hf K
  have D1 := is_all m t .wbin rfl (opOf z) l 1 0 0 hA1 hf K
  rw [hok0] at D0
  rw [hok1] at D1
  have e0 : getI (Wd.biV (opOf z) (both64 (getI a 64 0) (getI a 64 1)) (both64 (getI b 64 0) (getI b 64 1))) 64 0 = getI (Wd.biV (opOf z) a b) 64 0 := by rw [hA, hB]
  have e1 : getI (Wd.biV (opOf z) (both64 (getI a 64 0) (getI a 64 1)) (both64 (getI b 64 0) (getI b 64 1))) 64 1 = getI (Wd.biV (opOf z) a b) 64 1 := by rw [hA, hB]
  exact pa_wb_true m t z a b _ _ _ _ _ _ _ _ ha hb hv hi (bF hbt) D0 D1 e0 e1 hs Df Dg ef0 ef1 eg0 eg1 w hS
 ·obtain ⟨⟨l, K⟩, hf⟩ := C
  have D0 := is_all m t .swz rfl (opOf z) l 0 0 0 hA0 hf K
  have D1 := is_all m t .swz rfl (opOf z) l 1 0 0 hA1 hf K
  rw [hok0] at D0
  rw [hok1] at D1
  exact pa_nn_true m t z a b _ _ _ _ ha hb hv hi (bF hbt) (no2_of D1 (by decide)) hs Df Dg ef0 ef1 eg0 eg1 w hS
 ·obtain ⟨⟨l, K⟩, hf⟩ := C
  have D0 := is_all m t .shf rfl (opOf z) l 0 0 0 hA0 hf K
  have D1 := is_all m t .shf rfl (opOf z) l 1 0 0 hA1 hf K
  rw [hok0] at D0
  rw [hok1] at D1
  exact pa_nn_true m t z a b _ _ _ _ ha hb hv hi (bF hbt) (no2_of D1 (by decide)) hs Df Dg ef0 ef1 eg0 eg1 w hS
 ·obtain ⟨⟨l, K⟩, hf⟩ := C
  have D0 := is_all m t .spi rfl (opOf z) l 0 0 0 hA0 hf K
  have D1 := is_all m t .spi rfl (opOf z) l 1 0 0 hA1 hf K
  rw [hok0] at D0
  rw [hok1] at D1
  have e0 : getI (Mv.splV (Mv.spW (opOf z)) (getI (low32 (getI b 64 1 % 4294967296)) 64 0)) 64 0 = getI (Mv.splV (Mv.spW (opOf z)) (getI b 64 1)) 64 0 := by rw [low_get64 _ (by omega), spl_low _ _ (or3 hwd)]
  have e1 : getI (Mv.splV (Mv.spW (opOf z)) (getI (low32 (getI b 64 1 % 4294967296)) 64 0)) 64 1 = getI (Mv.splV (Mv.spW (opOf z)) (getI b 64 1)) 64 1 := by rw [low_get64 _ (by omega), spl_low _ _ (or3 hwd)]
  exact pa_sp_true m t z a b _ _ _ _ _ _ _ _ ha hb hv hi (bF hbt) D0 D1 e0 e1 hs Df Dg ef0 ef1 eg0 eg1 w hS
 ·obtain ⟨⟨l, K⟩, hf⟩ := C
  have D0 := is_all m t .spl rfl (opOf z) l 0 0 0 hA0 hf K
  have D1 := is_all m t .spl rfl (opOf z) l 1 0 0 hA1 hf K
  rw [hok0] at D0
  rw [hok1] at D1
  have hc : opOf z = 64786 := of_decide_eq_true hf
  have e0 : getI (Mv.splV (Mv.spW 64786) (getI (one64 (getI b 64 1)) 64 0)) 64 0 = getI (Mv.splV (Mv.spW (opOf z)) (getI b 64 1)) 64 0 := by rw [one_get64 _ q1, hc]
  have e1 : getI (Mv.splV (Mv.spW 64786) (getI (one64 (getI b 64 1)) 64 0)) 64 1 = getI (Mv.splV (Mv.spW (opOf z)) (getI b 64 1)) 64 1 := by rw [one_get64 _ q1, hc]
  exact pa_sp_true m t z a b _ _ _ _ _ _ _ _ ha hb hv hi (bF hbt) D0 D1 e0 e1 hs Df Dg ef0 ef1 eg0 eg1 w hS
theorem parts_false (m : Int) (t : Gt) (z : Int) (a b : Nat → Int) (ha : Byt a) (hb : Byt b) (za : ∀ j, 16 ≤ j → a j = 0) (zb : ∀ j, 16 ≤ j → b j = 0) (hs : okS b = false) (w : World) (hS : SG w [gRow m t] w) :
  Calls Try.prog 4 #[.int .i64 z, .agg (bs a), .agg (bs b)] w fun e w' => e = .returned (.bool true) ∧ Gr w w' := by
 obtain ⟨k, hk, hop⟩ := opOf_ex z
 have C := cl_all k hk
 obtain ⟨hv, hbt, hwd, hi⟩ := parts_all ⟨k, hk⟩
 have hok0 := ok_all0' ⟨k, hk⟩
 have hok1 := ok_all ⟨k, hk⟩
 simp only at hv hbt hwd hi hok0 hok1
 rw [← hop] at C hv hbt hwd hi hok0 hok1
 have hlo : (64768 : Int) ≤ opOf z := by omega
 have hA0 : inI 0 = true := by decide
 have hA1 : inI 1 = true := by decide
 have hA := half_eq ha za
 have hB := half_eq hb zb
 have q0 := getI_64 hb 64 0
 have q1 := getI_64 hb 64 1
 have C13 : ClOk 64781 .shf := cl_all 13 (by decide)
 have C14 : ClOk 64782 .swz := cl_all 14 (by decide)
 obtain ⟨⟨ls, Ks⟩, fs⟩ := C13
 obtain ⟨⟨lz, Kz⟩, fz⟩ := C14
 have Df := is_all m t .shf rfl 64781 ls 0 (getI b 64 0) (getI b 64 1) hA0 fs Ks
 have Dg := is_all m t .swz rfl 64782 lz 0 0 0 hA0 fz Kz
 rw [show okP .shf 64781 0 (getI b 64 0) (getI b 64 1) = false from by show okS (both64 (getI b 64 0) (getI b 64 1)) = false; rw [hB]; exact hs] at Df
 have ef0 : getI (if okS (both64 (getI b 64 0) (getI b 64 1)) then Mv.shV (both64 (getI a 64 0) (getI a 64 1)) (both64 (getI b 64 0) (getI b 64 1)) (both64 (getI b 64 0) (getI b 64 1)) else fun _ => 0) 64 0 = getI (shfV a b) 64 0 := by rw [hA, hB]; rfl
 have ef1 : getI (if okS (both64 (getI b 64 0) (getI b 64 1)) then Mv.shV (both64 (getI a 64 0) (getI a 64 1)) (both64 (getI b 64 0) (getI b 64 1)) (both64 (getI b 64 0) (getI b 64 1)) else fun _ => 0) 64 1 = getI (shfV a b) 64 1 := by rw [hA, hB]; rfl
 have eg0 : getI (Mv.swzV (both64 (getI a 64 0) (getI a 64 1)) (both64 (getI b 64 0) (getI b 64 1))) 64 0 = getI (Mv.swzV a b) 64 0 := by rw [hA, hB]
 have eg1 : getI (Mv.swzV (both64 (getI a 64 0) (getI a 64 1)) (both64 (getI b 64 0) (getI b 64 1))) 64 1 = getI (Mv.swzV a b) 64 1 := by rw [hA, hB]
 generalize paOf k = p at *
 cases p
 ·exact pa_nn_false m t z a b _ _ _ _ ha hb hv hi (bF hbt) (no2_no (no_un C)) hs Df Dg eg0 eg1 w hS
 ·obtain ⟨f, l, s, K, hf⟩ := C
  exact pa_nn_false m t z a b _ _ _ _ ha hb hv hi (bF hbt) (no2_no (no_mem (by omega) K (by omega))) hs Df Dg eg0 eg1 w hS
 ·exact pa_nn_false m t z a b _ _ _ _ ha hb hv hi (bF hbt) (by rw [show opOf z = 64780 from C]; exact no2_of (is_co m t 1 0 0) (by decide)) hs Df Dg eg0 eg1 w hS
 ·obtain ⟨⟨l, K⟩, hf⟩ := C
  have D0 := is_all m t .aun rfl (opOf z) l 0 0 0 hA0 hf K
  have D1 := is_all m t .aun rfl (opOf z) l 1 0 0 hA1 hf K
  rw [hok0] at D0
  rw [hok1] at D1
  have e0 : getI (Ar.unV (opOf z) (both64 (getI a 64 0) (getI a 64 1))) 64 0 = getI (Ar.unV (opOf z) a) 64 0 := by rw [hA]
  have e1 : getI (Ar.unV (opOf z) (both64 (getI a 64 0) (getI a 64 1))) 64 1 = getI (Ar.unV (opOf z) a) 64 1 := by rw [hA]
  exact pa_un_false m t z a b _ _ _ _ _ _ _ _ ha hb hv hi (bF hbt) D0 D1 e0 e1 hs Df Dg eg0 eg1 w hS
 ·obtain ⟨⟨l, K⟩, hf⟩ := C
  have D0 := is_all m t .wun rfl (opOf z) l 0 0 0 hA0 hf K
  have D1 := is_all m t .wun rfl (opOf z) l 1 0 0 hA1 hf K
  rw [hok0] at D0
  rw [hok1] at D1
  have e0 : getI (Wd.unV (opOf z) (both64 (getI a 64 0) (getI a 64 1))) 64 0 = getI (Wd.unV (opOf z) a) 64 0 := by rw [hA]
  have e1 : getI (Wd.unV (opOf z) (both64 (getI a 64 0) (getI a 64 1))) 64 1 = getI (Wd.unV (opOf z) a) 64 1 := by rw [hA]
  exact pa_wu_false m t z a b _ _ _ _ _ _ _ _ ha hb hv hi (bF hbt) D0 D1 e0 e1 hs Df Dg eg0 eg1 w hS
 ·obtain ⟨⟨l, K⟩, hf⟩ := C
  have D0 := is_all m t .bits77 rfl (opOf z) l 0 0 0 hA0 hf K
  have D1 := is_all m t .bits77 rfl (opOf z) l 1 0 0 hA1 hf K
  rw [hok0] at D0
  rw [hok1] at D1
  have hc : opOf z = 64845 := of_decide_eq_true hf
  have e0 : getI (bitsV 64845 [both64 (getI a 64 0) (getI a 64 1)]) 64 0 = getI (bitsV (opOf z) [a]) 64 0 := by rw [hA, hc]
  have e1 : getI (bitsV 64845 [both64 (getI a 64 0) (getI a 64 1)]) 64 1 = getI (bitsV (opOf z) [a]) 64 1 := by rw [hA, hc]
  exact pa_b1_false m t z a b _ _ _ _ _ _ _ _ ha hb hv hi (bF3 hbt) D0 D1 e0 e1 hs Df Dg eg0 eg1 w hS
 ·obtain ⟨⟨l, K⟩, hf⟩ := C
  have D0 := is_all m t .bits78 rfl (opOf z) l 0 0 0 hA0 hf K
  have D1 := is_all m t .bits78 rfl (opOf z) l 1 0 0 hA1 hf K
  rw [hok0] at D0
  rw [hok1] at D1
  have hc : opOf z = 64846 := of_decide_eq_true hf
  have e0 : getI (bitsV 64846 [both64 (getI a 64 0) (getI a 64 1), both64 (getI b 64 0) (getI b 64 1)]) 64 0 = getI (bitsV (opOf z) [a, b]) 64 0 := by rw [hA, hB, hc]
  have e1 : getI (bitsV 64846 [both64 (getI a 64 0) (getI a 64 1), both64 (getI b 64 0) (getI b 64 1)]) 64 1 = getI (bitsV (opOf z) [a, b]) 64 1 := by rw [hA, hB, hc]
  exact pa_b2_false m t z a b _ _ _ _ _ _ _ _ ha hb hv hi (bF3 hbt) D0 D1 e0 e1 hs Df Dg eg0 eg1 w hS
 ·obtain ⟨⟨l, K⟩, hf⟩ := C
  have D0 := is_all m t .bits79 rfl (opOf z) l 0 0 0 hA0 hf K
  have D1 := is_all m t .bits79 rfl (opOf z) l 1 0 0 hA1 hf K
  rw [hok0] at D0
  rw [hok1] at D1
  have hc : opOf z = 64847 := of_decide_eq_true hf
  have e0 : getI (bitsV 64847 [both64 (getI a 64 0) (getI a 64 1), both64 (getI b 64 0) (getI b 64 1)]) 64 0 = getI (bitsV (opOf z) [a, b]) 64 0 := by rw [hA, hB, hc]
  have e1 : getI (bitsV 64847 [both64 (getI a 64 0) (getI a 64 1), both64 (getI b 64 0) (getI b 64 1)]) 64 1 = getI (bitsV (opOf z) [a, b]) 64 1 := by rw [hA, hB, hc]
  exact pa_b2_false m t z a b _ _ _ _ _ _ _ _ ha hb hv hi (bF3 hbt) D0 D1 e0 e1 hs Df Dg eg0 eg1 w hS
 ·obtain ⟨⟨l, K⟩, hf⟩ := C
  have D0 := is_all m t .bits80 rfl (opOf z) l 0 0 0 hA0 hf K
  have D1 := is_all m t .bits80 rfl (opOf z) l 1 0 0 hA1 hf K
  rw [hok0] at D0
  rw [hok1] at D1
  have hc : opOf z = 64848 := of_decide_eq_true hf
  have e0 : getI (bitsV 64848 [both64 (getI a 64 0) (getI a 64 1), both64 (getI b 64 0) (getI b 64 1)]) 64 0 = getI (bitsV (opOf z) [a, b]) 64 0 := by rw [hA, hB, hc]
  have e1 : getI (bitsV 64848 [both64 (getI a 64 0) (getI a 64 1), both64 (getI b 64 0) (getI b 64 1)]) 64 1 = getI (bitsV (opOf z) [a, b]) 64 1 := by rw [hA, hB, hc]
  exact pa_b2_false m t z a b _ _ _ _ _ _ _ _ ha hb hv hi (bF3 hbt) D0 D1 e0 e1 hs Df Dg eg0 eg1 w hS
 ·obtain ⟨⟨l, K⟩, hf⟩ := C
  have D0 := is_all m t .bits81 rfl (opOf z) l 0 0 0 hA0 hf K
  have D1 := is_all m t .bits81 rfl (opOf z) l 1 0 0 hA1 hf K
  rw [hok0] at D0
  rw [hok1] at D1
  have hc : opOf z = 64849 := of_decide_eq_true hf
  have e0 : getI (bitsV 64849 [both64 (getI a 64 0) (getI a 64 1), both64 (getI b 64 0) (getI b 64 1)]) 64 0 = getI (bitsV (opOf z) [a, b]) 64 0 := by rw [hA, hB, hc]
  have e1 : getI (bitsV 64849 [both64 (getI a 64 0) (getI a 64 1), both64 (getI b 64 0) (getI b 64 1)]) 64 1 = getI (bitsV (opOf z) [a, b]) 64 1 := by rw [hA, hB, hc]
  exact pa_b2_false m t z a b _ _ _ _ _ _ _ _ ha hb hv hi (bF3 hbt) D0 D1 e0 e1 hs Df Dg eg0 eg1 w hS
 ·obtain ⟨⟨l, K⟩, hf⟩ := C
  have D0 := is_all m t .bits82 rfl (opOf z) l 0 0 0 hA0 hf K
  have D1 := is_all m t .bits82 rfl (opOf z) l 1 0 0 hA1 hf K
  rw [hok0] at D0
  rw [hok1] at D1
  exact pa_nn_false m t z a b _ _ _ _ ha hb hv hi (bF hbt) (no2_of D1 (by decide)) hs Df Dg eg0 eg1 w hS
 ·obtain ⟨⟨l, K⟩, hf⟩ := C
  have D0 := is_all m t .test rfl (opOf z) l 0 0 0 hA0 hf K
  have D1 := is_all m t .test rfl (opOf z) l 1 0 0 hA1 hf K
  rw [hok0] at D0
  rw [hok1] at D1
  have e0 : getI (one64 (IntKind.u64.wrap (Cp.tsV (opOf z) (both64 (getI a 64 0) (getI a 64 1))))) 32 0 = IntKind.u64.wrap (Cp.tsV (opOf z) a) := by rw [hA, ts_wrap, one_get32 _ (ts_bd _ _)]
  exact pa_ts_false m t z a b _ _ _ _ _ ha hb hv hi (bF hbt) D1 e0 hs Df Dg eg0 eg1 w hS
 ·obtain ⟨⟨l, K⟩, hf⟩ := C
  have D0 := is_all m t .exi rfl (opOf z) l 0 0 0 hA0 hf K
  have D1 := is_all m t .exi rfl (opOf z) l 1 0 0 hA1 hf K
  rw [hok0] at D0
  rw [hok1] at D1
  have e0 : getI (one64 (Mv.exV (opOf z) 1 (both64 (getI a 64 0) (getI a 64 1)))) 32 0 = Mv.exV (opOf z) 1 a := by rw [hA, one_get32 _ (ex_bd ha _ (or3 hwd))]
  exact pa_ex_false m t z a b _ _ _ _ _ ha hb hv hi (bF hbt) D1 e0 hs Df Dg eg0 eg1 w hS
 ·obtain ⟨⟨l, K⟩, hf⟩ := C
  have D0 := is_all m t .exl rfl (opOf z) l 0 0 0 hA0 hf K
  have D1 := is_all m t .exl rfl (opOf z) l 1 0 0 hA1 hf K
  rw [hok0] at D0
  rw [hok1] at D1
  have hc : opOf z = 64797 := of_decide_eq_true hf
  have e0 : getI (one64 (Mv.exV 64797 1 (both64 (getI a 64 0) (getI a 64 1)))) 64 0 = Mv.exV (opOf z) 1 a := by rw [hA, one_get64 _ (ex_bd64 ha _), hc]
  exact pa_ex_false m t z a b _ _ _ _ _ ha hb hv hi (bF hbt) D1 e0 hs Df Dg eg0 eg1 w hS
 ·obtain ⟨⟨l, K⟩, hf⟩ := C
  have D0 := is_all m t .rei rfl (opOf z) l 0 0 0 hA0 hf K
  have D1 := is_all m t .rei rfl (opOf z) l 1 0 0 hA1 hf K
  rw [hok0] at D0
  rw [hok1] at D1
  have e0 : getI (Mv.reV (opOf z) 1 (getI (low32 (getI b 64 0 % 4294967296)) 64 0) (both64 (getI a 64 0) (getI a 64 1))) 64 0 = getI (Mv.reV (opOf z) 1 (getI b 64 0) a) 64 0 := by rw [hA, low_get64 _ (by omega), re_low _ _ _ (or3 hwd)]
  have e1 : getI (Mv.reV (opOf z) 1 (getI (low32 (getI b 64 0 % 4294967296)) 64 0) (both64 (getI a 64 0) (getI a 64 1))) 64 1 = getI (Mv.reV (opOf z) 1 (getI b 64 0) a) 64 1 := by rw [hA, low_get64 _ (by omega), re_low _ _ _ (or3 hwd)]
  exact pa_re_false m t z a b _ _ _ _ _ _ ha hb hv hi (bF hbt) D1 e0 e1 hs Df Dg eg0 eg1 w hS
 ·obtain ⟨⟨l, K⟩, hf⟩ := C
  have D0 := is_all m t .rel rfl (opOf z) l 0 0 0 hA0 hf K
  have D1 := is_all m t .rel rfl (opOf z) l 1 0 0 hA1 hf K
  rw [hok0] at D0
  rw [hok1] at D1
  have hc : opOf z = 64798 := of_decide_eq_true hf
  have e0 : getI (Mv.reV 64798 1 (getI (one64 (getI b 64 0)) 64 0) (both64 (getI a 64 0) (getI a 64 1))) 64 0 = getI (Mv.reV (opOf z) 1 (getI b 64 0) a) 64 0 := by rw [hA, one_get64 _ q0, hc]
  have e1 : getI (Mv.reV 64798 1 (getI (one64 (getI b 64 0)) 64 0) (both64 (getI a 64 0) (getI a 64 1))) 64 1 = getI (Mv.reV (opOf z) 1 (getI b 64 0) a) 64 1 := by rw [hA, one_get64 _ q0, hc]
  exact pa_re_false m t z a b _ _ _ _ _ _ ha hb hv hi (bF hbt) D1 e0 e1 hs Df Dg eg0 eg1 w hS
 ·obtain ⟨⟨l, K⟩, hf⟩ := C
  have D0 := is_all m t .shift rfl (opOf z) l 0 0 0 hA0 hf K
  have D1 := is_all m t .shift rfl (opOf z) l 1 0 0 hA1 hf K
  rw [hok0] at D0
  rw [hok1] at D1
  have e0 : getI (Ar.shV (opOf z) (both64 (getI a 64 0) (getI a 64 1)) (IntKind.u32.wrap (getI (low32 (getI b 64 0 % 4294967296)) 64 0))) 64 0 = getI (Ar.shV (opOf z) a (IntKind.u32.wrap (getI b 64 0))) 64 0 := by rw [hA, low_get64 _ (by omega), show IntKind.u32.wrap (getI b 64 0 % 4294967296) = IntKind.u32.wrap (getI b 64 0) by rw [IntKind.wrap_u32, IntKind.wrap_u32]; omega]
  have e1 : getI (Ar.shV (opOf z) (both64 (getI a 64 0) (getI a 64 1)) (IntKind.u32.wrap (getI (low32 (getI b 64 0 % 4294967296)) 64 0))) 64 1 = getI (Ar.shV (opOf z) a (IntKind.u32.wrap (getI b 64 0))) 64 1 := by rw [hA, low_get64 _ (by omega), show IntKind.u32.wrap (getI b 64 0 % 4294967296) = IntKind.u32.wrap (getI b 64 0) by rw [IntKind.wrap_u32, IntKind.wrap_u32]; omega]
  exact pa_sh_false m t z a b _ _ _ _ _ _ _ _ ha hb hv hi (bF hbt) D0 D1 e0 e1 hs Df Dg eg0 eg1 w hS
 ·obtain ⟨⟨l, K⟩, hf⟩ := C
  have D0 := is_all m t .abin rfl (opOf z) l 0 0 0 hA0 hf K
  have D1 := is_all m t .abin rfl (opOf z) l 1 0 0 hA1 hf K
  rw [hok0] at D0
  rw [hok1] at D1
  have e0 : getI (Ar.biV (opOf z) (both64 (getI a 64 0) (getI a 64 1)) (both64 (getI b 64 0) (getI b 64 1))) 64 0 = getI (Ar.biV (opOf z) a b) 64 0 := by rw [hA, hB]
  have e1 : getI (Ar.biV (opOf z) (both64 (getI a 64 0) (getI a 64 1)) (both64 (getI b 64 0) (getI b 64 1))) 64 1 = getI (Ar.biV (opOf z) a b) 64 1 := by rw [hA, hB]
  exact pa_bi_false m t z a b _ _ _ _ _ _ _ _ ha hb hv hi (bF hbt) D0 D1 e0 e1 hs Df Dg eg0 eg1 w hS
 ·obtain ⟨⟨l, K⟩, hf⟩ := C
  have D0 := is_all m t .cmp rfl (opOf z) l 0 0 0 hA0 hf K
  have D1 := is_all m t .cmp rfl (opOf z) l 1 0 0 hA1 hf K
  rw [hok0] at D0
  rw [hok1] at D1
  have e0 : getI (Cp.cpV (opOf z) (both64 (getI a 64 0) (getI a 64 1)) (both64 (getI b 64 0) (getI b 64 1))) 64 0 = getI (Cp.cpV (opOf z) a b) 64 0 := by rw [hA, hB]
  have e1 : getI (Cp.cpV (opOf z) (both64 (getI a 64 0) (getI a 64 1)) (both64 (getI b 64 0) (getI b 64 1))) 64 1 = getI (Cp.cpV (opOf z) a b) 64 1 := by rw [hA, hB]
  exact pa_cm_false m t z a b _ _ _ _ _ _ _ _ ha hb hv hi (bF hbt) D0 D1 e0 e1 hs Df Dg eg0 eg1 w hS
 ·obtain ⟨⟨l, K⟩, hf⟩ := C
  have D0 := is_all m t .wbin rfl (opOf z) l 0 0 0 hA0 hf K
  have D1 := is_all m t .wbin rfl (opOf z) l 1 0 0 hA1 hf K
  rw [hok0] at D0
  rw [hok1] at D1
  have e0 : getI (Wd.biV (opOf z) (both64 (getI a 64 0) (getI a 64 1)) (both64 (getI b 64 0) (getI b 64 1))) 64 0 = getI (Wd.biV (opOf z) a b) 64 0 := by rw [hA, hB]
  have e1 : getI (Wd.biV (opOf z) (both64 (getI a 64 0) (getI a 64 1)) (both64 (getI b 64 0) (getI b 64 1))) 64 1 = getI (Wd.biV (opOf z) a b) 64 1 := by rw [hA, hB]
  exact pa_wb_false m t z a b _ _ _ _ _ _ _ _ ha hb hv hi (bF hbt) D0 D1 e0 e1 hs Df Dg eg0 eg1 w hS
 ·obtain ⟨⟨l, K⟩, hf⟩ := C
  have D0 := is_all m t .swz rfl (opOf z) l 0 0 0 hA0 hf K
  have D1 := is_all m t .swz rfl (opOf z) l 1 0 0 hA1 hf K
  rw [hok0] at D0
  rw [hok1] at D1
  exact pa_nn_false m t z a b _ _ _ _ ha hb hv hi (bF hbt) (no2_of D1 (by decide)) hs Df Dg eg0 eg1 w hS
 ·obtain ⟨⟨l, K⟩, hf⟩ := C
  have D0 := is_all m t .shf rfl (opOf z) l 0 0 0 hA0 hf K
  have D1 := is_all m t .shf rfl (opOf z) l 1 0 0 hA1 hf K
  rw [hok0] at D0
  rw [hok1] at D1
  exact pa_nn_false m t z a b _ _ _ _ ha hb hv hi (bF hbt) (no2_of D1 (by decide)) hs Df Dg eg0 eg1 w hS
 ·obtain ⟨⟨l, K⟩, hf⟩ := C
  have D0 := is_all m t .spi rfl (opOf z) l 0 0 0 hA0 hf K
  have D1 := is_all m t .spi rfl (opOf z) l 1 0 0 hA1 hf K
  rw [hok0] at D0
  rw [hok1] at D1
  have e0 : getI (Mv.splV (Mv.spW (opOf z)) (getI (low32 (getI b 64 1 % 4294967296)) 64 0)) 64 0 = getI (Mv.splV (Mv.spW (opOf z)) (getI b 64 1)) 64 0 := by rw [low_get64 _ (by omega), spl_low _ _ (or3 hwd)]
  have e1 : getI (Mv.splV (Mv.spW (opOf z)) (getI (low32 (getI b 64 1 % 4294967296)) 64 0)) 64 1 = getI (Mv.splV (Mv.spW (opOf z)) (getI b 64 1)) 64 1 := by rw [low_get64 _ (by omega), spl_low _ _ (or3 hwd)]
  exact pa_sp_false m t z a b _ _ _ _ _ _ _ _ ha hb hv hi (bF hbt) D0 D1 e0 e1 hs Df Dg eg0 eg1 w hS
 ·obtain ⟨⟨l, K⟩, hf⟩ := C
  have D0 := is_all m t .spl rfl (opOf z) l 0 0 0 hA0 hf K
  have D1 := is_all m t .spl rfl (opOf z) l 1 0 0 hA1 hf K
  rw [hok0] at D0
  rw [hok1] at D1
  have hc : opOf z = 64786 := of_decide_eq_true hf
  have e0 : getI (Mv.splV (Mv.spW 64786) (getI (one64 (getI b 64 1)) 64 0)) 64 0 = getI (Mv.splV (Mv.spW (opOf z)) (getI b 64 1)) 64 0 := by rw [one_get64 _ q1, hc]
  have e1 : getI (Mv.splV (Mv.spW 64786) (getI (one64 (getI b 64 1)) 64 0)) 64 1 = getI (Mv.splV (Mv.spW (opOf z)) (getI b 64 1)) 64 1 := by rw [one_get64 _ q1, hc]
  exact pa_sp_false m t z a b _ _ _ _ _ _ _ _ ha hb hv hi (bF hbt) D0 D1 e0 e1 hs Df Dg eg0 eg1 w hS
theorem parts_any (z : Int) (a b : Nat → Int) (ha : Byt a) (hb : Byt b) (w : World) (hm : Ins.Mx w) : Calls Try.prog 4 #[.int .i64 z, .agg (bs a), .agg (bs b)] w fun e w' => e = .returned (.bool true) ∧ Gr w w' := by
 obtain ⟨m, hm⟩ := hm
 obtain ⟨t, hS⟩ := g_start hm
 rw [bs_norm a, bs_norm b]
 have z0 : ∀ (c : Nat → Int) (j : Nat), 16 ≤ j → norm c j = 0 := fun c j hj => by unfold norm; rw [if_neg (by omega)]
 cases hs : okS (norm b) with
 | true => exact parts_true m t z _ _ (norm_byt ha) (norm_byt hb) (z0 a) (z0 b) hs w hS
 | false => exact parts_false m t z _ _ (norm_byt ha) (norm_byt hb) (z0 a) (z0 b) hs w hS
end Vc
end Go.Proofs.Ytjoalcaooccbiaa
