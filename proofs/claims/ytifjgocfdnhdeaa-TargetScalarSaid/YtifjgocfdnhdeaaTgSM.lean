/-
 Of layer 19: TargetScalar. Condition: the library's MaxLen reads as some number.
-/
import Derived.Test.YtifjgocfdnhdeaaMs9
namespace Go.Proofs.Ytifjgocfdnhdeaa
open Go.RowKit
namespace Tg
open Ins
def oth : List Int := [0, 12, 13, 14, 15, 16, 17, 26, 27, 32, 33, 34, 35, 36, 256, 257]
def wnF (op : Int) (k : Nat) : Bool := decide (0 < arI op) || (op == 66) || (oth.take k).any (· == op)
theorem wnF_step {op o : Int} {k : Nat} (h : oth[k]? = some o) : wnF op (k + 1) = (wnF op k || (o == op)) := by
 unfold wnF
 rw [List.take_add_one, h, List.any_append]
 simp [Bool.or_assoc]
theorem szI_iff (op : Int) : szI op ≠ 0 ↔ (MemP op ∧ op ≠ 63 ∧ op ≠ 64) := by
 unfold szI MemP
 split
 ·omega
 ·split
  ·omega
  ·split
   ·omega
   ·split <;> omega
instance (op : Int) : Decidable (MemP op) := by unfold MemP; infer_instance
theorem scl_want (op : Int) : sclB op = (wnF op 16 || decide (MemP op)) := by
 have h1 := szI_iff op
 have h2 := arI_bd op
 have h3 : ((oth.take 16).any (· == op)) = decide (op = 0 ∨ op = 12 ∨ op = 13 ∨ op = 14 ∨ op = 15 ∨ op = 16 ∨ op = 17 ∨ op = 26 ∨ op = 27 ∨ op = 32 ∨ op = 33 ∨ op = 34 ∨ op = 35 ∨ op = 36 ∨ op = 256 ∨ op = 257) := by
  rw [Bool.eq_iff_iff, List.any_eq_true, decide_eq_true_eq]
  simp only [oth, List.take_succ_cons, List.take_nil, List.mem_cons, List.not_mem_nil, or_false, beq_iff_eq]
  constructor
  ·rintro ⟨x, hx, rfl⟩
   exact hx
  ·intro h
   exact ⟨op, h, rfl⟩
 unfold sclB wnF
 rw [h3, Bool.eq_iff_iff]
 simp only [Bool.or_eq_true, decide_eq_true_eq, bne_iff_ne, beq_iff_eq]
 rw [h1]
 unfold CtlP MemP
 omega
theorem info16 : (Try.prog.info? 23).map (·.size) = some 16 := by kernel_rfl
set_option maxRecDepth 100000 in
set_option maxHeartbeats 8000000 in
theorem scalar_law {op : Int} {w : World} (hm : Mx w) (hop : op ≤ 9223372036854775807) : Calls Try.prog 3 #[.int .i64 op] w fun e w' => e = .returned (.bool true) ∧ Gr w w' := by
 have HM := Lib.hid hm
 have HAR := Lib.hid (fun w => arity_any op hop w)
 have HTS := Lib.hid (fun w => tscalar_any op hop w)
 have HOF := Lib.hid (of_any op hop)
 have HSW := Lib.hid (scl_want op)
 clear hm hop
 go_enter Try.func3, Try.ntmps3
 go_wp2_with fail
 refine (awake_any _).mono ?_
 rintro e w1 ⟨rfl, hg1⟩
 have HG1 := Lib.hid hg1
 clear hg1
 go_upto_region 4 with (first | (refine wpList_build_at rfl 23 _ rfl #[.int .i64 0, .int .i64 12, .int .i64 13, .int .i64 14, .int .i64 15, .int .i64 16, .int .i64 17, .int .i64 26, .int .i64 27, .int .i64 32, .int .i64 33, .int .i64 34, .int .i64 35, .int .i64 36, .int .i64 256, .int .i64 257] (by kernel_rfl) ?_) | (refine wpList_store_row rfl 23 _ _ rfl w1.heap.size #[.int .i64 0, .int .i64 12, .int .i64 13, .int .i64 14, .int .i64 15, .int .i64 16, .int .i64 17, .int .i64 26, .int .i64 27, .int .i64 32, .int .i64 33, .int .i64 34, .int .i64 35, .int .i64 36, .int .i64 256, .int .i64 257] rfl rfl 23 #[.int .i64 0, .int .i64 0, .int .i64 0, .int .i64 0, .int .i64 0, .int .i64 0, .int .i64 0, .int .i64 0, .int .i64 0, .int .i64 0, .int .i64 0, .int .i64 0, .int .i64 0, .int .i64 0, .int .i64 0, .int .i64 0] (heap_alloc_new w1 _) info16 rfl (by kernel_rfl) ?_))
 have hsep := Sep.setRow (ex := fun q => q = w1.heap.size) (w1.alloc (.cells #[.int .i64 0, .int .i64 0, .int .i64 0, .int .i64 0, .int .i64 0, .int .i64 0, .int .i64 0, .int .i64 0, .int .i64 0, .int .i64 0, .int .i64 0, .int .i64 0, .int .i64 0, .int .i64 0, .int .i64 0, .int .i64 0] 23)) rfl #[.int .i64 0, .int .i64 12, .int .i64 13, .int .i64 14, .int .i64 15, .int .i64 16, .int .i64 17, .int .i64 26, .int .i64 27, .int .i64 32, .int .i64 33, .int .i64 34, .int .i64 35, .int .i64 36, .int .i64 256, .int .i64 257]
 have hgr2 := Sep.toGr ((Gr.refl w1).alloc #[.int .i64 0, .int .i64 0, .int .i64 0, .int .i64 0, .int .i64 0, .int .i64 0, .int .i64 0, .int .i64 0, .int .i64 0, .int .i64 0, .int .i64 0, .int .i64 0, .int .i64 0, .int .i64 0, .int .i64 0, .int .i64 0] 23) hsep (fun q hq => by have e' : q = w1.heap.size := hq; omega)
 have hbk := setRow_block (c := #[.int .i64 0, .int .i64 12, .int .i64 13, .int .i64 14, .int .i64 15, .int .i64 16, .int .i64 17, .int .i64 26, .int .i64 27, .int .i64 32, .int .i64 33, .int .i64 34, .int .i64 35, .int .i64 36, .int .i64 256, .int .i64 257]) (heap_alloc_new w1 (.cells #[.int .i64 0, .int .i64 0, .int .i64 0, .int .i64 0, .int .i64 0, .int .i64 0, .int .i64 0, .int .i64 0, .int .i64 0, .int .i64 0, .int .i64 0, .int .i64 0, .int .i64 0, .int .i64 0, .int .i64 0, .int .i64 0] 23))
 have HG2 := Lib.hid (gr_trans HG1.out hgr2)
 have HBK := Lib.hid hbk
 clear hsep hgr2 hbk
 generalize (w1.alloc (.cells #[.int .i64 0, .int .i64 0, .int .i64 0, .int .i64 0, .int .i64 0, .int .i64 0, .int .i64 0, .int .i64 0, .int .i64 0, .int .i64 0, .int .i64 0, .int .i64 0, .int .i64 0, .int .i64 0, .int .i64 0, .int .i64 0] 23)).setRow w1.heap.size #[.int .i64 0, .int .i64 12, .int .i64 13, .int .i64 14, .int .i64 15, .int .i64 16, .int .i64 17, .int .i64 26, .int .i64 27, .int .i64 32, .int .i64 33, .int .i64 34, .int .i64 35, .int .i64 36, .int .i64 256, .int .i64 257] = w2 at *
 generalize hgq : w1.heap.size = gq at *
 obtain ⟨ar, har⟩ : ∃ a, arI op = a := ⟨_, rfl⟩
 have HA := Lib.hid har
 rw [har] at HAR
 clear har
 have HW0 := Lib.hid (show wnF op 0 = (decide (0 < ar) || (op == 66)) by unfold wnF; rw [HA.out]; simp)
 go_wp2_with fail
 refine (HAR.out _).mono ?_
 rintro e w' ⟨rfl, rfl⟩
 by_cases h0 : 0 < ar
 ·have HW0' := Lib.hid (show wnF op 0 = true by rw [HW0.out, decide_eq_true h0]; rfl)
  go_wp2_with fail
  go_loopw [4, 5] (fun wv i wr => ∃ k : Nat, k ≤ 16 ∧ i = .int .i64 k ∧ wv = .bool (wnF op k) ∧ Gr w2 wr) (fun _ i _ => 16 - (intOf i).toNat)
  case atStart => exact ⟨0, by omega, rfl, by rw [HW0'.out]; first | done | rfl | rw [decide_eq_false (by omega)], Gr.refl _⟩
  case round =>
   obtain ⟨k, hk, rfl, rfl, hg⟩ := hrel
   have HG := Lib.hid hg
   clear hg
   by_cases hlt : k < 16
   ·have hki : (k : Int) < 16 := by omega
    have HLT := Lib.hid hlt
    obtain ⟨o, ho⟩ : ∃ o, oth[k]? = some o := ⟨_, List.getElem?_eq_getElem (by show k < 16; exact hlt)⟩
    have hcl : wr.cell? ⟨gq, k, none⟩ = some (.int .i64 o) := by
     rw [cell_of_row _ _ k _ _ _ (gr_block HG.out HBK.out), ← Array.getElem?_toList]
     have e : (#[.int .i64 0, .int .i64 12, .int .i64 13, .int .i64 14, .int .i64 15, .int .i64 16, .int .i64 17, .int .i64 26, .int .i64 27, .int .i64 32, .int .i64 33, .int .i64 34, .int .i64 35, .int .i64 36, .int .i64 256, .int .i64 257] : Array Value).toList = oth.map (Value.int .i64) := rfl
     rw [e, List.getElem?_map, ho]
     rfl
    have HST := Lib.hid (wnF_step (op := op) ho)
    have TI : wrap64 ((k : Int) + 1) = (k : Int) + 1 := by unfold wrap64; omega
    clear ho hlt
    obtain ⟨q, hq⟩ : ∃ q, wnF op k = q := ⟨_, rfl⟩
    rw [hq] at HST ⊢
    clear hq
    cases q with
    | true =>
     go_wp2
     exact ⟨⟨k + 1, HLT.out, by first | rfl | (rw [TI]; rfl), by rw [HST.out]; rfl, HG.out⟩, by first | exact meas_lt HLT.out | (rw [TI]; exact meas_lt HLT.out)⟩
    | false =>
     go_wp2
     exact ⟨⟨k + 1, HLT.out, by first | rfl | (rw [TI]; rfl), by rw [HST.out]; simp, HG.out⟩, by first | exact meas_lt HLT.out | (rw [TI]; exact meas_lt HLT.out)⟩
   ·obtain rfl : k = 16 := by omega
    clear hlt hk
    obtain ⟨q, hq⟩ : ∃ q, wnF op 16 = q := ⟨_, rfl⟩
    have HQ := Lib.hid hq
    rw [hq]
    clear hq
    obtain ⟨w4, rfl⟩ : ∃ x, x = wr := ⟨_, rfl⟩
    rcases HOF.out with ⟨hof, hnm⟩ | ⟨f, l, s, hof, hfit⟩
    ·have HMP := Lib.hid hnm
     have HO := Lib.hid (hof w4)
     clear hnm hof
     go_wp2_with fail
     refine HO.out.mono ?_
     rintro e w5 ⟨rfl, hg5⟩
     have HG5 := Lib.hid hg5
     clear hg5
     unfold inf
     go_upto_region 10 with (refine wpList_store_row rfl 27 _ _ rfl w5.heap.size #[.int .i64 0, .int .i64 0, .bool false, .slice none 0 0, .slice none 0 0] rfl rfl 27 #[.int .i64 0, .int .i64 0, .bool false, .slice none 0 0, .slice none 0 0] (heap_alloc_new w5 _) infoN rfl (by kernel_rfl) ?_)
     have hsep := Sep.setRow (ex := fun q => q = w5.heap.size) (w5.alloc (.cells #[.int .i64 0, .int .i64 0, .bool false, .slice none 0 0, .slice none 0 0] 27)) rfl #[.int .i64 0, .int .i64 0, .bool false, .slice none 0 0, .slice none 0 0]
     have hgr := Sep.toGr ((Gr.refl w5).alloc #[.int .i64 0, .int .i64 0, .bool false, .slice none 0 0, .slice none 0 0] 27) hsep (fun q hq => by have e' : q = w5.heap.size := hq; omega)
     have hbk := setRow_block (c := #[.int .i64 0, .int .i64 0, .bool false, .slice none 0 0, .slice none 0 0]) (heap_alloc_new w5 (.cells #[.int .i64 0, .int .i64 0, .bool false, .slice none 0 0, .slice none 0 0] 27))
     have HGN := Lib.hid hgr
     have HBN := Lib.hid hbk
     clear hsep hgr hbk
     generalize (w5.alloc (.cells #[.int .i64 0, .int .i64 0, .bool false, .slice none 0 0, .slice none 0 0] 27)).setRow w5.heap.size #[.int .i64 0, .int .i64 0, .bool false, .slice none 0 0, .slice none 0 0] = w6 at *
     generalize hgn : w5.heap.size = gn at *
     go_wp2_with fail
     refine (HTS.out _).mono ?_
     rintro e w'' ⟨rfl, rfl⟩
     rw [HSW.out, decide_eq_false HMP.out, Bool.or_false, HQ.out]
     go_wp2
     go_ret
     exact ⟨by simp, gr_trans HG2.out (gr_trans HG.out (gr_trans HG5.out HGN.out))⟩
    ·have HMI := Lib.hid hfit.mem
     have HO := Lib.hid (hof w4 (mx_gr HM.out (gr_trans HG2.out HG.out)))
     clear hfit hof
     go_wp2_with fail
     refine HO.out.mono ?_
     rintro e w5 ⟨vi, vo, rfl, hg5, hi5, ho5⟩
     have HG5 := Lib.hid hg5
     obtain ⟨vx, vc, rfl⟩ := own_slice hi5
     obtain ⟨ux, uc, rfl⟩ := own_slice ho5
     clear hg5 hi5 ho5
     generalize (cutA s).size = vn at *
     generalize (cutB s).size = un at *
     generalize cutP s = pb at *
     unfold inf
     go_upto_region 10 with (refine wpList_store_row rfl 27 _ _ rfl w5.heap.size #[.int .i64 f, .int .i64 l, .bool pb, .slice vx vn vc, .slice ux un uc] rfl rfl 27 #[.int .i64 0, .int .i64 0, .bool false, .slice none 0 0, .slice none 0 0] (heap_alloc_new w5 _) infoN rfl (by kernel_rfl) ?_)
     have hsep := Sep.setRow (ex := fun q => q = w5.heap.size) (w5.alloc (.cells #[.int .i64 0, .int .i64 0, .bool false, .slice none 0 0, .slice none 0 0] 27)) rfl #[.int .i64 f, .int .i64 l, .bool pb, .slice vx vn vc, .slice ux un uc]
     have hgr := Sep.toGr ((Gr.refl w5).alloc #[.int .i64 0, .int .i64 0, .bool false, .slice none 0 0, .slice none 0 0] 27) hsep (fun q hq => by have e' : q = w5.heap.size := hq; omega)
     have hbk := setRow_block (c := #[.int .i64 f, .int .i64 l, .bool pb, .slice vx vn vc, .slice ux un uc]) (heap_alloc_new w5 (.cells #[.int .i64 0, .int .i64 0, .bool false, .slice none 0 0, .slice none 0 0] 27))
     have HGN := Lib.hid hgr
     have HBN := Lib.hid hbk
     clear hsep hgr hbk
     generalize (w5.alloc (.cells #[.int .i64 0, .int .i64 0, .bool false, .slice none 0 0, .slice none 0 0] 27)).setRow w5.heap.size #[.int .i64 f, .int .i64 l, .bool pb, .slice vx vn vc, .slice ux un uc] = w6 at *
     generalize hgn : w5.heap.size = gn at *
     obtain ⟨n0, n1, n2, n3, n4⟩ := cells5 HBN.out
     by_cases c1 : op < 64768
     ·by_cases c2 : f = 7
      ·have HMP := Lib.hid (HMI.out.1 ⟨c1, .inl c2⟩)
       subst c2
       go_wp2_with fail
       refine (HTS.out _).mono ?_
       rintro e w'' ⟨rfl, rfl⟩
       rw [HSW.out, decide_eq_true HMP.out, Bool.or_true]
       go_wp2
       go_ret
       exact ⟨by rfl, gr_trans HG2.out (gr_trans HG.out (gr_trans HG5.out HGN.out))⟩
      ·by_cases c3 : f = 14
       ·have HMP := Lib.hid (HMI.out.1 ⟨c1, .inr c3⟩)
        subst c3
        go_wp2_with fail
        refine (HTS.out _).mono ?_
        rintro e w'' ⟨rfl, rfl⟩
        rw [HSW.out, decide_eq_true HMP.out, Bool.or_true]
        go_wp2
        go_ret
        exact ⟨by rfl, gr_trans HG2.out (gr_trans HG.out (gr_trans HG5.out HGN.out))⟩
       ·have HMP := Lib.hid (fun h => (HMI.out.2 h).2.elim c2 c3)
        have e2 : (f == 7) = false := by simp [c2]
        have e3 : (f == 14) = false := by simp [c3]
        go_wp2_with fail
        refine (HTS.out _).mono ?_
        rintro e w'' ⟨rfl, rfl⟩
        rw [HSW.out, decide_eq_false HMP.out, Bool.or_false, HQ.out]
        go_wp2
        go_ret
        exact ⟨by simp, gr_trans HG2.out (gr_trans HG.out (gr_trans HG5.out HGN.out))⟩
     ·have HMP := Lib.hid (fun h => c1 (HMI.out.2 h).1)
      go_wp2_with fail
      refine (HTS.out _).mono ?_
      rintro e w'' ⟨rfl, rfl⟩
      rw [HSW.out, decide_eq_false HMP.out, Bool.or_false, HQ.out]
      go_wp2
      go_ret
      exact ⟨by simp, gr_trans HG2.out (gr_trans HG.out (gr_trans HG5.out HGN.out))⟩
 ·by_cases h66 : op = 66
  ·have HW0' := Lib.hid (show wnF op 0 = true by rw [HW0.out, h66]; simp)
   have e66 : (op == 66) = true := by simp [h66]
   clear h66
   go_wp2_with fail
   go_loopw [4, 5] (fun wv i wr => ∃ k : Nat, k ≤ 16 ∧ i = .int .i64 k ∧ wv = .bool (wnF op k) ∧ Gr w2 wr) (fun _ i _ => 16 - (intOf i).toNat)
   case atStart => exact ⟨0, by omega, rfl, by rw [HW0'.out]; first | done | rfl | rw [decide_eq_false (by omega)], Gr.refl _⟩
   case round =>
    obtain ⟨k, hk, rfl, rfl, hg⟩ := hrel
    have HG := Lib.hid hg
    clear hg
    by_cases hlt : k < 16
    ·have hki : (k : Int) < 16 := by omega
     have HLT := Lib.hid hlt
     obtain ⟨o, ho⟩ : ∃ o, oth[k]? = some o := ⟨_, List.getElem?_eq_getElem (by show k < 16; exact hlt)⟩
     have hcl : wr.cell? ⟨gq, k, none⟩ = some (.int .i64 o) := by
      rw [cell_of_row _ _ k _ _ _ (gr_block HG.out HBK.out), ← Array.getElem?_toList]
      have e : (#[.int .i64 0, .int .i64 12, .int .i64 13, .int .i64 14, .int .i64 15, .int .i64 16, .int .i64 17, .int .i64 26, .int .i64 27, .int .i64 32, .int .i64 33, .int .i64 34, .int .i64 35, .int .i64 36, .int .i64 256, .int .i64 257] : Array Value).toList = oth.map (Value.int .i64) := rfl
      rw [e, List.getElem?_map, ho]
      rfl
     have HST := Lib.hid (wnF_step (op := op) ho)
     have TI : wrap64 ((k : Int) + 1) = (k : Int) + 1 := by unfold wrap64; omega
     clear ho hlt
     obtain ⟨q, hq⟩ : ∃ q, wnF op k = q := ⟨_, rfl⟩
     rw [hq] at HST ⊢
     clear hq
     cases q with
     | true =>
      go_wp2
      exact ⟨⟨k + 1, HLT.out, by first | rfl | (rw [TI]; rfl), by rw [HST.out]; rfl, HG.out⟩, by first | exact meas_lt HLT.out | (rw [TI]; exact meas_lt HLT.out)⟩
     | false =>
      go_wp2
      exact ⟨⟨k + 1, HLT.out, by first | rfl | (rw [TI]; rfl), by rw [HST.out]; simp, HG.out⟩, by first | exact meas_lt HLT.out | (rw [TI]; exact meas_lt HLT.out)⟩
    ·obtain rfl : k = 16 := by omega
     clear hlt hk
     obtain ⟨q, hq⟩ : ∃ q, wnF op 16 = q := ⟨_, rfl⟩
     have HQ := Lib.hid hq
     rw [hq]
     clear hq
     obtain ⟨w4, rfl⟩ : ∃ x, x = wr := ⟨_, rfl⟩
     rcases HOF.out with ⟨hof, hnm⟩ | ⟨f, l, s, hof, hfit⟩
     ·have HMP := Lib.hid hnm
      have HO := Lib.hid (hof w4)
      clear hnm hof
      go_wp2_with fail
      refine HO.out.mono ?_
      rintro e w5 ⟨rfl, hg5⟩
      have HG5 := Lib.hid hg5
      clear hg5
      unfold inf
      go_upto_region 10 with (refine wpList_store_row rfl 27 _ _ rfl w5.heap.size #[.int .i64 0, .int .i64 0, .bool false, .slice none 0 0, .slice none 0 0] rfl rfl 27 #[.int .i64 0, .int .i64 0, .bool false, .slice none 0 0, .slice none 0 0] (heap_alloc_new w5 _) infoN rfl (by kernel_rfl) ?_)
      have hsep := Sep.setRow (ex := fun q => q = w5.heap.size) (w5.alloc (.cells #[.int .i64 0, .int .i64 0, .bool false, .slice none 0 0, .slice none 0 0] 27)) rfl #[.int .i64 0, .int .i64 0, .bool false, .slice none 0 0, .slice none 0 0]
      have hgr := Sep.toGr ((Gr.refl w5).alloc #[.int .i64 0, .int .i64 0, .bool false, .slice none 0 0, .slice none 0 0] 27) hsep (fun q hq => by have e' : q = w5.heap.size := hq; omega)
      have hbk := setRow_block (c := #[.int .i64 0, .int .i64 0, .bool false, .slice none 0 0, .slice none 0 0]) (heap_alloc_new w5 (.cells #[.int .i64 0, .int .i64 0, .bool false, .slice none 0 0, .slice none 0 0] 27))
      have HGN := Lib.hid hgr
      have HBN := Lib.hid hbk
      clear hsep hgr hbk
      generalize (w5.alloc (.cells #[.int .i64 0, .int .i64 0, .bool false, .slice none 0 0, .slice none 0 0] 27)).setRow w5.heap.size #[.int .i64 0, .int .i64 0, .bool false, .slice none 0 0, .slice none 0 0] = w6 at *
      generalize hgn : w5.heap.size = gn at *
      go_wp2_with fail
      refine (HTS.out _).mono ?_
      rintro e w'' ⟨rfl, rfl⟩
      rw [HSW.out, decide_eq_false HMP.out, Bool.or_false, HQ.out]
      go_wp2
      go_ret
      exact ⟨by simp, gr_trans HG2.out (gr_trans HG.out (gr_trans HG5.out HGN.out))⟩
     ·have HMI := Lib.hid hfit.mem
      have HO := Lib.hid (hof w4 (mx_gr HM.out (gr_trans HG2.out HG.out)))
      clear hfit hof
      go_wp2_with fail
      refine HO.out.mono ?_
      rintro e w5 ⟨vi, vo, rfl, hg5, hi5, ho5⟩
      have HG5 := Lib.hid hg5
      obtain ⟨vx, vc, rfl⟩ := own_slice hi5
      obtain ⟨ux, uc, rfl⟩ := own_slice ho5
      clear hg5 hi5 ho5
      generalize (cutA s).size = vn at *
      generalize (cutB s).size = un at *
      generalize cutP s = pb at *
      unfold inf
      go_upto_region 10 with (refine wpList_store_row rfl 27 _ _ rfl w5.heap.size #[.int .i64 f, .int .i64 l, .bool pb, .slice vx vn vc, .slice ux un uc] rfl rfl 27 #[.int .i64 0, .int .i64 0, .bool false, .slice none 0 0, .slice none 0 0] (heap_alloc_new w5 _) infoN rfl (by kernel_rfl) ?_)
      have hsep := Sep.setRow (ex := fun q => q = w5.heap.size) (w5.alloc (.cells #[.int .i64 0, .int .i64 0, .bool false, .slice none 0 0, .slice none 0 0] 27)) rfl #[.int .i64 f, .int .i64 l, .bool pb, .slice vx vn vc, .slice ux un uc]
      have hgr := Sep.toGr ((Gr.refl w5).alloc #[.int .i64 0, .int .i64 0, .bool false, .slice none 0 0, .slice none 0 0] 27) hsep (fun q hq => by have e' : q = w5.heap.size := hq; omega)
      have hbk := setRow_block (c := #[.int .i64 f, .int .i64 l, .bool pb, .slice vx vn vc, .slice ux un uc]) (heap_alloc_new w5 (.cells #[.int .i64 0, .int .i64 0, .bool false, .slice none 0 0, .slice none 0 0] 27))
      have HGN := Lib.hid hgr
      have HBN := Lib.hid hbk
      clear hsep hgr hbk
      generalize (w5.alloc (.cells #[.int .i64 0, .int .i64 0, .bool false, .slice none 0 0, .slice none 0 0] 27)).setRow w5.heap.size #[.int .i64 f, .int .i64 l, .bool pb, .slice vx vn vc, .slice ux un uc] = w6 at *
      generalize hgn : w5.heap.size = gn at *
      obtain ⟨n0, n1, n2, n3, n4⟩ := cells5 HBN.out
      by_cases c1 : op < 64768
      ·by_cases c2 : f = 7
       ·have HMP := Lib.hid (HMI.out.1 ⟨c1, .inl c2⟩)
        subst c2
        go_wp2_with fail
        refine (HTS.out _).mono ?_
        rintro e w'' ⟨rfl, rfl⟩
        rw [HSW.out, decide_eq_true HMP.out, Bool.or_true]
        go_wp2
        go_ret
        exact ⟨by rfl, gr_trans HG2.out (gr_trans HG.out (gr_trans HG5.out HGN.out))⟩
       ·by_cases c3 : f = 14
        ·have HMP := Lib.hid (HMI.out.1 ⟨c1, .inr c3⟩)
         subst c3
         go_wp2_with fail
         refine (HTS.out _).mono ?_
         rintro e w'' ⟨rfl, rfl⟩
         rw [HSW.out, decide_eq_true HMP.out, Bool.or_true]
         go_wp2
         go_ret
         exact ⟨by rfl, gr_trans HG2.out (gr_trans HG.out (gr_trans HG5.out HGN.out))⟩
        ·have HMP := Lib.hid (fun h => (HMI.out.2 h).2.elim c2 c3)
         have e2 : (f == 7) = false := by simp [c2]
         have e3 : (f == 14) = false := by simp [c3]
         go_wp2_with fail
         refine (HTS.out _).mono ?_
         rintro e w'' ⟨rfl, rfl⟩
         rw [HSW.out, decide_eq_false HMP.out, Bool.or_false, HQ.out]
         go_wp2
         go_ret
         exact ⟨by simp, gr_trans HG2.out (gr_trans HG.out (gr_trans HG5.out HGN.out))⟩
      ·have HMP := Lib.hid (fun h => c1 (HMI.out.2 h).1)
       go_wp2_with fail
       refine (HTS.out _).mono ?_
       rintro e w'' ⟨rfl, rfl⟩
       rw [HSW.out, decide_eq_false HMP.out, Bool.or_false, HQ.out]
       go_wp2
       go_ret
       exact ⟨by simp, gr_trans HG2.out (gr_trans HG.out (gr_trans HG5.out HGN.out))⟩
  ·have HW0' := Lib.hid (show wnF op 0 = false by rw [HW0.out, decide_eq_false h0]; simp [h66])
   have e66 : (op == 66) = false := by simp [h66]
   clear h66
   go_wp2_with fail
   go_loopw [4, 5] (fun wv i wr => ∃ k : Nat, k ≤ 16 ∧ i = .int .i64 k ∧ wv = .bool (wnF op k) ∧ Gr w2 wr) (fun _ i _ => 16 - (intOf i).toNat)
   case atStart => exact ⟨0, by omega, rfl, by rw [HW0'.out]; first | done | rfl | rw [decide_eq_false (by omega)], Gr.refl _⟩
   case round =>
    obtain ⟨k, hk, rfl, rfl, hg⟩ := hrel
    have HG := Lib.hid hg
    clear hg
    by_cases hlt : k < 16
    ·have hki : (k : Int) < 16 := by omega
     have HLT := Lib.hid hlt
     obtain ⟨o, ho⟩ : ∃ o, oth[k]? = some o := ⟨_, List.getElem?_eq_getElem (by show k < 16; exact hlt)⟩
     have hcl : wr.cell? ⟨gq, k, none⟩ = some (.int .i64 o) := by
      rw [cell_of_row _ _ k _ _ _ (gr_block HG.out HBK.out), ← Array.getElem?_toList]
      have e : (#[.int .i64 0, .int .i64 12, .int .i64 13, .int .i64 14, .int .i64 15, .int .i64 16, .int .i64 17, .int .i64 26, .int .i64 27, .int .i64 32, .int .i64 33, .int .i64 34, .int .i64 35, .int .i64 36, .int .i64 256, .int .i64 257] : Array Value).toList = oth.map (Value.int .i64) := rfl
      rw [e, List.getElem?_map, ho]
      rfl
     have HST := Lib.hid (wnF_step (op := op) ho)
     have TI : wrap64 ((k : Int) + 1) = (k : Int) + 1 := by unfold wrap64; omega
     clear ho hlt
     obtain ⟨q, hq⟩ : ∃ q, wnF op k = q := ⟨_, rfl⟩
     rw [hq] at HST ⊢
     clear hq
     cases q with
     | true =>
      go_wp2
      exact ⟨⟨k + 1, HLT.out, by first | rfl | (rw [TI]; rfl), by rw [HST.out]; rfl, HG.out⟩, by first | exact meas_lt HLT.out | (rw [TI]; exact meas_lt HLT.out)⟩
     | false =>
      go_wp2
      exact ⟨⟨k + 1, HLT.out, by first | rfl | (rw [TI]; rfl), by rw [HST.out]; simp, HG.out⟩, by first | exact meas_lt HLT.out | (rw [TI]; exact meas_lt HLT.out)⟩
    ·obtain rfl : k = 16 := by omega
     clear hlt hk
     obtain ⟨q, hq⟩ : ∃ q, wnF op 16 = q := ⟨_, rfl⟩
     have HQ := Lib.hid hq
     rw [hq]
     clear hq
     obtain ⟨w4, rfl⟩ : ∃ x, x = wr := ⟨_, rfl⟩
     rcases HOF.out with ⟨hof, hnm⟩ | ⟨f, l, s, hof, hfit⟩
     ·have HMP := Lib.hid hnm
      have HO := Lib.hid (hof w4)
      clear hnm hof
      go_wp2_with fail
      refine HO.out.mono ?_
      rintro e w5 ⟨rfl, hg5⟩
      have HG5 := Lib.hid hg5
      clear hg5
      unfold inf
      go_upto_region 10 with (refine wpList_store_row rfl 27 _ _ rfl w5.heap.size #[.int .i64 0, .int .i64 0, .bool false, .slice none 0 0, .slice none 0 0] rfl rfl 27 #[.int .i64 0, .int .i64 0, .bool false, .slice none 0 0, .slice none 0 0] (heap_alloc_new w5 _) infoN rfl (by kernel_rfl) ?_)
      have hsep := Sep.setRow (ex := fun q => q = w5.heap.size) (w5.alloc (.cells #[.int .i64 0, .int .i64 0, .bool false, .slice none 0 0, .slice none 0 0] 27)) rfl #[.int .i64 0, .int .i64 0, .bool false, .slice none 0 0, .slice none 0 0]
      have hgr := Sep.toGr ((Gr.refl w5).alloc #[.int .i64 0, .int .i64 0, .bool false, .slice none 0 0, .slice none 0 0] 27) hsep (fun q hq => by have e' : q = w5.heap.size := hq; omega)
      have hbk := setRow_block (c := #[.int .i64 0, .int .i64 0, .bool false, .slice none 0 0, .slice none 0 0]) (heap_alloc_new w5 (.cells #[.int .i64 0, .int .i64 0, .bool false, .slice none 0 0, .slice none 0 0] 27))
      have HGN := Lib.hid hgr
      have HBN := Lib.hid hbk
      clear hsep hgr hbk
      generalize (w5.alloc (.cells #[.int .i64 0, .int .i64 0, .bool false, .slice none 0 0, .slice none 0 0] 27)).setRow w5.heap.size #[.int .i64 0, .int .i64 0, .bool false, .slice none 0 0, .slice none 0 0] = w6 at *
      generalize hgn : w5.heap.size = gn at *
      go_wp2_with fail
      refine (HTS.out _).mono ?_
      rintro e w'' ⟨rfl, rfl⟩
      rw [HSW.out, decide_eq_false HMP.out, Bool.or_false, HQ.out]
      go_wp2
      go_ret
      exact ⟨by simp, gr_trans HG2.out (gr_trans HG.out (gr_trans HG5.out HGN.out))⟩
     ·have HMI := Lib.hid hfit.mem
      have HO := Lib.hid (hof w4 (mx_gr HM.out (gr_trans HG2.out HG.out)))
      clear hfit hof
      go_wp2_with fail
      refine HO.out.mono ?_
      rintro e w5 ⟨vi, vo, rfl, hg5, hi5, ho5⟩
      have HG5 := Lib.hid hg5
      obtain ⟨vx, vc, rfl⟩ := own_slice hi5
      obtain ⟨ux, uc, rfl⟩ := own_slice ho5
      clear hg5 hi5 ho5
      generalize (cutA s).size = vn at *
      generalize (cutB s).size = un at *
      generalize cutP s = pb at *
      unfold inf
      go_upto_region 10 with (refine wpList_store_row rfl 27 _ _ rfl w5.heap.size #[.int .i64 f, .int .i64 l, .bool pb, .slice vx vn vc, .slice ux un uc] rfl rfl 27 #[.int .i64 0, .int .i64 0, .bool false, .slice none 0 0, .slice none 0 0] (heap_alloc_new w5 _) infoN rfl (by kernel_rfl) ?_)
      have hsep := Sep.setRow (ex := fun q => q = w5.heap.size) (w5.alloc (.cells #[.int .i64 0, .int .i64 0, .bool false, .slice none 0 0, .slice none 0 0] 27)) rfl #[.int .i64 f, .int .i64 l, .bool pb, .slice vx vn vc, .slice ux un uc]
      have hgr := Sep.toGr ((Gr.refl w5).alloc #[.int .i64 0, .int .i64 0, .bool false, .slice none 0 0, .slice none 0 0] 27) hsep (fun q hq => by have e' : q = w5.heap.size := hq; omega)
      have hbk := setRow_block (c := #[.int .i64 f, .int .i64 l, .bool pb, .slice vx vn vc, .slice ux un uc]) (heap_alloc_new w5 (.cells #[.int .i64 0, .int .i64 0, .bool false, .slice none 0 0, .slice none 0 0] 27))
      have HGN := Lib.hid hgr
      have HBN := Lib.hid hbk
      clear hsep hgr hbk
      generalize (w5.alloc (.cells #[.int .i64 0, .int .i64 0, .bool false, .slice none 0 0, .slice none 0 0] 27)).setRow w5.heap.size #[.int .i64 f, .int .i64 l, .bool pb, .slice vx vn vc, .slice ux un uc] = w6 at *
      generalize hgn : w5.heap.size = gn at *
      obtain ⟨n0, n1, n2, n3, n4⟩ := cells5 HBN.out
      by_cases c1 : op < 64768
      ·by_cases c2 : f = 7
       ·have HMP := Lib.hid (HMI.out.1 ⟨c1, .inl c2⟩)
        subst c2
        go_wp2_with fail
        refine (HTS.out _).mono ?_
        rintro e w'' ⟨rfl, rfl⟩
        rw [HSW.out, decide_eq_true HMP.out, Bool.or_true]
        go_wp2
        go_ret
        exact ⟨by rfl, gr_trans HG2.out (gr_trans HG.out (gr_trans HG5.out HGN.out))⟩
       ·by_cases c3 : f = 14
        ·have HMP := Lib.hid (HMI.out.1 ⟨c1, .inr c3⟩)
         subst c3
         go_wp2_with fail
         refine (HTS.out _).mono ?_
         rintro e w'' ⟨rfl, rfl⟩
         rw [HSW.out, decide_eq_true HMP.out, Bool.or_true]
         go_wp2
         go_ret
         exact ⟨by rfl, gr_trans HG2.out (gr_trans HG.out (gr_trans HG5.out HGN.out))⟩
        ·have HMP := Lib.hid (fun h => (HMI.out.2 h).2.elim c2 c3)
         have e2 : (f == 7) = false := by simp [c2]
         have e3 : (f == 14) = false := by simp [c3]
         go_wp2_with fail
         refine (HTS.out _).mono ?_
         rintro e w'' ⟨rfl, rfl⟩
         rw [HSW.out, decide_eq_false HMP.out, Bool.or_false, HQ.out]
         go_wp2
         go_ret
         exact ⟨by simp, gr_trans HG2.out (gr_trans HG.out (gr_trans HG5.out HGN.out))⟩
      ·have HMP := Lib.hid (fun h => c1 (HMI.out.2 h).1)
       go_wp2_with fail
       refine (HTS.out _).mono ?_
       rintro e w'' ⟨rfl, rfl⟩
       rw [HSW.out, decide_eq_false HMP.out, Bool.or_false, HQ.out]
       go_wp2
       go_ret
       exact ⟨by simp, gr_trans HG2.out (gr_trans HG.out (gr_trans HG5.out HGN.out))⟩
end Tg
end Go.Proofs.Ytifjgocfdnhdeaa
