/-
  HostLimits: for all gives and numbers the law returns true.
-/
import Derived.Test.YtndbgnkobodjkaaHsF
namespace Go.Proofs.Ytndbgnkobodjkaa
open Go.RowKit VecM
namespace Hs
@[irreducible] def zrow (m : Nat) : Array Value := madeCells #[.int .u64 0] m
theorem run_make_nn {P : Program} (t e : TypeId) (i : TypeInfo) (ht : P.underlying t = some (.slice e)) (hi : P.info? e = some i) (hz : i.zero = some (.int .u64 0)) (hs : i.size = 1) (hb : i.bytes = 8) (c : Int) (m : Nat) (hc : c = (m : Int)) (hm : m ≤ 1048576) (wx : World) :
    (Instr.makeSlice t (.int .i64 c) (.int .i64 c)).run P wx = .ok (.slice (some ⟨wx.heap.size, 0, none⟩) m m) (wx.alloc (.cells (zrow m) e)) := by
  subst hc
  have h := run_makeSlice (P := P) wx t e i (.int .u64 0) ht hi hz .i64 .i64 (m : Int) (m : Int) (by omega) (Int.le_refl _) (by rw [hs, Int.toNat_natCast]; omega) (by rw [hb]; omega) (by omega)
  rw [Int.toNat_natCast, hs, Nat.mul_one] at h
  unfold zrow
  exact h
theorem ud_make (w : World) (m : Nat) (hm : m ≤ 1048576) : Ud (w.alloc (.cells (zrow m) 53)) (.slice (some ⟨w.heap.size, 0, none⟩) m m) (List.replicate m 0) := by
  refine .inr ⟨w.heap.size, 0, m, by simp, by simp; omega, by simp, fun j hj => ?_⟩
  rw [List.length_replicate] at hj
  rw [Nat.zero_add, cell_of_row _ _ j _ _ _ (heap_alloc_new _ _)]
  unfold zrow madeCells
  simp [hj, List.getD_eq_getElem?_getD, Nat.mod_one]
theorem ud_one (w : World) (x : Int) : Ud (w.alloc (.cells #[.int .u64 x] 53)) (.slice (some ⟨w.heap.size, 0, none⟩) 1 1) [x] := by
  refine .inr ⟨w.heap.size, 0, 1, by simp, by simp, rfl, fun j hj => ?_⟩
  have hj : j < 1 := by simpa using hj
  obtain rfl : j = 0 := by omega
  exact (cell_of_row _ _ 0 _ _ _ (heap_alloc_new _ _)).trans rfl
theorem waiting_len {w : World} {h : Nat} {M F : Nat → Prop} {s : Ho} (hh : Hst w h M F s) (k : Int) (hk : (s.R.length : Int) = k) : Calls Try.prog 17 #[.pointer (some ⟨h, 0, none⟩)] w fun e w' => e = .returned (.int .i64 k) ∧ w = w' := by
  rw [← hk]; exact waiting_any hh
theorem put127 {x : Int} : putL (fun _ => 127) (takeV (fun _ => 127) fun j => [x].getD j 0) 1 = [x % 4294967296] := by
  have e : takeV (fun _ => 127) (fun j => [x].getD j 0) 0 = setI (fun _ => 0) 32 0 x := by unfold takeV; rw [if_pos rfl]; rfl
  show [] ++ putE 127 (takeV (fun _ => 127) (fun j => [x].getD j 0) 0) = _
  unfold putE
  rw [if_pos rfl, e, get_set _ _ _ _ (by decide)]
  rfl
theorem ok127 (n : Nat) : okT (fun _ => 127) n := fun k _ => by show needI 127 ≠ 0; decide
theorem need127 : needN (fun _ => 127) 1 = 1 := by decide
theorem call127 (R : List Int) (E : List (Int × List Int)) (i x : Int) (hE : E.length < 1024) : callO ⟨R, E, 0⟩ i (exB ⟨#[]⟩ ⟨#[]⟩) (fun _ => 127) (fun j => [x].getD j 0) 1 1 (fun _ => 127) 1 = ([hdI R % 4294967296], 0, ⟨R.tail, E ++ [(i, [x % 4294967296])], 0⟩) := by
  unfold callO
  rw [if_neg (by rintro (h | h); exact h ⟨ok127 _, need127⟩; exact h (ok127 _)), if_neg (by show ¬ 1024 ≤ E.length; omega), put127, if_neg (by rw [empty_ex]; decide)]
  rfl
theorem call127_full (s : Ho) (i x : Int) (ex : Bool) (hE : s.E.length = 1024) : callO s i ex (fun _ => 127) (fun j => [x].getD j 0) 1 1 (fun _ => 127) 1 = ([], 29, s) := by
  unfold callO
  rw [if_neg (by rintro (h | h); exact h ⟨ok127 _, need127⟩; exact h (ok127 _)), if_pos (by omega)]
theorem call127_none (s : Ho) (i : Int) (ex : Bool) (zi : Nat → Int) : callO s i ex (fun _ => 127) zi 1 0 (fun _ => 127) 1 = ([], 1, s) := by
  unfold callO
  rw [if_pos (.inl (fun h => by have := h.2; rw [need127] at this; omega))]
theorem i64_one127 {w : World} {g : Nat} {t : TypeId} {z : Nat × Nat} (h : w.heap[g]? = some (.cells #[.int .i64 127] t z)) : I64s w (.slice (some ⟨g, 0, none⟩) 1 1) 1 fun _ => 127 :=
  i64s_congr (i64_row (l := [127]) h rfl (by decide)) fun j hj => by
    obtain rfl : j = 0 := by omega
    rfl
theorem and32u {x : Int} (h : 0 ≤ x ∧ x < 18446744073709551616) : Go.bits .and .u64 x 4294967295 = x % 4294967296 := by
  obtain ⟨m, rfl⟩ : ∃ m : Nat, x = m := ⟨x.toNat, by omega⟩
  rw [show (4294967295 : Int) = ((4294967295 : Nat) : Int) from rfl, bits_and_u64_nat _ _ (by omega) (by decide), show (4294967295 : Nat) = 2 ^ 32 - 1 from rfl, Nat.and_two_pow_sub_one_eq_mod]
  omega
/-- the events of the first i calls -/
def evX (x : Int) (i : Nat) : List (Int × List Int) := (List.range i).map fun (j : Nat) => ((j : Int), [x % 4294967296])
theorem evX_len (x : Int) (i : Nat) : (evX x i).length = i := by unfold evX; simp
theorem evX_succ (x : Int) (i : Nat) : evX x (i + 1) = evX x i ++ [((i : Int), [x % 4294967296])] := by
  unfold evX
  rw [List.range_succ, List.map_append]; rfl
theorem evX_get (x : Int) {i j : Nat} (h : j < i) : (evX x i)[j]? = some ((j : Int), [x % 4294967296]) := by
  unfold evX
  simp [h]
theorem rep_mod {z : Int} (h : 0 ≤ z ∧ z ≤ 255) : Int.tmod z 3 = ((z.toNat % 3 : Nat) : Int) := by
  rw [Int.tmod_eq_emod_of_nonneg h.1]; omega
set_option maxRecDepth 100000 in
set_option maxHeartbeats 16000000 in
theorem limits_law {w : World} {q x : Int} (hq : 0 ≤ q ∧ q ≤ 255) (hx : 0 ≤ x ∧ x < 18446744073709551616) :
    Calls Try.prog 6 #[.int .u8 q, .int .u64 x] w fun e w' => e = .returned (.bool true) ∧ Gr w w' := by
  have htm := rep_mod hq
  have HX := Lib.hid hx
  obtain ⟨n, hn⟩ : ∃ n : Nat, q.toNat % 3 = n := ⟨_, rfl⟩
  rw [hn] at htm
  have hn2 : n ≤ 2 := by omega
  have hwr : IntKind.i64.wrap ((n : Nat) : Int) = ((n : Nat) : Int) := by rw [IntKind.wrap_i64]; omega
  obtain ⟨m, hm⟩ : ∃ m : Nat, m + n = 4096 := ⟨4096 - n, by omega⟩
  have tm : IntKind.i64.wrap (4096 - (n : Int)) = (m : Int) := by rw [IntKind.wrap_i64]; omega
  have tn1 : IntKind.i64.wrap ((n : Int) + 1) = (n : Int) + 1 := by rw [IntKind.wrap_i64]; omega
  obtain ⟨i0, hi, hz0, hz1, hz2⟩ := info_parts info64
  have HI := Lib.hid hi
  have HZ0 := Lib.hid hz0
  have HZ1 := Lib.hid hz1
  have HZ2 := Lib.hid hz2
  clear hi hz0 hz1 hz2
  have mkA : ∀ wx, (Instr.makeSlice 22 (.int .i64 (m : Int)) (.int .i64 (m : Int))).run Try.prog wx = .ok (.slice (some ⟨wx.heap.size, 0, none⟩) m m) (wx.alloc (.cells (zrow m) 53)) :=
    fun wx => run_make_nn _ 53 i0 Try.underlying22 HI.out HZ0.out HZ1.out HZ2.out _ m rfl (by omega) wx
  have mkB : ∀ wx, (Instr.makeSlice 22 (.int .i64 ((n : Int) + 1)) (.int .i64 ((n : Int) + 1))).run Try.prog wx = .ok (.slice (some ⟨wx.heap.size, 0, none⟩) (n + 1) (n + 1)) (wx.alloc (.cells (zrow (n + 1)) 53)) :=
    fun wx => run_make_nn _ 53 i0 Try.underlying22 HI.out HZ0.out HZ1.out HZ2.out _ (n + 1) (by omega) (by omega) wx
  have mkC : ∀ wx, (Instr.makeSlice 22 (.int .i64 (n : Int)) (.int .i64 (n : Int))).run Try.prog wx = .ok (.slice (some ⟨wx.heap.size, 0, none⟩) n n) (wx.alloc (.cells (zrow n) 53)) :=
    fun wx => run_make_nn _ 53 i0 Try.underlying22 HI.out HZ0.out HZ1.out HZ2.out _ n rfl (by omega) wx
  have HM := Lib.hid hm
  have HN2 := Lib.hid hn2
  clear hx hq hn hm
  go_enter Try.func6, Try.ntmps6
  go_upto_region 3 with (go_at_call 8; refine (awake_any _).mono ?_; rintro e w1 ⟨rfl, hg1⟩; have HG1 := Lib.hid hg1; clear hg1)
  have HNw := Lib.hid (new_any (w := w1) (v := .slice none 0 0) (l := []) (by simp) (.inl ⟨rfl, rfl⟩))
  go_upto_region 5 with (go_at_call 9; refine HNw.out.mono ?_; rintro e w2 ⟨v, rfl, hg2, hn2⟩; obtain ⟨h, M, F0, rfl, hst, hmf⟩ := newH_hst hn2; have HG2 := Lib.hid hg2; have HST2 := Lib.hid hst; have HMF2 := Lib.hid hmf; clear hg2 hn2 hst hmf)
  have HRA := Lib.hid (reply_any (hst_gr HST2.out ((Gr.refl w2).alloc (zrow m) 53)) (ud_make w2 m (by have := HM.out; omega)) (by simp) (by have := HM.out; simp; omega))
  go_upto_region 6 with (first
    | (go_at_call 17; refine HW7.out.mono ?_; rintro e wy ⟨rfl, rfl⟩)
    | (go_at_call 23; refine HRE.out.mono ?_; rintro e wy ⟨rfl, rfl⟩
       have HST7 := Lib.hid (hst_gr HST6.out ((Gr.refl w6).alloc #[.int .u64 x] 53))
       have HG67 := Lib.hid ((Gr.refl w6).alloc #[.int .u64 x] 53)
       generalize w6.alloc (.cells #[.int .u64 x] 53) = w7 at *
       have HW7 := Lib.hid (waiting_len HST7.out 4096 (by have := HM.out; simp; omega)))
    | (go_at_call 23; refine HRD.out.mono ?_; rintro e w6 ⟨F6, rfl, hst6, hf6, hs6⟩; have HST6 := Lib.hid hst6; have HF6 := Lib.hid hf6; have HS6 := Lib.hid hs6; clear hst6 hf6 hs6
       have HRE := Lib.hid (reply_many (hst_gr HST6.out ((Gr.refl w6).alloc #[.int .u64 x] 53)) (ud_one w6 x) (by have := HM.out; simp; omega) (by have := HM.out; simp; omega) (by simp)))
    | (go_at_call 23; refine HRC.out.mono ?_; rintro e w5 ⟨F5, rfl, hst5, hf5, hs5⟩; have HST5 := Lib.hid hst5; have HF5 := Lib.hid hf5; have HS5 := Lib.hid hs5; clear hst5 hf5 hs5
       have HRD := Lib.hid (reply_any (v := .slice none 0 0) (l := []) HST5.out (.inl ⟨rfl, rfl⟩) (by have := HM.out; simp; omega) (by have := HM.out; simp)))
    | (go_at_call 17; refine HW4.out.mono ?_; rintro e wy ⟨rfl, rfl⟩)
    | (go_at_call 23; refine HRB.out.mono ?_; rintro e wy ⟨rfl, rfl⟩
       have HST4 := Lib.hid (hst_gr HST3.out ((Gr.refl w3).alloc (zrow (n + 1)) 53))
       have HG34 := Lib.hid ((Gr.refl w3).alloc (zrow (n + 1)) 53)
       generalize w3.alloc (.cells (zrow (n + 1)) 53) = w4 at *
       have HW4 := Lib.hid (waiting_len HST4.out (m : Int) (by simp))
       have HRC := Lib.hid (reply_any (hst_gr HST4.out ((Gr.refl w4).alloc (zrow n) 53)) (ud_make w4 n (by have := HM.out; omega)) (by have := HM.out; simp; omega) (by have := HM.out; simp; omega)))
    | (go_at_call 23; refine HRA.out.mono ?_; rintro e w3 ⟨F3, rfl, hst3, hf3, hs3⟩; have HST3 := Lib.hid hst3; have HF3 := Lib.hid hf3; have HS3 := Lib.hid hs3; clear hst3 hf3 hs3
       have HRB := Lib.hid (reply_many (hst_gr HST3.out ((Gr.refl w3).alloc (zrow (n + 1)) 53)) (ud_make w3 (n + 1) (by have := HM.out; omega)) (by have := HM.out; simp; omega) (by have := HM.out; simp; omega) (by have := HM.out; simp; omega))))
  have HMh := Lib.hid (hst_h HST7.out).1
  have hM1 : w1.heap.size ≤ h := HMF2.out h (.inl HMh.out)
  have ga := gr_trans HG2.out ((Gr.refl w2).alloc (zrow m) 53)
  have g3 : Gr w1 w3 := Sep.toGr ga HS3.out (fun q hq => by subst hq; exact hM1)
  have g4 := gr_trans g3 HG34.out
  have gb := gr_trans g4 ((Gr.refl w4).alloc (zrow n) 53)
  have g5 : Gr w1 w5 := Sep.toGr gb HS5.out (fun q hq => by subst hq; exact hM1)
  have g6 : Gr w1 w6 := Sep.toGr g5 HS6.out (fun q hq => by subst hq; exact hM1)
  have HG7 := Lib.hid (gr_trans g6 HG67.out)
  have HMF7 := Lib.hid (show ∀ q, M q ∨ F6 q → w1.heap.size ≤ q from fun q hq => by
    rcases hq with hq | hq
    · exact HMF2.out q (.inl hq)
    · rcases HF6.out q hq with hq | hq
      · rcases HF5.out q hq with hq | hq
        · rcases HF3.out q hq with hq | hq
          · exact HMF2.out q (.inr hq)
          · exact Nat.le_trans ga.size hq
        · exact Nat.le_trans gb.size hq
      · exact Nat.le_trans g5.size hq)
  obtain ⟨R7, hR7, hst7⟩ : ∃ R : List Int, R.length = 4096 ∧ Hst w7 h M F6 ⟨R, [], 0⟩ := ⟨_, by have := HM.out; simp; omega, HST7.out⟩
  have HST := Lib.hid hst7
  clear ga g3 g4 gb g5 g6 HS3 HS5 HS6 HF3 HF5 HF6 HST2 HST3 HST4 HST5 HST6 HST7 HRA HRB HRC HRD HRE HW4 HW7 HG34 HG67 hst7 hM1
  have g3 : Gr ((w7.alloc (.cells #[.int .i64 127] 3)).alloc (.cells #[.int .i64 127] 3)) (((w7.alloc (.cells #[.int .i64 127] 3)).alloc (.cells #[.int .i64 127] 3)).alloc (.cells #[.slice (some ⟨w7.heap.size, 0, none⟩) 1 1, .slice (some ⟨w7.heap.size + 1, 0, none⟩) 1 1] 35)) := (Gr.refl _).allocO _
  have HA0 := Lib.hid (gr_block (gr_trans ((Gr.refl (w7.alloc (.cells #[.int .i64 127] 3))).allocO (.cells #[.int .i64 127] 3)) g3) (heap_alloc_new w7 (.cells #[.int .i64 127] 3)))
  have HA1 := Lib.hid (show (((w7.alloc (.cells #[.int .i64 127] 3)).alloc (.cells #[.int .i64 127] 3)).alloc (.cells #[.slice (some ⟨w7.heap.size, 0, none⟩) 1 1, .slice (some ⟨w7.heap.size + 1, 0, none⟩) 1 1] 35)).heap[w7.heap.size + 1]? = some (Obj.cells #[.int .i64 127] 3 (0, 0)) from by have := gr_block g3 (heap_alloc_new (w7.alloc (.cells #[.int .i64 127] 3)) (.cells #[.int .i64 127] 3)); rwa [hsz_alloc] at this)
  have HA2 := Lib.hid (show (((w7.alloc (.cells #[.int .i64 127] 3)).alloc (.cells #[.int .i64 127] 3)).alloc (.cells #[.slice (some ⟨w7.heap.size, 0, none⟩) 1 1, .slice (some ⟨w7.heap.size + 1, 0, none⟩) 1 1] 35)).heap[w7.heap.size + 1 + 1]? = some (Obj.cells #[.slice (some ⟨w7.heap.size, 0, none⟩) 1 1, .slice (some ⟨w7.heap.size + 1, 0, none⟩) 1 1] 35 (0, 0)) from by have := heap_alloc_new ((w7.alloc (.cells #[.int .i64 127] 3)).alloc (.cells #[.int .i64 127] 3)) (.cells #[.slice (some ⟨w7.heap.size, 0, none⟩) 1 1, .slice (some ⟨w7.heap.size + 1, 0, none⟩) 1 1] 35); rwa [hsz_alloc, hsz_alloc] at this)
  have HG8 := Lib.hid (show Gr w7 (((w7.alloc (.cells #[.int .i64 127] 3)).alloc (.cells #[.int .i64 127] 3)).alloc (.cells #[.slice (some ⟨w7.heap.size, 0, none⟩) 1 1, .slice (some ⟨w7.heap.size + 1, 0, none⟩) 1 1] 35)) from (((Gr.refl _).allocO _).allocO _).allocO _)
  have HZ8 := Lib.hid (show (((w7.alloc (.cells #[.int .i64 127] 3)).alloc (.cells #[.int .i64 127] 3)).alloc (.cells #[.slice (some ⟨w7.heap.size, 0, none⟩) 1 1, .slice (some ⟨w7.heap.size + 1, 0, none⟩) 1 1] 35)).heap.size = w7.heap.size + 3 by simp)
  clear g3
  generalize (((w7.alloc (.cells #[.int .i64 127] 3)).alloc (.cells #[.int .i64 127] 3)).alloc (.cells #[.slice (some ⟨w7.heap.size, 0, none⟩) 1 1, .slice (some ⟨w7.heap.size + 1, 0, none⟩) 1 1] 35)) = w8 at *
  have HLt := Lib.hid (show ∀ q, M q → q < w7.heap.size from fun q hq => ((hst_h HST.out).2.1 q hq).1)
  clear tm tn1 mkA mkB mkC htm hwr hn2
  have mk5 : ∀ wx, (Instr.makeSlice 22 (.int .i64 5000) (.int .i64 5000)).run Try.prog wx = .ok (.slice (some ⟨wx.heap.size, 0, none⟩) 5000 5000) (wx.alloc (.cells (zrow 5000) 53)) :=
    fun wx => run_make_nn _ 53 i0 Try.underlying22 HI.out HZ0.out HZ1.out HZ2.out _ 5000 rfl (by omega) wx
  go_loopw [8] (fun i wr => ∃ (k : Nat) (M' F' : Nat → Prop) (R : List Int), k ≤ 1024 ∧ i = .int .i64 k ∧ R.length = 4096 - k ∧ Sep (fun q => M q ∨ w8.heap.size ≤ q) w8 wr ∧ Hst wr h M' F' ⟨R, evX x k, 0⟩ ∧ (∀ q, M' q → M q ∨ w8.heap.size ≤ q) ∧ (∀ q, F' q → F6 q ∨ w8.heap.size ≤ q)) (fun i _ => 1024 - (intOf i).toNat)
  case atStart => exact ⟨0, M, F6, R7, by omega, rfl, by omega, Sep.refl _, hst_gr HST.out HG8.out, fun q hq => .inl hq, fun q hq => .inl hq⟩
  case round =>
    obtain ⟨k, M1, F1, R, hk, rfl, hR, hs, hst, hm, hf⟩ := hrel
    have HSr := Lib.hid hs
    have HST1 := Lib.hid hst
    have HMr := Lib.hid hm
    have HFr := Lib.hid hf
    have HR := Lib.hid hR
    have hout : ∀ g, w7.heap.size ≤ g → g < w7.heap.size + 3 → ¬ (M g ∨ w8.heap.size ≤ g) := fun g h1 h2 hx => by
      rcases hx with hx | hx
      · have := HLt.out g hx; omega
      · have := HZ8.out; omega
    have HB0 := Lib.hid (hs.at_ (hout _ (by omega) (by omega)) HA0.out)
    have HB1 := Lib.hid (hs.at_ (hout _ (by omega) (by omega)) HA1.out)
    have HB2 := Lib.hid (hs.at_ (hout _ (by omega) (by omega)) HA2.out)
    have hM1 : ∀ g, w7.heap.size ≤ g → g < w7.heap.size + 3 → ¬ M1 g := fun g h1 h2 hx => hout g h1 h2 (hm g hx)
    have HM1 := Lib.hid hM1
    have HZr := Lib.hid (show w8.heap.size ≤ wr.heap.size from hs.size)
    have HGa := Lib.hid ((Gr.refl wr).allocO (.cells #[.int .u64 x] 53))
    have HB2a := Lib.hid (gr_block HGa.out HB2.out)
    have HCk := Lib.hid (fun (i : Int) (a b : ByteArray) => call_any (w := wr.alloc (.cells #[.int .u64 x] 53)) (i := i) (z := 0) (a := a) (b := b) (n := 1) (no := 1) (m := 1) (by omega) (by omega) (by show (evX x k).length ≤ 1024; rw [evX_len]; exact hk) (hst_gr hst HGa.out) (i64_one127 (gr_block HGa.out HB0.out)) (i64_one127 (gr_block HGa.out HB1.out)) (fun q hq => by simp [Value.ownBlock] at hq; subst hq; exact hM1 _ (by omega) (by omega)) (c_of_d (u64_row (l := [x]) (heap_alloc_new wr (.cells #[.int .u64 x] 53)) rfl (by simp))))
    clear hs hst hm hf hR hout hM1
    by_cases hlt : k < 1024
    · have t1 : (k : Int) < 1024 := by omega
      have HCl := HCk.out (k : Int) ⟨#[]⟩ ⟨#[]⟩
      rw [call127 R (evX x k) (k : Int) x (by rw [evX_len]; exact hlt)] at HCl
      have HCl := Lib.hid HCl
      go_wp2_with (first | (refine wpList_load_row rfl 35 _ rfl (w7.heap.size + 1 + 1) rfl 35 _ (0, 0) _ HB2.out Try.underlying35 rfl infoSg ?_) | (go_at_call 21; refine HCl.out.mono ?_; rintro e w9 ⟨sva, M2, F2, rfl, hst, hm, hf, hsp, ho, hib⟩; obtain ⟨x8, c8, rfl⟩ := own_slice ho; have HST8 := Lib.hid hst; have HMm8 := Lib.hid hm; have HFf8 := Lib.hid hf; have HSP8 := Lib.hid hsp; clear hst hm hf hsp ho hib))
      have hz : w8.heap.size ≤ (wr.alloc (.cells #[.int .u64 x] 53)).heap.size := Nat.le_trans HZr.out HGa.out.size
      refine ⟨⟨k + 1, M2, F2, R.tail, by omega, by go_num, by rw [List.length_tail, HR.out]; omega, ?_, ?_, ?_, ?_⟩, by simp [intOf]; omega⟩
      · exact Sep.trans HSr.out (Sep.trans (Sep.of_gr HGa.out) (HSP8.out.mono fun q hq => HMr.out q hq))
      · rw [evX_succ]; exact HST8.out
      · exact fun q hq => (HMm8.out q hq).elim (fun h => HMr.out q h) fun h => .inr (Nat.le_trans hz h)
      · exact fun q hq => (HFf8.out q hq).elim (fun h => HFr.out q h) fun h => .inr (Nat.le_trans hz h)
    · have hke : k = 1024 := by omega
      subst hke
      have HCx := HCk.out 5 ⟨#[104, 111, 115, 116]⟩ ⟨#[101, 120, 105, 116]⟩
      rw [call127_full _ _ _ _ (by show (evX x 1024).length = 1024; rw [evX_len])] at HCx
      have HCx := Lib.hid HCx
      clear HCk hlt hk
      have HGs := Lib.hid (show Gr w1 wr from Sep.toGr (gr_trans HG7.out HG8.out) HSr.out (fun q hq => hq.elim (fun h => HMF7.out q (.inl h)) fun h => Nat.le_trans (gr_trans HG7.out HG8.out).size h))
      go_upto_region 15 with (first | (refine wpList_load_row rfl 35 _ rfl (w7.heap.size + 1 + 1) rfl 35 _ (0, 0) _ HB2a.out Try.underlying35 rfl infoSg ?_) | (refine wpList_load_row rfl 35 _ rfl (w7.heap.size + 1 + 1) rfl 35 _ (0, 0) _ HB2.out Try.underlying35 rfl infoSg ?_) | (go_at_call 21; refine HCx.out.mono ?_; rintro e w9 ⟨sva, M2, F2, rfl, hst, hm, hf, hsp, ho, hib⟩; obtain ⟨x8, c8, rfl⟩ := own_slice ho; have HST9 := Lib.hid hst; have HM9 := Lib.hid hm; have HF9 := Lib.hid hf; have HSP9 := Lib.hid hsp; clear hst hm hf hsp ho hib))
      have HC0 := Lib.hid (HSP9.out.at_ (HM1.out _ (by omega) (by omega)) (gr_block HGa.out HB0.out))
      have HC1 := Lib.hid (HSP9.out.at_ (HM1.out _ (by omega) (by omega)) (gr_block HGa.out HB1.out))
      have HC2 := Lib.hid (HSP9.out.at_ (HM1.out _ (by omega) (by omega)) HB2a.out)
      have HZa := Lib.hid (show w8.heap.size ≤ (wr.alloc (.cells #[.int .u64 x] 53)).heap.size from Nat.le_trans HZr.out HGa.out.size)
      have HCy := call_any (w := w9) (i := 5) (z := 0) (a := ⟨#[]⟩) (b := ⟨#[]⟩) (n := 1) (no := 1) (m := 0) (zi := fun _ => 0) (hv := .slice none 0 0) (by omega) (by omega) (by show (evX x 1024).length ≤ 1024; rw [evX_len]; omega) HST9.out (i64_one127 HC0.out) (i64_one127 HC1.out) (fun q hq => by
        simp [Value.ownBlock] at hq
        subst hq
        intro h2
        rcases HM9.out _ h2 with h3 | h3
        · exact HM1.out _ (by omega) (by omega) h3
        · have := HZa.out; have := HZ8.out; omega) (.inl ⟨rfl, _, _, rfl⟩)
      rw [call127_none] at HCy
      have HCy := Lib.hid HCy
      have HG9 := Lib.hid (show Gr w1 w9 from Sep.toGr (gr_trans HGs.out HGa.out) HSP9.out (fun q hq => (HMr.out q hq).elim (fun h => HMF7.out q (.inl h)) fun h => Nat.le_trans (gr_trans HG7.out HG8.out).size h))
      have HMw9 := Lib.hid (show ∀ q, M2 q → w1.heap.size ≤ q from fun q hq => (HM9.out q hq).elim (fun hq => (HMr.out q hq).elim (fun h => HMF7.out q (.inl h)) fun h => Nat.le_trans (gr_trans HG7.out HG8.out).size h) fun h => Nat.le_trans (gr_trans HGs.out HGa.out).size h)
      clear HCx HSP9 HM9 HF9 HSr HST1 HMr HFr HB0 HB1 HB2 HB2a HM1 HC0 HC1
      go_upto_region 16 with (first | (refine wpList_load_row rfl 35 _ rfl (w7.heap.size + 1 + 1) rfl 35 _ (0, 0) _ HC2.out Try.underlying35 rfl infoSg ?_) | (go_at_call 21; refine HCy.out.mono ?_; rintro e w10 ⟨svb, M3, F3, rfl, hst, hm, hf, hsp, ho, hib⟩; obtain ⟨x9, c9, rfl⟩ := own_slice ho; have HST10 := Lib.hid hst; have HSP10 := Lib.hid hsp; clear hst hm hf hsp ho hib))
      have HG10 := Lib.hid (show Gr w1 w10 from Sep.toGr HG9.out HSP10.out HMw9.out)
      have HLg := Lib.hid (log_any (by show (evX x 1024).length ≤ 1024; rw [evX_len]; omega) (fun p hp => by
        unfold evX at hp
        obtain ⟨y, _, rfl⟩ := List.mem_map.1 hp
        show 1 ≤ _
        decide) HST10.out)
      clear HSP10 HCy HG9 HMw9 HC2 HST9
      go_upto_region 17 with (go_at_call 15; refine HLg.out.mono ?_; rintro e w11 ⟨s6, L6, rfl, hg6, ho6, hv6⟩; have hl6 : L6.length = 1024 := hv6.1.trans (evX_len x 1024); rw [hl6] at ho6; obtain ⟨g20, c20, rfl, _, _⟩ := own_some ho6 (by omega); have HG11 := Lib.hid hg6; have HO11 := Lib.hid ho6; have HV11 := Lib.hid hv6; have HL11 := Lib.hid hl6; clear hg6 ho6 hv6 hl6)
      obtain ⟨pk, hpk⟩ : ∃ pk, L6[1023]? = some pk := ⟨_, List.getElem?_eq_getElem (by have := HL11.out; omega)⟩
      obtain ⟨hk1, hk2⟩ := HV11.out.2 1023 pk _ hpk (evX_get x (show 1023 < 1024 by omega))
      have hc0 := HO11.out.cellAt (1023 * 2) (by omega)
      have hc1 := HO11.out.cellAt (1023 * 2 + 1) (by omega)
      rw [(evV_get L6 1023 pk hpk).1] at hc0
      rw [(evV_get L6 1023 pk hpk).2] at hc1
      obtain ⟨fk, avk⟩ := pk
      simp only at hk1 hk2 hc0 hc1
      obtain ⟨xa, ca, rfl⟩ := own_slice hk2
      have hc0' : w11.cell? ⟨g20, 2046, none⟩ = some (.int .i64 1023) := by rw [hc0, hk1]; rfl
      have hc1' : w11.cell? ⟨g20, 2047, none⟩ = some (.slice xa 1 ca) := hc1
      have HAv := Lib.hid (show Us w11 (.slice xa 1 ca) [x % 4294967296] from us_of_owns hk2)
      clear hc0 hc1 hk1 hk2 hpk HO11 HV11 HL11 HLg
      have hbits := and32u HX.out
      have HSm := Lib.hid (same_eq (us_gr HAv.out ((Gr.refl w11).alloc #[.int .u64 (Go.bits .and .u64 x 4294967295)] 53)) (us_of_d (ud_one w11 (Go.bits .and .u64 x 4294967295))) (by rw [hbits]))
      clear hbits
      have HRl := Lib.hid (show (R.length : Int) = 3072 from by have := HR.out; omega)
      go_upto_region 18 with (first
        | (go_at_call 22; refine HSm.out.mono ?_; rintro e w13 ⟨rfl, hg13⟩
           have HG13 := Lib.hid (gr_trans HG11.out (gr_trans ((Gr.refl w11).alloc #[.int .u64 (Go.bits .and .u64 x 4294967295)] 53) hg13))
           have HWx := Lib.hid (waiting_len (hst_gr HST10.out HG13.out) 3072 HRl.out)
           have HCo := Lib.hid (code_any (hst_gr HST10.out HG13.out))
           have HNn := Lib.hid (new_any (by simp) (ud_make w13 5000 (by omega)))
           clear hg13)
        | (go_at_call 17; refine HWy.out.mono ?_; rintro e wy ⟨rfl, rfl⟩)
        | (go_at_call 19; refine HCo.out.mono ?_; rintro e wy ⟨rfl, rfl⟩)
        | (go_at_call 17; refine HWx.out.mono ?_; rintro e wy ⟨rfl, rfl⟩)
        | (go_at_call 9; refine HNn.out.mono ?_; rintro e w14 ⟨v, rfl, hg14, hn14⟩; obtain ⟨h9, M9, F9, rfl, hst9, _⟩ := newH_hst hn14; have HG14 := Lib.hid hg14; have HWy := Lib.hid (waiting_len hst9 4096 (by simp)); clear hg14 hn14 hst9))
      go_ret
      exact ⟨rfl, gr_trans HG1.out (gr_trans HG10.out (gr_trans HG13.out (gr_trans ((Gr.refl w13).alloc _ _) HG14.out)))⟩
end Hs
end Go.Proofs.Ytndbgnkobodjkaa
